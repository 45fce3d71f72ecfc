/-
  PROVED: over a slice of labels and a slice of strings in memory spec.Project and impl.Project answer alike, as a plain function on lists says, in memory of their own; nothing that was there is changed.
-/
import Derived.Test.YtdmhccheaemkkaaStrT
import Derived.Test.YtdmhccheaemkkaaLabR
import Derived.Test.YtdmhccheaemkkaaApp
import Derived.Lib.SmallJoins
namespace Go.Proofs.Ytdmhccheaemkkaa.Pro
open Go.RowKit
open Go.Proofs.Ytdmhccheaemkkaa.Labs Go.Proofs.Ytdmhccheaemkkaa.LabS Go.Proofs.Ytdmhccheaemkkaa.LabR Go.Proofs.Ytdmhccheaemkkaa.Over Go.Proofs.Ytdmhccheaemkkaa.Blk Go.Proofs.Ytdmhccheaemkkaa.App
open Go.Proofs.Ytdmhccheaemkkaa.StrB (retB drew_more)
open Go.Proofs.Ytdmhccheaemkkaa.LabT (Held held_reads infoL)
set_option linter.unusedVariables false

abbrev RdS := Go.Proofs.Ytdmhccheaemkkaa.StrB.Reads
abbrev nthS := Go.Proofs.Ytdmhccheaemkkaa.StrB.nth
/-- whether s is one of by -/
def hasB (by' : List ByteArray) (s : ByteArray) : Bool := (List.range by'.length).any fun i => decide (nthS by' i = s)
theorem has_yes {l : List ByteArray} {s : ByteArray} {k : Nat} (hk : k < l.length) (h : nthS l k = s) : hasB l s = true := by
  unfold hasB
  rw [List.any_eq_true]
  exact ⟨k, List.mem_range.2 hk, by simpa using h⟩
theorem has_no {l : List ByteArray} {s : ByteArray} (h : ∀ j, j < l.length → nthS l j ≠ s) : hasB l s = false := by
  unfold hasB
  rw [List.any_eq_false]
  exact fun i hi => by simpa using h i (List.mem_range.1 hi)

/-- where s is among them -/
def idxB (l : List ByteArray) (s : ByteArray) (x : Int) : Prop := (x = -1 ∧ hasB l s = false) ∨ (0 ≤ x ∧ hasB l s = true)
/-- those of l whose name is one of by -/
def projB (l : List Lab) (by' : List ByteArray) : List Lab := l.filter fun x => hasB by' x.1
/-- those among the first k -/
def prefB (l : List Lab) (by' : List ByteArray) (k : Nat) : List Lab := projB (l.take k) by'
theorem pref_zero (l : List Lab) (by' : List ByteArray) : prefB l by' 0 = [] := by simp [prefB, projB]
theorem take_up {l : List Lab} {k : Nat} (h : k < l.length) : l.take (k + 1) = l.take k ++ [nth l k] := by
  rw [nth_eq h, List.take_succ_eq_append_getElem h]
theorem pref_yes {l : List Lab} {by' : List ByteArray} {k : Nat} (h : k < l.length) (hh : hasB by' (nth l k).1 = true) : prefB l by' (k + 1) = prefB l by' k ++ [nth l k] := by
  unfold prefB projB
  rw [take_up h, List.filter_append, List.filter_cons, if_pos hh, List.filter_nil]
theorem pref_no {l : List Lab} {by' : List ByteArray} {k : Nat} (h : k < l.length) (hh : hasB by' (nth l k).1 = false) : prefB l by' (k + 1) = prefB l by' k := by
  unfold prefB projB
  rw [take_up h, List.filter_append, List.filter_cons, hh, List.filter_nil]; simp
theorem pref_len (l : List Lab) (by' : List ByteArray) (k : Nat) : (prefB l by' k).length ≤ k :=
  Nat.le_trans (List.length_filter_le _ _) (by simp; omega)
theorem pref_all {l : List Lab} {by' : List ByteArray} {k : Nat} (h : l.length ≤ k) : prefB l by' k = projB l by' := by
  unfold prefB
  rw [List.take_of_length_le h]
theorem proj_len (l : List Lab) (by' : List ByteArray) : (projB l by').length ≤ l.length := List.length_filter_le _ _

/-- the row that is gathered, in a block of the call's own -/
structure Out (w wr : World) (v : Value) (p : List Lab) : Prop where
  own : wr.ownsRow w.heap.size 102 2 v p.length (flat p)
  lies : ∃ g c, v = .slice (some ⟨g, 0, none⟩) p.length c
  low : Below w.heap.size w wr
theorem Out.grow {w wr w' : World} {v : Value} {p : List Lab} (h : Out w wr v p) (hb : Below wr.heap.size wr w') : Out w w' v p :=
  ⟨h.own.kept (bel_grown hb) (by cases hv : v.ownBlock with | none => exact .inl rfl | some k => exact .inr (fun e => by cases e)), h.lies, grow_on h.low hb⟩
theorem flat_app (p q : List Lab) : flat (p ++ q) = flat p ++ flat q := by
  induction p with
  | nil => rfl
  | cons x p ih => rw [List.cons_append, flat, ih]; rfl
/-- a label is put behind -/
theorem Out.add {w W w' : World} {v v' : Value} {p : List Lab} {x : Lab} (h : Out w W v p)
    (hown : w'.ownsRow w.heap.size 102 2 v' (p.length + 1) (flat p ++ flat [x])) (hg : W.grownBy w' v.ownBlock) (hn : v' ≠ .slice none 0 0) : Out w w' v' (p ++ [x]) := by
  have ho : w'.ownsRow w.heap.size 102 2 v' (p ++ [x]).length (flat (p ++ [x])) := by rw [flat_app, List.length_append]; exact hown
  refine ⟨ho, ?_, h.low.grown hg h.low.size (fun k hk => (h.own.lt k hk).1)⟩
  rcases ho.2 with ⟨e, _⟩ | ⟨g, c, cur, e, _⟩
  · exact absurd e hn
  · exact ⟨g, c, e⟩
theorem Out.own' {w w2 : World} {g c n : Nat} {p : List Lab} (h : Out w w2 (.slice (some ⟨g, 0, none⟩) n c) p) : Own w w2 g p := by
  rcases h.own.2 with ⟨e, _⟩ | ⟨g', cap', cur, e, hb, hg, hc, _, hz, ht⟩
  · cases e
  · cases e
    refine ⟨hb, cur, hg, ?_, fun j hj => ?_⟩
    · rw [hz]; omega
    · have h2 := flat_get p j hj
      have hl := flat_len p
      rw [← ht, List.getElem?_take_of_lt (by omega), List.getElem?_take_of_lt (by omega)] at h2
      simpa using h2
theorem retL {M n c : Nat} {p q : List Lab} (h : p = q) (hn : n = p.length) : Ending.returned (.slice (some ⟨M, 0, none⟩) n c) = .returned (.slice (some ⟨M, 0, none⟩) q.length c) := by rw [hn, h]

theorem own_up {w w1 w' : World} {M : Nat} {p : List Lab} (h : Own w1 w' M p) (hs : w.heap.size ≤ w1.heap.size) : Own w w' M p := ⟨Nat.le_trans hs h.1, h.2⟩
theorem own_grow {w w1 w' : World} {M : Nat} {p : List Lab} (h : Own w w1 M p) (hb : Below w1.heap.size w1 w') : Own w w' M p := by
  obtain ⟨h0, cs, hk, hs, hh⟩ := h
  exact ⟨h0, cs, hk.grow hb, hs, hh⟩
theorem own_reads {w w' : World} {M : Nat} {p : List Lab} (h : Own w w' M p) : Reads w' (some ⟨M, 0, none⟩) p := by
  obtain ⟨_, cs, hk, _, hh⟩ := h
  exact held_reads hk hh
end Go.Proofs.Ytdmhccheaemkkaa.Pro
