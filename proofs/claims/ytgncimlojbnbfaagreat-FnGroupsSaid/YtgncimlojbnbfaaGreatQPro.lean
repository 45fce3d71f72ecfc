/-
  PROVED: the contracts of what the exact laws call over slices of strings: the size that szStringS counts, the copy that toStringS makes, that eqStringS finds two of the same alike, the marks that markStringS writes; what a slice of strings that came in is.
  PROVED: over a slice of labels and a slice of strings in memory spec.Project and impl.Project answer alike, as a plain function on lists says, in memory of their own; nothing that was there is changed.
-/
import Derived.Test.YtgncimlojbnbfaaGreatQStrB
import Derived.Test.YtgncimlojbnbfaaGreatQMark
import Derived.SliceStrings
import Derived.OpenShut
import Derived.ProofKit
import Derived.Test.YtgncimlojbnbfaaGreatQLabR
import Derived.Test.YtgncimlojbnbfaaGreatQApp
import Derived.Lib.SmallJoins
set_option linter.unusedVariables false
namespace Go.Proofs.YtgncimlojbnbfaaGreat.StrT
open Go.RowKit
open Go.ChangeShapes Go.WideShapes Go.ChangeAt
open StrB Over Blk
open Go.Proofs.YtgncimlojbnbfaaGreat.Mark (Apart mt retI)

def FitsS (l : List ByteArray) : Prop := ∀ i, i < l.length → (nth l i).size ≤ maxLen
theorem nthS_eq {l : List ByteArray} {i : Nat} (h : i < l.length) : nth l i = l[i] := by unfold nth; simp [h]
theorem Reads.get {w : World} {a : Option Addr} {l : List ByteArray} (h : Reads w a l) {i : Nat} (hi : i < l.length) :
    ∃ b off, a = some ⟨b, off, none⟩ ∧ b < w.heap.size ∧ ∀ i, i < l.length → w.cell? ⟨b, off + i, none⟩ = some (.string (nth l i)) := by
  rcases h with h | h
  · rw [h] at hi; simp at hi
  · exact h

def HeldS (cs : Array Value) (l : List ByteArray) : Prop := ∀ j, j < l.length → cs[j]? = some (.string (nth l j))
theorem heldS_reads {w : World} {M : Nat} {cs : Array Value} {T : TypeId} {l : List ByteArray} (h : Blk w M cs T) (hh : HeldS cs l) : Reads w (some ⟨M, 0, none⟩) l :=
  .inr ⟨M, 0, rfl, h.lt, fun i hi => by rw [h.cell, Nat.zero_add]; exact hh i hi⟩

end Go.Proofs.YtgncimlojbnbfaaGreat.StrT
namespace Go.Proofs.YtgncimlojbnbfaaGreat.Pro
open Go.RowKit
open Labs LabS LabR Over Blk App
open StrB (retB drew_more)
open LabT (Held held_reads infoL)

abbrev RdS := Go.Proofs.YtgncimlojbnbfaaGreat.StrB.Reads
abbrev nthS := Go.Proofs.YtgncimlojbnbfaaGreat.StrB.nth
def hasB (by' : List ByteArray) (s : ByteArray) : Bool := (List.range by'.length).any fun i => decide (nthS by' i = s)
theorem has_yes {l : List ByteArray} {s : ByteArray} {k : Nat} (hk : k < l.length) (h : nthS l k = s) : hasB l s = true := by
  unfold hasB
  rw [List.any_eq_true]
  exact ⟨k, List.mem_range.2 hk, by simpa using h⟩
theorem has_no {l : List ByteArray} {s : ByteArray} (h : ∀ j, j < l.length → nthS l j ≠ s) : hasB l s = false := by
  unfold hasB
  rw [List.any_eq_false]
  exact fun i hi => by simpa using h i (List.mem_range.1 hi)

theorem specHas_any (a : Option Addr) (cap : Nat) (l : List ByteArray) (s : ByteArray) (w : World) (hr : RdS w a l) (hl : l.length ≤ maxLen) :
    Calls Tryz.prog 100 #[.slice a l.length cap, .string s] w fun e w' => e = .returned (.bool (hasB l s)) ∧ Below w.heap.size w w' := by
  unfold maxLen at hl
  have HR : Hid (RdS w a l) := hr
  clear hr
  go_enter Tryz.func100, Tryz.ntmps100
  go_wp2
  go_loop [5] (fun i => ∃ k : Nat, i = .int .i64 k ∧ k ≤ l.length ∧ ∀ j, j < k → nthS l j ≠ s) (fun i => l.length - (intOf i).toNat)
  case atStart => exact ⟨0, rfl, Nat.zero_le _, fun j h => by omega⟩
  case round =>
    obtain ⟨k, rfl, hk, hu⟩ := hrel
    have HU : Hid (∀ j, j < k → nthS l j ≠ s) := hu
    clear hu
    by_cases hlt : k < l.length
    · have hlt' : (k : Int) < (l.length : Int) := by omega
      obtain ⟨b, off, rfl, hb, hc⟩ := StrT.Reads.get HR.out hlt
      have h0 := hc k hlt
      clear hc
      by_cases he : nthS l k = s
      · have HY : Hid (hasB l s = true) := has_yes hlt he
        have hd := beqS_yes he
        clear he
        go_wp2
        go_ret
        exact ⟨retB HY.out.symm, Below.refl _ _⟩
      · have HU1 : Hid (∀ j, j < k + 1 → nthS l j ≠ s) := fun j hj => by
          by_cases e : j = k
          · subst e; exact he
          · exact HU.out j (by omega)
        have hd := beqS_no he
        clear he
        go_wp2
        go_round
        case rel => exact ⟨k + 1, by go_num, by omega, HU1.out⟩
        case measure => simp [intOf]; omega
    · have hge : ¬ (k : Int) < (l.length : Int) := by omega
      have HN : Hid (hasB l s = false) := has_no fun j hj => HU.out j (by omega)
      go_wp2
      go_ret
      exact ⟨retB HN.out.symm, Below.refl _ _⟩

def idxB (l : List ByteArray) (s : ByteArray) (x : Int) : Prop := (x = -1 ∧ hasB l s = false) ∨ (0 ≤ x ∧ hasB l s = true)
theorem index_any (a : Option Addr) (cap : Nat) (l : List ByteArray) (s : ByteArray) (w : World) (hr : RdS w a l) (hl : l.length ≤ maxLen) :
    Calls Tryz.prog 109 #[.slice a l.length cap, .string s] w fun e w' => (∃ x, e = .returned (.int .i64 x) ∧ idxB l s x) ∧ Below w.heap.size w w' := by
  unfold maxLen at hl
  have HR : Hid (RdS w a l) := hr
  clear hr
  go_enter Tryz.func109, Tryz.ntmps109
  go_wp2
  go_loop [8] (fun i => ∃ k : Nat, i = .int .i64 k ∧ k ≤ l.length ∧ ∀ j, j < k → nthS l j ≠ s) (fun i => l.length - (intOf i).toNat)
  case atStart => exact ⟨0, rfl, Nat.zero_le _, fun j h => by omega⟩
  case round =>
    obtain ⟨k, rfl, hk, hu⟩ := hrel
    have HU : Hid (∀ j, j < k → nthS l j ≠ s) := hu
    clear hu
    by_cases hlt : k < l.length
    · have hlt' : (k : Int) < (l.length : Int) := by omega
      obtain ⟨b, off, rfl, hb, hc⟩ := StrT.Reads.get HR.out hlt
      have h0 := hc k hlt
      clear hc
      by_cases he : nthS l k = s
      · have HY : Hid (hasB l s = true) := has_yes hlt he
        have hd := beqS_yes he.symm
        clear he
        go_wp2
        go_ret
        exact ⟨⟨_, rfl, .inr ⟨by omega, HY.out⟩⟩, Below.refl _ _⟩
      · have HU1 : Hid (∀ j, j < k + 1 → nthS l j ≠ s) := fun j hj => by
          by_cases e : j = k
          · subst e; exact he
          · exact HU.out j (by omega)
        have hd := beqS_no (fun e => he e.symm)
        clear he
        go_wp2
        go_round
        case rel => exact ⟨k + 1, by go_num, by omega, HU1.out⟩
        case measure => simp [intOf]; omega
    · have hge : ¬ (k : Int) < (l.length : Int) := by omega
      have HN : Hid (hasB l s = false) := has_no fun j hj => HU.out j (by omega)
      go_wp2
      go_ret
      exact ⟨⟨_, rfl, .inl ⟨rfl, HN.out⟩⟩, Below.refl _ _⟩
theorem contains_any (a : Option Addr) (cap : Nat) (l : List ByteArray) (s : ByteArray) (w : World) (hr : RdS w a l) (hl : l.length ≤ maxLen) :
    Calls Tryz.prog 88 #[.slice a l.length cap, .string s] w fun e w' => e = .returned (.bool (hasB l s)) ∧ Below w.heap.size w w' := by
  have HR : Hid (RdS w a l ∧ l.length ≤ maxLen) := ⟨hr, hl⟩
  clear hr hl
  go_enter Tryz.func88, Tryz.ntmps88
  go_wp2_with fail
  refine (index_any a cap l s _ HR.out.1 HR.out.2).mono ?_
  rintro e w1 ⟨⟨x, rfl, hx⟩, hb⟩
  have HB : Hid (Below w.heap.size w w1) := hb
  clear hb
  rcases hx with ⟨rfl, hx⟩ | ⟨hx0, hx⟩
  · have HN : Hid (hasB l s = false) := hx
    clear hx
    go_wp2
    go_ret
    exact ⟨retB HN.out.symm, HB.out⟩
  · have HN : Hid (hasB l s = true) := hx
    clear hx
    go_wp2
    go_ret
    exact ⟨retB HN.out.symm, HB.out⟩

def projB (l : List Lab) (by' : List ByteArray) : List Lab := l.filter fun x => hasB by' x.1
def prefB (l : List Lab) (by' : List ByteArray) (k : Nat) : List Lab := projB (l.take k) by'
theorem pref_zero (l : List Lab) (by' : List ByteArray) : prefB l by' 0 = [] := by simp [prefB, projB]
theorem take_up {l : List Lab} {k : Nat} (h : k < l.length) : l.take (k + 1) = l.take k ++ [nth l k] := by
  rw [nth_eq h, List.take_succ_eq_append_getElem h]
theorem pref_yes {l : List Lab} {by' : List ByteArray} {k : Nat} (h : k < l.length) (hh : hasB by' (nth l k).1 = true) : prefB l by' (k + 1) = prefB l by' k ++ [nth l k] := by
  unfold prefB projB
  rw [take_up h, List.filter_append, List.filter_cons, if_pos hh, List.filter_nil]
theorem pref_no {l : List Lab} {by' : List ByteArray} {k : Nat} (h : k < l.length) (hh : hasB by' (nth l k).1 = false) : prefB l by' (k + 1) = prefB l by' k := by
  unfold prefB projB
  rw [take_up h, List.filter_append, List.filter_cons, hh, List.filter_nil]; simp
theorem pref_len (l : List Lab) (by' : List ByteArray) (k : Nat) : (prefB l by' k).length ≤ k :=
  Nat.le_trans (List.length_filter_le _ _) (by simp; omega)
theorem pref_all {l : List Lab} {by' : List ByteArray} {k : Nat} (h : l.length ≤ k) : prefB l by' k = projB l by' := by
  unfold prefB
  rw [List.take_of_length_le h]
theorem proj_len (l : List Lab) (by' : List ByteArray) : (projB l by').length ≤ l.length := List.length_filter_le _ _

structure Out (w wr : World) (v : Value) (p : List Lab) : Prop where
  own : wr.ownsRow w.heap.size 99 2 v p.length (flat p)
  lies : ∃ g c, v = .slice (some ⟨g, 0, none⟩) p.length c
  low : Below w.heap.size w wr
theorem Out.grow {w wr w' : World} {v : Value} {p : List Lab} (h : Out w wr v p) (hb : Below wr.heap.size wr w') : Out w w' v p :=
  ⟨h.own.kept (bel_grown hb) (by cases hv : v.ownBlock with | none => exact .inl rfl | some k => exact .inr (fun e => by cases e)), h.lies, grow_on h.low hb⟩
theorem flat_app (p q : List Lab) : flat (p ++ q) = flat p ++ flat q := by
  induction p with
  | nil => rfl
  | cons x p ih => rw [List.cons_append, flat, ih]; rfl
theorem Out.add {w W w' : World} {v v' : Value} {p : List Lab} {x : Lab} (h : Out w W v p)
    (hown : w'.ownsRow w.heap.size 99 2 v' (p.length + 1) (flat p ++ flat [x])) (hg : W.grownBy w' v.ownBlock) (hn : v' ≠ .slice none 0 0) : Out w w' v' (p ++ [x]) := by
  have ho : w'.ownsRow w.heap.size 99 2 v' (p ++ [x]).length (flat (p ++ [x])) := by rw [flat_app, List.length_append]; exact hown
  refine ⟨ho, ?_, h.low.grown hg h.low.size (fun k hk => (h.own.lt k hk).1)⟩
  rcases ho.2 with ⟨e, _⟩ | ⟨g, c, cur, e, _⟩
  · exact absurd e hn
  · exact ⟨g, c, e⟩
theorem Out.own' {w w2 : World} {g c n : Nat} {p : List Lab} (h : Out w w2 (.slice (some ⟨g, 0, none⟩) n c) p) : Own w w2 g p := by
  rcases h.own.2 with ⟨e, _⟩ | ⟨g', cap', cur, e, hb, hg, hc, _, hz, ht⟩
  · cases e
  · cases e
    refine ⟨hb, cur, hg, ?_, fun j hj => ?_⟩
    · rw [hz]; omega
    · have h2 := flat_get p j hj
      have hl := flat_len p
      rw [← ht, List.getElem?_take_of_lt (by omega), List.getElem?_take_of_lt (by omega)] at h2
      simpa using h2
theorem retL {M n c : Nat} {p q : List Lab} (h : p = q) (hn : n = p.length) : Ending.returned (.slice (some ⟨M, 0, none⟩) n c) = .returned (.slice (some ⟨M, 0, none⟩) q.length c) := by rw [hn, h]

set_option maxHeartbeats 800000 in
theorem specPro_any (a a' : Option Addr) (cap cap' : Nat) (l : List Lab) (by' : List ByteArray) (w : World) (hr : Reads w a l) (hr' : RdS w a' by') (hl : l.length ≤ 1048576) (hl' : by'.length ≤ maxLen) :
    Calls Tryz.prog 65 #[.slice a l.length cap, .slice a' by'.length cap'] w fun e w' => (∃ M c, e = .returned (.slice (some ⟨M, 0, none⟩) (projB l by').length c) ∧ Own w w' M (projB l by')) ∧ Below w.heap.size w w' := by
  have HR : Hid (Reads w a l) := hr
  have HS : Hid (RdS w a' by') := hr'
  have HL' : Hid (by'.length ≤ maxLen) := hl'
  clear hr hr' hl'
  obtain ⟨i0, hi, hz0, hz1, hz2⟩ := info_parts infoL
  go_enter Tryz.func65, Tryz.ntmps65
  go_wp2
  go_loopw [5, 6] (fun v i w' => ∃ k : Nat, i = .int .i64 k ∧ k ≤ l.length ∧ Out w w' v (prefB l by' k)) (fun _ i _ => l.length - (intOf i).toNat)
  case atStart => exact ⟨0, rfl, Nat.zero_le _, by rw [pref_zero]; exact World.ownsRow_made w #[] 0 (Nat.le_refl _) (by simp [maxLen]) rfl, ⟨w.heap.size, 0, by rw [pref_zero]; rfl⟩, (Below.refl _ _).alloc (Nat.le_refl _) _⟩
  case round =>
    obtain ⟨k, rfl, hk, ho⟩ := hrel
    obtain ⟨g, c, rfl⟩ := ho.lies
    have HO : Hid (Out w wr (.slice (some ⟨g, 0, none⟩) (prefB l by' k).length c) (prefB l by' k)) := ho
    have HP : Hid ((prefB l by' k).length ≤ k) := pref_len l by' k
    clear ho
    by_cases hlt : k < l.length
    · have hlt' : (k : Int) < (l.length : Int) := by omega
      obtain ⟨b, off, rfl, hb, hc⟩ := (HR.out.below HO.out.low).get hlt
      obtain ⟨h0, h1⟩ := hc k hlt
      clear hc
      go_wp2_with fail
      refine (specHas_any a' cap' by' (nth l k).1 _ (HS.out.below HO.out.low) HL'.out).mono ?_
      rintro e w1 ⟨rfl, hb1⟩
      have c0 : w1.cell? ⟨b, off + k * 2, none⟩ = some (.string (nth l k).1) := by rw [hb1.cell hb]; exact h0
      have c1 : w1.cell? ⟨b, off + k * 2 + 1, none⟩ = some (.string (nth l k).2) := by rw [hb1.cell hb]; exact h1
      have HO1 : Hid (Out w w1 (.slice (some ⟨g, 0, none⟩) (prefB l by' k).length c) (prefB l by' k)) := HO.out.grow hb1
      clear hb1 h0 h1
      cases hp : hasB by' (nth l k).1 with
      | true =>
        have HE : Hid (prefB l by' (k + 1) = prefB l by' k ++ [nth l k]) := pref_yes hlt hp
        have HO2 : Hid (Out w (w1.alloc (.cells #[.string (nth l k).1, .string (nth l k).2] 99)) (.slice (some ⟨g, 0, none⟩) (prefB l by' k).length c) (prefB l by' k)) := HO1.out.grow (Go.Joins.below_alloc1 w1 _)
        clear hp
        go_wp2_with (at_builtin; refine wpList_append_own_at _ rfl _ _ 25 rfl w.heap.size 99 i0 (.agg #[.string ByteArray.empty, .string ByteArray.empty]) 2 32 Tryz.underlying25 hi hz0 hz1 hz2 rfl (by decide) _ _ _ rfl HO2.out.own ⟨w1.heap.size, 0, none⟩ 1 1 [.string (nth l k).1, .string (nth l k).2] rfl rfl ?c1 ?c2 ?c3 ?c4 ?c5 ?_)
        case c1 => exact blk_news (Blk.new _ _ _)
        case c2 => exact flat_one [nth l k]
        case c3 => unfold maxLen; have := HP.out; omega
        case c4 => have := HP.out; omega
        case c5 => have := HO1.out.low.size; simp; omega
        intro v' w2 hown hg hnil hat
        have HO3 : Hid (Out w w2 v' (prefB l by' (k + 1))) := by show Out _ _ _ _; rw [HE.out]; exact HO2.out.add hown hg hnil
        clear hown hg hnil hat c0 c1
        go_wp2
        go_roundw
        case rel => exact ⟨k + 1, by go_num, by omega, HO3.out⟩
        case measure => simp [intOf]; omega
      | false =>
        have HE : Hid (prefB l by' (k + 1) = prefB l by' k) := pref_no hlt hp
        have HO3 : Hid (Out w w1 (.slice (some ⟨g, 0, none⟩) (prefB l by' k).length c) (prefB l by' (k + 1))) := by show Out _ _ _ _; rw [HE.out]; exact HO1.out
        clear hp
        go_wp2
        go_roundw
        case rel => exact ⟨k + 1, by go_num, by omega, HO3.out⟩
        case measure => simp [intOf]; omega
    · have hge : ¬ (k : Int) < (l.length : Int) := by omega
      have HE : Hid (prefB l by' k = projB l by') := pref_all (by omega)
      go_wp2
      go_ret
      exact ⟨⟨g, ⟨c, retL HE.out rfl⟩, by rw [← HE.out]; exact HO.out.own'⟩, HO.out.low⟩

theorem count_any (x : Lab) (b0 : Nat) (a' : Option Addr) (cap' : Nat) (by' : List ByteArray) (w : World) (hc : w.cell? ⟨b0, 0, none⟩ = some (.slice a' by'.length cap')) (hb : b0 < w.heap.size) (hr' : RdS w a' by') (hl' : by'.length ≤ maxLen) :
    Calls Tryz.prog 87 #[.agg #[.string x.1, .string x.2], .pointer (some ⟨b0, 0, none⟩)] w fun e w' => e = .returned (.bool (hasB by' x.1)) ∧ Below w.heap.size w w' := by
  obtain ⟨n, v⟩ := x
  have hc1 : ∀ o, (w.alloc o).cell? ⟨b0, 0, none⟩ = some (.slice a' by'.length cap') := fun o => by
    rw [World.cell?_alloc_lt _ _ _ hb]; exact hc
  have HR : Hid (RdS w a' by' ∧ by'.length ≤ maxLen) := ⟨hr', hl'⟩
  clear hc hr' hl'
  go_enter Tryz.func87, Tryz.ntmps87
  go_wp2_with fail
  refine (contains_any a' cap' by' n _ (HR.out.1.below (Go.Joins.below_alloc1 w _)) HR.out.2).mono ?_
  rintro e w1 ⟨rfl, hb1⟩
  have HB1 : Hid (Below w.heap.size w w1) := grow_on (Go.Joins.below_alloc1 w _) hb1
  clear hb1
  go_wp2
  go_ret
  exact ⟨rfl, HB1.out⟩

set_option maxHeartbeats 800000 in
theorem chosen_any (a a' : Option Addr) (b0 cap cap' : Nat) (l : List Lab) (by' : List ByteArray) (w : World) (hr : Reads w a l) (hc : w.cell? ⟨b0, 0, none⟩ = some (.slice a' by'.length cap')) (hb0 : b0 < w.heap.size) (hr' : RdS w a' by') (hl : l.length ≤ 1048576) (hl' : by'.length ≤ maxLen) :
    Calls Tryz.prog 86 #[.slice a l.length cap, .func (.func 87) #[] #[.pointer (some ⟨b0, 0, none⟩)]] w fun e w' => (∃ M c, e = .returned (.slice (some ⟨M, 0, none⟩) (projB l by').length c) ∧ Own w w' M (projB l by')) ∧ Below w.heap.size w w' := by
  have HR : Hid (Reads w a l) := hr
  have HS : Hid (RdS w a' by') := hr'
  have HL' : Hid (by'.length ≤ maxLen) := hl'
  have HC : Hid (w.cell? ⟨b0, 0, none⟩ = some (.slice a' by'.length cap')) := hc
  clear hr hr' hl' hc
  obtain ⟨i0, hi, hz0, hz1, hz2⟩ := info_parts infoL
  go_enter Tryz.func86, Tryz.ntmps86
  go_wp2
  go_loopw [5, 11] (fun v i w' => ∃ k : Nat, i = .int .i64 k ∧ k ≤ l.length ∧ Out w w' v (prefB l by' k)) (fun _ i _ => l.length - (intOf i).toNat)
  case atStart => exact ⟨0, rfl, Nat.zero_le _, by rw [pref_zero]; exact World.ownsRow_made w #[] 0 (Nat.le_refl _) (by simp [maxLen]) rfl, ⟨w.heap.size, 0, by rw [pref_zero]; rfl⟩, (Below.refl _ _).alloc (Nat.le_refl _) _⟩
  case round =>
    obtain ⟨k, rfl, hk, ho⟩ := hrel
    obtain ⟨g, c, rfl⟩ := ho.lies
    have HO : Hid (Out w wr (.slice (some ⟨g, 0, none⟩) (prefB l by' k).length c) (prefB l by' k)) := ho
    have HP : Hid ((prefB l by' k).length ≤ k) := pref_len l by' k
    clear ho
    by_cases hlt : k < l.length
    · have hlt' : (k : Int) < (l.length : Int) := by omega
      obtain ⟨b, off, rfl, hb, hc⟩ := (HR.out.below HO.out.low).get hlt
      obtain ⟨h0, h1⟩ := hc k hlt
      clear hc
      have HX : ∀ o, Hid (Below w.heap.size w (wr.alloc o)) := fun o => grow_on HO.out.low (Go.Joins.below_alloc1 wr o)
      go_wp2_with fail
      refine (count_any (nth l k) b0 a' cap' by' _ (((HX _).out.cell hb0).trans HC.out) (Nat.lt_of_lt_of_le hb0 (HX _).out.size) (HS.out.below (HX _).out) HL'.out).mono ?_
      rintro e w1 ⟨rfl, hb1⟩
      have c0 : w1.cell? ⟨wr.heap.size, 0, none⟩ = some (.string (nth l k).1) := by rw [hb1.cell (by simp)]; simp
      have c1 : w1.cell? ⟨wr.heap.size, 1, none⟩ = some (.string (nth l k).2) := by rw [hb1.cell (by simp)]; simp
      replace hb1 := grow_on (Go.Joins.below_alloc1 wr _) hb1
      have HO1 : Hid (Out w w1 (.slice (some ⟨g, 0, none⟩) (prefB l by' k).length c) (prefB l by' k)) := HO.out.grow hb1
      clear hb1 h0 h1
      cases hp : hasB by' (nth l k).1 with
      | true =>
        have HE : Hid (prefB l by' (k + 1) = prefB l by' k ++ [nth l k]) := pref_yes hlt hp
        have HO2 : Hid (Out w (w1.alloc (.cells #[.string (nth l k).1, .string (nth l k).2] 99)) (.slice (some ⟨g, 0, none⟩) (prefB l by' k).length c) (prefB l by' k)) := HO1.out.grow (Go.Joins.below_alloc1 w1 _)
        clear hp
        go_wp2_with (at_builtin; refine wpList_append_own_at _ rfl _ _ 25 rfl w.heap.size 99 i0 (.agg #[.string ByteArray.empty, .string ByteArray.empty]) 2 32 Tryz.underlying25 hi hz0 hz1 hz2 rfl (by decide) _ _ _ rfl HO2.out.own ⟨w1.heap.size, 0, none⟩ 1 1 [.string (nth l k).1, .string (nth l k).2] rfl rfl ?c1 ?c2 ?c3 ?c4 ?c5 ?_)
        case c1 => exact blk_news (Blk.new _ _ _)
        case c2 => exact flat_one [nth l k]
        case c3 => unfold maxLen; have := HP.out; omega
        case c4 => have := HP.out; omega
        case c5 => have := HO1.out.low.size; simp; omega
        intro v' w2 hown hg hnil hat
        have HO3 : Hid (Out w w2 v' (prefB l by' (k + 1))) := by show Out _ _ _ _; rw [HE.out]; exact HO2.out.add hown hg hnil
        clear hown hg hnil hat c0 c1
        go_wp2
        go_roundw
        case rel => exact ⟨k + 1, by go_num, by omega, HO3.out⟩
        case measure => simp [intOf]; omega
      | false =>
        have HE : Hid (prefB l by' (k + 1) = prefB l by' k) := pref_no hlt hp
        have HO3 : Hid (Out w w1 (.slice (some ⟨g, 0, none⟩) (prefB l by' k).length c) (prefB l by' (k + 1))) := by show Out _ _ _ _; rw [HE.out]; exact HO1.out
        clear hp
        go_wp2
        go_roundw
        case rel => exact ⟨k + 1, by go_num, by omega, HO3.out⟩
        case measure => simp [intOf]; omega
    · have hge : ¬ (k : Int) < (l.length : Int) := by omega
      have HE : Hid (prefB l by' k = projB l by') := pref_all (by omega)
      go_wp2
      go_ret
      exact ⟨⟨g, ⟨c, retL HE.out rfl⟩, by rw [← HE.out]; exact HO.out.own'⟩, HO.out.low⟩

theorem own_up {w w1 w' : World} {M : Nat} {p : List Lab} (h : Own w1 w' M p) (hs : w.heap.size ≤ w1.heap.size) : Own w w' M p := ⟨Nat.le_trans hs h.1, h.2⟩
theorem own_grow {w w1 w' : World} {M : Nat} {p : List Lab} (h : Own w w1 M p) (hb : Below w1.heap.size w1 w') : Own w w' M p := by
  obtain ⟨h0, cs, hk, hs, hh⟩ := h
  exact ⟨h0, cs, hk.grow hb, hs, hh⟩
theorem own_reads {w w' : World} {M : Nat} {p : List Lab} (h : Own w w' M p) : Reads w' (some ⟨M, 0, none⟩) p := by
  obtain ⟨_, cs, hk, _, hh⟩ := h
  exact held_reads hk hh
theorem implPro_any (a a' : Option Addr) (cap cap' : Nat) (l : List Lab) (by' : List ByteArray) (w : World) (hr : Reads w a l) (hr' : RdS w a' by') (hl : l.length ≤ 1048576) (hl' : by'.length ≤ maxLen) :
    Calls Tryz.prog 54 #[.slice a l.length cap, .slice a' by'.length cap'] w fun e w' => (∃ M c, e = .returned (.slice (some ⟨M, 0, none⟩) (projB l by').length c) ∧ Own w w' M (projB l by')) ∧ Below w.heap.size w w' := by
  have HR : Hid (Reads w a l ∧ RdS w a' by' ∧ l.length ≤ 1048576 ∧ by'.length ≤ maxLen) := ⟨hr, hr', hl, hl'⟩
  clear hr hr' hl hl'
  go_enter Tryz.func54, Tryz.ntmps54
  go_wp2_with fail
  refine (chosen_any a a' w.heap.size cap cap' l by' _ (HR.out.1.below (Go.Joins.below_alloc1 w _)) (by simp) (by simp) (HR.out.2.1.below (Go.Joins.below_alloc1 w _)) HR.out.2.2.1 HR.out.2.2.2).mono ?_
  rintro e w1 ⟨⟨M, c, rfl, ho⟩, hb⟩
  have H : Hid (Own w w1 M (projB l by') ∧ Below w.heap.size w w1) := ⟨own_up ho (by simp), grow_on (Go.Joins.below_alloc1 w _) hb⟩
  clear ho hb
  go_wp2
  go_ret
  exact ⟨⟨M, c, rfl, H.out.1⟩, H.out.2⟩

theorem specKey_any (a a' : Option Addr) (cap cap' : Nat) (l : List Lab) (s e : Int) (n : ByteArray) (by' : List ByteArray) (w : World) (hr : Reads w a l) (hr' : RdS w a' by') (hl : l.length ≤ 1048576) (hl' : by'.length ≤ maxLen) :
    Calls Tryz.prog 35 #[.agg #[.slice a l.length cap, .int .i64 s, .int .i64 e, .string n], .slice a' by'.length cap'] w fun e w' => (∃ M c, e = .returned (.slice (some ⟨M, 0, none⟩) (projB l by').length c) ∧ Own w w' M (projB l by')) ∧ Below w.heap.size w w' := by
  have HR : Hid (Reads w a l ∧ RdS w a' by' ∧ l.length ≤ 1048576 ∧ by'.length ≤ maxLen) := ⟨hr, hr', hl, hl'⟩
  clear hr hr' hl hl'
  go_enter Tryz.func35, Tryz.ntmps35
  go_wp2_with fail
  refine (specPro_any a a' cap cap' l by' _ (HR.out.1.below (Go.Joins.below_alloc1 w _)) (HR.out.2.1.below (Go.Joins.below_alloc1 w _)) HR.out.2.2.1 HR.out.2.2.2).mono ?_
  rintro e w1 ⟨⟨M, c, rfl, ho⟩, hb⟩
  have H : Hid (Own w w1 M (projB l by') ∧ Below w.heap.size w w1) := ⟨own_up ho (by simp), grow_on (Go.Joins.below_alloc1 w _) hb⟩
  clear ho hb
  go_wp2
  go_ret
  exact ⟨⟨M, c, rfl, H.out.1⟩, H.out.2⟩
theorem implKey_any (a a' : Option Addr) (cap cap' : Nat) (l : List Lab) (s e : Int) (n : ByteArray) (by' : List ByteArray) (w : World) (hr : Reads w a l) (hr' : RdS w a' by') (hl : l.length ≤ 1048576) (hl' : by'.length ≤ maxLen) :
    Calls Tryz.prog 25 #[.agg #[.slice a l.length cap, .int .i64 s, .int .i64 e, .string n], .slice a' by'.length cap'] w fun e w' => (∃ M c, e = .returned (.slice (some ⟨M, 0, none⟩) (projB l by').length c) ∧ Own w w' M (projB l by')) ∧ Below w.heap.size w w' := by
  have HR : Hid (Reads w a l ∧ RdS w a' by' ∧ l.length ≤ 1048576 ∧ by'.length ≤ maxLen) := ⟨hr, hr', hl, hl'⟩
  clear hr hr' hl hl'
  go_enter Tryz.func25, Tryz.ntmps25
  go_wp2_with fail
  refine (implPro_any a a' cap cap' l by' _ (HR.out.1.below (Go.Joins.below_alloc1 w _)) (HR.out.2.1.below (Go.Joins.below_alloc1 w _)) HR.out.2.2.1 HR.out.2.2.2).mono ?_
  rintro e w1 ⟨⟨M, c, rfl, ho⟩, hb⟩
  have H : Hid (Own w w1 M (projB l by') ∧ Below w.heap.size w w1) := ⟨own_up ho (by simp), grow_on (Go.Joins.below_alloc1 w _) hb⟩
  clear ho hb
  go_wp2
  go_ret
  exact ⟨⟨M, c, rfl, H.out.1⟩, H.out.2⟩
end Go.Proofs.YtgncimlojbnbfaaGreat.Pro
