/-
  Rows of timers of the call's own: their cells, one after the other; append onto them; two places changed.
-/
import Derived.Test.YtcjhieknmblbbaaTmO
import Derived.Test.YtcjhieknmblbbaaApp
namespace Go.Proofs.Ytcjhieknmblbbaa.TmR
open Go.RowKit
open Go.Proofs.Ytcjhieknmblbbaa.Hp Go.Proofs.Ytcjhieknmblbbaa.Tms Go.Proofs.Ytcjhieknmblbbaa.TmO Go.Proofs.Ytcjhieknmblbbaa.Over Go.Proofs.Ytcjhieknmblbbaa.Blk Go.Proofs.Ytcjhieknmblbbaa.App
set_option linter.unusedVariables false

/-- the cells of a row of timers -/
def flatT : List Tm → List Value
  | [] => []
  | x :: l => .int .i64 x.1 :: .int .i64 x.2 :: flatT l
theorem flat_len : ∀ l : List Tm, (flatT l).length = l.length * 2
  | [] => rfl
  | x :: l => by rw [flatT, List.length_cons, List.length_cons, flat_len l, List.length_cons]; omega
theorem flat_get : ∀ (l : List Tm) (m : Nat), m < l.length → (flatT l)[m * 2]? = some (.int .i64 (nthT l m).1) ∧ (flatT l)[m * 2 + 1]? = some (.int .i64 (nthT l m).2)
  | [], m, h => by simp at h
  | x :: l, 0, _ => ⟨rfl, rfl⟩
  | x :: l, m + 1, h => by
    have := flat_get l m (by simpa using h)
    have e : (m + 1) * 2 = m * 2 + 2 := by omega
    rw [e]
    exact this
theorem flat_app : ∀ l m : List Tm, flatT (l ++ m) = flatT l ++ flatT m
  | [], m => rfl
  | x :: l, m => by rw [List.cons_append, flatT, flatT, flat_app l m]; rfl
theorem flat_one : ∀ (l : List Tm), ∀ v ∈ flatT l, v.oneCell' = true
  | [], v, h => by simp [flatT] at h
  | x :: l, v, h => by
    simp only [flatT, List.mem_cons] at h
    rcases h with rfl | rfl | h
    · rfl
    · rfl
    · exact flat_one l v h
theorem add_at (b off j : Nat) : (⟨b, off, none⟩ : Addr).add j = ⟨b, off + j, none⟩ := by by_cases h : j = 0 <;> simp [Addr.add, h]
theorem flat_src {w : World} {b off : Nat} {l : List Tm} (h : ∀ i, i < l.length → w.cell? ⟨b, off + i * 2, none⟩ = some (.int .i64 (nthT l i).1) ∧ w.cell? ⟨b, off + i * 2 + 1, none⟩ = some (.int .i64 (nthT l i).2)) :
    ∀ j v, (flatT l)[j]? = some v → w.cell? ((⟨b, off, none⟩ : Addr).add j) = some v := fun j v hj => by
  rw [add_at]
  have hlt : j < l.length * 2 := by
    rw [← flat_len]
    exact (List.getElem?_eq_some_iff.1 hj).1
  rcases Nat.mod_two_eq_zero_or_one j with e | e
  · obtain ⟨m, rfl⟩ : ∃ m, j = m * 2 := ⟨j / 2, by omega⟩
    rw [(flat_get l m (by omega)).1] at hj
    rw [← hj]; exact (h m (by omega)).1
  · obtain ⟨m, rfl⟩ : ∃ m, j = m * 2 + 1 := ⟨j / 2, by omega⟩
    rw [(flat_get l m (by omega)).2] at hj
    rw [← hj, ← Nat.add_assoc]; exact (h m (by omega)).2
theorem src_of {w : World} {ad : Addr} {l : List Tm} (h : RdT w (some ad) l) : ∀ j u, (flatT l)[j]? = some u → w.cell? (ad.add j) = some u := fun j u hj => by
  rcases h with rfl | ⟨b, off, e, _, hc⟩
  · simp [flatT] at hj
  · cases e; exact flat_src hc j u hj
/-- a row of the call's own: M holds these timers first -/
structure OT (lo : Nat) (w : World) (M c : Nat) (l : List Tm) : Prop where
  lo : lo ≤ M
  le : l.length ≤ c
  cap : c ≤ maxLen
  row : ∃ cs : Array Value, Blk w M cs 26 ∧ cs.size = c * 2 ∧ HeldT cs l l.length
theorem OT.down {lo lo' : Nat} {w : World} {M c : Nat} {l : List Tm} (h : OT lo w M c l) (hl : lo' ≤ lo) : OT lo' w M c l := ⟨Nat.le_trans hl h.lo, h.le, h.cap, h.row⟩
theorem OT.grow {lo : Nat} {w w' : World} {M c : Nat} {l : List Tm} (h : OT lo w M c l) (hb : Below w.heap.size w w') : OT lo w' M c l :=
  ⟨h.lo, h.le, h.cap, by obtain ⟨cs, h1, h2⟩ := h.row; exact ⟨cs, h1.grow hb, h2⟩⟩
theorem OT.rd {lo : Nat} {w : World} {M c : Nat} {l : List Tm} (h : OT lo w M c l) : RdT w (some ⟨M, 0, none⟩) l := by
  obtain ⟨cs, h1, _, h2⟩ := h.row
  exact held_reads h1 h2
theorem OT.lt {lo : Nat} {w : World} {M c : Nat} {l : List Tm} (h : OT lo w M c l) : M < w.heap.size := by obtain ⟨cs, h1, _⟩ := h.row; exact h1.lt
theorem flat_held {cs : Array Value} {l : List Tm} (h : HeldT cs l l.length) (hs : l.length * 2 ≤ cs.size) : cs.toList.take (l.length * 2) = flatT l := by
  apply List.ext_getElem?
  intro j
  by_cases hj : j < l.length * 2
  · rw [List.getElem?_take_of_lt hj]
    rcases Nat.mod_two_eq_zero_or_one j with e | e
    · obtain ⟨m, rfl⟩ : ∃ m, j = m * 2 := ⟨j / 2, by omega⟩
      rw [(flat_get l m (by omega)).1]; simpa using (h m (by omega)).1
    · obtain ⟨m, rfl⟩ : ∃ m, j = m * 2 + 1 := ⟨j / 2, by omega⟩
      rw [(flat_get l m (by omega)).2]; simpa using (h m (by omega)).2
  · rw [List.getElem?_eq_none (by simp; omega), List.getElem?_eq_none (by rw [flat_len]; omega)]
theorem OT.own {lo : Nat} {w : World} {M c : Nat} {l : List Tm} (h : OT lo w M c l) : w.ownsRow lo 26 2 (.slice (some ⟨M, 0, none⟩) l.length c) l.length (flatT l) := by
  obtain ⟨cs, h1, h2, h3⟩ := h.row
  exact ⟨flat_len l, .inr ⟨M, c, cs, rfl, h.lo, h1, h.le, h.cap, h2, flat_held h3 (by have := h.le; omega)⟩⟩
theorem ot_of {w : World} {lo : Nat} {v : Value} {l : List Tm} (h : w.ownsRow lo 26 2 v l.length (flatT l)) (hn : v ≠ .slice none 0 0) : ∃ M c, v = .slice (some ⟨M, 0, none⟩) l.length c ∧ OT lo w M c l := by
  rcases h.2 with ⟨e, _⟩ | ⟨g', cap', cur, e, hb, hg, hc, hm, hz, ht⟩
  · exact absurd e hn
  · refine ⟨g', cap', e, hb, hc, hm, cur, hg, hz, fun j hj => ?_⟩
    have h2 := flat_get l j hj
    have hl := flat_len l
    rw [← ht, List.getElem?_take_of_lt (by omega), List.getElem?_take_of_lt (by omega)] at h2
    simpa using h2
/-- two places changed, cell by cell -/
def swpC (cs : Array Value) (l : List Tm) (i j : Nat) : Array Value :=
  (((cs.setIfInBounds (i * 2) (.int .i64 (nthT l j).1)).setIfInBounds (i * 2 + 1) (.int .i64 (nthT l j).2)).setIfInBounds (j * 2) (.int .i64 (nthT l i).1)).setIfInBounds (j * 2 + 1) (.int .i64 (nthT l i).2)
theorem put2_at {cs : Array Value} {k : Nat} {v0 v1 : Value} (hs : k * 2 + 1 < cs.size) : ((cs.setIfInBounds (k * 2) v0).setIfInBounds (k * 2 + 1) v1)[k * 2]? = some v0 ∧ ((cs.setIfInBounds (k * 2) v0).setIfInBounds (k * 2 + 1) v1)[k * 2 + 1]? = some v1 :=
  ⟨by rw [Array.getElem?_setIfInBounds_ne (by omega), Array.getElem?_setIfInBounds, if_pos rfl, if_pos (by omega)], by rw [Array.getElem?_setIfInBounds, if_pos rfl, if_pos (by simpa using hs)]⟩
theorem put2_ne {cs : Array Value} {k m : Nat} {v0 v1 : Value} (h : k ≠ m) : ((cs.setIfInBounds (k * 2) v0).setIfInBounds (k * 2 + 1) v1)[m * 2]? = cs[m * 2]? ∧ ((cs.setIfInBounds (k * 2) v0).setIfInBounds (k * 2 + 1) v1)[m * 2 + 1]? = cs[m * 2 + 1]? :=
  ⟨by rw [Array.getElem?_setIfInBounds_ne (by omega), Array.getElem?_setIfInBounds_ne (by omega)], by rw [Array.getElem?_setIfInBounds_ne (by omega), Array.getElem?_setIfInBounds_ne (by omega)]⟩
theorem held_set {cs : Array Value} {l : List Tm} {k : Nat} {x : Tm} (h : HeldT cs l l.length) (hk : k < l.length) (hs : l.length * 2 ≤ cs.size) : HeldT ((cs.setIfInBounds (k * 2) (.int .i64 x.1)).setIfInBounds (k * 2 + 1) (.int .i64 x.2)) (l.set k x) (l.set k x).length := fun j hj => by
  rw [List.length_set] at hj
  rw [nth_set hk]
  by_cases e : k = j
  · subst e; rw [if_pos rfl]; exact put2_at (by omega)
  · rw [if_neg e]
    obtain ⟨e1, e2⟩ := put2_ne (cs := cs) (v0 := .int .i64 x.1) (v1 := .int .i64 x.2) e
    rw [e1, e2]; exact h j hj
theorem swpC_size (cs : Array Value) (l : List Tm) (i j : Nat) : (swpC cs l i j).size = cs.size := by simp [swpC]
theorem swpC_held {cs : Array Value} {l : List Tm} {i j : Nat} (h : HeldT cs l l.length) (hi : i < l.length) (hj : j < l.length) (hs : l.length * 2 ≤ cs.size) : HeldT (swpC cs l i j) (swp l i j) (swp l i j).length :=
  held_set (held_set h hi hs) (by simpa using hj) (by simpa using hs)
end Go.Proofs.Ytcjhieknmblbbaa.TmR
