/-
  PROVED: the function that sortedBy hands to the library's sort compares two alarms by their labels; a row of alarms while it is sorted: what it holds, two of them exchanged.
-/
import Derived.Test.YtcopckbpflmmeabChnC
import Derived.Test.YtcopckbpflmmeabStb
namespace Go.Proofs.Ytcopckbpflmmeab.StwA
open Go.RowKit
open Go.Proofs.Ytcopckbpflmmeab.Labs Go.Proofs.Ytcopckbpflmmeab.LabS Go.Proofs.Ytcopckbpflmmeab.Alms Go.Proofs.Ytcopckbpflmmeab.AlmS Go.Proofs.Ytcopckbpflmmeab.AlmM Go.Proofs.Ytcopckbpflmmeab.Over Go.Proofs.Ytcopckbpflmmeab.Blk Go.Proofs.Ytcopckbpflmmeab.App Go.Proofs.Ytcopckbpflmmeab.Rws Go.Proofs.Ytcopckbpflmmeab.ChnI Go.Proofs.Ytcopckbpflmmeab.ChnC Go.Proofs.Ytcopckbpflmmeab.Stb
open Go.Proofs.Ytcopckbpflmmeab.LabL (slB)
open Go.Proofs.Ytcopckbpflmmeab.Mark (Apart)
open Go.Proofs.Ytcopckbpflmmeab.StrB (retB)
set_option linter.unusedVariables false

def keyA (x : ARow) : List Lab := x.2.2.l
def cmpA (x y : ARow) : Int := if slB x.2.2.l y.2.2.l = true then -1 else if slB y.2.2.l x.2.2.l = true then 1 else 0
theorem cmp_less {x y : ARow} (h : slB (keyA x) (keyA y) = true) : cmpA x y = -1 := if_pos h
theorem cmp_ge {x y : ARow} (h : slB (keyA x) (keyA y) = false) : 0 ≤ cmpA x y := by
  unfold cmpA
  rw [if_neg (by rw [show slB x.2.2.l y.2.2.l = false from h]; simp)]
  split <;> decide
theorem retI {a b : Int} (h : a = b) : Ending.returned (.int .i64 a) = .returned (.int .i64 b) := by rw [h]
set_option maxHeartbeats 800000 in
theorem less_any (x y : ARow) (lo : Nat) (w : World) (hx : OwnA lo w x) (hy : OwnA lo w y) :
    Calls Try.prog 47 #[.agg #[.slice (some ⟨(x).1, 0, none⟩) (x).2.2.l.length (x).2.1, .int .i64 (x).2.2.s, .int .i64 (x).2.2.e, .string (x).2.2.n], .agg #[.slice (some ⟨(y).1, 0, none⟩) (y).2.2.l.length (y).2.1, .int .i64 (y).2.2.s, .int .i64 (y).2.2.e, .string (y).2.2.n]] w fun e w' => e = .returned (.bool (slB x.2.2.l y.2.2.l)) ∧ Below w.heap.size w w' := by
  have HX : Hid (OwnA lo w x ∧ OwnA lo w y) := ⟨hx, hy⟩
  clear hx hy
  go_enter Try.func47, Try.ntmps47
  go_wp2_with fail
  refine (LabL.implLessS_any _ _ _ _ x.2.2.l y.2.2.l _ (HX.out.1.reads.below (Go.Joins.below_alloc2 w _ _)) (HX.out.2.reads.below (Go.Joins.below_alloc2 w _ _)) (by have := HX.out.1.2.1; unfold maxLen; omega) (by have := HX.out.2.2.1; unfold maxLen; omega)).mono ?_
  rintro e w1 ⟨rfl, hb⟩
  have HB : Hid (Below w.heap.size w w1) := grow_on (Go.Joins.below_alloc2 w _ _) hb
  clear hb
  go_wp2
  go_ret
  exact ⟨rfl, HB.out⟩
set_option maxHeartbeats 1600000 in
theorem cmp_any (x y : ARow) (b0 lo : Nat) (w : World) (hx : OwnA lo w x) (hy : OwnA lo w y) (hc : w.cell? ⟨b0, 0, none⟩ = some (.func (.func 47) #[] #[])) (hb : b0 < w.heap.size) :
    Calls Try.prog 62 #[.agg #[.slice (some ⟨(x).1, 0, none⟩) (x).2.2.l.length (x).2.1, .int .i64 (x).2.2.s, .int .i64 (x).2.2.e, .string (x).2.2.n], .agg #[.slice (some ⟨(y).1, 0, none⟩) (y).2.2.l.length (y).2.1, .int .i64 (y).2.2.s, .int .i64 (y).2.2.e, .string (y).2.2.n], .pointer (some ⟨b0, 0, none⟩)] w fun e w' => e = .returned (.int .i64 (cmpA x y)) ∧ Below w.heap.size w w' := by
  have HX : Hid (OwnA lo w x ∧ OwnA lo w y) := ⟨hx, hy⟩
  clear hx hy
  have HA : ∀ o o', Hid (Below w.heap.size w ((w.alloc o).alloc o')) := fun o o' => ((Below.refl _ _).alloc (Nat.le_refl _) o).alloc (by simp) o'
  have hc1 : ∀ o o', ((w.alloc o).alloc o').cell? ⟨b0, 0, none⟩ = some (.func (.func 47) #[] #[]) := fun o o' => by
    rw [World.cell?_alloc_lt _ _ _ (by simp; omega), World.cell?_alloc_lt _ _ _ hb]; exact hc
  clear hc
  obtain ⟨X, hXX⟩ : ∃ b, slB x.2.2.l y.2.2.l = b := ⟨_, rfl⟩
  obtain ⟨Y, hYY⟩ : ∃ b, slB y.2.2.l x.2.2.l = b := ⟨_, rfl⟩
  have HE : Hid (cmpA x y = if X = true then -1 else if Y = true then 1 else 0) := by show _ = _; unfold cmpA; rw [hXX, hYY]
  go_enter Try.func62, Try.ntmps62
  go_wp2_with fail
  refine (less_any x y lo _ (HX.out.1.grow (HA _ _).out) (HX.out.2.grow (HA _ _).out)).mono ?_
  rintro e w1 ⟨rfl, hb1⟩
  have HB1 : Hid (Below w.heap.size w w1) := grow_on (HA _ _).out hb1
  have c0 : w1.cell? ⟨b0, 0, none⟩ = some (.func (.func 47) #[] #[]) := by rw [hb1.cell (by simp; omega)]; exact hc1 _ _
  have p0 : w1.cell? ⟨w.heap.size, 0, none⟩ = some (.slice (some ⟨(x).1, 0, none⟩) (x).2.2.l.length (x).2.1) := by rw [hb1.cell (by simp; omega)]; simp
  have p1 : w1.cell? ⟨w.heap.size, 1, none⟩ = some (.int .i64 (x).2.2.s) := by rw [hb1.cell (by simp; omega)]; simp
  have p2 : w1.cell? ⟨w.heap.size, 2, none⟩ = some (.int .i64 (x).2.2.e) := by rw [hb1.cell (by simp; omega)]; simp
  have p3 : w1.cell? ⟨w.heap.size, 3, none⟩ = some (.string (x).2.2.n) := by rw [hb1.cell (by simp; omega)]; simp
  have q0 : w1.cell? ⟨w.heap.size + 1, 0, none⟩ = some (.slice (some ⟨(y).1, 0, none⟩) (y).2.2.l.length (y).2.1) := by rw [hb1.cell (by simp)]; simp
  have q1 : w1.cell? ⟨w.heap.size + 1, 1, none⟩ = some (.int .i64 (y).2.2.s) := by rw [hb1.cell (by simp)]; simp
  have q2 : w1.cell? ⟨w.heap.size + 1, 2, none⟩ = some (.int .i64 (y).2.2.e) := by rw [hb1.cell (by simp)]; simp
  have q3 : w1.cell? ⟨w.heap.size + 1, 3, none⟩ = some (.string (y).2.2.n) := by rw [hb1.cell (by simp)]; simp
  clear hb1
  rw [hXX]
  cases X with
  | true =>
    have HL : Hid (cmpA x y = -1) := by show _ = _; rw [HE.out]; rfl
    go_wp2
    go_ret
    exact ⟨retI HL.out.symm, HB1.out⟩
  | false =>
    go_wp2_with fail
    refine (less_any y x lo _ (HX.out.2.grow HB1.out) (HX.out.1.grow HB1.out)).mono ?_
    rintro e w2 ⟨rfl, hb2⟩
    have HB2 : Hid (Below w.heap.size w w2) := grow_on HB1.out hb2
    clear hb2
    rw [hYY]
    cases Y with
    | true =>
      have HK : Hid (cmpA x y = 1) := by show _ = _; rw [HE.out]; rfl
      go_wp2
      go_ret
      exact ⟨retI HK.out.symm, HB2.out⟩
    | false =>
      have HK : Hid (cmpA x y = 0) := by show _ = _; rw [HE.out]; rfl
      go_wp2
      go_ret
      exact ⟨retI HK.out.symm, HB2.out⟩
/-- the row of n alarms at block M, as f says -/
structure SR (lo : Nat) (w : World) (M n : Nat) (f : Nat → ARow) : Prop where
  outer : ∃ cur : Array Value, Blk w M cur 68 ∧ cur.size = n * 4 ∧ ∀ i, i < n → Four (fun k => cur[k]?) i (f i)
  rows : ∀ i, i < n → OwnA lo w (f i)
theorem SR.grow {lo : Nat} {w w' : World} {M n : Nat} {f : Nat → ARow} (h : SR lo w M n f) (hb : Below w.heap.size w w') : SR lo w' M n f := by
  obtain ⟨cur, h1, h2⟩ := h.outer
  exact ⟨⟨cur, h1.grow hb, h2⟩, fun i hi => (h.rows i hi).grow hb⟩
theorem SR.lt {lo : Nat} {w : World} {M n : Nat} {f : Nat → ARow} (h : SR lo w M n f) : M < w.heap.size := by
  obtain ⟨cur, h1, _⟩ := h.outer
  exact h1.lt
theorem SR.cell {lo : Nat} {w : World} {M n : Nat} {f : Nat → ARow} (h : SR lo w M n f) {i : Nat} (hi : i < n) : Four (fun k => w.cell? ⟨M, k, none⟩) i (f i) := by
  obtain ⟨cur, h1, h2, h3⟩ := h.outer
  exact (h3 i hi).congr fun k _ _ => h1.cell k
theorem SR.frozen {lo : Nat} {w : World} {M n : Nat} {f : Nat → ARow} (h : SR lo w M n f) (i : Nat) : w.frozen? ⟨M, i, none⟩ = false := by
  obtain ⟨cur, h1, _⟩ := h.outer
  exact h1.frozen i
theorem SR.drew {lo : Nat} {w : World} {M n : Nat} {f : Nat → ARow} (h : SR lo w M n f) : SR lo w.drew M n f := h.grow (Below.refl _ _).drew
/-- two of them exchanged -/
def W8 (w : World) (M p q : Nat) (f : Nat → ARow) : World := put4W (put4W w M p (f q)) M q (f p)
theorem SR.two {lo : Nat} {w : World} {M n : Nat} {f : Nat → ARow} (h : SR lo w M n f) {p q : Nat} (hp : p < n) (hq : q < n) (hpq : p ≠ q) : SR lo (W8 w M p q f) M n (Stb.two f p q) := by
  obtain ⟨cur, h1, h2, h3⟩ := h.outer
  have far : ∀ y, OwnA lo w y → OwnA lo (W8 w M p q f) y := fun y hy => by
    obtain ⟨h0, h1', ds, h2, h3⟩ := hy
    exact ⟨h0, h1', ds, put4W_other (put4W_other h2 (blkA_ne h1 h2)) (blkA_ne h1 h2), h3⟩
  refine ⟨⟨_, put4W_blk (put4W_blk h1), by rw [put4_size, put4_size]; exact h2, fun i hi => ?_⟩, fun i hi => far _ ?_⟩
  · unfold Stb.two
    by_cases e1 : i = p
    · rw [if_pos e1, e1]
      exact (put4_at (cs := cur) (k := p) (x := f q) (by omega)).congr fun j h0 h1 => put4_ne (by omega)
    · rw [if_neg e1]
      by_cases e2 : i = q
      · rw [if_pos e2, e2]
        exact put4_at (by rw [put4_size]; omega)
      · rw [if_neg e2]
        exact (h3 i hi).congr fun j h0 h1 => by
          show (put4C (put4C cur p (f q)) q (f p))[j]? = cur[j]?
          rw [put4_ne (by omega), put4_ne (by omega)]
  · unfold Stb.two
    split
    · exact h.rows q hq
    · split
      · exact h.rows p hp
      · exact h.rows i hi
theorem apart_put4 {M k : Nat} {a w : World} {x : ARow} (h : Apart M a w) : Apart M a (put4W w M k x) := (((h.setCell _ _).setCell _ _).setCell _ _).setCell _ _
theorem apart_two {M p q : Nat} {a w : World} {f : Nat → ARow} (h : Apart M a w) : Apart M a (W8 w M p q f) := apart_put4 (apart_put4 h)
theorem apart_drew {M : Nat} {a w : World} (h : Apart M a w) : Apart M a w.drew := ⟨h.os, h.tape, h.output, h.size, h.block⟩
/-- what a part of the sort leaves: the row as g says, all else as it was -/
structure Sd (lo : Nat) (w : World) (M n : Nat) (f : Nat → ARow) (a b : Nat) (w' : World) : Prop where
  ex : ∃ g, SR lo w' M n g ∧ Mrg slB keyA f g a b n
  ap : Apart M w w'
theorem fnAt {M b0 : Nat} {w w' : World} {v : Value} (h : Apart M w w') (hc : w.cell? ⟨b0, 0, none⟩ = some v) (hb : b0 < w.heap.size) (hne : b0 ≠ M) : w'.cell? ⟨b0, 0, none⟩ = some v := by
  rw [← hc]
  unfold World.cell?
  rw [h.block b0 hb hne]
end Go.Proofs.Ytcopckbpflmmeab.StwA
