/-
  PROVED: the contracts of what the exact laws call over an alarm: the size that szAlarm counts, the copy that toAlarm makes, whether eqAlarm finds two alike; what an alarm that came in is.
-/
import Derived.Test.YtgncimlojbnbfaaLabT
import Derived.Lib.SmallJoins
namespace Go.Proofs.Ytgncimlojbnbfaa.Alm
open Go.RowKit
open Go.Proofs.Ytgncimlojbnbfaa.Labs Go.Proofs.Ytgncimlojbnbfaa.LabS Go.Proofs.Ytgncimlojbnbfaa.LabT Go.Proofs.Ytgncimlojbnbfaa.Over Go.Proofs.Ytgncimlojbnbfaa.Blk
open Go.Proofs.Ytgncimlojbnbfaa.StrB (retB)
set_option linter.unusedVariables false

/-- what is known of an alarm that came in -/
structure AlIn (w : World) (a : Option Addr) (l : List Lab) (s e : Int) (n : ByteArray) : Prop where
  reads : Reads w a l
  len : l.length ≤ maxLen
  fits : Fits l
  sb : -9223372036854775808 ≤ s ∧ s ≤ 9223372036854775807
  eb : -9223372036854775808 ≤ e ∧ e ≤ 9223372036854775807
  note : n.size ≤ maxLen
theorem AlIn.below {w w' : World} {a : Option Addr} {l : List Lab} {s e : Int} {n : ByteArray} (h : AlIn w a l s e n) (hb : Below w.heap.size w w') : AlIn w' a l s e n :=
  ⟨h.reads.below hb, h.len, h.fits, h.sb, h.eb, h.note⟩
theorem AlIn.with {w w' : World} {a a' : Option Addr} {l : List Lab} {s e : Int} {n : ByteArray} (h : AlIn w a l s e n) (hr : Reads w' a' l) : AlIn w' a' l s e n :=
  ⟨hr, h.len, h.fits, h.sb, h.eb, h.note⟩

/-- whether two alarms are the same -/
def sameB (l : List Lab) (s e : Int) (n : ByteArray) (l' : List Lab) (s' e' : Int) (n' : ByteArray) : Bool := decide (l = l') && decide (s = s') && decide (e = e') && decide (n = n')
theorem same_self (l : List Lab) (s e : Int) (n : ByteArray) : sameB l s e n l s e n = true := by simp [sameB]
theorem same_l {l l' : List Lab} {s e s' e' : Int} {n n' : ByteArray} (h : l ≠ l') : sameB l s e n l' s' e' n' = false := by simp [sameB, h]
theorem same_s {l l' : List Lab} {s e s' e' : Int} {n n' : ByteArray} (h : s ≠ s') : sameB l s e n l' s' e' n' = false := by simp [sameB, h]
theorem same_e {l l' : List Lab} {s e s' e' : Int} {n n' : ByteArray} (h : e ≠ e') : sameB l s e n l' s' e' n' = false := by simp [sameB, h]
theorem same_n {l l' : List Lab} {s e s' e' : Int} {n n' : ByteArray} (h : n ≠ n') : sameB l s e n l' s' e' n' = false := by simp [sameB, h]

/-- a cell of the block that a call laid first -/
theorem at_par {w w1 : World} {cs : Array Value} {T : TypeId} (hb : Below (w.alloc (.cells cs T)).heap.size (w.alloc (.cells cs T)) w1) (i : Nat) {v : Value} (h : cs[i]? = some v) : w1.cell? ⟨w.heap.size, i, none⟩ = some v := by
  rw [hb.cell (by simp), World.cell?_alloc_new]; exact h

theorem set4 {B M : Nat} {w w' : World} (h : Below B w w') (hM : B ≤ M) (v0 v1 v2 v3 : Value) : Below B w ((((w'.setCell ⟨M, 0, none⟩ v0).setCell ⟨M, 1, none⟩ v1).setCell ⟨M, 2, none⟩ v2).setCell ⟨M, 3, none⟩ v3) :=
  (((h.setCell hM _).setCell hM _).setCell hM _).setCell hM _
theorem blk4 {w : World} {M N : Nat} {cs : Array Value} {T : TypeId} (h : Blk w N cs T) (hne : M ≠ N) (v0 v1 v2 v3 : Value) : Blk ((((w.setCell ⟨M, 0, none⟩ v0).setCell ⟨M, 1, none⟩ v1).setCell ⟨M, 2, none⟩ v2).setCell ⟨M, 3, none⟩ v3) N cs T :=
  (((h.set_other hne _).set_other hne _).set_other hne _).set_other hne _
theorem put4 {w : World} {M : Nat} {x0 x1 x2 x3 : Value} {T : TypeId} (h : Blk w M #[x0, x1, x2, x3] T) (v0 v1 v2 v3 : Value) : Blk ((((w.setCell ⟨M, 0, none⟩ v0).setCell ⟨M, 1, none⟩ v1).setCell ⟨M, 2, none⟩ v2).setCell ⟨M, 3, none⟩ v3) M #[v0, v1, v2, v3] T :=
  (((h.set 0 v0).set 1 v1).set 2 v2).set 3 v3
theorem below3 (w : World) (o1 o2 o3 : Obj) : Below w.heap.size w (((w.alloc o1).alloc o2).alloc o3) := Go.Joins.below_alloc3 w o1 o2 o3
set_option maxHeartbeats 400000 in
theorem sz_any (a : Option Addr) (cap : Nat) (l : List Lab) (s e : Int) (n : ByteArray) (left : Int) (w : World) (h : AlIn w a l s e n) (h0 : 0 ≤ left) (h1 : left ≤ 1048576) :
    Calls Try.prog 23 #[.agg #[.slice a l.length cap, .int .i64 s, .int .i64 e, .string n], .int .i64 left] w fun r w' => (∃ k : Int, r = .returned (.int .i64 k) ∧ k ≤ left ∧ (0 ≤ k → k + (l.length : Int) ≤ left)) ∧ Below w.heap.size w w' := by
  have HA : Hid (AlIn w a l s e n) := h
  have hn : n.size ≤ 2 ^ 63 - 1 := h.note
  clear h
  go_enter Try.func23, Try.ntmps23
  go_wp2_with fail
  refine (LabT.sz_any a cap l left _ (HA.out.reads.below ((Below.refl _ _).alloc (Nat.le_refl _) _)) HA.out.len HA.out.fits h0 h1).mono ?_
  rintro r w1 ⟨⟨k, rfl, hk, hk2⟩, hb⟩
  have c3 : w1.cell? ⟨w.heap.size, 3, none⟩ = some (.string n) := at_par hb 3 rfl
  have HB : Hid (Below w.heap.size w w1) := grow_on ((Below.refl _ _).alloc (Nat.le_refl _) _) hb
  clear hb
  by_cases g : k < 0
  · clear hk2
    go_wp2
    go_ret
    exact ⟨⟨-1, rfl, by omega, fun h => by omega⟩, HB.out⟩
  · have HK : Hid (k + (l.length : Int) ≤ left) := hk2 (by omega)
    clear hk2
    by_cases g2 : k - (n.size : Int) < 0
    · go_wp2
      go_ret
      exact ⟨⟨-1, rfl, by omega, fun h => by omega⟩, HB.out⟩
    · go_wp2
      go_ret
      exact ⟨⟨_, rfl, by omega, fun h => by have := HK.out; omega⟩, HB.out⟩

set_option maxHeartbeats 400000 in
theorem to_any (a : Option Addr) (cap : Nat) (l : List Lab) (s e : Int) (n : ByteArray) (w : World) (hr : Reads w a l) (hl : l.length ≤ 1048576) :
    Calls Try.prog 25 #[.agg #[.slice a l.length cap, .int .i64 s, .int .i64 e, .string n]] w fun r w' => (∃ (M : Nat) (cs : Array Value), r = .returned (.agg #[.slice (some ⟨M, 0, none⟩) l.length l.length, .int .i64 s, .int .i64 e, .string n]) ∧ w.heap.size ≤ M ∧ Blk w' M cs 73 ∧ cs.size = l.length * 2 ∧ Held cs l l.length) ∧ Below w.heap.size w w' := by
  have HR : Hid (Reads w a l) := hr
  clear hr
  go_enter Try.func25, Try.ntmps25
  go_wp2_with fail
  refine (LabT.to_any a cap l _ (HR.out.below (below3 w _ _ _)) hl).mono ?_
  rintro r w1 ⟨rfl, ⟨cs, hk, hs, hh⟩, hb⟩
  have hP : Blk w1 w.heap.size #[.slice a l.length cap, .int .i64 s, .int .i64 e, .string n] 43 := (((Blk.new _ _ _).alloc _).alloc _).grow hb
  have hR : Blk w1 (w.heap.size + 1) #[.slice none 0 0, .int .i64 0, .int .i64 0, .string ⟨#[]⟩] 48 := ((Blk.new_at (by simp)).alloc _).grow hb
  have hO : Blk w1 (w.heap.size + 2) #[.slice none 0 0, .int .i64 0, .int .i64 0, .string ⟨#[]⟩] 48 := (Blk.new_at (by simp)).grow hb
  have p1 : w1.cell? ⟨w.heap.size, 1, none⟩ = some (.int .i64 s) := hP.cell 1
  have p2 : w1.cell? ⟨w.heap.size, 2, none⟩ = some (.int .i64 e) := hP.cell 2
  have p3 : w1.cell? ⟨w.heap.size, 3, none⟩ = some (.string n) := hP.cell 3
  have R0 : w1.cell? ⟨w.heap.size + 1, 0, none⟩ = some (.slice none 0 0) := hR.cell 0
  have R1 : w1.cell? ⟨w.heap.size + 1, 1, none⟩ = some (.int .i64 0) := hR.cell 1
  have R2 : w1.cell? ⟨w.heap.size + 1, 2, none⟩ = some (.int .i64 0) := hR.cell 2
  have R3 : w1.cell? ⟨w.heap.size + 1, 3, none⟩ = some (.string ⟨#[]⟩) := hR.cell 3
  have fR0 := hR.frozen 0
  have fR1 := hR.frozen 1
  have fR2 := hR.frozen 2
  have fR3 := hR.frozen 3
  have O0 : w1.cell? ⟨w.heap.size + 2, 0, none⟩ = some (.slice none 0 0) := hO.cell 0
  have O1 : w1.cell? ⟨w.heap.size + 2, 1, none⟩ = some (.int .i64 0) := hO.cell 1
  have O2 : w1.cell? ⟨w.heap.size + 2, 2, none⟩ = some (.int .i64 0) := hO.cell 2
  have O3 : w1.cell? ⟨w.heap.size + 2, 3, none⟩ = some (.string ⟨#[]⟩) := hO.cell 3
  have fO0 := hO.frozen 0
  have fO1 := hO.frozen 1
  have fO2 := hO.frozen 2
  have fO3 := hO.frozen 3
  have HB : Hid (Below w.heap.size w w1) := grow_on (below3 w _ _ _) hb
  have HK : Hid (∃ cs : Array Value, Blk w1 (w.heap.size + 3) cs 73 ∧ cs.size = l.length * 2 ∧ Held cs l l.length) := ⟨cs, by simpa using hk, hs, hh⟩
  clear hb hk hs hh hP hR hO
  go_wp2
  refine bodyPost_ret (v := .agg #[.slice (some ⟨w.heap.size + 3, 0, none⟩) l.length l.length, .int .i64 s, .int .i64 e, .string n]) (by simp [results, Try.results25, go_sem, R0, R1, R2, R3]) rfl ?_
  obtain ⟨cs, hk, hs, hh⟩ := HK.out
  exact ⟨⟨w.heap.size + 3, cs, rfl, by omega, blk4 (blk4 hk (by omega) _ _ _ _) (by omega) _ _ _ _, hs, hh⟩, set4 (set4 HB.out (by omega) _ _ _ _) (by omega) _ _ _ _⟩

set_option maxHeartbeats 800000 in
theorem eq_any (a a' : Option Addr) (cap cap' : Nat) (l l' : List Lab) (s e s' e' : Int) (n n' : ByteArray) (w : World) (hr : Reads w a l) (hr' : Reads w a' l') (hl : l.length ≤ maxLen) (hl' : l'.length ≤ maxLen) :
    Calls Try.prog 27 #[.agg #[.slice a l.length cap, .int .i64 s, .int .i64 e, .string n], .agg #[.slice a' l'.length cap', .int .i64 s', .int .i64 e', .string n']] w fun r w' => r = .returned (.bool (sameB l s e n l' s' e' n')) ∧ Below w.heap.size w w' := by
  have HR : Hid (Reads w a l ∧ Reads w a' l' ∧ l.length ≤ maxLen ∧ l'.length ≤ maxLen) := ⟨hr, hr', hl, hl'⟩
  clear hr hr' hl hl'
  go_enter Try.func27, Try.ntmps27
  go_wp2_with fail
  refine (LabT.eq_any a a' cap cap' l l' _ (HR.out.1.below (Go.Joins.below_alloc2 w _ _)) (HR.out.2.1.below (Go.Joins.below_alloc2 w _ _)) HR.out.2.2.1 HR.out.2.2.2).mono ?_
  rintro r w1 ⟨rfl, hb⟩
  have hP : Blk w1 w.heap.size #[.slice a l.length cap, .int .i64 s, .int .i64 e, .string n] 48 := ((Blk.new _ _ _).alloc _).grow hb
  have hQ : Blk w1 (w.heap.size + 1) #[.slice a' l'.length cap', .int .i64 s', .int .i64 e', .string n'] 48 := (Blk.new_at (by simp)).grow hb
  have p1 : w1.cell? ⟨w.heap.size, 1, none⟩ = some (.int .i64 s) := hP.cell 1
  have p2 : w1.cell? ⟨w.heap.size, 2, none⟩ = some (.int .i64 e) := hP.cell 2
  have p3 : w1.cell? ⟨w.heap.size, 3, none⟩ = some (.string n) := hP.cell 3
  have q1 : w1.cell? ⟨w.heap.size + 1, 1, none⟩ = some (.int .i64 s') := hQ.cell 1
  have q2 : w1.cell? ⟨w.heap.size + 1, 2, none⟩ = some (.int .i64 e') := hQ.cell 2
  have q3 : w1.cell? ⟨w.heap.size + 1, 3, none⟩ = some (.string n') := hQ.cell 3
  have HB : Hid (Below w.heap.size w w1) := grow_on (Go.Joins.below_alloc2 w _ _) hb
  clear hb hP hQ
  by_cases h0 : l = l'
  · have g0 : decide (l = l') = true := decide_eq_true h0
    have H0 : Hid (l = l') := h0
    clear h0
    by_cases h1 : s = s'
    · by_cases h2 : e = e'
      · by_cases h3 : n = n'
        · have g3 := beqS_yes h3
          have HE : Hid (sameB l s e n l' s' e' n' = true) := by
            have h0 := H0.out
            subst h0 h1 h2 h3
            exact same_self _ _ _ _
          clear h3
          go_wp2
          go_ret
          exact ⟨retB HE.out.symm, HB.out⟩
        · have g3 := beqS_no h3
          have HE : Hid (sameB l s e n l' s' e' n' = false) := same_n h3
          clear h3
          go_wp2
          go_ret
          exact ⟨retB HE.out.symm, HB.out⟩
      · have HE : Hid (sameB l s e n l' s' e' n' = false) := same_e h2
        go_wp2
        go_ret
        exact ⟨retB HE.out.symm, HB.out⟩
    · have HE : Hid (sameB l s e n l' s' e' n' = false) := same_s h1
      go_wp2
      go_ret
      exact ⟨retB HE.out.symm, HB.out⟩
  · have g0 : decide (l = l') = false := decide_eq_false h0
    have HE : Hid (sameB l s e n l' s' e' n' = false) := same_l h0
    clear h0
    go_wp2
    go_ret
    exact ⟨retB HE.out.symm, HB.out⟩

theorem cellsA : Try.prog.cellsOf 43 = 4 := by kernel_rfl
set_option maxRecDepth 100000 in
/-- an alarm that came in -/
theorem open_alarm {H : Type} {enc : TypeId × Value → H} {W : World} {base b0 : Nat} {spare : Nat → Bool} {held : Bool} {r : Reach} {v : Value} {d : DataW H} {p : List MemPlace}
    (hv : Value.okWide Try.prog W r b0 43 v) (h : DataW.Trod enc Try.prog W base spare held 43 v d p) :
    ∃ (a : Option Addr) (cap : Nat) (l : List Lab) (s e : Int) (n : ByteArray), v = .agg #[.slice a l.length cap, .int .i64 s, .int .i64 e, .string n] ∧ AlIn W a l s e n := by
  obtain ⟨c0, c1, c2, c3, y0, y1, y2, y3, m, rfl, rfl, rfl, hy0, hy1, hy2, hy3⟩ := Go.Joins.open_agg4 Try.underlying43 (by kernel_rfl) cellsA hv h
  obtain ⟨a, len, cap, e0⟩ := Go.Joins.slice_form Try.underlying33 hy0
  obtain ⟨s, e1, _, z1⟩ := DataW.trod_int Try.underlying3 hy1
  obtain ⟨e, e2, _, z2⟩ := DataW.trod_int Try.underlying3 hy2
  obtain ⟨n, e3, _, z3⟩ := DataW.trod_string Try.underlying9 hy3
  simp at e0 e1 e2 e3
  subst e0 e1 e2 e3
  obtain ⟨l, rfl, hr, hl, hf⟩ := open_labs hy0
  exact ⟨a, cap, l, s, e, n, rfl, hr, hl, hf, Go.bounds_i64 z1, Go.bounds_i64 z2, z3⟩
end Go.Proofs.Ytgncimlojbnbfaa.Alm
