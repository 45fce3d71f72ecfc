/-
  PROVED: impl.MemberOf answers the number of the first group that has an alarm of these labels; nothing that was there is changed.
-/
import Derived.Test.YtgncimlojbnbfabGpMe
namespace Go.Proofs.Ytgncimlojbnbfab.GpIm
open Go.RowKit
open Go.Proofs.Ytgncimlojbnbfab.Labs Go.Proofs.Ytgncimlojbnbfab.LabS Go.Proofs.Ytgncimlojbnbfab.Alms Go.Proofs.Ytgncimlojbnbfab.Over Go.Proofs.Ytgncimlojbnbfab.Blk Go.Proofs.Ytgncimlojbnbfab.App Go.Proofs.Ytgncimlojbnbfab.ChnI Go.Proofs.Ytgncimlojbnbfab.ChnC Go.Proofs.Ytgncimlojbnbfab.Gps Go.Proofs.Ytgncimlojbnbfab.GpD
open Go.Proofs.Ytgncimlojbnbfab.GpMe
open Go.Proofs.Ytgncimlojbnbfab.StrB (retB)
set_option linter.unusedVariables false
def eqP (l : List Lab) (y : PAl) : Bool := decide (y.l = l)
def aheadA (p : PAl → Bool) (P : List PAl) : Nat := P.findIdx p
theorem find_at {p : PAl → Bool} {P : List PAl} {k : Nat} (hk : k < P.length) (hj : ∀ j, j < k → p (nthP P j) = false) (h : p (nthP P k) = true) : aheadA p P = k := by
  unfold aheadA
  rw [List.findIdx_eq hk]
  refine ⟨by rw [nthP_eq hk] at h; exact h, fun j hj' => ?_⟩
  have := hj j hj'
  rwa [nthP_eq (by omega)] at this
theorem find_end {p : PAl → Bool} {P : List PAl} (hj : ∀ j, j < P.length → p (nthP P j) = false) : aheadA p P = P.length := by
  unfold aheadA
  rw [List.findIdx_eq_length]
  intro y hy
  obtain ⟨j, hj', rfl⟩ := List.getElem_of_mem hy
  have := hj j hj'
  rwa [nthP_eq hj'] at this
theorem closM_any (b0 : Nat) (ad ga : Option Addr) (cp cx : Nat) (y : PAl) (l : List Lab) (w : World) (hc : w.cell? ⟨b0, 0, none⟩ = some (.slice ga l.length cx)) (hx : Reads w ad y.l) (hr : Reads w ga l) (h1 : y.l.length ≤ maxLen) (h2 : l.length ≤ maxLen) :
    Calls Try.prog 23 #[.agg #[.slice ad y.l.length cp, .int .i64 y.s, .int .i64 y.e, .string y.n], .pointer (some ⟨b0, 0, none⟩)] w fun e w' => e = .returned (.bool (eqP l y)) ∧ Below w.heap.size w w' := by
  have hb0 : b0 < w.heap.size := World.block_lt_of_cell? w _ hc
  have hc1 : ∀ o, (w.alloc o).cell? ⟨b0, 0, none⟩ = some (.slice ga l.length cx) := fun o => by
    rw [World.cell?_alloc_lt _ _ _ hb0]; exact hc
  have HR : Hid (Reads w ad y.l ∧ Reads w ga l ∧ y.l.length ≤ maxLen ∧ l.length ≤ maxLen) := ⟨hx, hr, h1, h2⟩
  clear hc hx hr h1 h2
  go_enter Try.func23, Try.ntmps23
  go_wp2_with fail
  refine (calls_drew (implSame_any _ _ _ _ _ _ _ (HR.out.1.below (Go.Joins.below_alloc1 w _)) (HR.out.2.1.below (Go.Joins.below_alloc1 w _)) HR.out.2.2.1 HR.out.2.2.2)).mono ?_
  rintro e w1 ⟨rfl, hb1⟩
  have HB1 : Hid (Below w.heap.size w w1) := grow_on (Go.Joins.below_alloc1 w _) hb1
  clear hb1
  go_wp2
  go_ret
  exact ⟨rfl, HB1.out⟩
set_option maxHeartbeats 1600000 in
theorem indexM_any (b0 : Nat) (a ga : Option Addr) (cap cx : Nat) (P : List PAl) (l : List Lab) (w : World) (hr : RdA w a P) (hc : w.cell? ⟨b0, 0, none⟩ = some (.slice ga l.length cx)) (hl : Reads w ga l) (hll : l.length ≤ maxLen) (hP : P.length ≤ 1048576) (hs : LenP P) :
    Calls Try.prog 28 #[.slice a P.length cap, .func (.func 23) #[] #[.pointer (some ⟨b0, 0, none⟩)]] w fun e w' => (∃ x : Int, e = .returned (.int .i64 x) ∧ ((x = -1 ∧ aheadA (eqP l) P = P.length) ∨ (x = (aheadA (eqP l) P : Int) ∧ aheadA (eqP l) P < P.length))) ∧ Below w.heap.size w w' := by
  have HR : Hid (RdA w a P ∧ w.cell? ⟨b0, 0, none⟩ = some (.slice ga l.length cx) ∧ Reads w ga l ∧ l.length ≤ maxLen ∧ LenP P) := ⟨hr, hc, hl, hll, hs⟩
  have hb0 : b0 < w.heap.size := World.block_lt_of_cell? w _ hc
  clear hr hc hl hll hs
  go_enter Try.func28, Try.ntmps28
  go_wp2
  go_loopw [8] (fun i w' => ∃ k : Nat, i = .int .i64 k ∧ k ≤ P.length ∧ (∀ j, j < k → eqP l (nthP P j) = false) ∧ Below w.heap.size w w') (fun i _ => P.length - (intOf i).toNat)
  case atStart => exact ⟨0, rfl, Nat.zero_le _, fun j h => by omega, Below.refl _ _⟩
  case round =>
    obtain ⟨k, rfl, hk, hu, hw⟩ := hrel
    have HU : Hid (∀ j, j < k → eqP l (nthP P j) = false) := hu
    have HB : Hid (Below w.heap.size w wr) := hw
    clear hu hw
    by_cases hlt : k < P.length
    · have hlt' : (k : Int) < (P.length : Int) := by omega
      obtain ⟨b, off, rfl, hb, ad, cp, hat⟩ := (HR.out.1.below HB.out).get hlt
      have x0 := hat.c0
      have x1 := hat.c1
      have x2 := hat.c2
      have x3 := hat.c3
      have HC1 : Hid (Calls Try.prog 23 #[.agg #[.slice ad (nthP P k).l.length cp, .int .i64 (nthP P k).s, .int .i64 (nthP P k).e, .string (nthP P k).n], .pointer (some ⟨b0, 0, none⟩)] wr fun e w' => e = .returned (.bool (eqP l (nthP P k))) ∧ Below wr.heap.size wr w') := closM_any b0 ad ga cp cx (nthP P k) l wr ((HB.out.cell (p := ⟨b0, 0, none⟩) hb0).trans HR.out.2.1) hat.reads (HR.out.2.2.1.below HB.out) (HR.out.2.2.2.2 k hlt) HR.out.2.2.2.1
      clear hat
      cases he : eqP l (nthP P k) with
      | true =>
        rw [he] at HC1
        have HE : Hid (aheadA (eqP l) P = k) := find_at hlt HU.out he
        clear he
        go_wp2_with fail
        refine HC1.out.mono ?_
        rintro e w1 ⟨rfl, hb1⟩
        have HB1 : Hid (Below w.heap.size w w1) := grow_on HB.out hb1
        clear hb1 x0 x1 x2 x3 HC1
        go_wp2
        go_ret
        refine ⟨⟨(k : Int), rfl, .inr ?_⟩, HB1.out⟩
        rw [HE.out]
        exact ⟨rfl, hlt⟩
      | false =>
        rw [he] at HC1
        have HU1 : Hid (∀ j, j < k + 1 → eqP l (nthP P j) = false) := fun j hj => by
          by_cases e : j = k
          · subst e; exact he
          · exact HU.out j (by omega)
        clear he
        go_wp2_with fail
        refine HC1.out.mono ?_
        rintro e w1 ⟨rfl, hb1⟩
        have HB1 : Hid (Below w.heap.size w w1) := grow_on HB.out hb1
        clear hb1 x0 x1 x2 x3 HC1
        go_wp2
        go_roundw
        case rel => exact ⟨k + 1, by go_num, by omega, HU1.out, HB1.out⟩
        case measure => simp [intOf]; omega
    · have hge : ¬ (k : Int) < (P.length : Int) := by omega
      have HE : Hid (aheadA (eqP l) P = P.length) := find_end fun j hj => HU.out j (by omega)
      go_wp2
      go_ret
      exact ⟨⟨-1, rfl, .inl ⟨rfl, HE.out⟩⟩, HB.out⟩
theorem containsM_any (b0 : Nat) (a ga : Option Addr) (cap cx : Nat) (P : List PAl) (l : List Lab) (w : World) (hr : RdA w a P) (hc : w.cell? ⟨b0, 0, none⟩ = some (.slice ga l.length cx)) (hl : Reads w ga l) (hll : l.length ≤ maxLen) (hP : P.length ≤ 1048576) (hs : LenP P) :
    Calls Try.prog 22 #[.slice a P.length cap, .func (.func 23) #[] #[.pointer (some ⟨b0, 0, none⟩)]] w fun e w' => e = .returned (.bool (decide (aheadA (eqP l) P < P.length))) ∧ Below w.heap.size w w' := by
  have HC1 : Hid (Calls Try.prog 28 #[.slice a P.length cap, .func (.func 23) #[] #[.pointer (some ⟨b0, 0, none⟩)]] w fun e w' => (∃ x : Int, e = .returned (.int .i64 x) ∧ ((x = -1 ∧ aheadA (eqP l) P = P.length) ∨ (x = (aheadA (eqP l) P : Int) ∧ aheadA (eqP l) P < P.length))) ∧ Below w.heap.size w w') := indexM_any b0 a ga cap cx P l w hr hc hl hll hP hs
  clear hr hc hl hll hs
  go_enter Try.func22, Try.ntmps22
  go_wp2_with fail
  refine HC1.out.mono ?_
  rintro e w1 ⟨⟨x, rfl, hx⟩, hb1⟩
  have HB : Hid (Below w.heap.size w w1) := hb1
  clear hb1 HC1
  rcases hx with ⟨rfl, hx⟩ | ⟨hx0, hx⟩
  · have HN : Hid (decide (aheadA (eqP l) P < P.length) = false) := decide_eq_false (by omega)
    clear hx
    go_wp2
    go_ret
    exact ⟨retB HN.out.symm, HB.out⟩
  · have HN : Hid (decide (aheadA (eqP l) P < P.length) = true) := decide_eq_true hx
    have h0 : (0 : Int) ≤ x := by omega
    clear hx hx0
    go_wp2
    go_ret
    exact ⟨retB HN.out.symm, HB.out⟩
theorem hasL_eq (s : List Lab) (x : PGr) : hasL s x = decide (aheadA (eqP s) x.P < x.P.length) := by
  by_cases h : aheadA (eqP s) x.P < x.P.length
  · rw [decide_eq_true h]
    have h2 := List.findIdx_getElem (w := h) (xs := x.P) (p := eqP s)
    refine hasL_yes h ?_
    rw [nthP_eq h]
    exact of_decide_eq_true h2
  · rw [decide_eq_false h]
    refine hasL_no fun j hj e => h ?_
    refine Nat.lt_of_le_of_lt ?_ hj
    refine Nat.le_of_not_lt fun hlt => ?_
    have h3 := List.not_of_lt_findIdx (xs := x.P) (p := eqP s) (i := j) hlt
    rw [← nthP_eq hj] at h3
    exact absurd (decide_eq_true e) (by unfold eqP at h3; rw [h3]; simp)
set_option maxHeartbeats 1600000 in
theorem hasMember_any (ka ad sa : Option Addr) (kd cp sc : Nat) (x : PGr) (s : List Lab) (w : World) (hr : RdA w ad x.P) (hk : Reads w sa s) (hsl : s.length ≤ maxLen) (hP : x.P.length ≤ 1048576) (hs : LenP x.P) :
    Calls Try.prog 17 #[.agg #[.int .i64 x.n, .slice ka x.key.length kd, .int .i64 x.b, .int .i64 x.t, .slice ad x.P.length cp], .slice sa s.length sc] w fun e w' => e = .returned (.bool (hasL s x)) ∧ Below w.heap.size w w' := by
  have HC : Hid (∀ y c0, Below w.heap.size w y → y.cell? ⟨c0, 0, none⟩ = some (.slice sa s.length sc) → Calls Try.prog 22 #[.slice ad x.P.length cp, .func (.func 23) #[] #[.pointer (some ⟨c0, 0, none⟩)]] y fun e w' => e = .returned (.bool (hasL s x)) ∧ Below y.heap.size y w') := fun y c0 hy hc => by
    rw [hasL_eq]
    exact containsM_any c0 ad sa cp sc x.P s y (hr.below hy) hc (hk.below hy) hsl hP hs
  clear hr hk hs
  go_enter Try.func17, Try.ntmps17
  go_wp2_with fail
  refine (HC.out _ _ (Go.Joins.below_alloc2 w _ _) (by simp)).mono ?_
  rintro e w1 ⟨rfl, hb1⟩
  have HB : Hid (Below w.heap.size w w1) := grow_on (Go.Joins.below_alloc2 w _ _) hb1
  clear hb1 HC
  go_wp2
  go_ret
  exact ⟨rfl, HB.out⟩
set_option maxHeartbeats 3200000 in
theorem implMem_any (a sa : Option Addr) (cap sc : Nat) (U : List PGr) (s : List Lab) (w : World) (hr : RdGs GA w a U) (hk : Reads w sa s) (hl : U.length ≤ 1048576) (hsl : s.length ≤ maxLen) (hz : SmQ U) :
    Calls Try.prog 9 #[.slice a U.length cap, .slice sa s.length sc] w fun e w' => e = .returned (.int .i64 (memG U s)) ∧ Below w.heap.size w w' := by
  have HR : Hid (RdGs GA w a U ∧ Reads w sa s ∧ s.length ≤ maxLen ∧ SmQ U) := ⟨hr, hk, hsl, hz⟩
  clear hr hk hsl hz
  go_enter Try.func9, Try.ntmps9
  go_wp2
  go_loopw [9] (fun i w' => ∃ k : Nat, i = .int .i64 k ∧ k ≤ U.length ∧ (∀ j, j < k → hasL s (nthG U j) = false) ∧ Below w.heap.size w w') (fun i _ => U.length - (intOf i).toNat)
  case atStart => exact ⟨0, rfl, Nat.zero_le _, fun j h => by omega, Below.refl _ _⟩
  case round =>
    obtain ⟨k, rfl, hk, hu, hw0⟩ := hrel
    have HU : Hid (∀ j, j < k → hasL s (nthG U j) = false) := hu
    have HB : Hid (Below w.heap.size w wr) := hw0
    clear hu hw0
    by_cases hlt : k < U.length
    · have hlt' : (k : Int) < (U.length : Int) := by omega
      obtain ⟨b, off, rfl, hb, ka, kc, ad, cp, hat⟩ := (HR.out.1.below stays_ga HB.out).get hlt
      have x0 := hat.c0
      have x1 := hat.c1
      have x2 := hat.c2
      have x3 := hat.c3
      have x4 := hat.c4
      have HC : Hid (∀ y, Below wr.heap.size wr y → Calls Try.prog 17 #[.agg #[.int .i64 (nthG U k).n, .slice ka (nthG U k).key.length kc, .int .i64 (nthG U k).b, .int .i64 (nthG U k).t, .slice ad (nthG U k).P.length cp], .slice sa s.length sc] y fun e w' => e = .returned (.bool (hasL s (nthG U k))) ∧ Below y.heap.size y w') := fun y hy => hasMember_any ka ad sa kc cp sc (nthG U k) s y (hat.reads.2.below hy) (HR.out.2.1.below (grow_on HB.out hy)) HR.out.2.2.1 (HR.out.2.2.2 _ (nthG_mem hlt)).1 (fun i hi => by have := (HR.out.2.2.2 _ (nthG_mem hlt)).2 i hi; unfold maxLen; omega)
      clear hat
      cases he : hasL s (nthG U k) with
      | true =>
        rw [he] at HC
        have HE : Hid (memG U s = (nthG U k).n) := memG_at hlt HU.out he
        clear he
        go_wp2_with fail
        refine (HC.out _ (Go.Joins.below_alloc1 wr _)).mono ?_
        rintro e w1 ⟨rfl, hb1⟩
        have BG : Hid (Blk w1 wr.heap.size #[.int .i64 (nthG U k).n, .slice ka (nthG U k).key.length kc, .int .i64 (nthG U k).b, .int .i64 (nthG U k).t, .slice ad (nthG U k).P.length cp] 43) := (Blk.new _ _ _).grow hb1
        have g0 := BG.out.cell 0
        simp at g0
        have HB1 : Hid (Below w.heap.size w w1) := grow_on HB.out (grow_on (Go.Joins.below_alloc1 wr _) hb1)
        clear hb1 x0 x1 x2 x3 x4 HC
        go_wp2
        go_ret
        exact ⟨retN HE.out.symm, HB1.out⟩
      | false =>
        rw [he] at HC
        have HU1 : Hid (∀ j, j < k + 1 → hasL s (nthG U j) = false) := fun j hj => by
          by_cases e : j = k
          · subst e; exact he
          · exact HU.out j (by omega)
        clear he
        go_wp2_with fail
        refine (HC.out _ (Go.Joins.below_alloc1 wr _)).mono ?_
        rintro e w1 ⟨rfl, hb1⟩
        have HB1 : Hid (Below w.heap.size w w1) := grow_on HB.out (grow_on (Go.Joins.below_alloc1 wr _) hb1)
        clear hb1 x0 x1 x2 x3 x4 HC
        go_wp2
        go_roundw
        case rel => exact ⟨k + 1, by go_num, by omega, HU1.out, HB1.out⟩
        case measure => simp [intOf]; omega
    · have hge : ¬ (k : Int) < (U.length : Int) := by omega
      have HE : Hid (memG U s = -1) := memG_end fun j hj => HU.out j (by omega)
      go_wp2
      go_ret
      exact ⟨retN HE.out.symm, HB.out⟩
end Go.Proofs.Ytgncimlojbnbfab.GpIm
