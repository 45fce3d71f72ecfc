/-
  PROVED: spec.NextDue, spec.SameGroup and spec.SameBatch answer as plain functions say; nothing that was there is changed.
-/
import Derived.Test.YtekcmpjjfnijmaaQGrp
set_option linter.unusedVariables false
namespace Go.Proofs.Ytekcmpjjfnijmaa.GrpO
open Go.RowKit
open Labs LabS Alms AlmS AlmM Over Blk App Rws ChnI ChnC Grp
open StrB (retB)
def nextB (b t wait every : Int) : Int := if t = -1 then wrap64 (b + wait) else wrap64 (t + every)
theorem retN {x y : Int} (h : x = y) : Ending.returned (.int .i64 x) = .returned (.int .i64 y) := by rw [h]
theorem specNext_any (n b t wait every : Int) (v u : Value) (w : World) (hv : ∃ a k c, v = .slice a k c) (hu : ∃ a k c, u = .slice a k c) :
    Calls Try.prog 27 #[.agg #[.int .i64 n, v, .int .i64 b, .int .i64 t, u], .int .i64 wait, .int .i64 every] w fun e w' => e = .returned (.int .i64 (nextB b t wait every)) ∧ Below w.heap.size w w' := by
  obtain ⟨a1, k1, c1, rfl⟩ := hv
  obtain ⟨a2, k2, c2, rfl⟩ := hu
  by_cases h : t = -1
  · have HE : Hid (nextB b t wait every = wrap64 (b + wait)) := if_pos h
    subst h
    go_enter Try.func27, Try.ntmps27
    go_wp2
    go_ret
    exact ⟨retN HE.out.symm, Go.Joins.below_alloc1 w _⟩
  · have HE : Hid (nextB b t wait every = wrap64 (t + every)) := if_neg h
    have hb : (t == -1) = false := by simpa using h
    go_enter Try.func27, Try.ntmps27
    go_wp2
    go_ret
    exact ⟨retN HE.out.symm, Go.Joins.below_alloc1 w _⟩
def sameG (n b t : Int) (key : List Lab) (P : List PAl) (n' b' t' : Int) (key' : List Lab) (Q : List PAl) : Bool := decide (n = n') && decide (key = key') && decide (b = b') && decide (t = t') && sameLB P Q
set_option maxHeartbeats 1600000 in
theorem specSameG_any (n b t n' b' t' : Int) (ka ka' : Option Addr) (kc kc' : Nat) (key key' : List Lab) (a a' : Option Addr) (cap cap' : Nat) (P Q : List PAl) (w : World) (hk : Reads w ka key) (hk' : Reads w ka' key') (hkl : key.length ≤ maxLen) (hkl' : key'.length ≤ maxLen) (hr : RdA w a P) (hr' : RdA w a' Q) (hl : P.length ≤ 1048576) (hl' : Q.length ≤ 1048576) (hs : LenP P) (hs' : LenP Q) :
    Calls Try.prog 24 #[.agg #[.int .i64 n, .slice ka key.length kc, .int .i64 b, .int .i64 t, .slice a P.length cap], .agg #[.int .i64 n', .slice ka' key'.length kc', .int .i64 b', .int .i64 t', .slice a' Q.length cap']] w fun e w' => e = .returned (.bool (sameG n b t key P n' b' t' key' Q)) ∧ Below w.heap.size w w' := by
  have HR : Hid (RdA w a P ∧ RdA w a' Q ∧ LenP P ∧ LenP Q) := ⟨hr, hr', hs, hs'⟩
  have HK : Hid (Reads w ka key ∧ Reads w ka' key' ∧ key.length ≤ maxLen ∧ key'.length ≤ maxLen) := ⟨hk, hk', hkl, hkl'⟩
  have HW : Hid (Blk ((w.alloc (.cells #[.int .i64 n, .slice ka key.length kc, .int .i64 b, .int .i64 t, .slice a P.length cap] 27)).alloc (.cells #[.int .i64 n', .slice ka' key'.length kc', .int .i64 b', .int .i64 t', .slice a' Q.length cap'] 27)) w.heap.size #[.int .i64 n, .slice ka key.length kc, .int .i64 b, .int .i64 t, .slice a P.length cap] 27 ∧ Blk ((w.alloc (.cells #[.int .i64 n, .slice ka key.length kc, .int .i64 b, .int .i64 t, .slice a P.length cap] 27)).alloc (.cells #[.int .i64 n', .slice ka' key'.length kc', .int .i64 b', .int .i64 t', .slice a' Q.length cap'] 27)) (w.heap.size + 1) #[.int .i64 n', .slice ka' key'.length kc', .int .i64 b', .int .i64 t', .slice a' Q.length cap'] 27) := ⟨(Blk.new _ _ _).alloc _, Blk.new_at (by simp)⟩
  clear hr hr' hs hs' hk hk' hkl hkl'
  by_cases hn : n = n'
  · have HE : Hid (sameG n b t key P n' b' t' key' Q = (decide (key = key') && decide (b = b') && decide (t = t') && sameLB P Q)) := by unfold Hid sameG; rw [decide_eq_true hn, Bool.true_and]
    subst hn
    go_enter Try.func24, Try.ntmps24
    go_wp2_with fail
    refine (calls_drew (specSame_any ka ka' kc kc' key key' _ (HK.out.1.below (Go.Joins.below_alloc2 w _ _)) (HK.out.2.1.below (Go.Joins.below_alloc2 w _ _)) HK.out.2.2.1 HK.out.2.2.2)).mono ?_
    rintro r w1 ⟨rfl, hb⟩
    have HB1 : Hid (Below w.heap.size w w1) := grow_on (Go.Joins.below_alloc2 w _ _) hb
    have HP : Hid (Blk w1 w.heap.size #[.int .i64 n, .slice ka key.length kc, .int .i64 b, .int .i64 t, .slice a P.length cap] 27 ∧ Blk w1 (w.heap.size + 1) #[.int .i64 n, .slice ka' key'.length kc', .int .i64 b', .int .i64 t', .slice a' Q.length cap'] 27) := ⟨HW.out.1.grow hb, HW.out.2.grow hb⟩
    clear hb
    cases hd : decide (key = key') with
    | false =>
      replace HE : Hid (sameG n b t key P n b' t' key' Q = false) := by unfold Hid; rw [HE.out, hd]; rfl
      clear hd
      go_wp2
      go_ret
      exact ⟨retB HE.out.symm, HB1.out⟩
    | true =>
      replace HE : Hid (sameG n b t key P n b' t' key' Q = (decide (b = b') && decide (t = t') && sameLB P Q)) := by unfold Hid; rw [HE.out, hd]; rfl
      clear hd
      have p2 := HP.out.1.cell 2
      have q2 := HP.out.2.cell 2
      have p3 := HP.out.1.cell 3
      have q3 := HP.out.2.cell 3
      have p4 := HP.out.1.cell 4
      have q4 := HP.out.2.cell 4
      simp at p2 q2 p3 q3 p4 q4
      by_cases hb : b = b'
      · replace HE : Hid (sameG n b t key P n b' t' key' Q = (decide (t = t') && sameLB P Q)) := by unfold Hid; rw [HE.out, decide_eq_true hb]; rfl
        subst hb
        by_cases ht : t = t'
        · replace HE : Hid (sameG n b t key P n b t' key' Q = (sameLB P Q)) := by unfold Hid; rw [HE.out, decide_eq_true ht]; rfl
          subst ht
          go_wp2_with fail
          refine (ChnS.l4Same_any a a' cap cap' P Q _ (HR.out.1.below HB1.out) (HR.out.2.1.below HB1.out) hl hl' HR.out.2.2.1 HR.out.2.2.2).mono ?_
          rintro r w2 ⟨rfl, hb⟩
          have HB2 : Hid (Below w.heap.size w w2) := grow_on HB1.out hb
          clear hb p2 q2 p3 q3 p4 q4
          go_wp2
          go_ret
          exact ⟨retB HE.out.symm, HB2.out⟩
        · replace HE : Hid (sameG n b t key P n b t' key' Q = false) := by unfold Hid; rw [HE.out, decide_eq_false ht]; simp
          have dt : (t == t') = false := by simpa using ht
          go_wp2
          go_ret
          exact ⟨retB HE.out.symm, HB1.out⟩
      · replace HE : Hid (sameG n b t key P n b' t' key' Q = false) := by unfold Hid; rw [HE.out, decide_eq_false hb]; simp
        have db : (b == b') = false := by simpa using hb
        go_wp2
        go_ret
        exact ⟨retB HE.out.symm, HB1.out⟩
  · have HE : Hid (sameG n b t key P n' b' t' key' Q = false) := by unfold Hid sameG; rw [decide_eq_false hn]; simp
    have dn : (n == n') = false := by simpa using hn
    go_enter Try.func24, Try.ntmps24
    go_wp2
    go_ret
    exact ⟨retB HE.out.symm, Go.Joins.below_alloc2 w _ _⟩
def sameB (n b : Int) (key : List Lab) (P : List PAl) (n' b' : Int) (key' : List Lab) (Q : List PAl) : Bool := decide (n = n') && decide (key = key') && decide (b = b') && sameLB P Q
set_option maxHeartbeats 1600000 in
theorem specSameB_any (n b n' b' : Int) (ka ka' : Option Addr) (kc kc' : Nat) (key key' : List Lab) (a a' : Option Addr) (cap cap' : Nat) (P Q : List PAl) (w : World) (hk : Reads w ka key) (hk' : Reads w ka' key') (hkl : key.length ≤ maxLen) (hkl' : key'.length ≤ maxLen) (hr : RdA w a P) (hr' : RdA w a' Q) (hl : P.length ≤ 1048576) (hl' : Q.length ≤ 1048576) (hs : LenP P) (hs' : LenP Q) :
    Calls Try.prog 25 #[.agg #[.int .i64 n, .slice ka key.length kc, .int .i64 b, .slice a P.length cap], .agg #[.int .i64 n', .slice ka' key'.length kc', .int .i64 b', .slice a' Q.length cap']] w fun e w' => e = .returned (.bool (sameB n b key P n' b' key' Q)) ∧ Below w.heap.size w w' := by
  have HR : Hid (RdA w a P ∧ RdA w a' Q ∧ LenP P ∧ LenP Q) := ⟨hr, hr', hs, hs'⟩
  have HK : Hid (Reads w ka key ∧ Reads w ka' key' ∧ key.length ≤ maxLen ∧ key'.length ≤ maxLen) := ⟨hk, hk', hkl, hkl'⟩
  have HW : Hid (Blk ((w.alloc (.cells #[.int .i64 n, .slice ka key.length kc, .int .i64 b, .slice a P.length cap] 36)).alloc (.cells #[.int .i64 n', .slice ka' key'.length kc', .int .i64 b', .slice a' Q.length cap'] 36)) w.heap.size #[.int .i64 n, .slice ka key.length kc, .int .i64 b, .slice a P.length cap] 36 ∧ Blk ((w.alloc (.cells #[.int .i64 n, .slice ka key.length kc, .int .i64 b, .slice a P.length cap] 36)).alloc (.cells #[.int .i64 n', .slice ka' key'.length kc', .int .i64 b', .slice a' Q.length cap'] 36)) (w.heap.size + 1) #[.int .i64 n', .slice ka' key'.length kc', .int .i64 b', .slice a' Q.length cap'] 36) := ⟨(Blk.new _ _ _).alloc _, Blk.new_at (by simp)⟩
  clear hr hr' hs hs' hk hk' hkl hkl'
  by_cases hn : n = n'
  · have HE : Hid (sameB n b key P n' b' key' Q = (decide (key = key') && decide (b = b') && sameLB P Q)) := by unfold Hid sameB; rw [decide_eq_true hn, Bool.true_and]
    subst hn
    go_enter Try.func25, Try.ntmps25
    go_wp2_with fail
    refine (calls_drew (specSame_any ka ka' kc kc' key key' _ (HK.out.1.below (Go.Joins.below_alloc2 w _ _)) (HK.out.2.1.below (Go.Joins.below_alloc2 w _ _)) HK.out.2.2.1 HK.out.2.2.2)).mono ?_
    rintro r w1 ⟨rfl, hb⟩
    have HB1 : Hid (Below w.heap.size w w1) := grow_on (Go.Joins.below_alloc2 w _ _) hb
    have HP : Hid (Blk w1 w.heap.size #[.int .i64 n, .slice ka key.length kc, .int .i64 b, .slice a P.length cap] 36 ∧ Blk w1 (w.heap.size + 1) #[.int .i64 n, .slice ka' key'.length kc', .int .i64 b', .slice a' Q.length cap'] 36) := ⟨HW.out.1.grow hb, HW.out.2.grow hb⟩
    clear hb
    cases hd : decide (key = key') with
    | false =>
      replace HE : Hid (sameB n b key P n b' key' Q = false) := by unfold Hid; rw [HE.out, hd]; rfl
      clear hd
      go_wp2
      go_ret
      exact ⟨retB HE.out.symm, HB1.out⟩
    | true =>
      replace HE : Hid (sameB n b key P n b' key' Q = (decide (b = b') && sameLB P Q)) := by unfold Hid; rw [HE.out, hd]; rfl
      clear hd
      have p2 := HP.out.1.cell 2
      have q2 := HP.out.2.cell 2
      have p3 := HP.out.1.cell 3
      have q3 := HP.out.2.cell 3
      simp at p2 q2 p3 q3
      by_cases hb : b = b'
      · replace HE : Hid (sameB n b key P n b' key' Q = (sameLB P Q)) := by unfold Hid; rw [HE.out, decide_eq_true hb]; rfl
        subst hb
        go_wp2_with fail
        refine (ChnS.l4Same_any a a' cap cap' P Q _ (HR.out.1.below HB1.out) (HR.out.2.1.below HB1.out) hl hl' HR.out.2.2.1 HR.out.2.2.2).mono ?_
        rintro r w2 ⟨rfl, hb⟩
        have HB2 : Hid (Below w.heap.size w w2) := grow_on HB1.out hb
        clear hb p2 q2 p3 q3
        go_wp2
        go_ret
        exact ⟨retB HE.out.symm, HB2.out⟩
      · replace HE : Hid (sameB n b key P n b' key' Q = false) := by unfold Hid; rw [HE.out, decide_eq_false hb]; simp
        have db : (b == b') = false := by simpa using hb
        go_wp2
        go_ret
        exact ⟨retB HE.out.symm, HB1.out⟩
  · have HE : Hid (sameB n b key P n' b' key' Q = false) := by unfold Hid sameB; rw [decide_eq_false hn]; simp
    have dn : (n == n') = false := by simpa using hn
    go_enter Try.func25, Try.ntmps25
    go_wp2
    go_ret
    exact ⟨retB HE.out.symm, Go.Joins.below_alloc2 w _ _⟩
end Go.Proofs.Ytekcmpjjfnijmaa.GrpO
