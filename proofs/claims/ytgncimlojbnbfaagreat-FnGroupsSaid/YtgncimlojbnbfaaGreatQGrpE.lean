/-
  PROVED: impl.SameGroup and impl.SameBatch answer as plain functions on numbers and lists say; nothing that was there is changed.
-/
import Derived.Test.YtgncimlojbnbfaaGreatQGrpO
set_option linter.unusedVariables false
namespace Go.Proofs.YtgncimlojbnbfaaGreat.GrpI
open Go.RowKit
open Labs LabS Alms AlmS AlmM Over Blk App Rws ChnI ChnC Grp GrpO
open StrB (retB)
set_option maxHeartbeats 1600000 in
theorem implSameG_any (n b t n' b' t' : Int) (ka ka' : Option Addr) (kc kc' : Nat) (key key' : List Lab) (a a' : Option Addr) (cap cap' : Nat) (P Q : List PAl) (w : World) (hk : Reads w ka key) (hk' : Reads w ka' key') (hkl : key.length ≤ maxLen) (hkl' : key'.length ≤ maxLen) (hr : RdA w a P) (hr' : RdA w a' Q) (hl : P.length ≤ 1048576) (hl' : Q.length ≤ 1048576) (hs : LenP P) (hs' : LenP Q) :
    Calls Tryz.prog 43 #[.agg #[.int .i64 n, .slice ka key.length kc, .int .i64 b, .int .i64 t, .slice a P.length cap], .agg #[.int .i64 n', .slice ka' key'.length kc', .int .i64 b', .int .i64 t', .slice a' Q.length cap']] w fun e w' => e = .returned (.bool (sameG n b t key P n' b' t' key' Q)) ∧ Below w.heap.size w w' := by
  have HR : Hid (RdA w a P ∧ RdA w a' Q ∧ LenP P ∧ LenP Q) := ⟨hr, hr', hs, hs'⟩
  have HK : Hid (Reads w ka key ∧ Reads w ka' key' ∧ key.length ≤ maxLen ∧ key'.length ≤ maxLen) := ⟨hk, hk', hkl, hkl'⟩
  clear hr hr' hs hs' hk hk' hkl hkl'
  by_cases hn : n = n'
  · subst hn
    by_cases hb : b = b'
    · subst hb
      by_cases ht : t = t'
      · subst ht
        go_enter Tryz.func43, Tryz.ntmps43
        go_wp2_with fail
        refine (calls_drew (implSame_any ka ka' kc kc' key key' _ (HK.out.1.below (Go.Joins.below_alloc2 w _ _)) (HK.out.2.1.below (Go.Joins.below_alloc2 w _ _)) HK.out.2.2.1 HK.out.2.2.2)).mono ?_
        rintro r w1 ⟨rfl, hb⟩
        have HB1 : Hid (Below w.heap.size w w1) := grow_on (Go.Joins.below_alloc2 w _ _) hb
        have HP : Hid (Blk w1 w.heap.size #[.int .i64 n, .slice ka key.length kc, .int .i64 b, .int .i64 t, .slice a P.length cap] 53 ∧ Blk w1 (w.heap.size + 1) #[.int .i64 n, .slice ka' key'.length kc', .int .i64 b, .int .i64 t, .slice a' Q.length cap'] 53) := ⟨((Blk.new _ _ _).alloc _).grow hb, (Blk.new_at (by simp)).grow hb⟩
        clear hb
        cases hd : decide (key = key') with
        | false =>
          have HE : Hid (sameG n b t key P n b t key' Q = false) := by unfold Hid sameG; simp [hd]
          clear hd
          go_wp2
          go_ret
          exact ⟨retB HE.out.symm, HB1.out⟩
        | true =>
          have HE : Hid (sameG n b t key P n b t key' Q = sameLB P Q) := by unfold Hid sameG; simp [hd]
          clear hd
          have p4 := HP.out.1.cell 4
          have q4 := HP.out.2.cell 4
          simp at p4 q4
          go_wp2_with fail
          refine (ChnT.equalF_any a a' cap cap' P Q _ (HR.out.1.below HB1.out) (HR.out.2.1.below HB1.out) hl hl' HR.out.2.2.1 HR.out.2.2.2).mono ?_
          rintro r w2 ⟨rfl, hb⟩
          have HB2 : Hid (Below w.heap.size w w2) := grow_on HB1.out hb
          clear hb p4 q4
          go_wp2
          go_ret
          exact ⟨retB HE.out.symm, HB2.out⟩
      · have HE : Hid (sameG n b t key P n b t' key' Q = false) := by unfold Hid sameG; simp [ht]
        have dt : (t == t') = false := by simpa using ht
        go_enter Tryz.func43, Tryz.ntmps43
        go_wp2
        go_ret
        exact ⟨retB HE.out.symm, Go.Joins.below_alloc2 w _ _⟩
    · have HE : Hid (sameG n b t key P n b' t' key' Q = false) := by unfold Hid sameG; simp [hb]
      have db : (b == b') = false := by simpa using hb
      go_enter Tryz.func43, Tryz.ntmps43
      go_wp2
      go_ret
      exact ⟨retB HE.out.symm, Go.Joins.below_alloc2 w _ _⟩
  · have HE : Hid (sameG n b t key P n' b' t' key' Q = false) := by unfold Hid sameG; simp [hn]
    have dn : (n == n') = false := by simpa using hn
    go_enter Tryz.func43, Tryz.ntmps43
    go_wp2
    go_ret
    exact ⟨retB HE.out.symm, Go.Joins.below_alloc2 w _ _⟩
set_option maxHeartbeats 1600000 in
theorem implSameB_any (n b n' b' : Int) (ka ka' : Option Addr) (kc kc' : Nat) (key key' : List Lab) (a a' : Option Addr) (cap cap' : Nat) (P Q : List PAl) (w : World) (hk : Reads w ka key) (hk' : Reads w ka' key') (hkl : key.length ≤ maxLen) (hkl' : key'.length ≤ maxLen) (hr : RdA w a P) (hr' : RdA w a' Q) (hl : P.length ≤ 1048576) (hl' : Q.length ≤ 1048576) (hs : LenP P) (hs' : LenP Q) :
    Calls Tryz.prog 16 #[.agg #[.int .i64 n, .slice ka key.length kc, .int .i64 b, .slice a P.length cap], .agg #[.int .i64 n', .slice ka' key'.length kc', .int .i64 b', .slice a' Q.length cap']] w fun e w' => e = .returned (.bool (sameB n b key P n' b' key' Q)) ∧ Below w.heap.size w w' := by
  have HR : Hid (RdA w a P ∧ RdA w a' Q ∧ LenP P ∧ LenP Q) := ⟨hr, hr', hs, hs'⟩
  have HK : Hid (Reads w ka key ∧ Reads w ka' key' ∧ key.length ≤ maxLen ∧ key'.length ≤ maxLen) := ⟨hk, hk', hkl, hkl'⟩
  clear hr hr' hs hs' hk hk' hkl hkl'
  by_cases hn : n = n'
  · subst hn
    by_cases hb : b = b'
    · subst hb
      go_enter Tryz.func16, Tryz.ntmps16
      go_wp2_with fail
      refine (calls_drew (implSame_any ka ka' kc kc' key key' _ (HK.out.1.below (Go.Joins.below_alloc2 w _ _)) (HK.out.2.1.below (Go.Joins.below_alloc2 w _ _)) HK.out.2.2.1 HK.out.2.2.2)).mono ?_
      rintro r w1 ⟨rfl, hb⟩
      have HB1 : Hid (Below w.heap.size w w1) := grow_on (Go.Joins.below_alloc2 w _ _) hb
      have HP : Hid (Blk w1 w.heap.size #[.int .i64 n, .slice ka key.length kc, .int .i64 b, .slice a P.length cap] 37 ∧ Blk w1 (w.heap.size + 1) #[.int .i64 n, .slice ka' key'.length kc', .int .i64 b, .slice a' Q.length cap'] 37) := ⟨((Blk.new _ _ _).alloc _).grow hb, (Blk.new_at (by simp)).grow hb⟩
      clear hb
      cases hd : decide (key = key') with
      | false =>
        have HE : Hid (sameB n b key P n b key' Q = false) := by unfold Hid sameB; simp [hd]
        clear hd
        go_wp2
        go_ret
        exact ⟨retB HE.out.symm, HB1.out⟩
      | true =>
        have HE : Hid (sameB n b key P n b key' Q = sameLB P Q) := by unfold Hid sameB; simp [hd]
        clear hd
        have p4 := HP.out.1.cell 3
        have q4 := HP.out.2.cell 3
        simp at p4 q4
        go_wp2_with fail
        refine (ChnT.equalF_any a a' cap cap' P Q _ (HR.out.1.below HB1.out) (HR.out.2.1.below HB1.out) hl hl' HR.out.2.2.1 HR.out.2.2.2).mono ?_
        rintro r w2 ⟨rfl, hb⟩
        have HB2 : Hid (Below w.heap.size w w2) := grow_on HB1.out hb
        clear hb p4 q4
        go_wp2
        go_ret
        exact ⟨retB HE.out.symm, HB2.out⟩
    · have HE : Hid (sameB n b key P n b' key' Q = false) := by unfold Hid sameB; simp [hb]
      have db : (b == b') = false := by simpa using hb
      go_enter Tryz.func16, Tryz.ntmps16
      go_wp2
      go_ret
      exact ⟨retB HE.out.symm, Go.Joins.below_alloc2 w _ _⟩
  · have HE : Hid (sameB n b key P n' b' key' Q = false) := by unfold Hid sameB; simp [hn]
    have dn : (n == n') = false := by simpa using hn
    go_enter Tryz.func16, Tryz.ntmps16
    go_wp2
    go_ret
    exact ⟨retB HE.out.symm, Go.Joins.below_alloc2 w _ _⟩
end Go.Proofs.YtgncimlojbnbfaaGreat.GrpI
