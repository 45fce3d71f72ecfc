/-
  PROVED: over two lists of alarms in memory spec.l4Same, laws.sameList and slices.EqualFunc answer whether they are the same; nothing that was there is changed.
-/
import Derived.Test.YtgncimlojbnbfaaGreatQLst
set_option linter.unusedVariables false
namespace Go.Proofs.YtgncimlojbnbfaaGreat.ChnS
open Go.RowKit
open Labs LabS Alms AlmM Over Blk App Rws
open AlmS ChnI
open StrB (retB)
open Alm (at_par)
end Go.Proofs.YtgncimlojbnbfaaGreat.ChnS
namespace Go.Proofs.YtgncimlojbnbfaaGreat.ChnT
open Go.RowKit
open Labs LabS Alms AlmM Over Blk App Rws
open AlmS ChnI
open StrB (retB)
open Alm (at_par)
set_option maxHeartbeats 1600000 in
theorem equalF_any (a a' : Option Addr) (cap cap' : Nat) (P Q : List PAl) (w : World) (hr : RdA w a P) (hr' : RdA w a' Q) (hl : P.length ≤ 1048576) (hl' : Q.length ≤ 1048576) (hs : LenP P) (hs' : LenP Q) :
    Calls Tryz.prog 45 #[.slice a P.length cap, .slice a' Q.length cap', .func (.func 46) #[] #[]] w fun e w' => e = .returned (.bool (sameLB P Q)) ∧ Below w.heap.size w w' := by
  have HR : Hid (RdA w a P ∧ RdA w a' Q ∧ LenP P ∧ LenP Q) := ⟨hr, hr', hs, hs'⟩
  clear hr hr' hs hs'
  by_cases hlen : P.length = Q.length
  · have HL : Hid (P.length = Q.length) := hlen
    rw [← hlen]
    clear hlen hl'
    go_enter Tryz.func45, Tryz.ntmps45
    go_wp2
    go_loopw [17] (fun i w' => ∃ k : Nat, i = .int .i64 k ∧ k ≤ P.length ∧ (∀ j, j < k → sameX (nthP P j) (nthP Q j) = true) ∧ Below w.heap.size w w') (fun i _ => P.length - (intOf i).toNat)
    case atStart => exact ⟨0, rfl, Nat.zero_le _, fun j h => by omega, Below.refl _ _⟩
    case round =>
      obtain ⟨k, rfl, hk, hu, hw0⟩ := hrel
      have HU : Hid (∀ j, j < k → sameX (nthP P j) (nthP Q j) = true) := hu
      have HB : Hid (Below w.heap.size w wr) := hw0
      clear hw0 hu
      by_cases hlt : k < P.length
      · have hlt' : (k : Int) < (P.length : Int) := by omega
        have hltQ : k < Q.length := by rw [← HL.out]; exact hlt
        obtain ⟨b, off, rfl, hb, ad, cp, hat⟩ := (HR.out.1.below HB.out).get hlt
        obtain ⟨b', off', rfl, hb', ad', cp', hat'⟩ := (HR.out.2.1.below HB.out).get hltQ
        have x0 := hat.c0
        have x1 := hat.c1
        have x2 := hat.c2
        have x3 := hat.c3
        generalize hO : Obj.cells #[.slice ad (nthP P k).l.length cp, .int .i64 (nthP P k).s, .int .i64 (nthP P k).e, .string (nthP P k).n] 27 = Ob
        have hba := Go.Joins.below_alloc1 wr Ob
        have y0 := (hba.cell (p := ⟨b', off' + k * 4, none⟩) hb').trans hat'.c0
        have y1 := (hba.cell (p := ⟨b', off' + k * 4 + 1, none⟩) hb').trans hat'.c1
        have y2 := (hba.cell (p := ⟨b', off' + k * 4 + 2, none⟩) hb').trans hat'.c2
        have y3 := (hba.cell (p := ⟨b', off' + k * 4 + 3, none⟩) hb').trans hat'.c3
        subst hO
        clear hba
        have HC : Hid (∀ x, Below wr.heap.size wr x → Calls Tryz.prog 46 #[.agg #[.slice ad (nthP P k).l.length cp, .int .i64 (nthP P k).s, .int .i64 (nthP P k).e, .string (nthP P k).n], .agg #[.slice ad' (nthP Q k).l.length cp', .int .i64 (nthP Q k).s, .int .i64 (nthP Q k).e, .string (nthP Q k).n]] x fun e w' => e = .returned (.bool (sameX (nthP P k) (nthP Q k))) ∧ Below x.heap.size x w') := fun x hx => implSameA_any ad ad' cp cp' _ _ _ _ _ _ _ _ x (hat.reads.below hx) (hat'.reads.below hx) (HR.out.2.2.1 k hlt) (HR.out.2.2.2 k hltQ)
        clear hat hat' hltQ
        cases hx : sameX (nthP P k) (nthP Q k) with
        | true =>
          rw [hx] at HC
          have HU1 : Hid (∀ j, j < k + 1 → sameX (nthP P j) (nthP Q j) = true) := fun j hj => by
            by_cases e : j = k
            · subst e; exact hx
            · exact HU.out j (by omega)
          clear hx
          go_wp2_with fail
          refine (HC.out _ (Go.Joins.below_alloc2 wr _ _)).mono ?_
          rintro e w2 ⟨rfl, hb2⟩
          have HB2 : Hid (Below w.heap.size w w2) := grow_on HB.out (grow_on (Go.Joins.below_alloc2 wr _ _) hb2)
          clear hb2 x0 x1 x2 x3 y0 y1 y2 y3 HC
          go_wp2
          go_roundw
          case rel => exact ⟨k + 1, by go_num, by omega, HU1.out, HB2.out⟩
          case measure => simp [intOf]; omega
        | false =>
          rw [hx] at HC
          have HE : Hid (sameLB P Q = false) := same_bad hlt hx
          clear hx
          go_wp2_with fail
          refine (HC.out _ (Go.Joins.below_alloc2 wr _ _)).mono ?_
          rintro e w2 ⟨rfl, hb2⟩
          have HB2 : Hid (Below w.heap.size w w2) := grow_on HB.out (grow_on (Go.Joins.below_alloc2 wr _ _) hb2)
          clear hb2 x0 x1 x2 x3 y0 y1 y2 y3 HC
          go_wp2
          go_ret
          exact ⟨retB HE.out.symm, HB2.out⟩
      · have hge : ¬ (k : Int) < (P.length : Int) := by omega
        have HE : Hid (sameLB P Q = true) := same_good HL.out fun j hj => HU.out j (by omega)
        go_wp2
        go_ret
        exact ⟨retB HE.out.symm, HB.out⟩
  · have HE : Hid (sameLB P Q = false) := same_len hlen
    have hne : ¬ (P.length : Int) = (Q.length : Int) := by omega
    go_enter Tryz.func45, Tryz.ntmps45
    go_wp2
    go_ret
    exact ⟨retB HE.out.symm, Below.refl _ _⟩
end Go.Proofs.YtgncimlojbnbfaaGreat.ChnT
