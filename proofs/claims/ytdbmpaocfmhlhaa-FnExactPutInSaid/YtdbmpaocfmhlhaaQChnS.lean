/-
  PROVED: over a chain in memory impl.ChainOk answers as a plain function on lists says; nothing that was there is changed.
  PROVED: over chains in memory spec.InChain, spec.ChainOk, spec.SameChain and impl.SameChain answer as plain functions on lists say; nothing that was there is changed.
-/
import Derived.Test.YtdbmpaocfmhlhaaQChnI
import Derived.Test.YtdbmpaocfmhlhaaQFing
namespace Go.Proofs.Ytdbmpaocfmhlhaa.ChnO
open Go.RowKit
open Go.Proofs.Ytdbmpaocfmhlhaa.Labs Go.Proofs.Ytdbmpaocfmhlhaa.LabS Go.Proofs.Ytdbmpaocfmhlhaa.Alms Go.Proofs.Ytdbmpaocfmhlhaa.AlmS Go.Proofs.Ytdbmpaocfmhlhaa.Over Go.Proofs.Ytdbmpaocfmhlhaa.Blk Go.Proofs.Ytdbmpaocfmhlhaa.Rnd Go.Proofs.Ytdbmpaocfmhlhaa.Plc Go.Proofs.Ytdbmpaocfmhlhaa.Lop Go.Proofs.Ytdbmpaocfmhlhaa.App Go.Proofs.Ytdbmpaocfmhlhaa.Rws Go.Proofs.Ytdbmpaocfmhlhaa.ChnI
open Go.Proofs.Ytdbmpaocfmhlhaa.Fing (fingerB)
open Go.Proofs.Ytdbmpaocfmhlhaa.StrB (retB)
set_option linter.unusedVariables false
attribute [local go_sem] Oper.semAt_some

/-- whether the i-th alarm may stand where it does -/
def okC (f : Int) (P : List PAl) (i : Nat) : Bool := alarmB (nthP P i).l (nthP P i).s (nthP P i).e (nthP P i).n && (decide ((fingerB (nthP P i).l : Int) = f) && decide (idxB P (nthP P i).l = (i : Int)))
def chainB (f : Int) (P : List PAl) : Bool := (List.range P.length).all (okC f P) && decide (0 < P.length)
theorem okC_y {f : Int} {P : List PAl} {i : Nat} (h1 : alarmB (nthP P i).l (nthP P i).s (nthP P i).e (nthP P i).n = true) (h2 : (fingerB (nthP P i).l : Int) = f) (h3 : idxB P (nthP P i).l = (i : Int)) : okC f P i = true := by simp [okC, h1, h2, h3]
end Go.Proofs.Ytdbmpaocfmhlhaa.ChnO
namespace Go.Proofs.Ytdbmpaocfmhlhaa.ChnS
open Go.RowKit
open Go.Proofs.Ytdbmpaocfmhlhaa.Labs Go.Proofs.Ytdbmpaocfmhlhaa.LabS Go.Proofs.Ytdbmpaocfmhlhaa.Alms Go.Proofs.Ytdbmpaocfmhlhaa.AlmS Go.Proofs.Ytdbmpaocfmhlhaa.Over Go.Proofs.Ytdbmpaocfmhlhaa.Blk Go.Proofs.Ytdbmpaocfmhlhaa.Rws Go.Proofs.Ytdbmpaocfmhlhaa.ChnI Go.Proofs.Ytdbmpaocfmhlhaa.ChnO
open Go.Proofs.Ytdbmpaocfmhlhaa.Fing (fingerB)
open Go.Proofs.Ytdbmpaocfmhlhaa.StrB (retB)
open Go.Proofs.Ytdbmpaocfmhlhaa.Alm (at_par)
set_option linter.unusedVariables false

set_option maxHeartbeats 1600000 in
theorem specIn_any (f : Int) (a a' : Option Addr) (cap cap' : Nat) (P : List PAl) (q : List Lab) (w : World) (hr : RdA w a P) (hr' : Reads w a' q) (hl : P.length ≤ 1048576) (hs : LenP P) (hq : q.length ≤ maxLen) :
    Calls Try.prog 49 #[.agg #[.int .i64 f, .slice a P.length cap], .slice a' q.length cap'] w fun e w' => e = .returned (.int .i64 (idxB P q)) ∧ Below w.heap.size w w' := by
  have HR : Hid (RdA w a P ∧ Reads w a' q ∧ LenP P ∧ q.length ≤ maxLen) := ⟨hr, hr', hs, hq⟩
  clear hr hr' hs hq
  go_enter Try.func49, Try.ntmps49
  go_wp2
  go_loopw [5] (fun i w' => ∃ k : Nat, i = .int .i64 k ∧ k ≤ P.length ∧ (∀ j, j < k → (nthP P j).l ≠ q) ∧ Below (w.alloc (.cells #[.int .i64 f, .slice a P.length cap] 64)).heap.size (w.alloc (.cells #[.int .i64 f, .slice a P.length cap] 64)) w') (fun i _ => P.length - (intOf i).toNat)
  case atStart => exact ⟨0, rfl, Nat.zero_le _, fun j h => by omega, Below.refl _ _⟩
  case round =>
    obtain ⟨k, rfl, hk, hu, hw⟩ := hrel
    have HU : Hid (∀ j, j < k → (nthP P j).l ≠ q) := hu
    have c1 : wr.cell? ⟨w.heap.size, 1, none⟩ = some (.slice a P.length cap) := at_par hw 1 rfl
    have HB0 : Hid (Below (w.alloc (.cells #[.int .i64 f, .slice a P.length cap] 64)).heap.size (w.alloc (.cells #[.int .i64 f, .slice a P.length cap] 64)) wr) := hw
    have HB : Hid (Below w.heap.size w wr) := grow_on (Go.Joins.below_alloc1 w _) hw
    clear hu hw
    by_cases hlt : k < P.length
    · have hlt' : (k : Int) < (P.length : Int) := by omega
      obtain ⟨b, off, rfl, hb, ad, cp, hat⟩ := (HR.out.1.below HB.out).get hlt
      have h2 := hat.c0
      have HC1 : Hid (Calls Try.prog 70 #[.slice ad (nthP P k).l.length cp, .slice a' q.length cap'] wr fun e w' => e = .returned (.bool (decide ((nthP P k).l = q))) ∧ Below wr.heap.size wr w') := calls_drew (specSame_any _ _ _ _ _ _ wr hat.reads (HR.out.2.1.below HB.out) (HR.out.2.2.1 k hlt) HR.out.2.2.2)
      clear hat
      by_cases he : (nthP P k).l = q
      · have HY : Hid (idxB P q = (k : Int)) := idx_hit HU.out he hlt
        have hd : decide ((nthP P k).l = q) = true := decide_eq_true he
        clear he
        go_wp2_with fail
        refine HC1.out.mono ?_
        rintro e w1 ⟨rfl, hb1⟩
        have HB1 : Hid (Below w.heap.size w w1) := grow_on HB.out hb1
        clear hb1
        go_wp2
        go_ret
        exact ⟨ChnI.retI HY.out.symm, HB1.out⟩
      · have HU1 : Hid (∀ j, j < k + 1 → (nthP P j).l ≠ q) := fun j hj => by
          by_cases e : j = k
          · subst e; exact he
          · exact HU.out j (by omega)
        have hd : decide ((nthP P k).l = q) = false := decide_eq_false he
        clear he
        go_wp2_with fail
        refine HC1.out.mono ?_
        rintro e w1 ⟨rfl, hb1⟩
        have HB1 : Hid (Below (w.alloc (.cells #[.int .i64 f, .slice (some ⟨b, off, none⟩) P.length cap] 64)).heap.size (w.alloc (.cells #[.int .i64 f, .slice (some ⟨b, off, none⟩) P.length cap] 64)) w1) := grow_on HB0.out hb1
        clear hb1 c1 h2
        go_wp2
        go_roundw
        case rel => exact ⟨k + 1, by go_num, by omega, HU1.out, HB1.out⟩
        case measure => simp [intOf]; omega
    · have hge : ¬ (k : Int) < (P.length : Int) := by omega
      have HN : Hid (idxB P q = -1) := idx_miss fun j hj => HU.out j (by omega)
      go_wp2
      go_ret
      exact ⟨ChnI.retI HN.out.symm, HB.out⟩

theorem ok_first {f : Int} {P : List PAl} {i : Nat} (hi : i < P.length) (h1 : alarmB (nthP P i).l (nthP P i).s (nthP P i).e (nthP P i).n = true) (h2 : (fingerB (nthP P i).l : Int) = f) (h3 : ∀ j, j < i → (nthP P j).l ≠ (nthP P i).l) : okC f P i = true := okC_y h1 h2 (idx_hit h3 rfl hi)
end Go.Proofs.Ytdbmpaocfmhlhaa.ChnS
