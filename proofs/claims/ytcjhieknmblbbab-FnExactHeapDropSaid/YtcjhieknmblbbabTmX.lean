/-
  PROVED: copies, comparisons and marks of rows of timers of the call's own, as the exact laws of chapter 10 ask for them.
-/
import Derived.Test.YtcjhieknmblbbabTmR
namespace Go.Proofs.Ytcjhieknmblbbab.TmX
open Go.RowKit
open Go.Proofs.Ytcjhieknmblbbab.Hp Go.Proofs.Ytcjhieknmblbbab.Tms Go.Proofs.Ytcjhieknmblbbab.TmO Go.Proofs.Ytcjhieknmblbbab.TmR Go.Proofs.Ytcjhieknmblbbab.Over Go.Proofs.Ytcjhieknmblbbab.Blk
open Go.Proofs.Ytcjhieknmblbbab.Mark (Apart)
set_option linter.unusedVariables false
theorem copyT_any (a : Option Addr) (cap : Nat) (l : List Tm) (w : World) (hr : RdT w a l) (hl : l.length ≤ 1048576) :
    Calls Try.prog 7 #[.slice a l.length cap] w fun e w' => (e = .returned (.slice (some ⟨w.heap.size, 0, none⟩) l.length l.length) ∧ OT w.heap.size w' w.heap.size l.length l) ∧ Below w.heap.size w w' :=
  (to_any a cap l w hr hl).mono fun e w' ⟨he, ⟨cs, h1, h2, h3⟩, hb⟩ => ⟨⟨he, Nat.le_refl _, Nat.le_refl _, by unfold maxLen; omega, cs, h1, h2, h3⟩, hb⟩
theorem eqT_any (a a' : Option Addr) (cap cap' : Nat) (l : List Tm) (w : World) (hr : RdT w a l) (hr' : RdT w a' l) (hl : l.length ≤ maxLen) :
    Calls Try.prog 9 #[.slice a l.length cap, .slice a' l.length cap'] w fun e w' => e = .returned (.bool true) ∧ Below w.heap.size w w' :=
  (eq_any a a' cap cap' l l w hr hr' hl hl).mono fun e w' h => ⟨h.1.trans (retB (decide_eq_true rfl)), h.2⟩
theorem eq1_any (x : Tm) (w : World) :
    Calls Try.prog 20 #[.agg #[.int .i64 x.1, .int .i64 x.2], .agg #[.int .i64 x.1, .int .i64 x.2]] w fun e w' => e = .returned (.bool true) ∧ Below w.heap.size w w' :=
  (eqTm_any x x w).mono fun e w' h => ⟨h.1.trans (retB (decide_eq_true rfl)), h.2⟩
/-- a row whose timers are marked -/
def MT (w : World) (M k n : Nat) : Prop := ∃ cs : Array Value, Blk w M cs 33 ∧ MarkedT cs k n
theorem MT.grow {w w' : World} {M k n : Nat} (h : MT w M k n) (hb : Below w.heap.size w w') : MT w' M k n := by obtain ⟨cs, h1, h2⟩ := h; exact ⟨cs, h1.grow hb, h2⟩
theorem ot_apart {lo M c N : Nat} {w w' : World} {l : List Tm} (h : OT lo w M c l) (ha : Apart N w w') (hne : M ≠ N) : OT lo w' M c l :=
  ⟨h.lo, h.le, h.cap, by obtain ⟨cs, h1, h2⟩ := h.row; exact ⟨cs, ha.blk h1 hne, h2⟩⟩
theorem markT_any (lo M c cap k : Nat) (l : List Tm) (w : World) (h : OT lo w M c l) (hn : l.length ≤ 10000000) (hk : 1 ≤ k) (hk2 : k ≤ 1000000000) :
    Calls Try.prog 10 #[.slice (some ⟨M, 0, none⟩) l.length cap, .int .i64 k] w fun e w' => e = .returned (.int .i64 ((k + 2 * l.length : Nat) : Int)) ∧ MT w' M k l.length ∧ Apart M w w' := by
  obtain ⟨cs, h1, h2, h3⟩ := h.row
  exact (mark_any M l.length cap k cs w h1 (by rw [h2]; have := h.le; omega) hn hk hk2).mono fun e w' ⟨he, ⟨cs', h4, _, h5⟩, ha⟩ => ⟨he, ⟨cs', h4, h5⟩, ha⟩
theorem heldT_any (M n cap k : Nat) (w : World) (h : MT w M k n) (hn : n ≤ 10000000) (hk : 1 ≤ k) (hk2 : k ≤ 1000000000) :
    Calls Try.prog 11 #[.slice (some ⟨M, 0, none⟩) n cap, .int .i64 k] w fun e w' => e = .returned (.int .i64 ((k + 2 * n : Nat) : Int)) ∧ Below w.heap.size w w' := by
  obtain ⟨cs, h1, h2⟩ := h
  exact heldS_any M n cap k cs w h1 h2 hn hk hk2
end Go.Proofs.Ytcjhieknmblbbab.TmX
