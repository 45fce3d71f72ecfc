/-
  PROVED: over a slice of parts in memory spec.HomeOf and impl.HomeOf answer alike, as a plain function says; so does impl.homePart, by a pointer; nothing that was there is changed.
-/
import Derived.Test.YtooninmicfcfoaaGreatQSts
import Derived.Test.YtooninmicfcfoaaGreatQPrt
set_option linter.unusedVariables false
namespace Go.Proofs.YtooninmicfcfoaaGreat.StsH
open Go.RowKit
open Labs LabS Over Blk Chs Prt Sts
open Fing (fingerB finger_lt)
open Sums (partB)

def homeN (n : Nat) (l : List Lab) : Nat := if n = 0 then 0 else fingerB l % n
theorem home_lt {n : Nat} {l : List Lab} (h : 0 < n) : homeN n l < n := by unfold homeN; rw [if_neg (by omega)]; exact Nat.mod_lt _ h
theorem home_part (n : Nat) (l : List Lab) : partB (fingerB l : Int) (n : Int) = (homeN n l : Int) := by
  unfold partB homeN
  by_cases h : n = 0
  · rw [if_pos (by omega), if_pos h]; rfl
  · rw [if_neg (by omega), if_neg h]; omega
theorem specHome_any (a a' : Option Addr) (n cap cap' : Nat) (l : List Lab) (w : World) (hr : Reads w a' l) (hn : n ≤ maxLen) (hl : l.length ≤ maxLen) (hz : LabT.Fits l) :
    Calls Tryz.prog 49 #[.slice a n cap, .slice a' l.length cap'] w fun e w' => e = .returned (.int .i64 (homeN n l)) ∧ Below w.heap.size w w' := by
  unfold maxLen at hn
  have HC : Hid (Calls Tryz.prog 70 #[.slice a' l.length cap'] w fun e w' => e = .returned (.int .i64 (fingerB l)) ∧ Below w.heap.size w w') := Fing.specFinger_any a' cap' l w hr hl hz
  have HE : Hid (partB (fingerB l : Int) (n : Int) = (homeN n l : Int)) := home_part n l
  have hf := finger_lt l
  clear hr hl hz
  generalize homeN n l = h at HE ⊢
  generalize fingerB l = f at HC HE hf
  go_enter Tryz.func49, Tryz.ntmps49
  go_wp2_with fail
  refine HC.out.mono ?_
  rintro e w1 ⟨rfl, hb⟩
  have HB : Hid (Below w.heap.size w w1) := hb
  clear hb
  go_wp2_with fail
  refine (Sums.specPart_any (f : Int) (n : Int) _ (by omega) (by omega) (by omega) (by omega)).mono ?_
  rintro e w2 ⟨rfl, rfl⟩
  rw [HE.out]
  go_wp2
  go_ret
  exact ⟨rfl, HB.out⟩
theorem implHome_any (a a' : Option Addr) (n cap cap' : Nat) (l : List Lab) (w : World) (hr : Reads w a' l) (hn : n ≤ maxLen) (hl : l.length ≤ maxLen) (hz : LabT.Fits l) :
    Calls Tryz.prog 48 #[.slice a n cap, .slice a' l.length cap'] w fun e w' => e = .returned (.int .i64 (homeN n l)) ∧ Below w.heap.size w w' := by
  unfold maxLen at hn
  have HC : Hid (Calls Tryz.prog 65 #[.slice a' l.length cap'] w fun e w' => e = .returned (.int .i64 (fingerB l)) ∧ Below w.heap.size w w') := Fing.implFinger_any a' cap' l w hr hl hz
  have HE : Hid (partB (fingerB l : Int) (n : Int) = (homeN n l : Int)) := home_part n l
  have hf := finger_lt l
  clear hr hl hz
  generalize homeN n l = h at HE ⊢
  generalize fingerB l = f at HC HE hf
  go_enter Tryz.func48, Tryz.ntmps48
  go_wp2_with fail
  refine HC.out.mono ?_
  rintro e w1 ⟨rfl, hb⟩
  have HB : Hid (Below w.heap.size w w1) := hb
  clear hb
  go_wp2_with fail
  refine (Sums.implPart_any (f : Int) (n : Int) _ (by omega) (by omega) (by omega) (by omega)).mono ?_
  rintro e w2 ⟨rfl, rfl⟩
  rw [HE.out]
  go_wp2
  go_ret
  exact ⟨rfl, HB.out⟩
theorem homeNone_any (a a' : Option Addr) (cap cap' : Nat) (l : List Lab) (w : World) :
    Calls Tryz.prog 98 #[.slice a 0 cap, .slice a' l.length cap'] w fun e w' => e = .returned (.pointer none) ∧ w' = w := by
  go_enter Tryz.func98, Tryz.ntmps98
  go_wp2
  go_ret
  exact ⟨rfl, rfl⟩
theorem homePart_any (b off n cap cap' : Nat) (a' : Option Addr) (l : List Lab) (w : World) (h0 : 0 < n) (hr : Reads w a' l) (hn : n ≤ maxLen) (hl : l.length ≤ maxLen) (hz : LabT.Fits l) :
    Calls Tryz.prog 98 #[.slice (some ⟨b, off, none⟩) n cap, .slice a' l.length cap'] w fun e w' => e = .returned (.pointer (some ⟨b, off + homeN n l * 3, none⟩)) ∧ Below w.heap.size w w' := by
  unfold maxLen at hn
  have HC : Hid (Calls Tryz.prog 48 #[.slice (some ⟨b, off, none⟩) n cap, .slice a' l.length cap'] w fun e w' => e = .returned (.int .i64 (homeN n l)) ∧ Below w.heap.size w w') := implHome_any _ _ n cap cap' l w hr (by unfold maxLen; omega) hl hz
  have hk := home_lt (l := l) h0
  have hne : ((n : Int) == 0) = false := by simp; omega
  have hne2 : ¬ n = 0 := by omega
  clear hr hl hz
  generalize homeN n l = h at HC hk ⊢
  have hk' : (h : Int) < (n : Int) := by omega
  go_enter Tryz.func98, Tryz.ntmps98
  go_wp2_with fail
  refine HC.out.mono ?_
  rintro e w1 ⟨rfl, hb⟩
  have HB : Hid (Below w.heap.size w w1) := hb
  clear hb
  go_wp2
  go_ret
  exact ⟨rfl, HB.out⟩
end Go.Proofs.YtooninmicfcfoaaGreat.StsH
