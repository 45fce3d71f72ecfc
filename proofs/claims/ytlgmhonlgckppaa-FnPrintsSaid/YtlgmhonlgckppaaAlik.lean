/-
  PROVED: over two slices of labels in memory spec.Alike and impl.Alike answer alike, as a plain function says; nothing that was there is changed.
-/
import Derived.Test.YtlgmhonlgckppaaFing
namespace Go.Proofs.Ytlgmhonlgckppaa.Alik
open Go.RowKit
open Go.Proofs.Ytlgmhonlgckppaa.Labs Go.Proofs.Ytlgmhonlgckppaa.LabS Go.Proofs.Ytlgmhonlgckppaa.LabO Go.Proofs.Ytlgmhonlgckppaa.Fing
open Go.Proofs.Ytlgmhonlgckppaa.Over
set_option linter.unusedVariables false

theorem alike_same {l m : List Lab} (h : l = m) : alikeB l m = false := by subst h; exact alike_self l
theorem alike_ne {l m : List Lab} (h : l ≠ m) : alikeB l m = decide ((fingerB l : Int) = (fingerB m : Int)) := by unfold alikeB; rw [decide_eq_false h]; rfl
set_option maxHeartbeats 800000 in
theorem specAlike_any (a a' : Option Addr) (cap cap' : Nat) (l m : List Lab) (w : World) (hr : Reads w a l) (hr' : Reads w a' m) (hl : l.length ≤ maxLen) (hm : m.length ≤ maxLen) (hz : Fits l) (hz' : Fits m) :
    Calls Try.prog 23 #[.slice a l.length cap, .slice a' m.length cap'] w fun e w' => e = .returned (.bool (alikeB l m)) ∧ Below w.heap.size w w' := by
  have R0 : Hid (Reads w a l) := hr
  have R1 : Hid (Reads w a' m) := hr'
  have M0 : Hid (l.length ≤ maxLen) := hl
  have M1 : Hid (m.length ≤ maxLen) := hm
  have F0 : Hid (Fits l) := hz
  have F1 : Hid (Fits m) := hz'
  have HC : Hid (Calls Try.prog 47 #[.slice a l.length cap, .slice a' m.length cap'] w fun e w' => e = .returned (.bool (decide (l = m))) ∧ Below w.heap.size w w') := calls_drew (specSame_any a a' cap cap' l m w hr hr' hl hm)
  clear hr hr' hl hm hz hz'
  by_cases he : l = m
  · have HA : Hid (alikeB l m = false) := alike_same he
    rw [decide_eq_true he] at HC
    clear he
    go_enter Try.func23, Try.ntmps23
    go_wp2_with fail
    refine HC.out.mono ?_
    rintro e w1 ⟨rfl, hb⟩
    have HB : Hid (Below w.heap.size w w1) := hb
    clear hb
    go_wp2
    go_ret
    exact ⟨retB HA.out.symm, HB.out⟩
  · have HA : Hid (alikeB l m = decide ((fingerB l : Int) = (fingerB m : Int))) := alike_ne he
    rw [decide_eq_false he] at HC
    clear he
    go_enter Try.func23, Try.ntmps23
    go_wp2_with fail
    refine HC.out.mono ?_
    rintro e w1 ⟨rfl, hb⟩
    have HB : Hid (Below w.heap.size w w1) := hb
    clear hb
    go_wp2_with fail
    refine (specFinger_any _ _ l _ (R0.out.below HB.out) M0.out F0.out).mono ?_
    rintro e w2 ⟨rfl, hb⟩
    have HB2 : Hid (Below w.heap.size w w2) := grow_on HB.out hb
    clear hb
    go_wp2_with fail
    refine (specFinger_any _ _ m _ (R1.out.below HB2.out) M1.out F1.out).mono ?_
    rintro e w3 ⟨rfl, hb⟩
    have HB3 : Hid (Below w.heap.size w w3) := grow_on HB2.out hb
    clear hb
    generalize (fingerB l : Int) = x at HA ⊢
    generalize (fingerB m : Int) = y at HA ⊢
    by_cases hq : x = y
    · have HQ : Hid (alikeB l m = true) := HA.out.trans (decide_eq_true hq)
      clear HA
      go_wp2
      go_ret
      exact ⟨retB HQ.out.symm, HB3.out⟩
    · have HQ : Hid (alikeB l m = false) := HA.out.trans (decide_eq_false hq)
      have hq2 : (x == y) = false := by simpa using hq
      clear HA
      go_wp2
      go_ret
      exact ⟨retB HQ.out.symm, HB3.out⟩
set_option maxHeartbeats 800000 in
theorem implAlike_any (a a' : Option Addr) (cap cap' : Nat) (l m : List Lab) (w : World) (hr : Reads w a l) (hr' : Reads w a' m) (hl : l.length ≤ maxLen) (hm : m.length ≤ maxLen) (hz : Fits l) (hz' : Fits m) :
    Calls Try.prog 22 #[.slice a l.length cap, .slice a' m.length cap'] w fun e w' => e = .returned (.bool (alikeB l m)) ∧ Below w.heap.size w w' := by
  have R0 : Hid (Reads w a l) := hr
  have R1 : Hid (Reads w a' m) := hr'
  have M0 : Hid (l.length ≤ maxLen) := hl
  have M1 : Hid (m.length ≤ maxLen) := hm
  have F0 : Hid (Fits l) := hz
  have F1 : Hid (Fits m) := hz'
  have HC : Hid (Calls Try.prog 29 #[.slice a l.length cap, .slice a' m.length cap'] w fun e w' => e = .returned (.bool (decide (l = m))) ∧ Below w.heap.size w w') := calls_drew (implSame_any a a' cap cap' l m w hr hr' hl hm)
  clear hr hr' hl hm hz hz'
  by_cases he : l = m
  · have HA : Hid (alikeB l m = false) := alike_same he
    rw [decide_eq_true he] at HC
    clear he
    go_enter Try.func22, Try.ntmps22
    go_wp2_with fail
    refine HC.out.mono ?_
    rintro e w1 ⟨rfl, hb⟩
    have HB : Hid (Below w.heap.size w w1) := hb
    clear hb
    go_wp2
    go_ret
    exact ⟨retB HA.out.symm, HB.out⟩
  · have HA : Hid (alikeB l m = decide ((fingerB l : Int) = (fingerB m : Int))) := alike_ne he
    rw [decide_eq_false he] at HC
    clear he
    go_enter Try.func22, Try.ntmps22
    go_wp2_with fail
    refine HC.out.mono ?_
    rintro e w1 ⟨rfl, hb⟩
    have HB : Hid (Below w.heap.size w w1) := hb
    clear hb
    go_wp2_with fail
    refine (implFinger_any _ _ l _ (R0.out.below HB.out) M0.out F0.out).mono ?_
    rintro e w2 ⟨rfl, hb⟩
    have HB2 : Hid (Below w.heap.size w w2) := grow_on HB.out hb
    clear hb
    go_wp2_with fail
    refine (implFinger_any _ _ m _ (R1.out.below HB2.out) M1.out F1.out).mono ?_
    rintro e w3 ⟨rfl, hb⟩
    have HB3 : Hid (Below w.heap.size w w3) := grow_on HB2.out hb
    clear hb
    generalize (fingerB l : Int) = x at HA ⊢
    generalize (fingerB m : Int) = y at HA ⊢
    by_cases hq : x = y
    · have HQ : Hid (alikeB l m = true) := HA.out.trans (decide_eq_true hq)
      clear HA
      go_wp2
      go_ret
      exact ⟨retB HQ.out.symm, HB3.out⟩
    · have HQ : Hid (alikeB l m = false) := HA.out.trans (decide_eq_false hq)
      have hq2 : (x == y) = false := by simpa using hq
      clear HA
      go_wp2
      go_ret
      exact ⟨retB HQ.out.symm, HB3.out⟩
end Go.Proofs.Ytlgmhonlgckppaa.Alik
