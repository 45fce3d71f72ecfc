/-
  PROVED: the contracts of the draws that FnWords makes: each returns, what is drawn is of its kind, and nothing that was there is changed.
-/
import Derived.Test.YtmbejfbbolicfaaDraw
import Derived.Test.YtmbejfbbolicfaaStrB
import Derived.Maps.AppendAt
namespace Go.Proofs.Ytmbejfbbolicfaa.Draw
open Go.RowKit
set_option linter.unusedVariables false

set_option maxHeartbeats 400000 in
theorem names_any (c : Nat) (w : World) (hc : Cur w c) :
    Calls Try.prog 33 #[.pointer (some ⟨c, 0, none⟩)] w fun e w' => (∃ s : ByteArray, e = .returned (.string s) ∧ s.size ≤ 100) ∧ Cur w' c ∧ Kept c w w' := by
  have HC : Hid (Cur w c) := hc
  clear hc
  go_enter Try.func33, Try.ntmps33
  go_wp2_with fail
  refine (str_any c _ _ _ _ _ ?hc ?hr ?h1 ?h2).mono ?_
  case hc => exact HC.out.alloc _
  case hr => exact row_lit (by decide) rfl HC.out.lt
  case h1 => decide
  case h2 => decide
  rintro e w1 ⟨⟨n, rfl, hn⟩, hc1, hk1⟩
  have HC1 : Hid (Cur w1 c ∧ Kept c w w1) := ⟨hc1, ((Kept.refl c w).alloc _).trans hk1⟩
  clear hc1 hk1
  go_wp2
  go_ret
  exact ⟨⟨_, rfl, hn⟩, HC1.out⟩

set_option maxHeartbeats 400000 in
theorem plainS_any (c : Nat) (w : World) (hc : Cur w c) :
    Calls Try.prog 34 #[.pointer (some ⟨c, 0, none⟩)] w fun e w' => (∃ s : ByteArray, e = .returned (.string s) ∧ s.size ≤ 100) ∧ Cur w' c ∧ Kept c w w' := by
  have HC : Hid (Cur w c) := hc
  clear hc
  go_enter Try.func34, Try.ntmps34
  go_wp2_with fail
  refine (str_any c _ _ _ _ _ ?hc ?hr ?h1 ?h2).mono ?_
  case hc => exact HC.out.alloc _
  case hr => exact row_lit (by decide) rfl HC.out.lt
  case h1 => decide
  case h2 => decide
  rintro e w1 ⟨⟨n, rfl, hn⟩, hc1, hk1⟩
  have HC1 : Hid (Cur w1 c ∧ Kept c w w1) := ⟨hc1, ((Kept.refl c w).alloc _).trans hk1⟩
  clear hc1 hk1
  go_wp2
  go_ret
  exact ⟨⟨_, rfl, hn⟩, HC1.out⟩

set_option maxHeartbeats 400000 in
theorem anyName_any (c : Nat) (w : World) (hc : Cur w c) :
    Calls Try.prog 24 #[.pointer (some ⟨c, 0, none⟩)] w fun e w' => (∃ s : ByteArray, e = .returned (.string s) ∧ s.size ≤ 100) ∧ Cur w' c ∧ Kept c w w' := by
  have HC : Hid (Cur w c) := hc
  clear hc
  go_enter Try.func24, Try.ntmps24
  go_wp2_with fail
  refine (once_any c 2 _ HC.out (by decide) (by decide)).mono ?_
  rintro e w1 ⟨⟨b, rfl⟩, hc1, hk1⟩
  have HC1 : Hid (Cur w1 c ∧ Kept c w w1) := ⟨hc1, hk1⟩
  clear hc1 hk1
  cases b with
  | true =>
    go_wp2_with fail
    refine (names_any c _ HC1.out.1).mono ?_
    rintro e w2 ⟨⟨n, rfl, hn⟩, hc2, hk2⟩
    have HC2 : Hid (Cur w2 c ∧ Kept c w w2) := ⟨hc2, HC1.out.2.trans hk2⟩
    clear hc2 hk2
    go_wp2
    go_ret
    exact ⟨⟨_, rfl, hn⟩, HC2.out⟩
  | false =>
    go_wp2_with fail
    refine (str_any c _ _ _ _ _ ?hc ?hr ?h1 ?h2).mono ?_
    case hc => exact HC1.out.1.alloc _
    case hr => exact row_lit (by decide) rfl HC1.out.1.lt
    case h1 => decide
    case h2 => decide
    rintro e w2 ⟨⟨n, rfl, hn⟩, hc2, hk2⟩
    have HC2 : Hid (Cur w2 c ∧ Kept c w w2) := ⟨hc2, (HC1.out.2.alloc _).trans hk2⟩
    clear hc2 hk2
    go_wp2
    go_ret
    exact ⟨⟨_, rfl, hn⟩, HC2.out⟩

set_option maxHeartbeats 400000 in
theorem anyPlain_any (c : Nat) (w : World) (hc : Cur w c) :
    Calls Try.prog 25 #[.pointer (some ⟨c, 0, none⟩)] w fun e w' => (∃ s : ByteArray, e = .returned (.string s) ∧ s.size ≤ 100) ∧ Cur w' c ∧ Kept c w w' := by
  have HC : Hid (Cur w c) := hc
  clear hc
  go_enter Try.func25, Try.ntmps25
  go_wp2_with fail
  refine (once_any c 2 _ HC.out (by decide) (by decide)).mono ?_
  rintro e w1 ⟨⟨b, rfl⟩, hc1, hk1⟩
  have HC1 : Hid (Cur w1 c ∧ Kept c w w1) := ⟨hc1, hk1⟩
  clear hc1 hk1
  cases b with
  | true =>
    go_wp2_with fail
    refine (plainS_any c _ HC1.out.1).mono ?_
    rintro e w2 ⟨⟨n, rfl, hn⟩, hc2, hk2⟩
    have HC2 : Hid (Cur w2 c ∧ Kept c w w2) := ⟨hc2, HC1.out.2.trans hk2⟩
    clear hc2 hk2
    go_wp2
    go_ret
    exact ⟨⟨_, rfl, hn⟩, HC2.out⟩
  | false =>
    go_wp2_with fail
    refine (str_any c _ _ _ _ _ ?hc ?hr ?h1 ?h2).mono ?_
    case hc => exact HC1.out.1.alloc _
    case hr => exact row_lit (by decide) rfl HC1.out.1.lt
    case h1 => decide
    case h2 => decide
    rintro e w2 ⟨⟨n, rfl, hn⟩, hc2, hk2⟩
    have HC2 : Hid (Cur w2 c ∧ Kept c w w2) := ⟨hc2, (HC1.out.2.alloc _).trans hk2⟩
    clear hc2 hk2
    go_wp2
    go_ret
    exact ⟨⟨_, rfl, hn⟩, HC2.out⟩

set_option maxHeartbeats 400000 in
theorem drawName_any (a : Option Addr) (len cap : Nat) (w : World) (hl : len ≤ maxLen) (hb : Bytes w a len w.heap.size) :
    Calls Try.prog 5 #[.slice a len cap] w fun e w' => (∃ s : ByteArray, e = .returned (.string s) ∧ s.size ≤ 100) ∧ Below w.heap.size w w' := by
  have HB : Hid (Bytes w a len w.heap.size) := hb
  have HL : Hid (len ≤ maxLen) := hl
  clear hb hl
  go_enter Try.func5, Try.ntmps5
  go_wp2_with fail
  refine (new_any a len cap _ HL.out HB.out).mono ?_
  rintro e w1 ⟨rfl, hc1, hb1⟩
  have HC1 : Hid (Cur w1 w.heap.size ∧ Below w.heap.size w w1) := ⟨hc1, hb1⟩
  clear hc1 hb1
  go_wp2_with fail
  refine (anyName_any _ _ HC1.out.1).mono ?_
  rintro e w2 ⟨⟨s, rfl, hs⟩, hc2, hk2⟩
  have HB2 : Hid (Below w.heap.size w w2) := HC1.out.2.trans (hk2.below (Nat.le_refl _) HC1.out.2.size)
  clear hc2 hk2
  go_wp2
  go_ret
  exact ⟨⟨_, rfl, hs⟩, HB2.out⟩

set_option maxHeartbeats 400000 in
theorem drawPlain_any (a : Option Addr) (len cap : Nat) (w : World) (hl : len ≤ maxLen) (hb : Bytes w a len w.heap.size) :
    Calls Try.prog 6 #[.slice a len cap] w fun e w' => (∃ s : ByteArray, e = .returned (.string s) ∧ s.size ≤ 100) ∧ Below w.heap.size w w' := by
  have HB : Hid (Bytes w a len w.heap.size) := hb
  have HL : Hid (len ≤ maxLen) := hl
  clear hb hl
  go_enter Try.func6, Try.ntmps6
  go_wp2_with fail
  refine (new_any a len cap _ HL.out HB.out).mono ?_
  rintro e w1 ⟨rfl, hc1, hb1⟩
  have HC1 : Hid (Cur w1 w.heap.size ∧ Below w.heap.size w w1) := ⟨hc1, hb1⟩
  clear hc1 hb1
  go_wp2_with fail
  refine (anyPlain_any _ _ HC1.out.1).mono ?_
  rintro e w2 ⟨⟨s, rfl, hs⟩, hc2, hk2⟩
  have HB2 : Hid (Below w.heap.size w w2) := HC1.out.2.trans (hk2.below (Nat.le_refl _) HC1.out.2.size)
  clear hc2 hk2
  go_wp2
  go_ret
  exact ⟨⟨_, rfl, hs⟩, HB2.out⟩

set_option maxHeartbeats 400000 in
theorem drawLeast_any (a : Option Addr) (len cap : Nat) (w : World) (hl : len ≤ maxLen) (hb : Bytes w a len w.heap.size) :
    Calls Try.prog 9 #[.slice a len cap] w fun e w' => (∃ x y : Int, e = .returned (.tuple #[.int .i64 x, .int .i64 y])) ∧ Below w.heap.size w w' := by
  have HB : Hid (Bytes w a len w.heap.size) := hb
  have HL : Hid (len ≤ maxLen) := hl
  clear hb hl
  go_enter Try.func9, Try.ntmps9
  go_wp2_with fail
  refine (new_any a len cap _ HL.out HB.out).mono ?_
  rintro e w1 ⟨rfl, hc1, hb1⟩
  have HC1 : Hid (Cur w1 w.heap.size ∧ Below w.heap.size w w1) := ⟨hc1, hb1⟩
  clear hc1 hb1
  go_wp2_with fail
  refine (raw_any _ _ HC1.out.1).mono ?_
  rintro e w2 ⟨⟨x, rfl, hx⟩, hc2, hk2⟩
  have HC2 : Hid (Cur w2 w.heap.size ∧ Below w.heap.size w w2) := ⟨hc2, HC1.out.2.trans (hk2.below (Nat.le_refl _) HC1.out.2.size)⟩
  clear hc2 hk2 hx
  go_wp2_with fail
  refine (raw_any _ _ HC2.out.1).mono ?_
  rintro e w3 ⟨⟨y, rfl, hy⟩, hc3, hk3⟩
  have HB3 : Hid (Below w.heap.size w w3) := HC2.out.2.trans (hk3.below (Nat.le_refl _) HC2.out.2.size)
  clear hc3 hk3 hy
  go_wp2
  go_ret2
  exact ⟨⟨_, _, rfl⟩, HB3.out⟩

set_option maxHeartbeats 400000 in
theorem drawMost_any (a : Option Addr) (len cap : Nat) (w : World) (hl : len ≤ maxLen) (hb : Bytes w a len w.heap.size) :
    Calls Try.prog 10 #[.slice a len cap] w fun e w' => (∃ x y : Int, e = .returned (.tuple #[.int .i64 x, .int .i64 y])) ∧ Below w.heap.size w w' := by
  have HB : Hid (Bytes w a len w.heap.size) := hb
  have HL : Hid (len ≤ maxLen) := hl
  clear hb hl
  go_enter Try.func10, Try.ntmps10
  go_wp2_with fail
  refine (new_any a len cap _ HL.out HB.out).mono ?_
  rintro e w1 ⟨rfl, hc1, hb1⟩
  have HC1 : Hid (Cur w1 w.heap.size ∧ Below w.heap.size w w1) := ⟨hc1, hb1⟩
  clear hc1 hb1
  go_wp2_with fail
  refine (raw_any _ _ HC1.out.1).mono ?_
  rintro e w2 ⟨⟨x, rfl, hx⟩, hc2, hk2⟩
  have HC2 : Hid (Cur w2 w.heap.size ∧ Below w.heap.size w w2) := ⟨hc2, HC1.out.2.trans (hk2.below (Nat.le_refl _) HC1.out.2.size)⟩
  clear hc2 hk2 hx
  go_wp2_with fail
  refine (raw_any _ _ HC2.out.1).mono ?_
  rintro e w3 ⟨⟨y, rfl, hy⟩, hc3, hk3⟩
  have HB3 : Hid (Below w.heap.size w w3) := HC2.out.2.trans (hk3.below (Nat.le_refl _) HC2.out.2.size)
  clear hc3 hk3 hy
  go_wp2
  go_ret2
  exact ⟨⟨_, _, rfl⟩, HB3.out⟩

set_option maxHeartbeats 400000 in
theorem drawLess_any (a : Option Addr) (len cap : Nat) (w : World) (hl : len ≤ maxLen) (hb : Bytes w a len w.heap.size) :
    Calls Try.prog 7 #[.slice a len cap] w fun e w' => (∃ s t : ByteArray, e = .returned (.tuple #[.string s, .string t])) ∧ Below w.heap.size w w' := by
  have HB : Hid (Bytes w a len w.heap.size) := hb
  have HL : Hid (len ≤ maxLen) := hl
  clear hb hl
  go_enter Try.func7, Try.ntmps7
  go_wp2_with fail
  refine (new_any a len cap _ HL.out HB.out).mono ?_
  rintro e w1 ⟨rfl, hc1, hb1⟩
  have HC1 : Hid (Cur w1 w.heap.size ∧ Below w.heap.size w w1) := ⟨hc1, hb1⟩
  clear hc1 hb1
  go_wp2_with fail
  refine (str_any w.heap.size _ _ _ _ _ ?hc ?hr ?h1 ?h2).mono ?_
  case hc => exact HC1.out.1.alloc _
  case hr => exact row_lit (by decide) rfl HC1.out.1.lt
  case h1 => decide
  case h2 => decide
  rintro e w2 ⟨⟨s, rfl, hs⟩, hc2, hk2⟩
  have HC2 : Hid (Cur w2 w.heap.size ∧ Below w.heap.size w w2) := ⟨hc2, (HC1.out.2.alloc HC1.out.2.size _).trans (hk2.below (Nat.le_refl _) (by simp; exact Nat.le_succ_of_le HC1.out.2.size))⟩
  clear hc2 hk2 hs
  go_wp2_with fail
  refine (str_any w.heap.size _ _ _ _ _ ?hc ?hr ?h1 ?h2).mono ?_
  case hc => exact HC2.out.1.alloc _
  case hr => exact row_lit (by decide) rfl HC2.out.1.lt
  case h1 => decide
  case h2 => decide
  rintro e w3 ⟨⟨t, rfl, ht⟩, hc3, hk3⟩
  have HB3 : Hid (Below w.heap.size w w3) := (HC2.out.2.alloc HC2.out.2.size _).trans (hk3.below (Nat.le_refl _) (by simp; exact Nat.le_succ_of_le HC2.out.2.size))
  clear hc3 hk3 ht
  go_wp2
  go_ret2
  exact ⟨⟨_, _, rfl⟩, HB3.out⟩
end Go.Proofs.Ytmbejfbbolicfaa.Draw
