/-
  PROVED: the contracts of the draws that FnWords makes: each returns, what is drawn is of its kind, and nothing that was there is changed.
-/
import Derived.Test.YtgncimlojbnbfaaGreatQDraw
import Derived.Test.YtgncimlojbnbfaaGreatQStrB
import Derived.Maps.AppendAt
set_option linter.unusedVariables false
namespace Go.Proofs.YtgncimlojbnbfaaGreat.Draw
open Go.RowKit

set_option maxHeartbeats 400000 in
theorem names_any (c : Nat) (w : World) (hc : Cur w c) :
    Calls Tryz.prog 130 #[.pointer (some ⟨c, 0, none⟩)] w fun e w' => (∃ s : ByteArray, e = .returned (.string s) ∧ s.size ≤ 100) ∧ Cur w' c ∧ Kept c w w' := by
  have HC : Hid (Cur w c) := hc
  clear hc
  go_enter Tryz.func130, Tryz.ntmps130
  go_wp2_with fail
  refine (str_any c _ _ _ _ _ ?hc ?hr ?h1 ?h2).mono ?_
  case hc => exact HC.out.alloc _
  case hr => exact row_lit (by decide) rfl HC.out.lt
  case h1 => decide
  case h2 => decide
  rintro e w1 ⟨⟨n, rfl, hn⟩, hc1, hk1⟩
  have HC1 : Hid (Cur w1 c ∧ Kept c w w1) := ⟨hc1, ((Kept.refl c w).alloc _).trans hk1⟩
  clear hc1 hk1
  go_wp2
  go_ret
  exact ⟨⟨_, rfl, hn⟩, HC1.out⟩

set_option maxHeartbeats 400000 in
theorem plainS_any (c : Nat) (w : World) (hc : Cur w c) :
    Calls Tryz.prog 57 #[.pointer (some ⟨c, 0, none⟩)] w fun e w' => (∃ s : ByteArray, e = .returned (.string s) ∧ s.size ≤ 100) ∧ Cur w' c ∧ Kept c w w' := by
  have HC : Hid (Cur w c) := hc
  clear hc
  go_enter Tryz.func57, Tryz.ntmps57
  go_wp2_with fail
  refine (str_any c _ _ _ _ _ ?hc ?hr ?h1 ?h2).mono ?_
  case hc => exact HC.out.alloc _
  case hr => exact row_lit (by decide) rfl HC.out.lt
  case h1 => decide
  case h2 => decide
  rintro e w1 ⟨⟨n, rfl, hn⟩, hc1, hk1⟩
  have HC1 : Hid (Cur w1 c ∧ Kept c w w1) := ⟨hc1, ((Kept.refl c w).alloc _).trans hk1⟩
  clear hc1 hk1
  go_wp2
  go_ret
  exact ⟨⟨_, rfl, hn⟩, HC1.out⟩

set_option maxHeartbeats 400000 in
theorem anyName_any (c : Nat) (w : World) (hc : Cur w c) :
    Calls Tryz.prog 111 #[.pointer (some ⟨c, 0, none⟩)] w fun e w' => (∃ s : ByteArray, e = .returned (.string s) ∧ s.size ≤ 100) ∧ Cur w' c ∧ Kept c w w' := by
  have HC : Hid (Cur w c) := hc
  clear hc
  go_enter Tryz.func111, Tryz.ntmps111
  go_wp2_with fail
  refine (once_any c 2 _ HC.out (by decide) (by decide)).mono ?_
  rintro e w1 ⟨⟨b, rfl⟩, hc1, hk1⟩
  have HC1 : Hid (Cur w1 c ∧ Kept c w w1) := ⟨hc1, hk1⟩
  clear hc1 hk1
  cases b with
  | true =>
    go_wp2_with fail
    refine (names_any c _ HC1.out.1).mono ?_
    rintro e w2 ⟨⟨n, rfl, hn⟩, hc2, hk2⟩
    have HC2 : Hid (Cur w2 c ∧ Kept c w w2) := ⟨hc2, HC1.out.2.trans hk2⟩
    clear hc2 hk2
    go_wp2
    go_ret
    exact ⟨⟨_, rfl, hn⟩, HC2.out⟩
  | false =>
    go_wp2_with fail
    refine (str_any c _ _ _ _ _ ?hc ?hr ?h1 ?h2).mono ?_
    case hc => exact HC1.out.1.alloc _
    case hr => exact row_lit (by decide) rfl HC1.out.1.lt
    case h1 => decide
    case h2 => decide
    rintro e w2 ⟨⟨n, rfl, hn⟩, hc2, hk2⟩
    have HC2 : Hid (Cur w2 c ∧ Kept c w w2) := ⟨hc2, (HC1.out.2.alloc _).trans hk2⟩
    clear hc2 hk2
    go_wp2
    go_ret
    exact ⟨⟨_, rfl, hn⟩, HC2.out⟩

set_option maxHeartbeats 400000 in
theorem anyPlain_any (c : Nat) (w : World) (hc : Cur w c) :
    Calls Tryz.prog 112 #[.pointer (some ⟨c, 0, none⟩)] w fun e w' => (∃ s : ByteArray, e = .returned (.string s) ∧ s.size ≤ 100) ∧ Cur w' c ∧ Kept c w w' := by
  have HC : Hid (Cur w c) := hc
  clear hc
  go_enter Tryz.func112, Tryz.ntmps112
  go_wp2_with fail
  refine (once_any c 2 _ HC.out (by decide) (by decide)).mono ?_
  rintro e w1 ⟨⟨b, rfl⟩, hc1, hk1⟩
  have HC1 : Hid (Cur w1 c ∧ Kept c w w1) := ⟨hc1, hk1⟩
  clear hc1 hk1
  cases b with
  | true =>
    go_wp2_with fail
    refine (plainS_any c _ HC1.out.1).mono ?_
    rintro e w2 ⟨⟨n, rfl, hn⟩, hc2, hk2⟩
    have HC2 : Hid (Cur w2 c ∧ Kept c w w2) := ⟨hc2, HC1.out.2.trans hk2⟩
    clear hc2 hk2
    go_wp2
    go_ret
    exact ⟨⟨_, rfl, hn⟩, HC2.out⟩
  | false =>
    go_wp2_with fail
    refine (str_any c _ _ _ _ _ ?hc ?hr ?h1 ?h2).mono ?_
    case hc => exact HC1.out.1.alloc _
    case hr => exact row_lit (by decide) rfl HC1.out.1.lt
    case h1 => decide
    case h2 => decide
    rintro e w2 ⟨⟨n, rfl, hn⟩, hc2, hk2⟩
    have HC2 : Hid (Cur w2 c ∧ Kept c w w2) := ⟨hc2, (HC1.out.2.alloc _).trans hk2⟩
    clear hc2 hk2
    go_wp2
    go_ret
    exact ⟨⟨_, rfl, hn⟩, HC2.out⟩

end Go.Proofs.YtgncimlojbnbfaaGreat.Draw
