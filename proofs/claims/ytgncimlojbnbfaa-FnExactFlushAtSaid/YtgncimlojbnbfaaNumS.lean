/-
  PROVED: the contract of spec.NumText at every int: it answers the digits of the number, with a minus ahead where it is below nought; nothing that was there is changed.
-/
import Derived.Test.YtgncimlojbnbfaaRows
import Derived.WalkKit
import Derived.WalkLawsBesides
import Derived.WalkSpells
import Derived.Below
import Derived.WalkSmall
import Derived.Lib.ItoaNum
import Derived.Lib.ItoaMem
import Derived.Lib.SlBytesConst
namespace Go.Proofs.Ytgncimlojbnbfaa.NumS
open Go.RowKit
set_option linter.unusedVariables false

/-- the digits of what is left, none of nought -/
def pre (q : Nat) : List UInt8 := if q = 0 then [] else Lib.decDigits q
def dgt (q : Nat) : UInt8 := UInt8.ofNat (48 + q % 10)
theorem pre_step (q : Nat) (h : q ≠ 0) : pre q = pre (q / 10) ++ [dgt q] := by
  unfold pre dgt
  rw [if_neg h, Lib.decDigits]
  by_cases h10 : q < 10
  · rw [dif_pos h10, if_pos (by omega), Nat.mod_eq_of_lt h10]; rfl
  · rw [dif_neg h10, if_neg (by omega)]
theorem retS {a b : ByteArray} (h : a = b) : Ending.returned (.string a) = .returned (.string b) := by rw [h]
theorem itoa_zero : (⟨#[48]⟩ : ByteArray) = ⟨(Lib.itoa 0).toArray⟩ := by
  have : Lib.itoa 0 = [48] := by unfold Lib.itoa; rw [if_neg (by decide), Lib.decDigits, dif_pos (by decide)]; rfl
  rw [this]
theorem byte_conv (W : World) (q : Nat) : (convert 105 9 (.slice (some ⟨W.heap.size, 0, none⟩) 1 1)).run Try.prog (W.alloc (.cells #[.int .u8 (48 + (q : Int) % 10)] 5)) = .ok (.string ⟨#[dgt q]⟩) (W.alloc (.cells #[.int .u8 (48 + (q : Int) % 10)] 5)) := by
  have h := run_convert_bytes_back (P := Try.prog) (W.alloc (.cells #[.int .u8 (48 + (q : Int) % 10)] 5)) 105 9 5 ⟨W.heap.size, 0, none⟩ 1 [UInt8.ofNat (48 + q % 10)] Try.underlying105 Try.underlying5 Try.underlying9 (fun j hj => by
    have e : j = 0 := by simp at hj; omega
    subst e
    have ea : (⟨W.heap.size, 0, none⟩ : Addr).add 0 = ⟨W.heap.size, 0, none⟩ := by simp [Addr.add]
    rw [ea, World.cell?_alloc_new]
    have en : ((UInt8.ofNat (48 + q % 10)).toNat : Int) = 48 + (q : Int) % 10 := by
      rw [UInt8.toNat_ofNat']; omega
    show some _ = some _
    rw [← en]; rfl)
  exact h
theorem digits_le (m : Nat) (h1 : 1 ≤ m) (h : m < 18446744073709551616) : (Lib.decDigits m).length ≤ 20 := by
  rw [Lib.decDigits_length]
  have := Lib.numDigits_eq m h1 h
  split at this <;> omega
theorem size_of {q m : Nat} {sb : ByteArray} (h : pre q ++ sb.data.toList = Lib.decDigits m) (h1 : 1 ≤ m) (h2 : m < 18446744073709551616) : sb.size ≤ 20 := by
  have hl := digits_le m h1 h2
  rw [← h] at hl
  simp at hl
  have : sb.size = sb.data.size := rfl
  omega
theorem cat_step {q m : Nat} {sb : ByteArray} (h : pre q ++ sb.data.toList = Lib.decDigits m) (hq : q ≠ 0) : pre (q / 10) ++ (ByteArray.mk #[dgt q] ++ sb).data.toList = Lib.decDigits m := by
  rw [← h, pre_step q hq]
  simp [ByteArray.data_append]
theorem done_of {m : Nat} {sb : ByteArray} (h : pre 0 ++ sb.data.toList = Lib.decDigits m) : sb = ⟨(Lib.decDigits m).toArray⟩ := by
  rw [← h]; rfl
theorem pre_zero : pre 0 = [] := rfl

end Go.Proofs.Ytgncimlojbnbfaa.NumS
