/-
  PROVED: over any string spec.Sum and impl.Sum answer alike, as a plain function on its bytes says, between nought and 2 to the 32; spec.PartOf and impl.PartOf answer the remainder, nought at wrong input; nothing is changed.
-/
import Derived.Test.YtcopckbpflmmeaaSetP
import Derived.Laws.BitsAllLaws
namespace Go.Proofs.Ytcopckbpflmmeaa.Sums
open Go.RowKit
open Go.Proofs.Ytcopckbpflmmeaa.SetP (bs)
set_option linter.unusedVariables false

def stepU (h : Nat) (c : UInt8) : Nat := ((h ^^^ c.toNat) * 16777619) % 4294967296
def sumAt (s : ByteArray) (k : Nat) : Nat := ((bs s).take k).foldl stepU 2166136261
def sumB (s : ByteArray) : Nat := (bs s).foldl stepU 2166136261
theorem sum_zero (s : ByteArray) : sumAt s 0 = 2166136261 := by simp [sumAt]
theorem sum_all (s : ByteArray) : sumAt s s.size = sumB s := by
  unfold sumAt sumB
  rw [List.take_of_length_le]
  show s.data.toList.length ≤ s.data.size
  simp
theorem fold_up {f : Nat → UInt8 → Nat} {z : Nat} {s : ByteArray} {k : Nat} (h : k < s.size) : ((bs s).take (k + 1)).foldl f z = f (((bs s).take k).foldl f z) s[k] := by
  have hk : k < (bs s).length := by show k < s.data.toList.length; simpa using h
  rw [← List.take_append_getElem hk, List.foldl_append]
  rfl
theorem sum_up {s : ByteArray} {k : Nat} (h : k < s.size) : sumAt s (k + 1) = stepU (sumAt s k) s[k] := fold_up h
theorem step_lt (h : Nat) (c : UInt8) : stepU h c < 4294967296 := Nat.mod_lt _ (by decide)
theorem fold_lt (l : List UInt8) : ∀ h, h < 4294967296 → l.foldl stepU h < 4294967296 := by
  induction l with
  | nil => exact fun h hh => hh
  | cons c l ih => exact fun h _ => ih _ (step_lt h c)
theorem sumAt_lt (s : ByteArray) (k : Nat) : sumAt s k < 4294967296 := fold_lt _ _ (by decide)
theorem sumB_lt (s : ByteArray) : sumB s < 4294967296 := fold_lt _ _ (by decide)
theorem xor_lt {x c : Nat} (hx : x < 4294967296) (hc : c < 256) : x ^^^ c < 4294967296 := Nat.xor_lt_two_pow (n := 32) hx (by omega)
theorem ofInt64 (a : Nat) (h : a < 18446744073709551616) : (BitVec.ofInt 64 (a : Int)).toNat = a := by rw [BitVec.toNat_ofInt]; omega
theorem i64_xor (a b : Nat) (ha : a < 4294967296) (hb : b < 4294967296) : bits .xor .i64 (a : Int) (b : Int) = ((a ^^^ b : Nat) : Int) := by
  have hx : a ^^^ b < 2 ^ 32 := Nat.xor_lt_two_pow (by omega) (by omega)
  show IntKind.i64.wrap ((BitVec.ofInt 64 (a : Int) ^^^ BitVec.ofInt 64 (b : Int)).toNat : Int) = _
  rw [BitVec.toNat_xor, ofInt64 a (by omega), ofInt64 b (by omega), IntKind.wrap_i64]
  omega
theorem i64_and32 (n : Int) : bits .and .i64 n 4294967295 = n % 4294967296 := by
  have h127 : (BitVec.ofInt 64 4294967295).toNat = 2 ^ 32 - 1 := by decide
  have key : (BitVec.ofInt 64 n &&& BitVec.ofInt 64 4294967295).toNat = (n % ((2 ^ 64 : Nat) : Int)).toNat % 2 ^ 32 := by
    rw [BitVec.toNat_and, BitVec.toNat_ofInt, h127, Nat.and_two_pow_sub_one_eq_mod]
  show IntKind.i64.wrap ((BitVec.ofInt 64 n &&& BitVec.ofInt 64 4294967295).toNat : Nat) = n % 4294967296
  rw [key, IntKind.wrap_i64]
  omega
theorem retI {a b : Int} (h : a = b) : Ending.returned (.int .i64 a) = .returned (.int .i64 b) := by rw [h]
theorem i64_of {x y : Int} (h : x = y) : Value.int .i64 x = .int .i64 y := by rw [h]
theorem u32_of {x y : Int} (h : x = y) : Value.int .u32 x = .int .u32 y := by rw [h]

set_option maxHeartbeats 400000 in
theorem specSum_any (s : ByteArray) (w : World) (hs : s.size ≤ maxLen) :
    Calls Try.prog 104 #[.string s] w fun e w' => e = .returned (.int .i64 (sumB s)) ∧ w' = w := by
  unfold maxLen at hs
  go_enter Try.func104, Try.ntmps104
  go_wp2
  go_loop [3, 4] (fun h i => ∃ k : Nat, k ≤ s.size ∧ i = .int .i64 k ∧ h = .int .i64 (sumAt s k)) (fun h i => s.size - (intOf i).toNat)
  case atStart => exact ⟨0, Nat.zero_le _, rfl, by rw [sum_zero]; rfl⟩
  case round =>
    obtain ⟨k, hk, rfl, rfl⟩ := hrel
    by_cases hlt : k < s.size
    · have hlt' : (k : Int) < s.size := by omega
      have hup := sum_up hlt
      have hx0 := sumAt_lt s k
      generalize sumAt s k = x at hup hx0 ⊢
      have hc : s[k].toNat < 256 := s[k].toNat_lt
      unfold stepU at hup
      have hb := i64_xor x s[k].toNat hx0 (by omega)
      have hy0 := xor_lt hx0 hc
      generalize x ^^^ s[k].toNat = y at hup hb hy0
      have ha := i64_and32 ((y : Int) * 16777619)
      have HU : Hid (sumAt s (k + 1) = y * 16777619 % 4294967296) := hup
      clear hup
      go_wp2
      go_round
      case rel => exact ⟨k + 1, by omega, by go_num, i64_of (by rw [HU.out]; omega)⟩
      case measure => simp [intOf]; omega
    · have hge : ¬ (k : Int) < s.size := by omega
      obtain rfl : k = s.size := by omega
      have HE : Hid (sumAt s s.size = sumB s) := sum_all s
      go_wp2
      go_ret
      exact ⟨retI (by rw [HE.out]), rfl⟩

set_option maxHeartbeats 400000 in
theorem implSum_any (s : ByteArray) (w : World) (hs : s.size ≤ maxLen) :
    Calls Try.prog 99 #[.string s] w fun e w' => e = .returned (.int .i64 (sumB s)) ∧ w' = w := by
  unfold maxLen at hs
  go_enter Try.func99, Try.ntmps99
  go_wp2
  go_loop [3, 7] (fun h i => ∃ k : Nat, k ≤ s.size ∧ i = .int .i64 k ∧ h = .int .u32 (sumAt s k)) (fun h i => s.size - (intOf i).toNat)
  case atStart => exact ⟨0, Nat.zero_le _, rfl, by rw [sum_zero]; rfl⟩
  case round =>
    obtain ⟨k, hk, rfl, rfl⟩ := hrel
    by_cases hlt : k < s.size
    · have hlt' : (k : Int) < s.size := by omega
      have hup := sum_up hlt
      have hx0 := sumAt_lt s k
      generalize sumAt s k = x at hup hx0 ⊢
      have hc : s[k].toNat < 256 := s[k].toNat_lt
      unfold stepU at hup
      have hb := u32_xor_nat x s[k].toNat hx0 (by omega)
      have hy0 := xor_lt hx0 hc
      generalize x ^^^ s[k].toNat = y at hup hb hy0
      have HU : Hid (sumAt s (k + 1) = y * 16777619 % 4294967296) := hup
      clear hup
      go_wp2
      go_round
      case rel => exact ⟨k + 1, by omega, by go_num, u32_of (by rw [HU.out]; first | omega | (rw [IntKind.wrap_u32]; omega))⟩
      case measure => simp [intOf]; omega
    · have hge : ¬ (k : Int) < s.size := by omega
      obtain rfl : k = s.size := by omega
      have HE : Hid (sumAt s s.size = sumB s) := sum_all s
      have hx0 := sumAt_lt s s.size
      generalize sumAt s s.size = x at HE hx0 ⊢
      go_wp2
      go_ret
      exact ⟨retI (by have := HE.out; first | omega | (rw [IntKind.wrap_i64]; omega)), rfl⟩

/-- the part of a finger -/
def partB (f n : Int) : Int := if n < 1 ∨ f < 0 then 0 else f % n
end Go.Proofs.Ytcopckbpflmmeaa.Sums
