/-
  PROVED: the contract of spec.NumText at every int: it answers the digits of the number, with a minus ahead where it is below nought; nothing that was there is changed.
-/
import Derived.Test.YtinegehejinmiaaDoorRows
import Derived.WalkKit
import Derived.WalkLawsBesides
import Derived.WalkSpells
import Derived.Below
import Derived.WalkSmall
import Derived.Lib.ItoaNum
import Derived.Lib.ItoaMem
import Derived.Lib.SlBytesConst
namespace Go.Proofs.YtinegehejinmiaaDoor.NumS
open Go.RowKit
set_option linter.unusedVariables false

/-- the digits of what is left, none of nought -/
def pre (q : Nat) : List UInt8 := if q = 0 then [] else Lib.decDigits q
def dgt (q : Nat) : UInt8 := UInt8.ofNat (48 + q % 10)
theorem pre_step (q : Nat) (h : q ≠ 0) : pre q = pre (q / 10) ++ [dgt q] := by
  unfold pre dgt
  rw [if_neg h, Lib.decDigits]
  by_cases h10 : q < 10
  · rw [dif_pos h10, if_pos (by omega), Nat.mod_eq_of_lt h10]; rfl
  · rw [dif_neg h10, if_neg (by omega)]
theorem retS {a b : ByteArray} (h : a = b) : Ending.returned (.string a) = .returned (.string b) := by rw [h]
theorem itoa_zero : (⟨#[48]⟩ : ByteArray) = ⟨(Lib.itoa 0).toArray⟩ := by
  have : Lib.itoa 0 = [48] := by unfold Lib.itoa; rw [if_neg (by decide), Lib.decDigits, dif_pos (by decide)]; rfl
  rw [this]
theorem byte_conv (W : World) (q : Nat) : (convert 22 9 (.slice (some ⟨W.heap.size, 0, none⟩) 1 1)).run Tryd.prog (W.alloc (.cells #[.int .u8 (48 + (q : Int) % 10)] 5)) = .ok (.string ⟨#[dgt q]⟩) (W.alloc (.cells #[.int .u8 (48 + (q : Int) % 10)] 5)) := by
  have h := run_convert_bytes_back (P := Tryd.prog) (W.alloc (.cells #[.int .u8 (48 + (q : Int) % 10)] 5)) 22 9 5 ⟨W.heap.size, 0, none⟩ 1 [UInt8.ofNat (48 + q % 10)] Tryd.underlying22 Tryd.underlying5 Tryd.underlying9 (fun j hj => by
    have e : j = 0 := by simp at hj; omega
    subst e
    have ea : (⟨W.heap.size, 0, none⟩ : Addr).add 0 = ⟨W.heap.size, 0, none⟩ := by simp [Addr.add]
    rw [ea, World.cell?_alloc_new]
    have en : ((UInt8.ofNat (48 + q % 10)).toNat : Int) = 48 + (q : Int) % 10 := by
      rw [UInt8.toNat_ofNat']; omega
    show some _ = some _
    rw [← en]; rfl)
  exact h
theorem digits_le (m : Nat) (h1 : 1 ≤ m) (h : m < 18446744073709551616) : (Lib.decDigits m).length ≤ 20 := by
  rw [Lib.decDigits_length]
  have := Lib.numDigits_eq m h1 h
  split at this <;> omega
theorem size_of {q m : Nat} {sb : ByteArray} (h : pre q ++ sb.data.toList = Lib.decDigits m) (h1 : 1 ≤ m) (h2 : m < 18446744073709551616) : sb.size ≤ 20 := by
  have hl := digits_le m h1 h2
  rw [← h] at hl
  simp at hl
  have : sb.size = sb.data.size := rfl
  omega
theorem cat_step {q m : Nat} {sb : ByteArray} (h : pre q ++ sb.data.toList = Lib.decDigits m) (hq : q ≠ 0) : pre (q / 10) ++ (ByteArray.mk #[dgt q] ++ sb).data.toList = Lib.decDigits m := by
  rw [← h, pre_step q hq]
  simp [ByteArray.data_append]
theorem done_of {m : Nat} {sb : ByteArray} (h : pre 0 ++ sb.data.toList = Lib.decDigits m) : sb = ⟨(Lib.decDigits m).toArray⟩ := by
  rw [← h]; rfl
theorem pre_zero : pre 0 = [] := rfl

set_option maxRecDepth 100000 in
set_option maxHeartbeats 400000 in
theorem spec_any (n : Int) (w : World) (h0 : -9223372036854775808 ≤ n) (h1 : n ≤ 9223372036854775807) :
    Calls Tryd.prog 34 #[.int .i64 n] w fun e w' => e = .returned (.string ⟨(Lib.itoa n).toArray⟩) ∧ Below w.heap.size w w' := by
  by_cases hz : n = 0
  · subst hz
    go_enter Tryd.func34, Tryd.ntmps34
    go_wp2
    go_ret
    exact ⟨retS itoa_zero, Below.refl _ _⟩
  · have hzb : (n == 0) = false := by simpa using hz
    by_cases hneg : n < 0
    · obtain ⟨m, rfl⟩ : ∃ m : Nat, n = -(m : Int) := ⟨n.natAbs, by omega⟩
      go_enter Tryd.func34, Tryd.ntmps34
      go_wp2
      go_loopw [3, 4] (fun s x wr => ∃ (sb : ByteArray) (q : Nat), s = .string sb ∧ x = .int .i64 (-(q : Int)) ∧ q ≤ m ∧ pre q ++ sb.data.toList = Lib.decDigits m ∧ Below w.heap.size w wr) (fun _ x _ => (-(intOf x)).toNat)
      case atStart => exact ⟨⟨#[]⟩, m, rfl, rfl, Nat.le_refl _, by unfold pre; rw [if_neg (by omega)]; simp, Below.refl _ _⟩
      case round =>
        obtain ⟨sb, q, rfl, rfl, hq, hsb, hb⟩ := hrel
        have HS : Hid (pre q ++ sb.data.toList = Lib.decDigits m) := hsb
        have HB : Hid (Below w.heap.size w wr) := hb
        have hsz := size_of hsb (by omega) (by omega)
        clear hsb hb
        by_cases hq0 : q = 0
        · have hqb : ((-(q : Int)) != 0) = false := by simp [hq0]
          have HE : Hid (ByteArray.mk #[45] ++ sb = ⟨(Lib.itoa (-(m : Int))).toArray⟩) := by
            show ByteArray.mk #[45] ++ sb = ⟨(Lib.itoa (-(m : Int))).toArray⟩
            rw [Lib.itoa_neg m (by omega), done_of (m := m) (sb := sb) (by have := HS.out; rwa [hq0] at this)]
            apply ByteArray.ext
            simp [ByteArray.data_append]
          clear hq0
          go_wp2
          go_ret
          exact ⟨retS HE.out, HB.out⟩
        · have hqb : ((-(q : Int)) != 0) = true := by simp; omega
          have htm : (-(q : Int)).tmod 10 = -((q : Int) % 10) := by rw [Int.neg_tmod, Int.tmod_eq_emod_of_nonneg (by omega)]
          have htd : (-(q : Int)).tdiv 10 = -((q : Int) / 10) := by rw [Int.neg_tdiv, Int.tdiv_eq_ediv_of_nonneg (by omega)]
          have hcv := byte_conv wr q
          have HC : Hid (pre (q / 10) ++ (ByteArray.mk #[dgt q] ++ sb).data.toList = Lib.decDigits m) := cat_step HS.out hq0
          have HQ : Hid ((q : Int) / 10 = ((q / 10 : Nat) : Int)) := by show (q : Int) / 10 = ((q / 10 : Nat) : Int); omega
          by_cases hd : 0 < (q : Int) % 10
          · go_wp2
            go_roundw
            case rel => exact ⟨_, q / 10, rfl, by rw [HQ.out], by omega, HC.out, HB.out.alloc HB.out.size _⟩
            case measure => simp [intOf]; omega
          · have hd0 : (q : Int) % 10 = 0 := by omega
            rw [hd0] at hcv
            simp only [Int.add_zero] at hcv
            go_wp2
            go_roundw
            case rel => exact ⟨_, q / 10, rfl, by rw [HQ.out], by omega, HC.out, HB.out.alloc HB.out.size _⟩
            case measure => simp [intOf]; omega
    · obtain ⟨m, rfl⟩ := Int.eq_ofNat_of_zero_le (show 0 ≤ n by omega)
      go_enter Tryd.func34, Tryd.ntmps34
      go_wp2
      go_loopw [3, 4] (fun s x wr => ∃ (sb : ByteArray) (q : Nat), s = .string sb ∧ x = .int .i64 q ∧ q ≤ m ∧ pre q ++ sb.data.toList = Lib.decDigits m ∧ Below w.heap.size w wr) (fun _ x _ => (intOf x).toNat)
      case atStart => exact ⟨⟨#[]⟩, m, rfl, rfl, Nat.le_refl _, by unfold pre; rw [if_neg (by omega)]; simp, Below.refl _ _⟩
      case round =>
        obtain ⟨sb, q, rfl, rfl, hq, hsb, hb⟩ := hrel
        have HS : Hid (pre q ++ sb.data.toList = Lib.decDigits m) := hsb
        have HB : Hid (Below w.heap.size w wr) := hb
        have hsz := size_of hsb (by omega) (by omega)
        clear hsb hb
        by_cases hq0 : q = 0
        · have hqb : ((q : Int) != 0) = false := by simp [hq0]
          have HE : Hid (sb = ⟨(Lib.itoa (m : Int)).toArray⟩) := by
            show sb = ⟨(Lib.itoa (m : Int)).toArray⟩
            rw [Lib.itoa_nonneg]; exact done_of (by have := HS.out; rwa [hq0] at this)
          clear hq0
          go_wp2
          go_ret
          exact ⟨retS HE.out, HB.out⟩
        · have hqb : ((q : Int) != 0) = true := by simpa using hq0
          have hcv := byte_conv wr q
          have HC : Hid (pre (q / 10) ++ (ByteArray.mk #[dgt q] ++ sb).data.toList = Lib.decDigits m) := cat_step HS.out hq0
          go_wp2
          go_roundw
          case rel => exact ⟨_, q / 10, rfl, by go_num, by omega, HC.out, HB.out.alloc HB.out.size _⟩
          case measure => simp [intOf]; omega
end Go.Proofs.YtinegehejinmiaaDoor.NumS
