/-
  PROVED: the contract of spec.NumText at every int: it answers the digits of the number, with a minus ahead where it is below nought; nothing that was there is changed.
  PROVED: the contracts of the marks that the exact laws write into what was handed in and handed out: markText, markLabelS, heldLabelS.
-/
import Derived.Test.YtekcmpjjfnijmaaRows
import Derived.WalkKit
import Derived.WalkLawsBesides
import Derived.WalkSpells
import Derived.Below
import Derived.WalkSmall
import Derived.Lib.ItoaNum
import Derived.Lib.ItoaMem
import Derived.Lib.SlBytesConst
import Derived.Test.YtekcmpjjfnijmaaQLabT
import Derived.Test.YtekcmpjjfnijmaaQAprt
set_option linter.unusedVariables false
namespace Go.Proofs.Ytekcmpjjfnijmaa.NumS
open Go.RowKit

def pre (q : Nat) : List UInt8 := if q = 0 then [] else Lib.decDigits q
def dgt (q : Nat) : UInt8 := UInt8.ofNat (48 + q % 10)
theorem pre_step (q : Nat) (h : q ≠ 0) : pre q = pre (q / 10) ++ [dgt q] := by
  unfold pre dgt
  rw [if_neg h, Lib.decDigits]
  by_cases h10 : q < 10
  · rw [dif_pos h10, if_pos (by omega), Nat.mod_eq_of_lt h10]; rfl
  · rw [dif_neg h10, if_neg (by omega)]
theorem retS {a b : ByteArray} (h : a = b) : Ending.returned (.string a) = .returned (.string b) := by rw [h]
theorem byte_conv (W : World) (q : Nat) : (convert 22 9 (.slice (some ⟨W.heap.size, 0, none⟩) 1 1)).run Try.prog (W.alloc (.cells #[.int .u8 (48 + (q : Int) % 10)] 5)) = .ok (.string ⟨#[dgt q]⟩) (W.alloc (.cells #[.int .u8 (48 + (q : Int) % 10)] 5)) := by
  have h := run_convert_bytes_back (P := Try.prog) (W.alloc (.cells #[.int .u8 (48 + (q : Int) % 10)] 5)) 22 9 5 ⟨W.heap.size, 0, none⟩ 1 [UInt8.ofNat (48 + q % 10)] Try.underlying22 Try.underlying5 Try.underlying9 (fun j hj => by
    have e : j = 0 := by simp at hj; omega
    subst e
    have ea : (⟨W.heap.size, 0, none⟩ : Addr).add 0 = ⟨W.heap.size, 0, none⟩ := by simp [Addr.add]
    rw [ea, World.cell?_alloc_new]
    have en : ((UInt8.ofNat (48 + q % 10)).toNat : Int) = 48 + (q : Int) % 10 := by
      rw [UInt8.toNat_ofNat']; omega
    show some _ = some _
    rw [← en]; rfl)
  exact h
theorem digits_le (m : Nat) (h1 : 1 ≤ m) (h : m < 18446744073709551616) : (Lib.decDigits m).length ≤ 20 := by
  rw [Lib.decDigits_length]
  have := Lib.numDigits_eq m h1 h
  split at this <;> omega
theorem size_of {q m : Nat} {sb : ByteArray} (h : pre q ++ sb.data.toList = Lib.decDigits m) (h1 : 1 ≤ m) (h2 : m < 18446744073709551616) : sb.size ≤ 20 := by
  have hl := digits_le m h1 h2
  rw [← h] at hl
  simp at hl
  have : sb.size = sb.data.size := rfl
  omega
theorem cat_step {q m : Nat} {sb : ByteArray} (h : pre q ++ sb.data.toList = Lib.decDigits m) (hq : q ≠ 0) : pre (q / 10) ++ (ByteArray.mk #[dgt q] ++ sb).data.toList = Lib.decDigits m := by
  rw [← h, pre_step q hq]
  simp [ByteArray.data_append]
theorem done_of {m : Nat} {sb : ByteArray} (h : pre 0 ++ sb.data.toList = Lib.decDigits m) : sb = ⟨(Lib.decDigits m).toArray⟩ := by
  rw [← h]; rfl
end Go.Proofs.Ytekcmpjjfnijmaa.NumS
namespace Go.Proofs.Ytekcmpjjfnijmaa.Mark
open Go.RowKit
open Labs LabS Over Blk NumS

def mt (k : Nat) : ByteArray := ByteArray.mk #[109] ++ ⟨(Lib.decDigits k).toArray⟩

set_option maxHeartbeats 400000 in
set_option maxRecDepth 100000 in
theorem markText_any (m : Nat) (w : World) (h0 : 1 ≤ m) (h1 : m ≤ 1000000000) :
    Calls Try.prog 117 #[.int .i64 m] w fun e w' => e = .returned (.string (mt m)) ∧ Below w.heap.size w w' := by
  have hz : ¬ (m : Int) ≤ 0 := by omega
  go_enter Try.func117, Try.ntmps117
  go_wp2
  go_loopw [0, 3] (fun x s wr => ∃ (sb : ByteArray) (q : Nat), s = .string sb ∧ x = .int .i64 q ∧ q ≤ m ∧ pre q ++ sb.data.toList = Lib.decDigits m ∧ Below w.heap.size w wr) (fun x _ _ => (intOf x).toNat)
  case atStart => exact ⟨⟨#[]⟩, m, rfl, rfl, Nat.le_refl _, by unfold pre; rw [if_neg (by omega)]; simp, Below.refl _ _⟩
  case round =>
    obtain ⟨sb, q, rfl, rfl, hq, hsb, hb⟩ := hrel
    have HS : Hid (pre q ++ sb.data.toList = Lib.decDigits m) := hsb
    have HB : Hid (Below w.heap.size w wr) := hb
    have hsz := size_of hsb (by omega) (by omega)
    clear hsb hb
    by_cases hq0 : q = 0
    · have hqb : ¬ (0 : Int) < (q : Int) := by omega
      have HE : Hid (ByteArray.mk #[109] ++ sb = mt m) := by
        show _ = _
        unfold mt
        rw [done_of (m := m) (sb := sb) (by have := HS.out; rwa [hq0] at this)]
      clear hq0
      go_wp2
      go_ret
      exact ⟨retS HE.out, HB.out⟩
    · have hqb : (0 : Int) < (q : Int) := by omega
      have hcv := byte_conv wr q
      have HC : Hid (pre (q / 10) ++ (ByteArray.mk #[dgt q] ++ sb).data.toList = Lib.decDigits m) := cat_step HS.out hq0
      go_wp2
      go_roundw
      case rel => exact ⟨_, q / 10, rfl, by go_num, by omega, HC.out, HB.out.alloc HB.out.size _⟩
      case measure => simp [intOf]; omega

def Marked (cs : Array Value) (k n : Nat) : Prop := ∀ m, m < n → cs[m * 2]? = some (.string (mt (k + 2 * m))) ∧ cs[m * 2 + 1]? = some (.string (mt (k + 2 * m + 1)))
theorem retI {a b : Int} (h : a = b) : Ending.returned (.int .i64 a) = .returned (.int .i64 b) := by rw [h]

end Go.Proofs.Ytekcmpjjfnijmaa.Mark
