/-
  PROVED: the library's stable sort of a row of alarms by a function leaves the row sorted by the labels, equals in their order, and all else as it was; sortedBy gives a new row so.
-/
import Derived.Test.YtcopckbpflmmeabStwB
import Derived.Test.YtcopckbpflmmeabStwE
import Derived.Test.YtcopckbpflmmeabPrtA
namespace Go.Proofs.Ytcopckbpflmmeab.StwF
open Go.RowKit
open Go.Proofs.Ytcopckbpflmmeab.Labs Go.Proofs.Ytcopckbpflmmeab.LabS Go.Proofs.Ytcopckbpflmmeab.Alms Go.Proofs.Ytcopckbpflmmeab.AlmS Go.Proofs.Ytcopckbpflmmeab.AlmM Go.Proofs.Ytcopckbpflmmeab.Over Go.Proofs.Ytcopckbpflmmeab.Blk Go.Proofs.Ytcopckbpflmmeab.App Go.Proofs.Ytcopckbpflmmeab.Rws Go.Proofs.Ytcopckbpflmmeab.ChnI Go.Proofs.Ytcopckbpflmmeab.ChnC Go.Proofs.Ytcopckbpflmmeab.Stb
open Go.Proofs.Ytcopckbpflmmeab.LabL (slB)
open Go.Proofs.Ytcopckbpflmmeab.Mark (Apart)
open Go.Proofs.Ytcopckbpflmmeab.StrB (retB)
set_option linter.unusedVariables false
open Go.Proofs.Ytcopckbpflmmeab.StwA
/-- what the sort leaves -/
structure Sx (lo : Nat) (w : World) (M n : Nat) (f : Nat → ARow) (w' : World) : Prop where
  ex : ∃ g, SR lo w' M n g ∧ Srt slB keyA g 0 n ∧ St keyA (seg f 0 n) (seg g 0 n)
  ap : Apart M w w'
set_option maxRecDepth 100000 in
set_option maxHeartbeats 6400000 in
theorem stable_any (M b0 cap lo n : Nat) (f : Nat → ARow) (w : World) (hS : SR lo w M n f) (hn : n ≤ 2097152) (hc : w.cell? ⟨b0, 0, none⟩ = some (.func (.func 47) #[] #[])) (hb0 : b0 < w.heap.size) (hM : b0 ≠ M) :
    Calls Try.prog 70 #[.slice (some ⟨M, 0, none⟩) n cap, .int .i64 n, .func (.func 62) #[] #[.pointer (some ⟨b0, 0, none⟩)]] w fun e w' => e = .returned (.tuple #[]) ∧ Sx lo w M n f w' := by
  have HC : Hid (w.cell? ⟨b0, 0, none⟩ = some (.func (.func 47) #[] #[]) ∧ b0 < w.heap.size ∧ b0 ≠ M) := ⟨hc, hb0, hM⟩
  have HS : Hid (SR lo w M n f) := hS
  clear hc hS hb0 hM
  have HIN : Hid (∀ (a b : Nat) (g : Nat → ARow) (w1 : World), SR lo w1 M n g → Apart M w w1 → a ≤ b → b ≤ n → Calls Try.prog 74 #[.slice (some ⟨M, 0, none⟩) n cap, .int .i64 a, .int .i64 b, .func (.func 62) #[] #[.pointer (some ⟨b0, 0, none⟩)]] w1 fun e w' => e = .returned (.tuple #[]) ∧ Sd lo w1 M n g a b w') := fun a b g w1 h hA h1 h2 => StwB.ins_any M b0 cap lo n a b g w1 h (by omega) (fnAt hA HC.out.1 HC.out.2.1 HC.out.2.2) (Nat.lt_of_lt_of_le HC.out.2.1 hA.size) HC.out.2.2 h1 h2
  have HSY : Hid (∀ (a m b : Nat) (g : Nat → ARow) (w1 : World), SR lo w1 M n g → Apart M w w1 → a < m → m < b → b ≤ n → Srt slB keyA g a m → Srt slB keyA g m b → Calls Try.prog 75 #[.slice (some ⟨M, 0, none⟩) n cap, .int .i64 a, .int .i64 m, .int .i64 b, .func (.func 62) #[] #[.pointer (some ⟨b0, 0, none⟩)]] w1 fun e w' => e = .returned (.tuple #[]) ∧ Sd lo w1 M n g a b w') := fun a m b g w1 h hA h1 h2 h3 h4 h5 => StwE.sym_any M b0 cap lo n (by omega) (b - a) a m b g w1 (Nat.le_refl _) h (fnAt hA HC.out.1 HC.out.2.1 HC.out.2.2) (Nat.lt_of_lt_of_le HC.out.2.1 hA.size) HC.out.2.2 h1 h2 h3 h4 h5
  go_enter Try.func70, Try.ntmps70
  go_wp2
  go_loopw [7, 8] (fun u v w' => ∃ (k A : Nat) (g : Nat → ARow), A = k * 20 ∧ u = .int .i64 A ∧ v = .int .i64 ((A : Int) + 20) ∧ A ≤ n ∧ SR lo w' M n g ∧ Apart M w w' ∧ Fst slB keyA g 20 k ∧ St keyA (seg f 0 n) (seg g 0 n)) (fun u _ _ => n - (intOf u).toNat)
  case atStart => exact ⟨0, 0, f, rfl, rfl, rfl, Nat.zero_le _, HS.out, Apart.refl _ _, fun j hj => by omega, St.refl _⟩
  case round =>
    clear HS
    obtain ⟨k, A, g, hA, rfl, rfl, hAn, hS1, hA1, hF, hT⟩ := hrel
    have H1 : Hid (SR lo wr M n g ∧ Apart M w wr ∧ Fst slB keyA g 20 k ∧ St keyA (seg f 0 n) (seg g 0 n)) := ⟨hS1, hA1, hF, hT⟩
    have HA : Hid (A = k * 20) := hA
    clear hA hS1 hA1 hF hT
    by_cases hlt : A + 20 ≤ n
    · have hlt' : (A : Int) + 20 ≤ (n : Int) := by omega
      obtain ⟨B, hB⟩ : ∃ x : Nat, x = A + 20 := ⟨_, rfl⟩
      have eB : (A : Int) + 20 = (B : Int) := by omega
      have HB : Hid (B = A + 20) := hB
      have hBn : (B : Int) ≤ (n : Int) := by omega
      have HU : Hid (Calls Try.prog 74 #[.slice (some ⟨M, 0, none⟩) n cap, .int .i64 A, .int .i64 B, .func (.func 62) #[] #[.pointer (some ⟨b0, 0, none⟩)]] wr fun e w' => e = .returned (.tuple #[]) ∧ Sd lo wr M n g A B w') := HIN.out A B g wr H1.out.1 H1.out.2.1 (by omega) (by omega)
      clear hB
      rw [eB]
      go_wp2_with fail
      refine HU.out.mono ?_
      rintro e w1 ⟨rfl, hD⟩
      obtain ⟨⟨g1, hS2, hM2⟩, hA2⟩ := hD
      have H2 : Hid (SR lo w1 M n g1 ∧ Apart M w w1 ∧ Fst slB keyA g1 20 (k + 1) ∧ St keyA (seg f 0 n) (seg g1 0 n)) := ⟨hS2, H1.out.2.1.trans hA2, H1.out.2.2.1.next (by rw [← HA.out, ← HB.out]; exact hM2), H1.out.2.2.2.trans hM2.st⟩
      have HB2 : Hid (B = (k + 1) * 20 ∧ A < B ∧ B ≤ n) := by have := HA.out; have := HB.out; exact ⟨by omega, by omega, by omega⟩
      clear hS2 hM2 hA2 HU eB hlt hlt' HB
      go_wp2
      go_roundw
      case rel => exact ⟨k + 1, B, g1, HB2.out.1, rfl, rfl, HB2.out.2.2, H2.out⟩
      case measure => have := HB2.out; simp [intOf]; omega
    have hge : ¬ (A : Int) + 20 ≤ (n : Int) := by omega
    have HU : Hid (Calls Try.prog 74 #[.slice (some ⟨M, 0, none⟩) n cap, .int .i64 A, .int .i64 n, .func (.func 62) #[] #[.pointer (some ⟨b0, 0, none⟩)]] wr fun e w' => e = .returned (.tuple #[]) ∧ Sd lo wr M n g A n w') := HIN.out A n g wr H1.out.1 H1.out.2.1 hAn (Nat.le_refl _)
    go_wp2_with fail
    refine HU.out.mono ?_
    rintro e w1 ⟨rfl, hD⟩
    obtain ⟨⟨g1, hS2, hM2⟩, hA2⟩ := hD
    have H2 : Hid (SR lo w1 M n g1 ∧ Apart M w w1 ∧ Bs slB keyA g1 20 n ∧ St keyA (seg f 0 n) (seg g1 0 n)) := ⟨hS2, H1.out.2.1.trans hA2, H1.out.2.2.1.fin (by rw [← HA.out]; exact hM2) (by have := HA.out; omega), H1.out.2.2.2.trans hM2.st⟩
    clear hS2 hM2 hA2 HU H1 HA hlt hge hAn
    go_wp2
    go_loopw [6, 7, 8, 9] (fun x _ _ _ w' => ∃ (z : Nat) (g : Nat → ARow), x = .int .i64 z ∧ 0 < z ∧ z ≤ 2 * n + 20 ∧ SR lo w' M n g ∧ Apart M w w' ∧ Bs slB keyA g z n ∧ St keyA (seg f 0 n) (seg g 0 n)) (fun x _ _ _ _ => n - (intOf x).toNat)
    case atStart => exact ⟨20, g1, rfl, by omega, by omega, H2.out⟩
    case round =>
      clear H2
      obtain ⟨z, g, rfl, hz0, hz1, hS1, hA1, hF, hT⟩ := hrel
      have H1 : Hid (SR lo wr M n g ∧ Apart M w wr ∧ Bs slB keyA g z n ∧ St keyA (seg f 0 n) (seg g 0 n)) := ⟨hS1, hA1, hF, hT⟩
      clear hS1 hA1 hF hT
      by_cases hlt : z < n
      · have hlt' : (z : Int) < (n : Int) := by omega
        go_wp2
        go_loopw [7, 8] (fun u v w' => ∃ (k A : Nat) (g : Nat → ARow), A = k * (2 * z) ∧ u = .int .i64 A ∧ v = .int .i64 ((A : Int) + 2 * (z : Int)) ∧ A ≤ n ∧ SR lo w' M n g ∧ Apart M w w' ∧ Half slB keyA g z n k ∧ St keyA (seg f 0 n) (seg g 0 n)) (fun u _ _ => n - (intOf u).toNat)
        case atStart => exact ⟨0, 0, g, by simp, rfl, by simp, Nat.zero_le _, H1.out.1, H1.out.2.1, H1.out.2.2.1.half, H1.out.2.2.2⟩
        case round =>
          clear H1
          obtain ⟨k, A, g, hA, rfl, rfl, hAn, hS1, hA1, hF, hT⟩ := hrel
          have H1 : Hid (SR lo wr M n g ∧ Apart M w wr ∧ Half slB keyA g z n k ∧ St keyA (seg f 0 n) (seg g 0 n)) := ⟨hS1, hA1, hF, hT⟩
          have HA : Hid (A = k * (2 * z)) := hA
          clear hA hS1 hA1 hF hT
          obtain ⟨m, hm⟩ : ∃ x : Nat, x = A + z := ⟨_, rfl⟩
          have em : (A : Int) + (z : Int) = (m : Int) := by omega
          have HMm : Hid (m = A + z) := hm
          have hmb : m ≤ 6400000 := by omega
          clear hm
          by_cases hlt2 : A + 2 * z ≤ n
          · have hlt2' : (A : Int) + 2 * (z : Int) ≤ (n : Int) := by omega
            obtain ⟨B, hB⟩ : ∃ x : Nat, x = A + 2 * z := ⟨_, rfl⟩
            have eB : (A : Int) + 2 * (z : Int) = (B : Int) := by omega
            have HB : Hid (B = A + 2 * z) := hB
            have hBn : (B : Int) ≤ (n : Int) := by omega
            have HU : Hid (Calls Try.prog 75 #[.slice (some ⟨M, 0, none⟩) n cap, .int .i64 A, .int .i64 m, .int .i64 B, .func (.func 62) #[] #[.pointer (some ⟨b0, 0, none⟩)]] wr fun e w' => e = .returned (.tuple #[]) ∧ Sd lo wr M n g A B w') := HSY.out A m B g wr H1.out.1 H1.out.2.1 (by have := HMm.out; omega) (by have := HMm.out; omega) (by omega) (by rw [HMm.out, HA.out]; exact H1.out.2.2.1.left (by rw [← HA.out]; omega)) (by have h := H1.out.2.2.1.right; rw [← HA.out] at h; rw [HMm.out]; exact h.mono (Nat.le_refl _) (by omega))
            clear hB
            rw [eB]
            go_wp2_with fail
            refine HU.out.mono ?_
            rintro e w1 ⟨rfl, hD⟩
            obtain ⟨⟨g1, hS2, hM2⟩, hA2⟩ := hD
            have H2 : Hid (SR lo w1 M n g1 ∧ Apart M w w1 ∧ Half slB keyA g1 z n (k + 1) ∧ St keyA (seg f 0 n) (seg g1 0 n)) := by
              refine ⟨hS2, H1.out.2.1.trans hA2, H1.out.2.2.1.next ?_, H1.out.2.2.2.trans hM2.st⟩
              have e1 : min (k * (2 * z) + 2 * z) n = B := by have h1 := HA.out; have h2 := HB.out; rw [← h1]; omega
              rw [e1, ← HA.out]
              exact hM2
            have HB2 : Hid (B = (k + 1) * (2 * z) ∧ A < B ∧ B ≤ n) := by have h1 := HA.out; have h2 := HB.out; exact ⟨by rw [mul_up, ← h1]; exact h2, by omega, by omega⟩
            clear hS2 hM2 hA2 HU eB hlt2 hlt2' HB em HMm hmb
            go_wp2
            go_roundw
            case rel => exact ⟨k + 1, B, g1, HB2.out.1, rfl, rfl, HB2.out.2.2, H2.out⟩
            case measure => have := HB2.out; simp [intOf]; omega
          have hge2 : ¬ (A : Int) + 2 * (z : Int) ≤ (n : Int) := by omega
          by_cases hmn : m < n
          · have hmn' : (m : Int) < (n : Int) := by omega
            have HU : Hid (Calls Try.prog 75 #[.slice (some ⟨M, 0, none⟩) n cap, .int .i64 A, .int .i64 m, .int .i64 n, .func (.func 62) #[] #[.pointer (some ⟨b0, 0, none⟩)]] wr fun e w' => e = .returned (.tuple #[]) ∧ Sd lo wr M n g A n w') := HSY.out A m n g wr H1.out.1 H1.out.2.1 (by have := HMm.out; omega) hmn (Nat.le_refl _) (by rw [HMm.out, HA.out]; exact H1.out.2.2.1.left (by rw [← HA.out, ← HMm.out]; omega)) (by have h := H1.out.2.2.1.right; rw [← HA.out] at h; rw [HMm.out]; exact h.mono (Nat.le_refl _) (by omega))
            go_wp2_with fail
            refine HU.out.mono ?_
            rintro e w1 ⟨rfl, hD⟩
            obtain ⟨⟨g1, hS2, hM2⟩, hA2⟩ := hD
            have H2 : Hid (SR lo w1 M n g1 ∧ Apart M w w1 ∧ Bs slB keyA g1 (z * 2) n ∧ St keyA (seg f 0 n) (seg g1 0 n)) := by
              refine ⟨hS2, H1.out.2.1.trans hA2, ?_, H1.out.2.2.2.trans hM2.st⟩
              rw [Nat.mul_comm z 2]
              refine Half.fin' (k := k) (H1.out.2.2.1.next ?_) (by rw [← HA.out]; omega)
              have e1 : min (k * (2 * z) + 2 * z) n = n := by rw [← HA.out]; omega
              rw [e1, ← HA.out]
              exact hM2
            clear hS2 hM2 hA2 HU em HMm hmb
            go_wp2
            go_roundw
            case rel => exact ⟨z * 2, g1, by go_num, by omega, by omega, H2.out⟩
            case measure => simp [intOf]; omega
          have hmn' : ¬ (m : Int) < (n : Int) := by omega
          have H2 : Hid (SR lo wr M n g ∧ Apart M w wr ∧ Bs slB keyA g (z * 2) n ∧ St keyA (seg f 0 n) (seg g 0 n)) := ⟨H1.out.1, H1.out.2.1, by rw [Nat.mul_comm z 2]; exact H1.out.2.2.1.fin (by rw [← HA.out, ← HMm.out]; omega), H1.out.2.2.2⟩
          go_wp2
          go_roundw
          case rel => exact ⟨z * 2, g, by go_num, by omega, by omega, H2.out⟩
          case measure => simp [intOf]; omega
      have hge : ¬ (z : Int) < (n : Int) := by omega
      go_wp2
      go_end0
      exact ⟨rfl, ⟨g, H1.out.1, H1.out.2.2.1.all (by omega), H1.out.2.2.2⟩, H1.out.2.1⟩
end Go.Proofs.Ytcopckbpflmmeab.StwF
