/-
  PROVED: the library's exchange of two ranges, and its rotation of two neighbouring blocks, over a row of alarms: what the plain functions swapF and rotF say.
-/
import Derived.Test.YtcopckbpflmmeabStwA
namespace Go.Proofs.Ytcopckbpflmmeab.StwC
open Go.RowKit
open Go.Proofs.Ytcopckbpflmmeab.Labs Go.Proofs.Ytcopckbpflmmeab.LabS Go.Proofs.Ytcopckbpflmmeab.Alms Go.Proofs.Ytcopckbpflmmeab.AlmS Go.Proofs.Ytcopckbpflmmeab.AlmM Go.Proofs.Ytcopckbpflmmeab.Over Go.Proofs.Ytcopckbpflmmeab.Blk Go.Proofs.Ytcopckbpflmmeab.App Go.Proofs.Ytcopckbpflmmeab.Rws Go.Proofs.Ytcopckbpflmmeab.ChnI Go.Proofs.Ytcopckbpflmmeab.ChnC Go.Proofs.Ytcopckbpflmmeab.Stb
open Go.Proofs.Ytcopckbpflmmeab.LabL (slB)
open Go.Proofs.Ytcopckbpflmmeab.Mark (Apart)
open Go.Proofs.Ytcopckbpflmmeab.StrB (retB)
set_option linter.unusedVariables false
open Go.Proofs.Ytcopckbpflmmeab.StwA
set_option maxRecDepth 100000 in
set_option maxHeartbeats 3200000 in
theorem swap_any (M b0 cap lo n p q m : Nat) (f : Nat → ARow) (w : World) (hS : SR lo w M n f) (hn : n ≤ 4194304) (hpq : p + m ≤ q) (hq : q + m ≤ n) :
    Calls Try.prog 83 #[.slice (some ⟨M, 0, none⟩) n cap, .int .i64 p, .int .i64 q, .int .i64 m, .func (.func 62) #[] #[.pointer (some ⟨b0, 0, none⟩)]] w
      fun e w' => e = .returned (.tuple #[]) ∧ SR lo w' M n (swapF f p q m) ∧ Apart M w w' := by
  have HS : Hid (SR lo w M n f) := hS
  clear hS
  go_enter Try.func83, Try.ntmps83
  go_wp2
  go_loopw [10] (fun v w' => ∃ i : Nat, v = .int .i64 i ∧ i ≤ m ∧ SR lo w' M n (swapF f p q i) ∧ Apart M w w') (fun v _ => m - (intOf v).toNat)
  case atStart => exact ⟨0, rfl, Nat.zero_le _, by rw [swapF_0]; exact HS.out, Apart.refl _ _⟩
  case round =>
    obtain ⟨i, rfl, hi, hS1, hA1⟩ := hrel
    have H1 : Hid (SR lo wr M n (swapF f p q i) ∧ Apart M w wr) := ⟨hS1, hA1⟩
    clear hS1 hA1 HS
    by_cases hlt : i < m
    · have hlt' : (i : Int) < (m : Int) := by omega
      have HU : Hid (Stb.two (swapF f p q i) (p + i) (q + i) = swapF f p q (i + 1)) := swapF_up hpq hlt
      have hP1 : (p : Int) + (i : Int) < (n : Int) := by omega
      have hQ1 : (q : Int) + (i : Int) < (n : Int) := by omega
      obtain ⟨g, hg⟩ : ∃ g, swapF f p q i = g := ⟨_, rfl⟩
      rw [hg] at H1 HU
      clear hg
      obtain ⟨x0, x1, x2, x3⟩ : wr.cell? ⟨M, (p + i) * 4, none⟩ = some (.slice (some ⟨(g (p + i)).1, 0, none⟩) (g (p + i)).2.2.l.length (g (p + i)).2.1) ∧ wr.cell? ⟨M, (p + i) * 4 + 1, none⟩ = some (.int .i64 (g (p + i)).2.2.s) ∧ wr.cell? ⟨M, (p + i) * 4 + 2, none⟩ = some (.int .i64 (g (p + i)).2.2.e) ∧ wr.cell? ⟨M, (p + i) * 4 + 3, none⟩ = some (.string (g (p + i)).2.2.n) := H1.out.1.cell (by omega)
      have fx0 : wr.frozen? ⟨M, (p + i) * 4, none⟩ = false := H1.out.1.frozen _
      have fx1 : wr.frozen? ⟨M, (p + i) * 4 + 1, none⟩ = false := H1.out.1.frozen _
      have fx2 : wr.frozen? ⟨M, (p + i) * 4 + 2, none⟩ = false := H1.out.1.frozen _
      have fx3 : wr.frozen? ⟨M, (p + i) * 4 + 3, none⟩ = false := H1.out.1.frozen _
      obtain ⟨y0, y1, y2, y3⟩ : wr.cell? ⟨M, (q + i) * 4, none⟩ = some (.slice (some ⟨(g (q + i)).1, 0, none⟩) (g (q + i)).2.2.l.length (g (q + i)).2.1) ∧ wr.cell? ⟨M, (q + i) * 4 + 1, none⟩ = some (.int .i64 (g (q + i)).2.2.s) ∧ wr.cell? ⟨M, (q + i) * 4 + 2, none⟩ = some (.int .i64 (g (q + i)).2.2.e) ∧ wr.cell? ⟨M, (q + i) * 4 + 3, none⟩ = some (.string (g (q + i)).2.2.n) := H1.out.1.cell (by omega)
      have fy0 : wr.frozen? ⟨M, (q + i) * 4, none⟩ = false := H1.out.1.frozen _
      have fy1 : wr.frozen? ⟨M, (q + i) * 4 + 1, none⟩ = false := H1.out.1.frozen _
      have fy2 : wr.frozen? ⟨M, (q + i) * 4 + 2, none⟩ = false := H1.out.1.frozen _
      have fy3 : wr.frozen? ⟨M, (q + i) * 4 + 3, none⟩ = false := H1.out.1.frozen _
      have eP : (p : Int) + (i : Int) = ((p + i : Nat) : Int) := by omega
      have eQ : (q : Int) + (i : Int) = ((q + i : Nat) : Int) := by omega
      generalize hP : p + i = P at *
      generalize hQ : q + i = Q at *
      have HPQ : Hid (P < n ∧ Q < n ∧ P ≠ Q) := ⟨by omega, by omega, by omega⟩
      have hP2 : (P : Int) < (n : Int) := by omega
      have hQ2 : (Q : Int) < (n : Int) := by omega
      clear hP hQ hP1 hQ1
      go_wp2
      go_region
      go_wp2
      go_roundw
      case rel => exact ⟨i + 1, by go_num, by omega, by rw [← HU.out]; exact (H1.out.1.two (p := P) (q := Q) HPQ.out.1 HPQ.out.2.1 HPQ.out.2.2).drew, apart_drew (apart_two (p := P) (q := Q) (f := g) H1.out.2)⟩
      case measure => simp [intOf]; omega
    have hge : ¬ (i : Int) < (m : Int) := by omega
    have HE : Hid (i = m) := by show i = m; omega
    go_wp2
    go_end0
    exact ⟨rfl, by have := H1.out.1; rwa [HE.out] at this, H1.out.2⟩
set_option maxRecDepth 100000 in
set_option maxHeartbeats 3200000 in
theorem rot_any (M b0 cap lo n a m b : Nat) (f : Nat → ARow) (w : World) (hS : SR lo w M n f) (hn : n ≤ 4194304) (ham : a < m) (hmb : m < b) (hbn : b ≤ n) :
    Calls Try.prog 80 #[.slice (some ⟨M, 0, none⟩) n cap, .int .i64 a, .int .i64 m, .int .i64 b, .func (.func 62) #[] #[.pointer (some ⟨b0, 0, none⟩)]] w
      fun e w' => e = .returned (.tuple #[]) ∧ SR lo w' M n (rotF f a m b) ∧ Apart M w w' := by
  have HS : Hid (SR lo w M n f) := hS
  clear hS
  go_enter Try.func80, Try.ntmps80
  go_wp2
  go_loopw [10, 11] (fun u v w' => ∃ (i j : Nat) (g : Nat → ARow), u = .int .i64 i ∧ v = .int .i64 j ∧ 0 < i ∧ 0 < j ∧ i ≤ m ∧ m + j ≤ n ∧ SR lo w' M n g ∧ rotF g (m - i) m (m + j) = rotF f a m b ∧ Apart M w w') (fun u v _ => (intOf u).toNat + (intOf v).toNat)
  case atStart => exact ⟨m - a, b - m, f, by go_num, by go_num, by omega, by omega, by omega, by omega, HS.out, by rw [show m - (m - a) = a by omega, show m + (b - m) = b by omega], Apart.refl _ _⟩
  case round =>
    obtain ⟨i, j, g, rfl, rfl, hi, hj, him, hjn, hS1, hR, hA1⟩ := hrel
    have H1 : Hid (SR lo wr M n g ∧ rotF g (m - i) m (m + j) = rotF f a m b ∧ Apart M w wr) := ⟨hS1, hR, hA1⟩
    clear hS1 hR hA1 HS
    have e1 : (m : Int) - (i : Int) = ((m - i : Nat) : Int) := by omega
    rcases Nat.lt_trichotomy i j with hlt | heq | hgt
    · have hne : ¬ (i : Int) = (j : Int) := by omega
      have hng : ¬ (j : Int) < (i : Int) := by omega
      have e2 : (m : Int) + (j : Int) = ((m + j : Nat) : Int) := by omega
      have e3 : ((m + j : Nat) : Int) - (i : Int) = ((m + j - i : Nat) : Int) := by omega
      have HU : Hid (Calls Try.prog 83 #[.slice (some ⟨M, 0, none⟩) n cap, .int .i64 (m - i : Nat), .int .i64 (m + j - i : Nat), .int .i64 i, .func (.func 62) #[] #[.pointer (some ⟨b0, 0, none⟩)]] wr fun e w' => e = .returned (.tuple #[]) ∧ SR lo w' M n (swapF g (m - i) (m + j - i) i) ∧ Apart M wr w') := swap_any M b0 cap lo n (m - i) (m + j - i) i g wr H1.out.1 hn (by omega) (by omega)
      have HQ : Hid (rotF (swapF g (m - i) (m + j - i) i) (m - i) m (m + (j - i)) = rotF f a m b) := (rot_lt hlt him hi).trans H1.out.2.1
      generalize hx : m - i = x at e1 HU HQ
      generalize hy : m + j - i = y at e3 HU HQ
      generalize hz : m + j = z at e2 e3
      go_wp2_with fail
      refine HU.out.mono ?_
      rintro e w1 ⟨rfl, hS2, hA2⟩
      have H2 : Hid (SR lo w1 M n (swapF g x y i) ∧ Apart M w w1) := ⟨hS2, H1.out.2.2.trans hA2⟩
      clear hS2 hA2 HU
      go_wp2
      go_roundw
      case rel => exact ⟨i, j - i, _, rfl, by go_num, hi, by omega, him, by omega, H2.out.1, by rw [hx]; exact HQ.out, H2.out.2⟩
      case measure => simp [intOf]; omega
    · subst heq
      have HU : Hid (Calls Try.prog 83 #[.slice (some ⟨M, 0, none⟩) n cap, .int .i64 (m - i : Nat), .int .i64 m, .int .i64 i, .func (.func 62) #[] #[.pointer (some ⟨b0, 0, none⟩)]] wr fun e w' => e = .returned (.tuple #[]) ∧ SR lo w' M n (swapF g (m - i) m i) ∧ Apart M wr w') := swap_any M b0 cap lo n (m - i) m i g wr H1.out.1 hn (by omega) (by omega)
      have HQ : Hid (swapF g (m - i) m i = rotF f a m b) := (rot_eq him).trans H1.out.2.1
      generalize hx : m - i = x at e1 HU HQ
      go_wp2_with fail
      refine HU.out.mono ?_
      rintro e w1 ⟨rfl, hS2, hA2⟩
      have H2 : Hid (SR lo w1 M n (rotF f a m b) ∧ Apart M w w1) := ⟨by rw [← HQ.out]; exact hS2, H1.out.2.2.trans hA2⟩
      clear hS2 hA2 HU
      go_wp2
      go_end0
      exact ⟨rfl, H2.out⟩
    · have hne : ¬ (i : Int) = (j : Int) := by omega
      have hng : (j : Int) < (i : Int) := by omega
      have HU : Hid (Calls Try.prog 83 #[.slice (some ⟨M, 0, none⟩) n cap, .int .i64 (m - i : Nat), .int .i64 m, .int .i64 j, .func (.func 62) #[] #[.pointer (some ⟨b0, 0, none⟩)]] wr fun e w' => e = .returned (.tuple #[]) ∧ SR lo w' M n (swapF g (m - i) m j) ∧ Apart M wr w') := swap_any M b0 cap lo n (m - i) m j g wr H1.out.1 hn (by omega) (by omega)
      have HQ : Hid (rotF (swapF g (m - i) m j) (m - (i - j)) m (m + j) = rotF f a m b) := (rot_gt hgt him hj).trans H1.out.2.1
      generalize hx : m - i = x at e1 HU HQ
      go_wp2_with fail
      refine HU.out.mono ?_
      rintro e w1 ⟨rfl, hS2, hA2⟩
      have H2 : Hid (SR lo w1 M n (swapF g x m j) ∧ Apart M w w1) := ⟨hS2, H1.out.2.2.trans hA2⟩
      clear hS2 hA2 HU
      go_wp2
      go_roundw
      case rel => exact ⟨i - j, j, _, by go_num, rfl, by omega, hj, by omega, hjn, H2.out.1, HQ.out, H2.out.2⟩
      case measure => simp [intOf]; omega
end Go.Proofs.Ytcopckbpflmmeab.StwC
