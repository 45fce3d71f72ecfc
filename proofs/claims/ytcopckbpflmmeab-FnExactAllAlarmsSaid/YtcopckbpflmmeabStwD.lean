/-
  PROVED: the library's merge in place of two sorted neighbouring blocks of a row of alarms, one of which has one element: both together are sorted then, equals in their order, and all else is as it was.
-/
import Derived.Test.YtcopckbpflmmeabStwC
namespace Go.Proofs.Ytcopckbpflmmeab.StwD
open Go.RowKit
open Go.Proofs.Ytcopckbpflmmeab.Labs Go.Proofs.Ytcopckbpflmmeab.LabS Go.Proofs.Ytcopckbpflmmeab.Alms Go.Proofs.Ytcopckbpflmmeab.AlmS Go.Proofs.Ytcopckbpflmmeab.AlmM Go.Proofs.Ytcopckbpflmmeab.Over Go.Proofs.Ytcopckbpflmmeab.Blk Go.Proofs.Ytcopckbpflmmeab.App Go.Proofs.Ytcopckbpflmmeab.Rws Go.Proofs.Ytcopckbpflmmeab.ChnI Go.Proofs.Ytcopckbpflmmeab.ChnC Go.Proofs.Ytcopckbpflmmeab.Stb
open Go.Proofs.Ytcopckbpflmmeab.LabL (slB)
open Go.Proofs.Ytcopckbpflmmeab.Mark (Apart)
open Go.Proofs.Ytcopckbpflmmeab.StrB (retB)
set_option linter.unusedVariables false
open Go.Proofs.Ytcopckbpflmmeab.StwA
open Go.Proofs.Ytcopckbpflmmeab.StwC
theorem rot_triv {α : Type} {f : Nat → α} {s m e : Nat} (h1 : s ≤ m) (h2 : m ≤ e) (h : s = m ∨ e = m) : rotF f s m e = f := by
  funext k; unfold rotF
  (repeat' split) <;> first | rfl | (exfalso; omega) | (congr 1; omega)
set_option maxRecDepth 100000 in
set_option maxHeartbeats 12800000 in
theorem symL_any (M b0 cap lo n a m b : Nat) (f : Nat → ARow) (w : World) (hS : SR lo w M n f) (hn : n ≤ 4194304) (hc : w.cell? ⟨b0, 0, none⟩ = some (.func (.func 47) #[] #[])) (hb0 : b0 < w.heap.size) (hM : b0 ≠ M) (ham : a < m) (hmb : m < b) (hbn : b ≤ n) (hL : Srt slB keyA f a m) (hR : Srt slB keyA f m b) (h1 : m - a = 1) :
    Calls Try.prog 75 #[.slice (some ⟨M, 0, none⟩) n cap, .int .i64 a, .int .i64 m, .int .i64 b, .func (.func 62) #[] #[.pointer (some ⟨b0, 0, none⟩)]] w fun e w' => e = .returned (.tuple #[]) ∧ Sd lo w M n f a b w' := by
  have HC : Hid (w.cell? ⟨b0, 0, none⟩ = some (.func (.func 47) #[] #[]) ∧ b0 < w.heap.size ∧ b0 ≠ M) := ⟨hc, hb0, hM⟩
  have HS : Hid (SR lo w M n f) := hS
  have HL : Hid (Srt slB keyA f a m ∧ Srt slB keyA f m b) := ⟨hL, hR⟩
  clear hc hS hb0 hM hL hR
  have HA0 : Hid (Apart M w w) := Apart.refl _ _
  have hh1 : (m : Int) - (a : Int) = 1 := by omega
  go_enter Try.func75, Try.ntmps75
  go_wp2
  go_loopw [10, 11] (fun u v w' => ∃ i j : Nat, u = .int .i64 i ∧ v = .int .i64 j ∧ m ≤ i ∧ i ≤ j ∧ j ≤ b ∧ SR lo w' M n f ∧ Apart M w w' ∧ (∀ p, m ≤ p → p < i → slB (keyA (f p)) (keyA (f a)) = true) ∧ (∀ p, j ≤ p → p < b → slB (keyA (f p)) (keyA (f a)) = false)) (fun u v _ => (intOf v).toNat - (intOf u).toNat)
  case atStart => exact ⟨m, b, rfl, rfl, Nat.le_refl _, by omega, Nat.le_refl _, HS.out, HA0.out, ⟨fun p h1 h2 => by omega, fun p h1 h2 => by omega⟩⟩
  case round =>
    obtain ⟨i, j, rfl, rfl, hi, hij, hj, hS1, hA1, hrl⟩ := hrel
    have H1 : Hid (SR lo wr M n f ∧ ((∀ p, m ≤ p → p < i → slB (keyA (f p)) (keyA (f a)) = true) ∧ (∀ p, j ≤ p → p < b → slB (keyA (f p)) (keyA (f a)) = false))) := ⟨hS1, hrl⟩
    have HA : Hid (Apart M w wr) := hA1
    have hMr : M < wr.heap.size := hS1.lt
    clear hS1 hA1 hrl HS
    by_cases hlt : i < j
    · have hlt' : (i : Int) < (j : Int) := by omega
      obtain ⟨h, hh⟩ : ∃ h : Nat, h = (i + j) / 2 := ⟨_, rfl⟩
      have eh : ((i : Int) + (j : Int)) / 2 = (h : Int) := by omega
      have hbh : i ≤ h ∧ h < j := by omega
      clear hh
      have hhn : (h : Int) < (n : Int) := by omega
      have han : (a : Int) < (n : Int) := by omega
      have hne := Grown.some wr
      have HCm : ∀ (x y : ARow) (q : Grown wr), OwnA lo wr x → OwnA lo wr y → Hid (Calls Try.prog 62 #[.agg #[.slice (some ⟨(x).1, 0, none⟩) (x).2.2.l.length (x).2.1, .int .i64 (x).2.2.s, .int .i64 (x).2.2.e, .string (x).2.2.n], .agg #[.slice (some ⟨(y).1, 0, none⟩) (y).2.2.l.length (y).2.1, .int .i64 (y).2.2.s, .int .i64 (y).2.2.e, .string (y).2.2.n], .pointer (some ⟨b0, 0, none⟩)] q.out fun e w' => e = .returned (.int .i64 (cmpA x y)) ∧ Below q.out.heap.size q.out w') := fun x y q hx hy =>
        cmp_any x y b0 lo q.out (hx.grow q.bel) (hy.grow q.bel) (by rw [q.bel.cell (Nat.lt_of_lt_of_le HC.out.2.1 HA.out.size)]; exact fnAt HA.out HC.out.1 HC.out.2.1 HC.out.2.2) (Nat.lt_of_lt_of_le HC.out.2.1 (Nat.le_trans HA.out.size q.bel.size))
      obtain ⟨z0, z1, z2, z3⟩ : wr.cell? ⟨M, h * 4, none⟩ = some (.slice (some ⟨(f h).1, 0, none⟩) (f h).2.2.l.length (f h).2.1) ∧ wr.cell? ⟨M, h * 4 + 1, none⟩ = some (.int .i64 (f h).2.2.s) ∧ wr.cell? ⟨M, h * 4 + 2, none⟩ = some (.int .i64 (f h).2.2.e) ∧ wr.cell? ⟨M, h * 4 + 3, none⟩ = some (.string (f h).2.2.n) := H1.out.1.cell (by omega)
      have x0 := fun q : Grown wr => q.cell (p := ⟨M, h * 4, none⟩) hMr z0
      have x1 := fun q : Grown wr => q.cell (p := ⟨M, h * 4 + 1, none⟩) hMr z1
      have x2 := fun q : Grown wr => q.cell (p := ⟨M, h * 4 + 2, none⟩) hMr z2
      have x3 := fun q : Grown wr => q.cell (p := ⟨M, h * 4 + 3, none⟩) hMr z3
      clear z0 z1 z2 z3
      obtain ⟨z0, z1, z2, z3⟩ : wr.cell? ⟨M, a * 4, none⟩ = some (.slice (some ⟨(f a).1, 0, none⟩) (f a).2.2.l.length (f a).2.1) ∧ wr.cell? ⟨M, a * 4 + 1, none⟩ = some (.int .i64 (f a).2.2.s) ∧ wr.cell? ⟨M, a * 4 + 2, none⟩ = some (.int .i64 (f a).2.2.e) ∧ wr.cell? ⟨M, a * 4 + 3, none⟩ = some (.string (f a).2.2.n) := H1.out.1.cell (by omega)
      have y0 := fun q : Grown wr => q.cell (p := ⟨M, a * 4, none⟩) hMr z0
      have y1 := fun q : Grown wr => q.cell (p := ⟨M, a * 4 + 1, none⟩) hMr z1
      have y2 := fun q : Grown wr => q.cell (p := ⟨M, a * 4 + 2, none⟩) hMr z2
      have y3 := fun q : Grown wr => q.cell (p := ⟨M, a * 4 + 3, none⟩) hMr z3
      clear z0 z1 z2 z3
      have HCx := fun q : Grown wr => HCm (f h) (f a) q (H1.out.1.rows h (by omega)) (H1.out.1.rows a (by omega))
      clear HCm
      cases hq : slB (keyA (f h)) (keyA (f a)) with
      | true =>
        have HC1 : ∀ q : Grown wr, Hid (Calls Try.prog 62 #[.agg #[.slice (some ⟨(f h).1, 0, none⟩) (f h).2.2.l.length (f h).2.1, .int .i64 (f h).2.2.s, .int .i64 (f h).2.2.e, .string (f h).2.2.n], .agg #[.slice (some ⟨(f a).1, 0, none⟩) (f a).2.2.l.length (f a).2.1, .int .i64 (f a).2.2.s, .int .i64 (f a).2.2.e, .string (f a).2.2.n], .pointer (some ⟨b0, 0, none⟩)] q.out fun e w' => e = .returned (.int .i64 (-1)) ∧ Below q.out.heap.size q.out w') := fun q => (HCx q).out.mono fun e w' h => ⟨h.1.trans (StwA.retI (cmp_less hq)), h.2⟩
        have HQ : Hid (slB (keyA (f h)) (keyA (f a)) = true) := hq
        clear hq HCx
        go_wp2
        refine wp_over (z := wr) (by kernel_rfl) (by kernel_rfl) (Below.refl _ _) ?_
        repeat (go_big_quiet_step (first | (go_at_call 62; first | exact call_over (HC1 _).out)))
        refine wpQuiet_nil ?_
        intro w2 hw2
        have hb2 := over_bel hw2
        have H2 : Hid (SR lo w2 M n f ∧ Apart M w w2) := ⟨H1.out.1.grow hb2, HA.out.below hb2⟩
        clear hw2 hne hb2 x0 x1 x2 x3 y0 y1 y2 y3 HC1
        go_wp2
        go_roundw
        case rel => exact ⟨h + 1, j, by go_num, rfl, by omega, by omega, hj, H2.out.1, H2.out.2, fun p h1 h2 => ordL.le_lt (HL.out.2.le ordL h1 (by omega) (by omega)) HQ.out, H1.out.2.2⟩
        case measure => simp [intOf]; omega
      | false =>
        have hge : ¬ cmpA (f h) (f a) < 0 := by have := cmp_ge hq; omega
        have hgb : decide (cmpA (f h) (f a) < 0) = false := decide_eq_false hge
        have HQ : Hid (slB (keyA (f h)) (keyA (f a)) = false) := hq
        clear hq
        go_wp2
        refine wp_over (z := wr) (by kernel_rfl) (by kernel_rfl) (Below.refl _ _) ?_
        repeat (go_big_quiet_step (first | (go_at_call 62; first | exact call_over (HCx _).out)))
        refine wpQuiet_nil ?_
        intro w2 hw2
        have hb2 := over_bel hw2
        have H2 : Hid (SR lo w2 M n f ∧ Apart M w w2) := ⟨H1.out.1.grow hb2, HA.out.below hb2⟩
        clear hw2 hne hb2 x0 x1 x2 x3 y0 y1 y2 y3 HCx
        go_wp2
        go_roundw
        case rel => exact ⟨i, h, rfl, rfl, hi, by omega, by omega, H2.out.1, H2.out.2, H1.out.2.1, fun p h1 h2 => ordL.le_trans HQ.out (HL.out.2.le ordL (by omega) h1 h2)⟩
        case measure => simp [intOf]; omega
    have hge : ¬ (i : Int) < (j : Int) := by omega
    have HE : Hid (i = j) := by show i = j; omega
    have hi1 : (1 : Int) ≤ (i : Int) := by omega
    go_wp2
    go_loopw [13] (fun v w' => ∃ k : Nat, v = .int .i64 k ∧ a ≤ k ∧ k + 1 ≤ i ∧ SR lo w' M n (rotF f a (a + 1) (k + 1)) ∧ Apart M w w') (fun v _ => i - (intOf v).toNat)
    case atStart => exact ⟨a, rfl, Nat.le_refl _, by omega, by rw [rot_0]; exact H1.out.1, HA.out⟩
    case round =>
      obtain ⟨k, rfl, hak, hki, hS1, hA1⟩ := hrel
      have H3 : Hid (SR lo wr M n (rotF f a (a + 1) (k + 1)) ∧ Apart M w wr) := ⟨hS1, hA1⟩
      clear hS1 hA1
      by_cases hlt : k + 1 < i
      · have hlt' : (k : Int) < (i : Int) - 1 := by omega
        have HU : Hid (Stb.two (rotF f a (a + 1) (k + 1)) k (k + 1) = rotF f a (a + 1) (k + 1 + 1)) := rot_upw hak
        obtain ⟨g, hg⟩ : ∃ g, rotF f a (a + 1) (k + 1) = g := ⟨_, rfl⟩
        rw [hg] at H3 HU
        clear hg
        have hk1 : (k : Int) + 1 < (n : Int) := by omega
        have hk0 : (k : Int) < (n : Int) := by omega
        obtain ⟨x0, x1, x2, x3⟩ : wr.cell? ⟨M, (k + 1) * 4, none⟩ = some (.slice (some ⟨(g (k + 1)).1, 0, none⟩) (g (k + 1)).2.2.l.length (g (k + 1)).2.1) ∧ wr.cell? ⟨M, (k + 1) * 4 + 1, none⟩ = some (.int .i64 (g (k + 1)).2.2.s) ∧ wr.cell? ⟨M, (k + 1) * 4 + 2, none⟩ = some (.int .i64 (g (k + 1)).2.2.e) ∧ wr.cell? ⟨M, (k + 1) * 4 + 3, none⟩ = some (.string (g (k + 1)).2.2.n) := H3.out.1.cell (by omega)
        have fx0 : wr.frozen? ⟨M, (k + 1) * 4, none⟩ = false := H3.out.1.frozen _
        have fx1 : wr.frozen? ⟨M, (k + 1) * 4 + 1, none⟩ = false := H3.out.1.frozen _
        have fx2 : wr.frozen? ⟨M, (k + 1) * 4 + 2, none⟩ = false := H3.out.1.frozen _
        have fx3 : wr.frozen? ⟨M, (k + 1) * 4 + 3, none⟩ = false := H3.out.1.frozen _
        obtain ⟨y0, y1, y2, y3⟩ : wr.cell? ⟨M, k * 4, none⟩ = some (.slice (some ⟨(g k).1, 0, none⟩) (g k).2.2.l.length (g k).2.1) ∧ wr.cell? ⟨M, k * 4 + 1, none⟩ = some (.int .i64 (g k).2.2.s) ∧ wr.cell? ⟨M, k * 4 + 2, none⟩ = some (.int .i64 (g k).2.2.e) ∧ wr.cell? ⟨M, k * 4 + 3, none⟩ = some (.string (g k).2.2.n) := H3.out.1.cell (by omega)
        have fy0 : wr.frozen? ⟨M, k * 4, none⟩ = false := H3.out.1.frozen _
        have fy1 : wr.frozen? ⟨M, k * 4 + 1, none⟩ = false := H3.out.1.frozen _
        have fy2 : wr.frozen? ⟨M, k * 4 + 2, none⟩ = false := H3.out.1.frozen _
        have fy3 : wr.frozen? ⟨M, k * 4 + 3, none⟩ = false := H3.out.1.frozen _
        go_wp2
        go_region
        go_wp2
        go_roundw
        case rel => exact ⟨k + 1, by go_num, by omega, by omega, by rw [← HU.out]; exact (H3.out.1.two (p := k) (q := k + 1) (by omega) (by omega) (by omega)).drew, apart_drew (apart_two (p := k) (q := k + 1) (f := g) H3.out.2)⟩
        case measure => simp [intOf]; omega
      have hge2 : ¬ (k : Int) < (i : Int) - 1 := by omega
      have HK : Hid (k + 1 = i ∧ m = a + 1) := ⟨by omega, by omega⟩
      have HF : Hid (Mrg slB keyA f (rotF f a (a + 1) i) a b n) := mrg_left ordL (by have := HL.out.2; rwa [HK.out.2] at this) (by omega) (by omega) hbn (fun p h1 h2 => H1.out.2.1 p (by omega) h2) (fun p h1 h2 => H1.out.2.2 p (by have := HE.out; omega) h2)
      go_wp2
      (try simp only [Exit.inBlock, Exit.then])
      refine bodyPost_ret (results_none rfl _ _ _) rfl ?_
      exact ⟨rfl, ⟨_, by have := H3.out.1; rwa [HK.out.1] at this, HF.out⟩, H3.out.2⟩
set_option maxRecDepth 100000 in
set_option maxHeartbeats 12800000 in
theorem symR_any (M b0 cap lo n a m b : Nat) (f : Nat → ARow) (w : World) (hS : SR lo w M n f) (hn : n ≤ 4194304) (hc : w.cell? ⟨b0, 0, none⟩ = some (.func (.func 47) #[] #[])) (hb0 : b0 < w.heap.size) (hM : b0 ≠ M) (ham : a < m) (hmb : m < b) (hbn : b ≤ n) (hL : Srt slB keyA f a m) (hR : Srt slB keyA f m b) (h1 : m - a ≠ 1) (h2 : b - m = 1) :
    Calls Try.prog 75 #[.slice (some ⟨M, 0, none⟩) n cap, .int .i64 a, .int .i64 m, .int .i64 b, .func (.func 62) #[] #[.pointer (some ⟨b0, 0, none⟩)]] w fun e w' => e = .returned (.tuple #[]) ∧ Sd lo w M n f a b w' := by
  have HC : Hid (w.cell? ⟨b0, 0, none⟩ = some (.func (.func 47) #[] #[]) ∧ b0 < w.heap.size ∧ b0 ≠ M) := ⟨hc, hb0, hM⟩
  have HS : Hid (SR lo w M n f) := hS
  have HL : Hid (Srt slB keyA f a m ∧ Srt slB keyA f m b) := ⟨hL, hR⟩
  clear hc hS hb0 hM hL hR
  have HA0 : Hid (Apart M w w) := Apart.refl _ _
  have hh1 : ¬ (m : Int) - (a : Int) = 1 := by omega
  have hh2 : (b : Int) - (m : Int) = 1 := by omega
  have hbb : ((m : Int) - (a : Int) == 1) = false := by simp; omega
  go_enter Try.func75, Try.ntmps75
  go_wp2
  go_loopw [14, 15] (fun u v w' => ∃ i j : Nat, u = .int .i64 i ∧ v = .int .i64 j ∧ a ≤ i ∧ i ≤ j ∧ j ≤ m ∧ SR lo w' M n f ∧ Apart M w w' ∧ (∀ p, a ≤ p → p < i → slB (keyA (f m)) (keyA (f p)) = false) ∧ (∀ p, j ≤ p → p < m → slB (keyA (f m)) (keyA (f p)) = true)) (fun u v _ => (intOf v).toNat - (intOf u).toNat)
  case atStart => exact ⟨a, m, rfl, rfl, Nat.le_refl _, by omega, Nat.le_refl _, HS.out, HA0.out, ⟨fun p h1 h2 => by omega, fun p h1 h2 => by omega⟩⟩
  case round =>
    obtain ⟨i, j, rfl, rfl, hi, hij, hj, hS1, hA1, hrl⟩ := hrel
    have H1 : Hid (SR lo wr M n f ∧ ((∀ p, a ≤ p → p < i → slB (keyA (f m)) (keyA (f p)) = false) ∧ (∀ p, j ≤ p → p < m → slB (keyA (f m)) (keyA (f p)) = true))) := ⟨hS1, hrl⟩
    have HA : Hid (Apart M w wr) := hA1
    have hMr : M < wr.heap.size := hS1.lt
    clear hS1 hA1 hrl HS
    by_cases hlt : i < j
    · have hlt' : (i : Int) < (j : Int) := by omega
      obtain ⟨h, hh⟩ : ∃ h : Nat, h = (i + j) / 2 := ⟨_, rfl⟩
      have eh : ((i : Int) + (j : Int)) / 2 = (h : Int) := by omega
      have hbh : i ≤ h ∧ h < j := by omega
      clear hh
      have hhn : (h : Int) < (n : Int) := by omega
      have hmn : (m : Int) < (n : Int) := by omega
      have hne := Grown.some wr
      have HCm : ∀ (x y : ARow) (q : Grown wr), OwnA lo wr x → OwnA lo wr y → Hid (Calls Try.prog 62 #[.agg #[.slice (some ⟨(x).1, 0, none⟩) (x).2.2.l.length (x).2.1, .int .i64 (x).2.2.s, .int .i64 (x).2.2.e, .string (x).2.2.n], .agg #[.slice (some ⟨(y).1, 0, none⟩) (y).2.2.l.length (y).2.1, .int .i64 (y).2.2.s, .int .i64 (y).2.2.e, .string (y).2.2.n], .pointer (some ⟨b0, 0, none⟩)] q.out fun e w' => e = .returned (.int .i64 (cmpA x y)) ∧ Below q.out.heap.size q.out w') := fun x y q hx hy =>
        cmp_any x y b0 lo q.out (hx.grow q.bel) (hy.grow q.bel) (by rw [q.bel.cell (Nat.lt_of_lt_of_le HC.out.2.1 HA.out.size)]; exact fnAt HA.out HC.out.1 HC.out.2.1 HC.out.2.2) (Nat.lt_of_lt_of_le HC.out.2.1 (Nat.le_trans HA.out.size q.bel.size))
      obtain ⟨z0, z1, z2, z3⟩ : wr.cell? ⟨M, m * 4, none⟩ = some (.slice (some ⟨(f m).1, 0, none⟩) (f m).2.2.l.length (f m).2.1) ∧ wr.cell? ⟨M, m * 4 + 1, none⟩ = some (.int .i64 (f m).2.2.s) ∧ wr.cell? ⟨M, m * 4 + 2, none⟩ = some (.int .i64 (f m).2.2.e) ∧ wr.cell? ⟨M, m * 4 + 3, none⟩ = some (.string (f m).2.2.n) := H1.out.1.cell (by omega)
      have x0 := fun q : Grown wr => q.cell (p := ⟨M, m * 4, none⟩) hMr z0
      have x1 := fun q : Grown wr => q.cell (p := ⟨M, m * 4 + 1, none⟩) hMr z1
      have x2 := fun q : Grown wr => q.cell (p := ⟨M, m * 4 + 2, none⟩) hMr z2
      have x3 := fun q : Grown wr => q.cell (p := ⟨M, m * 4 + 3, none⟩) hMr z3
      clear z0 z1 z2 z3
      obtain ⟨z0, z1, z2, z3⟩ : wr.cell? ⟨M, h * 4, none⟩ = some (.slice (some ⟨(f h).1, 0, none⟩) (f h).2.2.l.length (f h).2.1) ∧ wr.cell? ⟨M, h * 4 + 1, none⟩ = some (.int .i64 (f h).2.2.s) ∧ wr.cell? ⟨M, h * 4 + 2, none⟩ = some (.int .i64 (f h).2.2.e) ∧ wr.cell? ⟨M, h * 4 + 3, none⟩ = some (.string (f h).2.2.n) := H1.out.1.cell (by omega)
      have y0 := fun q : Grown wr => q.cell (p := ⟨M, h * 4, none⟩) hMr z0
      have y1 := fun q : Grown wr => q.cell (p := ⟨M, h * 4 + 1, none⟩) hMr z1
      have y2 := fun q : Grown wr => q.cell (p := ⟨M, h * 4 + 2, none⟩) hMr z2
      have y3 := fun q : Grown wr => q.cell (p := ⟨M, h * 4 + 3, none⟩) hMr z3
      clear z0 z1 z2 z3
      have HCx := fun q : Grown wr => HCm (f m) (f h) q (H1.out.1.rows m (by omega)) (H1.out.1.rows h (by omega))
      clear HCm
      cases hq : slB (keyA (f m)) (keyA (f h)) with
      | true =>
        have HC1 : ∀ q : Grown wr, Hid (Calls Try.prog 62 #[.agg #[.slice (some ⟨(f m).1, 0, none⟩) (f m).2.2.l.length (f m).2.1, .int .i64 (f m).2.2.s, .int .i64 (f m).2.2.e, .string (f m).2.2.n], .agg #[.slice (some ⟨(f h).1, 0, none⟩) (f h).2.2.l.length (f h).2.1, .int .i64 (f h).2.2.s, .int .i64 (f h).2.2.e, .string (f h).2.2.n], .pointer (some ⟨b0, 0, none⟩)] q.out fun e w' => e = .returned (.int .i64 (-1)) ∧ Below q.out.heap.size q.out w') := fun q => (HCx q).out.mono fun e w' h => ⟨h.1.trans (StwA.retI (cmp_less hq)), h.2⟩
        have HQ : Hid (slB (keyA (f m)) (keyA (f h)) = true) := hq
        clear hq HCx
        go_wp2
        refine wp_over (z := wr) (by kernel_rfl) (by kernel_rfl) (Below.refl _ _) ?_
        repeat (go_big_quiet_step (first | (go_at_call 62; first | exact call_over (HC1 _).out)))
        refine wpQuiet_nil ?_
        intro w2 hw2
        have hb2 := over_bel hw2
        have H2 : Hid (SR lo w2 M n f ∧ Apart M w w2) := ⟨H1.out.1.grow hb2, HA.out.below hb2⟩
        clear hw2 hne hb2 x0 x1 x2 x3 y0 y1 y2 y3 HC1
        go_wp2
        go_roundw
        case rel => exact ⟨i, h, rfl, rfl, hi, by omega, by omega, H2.out.1, H2.out.2, H1.out.2.1, fun p h1 h2 => ordL.lt_le HQ.out (HL.out.1.le ordL (by omega) h1 h2)⟩
        case measure => simp [intOf]; omega
      | false =>
        have hge : ¬ cmpA (f m) (f h) < 0 := by have := cmp_ge hq; omega
        have hgb : decide (cmpA (f m) (f h) < 0) = false := decide_eq_false hge
        have HQ : Hid (slB (keyA (f m)) (keyA (f h)) = false) := hq
        clear hq
        go_wp2
        refine wp_over (z := wr) (by kernel_rfl) (by kernel_rfl) (Below.refl _ _) ?_
        repeat (go_big_quiet_step (first | (go_at_call 62; first | exact call_over (HCx _).out)))
        refine wpQuiet_nil ?_
        intro w2 hw2
        have hb2 := over_bel hw2
        have H2 : Hid (SR lo w2 M n f ∧ Apart M w w2) := ⟨H1.out.1.grow hb2, HA.out.below hb2⟩
        clear hw2 hne hb2 x0 x1 x2 x3 y0 y1 y2 y3 HCx
        go_wp2
        go_roundw
        case rel => exact ⟨h + 1, j, by go_num, rfl, by omega, by omega, hj, H2.out.1, H2.out.2, fun p h1 h2 => ordL.le_trans (HL.out.1.le ordL h1 (by omega) (by omega)) HQ.out, H1.out.2.2⟩
        case measure => simp [intOf]; omega
    have hge : ¬ (i : Int) < (j : Int) := by omega
    have HE : Hid (i = j) := by show i = j; omega
    go_wp2
    go_loopw [17] (fun v w' => ∃ k : Nat, v = .int .i64 k ∧ i ≤ k ∧ k ≤ m ∧ SR lo w' M n (rotF f k m (m + 1)) ∧ Apart M w w') (fun v _ => (intOf v).toNat)
    case atStart => exact ⟨m, rfl, by omega, Nat.le_refl _, by rw [rot_00]; exact H1.out.1, HA.out⟩
    case round =>
      obtain ⟨k, rfl, hik, hkm, hS1, hA1⟩ := hrel
      have H3 : Hid (SR lo wr M n (rotF f k m (m + 1)) ∧ Apart M w wr) := ⟨hS1, hA1⟩
      clear hS1 hA1
      by_cases hlt : i < k
      · obtain ⟨k, rfl⟩ : ∃ x, k = x + 1 := ⟨k - 1, by omega⟩
        have ek : ((k + 1 : Nat) : Int) = (k : Int) + 1 := by omega
        have hlt' : (i : Int) < (k : Int) + 1 := by omega
        have HU : Hid (Stb.two (rotF f (k + 1) m (m + 1)) k (k + 1) = rotF f k m (m + 1)) := rot_dn (by omega)
        obtain ⟨g, hg⟩ : ∃ g, rotF f (k + 1) m (m + 1) = g := ⟨_, rfl⟩
        rw [hg] at H3 HU
        clear hg
        have hk1 : (k : Int) + 1 < (n : Int) := by omega
        have hk0 : (k : Int) < (n : Int) := by omega
        have hw : IntKind.i64.wrap (k : Int) = (k : Int) := by rw [IntKind.wrap_i64]; omega
        obtain ⟨x0, x1, x2, x3⟩ : wr.cell? ⟨M, (k + 1) * 4, none⟩ = some (.slice (some ⟨(g (k + 1)).1, 0, none⟩) (g (k + 1)).2.2.l.length (g (k + 1)).2.1) ∧ wr.cell? ⟨M, (k + 1) * 4 + 1, none⟩ = some (.int .i64 (g (k + 1)).2.2.s) ∧ wr.cell? ⟨M, (k + 1) * 4 + 2, none⟩ = some (.int .i64 (g (k + 1)).2.2.e) ∧ wr.cell? ⟨M, (k + 1) * 4 + 3, none⟩ = some (.string (g (k + 1)).2.2.n) := H3.out.1.cell (by omega)
        have fx0 : wr.frozen? ⟨M, (k + 1) * 4, none⟩ = false := H3.out.1.frozen _
        have fx1 : wr.frozen? ⟨M, (k + 1) * 4 + 1, none⟩ = false := H3.out.1.frozen _
        have fx2 : wr.frozen? ⟨M, (k + 1) * 4 + 2, none⟩ = false := H3.out.1.frozen _
        have fx3 : wr.frozen? ⟨M, (k + 1) * 4 + 3, none⟩ = false := H3.out.1.frozen _
        obtain ⟨y0, y1, y2, y3⟩ : wr.cell? ⟨M, k * 4, none⟩ = some (.slice (some ⟨(g k).1, 0, none⟩) (g k).2.2.l.length (g k).2.1) ∧ wr.cell? ⟨M, k * 4 + 1, none⟩ = some (.int .i64 (g k).2.2.s) ∧ wr.cell? ⟨M, k * 4 + 2, none⟩ = some (.int .i64 (g k).2.2.e) ∧ wr.cell? ⟨M, k * 4 + 3, none⟩ = some (.string (g k).2.2.n) := H3.out.1.cell (by omega)
        have fy0 : wr.frozen? ⟨M, k * 4, none⟩ = false := H3.out.1.frozen _
        have fy1 : wr.frozen? ⟨M, k * 4 + 1, none⟩ = false := H3.out.1.frozen _
        have fy2 : wr.frozen? ⟨M, k * 4 + 2, none⟩ = false := H3.out.1.frozen _
        have fy3 : wr.frozen? ⟨M, k * 4 + 3, none⟩ = false := H3.out.1.frozen _
        rw [ek]
        go_wp2
        go_region
        go_wp2
        go_roundw
        case rel => exact ⟨k, by go_num, by omega, by omega, by rw [← HU.out, two_comm]; exact (H3.out.1.two (p := k + 1) (q := k) (by omega) (by omega) (by omega)).drew, apart_drew (apart_two (p := k + 1) (q := k) (f := g) H3.out.2)⟩
        case measure => simp [intOf]
      have hge2 : ¬ (i : Int) < (k : Int) := by omega
      have HK : Hid (k = i ∧ b = m + 1) := ⟨by omega, by omega⟩
      have HF : Hid (Mrg slB keyA f (rotF f i m (m + 1)) a b n) := by show Mrg slB keyA f (rotF f i m (m + 1)) a b n; rw [HK.out.2]; exact mrg_right ordL HL.out.1 (by omega) (by omega) (by omega) H1.out.2.1 (fun p h1 h2 => H1.out.2.2 p (by have := HE.out; omega) h2)
      go_wp2
      (try simp only [Exit.inBlock, Exit.then])
      refine bodyPost_ret (results_none rfl _ _ _) rfl ?_
      exact ⟨rfl, ⟨_, by have := H3.out.1; rwa [HK.out.1] at this, HF.out⟩, H3.out.2⟩
end Go.Proofs.Ytcopckbpflmmeab.StwD
