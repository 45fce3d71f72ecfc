/-
  PROVED: the library's merge in place of two sorted neighbouring blocks of a row of alarms: both together are sorted then, equals in their order, and all else is as it was.
-/
import Derived.Test.YtcopckbpflmmeabStwD
import Derived.Deep.CutRange
namespace Go.Proofs.Ytcopckbpflmmeab.StwE
open Go.RowKit
open Go.Proofs.Ytcopckbpflmmeab.Labs Go.Proofs.Ytcopckbpflmmeab.LabS Go.Proofs.Ytcopckbpflmmeab.Alms Go.Proofs.Ytcopckbpflmmeab.AlmS Go.Proofs.Ytcopckbpflmmeab.AlmM Go.Proofs.Ytcopckbpflmmeab.Over Go.Proofs.Ytcopckbpflmmeab.Blk Go.Proofs.Ytcopckbpflmmeab.App Go.Proofs.Ytcopckbpflmmeab.Rws Go.Proofs.Ytcopckbpflmmeab.ChnI Go.Proofs.Ytcopckbpflmmeab.ChnC Go.Proofs.Ytcopckbpflmmeab.Stb
open Go.Proofs.Ytcopckbpflmmeab.LabL (slB)
open Go.Proofs.Ytcopckbpflmmeab.Mark (Apart)
open Go.Proofs.Ytcopckbpflmmeab.StrB (retB)
set_option linter.unusedVariables false
open Go.Proofs.Ytcopckbpflmmeab.StwA
open Go.Proofs.Ytcopckbpflmmeab.StwC
set_option maxRecDepth 100000 in
set_option maxHeartbeats 12800000 in
theorem symG_any (M b0 cap lo n a m b : Nat) (f : Nat → ARow) (w : World) (hS : SR lo w M n f) (hn : n ≤ 4194304) (hc : w.cell? ⟨b0, 0, none⟩ = some (.func (.func 47) #[] #[])) (hb0 : b0 < w.heap.size) (hM : b0 ≠ M) (ham : a < m) (hmb : m < b) (hbn : b ≤ n) (hL : Srt slB keyA f a m) (hR : Srt slB keyA f m b) (h1 : m - a ≠ 1) (h2 : b - m ≠ 1)
    (hI : ∀ (a' m' b' : Nat) (g : Nat → ARow) (w' : World), b' - a' < b - a → SR lo w' M n g → Apart M w w' → a' < m' → m' < b' → b' ≤ n → Srt slB keyA g a' m' → Srt slB keyA g m' b' → Calls Try.prog 75 #[.slice (some ⟨M, 0, none⟩) n cap, .int .i64 a', .int .i64 m', .int .i64 b', .func (.func 62) #[] #[.pointer (some ⟨b0, 0, none⟩)]] w' fun e w'' => e = .returned (.tuple #[]) ∧ Sd lo w' M n g a' b' w'') :
    Calls Try.prog 75 #[.slice (some ⟨M, 0, none⟩) n cap, .int .i64 a, .int .i64 m, .int .i64 b, .func (.func 62) #[] #[.pointer (some ⟨b0, 0, none⟩)]] w fun e w' => e = .returned (.tuple #[]) ∧ Sd lo w M n f a b w' := by
  have HC : Hid (w.cell? ⟨b0, 0, none⟩ = some (.func (.func 47) #[] #[]) ∧ b0 < w.heap.size ∧ b0 ≠ M) := ⟨hc, hb0, hM⟩
  have HS : Hid (SR lo w M n f) := hS
  have HL : Hid (Srt slB keyA f a m ∧ Srt slB keyA f m b) := ⟨hL, hR⟩
  clear hc hS hb0 hM hL hR
  have HI : Hid (∀ (a' m' b' : Nat) (g : Nat → ARow) (w' : World), b' - a' < b - a → SR lo w' M n g → Apart M w w' → a' < m' → m' < b' → b' ≤ n → Srt slB keyA g a' m' → Srt slB keyA g m' b' → Calls Try.prog 75 #[.slice (some ⟨M, 0, none⟩) n cap, .int .i64 a', .int .i64 m', .int .i64 b', .func (.func 62) #[] #[.pointer (some ⟨b0, 0, none⟩)]] w' fun e w'' => e = .returned (.tuple #[]) ∧ Sd lo w' M n g a' b' w'') := hI
  clear hI
  have HA0 : Hid (Apart M w w) := Apart.refl _ _
  have hb1 : ((m : Int) - (a : Int) == 1) = false := by simp; omega
  have hb2 : ((b : Int) - (m : Int) == 1) = false := by simp; omega
  obtain ⟨mid, hmid⟩ : ∃ x : Nat, x = (a + b) / 2 := ⟨_, rfl⟩
  have emid : ((a : Int) + (b : Int)) / 2 = (mid : Int) := by omega
  have HM : Hid (2 * mid ≤ a + b ∧ a + b ≤ 2 * mid + 1) := ⟨by omega, by omega⟩
  have hmid2 : a < mid ∧ mid < b := by omega
  clear hmid
  obtain ⟨N, hN⟩ : ∃ x : Nat, x = mid + m := ⟨_, rfl⟩
  have eN : (mid : Int) + (m : Int) = (N : Int) := by omega
  obtain ⟨P, hP⟩ : ∃ x : Nat, x = N - 1 := ⟨_, rfl⟩
  have eP : (N : Int) - 1 = (P : Int) := by omega
  have HN : Hid (N = mid + m ∧ P = N - 1) := ⟨hN, hP⟩
  have hNP : N ≤ 8388608 ∧ P ≤ N := by omega
  clear hN hP
  go_enter Try.func75, Try.ntmps75
  go_upto_if 140 with fail
  go_cut [20, 21] from 25 (fun u v wx => ∃ s0 r0 : Nat, u = .int .i64 s0 ∧ v = .int .i64 r0 ∧ (s0 = if mid < m then mid + m - b else a) ∧ (r0 = if mid < m then mid else m) ∧ wx = w)
  case first =>
    by_cases c : mid < m
    · have c' : (mid : Int) < (m : Int) := by omega
      have eS : Hid ((N : Int) - (b : Int) = ((mid + m - b : Nat) : Int)) := by have := HN.out; have := HM.out; show _ = _; omega
      go_wp2
      go_meet
      case rel => exact ⟨mid + m - b, mid, by rw [eS.out], rfl, by rw [if_pos c], by rw [if_pos c], rfl⟩
    · have c' : ¬ (mid : Int) < (m : Int) := by omega
      go_wp2
      go_meet
      case rel => exact ⟨a, m, rfl, rfl, by rw [if_neg c], by rw [if_neg c], rfl⟩
  case rest =>
    as_aux_lemma =>
      obtain ⟨s0, r0, rfl, rfl, hs0, hr0, hwc⟩ := hcut
      replace hwc := hwc.symm
      subst hwc
      have HZ : Hid (s0 = (if mid < m then mid + m - b else a) ∧ r0 = (if mid < m then mid else m)) := ⟨hs0, hr0⟩
      have HR0 : Hid (a ≤ s0 ∧ s0 ≤ r0 ∧ r0 ≤ m ∧ r0 ≤ mid ∧ ∀ c, s0 ≤ c → c < r0 → m ≤ P - c ∧ P - c < b) := by
        have h0 := HN.out
        have h1 := HM.out
        have h2 := HZ.out
        by_cases c : mid < m
        · rw [if_pos c, if_pos c] at h2
          exact ⟨by omega, by omega, by omega, by omega, fun c _ _ => by omega⟩
        · rw [if_neg c, if_neg c] at h2
          exact ⟨by omega, by omega, by omega, by omega, fun c _ _ => by omega⟩
      have hr00 : s0 ≤ r0 ∧ r0 ≤ m := ⟨HR0.out.2.1, HR0.out.2.2.1⟩
      clear hs0 hr0
      go_wp2
      go_loopw [20, 21] (fun u v w' => ∃ i j : Nat, u = .int .i64 i ∧ v = .int .i64 j ∧ s0 ≤ i ∧ i ≤ j ∧ j ≤ r0 ∧ SR lo w' M n f ∧ Apart M w w' ∧ (∀ c, s0 ≤ c → c < i → slB (keyA (f (P - c))) (keyA (f c)) = false) ∧ (∀ c, j ≤ c → c < r0 → slB (keyA (f (P - c))) (keyA (f c)) = true)) (fun u v _ => (intOf v).toNat - (intOf u).toNat)
      case atStart => exact ⟨s0, r0, rfl, rfl, Nat.le_refl _, by omega, Nat.le_refl _, HS.out, HA0.out, ⟨fun p h1 h2 => by omega, fun p h1 h2 => by omega⟩⟩
      case round =>
        obtain ⟨i, j, rfl, rfl, hi, hij, hj, hS1, hA1, hrl⟩ := hrel
        have H1 : Hid (SR lo wr M n f ∧ ((∀ c, s0 ≤ c → c < i → slB (keyA (f (P - c))) (keyA (f c)) = false) ∧ (∀ c, j ≤ c → c < r0 → slB (keyA (f (P - c))) (keyA (f c)) = true))) := ⟨hS1, hrl⟩
        have HA : Hid (Apart M w wr) := hA1
        have hMr : M < wr.heap.size := hS1.lt
        clear hS1 hA1 hrl HS
        by_cases hlt : i < j
        · have hlt' : (i : Int) < (j : Int) := by omega
          obtain ⟨c, hc⟩ : ∃ c : Nat, c = (i + j) / 2 := ⟨_, rfl⟩
          have ec : ((i : Int) + (j : Int)) / 2 = (c : Int) := by omega
          have hbc : i ≤ c ∧ c < j := by omega
          clear hc
          have hQb := HR0.out.2.2.2.2 c (by omega) (by omega)
          obtain ⟨Q, hQ⟩ : ∃ x : Nat, x = P - c := ⟨_, rfl⟩
          have eQ : (P : Int) - (c : Int) = (Q : Int) := by omega
          have HQQ : Hid (Q = P - c ∧ m ≤ Q ∧ Q < b) := ⟨hQ, by omega, by omega⟩
          have hcn : (c : Int) < (n : Int) := by omega
          have hQn : (Q : Int) < (n : Int) := by omega
          have hQn' : Q < n := by omega
          clear hQ hQb
          have hne := Grown.some wr
          have HCm : ∀ (x y : ARow) (q : Grown wr), OwnA lo wr x → OwnA lo wr y → Hid (Calls Try.prog 62 #[.agg #[.slice (some ⟨(x).1, 0, none⟩) (x).2.2.l.length (x).2.1, .int .i64 (x).2.2.s, .int .i64 (x).2.2.e, .string (x).2.2.n], .agg #[.slice (some ⟨(y).1, 0, none⟩) (y).2.2.l.length (y).2.1, .int .i64 (y).2.2.s, .int .i64 (y).2.2.e, .string (y).2.2.n], .pointer (some ⟨b0, 0, none⟩)] q.out fun e w' => e = .returned (.int .i64 (cmpA x y)) ∧ Below q.out.heap.size q.out w') := fun x y q hx hy =>
            cmp_any x y b0 lo q.out (hx.grow q.bel) (hy.grow q.bel) (by rw [q.bel.cell (Nat.lt_of_lt_of_le HC.out.2.1 HA.out.size)]; exact fnAt HA.out HC.out.1 HC.out.2.1 HC.out.2.2) (Nat.lt_of_lt_of_le HC.out.2.1 (Nat.le_trans HA.out.size q.bel.size))
          obtain ⟨z0, z1, z2, z3⟩ : wr.cell? ⟨M, Q * 4, none⟩ = some (.slice (some ⟨(f Q).1, 0, none⟩) (f Q).2.2.l.length (f Q).2.1) ∧ wr.cell? ⟨M, Q * 4 + 1, none⟩ = some (.int .i64 (f Q).2.2.s) ∧ wr.cell? ⟨M, Q * 4 + 2, none⟩ = some (.int .i64 (f Q).2.2.e) ∧ wr.cell? ⟨M, Q * 4 + 3, none⟩ = some (.string (f Q).2.2.n) := H1.out.1.cell (hQn')
          have x0 := fun q : Grown wr => q.cell (p := ⟨M, Q * 4, none⟩) hMr z0
          have x1 := fun q : Grown wr => q.cell (p := ⟨M, Q * 4 + 1, none⟩) hMr z1
          have x2 := fun q : Grown wr => q.cell (p := ⟨M, Q * 4 + 2, none⟩) hMr z2
          have x3 := fun q : Grown wr => q.cell (p := ⟨M, Q * 4 + 3, none⟩) hMr z3
          clear z0 z1 z2 z3
          obtain ⟨z0, z1, z2, z3⟩ : wr.cell? ⟨M, c * 4, none⟩ = some (.slice (some ⟨(f c).1, 0, none⟩) (f c).2.2.l.length (f c).2.1) ∧ wr.cell? ⟨M, c * 4 + 1, none⟩ = some (.int .i64 (f c).2.2.s) ∧ wr.cell? ⟨M, c * 4 + 2, none⟩ = some (.int .i64 (f c).2.2.e) ∧ wr.cell? ⟨M, c * 4 + 3, none⟩ = some (.string (f c).2.2.n) := H1.out.1.cell (by omega)
          have y0 := fun q : Grown wr => q.cell (p := ⟨M, c * 4, none⟩) hMr z0
          have y1 := fun q : Grown wr => q.cell (p := ⟨M, c * 4 + 1, none⟩) hMr z1
          have y2 := fun q : Grown wr => q.cell (p := ⟨M, c * 4 + 2, none⟩) hMr z2
          have y3 := fun q : Grown wr => q.cell (p := ⟨M, c * 4 + 3, none⟩) hMr z3
          clear z0 z1 z2 z3
          have HCx := fun q : Grown wr => HCm (f Q) (f c) q (H1.out.1.rows Q (hQn')) (H1.out.1.rows c (by omega))
          clear HCm
          cases hq : slB (keyA (f Q)) (keyA (f c)) with
          | true =>
            have HC1 : ∀ q : Grown wr, Hid (Calls Try.prog 62 #[.agg #[.slice (some ⟨(f Q).1, 0, none⟩) (f Q).2.2.l.length (f Q).2.1, .int .i64 (f Q).2.2.s, .int .i64 (f Q).2.2.e, .string (f Q).2.2.n], .agg #[.slice (some ⟨(f c).1, 0, none⟩) (f c).2.2.l.length (f c).2.1, .int .i64 (f c).2.2.s, .int .i64 (f c).2.2.e, .string (f c).2.2.n], .pointer (some ⟨b0, 0, none⟩)] q.out fun e w' => e = .returned (.int .i64 (-1)) ∧ Below q.out.heap.size q.out w') := fun q => (HCx q).out.mono fun e w' h => ⟨h.1.trans (StwA.retI (cmp_less hq)), h.2⟩
            have HQ : Hid (slB (keyA (f Q)) (keyA (f c)) = true) := hq
            clear hq HCx
            go_wp2
            refine wp_over (z := wr) (by kernel_rfl) (by kernel_rfl) (Below.refl _ _) ?_
            repeat (go_big_quiet_step (first | (go_at_call 62; first | exact call_over (HC1 _).out)))
            refine wpQuiet_nil ?_
            intro w2 hw2
            have hb2 := over_bel hw2
            have H2 : Hid (SR lo w2 M n f ∧ Apart M w w2) := ⟨H1.out.1.grow hb2, HA.out.below hb2⟩
            clear hw2 hne hb2 x0 x1 x2 x3 y0 y1 y2 y3 HC1
            go_wp2
            go_roundw
            case rel =>
              refine ⟨i, c, rfl, rfl, hi, by omega, by omega, H2.out.1, H2.out.2, H1.out.2.1, fun p h1 h2 => ?_⟩
              have k1 := HQQ.out
              have k2 := HR0.out.2.2.2.2 p (by omega) (by omega)
              have k3 := HQ.out
              rw [k1.1] at k3
              exact ordL.le_lt (HL.out.2.le ordL k2.1 (by omega) (by omega)) (ordL.lt_le k3 (HL.out.1.le ordL (by have := HR0.out.1; omega) h1 (by omega)))
            case measure => simp [intOf]; omega
          | false =>
            have hge : ¬ cmpA (f Q) (f c) < 0 := by have := cmp_ge hq; omega
            have hgb : decide (cmpA (f Q) (f c) < 0) = false := decide_eq_false hge
            have HQ : Hid (slB (keyA (f Q)) (keyA (f c)) = false) := hq
            clear hq
            go_wp2
            refine wp_over (z := wr) (by kernel_rfl) (by kernel_rfl) (Below.refl _ _) ?_
            repeat (go_big_quiet_step (first | (go_at_call 62; first | exact call_over (HCx _).out)))
            refine wpQuiet_nil ?_
            intro w2 hw2
            have hb2 := over_bel hw2
            have H2 : Hid (SR lo w2 M n f ∧ Apart M w w2) := ⟨H1.out.1.grow hb2, HA.out.below hb2⟩
            clear hw2 hne hb2 x0 x1 x2 x3 y0 y1 y2 y3 HCx
            go_wp2
            go_roundw
            case rel =>
              refine ⟨c + 1, j, by go_num, rfl, by omega, by omega, hj, H2.out.1, H2.out.2, fun p h1 h2 => ?_, H1.out.2.2⟩
              have k1 := HQQ.out
              have k2 := HR0.out.2.2.2.2 p (by omega) (by omega)
              have k3 := HQ.out
              rw [k1.1] at k3
              exact ordL.le_trans (HL.out.1.le ordL (by have := HR0.out.1; omega) (Nat.le_of_lt_succ h2) (by omega)) (ordL.le_trans k3 (HL.out.2.le ordL (by omega) (by omega) k2.2))
            case measure => simp [intOf]; omega
        have hge : ¬ (i : Int) < (j : Int) := by omega
        have HE : Hid (i = j) := by show i = j; omega
        have HRr := HR0.out
        obtain ⟨E, hE⟩ : ∃ x : Nat, x = N - i := ⟨_, rfl⟩
        have eE : (N : Int) - (i : Int) = (E : Int) := by have := HN.out; omega
        have HEE : Hid (E = mid + m - i) := by have := HN.out; show E = _; omega
        have HCut : Hid (Cut slB keyA f a m b i E) := by
          show Cut slB keyA f a m b i E
          rw [HEE.out]
          have h0 := HN.out
          exact cut_of ordL HL.out.1 HL.out.2 HM.out ⟨ham, hmb⟩ HZ.out.1 HZ.out.2 hi (by omega) (fun c h1 h2 => by have := H1.out.2.1 c h1 h2; rwa [show P - c = mid + m - 1 - c by omega] at this) (fun c h1 h2 => by have := H1.out.2.2 c (by have := HE.out; omega) h2; rwa [show P - c = mid + m - 1 - c by omega] at this)
        have HG : Hid (Srt slB keyA (rotF f i m E) a i ∧ Srt slB keyA (rotF f i m E) i mid ∧ Srt slB keyA (rotF f i m E) mid E ∧ Srt slB keyA (rotF f i m E) E b ∧ (∀ p q, a ≤ p → p < mid → mid ≤ q → q < b → slB (keyA (rotF f i m E q)) (keyA (rotF f i m E p)) = false) ∧ St keyA (seg f 0 n) (seg (rotF f i m E) 0 n)) := by
          have h := HCut.out
          rw [HEE.out] at h ⊢
          exact h.rot ordL HL.out.1 HL.out.2 (by omega) hbn
        have hcs := HCut.out.hs
        have hE2 : E = mid + m - i := HEE.out
        have HO : Hid (∀ k, k < a ∨ b ≤ k → rotF f i m E k = f k) := fun k hk => by
          rcases hk with hk | hk
          · exact rot_low (by omega) (by omega) (by omega)
          · exact rot_high (by omega) (by omega) (by omega)
        have him : i ≤ mid := by omega
        have hEm : mid ≤ E := by omega
        clear hE hE2 HRr
        obtain ⟨F, hF⟩ : ∃ g, rotF f i m E = g := ⟨_, rfl⟩
        rw [hF] at HG HO
        have HF : Hid (rotF f i m E = F) := hF
        clear hF
        obtain ⟨w5, hw5⟩ : ∃ x, x = wr := ⟨_, rfl⟩
        subst hw5
        go_upto_region 39 with fail
        go_cut [185] from 25 (fun u wx => ∃ B : Bool, u = .bool B ∧ (B = true ↔ (i < m ∧ m < E)) ∧ wx = w5)
        case first =>
          by_cases c1 : i < m
          · have c1' : (i : Int) < (m : Int) := by omega
            by_cases c2 : m < E
            · have c2' : (m : Int) < (E : Int) := by omega
              go_wp2
              go_meet
              case rel => exact ⟨true, rfl, by simp [c1, c2], rfl⟩
            · have c2' : ¬ (m : Int) < (E : Int) := by omega
              go_wp2
              go_meet
              case rel => exact ⟨false, rfl, by simp [c2], rfl⟩
          · have c1' : ¬ (i : Int) < (m : Int) := by omega
            go_wp2
            go_meet
            case rel => exact ⟨false, rfl, by simp [c1], rfl⟩
        case rest =>
          as_aux_lemma =>
            obtain ⟨B, rfl, hB, hwc⟩ := hcut
            replace hwc := hwc.symm
            subst hwc
            go_upto_if 185 with fail
            go_cut [] from 25 (fun wx => SR lo wx M n F ∧ Apart M w wx)
            case first =>
              cases B with
              | true =>
                have hB2 := hB.1 rfl
                have HU : Hid (Calls Try.prog 80 #[.slice (some ⟨M, 0, none⟩) n cap, .int .i64 i, .int .i64 m, .int .i64 E, .func (.func 62) #[] #[.pointer (some ⟨b0, 0, none⟩)]] w5 fun e w' => e = .returned (.tuple #[]) ∧ SR lo w' M n F ∧ Apart M w5 w') := by
                  show Calls _ _ _ _ _
                  have h := rot_any M b0 cap lo n i m E f w5 H1.out.1 hn hB2.1 hB2.2 (by omega)
                  rw [HF.out] at h
                  exact h
                clear hB hB2
                go_wp2_with fail
                refine HU.out.mono ?_
                rintro e w6 ⟨rfl, hS6, hA6⟩
                have H6 : Hid (SR lo w6 M n F ∧ Apart M w w6) := ⟨hS6, HA.out.trans hA6⟩
                clear hS6 hA6 HU
                go_wp2
                go_meet
                case rel => exact H6.out
              | false =>
                have hB2 : i = m ∨ E = m := by
                  by_cases c1 : i < m
                  · by_cases c2 : m < E
                    · exact absurd (hB.2 ⟨c1, c2⟩) (by simp)
                    · exact .inr (by omega)
                  · exact .inl (by omega)
                have H6 : Hid (SR lo w5 M n F ∧ Apart M w w5) := ⟨by rw [← HF.out, StwD.rot_triv (by omega) (by omega) hB2]; exact H1.out.1, HA.out⟩
                clear hB hB2
                go_wp2
                go_meet
                case rel => exact H6.out
            case rest =>
              as_aux_lemma =>
                obtain ⟨hS6, hA6⟩ := hcut
                obtain ⟨w6, hw6⟩ : ∃ x, x = wc := ⟨_, rfl⟩
                subst hw6
                have H6 : Hid (SR lo w6 M n F ∧ Apart M w w6) := ⟨hS6, hA6⟩
                clear hS6 hA6 hB H1 HA
                go_upto_region 41 with fail
                go_cut [199] from 25 (fun u wx => ∃ B : Bool, u = .bool B ∧ (B = true ↔ (a < i ∧ i < mid)) ∧ wx = w6)
                case first =>
                  by_cases c1 : a < i
                  · have c1' : (a : Int) < (i : Int) := by omega
                    by_cases c2 : i < mid
                    · have c2' : (i : Int) < (mid : Int) := by omega
                      go_wp2
                      go_meet
                      case rel => exact ⟨true, rfl, by simp [c1, c2], rfl⟩
                    · have c2' : ¬ (i : Int) < (mid : Int) := by omega
                      go_wp2
                      go_meet
                      case rel => exact ⟨false, rfl, by simp [c2], rfl⟩
                  · have c1' : ¬ (a : Int) < (i : Int) := by omega
                    go_wp2
                    go_meet
                    case rel => exact ⟨false, rfl, by simp [c1], rfl⟩
                case rest =>
                  as_aux_lemma =>
                    obtain ⟨B, rfl, hB, hwc⟩ := hcut
                    replace hwc := hwc.symm
                    subst hwc
                    go_upto_if 199 with fail
                    go_cut [] from 25 (fun wx => ∃ g, SR lo wx M n g ∧ Mrg slB keyA F g a mid n ∧ Apart M w wx)
                    case first =>
                      cases B with
                      | true =>
                        have hB2 := hB.1 rfl
                        have HU2 : Hid (Calls Try.prog 75 #[.slice (some ⟨M, 0, none⟩) n cap, .int .i64 a, .int .i64 i, .int .i64 mid, .func (.func 62) #[] #[.pointer (some ⟨b0, 0, none⟩)]] w6 fun e w'' => e = .returned (.tuple #[]) ∧ Sd lo w6 M n F a mid w'') := HI.out a i mid F w6 (by omega) H6.out.1 H6.out.2 hB2.1 hB2.2 (by omega) HG.out.1 HG.out.2.1
                        clear hB hB2
                        go_wp2_with fail
                        refine HU2.out.mono ?_
                        rintro e w7 ⟨rfl, hS7⟩
                        have H7 : Hid (∃ g, SR lo w7 M n g ∧ Mrg slB keyA F g a mid n ∧ Apart M w w7) := by
                          obtain ⟨⟨g, k1, k2⟩, k3⟩ := hS7
                          exact ⟨g, k1, k2, H6.out.2.trans k3⟩
                        clear hS7 HU2
                        go_wp2
                        go_meet
                        case rel => exact H7.out
                      | false =>
                        have hB2 : i ≤ a ∨ mid ≤ i := by
                          by_cases c1 : a < i
                          · by_cases c2 : i < mid
                            · exact absurd (hB.2 ⟨c1, c2⟩) (by simp)
                            · exact .inr (by omega)
                          · exact .inl (by omega)
                        have H7 : Hid (∃ g, SR lo w6 M n g ∧ Mrg slB keyA F g a mid n ∧ Apart M w w6) := ⟨F, H6.out.1, mrg_none (srt_join HG.out.1 HG.out.2.1 hB2), H6.out.2⟩
                        clear hB hB2
                        go_wp2
                        go_meet
                        case rel => exact H7.out
                    case rest =>
                      as_aux_lemma =>
                        obtain ⟨g, hS7, hM7, hA7⟩ := hcut
                        obtain ⟨w7, hw7⟩ : ∃ x, x = wc := ⟨_, rfl⟩
                        subst hw7
                        have H7 : Hid (SR lo w7 M n g ∧ Mrg slB keyA F g a mid n ∧ Apart M w w7) := ⟨hS7, hM7, hA7⟩
                        clear hS7 hA7 hM7 hB H6
                        go_upto_region 43 with fail
                        go_cut [213] from 25 (fun u wx => ∃ B : Bool, u = .bool B ∧ (B = true ↔ (mid < E ∧ E < b)) ∧ wx = w7)
                        case first =>
                          by_cases c1 : mid < E
                          · have c1' : (mid : Int) < (E : Int) := by omega
                            by_cases c2 : E < b
                            · have c2' : (E : Int) < (b : Int) := by omega
                              go_wp2
                              go_meet
                              case rel => exact ⟨true, rfl, by simp [c1, c2], rfl⟩
                            · have c2' : ¬ (E : Int) < (b : Int) := by omega
                              go_wp2
                              go_meet
                              case rel => exact ⟨false, rfl, by simp [c2], rfl⟩
                          · have c1' : ¬ (mid : Int) < (E : Int) := by omega
                            go_wp2
                            go_meet
                            case rel => exact ⟨false, rfl, by simp [c1], rfl⟩
                        case rest =>
                          as_aux_lemma =>
                            obtain ⟨B, rfl, hB, hwc⟩ := hcut
                            replace hwc := hwc.symm
                            subst hwc
                            have HR7 : Hid (Srt slB keyA g mid E ∧ Srt slB keyA g E b) := ⟨HG.out.2.2.1.congr fun k hk _ => H7.out.2.1.out k (.inr hk), HG.out.2.2.2.1.congr fun k hk _ => H7.out.2.1.out k (.inr (by omega))⟩
                            cases B with
                            | true =>
                              have hB2 := hB.1 rfl
                              have HU2 : Hid (Calls Try.prog 75 #[.slice (some ⟨M, 0, none⟩) n cap, .int .i64 mid, .int .i64 E, .int .i64 b, .func (.func 62) #[] #[.pointer (some ⟨b0, 0, none⟩)]] w7 fun e w'' => e = .returned (.tuple #[]) ∧ Sd lo w7 M n g mid b w'') := HI.out mid E b g w7 (by omega) H7.out.1 H7.out.2.2 hB2.1 hB2.2 hbn HR7.out.1 HR7.out.2
                              clear hB hB2
                              go_wp2_with fail
                              refine HU2.out.mono ?_
                              rintro e w8 ⟨rfl, hS8⟩
                              have H8 : Hid (Sd lo w M n f a b w8) := by
                                obtain ⟨⟨g2, k1, k2⟩, k3⟩ := hS8
                                exact ⟨⟨g2, k1, mrg_halves HG.out.2.2.2.2.2 HO.out hbn ⟨by omega, by omega⟩ HG.out.2.2.2.2.1 H7.out.2.1 k2⟩, H7.out.2.2.trans k3⟩
                              clear hS8 HU2
                              go_wp2
                              go_end0
                              exact ⟨rfl, H8.out⟩
                            | false =>
                              have hB2 : E ≤ mid ∨ b ≤ E := by
                                by_cases c1 : mid < E
                                · by_cases c2 : E < b
                                  · exact absurd (hB.2 ⟨c1, c2⟩) (by simp)
                                  · exact .inr (by omega)
                                · exact .inl (by omega)
                              have H8 : Hid (Sd lo w M n f a b w7) := ⟨⟨g, H7.out.1, mrg_halves HG.out.2.2.2.2.2 HO.out hbn ⟨by omega, by omega⟩ HG.out.2.2.2.2.1 H7.out.2.1 (mrg_none (srt_join HR7.out.1 HR7.out.2 hB2))⟩, H7.out.2.2⟩
                              clear hB hB2
                              go_wp2
                              go_end0
                              exact ⟨rfl, H8.out⟩
theorem sym_any (M b0 cap lo n : Nat) (hn : n ≤ 4194304) : ∀ (d a m b : Nat) (f : Nat → ARow) (w : World), b - a ≤ d → SR lo w M n f → w.cell? ⟨b0, 0, none⟩ = some (.func (.func 47) #[] #[]) → b0 < w.heap.size → b0 ≠ M → a < m → m < b → b ≤ n → Srt slB keyA f a m → Srt slB keyA f m b → Calls Try.prog 75 #[.slice (some ⟨M, 0, none⟩) n cap, .int .i64 a, .int .i64 m, .int .i64 b, .func (.func 62) #[] #[.pointer (some ⟨b0, 0, none⟩)]] w fun e w' => e = .returned (.tuple #[]) ∧ Sd lo w M n f a b w' := by
  intro d
  induction d with
  | zero => intro a m b f w hd _ _ _ _ h1 h2; omega
  | succ d ih =>
    intro a m b f w hd hS hc hb0 hM ham hmb hbn hL hR
    by_cases h1 : m - a = 1
    · exact StwD.symL_any M b0 cap lo n a m b f w hS hn hc hb0 hM ham hmb hbn hL hR h1
    · by_cases h2 : b - m = 1
      · exact StwD.symR_any M b0 cap lo n a m b f w hS hn hc hb0 hM ham hmb hbn hL hR h1 h2
      · exact symG_any M b0 cap lo n a m b f w hS hn hc hb0 hM ham hmb hbn hL hR h1 h2 fun a' m' b' g w' hd' hS' hA' k1 k2 k3 k4 k5 => ih a' m' b' g w' (by omega) hS' (fnAt hA' hc hb0 hM) (Nat.lt_of_lt_of_le hb0 hA'.size) hM k1 k2 k3 k4 k5
end Go.Proofs.Ytcopckbpflmmeab.StwE
