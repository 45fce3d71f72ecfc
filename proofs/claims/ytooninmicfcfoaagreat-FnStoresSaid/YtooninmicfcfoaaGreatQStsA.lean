/-
  PROVED: the library's merge in place of two sorted neighbouring blocks of a row of alarms: both together are sorted then, equals in their order, and all else is as it was.
  PROVED: the library's insertion sort over a part of a row of alarms leaves that part sorted by the labels, equals in their order, and all else as it was.
  PROVED: over a part in memory spec.AlarmsIn and impl.AlarmsIn give all its alarms, chain by chain, in memory of their own; nothing that was there is changed.
  PROVED: the library's stable sort of a row of alarms by a function leaves the row sorted by the labels, equals in their order, and all else as it was; sortedBy gives a new row so.
  Plain lists of alarms: each put, from the right, behind those whose labels are not ahead of which its own are: what comes of it is sorted by the labels, those of the same labels in their order; there is one such list. Rows of cells, whole.
  PROVED: sortedBy gives a new row of the same alarms, sorted by their labels, those of the same labels in their order; nothing that was there is changed.
  PROVED: spec.l8Sort gives the alarms of a row in memory of their own, sorted by their labels as the plain lists say; nothing that was there is changed.
  PROVED: over a slice of parts in memory spec.AllAlarms and impl.AllAlarms give all their alarms, sorted by their labels as the plain lists say, in memory of their own; nothing that was there is changed.
-/
import Derived.Test.YtooninmicfcfoaaGreatQStwD
import Derived.Deep.CutRange
import Derived.Test.YtooninmicfcfoaaGreatQPrt
import Derived.Deep.RegionHeld3
import Derived.Test.YtooninmicfcfoaaGreatQSts
set_option linter.unusedVariables false
namespace Go.Proofs.YtooninmicfcfoaaGreat.StwE
open Go.RowKit
open Labs LabS Alms AlmS AlmM Over Blk App Rws ChnI ChnC Stb
open LabL (slB)
open Go.Proofs.YtooninmicfcfoaaGreat.Mark (Apart)
open StrB (retB)
open StwA
open StwC
set_option maxRecDepth 100000 in
set_option maxHeartbeats 12800000 in
theorem symG_any (M b0 cap lo n a m b : Nat) (f : Nat → ARow) (w : World) (hS : SR lo w M n f) (hn : n ≤ 4194304) (hc : w.cell? ⟨b0, 0, none⟩ = some (.func (.func 100) #[] #[])) (hb0 : b0 < w.heap.size) (hM : b0 ≠ M) (ham : a < m) (hmb : m < b) (hbn : b ≤ n) (hL : Srt slB keyA f a m) (hR : Srt slB keyA f m b) (h1 : m - a ≠ 1) (h2 : b - m ≠ 1)
    (hI : ∀ (a' m' b' : Nat) (g : Nat → ARow) (w' : World), b' - a' < b - a → SR lo w' M n g → Apart M w w' → a' < m' → m' < b' → b' ≤ n → Srt slB keyA g a' m' → Srt slB keyA g m' b' → Calls Tryz.prog 189 #[.slice (some ⟨M, 0, none⟩) n cap, .int .i64 a', .int .i64 m', .int .i64 b', .func (.func 142) #[] #[.pointer (some ⟨b0, 0, none⟩)]] w' fun e w'' => e = .returned (.tuple #[]) ∧ Sd lo w' M n g a' b' w'') :
    Calls Tryz.prog 189 #[.slice (some ⟨M, 0, none⟩) n cap, .int .i64 a, .int .i64 m, .int .i64 b, .func (.func 142) #[] #[.pointer (some ⟨b0, 0, none⟩)]] w fun e w' => e = .returned (.tuple #[]) ∧ Sd lo w M n f a b w' := by
  have HC : Hid (w.cell? ⟨b0, 0, none⟩ = some (.func (.func 100) #[] #[]) ∧ b0 < w.heap.size ∧ b0 ≠ M) := ⟨hc, hb0, hM⟩
  have HS : Hid (SR lo w M n f) := hS
  have HL : Hid (Srt slB keyA f a m ∧ Srt slB keyA f m b) := ⟨hL, hR⟩
  clear hc hS hb0 hM hL hR
  have HI : Hid (∀ (a' m' b' : Nat) (g : Nat → ARow) (w' : World), b' - a' < b - a → SR lo w' M n g → Apart M w w' → a' < m' → m' < b' → b' ≤ n → Srt slB keyA g a' m' → Srt slB keyA g m' b' → Calls Tryz.prog 189 #[.slice (some ⟨M, 0, none⟩) n cap, .int .i64 a', .int .i64 m', .int .i64 b', .func (.func 142) #[] #[.pointer (some ⟨b0, 0, none⟩)]] w' fun e w'' => e = .returned (.tuple #[]) ∧ Sd lo w' M n g a' b' w'') := hI
  clear hI
  have HA0 : Hid (Apart M w w) := Apart.refl _ _
  have hb1 : ((m : Int) - (a : Int) == 1) = false := by simp; omega
  have hb2 : ((b : Int) - (m : Int) == 1) = false := by simp; omega
  obtain ⟨mid, hmid⟩ : ∃ x : Nat, x = (a + b) / 2 := ⟨_, rfl⟩
  have emid : ((a : Int) + (b : Int)) / 2 = (mid : Int) := by omega
  have HM : Hid (2 * mid ≤ a + b ∧ a + b ≤ 2 * mid + 1) := ⟨by omega, by omega⟩
  have hmid2 : a < mid ∧ mid < b := by omega
  clear hmid
  obtain ⟨N, hN⟩ : ∃ x : Nat, x = mid + m := ⟨_, rfl⟩
  have eN : (mid : Int) + (m : Int) = (N : Int) := by omega
  obtain ⟨P, hP⟩ : ∃ x : Nat, x = N - 1 := ⟨_, rfl⟩
  have eP : (N : Int) - 1 = (P : Int) := by omega
  have HN : Hid (N = mid + m ∧ P = N - 1) := ⟨hN, hP⟩
  have hNP : N ≤ 8388608 ∧ P ≤ N := by omega
  clear hN hP
  go_enter Tryz.func189, Tryz.ntmps189
  go_upto_if 140 with fail
  go_cut [20, 21] from 25 (fun u v wx => ∃ s0 r0 : Nat, u = .int .i64 s0 ∧ v = .int .i64 r0 ∧ (s0 = if mid < m then mid + m - b else a) ∧ (r0 = if mid < m then mid else m) ∧ wx = w)
  case first =>
    by_cases c : mid < m
    · have c' : (mid : Int) < (m : Int) := by omega
      have eS : Hid ((N : Int) - (b : Int) = ((mid + m - b : Nat) : Int)) := by have := HN.out; have := HM.out; show _ = _; omega
      go_wp2
      go_meet
      case rel => exact ⟨mid + m - b, mid, by rw [eS.out], rfl, by rw [if_pos c], by rw [if_pos c], rfl⟩
    · have c' : ¬ (mid : Int) < (m : Int) := by omega
      go_wp2
      go_meet
      case rel => exact ⟨a, m, rfl, rfl, by rw [if_neg c], by rw [if_neg c], rfl⟩
  case rest =>
    as_aux_lemma =>
      obtain ⟨s0, r0, rfl, rfl, hs0, hr0, hwc⟩ := hcut
      replace hwc := hwc.symm
      subst hwc
      have HZ : Hid (s0 = (if mid < m then mid + m - b else a) ∧ r0 = (if mid < m then mid else m)) := ⟨hs0, hr0⟩
      have HR0 : Hid (a ≤ s0 ∧ s0 ≤ r0 ∧ r0 ≤ m ∧ r0 ≤ mid ∧ ∀ c, s0 ≤ c → c < r0 → m ≤ P - c ∧ P - c < b) := by
        have h0 := HN.out
        have h1 := HM.out
        have h2 := HZ.out
        by_cases c : mid < m
        · rw [if_pos c, if_pos c] at h2
          exact ⟨by omega, by omega, by omega, by omega, fun c _ _ => by omega⟩
        · rw [if_neg c, if_neg c] at h2
          exact ⟨by omega, by omega, by omega, by omega, fun c _ _ => by omega⟩
      have hr00 : s0 ≤ r0 ∧ r0 ≤ m := ⟨HR0.out.2.1, HR0.out.2.2.1⟩
      clear hs0 hr0
      go_wp2
      go_loopw [20, 21] (fun u v w' => ∃ i j : Nat, u = .int .i64 i ∧ v = .int .i64 j ∧ s0 ≤ i ∧ i ≤ j ∧ j ≤ r0 ∧ SR lo w' M n f ∧ Apart M w w' ∧ (∀ c, s0 ≤ c → c < i → slB (keyA (f (P - c))) (keyA (f c)) = false) ∧ (∀ c, j ≤ c → c < r0 → slB (keyA (f (P - c))) (keyA (f c)) = true)) (fun u v _ => (intOf v).toNat - (intOf u).toNat)
      case atStart => exact ⟨s0, r0, rfl, rfl, Nat.le_refl _, by omega, Nat.le_refl _, HS.out, HA0.out, ⟨fun p h1 h2 => by omega, fun p h1 h2 => by omega⟩⟩
      case round =>
        obtain ⟨i, j, rfl, rfl, hi, hij, hj, hS1, hA1, hrl⟩ := hrel
        have H1 : Hid (SR lo wr M n f ∧ ((∀ c, s0 ≤ c → c < i → slB (keyA (f (P - c))) (keyA (f c)) = false) ∧ (∀ c, j ≤ c → c < r0 → slB (keyA (f (P - c))) (keyA (f c)) = true))) := ⟨hS1, hrl⟩
        have HA : Hid (Apart M w wr) := hA1
        have hMr : M < wr.heap.size := hS1.lt
        clear hS1 hA1 hrl HS
        by_cases hlt : i < j
        · have hlt' : (i : Int) < (j : Int) := by omega
          obtain ⟨c, hc⟩ : ∃ c : Nat, c = (i + j) / 2 := ⟨_, rfl⟩
          have ec : ((i : Int) + (j : Int)) / 2 = (c : Int) := by omega
          have hbc : i ≤ c ∧ c < j := by omega
          clear hc
          have hQb := HR0.out.2.2.2.2 c (by omega) (by omega)
          obtain ⟨Q, hQ⟩ : ∃ x : Nat, x = P - c := ⟨_, rfl⟩
          have eQ : (P : Int) - (c : Int) = (Q : Int) := by omega
          have HQQ : Hid (Q = P - c ∧ m ≤ Q ∧ Q < b) := ⟨hQ, by omega, by omega⟩
          have hcn : (c : Int) < (n : Int) := by omega
          have hQn : (Q : Int) < (n : Int) := by omega
          have hQn' : Q < n := by omega
          clear hQ hQb
          have hne := Grown.some wr
          have HCm : ∀ (x y : ARow) (q : Grown wr), OwnA lo wr x → OwnA lo wr y → Hid (Calls Tryz.prog 142 #[.agg #[.slice (some ⟨(x).1, 0, none⟩) (x).2.2.l.length (x).2.1, .int .i64 (x).2.2.s, .int .i64 (x).2.2.e, .string (x).2.2.n], .agg #[.slice (some ⟨(y).1, 0, none⟩) (y).2.2.l.length (y).2.1, .int .i64 (y).2.2.s, .int .i64 (y).2.2.e, .string (y).2.2.n], .pointer (some ⟨b0, 0, none⟩)] q.out fun e w' => e = .returned (.int .i64 (cmpA x y)) ∧ Below q.out.heap.size q.out w') := fun x y q hx hy =>
            cmp_any x y b0 lo q.out (hx.grow q.bel) (hy.grow q.bel) (by rw [q.bel.cell (Nat.lt_of_lt_of_le HC.out.2.1 HA.out.size)]; exact fnAt HA.out HC.out.1 HC.out.2.1 HC.out.2.2) (Nat.lt_of_lt_of_le HC.out.2.1 (Nat.le_trans HA.out.size q.bel.size))
          obtain ⟨z0, z1, z2, z3⟩ : wr.cell? ⟨M, Q * 4, none⟩ = some (.slice (some ⟨(f Q).1, 0, none⟩) (f Q).2.2.l.length (f Q).2.1) ∧ wr.cell? ⟨M, Q * 4 + 1, none⟩ = some (.int .i64 (f Q).2.2.s) ∧ wr.cell? ⟨M, Q * 4 + 2, none⟩ = some (.int .i64 (f Q).2.2.e) ∧ wr.cell? ⟨M, Q * 4 + 3, none⟩ = some (.string (f Q).2.2.n) := H1.out.1.cell (hQn')
          have x0 := fun q : Grown wr => q.cell (p := ⟨M, Q * 4, none⟩) hMr z0
          have x1 := fun q : Grown wr => q.cell (p := ⟨M, Q * 4 + 1, none⟩) hMr z1
          have x2 := fun q : Grown wr => q.cell (p := ⟨M, Q * 4 + 2, none⟩) hMr z2
          have x3 := fun q : Grown wr => q.cell (p := ⟨M, Q * 4 + 3, none⟩) hMr z3
          clear z0 z1 z2 z3
          obtain ⟨z0, z1, z2, z3⟩ : wr.cell? ⟨M, c * 4, none⟩ = some (.slice (some ⟨(f c).1, 0, none⟩) (f c).2.2.l.length (f c).2.1) ∧ wr.cell? ⟨M, c * 4 + 1, none⟩ = some (.int .i64 (f c).2.2.s) ∧ wr.cell? ⟨M, c * 4 + 2, none⟩ = some (.int .i64 (f c).2.2.e) ∧ wr.cell? ⟨M, c * 4 + 3, none⟩ = some (.string (f c).2.2.n) := H1.out.1.cell (by omega)
          have y0 := fun q : Grown wr => q.cell (p := ⟨M, c * 4, none⟩) hMr z0
          have y1 := fun q : Grown wr => q.cell (p := ⟨M, c * 4 + 1, none⟩) hMr z1
          have y2 := fun q : Grown wr => q.cell (p := ⟨M, c * 4 + 2, none⟩) hMr z2
          have y3 := fun q : Grown wr => q.cell (p := ⟨M, c * 4 + 3, none⟩) hMr z3
          clear z0 z1 z2 z3
          have HCx := fun q : Grown wr => HCm (f Q) (f c) q (H1.out.1.rows Q (hQn')) (H1.out.1.rows c (by omega))
          clear HCm
          cases hq : slB (keyA (f Q)) (keyA (f c)) with
          | true =>
            have HC1 : ∀ q : Grown wr, Hid (Calls Tryz.prog 142 #[.agg #[.slice (some ⟨(f Q).1, 0, none⟩) (f Q).2.2.l.length (f Q).2.1, .int .i64 (f Q).2.2.s, .int .i64 (f Q).2.2.e, .string (f Q).2.2.n], .agg #[.slice (some ⟨(f c).1, 0, none⟩) (f c).2.2.l.length (f c).2.1, .int .i64 (f c).2.2.s, .int .i64 (f c).2.2.e, .string (f c).2.2.n], .pointer (some ⟨b0, 0, none⟩)] q.out fun e w' => e = .returned (.int .i64 (-1)) ∧ Below q.out.heap.size q.out w') := fun q => (HCx q).out.mono fun e w' h => ⟨h.1.trans (StwA.retI (cmp_less hq)), h.2⟩
            have HQ : Hid (slB (keyA (f Q)) (keyA (f c)) = true) := hq
            clear hq HCx
            go_wp2
            refine wp_over (z := wr) (by kernel_rfl) (by kernel_rfl) (Below.refl _ _) ?_
            repeat (go_big_quiet_step (first | (go_at_call 142; first | exact call_over (HC1 _).out)))
            refine wpQuiet_nil ?_
            intro w2 hw2
            have hb2 := over_bel hw2
            have H2 : Hid (SR lo w2 M n f ∧ Apart M w w2) := ⟨H1.out.1.grow hb2, HA.out.below hb2⟩
            clear hw2 hne hb2 x0 x1 x2 x3 y0 y1 y2 y3 HC1
            go_wp2
            go_roundw
            case rel =>
              refine ⟨i, c, rfl, rfl, hi, by omega, by omega, H2.out.1, H2.out.2, H1.out.2.1, fun p h1 h2 => ?_⟩
              have k1 := HQQ.out
              have k2 := HR0.out.2.2.2.2 p (by omega) (by omega)
              have k3 := HQ.out
              rw [k1.1] at k3
              exact ordL.le_lt (HL.out.2.le ordL k2.1 (by omega) (by omega)) (ordL.lt_le k3 (HL.out.1.le ordL (by have := HR0.out.1; omega) h1 (by omega)))
            case measure => simp [intOf]; omega
          | false =>
            have hge : ¬ cmpA (f Q) (f c) < 0 := by have := cmp_ge hq; omega
            have hgb : decide (cmpA (f Q) (f c) < 0) = false := decide_eq_false hge
            have HQ : Hid (slB (keyA (f Q)) (keyA (f c)) = false) := hq
            clear hq
            go_wp2
            refine wp_over (z := wr) (by kernel_rfl) (by kernel_rfl) (Below.refl _ _) ?_
            repeat (go_big_quiet_step (first | (go_at_call 142; first | exact call_over (HCx _).out)))
            refine wpQuiet_nil ?_
            intro w2 hw2
            have hb2 := over_bel hw2
            have H2 : Hid (SR lo w2 M n f ∧ Apart M w w2) := ⟨H1.out.1.grow hb2, HA.out.below hb2⟩
            clear hw2 hne hb2 x0 x1 x2 x3 y0 y1 y2 y3 HCx
            go_wp2
            go_roundw
            case rel =>
              refine ⟨c + 1, j, by go_num, rfl, by omega, by omega, hj, H2.out.1, H2.out.2, fun p h1 h2 => ?_, H1.out.2.2⟩
              have k1 := HQQ.out
              have k2 := HR0.out.2.2.2.2 p (by omega) (by omega)
              have k3 := HQ.out
              rw [k1.1] at k3
              exact ordL.le_trans (HL.out.1.le ordL (by have := HR0.out.1; omega) (Nat.le_of_lt_succ h2) (by omega)) (ordL.le_trans k3 (HL.out.2.le ordL (by omega) (by omega) k2.2))
            case measure => simp [intOf]; omega
        have hge : ¬ (i : Int) < (j : Int) := by omega
        have HE : Hid (i = j) := by show i = j; omega
        have HRr := HR0.out
        obtain ⟨E, hE⟩ : ∃ x : Nat, x = N - i := ⟨_, rfl⟩
        have eE : (N : Int) - (i : Int) = (E : Int) := by have := HN.out; omega
        have HEE : Hid (E = mid + m - i) := by have := HN.out; show E = _; omega
        have HCut : Hid (Cut slB keyA f a m b i E) := by
          show Cut slB keyA f a m b i E
          rw [HEE.out]
          have h0 := HN.out
          exact cut_of ordL HL.out.1 HL.out.2 HM.out ⟨ham, hmb⟩ HZ.out.1 HZ.out.2 hi (by omega) (fun c h1 h2 => by have := H1.out.2.1 c h1 h2; rwa [show P - c = mid + m - 1 - c by omega] at this) (fun c h1 h2 => by have := H1.out.2.2 c (by have := HE.out; omega) h2; rwa [show P - c = mid + m - 1 - c by omega] at this)
        have HG : Hid (Srt slB keyA (rotF f i m E) a i ∧ Srt slB keyA (rotF f i m E) i mid ∧ Srt slB keyA (rotF f i m E) mid E ∧ Srt slB keyA (rotF f i m E) E b ∧ (∀ p q, a ≤ p → p < mid → mid ≤ q → q < b → slB (keyA (rotF f i m E q)) (keyA (rotF f i m E p)) = false) ∧ St keyA (seg f 0 n) (seg (rotF f i m E) 0 n)) := by
          have h := HCut.out
          rw [HEE.out] at h ⊢
          exact h.rot ordL HL.out.1 HL.out.2 (by omega) hbn
        have hcs := HCut.out.hs
        have hE2 : E = mid + m - i := HEE.out
        have HO : Hid (∀ k, k < a ∨ b ≤ k → rotF f i m E k = f k) := fun k hk => by
          rcases hk with hk | hk
          · exact rot_low (by omega) (by omega) (by omega)
          · exact rot_high (by omega) (by omega) (by omega)
        have him : i ≤ mid := by omega
        have hEm : mid ≤ E := by omega
        clear hE hE2 HRr
        obtain ⟨F, hF⟩ : ∃ g, rotF f i m E = g := ⟨_, rfl⟩
        rw [hF] at HG HO
        have HF : Hid (rotF f i m E = F) := hF
        clear hF
        obtain ⟨w5, hw5⟩ : ∃ x, x = wr := ⟨_, rfl⟩
        subst hw5
        go_upto_region 39 with fail
        go_cut [185] from 25 (fun u wx => ∃ B : Bool, u = .bool B ∧ (B = true ↔ (i < m ∧ m < E)) ∧ wx = w5)
        case first =>
          by_cases c1 : i < m
          · have c1' : (i : Int) < (m : Int) := by omega
            by_cases c2 : m < E
            · have c2' : (m : Int) < (E : Int) := by omega
              go_wp2
              go_meet
              case rel => exact ⟨true, rfl, by simp [c1, c2], rfl⟩
            · have c2' : ¬ (m : Int) < (E : Int) := by omega
              go_wp2
              go_meet
              case rel => exact ⟨false, rfl, by simp [c2], rfl⟩
          · have c1' : ¬ (i : Int) < (m : Int) := by omega
            go_wp2
            go_meet
            case rel => exact ⟨false, rfl, by simp [c1], rfl⟩
        case rest =>
          as_aux_lemma =>
            obtain ⟨B, rfl, hB, hwc⟩ := hcut
            replace hwc := hwc.symm
            subst hwc
            go_upto_if 185 with fail
            go_cut [] from 25 (fun wx => SR lo wx M n F ∧ Apart M w wx)
            case first =>
              cases B with
              | true =>
                have hB2 := hB.1 rfl
                have HU : Hid (Calls Tryz.prog 200 #[.slice (some ⟨M, 0, none⟩) n cap, .int .i64 i, .int .i64 m, .int .i64 E, .func (.func 142) #[] #[.pointer (some ⟨b0, 0, none⟩)]] w5 fun e w' => e = .returned (.tuple #[]) ∧ SR lo w' M n F ∧ Apart M w5 w') := by
                  show Calls _ _ _ _ _
                  have h := rot_any M b0 cap lo n i m E f w5 H1.out.1 hn hB2.1 hB2.2 (by omega)
                  rw [HF.out] at h
                  exact h
                clear hB hB2
                go_wp2_with fail
                refine HU.out.mono ?_
                rintro e w6 ⟨rfl, hS6, hA6⟩
                have H6 : Hid (SR lo w6 M n F ∧ Apart M w w6) := ⟨hS6, HA.out.trans hA6⟩
                clear hS6 hA6 HU
                go_wp2
                go_meet
                case rel => exact H6.out
              | false =>
                have hB2 : i = m ∨ E = m := by
                  by_cases c1 : i < m
                  · by_cases c2 : m < E
                    · exact absurd (hB.2 ⟨c1, c2⟩) (by simp)
                    · exact .inr (by omega)
                  · exact .inl (by omega)
                have H6 : Hid (SR lo w5 M n F ∧ Apart M w w5) := ⟨by rw [← HF.out, StwD.rot_triv (by omega) (by omega) hB2]; exact H1.out.1, HA.out⟩
                clear hB hB2
                go_wp2
                go_meet
                case rel => exact H6.out
            case rest =>
              as_aux_lemma =>
                obtain ⟨hS6, hA6⟩ := hcut
                obtain ⟨w6, hw6⟩ : ∃ x, x = wc := ⟨_, rfl⟩
                subst hw6
                have H6 : Hid (SR lo w6 M n F ∧ Apart M w w6) := ⟨hS6, hA6⟩
                clear hS6 hA6 hB H1 HA
                go_upto_region 41 with fail
                go_cut [199] from 25 (fun u wx => ∃ B : Bool, u = .bool B ∧ (B = true ↔ (a < i ∧ i < mid)) ∧ wx = w6)
                case first =>
                  by_cases c1 : a < i
                  · have c1' : (a : Int) < (i : Int) := by omega
                    by_cases c2 : i < mid
                    · have c2' : (i : Int) < (mid : Int) := by omega
                      go_wp2
                      go_meet
                      case rel => exact ⟨true, rfl, by simp [c1, c2], rfl⟩
                    · have c2' : ¬ (i : Int) < (mid : Int) := by omega
                      go_wp2
                      go_meet
                      case rel => exact ⟨false, rfl, by simp [c2], rfl⟩
                  · have c1' : ¬ (a : Int) < (i : Int) := by omega
                    go_wp2
                    go_meet
                    case rel => exact ⟨false, rfl, by simp [c1], rfl⟩
                case rest =>
                  as_aux_lemma =>
                    obtain ⟨B, rfl, hB, hwc⟩ := hcut
                    replace hwc := hwc.symm
                    subst hwc
                    go_upto_if 199 with fail
                    go_cut [] from 25 (fun wx => ∃ g, SR lo wx M n g ∧ Mrg slB keyA F g a mid n ∧ Apart M w wx)
                    case first =>
                      cases B with
                      | true =>
                        have hB2 := hB.1 rfl
                        have HU2 : Hid (Calls Tryz.prog 189 #[.slice (some ⟨M, 0, none⟩) n cap, .int .i64 a, .int .i64 i, .int .i64 mid, .func (.func 142) #[] #[.pointer (some ⟨b0, 0, none⟩)]] w6 fun e w'' => e = .returned (.tuple #[]) ∧ Sd lo w6 M n F a mid w'') := HI.out a i mid F w6 (by omega) H6.out.1 H6.out.2 hB2.1 hB2.2 (by omega) HG.out.1 HG.out.2.1
                        clear hB hB2
                        go_wp2_with fail
                        refine HU2.out.mono ?_
                        rintro e w7 ⟨rfl, hS7⟩
                        have H7 : Hid (∃ g, SR lo w7 M n g ∧ Mrg slB keyA F g a mid n ∧ Apart M w w7) := by
                          obtain ⟨⟨g, k1, k2⟩, k3⟩ := hS7
                          exact ⟨g, k1, k2, H6.out.2.trans k3⟩
                        clear hS7 HU2
                        go_wp2
                        go_meet
                        case rel => exact H7.out
                      | false =>
                        have hB2 : i ≤ a ∨ mid ≤ i := by
                          by_cases c1 : a < i
                          · by_cases c2 : i < mid
                            · exact absurd (hB.2 ⟨c1, c2⟩) (by simp)
                            · exact .inr (by omega)
                          · exact .inl (by omega)
                        have H7 : Hid (∃ g, SR lo w6 M n g ∧ Mrg slB keyA F g a mid n ∧ Apart M w w6) := ⟨F, H6.out.1, mrg_none (srt_join HG.out.1 HG.out.2.1 hB2), H6.out.2⟩
                        clear hB hB2
                        go_wp2
                        go_meet
                        case rel => exact H7.out
                    case rest =>
                      as_aux_lemma =>
                        obtain ⟨g, hS7, hM7, hA7⟩ := hcut
                        obtain ⟨w7, hw7⟩ : ∃ x, x = wc := ⟨_, rfl⟩
                        subst hw7
                        have H7 : Hid (SR lo w7 M n g ∧ Mrg slB keyA F g a mid n ∧ Apart M w w7) := ⟨hS7, hM7, hA7⟩
                        clear hS7 hA7 hM7 hB H6
                        go_upto_region 43 with fail
                        go_cut [213] from 25 (fun u wx => ∃ B : Bool, u = .bool B ∧ (B = true ↔ (mid < E ∧ E < b)) ∧ wx = w7)
                        case first =>
                          by_cases c1 : mid < E
                          · have c1' : (mid : Int) < (E : Int) := by omega
                            by_cases c2 : E < b
                            · have c2' : (E : Int) < (b : Int) := by omega
                              go_wp2
                              go_meet
                              case rel => exact ⟨true, rfl, by simp [c1, c2], rfl⟩
                            · have c2' : ¬ (E : Int) < (b : Int) := by omega
                              go_wp2
                              go_meet
                              case rel => exact ⟨false, rfl, by simp [c2], rfl⟩
                          · have c1' : ¬ (mid : Int) < (E : Int) := by omega
                            go_wp2
                            go_meet
                            case rel => exact ⟨false, rfl, by simp [c1], rfl⟩
                        case rest =>
                          as_aux_lemma =>
                            obtain ⟨B, rfl, hB, hwc⟩ := hcut
                            replace hwc := hwc.symm
                            subst hwc
                            have HR7 : Hid (Srt slB keyA g mid E ∧ Srt slB keyA g E b) := ⟨HG.out.2.2.1.congr fun k hk _ => H7.out.2.1.out k (.inr hk), HG.out.2.2.2.1.congr fun k hk _ => H7.out.2.1.out k (.inr (by omega))⟩
                            cases B with
                            | true =>
                              have hB2 := hB.1 rfl
                              have HU2 : Hid (Calls Tryz.prog 189 #[.slice (some ⟨M, 0, none⟩) n cap, .int .i64 mid, .int .i64 E, .int .i64 b, .func (.func 142) #[] #[.pointer (some ⟨b0, 0, none⟩)]] w7 fun e w'' => e = .returned (.tuple #[]) ∧ Sd lo w7 M n g mid b w'') := HI.out mid E b g w7 (by omega) H7.out.1 H7.out.2.2 hB2.1 hB2.2 hbn HR7.out.1 HR7.out.2
                              clear hB hB2
                              go_wp2_with fail
                              refine HU2.out.mono ?_
                              rintro e w8 ⟨rfl, hS8⟩
                              have H8 : Hid (Sd lo w M n f a b w8) := by
                                obtain ⟨⟨g2, k1, k2⟩, k3⟩ := hS8
                                exact ⟨⟨g2, k1, mrg_halves HG.out.2.2.2.2.2 HO.out hbn ⟨by omega, by omega⟩ HG.out.2.2.2.2.1 H7.out.2.1 k2⟩, H7.out.2.2.trans k3⟩
                              clear hS8 HU2
                              go_wp2
                              go_end0
                              exact ⟨rfl, H8.out⟩
                            | false =>
                              have hB2 : E ≤ mid ∨ b ≤ E := by
                                by_cases c1 : mid < E
                                · by_cases c2 : E < b
                                  · exact absurd (hB.2 ⟨c1, c2⟩) (by simp)
                                  · exact .inr (by omega)
                                · exact .inl (by omega)
                              have H8 : Hid (Sd lo w M n f a b w7) := ⟨⟨g, H7.out.1, mrg_halves HG.out.2.2.2.2.2 HO.out hbn ⟨by omega, by omega⟩ HG.out.2.2.2.2.1 H7.out.2.1 (mrg_none (srt_join HR7.out.1 HR7.out.2 hB2))⟩, H7.out.2.2⟩
                              clear hB hB2
                              go_wp2
                              go_end0
                              exact ⟨rfl, H8.out⟩
theorem sym_any (M b0 cap lo n : Nat) (hn : n ≤ 4194304) : ∀ (d a m b : Nat) (f : Nat → ARow) (w : World), b - a ≤ d → SR lo w M n f → w.cell? ⟨b0, 0, none⟩ = some (.func (.func 100) #[] #[]) → b0 < w.heap.size → b0 ≠ M → a < m → m < b → b ≤ n → Srt slB keyA f a m → Srt slB keyA f m b → Calls Tryz.prog 189 #[.slice (some ⟨M, 0, none⟩) n cap, .int .i64 a, .int .i64 m, .int .i64 b, .func (.func 142) #[] #[.pointer (some ⟨b0, 0, none⟩)]] w fun e w' => e = .returned (.tuple #[]) ∧ Sd lo w M n f a b w' := by
  intro d
  induction d with
  | zero => intro a m b f w hd _ _ _ _ h1 h2; omega
  | succ d ih =>
    intro a m b f w hd hS hc hb0 hM ham hmb hbn hL hR
    by_cases h1 : m - a = 1
    · exact StwD.symL_any M b0 cap lo n a m b f w hS hn hc hb0 hM ham hmb hbn hL hR h1
    · by_cases h2 : b - m = 1
      · exact StwD.symR_any M b0 cap lo n a m b f w hS hn hc hb0 hM ham hmb hbn hL hR h1 h2
      · exact symG_any M b0 cap lo n a m b f w hS hn hc hb0 hM ham hmb hbn hL hR h1 h2 fun a' m' b' g w' hd' hS' hA' k1 k2 k3 k4 k5 => ih a' m' b' g w' (by omega) hS' (fnAt hA' hc hb0 hM) (Nat.lt_of_lt_of_le hb0 hA'.size) hM k1 k2 k3 k4 k5
end Go.Proofs.YtooninmicfcfoaaGreat.StwE
namespace Go.Proofs.YtooninmicfcfoaaGreat.StwB
open Go.RowKit
open Labs LabS Alms AlmS AlmM Over Blk App Rws ChnI ChnC Stb
open LabL (slB)
open Go.Proofs.YtooninmicfcfoaaGreat.Mark (Apart)
open StrB (retB)
open StwA
set_option maxRecDepth 100000 in
set_option maxHeartbeats 3200000 in
theorem ins_any (M b0 cap lo n a b : Nat) (f : Nat → ARow) (w : World) (hS : SR lo w M n f) (hn : n ≤ 4194304) (hc : w.cell? ⟨b0, 0, none⟩ = some (.func (.func 100) #[] #[])) (hb0 : b0 < w.heap.size) (hM : b0 ≠ M) (hab : a ≤ b) (hbn : b ≤ n) :
    Calls Tryz.prog 188 #[.slice (some ⟨M, 0, none⟩) n cap, .int .i64 a, .int .i64 b, .func (.func 142) #[] #[.pointer (some ⟨b0, 0, none⟩)]] w
      fun e w' => e = .returned (.tuple #[]) ∧ Sd lo w M n f a b w' := by
  have HC : Hid (w.cell? ⟨b0, 0, none⟩ = some (.func (.func 100) #[] #[]) ∧ b0 < w.heap.size ∧ b0 ≠ M) := ⟨hc, hb0, hM⟩
  have HS : Hid (SR lo w M n f) := hS
  clear hc hS hb0 hM
  go_enter Tryz.func188, Tryz.ntmps188
  go_wp2
  go_loopw [8] (fun v w' => ∃ (i : Nat) (g : Nat → ARow), v = .int .i64 i ∧ a + 1 ≤ i ∧ (i ≤ b ∨ i = a + 1) ∧ SR lo w' M n g ∧ Apart M w w' ∧ (∀ k, k < a ∨ b ≤ k → g k = f k) ∧ Srt slB keyA g a i ∧ St keyA (seg f 0 n) (seg g 0 n)) (fun v _ => n + 2 - (intOf v).toNat)
  case atStart => exact ⟨a + 1, f, by go_num, Nat.le_refl _, .inr rfl, HS.out, Apart.refl _ _, fun _ _ => rfl, fun p q h1 h2 h3 => by omega, St.refl _⟩
  case round =>
    obtain ⟨i, g, rfl, hi0, hi, hS1, hA1, ho, hs, ht⟩ := hrel
    have H1 : Hid (SR lo wr M n g ∧ (∀ k, k < a ∨ b ≤ k → g k = f k) ∧ Srt slB keyA g a i ∧ St keyA (seg f 0 n) (seg g 0 n)) := ⟨hS1, ho, hs, ht⟩
    have HA : Hid (Apart M w wr) := hA1
    clear hS1 hA1 ho hs ht HS
    by_cases hlt : i < b
    · have hlt' : (i : Int) < (b : Int) := by omega
      go_wp2
      go_loopw [9] (fun v w' => ∃ (j : Nat) (g : Nat → ARow), v = .int .i64 j ∧ a ≤ j ∧ j ≤ i ∧ SR lo w' M n g ∧ Apart M w w' ∧ (∀ k, k < a ∨ b ≤ k → g k = f k) ∧ InsI slB keyA g a i j ∧ St keyA (seg f 0 n) (seg g 0 n)) (fun v _ => (intOf v).toNat)
      case atStart => exact ⟨i, g, rfl, by omega, Nat.le_refl _, H1.out.1, HA.out, H1.out.2.1, InsI.start H1.out.2.2.1, H1.out.2.2.2⟩
      case round =>
        clear H1 HA
        obtain ⟨j, g, rfl, hj0, hj, hS2, hA2, ho, hs, ht⟩ := hrel
        have H2 : Hid (SR lo wr M n g ∧ (∀ k, k < a ∨ b ≤ k → g k = f k) ∧ InsI slB keyA g a i j ∧ St keyA (seg f 0 n) (seg g 0 n)) := ⟨hS2, ho, hs, ht⟩
        have HA2 : Hid (Apart M w wr) := hA2
        have hMr : M < wr.heap.size := hS2.lt
        have hne := Grown.some wr
        have HCm : ∀ (x y : ARow) (q : Grown wr), OwnA lo wr x → OwnA lo wr y → Hid (Calls Tryz.prog 142 #[.agg #[.slice (some ⟨(x).1, 0, none⟩) (x).2.2.l.length (x).2.1, .int .i64 (x).2.2.s, .int .i64 (x).2.2.e, .string (x).2.2.n], .agg #[.slice (some ⟨(y).1, 0, none⟩) (y).2.2.l.length (y).2.1, .int .i64 (y).2.2.s, .int .i64 (y).2.2.e, .string (y).2.2.n], .pointer (some ⟨b0, 0, none⟩)] q.out fun e w' => e = .returned (.int .i64 (cmpA x y)) ∧ Below q.out.heap.size q.out w') := fun x y q hx hy =>
          cmp_any x y b0 lo q.out (hx.grow q.bel) (hy.grow q.bel) (by rw [q.bel.cell (Nat.lt_of_lt_of_le HC.out.2.1 HA2.out.size)]; exact fnAt HA2.out HC.out.1 HC.out.2.1 HC.out.2.2) (Nat.lt_of_lt_of_le HC.out.2.1 (Nat.le_trans HA2.out.size q.bel.size))
        clear hS2 hA2 ho hs ht
        by_cases hja : j = a
        · have HE : Hid (Srt slB keyA g a (i + 1)) := by show Srt slB keyA g a (i + 1); have := H2.out.2.2.1; rw [hja] at this; exact this.end0
          subst hja
          clear HCm
          go_wp2
          refine wp_over (z := wr) (by kernel_rfl) (by kernel_rfl) (Below.refl _ _) ?_
          repeat (go_big_quiet_step (fail))
          refine wpQuiet_nil ?_
          intro w2 hw2
          have hb2 := over_bel hw2
          have H3 : Hid (SR lo w2 M n g ∧ Apart M w w2) := ⟨H2.out.1.grow hb2, HA2.out.below hb2⟩
          clear hw2 hne hb2
          go_wp2
          go_roundw
          case rel => exact ⟨i + 1, g, by go_num, by omega, .inl (by omega), H3.out.1, H3.out.2, H2.out.2.1, HE.out, H2.out.2.2.2⟩
          case measure => simp [intOf]; omega
        obtain ⟨k, rfl⟩ : ∃ k, j = k + 1 := ⟨j - 1, by omega⟩
        have ek : ((k + 1 : Nat) : Int) = (k : Int) + 1 := by omega
        have hk1 : (k : Int) + 1 < (n : Int) := by omega
        have hk0 : (k : Int) < (n : Int) := by omega
        have hkp : (a : Int) < (k : Int) + 1 := by omega
        have hw : IntKind.i64.wrap (k : Int) = (k : Int) := by rw [IntKind.wrap_i64]; omega
        have hka : a ≤ k := by omega
        have hr1 := H2.out.1.rows (k + 1) (by omega)
        have hr0 := H2.out.1.rows k (by omega)
        obtain ⟨z0, z1, z2, z3⟩ : wr.cell? ⟨M, (k + 1) * 4, none⟩ = some (.slice (some ⟨(g (k + 1)).1, 0, none⟩) (g (k + 1)).2.2.l.length (g (k + 1)).2.1) ∧ wr.cell? ⟨M, (k + 1) * 4 + 1, none⟩ = some (.int .i64 (g (k + 1)).2.2.s) ∧ wr.cell? ⟨M, (k + 1) * 4 + 2, none⟩ = some (.int .i64 (g (k + 1)).2.2.e) ∧ wr.cell? ⟨M, (k + 1) * 4 + 3, none⟩ = some (.string (g (k + 1)).2.2.n) := H2.out.1.cell (by omega)
        have x0 := fun q : Grown wr => q.cell (p := ⟨M, (k + 1) * 4, none⟩) hMr z0
        have x1 := fun q : Grown wr => q.cell (p := ⟨M, (k + 1) * 4 + 1, none⟩) hMr z1
        have x2 := fun q : Grown wr => q.cell (p := ⟨M, (k + 1) * 4 + 2, none⟩) hMr z2
        have x3 := fun q : Grown wr => q.cell (p := ⟨M, (k + 1) * 4 + 3, none⟩) hMr z3
        clear z0 z1 z2 z3
        obtain ⟨z0, z1, z2, z3⟩ : wr.cell? ⟨M, k * 4, none⟩ = some (.slice (some ⟨(g k).1, 0, none⟩) (g k).2.2.l.length (g k).2.1) ∧ wr.cell? ⟨M, k * 4 + 1, none⟩ = some (.int .i64 (g k).2.2.s) ∧ wr.cell? ⟨M, k * 4 + 2, none⟩ = some (.int .i64 (g k).2.2.e) ∧ wr.cell? ⟨M, k * 4 + 3, none⟩ = some (.string (g k).2.2.n) := H2.out.1.cell (by omega)
        have y0 := fun q : Grown wr => q.cell (p := ⟨M, k * 4, none⟩) hMr z0
        have y1 := fun q : Grown wr => q.cell (p := ⟨M, k * 4 + 1, none⟩) hMr z1
        have y2 := fun q : Grown wr => q.cell (p := ⟨M, k * 4 + 2, none⟩) hMr z2
        have y3 := fun q : Grown wr => q.cell (p := ⟨M, k * 4 + 3, none⟩) hMr z3
        clear z0 z1 z2 z3
        have HCx := fun q : Grown wr => HCm (g (k + 1)) (g k) q hr1 hr0
        clear HCm hr1 hr0 hja
        cases hq : slB (keyA (g (k + 1))) (keyA (g k)) with
        | true =>
          have HC1 : ∀ q : Grown wr, Hid (Calls Tryz.prog 142 #[.agg #[.slice (some ⟨(g (k + 1)).1, 0, none⟩) (g (k + 1)).2.2.l.length (g (k + 1)).2.1, .int .i64 (g (k + 1)).2.2.s, .int .i64 (g (k + 1)).2.2.e, .string (g (k + 1)).2.2.n], .agg #[.slice (some ⟨(g k).1, 0, none⟩) (g k).2.2.l.length (g k).2.1, .int .i64 (g k).2.2.s, .int .i64 (g k).2.2.e, .string (g k).2.2.n], .pointer (some ⟨b0, 0, none⟩)] q.out fun e w' => e = .returned (.int .i64 (-1)) ∧ Below q.out.heap.size q.out w') := fun q => (HCx q).out.mono fun e w' h => ⟨h.1.trans (StwA.retI (cmp_less hq)), h.2⟩
          have HE : Hid (InsI slB keyA (Stb.two g k (k + 1)) a i k ∧ St keyA (seg f 0 n) (seg (Stb.two g k (k + 1)) 0 n)) := ⟨H2.out.2.2.1.next ordL hka (by omega) hq, H2.out.2.2.2.trans (st_two ordL (by omega) hq)⟩
          have HO : Hid (∀ x, x < a ∨ b ≤ x → Stb.two g k (k + 1) x = f x) := fun x hx => by rw [two_out (by omega) (by omega)]; exact H2.out.2.1 x hx
          clear hq HCx
          rw [ek]
          go_wp2
          refine wp_over (z := wr) (by kernel_rfl) (by kernel_rfl) (Below.refl _ _) ?_
          repeat (go_big_quiet_step (first | (go_at_call 142; first | exact call_over (HC1 _).out)))
          refine wpQuiet_nil ?_
          intro w2 hw2
          have hb2 := over_bel hw2
          have HS3 : Hid (SR lo w2 M n g) := H2.out.1.grow hb2
          have HA3 : Hid (Apart M w w2) := HA2.out.below hb2
          clear hw2 hne hb2 x0 x1 x2 x3 y0 y1 y2 y3 HC1
          obtain ⟨x0, x1, x2, x3⟩ : w2.cell? ⟨M, (k + 1) * 4, none⟩ = some (.slice (some ⟨(g (k + 1)).1, 0, none⟩) (g (k + 1)).2.2.l.length (g (k + 1)).2.1) ∧ w2.cell? ⟨M, (k + 1) * 4 + 1, none⟩ = some (.int .i64 (g (k + 1)).2.2.s) ∧ w2.cell? ⟨M, (k + 1) * 4 + 2, none⟩ = some (.int .i64 (g (k + 1)).2.2.e) ∧ w2.cell? ⟨M, (k + 1) * 4 + 3, none⟩ = some (.string (g (k + 1)).2.2.n) := HS3.out.cell (by omega)
          have fx0 : w2.frozen? ⟨M, (k + 1) * 4, none⟩ = false := HS3.out.frozen _
          have fx1 : w2.frozen? ⟨M, (k + 1) * 4 + 1, none⟩ = false := HS3.out.frozen _
          have fx2 : w2.frozen? ⟨M, (k + 1) * 4 + 2, none⟩ = false := HS3.out.frozen _
          have fx3 : w2.frozen? ⟨M, (k + 1) * 4 + 3, none⟩ = false := HS3.out.frozen _
          obtain ⟨y0, y1, y2, y3⟩ : w2.cell? ⟨M, k * 4, none⟩ = some (.slice (some ⟨(g k).1, 0, none⟩) (g k).2.2.l.length (g k).2.1) ∧ w2.cell? ⟨M, k * 4 + 1, none⟩ = some (.int .i64 (g k).2.2.s) ∧ w2.cell? ⟨M, k * 4 + 2, none⟩ = some (.int .i64 (g k).2.2.e) ∧ w2.cell? ⟨M, k * 4 + 3, none⟩ = some (.string (g k).2.2.n) := HS3.out.cell (by omega)
          have fy0 : w2.frozen? ⟨M, k * 4, none⟩ = false := HS3.out.frozen _
          have fy1 : w2.frozen? ⟨M, k * 4 + 1, none⟩ = false := HS3.out.frozen _
          have fy2 : w2.frozen? ⟨M, k * 4 + 2, none⟩ = false := HS3.out.frozen _
          have fy3 : w2.frozen? ⟨M, k * 4 + 3, none⟩ = false := HS3.out.frozen _
          go_wp2
          go_region
          go_wp2
          go_roundw
          case rel => exact ⟨k, _, by go_num, by omega, by omega, (HS3.out.two (p := k + 1) (q := k) (by omega) (by omega) (by omega)).drew, apart_drew (apart_two (p := k + 1) (q := k) (f := g) HA3.out), by rw [two_comm]; exact HO.out, by rw [two_comm]; exact HE.out.1, by rw [two_comm]; exact HE.out.2⟩
          case measure => simp [intOf]
        | false =>
          have hge : ¬ cmpA (g (k + 1)) (g k) < 0 := by have := cmp_ge hq; omega
          have HE : Hid (Srt slB keyA g a (i + 1)) := H2.out.2.2.1.end1 ordL hka hq
          clear hq
          rw [ek]
          go_wp2
          refine wp_over (z := wr) (by kernel_rfl) (by kernel_rfl) (Below.refl _ _) ?_
          repeat (go_big_quiet_step (first | (go_at_call 142; first | exact call_over (HCx _).out)))
          refine wpQuiet_nil ?_
          intro w2 hw2
          have hb2 := over_bel hw2
          have H3 : Hid (SR lo w2 M n g ∧ Apart M w w2) := ⟨H2.out.1.grow hb2, HA2.out.below hb2⟩
          clear hw2 hne hb2 x0 x1 x2 x3 y0 y1 y2 y3 HCx
          go_wp2
          go_roundw
          case rel => exact ⟨i + 1, g, by go_num, by omega, .inl (by omega), H3.out.1, H3.out.2, H2.out.2.1, HE.out, H2.out.2.2.2⟩
          case measure => simp [intOf]; omega
    have hge : ¬ (i : Int) < (b : Int) := by omega
    go_wp2
    go_end0
    exact ⟨rfl, ⟨g, H1.out.1, H1.out.2.1, H1.out.2.2.1.mono (Nat.le_refl _) (by omega), H1.out.2.2.2⟩, HA.out⟩
end Go.Proofs.YtooninmicfcfoaaGreat.StwB
namespace Go.Proofs.YtooninmicfcfoaaGreat.PrtA
open Go.RowKit
open Labs LabS Alms AlmM Over Blk App Rws ChnI ChnC ChnP ChnK ChnT Chs Prt

def SmallA (C : List PCh) : Prop := ∀ x ∈ C, x.P.length ≤ 1048576 ∧ LenM x.P
def flatA : List ARow → List Value
  | [] => []
  | x :: rs => rowV x ++ flatA rs
theorem flatA_len : ∀ rs : List ARow, (flatA rs).length = rs.length * 4
  | [] => rfl
  | x :: rs => by rw [flatA, List.length_append, flatA_len rs]; simp [rowV]; omega
theorem flatA_one : ∀ (rs : List ARow), ∀ v ∈ flatA rs, v.oneCell' = true
  | [], v, hv => by simp [flatA] at hv
  | x :: rs, v, hv => by
    rw [flatA] at hv
    rcases List.mem_append.1 hv with hv | hv
    · exact row_one x v hv
    · exact flatA_one rs v hv
theorem flatA_four : ∀ (rs : List ARow) (i : Nat), i < rs.length → Four (fun k => (flatA rs)[k]?) i (nthA rs i)
  | [], i, h => by simp at h
  | x :: rs, 0, h => by
    have e : nthA (x :: rs) 0 = x := by rw [nthA_eq (by simp)]; simp
    rw [e]
    have hr : ∀ j, j < 4 → (flatA (x :: rs))[0 * 4 + j]? = (rowV x)[j]? := fun j hj => by
      rw [flatA, Nat.zero_mul, Nat.zero_add, List.getElem?_append_left (by simp [rowV]; exact hj)]
    exact ⟨hr 0 (by omega), hr 1 (by omega), hr 2 (by omega), hr 3 (by omega)⟩
  | x :: rs, i + 1, h => by
    have hi : i < rs.length := by simpa using h
    have e : nthA (x :: rs) (i + 1) = nthA rs i := by rw [nthA_eq h, nthA_eq hi]; simp
    rw [e]
    have h4 := flatA_four rs i hi
    have hs : ∀ k, (flatA (x :: rs))[k + 4]? = (flatA rs)[k]? := fun k => by
      rw [flatA, List.getElem?_append_right (by simp [rowV])]
      simp [rowV]
    obtain ⟨h0, h1, h2, h3⟩ := h4
    refine ⟨?_, ?_, ?_, ?_⟩
    · show (flatA (x :: rs))[(i + 1) * 4]? = _
      have q : (i + 1) * 4 = i * 4 + 4 := by omega
      rw [q, hs]; exact h0
    · show (flatA (x :: rs))[(i + 1) * 4 + 1]? = _
      have q : (i + 1) * 4 + 1 = i * 4 + 1 + 4 := by omega
      rw [q, hs]; exact h1
    · show (flatA (x :: rs))[(i + 1) * 4 + 2]? = _
      have q : (i + 1) * 4 + 2 = i * 4 + 2 + 4 := by omega
      rw [q, hs]; exact h2
    · show (flatA (x :: rs))[(i + 1) * 4 + 3]? = _
      have q : (i + 1) * 4 + 3 = i * 4 + 3 + 4 := by omega
      rw [q, hs]; exact h3
theorem flatA_news {lo : Nat} {w : World} {M c : Nat} {rs : List ARow} (h : AB lo w M c rs) : ∀ j u, (flatA rs)[j]? = some u → w.cell? ((⟨M, 0, none⟩ : Addr).add j) = some u := fun j u hj => by
  obtain ⟨cur, h1, h2, h3⟩ := h.outer
  have hlt : j < rs.length * 4 := by
    have := (List.getElem?_eq_some_iff.1 hj).1
    rwa [flatA_len] at this
  have ea : (⟨M, 0, none⟩ : Addr).add j = ⟨M, j, none⟩ := by by_cases h : j = 0 <;> simp [Addr.add, h]
  rw [ea, h1.cell, ← hj]
  obtain ⟨i, r, hi, hr, e⟩ : ∃ i r, i < rs.length ∧ r < 4 ∧ j = i * 4 + r := ⟨j / 4, j % 4, by omega, Nat.mod_lt _ (by omega), by omega⟩
  obtain ⟨a0, a1, a2, a3⟩ := h3 i hi
  obtain ⟨b0, b1, b2, b3⟩ := flatA_four rs i hi
  subst e
  match r, hr with
  | 0, _ => exact a0.trans b0.symm
  | 1, _ => exact a1.trans b1.symm
  | 2, _ => exact a2.trans b2.symm
  | 3, _ => exact a3.trans b3.symm
theorem nthA_two_lt {rs qs : List ARow} {i : Nat} (h : i < rs.length) : nthA (rs ++ qs) i = nthA rs i := by
  rw [nthA_eq (by simp; omega), nthA_eq h, List.getElem_append_left h]
theorem nthA_two_ge {rs qs : List ARow} {i : Nat} (h : i < qs.length) : nthA (rs ++ qs) (rs.length + i) = nthA qs i := by
  rw [nthA_eq (by simp; omega), nthA_eq h, List.getElem_append_right (by omega)]
  simp
theorem AB.appAll {lo : Nat} {W w' : World} {M c : Nat} {rs qs : List ARow} {xs : List Value} {v' : Value} (h : AB lo W M c rs) (hq : ∀ x ∈ qs, OwnA lo W x) (hqn : qs.Pairwise fun x y => x.1 ≠ y.1) (hne : ∀ y ∈ rs, ∀ x ∈ qs, y.1 ≠ x.1) (hl : xs.length = rs.length * 4) (hxs : ∀ i, i < rs.length → Four (fun k => xs[k]?) i (nthA rs i))
    (hown : w'.ownsRow lo 29 4 v' (rs.length + qs.length) (xs ++ flatA qs)) (hg : W.grownBy w' (some M)) (hnn : v' ≠ .slice none 0 0) : ∃ M' c', v' = .slice (some ⟨M', 0, none⟩) (rs.length + qs.length) c' ∧ AB lo w' M' c' (rs ++ qs) := by
  rcases hown.2 with ⟨e, _⟩ | ⟨g, cap, cur, e, hb, hgb, hc, hm, hz, ht⟩
  · exact absurd e hnn
  · obtain ⟨cu0, hcu0, _⟩ := h.outer
    have far : ∀ y, OwnA lo W y → OwnA lo w' y := fun y hy => by
      obtain ⟨h0, h1, ds, h2, h3⟩ := hy
      exact ⟨h0, h1, ds, blk_far h2 hg (fun e => blkA_ne hcu0 h2 (Option.some.inj e).symm), h3⟩
    refine ⟨g, cap, e, hb, ⟨by simp; omega, hm⟩, ⟨cur, hgb, hz, fun i hi => ?_⟩, fun y hy => ?_, ?_⟩
    · have at' : ∀ k, k < (rs.length + qs.length) * 4 → cur[k]? = (xs ++ flatA qs)[k]? := fun k hk => by
        rw [← ht, List.getElem?_take_of_lt hk]; simp
      simp at hi
      by_cases hlt : i < rs.length
      · rw [nthA_two_lt hlt]
        refine (hxs i hlt).congr fun k _ hk => ?_
        show cur[k]? = xs[k]?
        rw [at' k (by omega), List.getElem?_append_left (by omega)]
      · obtain ⟨m, rfl⟩ : ∃ m, i = rs.length + m := ⟨i - rs.length, by omega⟩
        have hm' : m < qs.length := by omega
        rw [nthA_two_ge hm']
        have h4 := flatA_four qs m hm'
        have hr : ∀ r, r < 4 → cur[(rs.length + m) * 4 + r]? = (flatA qs)[m * 4 + r]? := fun r hr => by
          rw [at' _ (by omega), List.getElem?_append_right (by omega), hl]
          congr 1; omega
        exact ⟨(hr 0 (by omega)).trans h4.1, (hr 1 (by omega)).trans h4.2.1, (hr 2 (by omega)).trans h4.2.2.1, (hr 3 (by omega)).trans h4.2.2.2⟩
    · rcases List.mem_append.1 hy with hy | hy
      · exact far y (h.rows y hy)
      · exact far y (hq y hy)
    · rw [List.pairwise_append]
      exact ⟨h.ne, hqn, fun a ha b hb => hne a ha b hb⟩
def allC : List PCh → List PAl
  | [] => []
  | x :: C => x.P ++ allC C
theorem allC_app (p q : List PCh) : allC (p ++ q) = allC p ++ allC q := by
  induction p with
  | nil => rfl
  | cons x p ih => rw [List.cons_append, allC, ih, allC, List.append_assoc]
theorem allC_up {C : List PCh} {k : Nat} (h : k < C.length) : allC (C.take (k + 1)) = allC (C.take k) ++ (nthC C k).P := by rw [takeC_up h, allC_app]; simp [allC]
theorem allC_sum (C : List PCh) : (allC C).length + sumL (allC C) = sumC C := by
  induction C with
  | nil => rfl
  | cons x C ih => rw [allC, sumC, sum_app, List.length_append]; omega
theorem allC_mem {C : List PCh} {x : PAl} (h : x ∈ allC C) : ∃ c ∈ C, x ∈ c.P := by
  induction C with
  | nil => simp [allC] at h
  | cons y C ih =>
    rw [allC] at h
    rcases List.mem_append.1 h with h | h
    · exact ⟨y, by simp, h⟩
    · obtain ⟨c, hc, hx⟩ := ih h
      exact ⟨c, by simp [hc], hx⟩
theorem pals_two (rs qs : List ARow) : pals (rs ++ qs) = pals rs ++ pals qs := by simp [pals]
theorem fieldL (f : Int) (a : Option Addr) (n c : Nat) (w : World) : (Instr.field 96 (.agg #[.int .i64 f, .slice a n c]) 1).run Tryz.prog w = .ok (.slice a n c) w := by kernel_rfl
theorem bel_id {w w' : World} (h : Below w.heap.size w w') : Below w.heap.size w w' := h
theorem bel_box {w w' : World} {o : Obj} (h : Below (w.alloc o).heap.size (w.alloc o) w') : Below w.heap.size w w' := grow_on (Go.Joins.below_alloc1 w o) h
set_option maxRecDepth 100000 in
set_option maxHeartbeats 1600000 in
theorem specAll_any (hd vr : Int) (a : Option Addr) (cap : Nat) (C : List PCh) (w : World) (hr : RdG RdN w a C) (hl : C.length ≤ 1048576) (hs : SmallA C) (hc : sumC C ≤ 1048576) :
    Calls Tryz.prog 28 #[.agg #[.int .i64 hd, .int .i64 vr, .slice a C.length cap]] w fun e w' => (∃ M c rs, e = .returned (.slice (some ⟨M, 0, none⟩) rs.length c) ∧ AB w.heap.size w' M c rs ∧ pals rs = allC C) ∧ Below w.heap.size w w' := by
  have HR : Hid (RdG RdN w a C ∧ SmallA C ∧ sumC C ≤ 1048576) := ⟨hr, hs, hc⟩
  clear hr hs hc
  obtain ⟨i0, hi, hz0, hz1, hz2⟩ := info_parts infoA
  go_enter Tryz.func28, Tryz.ntmps28
  go_wp2
  obtain ⟨W0, hW0⟩ : ∃ W0, (w.alloc (.cells #[.int .i64 hd, .int .i64 vr, .slice a C.length cap] 26)).alloc (.cells #[] 29) = W0 := ⟨_, rfl⟩
  have HW0 : Hid (Below w.heap.size w W0 ∧ Blk W0 w.heap.size #[.int .i64 hd, .int .i64 vr, .slice a C.length cap] 26 ∧ AB (w.heap.size + 1) W0 (w.heap.size + 1) 0 []) := by
    rw [← hW0]
    exact ⟨Go.Joins.below_alloc2 w _ _, (Blk.new _ _ _).alloc _, AB.nil (Blk.new_at (by simp)) (Nat.le_refl _)⟩
  try rw [hW0]
  clear hW0
  go_loopw [3, 4] (fun v i w' => ∃ (k M c : Nat) (rs : List ARow), i = .int .i64 k ∧ k ≤ C.length ∧ v = .slice (some ⟨M, 0, none⟩) rs.length c ∧ AB (w.heap.size + 1) w' M c rs ∧ pals rs = allC (C.take k) ∧ Blk w' w.heap.size #[.int .i64 hd, .int .i64 vr, .slice a C.length cap] 26 ∧ Below w.heap.size w w') (fun _ i _ => C.length - (intOf i).toNat)
  case atStart => exact ⟨0, w.heap.size + 1, 0, [], rfl, Nat.zero_le _, rfl, HW0.out.2.2, rfl, HW0.out.2.1, HW0.out.1⟩
  case round =>
    obtain ⟨k, M, c, rs, rfl, hk, rfl, hab, hp, hpt, hb⟩ := hrel
    have HAB : Hid (AB (w.heap.size + 1) wr M c rs) := hab
    have HP : Hid (pals rs = allC (C.take k)) := hp
    have HB : Hid (Below w.heap.size w wr) := hb
    have HPT : Hid (Blk wr w.heap.size #[.int .i64 hd, .int .i64 vr, .slice a C.length cap] 26) := hpt
    have HRl : Hid (rs.length + sumL (pals rs) ≤ sumC (C.take k)) := by show _ ≤ _; rw [← pals_len, hp]; have := allC_sum (C.take k); omega
    have hrl : rs.length ≤ 1048576 := by have := HRl.out; have := sumC_le C k; have := HR.out.2.2; omega
    have cp2 : wr.cell? ⟨w.heap.size, 2, none⟩ = some (.slice a C.length cap) := hpt.cell 2
    clear hab hp hb hpt
    by_cases hlt : k < C.length
    · have hlt' : (k : Int) < (C.length : Int) := by omega
      obtain ⟨b, off, ea, hb, ad, cp, hat⟩ := (HR.out.1.below stays_rn HB.out).get hlt
      cases ea
      have h2 := hat.c0
      have h3 := hat.c1
      have HRD : Hid (RdN wr ad (nthC C k).P) := hat.reads
      have HSk : Hid ((nthC C k).P.length ≤ 1048576 ∧ LenM (nthC C k).P) := HR.out.2.1 _ (nthC_mem hlt)
      have HSu : Hid (sumC (C.take (k + 1)) = sumC (C.take k) + (nthC C k).P.length + sumL (nthC C k).P ∧ sumC (C.take (k + 1)) ≤ 1048576) := ⟨sumC_up hlt, Nat.le_trans (sumC_le C (k + 1)) HR.out.2.2⟩
      clear hat
      go_wp2_with fail
      refine (l4All_any ad cp (nthC C k).P wr HRD.out HSk.out.1 HSk.out.2).mono ?_
      rintro e w1 ⟨⟨Mx, cx, qs, rfl, hab, hpq⟩, hb1⟩
      have HAB1 : Hid (AB (w.heap.size + 1) w1 M c rs) := HAB.out.grow (bel_id hb1)
      have HQ1 : Hid (AB wr.heap.size w1 Mx cx qs ∧ pals qs = (nthC C k).P) := ⟨hab.down (by first | exact Nat.le_refl _ | simp), hpq⟩
      have HPT1 : Hid (Blk w1 w.heap.size _ _) := HPT.out.grow (bel_id hb1)
      have HB1 : Hid (Below w.heap.size w w1) := grow_on HB.out (bel_id hb1)
      have HQl : Hid (qs.length = (nthC C k).P.length) := by show _ = _; rw [← pals_len, hpq]
      have hql : rs.length + qs.length ≤ 1048576 := by have h1 := HRl.out; have h2 := HSu.out; have h3 := HQl.out; omega
      have hwz : w.heap.size + 1 ≤ wr.heap.size := HPT.out.lt
      obtain ⟨xs, hox, hxl, hxs⟩ := HAB1.out.own
      have HOX : Hid (w1.ownsRow (w.heap.size + 1) 29 4 (.slice (some ⟨M, 0, none⟩) rs.length c) rs.length xs) := hox
      have HXS : Hid (xs.length = rs.length * 4 ∧ ∀ i, i < rs.length → Four (fun k => xs[k]?) i (nthA rs i)) := ⟨hxl, hxs⟩
      clear hb1 hab hpq h2 h3 hox hxl hxs
      try rw [← HQl.out]
      go_wp2_with (at_builtin; refine wpList_append_own_at _ rfl _ _ 40 rfl (w.heap.size + 1) 29 i0 (.agg #[.slice none 0 0, .int .i64 0, .int .i64 0, .string ByteArray.empty]) 4 56 Tryz.underlying40 hi hz0 hz1 hz2 rfl (by decide) _ _ _ rfl HOX.out ⟨Mx, 0, none⟩ qs.length _ (flatA qs) rfl (flatA_len qs) ?c1 (flatA_one _) ?c3 ?c4 ?c5 ?_)
      case c1 => exact flatA_news HQ1.out.1
      case c3 => unfold maxLen; omega
      case c4 => omega
      case c5 => have := HB1.out.size; have := HPT1.out.lt; omega
      intro v' w2 hown hg hnil hat
      obtain ⟨M3, c3, rfl, hAB3⟩ := AB.appAll HAB1.out (fun x hx => (HQ1.out.1.rows x hx).down hwz) HQ1.out.1.ne (fun y hy x hx => by have := (HAB.out.rows y hy).lt; have := (HQ1.out.1.rows x hx).1; omega) HXS.out.1 HXS.out.2 hown hg (fun e => by rw [e] at hat; simp [Value.ownBlock] at hat)
      have HAB3 : Hid (AB (w.heap.size + 1) w2 M3 c3 (rs ++ qs)) := hAB3
      have HB3 : Hid (Below w.heap.size w w2) := HB1.out.grown hg (by have := HB1.out.size; omega) (fun k e => by have h : M = k := Option.some.inj e; have := HAB.out.at'; omega)
      have HPT3 : Hid (Blk w2 w.heap.size _ _) := blk_far HPT1.out hg (fun e => by have h : w.heap.size = M := Option.some.inj e; have := HAB.out.at'; omega)
      have HP3 : Hid (pals (rs ++ qs) = allC (C.take (k + 1))) := by show _ = _; rw [pals_two, HP.out, HQ1.out.2, allC_up hlt]
      have HL3 : Hid ((rs ++ qs).length = rs.length + qs.length) := by show _ = _; simp
      clear hown hg hnil hat hAB3
      go_wp2
      go_roundw
      case rel => exact ⟨k + 1, M3, c3, _, by go_num, by omega, by rw [HL3.out], HAB3.out, HP3.out, HPT3.out, HB3.out⟩
      case measure => simp [intOf]; omega
    · have hge : ¬ (k : Int) < (C.length : Int) := by omega
      have HF : Hid (pals rs = allC C) := by show _ = _; rw [HP.out]; congr 1; exact List.take_of_length_le (by omega)
      go_wp2
      go_ret
      exact ⟨⟨M, c, rs, rfl, HAB.out.down (by omega), HF.out⟩, HB.out⟩
set_option maxRecDepth 100000 in
set_option maxHeartbeats 1600000 in
theorem implAll_any (hd vr : Int) (a : Option Addr) (cap : Nat) (C : List PCh) (w : World) (hr : RdG RdA w a C) (hl : C.length ≤ 1048576) (hs : SmallA C) (hc : sumC C ≤ 1048576) :
    Calls Tryz.prog 26 #[.agg #[.int .i64 hd, .int .i64 vr, .slice a C.length cap]] w fun e w' => (∃ M c rs, e = .returned (.slice (some ⟨M, 0, none⟩) rs.length c) ∧ AB w.heap.size w' M c rs ∧ pals rs = allC C) ∧ Below w.heap.size w w' := by
  have HR : Hid (RdG RdA w a C ∧ SmallA C ∧ sumC C ≤ 1048576) := ⟨hr, hs, hc⟩
  clear hr hs hc
  obtain ⟨i0, hi, hz0, hz1, hz2⟩ := info_parts infoA
  go_enter Tryz.func26, Tryz.ntmps26
  go_wp2
  obtain ⟨W0, hW0⟩ : ∃ W0, (w.alloc (.cells #[.int .i64 hd, .int .i64 vr, .slice a C.length cap] 26)).alloc (.cells #[] 29) = W0 := ⟨_, rfl⟩
  have HW0 : Hid (Below w.heap.size w W0 ∧ Blk W0 w.heap.size #[.int .i64 hd, .int .i64 vr, .slice a C.length cap] 26 ∧ AB (w.heap.size + 1) W0 (w.heap.size + 1) 0 []) := by
    rw [← hW0]
    exact ⟨Go.Joins.below_alloc2 w _ _, (Blk.new _ _ _).alloc _, AB.nil (Blk.new_at (by simp)) (Nat.le_refl _)⟩
  try rw [hW0]
  clear hW0
  go_loopw [3, 10] (fun v i w' => ∃ (k M c : Nat) (rs : List ARow), i = .int .i64 k ∧ k ≤ C.length ∧ v = .slice (some ⟨M, 0, none⟩) rs.length c ∧ AB (w.heap.size + 1) w' M c rs ∧ pals rs = allC (C.take k) ∧ Blk w' w.heap.size #[.int .i64 hd, .int .i64 vr, .slice a C.length cap] 26 ∧ Below w.heap.size w w') (fun _ i _ => C.length - (intOf i).toNat)
  case atStart => exact ⟨0, w.heap.size + 1, 0, [], rfl, Nat.zero_le _, rfl, HW0.out.2.2, rfl, HW0.out.2.1, HW0.out.1⟩
  case round =>
    obtain ⟨k, M, c, rs, rfl, hk, rfl, hab, hp, hpt, hb⟩ := hrel
    have HAB : Hid (AB (w.heap.size + 1) wr M c rs) := hab
    have HP : Hid (pals rs = allC (C.take k)) := hp
    have HB : Hid (Below w.heap.size w wr) := hb
    have HPT : Hid (Blk wr w.heap.size #[.int .i64 hd, .int .i64 vr, .slice a C.length cap] 26) := hpt
    have HRl : Hid (rs.length + sumL (pals rs) ≤ sumC (C.take k)) := by show _ ≤ _; rw [← pals_len, hp]; have := allC_sum (C.take k); omega
    have hrl : rs.length ≤ 1048576 := by have := HRl.out; have := sumC_le C k; have := HR.out.2.2; omega
    have cp2 : wr.cell? ⟨w.heap.size, 2, none⟩ = some (.slice a C.length cap) := hpt.cell 2
    clear hab hp hb hpt
    by_cases hlt : k < C.length
    · have hlt' : (k : Int) < (C.length : Int) := by omega
      obtain ⟨b, off, ea, hb, ad, cp, hat⟩ := (HR.out.1.below stays_rd HB.out).get hlt
      cases ea
      have h2 := hat.c0
      have h3 := hat.c1
      have HRD : Hid (RdA wr ad (nthC C k).P) := hat.reads
      have HSk : Hid ((nthC C k).P.length ≤ 1048576 ∧ LenM (nthC C k).P) := HR.out.2.1 _ (nthC_mem hlt)
      have HSu : Hid (sumC (C.take (k + 1)) = sumC (C.take k) + (nthC C k).P.length + sumL (nthC C k).P ∧ sumC (C.take (k + 1)) ≤ 1048576) := ⟨sumC_up hlt, Nat.le_trans (sumC_le C (k + 1)) HR.out.2.2⟩
      clear hat
      go_wp2_with fail
      refine (implCopy_any _ ad cp (nthC C k).P _ (HRD.out.below (Go.Joins.below_alloc1 wr _)) HSk.out.1 HSk.out.2).mono ?_
      rintro e w1 ⟨⟨Mx, qs, rfl, hab, hpq⟩, hb1⟩; obtain ⟨cx, hab⟩ : ∃ cx, AB _ w1 Mx cx qs := ⟨_, hab⟩; have hfd := fieldL
      have HAB1 : Hid (AB (w.heap.size + 1) w1 M c rs) := HAB.out.grow (bel_box hb1)
      have HQ1 : Hid (AB wr.heap.size w1 Mx cx qs ∧ pals qs = (nthC C k).P) := ⟨hab.down (by first | exact Nat.le_refl _ | simp), hpq⟩
      have HPT1 : Hid (Blk w1 w.heap.size _ _) := HPT.out.grow (bel_box hb1)
      have HB1 : Hid (Below w.heap.size w w1) := grow_on HB.out (bel_box hb1)
      have HQl : Hid (qs.length = (nthC C k).P.length) := by show _ = _; rw [← pals_len, hpq]
      have hql : rs.length + qs.length ≤ 1048576 := by have h1 := HRl.out; have h2 := HSu.out; have h3 := HQl.out; omega
      have hwz : w.heap.size + 1 ≤ wr.heap.size := HPT.out.lt
      obtain ⟨xs, hox, hxl, hxs⟩ := HAB1.out.own
      have HOX : Hid (w1.ownsRow (w.heap.size + 1) 29 4 (.slice (some ⟨M, 0, none⟩) rs.length c) rs.length xs) := hox
      have HXS : Hid (xs.length = rs.length * 4 ∧ ∀ i, i < rs.length → Four (fun k => xs[k]?) i (nthA rs i)) := ⟨hxl, hxs⟩
      clear hb1 hab hpq h2 h3 hox hxl hxs
      try rw [← HQl.out]
      go_wp2_with (at_builtin; refine wpList_append_own_at _ rfl _ _ 40 rfl (w.heap.size + 1) 29 i0 (.agg #[.slice none 0 0, .int .i64 0, .int .i64 0, .string ByteArray.empty]) 4 56 Tryz.underlying40 hi hz0 hz1 hz2 rfl (by decide) _ _ _ rfl HOX.out ⟨Mx, 0, none⟩ qs.length _ (flatA qs) rfl (flatA_len qs) ?c1 (flatA_one _) ?c3 ?c4 ?c5 ?_)
      case c1 => exact flatA_news HQ1.out.1
      case c3 => unfold maxLen; omega
      case c4 => omega
      case c5 => have := HB1.out.size; have := HPT1.out.lt; omega
      intro v' w2 hown hg hnil hat
      obtain ⟨M3, c3, rfl, hAB3⟩ := AB.appAll HAB1.out (fun x hx => (HQ1.out.1.rows x hx).down hwz) HQ1.out.1.ne (fun y hy x hx => by have := (HAB.out.rows y hy).lt; have := (HQ1.out.1.rows x hx).1; omega) HXS.out.1 HXS.out.2 hown hg (fun e => by rw [e] at hat; simp [Value.ownBlock] at hat)
      have HAB3 : Hid (AB (w.heap.size + 1) w2 M3 c3 (rs ++ qs)) := hAB3
      have HB3 : Hid (Below w.heap.size w w2) := HB1.out.grown hg (by have := HB1.out.size; omega) (fun k e => by have h : M = k := Option.some.inj e; have := HAB.out.at'; omega)
      have HPT3 : Hid (Blk w2 w.heap.size _ _) := blk_far HPT1.out hg (fun e => by have h : w.heap.size = M := Option.some.inj e; have := HAB.out.at'; omega)
      have HP3 : Hid (pals (rs ++ qs) = allC (C.take (k + 1))) := by show _ = _; rw [pals_two, HP.out, HQ1.out.2, allC_up hlt]
      have HL3 : Hid ((rs ++ qs).length = rs.length + qs.length) := by show _ = _; simp
      clear hown hg hnil hat hAB3
      go_wp2
      go_roundw
      case rel => exact ⟨k + 1, M3, c3, _, by go_num, by omega, by rw [HL3.out], HAB3.out, HP3.out, HPT3.out, HB3.out⟩
      case measure => simp [intOf]; omega
    · have hge : ¬ (k : Int) < (C.length : Int) := by omega
      have HF : Hid (pals rs = allC C) := by show _ = _; rw [HP.out]; congr 1; exact List.take_of_length_le (by omega)
      go_wp2
      go_ret
      exact ⟨⟨M, c, rs, rfl, HAB.out.down (by omega), HF.out⟩, HB.out⟩
end Go.Proofs.YtooninmicfcfoaaGreat.PrtA
namespace Go.Proofs.YtooninmicfcfoaaGreat.StwF
open Go.RowKit
open Labs LabS Alms AlmS AlmM Over Blk App Rws ChnI ChnC Stb
open LabL (slB)
open Go.Proofs.YtooninmicfcfoaaGreat.Mark (Apart)
open StrB (retB)
open StwA
structure Sx (lo : Nat) (w : World) (M n : Nat) (f : Nat → ARow) (w' : World) : Prop where
  ex : ∃ g, SR lo w' M n g ∧ Srt slB keyA g 0 n ∧ St keyA (seg f 0 n) (seg g 0 n)
  ap : Apart M w w'
set_option maxRecDepth 100000 in
set_option maxHeartbeats 6400000 in
theorem stable_any (M b0 cap lo n : Nat) (f : Nat → ARow) (w : World) (hS : SR lo w M n f) (hn : n ≤ 2097152) (hc : w.cell? ⟨b0, 0, none⟩ = some (.func (.func 100) #[] #[])) (hb0 : b0 < w.heap.size) (hM : b0 ≠ M) :
    Calls Tryz.prog 171 #[.slice (some ⟨M, 0, none⟩) n cap, .int .i64 n, .func (.func 142) #[] #[.pointer (some ⟨b0, 0, none⟩)]] w fun e w' => e = .returned (.tuple #[]) ∧ Sx lo w M n f w' := by
  have HC : Hid (w.cell? ⟨b0, 0, none⟩ = some (.func (.func 100) #[] #[]) ∧ b0 < w.heap.size ∧ b0 ≠ M) := ⟨hc, hb0, hM⟩
  have HS : Hid (SR lo w M n f) := hS
  clear hc hS hb0 hM
  have HIN : Hid (∀ (a b : Nat) (g : Nat → ARow) (w1 : World), SR lo w1 M n g → Apart M w w1 → a ≤ b → b ≤ n → Calls Tryz.prog 188 #[.slice (some ⟨M, 0, none⟩) n cap, .int .i64 a, .int .i64 b, .func (.func 142) #[] #[.pointer (some ⟨b0, 0, none⟩)]] w1 fun e w' => e = .returned (.tuple #[]) ∧ Sd lo w1 M n g a b w') := fun a b g w1 h hA h1 h2 => StwB.ins_any M b0 cap lo n a b g w1 h (by omega) (fnAt hA HC.out.1 HC.out.2.1 HC.out.2.2) (Nat.lt_of_lt_of_le HC.out.2.1 hA.size) HC.out.2.2 h1 h2
  have HSY : Hid (∀ (a m b : Nat) (g : Nat → ARow) (w1 : World), SR lo w1 M n g → Apart M w w1 → a < m → m < b → b ≤ n → Srt slB keyA g a m → Srt slB keyA g m b → Calls Tryz.prog 189 #[.slice (some ⟨M, 0, none⟩) n cap, .int .i64 a, .int .i64 m, .int .i64 b, .func (.func 142) #[] #[.pointer (some ⟨b0, 0, none⟩)]] w1 fun e w' => e = .returned (.tuple #[]) ∧ Sd lo w1 M n g a b w') := fun a m b g w1 h hA h1 h2 h3 h4 h5 => StwE.sym_any M b0 cap lo n (by omega) (b - a) a m b g w1 (Nat.le_refl _) h (fnAt hA HC.out.1 HC.out.2.1 HC.out.2.2) (Nat.lt_of_lt_of_le HC.out.2.1 hA.size) HC.out.2.2 h1 h2 h3 h4 h5
  go_enter Tryz.func171, Tryz.ntmps171
  go_wp2
  go_loopw [7, 8] (fun u v w' => ∃ (k A : Nat) (g : Nat → ARow), A = k * 20 ∧ u = .int .i64 A ∧ v = .int .i64 ((A : Int) + 20) ∧ A ≤ n ∧ SR lo w' M n g ∧ Apart M w w' ∧ Fst slB keyA g 20 k ∧ St keyA (seg f 0 n) (seg g 0 n)) (fun u _ _ => n - (intOf u).toNat)
  case atStart => exact ⟨0, 0, f, rfl, rfl, rfl, Nat.zero_le _, HS.out, Apart.refl _ _, fun j hj => by omega, St.refl _⟩
  case round =>
    clear HS
    obtain ⟨k, A, g, hA, rfl, rfl, hAn, hS1, hA1, hF, hT⟩ := hrel
    have H1 : Hid (SR lo wr M n g ∧ Apart M w wr ∧ Fst slB keyA g 20 k ∧ St keyA (seg f 0 n) (seg g 0 n)) := ⟨hS1, hA1, hF, hT⟩
    have HA : Hid (A = k * 20) := hA
    clear hA hS1 hA1 hF hT
    by_cases hlt : A + 20 ≤ n
    · have hlt' : (A : Int) + 20 ≤ (n : Int) := by omega
      obtain ⟨B, hB⟩ : ∃ x : Nat, x = A + 20 := ⟨_, rfl⟩
      have eB : (A : Int) + 20 = (B : Int) := by omega
      have HB : Hid (B = A + 20) := hB
      have hBn : (B : Int) ≤ (n : Int) := by omega
      have HU : Hid (Calls Tryz.prog 188 #[.slice (some ⟨M, 0, none⟩) n cap, .int .i64 A, .int .i64 B, .func (.func 142) #[] #[.pointer (some ⟨b0, 0, none⟩)]] wr fun e w' => e = .returned (.tuple #[]) ∧ Sd lo wr M n g A B w') := HIN.out A B g wr H1.out.1 H1.out.2.1 (by omega) (by omega)
      clear hB
      rw [eB]
      go_wp2_with fail
      refine HU.out.mono ?_
      rintro e w1 ⟨rfl, hD⟩
      obtain ⟨⟨g1, hS2, hM2⟩, hA2⟩ := hD
      have H2 : Hid (SR lo w1 M n g1 ∧ Apart M w w1 ∧ Fst slB keyA g1 20 (k + 1) ∧ St keyA (seg f 0 n) (seg g1 0 n)) := ⟨hS2, H1.out.2.1.trans hA2, H1.out.2.2.1.next (by rw [← HA.out, ← HB.out]; exact hM2), H1.out.2.2.2.trans hM2.st⟩
      have HB2 : Hid (B = (k + 1) * 20 ∧ A < B ∧ B ≤ n) := by have := HA.out; have := HB.out; exact ⟨by omega, by omega, by omega⟩
      clear hS2 hM2 hA2 HU eB hlt hlt' HB
      go_wp2
      go_roundw
      case rel => exact ⟨k + 1, B, g1, HB2.out.1, rfl, rfl, HB2.out.2.2, H2.out⟩
      case measure => have := HB2.out; simp [intOf]; omega
    have hge : ¬ (A : Int) + 20 ≤ (n : Int) := by omega
    have HU : Hid (Calls Tryz.prog 188 #[.slice (some ⟨M, 0, none⟩) n cap, .int .i64 A, .int .i64 n, .func (.func 142) #[] #[.pointer (some ⟨b0, 0, none⟩)]] wr fun e w' => e = .returned (.tuple #[]) ∧ Sd lo wr M n g A n w') := HIN.out A n g wr H1.out.1 H1.out.2.1 hAn (Nat.le_refl _)
    go_wp2_with fail
    refine HU.out.mono ?_
    rintro e w1 ⟨rfl, hD⟩
    obtain ⟨⟨g1, hS2, hM2⟩, hA2⟩ := hD
    have H2 : Hid (SR lo w1 M n g1 ∧ Apart M w w1 ∧ Bs slB keyA g1 20 n ∧ St keyA (seg f 0 n) (seg g1 0 n)) := ⟨hS2, H1.out.2.1.trans hA2, H1.out.2.2.1.fin (by rw [← HA.out]; exact hM2) (by have := HA.out; omega), H1.out.2.2.2.trans hM2.st⟩
    clear hS2 hM2 hA2 HU H1 HA hlt hge hAn
    go_wp2
    go_loopw [6, 7, 8, 9] (fun x _ _ _ w' => ∃ (z : Nat) (g : Nat → ARow), x = .int .i64 z ∧ 0 < z ∧ z ≤ 2 * n + 20 ∧ SR lo w' M n g ∧ Apart M w w' ∧ Bs slB keyA g z n ∧ St keyA (seg f 0 n) (seg g 0 n)) (fun x _ _ _ _ => n - (intOf x).toNat)
    case atStart => exact ⟨20, g1, rfl, by omega, by omega, H2.out⟩
    case round =>
      clear H2
      obtain ⟨z, g, rfl, hz0, hz1, hS1, hA1, hF, hT⟩ := hrel
      have H1 : Hid (SR lo wr M n g ∧ Apart M w wr ∧ Bs slB keyA g z n ∧ St keyA (seg f 0 n) (seg g 0 n)) := ⟨hS1, hA1, hF, hT⟩
      clear hS1 hA1 hF hT
      by_cases hlt : z < n
      · have hlt' : (z : Int) < (n : Int) := by omega
        go_wp2
        go_loopw [7, 8] (fun u v w' => ∃ (k A : Nat) (g : Nat → ARow), A = k * (2 * z) ∧ u = .int .i64 A ∧ v = .int .i64 ((A : Int) + 2 * (z : Int)) ∧ A ≤ n ∧ SR lo w' M n g ∧ Apart M w w' ∧ Half slB keyA g z n k ∧ St keyA (seg f 0 n) (seg g 0 n)) (fun u _ _ => n - (intOf u).toNat)
        case atStart => exact ⟨0, 0, g, by simp, rfl, by simp, Nat.zero_le _, H1.out.1, H1.out.2.1, H1.out.2.2.1.half, H1.out.2.2.2⟩
        case round =>
          clear H1
          obtain ⟨k, A, g, hA, rfl, rfl, hAn, hS1, hA1, hF, hT⟩ := hrel
          have H1 : Hid (SR lo wr M n g ∧ Apart M w wr ∧ Half slB keyA g z n k ∧ St keyA (seg f 0 n) (seg g 0 n)) := ⟨hS1, hA1, hF, hT⟩
          have HA : Hid (A = k * (2 * z)) := hA
          clear hA hS1 hA1 hF hT
          obtain ⟨m, hm⟩ : ∃ x : Nat, x = A + z := ⟨_, rfl⟩
          have em : (A : Int) + (z : Int) = (m : Int) := by omega
          have HMm : Hid (m = A + z) := hm
          have hmb : m ≤ 6400000 := by omega
          clear hm
          by_cases hlt2 : A + 2 * z ≤ n
          · have hlt2' : (A : Int) + 2 * (z : Int) ≤ (n : Int) := by omega
            obtain ⟨B, hB⟩ : ∃ x : Nat, x = A + 2 * z := ⟨_, rfl⟩
            have eB : (A : Int) + 2 * (z : Int) = (B : Int) := by omega
            have HB : Hid (B = A + 2 * z) := hB
            have hBn : (B : Int) ≤ (n : Int) := by omega
            have HU : Hid (Calls Tryz.prog 189 #[.slice (some ⟨M, 0, none⟩) n cap, .int .i64 A, .int .i64 m, .int .i64 B, .func (.func 142) #[] #[.pointer (some ⟨b0, 0, none⟩)]] wr fun e w' => e = .returned (.tuple #[]) ∧ Sd lo wr M n g A B w') := HSY.out A m B g wr H1.out.1 H1.out.2.1 (by have := HMm.out; omega) (by have := HMm.out; omega) (by omega) (by rw [HMm.out, HA.out]; exact H1.out.2.2.1.left (by rw [← HA.out]; omega)) (by have h := H1.out.2.2.1.right; rw [← HA.out] at h; rw [HMm.out]; exact h.mono (Nat.le_refl _) (by omega))
            clear hB
            rw [eB]
            go_wp2_with fail
            refine HU.out.mono ?_
            rintro e w1 ⟨rfl, hD⟩
            obtain ⟨⟨g1, hS2, hM2⟩, hA2⟩ := hD
            have H2 : Hid (SR lo w1 M n g1 ∧ Apart M w w1 ∧ Half slB keyA g1 z n (k + 1) ∧ St keyA (seg f 0 n) (seg g1 0 n)) := by
              refine ⟨hS2, H1.out.2.1.trans hA2, H1.out.2.2.1.next ?_, H1.out.2.2.2.trans hM2.st⟩
              have e1 : min (k * (2 * z) + 2 * z) n = B := by have h1 := HA.out; have h2 := HB.out; rw [← h1]; omega
              rw [e1, ← HA.out]
              exact hM2
            have HB2 : Hid (B = (k + 1) * (2 * z) ∧ A < B ∧ B ≤ n) := by have h1 := HA.out; have h2 := HB.out; exact ⟨by rw [mul_up, ← h1]; exact h2, by omega, by omega⟩
            clear hS2 hM2 hA2 HU eB hlt2 hlt2' HB em HMm hmb
            go_wp2
            go_roundw
            case rel => exact ⟨k + 1, B, g1, HB2.out.1, rfl, rfl, HB2.out.2.2, H2.out⟩
            case measure => have := HB2.out; simp [intOf]; omega
          have hge2 : ¬ (A : Int) + 2 * (z : Int) ≤ (n : Int) := by omega
          by_cases hmn : m < n
          · have hmn' : (m : Int) < (n : Int) := by omega
            have HU : Hid (Calls Tryz.prog 189 #[.slice (some ⟨M, 0, none⟩) n cap, .int .i64 A, .int .i64 m, .int .i64 n, .func (.func 142) #[] #[.pointer (some ⟨b0, 0, none⟩)]] wr fun e w' => e = .returned (.tuple #[]) ∧ Sd lo wr M n g A n w') := HSY.out A m n g wr H1.out.1 H1.out.2.1 (by have := HMm.out; omega) hmn (Nat.le_refl _) (by rw [HMm.out, HA.out]; exact H1.out.2.2.1.left (by rw [← HA.out, ← HMm.out]; omega)) (by have h := H1.out.2.2.1.right; rw [← HA.out] at h; rw [HMm.out]; exact h.mono (Nat.le_refl _) (by omega))
            go_wp2_with fail
            refine HU.out.mono ?_
            rintro e w1 ⟨rfl, hD⟩
            obtain ⟨⟨g1, hS2, hM2⟩, hA2⟩ := hD
            have H2 : Hid (SR lo w1 M n g1 ∧ Apart M w w1 ∧ Bs slB keyA g1 (z * 2) n ∧ St keyA (seg f 0 n) (seg g1 0 n)) := by
              refine ⟨hS2, H1.out.2.1.trans hA2, ?_, H1.out.2.2.2.trans hM2.st⟩
              rw [Nat.mul_comm z 2]
              refine Half.fin' (k := k) (H1.out.2.2.1.next ?_) (by rw [← HA.out]; omega)
              have e1 : min (k * (2 * z) + 2 * z) n = n := by rw [← HA.out]; omega
              rw [e1, ← HA.out]
              exact hM2
            clear hS2 hM2 hA2 HU em HMm hmb
            go_wp2
            go_roundw
            case rel => exact ⟨z * 2, g1, by go_num, by omega, by omega, H2.out⟩
            case measure => simp [intOf]; omega
          have hmn' : ¬ (m : Int) < (n : Int) := by omega
          have H2 : Hid (SR lo wr M n g ∧ Apart M w wr ∧ Bs slB keyA g (z * 2) n ∧ St keyA (seg f 0 n) (seg g 0 n)) := ⟨H1.out.1, H1.out.2.1, by rw [Nat.mul_comm z 2]; exact H1.out.2.2.1.fin (by rw [← HA.out, ← HMm.out]; omega), H1.out.2.2.2⟩
          go_wp2
          go_roundw
          case rel => exact ⟨z * 2, g, by go_num, by omega, by omega, H2.out⟩
          case measure => simp [intOf]; omega
      have hge : ¬ (z : Int) < (n : Int) := by omega
      go_wp2
      go_end0
      exact ⟨rfl, ⟨g, H1.out.1, H1.out.2.2.1.all (by omega), H1.out.2.2.2⟩, H1.out.2.1⟩
end Go.Proofs.YtooninmicfcfoaaGreat.StwF
namespace Go.Proofs.YtooninmicfcfoaaGreat.SrtP
open Go.RowKit
open Labs LabS Alms AlmS AlmM Over Blk App Rws PrtA Stb
open LabL (slB)

def posA (x : List Lab) (Q : List PAl) : Nat → Nat
  | 0 => 0
  | k + 1 => if slB x (nthP Q k).l = true then posA x Q k else k + 1
theorem posA_0 (x : List Lab) (Q : List PAl) : posA x Q 0 = 0 := rfl
theorem posA_yes {x : List Lab} {Q : List PAl} {k : Nat} (h : slB x (nthP Q k).l = true) : posA x Q (k + 1) = posA x Q k := if_pos h
theorem posA_no {x : List Lab} {Q : List PAl} {k : Nat} (h : slB x (nthP Q k).l = false) : posA x Q (k + 1) = k + 1 := if_neg (by rw [h]; simp)
theorem posA_le (x : List Lab) (Q : List PAl) : ∀ k, posA x Q k ≤ k
  | 0 => Nat.le_refl _
  | k + 1 => by have := posA_le x Q k; rw [posA]; split <;> omega
theorem posA_hi {x : List Lab} {Q : List PAl} : ∀ {k j : Nat}, posA x Q k ≤ j → j < k → slB x (nthP Q j).l = true
  | 0, j, _, h => by omega
  | k + 1, j, h1, h2 => by
    cases hq : slB x (nthP Q k).l with
    | false => rw [posA_no hq] at h1; omega
    | true =>
      rw [posA_yes hq] at h1
      by_cases e : j = k
      · subst e; exact hq
      · exact posA_hi h1 (by omega)
theorem posA_lo {x : List Lab} {Q : List PAl} : ∀ {k : Nat}, posA x Q k = 0 ∨ slB x (nthP Q (posA x Q k - 1)).l = false
  | 0 => .inl rfl
  | k + 1 => by
    cases hq : slB x (nthP Q k).l with
    | false => right; rw [posA_no hq]; exact hq
    | true => rw [posA_yes hq]; exact posA_lo
def midP (Q : List PAl) (y : PAl) (p : Nat) : List PAl := Q.take p ++ y :: Q.drop p
def insP (Q : List PAl) (y : PAl) : List PAl := midP Q y (posA y.l Q Q.length)
def srtA (P : List PAl) : Nat → List PAl
  | 0 => []
  | k + 1 => insP (srtA P k) (nthP P k)
def sortP (P : List PAl) : List PAl := srtA P P.length
theorem mid_len (Q : List PAl) (y : PAl) (p : Nat) : (midP Q y p).length = Q.length + 1 := by unfold midP; simp; omega
theorem srtA_len (P : List PAl) : ∀ k, (srtA P k).length = k
  | 0 => rfl
  | k + 1 => by rw [srtA, insP, mid_len, srtA_len P k]
def IsSort (P Q : List PAl) : Prop := St (fun x : PAl => x.l) P Q ∧ SrtL slB (fun x : PAl => x.l) Q
theorem IsSort.one {P Q Q' : List PAl} (h : IsSort P Q) (h' : IsSort P Q') : Q = Q' := St.one ordL (h.1.symm.trans h'.1) h.2 h'.2
theorem srtL_nth {Q : List PAl} (h : SrtL slB (fun x : PAl => x.l) Q) {i j : Nat} (hij : i < j) (hj : j < Q.length) : slB (nthP Q j).l (nthP Q i).l = false := by
  unfold SrtL at h
  rw [List.pairwise_iff_getElem] at h
  have := h i j (by omega) hj hij
  rw [nthP_eq hj, nthP_eq (by omega)]
  exact this
theorem st_app {A B : List PAl} (h : St (fun x : PAl => x.l) A B) (C : List PAl) : St (fun x : PAl => x.l) (A ++ C) (B ++ C) := ⟨h.perm.append_right C, fun k => by rw [List.filter_append, List.filter_append, h.same k]⟩
theorem mem_take {Q : List PAl} {p : Nat} {x : PAl} (h : x ∈ Q.take p) : ∃ i, i < p ∧ i < Q.length ∧ x = nthP Q i := by
  obtain ⟨i, hi, rfl⟩ := List.mem_iff_getElem.1 h
  have hl : i < p ∧ i < Q.length := by simp at hi; omega
  exact ⟨i, hl.1, hl.2, by rw [nthP_eq hl.2, List.getElem_take]⟩
theorem mem_drop {Q : List PAl} {p : Nat} {x : PAl} (h : x ∈ Q.drop p) : ∃ i, p ≤ i ∧ i < Q.length ∧ x = nthP Q i := by
  obtain ⟨i, hi, rfl⟩ := List.mem_iff_getElem.1 h
  have hl : p + i < Q.length := by simp at hi; omega
  exact ⟨p + i, by omega, hl, by rw [nthP_eq hl, List.getElem_drop]⟩
theorem ins_sort {P Q : List PAl} {y : PAl} (h : IsSort P Q) : IsSort (P ++ [y]) (insP Q y) := by
  unfold insP
  have hle := posA_le y.l Q Q.length
  have hhi : ∀ j, posA y.l Q Q.length ≤ j → j < Q.length → slB y.l (nthP Q j).l = true := fun j h1 h2 => posA_hi h1 h2
  have hlo := posA_lo (x := y.l) (Q := Q) (k := Q.length)
  generalize posA y.l Q Q.length = p at hle hhi hlo
  refine ⟨(st_app h.1 [y]).trans ?_, ?_⟩
  · have e : Q ++ [y] = Q.take p ++ (Q.drop p ++ ([y] ++ [])) := by rw [List.append_nil, ← List.append_assoc, List.take_append_drop]
    have e2 : midP Q y p = Q.take p ++ ([y] ++ (Q.drop p ++ [])) := by unfold midP; simp
    rw [e, e2]
    refine St.mid fun a ha b hb hab => ?_
    obtain ⟨i, hi, hi', rfl⟩ := mem_drop ha
    rw [List.mem_singleton.1 hb] at hab
    have := hhi i hi hi'
    rw [show (nthP Q i).l = y.l from hab, ordL.irr] at this
    cases this
  · have hs := h.2
    unfold SrtL at hs ⊢
    unfold midP
    rw [List.pairwise_append, List.pairwise_cons]
    have ylo : ∀ i, i < p → slB y.l (nthP Q i).l = false := fun i hi => by
      rcases hlo with h0 | h0
      · omega
      · by_cases e : i = p - 1
        · rw [e]; exact h0
        · exact ordL.le_trans (srtL_nth h.2 (i := i) (j := p - 1) (by omega) (by omega)) h0
    refine ⟨hs.sublist (List.take_sublist _ _), ⟨fun b hb => ?_, hs.sublist (List.drop_sublist _ _)⟩, fun a ha b hb => ?_⟩
    · obtain ⟨i, hi, hi', rfl⟩ := mem_drop hb
      exact ordL.asymm (hhi i hi hi')
    · obtain ⟨i, hi, hi', rfl⟩ := mem_take ha
      rcases List.mem_cons.1 hb with rfl | hb
      · exact ylo i hi
      · obtain ⟨j, hj, hj', rfl⟩ := mem_drop hb
        exact srtL_nth h.2 (by omega) hj'
theorem srtA_sort (P : List PAl) : ∀ k, k ≤ P.length → IsSort (P.take k) (srtA P k)
  | 0, _ => ⟨by rw [List.take_zero, srtA]; exact St.refl _, List.Pairwise.nil⟩
  | k + 1, h => by
    rw [srtA, takeP_up (by omega)]
    exact ins_sort (srtA_sort P k (by omega))
theorem sort_is (P : List PAl) : IsSort P (sortP P) := by have := srtA_sort P P.length (Nat.le_refl _); rwa [List.take_length] at this
theorem sort_one {P Q : List PAl} (h : IsSort P Q) : Q = sortP P := h.one (sort_is P)
theorem sort_perm (P : List PAl) : P.Perm (sortP P) := (sort_is P).1.perm
theorem flatA_app (p q : List ARow) : flatA (p ++ q) = flatA p ++ flatA q := by
  induction p with
  | nil => rfl
  | cons x p ih => rw [List.cons_append, flatA, ih, flatA, List.append_assoc]
theorem flatA_take : ∀ (p : List ARow) (k : Nat), (flatA p).take (k * 4) = flatA (p.take k)
  | p, 0 => by simp [flatA]
  | [], k + 1 => by simp [flatA]
  | x :: p, k + 1 => by
    have e : (k + 1) * 4 = k * 4 + 1 + 1 + 1 + 1 := by omega
    rw [e, flatA, rowV, List.take_succ_cons, flatA, rowV]
    simp only [List.cons_append, List.nil_append, List.take_succ_cons]
    rw [flatA_take p k]
theorem flatA_drop : ∀ (p : List ARow) (k : Nat), (flatA p).drop (k * 4) = flatA (p.drop k)
  | p, 0 => by simp
  | [], k + 1 => by simp [flatA]
  | x :: p, k + 1 => by
    have e : (k + 1) * 4 = k * 4 + 1 + 1 + 1 + 1 := by omega
    rw [e, flatA, rowV]
    simp only [List.cons_append, List.nil_append, List.drop_succ_cons]
    rw [flatA_drop p k]
theorem ab_flat {lo : Nat} {w : World} {v : Value} {rs : List ARow} (h : w.ownsRow lo 29 4 v rs.length (flatA rs)) (h0 : 0 < rs.length) (hrows : ∀ x ∈ rs, OwnA lo w x) (hne : rs.Pairwise fun x y => x.1 ≠ y.1) : ∃ M c, v = .slice (some ⟨M, 0, none⟩) rs.length c ∧ AB lo w M c rs := by
  rcases h.2 with ⟨_, e⟩ | ⟨g, cap, cur, e, hb, hgb, hc, hm, hz, ht⟩
  · omega
  · refine ⟨g, cap, e, hb, ⟨hc, hm⟩, ⟨cur, hgb, hz, fun i hi => ?_⟩, hrows, hne⟩
    refine (flatA_four rs i hi).congr fun k _ hk => ?_
    show cur[k]? = (flatA rs)[k]?
    rw [← ht, List.getElem?_take_of_lt (by omega)]; simp
end Go.Proofs.YtooninmicfcfoaaGreat.SrtP
namespace Go.Proofs.YtooninmicfcfoaaGreat.StwG
open Go.RowKit
open Labs LabS Alms AlmS AlmM Over Blk App Rws ChnI ChnC Stb
open LabL (slB)
open Go.Proofs.YtooninmicfcfoaaGreat.Mark (Apart)
open StrB (retB)
open StwA
open StwF
open SrtP (IsSort)
theorem stableFunc_any (M b0 cap lo n : Nat) (f : Nat → ARow) (w : World) (hS : SR lo w M n f) (hn : n ≤ 2097152) (hc : w.cell? ⟨b0, 0, none⟩ = some (.func (.func 100) #[] #[])) (hb0 : b0 < w.heap.size) (hM : b0 ≠ M) :
    Calls Tryz.prog 141 #[.slice (some ⟨M, 0, none⟩) n cap, .func (.func 142) #[] #[.pointer (some ⟨b0, 0, none⟩)]] w fun e w' => e = .returned (.tuple #[]) ∧ Sx lo w M n f w' := by
  have H : Hid (Calls Tryz.prog 171 #[.slice (some ⟨M, 0, none⟩) n cap, .int .i64 n, .func (.func 142) #[] #[.pointer (some ⟨b0, 0, none⟩)]] w fun e w' => e = .returned (.tuple #[]) ∧ Sx lo w M n f w') := stable_any M b0 cap lo n f w hS hn hc hb0 hM
  clear hS hc
  go_enter Tryz.func141, Tryz.ntmps141
  go_wp2_with fail
  refine H.out.mono ?_
  rintro e w1 ⟨rfl, hE⟩
  have HE : Hid (Sx lo w M n f w1) := hE
  clear hE H
  go_wp2
  go_end0
  exact ⟨rfl, HE.out⟩
theorem infoK : (Tryz.prog.info? 29).map (·.size) = some 4 := by kernel_rfl
set_option maxHeartbeats 800000 in
theorem copied_any (M c lo : Nat) (rs : List ARow) (w : World) (N : Nat) (hN : N = w.heap.size) (h : AB lo w M c rs) (hl : rs.length ≤ 1048576) :
    Calls Tryz.prog 140 #[.slice (some ⟨M, 0, none⟩) rs.length c] w fun e w' => e = .returned (.slice (some ⟨N, 0, none⟩) rs.length rs.length) ∧ Below N w w' ∧ Blk w' N (PrtA.flatA rs).toArray 29 := by
  subst hN
  have HR : Hid (AB lo w M c rs) := h
  clear h
  have hmk := make_k (P := Tryz.prog) 40 29 (.agg #[.slice none 0 0, .int .i64 0, .int .i64 0, .string ByteArray.empty]) 4 56 Tryz.underlying40 infoA .i64 .i64 rs.length (by omega) (by omega)
  go_enter Tryz.func140, Tryz.ntmps140
  go_wp2_with (refine CopyK.wpList_copy_k (by rfl) _ _ 40 40 (by rfl) 29 4 Tryz.underlying40 infoK w.heap.size rs.length rs.length c (some ⟨M, 0, none⟩) (by rfl) (by rfl) (madeCells #[.slice none 0 0, .int .i64 0, .int .i64 0, .string ByteArray.empty] (rs.length * 4)) 29 ?c1 ?c2 (PrtA.flatA rs) (PrtA.flatA_len rs) ?c3 (PrtA.flatA_one rs) w.heap.size _ (Below.refl _ _) (Nat.le_refl _) ?_)
  case c1 => exact Blk.new_at rfl
  case c2 => simp [size_madeCells]
  case c3 => exact .inr ⟨⟨M, 0, none⟩, rfl, PrtA.flatA_news (HR.out.grow (Go.Joins.below_alloc1 w _))⟩
  intro w2 hB2 hb2
  have HB2 : Hid (Blk w2 w.heap.size (PrtA.flatA rs).toArray 29) := hB2
  have HW2 : Hid (Below w.heap.size w w2) := ((Below.refl _ _).alloc (Nat.le_refl _) _).trans hb2
  clear hB2 hb2 hmk
  go_wp2
  go_ret
  exact ⟨rfl, HW2.out, HB2.out⟩
theorem seg_nth (rs : List ARow) : seg (nthA rs) 0 rs.length = rs := by
  apply List.ext_getElem?
  intro i
  by_cases h : i < rs.length
  · rw [seg_get h, Nat.zero_add, nthA_eq h]; simp [h]
  · rw [List.getElem?_eq_none (by rw [seg_len]; omega), List.getElem?_eq_none (by omega)]
theorem sr_ab {lo : Nat} {w : World} {M n : Nat} {g : Nat → ARow} (h : SR lo w M n g) (hlo : lo ≤ M) (hn : n ≤ maxLen) (hne : (seg g 0 n).Pairwise fun x y => x.1 ≠ y.1) : AB lo w M n (seg g 0 n) := by
  obtain ⟨cur, h1, h2, h3⟩ := h.outer
  have hnth : ∀ i, i < n → nthA (seg g 0 n) i = g i := fun i hi => by
    have := seg_get (f := g) (a := 0) hi
    rw [nthA_eq (by rw [seg_len]; exact hi)]
    rw [List.getElem?_eq_getElem (by rw [seg_len]; exact hi), Nat.zero_add] at this
    exact Option.some.inj this
  refine ⟨hlo, by rw [seg_len]; exact ⟨Nat.le_refl _, hn⟩, ⟨cur, h1, h2, fun i hi => ?_⟩, fun x hx => ?_, hne⟩
  · rw [seg_len] at hi
    rw [hnth i hi]; exact h3 i hi
  · obtain ⟨i, _, hi, rfl⟩ := seg_mem hx
    exact h.rows i (by omega)
theorem pw_perm {l m : List ARow} (h : l.Perm m) (hp : l.Pairwise fun x y => x.1 ≠ y.1) : m.Pairwise fun x y => x.1 ≠ y.1 := (List.Perm.pairwise_iff (fun {_ _} h => Ne.symm h) h).1 hp
theorem st_pals {rs rs' : List ARow} (h : St keyA rs rs') : St (fun x : PAl => x.l) (pals rs) (pals rs') := ⟨h.perm.map _, fun k => by
  unfold pals
  rw [List.filter_map, List.filter_map]
  exact congrArg _ (h.same k)⟩
theorem srt_pals {rs : List ARow} (h : SrtL slB keyA rs) : SrtL slB (fun x : PAl => x.l) (pals rs) := by
  unfold SrtL pals
  rw [List.pairwise_map]
  exact h
set_option maxHeartbeats 1600000 in
theorem sorted_any (M c lo : Nat) (rs : List ARow) (w : World) (h : AB lo w M c rs) (hl : rs.length ≤ 1048576) :
    Calls Tryz.prog 99 #[.slice (some ⟨M, 0, none⟩) rs.length c, .func (.func 100) #[] #[]] w fun e w' => (∃ N rs', e = .returned (.slice (some ⟨N, 0, none⟩) rs'.length rs'.length) ∧ AB lo w' N rs'.length rs' ∧ IsSort (pals rs) (pals rs') ∧ w.heap.size < N) ∧ Below w.heap.size w w' := by
  have HR : Hid (AB lo w M c rs) := h
  clear h
  go_enter Tryz.func99, Tryz.ntmps99
  go_wp2_with fail
  refine (copied_any M c lo rs _ (w.heap.size + 1) (by simp) (HR.out.grow (Go.Joins.below_alloc1 w _)) hl).mono ?_
  rintro e w2 ⟨rfl, hb2, hB2⟩
  have HW2 : Hid (Below w.heap.size w w2) := ((Below.refl _ _).alloc (Nat.le_refl _) _).trans (hb2.mono (by simp))
  have hc2 : w2.cell? ⟨w.heap.size, 0, none⟩ = some (.func (.func 100) #[] #[]) := by rw [hb2.cell (by simp)]; simp
  have hS2 : SR lo w2 (w.heap.size + 1) rs.length (nthA rs) := ⟨⟨_, hB2, by simp [PrtA.flatA_len], fun i hi => by have := PrtA.flatA_four rs i hi; simpa using this⟩, fun i hi => (HR.out.rows _ (nthA_mem hi)).grow HW2.out⟩
  have HS : Hid (Calls Tryz.prog 141 #[.slice (some ⟨w.heap.size + 1, 0, none⟩) rs.length rs.length, .func (.func 142) #[] #[.pointer (some ⟨w.heap.size, 0, none⟩)]] w2 fun e w' => e = .returned (.tuple #[]) ∧ Sx lo w2 (w.heap.size + 1) rs.length (nthA rs) w') := stableFunc_any (w.heap.size + 1) w.heap.size rs.length lo rs.length (nthA rs) w2 hS2 (by omega) hc2 (by have := hB2.lt; omega) (by omega)
  clear hS2 hc2 hB2 hb2
  go_wp2_with fail
  refine HS.out.mono ?_
  rintro e w3 ⟨rfl, hD⟩
  obtain ⟨⟨g, hS3, hT3, hP3⟩, hA3⟩ := hD
  rw [seg_nth] at hP3
  have HAB : Hid (AB lo w3 (w.heap.size + 1) rs.length (seg g 0 rs.length) ∧ IsSort (pals rs) (pals (seg g 0 rs.length))) := ⟨sr_ab hS3 (by have := HR.out.at'; have := HR.out.lt; omega) (by unfold maxLen; omega) (pw_perm hP3.perm HR.out.ne), st_pals hP3, srt_pals (srt_seg hT3)⟩
  have HL : Hid ((seg g 0 rs.length).length = rs.length) := seg_len _ _ _
  have HW3 : Hid (Below w.heap.size w w3) := HW2.out.trans (hA3.low (by omega) HW2.out.size)
  clear hS3 hT3 hP3 hA3 HS
  go_wp2
  go_ret
  exact ⟨⟨w.heap.size + 1, seg g 0 rs.length, by rw [HL.out]; rfl, by rw [HL.out]; exact HAB.out.1, HAB.out.2, by omega⟩, HW3.out⟩
end Go.Proofs.YtooninmicfcfoaaGreat.StwG
namespace Go.Proofs.YtooninmicfcfoaaGreat.L8S
open Go.RowKit
open Labs LabS Alms AlmS AlmM Over Blk App Rws ChnI ChnC PrtA Stb SrtP
open LabL (slB)
theorem if_slice {p : Prop} [Decidable p] (x y : Addr) (n c : Nat) : Value.slice (if p then some x else some y) n c = .slice (some (if p then x else y)) n c := by split <;> rfl
theorem bel1 (w : World) (o : Obj) : Below w.heap.size w (w.alloc o).drew := ((Below.refl _ _).alloc (Nat.le_refl _) _).drew
theorem bel2 (w : World) (o o' : Obj) : Below w.heap.size w ((w.alloc o).alloc o').drew := (((Below.refl _ _).alloc (Nat.le_refl _) _).alloc (by simp) _).drew
theorem own1 (w : World) : (w.alloc (.cells #[] 29)).drew.ownsRow w.heap.size 29 4 (.slice (some ⟨w.heap.size, 0, none⟩) 0 0) 0 [] := own_empty (Blk.new _ _ _).drew (Nat.le_refl _)
theorem own2 (w : World) (o : Obj) : ((w.alloc (.cells #[] 29)).alloc o).drew.ownsRow w.heap.size 29 4 (.slice (some ⟨w.heap.size, 0, none⟩) 0 0) 0 [] := own_empty ((Blk.new _ _ _).alloc _).drew (Nat.le_refl _)
theorem own3 (w : World) (o : Obj) : ((w.alloc o).alloc (.cells #[] 29)).drew.ownsRow w.heap.size 29 4 (.slice (some ⟨w.heap.size + 1, 0, none⟩) 0 0) 0 [] := own_empty (Blk.new_at (by simp)).drew (by omega)
theorem news1 {lo : Nat} {w : World} {g c : Nat} {os : List ARow} (h : AB lo w g c os) (k : Nat) : ∀ W, Below w.heap.size w W → ∀ j u, (flatA (os.take k))[j]? = some u → W.cell? ((⟨g, 0, none⟩ : Addr).add j) = some u := fun W hb j u hj => by
  rw [← flatA_take, List.getElem?_take] at hj
  split at hj
  · exact flatA_news (h.grow hb) j u hj
  · cases hj
theorem news3 {lo : Nat} {w : World} {g c : Nat} {os : List ARow} (h : AB lo w g c os) (k : Nat) : ∀ W, Below w.heap.size w W → ∀ j u, (flatA (os.drop k))[j]? = some u → W.cell? ((⟨g, k * 4, none⟩ : Addr).add j) = some u := fun W hb j u hj => by
  rw [← flatA_drop, List.getElem?_drop] at hj
  have ea : (⟨g, k * 4, none⟩ : Addr).add j = (⟨g, 0, none⟩ : Addr).add (k * 4 + j) := by by_cases e : j = 0 <;> by_cases e' : k * 4 + j = 0 <;> simp [Addr.add, e] <;> omega
  rw [ea]
  exact flatA_news (h.grow hb) _ u hj
theorem news4 {lo : Nat} {w : World} {g c : Nat} {os : List ARow} (h : AB lo w g c os) (k : Nat) (hk : k ≤ os.length) (hc : os.length ≤ c) : ∀ W, Below w.heap.size w W → ∀ j u, (flatA (os.drop k))[j]? = some u → W.cell? ((if c = k then (⟨g, 0, none⟩ : Addr) else ⟨g, k * 4, none⟩).add j) = some u := fun W hb j u hj => by
  by_cases e : c = k
  · have : os.drop k = [] := List.drop_eq_nil_of_le (by omega)
    rw [this] at hj
    simp [flatA] at hj
  · rw [if_neg e]
    exact news3 h k W hb j u hj
structure Nx (w wr : World) (v : Value) (os : List ARow) : Prop where
  ex : ∃ g c, v = .slice (some ⟨g, 0, none⟩) os.length c ∧ AB w.heap.size wr g c os
  low : Below w.heap.size w wr
theorem Nx.of {w w2 w5 : World} {v3 : Value} {g c i k : Nat} {os : List ARow} {x : ARow} (h : AB w.heap.size w2 g c os) (hx : OwnA w.heap.size w2 x) (hb : Below w.heap.size w w2) (hl : os.length = i) (hne : ∀ y ∈ os, y.1 ≠ x.1)
    (ho : w5.ownsRow w2.heap.size 29 4 v3 (0 + k + 1 + (i - k)) ([] ++ flatA (os.take k) ++ rowV x ++ flatA (os.drop k))) (hb5 : Below w2.heap.size w2 w5) (hk : k ≤ i) : Nx w w5 v3 (os.take k ++ x :: os.drop k) := by
  have en : 0 + k + 1 + (i - k) = (os.take k ++ x :: os.drop k).length := by simp; omega
  have el : [] ++ flatA (os.take k) ++ rowV x ++ flatA (os.drop k) = flatA (os.take k ++ x :: os.drop k) := by
    rw [flatA_app, flatA, List.nil_append, List.append_assoc]
  rw [en, el] at ho
  refine ⟨ab_flat (own_mono ho hb.size) (by simp; omega) (fun y hy => ?_) ?_, grow_on hb hb5⟩
  · rcases List.mem_append.1 hy with hy | hy
    · exact (h.rows y (List.mem_of_mem_take hy)).grow hb5
    · rcases List.mem_cons.1 hy with rfl | hy
      · exact hx.grow hb5
      · exact (h.rows y (List.mem_of_mem_drop hy)).grow hb5
  · rw [List.pairwise_append, List.pairwise_cons]
    have hp := h.ne
    rw [← List.take_append_drop k os, List.pairwise_append] at hp
    refine ⟨hp.1, ⟨fun y hy => (hne y (List.mem_of_mem_drop hy)).symm, hp.2.1⟩, fun a ha b hb => ?_⟩
    rcases List.mem_cons.1 hb with rfl | hb
    · exact hne a (List.mem_of_mem_take ha)
    · exact hp.2.2 a ha b hb
theorem pals_mid (os : List ARow) (x : ARow) (k : Nat) : pals (os.take k ++ x :: os.drop k) = midP (pals os) x.2.2 k := by unfold pals midP; simp [List.map_take, List.map_drop]
set_option maxRecDepth 100000 in
set_option maxHeartbeats 6400000 in
theorem l8Sort_any (a : Option Addr) (cap : Nat) (P : List PAl) (w : World) (hr : RdN w a P) (hl : P.length ≤ 1048576) (hs : LenM P) :
    Calls Tryz.prog 106 #[.slice a P.length cap] w fun e w' => (∃ M c rs, e = .returned (.slice (some ⟨M, 0, none⟩) rs.length c) ∧ AB w.heap.size w' M c rs ∧ pals rs = sortP P) ∧ Below w.heap.size w w' := by
  have HR : Hid (RdN w a P ∧ LenM P) := ⟨hr, hs⟩
  clear hr hs
  go_enter Tryz.func106, Tryz.ntmps106
  go_wp2
  go_loopw [3, 4] (fun v i w' => ∃ (k : Nat) (os : List ARow), i = .int .i64 k ∧ k ≤ P.length ∧ os.length = k ∧ pals os = srtA P k ∧ Nx w w' v os) (fun _ i _ => P.length - (intOf i).toNat)
  case atStart => exact ⟨0, [], rfl, Nat.zero_le _, rfl, rfl, ⟨⟨w.heap.size, 0, rfl, AB.nil (Blk.new _ _ _) (Nat.le_refl _)⟩, Go.Joins.below_alloc1 w _⟩⟩
  case round =>
    obtain ⟨i, os, rfl, hi, hol, hop, ⟨⟨g, c, rfl, hO⟩, hB⟩⟩ := hrel
    have HO : Hid (AB w.heap.size wr g c os ∧ Below w.heap.size w wr) := ⟨hO, hB⟩
    have HP : Hid (pals os = srtA P i) := hop
    have HLn : Hid (os.length = i) := hol
    have hci : i ≤ c := by have := hO.cap.1; omega
    have hcm : c ≤ 2 ^ 63 - 1 := hO.cap.2
    rw [hol]
    clear hO hB hop hol
    by_cases hlt : i < P.length
    · have hlt' : (i : Int) < (P.length : Int) := by omega
      obtain ⟨b, off, rfl, hb, gx, ox, cp, hat⟩ := (HR.out.1.below HO.out.2).get hlt
      have h2 := hat.c0
      have h3 := hat.c1
      have h4 := hat.c2
      have h5 := hat.c3
      have HC : Hid (Calls Tryz.prog 73 #[.agg #[.slice (some ⟨gx, ox, none⟩) (nthP P i).l.length cp, .int .i64 (nthP P i).s, .int .i64 (nthP P i).e, .string (nthP P i).n]] wr fun r w' => (∃ Mx c, r = .returned (.agg #[.slice (some ⟨Mx, 0, none⟩) (nthP P i).l.length c, .int .i64 (nthP P i).s, .int .i64 (nthP P i).e, .string (nthP P i).n]) ∧ LabR.Own wr w' Mx (nthP P i).l) ∧ Below wr.heap.size wr w') := copyS_any _ _ _ _ _ _ _ wr hat.reads (HR.out.2 i hlt)
      clear hat
      go_wp2_with fail
      refine HC.out.mono ?_
      rintro e w1 ⟨⟨Mx, cx, rfl, hOx⟩, hb1⟩
      have HO1 : Hid (AB w.heap.size w1 g c os ∧ Below w.heap.size w w1) := ⟨HO.out.1.grow hb1, grow_on HO.out.2 hb1⟩
      have HOX1 : Hid (OwnA w.heap.size w1 ((Mx, cx, nthP P i) : ARow) ∧ wr.heap.size ≤ Mx) := ⟨(own_of_copy hOx (HR.out.2 i hlt)).down HO.out.2.size, hOx.1⟩
      have HNx : Hid (∀ y ∈ os, y.1 ≠ ((Mx, cx, nthP P i) : ARow).1) := fun y hy => by have h1 := (HO.out.1.rows y hy).lt; have h2 := HOX1.out.2; show y.1 ≠ Mx; omega
      clear hb1 hOx h2 h3 h4 h5 HC
      obtain ⟨W1, hW1⟩ : ∃ W1, w1.alloc (.cells #[.slice (some ⟨Mx, 0, none⟩) (nthP P i).l.length cx, .int .i64 (nthP P i).s, .int .i64 (nthP P i).e, .string (nthP P i).n] 29) = W1 := ⟨_, rfl⟩
      have H1 : Hid (AB w.heap.size W1 g c os ∧ Below w.heap.size w W1 ∧ Blk W1 w1.heap.size #[.slice (some ⟨Mx, 0, none⟩) (nthP P i).l.length cx, .int .i64 (nthP P i).s, .int .i64 (nthP P i).e, .string (nthP P i).n] 29 ∧ OwnA w.heap.size W1 ((Mx, cx, nthP P i) : ARow)) := by
        rw [← hW1]
        have hb := Go.Joins.below_alloc1 w1 (.cells #[.slice (some ⟨Mx, 0, none⟩) (nthP P i).l.length cx, .int .i64 (nthP P i).s, .int .i64 (nthP P i).e, .string (nthP P i).n] 29)
        exact ⟨HO1.out.1.grow hb, grow_on HO1.out.2 hb, Blk.new _ _ _, HOX1.out.1.grow hb⟩
      obtain ⟨X, hX⟩ : ∃ X, w1.heap.size = X := ⟨_, rfl⟩
      rw [hX] at H1
      go_upto_region 6 with fail
      try rw [hW1]
      try rw [hX]
      clear hW1 hX HO HO1 HOX1
      go_wp2
      go_loopw [6] (fun v w' => ∃ k : Nat, v = .int .i64 k ∧ k ≤ i ∧ posA (nthP P i).l (srtA P i) i = posA (nthP P i).l (srtA P i) k ∧ Below W1.heap.size W1 w') (fun v _ => (intOf v).toNat)
      case atStart => exact ⟨i, rfl, Nat.le_refl _, rfl, Below.refl _ _⟩
      case round =>
        obtain ⟨k, rfl, hk, hp, hbw⟩ := hrel
        have HPo : Hid (posA (nthP P i).l (srtA P i) i = posA (nthP P i).l (srtA P i) k) := hp
        have HO2 : Hid (AB w.heap.size wr g c os) := H1.out.1.grow hbw
        have HBr : Hid (Below w.heap.size w wr) := grow_on H1.out.2.1 hbw
        have HXB : Hid (Blk wr X #[.slice (some ⟨Mx, 0, none⟩) (nthP P i).l.length cx, .int .i64 (nthP P i).s, .int .i64 (nthP P i).e, .string (nthP P i).n] 29) := H1.out.2.2.1.grow hbw
        have HOX : Hid (OwnA w.heap.size wr ((Mx, cx, nthP P i) : ARow) ∧ True) := ⟨H1.out.2.2.2.grow hbw, trivial⟩
        have HBW : Hid (Below W1.heap.size W1 wr) := hbw
        have hgr : g < wr.heap.size := HO2.out.lt
        have hXr : X < wr.heap.size := HXB.out.lt
        have hne := Grown.some wr
        have x0 := fun q : Grown wr => q.cell hXr (HXB.out.cell 0)
        clear hp hbw
        by_cases hk0 : k = 0
        · subst hk0
          go_wp2
          refine wp_over (z := wr) (by kernel_rfl) (by kernel_rfl) (Below.refl _ _) ?_
          repeat (go_big_quiet_step (fail))
          refine wpQuiet_nil ?_
          intro w2 hw2
          have hb2 := over_bel hw2
          have HE : Hid (pals (os.take 0 ++ ((Mx, cx, nthP P i) : ARow) :: os.drop 0) = srtA P (i + 1)) := by
            show _ = _
            rw [pals_mid, srtA, insP, srtA_len, HPo.out, posA_0, HP.out]
          have HO3 : Hid (AB w.heap.size w2 g c os) := HO2.out.grow hb2
          have HX3 : Hid (Blk w2 X #[.slice (some ⟨Mx, 0, none⟩) (nthP P i).l.length cx, .int .i64 (nthP P i).s, .int .i64 (nthP P i).e, .string (nthP P i).n] 29) := HXB.out.grow hb2
          have HB3 : Hid (Below w.heap.size w w2) := grow_on HBr.out hb2
          have HW3 : Hid (OwnA w.heap.size w2 ((Mx, cx, nthP P i) : ARow)) := HOX.out.1.grow hb2
          have c0 : w2.cell? ⟨X, 0, none⟩ = some (.slice (some ⟨Mx, 0, none⟩) (nthP P i).l.length cx) := HX3.out.cell 0
          have c1 : w2.cell? ⟨X, 1, none⟩ = some (.int .i64 (nthP P i).s) := HX3.out.cell 1
          have c2 : w2.cell? ⟨X, 2, none⟩ = some (.int .i64 (nthP P i).e) := HX3.out.cell 2
          have c3 : w2.cell? ⟨X, 3, none⟩ = some (.string (nthP P i).n) := HX3.out.cell 3
          have hbb : X < w2.heap.size := HX3.out.lt
          have hkc : ((0 : Nat) : Int) ≤ (c : Int) := by omega
          have hki : ((0 : Nat) : Int) ≤ (i : Int) := by omega
          have hic : (i : Int) ≤ (c : Int) := by omega
          obtain ⟨i0, hi0, hz0, hz1, hz2⟩ := info_parts infoA
          have HI : Hid (Tryz.prog.info? 29 = some i0) := hi0
          have Z0 : Hid (i0.zero = some (.agg #[.slice none 0 0, .int .i64 0, .int .i64 0, .string ByteArray.empty])) := hz0
          have Z1 : Hid (i0.size = 4) := hz1
          have Z2 : Hid (i0.bytes = 56) := hz2
          have N1 := news1 HO3.out 0
          have N3 := news3 HO3.out 0
          have N4 := news4 HO3.out 0 (by rw [HLn.out]; omega) (by rw [HLn.out]; omega)
          clear hw2 hne hb2 x0 hcm hi0 hz0 hz1 hz2
          go_wp2
          go_region_held3 (fun w' => w'.cell? ⟨X, 0, none⟩ = some (.slice (some ⟨Mx, 0, none⟩) (nthP P i).l.length cx) ∧ w'.cell? ⟨X, 1, none⟩ = some (.int .i64 (nthP P i).s) ∧ w'.cell? ⟨X, 2, none⟩ = some (.int .i64 (nthP P i).e) ∧ w'.cell? ⟨X, 3, none⟩ = some (.string (nthP P i).n)) (first | go_keep | (go_split_ands; exact ⟨((bl1).cell hbb).trans c0, ((bl1).cell hbb).trans c1, ((bl1).cell hbb).trans c2, ((bl1).cell hbb).trans c3⟩) | (go_split_ands; exact ⟨((bl1.alloc bl1.size _).cell hbb).trans c0, ((bl1.alloc bl1.size _).cell hbb).trans c1, ((bl1.alloc bl1.size _).cell hbb).trans c2, ((bl1.alloc bl1.size _).cell hbb).trans c3⟩) | (go_split_ands; exact ⟨((bl2).cell hbb).trans c0, ((bl2).cell hbb).trans c1, ((bl2).cell hbb).trans c2, ((bl2).cell hbb).trans c3⟩) | (go_split_ands; exact ⟨((bl3).cell hbb).trans c0, ((bl3).cell hbb).trans c1, ((bl3).cell hbb).trans c2, ((bl3).cell hbb).trans c3⟩)) (first | ((refine step_app (by rfl) _ _ 40 (by rfl) 29 i0 _ 4 56 Tryz.underlying40 HI.out Z0.out Z1.out Z2.out (by rfl) (by decide) w2 bl2 v2 _ _ (by rfl) hown2 ⟨g, 0 * 4, none⟩ (i - 0) (c - 0) (flatA (os.drop 0)) (by rfl) (by rw [flatA_len, List.length_drop, HLn.out]) (N3 _ bl2) (flatA_one _) (by unfold maxLen; omega) (by omega) ?_); intro v3 w5 hown3 bl3 hg3 hat3) | ((refine step_app (by rfl) _ _ 40 (by rfl) 29 i0 _ 4 56 Tryz.underlying40 HI.out Z0.out Z1.out Z2.out (by rfl) (by decide) w2 bl2 v2 _ _ (by rfl) hown2 (if c = 0 then (⟨g, 0, none⟩ : Addr) else ⟨g, 0 * 4, none⟩) (i - 0) (c - 0) (flatA (os.drop 0)) (by exact if_slice _ _ _ _) (by rw [flatA_len, List.length_drop, HLn.out]) (N4 _ bl2) (flatA_one _) (by unfold maxLen; omega) (by omega) ?_); intro v3 w5 hown3 bl3 hg3 hat3) | ((refine step_app (by rfl) _ _ 40 (by rfl) 29 i0 _ 4 56 Tryz.underlying40 HI.out Z0.out Z1.out Z2.out (by rfl) (by decide) w2 (bl1.alloc bl1.size _) v1 _ _ (by rfl) (hown1.alloc _) ⟨w3.heap.size, 0, none⟩ 1 1 [.slice (some ⟨Mx, 0, none⟩) (nthP P i).l.length cx, .int .i64 (nthP P i).s, .int .i64 (nthP P i).e, .string (nthP P i).n] (by rfl) (by rfl) (blk_news (Blk.new w3 _ _)) (row_one ((Mx, cx, nthP P i) : ARow)) (by unfold maxLen; omega) (by omega) ?_); intro v2 w4 hown2 bl2 hg2 hat2) | ((refine step_app (by rfl) _ _ 40 (by rfl) 29 i0 _ 4 56 Tryz.underlying40 HI.out Z0.out Z1.out Z2.out (by rfl) (by decide) w2 bl1 v1 _ _ (by rfl) hown1 ⟨w2.heap.size + 1, 0, none⟩ 1 1 [.slice (some ⟨Mx, 0, none⟩) (nthP P i).l.length cx, .int .i64 (nthP P i).s, .int .i64 (nthP P i).e, .string (nthP P i).n] (by rfl) (by rfl) (blk_news (blk_far (M := w2.heap.size + 1) (Blk.new_at (by simp)).drew hg1 (fun e => absurd (show w2.heap.size + 1 = w2.heap.size from Option.some.inj e) (by omega)))) (row_one ((Mx, cx, nthP P i) : ARow)) (by unfold maxLen; omega) (by omega) ?_); intro v2 w4 hown2 bl2 hg2 hat2) | ((refine step_app (by rfl) _ _ 40 (by rfl) 29 i0 _ 4 56 Tryz.underlying40 HI.out Z0.out Z1.out Z2.out (by rfl) (by decide) w2 bl1 v1 _ _ (by rfl) hown1 ⟨w2.heap.size, 0, none⟩ 1 1 [.slice (some ⟨Mx, 0, none⟩) (nthP P i).l.length cx, .int .i64 (nthP P i).s, .int .i64 (nthP P i).e, .string (nthP P i).n] (by rfl) (by rfl) (blk_news (blk_far (M := w2.heap.size) ((Blk.new _ _ _).alloc _).drew hg1 (fun e => absurd (show w2.heap.size = w2.heap.size + 1 from Option.some.inj e) (by omega)))) (row_one ((Mx, cx, nthP P i) : ARow)) (by unfold maxLen; omega) (by omega) ?_); intro v2 w4 hown2 bl2 hg2 hat2) | ((refine step_app (by rfl) _ _ 40 (by rfl) 29 i0 _ 4 56 Tryz.underlying40 HI.out Z0.out Z1.out Z2.out (by rfl) (by decide) w2 (by first | exact bel1 _ _ | exact bel2 _ _ _) _ 0 [] (by rfl) (by first | exact own1 _ | exact own2 _ _ | exact own3 _ _) ⟨g, 0, none⟩ 0 c (flatA (os.take 0)) (by rfl) (by rw [flatA_len, List.length_take, HLn.out]; omega) (by first | exact N1 _ (bel1 _ _) | exact N1 _ (bel2 _ _ _)) (flatA_one _) (by unfold maxLen; omega) (by omega) ?_); intro v1 w3 hown1 bl1 hg1 hat1))
          all_goals (have HO5 : Hid (Nx w w5 v3 (os.take 0 ++ ((Mx, cx, nthP P i) : ARow) :: os.drop 0)) := Nx.of HO3.out HW3.out HB3.out HLn.out HNx.out hown3 bl3 (by omega))
          all_goals (have HL5 : Hid ((os.take 0 ++ ((Mx, cx, nthP P i) : ARow) :: os.drop 0).length = i + 1) := by show _ = _; have := HLn.out; simp; omega)
          all_goals clear hown1 hown2 hown3 bl1 bl2 bl3 hg1 hg2 hg3 hat1 hat2 hat3 N1 N3 N4
          all_goals go_wp2
          all_goals go_roundw
          case rel => exact ⟨i + 1, os.take 0 ++ ((Mx, cx, nthP P i) : ARow) :: os.drop 0, by go_num, by omega, HL5.out, HE.out, HO5.out⟩
          case measure => simp [intOf]; omega
          case rel => exact ⟨i + 1, os.take 0 ++ ((Mx, cx, nthP P i) : ARow) :: os.drop 0, by go_num, by omega, HL5.out, HE.out, HO5.out⟩
          case measure => simp [intOf]; omega
          case rel => exact ⟨i + 1, os.take 0 ++ ((Mx, cx, nthP P i) : ARow) :: os.drop 0, by go_num, by omega, HL5.out, HE.out, HO5.out⟩
          case measure => simp [intOf]; omega
        obtain ⟨j, rfl⟩ : ∃ j, k = j + 1 := ⟨k - 1, by omega⟩
        have ek : ((j + 1 : Nat) : Int) = (j : Int) + 1 := by omega
        have hj1 : (j : Int) < (i : Int) := by omega
        have hjp : (0 : Int) < (j : Int) + 1 := by omega
        have hw : IntKind.i64.wrap (j : Int) = (j : Int) := by rw [IntKind.wrap_i64]; omega
        have hjo : j < os.length := by have := HLn.out; omega
        have hsame : nthP (srtA P i) j = (nthA os j).2.2 := by rw [← HP.out, pals_nth hjo]
        obtain ⟨cur, hcu, hcs, hc4⟩ := HO2.out.outer
        have hcell : wr.cell? ⟨g, j * 4, none⟩ = some (.slice (some ⟨(nthA os j).1, 0, none⟩) (nthA os j).2.2.l.length (nthA os j).2.1) := (hcu.cell _).trans (hc4 j hjo).1
        have x2 := fun q : Grown wr => q.cell (p := ⟨g, j * 4, none⟩) hgr hcell
        have hro := HO2.out.rows _ (nthA_mem hjo)
        have HCm : ∀ q : Grown wr, Hid (Calls Tryz.prog 146 #[.slice (some ⟨Mx, 0, none⟩) (nthP P i).l.length cx, .slice (some ⟨(nthA os j).1, 0, none⟩) (nthA os j).2.2.l.length (nthA os j).2.1] q.out fun e w' => e = .returned (.bool (slB (nthP P i).l (nthA os j).2.2.l)) ∧ Below q.out.heap.size q.out w') := fun q => (LabL.specLessS_any _ _ _ _ _ _ q.out (HOX.out.1.reads.below q.bel) (hro.reads.below q.bel) (by have := HOX.out.1.2.1; unfold maxLen; exact Nat.le_trans this (by omega)) (by have := hro.2.1; unfold maxLen; exact Nat.le_trans this (by omega))).mono fun e w' h => ⟨h.1, bel_drew h.2⟩
        clear hk0 hcu hcs hc4 hcell hro
        cases hq : slB (nthP P i).l (nthA os j).2.2.l with
        | true =>
          have HP2 : Hid (posA (nthP P i).l (srtA P i) i = posA (nthP P i).l (srtA P i) j) := HPo.out.trans (posA_yes (by rw [hsame]; exact hq))
          rw [hq] at HCm
          clear hq hsame
          rw [ek]
          go_wp2
          refine wp_over (z := wr) (by kernel_rfl) (by kernel_rfl) (Below.refl _ _) ?_
          repeat (go_big_quiet_step (first | (go_at_call 146; exact call_over (HCm _).out)))
          refine wpQuiet_nil ?_
          intro w2 hw2
          have HB2 : Hid (Below W1.heap.size W1 w2) := grow_on HBW.out (over_bel hw2)
          clear hw2 hne x0 x2 HCm
          go_wp2
          go_roundw
          case rel => exact ⟨j, by go_num, by omega, HP2.out, HB2.out⟩
          case measure => simp [intOf]
        | false =>
          have HE : Hid (pals (os.take (j + 1) ++ ((Mx, cx, nthP P i) : ARow) :: os.drop (j + 1)) = srtA P (i + 1)) := by
            show _ = _
            rw [pals_mid, srtA, insP, srtA_len, HPo.out, posA_no (by rw [hsame]; exact hq), HP.out]
          rw [hq] at HCm
          clear hq hsame
          rw [ek]
          go_wp2
          refine wp_over (z := wr) (by kernel_rfl) (by kernel_rfl) (Below.refl _ _) ?_
          repeat (go_big_quiet_step (first | (go_at_call 146; exact call_over (HCm _).out)))
          refine wpQuiet_nil ?_
          intro w2 hw2
          have hb2 := over_bel hw2
          rw [← ek]
          clear x2 HCm ek hj1 hjp hw HPo hjo
          generalize hkk : j + 1 = k at *
          clear hkk
          have HO3 : Hid (AB w.heap.size w2 g c os) := HO2.out.grow hb2
          have HX3 : Hid (Blk w2 X #[.slice (some ⟨Mx, 0, none⟩) (nthP P i).l.length cx, .int .i64 (nthP P i).s, .int .i64 (nthP P i).e, .string (nthP P i).n] 29) := HXB.out.grow hb2
          have HB3 : Hid (Below w.heap.size w w2) := grow_on HBr.out hb2
          have HW3 : Hid (OwnA w.heap.size w2 ((Mx, cx, nthP P i) : ARow)) := HOX.out.1.grow hb2
          have c0 : w2.cell? ⟨X, 0, none⟩ = some (.slice (some ⟨Mx, 0, none⟩) (nthP P i).l.length cx) := HX3.out.cell 0
          have c1 : w2.cell? ⟨X, 1, none⟩ = some (.int .i64 (nthP P i).s) := HX3.out.cell 1
          have c2 : w2.cell? ⟨X, 2, none⟩ = some (.int .i64 (nthP P i).e) := HX3.out.cell 2
          have c3 : w2.cell? ⟨X, 3, none⟩ = some (.string (nthP P i).n) := HX3.out.cell 3
          have hbb : X < w2.heap.size := HX3.out.lt
          have hkc : ((k : Nat) : Int) ≤ (c : Int) := by omega
          have hki : ((k : Nat) : Int) ≤ (i : Int) := by omega
          have hic : (i : Int) ≤ (c : Int) := by omega
          obtain ⟨i0, hi0, hz0, hz1, hz2⟩ := info_parts infoA
          have HI : Hid (Tryz.prog.info? 29 = some i0) := hi0
          have Z0 : Hid (i0.zero = some (.agg #[.slice none 0 0, .int .i64 0, .int .i64 0, .string ByteArray.empty])) := hz0
          have Z1 : Hid (i0.size = 4) := hz1
          have Z2 : Hid (i0.bytes = 56) := hz2
          have N1 := news1 HO3.out k
          have N3 := news3 HO3.out k
          have N4 := news4 HO3.out k (by rw [HLn.out]; omega) (by rw [HLn.out]; omega)
          clear hw2 hne hb2 x0 hcm hi0 hz0 hz1 hz2
          go_wp2
          go_region_held3 (fun w' => w'.cell? ⟨X, 0, none⟩ = some (.slice (some ⟨Mx, 0, none⟩) (nthP P i).l.length cx) ∧ w'.cell? ⟨X, 1, none⟩ = some (.int .i64 (nthP P i).s) ∧ w'.cell? ⟨X, 2, none⟩ = some (.int .i64 (nthP P i).e) ∧ w'.cell? ⟨X, 3, none⟩ = some (.string (nthP P i).n)) (first | go_keep | (go_split_ands; exact ⟨((bl1).cell hbb).trans c0, ((bl1).cell hbb).trans c1, ((bl1).cell hbb).trans c2, ((bl1).cell hbb).trans c3⟩) | (go_split_ands; exact ⟨((bl1.alloc bl1.size _).cell hbb).trans c0, ((bl1.alloc bl1.size _).cell hbb).trans c1, ((bl1.alloc bl1.size _).cell hbb).trans c2, ((bl1.alloc bl1.size _).cell hbb).trans c3⟩) | (go_split_ands; exact ⟨((bl2).cell hbb).trans c0, ((bl2).cell hbb).trans c1, ((bl2).cell hbb).trans c2, ((bl2).cell hbb).trans c3⟩) | (go_split_ands; exact ⟨((bl3).cell hbb).trans c0, ((bl3).cell hbb).trans c1, ((bl3).cell hbb).trans c2, ((bl3).cell hbb).trans c3⟩)) (first | ((refine step_app (by rfl) _ _ 40 (by rfl) 29 i0 _ 4 56 Tryz.underlying40 HI.out Z0.out Z1.out Z2.out (by rfl) (by decide) w2 bl2 v2 _ _ (by rfl) hown2 ⟨g, k * 4, none⟩ (i - k) (c - k) (flatA (os.drop k)) (by rfl) (by rw [flatA_len, List.length_drop, HLn.out]) (N3 _ bl2) (flatA_one _) (by unfold maxLen; omega) (by omega) ?_); intro v3 w5 hown3 bl3 hg3 hat3) | ((refine step_app (by rfl) _ _ 40 (by rfl) 29 i0 _ 4 56 Tryz.underlying40 HI.out Z0.out Z1.out Z2.out (by rfl) (by decide) w2 bl2 v2 _ _ (by rfl) hown2 (if c = k then (⟨g, 0, none⟩ : Addr) else ⟨g, k * 4, none⟩) (i - k) (c - k) (flatA (os.drop k)) (by exact if_slice _ _ _ _) (by rw [flatA_len, List.length_drop, HLn.out]) (N4 _ bl2) (flatA_one _) (by unfold maxLen; omega) (by omega) ?_); intro v3 w5 hown3 bl3 hg3 hat3) | ((refine step_app (by rfl) _ _ 40 (by rfl) 29 i0 _ 4 56 Tryz.underlying40 HI.out Z0.out Z1.out Z2.out (by rfl) (by decide) w2 (bl1.alloc bl1.size _) v1 _ _ (by rfl) (hown1.alloc _) ⟨w3.heap.size, 0, none⟩ 1 1 [.slice (some ⟨Mx, 0, none⟩) (nthP P i).l.length cx, .int .i64 (nthP P i).s, .int .i64 (nthP P i).e, .string (nthP P i).n] (by rfl) (by rfl) (blk_news (Blk.new w3 _ _)) (row_one ((Mx, cx, nthP P i) : ARow)) (by unfold maxLen; omega) (by omega) ?_); intro v2 w4 hown2 bl2 hg2 hat2) | ((refine step_app (by rfl) _ _ 40 (by rfl) 29 i0 _ 4 56 Tryz.underlying40 HI.out Z0.out Z1.out Z2.out (by rfl) (by decide) w2 bl1 v1 _ _ (by rfl) hown1 ⟨w2.heap.size + 1, 0, none⟩ 1 1 [.slice (some ⟨Mx, 0, none⟩) (nthP P i).l.length cx, .int .i64 (nthP P i).s, .int .i64 (nthP P i).e, .string (nthP P i).n] (by rfl) (by rfl) (blk_news (blk_far (M := w2.heap.size + 1) (Blk.new_at (by simp)).drew hg1 (fun e => absurd (show w2.heap.size + 1 = w2.heap.size from Option.some.inj e) (by omega)))) (row_one ((Mx, cx, nthP P i) : ARow)) (by unfold maxLen; omega) (by omega) ?_); intro v2 w4 hown2 bl2 hg2 hat2) | ((refine step_app (by rfl) _ _ 40 (by rfl) 29 i0 _ 4 56 Tryz.underlying40 HI.out Z0.out Z1.out Z2.out (by rfl) (by decide) w2 bl1 v1 _ _ (by rfl) hown1 ⟨w2.heap.size, 0, none⟩ 1 1 [.slice (some ⟨Mx, 0, none⟩) (nthP P i).l.length cx, .int .i64 (nthP P i).s, .int .i64 (nthP P i).e, .string (nthP P i).n] (by rfl) (by rfl) (blk_news (blk_far (M := w2.heap.size) ((Blk.new _ _ _).alloc _).drew hg1 (fun e => absurd (show w2.heap.size = w2.heap.size + 1 from Option.some.inj e) (by omega)))) (row_one ((Mx, cx, nthP P i) : ARow)) (by unfold maxLen; omega) (by omega) ?_); intro v2 w4 hown2 bl2 hg2 hat2) | ((refine step_app (by rfl) _ _ 40 (by rfl) 29 i0 _ 4 56 Tryz.underlying40 HI.out Z0.out Z1.out Z2.out (by rfl) (by decide) w2 (by first | exact bel1 _ _ | exact bel2 _ _ _) _ 0 [] (by rfl) (by first | exact own1 _ | exact own2 _ _ | exact own3 _ _) ⟨g, 0, none⟩ k c (flatA (os.take k)) (by rfl) (by rw [flatA_len, List.length_take, HLn.out]; omega) (by first | exact N1 _ (bel1 _ _) | exact N1 _ (bel2 _ _ _)) (flatA_one _) (by unfold maxLen; omega) (by omega) ?_); intro v1 w3 hown1 bl1 hg1 hat1))
          all_goals (have HO5 : Hid (Nx w w5 v3 (os.take k ++ ((Mx, cx, nthP P i) : ARow) :: os.drop k)) := Nx.of HO3.out HW3.out HB3.out HLn.out HNx.out hown3 bl3 (by omega))
          all_goals (have HL5 : Hid ((os.take k ++ ((Mx, cx, nthP P i) : ARow) :: os.drop k).length = i + 1) := by show _ = _; have := HLn.out; simp; omega)
          all_goals clear hown1 hown2 hown3 bl1 bl2 bl3 hg1 hg2 hg3 hat1 hat2 hat3 N1 N3 N4
          all_goals go_wp2
          all_goals go_roundw
          case rel => exact ⟨i + 1, os.take k ++ ((Mx, cx, nthP P i) : ARow) :: os.drop k, by go_num, by omega, HL5.out, HE.out, HO5.out⟩
          case measure => simp [intOf]; omega
          case rel => exact ⟨i + 1, os.take k ++ ((Mx, cx, nthP P i) : ARow) :: os.drop k, by go_num, by omega, HL5.out, HE.out, HO5.out⟩
          case measure => simp [intOf]; omega
          case rel => exact ⟨i + 1, os.take k ++ ((Mx, cx, nthP P i) : ARow) :: os.drop k, by go_num, by omega, HL5.out, HE.out, HO5.out⟩
          case measure => simp [intOf]; omega
    have hge : ¬ (i : Int) < (P.length : Int) := by omega
    have HF : Hid (pals os = sortP P) := by show _ = _; rw [HP.out]; unfold sortP; congr 1; omega
    go_wp2
    go_ret
    exact ⟨⟨g, c, os, by rw [HLn.out]; rfl, HO.out.1, HF.out⟩, HO.out.2⟩
end Go.Proofs.YtooninmicfcfoaaGreat.L8S
namespace Go.Proofs.YtooninmicfcfoaaGreat.StsA
open Go.RowKit
open Labs LabS Alms AlmS AlmM Over Blk App Rws ChnI ChnC PrtA Stb SrtP
open LabL (slB)
open ChnK Chs Prt PrtM Sts
def allT : List PPt → List PAl
  | [] => []
  | x :: S => allC x.C ++ allT S
theorem allT_app (p q : List PPt) : allT (p ++ q) = allT p ++ allT q := by
  induction p with
  | nil => rfl
  | cons x p ih => rw [List.cons_append, allT, ih, allT, List.append_assoc]
theorem allT_up {S : List PPt} {k : Nat} (h : k < S.length) : allT (S.take (k + 1)) = allT (S.take k) ++ allC (nthT S k).C := by rw [takeT_up h, allT_app]; simp [allT]
theorem allT_sum (S : List PPt) : (allT S).length + sumL (allT S) ≤ sumT S := by
  induction S with
  | nil => simp [allT, sumL]
  | cons x S ih => have := allC_sum x.C; rw [allT, sumT, sum_app, List.length_append]; omega
theorem allT_le (S : List PPt) (k : Nat) : (allT (S.take k)).length + sumL (allT (S.take k)) ≤ sumT S := Nat.le_trans (allT_sum _) (sumT_le S k)
theorem allT_mem {S : List PPt} {x : PAl} (h : x ∈ allT S) : ∃ p ∈ S, x ∈ allC p.C := by
  induction S with
  | nil => simp [allT] at h
  | cons y S ih =>
    rw [allT] at h
    rcases List.mem_append.1 h with h | h
    · exact ⟨y, by simp, h⟩
    · obtain ⟨c, hc, hx⟩ := ih h
      exact ⟨c, by simp [hc], hx⟩
theorem lenM_ab {lo : Nat} {w : World} {M c : Nat} {rs : List ARow} (h : AB lo w M c rs) : LenM (pals rs) := fun i hi => by
  rw [pals_len] at hi
  rw [pals_nth hi]; exact (h.rows _ (nthA_mem hi)).2.1
theorem sort_ab {lo : Nat} {w : World} {M c cap : Nat} {rs : List ARow} (h : AB lo w M c rs) (hl : rs.length ≤ 1048576) :
    Calls Tryz.prog 106 #[.slice (some ⟨M, 0, none⟩) rs.length cap] w fun e w' => (∃ M c rs', e = .returned (.slice (some ⟨M, 0, none⟩) rs'.length c) ∧ AB w.heap.size w' M c rs' ∧ pals rs' = sortP (pals rs)) ∧ Below w.heap.size w w' := by
  have := L8S.l8Sort_any (some ⟨M, 0, none⟩) cap (pals rs) w h.rd (by rw [pals_len]; exact hl) (lenM_ab h)
  rwa [pals_len] at this
set_option maxRecDepth 100000 in
set_option maxHeartbeats 1600000 in
theorem specAllS_any (a : Option Addr) (cap : Nat) (S : List PPt) (w : World) (hr : RdS RdN w a S) (hl : S.length ≤ 1048576) (hs : sumT S ≤ 1048576) :
    Calls Tryz.prog 47 #[.slice a S.length cap] w fun e w' => (∃ M c rs, e = .returned (.slice (some ⟨M, 0, none⟩) rs.length c) ∧ AB w.heap.size w' M c rs ∧ pals rs = sortP (allT S)) ∧ Below w.heap.size w w' := by
  have HR : Hid (RdS RdN w a S ∧ sumT S ≤ 1048576) := ⟨hr, hs⟩
  clear hr hs
  obtain ⟨i0, hi, hz0, hz1, hz2⟩ := info_parts infoA
  go_enter Tryz.func47, Tryz.ntmps47
  go_wp2
  go_loopw [3, 4] (fun v i w' => ∃ (k M c : Nat) (rs : List ARow), i = .int .i64 k ∧ k ≤ S.length ∧ v = .slice (some ⟨M, 0, none⟩) rs.length c ∧ AB w.heap.size w' M c rs ∧ pals rs = allT (S.take k) ∧ Below w.heap.size w w') (fun _ i _ => S.length - (intOf i).toNat)
  case atStart => exact ⟨0, w.heap.size, 0, [], rfl, Nat.zero_le _, rfl, AB.nil (Blk.new _ _ _) (Nat.le_refl _), rfl, Go.Joins.below_alloc1 w _⟩
  case round =>
    obtain ⟨k, M, c, rs, rfl, hk, rfl, hab, hp, hb⟩ := hrel
    have HAB : Hid (AB w.heap.size wr M c rs) := hab
    have HP : Hid (pals rs = allT (S.take k)) := hp
    have HB : Hid (Below w.heap.size w wr) := hb
    have hrl : rs.length ≤ 1048576 := by rw [← pals_len, hp]; have := allT_le S k; have := HR.out.2; omega
    clear hab hp hb
    by_cases hlt : k < S.length
    · have hlt' : (k : Int) < (S.length : Int) := by omega
      obtain ⟨b, off, ea, hb, ad, cp, hat⟩ := (HR.out.1.below stays_rn HB.out).get hlt
      cases ea
      have h2 := hat.c0
      have h3 := hat.c1
      have h4 := hat.c2
      have HRD : Hid (RdG RdN wr ad (nthT S k).C) := hat.reads
      have HSk : Hid ((nthT S k).C.length ≤ 1048576 ∧ SmallA (nthT S k).C ∧ sumC (nthT S k).C ≤ 1048576) := by have h0 := sumT_nth hlt; have h1 := HR.out.2; exact ⟨by omega, small_of (by omega), by omega⟩
      have HU : Hid (allT (S.take (k + 1)) = allT (S.take k) ++ allC (nthT S k).C ∧ (allT (S.take (k + 1))).length ≤ 1048576) := ⟨allT_up hlt, by have := allT_le S (k + 1); have := HR.out.2; omega⟩
      clear hat
      go_wp2_with fail
      refine (specAll_any _ _ ad cp (nthT S k).C wr HRD.out HSk.out.1 HSk.out.2.1 HSk.out.2.2).mono ?_
      rintro e w1 ⟨⟨Mx, cx, qs, rfl, hq, hpq⟩, hb1⟩
      have HAB1 : Hid (AB w.heap.size w1 M c rs) := HAB.out.grow hb1
      have HQ1 : Hid (AB wr.heap.size w1 Mx cx qs ∧ pals qs = allC (nthT S k).C) := ⟨hq.down (by first | exact Nat.le_refl _ | simp), hpq⟩
      have HB1 : Hid (Below w.heap.size w w1) := grow_on HB.out hb1
      have hql : rs.length + qs.length ≤ 1048576 := by
        have h1 := HU.out
        rw [h1.1, ← HP.out, ← hpq, List.length_append, pals_len, pals_len] at h1
        omega
      obtain ⟨xs, hox, hxl, hxs⟩ := HAB1.out.own
      have HOX : Hid (w1.ownsRow w.heap.size 29 4 (.slice (some ⟨M, 0, none⟩) rs.length c) rs.length xs) := hox
      have HXS : Hid (xs.length = rs.length * 4 ∧ ∀ i, i < rs.length → Four (fun k => xs[k]?) i (nthA rs i)) := ⟨hxl, hxs⟩
      clear hb1 hq hpq h2 h3 h4 hox hxl hxs
      go_wp2_with (at_builtin; refine wpList_append_own_at _ rfl _ _ 40 rfl w.heap.size 29 i0 (.agg #[.slice none 0 0, .int .i64 0, .int .i64 0, .string ByteArray.empty]) 4 56 Tryz.underlying40 hi hz0 hz1 hz2 rfl (by decide) _ _ _ rfl HOX.out ⟨Mx, 0, none⟩ qs.length _ (flatA qs) rfl (flatA_len qs) ?c1 (flatA_one _) ?c3 ?c4 ?c5 ?_)
      case c1 => exact flatA_news HQ1.out.1
      case c3 => unfold maxLen; omega
      case c4 => omega
      case c5 => exact HB1.out.size
      intro v' w2 hown hg hnil hat
      obtain ⟨M3, c3, rfl, hAB3⟩ := AB.appAll HAB1.out (fun x hx => (HQ1.out.1.rows x hx).down HB.out.size) HQ1.out.1.ne (fun y hy x hx => by have := (HAB.out.rows y hy).lt; have := (HQ1.out.1.rows x hx).1; omega) HXS.out.1 HXS.out.2 hown hg (fun e => by rw [e] at hat; simp [Value.ownBlock] at hat)
      have HAB3 : Hid (AB w.heap.size w2 M3 c3 (rs ++ qs)) := hAB3
      have HB3 : Hid (Below w.heap.size w w2) := HB1.out.grown hg HB1.out.size (fun k e => by have h : M = k := Option.some.inj e; have := HAB.out.at'; omega)
      have HP3 : Hid (pals (rs ++ qs) = allT (S.take (k + 1))) := by show _ = _; rw [pals_two, HP.out, HQ1.out.2, HU.out.1]
      have HL3 : Hid ((rs ++ qs).length = rs.length + qs.length) := by show _ = _; simp
      clear hown hg hnil hat hAB3
      go_wp2
      go_roundw
      case rel => exact ⟨k + 1, M3, c3, _, by go_num, by omega, by rw [HL3.out], HAB3.out, HP3.out, HB3.out⟩
      case measure => simp [intOf]; omega
    have hge : ¬ (k : Int) < (S.length : Int) := by omega
    have HF : Hid (pals rs = allT S) := by show _ = _; rw [HP.out]; congr 1; exact List.take_of_length_le (by omega)
    go_wp2_with fail
    refine (sort_ab HAB.out hrl).mono ?_
    rintro e w1 ⟨⟨N, cN, rs', rfl, h1, h2⟩, hb1⟩
    have HE : Hid (AB w.heap.size w1 N cN rs' ∧ pals rs' = sortP (allT S) ∧ Below w.heap.size w w1) := ⟨h1.down HB.out.size, by rw [h2, HF.out], grow_on HB.out hb1⟩
    clear h1 h2 hb1
    go_wp2
    go_ret
    exact ⟨⟨N, cN, rs', rfl, HE.out.1, HE.out.2.1⟩, HE.out.2.2⟩
set_option maxRecDepth 100000 in
set_option maxHeartbeats 1600000 in
theorem implAllS_any (a : Option Addr) (cap : Nat) (S : List PPt) (w : World) (hr : RdS RdA w a S) (hl : S.length ≤ 1048576) (hs : sumT S ≤ 1048576) :
    Calls Tryz.prog 32 #[.slice a S.length cap] w fun e w' => (∃ M c rs, e = .returned (.slice (some ⟨M, 0, none⟩) rs.length c) ∧ AB w.heap.size w' M c rs ∧ pals rs = sortP (allT S)) ∧ Below w.heap.size w w' := by
  have HR : Hid (RdS RdA w a S ∧ sumT S ≤ 1048576) := ⟨hr, hs⟩
  clear hr hs
  obtain ⟨i0, hi, hz0, hz1, hz2⟩ := info_parts infoA
  go_enter Tryz.func32, Tryz.ntmps32
  go_wp2
  go_loopw [3, 9] (fun v i w' => ∃ (k M c : Nat) (rs : List ARow), i = .int .i64 k ∧ k ≤ S.length ∧ v = .slice (some ⟨M, 0, none⟩) rs.length c ∧ AB w.heap.size w' M c rs ∧ pals rs = allT (S.take k) ∧ Below w.heap.size w w') (fun _ i _ => S.length - (intOf i).toNat)
  case atStart => exact ⟨0, w.heap.size, 0, [], rfl, Nat.zero_le _, rfl, AB.nil (Blk.new _ _ _) (Nat.le_refl _), rfl, Go.Joins.below_alloc1 w _⟩
  case round =>
    obtain ⟨k, M, c, rs, rfl, hk, rfl, hab, hp, hb⟩ := hrel
    have HAB : Hid (AB w.heap.size wr M c rs) := hab
    have HP : Hid (pals rs = allT (S.take k)) := hp
    have HB : Hid (Below w.heap.size w wr) := hb
    have hrl : rs.length ≤ 1048576 := by rw [← pals_len, hp]; have := allT_le S k; have := HR.out.2; omega
    clear hab hp hb
    by_cases hlt : k < S.length
    · have hlt' : (k : Int) < (S.length : Int) := by omega
      obtain ⟨b, off, ea, hb, ad, cp, hat⟩ := (HR.out.1.below stays_rd HB.out).get hlt
      cases ea
      have h2 := hat.c0
      have h3 := hat.c1
      have h4 := hat.c2
      have HRD : Hid (RdG RdA wr ad (nthT S k).C) := hat.reads
      have HSk : Hid ((nthT S k).C.length ≤ 1048576 ∧ SmallA (nthT S k).C ∧ sumC (nthT S k).C ≤ 1048576) := by have h0 := sumT_nth hlt; have h1 := HR.out.2; exact ⟨by omega, small_of (by omega), by omega⟩
      have HU : Hid (allT (S.take (k + 1)) = allT (S.take k) ++ allC (nthT S k).C ∧ (allT (S.take (k + 1))).length ≤ 1048576) := ⟨allT_up hlt, by have := allT_le S (k + 1); have := HR.out.2; omega⟩
      clear hat
      go_wp2_with fail
      refine (implAll_any _ _ ad cp (nthT S k).C _ (HRD.out.below stays_rd (Go.Joins.below_alloc1 wr _)) HSk.out.1 HSk.out.2.1 HSk.out.2.2).mono ?_
      rintro e w1 ⟨⟨Mx, cx, qs, rfl, hq, hpq⟩, hb1⟩
      replace hb1 := grow_on (Go.Joins.below_alloc1 wr _) hb1
      have HAB1 : Hid (AB w.heap.size w1 M c rs) := HAB.out.grow hb1
      have HQ1 : Hid (AB wr.heap.size w1 Mx cx qs ∧ pals qs = allC (nthT S k).C) := ⟨hq.down (by first | exact Nat.le_refl _ | simp), hpq⟩
      have HB1 : Hid (Below w.heap.size w w1) := grow_on HB.out hb1
      have hql : rs.length + qs.length ≤ 1048576 := by
        have h1 := HU.out
        rw [h1.1, ← HP.out, ← hpq, List.length_append, pals_len, pals_len] at h1
        omega
      obtain ⟨xs, hox, hxl, hxs⟩ := HAB1.out.own
      have HOX : Hid (w1.ownsRow w.heap.size 29 4 (.slice (some ⟨M, 0, none⟩) rs.length c) rs.length xs) := hox
      have HXS : Hid (xs.length = rs.length * 4 ∧ ∀ i, i < rs.length → Four (fun k => xs[k]?) i (nthA rs i)) := ⟨hxl, hxs⟩
      clear hb1 hq hpq h2 h3 h4 hox hxl hxs
      go_wp2_with (at_builtin; refine wpList_append_own_at _ rfl _ _ 40 rfl w.heap.size 29 i0 (.agg #[.slice none 0 0, .int .i64 0, .int .i64 0, .string ByteArray.empty]) 4 56 Tryz.underlying40 hi hz0 hz1 hz2 rfl (by decide) _ _ _ rfl HOX.out ⟨Mx, 0, none⟩ qs.length _ (flatA qs) rfl (flatA_len qs) ?c1 (flatA_one _) ?c3 ?c4 ?c5 ?_)
      case c1 => exact flatA_news HQ1.out.1
      case c3 => unfold maxLen; omega
      case c4 => omega
      case c5 => exact HB1.out.size
      intro v' w2 hown hg hnil hat
      obtain ⟨M3, c3, rfl, hAB3⟩ := AB.appAll HAB1.out (fun x hx => (HQ1.out.1.rows x hx).down HB.out.size) HQ1.out.1.ne (fun y hy x hx => by have := (HAB.out.rows y hy).lt; have := (HQ1.out.1.rows x hx).1; omega) HXS.out.1 HXS.out.2 hown hg (fun e => by rw [e] at hat; simp [Value.ownBlock] at hat)
      have HAB3 : Hid (AB w.heap.size w2 M3 c3 (rs ++ qs)) := hAB3
      have HB3 : Hid (Below w.heap.size w w2) := HB1.out.grown hg HB1.out.size (fun k e => by have h : M = k := Option.some.inj e; have := HAB.out.at'; omega)
      have HP3 : Hid (pals (rs ++ qs) = allT (S.take (k + 1))) := by show _ = _; rw [pals_two, HP.out, HQ1.out.2, HU.out.1]
      have HL3 : Hid ((rs ++ qs).length = rs.length + qs.length) := by show _ = _; simp
      clear hown hg hnil hat hAB3
      go_wp2
      go_roundw
      case rel => exact ⟨k + 1, M3, c3, _, by go_num, by omega, by rw [HL3.out], HAB3.out, HP3.out, HB3.out⟩
      case measure => simp [intOf]; omega
    have hge : ¬ (k : Int) < (S.length : Int) := by omega
    have HF : Hid (pals rs = allT S) := by show _ = _; rw [HP.out]; congr 1; exact List.take_of_length_le (by omega)
    go_wp2_with fail
    refine (StwG.sorted_any M c w.heap.size rs wr HAB.out hrl).mono ?_
    rintro e w1 ⟨⟨N, rs', rfl, h1, h2, h3⟩, hb1⟩
    have HE : Hid (AB w.heap.size w1 N rs'.length rs' ∧ pals rs' = sortP (allT S) ∧ Below w.heap.size w w1) := ⟨h1, by rw [← HF.out]; exact sort_one h2, grow_on HB.out hb1⟩
    clear h1 h2 h3 hb1
    go_wp2
    go_ret
    exact ⟨⟨N, rs'.length, rs', rfl, HE.out.1, HE.out.2.1⟩, HE.out.2.2⟩
end Go.Proofs.YtooninmicfcfoaaGreat.StsA
