/-
  PROVED: over any string that is not too long spec.ParseSet answers as a plain function says, in memory of its own; nothing that was there is changed.
-/
import Derived.Test.YtlgmhonlgckppaaCutS
namespace Go.Proofs.Ytlgmhonlgckppaa.CutT
open Go.RowKit
open Go.Proofs.Ytlgmhonlgckppaa.Labs Go.Proofs.Ytlgmhonlgckppaa.LabS Go.Proofs.Ytlgmhonlgckppaa.LabO Go.Proofs.Ytlgmhonlgckppaa.SetP Go.Proofs.Ytlgmhonlgckppaa.TextS Go.Proofs.Ytlgmhonlgckppaa.TextI Go.Proofs.Ytlgmhonlgckppaa.LabR
open Go.Proofs.Ytlgmhonlgckppaa.Over Go.Proofs.Ytlgmhonlgckppaa.Blk Go.Proofs.Ytlgmhonlgckppaa.App Go.Proofs.Ytlgmhonlgckppaa.Cuts Go.Proofs.Ytlgmhonlgckppaa.CutP Go.Proofs.Ytlgmhonlgckppaa.CutS
open Go.Proofs.Ytlgmhonlgckppaa.Names (empty_yes empty_no)
open Go.Proofs.Ytlgmhonlgckppaa.LabT (infoL Held)
set_option linter.unusedVariables false

theorem if_first {s : ByteArray} {a m : Nat} (h : m = 0) : (if (decide (m = 0)) = true then (bs s).drop a else ((bs s).drop a).drop 2) = (bs s).drop a := by rw [decide_eq_true h, if_pos rfl]
theorem if_later {s : ByteArray} {a m : Nat} (h : ¬ m = 0) : (if (decide (m = 0)) = true then (bs s).drop a else ((bs s).drop a).drop 2) = (bs s).drop (a + 2) := by rw [decide_eq_false h, if_neg (by decide), List.drop_drop]
theorem done {p q r : List Lab} (h : p ++ q = r) (hq : q = []) : r = p := by rw [← h, hq, List.append_nil]

set_option maxHeartbeats 800000 in
set_option maxRecDepth 100000 in
theorem specParse_any (s : ByteArray) (w : World) (hs : s.size ≤ 1048576) :
    Calls Try.prog 14 #[.string s] w fun e w' => (∃ M c, e = .returned (.tuple #[.slice (some ⟨M, 0, none⟩) (parseB s).1.length c, .bool (parseB s).2]) ∧ Own w w' M (parseB s).1) ∧ Below w.heap.size w w' := by
  have HZ : Hid (s.size ≤ 1048576) := hs
  have HFit : Hid (Fits (cutS s)) := cutS_fits hs
  have HLen : Hid ((cutS s).length ≤ maxLen) := cutS_len s
  obtain ⟨i0, hi, hz0, hz1, hz2⟩ := info_parts infoL
  go_enter Try.func14, Try.ntmps14
  go_wp2
  go_loopw [4, 5] (fun v t wr => ∃ (a : Nat) (p : List Lab), t = .int .i64 a ∧ 1 ≤ a ∧ a ≤ 1048577 ∧ p.length ≤ 5 ∧ p ++ specN (5 - p.length) (decide (p.length = 0)) ((bs s).drop a) = cutS s ∧ OSt w wr v p) (fun _ t _ => s.size + 2 - (intOf t).toNat)
  case atStart => exact ⟨1, [], rfl, by omega, by omega, by simp, rfl, OSt.void (Below.refl _ _)⟩
  case round =>
    obtain ⟨a, p, rfl, ha0, ha1, hp5, he, hst⟩ := hrel
    obtain ⟨g, cap, rfl⟩ := hst.lies
    have HS : Hid (OSt w wr (.slice (some ⟨g, 0, none⟩) p.length cap) p) := hst
    have HE : Hid (p ++ specN (5 - p.length) (decide (p.length = 0)) ((bs s).drop a) = cutS s) := he
    clear hst he
    by_cases hc : a + 1 < s.size
    · have hc' : (a : Int) < (s.size : Int) - 1 := by omega
      by_cases hp4 : p.length ≤ 4
      · have hp4' : (p.length : Int) ≤ 4 := by omega
        by_cases hp0 : p.length = 0
        · have hp0' : ¬ 0 < (p.length : Int) := by omega
          have HP0 : Hid (p.length = 0) := hp0
          clear hp0
          go_wp2_with fail
          refine (l3To_at s a 61 _ _ _ HZ.out (by omega) rfl rfl).mono ?_
          rintro e w1 ⟨rfl, rfl⟩
          by_cases hn1 : (toB s a 61).2 < 0
          · have HF : Hid (cutS s = p) := done HE.out (spec_no1 (by rw [if_first HP0.out]; exact to_neg hn1))
            generalize toB s a 61 = t at hn1 ⊢
            have HP : Hid (parseB s = parseOf p s) := by show _ = _; rw [← HF.out]; exact (parse_spec s).symm
            have HFi : Hid (Fits p) := by have := HFit.out; rwa [HF.out] at this
            have HLe : Hid (p.length ≤ maxLen) := by have := HLen.out; rwa [HF.out] at this
            clear HE HFit HLen HF
            by_cases hs0 : s.size = 0
            · have hE := empty_yes hs0
              have HP1 : Hid (parseB s = ([], false)) := HP.out.trans (parse_empty hs0)
              clear hs0
              go_wp2
              go_ret2
              have ho := OSt.void HS.out.bel
              first | refine ⟨⟨_, _, retP HP1.out rfl, ?_⟩, ho.bel⟩ | refine ⟨⟨_, ⟨_, retP HP1.out rfl⟩, ?_⟩, ho.bel⟩
              rw [HP1.out]
              exact ho.outs
            · have hE := empty_no hs0
              by_cases hq : setText p = s
              · have HP1 : Hid (parseB s = (p, true)) := HP.out.trans (parse_yes hs0 hq)
                have hb := beqS_yes hq
                clear hs0 hq
                go_wp2_with fail
                refine (specText_any _ _ p _ HS.out.reads HLe.out HFi.out).mono ?_
                rintro e w2 ⟨rfl, hb2⟩
                have HS2 : Hid (OSt w w2 (.slice (some ⟨g, 0, none⟩) p.length cap) p) := HS.out.grow hb2
                clear hb2
                go_wp2
                go_ret2
                exact ⟨⟨_, _, retP HP1.out rfl, by rw [HP1.out]; exact HS2.out.outs⟩, HS2.out.bel⟩
              · have HP1 : Hid (parseB s = ([], false)) := HP.out.trans (parse_no hq)
                have hb := beqS_no hq
                clear hs0 hq
                go_wp2_with fail
                refine (specText_any _ _ p _ HS.out.reads HLe.out HFi.out).mono ?_
                rintro e w2 ⟨rfl, hb2⟩
                have HS2 : Hid (OSt w w2 (.slice (some ⟨g, 0, none⟩) p.length cap) p) := HS.out.grow hb2
                clear hb2
                go_wp2
                go_ret2
                have ho := OSt.void HS2.out.bel
                exact ⟨⟨_, _, retP HP1.out rfl, by rw [HP1.out]; exact ho.outs⟩, ho.bel⟩
          obtain ⟨n, j, ht, hj0, hj, hu, hnl⟩ := to_pos hn1
          rw [ht]
          have hj1 : ¬ (j : Int) < 0 := by omega
          clear hn1 ht
          go_wp2_with fail
          refine (l3To_at s (j + 1) 34 _ _ _ HZ.out (by omega) (by omega) rfl).mono ?_
          rintro e w1 ⟨rfl, rfl⟩
          by_cases hn2 : (toB s (j + 1) 34).2 < 0
          · have HF : Hid (cutS s = p) := done HE.out (spec_no2 (by rw [if_first HP0.out]; exact hu) (to_neg hn2))
            generalize toB s (j + 1) 34 = t at hn2 ⊢
            have HP : Hid (parseB s = parseOf p s) := by show _ = _; rw [← HF.out]; exact (parse_spec s).symm
            have HFi : Hid (Fits p) := by have := HFit.out; rwa [HF.out] at this
            have HLe : Hid (p.length ≤ maxLen) := by have := HLen.out; rwa [HF.out] at this
            clear HE HFit HLen HF
            by_cases hs0 : s.size = 0
            · have hE := empty_yes hs0
              have HP1 : Hid (parseB s = ([], false)) := HP.out.trans (parse_empty hs0)
              clear hs0
              go_wp2
              go_ret2
              have ho := OSt.void HS.out.bel
              first | refine ⟨⟨_, _, retP HP1.out rfl, ?_⟩, ho.bel⟩ | refine ⟨⟨_, ⟨_, retP HP1.out rfl⟩, ?_⟩, ho.bel⟩
              rw [HP1.out]
              exact ho.outs
            · have hE := empty_no hs0
              by_cases hq : setText p = s
              · have HP1 : Hid (parseB s = (p, true)) := HP.out.trans (parse_yes hs0 hq)
                have hb := beqS_yes hq
                clear hs0 hq
                go_wp2_with fail
                refine (specText_any _ _ p _ HS.out.reads HLe.out HFi.out).mono ?_
                rintro e w2 ⟨rfl, hb2⟩
                have HS2 : Hid (OSt w w2 (.slice (some ⟨g, 0, none⟩) p.length cap) p) := HS.out.grow hb2
                clear hb2
                go_wp2
                go_ret2
                exact ⟨⟨_, _, retP HP1.out rfl, by rw [HP1.out]; exact HS2.out.outs⟩, HS2.out.bel⟩
              · have HP1 : Hid (parseB s = ([], false)) := HP.out.trans (parse_no hq)
                have hb := beqS_no hq
                clear hs0 hq
                go_wp2_with fail
                refine (specText_any _ _ p _ HS.out.reads HLe.out HFi.out).mono ?_
                rintro e w2 ⟨rfl, hb2⟩
                have HS2 : Hid (OSt w w2 (.slice (some ⟨g, 0, none⟩) p.length cap) p) := HS.out.grow hb2
                clear hb2
                go_wp2
                go_ret2
                have ho := OSt.void HS2.out.bel
                exact ⟨⟨_, _, retP HP1.out rfl, by rw [HP1.out]; exact ho.outs⟩, ho.bel⟩
          obtain ⟨v, i, ht, hi0, hi2, hu2, hvl⟩ := to_pos hn2
          rw [ht]
          have hi1 : ¬ (i : Int) < 0 := by omega
          have HY : Hid (specN (5 - p.length) (decide (p.length = 0)) ((bs s).drop a) = (mk n, mk v) :: specN (5 - (p.length + 1)) false ((bs s).drop i)) := by
            show _ = _
            rw [show 5 - p.length = 5 - (p.length + 1) + 1 by omega]
            exact spec_yes (by rw [drop_len]; omega) (by rw [if_first HP0.out]; exact hu) hu2
          clear hn2 ht hu hu2
          generalize mk n = x1 at HY ⊢
          generalize mk v = x2 at HY ⊢
          go_wp2_with (at_builtin; refine wpList_append_own_at _ rfl _ _ 24 rfl w.heap.size 51 i0 (.agg #[.string ByteArray.empty, .string ByteArray.empty]) 2 32 Try.underlying24 hi hz0 hz1 hz2 rfl (by decide) _ _ _ rfl (HS.out.alloc _).own ⟨_, 0, none⟩ 1 1 [.string x1, .string x2] rfl rfl ?c1 ?c2 ?c3 ?c4 ?c5 ?_)
          case c1 => exact blk_news (Blk.new _ _ _)
          case c2 => exact flat_one [(x1, x2)]
          case c3 => unfold maxLen; omega
          case c4 => omega
          case c5 => have := HS.out.bel.size; simp; omega
          intro v' w4 hown hg _ hat
          have HS4 : Hid (OSt w w4 v' (p ++ [(x1, x2)])) := (HS.out.alloc _).add (q := [(x1, x2)]) rfl rfl rfl rfl (by simp) hown hg
          clear hown hg hat
          go_wp2
          go_roundw
          case rel => exact ⟨i, p ++ [(x1, x2)], rfl, by omega, by omega, by simp; omega, by rw [← HE.out, HY.out]; simp, HS4.out⟩
          case measure => simp [intOf]; omega
        · have hp0' : 0 < (p.length : Int) := by omega
          have HP0 : Hid (¬ p.length = 0) := hp0
          clear hp0
          go_wp2_with fail
          refine (l3To_at s (a + 2) 61 _ _ _ HZ.out (by omega) (by omega) rfl).mono ?_
          rintro e w1 ⟨rfl, rfl⟩
          by_cases hn1 : (toB s (a + 2) 61).2 < 0
          · have HF : Hid (cutS s = p) := done HE.out (spec_no1 (by rw [if_later HP0.out]; exact to_neg hn1))
            generalize toB s (a + 2) 61 = t at hn1 ⊢
            have HP : Hid (parseB s = parseOf p s) := by show _ = _; rw [← HF.out]; exact (parse_spec s).symm
            have HFi : Hid (Fits p) := by have := HFit.out; rwa [HF.out] at this
            have HLe : Hid (p.length ≤ maxLen) := by have := HLen.out; rwa [HF.out] at this
            clear HE HFit HLen HF
            by_cases hs0 : s.size = 0
            · have hE := empty_yes hs0
              have HP1 : Hid (parseB s = ([], false)) := HP.out.trans (parse_empty hs0)
              clear hs0
              go_wp2
              go_ret2
              have ho := OSt.void HS.out.bel
              first | refine ⟨⟨_, _, retP HP1.out rfl, ?_⟩, ho.bel⟩ | refine ⟨⟨_, ⟨_, retP HP1.out rfl⟩, ?_⟩, ho.bel⟩
              rw [HP1.out]
              exact ho.outs
            · have hE := empty_no hs0
              by_cases hq : setText p = s
              · have HP1 : Hid (parseB s = (p, true)) := HP.out.trans (parse_yes hs0 hq)
                have hb := beqS_yes hq
                clear hs0 hq
                go_wp2_with fail
                refine (specText_any _ _ p _ HS.out.reads HLe.out HFi.out).mono ?_
                rintro e w2 ⟨rfl, hb2⟩
                have HS2 : Hid (OSt w w2 (.slice (some ⟨g, 0, none⟩) p.length cap) p) := HS.out.grow hb2
                clear hb2
                go_wp2
                go_ret2
                exact ⟨⟨_, _, retP HP1.out rfl, by rw [HP1.out]; exact HS2.out.outs⟩, HS2.out.bel⟩
              · have HP1 : Hid (parseB s = ([], false)) := HP.out.trans (parse_no hq)
                have hb := beqS_no hq
                clear hs0 hq
                go_wp2_with fail
                refine (specText_any _ _ p _ HS.out.reads HLe.out HFi.out).mono ?_
                rintro e w2 ⟨rfl, hb2⟩
                have HS2 : Hid (OSt w w2 (.slice (some ⟨g, 0, none⟩) p.length cap) p) := HS.out.grow hb2
                clear hb2
                go_wp2
                go_ret2
                have ho := OSt.void HS2.out.bel
                exact ⟨⟨_, _, retP HP1.out rfl, by rw [HP1.out]; exact ho.outs⟩, ho.bel⟩
          obtain ⟨n, j, ht, hj0, hj, hu, hnl⟩ := to_pos hn1
          rw [ht]
          have hj1 : ¬ (j : Int) < 0 := by omega
          clear hn1 ht
          go_wp2_with fail
          refine (l3To_at s (j + 1) 34 _ _ _ HZ.out (by omega) (by omega) rfl).mono ?_
          rintro e w1 ⟨rfl, rfl⟩
          by_cases hn2 : (toB s (j + 1) 34).2 < 0
          · have HF : Hid (cutS s = p) := done HE.out (spec_no2 (by rw [if_later HP0.out]; exact hu) (to_neg hn2))
            generalize toB s (j + 1) 34 = t at hn2 ⊢
            have HP : Hid (parseB s = parseOf p s) := by show _ = _; rw [← HF.out]; exact (parse_spec s).symm
            have HFi : Hid (Fits p) := by have := HFit.out; rwa [HF.out] at this
            have HLe : Hid (p.length ≤ maxLen) := by have := HLen.out; rwa [HF.out] at this
            clear HE HFit HLen HF
            by_cases hs0 : s.size = 0
            · have hE := empty_yes hs0
              have HP1 : Hid (parseB s = ([], false)) := HP.out.trans (parse_empty hs0)
              clear hs0
              go_wp2
              go_ret2
              have ho := OSt.void HS.out.bel
              first | refine ⟨⟨_, _, retP HP1.out rfl, ?_⟩, ho.bel⟩ | refine ⟨⟨_, ⟨_, retP HP1.out rfl⟩, ?_⟩, ho.bel⟩
              rw [HP1.out]
              exact ho.outs
            · have hE := empty_no hs0
              by_cases hq : setText p = s
              · have HP1 : Hid (parseB s = (p, true)) := HP.out.trans (parse_yes hs0 hq)
                have hb := beqS_yes hq
                clear hs0 hq
                go_wp2_with fail
                refine (specText_any _ _ p _ HS.out.reads HLe.out HFi.out).mono ?_
                rintro e w2 ⟨rfl, hb2⟩
                have HS2 : Hid (OSt w w2 (.slice (some ⟨g, 0, none⟩) p.length cap) p) := HS.out.grow hb2
                clear hb2
                go_wp2
                go_ret2
                exact ⟨⟨_, _, retP HP1.out rfl, by rw [HP1.out]; exact HS2.out.outs⟩, HS2.out.bel⟩
              · have HP1 : Hid (parseB s = ([], false)) := HP.out.trans (parse_no hq)
                have hb := beqS_no hq
                clear hs0 hq
                go_wp2_with fail
                refine (specText_any _ _ p _ HS.out.reads HLe.out HFi.out).mono ?_
                rintro e w2 ⟨rfl, hb2⟩
                have HS2 : Hid (OSt w w2 (.slice (some ⟨g, 0, none⟩) p.length cap) p) := HS.out.grow hb2
                clear hb2
                go_wp2
                go_ret2
                have ho := OSt.void HS2.out.bel
                exact ⟨⟨_, _, retP HP1.out rfl, by rw [HP1.out]; exact ho.outs⟩, ho.bel⟩
          obtain ⟨v, i, ht, hi0, hi2, hu2, hvl⟩ := to_pos hn2
          rw [ht]
          have hi1 : ¬ (i : Int) < 0 := by omega
          have HY : Hid (specN (5 - p.length) (decide (p.length = 0)) ((bs s).drop a) = (mk n, mk v) :: specN (5 - (p.length + 1)) false ((bs s).drop i)) := by
            show _ = _
            rw [show 5 - p.length = 5 - (p.length + 1) + 1 by omega]
            exact spec_yes (by rw [drop_len]; omega) (by rw [if_later HP0.out]; exact hu) hu2
          clear hn2 ht hu hu2
          generalize mk n = x1 at HY ⊢
          generalize mk v = x2 at HY ⊢
          go_wp2_with (at_builtin; refine wpList_append_own_at _ rfl _ _ 24 rfl w.heap.size 51 i0 (.agg #[.string ByteArray.empty, .string ByteArray.empty]) 2 32 Try.underlying24 hi hz0 hz1 hz2 rfl (by decide) _ _ _ rfl (HS.out.alloc _).own ⟨_, 0, none⟩ 1 1 [.string x1, .string x2] rfl rfl ?c1 ?c2 ?c3 ?c4 ?c5 ?_)
          case c1 => exact blk_news (Blk.new _ _ _)
          case c2 => exact flat_one [(x1, x2)]
          case c3 => unfold maxLen; omega
          case c4 => omega
          case c5 => have := HS.out.bel.size; simp; omega
          intro v' w4 hown hg _ hat
          have HS4 : Hid (OSt w w4 v' (p ++ [(x1, x2)])) := (HS.out.alloc _).add (q := [(x1, x2)]) rfl rfl rfl rfl (by simp) hown hg
          clear hown hg hat
          go_wp2
          go_roundw
          case rel => exact ⟨i, p ++ [(x1, x2)], rfl, by omega, by omega, by simp; omega, by rw [← HE.out, HY.out]; simp, HS4.out⟩
          case measure => simp [intOf]; omega
      · have hp4' : ¬ (p.length : Int) ≤ 4 := by omega
        have HF : Hid (cutS s = p) := done HE.out (by rw [show 5 - p.length = 0 by omega]; rfl)
        have HP : Hid (parseB s = parseOf p s) := by show _ = _; rw [← HF.out]; exact (parse_spec s).symm
        have HFi : Hid (Fits p) := by have := HFit.out; rwa [HF.out] at this
        have HLe : Hid (p.length ≤ maxLen) := by have := HLen.out; rwa [HF.out] at this
        clear HE HFit HLen HF
        by_cases hs0 : s.size = 0
        · have hE := empty_yes hs0
          have HP1 : Hid (parseB s = ([], false)) := HP.out.trans (parse_empty hs0)
          clear hs0
          go_wp2
          go_ret2
          have ho := OSt.void HS.out.bel
          first | refine ⟨⟨_, _, retP HP1.out rfl, ?_⟩, ho.bel⟩ | refine ⟨⟨_, ⟨_, retP HP1.out rfl⟩, ?_⟩, ho.bel⟩
          rw [HP1.out]
          exact ho.outs
        · have hE := empty_no hs0
          by_cases hq : setText p = s
          · have HP1 : Hid (parseB s = (p, true)) := HP.out.trans (parse_yes hs0 hq)
            have hb := beqS_yes hq
            clear hs0 hq
            go_wp2_with fail
            refine (specText_any _ _ p _ HS.out.reads HLe.out HFi.out).mono ?_
            rintro e w2 ⟨rfl, hb2⟩
            have HS2 : Hid (OSt w w2 (.slice (some ⟨g, 0, none⟩) p.length cap) p) := HS.out.grow hb2
            clear hb2
            go_wp2
            go_ret2
            exact ⟨⟨_, _, retP HP1.out rfl, by rw [HP1.out]; exact HS2.out.outs⟩, HS2.out.bel⟩
          · have HP1 : Hid (parseB s = ([], false)) := HP.out.trans (parse_no hq)
            have hb := beqS_no hq
            clear hs0 hq
            go_wp2_with fail
            refine (specText_any _ _ p _ HS.out.reads HLe.out HFi.out).mono ?_
            rintro e w2 ⟨rfl, hb2⟩
            have HS2 : Hid (OSt w w2 (.slice (some ⟨g, 0, none⟩) p.length cap) p) := HS.out.grow hb2
            clear hb2
            go_wp2
            go_ret2
            have ho := OSt.void HS2.out.bel
            exact ⟨⟨_, _, retP HP1.out rfl, by rw [HP1.out]; exact ho.outs⟩, ho.bel⟩
    · have hc' : ¬ (a : Int) < (s.size : Int) - 1 := by omega
      have HF : Hid (cutS s = p) := done HE.out (spec_stop (by rw [drop_len]; omega))
      have HP : Hid (parseB s = parseOf p s) := by show _ = _; rw [← HF.out]; exact (parse_spec s).symm
      have HFi : Hid (Fits p) := by have := HFit.out; rwa [HF.out] at this
      have HLe : Hid (p.length ≤ maxLen) := by have := HLen.out; rwa [HF.out] at this
      clear HE HFit HLen HF
      by_cases hs0 : s.size = 0
      · have hE := empty_yes hs0
        have HP1 : Hid (parseB s = ([], false)) := HP.out.trans (parse_empty hs0)
        clear hs0
        go_wp2
        go_ret2
        have ho := OSt.void HS.out.bel
        first | refine ⟨⟨_, _, retP HP1.out rfl, ?_⟩, ho.bel⟩ | refine ⟨⟨_, ⟨_, retP HP1.out rfl⟩, ?_⟩, ho.bel⟩
        rw [HP1.out]
        exact ho.outs
      · have hE := empty_no hs0
        by_cases hq : setText p = s
        · have HP1 : Hid (parseB s = (p, true)) := HP.out.trans (parse_yes hs0 hq)
          have hb := beqS_yes hq
          clear hs0 hq
          go_wp2_with fail
          refine (specText_any _ _ p _ HS.out.reads HLe.out HFi.out).mono ?_
          rintro e w2 ⟨rfl, hb2⟩
          have HS2 : Hid (OSt w w2 (.slice (some ⟨g, 0, none⟩) p.length cap) p) := HS.out.grow hb2
          clear hb2
          go_wp2
          go_ret2
          exact ⟨⟨_, _, retP HP1.out rfl, by rw [HP1.out]; exact HS2.out.outs⟩, HS2.out.bel⟩
        · have HP1 : Hid (parseB s = ([], false)) := HP.out.trans (parse_no hq)
          have hb := beqS_no hq
          clear hs0 hq
          go_wp2_with fail
          refine (specText_any _ _ p _ HS.out.reads HLe.out HFi.out).mono ?_
          rintro e w2 ⟨rfl, hb2⟩
          have HS2 : Hid (OSt w w2 (.slice (some ⟨g, 0, none⟩) p.length cap) p) := HS.out.grow hb2
          clear hb2
          go_wp2
          go_ret2
          have ho := OSt.void HS2.out.bel
          exact ⟨⟨_, _, retP HP1.out rfl, by rw [HP1.out]; exact ho.outs⟩, ho.bel⟩
end Go.Proofs.Ytlgmhonlgckppaa.CutT
