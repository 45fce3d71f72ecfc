/-
  PROVED: the heap's method Pop, the library's heap.down and heap.Pop over the program's heap; the program's take.
-/
import Derived.Test.YtcjhieknmblbbaaHpK
import Derived.Test.YtcjhieknmblbbaaHpT
namespace Go.Proofs.Ytcjhieknmblbbaa.HpL
open Go.RowKit
open Go.Proofs.Ytcjhieknmblbbaa.Hp Go.Proofs.Ytcjhieknmblbbaa.Tms Go.Proofs.Ytcjhieknmblbbaa.TmO Go.Proofs.Ytcjhieknmblbbaa.TmR Go.Proofs.Ytcjhieknmblbbaa.HpS Go.Proofs.Ytcjhieknmblbbaa.HpT Go.Proofs.Ytcjhieknmblbbaa.HpA Go.Proofs.Ytcjhieknmblbbaa.HpJ Go.Proofs.Ytcjhieknmblbbaa.Over Go.Proofs.Ytcjhieknmblbbaa.Blk Go.Proofs.Ytcjhieknmblbbaa.App
open Go.Proofs.Ytcjhieknmblbbaa.Mark (Apart)
set_option linter.unusedVariables false
theorem one_len (d : List Tm) (x : Tm) : (d ++ [x]).length = d.length + 1 := by simp
theorem nth_one {d : List Tm} {x : Tm} {i : Nat} (h : i < d.length) : nthT (d ++ [x]) i = nthT d i := nth_app_lt h
theorem swp_one {d : List Tm} {x : Tm} {i j : Nat} (hi : i < d.length) (hj : j < d.length) : swp (d ++ [x]) i j = swp d i j ++ [x] := by
  refine ext_nth (by rw [swp_len, one_len, one_len, swp_len]) fun k hk => ?_
  rw [swp_len, one_len] at hk
  rw [swp_nth (by rw [one_len]; omega) (by rw [one_len]; omega), nth_one hi, nth_one hj]
  by_cases h : k < d.length
  · rw [nth_one h, nth_app_lt (by rw [swp_len]; exact h), swp_nth hi hj]
  · have e : k = d.length := by omega
    rw [if_neg (by omega), if_neg (by omega), e, nth_app_eq]
    have : nthT (swp d i j ++ [x]) (swp d i j).length = x := nth_app_eq
    rw [swp_len] at this
    exact this.symm
theorem swp_base {l : List Tm} (h : l ≠ []) : swp l 0 (l.length - 1) = base l ++ [nthT l 0] := by
  have h0 := List.length_pos_iff.2 h
  refine ext_nth (by rw [swp_len, one_len, base_len]; omega) fun k hk => ?_
  rw [swp_len] at hk
  rw [swp_nth h0 (by omega)]
  by_cases e : l.length - 1 = k
  · rw [if_pos e]
    have := nth_app_eq (l := base l) (x := nthT l 0)
    rw [base_len, e] at this
    exact this.symm
  · rw [if_neg e, nth_app_lt (by rw [base_len]; omega), base_nth (by omega)]
    by_cases e2 : 0 = k
    · rw [if_pos e2, if_pos e2.symm]
    · rw [if_neg e2, if_neg (fun h => e2 h.symm)]
theorem held_cut {cs : Array Value} {d : List Tm} {x : Tm} {v0 v1 : Value} (h : HeldT cs (d ++ [x]) (d ++ [x]).length) : HeldT ((cs.setIfInBounds (d.length * 2) v0).setIfInBounds (d.length * 2 + 1) v1) d d.length := fun j hj => by
  obtain ⟨e1, e2⟩ := put2_ne (cs := cs) (k := d.length) (m := j) (v0 := v0) (v1 := v1) (by omega)
  rw [e1, e2, ← nth_one (x := x) hj]
  exact h j (by rw [one_len]; omega)
set_option maxHeartbeats 800000 in
theorem popM_any (B M c : Nat) (d : List Tm) (x : Tm) (w : World) (h : Hq B w M c (d ++ [x])) :
    Calls Try.prog 74 #[.pointer (some ⟨B, 0, none⟩)] w fun e w' => e = .returned (.iface 26 (.agg #[.int .i64 x.1, .int .i64 x.2])) ∧ Hq B w' M c d ∧ But B M w w' := by
  have H : Hid (Hq B w M c (d ++ [x])) := h
  have hBl := h.var.lt
  have hMl := h.row.lt
  have hne := h.ne
  have hle := h.row.le
  have hcap := h.row.cap
  unfold maxLen at hcap
  rw [one_len] at hle
  obtain ⟨cs, hM, hcs, hh⟩ := h.row.row
  have HH : Hid (Blk w M cs 26 ∧ cs.size = c * 2 ∧ HeldT cs (d ++ [x]) (d ++ [x]).length) := ⟨hM, hcs, hh⟩
  have h0 := hh d.length (by rw [one_len]; omega)
  rw [nth_app_eq] at h0
  have hv : w.cell? ⟨B, 0, none⟩ = some (.slice (some ⟨M, 0, none⟩) (d.length + 1) c) := by have := h.cell; rw [one_len] at this; exact this
  have hf := h.var.frozen 0
  have c0 : w.cell? ⟨M, d.length * 2, none⟩ = some (.int .i64 x.1) := (hM.cell _).trans h0.1
  have c1 : w.cell? ⟨M, d.length * 2 + 1, none⟩ = some (.int .i64 x.2) := (hM.cell _).trans h0.2
  have f0 := hM.frozen (d.length * 2)
  have f1 := hM.frozen (d.length * 2 + 1)
  have e1 : (((d.length + 1 : Nat) : Int)) - 1 = (d.length : Int) := by omega
  have hlt : (d.length : Int) < (d.length : Int) + 1 := by omega
  have hne2 : B ≠ w.heap.size := by omega
  have hne3 : M ≠ w.heap.size := by omega
  clear h hM hcs hh h0
  go_enter Try.func74, Try.ntmps74
  go_wp2
  go_ret
  refine ⟨rfl, ⟨(((H.out.var.set_other (fun e => hne e.symm) _).set_other (fun e => hne e.symm) _).set 0 _).alloc _, ⟨Nat.zero_le _, by omega, H.out.row.cap, _, (((HH.out.1.set _ _).set _ _).set_other hne _).alloc _, by simp [HH.out.2.1], held_cut HH.out.2.2⟩, hne⟩, ?_⟩
  exact ((((But.refl B M w).setRow _ _).setRow _ _).setVar _ _).trans (But.of (Go.Joins.below_alloc1 _ _))
set_option maxHeartbeats 1600000 in
theorem down_any (B M c : Nat) (d : List Tm) (x : Tm) (w : World) (h : Hq B w M c (d ++ [x])) (hl : d.length ≤ 20000000) :
    Calls Try.prog 55 #[.iface 67 (.pointer (some ⟨B, 0, none⟩)), .int .i64 0, .int .i64 d.length] w fun e w' => (∃ b, e = .returned (.bool b)) ∧ Hq B w' M c (down d 0 ++ [x]) ∧ But B M w w' := by
  have H : Hid (Hq B w M c (d ++ [x])) := h
  clear h
  go_enter Try.func55, Try.ntmps55
  go_wp2
  go_loopw [7] (fun i w' => ∃ (k : Nat) (m : List Tm), i = .int .i64 k ∧ k ≤ d.length ∧ m.length = d.length ∧ down m k = down d 0 ∧ Hq B w' M c (m ++ [x]) ∧ But B M w w') (fun i _ => d.length - (intOf i).toNat)
  case atStart => exact ⟨0, d, rfl, Nat.zero_le _, rfl, rfl, H.out, But.refl _ _ _⟩
  case round =>
    obtain ⟨k, m, rfl, hk, hm, hu, hq, hb⟩ := hrel
    have HM : Hid (m.length = d.length ∧ down m k = down d 0) := ⟨hm, hu⟩
    have HQ : Hid (Hq B wr M c (m ++ [x])) := hq
    have HB : Hid (But B M w wr) := hb
    clear hm hu hq hb H
    by_cases hj : d.length ≤ 2 * k + 1
    · have HD : Hid (down m k = m) := down_stop (fun h => by have := h.1; rw [HM.out.1] at this; omega)
      have hj' : (d.length : Int) ≤ 2 * (k : Int) + 1 := by omega
      go_wp2
      go_ret
      exact ⟨⟨_, rfl⟩, by rw [← HM.out.2, HD.out]; exact HQ.out, HB.out⟩
    · obtain ⟨j, ej⟩ : ∃ j, 2 * k + 1 = j := ⟨_, rfl⟩
      have ej' : 2 * (k : Int) + 1 = (j : Int) := by omega
      have hj0 : ¬ (d.length : Int) ≤ (j : Int) := by omega
      have hj1 : ¬ (j : Int) < 0 := by omega
      by_cases hj2 : j + 1 < d.length
      · obtain ⟨j2, e2⟩ : ∃ j2, j + 1 = j2 := ⟨_, rfl⟩
        have e2' : (j : Int) + 1 = (j2 : Int) := by omega
        have hj2' : (j2 : Int) < (d.length : Int) := by omega
        have HL1 := less_any M c (m ++ [x]) j2 j wr HQ.out.row (by rw [one_len, HM.out.1]; omega) (by rw [one_len, HM.out.1]; omega)
        rw [nth_one (by rw [HM.out.1]; omega), nth_one (by rw [HM.out.1]; omega)] at HL1
        have hc1 := meth_less B _ wr HQ.out.cell
        rw [one_len] at HL1 hc1
        by_cases ck : befB (nthT m j2) (nthT m j) = true
        · rw [ck] at HL1
          have HK : Hid (kid m k = j2) := by unfold Hid kid; rw [if_pos ⟨by rw [HM.out.1]; omega, by rw [show 2 * k + 2 = j2 by omega, ej]; exact ck⟩]; omega
          clear ck
          go_wp2_with fail
          refine HL1.mono ?_
          rintro e w2 ⟨rfl, hb2⟩
          have HQ2 : Hid (Hq B w2 M c (m ++ [x])) := HQ.out.grow hb2
          have HB2 : Hid (But B M w w2) := HB.out.trans (But.of hb2)
          clear hb2 HL1 hc1
          have HL2 := less_any M c (m ++ [x]) (j2) k w2 HQ2.out.row (by rw [one_len, HM.out.1]; omega) (by rw [one_len, HM.out.1]; omega)
          rw [nth_one (by rw [HM.out.1]; omega), nth_one (by rw [HM.out.1]; omega)] at HL2
          have hc2 := meth_less B _ w2 HQ2.out.cell
          rw [one_len] at HL2 hc2
          by_cases cb : befB (nthT m (j2)) (nthT m k) = true
          · rw [cb] at HL2
            have HD : Hid (down (swp m k (j2)) (j2) = down d 0 ∧ (swp m k (j2)).length = d.length) := ⟨by have hg := down_go (l := m) (i := k) (by rw [HM.out.1]; omega) (by rw [HK.out]; exact cb); rw [HK.out] at hg; rw [← hg]; exact HM.out.2, by rw [swp_len]; exact HM.out.1⟩
            clear cb
            go_wp2_with fail
            refine HL2.mono ?_
            rintro e w3 ⟨rfl, hb3⟩
            have HQ3 : Hid (Hq B w3 M c (m ++ [x])) := HQ2.out.grow hb3
            have HB3 : Hid (But B M w w3) := HB2.out.trans (But.of hb3)
            have hc3 := meth_swap B _ w3 HQ3.out.cell
            have HS := swap_any M c (m ++ [x]) k (j2) w3 HQ3.out.row (by rw [one_len, HM.out.1]; omega) (by omega)
            rw [swp_one (by rw [HM.out.1]; omega) (by rw [HM.out.1]; omega)] at HS
            rw [one_len] at HS hc3
            clear hb3 HL2 hc2
            go_wp2_with fail
            refine HS.mono ?_
            rintro e w4 ⟨rfl, ho4, ha4⟩
            have HQ4 : Hid (Hq B w4 M c (swp m k (j2) ++ [x])) := HQ3.out.apart ha4 ho4 (by rw [one_len, one_len, swp_len])
            have HB4 : Hid (But B M w w4) := HB3.out.trans (But.apart ha4)
            clear ho4 ha4 HS hc3
            go_wp2
            go_roundw
            case rel => exact ⟨j2, swp m k (j2), by go_num, by omega, HD.out.2, HD.out.1, HQ4.out, HB4.out⟩
            case measure => simp [intOf]; omega
          · have cb' : befB (nthT m (j2)) (nthT m k) = false := by simpa using cb
            rw [cb'] at HL2
            have HD : Hid (down m k = m) := down_stop (fun h => cb (by rw [HK.out] at h; exact h.2))
            clear cb cb'
            go_wp2_with fail
            refine HL2.mono ?_
            rintro e w3 ⟨rfl, hb3⟩
            have HQ3 : Hid (Hq B w3 M c (m ++ [x])) := HQ2.out.grow hb3
            have HB3 : Hid (But B M w w3) := HB2.out.trans (But.of hb3)
            clear hb3 HL2 hc2
            go_wp2
            go_ret
            exact ⟨⟨_, rfl⟩, by rw [← HM.out.2, HD.out]; exact HQ3.out, HB3.out⟩
        · have ck' : befB (nthT m j2) (nthT m j) = false := by simpa using ck
          rw [ck'] at HL1
          have HK : Hid (kid m k = j) := by unfold Hid kid; rw [if_neg (fun h => ck (by have := h.2; rw [show 2 * k + 2 = j2 by omega, ej] at this; exact this))]; omega
          clear ck ck'
          go_wp2_with fail
          refine HL1.mono ?_
          rintro e w2 ⟨rfl, hb2⟩
          have HQ2 : Hid (Hq B w2 M c (m ++ [x])) := HQ.out.grow hb2
          have HB2 : Hid (But B M w w2) := HB.out.trans (But.of hb2)
          clear hb2 HL1 hc1
          have HL2 := less_any M c (m ++ [x]) (j) k w2 HQ2.out.row (by rw [one_len, HM.out.1]; omega) (by rw [one_len, HM.out.1]; omega)
          rw [nth_one (by rw [HM.out.1]; omega), nth_one (by rw [HM.out.1]; omega)] at HL2
          have hc2 := meth_less B _ w2 HQ2.out.cell
          rw [one_len] at HL2 hc2
          by_cases cb : befB (nthT m (j)) (nthT m k) = true
          · rw [cb] at HL2
            have HD : Hid (down (swp m k (j)) (j) = down d 0 ∧ (swp m k (j)).length = d.length) := ⟨by have hg := down_go (l := m) (i := k) (by rw [HM.out.1]; omega) (by rw [HK.out]; exact cb); rw [HK.out] at hg; rw [← hg]; exact HM.out.2, by rw [swp_len]; exact HM.out.1⟩
            clear cb
            go_wp2_with fail
            refine HL2.mono ?_
            rintro e w3 ⟨rfl, hb3⟩
            have HQ3 : Hid (Hq B w3 M c (m ++ [x])) := HQ2.out.grow hb3
            have HB3 : Hid (But B M w w3) := HB2.out.trans (But.of hb3)
            have hc3 := meth_swap B _ w3 HQ3.out.cell
            have HS := swap_any M c (m ++ [x]) k (j) w3 HQ3.out.row (by rw [one_len, HM.out.1]; omega) (by omega)
            rw [swp_one (by rw [HM.out.1]; omega) (by rw [HM.out.1]; omega)] at HS
            rw [one_len] at HS hc3
            clear hb3 HL2 hc2
            go_wp2_with fail
            refine HS.mono ?_
            rintro e w4 ⟨rfl, ho4, ha4⟩
            have HQ4 : Hid (Hq B w4 M c (swp m k (j) ++ [x])) := HQ3.out.apart ha4 ho4 (by rw [one_len, one_len, swp_len])
            have HB4 : Hid (But B M w w4) := HB3.out.trans (But.apart ha4)
            clear ho4 ha4 HS hc3
            go_wp2
            go_roundw
            case rel => exact ⟨j, swp m k (j), by go_num, by omega, HD.out.2, HD.out.1, HQ4.out, HB4.out⟩
            case measure => simp [intOf]; omega
          · have cb' : befB (nthT m (j)) (nthT m k) = false := by simpa using cb
            rw [cb'] at HL2
            have HD : Hid (down m k = m) := down_stop (fun h => cb (by rw [HK.out] at h; exact h.2))
            clear cb cb'
            go_wp2_with fail
            refine HL2.mono ?_
            rintro e w3 ⟨rfl, hb3⟩
            have HQ3 : Hid (Hq B w3 M c (m ++ [x])) := HQ2.out.grow hb3
            have HB3 : Hid (But B M w w3) := HB2.out.trans (But.of hb3)
            clear hb3 HL2 hc2
            go_wp2
            go_ret
            exact ⟨⟨_, rfl⟩, by rw [← HM.out.2, HD.out]; exact HQ3.out, HB3.out⟩
      · have hj2' : ¬ (j : Int) + 1 < (d.length : Int) := by omega
        have HK : Hid (kid m k = j) := by unfold Hid kid; rw [if_neg (fun h => by have := h.1; rw [HM.out.1] at this; omega)]; omega
        obtain ⟨w2, ew2⟩ : ∃ w2, w2 = wr := ⟨_, rfl⟩
        subst ew2
        have HQ2 : Hid (Hq B w2 M c (m ++ [x])) := HQ.out
        have HB2 : Hid (But B M w w2) := HB.out
        have HL2 := less_any M c (m ++ [x]) (j) k w2 HQ2.out.row (by rw [one_len, HM.out.1]; omega) (by rw [one_len, HM.out.1]; omega)
        rw [nth_one (by rw [HM.out.1]; omega), nth_one (by rw [HM.out.1]; omega)] at HL2
        have hc2 := meth_less B _ w2 HQ2.out.cell
        rw [one_len] at HL2 hc2
        by_cases cb : befB (nthT m (j)) (nthT m k) = true
        · rw [cb] at HL2
          have HD : Hid (down (swp m k (j)) (j) = down d 0 ∧ (swp m k (j)).length = d.length) := ⟨by have hg := down_go (l := m) (i := k) (by rw [HM.out.1]; omega) (by rw [HK.out]; exact cb); rw [HK.out] at hg; rw [← hg]; exact HM.out.2, by rw [swp_len]; exact HM.out.1⟩
          clear cb
          go_wp2_with fail
          refine HL2.mono ?_
          rintro e w3 ⟨rfl, hb3⟩
          have HQ3 : Hid (Hq B w3 M c (m ++ [x])) := HQ2.out.grow hb3
          have HB3 : Hid (But B M w w3) := HB2.out.trans (But.of hb3)
          have hc3 := meth_swap B _ w3 HQ3.out.cell
          have HS := swap_any M c (m ++ [x]) k (j) w3 HQ3.out.row (by rw [one_len, HM.out.1]; omega) (by omega)
          rw [swp_one (by rw [HM.out.1]; omega) (by rw [HM.out.1]; omega)] at HS
          rw [one_len] at HS hc3
          clear hb3 HL2 hc2
          go_wp2_with fail
          refine HS.mono ?_
          rintro e w4 ⟨rfl, ho4, ha4⟩
          have HQ4 : Hid (Hq B w4 M c (swp m k (j) ++ [x])) := HQ3.out.apart ha4 ho4 (by rw [one_len, one_len, swp_len])
          have HB4 : Hid (But B M w w4) := HB3.out.trans (But.apart ha4)
          clear ho4 ha4 HS hc3
          go_wp2
          go_roundw
          case rel => exact ⟨j, swp m k (j), by go_num, by omega, HD.out.2, HD.out.1, HQ4.out, HB4.out⟩
          case measure => simp [intOf]; omega
        · have cb' : befB (nthT m (j)) (nthT m k) = false := by simpa using cb
          rw [cb'] at HL2
          have HD : Hid (down m k = m) := down_stop (fun h => cb (by rw [HK.out] at h; exact h.2))
          clear cb cb'
          go_wp2_with fail
          refine HL2.mono ?_
          rintro e w3 ⟨rfl, hb3⟩
          have HQ3 : Hid (Hq B w3 M c (m ++ [x])) := HQ2.out.grow hb3
          have HB3 : Hid (But B M w w3) := HB2.out.trans (But.of hb3)
          clear hb3 HL2 hc2
          go_wp2
          go_ret
          exact ⟨⟨_, rfl⟩, by rw [← HM.out.2, HD.out]; exact HQ3.out, HB3.out⟩

set_option maxHeartbeats 800000 in
theorem popH_any (B M c n : Nat) (l : List Tm) (w : World) (h : Hq B w M c l) (hn : l.length = n + 1) (hl : l.length ≤ 20000000) :
    Calls Try.prog 52 #[.iface 67 (.pointer (some ⟨B, 0, none⟩))] w fun e w' => e = .returned (.iface 26 (.agg #[.int .i64 (nthT l 0).1, .int .i64 (nthT l 0).2])) ∧ Hq B w' M c (takeT l) ∧ But B M w w' := by
  have H : Hid (Hq B w M c l) := h
  have hl0 : l ≠ [] := fun e => by rw [e] at hn; simp at hn
  have HN : Hid (swp l 0 n = base l ++ [nthT l 0] ∧ (base l).length = n) := by
    have h1 := swp_base hl0
    have h2 := base_len l
    rw [hn, Nat.add_sub_cancel] at h1 h2
    exact ⟨h1, h2⟩
  have hlen := meth_len B _ w h.cell
  have hswp := meth_swap B _ w h.cell
  have HS := swap_any M c l 0 n w h.row (by omega) (Nat.zero_le _)
  rw [HN.out.1, hn, show ((0 : Nat) : Int) = 0 from rfl] at HS
  rw [hn] at hlen hswp
  have e1 : (((n + 1 : Nat) : Int)) - 1 = (n : Int) := by omega
  have hnb : (n : Int) ≤ 20000000 := by omega
  clear h hl0
  go_enter Try.func52, Try.ntmps52
  go_wp2_with fail
  refine (len_any _ _ _ w).mono ?_
  rintro e w1 ⟨rfl, rfl⟩
  go_wp2_with fail
  refine HS.mono ?_
  rintro e w2 ⟨rfl, ho2, ha2⟩
  have HQ2 : Hid (Hq B w2 M c (base l ++ [nthT l 0])) := H.out.apart ha2 ho2 (by rw [one_len, HN.out.2, hn])
  have HB2 : Hid (But B M w1 w2) := But.apart ha2
  have HD := down_any B M c (base l) (nthT l 0) w2 HQ2.out (by rw [HN.out.2]; omega)
  rw [HN.out.2] at HD
  clear ho2 ha2 HS hlen hswp
  go_wp2_with fail
  refine HD.mono ?_
  rintro e w3 ⟨⟨b, rfl⟩, hq3, hb3⟩
  have HQ3 : Hid (Hq B w3 M c (takeT l ++ [nthT l 0])) := hq3
  have HB3 : Hid (But B M w1 w3) := HB2.out.trans hb3
  have HP := popM_any B M c (takeT l) (nthT l 0) w3 HQ3.out
  have hp := meth_pop B w3
  clear hq3 hb3 HD
  go_wp2_with fail
  refine HP.mono ?_
  rintro e w4 ⟨rfl, hq4, hb4⟩
  have HQ4 : Hid (Hq B w4 M c (takeT l)) := hq4
  have HB4 : Hid (But B M w1 w4) := HB3.out.trans hb4
  clear hq4 hb4 HP hp
  go_wp2
  go_ret
  exact ⟨rfl, HQ4.out, HB4.out⟩
theorem take_nil : takeT [] = [] := List.eq_nil_of_length_eq_zero (Hp.take_len [])
theorem hq_set {B M c R : Nat} {w : World} {l : List Tm} (h : Hq B w M c l) (hB : R ≠ B) (hM : R ≠ M) (i : Nat) (v : Value) : Hq B (w.setCell ⟨R, i, none⟩ v) M c l := by
  obtain ⟨cs, h1, h2⟩ := h.row.row
  exact ⟨h.var.set_other hB _, ⟨h.row.lo, h.row.le, h.row.cap, cs, h1.set_other hM _, h2⟩, h.ne⟩
theorem but_set {B M R : Nat} {a w : World} (h : But B M a w) (hR : a.heap.size ≤ R) (i : Nat) (v : Value) : But B M a (w.setCell ⟨R, i, none⟩ v) :=
  ⟨h.os, h.tape, h.output, by rw [Blk.size_setCell]; exact h.size, fun k hk h1 h2 => (Below.heap_setCell _ _ _ _ (by show k ≠ R; omega)).trans (h.block k hk h1 h2)⟩
set_option maxHeartbeats 800000 in
theorem take_any (B M c : Nat) (l : List Tm) (w : World) (h : Hq B w M c l) (hl : l.length ≤ 20000000) :
    Calls Try.prog 43 #[.pointer (some ⟨B, 0, none⟩)] w fun e w' => e = .returned (.tuple #[.agg #[.int .i64 (fstT l).1, .int .i64 (fstT l).2], .bool (anyT l)]) ∧ Hq B w' M c (takeT l) ∧ But B M w w' := by
  have hBl := h.var.lt
  have hMl := h.row.lt
  have HR : Hid (w.heap.size ≠ B ∧ w.heap.size ≠ M) := ⟨by omega, by omega⟩
  go_enter Try.func43, Try.ntmps43
  go_upto_region 1 with fail
  generalize hW : w.alloc (.cells #[.int .i64 0, .int .i64 0] 26) = W
  have HX : Hid (Blk W w.heap.size #[.int .i64 0, .int .i64 0] 26) := by rw [← hW]; exact Blk.new _ _ _
  have HB : Hid (Below w.heap.size w W) := by rw [← hW]; exact Go.Joins.below_alloc1 w _
  have HQ : Hid (Hq B W M c l) := h.grow HB.out
  have hc := HQ.out.cell
  clear hW h
  by_cases h0 : l = []
  · have HL : Hid (l.length = 0) := by rw [h0]; rfl
    have HF : Hid (fstT l = (0, 0) ∧ anyT l = false ∧ takeT l = l) := ⟨if_pos h0, by unfold anyT; simp [h0], by rw [h0, take_nil]⟩
    have x0 := HX.out.cell 0
    have x1 := HX.out.cell 1
    have y0 := HX.out.frozen 0
    have y1 := HX.out.frozen 1
    rw [HL.out] at hc
    clear h0
    go_wp2_with fail
    refine (len_any _ 0 c W).mono ?_
    rintro e w1 ⟨rfl, rfl⟩
    go_wp2
    have hs : Blk ((w1.setCell ⟨w.heap.size, 0, none⟩ (.int .i64 0)).setCell ⟨w.heap.size, 1, none⟩ (.int .i64 0)) w.heap.size #[.int .i64 0, .int .i64 0] 26 := ((HX.out.set 0 _).set 1 _)
    have r0 := hs.cell 0
    have r1 := hs.cell 1
    refine bodyPost_ret (v := .tuple #[.agg #[.int .i64 0, .int .i64 0], .bool false]) (by simp [results, Try.results43, go_sem, r0, r1]) rfl ?_
    exact ⟨by rw [HF.out.1, HF.out.2.1], by rw [HF.out.2.2]; exact hq_set (hq_set HQ.out HR.out.1 HR.out.2 _ _) HR.out.1 HR.out.2 _ _, but_set (but_set (But.of HB.out) (Nat.le_refl _) _ _) (Nat.le_refl _) _ _⟩
  · obtain ⟨n, hn⟩ : ∃ n, l.length = n + 1 := ⟨l.length - 1, by have := List.length_pos_iff.2 h0; omega⟩
    have HF : Hid (fstT l = nthT l 0 ∧ anyT l = true) := ⟨if_neg h0, decide_eq_true h0⟩
    have HP := popH_any B M c n l W HQ.out hn hl
    rw [hn] at hc
    have hnb : (n : Int) ≤ 20000000 := by omega
    clear h0
    go_wp2_with fail
    refine (len_any _ (n + 1) c W).mono ?_
    rintro e w1 ⟨rfl, rfl⟩
    go_wp2_with fail
    refine HP.mono ?_
    rintro e w3 ⟨rfl, hq3, hb3⟩
    have HQ3 : Hid (Hq B w3 M c (takeT l)) := hq3
    have HB3 : Hid (But B M w w3) := (But.of HB.out).trans hb3
    have HX3 : Hid (Blk w3 w.heap.size #[.int .i64 0, .int .i64 0] 26) := (⟨hb3, .inl rfl⟩ : Step B w1 M w3 M).blk HX.out HR.out.1 HR.out.2
    have hta := fun xT => assert_tm (.agg #[.int .i64 (nthT l 0).1, .int .i64 (nthT l 0).2]) xT w3
    have x0 := HX3.out.cell 0
    have x1 := HX3.out.cell 1
    have y0 := HX3.out.frozen 0
    have y1 := HX3.out.frozen 1
    have hlt3 := HX3.out.lt
    clear hq3 hb3 HP
    go_upto_region 4 with fail
    generalize hW : w3.alloc (.cells #[.int .i64 (nthT l 0).1, .int .i64 (nthT l 0).2] 26) = W4
    have HY4 : Hid (Blk W4 w3.heap.size #[.int .i64 (nthT l 0).1, .int .i64 (nthT l 0).2] 26) := by rw [← hW]; exact Blk.new _ _ _
    have HB4 : Hid (Below w3.heap.size w3 W4) := by rw [← hW]; exact Go.Joins.below_alloc1 w3 _
    have HX4 : Hid (Blk W4 w.heap.size #[.int .i64 0, .int .i64 0] 26) := HX3.out.grow HB4.out
    clear hW x0 x1 y0 y1
    have x0 := HX4.out.cell 0
    have x1 := HX4.out.cell 1
    have y0 := HX4.out.frozen 0
    have y1 := HX4.out.frozen 1
    have z0 := HY4.out.cell 0
    have z1 := HY4.out.cell 1
    go_wp2
    have hs : Blk ((W4.setCell ⟨w.heap.size, 0, none⟩ (.int .i64 (nthT l 0).1)).setCell ⟨w.heap.size, 1, none⟩ (.int .i64 (nthT l 0).2)) w.heap.size #[.int .i64 (nthT l 0).1, .int .i64 (nthT l 0).2] 26 := ((HX4.out.set 0 _).set 1 _)
    have r0 := hs.cell 0
    have r1 := hs.cell 1
    refine bodyPost_ret (v := .tuple #[.agg #[.int .i64 (nthT l 0).1, .int .i64 (nthT l 0).2], .bool true]) (by simp [results, Try.results43, go_sem, r0, r1]) rfl ?_
    exact ⟨by rw [HF.out.1, HF.out.2], hq_set (hq_set (HQ3.out.grow HB4.out) HR.out.1 HR.out.2 _ _) HR.out.1 HR.out.2 _ _, but_set (but_set (HB3.out.trans (But.of HB4.out)) (Nat.le_refl _) _ _) (Nat.le_refl _) _ _⟩
end Go.Proofs.Ytcjhieknmblbbaa.HpL
