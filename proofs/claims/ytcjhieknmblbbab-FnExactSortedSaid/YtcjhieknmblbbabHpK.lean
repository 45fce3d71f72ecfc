/-
  PROVED: the library's heap.up, heap.Push over the program's heap.
-/
import Derived.Test.YtcjhieknmblbbabHpKP
import Derived.Handy
namespace Go.Proofs.Ytcjhieknmblbbab.HpK
open Go.RowKit
open Go.Proofs.Ytcjhieknmblbbab.Hp Go.Proofs.Ytcjhieknmblbbab.Tms Go.Proofs.Ytcjhieknmblbbab.TmO Go.Proofs.Ytcjhieknmblbbab.TmR Go.Proofs.Ytcjhieknmblbbab.HpS Go.Proofs.Ytcjhieknmblbbab.HpA Go.Proofs.Ytcjhieknmblbbab.HpJ Go.Proofs.Ytcjhieknmblbbab.HpKP Go.Proofs.Ytcjhieknmblbbab.Over Go.Proofs.Ytcjhieknmblbbab.Blk Go.Proofs.Ytcjhieknmblbbab.App
open Go.Proofs.Ytcjhieknmblbbab.Mark (Apart)
set_option linter.unusedVariables false
theorem swp_comm {l : List Tm} {i j : Nat} (h : i ≠ j) : swp l i j = swp l j i := by
  unfold swp; exact List.set_comm _ _ h
set_option maxHeartbeats 800000 in
theorem up_any (B M c : Nat) (l : List Tm) (j : Nat) (w : World) (h : Hq B w M c l) (hj : j < l.length) :
    Calls Try.prog 29 #[.iface 47 (.pointer (some ⟨B, 0, none⟩)), .int .i64 j] w fun e w' => e = .returned (.tuple #[]) ∧ Hq B w' M c (up l j) ∧ But B M w w' := by
  have hcap := h.row.cap
  have hle := h.row.le
  unfold maxLen at hcap
  have H : Hid (Hq B w M c l) := h
  clear h
  go_enter Try.func29, Try.ntmps29
  go_wp2
  go_loopw [1] (fun i w' => ∃ (k : Nat) (m : List Tm), i = .int .i64 k ∧ k ≤ j ∧ m.length = l.length ∧ up m k = up l j ∧ Hq B w' M c m ∧ But B M w w') (fun i _ => (intOf i).toNat)
  case atStart => exact ⟨j, l, rfl, Nat.le_refl _, rfl, rfl, H.out, But.refl _ _ _⟩
  case round =>
    obtain ⟨k, m, rfl, hk, hm, hu, hq, hb⟩ := hrel
    have HM : Hid (m.length = l.length ∧ up m k = up l j) := ⟨hm, hu⟩
    have HQ : Hid (Hq B wr M c m) := hq
    have HB : Hid (But B M w wr) := hb
    clear hm hu hq hb
    by_cases k0 : k = 0
    · subst k0
      have HU : Hid (up m 0 = m) := up_stop (fun h => absurd h.1 (by omega))
      go_wp2
      go_end0
      exact ⟨rfl, by rw [← HM.out.2, HU.out]; exact HQ.out, HB.out⟩
    · have hq : Int.tdiv ((k : Int) - 1) 2 = ((par k : Nat) : Int) := by unfold par; rw [Int.tdiv_eq_ediv_of_nonneg (by omega)]; omega
      have hpk : par k < k := by unfold par; omega
      have hc := meth_less B _ wr HQ.out.cell
      have HL := less_any M c m k (par k) wr HQ.out.row (by rw [HM.out.1]; omega) (by rw [HM.out.1]; omega)
      by_cases cb : befB (nthT m k) (nthT m (par k)) = true
      · rw [cb] at HL
        have HG : Hid (up (swp m k (par k)) (par k) = up l j ∧ (swp m k (par k)).length = l.length) := ⟨by rw [← HM.out.2, up_go (by omega) cb], by rw [swp_len]; exact HM.out.1⟩
        have HW : Hid (par k < k ∧ k < m.length) := ⟨hpk, by rw [HM.out.1]; omega⟩
        clear cb
        generalize par k = q at *
        have hne : (q == k) = false := by simp; omega
        go_wp2_with fail
        refine HL.mono ?_
        rintro e w2 ⟨rfl, hb2⟩
        have HQ2 : Hid (Hq B w2 M c m) := HQ.out.grow hb2
        have HB2 : Hid (But B M w w2) := HB.out.trans (But.of hb2)
        have hc2 := meth_swap B _ w2 HQ2.out.cell
        have HS := swap_any M c m q k w2 HQ2.out.row HW.out.2 (Nat.le_of_lt HW.out.1)
        clear hb2 HL hc
        go_wp2_with fail
        refine HS.mono ?_
        rintro e w3 ⟨rfl, ho3, ha3⟩
        have HQ3 : Hid (Hq B w3 M c (swp m q k)) := HQ2.out.apart ha3 ho3 (swp_len _ _ _)
        have HB3 : Hid (But B M w w3) := HB2.out.trans (But.apart ha3)
        clear ho3 ha3 HS hc2
        go_wp2
        go_roundw
        case rel => exact ⟨q, swp m q k, by go_num, by omega, by rw [swp_len]; exact HM.out.1, by rw [← HG.out.1, swp_comm (Nat.ne_of_lt HW.out.1)], HQ3.out, HB3.out⟩
        case measure => simp [intOf]; have := HW.out; omega
      · have cb' : befB (nthT m k) (nthT m (par k)) = false := by simpa using cb
        rw [cb'] at HL
        have HU : Hid (up m k = m) := up_stop (fun h => cb h.2)
        clear cb cb'
        generalize par k = q at *
        have hne : (q == k) = false := by simp; omega
        go_wp2_with fail
        refine HL.mono ?_
        rintro e w2 ⟨rfl, hb2⟩
        have HQ2 : Hid (Hq B w2 M c m) := HQ.out.grow hb2
        have HB2 : Hid (But B M w w2) := HB.out.trans (But.of hb2)
        clear hb2 HL hc
        go_wp2
        go_end0
        exact ⟨rfl, by rw [← HM.out.2, HU.out]; exact HQ2.out, HB2.out⟩

theorem up_put (l : List Tm) (t : Tm) : up (l ++ [t]) l.length = putT l t := rfl
set_option maxHeartbeats 800000 in
theorem pushH_any (B M c : Nat) (l : List Tm) (t : Tm) (w : World) (h : Hq B w M c l) (hl : l.length ≤ 20000000) :
    Calls Try.prog 26 #[.iface 47 (.pointer (some ⟨B, 0, none⟩)), .iface 33 (.agg #[.int .i64 t.1, .int .i64 t.2])] w fun e w' => e = .returned (.tuple #[]) ∧ ∃ M' c', Hq B w' M' c' (putT l t) ∧ Step B w M w' M' := by
  have HL : Hid ((l ++ [t]).length = l.length + 1) := by unfold Hid; simp
  have hp := meth_push B w
  have HP := pushM_any B M c l t w h hl
  clear h
  go_enter Try.func26, Try.ntmps26
  go_wp2_with fail
  refine HP.mono ?_
  rintro e w1 ⟨rfl, M1, c1, hq1, hs1⟩
  have HQ1 : Hid (Hq B w1 M1 c1 (l ++ [t])) := hq1
  have HS1 : Hid (Step B w M w1 M1) := hs1
  have hc := meth_len B _ w1 hq1.cell
  rw [HL.out] at hc
  clear HP hp hq1 hs1
  go_wp2_with fail
  refine (len_any _ _ _ w1).mono ?_
  rintro e w2 ⟨rfl, rfl⟩
  have HU := up_any B M1 c1 (l ++ [t]) l.length w2 HQ1.out (by rw [HL.out]; omega)
  clear hc
  have e1 : (((l.length + 1 : Nat) : Int)) - 1 = (l.length : Int) := by omega
  go_wp2_with fail
  refine HU.mono ?_
  rintro e w3 ⟨rfl, hq3, hb3⟩
  have HQ3 : Hid (Hq B w3 M1 c1 (putT l t)) := hq3
  have HS3 : Hid (Step B w M w3 M1) := HS1.out.trans ⟨hb3, .inl rfl⟩
  clear hq3 hb3 HU
  go_wp2
  go_end0
  exact ⟨rfl, M1, c1, HQ3.out, HS3.out⟩
set_option maxHeartbeats 800000 in
theorem put_any (B M c : Nat) (l : List Tm) (t : Tm) (w : World) (h : Hq B w M c l) (hl : l.length ≤ 20000000) :
    Calls Try.prog 19 #[.pointer (some ⟨B, 0, none⟩), .agg #[.int .i64 t.1, .int .i64 t.2]] w fun e w' => e = .returned (.tuple #[]) ∧ ∃ M' c', Hq B w' M' c' (putT l t) ∧ Step B w M w' M' := by
  have HB : Hid (Below w.heap.size w (w.alloc (.cells #[.int .i64 t.1, .int .i64 t.2] 33))) := Go.Joins.below_alloc1 w _
  have HP := pushH_any B M c l t _ (h.grow HB.out) hl
  clear h
  go_enter Try.func19, Try.ntmps19
  go_wp2_with fail
  refine HP.mono ?_
  rintro e w1 ⟨rfl, M1, c1, hq1, hs1⟩
  have HQ1 : Hid (Hq B w1 M1 c1 (putT l t)) := hq1
  have HS1 : Hid (Step B w M w1 M1) := (Step.of HB.out).trans hs1
  clear HP hq1 hs1
  go_wp2
  go_end0
  exact ⟨rfl, M1, c1, HQ1.out, HS1.out⟩
end Go.Proofs.Ytcjhieknmblbbab.HpK
