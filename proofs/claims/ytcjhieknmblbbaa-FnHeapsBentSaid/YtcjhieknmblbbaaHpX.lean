/-
  PROVED: what spec.l10Any draws, and the draws of chapter 10: rows of timers in memory of their own, of at most seventeen.
-/
import Derived.Test.YtcjhieknmblbbaaHpW
namespace Go.Proofs.Ytcjhieknmblbbaa.HpX
open Go.RowKit
open Go.Proofs.Ytcjhieknmblbbaa.Hp Go.Proofs.Ytcjhieknmblbbaa.Tms Go.Proofs.Ytcjhieknmblbbaa.TmO Go.Proofs.Ytcjhieknmblbbaa.TmR Go.Proofs.Ytcjhieknmblbbaa.HpS Go.Proofs.Ytcjhieknmblbbaa.HpD Go.Proofs.Ytcjhieknmblbbaa.HpT Go.Proofs.Ytcjhieknmblbbaa.HpO Go.Proofs.Ytcjhieknmblbbaa.HpW Go.Proofs.Ytcjhieknmblbbaa.Over Go.Proofs.Ytcjhieknmblbbaa.Blk Go.Proofs.Ytcjhieknmblbbaa.App Go.Proofs.Ytcjhieknmblbbaa.Draw
set_option linter.unusedVariables false
theorem dh_app {w w2 w5 : World} {c M k M5 k5 : Nat} {l m : List Tm} {o : Obj} (h : DH w c w2 M k l) (hg : (w2.alloc o).grownBy w5 (some M)) (hot : OT w.heap.size w5 M5 k5 m) : DH w c w5 M5 k5 m :=
  ⟨hot, (cur_below h.cur (Go.Joins.below_alloc1 w2 o)).grown hg (fun j hj => by cases hj; have := h.row.lo; have := h.clt; omega), kept_row (h.kept.alloc o) hg (fun j hj => by cases hj; exact h.row.lo), h.clt⟩
theorem dh_hold {w w2 w3 : World} {c M k : Nat} {l : List Tm} (h : DH w c w2 M k l) (hc : Cur w3 c) (hk : Kept c w2 w3) : DH w c w3 M k l := ⟨ot_hold h.row hk h.clt, hc, h.kept.trans hk, h.clt⟩
set_option maxHeartbeats 1600000 in
theorem l10Any_any (c : Nat) (w : World) (hc : Cur w c) :
    Calls Try.prog 47 #[.pointer (some ⟨c, 0, none⟩)] w fun r w' => ∃ (M k : Nat) (l : List Tm), r = .returned (.slice (some ⟨M, 0, none⟩) l.length k) ∧ DH w c w' M k l ∧ l.length ≤ 17 := by
  have HC : Hid (Cur w c) := hc
  clear hc
  obtain ⟨i0, hi, hz0, hz1, hz2⟩ := infoH
  have HI : Hid (Try.prog.info? 26 = some i0 ∧ i0.zero = some (.agg #[.int .i64 0, .int .i64 0]) ∧ i0.size = 2 ∧ i0.bytes = 16) := ⟨hi, hz0, hz1, hz2⟩
  clear hi hz0 hz1 hz2
  go_enter Try.func47, Try.ntmps47
  go_wp2_with fail
  refine (l10Draw_any c _ HC.out).mono ?_
  rintro r w1 ⟨M, k, l, rfl, hd, -, -, hl⟩
  have HD1 : Hid (DH w c w1 M k l) := hd
  clear hd
  go_wp2_with fail
  refine (below_any c 8 _ HD1.out.cur (by decide) (by decide)).mono ?_
  rintro r w2 ⟨⟨y, rfl, hy0, hy1⟩, hc2, hk2⟩
  have HD : Hid (DH w c w2 M k l) := dh_hold HD1.out hc2 hk2
  have HL : Hid (l.length ≤ 8) := hl
  clear HD1 hc2 hk2 hl
  obtain ⟨n, hn⟩ : ∃ n, l.length = n := ⟨_, rfl⟩
  have HN : Hid (l.length = n) := hn
  have hn8 : n ≤ 8 := by have := HL.out; omega
  rw [hn]
  clear hn
  by_cases h0 : y = 0
  ·
    subst h0
    clear hy0 hy1
    go_wp2_with fail
    refine (l10Timer_any c _ HD.out.cur).mono ?_
    rintro r w3 ⟨⟨t, rfl, ht⟩, hc3, hk3⟩
    have HD3 : Hid (DH w c w3 M k l) := dh_hold HD.out hc3 hk3
    clear HD ht hc3 hk3
    have HD : Hid (DH w c w3 M k l) := HD3.out
    clear HD3
    have HOX : Hid (∀ x', Below w3.heap.size w3 x' → x'.ownsRow w.heap.size 26 2 (.slice (some ⟨M, 0, none⟩) n k) n (flatT l)) := fun x' h => by rw [← HN.out]; exact (HD.out.row.grow h).own
    have hn9 : n ≤ 100 := by omega
    go_wp2_with (at_builtin; refine wpList_append_own_at _ rfl _ _ 24 rfl w.heap.size 26 i0 (.agg #[.int .i64 0, .int .i64 0]) 2 16 Try.underlying24 HI.out.1 HI.out.2.1 HI.out.2.2.1 HI.out.2.2.2 rfl (by decide) _ _ _ rfl (HOX.out _ (Go.Joins.below_alloc1 w3 _)) ⟨w3.heap.size, 0, none⟩ 1 1 (flatT [t]) rfl ?a0 ?a1 (flat_one _) ?a3 ?a4 ?a5 ?_)
    case a0 => rfl
    case a1 => exact blk_news (cs := #[.int .i64 t.1, .int .i64 t.2]) (Blk.new _ _ _)
    case a3 => unfold maxLen; omega
    case a4 => omega
    case a5 => have := HD.out.kept.size; simp; omega
    intro v' w5 hown hg hnil hat
    have hown3 : w5.ownsRow w.heap.size 26 2 v' (l ++ [t]).length (flatT (l ++ [t])) := by rw [flat_app, List.length_append, HN.out]; exact hown
    obtain ⟨M5, k5, ev, hot⟩ := ot_of hown3 (fun e => by first | exact hnil e | (have := (hnil.1 e).1; cases this))
    subst ev
    have HZ : Hid (DH w c w5 M5 k5 (l ++ [t])) := dh_app HD.out (by simpa [Value.ownBlock] using hg) hot
    have hl5 : (l ++ [t]).length = n + 1 := by rw [List.length_append, HN.out]; rfl
    have HL5 : Hid ((l ++ [t]).length = n + 1) := hl5
    rw [hl5]
    clear hown hown3 hg hnil hat hot hl5 HOX hn9
    go_wp2
    go_ret
    exact ⟨M5, k5, _, by rw [HL5.out]; rfl, HZ.out, by rw [HL5.out]; omega⟩
  by_cases h1 : y = 1
  ·
    subst h1
    clear hy0 hy1 h0
    have HOX : Hid (∀ x', Below w2.heap.size w2 x' → x'.ownsRow w.heap.size 26 2 (.slice (some ⟨M, 0, none⟩) n k) n (flatT l)) := fun x' h => by rw [← HN.out]; exact (HD.out.row.grow h).own
    have hn9 : n ≤ 100 := by omega
    go_wp2_with (at_builtin; refine wpList_append_own_at _ rfl _ _ 24 rfl w.heap.size 26 i0 (.agg #[.int .i64 0, .int .i64 0]) 2 16 Try.underlying24 HI.out.1 HI.out.2.1 HI.out.2.2.1 HI.out.2.2.2 rfl (by decide) _ _ _ rfl (HOX.out _ (Go.Joins.below_alloc1 w2 _)) ⟨w2.heap.size, 0, none⟩ 1 1 (flatT [(-1, 0)]) rfl ?b0 ?b1 (flat_one _) ?b3 ?b4 ?b5 ?_)
    case b0 => rfl
    case b1 => exact blk_news (cs := #[.int .i64 (-1), .int .i64 0]) (Blk.new _ _ _)
    case b3 => unfold maxLen; omega
    case b4 => omega
    case b5 => have := HD.out.kept.size; simp; omega
    intro v' w5 hown hg hnil hat
    have hown3 : w5.ownsRow w.heap.size 26 2 v' (l ++ [(-1, 0)]).length (flatT (l ++ [(-1, 0)])) := by rw [flat_app, List.length_append, HN.out]; exact hown
    obtain ⟨M5, k5, ev, hot⟩ := ot_of hown3 (fun e => by first | exact hnil e | (have := (hnil.1 e).1; cases this))
    subst ev
    have HZ : Hid (DH w c w5 M5 k5 (l ++ [(-1, 0)])) := dh_app HD.out (by simpa [Value.ownBlock] using hg) hot
    have hl5 : (l ++ [(-1, 0)]).length = n + 1 := by rw [List.length_append, HN.out]; rfl
    have HL5 : Hid ((l ++ [(-1, 0)]).length = n + 1) := hl5
    rw [hl5]
    clear hown hown3 hg hnil hat hot hl5 HOX hn9
    go_wp2
    go_ret
    exact ⟨M5, k5, _, by rw [HL5.out]; rfl, HZ.out, by rw [HL5.out]; omega⟩
  have b0 : (y == 0) = false := by simpa using h0
  have b1 : (y == 1) = false := by simpa using h1
  by_cases h2 : y = 2
  ·
    have b2 : (y == 2) = true := by simpa using h2
    clear h0 h1 h2 hy0 hy1
    go_wp2
    go_loopw [3] (fun s w' => ∃ (M k n : Nat) (l : List Tm), s = .slice (some ⟨M, 0, none⟩) n k ∧ l.length = n ∧ n ≤ 17 ∧ DH w c w' M k l) (fun s _ => 17 - slLen s)
    case atStart => exact ⟨M, k, n, l, rfl, HN.out, by omega, HD.out⟩
    case round =>
      clear HN HD HL hn8
      obtain ⟨M, k, n, l, rfl, hn, hn8, hd⟩ := hrel
      have HN : Hid (l.length = n) := hn
      have HD : Hid (DH w c wr M k l) := hd
      clear hn hd
      by_cases h17 : n < 17
      · have h17' : (n : Int) < 17 := by omega
        have HOX : Hid (∀ x', Below wr.heap.size wr x' → x'.ownsRow w.heap.size 26 2 (.slice (some ⟨M, 0, none⟩) n k) n (flatT l)) := fun x' h => by rw [← HN.out]; exact (HD.out.row.grow h).own
        have hn9 : n ≤ 100 := by omega
        go_wp2_with (at_builtin; refine wpList_append_own_at _ rfl _ _ 24 rfl w.heap.size 26 i0 (.agg #[.int .i64 0, .int .i64 0]) 2 16 Try.underlying24 HI.out.1 HI.out.2.1 HI.out.2.2.1 HI.out.2.2.2 rfl (by decide) _ _ _ rfl (HOX.out _ (Go.Joins.below_alloc1 wr _)) ⟨wr.heap.size, 0, none⟩ 1 1 (flatT [(20, 0)]) rfl ?d0 ?d1 (flat_one _) ?d3 ?d4 ?d5 ?_)
        case d0 => rfl
        case d1 => exact blk_news (cs := #[.int .i64 20, .int .i64 0]) (Blk.new _ _ _)
        case d3 => unfold maxLen; omega
        case d4 => omega
        case d5 => have := HD.out.kept.size; simp; omega
        intro v' w5 hown hg hnil hat
        have hown3 : w5.ownsRow w.heap.size 26 2 v' (l ++ [(20, 0)]).length (flatT (l ++ [(20, 0)])) := by rw [flat_app, List.length_append, HN.out]; exact hown
        obtain ⟨M5, k5, ev, hot⟩ := ot_of hown3 (fun e => by first | exact hnil e | (have := (hnil.1 e).1; cases this))
        subst ev
        have HZ : Hid (DH w c w5 M5 k5 (l ++ [(20, 0)])) := dh_app HD.out (by simpa [Value.ownBlock] using hg) hot
        have hl5 : (l ++ [(20, 0)]).length = n + 1 := by rw [List.length_append, HN.out]; rfl
        have HL5 : Hid ((l ++ [(20, 0)]).length = n + 1) := hl5
        rw [hl5]
        clear hown hown3 hg hnil hat hot hl5 HOX hn9
        go_wp2
        go_roundw
        case rel => exact ⟨M5, k5, n + 1, _, rfl, HL5.out, by omega, HZ.out⟩
        case measure => simp [slLen]; omega
      · have h17' : ¬ (n : Int) < 17 := by omega
        go_wp2
        go_ret
        exact ⟨M, k, l, by rw [HN.out]; rfl, HD.out, by rw [HN.out]; exact hn8⟩
  have b2 : (y == 2) = false := by simpa using h2
  clear h0 h1 h2 hy0 hy1
  go_wp2
  go_ret
  exact ⟨M, k, l, by rw [HN.out]; rfl, HD.out, by rw [HN.out]; omega⟩
end Go.Proofs.Ytcjhieknmblbbaa.HpX
