/-
  PROVED: spec.Sorted answers a row of the call's own that holds what is taken one behind the other; laws.sameHeap tells whether two rows hold the same; nothing that was there is changed.
-/
import Derived.Test.YtcjhieknmblbbaaHpT
namespace Go.Proofs.Ytcjhieknmblbbaa.HpO
open Go.RowKit
open Go.Proofs.Ytcjhieknmblbbaa.Hp Go.Proofs.Ytcjhieknmblbbaa.Tms Go.Proofs.Ytcjhieknmblbbaa.TmO Go.Proofs.Ytcjhieknmblbbaa.TmR Go.Proofs.Ytcjhieknmblbbaa.HpS Go.Proofs.Ytcjhieknmblbbaa.HpD Go.Proofs.Ytcjhieknmblbbaa.HpT Go.Proofs.Ytcjhieknmblbbaa.Over Go.Proofs.Ytcjhieknmblbbaa.Blk Go.Proofs.Ytcjhieknmblbbaa.App
set_option linter.unusedVariables false
theorem ot_far {lo M c : Nat} {w w' : World} {l : List Tm} {row : Option Nat} (h : OT lo w M c l) (hg : w.grownBy w' row) (hne : some M ≠ row) : OT lo w' M c l :=
  ⟨h.lo, h.le, h.cap, by obtain ⟨cs, h1, h2⟩ := h.row; exact ⟨cs, blk_far h1 hg hne, h2⟩⟩
theorem sort_end {l m : List Tm} (h : sortT l = m ++ sortT []) : m = sortT l := by rw [h]; show m = m ++ []; rw [List.append_nil]
theorem sort_go {l m k : List Tm} (h : sortT l = m ++ sortT k) (hk : k ≠ []) : sortT l = (m ++ [nthT k 0]) ++ sortT (takeT k) := by
  rw [h, sort_cons hk, List.append_assoc]; rfl
def slLen : Value → Nat
  | .slice _ n _ => n
  | _ => 0
theorem sort_length (l : List Tm) : (sortT l).length = l.length := sort_len _ _

set_option maxRecDepth 100000 in
set_option maxHeartbeats 4000000 in
theorem specSorted_any (g o cap : Nat) (l : List Tm) (w : World) (hr : RdT w (some ⟨g, o, none⟩) l) (hl : l.length ≤ 10000000) :
    Calls Try.prog 28 #[.slice (some ⟨g, o, none⟩) l.length cap] w fun e w' => (∃ M c, e = .returned (.slice (some ⟨M, 0, none⟩) (sortT l).length c) ∧ OT w.heap.size w' M c (sortT l)) ∧ Below w.heap.size w w' := by
  have HR : Hid (RdT w (some ⟨g, o, none⟩) l) := hr
  clear hr
  obtain ⟨i0, hi, hz0, hz1, hz2⟩ := infoH
  have HI : Hid (Try.prog.info? 26 = some i0 ∧ i0.zero = some (.agg #[.int .i64 0, .int .i64 0]) ∧ i0.size = 2 ∧ i0.bytes = 16) := ⟨hi, hz0, hz1, hz2⟩
  clear hi hz0 hz1 hz2
  have HO : Hid (((w.alloc (.cells #[] 26)).alloc (.cells #[] 26)).ownsRow w.heap.size 26 2 (.slice (some ⟨w.heap.size + 1, 0, none⟩) 0 0) 0 []) := own_empty (Blk.new_at (by simp)) (Nat.le_succ _)
  go_enter Try.func28, Try.ntmps28
  go_wp2_with (at_builtin; refine wpList_append_own_at _ rfl _ _ 24 rfl w.heap.size 26 i0 (.agg #[.int .i64 0, .int .i64 0]) 2 16 Try.underlying24 HI.out.1 HI.out.2.1 HI.out.2.2.1 HI.out.2.2.2 rfl (by decide) _ _ _ rfl HO.out ⟨g, o, none⟩ l.length cap (flatT l) rfl ?c0 ?c1 (flat_one _) ?c3 ?c4 ?c5 ?_)
  case c0 => exact flat_len l
  case c1 => exact src_of (HR.out.below (Go.Joins.below_alloc2 w _ _))
  case c3 => unfold maxLen; omega
  case c4 => omega
  case c5 => simp; omega
  intro v' w4 hown hg hnil hat
  obtain ⟨M, c, ev, hot⟩ := ot_of (l := l) hown (fun e => by first | exact hnil e | (have := (hnil.1 e).1; cases this))
  subst ev
  have HM : Hid (OT w.heap.size w4 M c l ∧ Below w.heap.size w w4 ∧ OT w.heap.size w4 w.heap.size 0 [] ∧ w.heap.size ≠ M) := by
    simp [Value.ownBlock] at hat
    exact ⟨hot, (Go.Joins.below_alloc2 w _ _).grown hg (by simp; omega) (by simp [Value.ownBlock]), ot_far ((ot_nil (Nat.le_refl _)).grow (Go.Joins.below_alloc1 _ _)) hg (by simp [Value.ownBlock]), by omega⟩
  have HL : Hid (sortT l = [] ++ sortT l) := rfl
  clear hown hg hnil hot HO hat
  go_upto_region 3 with fail
  go_loopw [3, 4] (fun s r w' => ∃ (M1 c1 n1 M2 c2 n2 : Nat) (x y : List Tm), s = .slice (some ⟨M1, 0, none⟩) n1 c1 ∧ r = .slice (some ⟨M2, 0, none⟩) n2 c2 ∧ n1 = x.length ∧ n2 = y.length ∧ OT w.heap.size w' M1 c1 x ∧ OT w.heap.size w' M2 c2 y ∧ M1 ≠ M2 ∧ sortT l = x ++ sortT y ∧ Below w.heap.size w w') (fun _ r _ => slLen r)
  case atStart => exact ⟨w.heap.size, 0, 0, M, c, l.length, [], l, rfl, rfl, rfl, rfl, HM.out.2.2.1, HM.out.1, HM.out.2.2.2, HL.out, HM.out.2.1⟩
  case round =>
    clear HM HL
    obtain ⟨M1, c1, n1, M2, c2, n2, x, y, rfl, rfl, hx, hy, hox, hoy, hne, hs, hb⟩ := hrel
    have hlen : x.length + y.length = l.length := by have := congrArg List.length hs; rw [sort_length, List.length_append, sort_length] at this; omega
    have HN : Hid (n1 = x.length ∧ n2 = y.length) := ⟨hx, hy⟩
    have HX : Hid (OT w.heap.size wr M1 c1 x) := hox
    have HY : Hid (OT w.heap.size wr M2 c2 y) := hoy
    have HE : Hid (M1 ≠ M2) := hne
    have HS : Hid (sortT l = x ++ sortT y) := hs
    have HB : Hid (Below w.heap.size w wr) := hb
    have hn1 : n1 ≤ 10000000 := by omega
    by_cases h0 : y = []
    · have db : decide (0 < n2) = false := decide_eq_false (by rw [hy, h0]; simp)
      have HF : Hid (x = sortT l) := sort_end (by rw [← h0]; exact hs)
      clear hx hy hox hoy hne hs hb h0 hlen
      go_wp2
      go_ret
      exact ⟨⟨M1, c1, by rw [← HF.out, ← HN.out.1]; rfl, by rw [← HF.out]; exact HX.out⟩, HB.out⟩
    · have hyl : 0 < n2 := by rw [hy]; exact List.length_pos_iff.2 h0
      have db : decide (0 < n2) = true := decide_eq_true hyl
      have HG : Hid (sortT l = (x ++ [nthT y 0]) ++ sortT (takeT y)) := sort_go hs h0
      have HQ : Hid ((takeT y).length + 1 = n2) := by unfold Hid; rw [Hp.take_len]; omega
      have HC : Hid (Calls Try.prog 20 #[.slice (some ⟨M2, 0, none⟩) n2 c2] wr fun e w' => (∃ M c, e = .returned (.tuple #[.slice (some ⟨M, 0, none⟩) (takeT y).length c, .agg #[.int .i64 (nthT y 0).1, .int .i64 (nthT y 0).2], .bool true]) ∧ OT wr.heap.size w' M c (takeT y)) ∧ Below wr.heap.size wr w') := by
        rw [hy]
        refine (specTake_any M2 0 c2 y wr hoy.rd (by omega) hoy.le).mono ?_
        rintro e w' ⟨⟨M, c, he, ho⟩, hb⟩
        exact ⟨⟨M, c, by rw [he]; exact retT rfl (if_neg h0) (decide_eq_true h0), ho⟩, hb⟩
      clear hx hy hox hoy hne hs hb h0 hlen
      go_wp2_with fail
      refine HC.out.mono ?_
      rintro e w2 ⟨⟨M3, c3, rfl, ho3⟩, hb2⟩
      have HB2 : Hid (Below w.heap.size w w2) := grow_on HB.out hb2
      have HX2 : Hid (OT w.heap.size w2 M1 c1 x) := HX.out.grow hb2
      have HY2 : Hid (OT w.heap.size w2 M3 c3 (takeT y) ∧ M1 ≠ M3) := ⟨ho3.down HB.out.size, by have := HX.out.lt; have := ho3.lo; omega⟩
      have HOX : Hid (∀ x', Below w2.heap.size w2 x' → x'.ownsRow w.heap.size 26 2 (.slice (some ⟨M1, 0, none⟩) n1 c1) n1 (flatT x)) := fun x' h => by rw [HN.out.1]; exact (HX2.out.grow h).own
      have HB3 : Hid (∀ x', Below w2.heap.size w2 x' → Below w.heap.size w x') := fun x' h => grow_on HB2.out h
      clear ho3 hb2 HC
      go_wp2_with (at_builtin; refine wpList_append_own_at _ rfl _ _ 24 rfl w.heap.size 26 i0 (.agg #[.int .i64 0, .int .i64 0]) 2 16 Try.underlying24 HI.out.1 HI.out.2.1 HI.out.2.2.1 HI.out.2.2.2 rfl (by decide) _ _ _ rfl (HOX.out _ (Go.Joins.below_alloc2 w2 _ _)) ⟨w2.heap.size + 1, 0, none⟩ 1 1 (flatT [nthT y 0]) rfl ?d0 ?d1 (flat_one _) ?d3 ?d4 ?d5 ?_)
      case d0 => rfl
      case d1 => exact blk_news (cs := #[.int .i64 (nthT y 0).1, .int .i64 (nthT y 0).2]) (Blk.new_at (by simp))
      case d3 => unfold maxLen; omega
      case d4 => omega
      case d5 => have := HB2.out.size; simp; omega
      intro v' w5 hown hg hnil hat
      have hown3 : w5.ownsRow w.heap.size 26 2 v' (x ++ [nthT y 0]).length (flatT (x ++ [nthT y 0])) := by rw [flat_app, List.length_append, ← HN.out.1]; exact hown
      obtain ⟨M5, c5, ev, hot⟩ := ot_of hown3 (fun e => by first | exact hnil e | (have := (hnil.1 e).1; cases this))
      subst ev
      have HZ : Hid (OT w.heap.size w5 M5 c5 (x ++ [nthT y 0]) ∧ OT w.heap.size w5 M3 c3 (takeT y) ∧ M5 ≠ M3 ∧ Below w.heap.size w w5) := by
        simp [Value.ownBlock] at hat
        refine ⟨hot, ot_far (HY2.out.1.grow (Go.Joins.below_alloc2 w2 _ _)) hg (by simp [Value.ownBlock]; exact fun e => HY2.out.2 e.symm), ?_, (HB3.out _ (Go.Joins.below_alloc2 w2 _ _)).grown hg (by have := HB2.out.size; simp; omega) (by simp [Value.ownBlock]; exact HX.out.lo)⟩
        have h1 := HY2.out.1.lt
        rcases hat with e | e
        · rw [e]; exact HY2.out.2
        · omega
      have hl5 : (x ++ [nthT y 0]).length = n1 + 1 := by rw [List.length_append, ← HN.out.1]; rfl
      have HL5 : Hid (n1 + 1 = (x ++ [nthT y 0]).length) := hl5.symm
      rw [hl5]
      clear hown hown3 hg hnil hat hot hl5 HOX HB3
      go_wp2
      go_roundw
      case rel => exact ⟨M5, c5, n1 + 1, M3, c3, (takeT y).length, x ++ [nthT y 0], takeT y, rfl, rfl, HL5.out, rfl, HZ.out.1, HZ.out.2.1, HZ.out.2.2.1, HG.out, HZ.out.2.2.2⟩
      case measure => have := HQ.out; simp [slLen]; omega
end Go.Proofs.Ytcjhieknmblbbaa.HpO
