/-
  PROVED: what spec.l10Timer, spec.l10Draw and spec.l10Any draw: timers of At and N from 0 to 8; a heap of at most eight of them; such a heap, bent or not.
-/
import Derived.Test.YtcjhieknmblbbaaHpO
import Derived.Test.YtcjhieknmblbbaaDrawO
namespace Go.Proofs.Ytcjhieknmblbbaa.HpW
open Go.RowKit
open Go.Proofs.Ytcjhieknmblbbaa.Hp Go.Proofs.Ytcjhieknmblbbaa.Tms Go.Proofs.Ytcjhieknmblbbaa.TmO Go.Proofs.Ytcjhieknmblbbaa.TmR Go.Proofs.Ytcjhieknmblbbaa.HpS Go.Proofs.Ytcjhieknmblbbaa.HpD Go.Proofs.Ytcjhieknmblbbaa.HpT Go.Proofs.Ytcjhieknmblbbaa.HpO Go.Proofs.Ytcjhieknmblbbaa.Over Go.Proofs.Ytcjhieknmblbbaa.Blk Go.Proofs.Ytcjhieknmblbbaa.App Go.Proofs.Ytcjhieknmblbbaa.Draw
set_option linter.unusedVariables false
theorem blk_hold {c M : Nat} {w w' : World} {cs : Array Value} {T : TypeId} (h : Blk w M cs T) (hk : Kept c w w') (hne : M ≠ c) : Blk w' M cs T := by
  have hl := h.lt
  unfold Blk at *
  rw [hk.block M hl hne]; exact h
theorem grown_at (w : World) (B i : Nat) (u : Value) : w.grownBy (w.setCell ⟨B, i, none⟩ u) (some B) := ⟨rfl, rfl, rfl, by simp [World.setCell], fun k _ hk => Below.heap_setCell w ⟨B, i, none⟩ u k (fun e => hk (by rw [e]))⟩
theorem kept_new {c B : Nat} {w w' : World} (h : Kept c w w') (hB : w.heap.size ≤ B) (i : Nat) (u : Value) : Kept c w (w'.setCell ⟨B, i, none⟩ u) :=
  ⟨h.os, h.tape, h.output, by have := h.size; simpa [World.setCell] using this, fun k hk hc => (Below.heap_setCell w' ⟨B, i, none⟩ u k (by show k ≠ B; omega)).trans (h.block k hk hc)⟩
theorem kept_row {c : Nat} {w w1 w' : World} {row : Option Nat} (h : Kept c w w1) (hg : w1.grownBy w' row) (hr : ∀ k, row = some k → w.heap.size ≤ k) : Kept c w w' :=
  ⟨hg.os.trans h.os, hg.tape.trans h.tape, hg.output.trans h.output, Nat.le_trans h.size hg.size, fun k hk hc => (hg.block k (Nat.lt_of_lt_of_le hk h.size) (fun e => by have := hr k e.symm; omega)).trans (h.block k hk hc)⟩
theorem kept_below {c : Nat} {w w1 w' : World} (h : Kept c w w1) (hb : Below w1.heap.size w1 w') : Kept c w w' := kept_row h (bel_grown hb) (fun k hk => by cases hk)
theorem cur_set {c B : Nat} {w : World} (h : Cur w c) (hB : c < B) (i : Nat) (u : Value) : Cur (w.setCell ⟨B, i, none⟩ u) c := h.grown (grown_at w B i u) (fun k hk => by cases hk; exact hB)
theorem cur_below {c : Nat} {w w' : World} (h : Cur w c) (hb : Below w.heap.size w w') : Cur w' c := h.grown (bel_grown hb) (fun k hk => by cases hk)
def Small (x : Tm) : Prop := 0 ≤ x.1 ∧ x.1 ≤ 8 ∧ 0 ≤ x.2 ∧ x.2 ≤ 8
set_option maxHeartbeats 800000 in
theorem l10Timer_any (c : Nat) (w : World) (hc : Cur w c) :
    Calls Try.prog 39 #[.pointer (some ⟨c, 0, none⟩)] w fun r w' => (∃ x : Tm, r = .returned (.agg #[.int .i64 x.1, .int .i64 x.2]) ∧ Small x) ∧ Cur w' c ∧ Kept c w w' := by
  have HC : Hid (Cur w c) := hc
  have HL : Hid (c < w.heap.size) := hc.lt
  clear hc
  go_enter Try.func39, Try.ntmps39
  go_wp2_with fail
  refine (below_any c 9 _ (HC.out.alloc _) (by decide) (by decide)).mono ?_
  rintro r w1 ⟨⟨a, rfl, ha0, ha1⟩, hc1, hk1⟩
  have HC1 : Hid (Cur w1 c ∧ Kept c (w.alloc (.cells #[.int .i64 0, .int .i64 0] 26)) w1) := ⟨hc1, hk1⟩
  have HA : Hid (0 ≤ a ∧ a < 9) := ⟨ha0, ha1⟩
  clear hc1 hk1 ha0 ha1
  go_wp2_with fail
  refine (below_any c 9 _ HC1.out.1 (by decide) (by decide)).mono ?_
  rintro r w2 ⟨⟨n, rfl, hn0, hn1⟩, hc2, hk2⟩
  have HC2 : Hid (Cur w2 c ∧ Kept c w1 w2) := ⟨hc2, hk2⟩
  have HN : Hid (0 ≤ n ∧ n < 9) := ⟨hn0, hn1⟩
  clear hc2 hk2 hn0 hn1
  have hR : Blk w2 w.heap.size #[.int .i64 0, .int .i64 0] 26 := blk_hold (blk_hold (Blk.new _ _ _) HC1.out.2 (by have := HL.out; omega)) HC2.out.2 (by have := HL.out; omega)
  have HR : Hid (Blk w2 w.heap.size #[.int .i64 0, .int .i64 0] 26) := hR
  have z0 : w2.cell? ⟨w.heap.size, 0, none⟩ = some (.int .i64 0) := hR.cell 0
  have z1 : w2.cell? ⟨w.heap.size, 1, none⟩ = some (.int .i64 0) := hR.cell 1
  have f0 := hR.frozen 0
  have f1 := hR.frozen 1
  clear hR
  go_wp2
  have hs : Blk ((w2.setCell ⟨w.heap.size, 0, none⟩ (.int .i64 a)).setCell ⟨w.heap.size, 1, none⟩ (.int .i64 n)) w.heap.size #[.int .i64 a, .int .i64 n] 26 := (HR.out.set 0 _).set 1 _
  have r0 := hs.cell 0
  have r1 := hs.cell 1
  refine bodyPost_ret (v := .agg #[.int .i64 a, .int .i64 n]) (by simp [results, Try.results39, go_sem, r0, r1]) rfl ?_
  have hk : Kept c w ((w2.setCell ⟨w.heap.size, 0, none⟩ (.int .i64 a)).setCell ⟨w.heap.size, 1, none⟩ (.int .i64 n)) := kept_new (kept_new (((Kept.refl c w).alloc _).trans (HC1.out.2.trans HC2.out.2)) (Nat.le_refl _) _ _) (Nat.le_refl _) _ _
  exact ⟨⟨(a, n), rfl, HA.out.1, by have := HA.out; omega, HN.out.1, by have := HN.out; omega⟩, (cur_set HC2.out.1 (by have := HL.out; omega) _ _ |> fun h => cur_set h (by have := HL.out; omega) _ _), hk⟩
theorem ot_hold {c lo M k : Nat} {w w' : World} {l : List Tm} (h : OT lo w M k l) (hk : Kept c w w') (hc : c < lo) : OT lo w' M k l :=
  ⟨h.lo, h.le, h.cap, by obtain ⟨cs, h1, h2⟩ := h.row; exact ⟨cs, blk_hold h1 hk (by have := h.lo; omega), h2⟩⟩
/-- a drawn row of timers beside the cursor -/
structure DH (w : World) (c : Nat) (w' : World) (M k : Nat) (l : List Tm) : Prop where
  row : OT w.heap.size w' M k l
  cur : Cur w' c
  kept : Kept c w w'
  clt : c < w.heap.size
def Smalls (l : List Tm) : Prop := ∀ t ∈ l, Small t
theorem smalls_put {l : List Tm} {t : Tm} (h : Smalls l) (ht : Small t) : Smalls (putT l t) := all_put h ht
set_option maxHeartbeats 800000 in
theorem l10Draw_any (c : Nat) (w : World) (hc : Cur w c) :
    Calls Try.prog 38 #[.pointer (some ⟨c, 0, none⟩)] w fun r w' => ∃ (M k : Nat) (l : List Tm), r = .returned (.slice (some ⟨M, 0, none⟩) l.length k) ∧ DH w c w' M k l ∧ Heap l ∧ Smalls l ∧ l.length ≤ 8 := by
  have HC : Hid (Cur w c) := hc
  have HL : Hid (c < w.heap.size) := hc.lt
  clear hc
  go_enter Try.func38, Try.ntmps38
  go_wp2_with fail
  refine (below_any c 9 _ (HC.out.alloc _) (by decide) (by decide)).mono ?_
  rintro r w1 ⟨⟨x0, rfl, ha0, ha1⟩, hc1, hk1⟩
  have H1 : Hid (DH w c w1 w.heap.size 0 [] ∧ 0 ≤ x0 ∧ x0 ≤ 8) := ⟨⟨ot_hold (ot_nil (Nat.le_refl _)) hk1 HL.out, hc1, ((Kept.refl c w).alloc _).trans hk1, HL.out⟩, ha0, by omega⟩
  clear hc1 hk1 ha0 ha1
  go_wp2
  go_loopw [3, 4] (fun s i w' => ∃ (M k n : Nat) (x : Int) (l : List Tm), s = .slice (some ⟨M, 0, none⟩) n k ∧ i = .int .i64 x ∧ n = l.length ∧ 0 ≤ x ∧ (l.length : Int) + x ≤ 8 ∧ DH w c w' M k l ∧ Heap l ∧ Smalls l) (fun _ i _ => (intOf i).toNat)
  case atStart => exact ⟨w.heap.size, 0, 0, x0, [], rfl, rfl, rfl, H1.out.2.1, by have := H1.out.2.2; simp; omega, H1.out.1, heap_nil, fun t ht => by simp at ht⟩
  case round =>
    clear H1
    obtain ⟨M, k, n, x, l, rfl, rfl, hn, hx, hlx, hd, hh, hs⟩ := hrel
    have HN : Hid (n = l.length ∧ (l.length : Int) + x ≤ 8 ∧ 0 ≤ x) := ⟨hn, hlx, hx⟩
    have HD : Hid (DH w c wr M k l ∧ Heap l ∧ Smalls l) := ⟨hd, hh, hs⟩
    clear hn hd hh hs
    by_cases h0 : 0 < x
    · go_wp2_with fail
      refine (l10Timer_any c _ HD.out.1.cur).mono ?_
      rintro r w2 ⟨⟨t, rfl, ht⟩, hc2, hk2⟩
      have HT : Hid (Small t) := ht
      have HK : Hid (Cur w2 c ∧ Kept c w w2) := ⟨hc2, HD.out.1.kept.trans hk2⟩
      have HO : Hid (OT w.heap.size w2 M k l) := ot_hold HD.out.1.row hk2 HL.out
      have HP : Hid (Calls Try.prog 25 #[.slice (some ⟨M, 0, none⟩) n k, .agg #[.int .i64 t.1, .int .i64 t.2]] w2 fun e w' => (∃ M2 c2, e = .returned (.slice (some ⟨M2, 0, none⟩) (putT l t).length c2) ∧ OT w2.heap.size w' M2 c2 (putT l t)) ∧ Below w2.heap.size w2 w') := by
        rw [HN.out.1]
        exact specPut_any M 0 k l t w2 HO.out.rd (by have := HN.out; omega)
      clear ht hc2 hk2
      go_wp2_with fail
      refine HP.out.mono ?_
      rintro r w3 ⟨⟨M2, c2, rfl, ho2⟩, hb3⟩
      have H3 : Hid (DH w c w3 M2 c2 (putT l t)) := ⟨ho2.down HK.out.2.size, cur_below HK.out.1 hb3, kept_below HK.out.2 hb3, HL.out⟩
      have HX : Hid (((putT l t).length : Int) + (x - 1) ≤ 8) := by have := HN.out; have := put_len l t; unfold Hid; omega
      clear ho2 hb3 HP
      go_wp2
      go_roundw
      case rel => exact ⟨M2, c2, (putT l t).length, x - 1, putT l t, rfl, rfl, rfl, by omega, HX.out, H3.out, put_heap HD.out.2.1, smalls_put HD.out.2.2 HT.out⟩
      case measure => simp [intOf]; omega
    · go_wp2
      go_ret
      exact ⟨M, k, l, by rw [← HN.out.1]; rfl, HD.out.1, HD.out.2.1, HD.out.2.2, by have := HN.out; omega⟩
end Go.Proofs.Ytcjhieknmblbbaa.HpW
