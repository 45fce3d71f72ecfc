/-
  PROVED: impl.HeapDrop and impl.Sorted: rows of the call's own that hold what the plain functions say; nothing that was there is changed.
-/
import Derived.Test.YtcjhieknmblbbaaHpM
import Derived.Test.YtcjhieknmblbbaaHpN
namespace Go.Proofs.Ytcjhieknmblbbaa.HpI
open Go.RowKit
open Go.Proofs.Ytcjhieknmblbbaa.Hp Go.Proofs.Ytcjhieknmblbbaa.Tms Go.Proofs.Ytcjhieknmblbbaa.TmO Go.Proofs.Ytcjhieknmblbbaa.TmR Go.Proofs.Ytcjhieknmblbbaa.HpS Go.Proofs.Ytcjhieknmblbbaa.HpT Go.Proofs.Ytcjhieknmblbbaa.HpA Go.Proofs.Ytcjhieknmblbbaa.HpJ Go.Proofs.Ytcjhieknmblbbaa.HpK Go.Proofs.Ytcjhieknmblbbaa.HpL Go.Proofs.Ytcjhieknmblbbaa.HpM Go.Proofs.Ytcjhieknmblbbaa.Over Go.Proofs.Ytcjhieknmblbbaa.Blk Go.Proofs.Ytcjhieknmblbbaa.App
open Go.Proofs.Ytcjhieknmblbbaa.HpD (retO ot_nil)
open Go.Proofs.Ytcjhieknmblbbaa.Mark (Apart)
open Go.Proofs.Ytcjhieknmblbbaa.HpO (ot_far sort_end sort_go slLen sort_length)
set_option linter.unusedVariables false
theorem implPut_any (g o cap : Nat) (l : List Tm) (t : Tm) (w : World) (hr : RdT w (some ⟨g, o, none⟩) l) (hl : l.length ≤ 10000000) :
    Calls Try.prog 11 #[.slice (some ⟨g, o, none⟩) l.length cap, .agg #[.int .i64 t.1, .int .i64 t.2]] w fun e w' => (∃ M c, e = .returned (.slice (some ⟨M, 0, none⟩) (putT l t).length c) ∧ OT w.heap.size w' M c (putT l t)) ∧ Below w.heap.size w w' := HpM.implPut_any g o cap l t w hr hl
theorem implTake_any (g o cap : Nat) (l : List Tm) (w : World) (hr : RdT w (some ⟨g, o, none⟩) l) (hl : l.length ≤ 10000000) (hcap : l.length ≤ cap) :
    Calls Try.prog 13 #[.slice (some ⟨g, o, none⟩) l.length cap] w fun e w' => (∃ M c, e = .returned (.tuple #[.slice (some ⟨M, 0, none⟩) (takeT l).length c, .agg #[.int .i64 (fstT l).1, .int .i64 (fstT l).2], .bool (anyT l)]) ∧ OT w.heap.size w' M c (takeT l)) ∧ Below w.heap.size w w' := HpM.implTake_any g o cap l w hr hl hcap
theorem implHeapOk_any (a : Option Addr) (cap : Nat) (l : List Tm) (w : World) (hr : RdT w a l) (hl : l.length ≤ maxLen) :
    Calls Try.prog 15 #[.slice a l.length cap] w fun e w' => e = .returned (.bool (heapOkB l)) ∧ Below w.heap.size w w' := HpN.implHeapOk_any a cap l w hr hl
theorem implBefore_any (x y : Tm) (w : World) :
    Calls Try.prog 16 #[.agg #[.int .i64 x.1, .int .i64 x.2], .agg #[.int .i64 y.1, .int .i64 y.2]] w fun e w' => e = .returned (.bool (befB x y)) ∧ Below w.heap.size w w' := HpJ.implBefore_any x y w

theorem other_any (x : Tm) (b0 : Nat) (n : Int) (w : World) (hc : w.cell? ⟨b0, 0, none⟩ = some (.int .i64 n)) (hb : b0 < w.heap.size) :
    Calls Try.prog 46 #[.agg #[.int .i64 x.1, .int .i64 x.2], .pointer (some ⟨b0, 0, none⟩)] w fun e w' => e = .returned (.bool (x.2 != n)) ∧ Below w.heap.size w w' := by
  obtain ⟨p, q⟩ := x
  have hc1 : ∀ o, (w.alloc o).cell? ⟨b0, 0, none⟩ = some (.int .i64 n) := fun o => by
    rw [World.cell?_alloc_lt _ _ _ hb]; exact hc
  go_enter Try.func46, Try.ntmps46
  go_wp2
  go_ret
  exact ⟨rfl, Go.Joins.below_alloc1 w _⟩
def keepTo (l : List Tm) (n : Int) (k : Nat) : List Tm := keepN (l.take k) n
theorem keepTo_len (l : List Tm) (n : Int) (k : Nat) : (keepTo l n k).length ≤ k := by
  unfold keepTo keepN
  exact Nat.le_trans (List.length_filter_le _ _) (by simp; omega)
theorem keepTo_all (l : List Tm) (n : Int) : keepTo l n l.length = keepN l n := by unfold keepTo; rw [List.take_length]
theorem keepTo_keep {l : List Tm} {n : Int} {k : Nat} (hk : k < l.length) (h : ((nthT l k).2 != n) = true) : keepTo l n (k + 1) = keepTo l n k ++ [nthT l k] := by
  unfold keepTo keepN
  rw [take_up hk, List.filter_append, List.filter_cons_of_pos (by simpa using h)]; rfl
theorem keepTo_skip {l : List Tm} {n : Int} {k : Nat} (hk : k < l.length) (h : ((nthT l k).2 != n) = false) : keepTo l n (k + 1) = keepTo l n k := by
  unfold keepTo keepN
  rw [take_up hk, List.filter_append, List.filter_cons_of_neg (by simpa using h)]; simp
set_option maxHeartbeats 1600000 in
theorem chosen_any (a : Option Addr) (b0 cap : Nat) (l : List Tm) (n : Int) (w : World) (hr : RdT w a l) (hc : w.cell? ⟨b0, 0, none⟩ = some (.int .i64 n)) (hb0 : b0 < w.heap.size) (hl : l.length ≤ 10000000) :
    Calls Try.prog 45 #[.slice a l.length cap, .func (.func 46) #[] #[.pointer (some ⟨b0, 0, none⟩)]] w fun e w' => (∃ M c, e = .returned (.slice (some ⟨M, 0, none⟩) (keepN l n).length c) ∧ OT w.heap.size w' M c (keepN l n)) ∧ Below w.heap.size w w' := by
  have HR : Hid (RdT w a l) := hr
  have HC : Hid (w.cell? ⟨b0, 0, none⟩ = some (.int .i64 n)) := hc
  clear hr hc
  obtain ⟨i0, hi, hz0, hz1, hz2⟩ := infoH
  have HI : Hid (Try.prog.info? 26 = some i0 ∧ i0.zero = some (.agg #[.int .i64 0, .int .i64 0]) ∧ i0.size = 2 ∧ i0.bytes = 16) := ⟨hi, hz0, hz1, hz2⟩
  clear hi hz0 hz1 hz2
  go_enter Try.func45, Try.ntmps45
  go_wp2
  go_loopw [5, 11] (fun s i w' => ∃ (k M c m : Nat), k ≤ l.length ∧ i = .int .i64 k ∧ s = .slice (some ⟨M, 0, none⟩) m c ∧ m = (keepTo l n k).length ∧ OT w.heap.size w' M c (keepTo l n k) ∧ Below w.heap.size w w') (fun _ i _ => l.length - (intOf i).toNat)
  case atStart => exact ⟨0, _, 0, 0, Nat.zero_le _, rfl, rfl, rfl, ot_nil (Nat.le_refl _), (Below.refl _ _).alloc (Nat.le_refl _) _⟩
  case round =>
    obtain ⟨k, M, c, m, hk, rfl, rfl, hm, ho, hb⟩ := hrel
    have HB : Hid (Below w.heap.size w wr) := hb
    have HO : Hid (OT w.heap.size wr M c (keepTo l n k)) := ho
    have HM : Hid (m = (keepTo l n k).length) := hm
    have HR1 : Hid (RdT wr a l) := HR.out.below hb
    have hml : m ≤ 10000000 := by have := keepTo_len l n k; omega
    clear hm ho hb
    by_cases hlt : k < l.length
    · have hlt' : (k : Int) < (l.length : Int) := by omega
      obtain ⟨b, off, rfl, hb, hc⟩ := HR1.out.get hlt
      obtain ⟨h0, h1⟩ := hc k hlt
      clear hc
      have HX : ∀ o, Hid (Below w.heap.size w (wr.alloc o)) := fun o => grow_on HB.out (Go.Joins.below_alloc1 wr o)
      go_wp2_with fail
      refine (other_any (nthT l k) b0 n _ (((HX _).out.cell hb0).trans HC.out) (Nat.lt_of_lt_of_le hb0 (HX _).out.size)).mono ?_
      rintro e w1 ⟨rfl, hb1⟩
      have c0 : w1.cell? ⟨wr.heap.size, 0, none⟩ = some (.int .i64 (nthT l k).1) := by rw [hb1.cell (by simp)]; simp
      have c1 : w1.cell? ⟨wr.heap.size, 1, none⟩ = some (.int .i64 (nthT l k).2) := by rw [hb1.cell (by simp)]; simp
      have hb2 := grow_on (Go.Joins.below_alloc1 wr _) hb1
      have HB1 : Hid (Below w.heap.size w w1) := grow_on HB.out hb2
      have HO1 : Hid (OT w.heap.size w1 M c (keepTo l n k)) := HO.out.grow hb2
      clear hb1 hb2 h0 h1
      cases hd : ((nthT l k).2 != n) with
      | false =>
        have HE : Hid (keepTo l n (k + 1) = keepTo l n k) := keepTo_skip hlt hd
        clear hd
        go_wp2
        go_roundw
        case rel => exact ⟨k + 1, M, c, m, by omega, by go_num, rfl, by rw [HE.out]; exact HM.out, by rw [HE.out]; exact HO1.out, HB1.out⟩
        case measure => simp [intOf]; omega
      | true =>
        have HE : Hid (keepTo l n (k + 1) = keepTo l n k ++ [nthT l k]) := keepTo_keep hlt hd
        have HOX : Hid (∀ x', Below w1.heap.size w1 x' → x'.ownsRow w.heap.size 26 2 (.slice (some ⟨M, 0, none⟩) m c) m (flatT (keepTo l n k))) := fun x' h => by rw [HM.out]; exact (HO1.out.grow h).own
        clear hd
        go_wp2_with (at_builtin; refine wpList_append_own_at _ rfl _ _ 24 rfl w.heap.size 26 i0 (.agg #[.int .i64 0, .int .i64 0]) 2 16 Try.underlying24 HI.out.1 HI.out.2.1 HI.out.2.2.1 HI.out.2.2.2 rfl (by decide) _ _ _ rfl (HOX.out _ (Go.Joins.below_alloc1 w1 _)) ⟨w1.heap.size, 0, none⟩ 1 1 (flatT [nthT l k]) rfl ?d0 ?d1 (flat_one _) ?d3 ?d4 ?d5 ?_)
        case d0 => rfl
        case d1 => exact blk_news (cs := #[.int .i64 (nthT l k).1, .int .i64 (nthT l k).2]) (Blk.new_at (by simp))
        case d3 => unfold maxLen; omega
        case d4 => omega
        case d5 => have := HB1.out.size; simp; omega
        intro v' w5 hown hg hnil hat
        have hown3 : w5.ownsRow w.heap.size 26 2 v' (keepTo l n k ++ [nthT l k]).length (flatT (keepTo l n k ++ [nthT l k])) := by rw [flat_app, List.length_append, ← HM.out]; exact hown
        obtain ⟨M5, c5, ev, hot⟩ := ot_of hown3 (fun e => by first | exact hnil e | (have := (hnil.1 e).1; cases this))
        subst ev
        have HZ : Hid (OT w.heap.size w5 M5 c5 (keepTo l n k ++ [nthT l k]) ∧ Below w.heap.size w w5) := by
          refine ⟨hot, (grow_on HB1.out (Go.Joins.below_alloc1 w1 _)).grown hg (by have := HB1.out.size; simp; omega) (by simp [Value.ownBlock]; exact HO1.out.lo)⟩
        have hl5 : (keepTo l n k ++ [nthT l k]).length = m + 1 := by rw [List.length_append, ← HM.out]; rfl
        have HL5 : Hid (m + 1 = (keepTo l n k ++ [nthT l k]).length) := hl5.symm
        rw [hl5]
        clear hown hown3 hg hnil hat hot hl5 HOX
        go_wp2
        go_roundw
        case rel => exact ⟨k + 1, M5, c5, m + 1, by omega, by go_num, rfl, by rw [HE.out]; exact HL5.out, by rw [HE.out]; exact HZ.out.1, HZ.out.2⟩
        case measure => simp [intOf]; omega
    · have hge : ¬ (k : Int) < (l.length : Int) := by omega
      have HE : Hid (keepTo l n k = keepN l n) := by have : k = l.length := by omega
                                                     rw [this]; exact keepTo_all l n
      go_wp2
      go_ret
      exact ⟨⟨M, c, by rw [← HE.out, ← HM.out]; rfl, by rw [← HE.out]; exact HO.out⟩, HB.out⟩
theorem ot_step {B M M' lo N cN : Nat} {w w' : World} {l : List Tm} (h : Step B w M w' M') (ho : OT lo w N cN l) (hB : N ≠ B) (hM : N ≠ M) : OT lo w' N cN l :=
  ⟨ho.lo, ho.le, ho.cap, by obtain ⟨cs, h1, h2⟩ := ho.row; exact ⟨cs, h.blk h1 hB hM, h2⟩⟩
theorem all_len (l m : List Tm) : (putAll l m).length = l.length + m.length := by rw [(putAll_perm l m).length_eq, List.length_append]
theorem all_up {m : List Tm} {k : Nat} (h : k < m.length) : putAll [] (m.take (k + 1)) = putT (putAll [] (m.take k)) (nthT m k) := by
  unfold putAll; rw [take_up h, List.foldl_append]; rfl
set_option maxHeartbeats 1600000 in
theorem each_any (B M c N cN : Nat) (l : List Tm) (w : World) (h : Hq B w M c []) (ho : OT 0 w N cN l) (hB : N ≠ B) (hM : N ≠ M) (hl : l.length ≤ 10000000) :
    Calls Try.prog 44 #[.slice (some ⟨N, 0, none⟩) l.length cN, .func (.func 41) #[.pointer (some ⟨B, 0, none⟩)] #[]] w fun e w' => e = .returned (.tuple #[]) ∧ ∃ M' c', Hq B w' M' c' (putAll [] l) ∧ Step B w M w' M' := by
  have H : Hid (Hq B w M c []) := h
  have HO : Hid (OT 0 w N cN l) := ho
  have HN : Hid (N ≠ B ∧ N ≠ M) := ⟨hB, hM⟩
  have hle := ho.le
  have hcap := ho.cap
  unfold maxLen at hcap
  clear h ho hB hM
  go_enter Try.func44, Try.ntmps44
  go_wp2
  go_loopw [8] (fun i w' => ∃ (k M1 c1 : Nat), i = .int .i64 k ∧ k ≤ l.length ∧ Hq B w' M1 c1 (putAll [] (l.take k)) ∧ Step B w M w' M1) (fun i _ => l.length - (intOf i).toNat)
  case atStart => exact ⟨0, M, c, rfl, Nat.zero_le _, H.out, Step.refl _ _ _⟩
  case round =>
    obtain ⟨k, M1, c1, rfl, hk, hq, hs⟩ := hrel
    have HQ : Hid (Hq B wr M1 c1 (putAll [] (l.take k))) := hq
    have HS : Hid (Step B w M wr M1) := hs
    have HO1 : Hid (OT 0 wr N cN l) := ot_step hs HO.out HN.out.1 HN.out.2
    clear hq hs H
    by_cases hlt : k < l.length
    · have hlt' : (k : Int) < (l.length : Int) := by omega
      obtain ⟨cs, hK, hcs, hh⟩ := HO1.out.row
      have h0 := hh k hlt
      have c0 : wr.cell? ⟨N, k * 2, none⟩ = some (.int .i64 (nthT l k).1) := (hK.cell _).trans h0.1
      have c1' : wr.cell? ⟨N, k * 2 + 1, none⟩ = some (.int .i64 (nthT l k).2) := (hK.cell _).trans h0.2
      have HB : Hid (Below wr.heap.size wr (wr.alloc (.cells #[.int .i64 (nthT l k).1, .int .i64 (nthT l k).2] 26))) := Go.Joins.below_alloc1 wr _
      have HP := put_any B M1 c1 (putAll [] (l.take k)) (nthT l k) _ (HQ.out.grow HB.out) (by rw [all_len]; simp; omega)
      have HE : Hid (putT (putAll [] (l.take k)) (nthT l k) = putAll [] (l.take (k + 1))) := (all_up hlt).symm
      clear hK hcs hh h0
      go_wp2_with fail
      refine HP.mono ?_
      rintro e w2 ⟨rfl, M2, c2, hq2, hs2⟩
      have HQ2 : Hid (Hq B w2 M2 c2 (putAll [] (l.take (k + 1)))) := by rw [← HE.out]; exact hq2
      have HS2 : Hid (Step B w M w2 M2) := (HS.out.trans (Step.of HB.out)).trans hs2
      clear hq2 hs2 HP c0 c1'
      go_wp2
      go_roundw
      case rel => exact ⟨k + 1, M2, c2, by go_num, by omega, HQ2.out, HS2.out⟩
      case measure => simp [intOf]; omega
    · have hge : ¬ (k : Int) < (l.length : Int) := by omega
      have HE : Hid (l.take k = l) := by have : k = l.length := by omega
                                         rw [this]; exact List.take_length
      go_wp2
      go_end0
      exact ⟨rfl, M1, ⟨c1, by have := HQ.out; rw [HE.out] at this; exact this⟩, HS.out⟩
set_option maxHeartbeats 800000 in
theorem implDrop_any (a : Option Addr) (cap : Nat) (l : List Tm) (n : Int) (w : World) (hr : RdT w a l) (hl : l.length ≤ 10000000) :
    Calls Try.prog 14 #[.slice a l.length cap, .int .i64 n] w fun e w' => (∃ M c, e = .returned (.slice (some ⟨M, 0, none⟩) (dropT l n).length c) ∧ OT w.heap.size w' M c (dropT l n)) ∧ Below w.heap.size w w' := by
  have HR : Hid (RdT w a l) := hr
  clear hr
  go_enter Try.func14, Try.ntmps14
  go_upto_region 2 with fail
  generalize hW : ((w.alloc (.cells #[.int .i64 n] 3)).alloc (.cells #[] 26)).alloc (.cells #[.slice (some ⟨w.heap.size + 1, 0, none⟩) 0 0] 55) = W
  have HB : Hid (Below w.heap.size w W) := by rw [← hW]; exact grow_on (Go.Joins.below_alloc2 w _ _) (Go.Joins.below_alloc1 _ _)
  have HZ : Hid (W.heap.size = w.heap.size + 3) := by unfold Hid; rw [← hW]; simp
  have HN : Hid (Blk W w.heap.size #[.int .i64 n] 3) := by rw [← hW]; exact ((Blk.new w _ _).alloc _).alloc _
  have HQ : Hid (Hq (w.heap.size + 1 + 1) W (w.heap.size + 1) 0 []) := by
    rw [← hW]
    have h := hq_new (ot_nil (lo := 0) (w := w.alloc (.cells #[.int .i64 n] 3)) (Nat.zero_le _))
    unfold Hid
    simpa using h
  clear hW
  go_wp2_with fail
  refine (chosen_any a w.heap.size cap l n W (HR.out.below HB.out) (HN.out.cell 0) (by rw [HZ.out]; omega) hl).mono ?_
  rintro e w2 ⟨⟨N, cN, rfl, ho2⟩, hb2⟩
  have HO2 : Hid (OT 0 w2 N cN (keepN l n)) := ho2.down (Nat.zero_le _)
  have HQ2 : Hid (Hq (w.heap.size + 1 + 1) w2 (w.heap.size + 1) 0 []) := HQ.out.grow hb2
  have HB2 : Hid (Below w.heap.size w w2) := grow_on HB.out hb2
  have HL2 : Hid (w.heap.size + 3 ≤ w2.heap.size ∧ w.heap.size + 3 ≤ N) := ⟨by have := hb2.size; rw [HZ.out] at this; exact this, by have := ho2.lo; rw [HZ.out] at this; exact this⟩
  have HE := each_any (w.heap.size + 1 + 1) (w.heap.size + 1) 0 N cN (keepN l n) w2 HQ2.out HO2.out (by have := HL2.out; omega) (by have := HL2.out; omega) (by unfold keepN; exact Nat.le_trans (List.length_filter_le _ _) hl)
  clear ho2 hb2
  go_wp2_with fail
  refine HE.mono ?_
  rintro e w3 ⟨rfl, M3, c3, hq3, hs3⟩
  have HQ3 : Hid (Hq (w.heap.size + 1 + 1) w3 M3 c3 (dropT l n)) := hq3
  have HB3 : Hid (Below w.heap.size w w3) := HB2.out.trans (hs3.low (by omega) (by omega) (by have := HL2.out; omega))
  have HM3 : Hid (w.heap.size ≤ M3) := step_lo hs3 (by omega) (by have := HL2.out; omega)
  have hv := HQ3.out.cell
  clear hq3 hs3 HE
  go_wp2
  go_ret
  exact ⟨⟨M3, c3, rfl, ot_lo HQ3.out.row HM3.out⟩, HB3.out⟩
theorem ot_set {lo N c R : Nat} {w : World} {l : List Tm} (h : OT lo w N c l) (hR : R ≠ N) (i : Nat) (v : Value) : OT lo (w.setCell ⟨R, i, none⟩ v) N c l :=
  ⟨h.lo, h.le, h.cap, by obtain ⟨cs, h1, h2⟩ := h.row; exact ⟨cs, h1.set_other hR _, h2⟩⟩
theorem hq_apart {B M c R : Nat} {w w' : World} {l : List Tm} (h : Mark.Apart R w w') (hq : Hq B w M c l) (hB : R ≠ B) (hM : R ≠ M) : Hq B w' M c l := by
  obtain ⟨cs, h1, h2⟩ := hq.row.row
  exact ⟨h.blk hq.var hB.symm, ⟨hq.row.lo, hq.row.le, hq.row.cap, cs, h.blk h1 hM.symm, h2⟩, hq.ne⟩
theorem but_apart {B M R : Nat} {a w w' : World} (h : But B M a w) (k : Mark.Apart R w w') (hR : a.heap.size ≤ R) : But B M a w' :=
  ⟨k.os.trans h.os, k.tape.trans h.tape, k.output.trans h.output, Nat.le_trans h.size k.size, fun i hi hB hM => (k.block i (Nat.lt_of_lt_of_le hi h.size) (by omega)).trans (h.block i hi hB hM)⟩
theorem any_nil : anyT [] = false := by unfold anyT; simp
theorem any_yes {l : List Tm} (h : l ≠ []) : anyT l = true := decide_eq_true h
set_option maxHeartbeats 3200000 in
theorem allTaken_any (B M c : Nat) (l : List Tm) (w : World) (h : Hq B w M c l) (hl : l.length ≤ 10000000) :
    Calls Try.prog 42 #[.func (.func 43) #[.pointer (some ⟨B, 0, none⟩)] #[]] w fun e w' => (∃ M2 c2, e = .returned (.slice (some ⟨M2, 0, none⟩) (sortT l).length c2) ∧ OT w.heap.size w' M2 c2 (sortT l)) ∧ But B M w w' := by
  obtain ⟨i0, hi, hz0, hz1, hz2⟩ := infoH
  have HI : Hid (Try.prog.info? 26 = some i0 ∧ i0.zero = some (.agg #[.int .i64 0, .int .i64 0]) ∧ i0.size = 2 ∧ i0.bytes = 16) := ⟨hi, hz0, hz1, hz2⟩
  clear hi hz0 hz1 hz2
  have HN : Hid (B < w.heap.size ∧ M < w.heap.size) := ⟨h.var.lt, h.row.lt⟩
  have HT := take_any B M c l _ (h.grow (Go.Joins.below_alloc1 w (.cells #[] 26))) (by omega)
  clear h
  go_enter Try.func42, Try.ntmps42
  go_wp2_with fail
  refine HT.mono ?_
  rintro e w1 ⟨rfl, hq1, hb1⟩
  have HQ1 : Hid (Hq B w1 M c (takeT l)) := hq1
  have HB1 : Hid (But B M w w1) := (But.of (Go.Joins.below_alloc1 w _)).trans hb1
  have HA1 : Hid (OT w.heap.size w1 w.heap.size 0 [] ∧ w.heap.size < w1.heap.size) := ⟨ot_step (⟨hb1, .inl rfl⟩ : Step B _ M w1 M) (ot_nil (Nat.le_refl _)) (by have := HN.out; omega) (by have := HN.out; omega), by have := hb1.size; simp at this; omega⟩
  clear hq1 hb1 HT
  go_upto_region 3 with fail
  generalize hW : w1.alloc (.cells #[.int .i64 (fstT l).1, .int .i64 (fstT l).2] 26) = W
  have HB : Hid (Below w1.heap.size w1 W) := by rw [← hW]; exact Go.Joins.below_alloc1 w1 _
  have HX : Hid (Blk W w1.heap.size #[.int .i64 (fstT l).1, .int .i64 (fstT l).2] 26) := by rw [← hW]; exact Blk.new _ _ _
  have HL : Hid (sortT l = [] ++ sortT l) := rfl
  clear hW
  go_loopw [3, 4, 5] (fun s p b w' => ∃ (M1 c1 n1 X : Nat) (bv : Bool) (x y : List Tm), s = .slice (some ⟨M1, 0, none⟩) n1 c1 ∧ p = .pointer (some ⟨X, 0, none⟩) ∧ b = .bool bv ∧ bv = anyT y ∧ n1 = x.length ∧ w.heap.size ≤ X ∧ Blk w' X #[.int .i64 (fstT y).1, .int .i64 (fstT y).2] 26 ∧ M1 ≠ X ∧ OT w.heap.size w' M1 c1 x ∧ Hq B w' M c (takeT y) ∧ But B M w w' ∧ sortT l = x ++ sortT y) (fun s _ _ _ => l.length - slLen s)
  case atStart => exact ⟨w.heap.size, 0, 0, w1.heap.size, anyT l, [], l, rfl, rfl, rfl, rfl, rfl, by have := HA1.out.2; omega, HX.out, by have := HA1.out.2; omega, HA1.out.1.grow HB.out, HQ1.out.grow HB.out, HB1.out.trans (But.of HB.out), HL.out⟩
  case round =>
    clear HA1 HX HQ1 HB1 HL
    obtain ⟨M1, c1, n1, X, bv, x, y, rfl, rfl, rfl, hbv, hx, hwX, hX, hMX, ho, hq, hb, hs⟩ := hrel
    have hlen : x.length + y.length = l.length := by have := congrArg List.length hs; rw [sort_length, List.length_append, sort_length] at this; omega
    have HY : Hid (n1 = x.length ∧ w.heap.size ≤ X ∧ M1 ≠ X ∧ w.heap.size ≤ M1) := ⟨hx, hwX, hMX, ho.lo⟩
    have HX : Hid (Blk wr X #[.int .i64 (fstT y).1, .int .i64 (fstT y).2] 26) := hX
    have HO : Hid (OT w.heap.size wr M1 c1 x) := ho
    have HQ : Hid (Hq B wr M c (takeT y)) := hq
    have HB1 : Hid (But B M w wr) := hb
    have HS : Hid (sortT l = x ++ sortT y) := hs
    have hn1 : n1 ≤ 10000000 := by omega
    cases bv with
    | false =>
      have h0 : y = [] := by
        by_cases h : y = []
        · exact h
        · rw [any_yes h] at hbv; cases hbv
      have HF : Hid (x = sortT l) := sort_end (by rw [← h0]; exact hs)
      clear hbv hx hwX hX hMX ho hq hb hs h0 hlen
      go_wp2
      go_ret
      exact ⟨⟨M1, c1, by rw [← HF.out, ← HY.out.1]; rfl, by rw [← HF.out]; exact HO.out⟩, HB1.out⟩
    | true =>
      have h0 : y ≠ [] := fun e => by rw [e, any_nil] at hbv; cases hbv
      have hyl := List.length_pos_iff.2 h0
      have HF : Hid (fstT y = nthT y 0) := if_neg h0
      have HG : Hid (sortT l = (x ++ [nthT y 0]) ++ sortT (takeT y)) := sort_go hs h0
      have HD : Hid (n1 + 1 ≤ l.length ∧ (takeT y).length ≤ 10000000) := ⟨by omega, by rw [Hp.take_len]; omega⟩
      rw [HF.out] at HX
      have x0 := HX.out.cell 0
      have x1 := HX.out.cell 1
      have HOX : Hid (∀ x', Below wr.heap.size wr x' → x'.ownsRow w.heap.size 26 2 (.slice (some ⟨M1, 0, none⟩) n1 c1) n1 (flatT x)) := fun x' h => by rw [HY.out.1]; exact (HO.out.grow h).own
      have HBA : ∀ o, Hid (Below wr.heap.size wr (wr.alloc o)) := fun o => Go.Joins.below_alloc1 wr o
      clear hbv hx hwX hX hMX ho hq hb hs h0 hlen hyl
      go_wp2_with (at_builtin; refine wpList_append_own_at _ rfl _ _ 24 rfl w.heap.size 26 i0 (.agg #[.int .i64 0, .int .i64 0]) 2 16 Try.underlying24 HI.out.1 HI.out.2.1 HI.out.2.2.1 HI.out.2.2.2 rfl (by decide) _ _ _ rfl (HOX.out _ (HBA _).out) ⟨wr.heap.size, 0, none⟩ 1 1 (flatT [nthT y 0]) rfl ?d0 ?d1 (flat_one _) ?d3 ?d4 ?d5 ?_)
      case d0 => rfl
      case d1 => exact blk_news (cs := #[.int .i64 (nthT y 0).1, .int .i64 (nthT y 0).2]) (Blk.new_at (by simp))
      case d3 => unfold maxLen; omega
      case d4 => omega
      case d5 => have := HB1.out.size; simp; omega
      intro v' w5 hown hg hnil hat
      have hown3 : w5.ownsRow w.heap.size 26 2 v' (x ++ [nthT y 0]).length (flatT (x ++ [nthT y 0])) := by rw [flat_app, List.length_append, ← HY.out.1]; exact hown
      obtain ⟨M5, c5, ev, hot⟩ := ot_of hown3 (fun e => by first | exact hnil e | (have := (hnil.1 e).1; cases this))
      subst ev
      have hN := HN.out
      have hA : Apart M1 _ w5 := apart_grown hg
      have HZ : Hid (OT w.heap.size w5 M5 c5 (x ++ [nthT y 0]) ∧ Hq B w5 M c (takeT y) ∧ But B M w w5 ∧ Blk w5 X #[.int .i64 (nthT y 0).1, .int .i64 (nthT y 0).2] 26) := by
        refine ⟨hot, hq_apart hA (HQ.out.grow (HBA _).out) (by have := HY.out; omega) (by have := HY.out; omega), but_apart (HB1.out.trans (But.of (HBA _).out)) hA HY.out.2.2.2, ?_⟩
        exact blk_far (HX.out.grow (HBA _).out) hg (fun e => HY.out.2.2.1 (Option.some.inj e).symm)
      have hl5 : (x ++ [nthT y 0]).length = n1 + 1 := by rw [List.length_append, ← HY.out.1]; rfl
      have HL5 : Hid (n1 + 1 = (x ++ [nthT y 0]).length ∧ M5 < w5.heap.size ∧ w.heap.size ≤ M5 ∧ w.heap.size ≤ w5.heap.size) := ⟨hl5.symm, hot.lt, hot.lo, HZ.out.2.2.1.size⟩
      rw [hl5]
      clear hown hown3 hg hnil hat hot hl5 HOX x0 x1 hA hN
      have x0 := HZ.out.2.2.2.cell 0
      have x1 := HZ.out.2.2.2.cell 1
      go_upto_region 4 with fail
      generalize hW : w5.alloc (.cells #[.int .i64 (nthT y 0).1, .int .i64 (nthT y 0).2] 26) = W6
      have HB6 : Hid (Below w5.heap.size w5 W6) := by rw [← hW]; exact Go.Joins.below_alloc1 w5 _
      have HX6 : Hid (Blk W6 w5.heap.size #[.int .i64 (nthT y 0).1, .int .i64 (nthT y 0).2] 26) := by rw [← hW]; exact Blk.new _ _ _
      have HT := take_any B M c (takeT y) W6 (HZ.out.2.1.grow HB6.out) (by have := HD.out.2; omega)
      clear hW x0 x1
      go_wp2_with fail
      refine HT.mono ?_
      rintro e w7 ⟨rfl, hq7, hb7⟩
      have hs7 : Step B W6 M w7 M := ⟨hb7, .inl rfl⟩
      have hN := HN.out
      have hL := HL5.out
      have HQ7 : Hid (Hq B w7 M c (takeT (takeT y))) := hq7
      have HB7 : Hid (But B M w w7) := (HZ.out.2.2.1.trans (But.of HB6.out)).trans hb7
      have HX7 : Hid (Blk w7 w5.heap.size #[.int .i64 (nthT y 0).1, .int .i64 (nthT y 0).2] 26) := hs7.blk HX6.out (by omega) (by omega)
      have HO7 : Hid (OT w.heap.size w7 M5 c5 (x ++ [nthT y 0])) := ot_step hs7 (HZ.out.1.grow HB6.out) (by omega) (by omega)
      have x0 := HX7.out.cell 0
      have x1 := HX7.out.cell 1
      have f0 := HX7.out.frozen 0
      have f1 := HX7.out.frozen 1
      clear hq7 hb7 hs7 HT hN hL
      go_wp2
      go_roundw
      case rel =>
        have hN := HN.out
        have hL := HL5.out
        exact ⟨M5, c5, n1 + 1, w5.heap.size, anyT (takeT y), x ++ [nthT y 0], takeT y, rfl, rfl, rfl, rfl, HL5.out.1, by omega, (HX7.out.set 0 _).set 1 _, by omega, ot_set (ot_set HO7.out (by omega) _ _) (by omega) _ _, hq_set (hq_set HQ7.out (by omega) (by omega) _ _) (by omega) (by omega) _ _, but_set (but_set HB7.out (by omega) _ _) (by omega) _ _, HG.out⟩
      case measure => have := HD.out.1; simp [slLen]; omega
set_option maxHeartbeats 800000 in
theorem implSorted_any (g o cap : Nat) (l : List Tm) (w : World) (hr : RdT w (some ⟨g, o, none⟩) l) (hl : l.length ≤ 10000000) :
    Calls Try.prog 12 #[.slice (some ⟨g, o, none⟩) l.length cap] w fun e w' => (∃ M c, e = .returned (.slice (some ⟨M, 0, none⟩) (sortT l).length c) ∧ OT w.heap.size w' M c (sortT l)) ∧ Below w.heap.size w w' := by
  have HR : Hid (RdT w (some ⟨g, o, none⟩) l) := hr
  clear hr
  go_enter Try.func12, Try.ntmps12
  go_wp2_with fail
  refine (copied_any (some ⟨g, o, none⟩) cap l w w.heap.size rfl HR.out (by omega)).mono ?_
  rintro e w2 ⟨rfl, hb2, ho2⟩
  have HB2 : Hid (Below w.heap.size w w2) := hb2
  have HL2 : Hid (w.heap.size < w2.heap.size) := ho2.lt
  have HQ2 : Hid _ := (show Hid _ from hq_new ho2)
  clear hb2 ho2
  go_upto_region 2 with fail
  generalize hW : w2.alloc (.cells #[.slice (some ⟨w.heap.size, 0, none⟩) l.length l.length] 55) = W at HQ2
  have HB3 : Hid (Below w2.heap.size w2 W) := by rw [← hW]; exact Go.Joins.below_alloc1 w2 _
  have HP := allTaken_any w2.heap.size w.heap.size l.length l W HQ2.out hl
  clear hW
  go_wp2_with fail
  refine HP.mono ?_
  rintro e w4 ⟨⟨M4, c4, rfl, ho4⟩, hb4⟩
  have h3 := HB3.out.size
  have h2 := HL2.out
  have HO4 : Hid (OT w.heap.size w4 M4 c4 (sortT l)) := ho4.down (by omega)
  have HB4 : Hid (Below w.heap.size w w4) := (grow_on HB2.out HB3.out).trans ((⟨hb4, .inl rfl⟩ : Step w2.heap.size W w.heap.size w4 w.heap.size).low (by omega) (Nat.le_refl _) (by omega))
  clear ho4 hb4 HP h2 h3
  go_wp2
  go_ret
  exact ⟨⟨M4, c4, rfl, HO4.out⟩, HB4.out⟩
end Go.Proofs.Ytcjhieknmblbbaa.HpI
