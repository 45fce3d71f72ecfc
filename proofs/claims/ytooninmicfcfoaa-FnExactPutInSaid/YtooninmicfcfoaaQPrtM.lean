/-
  PROVED: the marks that markChainS and markPart write lie in the chains' own memory alone, and heldChainS and heldPart find them.
-/
import Derived.Test.YtooninmicfcfoaaQPrt
set_option linter.unusedVariables false
namespace Go.Proofs.Ytooninmicfcfoaa.PrtM
open Go.RowKit
open Labs LabS Alms AlmM Over Blk App Rws ChnI ChnC ChnP ChnK Chs Prt

def blksC (M : Nat) (cs : List CRow) (k : Nat) : Prop := k = M ∨ ∃ x ∈ cs, blks x.M x.rs k
theorem blksC_low {lo : Nat} {w : World} {M c : Nat} {cs : List CRow} (h : CB lo w M c cs) (k : Nat) (hk : blksC M cs k) : lo ≤ k := by
  rcases hk with rfl | ⟨x, hx, hk⟩
  · exact h.at'
  · exact blks_low (h.rows.rows x hx) k hk
theorem blksC_high {lo : Nat} {w : World} {M c : Nat} {cs : List CRow} (h : CB lo w M c cs) (k : Nat) (hk : blksC M cs k) : k < w.heap.size := by
  rcases hk with rfl | ⟨x, hx, hk⟩
  · exact h.lt
  · exact blks_high (h.rows.rows x hx) k hk
theorem cb_ne {lo : Nat} {w : World} {M M' c : Nat} {cur : Array Value} {rs : List ARow} (hb : Blk w M cur 51) (h : AB lo w M' c rs) : ¬ blks M' rs M := fun hk => by
  rcases hk with e | ⟨x, hx, e⟩
  · obtain ⟨cu, h1, _⟩ := h.outer
    exact blkT_ne hb h1 (by decide) e
  · obtain ⟨_, _, ds, h2, _⟩ := h.rows x hx
    exact blkT_ne hb h2 (by decide) e.symm
theorem cb_only {S : Nat → Prop} {lo : Nat} {w w' : World} {M c : Nat} {cs : List CRow} (h : CB lo w M c cs) (ho : Only S w w') (hn : ∀ k, blksC M cs k → ¬ S k) : CB lo w' M c cs := by
  obtain ⟨cur, h1, h2⟩ := h.outer
  exact ⟨h.at', h.cap, ⟨cur, ho.blk h1 (hn _ (.inl rfl)), h2⟩, ⟨fun x hx => ab_only (h.rows.rows x hx) ho fun k hk => hn k (.inr ⟨x, hx, hk⟩), h.rows.ne⟩⟩
def sumM : List CRow → Nat
  | [] => 0
  | x :: cs => 1 + sumA x.rs + sumM cs
theorem sumM_app (p q : List CRow) : sumM (p ++ q) = sumM p + sumM q := by
  induction p with
  | nil => simp [sumM]
  | cons x p ih => rw [List.cons_append, sumM, ih, sumM]; omega
theorem takeR_up {cs : List CRow} {k : Nat} (h : k < cs.length) : cs.take (k + 1) = cs.take k ++ [nthR cs k] := by rw [nthR_eq h, List.take_succ_eq_append_getElem h]
theorem sumM_up {cs : List CRow} {k : Nat} (h : k < cs.length) : sumM (cs.take (k + 1)) = sumM (cs.take k) + 1 + sumA (nthR cs k).rs := by rw [takeR_up h, sumM_app]; simp [sumM]; omega
theorem sumM_all {cs : List CRow} {k : Nat} (h : cs.length ≤ k) : sumM (cs.take k) = sumM cs := by rw [List.take_of_length_le h]
theorem sumM_le (cs : List CRow) (k : Nat) : sumM (cs.take k) ≤ sumM cs := by
  have := sumM_app (cs.take k) (cs.drop k)
  rw [List.take_append_drop] at this
  omega
theorem sumM_chs (cs : List CRow) : sumM cs ≤ 3 * sumC (chs cs) + cs.length := by
  induction cs with
  | nil => simp [sumM]
  | cons x cs ih =>
    have h1 := sumA_pals x.rs
    have h2 := pals_len x.rs
    have h3 : sumC (chs (x :: cs)) = (pals x.rs).length + sumL (pals x.rs) + sumC (chs cs) := rfl
    rw [h3, sumM]
    simp only [List.length_cons]
    omega
structure MC (w : World) (M : Nat) (cs : List CRow) (k j : Nat) : Prop where
  outer : ∃ cur : Array Value, Blk w M cur 51 ∧ cs.length * 2 ≤ cur.size ∧ (∀ i, i < cs.length → cur[i * 2 + 1]? = some (.slice (some ⟨(nthR cs i).M, 0, none⟩) (nthR cs i).rs.length (nthR cs i).c)) ∧ ∀ i, i < j → cur[i * 2]? = some (.int .i64 ((k + sumM (cs.take i) : Nat) : Int))
  done : ∀ i, i < j → MA w (nthR cs i).M (nthR cs i).rs (k + sumM (cs.take i) + 1) (nthR cs i).rs.length
  todo : ∀ i, j ≤ i → i < cs.length → ∃ lo, AB lo w (nthR cs i).M (nthR cs i).c (nthR cs i).rs
  apart : ∀ x ∈ cs, ¬ blks x.M x.rs M
theorem CB.mc {lo : Nat} {w : World} {M c : Nat} {cs : List CRow} (h : CB lo w M c cs) (k : Nat) : MC w M cs k 0 := by
  obtain ⟨cur, h1, h2, h3⟩ := h.outer
  have hc := h.cap
  exact ⟨⟨cur, h1, by omega, fun i hi => (h3 i hi).2, fun i hi => by omega⟩, fun i hi => by omega, fun i _ hi => ⟨lo, h.rows.rows _ (nthR_mem hi)⟩, fun x hx => cb_ne h1 (h.rows.rows x hx)⟩
theorem MC.only {S : Nat → Prop} {w w' : World} {M : Nat} {cs : List CRow} {k : Nat} (h : MC w M cs k cs.length) (ho : Only S w w') (hn : ∀ k, blksC M cs k → ¬ S k) : MC w' M cs k cs.length := by
  obtain ⟨cur, h1, h2⟩ := h.outer
  exact ⟨⟨cur, ho.blk h1 (hn _ (.inl rfl)), h2⟩, fun i hi => (h.done i hi).only ho fun q hq => hn q (.inr ⟨_, nthR_mem hi, hq⟩), fun i h1 h2 => by omega, h.apart⟩
theorem MC.grow {w w' : World} {M : Nat} {cs : List CRow} {k : Nat} (h : MC w M cs k cs.length) (hb : Below w.heap.size w w') : MC w' M cs k cs.length := h.only (S := fun _ => False) (Only.of hb) (fun _ _ h => h)
theorem ne_rows {cs : List CRow} (h : cs.Pairwise fun x y => ∀ k, blks x.M x.rs k → ¬ blks y.M y.rs k) {i j : Nat} (hi : i < cs.length) (hj : j < cs.length) (hne : i ≠ j) : ∀ k, blks (nthR cs i).M (nthR cs i).rs k → ¬ blks (nthR cs j).M (nthR cs j).rs k := by
  rw [List.pairwise_iff_getElem] at h
  rw [nthR_eq hi, nthR_eq hj]
  rcases Nat.lt_or_gt_of_ne hne with hlt | hlt
  · exact h i j hi hj hlt
  · exact fun k h1 h2 => h j i hj hi hlt k h2 h1

set_option maxHeartbeats 1600000 in
theorem markCS_any (M c k lo cap : Nat) (cs : List CRow) (w : World) (hCB : CB lo w M c cs) (hl : cs.length ≤ 2000000) (hrl : ∀ x ∈ cs, x.rs.length ≤ 2000000) (hk : 1 ≤ k) (hk2 : k + sumM cs ≤ 9000000) :
    Calls Try.prog 31 #[.slice (some ⟨M, 0, none⟩) cs.length cap, .int .i64 k] w fun e w' => e = .returned (.int .i64 ((k + sumM cs : Nat) : Int)) ∧ MC w' M cs k cs.length ∧ Only (blksC M cs) w w' := by
  have HM : Hid (MC w M cs k 0) := CB.mc hCB k
  have HN : Hid ((cs.Pairwise fun x y => ∀ k, blks x.M x.rs k → ¬ blks y.M y.rs k) ∧ k + sumM cs ≤ 9000000 ∧ ∀ x ∈ cs, x.rs.length ≤ 2000000) := ⟨hCB.rows.ne, hk2, hrl⟩
  clear hCB hk2 hrl
  go_enter Try.func31, Try.ntmps31
  go_wp2
  go_loopw [1, 5] (fun x i w' => ∃ j : Nat, j ≤ cs.length ∧ i = .int .i64 j ∧ x = .int .i64 ((k + sumM (cs.take j) : Nat) : Int) ∧ MC w' M cs k j ∧ Only (blksC M cs) w w') (fun _ i _ => cs.length - (intOf i).toNat)
  case atStart => exact ⟨0, Nat.zero_le _, rfl, rfl, HM.out, Only.refl _ _⟩
  case round =>
    obtain ⟨j, hj, rfl, rfl, hm, ha⟩ := hrel
    have HM1 : Hid (MC wr M cs k j) := hm
    have HA : Hid (Only (blksC M cs) w wr) := ha
    clear hm ha
    by_cases hlt : j < cs.length
    · have hlt' : (j : Int) < (cs.length : Int) := by omega
      have HU : Hid (k + sumM (cs.take (j + 1)) = k + sumM (cs.take j) + 1 + sumA (nthR cs j).rs) := by have := sumM_up hlt; show _ = _; omega
      have hzb : k + sumM (cs.take (j + 1)) ≤ 9000000 := by have := sumM_le cs (j + 1); have := HN.out.2.1; omega
      obtain ⟨cur, ho, hos, hc, hdn⟩ := HM1.out.outer
      obtain ⟨lo1, hab⟩ := HM1.out.todo j (Nat.le_refl _) hlt
      have HO : Hid (Blk wr M cur 51 ∧ cs.length * 2 ≤ cur.size ∧ (∀ i, i < cs.length → cur[i * 2 + 1]? = some (.slice (some ⟨(nthR cs i).M, 0, none⟩) (nthR cs i).rs.length (nthR cs i).c)) ∧ ∀ i, i < j → cur[i * 2]? = some (.int .i64 ((k + sumM (cs.take i) : Nat) : Int))) := ⟨ho, hos, hc, hdn⟩
      have HAB : Hid (AB lo1 wr (nthR cs j).M (nthR cs j).c (nthR cs j).rs) := hab
      obtain ⟨v0, p0⟩ : ∃ v, wr.cell? ⟨M, j * 2, none⟩ = some v := ⟨cur[j * 2]'(by omega), by rw [ho.cell]; simp⟩
      have f0 := ho.frozen (j * 2)
      have c1 : wr.cell? ⟨M, j * 2 + 1, none⟩ = some (.slice (some ⟨(nthR cs j).M, 0, none⟩) (nthR cs j).rs.length (nthR cs j).c) := (ho.cell _).trans (hc j hlt)
      generalize hz : k + sumM (cs.take j) = z at *
      have HZ : Hid (k + sumM (cs.take j) = z) := hz
      have hz1 : 1 ≤ z := by omega
      have hz2 : z ≤ 9000000 := by have := HU.out; omega
      clear ho hos hc hdn hab hz
      go_wp2_with fail
      have ez : (z : Int) + 1 = ((z + 1 : Nat) : Int) := by omega
      rw [ez]
      generalize hW : wr.setCell ⟨M, j * 2, none⟩ (.int .i64 z) = W
      have HKW : Hid (Blk W M (cur.setIfInBounds (j * 2) (.int .i64 z)) 51) := by rw [← hW]; exact HO.out.1.set _ _
      have HMW : Hid (Only (fun q => q = M) wr W) := by rw [← hW]; exact (Only.refl (fun q => q = M) wr).set (M := M) rfl _ _
      have HABW : Hid (AB lo1 W (nthR cs j).M (nthR cs j).c (nthR cs j).rs) := ab_only HAB.out HMW.out (fun q hq e => HM1.out.apart _ (nthR_mem hlt) (by rw [← e]; exact hq))
      clear hW p0 c1 f0 ez
      refine (markS_any (nthR cs j).M (nthR cs j).c (z + 1) lo1 _ (nthR cs j).rs W HABW.out (HN.out.2.2 _ (nthR_mem hlt)) (by omega) (by have := HU.out; omega)).mono ?_
      rintro e w2 ⟨rfl, hma, ho2⟩
      have HMA : Hid (MA w2 (nthR cs j).M (nthR cs j).rs (z + 1) (nthR cs j).rs.length) := hma
      have HO2 : Hid (Only (blks (nthR cs j).M (nthR cs j).rs) W w2) := ho2
      have hap := HM1.out.apart _ (nthR_mem hlt)
      have HK2 : Hid (Blk w2 M (cur.setIfInBounds (j * 2) (.int .i64 z)) 51) := ho2.blk HKW.out hap
      have HE : Hid (MC w2 M cs k (j + 1)) := by
        refine ⟨⟨_, HK2.out, by simp; exact HO.out.2.1, fun i hi => ?_, fun i hi => ?_⟩, fun i hi => ?_, fun i hi hl => ?_, HM1.out.apart⟩
        · rw [set_ne (by omega)]; exact HO.out.2.2.1 i hi
        · by_cases e : i = j
          · subst e
            rw [HZ.out, set_at (by have := HO.out.2.1; omega)]
          · rw [set_ne (by omega)]; exact HO.out.2.2.2 i (by omega)
        · by_cases e : i = j
          · subst e
            rw [HZ.out]
            exact HMA.out
          · have h1 := (HM1.out.done i (by omega)).only HMW.out (fun q hq e => HM1.out.apart _ (nthR_mem (i := i) (by omega)) (by rw [← e]; exact hq))
            exact h1.only HO2.out (fun q hq hs => ne_rows HN.out.1 (by omega) hlt e q hq hs)
        · obtain ⟨lo2, h1⟩ := HM1.out.todo i (by omega) hl
          exact ⟨lo2, ab_only (ab_only h1 HMW.out (fun q hq e => HM1.out.apart _ (nthR_mem hl) (by rw [← e]; exact hq))) HO2.out (fun q hq hs => ne_rows HN.out.1 hl hlt (by omega) q hq hs)⟩
      have HA2 : Hid (Only (blksC M cs) w w2) := by
        refine HA.out.trans (Only.trans ?_ ?_ (b := W))
        · exact ⟨HMW.out.os, HMW.out.tape, HMW.out.output, HMW.out.size, fun q hq hn => HMW.out.block q hq (fun e => hn (.inl e))⟩
        · exact ⟨HO2.out.os, HO2.out.tape, HO2.out.output, HO2.out.size, fun q hq hn => HO2.out.block q hq (fun e => hn (.inr ⟨_, nthR_mem hlt, e⟩))⟩
      have HF : Hid (k + sumM (cs.take (j + 1)) = z + 1 + sumA (nthR cs j).rs) := HU.out
      clear hma ho2 hap
      generalize hy : z + 1 + sumA (nthR cs j).rs = y at HF ⊢
      clear hy
      go_wp2
      go_roundw
      case rel => exact ⟨j + 1, by omega, by go_num, by rw [HF.out], HE.out, HA2.out⟩
      case measure => simp [intOf]; omega
    · have hge : ¬ (j : Int) < (cs.length : Int) := by omega
      have HE : Hid (j = cs.length ∧ sumM (cs.take j) = sumM cs) := ⟨by omega, sumM_all (by omega)⟩
      go_wp2
      go_ret
      exact ⟨Mark.retI (by have := HE.out.2; omega), by have := HM1.out; rwa [HE.out.1] at this, HA.out⟩

set_option maxHeartbeats 1600000 in
theorem heldCS_any (M k cap : Nat) (cs : List CRow) (w : World) (hM : MC w M cs k cs.length) (hll : ∀ x ∈ cs, x.rs.length ≤ 2000000 ∧ ∀ y ∈ x.rs, y.2.2.l.length ≤ 1048576) (hl : cs.length ≤ 2000000) (hk : 1 ≤ k) (hk2 : k + sumM cs ≤ 9000000) :
    Calls Try.prog 33 #[.slice (some ⟨M, 0, none⟩) cs.length cap, .int .i64 k] w fun e w' => e = .returned (.int .i64 ((k + sumM cs : Nat) : Int)) ∧ Below w.heap.size w w' := by
  have HS : Hid (k + sumM cs ≤ 9000000 ∧ ∀ x ∈ cs, x.rs.length ≤ 2000000 ∧ ∀ y ∈ x.rs, y.2.2.l.length ≤ 1048576) := ⟨hk2, hll⟩
  have HM : Hid (MC w M cs k cs.length) := hM
  clear hM hll hk2
  go_enter Try.func33, Try.ntmps33
  go_wp2
  go_loopw [1, 5] (fun x i w' => ∃ j : Nat, j ≤ cs.length ∧ i = .int .i64 j ∧ x = .int .i64 ((k + sumM (cs.take j) : Nat) : Int) ∧ Below w.heap.size w w') (fun _ i _ => cs.length - (intOf i).toNat)
  case atStart => exact ⟨0, Nat.zero_le _, rfl, rfl, Below.refl _ _⟩
  case round =>
    obtain ⟨j, hj, rfl, rfl, hb⟩ := hrel
    have HB : Hid (Below w.heap.size w wr) := hb
    have HM1 : Hid (MC wr M cs k cs.length) := HM.out.grow hb
    clear hb
    by_cases hlt : j < cs.length
    · have hlt' : (j : Int) < (cs.length : Int) := by omega
      have HU : Hid (k + sumM (cs.take (j + 1)) = k + sumM (cs.take j) + 1 + sumA (nthR cs j).rs) := by have := sumM_up hlt; show _ = _; omega
      have hzb : k + sumM (cs.take (j + 1)) ≤ 9000000 := by have := sumM_le cs (j + 1); have := HS.out.1; omega
      obtain ⟨cur, ho, hos, hc, hdn⟩ := HM1.out.outer
      have c0 : wr.cell? ⟨M, j * 2, none⟩ = some (.int .i64 ((k + sumM (cs.take j) : Nat) : Int)) := (ho.cell _).trans (hdn j hlt)
      have c1 : wr.cell? ⟨M, j * 2 + 1, none⟩ = some (.slice (some ⟨(nthR cs j).M, 0, none⟩) (nthR cs j).rs.length (nthR cs j).c) := (ho.cell _).trans (hc j hlt)
      have hma := HM1.out.done j hlt
      generalize hz : k + sumM (cs.take j) = z at *
      have hz1 : 1 ≤ z := by omega
      have hz2 : z ≤ 9000000 := by have := HU.out; omega
      have HC : Hid (Calls Try.prog 56 #[.slice (some ⟨(nthR cs j).M, 0, none⟩) (nthR cs j).rs.length (nthR cs j).c, .int .i64 ((z + 1 : Nat) : Int)] wr fun e w' => e = .returned (.int .i64 ((z + 1 + sumA (nthR cs j).rs : Nat) : Int)) ∧ Below wr.heap.size wr w') := heldS_any _ _ _ _ wr hma (HS.out.2 _ (nthR_mem hlt)).2 (HS.out.2 _ (nthR_mem hlt)).1 (by omega) (by have := HU.out; omega)
      clear ho hos hc hdn hma hz
      go_wp2_with fail
      have ez : (z : Int) + 1 = ((z + 1 : Nat) : Int) := by omega
      rw [ez]
      refine HC.out.mono ?_
      rintro e w1 ⟨rfl, hb1⟩
      have HB1 : Hid (Below w.heap.size w w1) := grow_on HB.out hb1
      have HF : Hid (k + sumM (cs.take (j + 1)) = z + 1 + sumA (nthR cs j).rs) := HU.out
      clear hb1 HC c0 c1 ez HU
      generalize hy : z + 1 + sumA (nthR cs j).rs = y at HF ⊢
      clear hy
      have hyn : ¬ (y : Int) < 0 := by omega
      go_wp2
      go_roundw
      case rel => exact ⟨j + 1, by omega, by go_num, by rw [HF.out], HB1.out⟩
      case measure => simp [intOf]; omega
    · have hge : ¬ (j : Int) < (cs.length : Int) := by omega
      have HE : Hid (sumM (cs.take j) = sumM cs) := sumM_all (by omega)
      go_wp2
      go_ret
      exact ⟨Mark.retI (by have := HE.out; omega), HB.out⟩

theorem markPart_any (hd vr : Int) (M c k lo cap : Nat) (cs : List CRow) (w : World) (hCB : CB lo w M c cs) (hl : cs.length ≤ 2000000) (hrl : ∀ x ∈ cs, x.rs.length ≤ 2000000) (hk : 1 ≤ k) (hk2 : k + sumM cs ≤ 9000000) :
    Calls Try.prog 12 #[.agg #[.int .i64 hd, .int .i64 vr, .slice (some ⟨M, 0, none⟩) cs.length cap], .int .i64 k] w fun e w' => e = .returned (.int .i64 ((k + sumM cs : Nat) : Int)) ∧ MC w' M cs k cs.length ∧ Only (blksC M cs) w w' := by
  have HAB : Hid (CB lo w M c cs ∧ ∀ x ∈ cs, x.rs.length ≤ 2000000) := ⟨hCB, hrl⟩
  clear hCB hrl
  go_enter Try.func12, Try.ntmps12
  go_wp2_with fail
  refine (markCS_any M c k lo cap cs _ (HAB.out.1.grow (Go.Joins.below_alloc1 w _)) hl HAB.out.2 hk hk2).mono ?_
  rintro r w1 ⟨rfl, hm, ho⟩
  have H : Hid (MC w1 M cs k cs.length ∧ Only (blksC M cs) w w1) := ⟨hm, Only.ahead (Go.Joins.below_alloc1 w _) ho⟩
  clear hm ho hk2
  generalize hz : k + sumM cs = z
  have HZ : Hid (k + sumM cs = z) := hz
  clear hz
  go_wp2
  go_ret
  exact ⟨Mark.retI (by have := HZ.out; omega), H.out⟩
theorem heldPart_any (hd vr : Int) (M k cap : Nat) (cs : List CRow) (w : World) (hM : MC w M cs k cs.length) (hll : ∀ x ∈ cs, x.rs.length ≤ 2000000 ∧ ∀ y ∈ x.rs, y.2.2.l.length ≤ 1048576) (hl : cs.length ≤ 2000000) (hk : 1 ≤ k) (hk2 : k + sumM cs ≤ 9000000) :
    Calls Try.prog 14 #[.agg #[.int .i64 hd, .int .i64 vr, .slice (some ⟨M, 0, none⟩) cs.length cap], .int .i64 k] w fun e w' => e = .returned (.int .i64 ((k + sumM cs : Nat) : Int)) ∧ Below w.heap.size w w' := by
  have HM : Hid (MC w M cs k cs.length ∧ ∀ x ∈ cs, x.rs.length ≤ 2000000 ∧ ∀ y ∈ x.rs, y.2.2.l.length ≤ 1048576) := ⟨hM, hll⟩
  clear hM hll
  go_enter Try.func14, Try.ntmps14
  go_wp2_with fail
  refine (heldCS_any M k cap cs _ (HM.out.1.grow (Go.Joins.below_alloc1 w _)) HM.out.2 hl hk hk2).mono ?_
  rintro r w1 ⟨rfl, hb⟩
  have H : Hid (Below w.heap.size w w1) := grow_on (Go.Joins.below_alloc1 w _) hb
  clear hb hk2
  generalize hz : k + sumM cs = z
  have HZ : Hid (k + sumM cs = z) := hz
  clear hz
  have hq : ¬ (z : Int) < 0 := by omega
  go_wp2
  go_ret
  exact ⟨Mark.retI (by have := HZ.out; omega), H.out⟩
end Go.Proofs.Ytooninmicfcfoaa.PrtM
