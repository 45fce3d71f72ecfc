/-
  PROVED: the marks that markChainS and markPart write lie in the chains' own memory alone, and heldChainS and heldPart find them.
  PROVED: slices of parts: what one that came in is; the size that szPartS counts, the copy that toPartS makes, that eqPartS finds two of the same alike; rows of parts in memory of a call's own, read, filled in turn, written at a place.
-/
import Derived.Test.YtooninmicfcfoaaGreatQPrt
set_option linter.unusedVariables false
namespace Go.Proofs.YtooninmicfcfoaaGreat.PrtM
open Go.RowKit
open Labs LabS Alms AlmM Over Blk App Rws ChnI ChnC ChnP ChnK Chs Prt

def blksC (M : Nat) (cs : List CRow) (k : Nat) : Prop := k = M ∨ ∃ x ∈ cs, blks x.M x.rs k
theorem blksC_low {lo : Nat} {w : World} {M c : Nat} {cs : List CRow} (h : CB lo w M c cs) (k : Nat) (hk : blksC M cs k) : lo ≤ k := by
  rcases hk with rfl | ⟨x, hx, hk⟩
  · exact h.at'
  · exact blks_low (h.rows.rows x hx) k hk
theorem blksC_high {lo : Nat} {w : World} {M c : Nat} {cs : List CRow} (h : CB lo w M c cs) (k : Nat) (hk : blksC M cs k) : k < w.heap.size := by
  rcases hk with rfl | ⟨x, hx, hk⟩
  · exact h.lt
  · exact blks_high (h.rows.rows x hx) k hk
theorem cb_ne {lo : Nat} {w : World} {M M' c : Nat} {cur : Array Value} {rs : List ARow} (hb : Blk w M cur 96) (h : AB lo w M' c rs) : ¬ blks M' rs M := fun hk => by
  rcases hk with e | ⟨x, hx, e⟩
  · obtain ⟨cu, h1, _⟩ := h.outer
    exact blkT_ne hb h1 (by decide) e
  · obtain ⟨_, _, ds, h2, _⟩ := h.rows x hx
    exact blkT_ne hb h2 (by decide) e.symm
theorem cb_only {S : Nat → Prop} {lo : Nat} {w w' : World} {M c : Nat} {cs : List CRow} (h : CB lo w M c cs) (ho : Only S w w') (hn : ∀ k, blksC M cs k → ¬ S k) : CB lo w' M c cs := by
  obtain ⟨cur, h1, h2⟩ := h.outer
  exact ⟨h.at', h.cap, ⟨cur, ho.blk h1 (hn _ (.inl rfl)), h2⟩, ⟨fun x hx => ab_only (h.rows.rows x hx) ho fun k hk => hn k (.inr ⟨x, hx, hk⟩), h.rows.ne⟩⟩
def sumM : List CRow → Nat
  | [] => 0
  | x :: cs => 1 + sumA x.rs + sumM cs
theorem sumM_app (p q : List CRow) : sumM (p ++ q) = sumM p + sumM q := by
  induction p with
  | nil => simp [sumM]
  | cons x p ih => rw [List.cons_append, sumM, ih, sumM]; omega
theorem takeR_up {cs : List CRow} {k : Nat} (h : k < cs.length) : cs.take (k + 1) = cs.take k ++ [nthR cs k] := by rw [nthR_eq h, List.take_succ_eq_append_getElem h]
theorem sumM_up {cs : List CRow} {k : Nat} (h : k < cs.length) : sumM (cs.take (k + 1)) = sumM (cs.take k) + 1 + sumA (nthR cs k).rs := by rw [takeR_up h, sumM_app]; simp [sumM]; omega
theorem sumM_all {cs : List CRow} {k : Nat} (h : cs.length ≤ k) : sumM (cs.take k) = sumM cs := by rw [List.take_of_length_le h]
theorem sumM_le (cs : List CRow) (k : Nat) : sumM (cs.take k) ≤ sumM cs := by
  have := sumM_app (cs.take k) (cs.drop k)
  rw [List.take_append_drop] at this
  omega
theorem sumM_chs (cs : List CRow) : sumM cs ≤ 3 * sumC (chs cs) + cs.length := by
  induction cs with
  | nil => simp [sumM]
  | cons x cs ih =>
    have h1 := sumA_pals x.rs
    have h2 := pals_len x.rs
    have h3 : sumC (chs (x :: cs)) = (pals x.rs).length + sumL (pals x.rs) + sumC (chs cs) := rfl
    rw [h3, sumM]
    simp only [List.length_cons]
    omega
structure MC (w : World) (M : Nat) (cs : List CRow) (k j : Nat) : Prop where
  outer : ∃ cur : Array Value, Blk w M cur 96 ∧ cs.length * 2 ≤ cur.size ∧ (∀ i, i < cs.length → cur[i * 2 + 1]? = some (.slice (some ⟨(nthR cs i).M, 0, none⟩) (nthR cs i).rs.length (nthR cs i).c)) ∧ ∀ i, i < j → cur[i * 2]? = some (.int .i64 ((k + sumM (cs.take i) : Nat) : Int))
  done : ∀ i, i < j → MA w (nthR cs i).M (nthR cs i).rs (k + sumM (cs.take i) + 1) (nthR cs i).rs.length
  todo : ∀ i, j ≤ i → i < cs.length → ∃ lo, AB lo w (nthR cs i).M (nthR cs i).c (nthR cs i).rs
  apart : ∀ x ∈ cs, ¬ blks x.M x.rs M
theorem CB.mc {lo : Nat} {w : World} {M c : Nat} {cs : List CRow} (h : CB lo w M c cs) (k : Nat) : MC w M cs k 0 := by
  obtain ⟨cur, h1, h2, h3⟩ := h.outer
  have hc := h.cap
  exact ⟨⟨cur, h1, by omega, fun i hi => (h3 i hi).2, fun i hi => by omega⟩, fun i hi => by omega, fun i _ hi => ⟨lo, h.rows.rows _ (nthR_mem hi)⟩, fun x hx => cb_ne h1 (h.rows.rows x hx)⟩
theorem MC.only {S : Nat → Prop} {w w' : World} {M : Nat} {cs : List CRow} {k : Nat} (h : MC w M cs k cs.length) (ho : Only S w w') (hn : ∀ k, blksC M cs k → ¬ S k) : MC w' M cs k cs.length := by
  obtain ⟨cur, h1, h2⟩ := h.outer
  exact ⟨⟨cur, ho.blk h1 (hn _ (.inl rfl)), h2⟩, fun i hi => (h.done i hi).only ho fun q hq => hn q (.inr ⟨_, nthR_mem hi, hq⟩), fun i h1 h2 => by omega, h.apart⟩
theorem MC.grow {w w' : World} {M : Nat} {cs : List CRow} {k : Nat} (h : MC w M cs k cs.length) (hb : Below w.heap.size w w') : MC w' M cs k cs.length := h.only (S := fun _ => False) (Only.of hb) (fun _ _ h => h)
theorem ne_rows {cs : List CRow} (h : cs.Pairwise fun x y => ∀ k, blks x.M x.rs k → ¬ blks y.M y.rs k) {i j : Nat} (hi : i < cs.length) (hj : j < cs.length) (hne : i ≠ j) : ∀ k, blks (nthR cs i).M (nthR cs i).rs k → ¬ blks (nthR cs j).M (nthR cs j).rs k := by
  rw [List.pairwise_iff_getElem] at h
  rw [nthR_eq hi, nthR_eq hj]
  rcases Nat.lt_or_gt_of_ne hne with hlt | hlt
  · exact h i j hi hj hlt
  · exact fun k h1 h2 => h j i hj hi hlt k h2 h1

set_option maxHeartbeats 1600000 in
theorem markCS_any (M c k lo cap : Nat) (cs : List CRow) (w : World) (hCB : CB lo w M c cs) (hl : cs.length ≤ 2000000) (hrl : ∀ x ∈ cs, x.rs.length ≤ 2000000) (hk : 1 ≤ k) (hk2 : k + sumM cs ≤ 9000000) :
    Calls Tryz.prog 113 #[.slice (some ⟨M, 0, none⟩) cs.length cap, .int .i64 k] w fun e w' => e = .returned (.int .i64 ((k + sumM cs : Nat) : Int)) ∧ MC w' M cs k cs.length ∧ Only (blksC M cs) w w' := by
  have HM : Hid (MC w M cs k 0) := CB.mc hCB k
  have HN : Hid ((cs.Pairwise fun x y => ∀ k, blks x.M x.rs k → ¬ blks y.M y.rs k) ∧ k + sumM cs ≤ 9000000 ∧ ∀ x ∈ cs, x.rs.length ≤ 2000000) := ⟨hCB.rows.ne, hk2, hrl⟩
  clear hCB hk2 hrl
  go_enter Tryz.func113, Tryz.ntmps113
  go_wp2
  go_loopw [1, 5] (fun x i w' => ∃ j : Nat, j ≤ cs.length ∧ i = .int .i64 j ∧ x = .int .i64 ((k + sumM (cs.take j) : Nat) : Int) ∧ MC w' M cs k j ∧ Only (blksC M cs) w w') (fun _ i _ => cs.length - (intOf i).toNat)
  case atStart => exact ⟨0, Nat.zero_le _, rfl, rfl, HM.out, Only.refl _ _⟩
  case round =>
    obtain ⟨j, hj, rfl, rfl, hm, ha⟩ := hrel
    have HM1 : Hid (MC wr M cs k j) := hm
    have HA : Hid (Only (blksC M cs) w wr) := ha
    clear hm ha
    by_cases hlt : j < cs.length
    · have hlt' : (j : Int) < (cs.length : Int) := by omega
      have HU : Hid (k + sumM (cs.take (j + 1)) = k + sumM (cs.take j) + 1 + sumA (nthR cs j).rs) := by have := sumM_up hlt; show _ = _; omega
      have hzb : k + sumM (cs.take (j + 1)) ≤ 9000000 := by have := sumM_le cs (j + 1); have := HN.out.2.1; omega
      obtain ⟨cur, ho, hos, hc, hdn⟩ := HM1.out.outer
      obtain ⟨lo1, hab⟩ := HM1.out.todo j (Nat.le_refl _) hlt
      have HO : Hid (Blk wr M cur 96 ∧ cs.length * 2 ≤ cur.size ∧ (∀ i, i < cs.length → cur[i * 2 + 1]? = some (.slice (some ⟨(nthR cs i).M, 0, none⟩) (nthR cs i).rs.length (nthR cs i).c)) ∧ ∀ i, i < j → cur[i * 2]? = some (.int .i64 ((k + sumM (cs.take i) : Nat) : Int))) := ⟨ho, hos, hc, hdn⟩
      have HAB : Hid (AB lo1 wr (nthR cs j).M (nthR cs j).c (nthR cs j).rs) := hab
      obtain ⟨v0, p0⟩ : ∃ v, wr.cell? ⟨M, j * 2, none⟩ = some v := ⟨cur[j * 2]'(by omega), by rw [ho.cell]; simp⟩
      have f0 := ho.frozen (j * 2)
      have c1 : wr.cell? ⟨M, j * 2 + 1, none⟩ = some (.slice (some ⟨(nthR cs j).M, 0, none⟩) (nthR cs j).rs.length (nthR cs j).c) := (ho.cell _).trans (hc j hlt)
      generalize hz : k + sumM (cs.take j) = z at *
      have HZ : Hid (k + sumM (cs.take j) = z) := hz
      have hz1 : 1 ≤ z := by omega
      have hz2 : z ≤ 9000000 := by have := HU.out; omega
      clear ho hos hc hdn hab hz
      go_wp2_with fail
      have ez : (z : Int) + 1 = ((z + 1 : Nat) : Int) := by omega
      rw [ez]
      generalize hW : wr.setCell ⟨M, j * 2, none⟩ (.int .i64 z) = W
      have HKW : Hid (Blk W M (cur.setIfInBounds (j * 2) (.int .i64 z)) 96) := by rw [← hW]; exact HO.out.1.set _ _
      have HMW : Hid (Only (fun q => q = M) wr W) := by rw [← hW]; exact (Only.refl (fun q => q = M) wr).set (M := M) rfl _ _
      have HABW : Hid (AB lo1 W (nthR cs j).M (nthR cs j).c (nthR cs j).rs) := ab_only HAB.out HMW.out (fun q hq e => HM1.out.apart _ (nthR_mem hlt) (by rw [← e]; exact hq))
      clear hW p0 c1 f0 ez
      refine (markS_any (nthR cs j).M (nthR cs j).c (z + 1) lo1 _ (nthR cs j).rs W HABW.out (HN.out.2.2 _ (nthR_mem hlt)) (by omega) (by have := HU.out; omega)).mono ?_
      rintro e w2 ⟨rfl, hma, ho2⟩
      have HMA : Hid (MA w2 (nthR cs j).M (nthR cs j).rs (z + 1) (nthR cs j).rs.length) := hma
      have HO2 : Hid (Only (blks (nthR cs j).M (nthR cs j).rs) W w2) := ho2
      have hap := HM1.out.apart _ (nthR_mem hlt)
      have HK2 : Hid (Blk w2 M (cur.setIfInBounds (j * 2) (.int .i64 z)) 96) := ho2.blk HKW.out hap
      have HE : Hid (MC w2 M cs k (j + 1)) := by
        refine ⟨⟨_, HK2.out, by simp; exact HO.out.2.1, fun i hi => ?_, fun i hi => ?_⟩, fun i hi => ?_, fun i hi hl => ?_, HM1.out.apart⟩
        · rw [set_ne (by omega)]; exact HO.out.2.2.1 i hi
        · by_cases e : i = j
          · subst e
            rw [HZ.out, set_at (by have := HO.out.2.1; omega)]
          · rw [set_ne (by omega)]; exact HO.out.2.2.2 i (by omega)
        · by_cases e : i = j
          · subst e
            rw [HZ.out]
            exact HMA.out
          · have h1 := (HM1.out.done i (by omega)).only HMW.out (fun q hq e => HM1.out.apart _ (nthR_mem (i := i) (by omega)) (by rw [← e]; exact hq))
            exact h1.only HO2.out (fun q hq hs => ne_rows HN.out.1 (by omega) hlt e q hq hs)
        · obtain ⟨lo2, h1⟩ := HM1.out.todo i (by omega) hl
          exact ⟨lo2, ab_only (ab_only h1 HMW.out (fun q hq e => HM1.out.apart _ (nthR_mem hl) (by rw [← e]; exact hq))) HO2.out (fun q hq hs => ne_rows HN.out.1 hl hlt (by omega) q hq hs)⟩
      have HA2 : Hid (Only (blksC M cs) w w2) := by
        refine HA.out.trans (Only.trans ?_ ?_ (b := W))
        · exact ⟨HMW.out.os, HMW.out.tape, HMW.out.output, HMW.out.size, fun q hq hn => HMW.out.block q hq (fun e => hn (.inl e))⟩
        · exact ⟨HO2.out.os, HO2.out.tape, HO2.out.output, HO2.out.size, fun q hq hn => HO2.out.block q hq (fun e => hn (.inr ⟨_, nthR_mem hlt, e⟩))⟩
      have HF : Hid (k + sumM (cs.take (j + 1)) = z + 1 + sumA (nthR cs j).rs) := HU.out
      clear hma ho2 hap
      generalize hy : z + 1 + sumA (nthR cs j).rs = y at HF ⊢
      clear hy
      go_wp2
      go_roundw
      case rel => exact ⟨j + 1, by omega, by go_num, by rw [HF.out], HE.out, HA2.out⟩
      case measure => simp [intOf]; omega
    · have hge : ¬ (j : Int) < (cs.length : Int) := by omega
      have HE : Hid (j = cs.length ∧ sumM (cs.take j) = sumM cs) := ⟨by omega, sumM_all (by omega)⟩
      go_wp2
      go_ret
      exact ⟨Mark.retI (by have := HE.out.2; omega), by have := HM1.out; rwa [HE.out.1] at this, HA.out⟩

set_option maxHeartbeats 1600000 in
theorem heldCS_any (M k cap : Nat) (cs : List CRow) (w : World) (hM : MC w M cs k cs.length) (hll : ∀ x ∈ cs, x.rs.length ≤ 2000000 ∧ ∀ y ∈ x.rs, y.2.2.l.length ≤ 1048576) (hl : cs.length ≤ 2000000) (hk : 1 ≤ k) (hk2 : k + sumM cs ≤ 9000000) :
    Calls Tryz.prog 115 #[.slice (some ⟨M, 0, none⟩) cs.length cap, .int .i64 k] w fun e w' => e = .returned (.int .i64 ((k + sumM cs : Nat) : Int)) ∧ Below w.heap.size w w' := by
  have HS : Hid (k + sumM cs ≤ 9000000 ∧ ∀ x ∈ cs, x.rs.length ≤ 2000000 ∧ ∀ y ∈ x.rs, y.2.2.l.length ≤ 1048576) := ⟨hk2, hll⟩
  have HM : Hid (MC w M cs k cs.length) := hM
  clear hM hll hk2
  go_enter Tryz.func115, Tryz.ntmps115
  go_wp2
  go_loopw [1, 5] (fun x i w' => ∃ j : Nat, j ≤ cs.length ∧ i = .int .i64 j ∧ x = .int .i64 ((k + sumM (cs.take j) : Nat) : Int) ∧ Below w.heap.size w w') (fun _ i _ => cs.length - (intOf i).toNat)
  case atStart => exact ⟨0, Nat.zero_le _, rfl, rfl, Below.refl _ _⟩
  case round =>
    obtain ⟨j, hj, rfl, rfl, hb⟩ := hrel
    have HB : Hid (Below w.heap.size w wr) := hb
    have HM1 : Hid (MC wr M cs k cs.length) := HM.out.grow hb
    clear hb
    by_cases hlt : j < cs.length
    · have hlt' : (j : Int) < (cs.length : Int) := by omega
      have HU : Hid (k + sumM (cs.take (j + 1)) = k + sumM (cs.take j) + 1 + sumA (nthR cs j).rs) := by have := sumM_up hlt; show _ = _; omega
      have hzb : k + sumM (cs.take (j + 1)) ≤ 9000000 := by have := sumM_le cs (j + 1); have := HS.out.1; omega
      obtain ⟨cur, ho, hos, hc, hdn⟩ := HM1.out.outer
      have c0 : wr.cell? ⟨M, j * 2, none⟩ = some (.int .i64 ((k + sumM (cs.take j) : Nat) : Int)) := (ho.cell _).trans (hdn j hlt)
      have c1 : wr.cell? ⟨M, j * 2 + 1, none⟩ = some (.slice (some ⟨(nthR cs j).M, 0, none⟩) (nthR cs j).rs.length (nthR cs j).c) := (ho.cell _).trans (hc j hlt)
      have hma := HM1.out.done j hlt
      generalize hz : k + sumM (cs.take j) = z at *
      have hz1 : 1 ≤ z := by omega
      have hz2 : z ≤ 9000000 := by have := HU.out; omega
      have HC : Hid (Calls Tryz.prog 155 #[.slice (some ⟨(nthR cs j).M, 0, none⟩) (nthR cs j).rs.length (nthR cs j).c, .int .i64 ((z + 1 : Nat) : Int)] wr fun e w' => e = .returned (.int .i64 ((z + 1 + sumA (nthR cs j).rs : Nat) : Int)) ∧ Below wr.heap.size wr w') := heldS_any _ _ _ _ wr hma (HS.out.2 _ (nthR_mem hlt)).2 (HS.out.2 _ (nthR_mem hlt)).1 (by omega) (by have := HU.out; omega)
      clear ho hos hc hdn hma hz
      go_wp2_with fail
      have ez : (z : Int) + 1 = ((z + 1 : Nat) : Int) := by omega
      rw [ez]
      refine HC.out.mono ?_
      rintro e w1 ⟨rfl, hb1⟩
      have HB1 : Hid (Below w.heap.size w w1) := grow_on HB.out hb1
      have HF : Hid (k + sumM (cs.take (j + 1)) = z + 1 + sumA (nthR cs j).rs) := HU.out
      clear hb1 HC c0 c1 ez HU
      generalize hy : z + 1 + sumA (nthR cs j).rs = y at HF ⊢
      clear hy
      have hyn : ¬ (y : Int) < 0 := by omega
      go_wp2
      go_roundw
      case rel => exact ⟨j + 1, by omega, by go_num, by rw [HF.out], HB1.out⟩
      case measure => simp [intOf]; omega
    · have hge : ¬ (j : Int) < (cs.length : Int) := by omega
      have HE : Hid (sumM (cs.take j) = sumM cs) := sumM_all (by omega)
      go_wp2
      go_ret
      exact ⟨Mark.retI (by have := HE.out; omega), HB.out⟩

end Go.Proofs.YtooninmicfcfoaaGreat.PrtM
namespace Go.Proofs.YtooninmicfcfoaaGreat.Sts
open Go.RowKit
open Go.ChangeShapes Go.WideShapes
open Labs LabS Alms AlmS AlmM Over Blk App Rws ChnI ChnC ChnP ChnK Chs Prt PrtM
open StrB (retB)

structure PPt where
  hd : Int
  vr : Int
  C : List PCh
def nthT (S : List PPt) (i : Nat) : PPt := S.getD i ⟨0, 0, []⟩
theorem nthT_eq {S : List PPt} {i : Nat} (h : i < S.length) : nthT S i = S[i] := by unfold nthT; simp [h]
theorem nthT_mem {S : List PPt} {i : Nat} (h : i < S.length) : nthT S i ∈ S := by rw [nthT_eq h]; exact List.getElem_mem _
theorem takeT_up {S : List PPt} {k : Nat} (h : k < S.length) : S.take (k + 1) = S.take k ++ [nthT S k] := by
  rw [nthT_eq h, List.take_succ_eq_append_getElem h]
structure AtP (R : World → Option Addr → List PAl → Prop) (w : World) (b off i : Nat) (x : PPt) (ad : Option Addr) (cap : Nat) : Prop where
  c0 : w.cell? ⟨b, off + i * 3, none⟩ = some (.int .i64 x.hd)
  c1 : w.cell? ⟨b, off + i * 3 + 1, none⟩ = some (.int .i64 x.vr)
  c2 : w.cell? ⟨b, off + i * 3 + 2, none⟩ = some (.slice ad x.C.length cap)
  reads : RdG R w ad x.C
theorem AtP.below {R : World → Option Addr → List PAl → Prop} (hR : Stays R) {w w' : World} {b off i : Nat} {x : PPt} {ad : Option Addr} {cap : Nat} (h : AtP R w b off i x ad cap) (hb : Below w.heap.size w w') (hlt : b < w.heap.size) : AtP R w' b off i x ad cap :=
  ⟨(hb.cell (p := ⟨b, off + i * 3, none⟩) hlt).trans h.c0, (hb.cell (p := ⟨b, off + i * 3 + 1, none⟩) hlt).trans h.c1, (hb.cell (p := ⟨b, off + i * 3 + 2, none⟩) hlt).trans h.c2, h.reads.below hR hb⟩
def RdS (R : World → Option Addr → List PAl → Prop) (w : World) (a : Option Addr) (S : List PPt) : Prop :=
  S = [] ∨ ∃ b off, a = some ⟨b, off, none⟩ ∧ b < w.heap.size ∧ ∀ i, i < S.length → ∃ ad cap, AtP R w b off i (nthT S i) ad cap
theorem RdS.below {R : World → Option Addr → List PAl → Prop} (hR : Stays R) {w w' : World} {a : Option Addr} {S : List PPt} (h : RdS R w a S) (hb : Below w.heap.size w w') : RdS R w' a S := by
  rcases h with h | ⟨b, off, rfl, hlt, hc⟩
  · exact .inl h
  · exact .inr ⟨b, off, rfl, Nat.lt_of_lt_of_le hlt hb.size, fun i hi => by
      obtain ⟨ad, cap, h⟩ := hc i hi
      exact ⟨ad, cap, h.below hR hb hlt⟩⟩
theorem RdS.get {R : World → Option Addr → List PAl → Prop} {w : World} {a : Option Addr} {S : List PPt} (h : RdS R w a S) {i : Nat} (hi : i < S.length) :
    ∃ b off, a = some ⟨b, off, none⟩ ∧ b < w.heap.size ∧ ∃ ad cap, AtP R w b off i (nthT S i) ad cap := by
  rcases h with h | ⟨b, off, e, hb, h⟩
  · rw [h] at hi; simp at hi
  · exact ⟨b, off, e, hb, h i hi⟩
theorem RdS.rd {w : World} {a : Option Addr} {S : List PPt} (h : RdS RdN w a S) : RdS RdA w a S := by
  rcases h with h | ⟨b, off, e, hb, h⟩
  · exact .inl h
  · exact .inr ⟨b, off, e, hb, fun i hi => by obtain ⟨ad, cap, h⟩ := h i hi; exact ⟨ad, cap, h.c0, h.c1, h.c2, h.reads.rd⟩⟩
structure FitT (x : PPt) : Prop where
  hb : I64 x.hd
  vb : I64 x.vr
  len : x.C.length ≤ maxLen
  fits : FitsC x.C
def FitsT (S : List PPt) : Prop := ∀ x ∈ S, FitT x
def sumT : List PPt → Nat
  | [] => 0
  | x :: S => x.C.length + sumC x.C + sumT S
theorem sumT_app (p q : List PPt) : sumT (p ++ q) = sumT p + sumT q := by
  induction p with
  | nil => simp [sumT]
  | cons x p ih => rw [List.cons_append, sumT, ih, sumT]; omega
theorem sumT_up {S : List PPt} {k : Nat} (h : k < S.length) : sumT (S.take (k + 1)) = sumT (S.take k) + (nthT S k).C.length + sumC (nthT S k).C := by
  rw [takeT_up h, sumT_app]; simp [sumT]; omega
theorem sumT_all {S : List PPt} {k : Nat} (h : S.length ≤ k) : sumT (S.take k) = sumT S := by rw [List.take_of_length_le h]
theorem sumT_mem {S : List PPt} {x : PPt} (h : x ∈ S) : x.C.length + sumC x.C ≤ sumT S := by
  induction S with
  | nil => simp at h
  | cons y S ih =>
    rw [sumT]
    rcases List.mem_cons.1 h with rfl | h
    · omega
    · have := ih h; omega
theorem sumT_nth {S : List PPt} {k : Nat} (h : k < S.length) : (nthT S k).C.length + sumC (nthT S k).C ≤ sumT S := sumT_mem (nthT_mem h)
theorem small_of {C : List PCh} (h : sumC C ≤ 1048576) : ∀ x ∈ C, x.P.length ≤ 1048576 ∧ LenM x.P := fun x hx => by
  have := sumC_mem hx
  exact ⟨by omega, lenM_of (by omega)⟩

set_option maxHeartbeats 800000 in
theorem szPS_any (a : Option Addr) (cap : Nat) (S : List PPt) (left : Int) (w : World) (hr : RdS RdA w a S) (hl : S.length ≤ maxLen) (hz : FitsT S) (h0 : 0 ≤ left) (h1 : left ≤ 1048576) :
    Calls Tryz.prog 51 #[.slice a S.length cap, .int .i64 left] w fun e w' => (∃ n : Int, e = .returned (.int .i64 n) ∧ n ≤ left ∧ (0 ≤ n → n + (S.length : Int) + (sumT S : Int) ≤ left)) ∧ Below w.heap.size w w' := by
  unfold maxLen at hl
  have HR : Hid (RdS RdA w a S) := hr
  have HZ : Hid (FitsT S) := hz
  clear hr hz
  by_cases c : left - (S.length : Int) < 0
  · go_enter Tryz.func51, Tryz.ntmps51
    go_wp2
    go_ret
    exact ⟨⟨-1, rfl, by omega, fun h => by omega⟩, Below.refl _ _⟩
  · go_enter Tryz.func51, Tryz.ntmps51
    go_wp2
    go_loopw [1, 5] (fun m i w' => ∃ (k : Nat) (x : Int), k ≤ S.length ∧ i = .int .i64 k ∧ m = .int .i64 x ∧ 0 ≤ x ∧ x + (S.length : Int) + (sumT (S.take k) : Int) ≤ left ∧ Below w.heap.size w w') (fun _ i _ => S.length - (intOf i).toNat)
    case atStart => exact ⟨0, _, Nat.zero_le _, rfl, rfl, by omega, by simp [sumT], Below.refl _ _⟩
    case round =>
      obtain ⟨k, x, hk, rfl, rfl, hx0, hx1, hw0⟩ := hrel
      have HB : Hid (Below w.heap.size w wr) := hw0
      have HX : Hid (x + (S.length : Int) + (sumT (S.take k) : Int) ≤ left) := hx1
      have hx2 : x ≤ left := by omega
      clear hw0 hx1
      by_cases hlt : k < S.length
      · have hlt' : (k : Int) < (S.length : Int) := by omega
        obtain ⟨b, off, rfl, hb, ad, cp, hat⟩ := (HR.out.below stays_rd HB.out).get hlt
        have h2 := hat.c0
        have h3 := hat.c1
        have h4 := hat.c2
        have HA : Hid (RdG RdA wr ad (nthT S k).C) := hat.reads
        have HU : Hid (sumT (S.take (k + 1)) = sumT (S.take k) + (nthT S k).C.length + sumC (nthT S k).C) := sumT_up hlt
        clear hat
        go_wp2_with fail
        refine (szPart_any _ _ ad cp _ x _ HA.out (HZ.out _ (nthT_mem hlt)).len (HZ.out _ (nthT_mem hlt)).fits hx0 (by omega)).mono ?_
        rintro e w1 ⟨⟨y, rfl, hy, hyn⟩, hb1⟩
        have HB1 : Hid (Below w.heap.size w w1) := grow_on HB.out hb1
        clear hb1 h2 h3 h4
        by_cases hn : y < 0
        · clear hyn
          go_wp2
          go_ret
          exact ⟨⟨-1, rfl, by omega, fun h => by omega⟩, HB1.out⟩
        · have HY : Hid (y + ((nthT S k).C.length : Int) + (sumC (nthT S k).C : Int) ≤ x) := hyn (by omega)
          clear hyn
          go_wp2
          go_roundw
          case rel => exact ⟨k + 1, y, by omega, by go_num, rfl, by omega, by have h1 := HY.out; have h2 := HX.out; have h3 := HU.out; omega, HB1.out⟩
          case measure => simp [intOf]; omega
      · have hge : ¬ (k : Int) < (S.length : Int) := by omega
        have HE : Hid (sumT (S.take k) = sumT S) := sumT_all (by omega)
        go_wp2
        go_ret
        exact ⟨⟨_, rfl, by omega, fun h => by have h1 := HX.out; have h2 := HE.out; omega⟩, HB.out⟩

theorem infoP : (Tryz.prog.info? 26).map (fun i => (i.zero, i.size, i.bytes)) = some (some (.agg #[.int .i64 0, .int .i64 0, .slice none 0 0]), 3, 40) := by kernel_rfl

structure PRow where
  hd : Int
  vr : Int
  a : Option Addr
  c : Nat
  cs : List CRow
def PRow.pt (x : PRow) : PPt := ⟨x.hd, x.vr, chs x.cs⟩
def pts (ps : List PRow) : List PPt := ps.map PRow.pt
def nthQ (ps : List PRow) (i : Nat) : PRow := ps.getD i ⟨0, 0, none, 0, []⟩
theorem nthQ_eq {ps : List PRow} {i : Nat} (h : i < ps.length) : nthQ ps i = ps[i] := by unfold nthQ; simp [h]
theorem nthQ_mem {ps : List PRow} {i : Nat} (h : i < ps.length) : nthQ ps i ∈ ps := by rw [nthQ_eq h]; exact List.getElem_mem _
theorem pts_len (ps : List PRow) : (pts ps).length = ps.length := by simp [pts]
theorem pts_nth {ps : List PRow} {i : Nat} (h : i < ps.length) : nthT (pts ps) i = (nthQ ps i).pt := by
  rw [nthT_eq (by rw [pts_len]; exact h), nthQ_eq h]
  simp [pts]
theorem pts_app (ps : List PRow) (x : PRow) : pts (ps ++ [x]) = pts ps ++ [x.pt] := by simp [pts]
theorem nthQ_app_lt {ps : List PRow} {x : PRow} {i : Nat} (h : i < ps.length) : nthQ (ps ++ [x]) i = nthQ ps i := by
  rw [nthQ_eq (by simp; omega), nthQ_eq h, List.getElem_append_left h]
theorem nthQ_app_eq (ps : List PRow) (x : PRow) : nthQ (ps ++ [x]) ps.length = x := by
  rw [nthQ_eq (by simp)]; simp
def Cel3 (f : Nat → Option Value) (i : Nat) (x : PRow) : Prop := f (i * 3) = some (.int .i64 x.hd) ∧ f (i * 3 + 1) = some (.int .i64 x.vr) ∧ f (i * 3 + 2) = some (.slice x.a x.cs.length x.c)
theorem Cel3.congr {f g : Nat → Option Value} {i : Nat} {x : PRow} (h : Cel3 f i x) (e : ∀ k, i * 3 ≤ k → k < i * 3 + 3 → g k = f k) : Cel3 g i x :=
  ⟨by rw [e _ (by omega) (by omega)]; exact h.1, by rw [e _ (by omega) (by omega)]; exact h.2.1, by rw [e _ (by omega) (by omega)]; exact h.2.2⟩
def rowP (x : PRow) : List Value := [.int .i64 x.hd, .int .i64 x.vr, .slice x.a x.cs.length x.c]
theorem rowP_one (x : PRow) : ∀ v ∈ rowP x, v.oneCell' = true := fun v hv => by
  simp only [rowP, List.mem_cons, List.not_mem_nil, or_false] at hv
  rcases hv with rfl | rfl | rfl <;> rfl
def PO (lo : Nat) (w : World) (a : Option Addr) (cap : Nat) (cs : List CRow) : Prop := (a = none ∧ cap = 0 ∧ cs = []) ∨ ∃ M, a = some ⟨M, 0, none⟩ ∧ CB lo w M cap cs
theorem PO.grow {lo : Nat} {w w' : World} {a : Option Addr} {cap : Nat} {cs : List CRow} (h : PO lo w a cap cs) (hb : Below w.heap.size w w') : PO lo w' a cap cs := h.imp id fun ⟨M, e, k⟩ => ⟨M, e, k.grow hb⟩
theorem PO.down {lo lo' : Nat} {w : World} {a : Option Addr} {cap : Nat} {cs : List CRow} (h : PO lo w a cap cs) (hl : lo' ≤ lo) : PO lo' w a cap cs := h.imp id fun ⟨M, e, k⟩ => ⟨M, e, k.down hl⟩
theorem PO.rn {lo : Nat} {w : World} {a : Option Addr} {cap : Nat} {cs : List CRow} (h : PO lo w a cap cs) : RdG RdN w a (chs cs) := by
  rcases h with ⟨_, _, e⟩ | ⟨M, e, k⟩
  · exact .inl (by rw [e]; rfl)
  · rw [e]; exact k.rn
theorem PO.of {lo : Nat} {w : World} {M cap : Nat} {cs : List CRow} (h : CB lo w M cap cs) : PO lo w (some ⟨M, 0, none⟩) cap cs := .inr ⟨M, rfl, h⟩
structure MovedP (w w' : World) : Prop where
  C : ∀ {k : Nat} {cs : Array Value}, Blk w k cs 96 → Blk w' k cs 96
  M : Moved w w'
theorem MovedP.refl (w : World) : MovedP w w := ⟨id, Moved.refl w⟩
theorem MovedP.trans {a b c : World} (h : MovedP a b) (k : MovedP b c) : MovedP a c := ⟨fun x => k.C (h.C x), h.M.trans k.M⟩
theorem MovedP.of {w w' : World} (h : Below w.heap.size w w') : MovedP w w' := ⟨fun x => x.grow h, Moved.of h⟩
theorem MovedP.set {w : World} {N : Nat} {cs : Array Value} (hN : Blk w N cs 26) (i : Nat) (v : Value) : MovedP w (w.setCell ⟨N, i, none⟩ v) :=
  ⟨fun x => x.set_other (blkT_ne hN x (by decide)) _, Moved.set hN (by decide) (by decide) i v⟩
theorem MovedP.far {w w' : World} {N : Nat} {cs : Array Value} (hN : Blk w N cs 26) (hg : w.grownBy w' (some N)) : MovedP w w' :=
  ⟨fun x => blk_far x hg (fun e => blkT_ne x hN (by decide) (Option.some.inj e)), Moved.far hN (by decide) (by decide) hg⟩
theorem cb_moved {lo : Nat} {w w' : World} {M c : Nat} {cs : List CRow} (h : CB lo w M c cs) (hm : MovedP w w') : CB lo w' M c cs := by
  obtain ⟨cur, h1, h2⟩ := h.outer
  exact ⟨h.at', h.cap, ⟨cur, hm.C h1, h2⟩, h.rows.moved hm.M⟩
theorem PO.moved {lo : Nat} {w w' : World} {a : Option Addr} {cap : Nat} {cs : List CRow} (h : PO lo w a cap cs) (hm : MovedP w w') : PO lo w' a cap cs := h.imp id fun ⟨M, e, k⟩ => ⟨M, e, cb_moved k hm⟩
structure PB (lo : Nat) (w : World) (M c : Nat) (ps : List PRow) : Prop where
  at' : lo ≤ M
  cap : ps.length ≤ c ∧ c ≤ maxLen
  outer : ∃ cur : Array Value, Blk w M cur 26 ∧ cur.size = c * 3 ∧ ∀ i, i < ps.length → Cel3 (fun k => cur[k]?) i (nthQ ps i)
  rows : ∀ x ∈ ps, PO lo w x.a x.c x.cs
theorem PB.grow {lo : Nat} {w w' : World} {M c : Nat} {ps : List PRow} (h : PB lo w M c ps) (hb : Below w.heap.size w w') : PB lo w' M c ps := by
  obtain ⟨cur, h1, h2⟩ := h.outer
  exact ⟨h.at', h.cap, ⟨cur, h1.grow hb, h2⟩, fun x hx => (h.rows x hx).grow hb⟩
theorem PB.down {lo lo' : Nat} {w : World} {M c : Nat} {ps : List PRow} (h : PB lo w M c ps) (hl : lo' ≤ lo) : PB lo' w M c ps := ⟨Nat.le_trans hl h.at', h.cap, h.outer, fun x hx => (h.rows x hx).down hl⟩
theorem PB.lt {lo : Nat} {w : World} {M c : Nat} {ps : List PRow} (h : PB lo w M c ps) : M < w.heap.size := by
  obtain ⟨cur, h1, _⟩ := h.outer
  exact h1.lt
theorem PB.nil {lo : Nat} {w : World} {M : Nat} (h : Blk w M #[] 26) (hl : lo ≤ M) : PB lo w M 0 [] :=
  ⟨hl, ⟨Nat.le_refl _, by simp [maxLen]⟩, ⟨#[], h, rfl, fun i hi => by simp at hi⟩, fun x hx => by simp at hx⟩
theorem PB.rn {lo : Nat} {w : World} {M c : Nat} {ps : List PRow} (h : PB lo w M c ps) : RdS RdN w (some ⟨M, 0, none⟩) (pts ps) := by
  obtain ⟨cur, h1, h2, h3⟩ := h.outer
  refine .inr ⟨M, 0, rfl, h1.lt, fun i hi => ?_⟩
  rw [pts_len] at hi
  obtain ⟨c0, c1, c2⟩ := h3 i hi
  refine ⟨(nthQ ps i).a, (nthQ ps i).c, ?_⟩
  rw [pts_nth hi]
  exact ⟨by rw [h1.cell, Nat.zero_add]; exact c0, by rw [h1.cell, Nat.zero_add]; exact c1, by rw [h1.cell, Nat.zero_add]; unfold PRow.pt; rw [chs_len]; exact c2, (h.rows _ (nthQ_mem hi)).rn⟩
theorem PB.rd {lo : Nat} {w : World} {M c : Nat} {ps : List PRow} (h : PB lo w M c ps) : RdS RdA w (some ⟨M, 0, none⟩) (pts ps) := h.rn.rd
theorem PB.own {lo : Nat} {w : World} {M c : Nat} {ps : List PRow} (h : PB lo w M c ps) : ∃ xs : List Value, w.ownsRow lo 26 3 (.slice (some ⟨M, 0, none⟩) ps.length c) ps.length xs ∧ xs.length = ps.length * 3 ∧ ∀ i, i < ps.length → Cel3 (fun k => xs[k]?) i (nthQ ps i) := by
  obtain ⟨cur, h1, h2, h3⟩ := h.outer
  have hc := h.cap
  have hlen : (cur.toList.take (ps.length * 3)).length = ps.length * 3 := by simp; omega
  refine ⟨cur.toList.take (ps.length * 3), ⟨hlen, .inr ⟨M, c, cur, rfl, h.at', h1, hc.1, hc.2, h2, rfl⟩⟩, hlen, fun i hi => ?_⟩
  refine (h3 i hi).congr fun k _ hk => ?_
  show (cur.toList.take _)[k]? = cur[k]?
  rw [List.getElem?_take_of_lt (by omega)]
  simp
theorem PB.app {lo : Nat} {W w' : World} {M c : Nat} {ps : List PRow} {x : PRow} {xs : List Value} {v' : Value} (h : PB lo W M c ps) (hx : PO lo W x.a x.c x.cs) (hl : xs.length = ps.length * 3) (hxs : ∀ i, i < ps.length → Cel3 (fun k => xs[k]?) i (nthQ ps i))
    (hown : w'.ownsRow lo 26 3 v' (ps.length + 1) (xs ++ rowP x)) (hg : W.grownBy w' (some M)) : ∃ M' c', v' = .slice (some ⟨M', 0, none⟩) (ps.length + 1) c' ∧ PB lo w' M' c' (ps ++ [x]) := by
  rcases hown.2 with ⟨_, e⟩ | ⟨g, cap, cur, e, hb, hgb, hc, hm, hz, ht⟩
  · omega
  · obtain ⟨cu0, hcu0, _⟩ := h.outer
    have hmv : MovedP W w' := MovedP.far hcu0 hg
    refine ⟨g, cap, e, hb, ⟨by simp; omega, hm⟩, ⟨cur, hgb, hz, fun i hi => ?_⟩, fun y hy => ?_⟩
    · have at' : ∀ k, k < (ps.length + 1) * 3 → cur[k]? = (xs ++ rowP x)[k]? := fun k hk => by
        rw [← ht, List.getElem?_take_of_lt hk]; simp
      simp at hi
      by_cases hlt : i < ps.length
      · rw [nthQ_app_lt hlt]
        refine (hxs i hlt).congr fun k _ hk => ?_
        show cur[k]? = xs[k]?
        rw [at' k (by omega), List.getElem?_append_left (by omega)]
      · have ei : i = ps.length := by omega
        subst ei
        rw [nthQ_app_eq]
        have hr : ∀ j, j < 3 → cur[ps.length * 3 + j]? = (rowP x)[j]? := fun j hj => by
          rw [at' _ (by omega), List.getElem?_append_right (by omega), hl]
          congr 1; omega
        exact ⟨hr 0 (by omega), hr 1 (by omega), hr 2 (by omega)⟩
    · rcases List.mem_append.1 hy with hy | hy
      · exact (h.rows y hy).moved hmv
      · rw [List.mem_singleton.1 hy]; exact hx.moved hmv
def put3C (cs : Array Value) (k : Nat) (x : PRow) : Array Value := ((cs.setIfInBounds (k * 3) (.int .i64 x.hd)).setIfInBounds (k * 3 + 1) (.int .i64 x.vr)).setIfInBounds (k * 3 + 2) (.slice x.a x.cs.length x.c)
def put3W (w : World) (M k : Nat) (x : PRow) : World := ((w.setCell ⟨M, k * 3, none⟩ (.int .i64 x.hd)).setCell ⟨M, k * 3 + 1, none⟩ (.int .i64 x.vr)).setCell ⟨M, k * 3 + 2, none⟩ (.slice x.a x.cs.length x.c)
theorem put3_at {cs : Array Value} {k : Nat} {x : PRow} (h : k * 3 + 2 < cs.size) : Cel3 (fun j => (put3C cs k x)[j]?) k x := by
  unfold put3C
  exact ⟨by show (Array.setIfInBounds _ _ _)[_]? = _; rw [set_ne (by omega), set_ne (by omega), set_at (by omega)], by show (Array.setIfInBounds _ _ _)[_]? = _; rw [set_ne (by omega), set_at (by simp; omega)], by show (Array.setIfInBounds _ _ _)[_]? = _; rw [set_at (by simp; omega)]⟩
theorem put3_ne {cs : Array Value} {k j : Nat} {x : PRow} (h : j < k * 3 ∨ k * 3 + 3 ≤ j) : (put3C cs k x)[j]? = cs[j]? := by
  unfold put3C
  rw [set_ne (by omega), set_ne (by omega), set_ne (by omega)]
theorem put3_size (cs : Array Value) (k : Nat) (x : PRow) : (put3C cs k x).size = cs.size := by simp [put3C]
theorem put3W_blk {w : World} {M k : Nat} {x : PRow} {cs : Array Value} {T : TypeId} (h : Blk w M cs T) : Blk (put3W w M k x) M (put3C cs k x) T := ((h.set _ _).set _ _).set _ _
theorem put3W_low {w w' : World} {B M k : Nat} {x : PRow} (h : Below B w w') (hM : B ≤ M) : Below B w (put3W w' M k x) := ((h.setCell hM _).setCell hM _).setCell hM _
theorem put3W_moved {w : World} {M k : Nat} {x : PRow} {cs : Array Value} (h : Blk w M cs 26) : MovedP w (put3W w M k x) := ((MovedP.set h _ _).trans (MovedP.set (h.set _ _) _ _)).trans (MovedP.set ((h.set _ _).set _ _) _ _)
theorem nthQ_put {ps : List PRow} {k i : Nat} {x : PRow} (hi : i < ps.length) : nthQ (ps.set k x) i = if i = k then x else nthQ ps i := by
  rw [nthQ_eq (by simpa using hi), nthQ_eq hi, List.getElem_set]
  by_cases e : k = i
  · subst e; simp
  · rw [if_neg e, if_neg (fun h => e h.symm)]
theorem PB.put {lo : Nat} {w : World} {M c k : Nat} {ps : List PRow} {x : PRow} (h : PB lo w M c ps) (hk : k < ps.length) (hx : PO lo w x.a x.c x.cs) : PB lo (put3W w M k x) M c (ps.set k x) := by
  obtain ⟨cur, h1, h2, h3⟩ := h.outer
  have hc := h.cap
  have hmv := put3W_moved (k := k) (x := x) h1
  refine ⟨h.at', by simpa using hc, ⟨put3C cur k x, put3W_blk h1, by rw [put3_size]; exact h2, fun i hi => ?_⟩, fun y hy => ?_⟩
  · rw [List.length_set] at hi
    rw [nthQ_put hi]
    by_cases e : i = k
    · subst e
      rw [if_pos rfl]
      exact put3_at (by omega)
    · rw [if_neg e]
      exact (h3 i hi).congr fun j h0 h1 => put3_ne (by omega)
  · rcases List.mem_or_eq_of_mem_set hy with hy | hy
    · exact (h.rows y hy).moved hmv
    · subst hy; exact hx.moved hmv
def blksP (x : PRow) (k : Nat) : Prop := ∃ M, x.a = some ⟨M, 0, none⟩ ∧ blksC M x.cs k
theorem blksP_low {lo : Nat} {w : World} {x : PRow} (h : PO lo w x.a x.c x.cs) (k : Nat) (hk : blksP x k) : lo ≤ k := by
  obtain ⟨M, e, hk⟩ := hk
  rcases h with ⟨e', _⟩ | ⟨M', e', h⟩
  · rw [e'] at e; cases e
  · rw [e'] at e; cases e; exact blksC_low h k hk
theorem blksP_high {lo : Nat} {w : World} {x : PRow} (h : PO lo w x.a x.c x.cs) (k : Nat) (hk : blksP x k) : k < w.heap.size := by
  obtain ⟨M, e, hk⟩ := hk
  rcases h with ⟨e', _⟩ | ⟨M', e', h⟩
  · rw [e'] at e; cases e
  · rw [e'] at e; cases e; exact blksC_high h k hk
structure Own8 (ps : List PRow) : Prop where
  ne : ps.Pairwise fun x y => ∀ k, blksP x k → ¬ blksP y k
  full : ∀ x ∈ ps, ∃ M, x.a = some ⟨M, 0, none⟩
theorem Own8.nil : Own8 [] := ⟨List.Pairwise.nil, fun x hx => by simp at hx⟩
theorem Own8.app {ps : List PRow} {x : PRow} (h : Own8 ps) (hx : ∃ M, x.a = some ⟨M, 0, none⟩) (hne : ∀ y ∈ ps, ∀ k, blksP y k → ¬ blksP x k) : Own8 (ps ++ [x]) := by
  refine ⟨?_, fun y hy => ?_⟩
  · rw [List.pairwise_append]
    exact ⟨h.ne, List.pairwise_singleton _ _, fun a ha b hb => by rw [List.mem_singleton.1 hb]; exact hne a ha⟩
  · rcases List.mem_append.1 hy with hy | hy
    · exact h.full y hy
    · rw [List.mem_singleton.1 hy]; exact hx
theorem Own8.put {ps : List PRow} {x : PRow} {k : Nat} (h : Own8 ps) (hx : ∃ M, x.a = some ⟨M, 0, none⟩) (hne : ∀ y ∈ ps, ∀ k, blksP y k → ¬ blksP x k) : Own8 (ps.set k x) := by
  refine ⟨?_, fun y hy => ?_⟩
  · have hp := h.ne
    rw [List.pairwise_iff_getElem] at hp ⊢
    intro i j hi hj hij
    simp only [List.length_set] at hi hj
    rw [List.getElem_set, List.getElem_set]
    by_cases e1 : k = i
    · rw [if_pos e1, if_neg (by omega)]
      exact fun q h1 h2 => hne _ (List.getElem_mem hj) q h2 h1
    · rw [if_neg e1]
      by_cases e2 : k = j
      · rw [if_pos e2]; exact hne _ (List.getElem_mem hi)
      · rw [if_neg e2]; exact hp i j hi hj hij
  · rcases List.mem_or_eq_of_mem_set hy with hy | hy
    · exact h.full y hy
    · subst hy; exact hx
theorem fresh8 {lo B : Nat} {w w' : World} {ps : List PRow} {x : PRow} (h : ∀ y ∈ ps, PO lo w y.a y.c y.cs) (hx : PO B w' x.a x.c x.cs) (hB : w.heap.size ≤ B) : ∀ y ∈ ps, ∀ k, blksP y k → ¬ blksP x k := fun y hy k h1 h2 => by
  have := blksP_high (h y hy) k h1
  have := blksP_low hx k h2
  omega

structure FillP (lo : Nat) (w : World) (M : Nat) (S : List PPt) (k : Nat) (cur : Array Value) (ps : List PRow) : Prop where
  blk : Blk w M cur 26
  size : cur.size = S.length * 3
  len : ps.length = k
  pt : pts ps = S.take k
  cell : ∀ i, i < k → Cel3 (fun j => cur[j]?) i (nthQ ps i)
  rows : ∀ x ∈ ps, PO lo w x.a x.c x.cs
  own : Own8 ps
theorem FillP.grow {lo : Nat} {w w' : World} {M : Nat} {S : List PPt} {k : Nat} {cur : Array Value} {ps : List PRow} (h : FillP lo w M S k cur ps) (hb : Below w.heap.size w w') : FillP lo w' M S k cur ps :=
  ⟨h.blk.grow hb, h.size, h.len, h.pt, h.cell, fun x hx => (h.rows x hx).grow hb, h.own⟩
theorem FillP.next {lo : Nat} {w : World} {M : Nat} {S : List PPt} {k : Nat} {cur : Array Value} {ps : List PRow} {x : PRow} (h : FillP lo w M S k cur ps) (hk : k < S.length) (hx : PO lo w x.a x.c x.cs) (hp : x.pt = nthT S k) (hf : ∃ M, x.a = some ⟨M, 0, none⟩) (hne : ∀ y ∈ ps, ∀ k, blksP y k → ¬ blksP x k) :
    FillP lo (put3W w M k x) M S (k + 1) (put3C cur k x) (ps ++ [x]) := by
  have hl := h.len
  have hs := h.size
  have hmv := put3W_moved (k := k) (x := x) h.blk
  refine ⟨put3W_blk h.blk, by rw [put3_size]; exact hs, by simp [hl], by rw [pts_app, h.pt, takeT_up hk, hp], fun i hi => ?_, fun y hy => ?_, h.own.app hf hne⟩
  · by_cases e : i < k
    · rw [nthQ_app_lt (by omega)]
      exact (h.cell i e).congr fun j h0 h1 => put3_ne (by omega)
    · have : i = ps.length := by omega
      subst this
      rw [nthQ_app_eq, hl]
      exact put3_at (by omega)
  · rcases List.mem_append.1 hy with hy | hy
    · exact (h.rows y hy).moved hmv
    · rw [List.mem_singleton.1 hy]; exact hx.moved hmv
theorem FillP.pb {lo : Nat} {w : World} {M : Nat} {S : List PPt} {cur : Array Value} {ps : List PRow} (h : FillP lo w M S S.length cur ps) (hlo : lo ≤ M) (hl : S.length ≤ 1048576) : PB lo w M S.length ps ∧ pts ps = S ∧ Own8 ps :=
  ⟨⟨hlo, ⟨by rw [h.len]; exact Nat.le_refl _, by unfold maxLen; omega⟩, ⟨cur, h.blk, h.size, fun i hi => h.cell i (by rw [← h.len]; exact hi)⟩, h.rows⟩, by rw [h.pt]; exact List.take_length, h.own⟩

theorem bel_id {w w' : World} (h : Below w.heap.size w w') : Below w.heap.size w w' := h
set_option maxHeartbeats 1600000 in
theorem toPS_any (a : Option Addr) (cap : Nat) (S : List PPt) (w : World) (hr : RdS RdA w a S) (hl : S.length ≤ 1048576) (hs : sumT S ≤ 1048576) :
    Calls Tryz.prog 53 #[.slice a S.length cap] w fun e w' => e = .returned (.slice (some ⟨w.heap.size, 0, none⟩) S.length S.length) ∧ (∃ ps, PB w.heap.size w' w.heap.size S.length ps ∧ pts ps = S ∧ Own8 ps) ∧ Below w.heap.size w w' := by
  have HR : Hid (RdS RdA w a S) := hr
  have HS : Hid (sumT S ≤ 1048576) := hs
  clear hr hs
  have hmk := make_k (P := Tryz.prog) 54 26 (.agg #[.int .i64 0, .int .i64 0, .slice none 0 0]) 3 40 Tryz.underlying54 infoP .i64 .i64 S.length (by omega) (by omega)
  go_enter Tryz.func53, Tryz.ntmps53
  go_wp2
  go_loopw [4] (fun i w' => ∃ (k : Nat) (cur : Array Value) (ps : List PRow), k ≤ S.length ∧ i = .int .i64 k ∧ FillP w.heap.size w' w.heap.size S k cur ps ∧ Below w.heap.size w w') (fun i _ => S.length - (intOf i).toNat)
  case atStart => exact ⟨0, _, [], Nat.zero_le _, rfl, ⟨Blk.new _ _ _, by simp [size_madeCells], rfl, rfl, fun i h => by omega, fun x hx => by simp at hx, Own8.nil⟩, (Below.refl _ _).alloc (Nat.le_refl _) _⟩
  case round =>
    clear hmk
    obtain ⟨k, cur, ps, hk, rfl, hC, hw0⟩ := hrel
    have HB : Hid (Below w.heap.size w wr) := hw0
    have HC : Hid (FillP w.heap.size wr w.heap.size S k cur ps) := hC
    clear hC hw0
    by_cases hlt : k < S.length
    · have hlt' : (k : Int) < (S.length : Int) := by omega
      obtain ⟨b, off, rfl, hb, ad, cp, hat⟩ := (HR.out.below stays_rd HB.out).get hlt
      have h2 := hat.c0
      have h3 := hat.c1
      have h4 := hat.c2
      have HA : Hid (RdG RdA wr ad (nthT S k).C) := hat.reads
      have HS1 : Hid ((nthT S k).C.length ≤ 1048576 ∧ sumC (nthT S k).C ≤ 1048576) := by have := sumT_nth hlt; have := HS.out; constructor <;> omega
      clear hat
      go_wp2_with fail
      refine (toPart_any _ _ ad cp _ _ HA.out HS1.out.1 HS1.out.2).mono ?_
      rintro e w1 ⟨⟨M1, cs, rfl, hab, hp⟩, hb1⟩
      replace hb1 : Below wr.heap.size wr w1 := bel_id hb1
      replace hab : CB wr.heap.size w1 M1 (nthT S k).C.length cs := hab.down (by first | exact Nat.le_refl _ | simp)
      have HB1 : Hid (Below w.heap.size w w1) := grow_on HB.out hb1
      have hC1 : FillP w.heap.size w1 w.heap.size S k cur ps := HC.out.grow hb1
      have hrl : cs.length = (nthT S k).C.length := by rw [← chs_len, hp]
      have HN := hC1.next (x := ⟨(nthT S k).hd, (nthT S k).vr, some ⟨M1, 0, none⟩, (nthT S k).C.length, cs⟩) hlt (PO.of (hab.down HB.out.size)) (by unfold PRow.pt; rw [hp]) ⟨M1, rfl⟩ (fresh8 (x := ⟨(nthT S k).hd, (nthT S k).vr, some ⟨M1, 0, none⟩, (nthT S k).C.length, cs⟩) HC.out.rows (PO.of hab) (Nat.le_refl _))
      unfold put3W put3C at HN
      rw [hrl] at HN
      have HC2 : Hid _ := HN
      have hsz := hC1.size
      obtain ⟨v0, c0⟩ : ∃ v, w1.cell? ⟨w.heap.size, k * 3, none⟩ = some v := ⟨cur[k * 3]'(by omega), by rw [hC1.blk.cell]; simp⟩
      obtain ⟨v1, c1⟩ : ∃ v, w1.cell? ⟨w.heap.size, k * 3 + 1, none⟩ = some v := ⟨cur[k * 3 + 1]'(by omega), by rw [hC1.blk.cell]; simp⟩
      obtain ⟨v2, c2⟩ : ∃ v, w1.cell? ⟨w.heap.size, k * 3 + 2, none⟩ = some v := ⟨cur[k * 3 + 2]'(by omega), by rw [hC1.blk.cell]; simp⟩
      have f0 := hC1.blk.frozen (k * 3)
      have f1 := hC1.blk.frozen (k * 3 + 1)
      have f2 := hC1.blk.frozen (k * 3 + 2)
      clear hb1 h2 h3 h4 hC1 hsz HN hab hp hrl
      go_wp2
      go_roundw
      case rel => exact ⟨k + 1, _, _, by omega, by go_num, HC2.out, ((HB1.out.setCell (Nat.le_refl _) _).setCell (Nat.le_refl _) _).setCell (Nat.le_refl _) _⟩
      case measure => simp [intOf]; omega
    · have hge : ¬ (k : Int) < (S.length : Int) := by omega
      have HE : Hid (k = S.length) := by show k = S.length; omega
      go_wp2
      go_ret
      have hF := HC.out
      rw [HE.out] at hF
      exact ⟨rfl, ⟨ps, hF.pb (Nat.le_refl _) hl⟩, HB.out⟩

set_option maxHeartbeats 800000 in
theorem eqPS_any (a a' : Option Addr) (cap cap' : Nat) (S : List PPt) (w : World) (hr : RdS RdA w a S) (hr' : RdS RdA w a' S) (hl : S.length ≤ maxLen) (hz : FitsT S) :
    Calls Tryz.prog 55 #[.slice a S.length cap, .slice a' S.length cap'] w fun e w' => e = .returned (.bool true) ∧ Below w.heap.size w w' := by
  unfold maxLen at hl
  have HR : Hid (RdS RdA w a S) := hr
  have HR' : Hid (RdS RdA w a' S) := hr'
  have HZ : Hid (FitsT S) := hz
  clear hr hr' hz
  go_enter Tryz.func55, Tryz.ntmps55
  go_wp2
  go_loopw [5] (fun i w' => ∃ k : Nat, i = .int .i64 k ∧ k ≤ S.length ∧ Below w.heap.size w w') (fun i _ => S.length - (intOf i).toNat)
  case atStart => exact ⟨0, rfl, Nat.zero_le _, Below.refl _ _⟩
  case round =>
    obtain ⟨k, rfl, hk, hw0⟩ := hrel
    have HB : Hid (Below w.heap.size w wr) := hw0
    clear hw0
    by_cases hlt : k < S.length
    · have hlt' : (k : Int) < (S.length : Int) := by omega
      obtain ⟨b, off, rfl, hb, ad, cp, hat⟩ := (HR.out.below stays_rd HB.out).get hlt
      obtain ⟨b', off', rfl, hb', ad', cp', hat'⟩ := (HR'.out.below stays_rd HB.out).get hlt
      have hne := Grown.some wr
      have x0 := fun x : Grown wr => x.cell hb hat.c0
      have x1 := fun x : Grown wr => x.cell hb hat.c1
      have x2 := fun x : Grown wr => x.cell hb hat.c2
      have y0 := fun x : Grown wr => x.cell hb' hat'.c0
      have y1 := fun x : Grown wr => x.cell hb' hat'.c1
      have y2 := fun x : Grown wr => x.cell hb' hat'.c2
      have HC : ∀ x : Grown wr, Hid (Calls Tryz.prog 111 #[.agg #[.int .i64 (nthT S k).hd, .int .i64 (nthT S k).vr, .slice ad (nthT S k).C.length cp], .agg #[.int .i64 (nthT S k).hd, .int .i64 (nthT S k).vr, .slice ad' (nthT S k).C.length cp']] x.out fun e w' => e = .returned (.bool true) ∧ Below x.out.heap.size x.out w') := fun x => eqPart_any _ _ ad ad' cp cp' _ x.out (hat.reads.below stays_rd x.bel) (hat'.reads.below stays_rd x.bel) (HZ.out _ (nthT_mem hlt)).len (HZ.out _ (nthT_mem hlt)).fits
      clear hat hat'
      go_wp2
      refine wp_over (z := wr) (by kernel_rfl) (by kernel_rfl) (Below.refl _ _) ?_
      repeat (go_big_quiet_step (first | (go_at_call 111; exact call_over (HC _).out)))
      refine wpQuiet_nil ?_
      intro w2 hw2
      have HB2 : Hid (Below w.heap.size w w2) := grow_on HB.out (over_bel hw2)
      clear hw2 hne x0 x1 x2 y0 y1 y2 HC
      go_wp2
      go_roundw
      case rel => exact ⟨k + 1, by go_num, by omega, HB2.out⟩
      case measure => simp [intOf]; omega
    · have hge : ¬ (k : Int) < (S.length : Int) := by omega
      go_wp2
      go_ret
      exact ⟨rfl, HB.out⟩

set_option maxRecDepth 100000 in
theorem open_parts {H : Type} {enc : TypeId × Value → H} {W : World} {base : Nat} {spare : Nat → Bool} {held : Bool} {a : Option Addr} {len cap : Nat} {d : DataW H} {p : List MemPlace}
    (h : DataW.Trod enc Tryz.prog W base spare held 71 (.slice a len cap) d p) : ∃ S : List PPt, len = S.length ∧ RdS RdA W a S ∧ S.length ≤ maxLen ∧ FitsT S := by
  obtain ⟨fuel, hf⟩ := h
  rcases Go.Deep.open_slice Tryz.underlying71 (by simpa [Value.cells] using hf) with ⟨hcs, _⟩ | ⟨x, l, c, m, n, D, Pl, hcs, _, hl, hm, hmm, _, hx⟩
  · simp at hcs
    obtain ⟨rfl, rfl, rfl⟩ := hcs
    exact ⟨[], rfl, .inl rfl, by simp, fun i hi => by simp at hi⟩
  · simp at hcs
    obtain ⟨rfl, rfl, rfl⟩ := hcs
    have hlm : len ≤ m := by rw [hmm]; split <;> omega
    have each : ∀ i, i < len → ∃ z : PPt, FitT z ∧ ∃ (ad : Option Addr) (cp : Nat), W.cell? (x.add (i * 3)) = some (.int .i64 z.hd) ∧ W.cell? (x.add (i * 3 + 1)) = some (.int .i64 z.vr) ∧ W.cell? (x.add (i * 3 + 2)) = some (.slice ad z.C.length cp) ∧ RdG RdA W ad z.C := by
      intro i hi
      obtain ⟨cs', h1, h2⟩ := hx i (by omega)
      rw [cellsP] at h1
      obtain ⟨_, hlen, hcell⟩ := World.cells?_some h1
      obtain ⟨xs, k, hk, hxy, _, hxl, hf⟩ := DataW.trod_struct Tryz.underlying135 h2
      match xs, hxl, cs', hlen with
      | [y0, y1, y2], _, [v0, v1, v2], _ =>
        have k0 : Tryz.prog.cellsOf 133 = 1 := by kernel_rfl
        have k1 : Tryz.prog.cellsOf 3 = 1 := by kernel_rfl
        have g0 : DataW.trod enc Tryz.prog W base spare held k 3 [v0] = some y0 := by have := hf 0 _ rfl; simpa [k1] using this
        have g1 : DataW.trod enc Tryz.prog W base spare held k 3 [v1] = some y1 := by have := hf 1 _ rfl; simpa [k1] using this
        have g2 : DataW.trod enc Tryz.prog W base spare held k 133 [v2] = some y2 := by have := hf 2 _ rfl; simpa [k0, k1] using this
        obtain ⟨s, e0, _, z0⟩ := DataW.trod_int Tryz.underlying3 g0
        obtain ⟨t, e1, _, z1⟩ := DataW.trod_int Tryz.underlying3 g1
        obtain ⟨ad, ln, cp, e2⟩ := Go.Joins.slice_form Tryz.underlying133 g2
        simp at e0 e1 e2
        subst e0 e1 e2
        obtain ⟨C, rfl, hr, hll, hff⟩ := open_chains (enc := enc) (W := W) (d := y2.1) (p := y2.2) ⟨k, by simpa [Value.cells] using g2⟩
        have c0 := hcell 0 (by omega)
        have c1 := hcell 1 (by omega)
        have c2 := hcell 2 (by omega)
        rw [Go.Deep.add_add] at c0 c1 c2
        exact ⟨⟨s, t, C⟩, ⟨Go.bounds_i64 z0, Go.bounds_i64 z1, hll, hff⟩, ad, cp, by simpa using c0, by simpa using c1, by simpa using c2, hr⟩
    have hin : Inhabited PPt := ⟨⟨0, 0, []⟩⟩
    obtain ⟨f, hfz⟩ := Go.Deep.choose_lt each
    have hlen : ((List.range len).map f).length = len := by simp
    have hn : ∀ i, i < len → nthT ((List.range len).map f) i = f i := fun i hi => by rw [nthT_eq (by simpa using hi)]; simp
    refine ⟨(List.range len).map f, hlen.symm, ?_, by omega, fun y hy => ?_⟩
    · by_cases h0 : len = 0
      · left; subst h0; rfl
      · right
        obtain ⟨b, off, spot⟩ := x
        obtain ⟨_, ad, cp, c0, _⟩ := hfz 0 (by omega)
        have hspot : spot = none := by simpa [Addr.add] using World.cell?_spot c0
        subst hspot
        have eb : b < W.heap.size := by
          by_cases hb : b < W.heap.size
          · exact hb
          · have : W.heap[b]? = none := by simp; omega
            simp [World.cell?, Addr.add, this] at c0
        have ea : ∀ i, (⟨b, off, none⟩ : Addr).add i = ⟨b, off + i, none⟩ := fun i => by by_cases h : i = 0 <;> simp [Addr.add, h]
        refine ⟨b, off, rfl, eb, fun i hi => ?_⟩
        rw [hlen] at hi
        obtain ⟨_, ad, cp, c0, c1, c2, hr⟩ := hfz i hi
        rw [ea] at c0 c1 c2
        rw [hn i hi]
        exact ⟨ad, cp, c0, c1, c2, hr⟩
    · obtain ⟨i, hi, rfl⟩ := List.mem_map.1 hy
      exact (hfz i (by simpa using hi)).1
end Go.Proofs.YtooninmicfcfoaaGreat.Sts
