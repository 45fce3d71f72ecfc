/-
  PROVED: the marks that markPartS writes lie in the parts' own memory alone, and heldPartS finds them.
-/
import Derived.Test.YtooninmicfcfoaaGreatQSts
set_option linter.unusedVariables false
namespace Go.Proofs.YtooninmicfcfoaaGreat.StsM
open Go.RowKit
open Labs LabS Alms AlmM Over Blk App Rws ChnI ChnC ChnP ChnK Chs Prt PrtM Sts

def PRow.M (x : PRow) : Nat := match x.a with
  | some ad => ad.block
  | none => 0
theorem full_M {ps : List PRow} (h : Own8 ps) {x : PRow} (hx : x ∈ ps) : x.a = some ⟨PRow.M x, 0, none⟩ := by
  obtain ⟨M, e⟩ := h.full x hx
  unfold PRow.M
  rw [e]
theorem po_cb {lo : Nat} {w : World} {x : PRow} (h : PO lo w x.a x.c x.cs) (hM : x.a = some ⟨PRow.M x, 0, none⟩) : CB lo w (PRow.M x) x.c x.cs := by
  rcases h with ⟨e, _⟩ | ⟨M, e, h⟩
  · rw [e] at hM; cases hM
  · rw [e] at hM
    have : M = PRow.M x := by injection hM with hM; injection hM
    rw [← this]; exact h
theorem blksP_iff {x : PRow} (hM : x.a = some ⟨PRow.M x, 0, none⟩) (k : Nat) : blksP x k ↔ blksC (PRow.M x) x.cs k := by
  constructor
  · rintro ⟨M, e, h⟩
    rw [hM] at e
    injection e with e
    injection e with e
    rw [e]; exact h
  · intro h
    exact ⟨_, hM, h⟩
def blksS (M : Nat) (ps : List PRow) (k : Nat) : Prop := k = M ∨ ∃ x ∈ ps, blksP x k
theorem blksS_low {lo : Nat} {w : World} {M c : Nat} {ps : List PRow} (h : PB lo w M c ps) (k : Nat) (hk : blksS M ps k) : lo ≤ k := by
  rcases hk with rfl | ⟨x, hx, hk⟩
  · exact h.at'
  · exact blksP_low (h.rows x hx) k hk
theorem blksS_high {lo : Nat} {w : World} {M c : Nat} {ps : List PRow} (h : PB lo w M c ps) (k : Nat) (hk : blksS M ps k) : k < w.heap.size := by
  rcases hk with rfl | ⟨x, hx, hk⟩
  · exact h.lt
  · exact blksP_high (h.rows x hx) k hk
theorem po_only {S : Nat → Prop} {lo : Nat} {w w' : World} {x : PRow} (h : PO lo w x.a x.c x.cs) (ho : Only S w w') (hn : ∀ k, blksP x k → ¬ S k) : PO lo w' x.a x.c x.cs := by
  rcases h with h | ⟨M, e, h⟩
  · exact .inl h
  · exact .inr ⟨M, e, cb_only h ho fun k hk => hn k ⟨M, e, hk⟩⟩
theorem pb_only {S : Nat → Prop} {lo : Nat} {w w' : World} {M c : Nat} {ps : List PRow} (h : PB lo w M c ps) (ho : Only S w w') (hn : ∀ k, blksS M ps k → ¬ S k) : PB lo w' M c ps := by
  obtain ⟨cur, h1, h2⟩ := h.outer
  exact ⟨h.at', h.cap, ⟨cur, ho.blk h1 (hn _ (.inl rfl)), h2⟩, fun x hx => po_only (h.rows x hx) ho fun k hk => hn k (.inr ⟨x, hx, hk⟩)⟩
theorem pb_ne {lo : Nat} {w : World} {M : Nat} {cur : Array Value} {x : PRow} (h1 : Blk w M cur 26) (h : PO lo w x.a x.c x.cs) : ¬ blksP x M := by
  rintro ⟨N, e, hk⟩
  rcases h with ⟨e', _⟩ | ⟨N', e', h⟩
  · rw [e'] at e; cases e
  · rw [e'] at e
    cases e
    rcases hk with rfl | ⟨y, hy, hk⟩
    · obtain ⟨cu, h2, _⟩ := h.outer
      exact blkT_ne h1 h2 (by decide) rfl
    · have hab := h.rows.rows y hy
      rcases hk with rfl | ⟨z, hz, rfl⟩
      · obtain ⟨cu, h2, _⟩ := hab.outer
        exact blkT_ne h1 h2 (by decide) rfl
      · obtain ⟨_, _, ds, h2, _⟩ := hab.rows z hz
        exact blkT_ne h1 h2 (by decide) rfl
def sumQ : List PRow → Nat
  | [] => 0
  | x :: ps => 2 + sumM x.cs + sumQ ps
theorem sumQ_app (p q : List PRow) : sumQ (p ++ q) = sumQ p + sumQ q := by
  induction p with
  | nil => simp [sumQ]
  | cons x p ih => rw [List.cons_append, sumQ, ih, sumQ]; omega
theorem takeQ_up {ps : List PRow} {k : Nat} (h : k < ps.length) : ps.take (k + 1) = ps.take k ++ [nthQ ps k] := by rw [nthQ_eq h, List.take_succ_eq_append_getElem h]
theorem sumQ_up {ps : List PRow} {k : Nat} (h : k < ps.length) : sumQ (ps.take (k + 1)) = sumQ (ps.take k) + 2 + sumM (nthQ ps k).cs := by rw [takeQ_up h, sumQ_app]; simp [sumQ]; omega
theorem sumQ_all {ps : List PRow} {k : Nat} (h : ps.length ≤ k) : sumQ (ps.take k) = sumQ ps := by rw [List.take_of_length_le h]
theorem sumQ_le (ps : List PRow) (k : Nat) : sumQ (ps.take k) ≤ sumQ ps := by
  have := sumQ_app (ps.take k) (ps.drop k)
  rw [List.take_append_drop] at this
  omega
theorem sumQ_pts (ps : List PRow) : sumQ ps ≤ 3 * sumT (pts ps) + 2 * ps.length := by
  induction ps with
  | nil => simp [sumQ]
  | cons x ps ih =>
    have h1 := sumM_chs x.cs
    have h2 := chs_len x.cs
    have h3 : sumT (pts (x :: ps)) = (chs x.cs).length + sumC (chs x.cs) + sumT (pts ps) := rfl
    rw [h3, sumQ]
    simp only [List.length_cons]
    omega
def Fine8 (ps : List PRow) : Prop := ∀ x ∈ ps, x.cs.length ≤ 2000000 ∧ ∀ y ∈ x.cs, y.rs.length ≤ 2000000 ∧ ∀ z ∈ y.rs, z.2.2.l.length ≤ 1048576
theorem fine8 {lo : Nat} {w : World} {M c : Nat} {ps : List PRow} {S : List PPt} (h : PB lo w M c ps) (hp : pts ps = S) (hs : sumT S ≤ 2000000) : Fine8 ps := fun x hx => by
  have hm : x.pt ∈ S := by rw [← hp]; exact List.mem_map.2 ⟨x, hx, rfl⟩
  have h1 := sumT_mem hm
  have h2 : x.pt.C = chs x.cs := rfl
  rw [h2, chs_len] at h1
  refine ⟨by omega, fun y hy => ?_⟩
  have h3 : y.ch ∈ chs x.cs := List.mem_map.2 ⟨y, hy, rfl⟩
  have h4 := sumC_mem h3
  have h5 : y.ch.P = pals y.rs := rfl
  rw [h5, pals_len] at h4
  refine ⟨by omega, fun z hz => ?_⟩
  rcases h.rows x hx with ⟨_, _, e⟩ | ⟨N, _, hcb⟩
  · rw [e] at hy; simp at hy
  · exact ((hcb.rows.rows y hy).rows z hz).2.1
structure MP (w : World) (M : Nat) (ps : List PRow) (k j : Nat) : Prop where
  outer : ∃ cur : Array Value, Blk w M cur 26 ∧ ps.length * 3 ≤ cur.size ∧ (∀ i, i < ps.length → cur[i * 3 + 2]? = some (.slice (some ⟨PRow.M (nthQ ps i), 0, none⟩) (nthQ ps i).cs.length (nthQ ps i).c)) ∧ ∀ i, i < j → cur[i * 3]? = some (.int .i64 ((k + sumQ (ps.take i) : Nat) : Int)) ∧ cur[i * 3 + 1]? = some (.int .i64 ((k + sumQ (ps.take i) + 1 : Nat) : Int))
  done : ∀ i, i < j → MC w (PRow.M (nthQ ps i)) (nthQ ps i).cs (k + sumQ (ps.take i) + 2) (nthQ ps i).cs.length
  todo : ∀ i, j ≤ i → i < ps.length → ∃ lo, CB lo w (PRow.M (nthQ ps i)) (nthQ ps i).c (nthQ ps i).cs
  apart : ∀ x ∈ ps, ¬ blksP x M
theorem PB.mp {lo : Nat} {w : World} {M c : Nat} {ps : List PRow} (h : PB lo w M c ps) (ho : Own8 ps) (k : Nat) : MP w M ps k 0 := by
  obtain ⟨cur, h1, h2, h3⟩ := h.outer
  have hc := h.cap
  exact ⟨⟨cur, h1, by omega, fun i hi => by rw [← full_M ho (nthQ_mem hi)]; exact (h3 i hi).2.2, fun i hi => by omega⟩, fun i hi => by omega, fun i _ hi => ⟨lo, po_cb (h.rows _ (nthQ_mem hi)) (full_M ho (nthQ_mem hi))⟩, fun x hx => pb_ne h1 (h.rows x hx)⟩
theorem MP.only {S : Nat → Prop} {w w' : World} {M : Nat} {ps : List PRow} {k : Nat} (h : MP w M ps k ps.length) (hO : Own8 ps) (ho : Only S w w') (hn : ∀ k, blksS M ps k → ¬ S k) : MP w' M ps k ps.length := by
  obtain ⟨cur, h1, h2⟩ := h.outer
  exact ⟨⟨cur, ho.blk h1 (hn _ (.inl rfl)), h2⟩, fun i hi => (h.done i hi).only ho fun q hq => hn q (.inr ⟨_, nthQ_mem hi, (blksP_iff (full_M hO (nthQ_mem hi)) q).2 hq⟩), fun i h1 h2 => by omega, h.apart⟩
theorem MP.grow {w w' : World} {M : Nat} {ps : List PRow} {k : Nat} (h : MP w M ps k ps.length) (hb : Below w.heap.size w w') : MP w' M ps k ps.length := by
  obtain ⟨cur, h1, h2⟩ := h.outer
  exact ⟨⟨cur, h1.grow hb, h2⟩, fun i hi => (h.done i hi).grow hb, fun i h1 h2 => by omega, h.apart⟩
theorem ne_rowsQ {ps : List PRow} (h : Own8 ps) {i j : Nat} (hi : i < ps.length) (hj : j < ps.length) (hne : i ≠ j) : ∀ k, blksC (PRow.M (nthQ ps i)) (nthQ ps i).cs k → ¬ blksC (PRow.M (nthQ ps j)) (nthQ ps j).cs k := by
  have hp := h.ne
  rw [List.pairwise_iff_getElem] at hp
  intro k h1 h2
  have h1' := (blksP_iff (full_M h (nthQ_mem hi)) k).2 h1
  have h2' := (blksP_iff (full_M h (nthQ_mem hj)) k).2 h2
  rw [nthQ_eq hi] at h1'
  rw [nthQ_eq hj] at h2'
  rcases Nat.lt_or_gt_of_ne hne with hlt | hlt
  · exact hp i j hi hj hlt k h1' h2'
  · exact hp j i hj hi hlt k h2' h1'

set_option maxHeartbeats 3200000 in
theorem markPS_any (M c k lo cap : Nat) (ps : List PRow) (w : World) (hPB : PB lo w M c ps) (hO : Own8 ps) (hl : ps.length ≤ 2000000) (hf : Fine8 ps) (hk : 1 ≤ k) (hk2 : k + sumQ ps ≤ 9000000) :
    Calls Tryz.prog 57 #[.slice (some ⟨M, 0, none⟩) ps.length cap, .int .i64 k] w fun e w' => e = .returned (.int .i64 ((k + sumQ ps : Nat) : Int)) ∧ MP w' M ps k ps.length ∧ Only (blksS M ps) w w' := by
  have HM : Hid (MP w M ps k 0) := PB.mp hPB hO k
  have HN : Hid (Own8 ps ∧ k + sumQ ps ≤ 9000000 ∧ Fine8 ps) := ⟨hO, hk2, hf⟩
  clear hPB hk2 hf hO
  go_enter Tryz.func57, Tryz.ntmps57
  go_wp2
  go_loopw [1, 5] (fun x i w' => ∃ j : Nat, j ≤ ps.length ∧ i = .int .i64 j ∧ x = .int .i64 ((k + sumQ (ps.take j) : Nat) : Int) ∧ MP w' M ps k j ∧ Only (blksS M ps) w w') (fun _ i _ => ps.length - (intOf i).toNat)
  case atStart => exact ⟨0, Nat.zero_le _, rfl, rfl, HM.out, Only.refl _ _⟩
  case round =>
    obtain ⟨j, hj, rfl, rfl, hm, ha⟩ := hrel
    have HM1 : Hid (MP wr M ps k j) := hm
    have HA : Hid (Only (blksS M ps) w wr) := ha
    clear hm ha
    by_cases hlt : j < ps.length
    · have hlt' : (j : Int) < (ps.length : Int) := by omega
      have HU : Hid (k + sumQ (ps.take (j + 1)) = k + sumQ (ps.take j) + 2 + sumM (nthQ ps j).cs) := by have := sumQ_up hlt; show _ = _; omega
      have hzb : k + sumQ (ps.take (j + 1)) ≤ 9000000 := by have := sumQ_le ps (j + 1); have := HN.out.2.1; omega
      obtain ⟨cur, ho, hos, hc, hdn⟩ := HM1.out.outer
      obtain ⟨lo1, hab⟩ := HM1.out.todo j (Nat.le_refl _) hlt
      have HO : Hid (Blk wr M cur 26 ∧ ps.length * 3 ≤ cur.size ∧ (∀ i, i < ps.length → cur[i * 3 + 2]? = some (.slice (some ⟨PRow.M (nthQ ps i), 0, none⟩) (nthQ ps i).cs.length (nthQ ps i).c)) ∧ ∀ i, i < j → cur[i * 3]? = some (.int .i64 ((k + sumQ (ps.take i) : Nat) : Int)) ∧ cur[i * 3 + 1]? = some (.int .i64 ((k + sumQ (ps.take i) + 1 : Nat) : Int))) := ⟨ho, hos, hc, hdn⟩
      have HAB : Hid (CB lo1 wr (PRow.M (nthQ ps j)) (nthQ ps j).c (nthQ ps j).cs) := hab
      obtain ⟨v0, p0⟩ : ∃ v, wr.cell? ⟨M, j * 3, none⟩ = some v := ⟨cur[j * 3]'(by omega), by rw [ho.cell]; simp⟩
      obtain ⟨v1, p1⟩ : ∃ v, wr.cell? ⟨M, j * 3 + 1, none⟩ = some v := ⟨cur[j * 3 + 1]'(by omega), by rw [ho.cell]; simp⟩
      have f0 := ho.frozen (j * 3)
      have f1 := ho.frozen (j * 3 + 1)
      have c1 : wr.cell? ⟨M, j * 3 + 2, none⟩ = some (.slice (some ⟨PRow.M (nthQ ps j), 0, none⟩) (nthQ ps j).cs.length (nthQ ps j).c) := (ho.cell _).trans (hc j hlt)
      generalize hz : k + sumQ (ps.take j) = z at *
      have HZ : Hid (k + sumQ (ps.take j) = z) := hz
      have hz1 : 1 ≤ z := by omega
      have hz2 : z + 2 ≤ 9000000 := by have := HU.out; omega
      clear ho hos hc hdn hab hz
      go_wp2_with fail
      have ez : (z : Int) + 1 + 1 = ((z + 2 : Nat) : Int) := by omega
      have ey : (z : Int) + 1 = ((z + 1 : Nat) : Int) := by omega
      first | rw [ez] | (have ez2 : (z : Int) + 2 = ((z + 2 : Nat) : Int) := by omega
                         rw [ez2])
      rw [ey]
      generalize hW : (wr.setCell ⟨M, j * 3, none⟩ (.int .i64 z)).setCell ⟨M, j * 3 + 1, none⟩ (.int .i64 ((z + 1 : Nat) : Int)) = W
      have HKW : Hid (Blk W M ((cur.setIfInBounds (j * 3) (.int .i64 z)).setIfInBounds (j * 3 + 1) (.int .i64 ((z + 1 : Nat) : Int))) 26) := by rw [← hW]; exact (HO.out.1.set _ _).set _ _
      have HMW : Hid (Only (fun q => q = M) wr W) := by rw [← hW]; exact ((Only.refl (fun q => q = M) wr).set (M := M) rfl _ _).set (M := M) rfl _ _
      have hapM : ∀ i, i < ps.length → ∀ q, blksC (PRow.M (nthQ ps i)) (nthQ ps i).cs q → q ≠ M := fun i hi q hq e => HM1.out.apart _ (nthQ_mem hi) (by rw [← e]; exact (blksP_iff (full_M HN.out.1 (nthQ_mem hi)) q).2 hq)
      have HAM : Hid (∀ i, i < ps.length → ∀ q, blksC (PRow.M (nthQ ps i)) (nthQ ps i).cs q → q ≠ M) := hapM
      have HABW : Hid (CB lo1 W (PRow.M (nthQ ps j)) (nthQ ps j).c (nthQ ps j).cs) := cb_only HAB.out HMW.out (fun q hq e => hapM j hlt q hq e)
      clear hW p0 p1 c1 f0 f1 ez ey hapM
      refine (markCS_any (PRow.M (nthQ ps j)) (nthQ ps j).c (z + 2) lo1 _ (nthQ ps j).cs W HABW.out (HN.out.2.2 _ (nthQ_mem hlt)).1 (fun x hx => ((HN.out.2.2 _ (nthQ_mem hlt)).2 x hx).1) (by omega) (by have := HU.out; omega)).mono ?_
      rintro e w2 ⟨rfl, hma, ho2⟩
      have HMA : Hid (MC w2 (PRow.M (nthQ ps j)) (nthQ ps j).cs (z + 2) (nthQ ps j).cs.length) := hma
      have HO2 : Hid (Only (blksC (PRow.M (nthQ ps j)) (nthQ ps j).cs) W w2) := ho2
      have HK2 : Hid (Blk w2 M ((cur.setIfInBounds (j * 3) (.int .i64 z)).setIfInBounds (j * 3 + 1) (.int .i64 ((z + 1 : Nat) : Int))) 26) := ho2.blk HKW.out (fun h => HAM.out j hlt M h rfl)
      have HE : Hid (MP w2 M ps k (j + 1)) := by
        refine ⟨⟨_, HK2.out, by simp; exact HO.out.2.1, fun i hi => ?_, fun i hi => ?_⟩, fun i hi => ?_, fun i hi hl => ?_, HM1.out.apart⟩
        · rw [set_ne (by omega), set_ne (by omega)]; exact HO.out.2.2.1 i hi
        · by_cases e : i = j
          · subst e
            rw [HZ.out]
            exact ⟨by rw [set_ne (by omega), set_at (by have := HO.out.2.1; omega)], by rw [set_at (by have := HO.out.2.1; simp; omega)]⟩
          · rw [set_ne (by omega), set_ne (by omega), set_ne (by omega), set_ne (by omega)]; exact HO.out.2.2.2 i (by omega)
        · by_cases e : i = j
          · subst e
            rw [HZ.out]
            exact HMA.out
          · have h1 := (HM1.out.done i (by omega)).only HMW.out (fun q hq e => HAM.out i (by omega) q hq e)
            exact h1.only HO2.out (fun q hq hs => ne_rowsQ HN.out.1 (by omega) hlt e q hq hs)
        · obtain ⟨lo2, h1⟩ := HM1.out.todo i (by omega) hl
          exact ⟨lo2, cb_only (cb_only h1 HMW.out (fun q hq e => HAM.out i hl q hq e)) HO2.out (fun q hq hs => ne_rowsQ HN.out.1 hl hlt (by omega) q hq hs)⟩
      have HA2 : Hid (Only (blksS M ps) w w2) := by
        refine HA.out.trans (Only.trans ?_ ?_ (b := W))
        · exact ⟨HMW.out.os, HMW.out.tape, HMW.out.output, HMW.out.size, fun q hq hn => HMW.out.block q hq (fun e => hn (.inl e))⟩
        · exact ⟨HO2.out.os, HO2.out.tape, HO2.out.output, HO2.out.size, fun q hq hn => HO2.out.block q hq (fun e => hn (.inr ⟨_, nthQ_mem hlt, (blksP_iff (full_M HN.out.1 (nthQ_mem hlt)) q).2 e⟩))⟩
      have HF : Hid (k + sumQ (ps.take (j + 1)) = z + 2 + sumM (nthQ ps j).cs) := HU.out
      clear hma ho2
      generalize hy : z + 2 + sumM (nthQ ps j).cs = y at HF ⊢
      clear hy
      go_wp2
      go_roundw
      case rel => exact ⟨j + 1, by omega, by go_num, by rw [HF.out], HE.out, HA2.out⟩
      case measure => simp [intOf]; omega
    · have hge : ¬ (j : Int) < (ps.length : Int) := by omega
      have HE : Hid (j = ps.length ∧ sumQ (ps.take j) = sumQ ps) := ⟨by omega, sumQ_all (by omega)⟩
      go_wp2
      go_ret
      exact ⟨Mark.retI (by have := HE.out.2; omega), by have := HM1.out; rwa [HE.out.1] at this, HA.out⟩

set_option maxHeartbeats 3200000 in
theorem heldPS_any (M k cap : Nat) (ps : List PRow) (w : World) (hM : MP w M ps k ps.length) (hf : Fine8 ps) (hl : ps.length ≤ 2000000) (hk : 1 ≤ k) (hk2 : k + sumQ ps ≤ 9000000) :
    Calls Tryz.prog 59 #[.slice (some ⟨M, 0, none⟩) ps.length cap, .int .i64 k] w fun e w' => e = .returned (.int .i64 ((k + sumQ ps : Nat) : Int)) ∧ Below w.heap.size w w' := by
  have HS : Hid (k + sumQ ps ≤ 9000000 ∧ Fine8 ps) := ⟨hk2, hf⟩
  have HM : Hid (MP w M ps k ps.length) := hM
  clear hM hf hk2
  go_enter Tryz.func59, Tryz.ntmps59
  go_wp2
  go_loopw [1, 5] (fun x i w' => ∃ j : Nat, j ≤ ps.length ∧ i = .int .i64 j ∧ x = .int .i64 ((k + sumQ (ps.take j) : Nat) : Int) ∧ Below w.heap.size w w') (fun _ i _ => ps.length - (intOf i).toNat)
  case atStart => exact ⟨0, Nat.zero_le _, rfl, rfl, Below.refl _ _⟩
  case round =>
    obtain ⟨j, hj, rfl, rfl, hb⟩ := hrel
    have HB : Hid (Below w.heap.size w wr) := hb
    have HM1 : Hid (MP wr M ps k ps.length) := HM.out.grow hb
    clear hb
    by_cases hlt : j < ps.length
    · have hlt' : (j : Int) < (ps.length : Int) := by omega
      have HU : Hid (k + sumQ (ps.take (j + 1)) = k + sumQ (ps.take j) + 2 + sumM (nthQ ps j).cs) := by have := sumQ_up hlt; show _ = _; omega
      have hzb : k + sumQ (ps.take (j + 1)) ≤ 9000000 := by have := sumQ_le ps (j + 1); have := HS.out.1; omega
      obtain ⟨cur, ho, hos, hc, hdn⟩ := HM1.out.outer
      have c0 : wr.cell? ⟨M, j * 3, none⟩ = some (.int .i64 ((k + sumQ (ps.take j) : Nat) : Int)) := (ho.cell _).trans (hdn j hlt).1
      have c1 : wr.cell? ⟨M, j * 3 + 1, none⟩ = some (.int .i64 ((k + sumQ (ps.take j) + 1 : Nat) : Int)) := (ho.cell _).trans (hdn j hlt).2
      have c2 : wr.cell? ⟨M, j * 3 + 2, none⟩ = some (.slice (some ⟨PRow.M (nthQ ps j), 0, none⟩) (nthQ ps j).cs.length (nthQ ps j).c) := (ho.cell _).trans (hc j hlt)
      have hma := HM1.out.done j hlt
      generalize hz : k + sumQ (ps.take j) = z at *
      have hz1 : 1 ≤ z := by omega
      have hz2 : z + 2 ≤ 9000000 := by have := HU.out; omega
      have HC : Hid (Calls Tryz.prog 115 #[.slice (some ⟨PRow.M (nthQ ps j), 0, none⟩) (nthQ ps j).cs.length (nthQ ps j).c, .int .i64 ((z + 2 : Nat) : Int)] wr fun e w' => e = .returned (.int .i64 ((z + 2 + sumM (nthQ ps j).cs : Nat) : Int)) ∧ Below wr.heap.size wr w') := heldCS_any _ _ _ _ wr hma (HS.out.2 _ (nthQ_mem hlt)).2 (HS.out.2 _ (nthQ_mem hlt)).1 (by omega) (by have := HU.out; omega)
      have ez1 : ((z + 1 : Nat) : Int) = (z : Int) + 1 := by omega
      rw [ez1] at c1
      clear ho hos hc hdn hma hz ez1
      go_wp2_with fail
      have ez : (z : Int) + 1 + 1 = ((z + 2 : Nat) : Int) := by omega
      first | rw [ez] | (have ez2 : (z : Int) + 2 = ((z + 2 : Nat) : Int) := by omega
                         rw [ez2])
      refine HC.out.mono ?_
      rintro e w1 ⟨rfl, hb1⟩
      have HB1 : Hid (Below w.heap.size w w1) := grow_on HB.out hb1
      have HF : Hid (k + sumQ (ps.take (j + 1)) = z + 2 + sumM (nthQ ps j).cs) := HU.out
      clear hb1 HC c0 c1 c2 ez HU
      generalize hy : z + 2 + sumM (nthQ ps j).cs = y at HF ⊢
      clear hy
      have hyn : ¬ (y : Int) < 0 := by omega
      go_wp2
      go_roundw
      case rel => exact ⟨j + 1, by omega, by go_num, by rw [HF.out], HB1.out⟩
      case measure => simp [intOf]; omega
    · have hge : ¬ (j : Int) < (ps.length : Int) := by omega
      have HE : Hid (sumQ (ps.take j) = sumQ ps) := sumQ_all (by omega)
      go_wp2
      go_ret
      exact ⟨Mark.retI (by have := HE.out; omega), HB.out⟩
end Go.Proofs.YtooninmicfcfoaaGreat.StsM
