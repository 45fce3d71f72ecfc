/-
  PROVED: the marks that markGroupS writes lie in the groups' own memory alone, and heldGroupS finds them.
-/
import Derived.Test.YtgncimlojbnbfaaGps
namespace Go.Proofs.Ytgncimlojbnbfaa.GpM
open Go.RowKit
open Go.Proofs.Ytgncimlojbnbfaa.Labs Go.Proofs.Ytgncimlojbnbfaa.LabS Go.Proofs.Ytgncimlojbnbfaa.Alms Go.Proofs.Ytgncimlojbnbfaa.AlmM Go.Proofs.Ytgncimlojbnbfaa.Over Go.Proofs.Ytgncimlojbnbfaa.Blk Go.Proofs.Ytgncimlojbnbfaa.App Go.Proofs.Ytgncimlojbnbfaa.Rws Go.Proofs.Ytgncimlojbnbfaa.ChnI Go.Proofs.Ytgncimlojbnbfaa.ChnC Go.Proofs.Ytgncimlojbnbfaa.ChnK Go.Proofs.Ytgncimlojbnbfaa.Chs Go.Proofs.Ytgncimlojbnbfaa.Grp Go.Proofs.Ytgncimlojbnbfaa.Gps
set_option linter.unusedVariables false
theorem blk_ne {w : World} {x y : Nat} {cs ds : Array Value} {T U : TypeId} (h : Blk w x cs T) (k : Blk w y ds U) (hT : T ≠ U) : x ≠ y := fun e => by
  subst e
  unfold Blk at h k
  rw [h] at k
  cases k
  exact hT rfl
def blksG (M : Nat) (us : List GRow) (k : Nat) : Prop := k = M ∨ ∃ x ∈ us, x.blks k
theorem blksG_low {lo : Nat} {w : World} {M c : Nat} {us : List GRow} (h : GsB lo w M c us) (k : Nat) (hk : blksG M us k) : lo ≤ k := by
  rcases hk with rfl | ⟨x, hx, hk⟩
  · exact h.at'
  · exact (h.rows.rng hx k hk).1
theorem blksG_high {lo : Nat} {w : World} {M c : Nat} {us : List GRow} (h : GsB lo w M c us) (k : Nat) (hk : blksG M us k) : k < w.heap.size := by
  rcases hk with rfl | ⟨x, hx, hk⟩
  · exact h.lt
  · exact (h.rows.rng hx k hk).2
theorem gb_ne {lo : Nat} {w : World} {M : Nat} {cur : Array Value} {x : GRow} (hb : Blk w M cur 67) (h : GB lo w x.K x.key x.M x.o x.rs) : ¬ x.blks M := fun hk => by
  rcases hk with e | e | ⟨y, hy, e⟩
  · obtain ⟨_, cs, h1, _⟩ := h.key
    exact blk_ne hb h1 (by decide) e
  · obtain ⟨cu, h1, _⟩ := h.row.outer
    exact blk_ne hb h1 (by decide) e
  · obtain ⟨_, _, ds, h2, _⟩ := h.row.rows y hy
    exact blk_ne hb h2 (by decide) e.symm
theorem gs_only {S : Nat → Prop} {lo : Nat} {w w' : World} {M c : Nat} {us : List GRow} (h : GsB lo w M c us) (ho : Only S w w') (hn : ∀ k, blksG M us k → ¬ S k) : GsB lo w' M c us := by
  obtain ⟨cur, h1, h2⟩ := h.outer
  exact ⟨h.at', h.cap, ⟨cur, ho.blk h1 (hn _ (.inl rfl)), h2⟩, ⟨fun x hx => (h.rows.rows x hx).only ho fun k hk => hn k (.inr ⟨x, hx, hk⟩), h.rows.ne⟩⟩
def oneM (x : GRow) : Nat := 3 + 2 * x.key.length + sumA x.rs
def sumR : List GRow → Nat
  | [] => 0
  | x :: us => oneM x + sumR us
theorem sumR_app (p q : List GRow) : sumR (p ++ q) = sumR p + sumR q := by
  induction p with
  | nil => simp [sumR]
  | cons x p ih => rw [List.cons_append, sumR, ih, sumR]; omega
theorem takeR_up {us : List GRow} {k : Nat} (h : k < us.length) : us.take (k + 1) = us.take k ++ [nthR us k] := by rw [nthR_eq h, List.take_succ_eq_append_getElem h]
theorem sumR_up {us : List GRow} {k : Nat} (h : k < us.length) : sumR (us.take (k + 1)) = sumR (us.take k) + oneM (nthR us k) := by rw [takeR_up h, sumR_app]; simp [sumR]
theorem sumR_all {us : List GRow} {k : Nat} (h : us.length ≤ k) : sumR (us.take k) = sumR us := by rw [List.take_of_length_le h]
theorem sumR_le (us : List GRow) (k : Nat) : sumR (us.take k) ≤ sumR us := by
  have := sumR_app (us.take k) (us.drop k)
  rw [List.take_append_drop] at this
  omega
theorem sumR_grs (us : List GRow) : sumR us ≤ 3 * (sumG (grs us) + us.length) := by
  induction us with
  | nil => simp [sumR]
  | cons x us ih =>
    have h1 := sumA_pals x.rs
    have h2 := pals_len x.rs
    have h3 : sumG (grs (x :: us)) = (x.key.length + (pals x.rs).length + sumL (pals x.rs)) + sumG (grs us) := rfl
    rw [h3, sumR, oneM]
    simp only [List.length_cons]
    omega
/-- the groups while they are marked: the first j are -/
structure MR (w : World) (M : Nat) (us : List GRow) (k j : Nat) : Prop where
  outer : ∃ cur : Array Value, Blk w M cur 67 ∧ us.length * 5 ≤ cur.size ∧ (∀ i, i < us.length → cur[i * 5 + 1]? = some (.slice (some ⟨(nthR us i).K, 0, none⟩) (nthR us i).key.length (nthR us i).kd) ∧ cur[i * 5 + 4]? = some (.slice (some ⟨(nthR us i).M, (nthR us i).o, none⟩) (nthR us i).rs.length (nthR us i).c)) ∧ ∀ i, i < j → cur[i * 5]? = some (.int .i64 ((k + sumR (us.take i) : Nat) : Int)) ∧ cur[i * 5 + 2]? = some (.int .i64 ((k + sumR (us.take i) + 1 + 2 * (nthR us i).key.length : Nat) : Int)) ∧ cur[i * 5 + 3]? = some (.int .i64 ((k + sumR (us.take i) + 2 + 2 * (nthR us i).key.length : Nat) : Int))
  done : ∀ i, i < j → LM w (nthR us i).K (nthR us i).key.length (k + sumR (us.take i) + 1) ∧ MO w (nthR us i).M (nthR us i).o (nthR us i).rs (k + sumR (us.take i) + 3 + 2 * (nthR us i).key.length) (nthR us i).rs.length
  todo : ∀ i, j ≤ i → i < us.length → ∃ lo, GB lo w (nthR us i).K (nthR us i).key (nthR us i).M (nthR us i).o (nthR us i).rs
  apart : ∀ x ∈ us, ¬ x.blks M
  inner : ∀ x ∈ us, ¬ blks x.M x.rs x.K
theorem GsB.mr {lo : Nat} {w : World} {M c : Nat} {us : List GRow} (h : GsB lo w M c us) (k : Nat) : MR w M us k 0 := by
  obtain ⟨cur, h1, h2, h3⟩ := h.outer
  have hc := h.cap
  exact ⟨⟨cur, h1, by omega, fun i hi => ⟨(h3 i hi).e1, (h3 i hi).e4⟩, fun i hi => by omega⟩, fun i hi => by omega, fun i _ hi => ⟨lo, h.rows.rows _ (nthR_mem hi)⟩, fun x hx => gb_ne h1 (h.rows.rows x hx), fun x hx => (h.rows.rows x hx).ne⟩
theorem MR.only {S : Nat → Prop} {w w' : World} {M : Nat} {us : List GRow} {k : Nat} (h : MR w M us k us.length) (ho : Only S w w') (hn : ∀ k, blksG M us k → ¬ S k) : MR w' M us k us.length := by
  obtain ⟨cur, h1, h2⟩ := h.outer
  exact ⟨⟨cur, ho.blk h1 (hn _ (.inl rfl)), h2⟩, fun i hi => ⟨(h.done i hi).1.only ho (hn _ (.inr ⟨_, nthR_mem hi, .inl rfl⟩)), (h.done i hi).2.only ho fun q hq => hn q (.inr ⟨_, nthR_mem hi, .inr hq⟩)⟩, fun i h1 h2 => by omega, h.apart, h.inner⟩
theorem MR.grow {w w' : World} {M : Nat} {us : List GRow} {k : Nat} (h : MR w M us k us.length) (hb : Below w.heap.size w w') : MR w' M us k us.length := h.only (S := fun _ => False) (Only.of hb) (fun _ _ h => h)
theorem ne_rowsG {us : List GRow} (h : us.Pairwise fun x y => ∀ k, x.blks k → ¬ y.blks k) {i j : Nat} (hi : i < us.length) (hj : j < us.length) (hne : i ≠ j) : ∀ k, (nthR us i).blks k → ¬ (nthR us j).blks k := by
  rw [List.pairwise_iff_getElem] at h
  rw [nthR_eq hi, nthR_eq hj]
  rcases Nat.lt_or_gt_of_ne hne with hlt | hlt
  · exact h i j hi hj hlt
  · exact fun k h1 h2 => h j i hj hi hlt k h2 h1

set_option maxHeartbeats 3200000 in
theorem markGs_any (M c k lo cap : Nat) (us : List GRow) (w : World) (hGB : GsB lo w M c us) (hl : us.length ≤ 2000000) (hrl : ∀ x ∈ us, x.rs.length ≤ 2000000 ∧ x.key.length ≤ 1048576) (hk : 1 ≤ k) (hk2 : k + sumR us ≤ 9000000) :
    Calls Try.prog 28 #[.slice (some ⟨M, 0, none⟩) us.length cap, .int .i64 k] w fun e w' => e = .returned (.int .i64 ((k + sumR us : Nat) : Int)) ∧ MR w' M us k us.length ∧ Only (blksG M us) w w' := by
  have HM : Hid (MR w M us k 0) := GsB.mr hGB k
  have HN : Hid ((us.Pairwise fun x y => ∀ k, x.blks k → ¬ y.blks k) ∧ k + sumR us ≤ 9000000 ∧ ∀ x ∈ us, x.rs.length ≤ 2000000 ∧ x.key.length ≤ 1048576) := ⟨hGB.rows.ne, hk2, hrl⟩
  clear hGB hk2 hrl
  go_enter Try.func28, Try.ntmps28
  go_wp2
  go_loopw [1, 5] (fun x i w' => ∃ j : Nat, j ≤ us.length ∧ i = .int .i64 j ∧ x = .int .i64 ((k + sumR (us.take j) : Nat) : Int) ∧ MR w' M us k j ∧ Only (blksG M us) w w') (fun _ i _ => us.length - (intOf i).toNat)
  case atStart => exact ⟨0, Nat.zero_le _, rfl, rfl, HM.out, Only.refl _ _⟩
  case round =>
    obtain ⟨j, hj, rfl, rfl, hm, ha⟩ := hrel
    have HM1 : Hid (MR wr M us k j) := hm
    have HA : Hid (Only (blksG M us) w wr) := ha
    clear hm ha
    by_cases hlt : j < us.length
    · have hlt' : (j : Int) < (us.length : Int) := by omega
      have HU : Hid (k + sumR (us.take (j + 1)) = k + sumR (us.take j) + (3 + 2 * (nthR us j).key.length + sumA (nthR us j).rs)) := by have := sumR_up hlt; unfold oneM at this; show _ = _; omega
      have hzb : k + sumR (us.take (j + 1)) ≤ 9000000 := by have := sumR_le us (j + 1); have := HN.out.2.1; omega
      have HX : Hid ((nthR us j).rs.length ≤ 2000000 ∧ (nthR us j).key.length ≤ 1048576) := HN.out.2.2 _ (nthR_mem hlt)
      obtain ⟨cur, ho, hos, hc, hdn⟩ := HM1.out.outer
      have HO : Hid (us.length * 5 ≤ cur.size ∧ (∀ i, i < us.length → cur[i * 5 + 1]? = some (.slice (some ⟨(nthR us i).K, 0, none⟩) (nthR us i).key.length (nthR us i).kd) ∧ cur[i * 5 + 4]? = some (.slice (some ⟨(nthR us i).M, (nthR us i).o, none⟩) (nthR us i).rs.length (nthR us i).c)) ∧ ∀ i, i < j → cur[i * 5]? = some (.int .i64 ((k + sumR (us.take i) : Nat) : Int)) ∧ cur[i * 5 + 2]? = some (.int .i64 ((k + sumR (us.take i) + 1 + 2 * (nthR us i).key.length : Nat) : Int)) ∧ cur[i * 5 + 3]? = some (.int .i64 ((k + sumR (us.take i) + 2 + 2 * (nthR us i).key.length : Nat) : Int))) := ⟨hos, hc, hdn⟩
      have hB : Blk wr M cur 67 := ho
      have HB0 : Hid (Blk wr M cur 67) := hB
      obtain ⟨v0, p0⟩ : ∃ v, wr.cell? ⟨M, j * 5, none⟩ = some v := ⟨cur[j * 5]'(by omega), by rw [hB.cell]; simp⟩
      have f0 := hB.frozen (j * 5)
      generalize hz : k + sumR (us.take j) = z at *
      have HZ : Hid (k + sumR (us.take j) = z) := hz
      generalize hkl : (nthR us j).key.length = kl at *
      have HKL : Hid ((nthR us j).key.length = kl) := hkl
      have hz1 : 1 ≤ z := by omega
      have hz2 : z + 3 + 2 * kl ≤ 9000000 := by have := HU.out; omega
      clear ho hos hc hdn hB hz hkl
      generalize hy : z + 1 + 2 * kl = y at *
      have HY : Hid (z + 1 + 2 * kl = y) := hy
      have hy2 : y + 2 ≤ 9000000 := by omega
      -- the world behind the first store
      have hS1 : Only (blksG M us) w (wr.setCell ⟨M, j * 5, none⟩ (.int .i64 (z : Int))) := HA.out.set (.inl rfl) _ _
      have HS1 : Hid (Only (blksG M us) w (wr.setCell ⟨M, j * 5, none⟩ (.int .i64 (z : Int)))) := hS1
      have HB1 : Hid (Blk (wr.setCell ⟨M, j * 5, none⟩ (.int .i64 (z : Int))) M (cur.setIfInBounds (j * 5) (.int .i64 (z : Int))) 67) := HB0.out.set _ _
      have HO1 : Hid (Only (fun q => q = M) wr (wr.setCell ⟨M, j * 5, none⟩ (.int .i64 (z : Int)))) := (Only.refl (fun q => q = M) wr).set (M := M) rfl _ _
      obtain ⟨lo1, hgb⟩ := HM1.out.todo j (Nat.le_refl _) hlt
      have hap := HM1.out.apart _ (nthR_mem hlt)
      have HG1 : Hid (GB lo1 (wr.setCell ⟨M, j * 5, none⟩ (.int .i64 (z : Int))) (nthR us j).K (nthR us j).key (nthR us j).M (nthR us j).o (nthR us j).rs) := hgb.only HO1.out (fun q hq e => hap (by rw [← e]; exact hq))
      have HAP : Hid (¬ (nthR us j).blks M) := hap
      clear hgb hS1 hap
      obtain ⟨_, ks, hks, hkz, _⟩ := HG1.out.key
      have HC : Hid (Calls Try.prog 58 #[.slice (some ⟨(nthR us j).K, 0, none⟩) kl (nthR us j).kd, .int .i64 ((z + 1 : Nat) : Int)] (wr.setCell ⟨M, j * 5, none⟩ (.int .i64 (z : Int))) fun e w' => e = .returned (.int .i64 ((z + 1 + 2 * kl : Nat) : Int)) ∧ (∃ cs' : Array Value, Blk w' (nthR us j).K cs' 73 ∧ cs'.size = ks.size ∧ Mark.Marked cs' (z + 1) kl) ∧ Mark.Apart (nthR us j).K (wr.setCell ⟨M, j * 5, none⟩ (.int .i64 (z : Int))) w') := Mark.mark_any (nthR us j).K kl (nthR us j).kd (z + 1) ks _ hks (by rw [← HKL.out]; exact hkz) HX.out.2 (by omega) (by omega)
      have c1 : (wr.setCell ⟨M, j * 5, none⟩ (.int .i64 (z : Int))).cell? ⟨M, j * 5 + 1, none⟩ = some (.slice (some ⟨(nthR us j).K, 0, none⟩) kl (nthR us j).kd) := by
        rw [HB1.out.cell, set_ne (by omega), ← HKL.out]; exact (HO.out.2.1 j hlt).1
      have ez : ((z + 1 : Nat) : Int) = (z : Int) + 1 := by omega
      rw [ez] at HC
      clear hks hkz ez
      go_wp2_with fail
      refine HC.out.mono ?_
      rintro e w2 ⟨rfl, ⟨cs', hb', _, hm'⟩, ha⟩
      have ey : ((z + 1 + 2 * kl : Nat) : Int) = (y : Int) := by omega
      rw [ey]
      have hKM : (nthR us j).K ≠ M := fun e => HAP.out (.inl e.symm)
      have HK2 : Hid (LM w2 (nthR us j).K kl (z + 1)) := ⟨cs', hb', hm'⟩
      have HB2 : Hid (Blk w2 M (cur.setIfInBounds (j * 5) (.int .i64 (z : Int))) 67) := ha.blk HB1.out hKM.symm
      have HO2 : Hid (Only (fun q => q = (nthR us j).K) (wr.setCell ⟨M, j * 5, none⟩ (.int .i64 (z : Int))) w2) := Only.apart ha rfl
      have HI : Hid (¬ blks (nthR us j).M (nthR us j).rs (nthR us j).K) := HG1.out.ne
      have HA2 : Hid (AO lo1 w2 (nthR us j).M (nthR us j).o (nthR us j).rs) := ao_only HG1.out.row HO2.out (fun q hq e => HI.out (by rw [← e]; exact hq))
      have HS2 : Hid (Only (blksG M us) w w2) := HS1.out.trans (Only.apart ha (.inr ⟨_, nthR_mem hlt, .inl rfl⟩))
      clear hb' hm' ha ey c1 HC p0 f0
      obtain ⟨v2, p2⟩ : ∃ v, w2.cell? ⟨M, j * 5 + 2, none⟩ = some v := ⟨_, (HB2.out.cell (j * 5 + 2)).trans (Array.getElem?_eq_getElem (by have := HO.out.1; simp; omega))⟩
      obtain ⟨v3, p3⟩ : ∃ v, w2.cell? ⟨M, j * 5 + 3, none⟩ = some v := ⟨_, (HB2.out.cell (j * 5 + 3)).trans (Array.getElem?_eq_getElem (by have := HO.out.1; simp; omega))⟩
      have f2 := HB2.out.frozen (j * 5 + 2)
      have f3 := HB2.out.frozen (j * 5 + 3)
      have q4 : w2.cell? ⟨M, j * 5 + 4, none⟩ = some (.slice (some ⟨(nthR us j).M, (nthR us j).o, none⟩) (nthR us j).rs.length (nthR us j).c) := by
        rw [HB2.out.cell, set_ne (by omega)]; exact (HO.out.2.1 j hlt).2
      have HB3 : Hid (Blk ((w2.setCell ⟨M, j * 5 + 2, none⟩ (.int .i64 (y : Int))).setCell ⟨M, j * 5 + 3, none⟩ (.int .i64 ((y : Int) + 1))) M (((cur.setIfInBounds (j * 5) (.int .i64 (z : Int))).setIfInBounds (j * 5 + 2) (.int .i64 (y : Int))).setIfInBounds (j * 5 + 3) (.int .i64 ((y : Int) + 1))) 67) := (HB2.out.set _ _).set _ _
      have HO3 : Hid (Only (fun q => q = M) w2 ((w2.setCell ⟨M, j * 5 + 2, none⟩ (.int .i64 (y : Int))).setCell ⟨M, j * 5 + 3, none⟩ (.int .i64 ((y : Int) + 1)))) := ((Only.refl (fun q => q = M) w2).set (M := M) rfl _ _).set (M := M) rfl _ _
      have HA3 : Hid (AO lo1 ((w2.setCell ⟨M, j * 5 + 2, none⟩ (.int .i64 (y : Int))).setCell ⟨M, j * 5 + 3, none⟩ (.int .i64 ((y : Int) + 1))) (nthR us j).M (nthR us j).o (nthR us j).rs) := ao_only HA2.out HO3.out (fun q hq e => HAP.out (by rw [← e]; exact .inr hq))
      have HS3 : Hid (Only (blksG M us) w ((w2.setCell ⟨M, j * 5 + 2, none⟩ (.int .i64 (y : Int))).setCell ⟨M, j * 5 + 3, none⟩ (.int .i64 ((y : Int) + 1)))) := (HS2.out.set (.inl rfl) _ _).set (.inl rfl) _ _
      have HD : Hid (Calls Try.prog 59 #[.slice (some ⟨(nthR us j).M, (nthR us j).o, none⟩) (nthR us j).rs.length (nthR us j).c, .int .i64 ((y + 2 : Nat) : Int)] ((w2.setCell ⟨M, j * 5 + 2, none⟩ (.int .i64 (y : Int))).setCell ⟨M, j * 5 + 3, none⟩ (.int .i64 ((y : Int) + 1))) fun e w' => e = .returned (.int .i64 ((y + 2 + sumA (nthR us j).rs : Nat) : Int)) ∧ MO w' (nthR us j).M (nthR us j).o (nthR us j).rs (y + 2) (nthR us j).rs.length ∧ Only (blks (nthR us j).M (nthR us j).rs) ((w2.setCell ⟨M, j * 5 + 2, none⟩ (.int .i64 (y : Int))).setCell ⟨M, j * 5 + 3, none⟩ (.int .i64 ((y : Int) + 1))) w') := markO_any (nthR us j).M (nthR us j).o (y + 2) lo1 _ (nthR us j).rs _ HA3.out HX.out.1 (by omega) (by have := HU.out; omega)
      have ev : ((y + 2 : Nat) : Int) = (y : Int) + 1 + 1 := by omega
      rw [ev] at HD
      clear ev
      go_wp2_with fail
      refine HD.out.mono ?_
      rintro e w4 ⟨rfl, hma, ho4⟩
      have HM4 : Hid (MO w4 (nthR us j).M (nthR us j).o (nthR us j).rs (y + 2) (nthR us j).rs.length) := hma
      have HO4 : Hid (Only (blks (nthR us j).M (nthR us j).rs) ((w2.setCell ⟨M, j * 5 + 2, none⟩ (.int .i64 (y : Int))).setCell ⟨M, j * 5 + 3, none⟩ (.int .i64 ((y : Int) + 1))) w4) := ho4
      have HK4 : Hid (LM w4 (nthR us j).K kl (z + 1)) := (HK2.out.only HO3.out hKM).only HO4.out HI.out
      have HB4 : Hid (Blk w4 M (((cur.setIfInBounds (j * 5) (.int .i64 (z : Int))).setIfInBounds (j * 5 + 2) (.int .i64 (y : Int))).setIfInBounds (j * 5 + 3) (.int .i64 ((y : Int) + 1))) 67) := HO4.out.blk HB3.out (fun e => HAP.out (.inr e))
      have HS4 : Hid (Only (blksG M us) w w4) := HS3.out.trans ⟨ho4.os, ho4.tape, ho4.output, ho4.size, fun q hq hn => ho4.block q hq (fun h => hn (.inr ⟨_, nthR_mem hlt, .inr h⟩))⟩
      have HW : Hid (Only (fun q => q = M ∨ (nthR us j).blks q) wr w4) := by
        have h1 : Only (fun q => q = M ∨ (nthR us j).blks q) wr (wr.setCell ⟨M, j * 5, none⟩ (.int .i64 (z : Int))) := (Only.refl _ wr).set (M := M) (.inl rfl) _ _
        have h2 : Only (fun q => q = M ∨ (nthR us j).blks q) (wr.setCell ⟨M, j * 5, none⟩ (.int .i64 (z : Int))) w2 := ⟨HO2.out.os, HO2.out.tape, HO2.out.output, HO2.out.size, fun q hq hn => HO2.out.block q hq (fun h => hn (.inr (.inl h)))⟩
        have h3 : Only (fun q => q = M ∨ (nthR us j).blks q) w2 ((w2.setCell ⟨M, j * 5 + 2, none⟩ (.int .i64 (y : Int))).setCell ⟨M, j * 5 + 3, none⟩ (.int .i64 ((y : Int) + 1))) := ((Only.refl _ w2).set (M := M) (.inl rfl) _ _).set (M := M) (.inl rfl) _ _
        exact ((h1.trans h2).trans h3).trans ⟨ho4.os, ho4.tape, ho4.output, ho4.size, fun q hq hn => ho4.block q hq (fun h => hn (.inr (.inr h)))⟩
      clear hma ho4 HD p2 p3 f2 f3 q4
      have HE : Hid (MR w4 M us k (j + 1)) := by
        have far : ∀ i, i < us.length → i ≠ j → ∀ q, (nthR us i).blks q → ¬ (q = M ∨ (nthR us j).blks q) := fun i hi hne q hq h => by
          rcases h with e | h
          · exact HM1.out.apart _ (nthR_mem hi) (by rw [← e]; exact hq)
          · exact ne_rowsG HN.out.1 hi hlt hne q hq h
        refine ⟨⟨_, HB4.out, by simp; exact HO.out.1, fun i hi => ?_, fun i hi => ?_⟩, fun i hi => ?_, fun i hi hl => ?_, HM1.out.apart, HM1.out.inner⟩
        · have h := HO.out.2.1 i hi
          exact ⟨by rw [set_ne (by omega), set_ne (by omega), set_ne (by omega)]; exact h.1, by rw [set_ne (by omega), set_ne (by omega), set_ne (by omega)]; exact h.2⟩
        · have hsz := HO.out.1
          by_cases e : i = j
          · subst e
            rw [HZ.out, HKL.out]
            refine ⟨?_, ?_, ?_⟩
            · rw [set_ne (by omega), set_ne (by omega), set_at (by omega)]
            · rw [set_ne (by omega), set_at (by simp; omega), HY.out]
            · rw [set_at (by simp; omega)]
              have e1 : z + 2 + 2 * kl = y + 1 := by have := HY.out; omega
              rw [e1]; rfl
          · have h := HO.out.2.2 i (by omega)
            refine ⟨?_, ?_, ?_⟩
            · rw [set_ne (by omega), set_ne (by omega), set_ne (by omega)]; exact h.1
            · rw [set_ne (by omega), set_ne (by omega), set_ne (by omega)]; exact h.2.1
            · rw [set_ne (by omega), set_ne (by omega), set_ne (by omega)]; exact h.2.2
        · by_cases e : i = j
          · subst e
            rw [HZ.out, HKL.out]
            have e1 : z + 3 + 2 * kl = y + 2 := by have := HY.out; omega
            rw [e1]
            exact ⟨HK4.out, HM4.out⟩
          · have hil : i < us.length := by omega
            exact ⟨(HM1.out.done i (by omega)).1.only HW.out (far i hil e _ (.inl rfl)), (HM1.out.done i (by omega)).2.only HW.out (fun q hq => far i hil e q (.inr hq))⟩
        · obtain ⟨lo2, h1⟩ := HM1.out.todo i (by omega) hl
          exact ⟨lo2, h1.only HW.out (far i hl (by omega))⟩
      have HF : Hid (k + sumR (us.take (j + 1)) = y + 2 + sumA (nthR us j).rs) := by have := HU.out; have := HY.out; show _ = _; omega
      clear HU
      generalize hv : y + 2 + sumA (nthR us j).rs = v at *
      go_wp2
      go_roundw
      case rel => exact ⟨j + 1, by omega, by go_num, by rw [HF.out], HE.out, HS4.out⟩
      case measure => simp [intOf]; omega
    · have hge : ¬ (j : Int) < (us.length : Int) := by omega
      have HE : Hid (j = us.length ∧ sumR (us.take j) = sumR us) := ⟨by omega, sumR_all (by omega)⟩
      go_wp2
      go_ret
      exact ⟨Mark.retI (by have := HE.out.2; omega), by have := HM1.out; rwa [HE.out.1] at this, HA.out⟩

set_option maxHeartbeats 3200000 in
theorem heldGs_any (M k cap : Nat) (us : List GRow) (w : World) (hM : MR w M us k us.length) (hll : ∀ x ∈ us, x.rs.length ≤ 2000000 ∧ x.key.length ≤ 1048576 ∧ ∀ y ∈ x.rs, y.2.2.l.length ≤ 1048576) (hl : us.length ≤ 2000000) (hk : 1 ≤ k) (hk2 : k + sumR us ≤ 9000000) :
    Calls Try.prog 31 #[.slice (some ⟨M, 0, none⟩) us.length cap, .int .i64 k] w fun e w' => e = .returned (.int .i64 ((k + sumR us : Nat) : Int)) ∧ Below w.heap.size w w' := by
  have HS : Hid (k + sumR us ≤ 9000000 ∧ ∀ x ∈ us, x.rs.length ≤ 2000000 ∧ x.key.length ≤ 1048576 ∧ ∀ y ∈ x.rs, y.2.2.l.length ≤ 1048576) := ⟨hk2, hll⟩
  have HM : Hid (MR w M us k us.length) := hM
  clear hM hll hk2
  go_enter Try.func31, Try.ntmps31
  go_wp2
  go_loopw [1, 5] (fun x i w' => ∃ j : Nat, j ≤ us.length ∧ i = .int .i64 j ∧ x = .int .i64 ((k + sumR (us.take j) : Nat) : Int) ∧ Below w.heap.size w w') (fun _ i _ => us.length - (intOf i).toNat)
  case atStart => exact ⟨0, Nat.zero_le _, rfl, rfl, Below.refl _ _⟩
  case round =>
    obtain ⟨j, hj, rfl, rfl, hb⟩ := hrel
    have HB : Hid (Below w.heap.size w wr) := hb
    have HM1 : Hid (MR wr M us k us.length) := HM.out.grow hb
    clear hb
    by_cases hlt : j < us.length
    · have hlt' : (j : Int) < (us.length : Int) := by omega
      have HU : Hid (k + sumR (us.take (j + 1)) = k + sumR (us.take j) + (3 + 2 * (nthR us j).key.length + sumA (nthR us j).rs)) := by have := sumR_up hlt; unfold oneM at this; show _ = _; omega
      have hzb : k + sumR (us.take (j + 1)) ≤ 9000000 := by have := sumR_le us (j + 1); have := HS.out.1; omega
      obtain ⟨cur, ho, hos, hc, hdn⟩ := HM1.out.outer
      have HD : Hid (LM wr (nthR us j).K (nthR us j).key.length (k + sumR (us.take j) + 1) ∧ MO wr (nthR us j).M (nthR us j).o (nthR us j).rs (k + sumR (us.take j) + 3 + 2 * (nthR us j).key.length) (nthR us j).rs.length) := HM1.out.done j hlt
      have c0 : wr.cell? ⟨M, j * 5, none⟩ = some (.int .i64 ((k + sumR (us.take j) : Nat) : Int)) := (ho.cell _).trans (hdn j hlt).1
      have c1 : wr.cell? ⟨M, j * 5 + 1, none⟩ = some (.slice (some ⟨(nthR us j).K, 0, none⟩) (nthR us j).key.length (nthR us j).kd) := (ho.cell _).trans (hc j hlt).1
      have g2 := (hdn j hlt).2.1
      have g3 := (hdn j hlt).2.2
      have g4 := (hc j hlt).2
      have HO : Hid (Blk wr M cur 67) := ho
      have HX : Hid ((nthR us j).rs.length ≤ 2000000 ∧ (nthR us j).key.length ≤ 1048576 ∧ ∀ y ∈ (nthR us j).rs, y.2.2.l.length ≤ 1048576) := HS.out.2 _ (nthR_mem hlt)
      generalize hz : k + sumR (us.take j) = z at *
      generalize hkl : (nthR us j).key.length = kl at *
      have hz1 : 1 ≤ z := by omega
      have hz2 : z + 3 + 2 * kl ≤ 9000000 := by have := HU.out; omega
      obtain ⟨ks, hks, hkm⟩ := HD.out.1
      have HC : Hid (Calls Try.prog 61 #[.slice (some ⟨(nthR us j).K, 0, none⟩) kl (nthR us j).kd, .int .i64 ((z + 1 : Nat) : Int)] wr fun e w' => e = .returned (.int .i64 ((z + 1 + 2 * kl : Nat) : Int)) ∧ Below wr.heap.size wr w') := Mark.held_any (nthR us j).K kl (nthR us j).kd (z + 1) ks wr hks hkm HX.out.2.1 (by omega) (by omega)
      clear ho hos hc hdn hz hkl hks hkm
      have ez : ((z + 1 : Nat) : Int) = (z : Int) + 1 := by omega
      rw [ez] at HC
      clear ez
      go_wp2_with fail
      refine HC.out.mono ?_
      rintro e w1 ⟨rfl, hb1⟩
      have HB1 : Hid (Below w.heap.size w w1) := grow_on HB.out hb1
      have hK1 : Blk w1 M cur 67 := HO.out.grow hb1
      have HM3 : Hid (MO w1 (nthR us j).M (nthR us j).o (nthR us j).rs (z + 3 + 2 * kl) (nthR us j).rs.length) := HD.out.2.grow hb1
      generalize hy : z + 1 + 2 * kl = y at *
      have HY : Hid (z + 1 + 2 * kl = y) := hy
      have hyb : y + 2 ≤ 9000000 := by omega
      have e3 : z + 2 + 2 * kl = y + 1 := by omega
      have e4 : z + 3 + 2 * kl = y + 2 := by omega
      rw [e3] at g3
      rw [e4] at HM3
      have p2 : w1.cell? ⟨M, j * 5 + 2, none⟩ = some (.int .i64 (y : Int)) := (hK1.cell _).trans g2
      have p3 : w1.cell? ⟨M, j * 5 + 3, none⟩ = some (.int .i64 ((y : Int) + 1)) := (hK1.cell _).trans g3
      have p4 : w1.cell? ⟨M, j * 5 + 4, none⟩ = some (.slice (some ⟨(nthR us j).M, (nthR us j).o, none⟩) (nthR us j).rs.length (nthR us j).c) := (hK1.cell _).trans g4
      have HE2 : Hid (Calls Try.prog 62 #[.slice (some ⟨(nthR us j).M, (nthR us j).o, none⟩) (nthR us j).rs.length (nthR us j).c, .int .i64 ((y + 2 : Nat) : Int)] w1 fun e w' => e = .returned (.int .i64 ((y + 2 + sumA (nthR us j).rs : Nat) : Int)) ∧ Below w1.heap.size w1 w') := heldO_any (nthR us j).M (nthR us j).o (y + 2) _ (nthR us j).rs w1 HM3.out HX.out.2.2 HX.out.1 (by omega) (by have := HU.out; omega)
      have ev : ((y + 2 : Nat) : Int) = (y : Int) + 1 + 1 := by omega
      rw [ev] at HE2
      have hyn : ¬ (y : Int) < 0 := by omega
      clear hb1 hK1 c0 c1 HC g2 g3 g4 hy e3 e4 ev HM3
      go_wp2_with fail
      refine HE2.out.mono ?_
      rintro e w2 ⟨rfl, hb2⟩
      have HB2 : Hid (Below w.heap.size w w2) := grow_on HB1.out hb2
      have HF : Hid (k + sumR (us.take (j + 1)) = y + 2 + sumA (nthR us j).rs) := by have := HU.out; have := HY.out; show _ = _; omega
      clear hb2 p2 p3 p4 HE2 HU
      generalize hv : y + 2 + sumA (nthR us j).rs = v at *
      have hvn : ¬ (v : Int) < 0 := by omega
      go_wp2
      go_roundw
      case rel => exact ⟨j + 1, by omega, by go_num, by rw [HF.out], HB2.out⟩
      case measure => simp [intOf]; omega
    · have hge : ¬ (j : Int) < (us.length : Int) := by omega
      have HE : Hid (sumR (us.take j) = sumR us) := sumR_all (by omega)
      go_wp2
      go_ret
      exact ⟨Mark.retI (by have := HE.out; omega), HB.out⟩
end Go.Proofs.Ytgncimlojbnbfaa.GpM
