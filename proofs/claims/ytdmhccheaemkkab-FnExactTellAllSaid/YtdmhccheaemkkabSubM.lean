/-
  PROVED: the marks that markSubS writes lie in the listeners' own memory alone, and heldSubS finds them.
-/
import Derived.Test.YtdmhccheaemkkabSubs
import Derived.Test.YtdmhccheaemkkabLsB
namespace Go.Proofs.Ytdmhccheaemkkab.SubM
open Go.RowKit
open Go.Proofs.Ytdmhccheaemkkab.Labs Go.Proofs.Ytdmhccheaemkkab.LabS Go.Proofs.Ytdmhccheaemkkab.Alms Go.Proofs.Ytdmhccheaemkkab.AlmM Go.Proofs.Ytdmhccheaemkkab.Over Go.Proofs.Ytdmhccheaemkkab.Blk Go.Proofs.Ytdmhccheaemkkab.App Go.Proofs.Ytdmhccheaemkkab.Rws Go.Proofs.Ytdmhccheaemkkab.ChnI Go.Proofs.Ytdmhccheaemkkab.ChnC Go.Proofs.Ytdmhccheaemkkab.ChnK Go.Proofs.Ytdmhccheaemkkab.Chs Go.Proofs.Ytdmhccheaemkkab.Que Go.Proofs.Ytdmhccheaemkkab.Tel Go.Proofs.Ytdmhccheaemkkab.Her Go.Proofs.Ytdmhccheaemkkab.Subs
set_option linter.unusedVariables false

theorem markAQ_any (a : Option Addr) (k lo cap : Nat) (rs : List ARow) (w : World) (h : AQ lo w a rs) (hl : rs.length ≤ 2000000) (hk : 1 ≤ k) (hk2 : k + sumA rs ≤ 90000000000000) :
    Calls Try.prog 24 #[.slice a rs.length cap, .int .i64 k] w fun e w' => e = .returned (.int .i64 ((k + sumA rs : Nat) : Int)) ∧ MQ w' a rs k ∧ Only (blksA a rs) w w' := by
  rcases h with ⟨rfl, rfl⟩ | ⟨M, o, rfl, h⟩
  · exact (markA0_any none cap k w).mono fun e w' ⟨he, hb⟩ => ⟨he, .inl rfl, by rw [hb]; exact Only.refl _ _⟩
  · exact (LsB.markO_any M o k lo cap rs w h hl hk hk2).mono fun e w' ⟨he, hm, ho⟩ => ⟨he, .inr ⟨M, o, rfl, hm⟩, Que.Only.imp ho fun k hk => ⟨M, o, rfl, hk⟩⟩
theorem heldAQ_any (a : Option Addr) (k cap : Nat) (rs : List ARow) (w : World) (h : MQ w a rs k) (hll : ∀ x ∈ rs, x.2.2.l.length ≤ 1048576) (hl : rs.length ≤ 2000000) (hk : 1 ≤ k) (hk2 : k + sumA rs ≤ 90000000000000) :
    Calls Try.prog 26 #[.slice a rs.length cap, .int .i64 k] w fun e w' => e = .returned (.int .i64 ((k + sumA rs : Nat) : Int)) ∧ Below w.heap.size w w' := by
  rcases h with rfl | ⟨M, o, rfl, h⟩
  · exact (heldA0_any a cap k w).mono fun e w' ⟨he, hb⟩ => ⟨he, bel_same hb⟩
  · exact LsB.heldO_any M o k cap rs w h hll hl hk hk2
def blksU (M : Nat) (us : List URow) (k : Nat) : Prop := k = M ∨ ∃ x ∈ us, blksA x.a x.rs k
theorem blksU_low {lo : Nat} {w : World} {M c : Nat} {us : List URow} (h : UB lo w M c us) (k : Nat) (hk : blksU M us k) : lo ≤ k := by
  rcases hk with rfl | ⟨x, hx, hk⟩
  · exact h.at'
  · exact (rngQ (h.rows.rows x hx) k hk).1
theorem blksU_high {lo : Nat} {w : World} {M c : Nat} {us : List URow} (h : UB lo w M c us) (k : Nat) (hk : blksU M us k) : k < w.heap.size := by
  rcases hk with rfl | ⟨x, hx, hk⟩
  · exact h.lt
  · exact (rngQ (h.rows.rows x hx) k hk).2
theorem aq_ne {lo : Nat} {w : World} {M : Nat} {cur : Array Value} {a : Option Addr} {rs : List ARow} (hb : Blk w M cur 49) (h : AQ lo w a rs) : ¬ blksA a rs M := fun ⟨M', o, e, hk⟩ => by
  subst e
  rcases h with ⟨e, _⟩ | ⟨M2, o2, e, h⟩
  · cases e
  · cases e
    rcases hk with e | ⟨x, hx, e⟩
    · obtain ⟨cu, h1, _⟩ := h.outer
      exact ne_blk hb h1 (by decide) e
    · obtain ⟨_, _, ds, h2, _⟩ := h.rows x hx
      exact ne_blk hb h2 (by decide) e.symm
theorem ub_only {S : Nat → Prop} {lo : Nat} {w w' : World} {M c : Nat} {us : List URow} (h : UB lo w M c us) (ho : Only S w w') (hn : ∀ k, blksU M us k → ¬ S k) : UB lo w' M c us := by
  obtain ⟨cur, h1, h2⟩ := h.outer
  exact ⟨h.at', h.cap, ⟨cur, ho.blk h1 (hn _ (.inl rfl)), h2⟩, ⟨fun x hx => qo_only (h.rows.rows x hx) ho fun k hk => hn k (.inr ⟨x, hx, hk⟩), h.rows.ne⟩⟩
def sumU : List URow → Nat
  | [] => 0
  | x :: us => sumA x.rs + 1 + sumU us
theorem sumU_app (p q : List URow) : sumU (p ++ q) = sumU p + sumU q := by
  induction p with
  | nil => simp [sumU]
  | cons x p ih => rw [List.cons_append, sumU, ih, sumU]; omega
theorem takeU_up {us : List URow} {k : Nat} (h : k < us.length) : us.take (k + 1) = us.take k ++ [nthU us k] := by rw [nthU_eq h, List.take_succ_eq_append_getElem h]
theorem sumU_up {us : List URow} {k : Nat} (h : k < us.length) : sumU (us.take (k + 1)) = sumU (us.take k) + sumA (nthU us k).rs + 1 := by rw [takeU_up h, sumU_app]; simp [sumU]; omega
theorem sumU_all {us : List URow} {k : Nat} (h : us.length ≤ k) : sumU (us.take k) = sumU us := by rw [List.take_of_length_le h]
theorem sumU_le (us : List URow) (k : Nat) : sumU (us.take k) ≤ sumU us := by
  have := sumU_app (us.take k) (us.drop k)
  rw [List.take_append_drop] at this
  omega
theorem sumU_sbs (us : List URow) : sumU us ≤ 3 * sumB (sbs us) + us.length := by
  induction us with
  | nil => simp [sumU]
  | cons x us ih =>
    have h1 := sumA_pals x.rs
    have h2 := pals_len x.rs
    have h3 : sumB (sbs (x :: us)) = (pals x.rs).length + sumL (pals x.rs) + sumB (sbs us) := rfl
    rw [h3, sumU]
    simp only [List.length_cons]
    omega
/-- the mark that a flag bears -/
def markG (z : Nat) : Bool := (z : Int) % 3 == 0
/-- the listeners while they are marked: the first j are -/
structure MU (w : World) (M : Nat) (us : List URow) (k j : Nat) : Prop where
  outer : ∃ cur : Array Value, Blk w M cur 49 ∧ us.length * 2 ≤ cur.size ∧ (∀ i, i < us.length → cur[i * 2]? = some (.slice (nthU us i).a (nthU us i).rs.length (nthU us i).c)) ∧ ∀ i, i < j → cur[i * 2 + 1]? = some (.bool (markG (k + sumU (us.take i) + sumA (nthU us i).rs)))
  done : ∀ i, i < j → MQ w (nthU us i).a (nthU us i).rs (k + sumU (us.take i))
  todo : ∀ i, j ≤ i → i < us.length → ∃ lo, AQ lo w (nthU us i).a (nthU us i).rs
  apart : ∀ x ∈ us, ¬ blksA x.a x.rs M
theorem UB.mu {lo : Nat} {w : World} {M c : Nat} {us : List URow} (h : UB lo w M c us) (k : Nat) : MU w M us k 0 := by
  obtain ⟨cur, h1, h2, h3⟩ := h.outer
  have hc := h.cap
  exact ⟨⟨cur, h1, by omega, fun i hi => (h3 i hi).1, fun i hi => by omega⟩, fun i hi => by omega, fun i _ hi => ⟨lo, Subs.QO.aq (h.rows.rows _ (nthU_mem hi))⟩, fun x hx => aq_ne h1 (Subs.QO.aq (h.rows.rows x hx))⟩
theorem MU.only {S : Nat → Prop} {w w' : World} {M : Nat} {us : List URow} {k : Nat} (h : MU w M us k us.length) (ho : Only S w w') (hn : ∀ k, blksU M us k → ¬ S k) : MU w' M us k us.length := by
  obtain ⟨cur, h1, h2⟩ := h.outer
  exact ⟨⟨cur, ho.blk h1 (hn _ (.inl rfl)), h2⟩, fun i hi => (h.done i hi).only ho fun q hq => hn q (.inr ⟨_, nthU_mem hi, hq⟩), fun i h1 h2 => by omega, h.apart⟩
theorem MU.grow {w w' : World} {M : Nat} {us : List URow} {k : Nat} (h : MU w M us k us.length) (hb : Below w.heap.size w w') : MU w' M us k us.length := h.only (S := fun _ => False) (Only.of hb) (fun _ _ h => h)
theorem ne_rows {us : List URow} (h : us.Pairwise fun x y => ∀ k, blksA x.a x.rs k → ¬ blksA y.a y.rs k) {i j : Nat} (hi : i < us.length) (hj : j < us.length) (hne : i ≠ j) : ∀ k, blksA (nthU us i).a (nthU us i).rs k → ¬ blksA (nthU us j).a (nthU us j).rs k := by
  rw [List.pairwise_iff_getElem] at h
  rw [nthU_eq hi, nthU_eq hj]
  rcases Nat.lt_or_gt_of_ne hne with hlt | hlt
  · exact h i j hi hj hlt
  · exact fun k h1 h2 => h j i hj hi hlt k h2 h1

set_option maxHeartbeats 1600000 in
theorem markUS_any (M c k lo cap : Nat) (us : List URow) (w : World) (hUB : UB lo w M c us) (hl : us.length ≤ 2000000) (hrl : ∀ x ∈ us, x.rs.length ≤ 2000000) (hk : 1 ≤ k) (hk2 : k + sumU us ≤ 90000000000000) :
    Calls Try.prog 13 #[.slice (some ⟨M, 0, none⟩) us.length cap, .int .i64 k] w fun e w' => e = .returned (.int .i64 ((k + sumU us : Nat) : Int)) ∧ MU w' M us k us.length ∧ Only (blksU M us) w w' := by
  have HM : Hid (MU w M us k 0) := UB.mu hUB k
  have HN : Hid ((us.Pairwise fun x y => ∀ k, blksA x.a x.rs k → ¬ blksA y.a y.rs k) ∧ k + sumU us ≤ 90000000000000 ∧ ∀ x ∈ us, x.rs.length ≤ 2000000) := ⟨hUB.rows.ne, hk2, hrl⟩
  clear hUB hk2 hrl
  go_enter Try.func13, Try.ntmps13
  go_wp2
  go_loopw [1, 5] (fun x i w' => ∃ j : Nat, j ≤ us.length ∧ i = .int .i64 j ∧ x = .int .i64 ((k + sumU (us.take j) : Nat) : Int) ∧ MU w' M us k j ∧ Only (blksU M us) w w') (fun _ i _ => us.length - (intOf i).toNat)
  case atStart => exact ⟨0, Nat.zero_le _, rfl, rfl, HM.out, Only.refl _ _⟩
  case round =>
    obtain ⟨j, hj, rfl, rfl, hm, ha⟩ := hrel
    have HM1 : Hid (MU wr M us k j) := hm
    have HA : Hid (Only (blksU M us) w wr) := ha
    clear hm ha
    by_cases hlt : j < us.length
    · have hlt' : (j : Int) < (us.length : Int) := by omega
      have HU : Hid (k + sumU (us.take (j + 1)) = k + sumU (us.take j) + sumA (nthU us j).rs + 1) := by have := sumU_up hlt; show _ = _; omega
      have hzb : k + sumU (us.take (j + 1)) ≤ 90000000000000 := by have := sumU_le us (j + 1); have := HN.out.2.1; omega
      obtain ⟨cur, ho, hos, hc, hdn⟩ := HM1.out.outer
      obtain ⟨lo1, hab⟩ := HM1.out.todo j (Nat.le_refl _) hlt
      have HO : Hid (Blk wr M cur 49 ∧ us.length * 2 ≤ cur.size ∧ (∀ i, i < us.length → cur[i * 2]? = some (.slice (nthU us i).a (nthU us i).rs.length (nthU us i).c)) ∧ ∀ i, i < j → cur[i * 2 + 1]? = some (.bool (markG (k + sumU (us.take i) + sumA (nthU us i).rs)))) := ⟨ho, hos, hc, hdn⟩
      have c0 : wr.cell? ⟨M, j * 2, none⟩ = some (.slice (nthU us j).a (nthU us j).rs.length (nthU us j).c) := (ho.cell _).trans (hc j hlt)
      generalize hz : k + sumU (us.take j) = z at *
      have HZ : Hid (k + sumU (us.take j) = z) := hz
      have hz1 : 1 ≤ z := by omega
      have hz2 : z ≤ 90000000000000 := by have := HU.out; omega
      have HC : Hid (Calls Try.prog 24 #[.slice (nthU us j).a (nthU us j).rs.length (nthU us j).c, .int .i64 (z : Int)] wr fun e w' => e = .returned (.int .i64 ((z + sumA (nthU us j).rs : Nat) : Int)) ∧ MQ w' (nthU us j).a (nthU us j).rs z ∧ Only (blksA (nthU us j).a (nthU us j).rs) wr w') := markAQ_any (nthU us j).a z lo1 _ (nthU us j).rs wr hab (HN.out.2.2 _ (nthU_mem hlt)) hz1 (by have := HU.out; omega)
      clear ho hos hc hdn hab hz
      go_wp2_with fail
      refine HC.out.mono ?_
      rintro e w2 ⟨rfl, hma, ho2⟩
      have hap := HM1.out.apart _ (nthU_mem hlt)
      have hK2 : Blk w2 M cur 49 := ho2.blk HO.out.1 hap
      have HK2 : Hid (Blk w2 M cur 49) := hK2
      have HMA : Hid (MQ w2 (nthU us j).a (nthU us j).rs z) := hma
      have HO2 : Hid (Only (blksA (nthU us j).a (nthU us j).rs) wr w2) := ho2
      obtain ⟨v1, p1⟩ : ∃ v, w2.cell? ⟨M, j * 2 + 1, none⟩ = some v := ⟨cur[j * 2 + 1]'(by have := HO.out.2.1; omega), by rw [hK2.cell]; simp⟩
      have f1 := hK2.frozen (j * 2 + 1)
      clear hma ho2 hap hK2 c0 HC
      generalize hy : z + sumA (nthU us j).rs = y
      have HY : Hid (z + sumA (nthU us j).rs = y) := hy
      have hyb : y ≤ 90000000000000 := by have := HU.out; omega
      clear hy
      have HE : Hid (MU (w2.setCell ⟨M, j * 2 + 1, none⟩ (.bool (markG y))) M us k (j + 1)) := by
        have hms : Only (fun q => q = M) w2 (w2.setCell ⟨M, j * 2 + 1, none⟩ (.bool (markG y))) := (Only.refl (fun q => q = M) w2).set (M := M) rfl _ _
        refine ⟨⟨_, HK2.out.set _ _, by simp; exact HO.out.2.1, fun i hi => ?_, fun i hi => ?_⟩, fun i hi => ?_, fun i hi hl => ?_, HM1.out.apart⟩
        · rw [set_ne (by omega)]; exact HO.out.2.2.1 i hi
        · by_cases e : i = j
          · subst e
            rw [HZ.out, HY.out, set_at (by have := HO.out.2.1; omega)]
          · rw [set_ne (by omega)]; exact HO.out.2.2.2 i (by omega)
        · refine MQ.only ?_ hms (fun q hq e => HM1.out.apart _ (nthU_mem (i := i) (by omega)) (by rw [← e]; exact hq))
          by_cases e : i = j
          · subst e
            rw [HZ.out]
            exact HMA.out
          · exact (HM1.out.done i (by omega)).only HO2.out (fun q hq hs => ne_rows HN.out.1 (by omega) hlt e q hq hs)
        · obtain ⟨lo2, h1⟩ := HM1.out.todo i (by omega) hl
          exact ⟨lo2, aq_only (aq_only h1 HO2.out (fun q hq hs => ne_rows HN.out.1 hl hlt (by omega) q hq hs)) hms (fun q hq e => HM1.out.apart _ (nthU_mem hl) (by rw [← e]; exact hq))⟩
      have HA2 : Hid (Only (blksU M us) w (w2.setCell ⟨M, j * 2 + 1, none⟩ (.bool (markG y)))) := (HA.out.trans (Que.Only.imp HO2.out fun q hq => .inr ⟨_, nthU_mem hlt, hq⟩)).set (.inl rfl) _ _
      have HF : Hid (k + sumU (us.take (j + 1)) = y + 1) := by have := HU.out; have := HY.out; show _ = _; omega
      have hG : ((y : Int) % 3 == 0) = markG y := rfl
      go_wp2
      go_roundw
      case rel => exact ⟨j + 1, by omega, by go_num, by rw [HF.out]; go_num, HE.out, HA2.out⟩
      case measure => simp [intOf]; omega
    · have hge : ¬ (j : Int) < (us.length : Int) := by omega
      have HE : Hid (j = us.length ∧ sumU (us.take j) = sumU us) := ⟨by omega, sumU_all (by omega)⟩
      go_wp2
      go_ret
      exact ⟨Mark.retI (by have := HE.out.2; omega), by have := HM1.out; rwa [HE.out.1] at this, HA.out⟩

set_option maxHeartbeats 1600000 in
theorem heldUS_any (M k cap : Nat) (us : List URow) (w : World) (hM : MU w M us k us.length) (hll : ∀ x ∈ us, x.rs.length ≤ 2000000 ∧ ∀ y ∈ x.rs, y.2.2.l.length ≤ 1048576) (hl : us.length ≤ 2000000) (hk : 1 ≤ k) (hk2 : k + sumU us ≤ 90000000000000) :
    Calls Try.prog 15 #[.slice (some ⟨M, 0, none⟩) us.length cap, .int .i64 k] w fun e w' => e = .returned (.int .i64 ((k + sumU us : Nat) : Int)) ∧ Below w.heap.size w w' := by
  have HS : Hid (k + sumU us ≤ 90000000000000 ∧ ∀ x ∈ us, x.rs.length ≤ 2000000 ∧ ∀ y ∈ x.rs, y.2.2.l.length ≤ 1048576) := ⟨hk2, hll⟩
  have HM : Hid (MU w M us k us.length) := hM
  clear hM hll hk2
  go_enter Try.func15, Try.ntmps15
  go_wp2
  go_loopw [1, 5] (fun x i w' => ∃ j : Nat, j ≤ us.length ∧ i = .int .i64 j ∧ x = .int .i64 ((k + sumU (us.take j) : Nat) : Int) ∧ Below w.heap.size w w') (fun _ i _ => us.length - (intOf i).toNat)
  case atStart => exact ⟨0, Nat.zero_le _, rfl, rfl, Below.refl _ _⟩
  case round =>
    obtain ⟨j, hj, rfl, rfl, hb⟩ := hrel
    have HB : Hid (Below w.heap.size w wr) := hb
    have HM1 : Hid (MU wr M us k us.length) := HM.out.grow hb
    clear hb
    by_cases hlt : j < us.length
    · have hlt' : (j : Int) < (us.length : Int) := by omega
      have HU : Hid (k + sumU (us.take (j + 1)) = k + sumU (us.take j) + sumA (nthU us j).rs + 1) := by have := sumU_up hlt; show _ = _; omega
      have hzb : k + sumU (us.take (j + 1)) ≤ 90000000000000 := by have := sumU_le us (j + 1); have := HS.out.1; omega
      obtain ⟨cur, ho, hos, hc, hdn⟩ := HM1.out.outer
      have hd := HM1.out.done j hlt
      have c0 : wr.cell? ⟨M, j * 2, none⟩ = some (.slice (nthU us j).a (nthU us j).rs.length (nthU us j).c) := (ho.cell _).trans (hc j hlt)
      have g1 := hdn j hlt
      have HO : Hid (Blk wr M cur 49) := ho
      have hx := HS.out.2 _ (nthU_mem hlt)
      generalize hz : k + sumU (us.take j) = z at *
      have hz1 : 1 ≤ z := by omega
      have HC : Hid (Calls Try.prog 26 #[.slice (nthU us j).a (nthU us j).rs.length (nthU us j).c, .int .i64 (z : Int)] wr fun e w' => e = .returned (.int .i64 ((z + sumA (nthU us j).rs : Nat) : Int)) ∧ Below wr.heap.size wr w') := heldAQ_any (nthU us j).a z _ (nthU us j).rs wr hd hx.2 hx.1 hz1 (by have := HU.out; omega)
      clear ho hos hc hdn hd hx hz
      go_wp2_with fail
      refine HC.out.mono ?_
      rintro e w1 ⟨rfl, hb1⟩
      have HB1 : Hid (Below w.heap.size w w1) := grow_on HB.out hb1
      have hK1 : Blk w1 M cur 49 := HO.out.grow hb1
      generalize hy : z + sumA (nthU us j).rs = y at *
      have HY : Hid (k + sumU (us.take (j + 1)) = y + 1) := by have := HU.out; show _ = _; omega
      have hyb : y ≤ 90000000000000 := by have := HU.out; omega
      have p1 : w1.cell? ⟨M, j * 2 + 1, none⟩ = some (.bool (markG y)) := (hK1.cell _).trans g1
      have hyn : ¬ (y : Int) < 0 := by omega
      have hG : ((y : Int) % 3 == 0) = markG y := rfl
      have hGG : (markG y == markG y) = true := by cases markG y <;> rfl
      clear hb1 hK1 c0 HC g1 hy HU
      go_wp2
      go_roundw
      case rel => exact ⟨j + 1, by omega, by go_num, by rw [HY.out]; go_num, HB1.out⟩
      case measure => simp [intOf]; omega
    · have hge : ¬ (j : Int) < (us.length : Int) := by omega
      have HE : Hid (sumU (us.take j) = sumU us) := sumU_all (by omega)
      go_wp2
      go_ret
      exact ⟨Mark.retI (by have := HE.out; omega), HB.out⟩
end Go.Proofs.Ytdmhccheaemkkab.SubM
