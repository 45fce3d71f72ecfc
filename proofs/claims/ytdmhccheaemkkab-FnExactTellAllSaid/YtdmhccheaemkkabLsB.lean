/-
  PROVED: the marks that markAlarmS writes over a row of alarms, and heldAlarmS finds, at great numbers.
-/
import Derived.Test.YtdmhccheaemkkabLsO
import Derived.Test.YtdmhccheaemkkabMarkB
namespace Go.Proofs.Ytdmhccheaemkkab.LsB
open Go.RowKit
open Go.Proofs.Ytdmhccheaemkkab.Labs Go.Proofs.Ytdmhccheaemkkab.LabS Go.Proofs.Ytdmhccheaemkkab.Alms Go.Proofs.Ytdmhccheaemkkab.AlmM Go.Proofs.Ytdmhccheaemkkab.Over Go.Proofs.Ytdmhccheaemkkab.Blk Go.Proofs.Ytdmhccheaemkkab.App Go.Proofs.Ytdmhccheaemkkab.Rws Go.Proofs.Ytdmhccheaemkkab.AlmS Go.Proofs.Ytdmhccheaemkkab.ChnI Go.Proofs.Ytdmhccheaemkkab.ChnC Go.Proofs.Ytdmhccheaemkkab.ChnP
open Go.Proofs.Ytdmhccheaemkkab.ChnK
open Go.Proofs.Ytdmhccheaemkkab.Mark (Apart Marked)
open Go.Proofs.Ytdmhccheaemkkab.StrB (retB)
open Go.Proofs.Ytdmhccheaemkkab.Alm (at_par)
open Go.Proofs.Ytdmhccheaemkkab.LabT (Held held_reads)
set_option linter.unusedVariables false

set_option maxHeartbeats 1600000 in
theorem markO_any (M o k lo cap : Nat) (rs : List ARow) (w : World) (hAB : AO lo w M o rs) (hl : rs.length ≤ 2000000) (hk : 1 ≤ k) (hk2 : k + sumA rs ≤ 90000000000000) :
    Calls Try.prog 24 #[.slice (some ⟨M, o, none⟩) rs.length cap, .int .i64 k] w fun e w' => e = .returned (.int .i64 ((k + sumA rs : Nat) : Int)) ∧ MO w' M o rs k rs.length ∧ Only (blks M rs) w w' := by
  have HM : Hid (MO w M o rs k 0) := AO.mo hAB k
  have HN : Hid ((rs.Pairwise fun x y => x.1 ≠ y.1) ∧ k + sumA rs ≤ 90000000000000 ∧ ∀ x ∈ rs, x.2.2.l.length ≤ 1048576) := ⟨hAB.ne, hk2, fun x hx => (hAB.rows x hx).2.1⟩
  clear hAB hk2
  go_enter Try.func24, Try.ntmps24
  go_wp2
  go_loopw [1, 5] (fun x i w' => ∃ j : Nat, j ≤ rs.length ∧ i = .int .i64 j ∧ x = .int .i64 ((k + sumA (rs.take j) : Nat) : Int) ∧ MO w' M o rs k j ∧ Only (blks M rs) w w') (fun _ i _ => rs.length - (intOf i).toNat)
  case atStart => exact ⟨0, Nat.zero_le _, rfl, rfl, HM.out, Only.refl _ _⟩
  case round =>
    obtain ⟨j, hj, rfl, rfl, hm, ha⟩ := hrel
    have HM1 : Hid (MO wr M o rs k j) := hm
    have HA : Hid (Only (blks M rs) w wr) := ha
    clear hm ha
    by_cases hlt : j < rs.length
    · have hlt' : (j : Int) < (rs.length : Int) := by omega
      have HU : Hid (k + sumA (rs.take (j + 1)) = k + sumA (rs.take j) + 2 * (nthA rs j).2.2.l.length + 3) := by have := sumA_up hlt; show _ = _; omega
      have hzb : k + sumA (rs.take (j + 1)) ≤ 90000000000000 := by have := sumA_le rs (j + 1); have := HN.out.2.1; omega
      obtain ⟨cur, ho, hos, hc, hdn⟩ := HM1.out.outer
      have c0 : wr.cell? ⟨M, o + j * 4, none⟩ = some (.slice (some ⟨(nthA rs j).1, 0, none⟩) (nthA rs j).2.2.l.length (nthA rs j).2.1) := (ho.cell _).trans (hc j hlt)
      obtain ⟨ds, hd, hds⟩ := HM1.out.todo j (Nat.le_refl _) hlt
      have hlen : (nthA rs j).2.2.l.length ≤ 1048576 := HN.out.2.2 _ (nthA_mem hlt)
      have HO : Hid (Blk wr M cur 33 ∧ o + rs.length * 4 ≤ cur.size ∧ (∀ i, i < rs.length → cur[o + i * 4]? = some (.slice (some ⟨(nthA rs i).1, 0, none⟩) (nthA rs i).2.2.l.length (nthA rs i).2.1)) ∧ ∀ i, i < j → MarkO o cur i (k + sumA (rs.take i) + 2 * (nthA rs i).2.2.l.length)) := ⟨ho, hos, hc, hdn⟩
      generalize hz : k + sumA (rs.take j) = z at *
      have HZ : Hid (k + sumA (rs.take j) = z) := hz
      have hz1 : 1 ≤ z := by omega
      have hz2 : z ≤ 90000000000000 := by have := HU.out; omega
      have HC : Hid (Calls Try.prog 32 #[.slice (some ⟨(nthA rs j).1, 0, none⟩) (nthA rs j).2.2.l.length (nthA rs j).2.1, .int .i64 (z : Int)] wr fun e w' => e = .returned (.int .i64 ((z + 2 * (nthA rs j).2.2.l.length : Nat) : Int)) ∧ (∃ cs' : Array Value, Blk w' (nthA rs j).1 cs' 71 ∧ cs'.size = ds.size ∧ Marked cs' z (nthA rs j).2.2.l.length) ∧ Apart (nthA rs j).1 wr w') := MarkB.mark_any (nthA rs j).1 _ _ z ds wr hd hds hlen hz1 (by omega)
      have HD : Hid (M ≠ (nthA rs j).1) := blkA_ne ho hd
      clear ho hos hc hdn hd hds hz hlen
      go_wp2_with fail
      refine HC.out.mono ?_
      rintro e w1 ⟨rfl, ⟨ds1, hd1, _, hmk⟩, ha1⟩
      have hK1 : Blk w1 M cur 33 := ha1.blk HO.out.1 HD.out
      have HK1 : Hid (Blk w1 M cur 33) := hK1
      have HD1 : Hid (Blk w1 (nthA rs j).1 ds1 71 ∧ Marked ds1 z (nthA rs j).2.2.l.length) := ⟨hd1, hmk⟩
      have HAp : Hid (Apart (nthA rs j).1 wr w1) := ha1
      have hsz := HO.out.2.1
      obtain ⟨v1, p1⟩ : ∃ v, w1.cell? ⟨M, o + j * 4 + 1, none⟩ = some v := ⟨cur[o + j * 4 + 1]'(by omega), by rw [hK1.cell]; simp⟩
      obtain ⟨v2, p2⟩ : ∃ v, w1.cell? ⟨M, o + j * 4 + 2, none⟩ = some v := ⟨cur[o + j * 4 + 2]'(by omega), by rw [hK1.cell]; simp⟩
      have f1 := hK1.frozen (o + j * 4 + 1)
      have f2 := hK1.frozen (o + j * 4 + 2)
      clear hd1 hmk ha1 hK1 hsz c0 HC
      generalize hy : z + 2 * (nthA rs j).2.2.l.length = y
      have HY : Hid (z + 2 * (nthA rs j).2.2.l.length = y) := hy
      have hyb : y ≤ 90000000000000 := by have := HU.out; omega
      clear hy
      go_wp2_with fail
      have ez : (y : Int) + 1 + 1 = ((y + 2 : Nat) : Int) := by omega
      have ey : (y : Int) + 1 = ((y + 1 : Nat) : Int) := by omega
      rw [ez, ey]
      generalize hW : (w1.setCell ⟨M, o + j * 4 + 1, none⟩ (.int .i64 y)).setCell ⟨M, o + j * 4 + 2, none⟩ (.int .i64 ((y + 1 : Nat) : Int)) = W
      have HKW : Hid (Blk W M ((cur.setIfInBounds (o + j * 4 + 1) (.int .i64 y)).setIfInBounds (o + j * 4 + 2) (.int .i64 ((y + 1 : Nat) : Int))) 33) := by rw [← hW]; exact (HK1.out.set _ _).set _ _
      have HLW : Hid (∀ {g : Nat} {es : Array Value}, Blk w1 g es 71 → Blk W g es 71) := fun h => by rw [← hW]; exact (h.set_other (blkA_ne HK1.out h) _).set_other (blkA_ne HK1.out h) _
      have HAW : Hid (Only (blks M rs) w W) := by rw [← hW]; exact ((HA.out.trans (Only.apart HAp.out (.inr ⟨_, nthA_mem hlt, rfl⟩))).set (.inl rfl) _ _).set (.inl rfl) _ _
      clear hW p1 p2 f1 f2 ez ey
      refine (MarkB.markText_any (y + 2) _ (by omega) (by omega)).mono ?_
      rintro e w2 ⟨rfl, hb2⟩
      have hK2 := HKW.out.grow hb2
      have HK2 : Hid (Blk w2 M ((cur.setIfInBounds (o + j * 4 + 1) (.int .i64 y)).setIfInBounds (o + j * 4 + 2) (.int .i64 ((y + 1 : Nat) : Int))) 33) := hK2
      have HL2 : Hid (∀ {g : Nat} {es : Array Value}, Blk w1 g es 71 → Blk w2 g es 71) := fun h => (HLW.out h).grow hb2
      have HA2 : Hid (Only (blks M rs) w w2) := HAW.out.below hb2
      have hsz := HO.out.2.1
      obtain ⟨v3, p3⟩ : ∃ v, w2.cell? ⟨M, o + j * 4 + 3, none⟩ = some v := ⟨((cur.setIfInBounds (o + j * 4 + 1) (.int .i64 y)).setIfInBounds (o + j * 4 + 2) (.int .i64 ((y + 1 : Nat) : Int)))[o + j * 4 + 3]'(by simp; omega), by rw [hK2.cell]; exact Array.getElem?_eq_getElem _⟩
      have f3 := hK2.frozen (o + j * 4 + 3)
      have HE : Hid (MO (w2.setCell ⟨M, o + j * 4 + 3, none⟩ (.string (Mark.mt (y + 2)))) M o rs k (j + 1)) := by
        refine ⟨⟨_, HK2.out.set _ _, by simp; exact hsz, fun i hi => ?_, fun i hi => ?_⟩, fun i hi => ?_, fun i hi hl => ?_⟩
        · rw [set_ne (by omega), set_ne (by omega), set_ne (by omega)]; exact HO.out.2.2.1 i hi
        · by_cases e : i = j
          · subst e
            rw [HZ.out, HY.out]
            exact ⟨by rw [set_ne (by omega), set_ne (by omega), set_at (by omega)], by rw [set_ne (by omega), set_at (by simp; omega)], by rw [set_at (by simp; omega)]⟩
          · obtain ⟨q1, q2, q3⟩ := HO.out.2.2.2 i (by omega)
            exact ⟨by rw [set_ne (by omega), set_ne (by omega), set_ne (by omega)]; exact q1, by rw [set_ne (by omega), set_ne (by omega), set_ne (by omega)]; exact q2, by rw [set_ne (by omega), set_ne (by omega), set_ne (by omega)]; exact q3⟩
        · by_cases e : i = j
          · subst e
            rw [HZ.out]
            exact ⟨ds1, (HL2.out HD1.out.1).set_other (blkA_ne HK2.out (HL2.out HD1.out.1)) _, HD1.out.2⟩
          · obtain ⟨es, q1, q2⟩ := HM1.out.done i (by omega)
            have q3 := HL2.out (HAp.out.blk q1 (inc_ne HN.out.1 (by omega) hlt e))
            exact ⟨es, q3.set_other (blkA_ne HK2.out q3) _, q2⟩
        · obtain ⟨es, q1, q2⟩ := HM1.out.todo i (by omega) hl
          have q3 := HL2.out (HAp.out.blk q1 (inc_ne HN.out.1 hl hlt (by omega)))
          exact ⟨es, q3.set_other (blkA_ne HK2.out q3) _, q2⟩
      have HF : Hid (k + sumA (rs.take (j + 1)) = y + 3) := by have := HU.out; have := HY.out; show _ = _; omega
      clear hb2 hK2 hsz
      go_wp2
      go_roundw
      case rel => exact ⟨j + 1, by omega, by go_num, by rw [HF.out]; go_num, HE.out, HA2.out.set (.inl rfl) _ _⟩
      case measure => simp [intOf]; omega
    · have hge : ¬ (j : Int) < (rs.length : Int) := by omega
      have HE : Hid (j = rs.length ∧ sumA (rs.take j) = sumA rs) := ⟨by omega, sumA_all (by omega)⟩
      go_wp2
      go_ret
      exact ⟨Mark.retI (by have := HE.out.2; omega), by have := HM1.out; rwa [HE.out.1] at this, HA.out⟩
set_option maxHeartbeats 1600000 in
theorem heldO_any (M o k cap : Nat) (rs : List ARow) (w : World) (hM : MO w M o rs k rs.length) (hll : ∀ x ∈ rs, x.2.2.l.length ≤ 1048576) (hl : rs.length ≤ 2000000) (hk : 1 ≤ k) (hk2 : k + sumA rs ≤ 90000000000000) :
    Calls Try.prog 26 #[.slice (some ⟨M, o, none⟩) rs.length cap, .int .i64 k] w fun e w' => e = .returned (.int .i64 ((k + sumA rs : Nat) : Int)) ∧ Below w.heap.size w w' := by
  have HS : Hid (k + sumA rs ≤ 90000000000000 ∧ ∀ x ∈ rs, x.2.2.l.length ≤ 1048576) := ⟨hk2, hll⟩
  have HM : Hid (MO w M o rs k rs.length) := hM
  clear hM hll hk2
  go_enter Try.func26, Try.ntmps26
  go_wp2
  go_loopw [1, 5] (fun x i w' => ∃ j : Nat, j ≤ rs.length ∧ i = .int .i64 j ∧ x = .int .i64 ((k + sumA (rs.take j) : Nat) : Int) ∧ Below w.heap.size w w') (fun _ i _ => rs.length - (intOf i).toNat)
  case atStart => exact ⟨0, Nat.zero_le _, rfl, rfl, Below.refl _ _⟩
  case round =>
    obtain ⟨j, hj, rfl, rfl, hb⟩ := hrel
    have HB : Hid (Below w.heap.size w wr) := hb
    have HM1 : Hid (MO wr M o rs k rs.length) := HM.out.grow hb
    clear hb
    by_cases hlt : j < rs.length
    · have hlt' : (j : Int) < (rs.length : Int) := by omega
      have HU : Hid (k + sumA (rs.take (j + 1)) = k + sumA (rs.take j) + 2 * (nthA rs j).2.2.l.length + 3) := by have := sumA_up hlt; show _ = _; omega
      have hzb : k + sumA (rs.take (j + 1)) ≤ 90000000000000 := by have := sumA_le rs (j + 1); have := HS.out.1; omega
      obtain ⟨cur, ho, hos, hc, hdn⟩ := HM1.out.outer
      obtain ⟨g1, g2, g3⟩ := hdn j hlt
      have c0 : wr.cell? ⟨M, o + j * 4, none⟩ = some (.slice (some ⟨(nthA rs j).1, 0, none⟩) (nthA rs j).2.2.l.length (nthA rs j).2.1) := (ho.cell _).trans (hc j hlt)
      obtain ⟨ds, hd, hds⟩ := HM1.out.done j hlt
      have hlen : (nthA rs j).2.2.l.length ≤ 1048576 := HS.out.2 _ (nthA_mem hlt)
      have HO : Hid (Blk wr M cur 33) := ho
      generalize hz : k + sumA (rs.take j) = z at *
      have hz1 : 1 ≤ z := by omega
      have hz2 : z ≤ 90000000000000 := by have := HU.out; omega
      have HC : Hid (Calls Try.prog 39 #[.slice (some ⟨(nthA rs j).1, 0, none⟩) (nthA rs j).2.2.l.length (nthA rs j).2.1, .int .i64 (z : Int)] wr fun e w' => e = .returned (.int .i64 ((z + 2 * (nthA rs j).2.2.l.length : Nat) : Int)) ∧ Below wr.heap.size wr w') := MarkB.held_any (nthA rs j).1 _ _ z ds wr hd hds hlen hz1 (by omega)
      clear ho hos hc hdn hd hds hz hlen
      go_wp2_with fail
      refine HC.out.mono ?_
      rintro e w1 ⟨rfl, hb1⟩
      have HB1 : Hid (Below w.heap.size w w1) := grow_on HB.out hb1
      have hK1 : Blk w1 M cur 33 := HO.out.grow hb1
      have HK1 : Hid (Blk w1 M cur 33) := hK1
      generalize hy : z + 2 * (nthA rs j).2.2.l.length = y at *
      have HY : Hid (k + sumA (rs.take (j + 1)) = y + 3) := by have := HU.out; show _ = _; omega
      have hyb : y ≤ 90000000000000 := by have := HU.out; omega
      have p1 : w1.cell? ⟨M, o + j * 4 + 1, none⟩ = some (.int .i64 (y : Int)) := (hK1.cell _).trans g1
      have p2 : w1.cell? ⟨M, o + j * 4 + 2, none⟩ = some (.int .i64 ((y + 1 : Nat) : Int)) := (hK1.cell _).trans g2
      have HG : Hid (cur[o + j * 4 + 3]? = some (.string (Mark.mt (y + 2)))) := g3
      have hyn : ¬ (y : Int) < 0 := by omega
      clear hb1 hK1 c0 HC g1 g2 g3 hy HU
      have hne := Grown.some w1
      have hMr := HK1.out.lt
      have x0 := fun q : Grown w1 => q.cell (p := ⟨M, o + j * 4 + 3, none⟩) hMr ((HK1.out.cell _).trans HG.out)
      have hd : ((Mark.mt (y + 2)).toList == (Mark.mt (y + 2)).toList) = true := Labs.beqS_yes rfl
      have HT : ∀ q : Grown w1, Hid (Calls Try.prog 38 #[.int .i64 ((y + 2 : Nat) : Int)] q.out fun e w' => e = .returned (.string (Mark.mt (y + 2))) ∧ Below q.out.heap.size q.out w') := fun q => MarkB.markText_any (y + 2) _ (by omega) (by omega)
      go_wp2
      have ez : (y : Int) + 1 + 1 = ((y + 2 : Nat) : Int) := by omega
      rw [ez]
      clear ez
      have HY2 : Hid (k + sumA (rs.take (j + 1)) = y + 2 + 1) := HY.out
      have hvb : y + 2 ≤ 90000000000002 := by omega
      generalize hv : y + 2 = v at x0 hd HT HY2 hvb ⊢
      clear hv hyb p1 p2
      refine wp_over (z := w1) (by kernel_rfl) (by kernel_rfl) (Below.refl _ _) ?_
      repeat (go_big_quiet_step (first | (go_at_call 38; exact call_over (HT _).out)))
      refine wpQuiet_nil ?_
      intro w2 hw2
      have HB2 : Hid (Below w.heap.size w w2) := grow_on HB1.out (over_bel hw2)
      clear hw2 hne x0 hd HT
      go_wp2
      go_roundw
      case rel => exact ⟨j + 1, by omega, by go_num, by rw [HY2.out]; go_num, HB2.out⟩
      case measure => simp [intOf]; omega
    · have hge : ¬ (j : Int) < (rs.length : Int) := by omega
      have HE : Hid (sumA (rs.take j) = sumA rs) := sumA_all (by omega)
      go_wp2
      go_ret
      exact ⟨Mark.retI (by have := HE.out; omega), HB.out⟩
end Go.Proofs.Ytdmhccheaemkkab.LsB
