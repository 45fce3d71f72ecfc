/-
  PROVED: the marks that markAlarmS writes over a row of alarms that begins at a place of its block, and heldAlarmS finds.
-/
import Derived.Test.YtgncimlojbnbfaaLsK
namespace Go.Proofs.Ytgncimlojbnbfaa.ChnK
open Go.RowKit
open Go.Proofs.Ytgncimlojbnbfaa.Labs Go.Proofs.Ytgncimlojbnbfaa.LabS Go.Proofs.Ytgncimlojbnbfaa.Alms Go.Proofs.Ytgncimlojbnbfaa.AlmM Go.Proofs.Ytgncimlojbnbfaa.Over Go.Proofs.Ytgncimlojbnbfaa.Blk Go.Proofs.Ytgncimlojbnbfaa.App Go.Proofs.Ytgncimlojbnbfaa.Rws Go.Proofs.Ytgncimlojbnbfaa.AlmS Go.Proofs.Ytgncimlojbnbfaa.ChnI Go.Proofs.Ytgncimlojbnbfaa.ChnC Go.Proofs.Ytgncimlojbnbfaa.ChnP
open Go.Proofs.Ytgncimlojbnbfaa.Mark (Apart Marked)
open Go.Proofs.Ytgncimlojbnbfaa.StrB (retB)
open Go.Proofs.Ytgncimlojbnbfaa.Alm (at_par)
open Go.Proofs.Ytgncimlojbnbfaa.LabT (Held held_reads)
set_option linter.unusedVariables false

/-- the alarms rs lie from the cell o of the block M on -/
structure AO (lo : Nat) (w : World) (M o : Nat) (rs : List ARow) : Prop where
  at' : lo ≤ M
  outer : ∃ cur : Array Value, Blk w M cur 48 ∧ o + rs.length * 4 ≤ cur.size ∧ ∀ i, i < rs.length → Four (fun k => cur[o + k]?) i (nthA rs i)
  rows : ∀ x ∈ rs, OwnA lo w x
  ne : rs.Pairwise fun x y => x.1 ≠ y.1
theorem AO.grow {lo : Nat} {w w' : World} {M o : Nat} {rs : List ARow} (h : AO lo w M o rs) (hb : Below w.heap.size w w') : AO lo w' M o rs := by
  obtain ⟨cur, h1, h2⟩ := h.outer
  exact ⟨h.at', ⟨cur, h1.grow hb, h2⟩, fun x hx => (h.rows x hx).grow hb, h.ne⟩
theorem AO.down {lo lo' : Nat} {w : World} {M o : Nat} {rs : List ARow} (h : AO lo w M o rs) (hl : lo' ≤ lo) : AO lo' w M o rs :=
  ⟨Nat.le_trans hl h.at', h.outer, fun x hx => (h.rows x hx).down hl, h.ne⟩
theorem AO.lt {lo : Nat} {w : World} {M o : Nat} {rs : List ARow} (h : AO lo w M o rs) : M < w.heap.size := by
  obtain ⟨cur, h1, _⟩ := h.outer
  exact h1.lt
theorem AO.rd {lo : Nat} {w : World} {M o : Nat} {rs : List ARow} (h : AO lo w M o rs) : RdN w (some ⟨M, o, none⟩) (pals rs) := by
  obtain ⟨cur, h1, h2, h3⟩ := h.outer
  refine .inr ⟨M, o, rfl, h1.lt, fun i hi => ?_⟩
  rw [pals_len] at hi
  obtain ⟨c0, c1, c2, c3⟩ := h3 i hi
  refine ⟨(nthA rs i).1, 0, (nthA rs i).2.1, ?_⟩
  rw [pals_nth hi]
  exact ⟨by rw [h1.cell]; exact c0, by rw [h1.cell]; exact c1, by rw [h1.cell]; exact c2, by rw [h1.cell]; exact c3, (h.rows _ (nthA_mem hi)).reads⟩
theorem AB.ao {lo : Nat} {w : World} {M c : Nat} {rs : List ARow} (h : AB lo w M c rs) : AO lo w M 0 rs := by
  obtain ⟨cur, h1, h2, h3⟩ := h.outer
  have hc := h.cap
  exact ⟨h.at', ⟨cur, h1, by omega, fun i hi => (h3 i hi).congr fun k _ _ => by show cur[0 + k]? = cur[k]?; rw [Nat.zero_add]⟩, h.rows, h.ne⟩
/-- all but the first one; where none is left, it may begin anywhere in the row -/
theorem AB.tail {lo : Nat} {w : World} {M c o : Nat} {y : ARow} {rs : List ARow} (h : AB lo w M c (y :: rs)) (ho : o = 4 ∨ (rs = [] ∧ o = 0)) : AO lo w M o rs := by
  obtain ⟨cur, h1, h2, h3⟩ := h.outer
  have hc := h.cap
  simp only [List.length_cons] at hc
  refine ⟨h.at', ⟨cur, h1, by rcases ho with rfl | ⟨rfl, rfl⟩ <;> (try simp) <;> omega, fun i hi => ?_⟩, fun x hx => h.rows x (List.mem_cons_of_mem _ hx), (List.pairwise_cons.1 h.ne).2⟩
  rcases ho with rfl | ⟨rfl, rfl⟩
  · have h4 := h3 (i + 1) (by simp; omega)
    have e : nthA (y :: rs) (i + 1) = nthA rs i := by simp [nthA]
    rw [e] at h4
    obtain ⟨q0, q1, q2, q3⟩ := h4
    have ek : ∀ k, (i + 1) * 4 + k = 4 + (i * 4 + k) := fun k => by omega
    exact ⟨by rw [← q0]; show cur[4 + i * 4]? = cur[(i + 1) * 4]?; rw [show (i + 1) * 4 = 4 + i * 4 by omega], by rw [← q1]; show cur[4 + (i * 4 + 1)]? = cur[(i + 1) * 4 + 1]?; rw [ek], by rw [← q2]; show cur[4 + (i * 4 + 2)]? = cur[(i + 1) * 4 + 2]?; rw [ek], by rw [← q3]; show cur[4 + (i * 4 + 3)]? = cur[(i + 1) * 4 + 3]?; rw [ek]⟩
  · simp at hi
theorem ao_moved {lo : Nat} {w w' : World} {M o : Nat} {rs : List ARow} (h : AO lo w M o rs) (hm : Chs.Moved w w') : AO lo w' M o rs := by
  obtain ⟨cur, h1, h2⟩ := h.outer
  refine ⟨h.at', ⟨cur, hm.A h1, h2⟩, fun x hx => ?_, h.ne⟩
  obtain ⟨h0, h1, ds, h2, h3⟩ := h.rows x hx
  exact ⟨h0, h1, ds, hm.L h2, h3⟩
theorem ao_only {S : Nat → Prop} {lo : Nat} {w w' : World} {M o : Nat} {rs : List ARow} (h : AO lo w M o rs) (ho : Only S w w') (hn : ∀ k, blks M rs k → ¬ S k) : AO lo w' M o rs := by
  obtain ⟨cur, h1, h2⟩ := h.outer
  exact ⟨h.at', ⟨cur, ho.blk h1 (hn _ (.inl rfl)), h2⟩, fun x hx => by
    obtain ⟨k0, k1, ds, k2, k3⟩ := h.rows x hx
    exact ⟨k0, k1, ds, ho.blk k2 (hn _ (.inr ⟨x, hx, rfl⟩)), k3⟩, h.ne⟩
theorem aoblks_low {lo : Nat} {w : World} {M o : Nat} {rs : List ARow} (h : AO lo w M o rs) (k : Nat) (hk : blks M rs k) : lo ≤ k := by
  rcases hk with rfl | ⟨x, hx, rfl⟩
  · exact h.at'
  · exact (h.rows x hx).1
theorem aoblks_high {lo : Nat} {w : World} {M o : Nat} {rs : List ARow} (h : AO lo w M o rs) (k : Nat) (hk : blks M rs k) : k < w.heap.size := by
  rcases hk with rfl | ⟨x, hx, rfl⟩
  · exact h.lt
  · exact (h.rows x hx).lt
/-- what the i-th one's other cells hold when it is marked -/
def MarkO (o : Nat) (cur : Array Value) (i z : Nat) : Prop := cur[o + i * 4 + 1]? = some (.int .i64 (z : Int)) ∧ cur[o + i * 4 + 2]? = some (.int .i64 ((z + 1 : Nat) : Int)) ∧ cur[o + i * 4 + 3]? = some (.string (Mark.mt (z + 2)))
/-- the alarms while they are marked: the first j are -/
structure MO (w : World) (M o : Nat) (rs : List ARow) (k j : Nat) : Prop where
  outer : ∃ cur : Array Value, Blk w M cur 48 ∧ o + rs.length * 4 ≤ cur.size ∧ (∀ i, i < rs.length → cur[o + i * 4]? = some (.slice (some ⟨(nthA rs i).1, 0, none⟩) (nthA rs i).2.2.l.length (nthA rs i).2.1)) ∧ ∀ i, i < j → MarkO o cur i (k + sumA (rs.take i) + 2 * (nthA rs i).2.2.l.length)
  done : ∀ i, i < j → ∃ ds : Array Value, Blk w (nthA rs i).1 ds 73 ∧ Marked ds (k + sumA (rs.take i)) (nthA rs i).2.2.l.length
  todo : ∀ i, j ≤ i → i < rs.length → ∃ ds : Array Value, Blk w (nthA rs i).1 ds 73 ∧ (nthA rs i).2.2.l.length * 2 ≤ ds.size
theorem AO.mo {lo : Nat} {w : World} {M o : Nat} {rs : List ARow} (h : AO lo w M o rs) (k : Nat) : MO w M o rs k 0 := by
  obtain ⟨cur, h1, h2, h3⟩ := h.outer
  exact ⟨⟨cur, h1, h2, fun i hi => (h3 i hi).1, fun i hi => by omega⟩, fun i hi => by omega, fun i _ hi => by
    obtain ⟨_, _, ds, k2, k3, _⟩ := h.rows _ (nthA_mem hi)
    exact ⟨ds, k2, k3⟩⟩
theorem MO.only {S : Nat → Prop} {w w' : World} {M o : Nat} {rs : List ARow} {k : Nat} (h : MO w M o rs k rs.length) (ho : Only S w w') (hn : ∀ k, blks M rs k → ¬ S k) : MO w' M o rs k rs.length := by
  obtain ⟨cur, h1, h2⟩ := h.outer
  exact ⟨⟨cur, ho.blk h1 (hn _ (.inl rfl)), h2⟩, fun i hi => by
    obtain ⟨ds, h3, h4⟩ := h.done i hi
    exact ⟨ds, ho.blk h3 (hn _ (.inr ⟨_, nthA_mem hi, rfl⟩)), h4⟩, fun i hi hj => by omega⟩
theorem MO.grow {w w' : World} {M o : Nat} {rs : List ARow} {k : Nat} (h : MO w M o rs k rs.length) (hb : Below w.heap.size w w') : MO w' M o rs k rs.length := h.only (S := fun _ => False) (Only.of hb) (fun _ _ h => h)

set_option maxHeartbeats 1600000 in
theorem markO_any (M o k lo cap : Nat) (rs : List ARow) (w : World) (hAB : AO lo w M o rs) (hl : rs.length ≤ 2000000) (hk : 1 ≤ k) (hk2 : k + sumA rs ≤ 9000000) :
    Calls Try.prog 59 #[.slice (some ⟨M, o, none⟩) rs.length cap, .int .i64 k] w fun e w' => e = .returned (.int .i64 ((k + sumA rs : Nat) : Int)) ∧ MO w' M o rs k rs.length ∧ Only (blks M rs) w w' := by
  have HM : Hid (MO w M o rs k 0) := AO.mo hAB k
  have HN : Hid ((rs.Pairwise fun x y => x.1 ≠ y.1) ∧ k + sumA rs ≤ 9000000 ∧ ∀ x ∈ rs, x.2.2.l.length ≤ 1048576) := ⟨hAB.ne, hk2, fun x hx => (hAB.rows x hx).2.1⟩
  clear hAB hk2
  go_enter Try.func59, Try.ntmps59
  go_wp2
  go_loopw [1, 5] (fun x i w' => ∃ j : Nat, j ≤ rs.length ∧ i = .int .i64 j ∧ x = .int .i64 ((k + sumA (rs.take j) : Nat) : Int) ∧ MO w' M o rs k j ∧ Only (blks M rs) w w') (fun _ i _ => rs.length - (intOf i).toNat)
  case atStart => exact ⟨0, Nat.zero_le _, rfl, rfl, HM.out, Only.refl _ _⟩
  case round =>
    obtain ⟨j, hj, rfl, rfl, hm, ha⟩ := hrel
    have HM1 : Hid (MO wr M o rs k j) := hm
    have HA : Hid (Only (blks M rs) w wr) := ha
    clear hm ha
    by_cases hlt : j < rs.length
    · have hlt' : (j : Int) < (rs.length : Int) := by omega
      have HU : Hid (k + sumA (rs.take (j + 1)) = k + sumA (rs.take j) + 2 * (nthA rs j).2.2.l.length + 3) := by have := sumA_up hlt; show _ = _; omega
      have hzb : k + sumA (rs.take (j + 1)) ≤ 9000000 := by have := sumA_le rs (j + 1); have := HN.out.2.1; omega
      obtain ⟨cur, ho, hos, hc, hdn⟩ := HM1.out.outer
      have c0 : wr.cell? ⟨M, o + j * 4, none⟩ = some (.slice (some ⟨(nthA rs j).1, 0, none⟩) (nthA rs j).2.2.l.length (nthA rs j).2.1) := (ho.cell _).trans (hc j hlt)
      obtain ⟨ds, hd, hds⟩ := HM1.out.todo j (Nat.le_refl _) hlt
      have hlen : (nthA rs j).2.2.l.length ≤ 1048576 := HN.out.2.2 _ (nthA_mem hlt)
      have HO : Hid (Blk wr M cur 48 ∧ o + rs.length * 4 ≤ cur.size ∧ (∀ i, i < rs.length → cur[o + i * 4]? = some (.slice (some ⟨(nthA rs i).1, 0, none⟩) (nthA rs i).2.2.l.length (nthA rs i).2.1)) ∧ ∀ i, i < j → MarkO o cur i (k + sumA (rs.take i) + 2 * (nthA rs i).2.2.l.length)) := ⟨ho, hos, hc, hdn⟩
      generalize hz : k + sumA (rs.take j) = z at *
      have HZ : Hid (k + sumA (rs.take j) = z) := hz
      have hz1 : 1 ≤ z := by omega
      have hz2 : z ≤ 9000000 := by have := HU.out; omega
      have HC : Hid (Calls Try.prog 58 #[.slice (some ⟨(nthA rs j).1, 0, none⟩) (nthA rs j).2.2.l.length (nthA rs j).2.1, .int .i64 (z : Int)] wr fun e w' => e = .returned (.int .i64 ((z + 2 * (nthA rs j).2.2.l.length : Nat) : Int)) ∧ (∃ cs' : Array Value, Blk w' (nthA rs j).1 cs' 73 ∧ cs'.size = ds.size ∧ Marked cs' z (nthA rs j).2.2.l.length) ∧ Apart (nthA rs j).1 wr w') := Mark.mark_any (nthA rs j).1 _ _ z ds wr hd hds hlen hz1 (by omega)
      have HD : Hid (M ≠ (nthA rs j).1) := blkA_ne ho hd
      clear ho hos hc hdn hd hds hz hlen
      go_wp2_with fail
      refine HC.out.mono ?_
      rintro e w1 ⟨rfl, ⟨ds1, hd1, _, hmk⟩, ha1⟩
      have hK1 : Blk w1 M cur 48 := ha1.blk HO.out.1 HD.out
      have HK1 : Hid (Blk w1 M cur 48) := hK1
      have HD1 : Hid (Blk w1 (nthA rs j).1 ds1 73 ∧ Marked ds1 z (nthA rs j).2.2.l.length) := ⟨hd1, hmk⟩
      have HAp : Hid (Apart (nthA rs j).1 wr w1) := ha1
      have hsz := HO.out.2.1
      obtain ⟨v1, p1⟩ : ∃ v, w1.cell? ⟨M, o + j * 4 + 1, none⟩ = some v := ⟨cur[o + j * 4 + 1]'(by omega), by rw [hK1.cell]; simp⟩
      obtain ⟨v2, p2⟩ : ∃ v, w1.cell? ⟨M, o + j * 4 + 2, none⟩ = some v := ⟨cur[o + j * 4 + 2]'(by omega), by rw [hK1.cell]; simp⟩
      have f1 := hK1.frozen (o + j * 4 + 1)
      have f2 := hK1.frozen (o + j * 4 + 2)
      clear hd1 hmk ha1 hK1 hsz c0 HC
      generalize hy : z + 2 * (nthA rs j).2.2.l.length = y
      have HY : Hid (z + 2 * (nthA rs j).2.2.l.length = y) := hy
      have hyb : y ≤ 9000000 := by have := HU.out; omega
      clear hy
      go_wp2_with fail
      have ez : (y : Int) + 1 + 1 = ((y + 2 : Nat) : Int) := by omega
      have ey : (y : Int) + 1 = ((y + 1 : Nat) : Int) := by omega
      rw [ez, ey]
      generalize hW : (w1.setCell ⟨M, o + j * 4 + 1, none⟩ (.int .i64 y)).setCell ⟨M, o + j * 4 + 2, none⟩ (.int .i64 ((y + 1 : Nat) : Int)) = W
      have HKW : Hid (Blk W M ((cur.setIfInBounds (o + j * 4 + 1) (.int .i64 y)).setIfInBounds (o + j * 4 + 2) (.int .i64 ((y + 1 : Nat) : Int))) 48) := by rw [← hW]; exact (HK1.out.set _ _).set _ _
      have HLW : Hid (∀ {g : Nat} {es : Array Value}, Blk w1 g es 73 → Blk W g es 73) := fun h => by rw [← hW]; exact (h.set_other (blkA_ne HK1.out h) _).set_other (blkA_ne HK1.out h) _
      have HAW : Hid (Only (blks M rs) w W) := by rw [← hW]; exact ((HA.out.trans (Only.apart HAp.out (.inr ⟨_, nthA_mem hlt, rfl⟩))).set (.inl rfl) _ _).set (.inl rfl) _ _
      clear hW p1 p2 f1 f2 ez ey
      refine (Mark.markText_any (y + 2) _ (by omega) (by omega)).mono ?_
      rintro e w2 ⟨rfl, hb2⟩
      have hK2 := HKW.out.grow hb2
      have HK2 : Hid (Blk w2 M ((cur.setIfInBounds (o + j * 4 + 1) (.int .i64 y)).setIfInBounds (o + j * 4 + 2) (.int .i64 ((y + 1 : Nat) : Int))) 48) := hK2
      have HL2 : Hid (∀ {g : Nat} {es : Array Value}, Blk w1 g es 73 → Blk w2 g es 73) := fun h => (HLW.out h).grow hb2
      have HA2 : Hid (Only (blks M rs) w w2) := HAW.out.below hb2
      have hsz := HO.out.2.1
      obtain ⟨v3, p3⟩ : ∃ v, w2.cell? ⟨M, o + j * 4 + 3, none⟩ = some v := ⟨((cur.setIfInBounds (o + j * 4 + 1) (.int .i64 y)).setIfInBounds (o + j * 4 + 2) (.int .i64 ((y + 1 : Nat) : Int)))[o + j * 4 + 3]'(by simp; omega), by rw [hK2.cell]; exact Array.getElem?_eq_getElem _⟩
      have f3 := hK2.frozen (o + j * 4 + 3)
      have HE : Hid (MO (w2.setCell ⟨M, o + j * 4 + 3, none⟩ (.string (Mark.mt (y + 2)))) M o rs k (j + 1)) := by
        refine ⟨⟨_, HK2.out.set _ _, by simp; exact hsz, fun i hi => ?_, fun i hi => ?_⟩, fun i hi => ?_, fun i hi hl => ?_⟩
        · rw [set_ne (by omega), set_ne (by omega), set_ne (by omega)]; exact HO.out.2.2.1 i hi
        · by_cases e : i = j
          · subst e
            rw [HZ.out, HY.out]
            exact ⟨by rw [set_ne (by omega), set_ne (by omega), set_at (by omega)], by rw [set_ne (by omega), set_at (by simp; omega)], by rw [set_at (by simp; omega)]⟩
          · obtain ⟨q1, q2, q3⟩ := HO.out.2.2.2 i (by omega)
            exact ⟨by rw [set_ne (by omega), set_ne (by omega), set_ne (by omega)]; exact q1, by rw [set_ne (by omega), set_ne (by omega), set_ne (by omega)]; exact q2, by rw [set_ne (by omega), set_ne (by omega), set_ne (by omega)]; exact q3⟩
        · by_cases e : i = j
          · subst e
            rw [HZ.out]
            exact ⟨ds1, (HL2.out HD1.out.1).set_other (blkA_ne HK2.out (HL2.out HD1.out.1)) _, HD1.out.2⟩
          · obtain ⟨es, q1, q2⟩ := HM1.out.done i (by omega)
            have q3 := HL2.out (HAp.out.blk q1 (inc_ne HN.out.1 (by omega) hlt e))
            exact ⟨es, q3.set_other (blkA_ne HK2.out q3) _, q2⟩
        · obtain ⟨es, q1, q2⟩ := HM1.out.todo i (by omega) hl
          have q3 := HL2.out (HAp.out.blk q1 (inc_ne HN.out.1 hl hlt (by omega)))
          exact ⟨es, q3.set_other (blkA_ne HK2.out q3) _, q2⟩
      have HF : Hid (k + sumA (rs.take (j + 1)) = y + 3) := by have := HU.out; have := HY.out; show _ = _; omega
      clear hb2 hK2 hsz
      go_wp2
      go_roundw
      case rel => exact ⟨j + 1, by omega, by go_num, by rw [HF.out]; go_num, HE.out, HA2.out.set (.inl rfl) _ _⟩
      case measure => simp [intOf]; omega
    · have hge : ¬ (j : Int) < (rs.length : Int) := by omega
      have HE : Hid (j = rs.length ∧ sumA (rs.take j) = sumA rs) := ⟨by omega, sumA_all (by omega)⟩
      go_wp2
      go_ret
      exact ⟨Mark.retI (by have := HE.out.2; omega), by have := HM1.out; rwa [HE.out.1] at this, HA.out⟩

set_option maxHeartbeats 1600000 in
theorem heldO_any (M o k cap : Nat) (rs : List ARow) (w : World) (hM : MO w M o rs k rs.length) (hll : ∀ x ∈ rs, x.2.2.l.length ≤ 1048576) (hl : rs.length ≤ 2000000) (hk : 1 ≤ k) (hk2 : k + sumA rs ≤ 9000000) :
    Calls Try.prog 62 #[.slice (some ⟨M, o, none⟩) rs.length cap, .int .i64 k] w fun e w' => e = .returned (.int .i64 ((k + sumA rs : Nat) : Int)) ∧ Below w.heap.size w w' := by
  have HS : Hid (k + sumA rs ≤ 9000000 ∧ ∀ x ∈ rs, x.2.2.l.length ≤ 1048576) := ⟨hk2, hll⟩
  have HM : Hid (MO w M o rs k rs.length) := hM
  clear hM hll hk2
  go_enter Try.func62, Try.ntmps62
  go_wp2
  go_loopw [1, 5] (fun x i w' => ∃ j : Nat, j ≤ rs.length ∧ i = .int .i64 j ∧ x = .int .i64 ((k + sumA (rs.take j) : Nat) : Int) ∧ Below w.heap.size w w') (fun _ i _ => rs.length - (intOf i).toNat)
  case atStart => exact ⟨0, Nat.zero_le _, rfl, rfl, Below.refl _ _⟩
  case round =>
    obtain ⟨j, hj, rfl, rfl, hb⟩ := hrel
    have HB : Hid (Below w.heap.size w wr) := hb
    have HM1 : Hid (MO wr M o rs k rs.length) := HM.out.grow hb
    clear hb
    by_cases hlt : j < rs.length
    · have hlt' : (j : Int) < (rs.length : Int) := by omega
      have HU : Hid (k + sumA (rs.take (j + 1)) = k + sumA (rs.take j) + 2 * (nthA rs j).2.2.l.length + 3) := by have := sumA_up hlt; show _ = _; omega
      have hzb : k + sumA (rs.take (j + 1)) ≤ 9000000 := by have := sumA_le rs (j + 1); have := HS.out.1; omega
      obtain ⟨cur, ho, hos, hc, hdn⟩ := HM1.out.outer
      obtain ⟨g1, g2, g3⟩ := hdn j hlt
      have c0 : wr.cell? ⟨M, o + j * 4, none⟩ = some (.slice (some ⟨(nthA rs j).1, 0, none⟩) (nthA rs j).2.2.l.length (nthA rs j).2.1) := (ho.cell _).trans (hc j hlt)
      obtain ⟨ds, hd, hds⟩ := HM1.out.done j hlt
      have hlen : (nthA rs j).2.2.l.length ≤ 1048576 := HS.out.2 _ (nthA_mem hlt)
      have HO : Hid (Blk wr M cur 48) := ho
      generalize hz : k + sumA (rs.take j) = z at *
      have hz1 : 1 ≤ z := by omega
      have hz2 : z ≤ 9000000 := by have := HU.out; omega
      have HC : Hid (Calls Try.prog 61 #[.slice (some ⟨(nthA rs j).1, 0, none⟩) (nthA rs j).2.2.l.length (nthA rs j).2.1, .int .i64 (z : Int)] wr fun e w' => e = .returned (.int .i64 ((z + 2 * (nthA rs j).2.2.l.length : Nat) : Int)) ∧ Below wr.heap.size wr w') := Mark.held_any (nthA rs j).1 _ _ z ds wr hd hds hlen hz1 (by omega)
      clear ho hos hc hdn hd hds hz hlen
      go_wp2_with fail
      refine HC.out.mono ?_
      rintro e w1 ⟨rfl, hb1⟩
      have HB1 : Hid (Below w.heap.size w w1) := grow_on HB.out hb1
      have hK1 : Blk w1 M cur 48 := HO.out.grow hb1
      have HK1 : Hid (Blk w1 M cur 48) := hK1
      generalize hy : z + 2 * (nthA rs j).2.2.l.length = y at *
      have HY : Hid (k + sumA (rs.take (j + 1)) = y + 3) := by have := HU.out; show _ = _; omega
      have hyb : y ≤ 9000000 := by have := HU.out; omega
      have p1 : w1.cell? ⟨M, o + j * 4 + 1, none⟩ = some (.int .i64 (y : Int)) := (hK1.cell _).trans g1
      have p2 : w1.cell? ⟨M, o + j * 4 + 2, none⟩ = some (.int .i64 ((y + 1 : Nat) : Int)) := (hK1.cell _).trans g2
      have HG : Hid (cur[o + j * 4 + 3]? = some (.string (Mark.mt (y + 2)))) := g3
      have hyn : ¬ (y : Int) < 0 := by omega
      clear hb1 hK1 c0 HC g1 g2 g3 hy HU
      have hne := Grown.some w1
      have hMr := HK1.out.lt
      have x0 := fun q : Grown w1 => q.cell (p := ⟨M, o + j * 4 + 3, none⟩) hMr ((HK1.out.cell _).trans HG.out)
      have hd : ((Mark.mt (y + 2)).toList == (Mark.mt (y + 2)).toList) = true := Labs.beqS_yes rfl
      have HT : ∀ q : Grown w1, Hid (Calls Try.prog 60 #[.int .i64 ((y + 2 : Nat) : Int)] q.out fun e w' => e = .returned (.string (Mark.mt (y + 2))) ∧ Below q.out.heap.size q.out w') := fun q => Mark.markText_any (y + 2) _ (by omega) (by omega)
      go_wp2
      have ez : (y : Int) + 1 + 1 = ((y + 2 : Nat) : Int) := by omega
      rw [ez]
      clear ez
      have HY2 : Hid (k + sumA (rs.take (j + 1)) = y + 2 + 1) := HY.out
      have hvb : y + 2 ≤ 9000002 := by omega
      generalize hv : y + 2 = v at x0 hd HT HY2 hvb ⊢
      clear hv hyb p1 p2
      refine wp_over (z := w1) (by kernel_rfl) (by kernel_rfl) (Below.refl _ _) ?_
      repeat (go_big_quiet_step (first | (go_at_call 60; exact call_over (HT _).out)))
      refine wpQuiet_nil ?_
      intro w2 hw2
      have HB2 : Hid (Below w.heap.size w w2) := grow_on HB1.out (over_bel hw2)
      clear hw2 hne x0 hd HT
      go_wp2
      go_roundw
      case rel => exact ⟨j + 1, by omega, by go_num, by rw [HY2.out]; go_num, HB2.out⟩
      case measure => simp [intOf]; omega
    · have hge : ¬ (j : Int) < (rs.length : Int) := by omega
      have HE : Hid (sumA (rs.take j) = sumA rs) := sumA_all (by omega)
      go_wp2
      go_ret
      exact ⟨Mark.retI (by have := HE.out; omega), HB.out⟩
end Go.Proofs.Ytgncimlojbnbfaa.ChnK
