/-
  PROVED: the marks that markAlarmS writes over a row of alarms and heldAlarmS finds; the copy that toAlarmS makes, as a row.
-/
import Derived.Test.YtgncimlojbnbfaaLst
import Derived.Test.YtgncimlojbnbfaaAlmK
namespace Go.Proofs.Ytgncimlojbnbfaa.ChnK
open Go.RowKit
open Go.Proofs.Ytgncimlojbnbfaa.Labs Go.Proofs.Ytgncimlojbnbfaa.LabS Go.Proofs.Ytgncimlojbnbfaa.Alms Go.Proofs.Ytgncimlojbnbfaa.AlmM Go.Proofs.Ytgncimlojbnbfaa.Over Go.Proofs.Ytgncimlojbnbfaa.Blk Go.Proofs.Ytgncimlojbnbfaa.App Go.Proofs.Ytgncimlojbnbfaa.Rws
open Go.Proofs.Ytgncimlojbnbfaa.AlmS Go.Proofs.Ytgncimlojbnbfaa.ChnI Go.Proofs.Ytgncimlojbnbfaa.ChnC Go.Proofs.Ytgncimlojbnbfaa.ChnP
open Go.Proofs.Ytgncimlojbnbfaa.Mark (Apart Marked)
open Go.Proofs.Ytgncimlojbnbfaa.StrB (retB)
open Go.Proofs.Ytgncimlojbnbfaa.Alm (at_par)
open Go.Proofs.Ytgncimlojbnbfaa.LabT (Held held_reads)
set_option linter.unusedVariables false
/-- what was there is as it was, but for the blocks of S -/
structure Only (S : Nat → Prop) (w w' : World) : Prop where
  os : w'.os = w.os
  tape : w'.tape = w.tape
  output : w'.output = w.output
  size : w.heap.size ≤ w'.heap.size
  block : ∀ k, k < w.heap.size → ¬ S k → w'.heap[k]? = w.heap[k]?
theorem Only.refl (S : Nat → Prop) (w : World) : Only S w w := ⟨rfl, rfl, rfl, Nat.le_refl _, fun _ _ _ => rfl⟩
theorem Only.trans {S : Nat → Prop} {a b c : World} (h : Only S a b) (k : Only S b c) : Only S a c :=
  ⟨k.os.trans h.os, k.tape.trans h.tape, k.output.trans h.output, Nat.le_trans h.size k.size, fun i hi hM => (k.block i (Nat.lt_of_lt_of_le hi h.size) hM).trans (h.block i hi hM)⟩
theorem Only.of {S : Nat → Prop} {w w' : World} (h : Below w.heap.size w w') : Only S w w' := ⟨h.os, h.tape, h.output, h.size, fun k hk _ => h.block k hk⟩
theorem Only.below {S : Nat → Prop} {a b c : World} (h : Only S a b) (k : Below b.heap.size b c) : Only S a c := h.trans (Only.of k)
theorem Only.ahead {S : Nat → Prop} {a b c : World} (h : Below a.heap.size a b) (k : Only S b c) : Only S a c := (Only.of h).trans k
theorem Only.apart {S : Nat → Prop} {M : Nat} {w w' : World} (h : Apart M w w') (hM : S M) : Only S w w' := ⟨h.os, h.tape, h.output, h.size, fun k hk hn => h.block k hk (fun e => hn (by rw [e]; exact hM))⟩
theorem Only.set {S : Nat → Prop} {M : Nat} {a w : World} (h : Only S a w) (hM : S M) (i : Nat) (v : Value) : Only S a (w.setCell ⟨M, i, none⟩ v) :=
  h.trans (Only.apart ((Apart.refl M w).setCell i v) hM)
theorem Only.low {S : Nat → Prop} {B : Nat} {w w' : World} (h : Only S w w') (hB : ∀ k, S k → B ≤ k) (hw : B ≤ w.heap.size) : Below B w w' :=
  ⟨h.os, h.tape, h.output, h.size, fun k hk => h.block k (by omega) (fun hs => by have := hB k hs; omega)⟩
theorem Only.blk {S : Nat → Prop} {N : Nat} {w w' : World} {cs : Array Value} {T : TypeId} (h : Only S w w') (hb : Blk w N cs T) (hn : ¬ S N) : Blk w' N cs T := by
  have hlt := hb.lt
  unfold Blk at *
  rw [h.block N hlt hn]; exact hb
/-- the blocks of a row of alarms -/
def blks (M : Nat) (rs : List ARow) (k : Nat) : Prop := k = M ∨ ∃ x ∈ rs, x.1 = k
theorem blks_low {lo : Nat} {w : World} {M c : Nat} {rs : List ARow} (h : AB lo w M c rs) (k : Nat) (hk : blks M rs k) : lo ≤ k := by
  rcases hk with rfl | ⟨x, hx, rfl⟩
  · exact h.at'
  · exact (h.rows x hx).1
theorem blks_high {lo : Nat} {w : World} {M c : Nat} {rs : List ARow} (h : AB lo w M c rs) (k : Nat) (hk : blks M rs k) : k < w.heap.size := by
  rcases hk with rfl | ⟨x, hx, rfl⟩
  · exact h.lt
  · exact (h.rows x hx).lt
theorem ab_only {S : Nat → Prop} {lo : Nat} {w w' : World} {M c : Nat} {rs : List ARow} (h : AB lo w M c rs) (ho : Only S w w') (hn : ∀ k, blks M rs k → ¬ S k) : AB lo w' M c rs := by
  obtain ⟨cur, h1, h2⟩ := h.outer
  exact ⟨h.at', h.cap, ⟨cur, ho.blk h1 (hn _ (.inl rfl)), h2⟩, fun x hx => by
    obtain ⟨k0, k1, ds, k2, k3⟩ := h.rows x hx
    exact ⟨k0, k1, ds, ho.blk k2 (hn _ (.inr ⟨x, hx, rfl⟩)), k3⟩, h.ne⟩

/-- how many marks they take, together -/
def sumA : List ARow → Nat
  | [] => 0
  | x :: rs => 2 * x.2.2.l.length + 3 + sumA rs
theorem sumA_app (p q : List ARow) : sumA (p ++ q) = sumA p + sumA q := by
  induction p with
  | nil => simp [sumA]
  | cons x p ih => rw [List.cons_append, sumA, ih, sumA]; omega
theorem takeA_up {rs : List ARow} {k : Nat} (h : k < rs.length) : rs.take (k + 1) = rs.take k ++ [nthA rs k] := by
  rw [nthA_eq h, List.take_succ_eq_append_getElem h]
theorem sumA_up {rs : List ARow} {k : Nat} (h : k < rs.length) : sumA (rs.take (k + 1)) = sumA (rs.take k) + 2 * (nthA rs k).2.2.l.length + 3 := by
  rw [takeA_up h, sumA_app]; simp [sumA]; omega
theorem sumA_all {rs : List ARow} {k : Nat} (h : rs.length ≤ k) : sumA (rs.take k) = sumA rs := by rw [List.take_of_length_le h]
theorem sumA_le (rs : List ARow) (k : Nat) : sumA (rs.take k) ≤ sumA rs := by
  have := sumA_app (rs.take k) (rs.drop k)
  rw [List.take_append_drop] at this
  omega
theorem sumA_pals (rs : List ARow) : sumA rs = 2 * sumL (pals rs) + 3 * rs.length := by
  induction rs with
  | nil => rfl
  | cons x rs ih => rw [sumA, ih]; show _ = 2 * (x.2.2.l.length + sumL (pals rs)) + 3 * (rs.length + 1); omega

theorem inc_ne {rs : List ARow} (h : rs.Pairwise fun x y => x.1 ≠ y.1) {i j : Nat} (hi : i < rs.length) (hj : j < rs.length) (hne : i ≠ j) : (nthA rs i).1 ≠ (nthA rs j).1 := by
  rw [List.pairwise_iff_getElem] at h
  rw [nthA_eq hi, nthA_eq hj]
  rcases Nat.lt_or_gt_of_ne hne with hlt | hlt
  · exact h i j hi hj hlt
  · exact fun e => h j i hj hi hlt e.symm
/-- what the i-th one's other cells hold when it is marked -/
def MarkA (cur : Array Value) (i z : Nat) : Prop := cur[i * 4 + 1]? = some (.int .i64 (z : Int)) ∧ cur[i * 4 + 2]? = some (.int .i64 ((z + 1 : Nat) : Int)) ∧ cur[i * 4 + 3]? = some (.string (Mark.mt (z + 2)))
/-- the alarms while they are marked: the first j are -/
structure MA (w : World) (M : Nat) (rs : List ARow) (k j : Nat) : Prop where
  outer : ∃ cur : Array Value, Blk w M cur 48 ∧ rs.length * 4 ≤ cur.size ∧ (∀ i, i < rs.length → cur[i * 4]? = some (.slice (some ⟨(nthA rs i).1, 0, none⟩) (nthA rs i).2.2.l.length (nthA rs i).2.1)) ∧ ∀ i, i < j → MarkA cur i (k + sumA (rs.take i) + 2 * (nthA rs i).2.2.l.length)
  done : ∀ i, i < j → ∃ ds : Array Value, Blk w (nthA rs i).1 ds 73 ∧ Marked ds (k + sumA (rs.take i)) (nthA rs i).2.2.l.length
  todo : ∀ i, j ≤ i → i < rs.length → ∃ ds : Array Value, Blk w (nthA rs i).1 ds 73 ∧ (nthA rs i).2.2.l.length * 2 ≤ ds.size
theorem AB.ma {lo : Nat} {w : World} {M c : Nat} {rs : List ARow} (h : AB lo w M c rs) (k : Nat) : MA w M rs k 0 := by
  obtain ⟨cur, h1, h2, h3⟩ := h.outer
  have hc := h.cap
  exact ⟨⟨cur, h1, by omega, fun i hi => (h3 i hi).1, fun i hi => by omega⟩, fun i hi => by omega, fun i _ hi => by
    obtain ⟨_, _, ds, k2, k3, _⟩ := h.rows _ (nthA_mem hi)
    exact ⟨ds, k2, k3⟩⟩
theorem MA.only {S : Nat → Prop} {w w' : World} {M : Nat} {rs : List ARow} {k : Nat} (h : MA w M rs k rs.length) (ho : Only S w w') (hn : ∀ k, blks M rs k → ¬ S k) : MA w' M rs k rs.length := by
  obtain ⟨cur, h1, h2⟩ := h.outer
  exact ⟨⟨cur, ho.blk h1 (hn _ (.inl rfl)), h2⟩, fun i hi => by
    obtain ⟨ds, h3, h4⟩ := h.done i hi
    exact ⟨ds, ho.blk h3 (hn _ (.inr ⟨_, nthA_mem hi, rfl⟩)), h4⟩, fun i hi hj => by omega⟩
theorem MA.grow {w w' : World} {M : Nat} {rs : List ARow} {k : Nat} (h : MA w M rs k rs.length) (hb : Below w.heap.size w w') : MA w' M rs k rs.length := h.only (S := fun _ => False) (Only.of hb) (fun _ _ h => h)

set_option maxHeartbeats 1600000 in
theorem markS_any (M c k lo cap : Nat) (rs : List ARow) (w : World) (hAB : AB lo w M c rs) (hl : rs.length ≤ 2000000) (hk : 1 ≤ k) (hk2 : k + sumA rs ≤ 9000000) :
    Calls Try.prog 59 #[.slice (some ⟨M, 0, none⟩) rs.length cap, .int .i64 k] w fun e w' => e = .returned (.int .i64 ((k + sumA rs : Nat) : Int)) ∧ MA w' M rs k rs.length ∧ Only (blks M rs) w w' := by
  have HM : Hid (MA w M rs k 0) := AB.ma hAB k
  have HN : Hid ((rs.Pairwise fun x y => x.1 ≠ y.1) ∧ k + sumA rs ≤ 9000000 ∧ ∀ x ∈ rs, x.2.2.l.length ≤ 1048576) := ⟨hAB.ne, hk2, fun x hx => (hAB.rows x hx).2.1⟩
  clear hAB hk2
  go_enter Try.func59, Try.ntmps59
  go_wp2
  go_loopw [1, 5] (fun x i w' => ∃ j : Nat, j ≤ rs.length ∧ i = .int .i64 j ∧ x = .int .i64 ((k + sumA (rs.take j) : Nat) : Int) ∧ MA w' M rs k j ∧ Only (blks M rs) w w') (fun _ i _ => rs.length - (intOf i).toNat)
  case atStart => exact ⟨0, Nat.zero_le _, rfl, rfl, HM.out, Only.refl _ _⟩
  case round =>
    obtain ⟨j, hj, rfl, rfl, hm, ha⟩ := hrel
    have HM1 : Hid (MA wr M rs k j) := hm
    have HA : Hid (Only (blks M rs) w wr) := ha
    clear hm ha
    by_cases hlt : j < rs.length
    · have hlt' : (j : Int) < (rs.length : Int) := by omega
      have HU : Hid (k + sumA (rs.take (j + 1)) = k + sumA (rs.take j) + 2 * (nthA rs j).2.2.l.length + 3) := by have := sumA_up hlt; show _ = _; omega
      have hzb : k + sumA (rs.take (j + 1)) ≤ 9000000 := by have := sumA_le rs (j + 1); have := HN.out.2.1; omega
      obtain ⟨cur, ho, hos, hc, hdn⟩ := HM1.out.outer
      have c0 : wr.cell? ⟨M, j * 4, none⟩ = some (.slice (some ⟨(nthA rs j).1, 0, none⟩) (nthA rs j).2.2.l.length (nthA rs j).2.1) := (ho.cell _).trans (hc j hlt)
      obtain ⟨ds, hd, hds⟩ := HM1.out.todo j (Nat.le_refl _) hlt
      have hlen : (nthA rs j).2.2.l.length ≤ 1048576 := HN.out.2.2 _ (nthA_mem hlt)
      have HO : Hid (Blk wr M cur 48 ∧ rs.length * 4 ≤ cur.size ∧ (∀ i, i < rs.length → cur[i * 4]? = some (.slice (some ⟨(nthA rs i).1, 0, none⟩) (nthA rs i).2.2.l.length (nthA rs i).2.1)) ∧ ∀ i, i < j → MarkA cur i (k + sumA (rs.take i) + 2 * (nthA rs i).2.2.l.length)) := ⟨ho, hos, hc, hdn⟩
      generalize hz : k + sumA (rs.take j) = z at *
      have HZ : Hid (k + sumA (rs.take j) = z) := hz
      have hz1 : 1 ≤ z := by omega
      have hz2 : z ≤ 9000000 := by have := HU.out; omega
      have HC : Hid (Calls Try.prog 58 #[.slice (some ⟨(nthA rs j).1, 0, none⟩) (nthA rs j).2.2.l.length (nthA rs j).2.1, .int .i64 (z : Int)] wr fun e w' => e = .returned (.int .i64 ((z + 2 * (nthA rs j).2.2.l.length : Nat) : Int)) ∧ (∃ cs' : Array Value, Blk w' (nthA rs j).1 cs' 73 ∧ cs'.size = ds.size ∧ Marked cs' z (nthA rs j).2.2.l.length) ∧ Apart (nthA rs j).1 wr w') := Mark.mark_any (nthA rs j).1 _ _ z ds wr hd hds hlen hz1 (by omega)
      have HD : Hid (M ≠ (nthA rs j).1) := blkA_ne ho hd
      clear ho hos hc hdn hd hds hz hlen
      go_wp2_with fail
      refine HC.out.mono ?_
      rintro e w1 ⟨rfl, ⟨ds1, hd1, _, hmk⟩, ha1⟩
      have hK1 : Blk w1 M cur 48 := ha1.blk HO.out.1 HD.out
      have HK1 : Hid (Blk w1 M cur 48) := hK1
      have HD1 : Hid (Blk w1 (nthA rs j).1 ds1 73 ∧ Marked ds1 z (nthA rs j).2.2.l.length) := ⟨hd1, hmk⟩
      have HAp : Hid (Apart (nthA rs j).1 wr w1) := ha1
      have hsz := HO.out.2.1
      obtain ⟨v1, p1⟩ : ∃ v, w1.cell? ⟨M, j * 4 + 1, none⟩ = some v := ⟨cur[j * 4 + 1]'(by omega), by rw [hK1.cell]; simp⟩
      obtain ⟨v2, p2⟩ : ∃ v, w1.cell? ⟨M, j * 4 + 2, none⟩ = some v := ⟨cur[j * 4 + 2]'(by omega), by rw [hK1.cell]; simp⟩
      have f1 := hK1.frozen (j * 4 + 1)
      have f2 := hK1.frozen (j * 4 + 2)
      clear hd1 hmk ha1 hK1 hsz c0 HC
      generalize hy : z + 2 * (nthA rs j).2.2.l.length = y
      have HY : Hid (z + 2 * (nthA rs j).2.2.l.length = y) := hy
      have hyb : y ≤ 9000000 := by have := HU.out; omega
      clear hy
      go_wp2_with fail
      have ez : (y : Int) + 1 + 1 = ((y + 2 : Nat) : Int) := by omega
      have ey : (y : Int) + 1 = ((y + 1 : Nat) : Int) := by omega
      rw [ez, ey]
      generalize hW : (w1.setCell ⟨M, j * 4 + 1, none⟩ (.int .i64 y)).setCell ⟨M, j * 4 + 2, none⟩ (.int .i64 ((y + 1 : Nat) : Int)) = W
      have HKW : Hid (Blk W M ((cur.setIfInBounds (j * 4 + 1) (.int .i64 y)).setIfInBounds (j * 4 + 2) (.int .i64 ((y + 1 : Nat) : Int))) 48) := by rw [← hW]; exact (HK1.out.set _ _).set _ _
      have HLW : Hid (∀ {g : Nat} {es : Array Value}, Blk w1 g es 73 → Blk W g es 73) := fun h => by rw [← hW]; exact (h.set_other (blkA_ne HK1.out h) _).set_other (blkA_ne HK1.out h) _
      have HAW : Hid (Only (blks M rs) w W) := by rw [← hW]; exact ((HA.out.trans (Only.apart HAp.out (.inr ⟨_, nthA_mem hlt, rfl⟩))).set (.inl rfl) _ _).set (.inl rfl) _ _
      clear hW p1 p2 f1 f2 ez ey
      refine (Mark.markText_any (y + 2) _ (by omega) (by omega)).mono ?_
      rintro e w2 ⟨rfl, hb2⟩
      have hK2 := HKW.out.grow hb2
      have HK2 : Hid (Blk w2 M ((cur.setIfInBounds (j * 4 + 1) (.int .i64 y)).setIfInBounds (j * 4 + 2) (.int .i64 ((y + 1 : Nat) : Int))) 48) := hK2
      have HL2 : Hid (∀ {g : Nat} {es : Array Value}, Blk w1 g es 73 → Blk w2 g es 73) := fun h => (HLW.out h).grow hb2
      have HA2 : Hid (Only (blks M rs) w w2) := HAW.out.below hb2
      have hsz := HO.out.2.1
      obtain ⟨v3, p3⟩ : ∃ v, w2.cell? ⟨M, j * 4 + 3, none⟩ = some v := ⟨((cur.setIfInBounds (j * 4 + 1) (.int .i64 y)).setIfInBounds (j * 4 + 2) (.int .i64 ((y + 1 : Nat) : Int)))[j * 4 + 3]'(by simp; omega), by rw [hK2.cell]; exact Array.getElem?_eq_getElem _⟩
      have f3 := hK2.frozen (j * 4 + 3)
      have HE : Hid (MA (w2.setCell ⟨M, j * 4 + 3, none⟩ (.string (Mark.mt (y + 2)))) M rs k (j + 1)) := by
        refine ⟨⟨_, HK2.out.set _ _, by simp; exact hsz, fun i hi => ?_, fun i hi => ?_⟩, fun i hi => ?_, fun i hi hl => ?_⟩
        · rw [set_ne (by omega), set_ne (by omega), set_ne (by omega)]; exact HO.out.2.2.1 i hi
        · by_cases e : i = j
          · subst e
            rw [HZ.out, HY.out]
            exact ⟨by rw [set_ne (by omega), set_ne (by omega), set_at (by omega)], by rw [set_ne (by omega), set_at (by simp; omega)], by rw [set_at (by simp; omega)]⟩
          · obtain ⟨q1, q2, q3⟩ := HO.out.2.2.2 i (by omega)
            exact ⟨by rw [set_ne (by omega), set_ne (by omega), set_ne (by omega)]; exact q1, by rw [set_ne (by omega), set_ne (by omega), set_ne (by omega)]; exact q2, by rw [set_ne (by omega), set_ne (by omega), set_ne (by omega)]; exact q3⟩
        · by_cases e : i = j
          · subst e
            rw [HZ.out]
            exact ⟨ds1, (HL2.out HD1.out.1).set_other (blkA_ne HK2.out (HL2.out HD1.out.1)) _, HD1.out.2⟩
          · obtain ⟨es, q1, q2⟩ := HM1.out.done i (by omega)
            have q3 := HL2.out (HAp.out.blk q1 (inc_ne HN.out.1 (by omega) hlt e))
            exact ⟨es, q3.set_other (blkA_ne HK2.out q3) _, q2⟩
        · obtain ⟨es, q1, q2⟩ := HM1.out.todo i (by omega) hl
          have q3 := HL2.out (HAp.out.blk q1 (inc_ne HN.out.1 hl hlt (by omega)))
          exact ⟨es, q3.set_other (blkA_ne HK2.out q3) _, q2⟩
      have HF : Hid (k + sumA (rs.take (j + 1)) = y + 3) := by have := HU.out; have := HY.out; show _ = _; omega
      clear hb2 hK2 hsz
      go_wp2
      go_roundw
      case rel => exact ⟨j + 1, by omega, by go_num, by rw [HF.out]; go_num, HE.out, HA2.out.set (.inl rfl) _ _⟩
      case measure => simp [intOf]; omega
    · have hge : ¬ (j : Int) < (rs.length : Int) := by omega
      have HE : Hid (j = rs.length ∧ sumA (rs.take j) = sumA rs) := ⟨by omega, sumA_all (by omega)⟩
      go_wp2
      go_ret
      exact ⟨Mark.retI (by have := HE.out.2; omega), by have := HM1.out; rwa [HE.out.1] at this, HA.out⟩

set_option maxHeartbeats 1600000 in
theorem heldS_any (M k cap : Nat) (rs : List ARow) (w : World) (hM : MA w M rs k rs.length) (hll : ∀ x ∈ rs, x.2.2.l.length ≤ 1048576) (hl : rs.length ≤ 2000000) (hk : 1 ≤ k) (hk2 : k + sumA rs ≤ 9000000) :
    Calls Try.prog 62 #[.slice (some ⟨M, 0, none⟩) rs.length cap, .int .i64 k] w fun e w' => e = .returned (.int .i64 ((k + sumA rs : Nat) : Int)) ∧ Below w.heap.size w w' := by
  have HS : Hid (k + sumA rs ≤ 9000000 ∧ ∀ x ∈ rs, x.2.2.l.length ≤ 1048576) := ⟨hk2, hll⟩
  have HM : Hid (MA w M rs k rs.length) := hM
  clear hM hll hk2
  go_enter Try.func62, Try.ntmps62
  go_wp2
  go_loopw [1, 5] (fun x i w' => ∃ j : Nat, j ≤ rs.length ∧ i = .int .i64 j ∧ x = .int .i64 ((k + sumA (rs.take j) : Nat) : Int) ∧ Below w.heap.size w w') (fun _ i _ => rs.length - (intOf i).toNat)
  case atStart => exact ⟨0, Nat.zero_le _, rfl, rfl, Below.refl _ _⟩
  case round =>
    obtain ⟨j, hj, rfl, rfl, hb⟩ := hrel
    have HB : Hid (Below w.heap.size w wr) := hb
    have HM1 : Hid (MA wr M rs k rs.length) := HM.out.grow hb
    clear hb
    by_cases hlt : j < rs.length
    · have hlt' : (j : Int) < (rs.length : Int) := by omega
      have HU : Hid (k + sumA (rs.take (j + 1)) = k + sumA (rs.take j) + 2 * (nthA rs j).2.2.l.length + 3) := by have := sumA_up hlt; show _ = _; omega
      have hzb : k + sumA (rs.take (j + 1)) ≤ 9000000 := by have := sumA_le rs (j + 1); have := HS.out.1; omega
      obtain ⟨cur, ho, hos, hc, hdn⟩ := HM1.out.outer
      obtain ⟨g1, g2, g3⟩ := hdn j hlt
      have c0 : wr.cell? ⟨M, j * 4, none⟩ = some (.slice (some ⟨(nthA rs j).1, 0, none⟩) (nthA rs j).2.2.l.length (nthA rs j).2.1) := (ho.cell _).trans (hc j hlt)
      obtain ⟨ds, hd, hds⟩ := HM1.out.done j hlt
      have hlen : (nthA rs j).2.2.l.length ≤ 1048576 := HS.out.2 _ (nthA_mem hlt)
      have HO : Hid (Blk wr M cur 48) := ho
      generalize hz : k + sumA (rs.take j) = z at *
      have hz1 : 1 ≤ z := by omega
      have hz2 : z ≤ 9000000 := by have := HU.out; omega
      have HC : Hid (Calls Try.prog 61 #[.slice (some ⟨(nthA rs j).1, 0, none⟩) (nthA rs j).2.2.l.length (nthA rs j).2.1, .int .i64 (z : Int)] wr fun e w' => e = .returned (.int .i64 ((z + 2 * (nthA rs j).2.2.l.length : Nat) : Int)) ∧ Below wr.heap.size wr w') := Mark.held_any (nthA rs j).1 _ _ z ds wr hd hds hlen hz1 (by omega)
      clear ho hos hc hdn hd hds hz hlen
      go_wp2_with fail
      refine HC.out.mono ?_
      rintro e w1 ⟨rfl, hb1⟩
      have HB1 : Hid (Below w.heap.size w w1) := grow_on HB.out hb1
      have hK1 : Blk w1 M cur 48 := HO.out.grow hb1
      have HK1 : Hid (Blk w1 M cur 48) := hK1
      generalize hy : z + 2 * (nthA rs j).2.2.l.length = y at *
      have HY : Hid (k + sumA (rs.take (j + 1)) = y + 3) := by have := HU.out; show _ = _; omega
      have hyb : y ≤ 9000000 := by have := HU.out; omega
      have p1 : w1.cell? ⟨M, j * 4 + 1, none⟩ = some (.int .i64 (y : Int)) := (hK1.cell _).trans g1
      have p2 : w1.cell? ⟨M, j * 4 + 2, none⟩ = some (.int .i64 ((y + 1 : Nat) : Int)) := (hK1.cell _).trans g2
      have HG : Hid (cur[j * 4 + 3]? = some (.string (Mark.mt (y + 2)))) := g3
      have hyn : ¬ (y : Int) < 0 := by omega
      clear hb1 hK1 c0 HC g1 g2 g3 hy HU
      have hne := Grown.some w1
      have hMr := HK1.out.lt
      have x0 := fun q : Grown w1 => q.cell (p := ⟨M, j * 4 + 3, none⟩) hMr ((HK1.out.cell _).trans HG.out)
      have hd : ((Mark.mt (y + 2)).toList == (Mark.mt (y + 2)).toList) = true := Labs.beqS_yes rfl
      have HT : ∀ q : Grown w1, Hid (Calls Try.prog 60 #[.int .i64 ((y + 2 : Nat) : Int)] q.out fun e w' => e = .returned (.string (Mark.mt (y + 2))) ∧ Below q.out.heap.size q.out w') := fun q => Mark.markText_any (y + 2) _ (by omega) (by omega)
      go_wp2
      have ez : (y : Int) + 1 + 1 = ((y + 2 : Nat) : Int) := by omega
      rw [ez]
      clear ez
      have HY2 : Hid (k + sumA (rs.take (j + 1)) = y + 2 + 1) := HY.out
      have hvb : y + 2 ≤ 9000002 := by omega
      generalize hv : y + 2 = v at x0 hd HT HY2 hvb ⊢
      clear hv hyb p1 p2
      refine wp_over (z := w1) (by kernel_rfl) (by kernel_rfl) (Below.refl _ _) ?_
      repeat (go_big_quiet_step (first | (go_at_call 60; exact call_over (HT _).out)))
      refine wpQuiet_nil ?_
      intro w2 hw2
      have HB2 : Hid (Below w.heap.size w w2) := grow_on HB1.out (over_bel hw2)
      clear hw2 hne x0 hd HT
      go_wp2
      go_roundw
      case rel => exact ⟨j + 1, by omega, by go_num, by rw [HY2.out]; go_num, HB2.out⟩
      case measure => simp [intOf]; omega
    · have hge : ¬ (j : Int) < (rs.length : Int) := by omega
      have HE : Hid (sumA (rs.take j) = sumA rs) := sumA_all (by omega)
      go_wp2
      go_ret
      exact ⟨Mark.retI (by have := HE.out; omega), HB.out⟩

/-- the copy that toAlarmS makes, as a row -/
theorem copy_ab {M lo : Nat} {w : World} {P : List PAl} {cs : Array Value} {g : Nat → Nat} (h : CopyA M w P P.length cs g) (hlo : lo ≤ M) (hl : P.length ≤ 1048576) (hs : LenM P) : ∃ rs, AB lo w M P.length rs ∧ pals rs = P := by
  have hlen : ((List.range P.length).map fun i => ((g i, (nthP P i).l.length, nthP P i) : ARow)).length = P.length := by simp
  have hn : ∀ i, i < P.length → nthA ((List.range P.length).map fun i => ((g i, (nthP P i).l.length, nthP P i) : ARow)) i = (g i, (nthP P i).l.length, nthP P i) := fun i hi => by rw [nthA_eq (by simpa using hi)]; simp
  refine ⟨(List.range P.length).map fun i => (g i, (nthP P i).l.length, nthP P i), ⟨hlo, ⟨by rw [hlen]; exact Nat.le_refl _, by unfold maxLen; omega⟩, ⟨cs, h.blk, h.size, fun i hi => ?_⟩, fun x hx => ?_, ?_⟩, ?_⟩
  · rw [hlen] at hi
    rw [hn i hi]
    exact h.cell i hi
  · obtain ⟨i, hi, rfl⟩ := List.mem_map.1 hx
    have hi' : i < P.length := by simpa using hi
    obtain ⟨h0, ds, h1, h2, h3⟩ := h.own i hi'
    exact ⟨by show lo ≤ g i; omega, hs i hi', ds, h1, Nat.le_of_eq h2.symm, h3⟩
  · rw [List.pairwise_iff_getElem]
    intro i j hi hj hij
    simp only [List.getElem_map, List.getElem_range]
    have := h.inc i j hij (by simpa using hj)
    omega
  · apply List.ext_getElem
    · simp [pals]
    · intro i h1 h2
      simp only [pals, List.getElem_map, List.getElem_range]
      exact nthP_eq h2
theorem fits_mem {P : List PAl} (h : FitsP P) {x : PAl} (hx : x ∈ P) : FitA x := by
  obtain ⟨i, hi, rfl⟩ := List.getElem_of_mem hx
  have := h i hi
  rwa [nthP_eq hi] at this
theorem fits_of {P : List PAl} (h : ∀ x ∈ P, FitA x) : FitsP P := fun i hi => by rw [nthP_eq hi]; exact h _ (List.getElem_mem _)
theorem len_max {n : Nat} (h : n ≤ 1048577) : n ≤ maxLen := by unfold maxLen; omega
end Go.Proofs.Ytgncimlojbnbfaa.ChnK
