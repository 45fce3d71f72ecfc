/-
  PROVED: the contracts of what FnExactKeys calls over slices of keys: that eqLabelSS finds two of the same alike, that the marks of markLabelSS lie in the keys' own memory alone, and that heldLabelSS finds them there.
-/
import Derived.Test.YtmachabgnbpeaaaKys
namespace Go.Proofs.Ytmachabgnbpeaaa.Kys
open Go.RowKit
open Go.Proofs.Ytmachabgnbpeaaa.Labs Go.Proofs.Ytmachabgnbpeaaa.LabS Go.Proofs.Ytmachabgnbpeaaa.Pro Go.Proofs.Ytmachabgnbpeaaa.Over Go.Proofs.Ytmachabgnbpeaaa.Blk Go.Proofs.Ytmachabgnbpeaaa.App
open Go.Proofs.Ytmachabgnbpeaaa.Alms (PAl nthP RdA FitsP sumL takeP_up sum_up sum_nth sum_le sum_all Aside)
open Go.Proofs.Ytmachabgnbpeaaa.StrB (retB drew_more)
open Go.Proofs.Ytmachabgnbpeaaa.LabT (Held held_reads)
open Go.Proofs.Ytmachabgnbpeaaa.Mark (mark_any held_any Apart Marked retI)
set_option linter.unusedVariables false

/-- the keys, all of whose memory lies from lo up to hi -/
structure InK (lo hi : Nat) (w : World) (g : Nat) (rs : List Row) : Prop where
  at' : lo ≤ g ∧ g < hi
  outer : ∃ cur : Array Value, Blk w g cur 30 ∧ ∀ i, i < rs.length → cur[i]? = some (keyV (nthR rs i))
  keys : ∀ x ∈ rs, OwnK lo w x ∧ x.1 < hi
  inc : rs.Pairwise fun x y => x.1 < y.1
theorem KSt.inK {w wr : World} {g n c : Nat} {rs : List Row} (h : KSt w wr (.slice (some ⟨g, 0, none⟩) n c) rs) : InK w.heap.size wr.heap.size wr g rs := by
  obtain ⟨h0, cur, h1, _, h2⟩ := h.outer
  exact ⟨⟨h0, h1.lt⟩, ⟨cur, h1, h2⟩, fun x hx => ⟨h.keys x hx, (h.keys x hx).lt⟩, h.inc⟩
theorem InK.grow {lo hi : Nat} {w w' : World} {g : Nat} {rs : List Row} (h : InK lo hi w g rs) (hb : Below w.heap.size w w') : InK lo hi w' g rs := by
  obtain ⟨cur, h1, h2⟩ := h.outer
  exact ⟨h.at', ⟨cur, h1.grow hb, h2⟩, fun x hx => ⟨(h.keys x hx).1.grow hb, (h.keys x hx).2⟩, h.inc⟩
theorem InK.aside {lo hi lo' hi' : Nat} {w w' : World} {g : Nat} {rs : List Row} (h : InK lo hi w g rs) (ha : Aside lo' hi' w w') (hd : hi ≤ lo' ∨ hi' ≤ lo) : InK lo hi w' g rs := by
  obtain ⟨cur, h1, h2⟩ := h.outer
  have h0 := h.at'
  refine ⟨h.at', ⟨cur, ha.blk h1 (by omega), h2⟩, fun x hx => ?_, h.inc⟩
  obtain ⟨⟨k0, k1, ds, k2, k3⟩, k4⟩ := h.keys x hx
  exact ⟨⟨k0, k1, ds, ha.blk k2 (by omega), k3⟩, k4⟩
theorem InK.rd {lo hi : Nat} {w : World} {g : Nat} {rs : List Row} (h : InK lo hi w g rs) : RdK w g rs := by
  obtain ⟨cur, h1, h2⟩ := h.outer
  exact ⟨h1.lt, fun i hi => (h1.cell i).trans (h2 i hi), fun i hi => (h.keys _ (nthR_mem hi)).1.reads, fun i hi => len_max (h.keys _ (nthR_mem hi)).1.2.1⟩
theorem inc_ne {rs : List Row} (h : rs.Pairwise fun x y => x.1 < y.1) {i j : Nat} (hi : i < rs.length) (hj : j < rs.length) (hne : i ≠ j) : (nthR rs i).1 ≠ (nthR rs j).1 := by
  rw [List.pairwise_iff_getElem] at h
  rw [nthR_eq hi, nthR_eq hj]
  rcases Nat.lt_or_gt_of_ne hne with hlt | hlt
  · have := h i j hi hj hlt; omega
  · have := h j i hj hi hlt; omega

/-- how many labels the keys have, together -/
def sumK : List Row → Nat
  | [] => 0
  | x :: rs => x.2.2.length + sumK rs
def sumLL : List (List Lab) → Nat
  | [] => 0
  | x :: ks => x.length + sumLL ks
theorem sumK_labs (rs : List Row) : sumK rs = sumLL (labs rs) := by
  induction rs with
  | nil => rfl
  | cons x rs ih => rw [sumK, ih]; rfl
theorem sumLL_app (p q : List (List Lab)) : sumLL (p ++ q) = sumLL p + sumLL q := by
  induction p with
  | nil => simp [sumLL]
  | cons x p ih => rw [List.cons_append, sumLL, ih, sumLL]; omega
theorem sumK_app (p q : List Row) : sumK (p ++ q) = sumK p + sumK q := by rw [sumK_labs, sumK_labs, sumK_labs]; unfold labs; rw [List.map_append, sumLL_app]
theorem takeR_up {rs : List Row} {k : Nat} (h : k < rs.length) : rs.take (k + 1) = rs.take k ++ [nthR rs k] := by
  rw [nthR_eq h, List.take_succ_eq_append_getElem h]
theorem sumR_up {rs : List Row} {k : Nat} (h : k < rs.length) : sumK (rs.take (k + 1)) = sumK (rs.take k) + (nthR rs k).2.2.length := by
  rw [takeR_up h, sumK_app]; simp [sumK]
theorem sumR_all {rs : List Row} {k : Nat} (h : rs.length ≤ k) : sumK (rs.take k) = sumK rs := by rw [List.take_of_length_le h]
theorem sumR_le (rs : List Row) (k : Nat) : sumK (rs.take k) ≤ sumK rs := by
  have := sumK_app (rs.take k) (rs.drop k)
  rw [List.take_append_drop] at this
  omega
theorem add_sum (ks : List (List Lab)) (k : List Lab) : sumLL (addK ks k) ≤ sumLL ks + k.length := by
  unfold addK
  split
  · omega
  · rw [sumLL_app]; simp [sumLL]
theorem keysTo_sum {P : List PAl} {by' : List ByteArray} : ∀ {k : Nat}, k ≤ P.length → sumLL (keysTo P by' k) ≤ sumL (P.take k)
  | 0, _ => by simp [keys_zero, sumLL]
  | k + 1, h => by
    rw [keys_up (by omega), sum_up (by omega)]
    have h1 := add_sum (keysTo P by' k) (projB (nthP P k).l by')
    have h2 := keysTo_sum (P := P) (by' := by') (k := k) (by omega)
    have h3 := proj_len (nthP P k).l by'
    omega
theorem rows_sum {P : List PAl} {by' : List ByteArray} {rs : List Row} (h : labs rs = keysB P by') : sumK rs ≤ sumL P := by
  rw [sumK_labs, h, ← keys_all (Nat.le_refl P.length)]
  exact Nat.le_trans (keysTo_sum (Nat.le_refl _)) (sum_le P _)
theorem rows_len {P : List PAl} {by' : List ByteArray} {rs : List Row} (h : labs rs = keysB P by') : rs.length ≤ P.length := by
  rw [← labs_len, h, ← keys_all (Nat.le_refl P.length)]
  exact keys_len (Nat.le_refl _)

theorem labs_nth {rs rs' : List Row} (h : labs rs = labs rs') {i : Nat} (hi : i < rs.length) : (nthR rs i).2.2 = (nthR rs' i).2.2 := by
  have hl : rs.length = rs'.length := by rw [← labs_len, ← labs_len, h]
  have h1 : (labs rs)[i]? = (labs rs')[i]? := by rw [h]
  unfold labs at h1
  rw [List.getElem?_map, List.getElem?_map, List.getElem?_eq_getElem hi, List.getElem?_eq_getElem (by omega)] at h1
  rw [nthR_eq hi, nthR_eq (by omega)]
  simpa using h1
set_option maxHeartbeats 800000 in
theorem eqSS_any (g g' c c' : Nat) (rs rs' : List Row) (w : World) (hr : RdK w g rs) (hr' : RdK w g' rs') (he : labs rs = labs rs') (hl : rs.length ≤ maxLen) :
    Calls Try.prog 41 #[.slice (some ⟨g, 0, none⟩) rs.length c, .slice (some ⟨g', 0, none⟩) rs'.length c'] w fun e w' => e = .returned (.bool true) ∧ Below w.heap.size w w' := by
  have hlen : rs'.length = rs.length := by rw [← labs_len, ← labs_len, he]
  rw [hlen]
  unfold maxLen at hl
  have HL : Hid (rs'.length = rs.length) := hlen
  have HE : Hid (labs rs = labs rs') := he
  have HR : Hid (RdK w g rs) := hr
  have HR' : Hid (RdK w g' rs') := hr'
  clear hr hr' hlen he
  go_enter Try.func41, Try.ntmps41
  go_wp2
  go_loopw [5] (fun i w' => ∃ k : Nat, i = .int .i64 k ∧ k ≤ rs.length ∧ Below w.heap.size w w') (fun i _ => rs.length - (intOf i).toNat)
  case atStart => exact ⟨0, rfl, Nat.zero_le _, Below.refl _ _⟩
  case round =>
    obtain ⟨k, rfl, hk, hw0⟩ := hrel
    have HB : Hid (Below w.heap.size w wr) := hw0
    clear hw0
    by_cases hlt : k < rs.length
    · have hlt' : (k : Int) < (rs.length : Int) := by omega
      have hlt2 : k < rs'.length := by rw [HL.out]; exact hlt
      have h1 := HR.out.below HB.out
      have h2 := HR'.out.below HB.out
      have hne := Grown.some wr
      have x0 : ∀ x : Grown wr, x.out.cell? ⟨g, k, none⟩ = some (.slice (some ⟨(nthR rs k).1, 0, none⟩) (nthR rs k).2.2.length (nthR rs k).2.1) := fun x => x.cell h1.lt (h1.cell k hlt)
      have x1 : ∀ x : Grown wr, x.out.cell? ⟨g', k, none⟩ = some (.slice (some ⟨(nthR rs' k).1, 0, none⟩) (nthR rs' k).2.2.length (nthR rs' k).2.1) := fun x => x.cell h2.lt (h2.cell k hlt2)
      have HC : ∀ x : Grown wr, Hid (Calls Try.prog 31 #[.slice (some ⟨(nthR rs k).1, 0, none⟩) (nthR rs k).2.2.length (nthR rs k).2.1, .slice (some ⟨(nthR rs' k).1, 0, none⟩) (nthR rs' k).2.2.length (nthR rs' k).2.1] x.out fun e w' => e = .returned (.bool true) ∧ Below x.out.heap.size x.out w') := fun x => (LabT.eq_any _ _ _ _ _ _ x.out ((h1.key k hlt).below x.bel) ((h2.key k hlt2).below x.bel) (h1.len k hlt) (h2.len k hlt2)).mono fun e w' h => ⟨h.1.trans (retB (decide_eq_true (labs_nth HE.out hlt))), h.2⟩
      clear h1 h2 hlt2
      go_wp2
      refine wp_over (z := wr) (by kernel_rfl) (by kernel_rfl) (Below.refl _ _) ?_
      repeat (go_big_quiet_step (first | (go_at_call 31; exact call_over (HC _).out)))
      refine wpQuiet_nil ?_
      intro w2 hw2
      have hb2 := over_bel hw2
      have HB2 : Hid (Below w.heap.size w w2) := grow_on HB.out hb2
      clear hw2 hne hb2 x0 x1 HC
      go_wp2
      go_roundw
      case rel => exact ⟨k + 1, by go_num, by omega, HB2.out⟩
      case measure => simp [intOf]; omega
    · have hge : ¬ (k : Int) < (rs.length : Int) := by omega
      go_wp2
      go_ret
      exact ⟨rfl, HB.out⟩

/-- the keys while they are marked: the first j are -/
structure MSt (w : World) (g : Nat) (rs : List Row) (k j : Nat) : Prop where
  outer : ∃ cur : Array Value, Blk w g cur 30 ∧ ∀ i, i < rs.length → cur[i]? = some (keyV (nthR rs i))
  done : ∀ i, i < j → ∃ ds : Array Value, Blk w (nthR rs i).1 ds 78 ∧ Marked ds (k + 2 * sumK (rs.take i)) (nthR rs i).2.2.length
  todo : ∀ i, j ≤ i → i < rs.length → ∃ ds : Array Value, Blk w (nthR rs i).1 ds 78 ∧ (nthR rs i).2.2.length * 2 ≤ ds.size
theorem MSt.grow {w w' : World} {g : Nat} {rs : List Row} {k j : Nat} (h : MSt w g rs k j) (hb : Below w.heap.size w w') : MSt w' g rs k j := by
  obtain ⟨cur, h1, h2⟩ := h.outer
  refine ⟨⟨cur, h1.grow hb, h2⟩, fun i hi => ?_, fun i hi hj => ?_⟩
  · obtain ⟨ds, h3, h4⟩ := h.done i hi
    exact ⟨ds, h3.grow hb, h4⟩
  · obtain ⟨ds, h3, h4⟩ := h.todo i hi hj
    exact ⟨ds, h3.grow hb, h4⟩
theorem MSt.next {w w' : World} {g : Nat} {rs : List Row} {k j : Nat} {ds : Array Value} (h : MSt w g rs k j) (hj : j < rs.length) (hinc : rs.Pairwise fun x y => x.1 < y.1) (ha : Apart (nthR rs j).1 w w')
    (hd : Blk w' (nthR rs j).1 ds 78) (hm : Marked ds (k + 2 * sumK (rs.take j)) (nthR rs j).2.2.length) : MSt w' g rs k (j + 1) := by
  obtain ⟨cur, h1, h2⟩ := h.outer
  obtain ⟨es, h3, _⟩ := h.todo j (Nat.le_refl _) hj
  refine ⟨⟨cur, ha.blk h1 (blk_ne h1 h3), h2⟩, fun i hi => ?_, fun i hi hl => ?_⟩
  · by_cases e : i = j
    · subst e; exact ⟨ds, hd, hm⟩
    · obtain ⟨fs, h4, h5⟩ := h.done i (by omega)
      exact ⟨fs, ha.blk h4 (inc_ne hinc (by omega) hj e), h5⟩
  · obtain ⟨fs, h4, h5⟩ := h.todo i (by omega) hl
    exact ⟨fs, ha.blk h4 (inc_ne hinc hl hj (by omega)), h5⟩

set_option maxHeartbeats 1600000 in
theorem markSS_any (g c k lo hi : Nat) (rs : List Row) (w : World) (hK : InK lo hi w g rs) (hl : rs.length ≤ 1048576) (hs : sumK rs ≤ 1048576) (hk : 1 ≤ k) (hk2 : k ≤ 1000000) :
    Calls Try.prog 44 #[.slice (some ⟨g, 0, none⟩) rs.length c, .int .i64 k] w fun e w' => e = .returned (.int .i64 ((k + 2 * sumK rs : Nat) : Int)) ∧ MSt w' g rs k rs.length ∧ Aside lo hi w w' := by
  have HS : Hid (sumK rs ≤ 1048576) := hs
  have HI : Hid (InK lo hi w g rs) := hK
  have HM : Hid (MSt w g rs k 0) := ⟨hK.outer, fun i hi => by omega, fun i _ hi => by
    obtain ⟨⟨_, _, ds, h1, h2, _⟩, _⟩ := hK.keys _ (nthR_mem hi)
    exact ⟨ds, h1, h2⟩⟩
  clear hK hs
  go_enter Try.func44, Try.ntmps44
  go_wp2
  go_loopw [1, 5] (fun x i w' => ∃ j : Nat, j ≤ rs.length ∧ i = .int .i64 j ∧ x = .int .i64 ((k + 2 * sumK (rs.take j) : Nat) : Int) ∧ MSt w' g rs k j ∧ Aside lo hi w w') (fun _ i _ => rs.length - (intOf i).toNat)
  case atStart => exact ⟨0, Nat.zero_le _, rfl, rfl, HM.out, Aside.refl _ _ _⟩
  case round =>
    obtain ⟨j, hj, rfl, rfl, hm, ha⟩ := hrel
    have HM1 : Hid (MSt wr g rs k j) := hm
    have HA : Hid (Aside lo hi w wr) := ha
    clear hm ha
    by_cases hlt : j < rs.length
    · have hlt' : (j : Int) < (rs.length : Int) := by omega
      have HU : Hid (k + 2 * sumK (rs.take (j + 1)) = k + 2 * sumK (rs.take j) + 2 * (nthR rs j).2.2.length) := by have := sumR_up hlt; show _ = _; omega
      have hzb : k + 2 * sumK (rs.take j) ≤ 9000000 := by have := sumR_le rs j; have := HS.out; omega
      have hz1 : 1 ≤ k + 2 * sumK (rs.take j) := by omega
      obtain ⟨cur, ho, hc⟩ := HM1.out.outer
      have c0 : wr.cell? ⟨g, j, none⟩ = some (.slice (some ⟨(nthR rs j).1, 0, none⟩) (nthR rs j).2.2.length (nthR rs j).2.1) := (ho.cell j).trans (hc j hlt)
      obtain ⟨ds, hd, hds⟩ := HM1.out.todo j (Nat.le_refl _) hlt
      have hlen : (nthR rs j).2.2.length ≤ 1048576 := (HI.out.keys _ (nthR_mem hlt)).1.2.1
      have HC : Hid (Calls Try.prog 32 #[.slice (some ⟨(nthR rs j).1, 0, none⟩) (nthR rs j).2.2.length (nthR rs j).2.1, .int .i64 ((k + 2 * sumK (rs.take j) : Nat) : Int)] wr fun e w' => e = .returned (.int .i64 ((k + 2 * sumK (rs.take (j + 1)) : Nat) : Int)) ∧ MSt w' g rs k (j + 1) ∧ Aside lo hi w w') :=
        (mark_any (nthR rs j).1 (nthR rs j).2.2.length (nthR rs j).2.1 (k + 2 * sumK (rs.take j)) ds wr hd hds hlen hz1 (by omega)).mono fun e w' h => by
          obtain ⟨h1, ⟨es, h2, _, h3⟩, h4⟩ := h
          obtain ⟨⟨b0, _⟩, b1⟩ := HI.out.keys _ (nthR_mem hlt)
          exact ⟨h1.trans (retI (by have := HU.out; omega)), HM1.out.next hlt HI.out.inc h4 h2 h3, HA.out.trans (Aside.apart h4 b0 b1)⟩
      clear ho hc hd hds
      generalize hz : k + 2 * sumK (rs.take j) = z at HC ⊢
      generalize hy : k + 2 * sumK (rs.take (j + 1)) = y at HC
      have HY : Hid (k + 2 * sumK (rs.take (j + 1)) = y) := hy
      clear hy hz hzb hz1 HU
      go_wp2_with fail
      refine HC.out.mono ?_
      rintro e w1 ⟨rfl, hm1, ha1⟩
      have HM2 : Hid (MSt w1 g rs k (j + 1)) := hm1
      have HA2 : Hid (Aside lo hi w w1) := ha1
      clear hm1 ha1 HC c0
      go_wp2
      go_roundw
      case rel => exact ⟨j + 1, by omega, by go_num, by rw [HY.out], HM2.out, HA2.out⟩
      case measure => simp [intOf]; omega
    · have hge : ¬ (j : Int) < (rs.length : Int) := by omega
      have HE : Hid (j = rs.length ∧ sumK (rs.take j) = sumK rs) := ⟨by omega, sumR_all (by omega)⟩
      go_wp2
      go_ret
      exact ⟨retI (by have := HE.out.2; omega), by have := HM1.out; rwa [HE.out.1] at this, HA.out⟩

set_option maxHeartbeats 1600000 in
theorem heldSS_any (g c k : Nat) (rs : List Row) (w : World) (hM : MSt w g rs k rs.length) (hll : ∀ i, i < rs.length → (nthR rs i).2.2.length ≤ 1048576) (hl : rs.length ≤ 1048576) (hs : sumK rs ≤ 1048576) (hk : 1 ≤ k) (hk2 : k ≤ 1000000) :
    Calls Try.prog 45 #[.slice (some ⟨g, 0, none⟩) rs.length c, .int .i64 k] w fun e w' => e = .returned (.int .i64 ((k + 2 * sumK rs : Nat) : Int)) ∧ Below w.heap.size w w' := by
  have HS : Hid (sumK rs ≤ 1048576 ∧ ∀ i, i < rs.length → (nthR rs i).2.2.length ≤ 1048576) := ⟨hs, hll⟩
  have HM : Hid (MSt w g rs k rs.length) := hM
  clear hM hs hll
  go_enter Try.func45, Try.ntmps45
  go_wp2
  go_loopw [1, 5] (fun x i w' => ∃ j : Nat, j ≤ rs.length ∧ i = .int .i64 j ∧ x = .int .i64 ((k + 2 * sumK (rs.take j) : Nat) : Int) ∧ Below w.heap.size w w') (fun _ i _ => rs.length - (intOf i).toNat)
  case atStart => exact ⟨0, Nat.zero_le _, rfl, rfl, Below.refl _ _⟩
  case round =>
    obtain ⟨j, hj, rfl, rfl, hb⟩ := hrel
    have HB : Hid (Below w.heap.size w wr) := hb
    have HM1 : Hid (MSt wr g rs k rs.length) := HM.out.grow hb
    clear hb
    by_cases hlt : j < rs.length
    · have hlt' : (j : Int) < (rs.length : Int) := by omega
      have HU : Hid (k + 2 * sumK (rs.take (j + 1)) = k + 2 * sumK (rs.take j) + 2 * (nthR rs j).2.2.length) := by have := sumR_up hlt; show _ = _; omega
      have hzb : k + 2 * sumK (rs.take j) ≤ 9000000 := by have := sumR_le rs j; have := HS.out.1; omega
      have hz1 : 1 ≤ k + 2 * sumK (rs.take j) := by omega
      obtain ⟨cur, ho, hc⟩ := HM1.out.outer
      have c0 : wr.cell? ⟨g, j, none⟩ = some (.slice (some ⟨(nthR rs j).1, 0, none⟩) (nthR rs j).2.2.length (nthR rs j).2.1) := (ho.cell j).trans (hc j hlt)
      obtain ⟨ds, hd, hds⟩ := HM1.out.done j hlt
      have HC : Hid (Calls Try.prog 34 #[.slice (some ⟨(nthR rs j).1, 0, none⟩) (nthR rs j).2.2.length (nthR rs j).2.1, .int .i64 ((k + 2 * sumK (rs.take j) : Nat) : Int)] wr fun e w' => e = .returned (.int .i64 ((k + 2 * sumK (rs.take (j + 1)) : Nat) : Int)) ∧ Below w.heap.size w w') :=
        (held_any (nthR rs j).1 (nthR rs j).2.2.length (nthR rs j).2.1 (k + 2 * sumK (rs.take j)) ds wr hd hds (HS.out.2 j hlt) hz1 (by omega)).mono fun e w' h => ⟨h.1.trans (retI (by have := HU.out; omega)), grow_on HB.out h.2⟩
      clear ho hc hd hds
      generalize hz : k + 2 * sumK (rs.take j) = z at HC ⊢
      generalize hy : k + 2 * sumK (rs.take (j + 1)) = y at HC
      have HY : Hid (k + 2 * sumK (rs.take (j + 1)) = y) := hy
      have hq : ¬ (y : Int) < 0 := by omega
      clear hy hz hzb hz1 HU
      go_wp2_with fail
      refine HC.out.mono ?_
      rintro e w1 ⟨rfl, hb1⟩
      have HB1 : Hid (Below w.heap.size w w1) := hb1
      clear hb1 HC c0
      go_wp2
      go_roundw
      case rel => exact ⟨j + 1, by omega, by go_num, by rw [HY.out], HB1.out⟩
      case measure => simp [intOf]; omega
    · have hge : ¬ (j : Int) < (rs.length : Int) := by omega
      have HE : Hid (sumK (rs.take j) = sumK rs) := sumR_all (by omega)
      go_wp2
      go_ret
      exact ⟨retI (by have := HE.out; omega), HB.out⟩
end Go.Proofs.Ytmachabgnbpeaaa.Kys
