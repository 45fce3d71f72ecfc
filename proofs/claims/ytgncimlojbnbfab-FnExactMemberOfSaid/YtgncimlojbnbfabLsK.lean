/-
  PROVED: the marks that markAlarmS writes over a row of alarms and heldAlarmS finds; the copy that toAlarmS makes, as a row.
-/
import Derived.Test.YtgncimlojbnbfabLst
import Derived.Test.YtgncimlojbnbfabAlmK
namespace Go.Proofs.Ytgncimlojbnbfab.ChnK
open Go.RowKit
open Go.Proofs.Ytgncimlojbnbfab.Labs Go.Proofs.Ytgncimlojbnbfab.LabS Go.Proofs.Ytgncimlojbnbfab.Alms Go.Proofs.Ytgncimlojbnbfab.AlmM Go.Proofs.Ytgncimlojbnbfab.Over Go.Proofs.Ytgncimlojbnbfab.Blk Go.Proofs.Ytgncimlojbnbfab.App Go.Proofs.Ytgncimlojbnbfab.Rws
open Go.Proofs.Ytgncimlojbnbfab.AlmS Go.Proofs.Ytgncimlojbnbfab.ChnI Go.Proofs.Ytgncimlojbnbfab.ChnC Go.Proofs.Ytgncimlojbnbfab.ChnP
open Go.Proofs.Ytgncimlojbnbfab.Mark (Apart Marked)
open Go.Proofs.Ytgncimlojbnbfab.StrB (retB)
open Go.Proofs.Ytgncimlojbnbfab.Alm (at_par)
open Go.Proofs.Ytgncimlojbnbfab.LabT (Held held_reads)
set_option linter.unusedVariables false
/-- what was there is as it was, but for the blocks of S -/
structure Only (S : Nat → Prop) (w w' : World) : Prop where
  os : w'.os = w.os
  tape : w'.tape = w.tape
  output : w'.output = w.output
  size : w.heap.size ≤ w'.heap.size
  block : ∀ k, k < w.heap.size → ¬ S k → w'.heap[k]? = w.heap[k]?
theorem Only.refl (S : Nat → Prop) (w : World) : Only S w w := ⟨rfl, rfl, rfl, Nat.le_refl _, fun _ _ _ => rfl⟩
theorem Only.trans {S : Nat → Prop} {a b c : World} (h : Only S a b) (k : Only S b c) : Only S a c :=
  ⟨k.os.trans h.os, k.tape.trans h.tape, k.output.trans h.output, Nat.le_trans h.size k.size, fun i hi hM => (k.block i (Nat.lt_of_lt_of_le hi h.size) hM).trans (h.block i hi hM)⟩
theorem Only.of {S : Nat → Prop} {w w' : World} (h : Below w.heap.size w w') : Only S w w' := ⟨h.os, h.tape, h.output, h.size, fun k hk _ => h.block k hk⟩
theorem Only.below {S : Nat → Prop} {a b c : World} (h : Only S a b) (k : Below b.heap.size b c) : Only S a c := h.trans (Only.of k)
theorem Only.ahead {S : Nat → Prop} {a b c : World} (h : Below a.heap.size a b) (k : Only S b c) : Only S a c := (Only.of h).trans k
theorem Only.apart {S : Nat → Prop} {M : Nat} {w w' : World} (h : Apart M w w') (hM : S M) : Only S w w' := ⟨h.os, h.tape, h.output, h.size, fun k hk hn => h.block k hk (fun e => hn (by rw [e]; exact hM))⟩
theorem Only.set {S : Nat → Prop} {M : Nat} {a w : World} (h : Only S a w) (hM : S M) (i : Nat) (v : Value) : Only S a (w.setCell ⟨M, i, none⟩ v) :=
  h.trans (Only.apart ((Apart.refl M w).setCell i v) hM)
theorem Only.low {S : Nat → Prop} {B : Nat} {w w' : World} (h : Only S w w') (hB : ∀ k, S k → B ≤ k) (hw : B ≤ w.heap.size) : Below B w w' :=
  ⟨h.os, h.tape, h.output, h.size, fun k hk => h.block k (by omega) (fun hs => by have := hB k hs; omega)⟩
theorem Only.blk {S : Nat → Prop} {N : Nat} {w w' : World} {cs : Array Value} {T : TypeId} (h : Only S w w') (hb : Blk w N cs T) (hn : ¬ S N) : Blk w' N cs T := by
  have hlt := hb.lt
  unfold Blk at *
  rw [h.block N hlt hn]; exact hb
/-- the blocks of a row of alarms -/
def blks (M : Nat) (rs : List ARow) (k : Nat) : Prop := k = M ∨ ∃ x ∈ rs, x.1 = k
theorem blks_low {lo : Nat} {w : World} {M c : Nat} {rs : List ARow} (h : AB lo w M c rs) (k : Nat) (hk : blks M rs k) : lo ≤ k := by
  rcases hk with rfl | ⟨x, hx, rfl⟩
  · exact h.at'
  · exact (h.rows x hx).1
theorem blks_high {lo : Nat} {w : World} {M c : Nat} {rs : List ARow} (h : AB lo w M c rs) (k : Nat) (hk : blks M rs k) : k < w.heap.size := by
  rcases hk with rfl | ⟨x, hx, rfl⟩
  · exact h.lt
  · exact (h.rows x hx).lt
theorem ab_only {S : Nat → Prop} {lo : Nat} {w w' : World} {M c : Nat} {rs : List ARow} (h : AB lo w M c rs) (ho : Only S w w') (hn : ∀ k, blks M rs k → ¬ S k) : AB lo w' M c rs := by
  obtain ⟨cur, h1, h2⟩ := h.outer
  exact ⟨h.at', h.cap, ⟨cur, ho.blk h1 (hn _ (.inl rfl)), h2⟩, fun x hx => by
    obtain ⟨k0, k1, ds, k2, k3⟩ := h.rows x hx
    exact ⟨k0, k1, ds, ho.blk k2 (hn _ (.inr ⟨x, hx, rfl⟩)), k3⟩, h.ne⟩

/-- how many marks they take, together -/
def sumA : List ARow → Nat
  | [] => 0
  | x :: rs => 2 * x.2.2.l.length + 3 + sumA rs
theorem sumA_app (p q : List ARow) : sumA (p ++ q) = sumA p + sumA q := by
  induction p with
  | nil => simp [sumA]
  | cons x p ih => rw [List.cons_append, sumA, ih, sumA]; omega
theorem takeA_up {rs : List ARow} {k : Nat} (h : k < rs.length) : rs.take (k + 1) = rs.take k ++ [nthA rs k] := by
  rw [nthA_eq h, List.take_succ_eq_append_getElem h]
theorem sumA_up {rs : List ARow} {k : Nat} (h : k < rs.length) : sumA (rs.take (k + 1)) = sumA (rs.take k) + 2 * (nthA rs k).2.2.l.length + 3 := by
  rw [takeA_up h, sumA_app]; simp [sumA]; omega
theorem sumA_all {rs : List ARow} {k : Nat} (h : rs.length ≤ k) : sumA (rs.take k) = sumA rs := by rw [List.take_of_length_le h]
theorem sumA_le (rs : List ARow) (k : Nat) : sumA (rs.take k) ≤ sumA rs := by
  have := sumA_app (rs.take k) (rs.drop k)
  rw [List.take_append_drop] at this
  omega
theorem sumA_pals (rs : List ARow) : sumA rs = 2 * sumL (pals rs) + 3 * rs.length := by
  induction rs with
  | nil => rfl
  | cons x rs ih => rw [sumA, ih]; show _ = 2 * (x.2.2.l.length + sumL (pals rs)) + 3 * (rs.length + 1); omega

theorem inc_ne {rs : List ARow} (h : rs.Pairwise fun x y => x.1 ≠ y.1) {i j : Nat} (hi : i < rs.length) (hj : j < rs.length) (hne : i ≠ j) : (nthA rs i).1 ≠ (nthA rs j).1 := by
  rw [List.pairwise_iff_getElem] at h
  rw [nthA_eq hi, nthA_eq hj]
  rcases Nat.lt_or_gt_of_ne hne with hlt | hlt
  · exact h i j hi hj hlt
  · exact fun e => h j i hj hi hlt e.symm
/-- what the i-th one's other cells hold when it is marked -/
def MarkA (cur : Array Value) (i z : Nat) : Prop := cur[i * 4 + 1]? = some (.int .i64 (z : Int)) ∧ cur[i * 4 + 2]? = some (.int .i64 ((z + 1 : Nat) : Int)) ∧ cur[i * 4 + 3]? = some (.string (Mark.mt (z + 2)))
/-- the alarms while they are marked: the first j are -/
structure MA (w : World) (M : Nat) (rs : List ARow) (k j : Nat) : Prop where
  outer : ∃ cur : Array Value, Blk w M cur 45 ∧ rs.length * 4 ≤ cur.size ∧ (∀ i, i < rs.length → cur[i * 4]? = some (.slice (some ⟨(nthA rs i).1, 0, none⟩) (nthA rs i).2.2.l.length (nthA rs i).2.1)) ∧ ∀ i, i < j → MarkA cur i (k + sumA (rs.take i) + 2 * (nthA rs i).2.2.l.length)
  done : ∀ i, i < j → ∃ ds : Array Value, Blk w (nthA rs i).1 ds 47 ∧ Marked ds (k + sumA (rs.take i)) (nthA rs i).2.2.l.length
  todo : ∀ i, j ≤ i → i < rs.length → ∃ ds : Array Value, Blk w (nthA rs i).1 ds 47 ∧ (nthA rs i).2.2.l.length * 2 ≤ ds.size
theorem AB.ma {lo : Nat} {w : World} {M c : Nat} {rs : List ARow} (h : AB lo w M c rs) (k : Nat) : MA w M rs k 0 := by
  obtain ⟨cur, h1, h2, h3⟩ := h.outer
  have hc := h.cap
  exact ⟨⟨cur, h1, by omega, fun i hi => (h3 i hi).1, fun i hi => by omega⟩, fun i hi => by omega, fun i _ hi => by
    obtain ⟨_, _, ds, k2, k3, _⟩ := h.rows _ (nthA_mem hi)
    exact ⟨ds, k2, k3⟩⟩
theorem MA.only {S : Nat → Prop} {w w' : World} {M : Nat} {rs : List ARow} {k : Nat} (h : MA w M rs k rs.length) (ho : Only S w w') (hn : ∀ k, blks M rs k → ¬ S k) : MA w' M rs k rs.length := by
  obtain ⟨cur, h1, h2⟩ := h.outer
  exact ⟨⟨cur, ho.blk h1 (hn _ (.inl rfl)), h2⟩, fun i hi => by
    obtain ⟨ds, h3, h4⟩ := h.done i hi
    exact ⟨ds, ho.blk h3 (hn _ (.inr ⟨_, nthA_mem hi, rfl⟩)), h4⟩, fun i hi hj => by omega⟩
theorem MA.grow {w w' : World} {M : Nat} {rs : List ARow} {k : Nat} (h : MA w M rs k rs.length) (hb : Below w.heap.size w w') : MA w' M rs k rs.length := h.only (S := fun _ => False) (Only.of hb) (fun _ _ h => h)

/-- the copy that toAlarmS makes, as a row -/
theorem copy_ab {M lo : Nat} {w : World} {P : List PAl} {cs : Array Value} {g : Nat → Nat} (h : CopyA M w P P.length cs g) (hlo : lo ≤ M) (hl : P.length ≤ 1048576) (hs : LenM P) : ∃ rs, AB lo w M P.length rs ∧ pals rs = P := by
  have hlen : ((List.range P.length).map fun i => ((g i, (nthP P i).l.length, nthP P i) : ARow)).length = P.length := by simp
  have hn : ∀ i, i < P.length → nthA ((List.range P.length).map fun i => ((g i, (nthP P i).l.length, nthP P i) : ARow)) i = (g i, (nthP P i).l.length, nthP P i) := fun i hi => by rw [nthA_eq (by simpa using hi)]; simp
  refine ⟨(List.range P.length).map fun i => (g i, (nthP P i).l.length, nthP P i), ⟨hlo, ⟨by rw [hlen]; exact Nat.le_refl _, by unfold maxLen; omega⟩, ⟨cs, h.blk, h.size, fun i hi => ?_⟩, fun x hx => ?_, ?_⟩, ?_⟩
  · rw [hlen] at hi
    rw [hn i hi]
    exact h.cell i hi
  · obtain ⟨i, hi, rfl⟩ := List.mem_map.1 hx
    have hi' : i < P.length := by simpa using hi
    obtain ⟨h0, ds, h1, h2, h3⟩ := h.own i hi'
    exact ⟨by show lo ≤ g i; omega, hs i hi', ds, h1, Nat.le_of_eq h2.symm, h3⟩
  · rw [List.pairwise_iff_getElem]
    intro i j hi hj hij
    simp only [List.getElem_map, List.getElem_range]
    have := h.inc i j hij (by simpa using hj)
    omega
  · apply List.ext_getElem
    · simp [pals]
    · intro i h1 h2
      simp only [pals, List.getElem_map, List.getElem_range]
      exact nthP_eq h2
theorem fits_mem {P : List PAl} (h : FitsP P) {x : PAl} (hx : x ∈ P) : FitA x := by
  obtain ⟨i, hi, rfl⟩ := List.getElem_of_mem hx
  have := h i hi
  rwa [nthP_eq hi] at this
theorem fits_of {P : List PAl} (h : ∀ x ∈ P, FitA x) : FitsP P := fun i hi => by rw [nthP_eq hi]; exact h _ (List.getElem_mem _)
theorem len_max {n : Nat} (h : n ≤ 1048577) : n ≤ maxLen := by unfold maxLen; omega
end Go.Proofs.Ytgncimlojbnbfab.ChnK
