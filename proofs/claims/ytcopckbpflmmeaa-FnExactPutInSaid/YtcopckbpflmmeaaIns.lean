/-
  PROVED: a row of chains that was put together of the first part of another, one chain more and its rest holds the chains of that other with the one more among them.
-/
import Derived.Test.YtcopckbpflmmeaaHld
import Derived.Test.YtcopckbpflmmeaaPrtF
namespace Go.Proofs.Ytcopckbpflmmeaa.Ins
open Go.RowKit
open Go.Proofs.Ytcopckbpflmmeaa.Labs Go.Proofs.Ytcopckbpflmmeaa.LabS Go.Proofs.Ytcopckbpflmmeaa.Alms Go.Proofs.Ytcopckbpflmmeaa.AlmM Go.Proofs.Ytcopckbpflmmeaa.Over Go.Proofs.Ytcopckbpflmmeaa.Blk Go.Proofs.Ytcopckbpflmmeaa.App Go.Proofs.Ytcopckbpflmmeaa.Rws Go.Proofs.Ytcopckbpflmmeaa.ChnI Go.Proofs.Ytcopckbpflmmeaa.ChnC Go.Proofs.Ytcopckbpflmmeaa.ChnP Go.Proofs.Ytcopckbpflmmeaa.ChnK Go.Proofs.Ytcopckbpflmmeaa.Chs Go.Proofs.Ytcopckbpflmmeaa.Prt
set_option linter.unusedVariables false
theorem add_o (M o j : Nat) : (⟨M, o, none⟩ : Addr).add j = ⟨M, o + j, none⟩ := by by_cases h : j = 0 <;> simp [Addr.add, h]
theorem if_slice {p : Prop} [Decidable p] (x y : Addr) (n c : Nat) : Value.slice (if p then some x else some y) n c = .slice (some (if p then x else y)) n c := by split <;> rfl
theorem cel_one {xs : List Value} {cs : List CRow} (hl : xs.length = cs.length * 2) (hxs : ∀ i, i < cs.length → Cel (fun k => xs[k]?) i (nthR cs i)) : ∀ v ∈ xs, v.oneCell' = true := fun v hv => by
  obtain ⟨j, hj, rfl⟩ := List.getElem_of_mem hv
  obtain ⟨h0, h1⟩ := hxs (j / 2) (by omega)
  by_cases h : j % 2 = 0
  · have e : j / 2 * 2 = j := by omega
    have q : xs[j / 2 * 2]? = _ := h0
    rw [e, List.getElem?_eq_getElem hj] at q
    rw [Option.some.inj q]; rfl
  · have e : j / 2 * 2 + 1 = j := by omega
    have q : xs[j / 2 * 2 + 1]? = _ := h1
    rw [e, List.getElem?_eq_getElem hj] at q
    rw [Option.some.inj q]; rfl
/-- the cells of the row, to be appended -/
structure News (W : World) (M c : Nat) (cs : List CRow) (xs : List Value) : Prop where
  len : xs.length = cs.length * 2
  cel : ∀ i, i < cs.length → Cel (fun k => xs[k]?) i (nthR cs i)
  one : ∀ v ∈ xs, v.oneCell' = true
  fst : ∀ W', Below W.heap.size W W' → ∀ k, k ≤ cs.length → ∀ j u, (xs.take (k * 2))[j]? = some u → W'.cell? ((⟨M, 0, none⟩ : Addr).add j) = some u
  snd : ∀ W', Below W.heap.size W W' → ∀ k, k ≤ cs.length → ∀ j u, (xs.drop (k * 2))[j]? = some u → W'.cell? ((if c = k then (⟨M, 0, none⟩ : Addr) else ⟨M, k * 2, none⟩).add j) = some u
theorem CB.news {lo : Nat} {W : World} {M c : Nat} {cs : List CRow} (h : CB lo W M c cs) : ∃ xs, News W M c cs xs := by
  obtain ⟨cur, h1, h2, h3⟩ := h.outer
  have hc := h.cap
  have hlen : (cur.toList.take (cs.length * 2)).length = cs.length * 2 := by simp; omega
  have hcel : ∀ i, i < cs.length → Cel (fun k => (cur.toList.take (cs.length * 2))[k]?) i (nthR cs i) := fun i hi => by
    refine (h3 i hi).congr fun k _ hk => ?_
    show (cur.toList.take _)[k]? = cur[k]?
    rw [List.getElem?_take_of_lt (by omega)]
    simp
  refine ⟨cur.toList.take (cs.length * 2), hlen, hcel, cel_one hlen hcel, fun W' hb k hk j u hj => ?_, fun W' hb k hk j u hj => ?_⟩
  · rw [List.take_take] at hj
    have hjl : j < min (k * 2) (cs.length * 2) := by
      rcases Nat.lt_or_ge j (min (k * 2) (cs.length * 2)) with q | q
      · exact q
      · rw [List.getElem?_eq_none (by simp; omega)] at hj; cases hj
    rw [List.getElem?_take_of_lt hjl] at hj
    rw [add_o, (h1.grow hb).cell, Nat.zero_add, ← hj]
    simp
  · by_cases e : c = k
    · rw [List.getElem?_eq_none (by rw [List.length_drop, hlen]; omega)] at hj; cases hj
    · rw [if_neg e, add_o, (h1.grow hb).cell]
      rw [List.getElem?_drop] at hj
      have hjl : k * 2 + j < cs.length * 2 := by
        rcases Nat.lt_or_ge (k * 2 + j) (cs.length * 2) with q | q
        · exact q
        · rw [List.getElem?_eq_none (by omega)] at hj; cases hj
      rw [List.getElem?_take_of_lt hjl] at hj
      rw [← hj]; simp
theorem nthR_ins {cs : List CRow} {x : CRow} {k i : Nat} (hk : k ≤ cs.length) : nthR (cs.take k ++ x :: cs.drop k) i = if i < k then nthR cs i else if i = k then x else nthR cs (i - 1) := by
  unfold nthR
  have hl : (cs.take k).length = k := by simp; omega
  by_cases h : i < k
  · rw [if_pos h, List.getD_eq_getElem?_getD, List.getElem?_append_left (by omega), List.getElem?_take_of_lt h, List.getD_eq_getElem?_getD]
  · rw [if_neg h, List.getD_eq_getElem?_getD, List.getElem?_append_right (by omega), hl]
    by_cases e : i = k
    · rw [if_pos e, e, Nat.sub_self]; rfl
    · rw [if_neg e, show i - k = (i - k - 1) + 1 by omega, List.getElem?_cons_succ, List.getElem?_drop, show k + (i - k - 1) = i - 1 by omega, List.getD_eq_getElem?_getD]
theorem CB.ins {lo k : Nat} {W w' : World} {M c : Nat} {cs : List CRow} {x : CRow} {xs : List Value} {v' : Value} (h : CB lo W M c cs) (hN : News W M c cs xs) (hx : AB lo W x.M x.c x.rs) (hne : ∀ y ∈ cs, ∀ k, blks y.M y.rs k → ¬ blks x.M x.rs k) (hk : k ≤ cs.length)
    (hown : w'.ownsRow lo 26 2 v' (k + 1 + (cs.length - k)) (xs.take (k * 2) ++ rowC x ++ xs.drop (k * 2))) (hmv : Moved W w') : ∃ M' c', v' = .slice (some ⟨M', 0, none⟩) (cs.take k ++ x :: cs.drop k).length c' ∧ CB lo w' M' c' (cs.take k ++ x :: cs.drop k) := by
  have hln : (cs.take k ++ x :: cs.drop k).length = k + 1 + (cs.length - k) := by simp; omega
  rcases hown.2 with ⟨_, e⟩ | ⟨g, cap, cur, e, hb, hgb, hc, hm, hz, ht⟩
  · omega
  · rw [hln]
    refine ⟨g, cap, e, hb, ⟨by rw [hln]; exact hc, hm⟩, ⟨cur, hgb, hz, fun i hi => ?_⟩, ⟨fun y hy => ?_, ?_⟩⟩
    · have hat : ∀ q, q < (k + 1 + (cs.length - k)) * 2 → cur[q]? = (xs.take (k * 2) ++ rowC x ++ xs.drop (k * 2))[q]? := fun q hq => by
        rw [← ht, List.getElem?_take_of_lt hq]; simp
      have htl : (xs.take (k * 2)).length = k * 2 := by rw [List.length_take, hN.len]; omega
      have hrl : (rowC x).length = 2 := rfl
      rw [hln] at hi
      rw [nthR_ins hk]
      by_cases h1 : i < k
      · rw [if_pos h1]
        refine (hN.cel i (by omega)).congr fun q _ hq => ?_
        show cur[q]? = xs[q]?
        rw [hat q (by omega), List.append_assoc, List.getElem?_append_left (by omega), List.getElem?_take_of_lt (by omega)]
      · rw [if_neg h1]
        by_cases h2 : i = k
        · rw [if_pos h2, h2]
          have hr : ∀ j, j < 2 → cur[k * 2 + j]? = (rowC x)[j]? := fun j hj => by
            rw [hat _ (by omega), List.append_assoc, List.getElem?_append_right (by omega), htl, List.getElem?_append_left (by omega)]
            congr 1; omega
          exact ⟨hr 0 (by omega), hr 1 (by omega)⟩
        · rw [if_neg h2]
          have hd : ∀ j, j < 2 → cur[i * 2 + j]? = xs[(i - 1) * 2 + j]? := fun j hj => by
            rw [hat _ (by omega), List.getElem?_append_right (by rw [List.length_append]; omega), List.getElem?_drop, List.length_append, htl, hrl]
            congr 1; omega
          obtain ⟨q0, q1⟩ := hN.cel (i - 1) (by omega)
          exact ⟨(hd 0 (by omega)).trans q0, (hd 1 (by omega)).trans q1⟩
    · rcases List.mem_append.1 hy with hy | hy
      · exact ab_moved (h.rows.rows y (List.mem_of_mem_take hy)) hmv
      · rcases List.mem_cons.1 hy with hy | hy
        · subst hy; exact ab_moved hx hmv
        · exact ab_moved (h.rows.rows y (List.mem_of_mem_drop hy)) hmv
    · have hp := h.rows.ne
      rw [← List.take_append_drop k cs, List.pairwise_append] at hp
      rw [List.pairwise_append, List.pairwise_cons]
      refine ⟨hp.1, ⟨fun y hy q h1 h2 => hne y (List.mem_of_mem_drop hy) q h2 h1, hp.2.1⟩, fun a ha b hb' => ?_⟩
      rcases List.mem_cons.1 hb' with hb' | hb'
      · subst hb'; exact hne a (List.mem_of_mem_take ha)
      · exact hp.2.2 a ha b hb'
theorem chs_ins (cs : List CRow) (x : CRow) (k : Nat) : chs (cs.take k ++ x :: cs.drop k) = (chs cs).take k ++ x.ch :: (chs cs).drop k := by simp [chs, List.map_take, List.map_drop]
end Go.Proofs.Ytcopckbpflmmeaa.Ins
