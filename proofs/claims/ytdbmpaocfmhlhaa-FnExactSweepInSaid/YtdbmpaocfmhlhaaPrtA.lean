/-
  PROVED: over a part in memory spec.AlarmsIn and impl.AlarmsIn give all its alarms, chain by chain, in memory of their own; nothing that was there is changed.
-/
import Derived.Test.YtdbmpaocfmhlhaaPrt
import Derived.Test.YtdbmpaocfmhlhaaChnT
namespace Go.Proofs.Ytdbmpaocfmhlhaa.PrtA
open Go.RowKit
open Go.Proofs.Ytdbmpaocfmhlhaa.Labs Go.Proofs.Ytdbmpaocfmhlhaa.LabS Go.Proofs.Ytdbmpaocfmhlhaa.Alms Go.Proofs.Ytdbmpaocfmhlhaa.AlmM Go.Proofs.Ytdbmpaocfmhlhaa.Over Go.Proofs.Ytdbmpaocfmhlhaa.Blk Go.Proofs.Ytdbmpaocfmhlhaa.App Go.Proofs.Ytdbmpaocfmhlhaa.Rws Go.Proofs.Ytdbmpaocfmhlhaa.ChnI Go.Proofs.Ytdbmpaocfmhlhaa.ChnC Go.Proofs.Ytdbmpaocfmhlhaa.ChnP Go.Proofs.Ytdbmpaocfmhlhaa.ChnK Go.Proofs.Ytdbmpaocfmhlhaa.ChnT Go.Proofs.Ytdbmpaocfmhlhaa.Chs Go.Proofs.Ytdbmpaocfmhlhaa.Prt
set_option linter.unusedVariables false

/-- what is known of the chains of a part that is small enough -/
def SmallA (C : List PCh) : Prop := ∀ x ∈ C, x.P.length ≤ 1048576 ∧ LenM x.P
/-- the cells of a row of alarms, one behind the other -/
def flatA : List ARow → List Value
  | [] => []
  | x :: rs => rowV x ++ flatA rs
theorem flatA_len : ∀ rs : List ARow, (flatA rs).length = rs.length * 4
  | [] => rfl
  | x :: rs => by rw [flatA, List.length_append, flatA_len rs]; simp [rowV]; omega
theorem flatA_one : ∀ (rs : List ARow), ∀ v ∈ flatA rs, v.oneCell' = true
  | [], v, hv => by simp [flatA] at hv
  | x :: rs, v, hv => by
    rw [flatA] at hv
    rcases List.mem_append.1 hv with hv | hv
    · exact row_one x v hv
    · exact flatA_one rs v hv
theorem flatA_four : ∀ (rs : List ARow) (i : Nat), i < rs.length → Four (fun k => (flatA rs)[k]?) i (nthA rs i)
  | [], i, h => by simp at h
  | x :: rs, 0, h => by
    have e : nthA (x :: rs) 0 = x := by rw [nthA_eq (by simp)]; simp
    rw [e]
    have hr : ∀ j, j < 4 → (flatA (x :: rs))[0 * 4 + j]? = (rowV x)[j]? := fun j hj => by
      rw [flatA, Nat.zero_mul, Nat.zero_add, List.getElem?_append_left (by simp [rowV]; exact hj)]
    exact ⟨hr 0 (by omega), hr 1 (by omega), hr 2 (by omega), hr 3 (by omega)⟩
  | x :: rs, i + 1, h => by
    have hi : i < rs.length := by simpa using h
    have e : nthA (x :: rs) (i + 1) = nthA rs i := by rw [nthA_eq h, nthA_eq hi]; simp
    rw [e]
    have h4 := flatA_four rs i hi
    have hs : ∀ k, (flatA (x :: rs))[k + 4]? = (flatA rs)[k]? := fun k => by
      rw [flatA, List.getElem?_append_right (by simp [rowV])]
      simp [rowV]
    obtain ⟨h0, h1, h2, h3⟩ := h4
    refine ⟨?_, ?_, ?_, ?_⟩
    · show (flatA (x :: rs))[(i + 1) * 4]? = _
      have q : (i + 1) * 4 = i * 4 + 4 := by omega
      rw [q, hs]; exact h0
    · show (flatA (x :: rs))[(i + 1) * 4 + 1]? = _
      have q : (i + 1) * 4 + 1 = i * 4 + 1 + 4 := by omega
      rw [q, hs]; exact h1
    · show (flatA (x :: rs))[(i + 1) * 4 + 2]? = _
      have q : (i + 1) * 4 + 2 = i * 4 + 2 + 4 := by omega
      rw [q, hs]; exact h2
    · show (flatA (x :: rs))[(i + 1) * 4 + 3]? = _
      have q : (i + 1) * 4 + 3 = i * 4 + 3 + 4 := by omega
      rw [q, hs]; exact h3
/-- the cells of a row of alarms in memory -/
theorem flatA_news {lo : Nat} {w : World} {M c : Nat} {rs : List ARow} (h : AB lo w M c rs) : ∀ j u, (flatA rs)[j]? = some u → w.cell? ((⟨M, 0, none⟩ : Addr).add j) = some u := fun j u hj => by
  obtain ⟨cur, h1, h2, h3⟩ := h.outer
  have hlt : j < rs.length * 4 := by
    have := (List.getElem?_eq_some_iff.1 hj).1
    rwa [flatA_len] at this
  have ea : (⟨M, 0, none⟩ : Addr).add j = ⟨M, j, none⟩ := by by_cases h : j = 0 <;> simp [Addr.add, h]
  rw [ea, h1.cell, ← hj]
  obtain ⟨i, r, hi, hr, e⟩ : ∃ i r, i < rs.length ∧ r < 4 ∧ j = i * 4 + r := ⟨j / 4, j % 4, by omega, Nat.mod_lt _ (by omega), by omega⟩
  obtain ⟨a0, a1, a2, a3⟩ := h3 i hi
  obtain ⟨b0, b1, b2, b3⟩ := flatA_four rs i hi
  subst e
  match r, hr with
  | 0, _ => exact a0.trans b0.symm
  | 1, _ => exact a1.trans b1.symm
  | 2, _ => exact a2.trans b2.symm
  | 3, _ => exact a3.trans b3.symm
theorem nthA_two_lt {rs qs : List ARow} {i : Nat} (h : i < rs.length) : nthA (rs ++ qs) i = nthA rs i := by
  rw [nthA_eq (by simp; omega), nthA_eq h, List.getElem_append_left h]
theorem nthA_two_ge {rs qs : List ARow} {i : Nat} (h : i < qs.length) : nthA (rs ++ qs) (rs.length + i) = nthA qs i := by
  rw [nthA_eq (by simp; omega), nthA_eq h, List.getElem_append_right (by omega)]
  simp
/-- what an append of a whole row gives -/
theorem AB.appAll {lo : Nat} {W w' : World} {M c : Nat} {rs qs : List ARow} {xs : List Value} {v' : Value} (h : AB lo W M c rs) (hq : ∀ x ∈ qs, OwnA lo W x) (hqn : qs.Pairwise fun x y => x.1 ≠ y.1) (hne : ∀ y ∈ rs, ∀ x ∈ qs, y.1 ≠ x.1) (hl : xs.length = rs.length * 4) (hxs : ∀ i, i < rs.length → Four (fun k => xs[k]?) i (nthA rs i))
    (hown : w'.ownsRow lo 38 4 v' (rs.length + qs.length) (xs ++ flatA qs)) (hg : W.grownBy w' (some M)) (hnn : v' ≠ .slice none 0 0) : ∃ M' c', v' = .slice (some ⟨M', 0, none⟩) (rs.length + qs.length) c' ∧ AB lo w' M' c' (rs ++ qs) := by
  rcases hown.2 with ⟨e, _⟩ | ⟨g, cap, cur, e, hb, hgb, hc, hm, hz, ht⟩
  · exact absurd e hnn
  · obtain ⟨cu0, hcu0, _⟩ := h.outer
    have far : ∀ y, OwnA lo W y → OwnA lo w' y := fun y hy => by
      obtain ⟨h0, h1, ds, h2, h3⟩ := hy
      exact ⟨h0, h1, ds, blk_far h2 hg (fun e => blkA_ne hcu0 h2 (Option.some.inj e).symm), h3⟩
    refine ⟨g, cap, e, hb, ⟨by simp; omega, hm⟩, ⟨cur, hgb, hz, fun i hi => ?_⟩, fun y hy => ?_, ?_⟩
    · have at' : ∀ k, k < (rs.length + qs.length) * 4 → cur[k]? = (xs ++ flatA qs)[k]? := fun k hk => by
        rw [← ht, List.getElem?_take_of_lt hk]; simp
      simp at hi
      by_cases hlt : i < rs.length
      · rw [nthA_two_lt hlt]
        refine (hxs i hlt).congr fun k _ hk => ?_
        show cur[k]? = xs[k]?
        rw [at' k (by omega), List.getElem?_append_left (by omega)]
      · obtain ⟨m, rfl⟩ : ∃ m, i = rs.length + m := ⟨i - rs.length, by omega⟩
        have hm' : m < qs.length := by omega
        rw [nthA_two_ge hm']
        have h4 := flatA_four qs m hm'
        have hr : ∀ r, r < 4 → cur[(rs.length + m) * 4 + r]? = (flatA qs)[m * 4 + r]? := fun r hr => by
          rw [at' _ (by omega), List.getElem?_append_right (by omega), hl]
          congr 1; omega
        exact ⟨(hr 0 (by omega)).trans h4.1, (hr 1 (by omega)).trans h4.2.1, (hr 2 (by omega)).trans h4.2.2.1, (hr 3 (by omega)).trans h4.2.2.2⟩
    · rcases List.mem_append.1 hy with hy | hy
      · exact far y (h.rows y hy)
      · exact far y (hq y hy)
    · rw [List.pairwise_append]
      exact ⟨h.ne, hqn, fun a ha b hb => hne a ha b hb⟩
/-- all alarms of the chains, one behind the other -/
def allC : List PCh → List PAl
  | [] => []
  | x :: C => x.P ++ allC C
theorem allC_app (p q : List PCh) : allC (p ++ q) = allC p ++ allC q := by
  induction p with
  | nil => rfl
  | cons x p ih => rw [List.cons_append, allC, ih, allC, List.append_assoc]
theorem allC_up {C : List PCh} {k : Nat} (h : k < C.length) : allC (C.take (k + 1)) = allC (C.take k) ++ (nthC C k).P := by rw [takeC_up h, allC_app]; simp [allC]
theorem allC_sum (C : List PCh) : (allC C).length + sumL (allC C) = sumC C := by
  induction C with
  | nil => rfl
  | cons x C ih => rw [allC, sumC, sum_app, List.length_append]; omega
theorem allC_mem {C : List PCh} {x : PAl} (h : x ∈ allC C) : ∃ c ∈ C, x ∈ c.P := by
  induction C with
  | nil => simp [allC] at h
  | cons y C ih =>
    rw [allC] at h
    rcases List.mem_append.1 h with h | h
    · exact ⟨y, by simp, h⟩
    · obtain ⟨c, hc, hx⟩ := ih h
      exact ⟨c, by simp [hc], hx⟩
theorem pals_two (rs qs : List ARow) : pals (rs ++ qs) = pals rs ++ pals qs := by simp [pals]
theorem fieldL (f : Int) (a : Option Addr) (n c : Nat) (w : World) : (Instr.field 64 (.agg #[.int .i64 f, .slice a n c]) 1).run Try.prog w = .ok (.slice a n c) w := by kernel_rfl
theorem bel_id {w w' : World} (h : Below w.heap.size w w') : Below w.heap.size w w' := h
theorem bel_box {w w' : World} {o : Obj} (h : Below (w.alloc o).heap.size (w.alloc o) w') : Below w.heap.size w w' := grow_on (Go.Joins.below_alloc1 w o) h
end Go.Proofs.Ytdbmpaocfmhlhaa.PrtA
