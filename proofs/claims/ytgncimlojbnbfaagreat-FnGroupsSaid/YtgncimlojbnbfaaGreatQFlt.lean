/-
  Rows of alarms of the call's own as one list of cells: what an append of several takes, and what it gives.
-/
import Derived.Test.YtgncimlojbnbfaaGreatQLst
set_option linter.unusedVariables false
namespace Go.Proofs.YtgncimlojbnbfaaGreat.Flt
open Go.RowKit
open Labs LabS Alms AlmM Over Blk App Rws ChnI ChnC
def flatA : List ARow → List Value
  | [] => []
  | x :: rs => rowV x ++ flatA rs
theorem flatA_len : ∀ rs : List ARow, (flatA rs).length = rs.length * 4
  | [] => rfl
  | x :: rs => by rw [flatA, List.length_append, flatA_len rs]; simp [rowV]; omega
theorem flatA_one : ∀ (rs : List ARow), ∀ v ∈ flatA rs, v.oneCell' = true
  | [], v, hv => by simp [flatA] at hv
  | x :: rs, v, hv => by
    rw [flatA] at hv
    rcases List.mem_append.1 hv with hv | hv
    · exact row_one x v hv
    · exact flatA_one rs v hv
theorem flatA_four : ∀ (rs : List ARow) (i : Nat), i < rs.length → Four (fun k => (flatA rs)[k]?) i (nthA rs i)
  | [], i, h => by simp at h
  | x :: rs, 0, h => by
    have e : nthA (x :: rs) 0 = x := by rw [nthA_eq (by simp)]; simp
    rw [e]
    have hr : ∀ j, j < 4 → (flatA (x :: rs))[0 * 4 + j]? = (rowV x)[j]? := fun j hj => by
      rw [flatA, Nat.zero_mul, Nat.zero_add, List.getElem?_append_left (by simp [rowV]; exact hj)]
    exact ⟨hr 0 (by omega), hr 1 (by omega), hr 2 (by omega), hr 3 (by omega)⟩
  | x :: rs, i + 1, h => by
    have hi : i < rs.length := by simpa using h
    have e : nthA (x :: rs) (i + 1) = nthA rs i := by rw [nthA_eq h, nthA_eq hi]; simp
    rw [e]
    have h4 := flatA_four rs i hi
    have hs : ∀ k, (flatA (x :: rs))[k + 4]? = (flatA rs)[k]? := fun k => by
      rw [flatA, List.getElem?_append_right (by simp [rowV])]
      simp [rowV]
    obtain ⟨h0, h1, h2, h3⟩ := h4
    refine ⟨?_, ?_, ?_, ?_⟩
    · show (flatA (x :: rs))[(i + 1) * 4]? = _
      have q : (i + 1) * 4 = i * 4 + 4 := by omega
      rw [q, hs]; exact h0
    · show (flatA (x :: rs))[(i + 1) * 4 + 1]? = _
      have q : (i + 1) * 4 + 1 = i * 4 + 1 + 4 := by omega
      rw [q, hs]; exact h1
    · show (flatA (x :: rs))[(i + 1) * 4 + 2]? = _
      have q : (i + 1) * 4 + 2 = i * 4 + 2 + 4 := by omega
      rw [q, hs]; exact h2
    · show (flatA (x :: rs))[(i + 1) * 4 + 3]? = _
      have q : (i + 1) * 4 + 3 = i * 4 + 3 + 4 := by omega
      rw [q, hs]; exact h3
theorem flatA_news {lo : Nat} {w : World} {M c : Nat} {rs : List ARow} (h : AB lo w M c rs) : ∀ j u, (flatA rs)[j]? = some u → w.cell? ((⟨M, 0, none⟩ : Addr).add j) = some u := fun j u hj => by
  obtain ⟨cur, h1, h2, h3⟩ := h.outer
  have hlt : j < rs.length * 4 := by
    have := (List.getElem?_eq_some_iff.1 hj).1
    rwa [flatA_len] at this
  have ea : (⟨M, 0, none⟩ : Addr).add j = ⟨M, j, none⟩ := by by_cases h : j = 0 <;> simp [Addr.add, h]
  rw [ea, h1.cell, ← hj]
  obtain ⟨i, r, hi, hr, e⟩ : ∃ i r, i < rs.length ∧ r < 4 ∧ j = i * 4 + r := ⟨j / 4, j % 4, by omega, Nat.mod_lt _ (by omega), by omega⟩
  obtain ⟨a0, a1, a2, a3⟩ := h3 i hi
  obtain ⟨b0, b1, b2, b3⟩ := flatA_four rs i hi
  subst e
  match r, hr with
  | 0, _ => exact a0.trans b0.symm
  | 1, _ => exact a1.trans b1.symm
  | 2, _ => exact a2.trans b2.symm
  | 3, _ => exact a3.trans b3.symm
theorem flatA_app (p q : List ARow) : flatA (p ++ q) = flatA p ++ flatA q := by
  induction p with
  | nil => rfl
  | cons x p ih => rw [List.cons_append, flatA, ih, flatA, List.append_assoc]
theorem AB.flat {lo : Nat} {w : World} {M c : Nat} {rs : List ARow} (h : AB lo w M c rs) : w.ownsRow lo 27 4 (.slice (some ⟨M, 0, none⟩) rs.length c) rs.length (flatA rs) := by
  obtain ⟨cur, h1, h2, h3⟩ := h.outer
  have hc := h.cap
  refine ⟨flatA_len rs, .inr ⟨M, c, cur, rfl, h.at', h1, hc.1, hc.2, h2, ?_⟩⟩
  apply List.ext_getElem?
  intro j
  by_cases hj : j < rs.length * 4
  · rw [List.getElem?_take_of_lt hj]
    have hn : ∃ u, (flatA rs)[j]? = some u := ⟨_, List.getElem?_eq_getElem (by rw [flatA_len]; exact hj)⟩
    obtain ⟨u, hu⟩ := hn
    have := flatA_news h j u hu
    have ea : (⟨M, 0, none⟩ : Addr).add j = ⟨M, j, none⟩ := by by_cases h : j = 0 <;> simp [Addr.add, h]
    rw [ea, h1.cell] at this
    rw [hu, ← this]; simp
  · rw [List.getElem?_eq_none (by simp; omega), List.getElem?_eq_none (by rw [flatA_len]; omega)]
theorem ab_flat {lo : Nat} {w : World} {v : Value} {rs : List ARow} (h : w.ownsRow lo 27 4 v rs.length (flatA rs)) (h0 : 0 < rs.length) (hrows : ∀ x ∈ rs, OwnA lo w x) (hne : rs.Pairwise fun x y => x.1 ≠ y.1) : ∃ M c, v = .slice (some ⟨M, 0, none⟩) rs.length c ∧ AB lo w M c rs := by
  rcases h.2 with ⟨_, e⟩ | ⟨g, cap, cur, e, hb, hgb, hc, hm, hz, ht⟩
  · omega
  · refine ⟨g, cap, e, hb, ⟨hc, hm⟩, ⟨cur, hgb, hz, fun i hi => ?_⟩, hrows, hne⟩
    refine (flatA_four rs i hi).congr fun k _ hk => ?_
    show cur[k]? = (flatA rs)[k]?
    rw [← ht, List.getElem?_take_of_lt (by omega)]; simp
end Go.Proofs.YtgncimlojbnbfaaGreat.Flt
