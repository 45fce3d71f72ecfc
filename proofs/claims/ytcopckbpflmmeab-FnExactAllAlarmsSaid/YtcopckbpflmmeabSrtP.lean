/-
  Plain lists of alarms: each put, from the right, behind those whose labels are not ahead of which its own are: what comes of it is sorted by the labels, those of the same labels in their order; there is one such list. Rows of cells, whole.
-/
import Derived.Test.YtcopckbpflmmeabPrtA
import Derived.Test.YtcopckbpflmmeabStb
namespace Go.Proofs.Ytcopckbpflmmeab.SrtP
open Go.RowKit
open Go.Proofs.Ytcopckbpflmmeab.Labs Go.Proofs.Ytcopckbpflmmeab.LabS Go.Proofs.Ytcopckbpflmmeab.Alms Go.Proofs.Ytcopckbpflmmeab.AlmS Go.Proofs.Ytcopckbpflmmeab.AlmM Go.Proofs.Ytcopckbpflmmeab.Over Go.Proofs.Ytcopckbpflmmeab.Blk Go.Proofs.Ytcopckbpflmmeab.App Go.Proofs.Ytcopckbpflmmeab.Rws Go.Proofs.Ytcopckbpflmmeab.PrtA Go.Proofs.Ytcopckbpflmmeab.Stb
open Go.Proofs.Ytcopckbpflmmeab.LabL (slB)
set_option linter.unusedVariables false

/-- how far from the left x stands in Q, looked for from the k-th one down -/
def posA (x : List Lab) (Q : List PAl) : Nat → Nat
  | 0 => 0
  | k + 1 => if slB x (nthP Q k).l = true then posA x Q k else k + 1
theorem posA_0 (x : List Lab) (Q : List PAl) : posA x Q 0 = 0 := rfl
theorem posA_yes {x : List Lab} {Q : List PAl} {k : Nat} (h : slB x (nthP Q k).l = true) : posA x Q (k + 1) = posA x Q k := if_pos h
theorem posA_no {x : List Lab} {Q : List PAl} {k : Nat} (h : slB x (nthP Q k).l = false) : posA x Q (k + 1) = k + 1 := if_neg (by rw [h]; simp)
theorem posA_le (x : List Lab) (Q : List PAl) : ∀ k, posA x Q k ≤ k
  | 0 => Nat.le_refl _
  | k + 1 => by have := posA_le x Q k; rw [posA]; split <;> omega
theorem posA_hi {x : List Lab} {Q : List PAl} : ∀ {k j : Nat}, posA x Q k ≤ j → j < k → slB x (nthP Q j).l = true
  | 0, j, _, h => by omega
  | k + 1, j, h1, h2 => by
    cases hq : slB x (nthP Q k).l with
    | false => rw [posA_no hq] at h1; omega
    | true =>
      rw [posA_yes hq] at h1
      by_cases e : j = k
      · subst e; exact hq
      · exact posA_hi h1 (by omega)
theorem posA_lo {x : List Lab} {Q : List PAl} : ∀ {k : Nat}, posA x Q k = 0 ∨ slB x (nthP Q (posA x Q k - 1)).l = false
  | 0 => .inl rfl
  | k + 1 => by
    cases hq : slB x (nthP Q k).l with
    | false => right; rw [posA_no hq]; exact hq
    | true => rw [posA_yes hq]; exact posA_lo
/-- y put ahead of the p-th one -/
def midP (Q : List PAl) (y : PAl) (p : Nat) : List PAl := Q.take p ++ y :: Q.drop p
def insP (Q : List PAl) (y : PAl) : List PAl := midP Q y (posA y.l Q Q.length)
def srtA (P : List PAl) : Nat → List PAl
  | 0 => []
  | k + 1 => insP (srtA P k) (nthP P k)
def sortP (P : List PAl) : List PAl := srtA P P.length
theorem mid_len (Q : List PAl) (y : PAl) (p : Nat) : (midP Q y p).length = Q.length + 1 := by unfold midP; simp; omega
theorem srtA_len (P : List PAl) : ∀ k, (srtA P k).length = k
  | 0 => rfl
  | k + 1 => by rw [srtA, insP, mid_len, srtA_len P k]
/-- sorted by the labels, those of the same labels in their order -/
def IsSort (P Q : List PAl) : Prop := St (fun x : PAl => x.l) P Q ∧ SrtL slB (fun x : PAl => x.l) Q
theorem IsSort.one {P Q Q' : List PAl} (h : IsSort P Q) (h' : IsSort P Q') : Q = Q' := St.one ordL (h.1.symm.trans h'.1) h.2 h'.2
theorem srtL_nth {Q : List PAl} (h : SrtL slB (fun x : PAl => x.l) Q) {i j : Nat} (hij : i < j) (hj : j < Q.length) : slB (nthP Q j).l (nthP Q i).l = false := by
  unfold SrtL at h
  rw [List.pairwise_iff_getElem] at h
  have := h i j (by omega) hj hij
  rw [nthP_eq hj, nthP_eq (by omega)]
  exact this
theorem st_app {A B : List PAl} (h : St (fun x : PAl => x.l) A B) (C : List PAl) : St (fun x : PAl => x.l) (A ++ C) (B ++ C) := ⟨h.perm.append_right C, fun k => by rw [List.filter_append, List.filter_append, h.same k]⟩
theorem mem_take {Q : List PAl} {p : Nat} {x : PAl} (h : x ∈ Q.take p) : ∃ i, i < p ∧ i < Q.length ∧ x = nthP Q i := by
  obtain ⟨i, hi, rfl⟩ := List.mem_iff_getElem.1 h
  have hl : i < p ∧ i < Q.length := by simp at hi; omega
  exact ⟨i, hl.1, hl.2, by rw [nthP_eq hl.2, List.getElem_take]⟩
theorem mem_drop {Q : List PAl} {p : Nat} {x : PAl} (h : x ∈ Q.drop p) : ∃ i, p ≤ i ∧ i < Q.length ∧ x = nthP Q i := by
  obtain ⟨i, hi, rfl⟩ := List.mem_iff_getElem.1 h
  have hl : p + i < Q.length := by simp at hi; omega
  exact ⟨p + i, by omega, hl, by rw [nthP_eq hl, List.getElem_drop]⟩
theorem ins_sort {P Q : List PAl} {y : PAl} (h : IsSort P Q) : IsSort (P ++ [y]) (insP Q y) := by
  unfold insP
  have hle := posA_le y.l Q Q.length
  have hhi : ∀ j, posA y.l Q Q.length ≤ j → j < Q.length → slB y.l (nthP Q j).l = true := fun j h1 h2 => posA_hi h1 h2
  have hlo := posA_lo (x := y.l) (Q := Q) (k := Q.length)
  generalize posA y.l Q Q.length = p at hle hhi hlo
  refine ⟨(st_app h.1 [y]).trans ?_, ?_⟩
  · have e : Q ++ [y] = Q.take p ++ (Q.drop p ++ ([y] ++ [])) := by rw [List.append_nil, ← List.append_assoc, List.take_append_drop]
    have e2 : midP Q y p = Q.take p ++ ([y] ++ (Q.drop p ++ [])) := by unfold midP; simp
    rw [e, e2]
    refine St.mid fun a ha b hb hab => ?_
    obtain ⟨i, hi, hi', rfl⟩ := mem_drop ha
    rw [List.mem_singleton.1 hb] at hab
    have := hhi i hi hi'
    rw [show (nthP Q i).l = y.l from hab, ordL.irr] at this
    cases this
  · have hs := h.2
    unfold SrtL at hs ⊢
    unfold midP
    rw [List.pairwise_append, List.pairwise_cons]
    have ylo : ∀ i, i < p → slB y.l (nthP Q i).l = false := fun i hi => by
      rcases hlo with h0 | h0
      · omega
      · by_cases e : i = p - 1
        · rw [e]; exact h0
        · exact ordL.le_trans (srtL_nth h.2 (i := i) (j := p - 1) (by omega) (by omega)) h0
    refine ⟨hs.sublist (List.take_sublist _ _), ⟨fun b hb => ?_, hs.sublist (List.drop_sublist _ _)⟩, fun a ha b hb => ?_⟩
    · obtain ⟨i, hi, hi', rfl⟩ := mem_drop hb
      exact ordL.asymm (hhi i hi hi')
    · obtain ⟨i, hi, hi', rfl⟩ := mem_take ha
      rcases List.mem_cons.1 hb with rfl | hb
      · exact ylo i hi
      · obtain ⟨j, hj, hj', rfl⟩ := mem_drop hb
        exact srtL_nth h.2 (by omega) hj'
theorem srtA_sort (P : List PAl) : ∀ k, k ≤ P.length → IsSort (P.take k) (srtA P k)
  | 0, _ => ⟨by rw [List.take_zero, srtA]; exact St.refl _, List.Pairwise.nil⟩
  | k + 1, h => by
    rw [srtA, takeP_up (by omega)]
    exact ins_sort (srtA_sort P k (by omega))
theorem sort_is (P : List PAl) : IsSort P (sortP P) := by have := srtA_sort P P.length (Nat.le_refl _); rwa [List.take_length] at this
theorem sort_one {P Q : List PAl} (h : IsSort P Q) : Q = sortP P := h.one (sort_is P)
theorem sort_perm (P : List PAl) : P.Perm (sortP P) := (sort_is P).1.perm
theorem sum_perm {P Q : List PAl} (h : P.Perm Q) : sumL P = sumL Q := by
  induction h with
  | nil => rfl
  | cons x _ ih => simp only [sumL]; rw [ih]
  | swap x y l => simp only [sumL]; omega
  | trans _ _ h1 h2 => rw [h1, h2]
/-- the cells of rows, put together -/
theorem flatA_app (p q : List ARow) : flatA (p ++ q) = flatA p ++ flatA q := by
  induction p with
  | nil => rfl
  | cons x p ih => rw [List.cons_append, flatA, ih, flatA, List.append_assoc]
theorem flatA_take : ∀ (p : List ARow) (k : Nat), (flatA p).take (k * 4) = flatA (p.take k)
  | p, 0 => by simp [flatA]
  | [], k + 1 => by simp [flatA]
  | x :: p, k + 1 => by
    have e : (k + 1) * 4 = k * 4 + 1 + 1 + 1 + 1 := by omega
    rw [e, flatA, rowV, List.take_succ_cons, flatA, rowV]
    simp only [List.cons_append, List.nil_append, List.take_succ_cons]
    rw [flatA_take p k]
theorem flatA_drop : ∀ (p : List ARow) (k : Nat), (flatA p).drop (k * 4) = flatA (p.drop k)
  | p, 0 => by simp
  | [], k + 1 => by simp [flatA]
  | x :: p, k + 1 => by
    have e : (k + 1) * 4 = k * 4 + 1 + 1 + 1 + 1 := by omega
    rw [e, flatA, rowV]
    simp only [List.cons_append, List.nil_append, List.drop_succ_cons]
    rw [flatA_drop p k]
theorem AB.flat {lo : Nat} {w : World} {M c : Nat} {rs : List ARow} (h : AB lo w M c rs) : w.ownsRow lo 68 4 (.slice (some ⟨M, 0, none⟩) rs.length c) rs.length (flatA rs) := by
  obtain ⟨cur, h1, h2, h3⟩ := h.outer
  have hc := h.cap
  refine ⟨flatA_len rs, .inr ⟨M, c, cur, rfl, h.at', h1, hc.1, hc.2, h2, ?_⟩⟩
  apply List.ext_getElem?
  intro j
  by_cases hj : j < rs.length * 4
  · rw [List.getElem?_take_of_lt hj]
    have hn : ∃ u, (flatA rs)[j]? = some u := ⟨_, List.getElem?_eq_getElem (by rw [flatA_len]; exact hj)⟩
    obtain ⟨u, hu⟩ := hn
    have := flatA_news h j u hu
    have ea : (⟨M, 0, none⟩ : Addr).add j = ⟨M, j, none⟩ := by by_cases h : j = 0 <;> simp [Addr.add, h]
    rw [ea, h1.cell] at this
    rw [hu, ← this]; simp
  · rw [List.getElem?_eq_none (by simp; omega), List.getElem?_eq_none (by rw [flatA_len]; omega)]
theorem ab_flat {lo : Nat} {w : World} {v : Value} {rs : List ARow} (h : w.ownsRow lo 68 4 v rs.length (flatA rs)) (h0 : 0 < rs.length) (hrows : ∀ x ∈ rs, OwnA lo w x) (hne : rs.Pairwise fun x y => x.1 ≠ y.1) : ∃ M c, v = .slice (some ⟨M, 0, none⟩) rs.length c ∧ AB lo w M c rs := by
  rcases h.2 with ⟨_, e⟩ | ⟨g, cap, cur, e, hb, hgb, hc, hm, hz, ht⟩
  · omega
  · refine ⟨g, cap, e, hb, ⟨hc, hm⟩, ⟨cur, hgb, hz, fun i hi => ?_⟩, hrows, hne⟩
    refine (flatA_four rs i hi).congr fun k _ hk => ?_
    show cur[k]? = (flatA rs)[k]?
    rw [← ht, List.getElem?_take_of_lt (by omega)]; simp
end Go.Proofs.Ytcopckbpflmmeab.SrtP
