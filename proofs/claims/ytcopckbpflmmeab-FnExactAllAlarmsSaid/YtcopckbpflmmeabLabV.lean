/-
  Plain lists of labels: a set in order stays as it is when it is sorted; in what SortSet answers each label's value is found by its name. No program is spoken of.
-/
import Derived.Test.YtcopckbpflmmeabLabN
import Derived.Test.YtcopckbpflmmeabLabR
namespace Go.Proofs.Ytcopckbpflmmeab.LabV
open Go.Proofs.Ytcopckbpflmmeab.Labs Go.Proofs.Ytcopckbpflmmeab.LabS Go.Proofs.Ytcopckbpflmmeab.LabP Go.Proofs.Ytcopckbpflmmeab.LabN
open Go.Proofs.Ytcopckbpflmmeab.StrB (lessB)
open Go.Proofs.Ytcopckbpflmmeab.LabO (setB okAt set_long set_bad set_good)

theorem less_trans : ∀ {l m k : List UInt8}, Op.bytesLess l m = true → Op.bytesLess m k = true → Op.bytesLess l k = true
  | [], [], _, h, _ => by simp [Op.bytesLess] at h
  | [], _ :: _, [], _, h => by simp [Op.bytesLess] at h
  | [], _ :: _, _ :: _, _, _ => by simp [Op.bytesLess]
  | _ :: _, [], _, h, _ => by simp [Op.bytesLess] at h
  | _ :: _, _ :: _, [], _, h => by simp [Op.bytesLess] at h
  | a :: l, b :: m, c :: k, h1, h2 => by
    simp only [Op.bytesLess, Bool.or_eq_true, Bool.and_eq_true, decide_eq_true_eq, beq_iff_eq] at h1 h2 ⊢
    rcases h1 with h1 | ⟨e1, h1⟩
    · rcases h2 with h2 | ⟨e2, h2⟩
      · left; rw [UInt8.lt_iff_toNat_lt] at *; omega
      · left; rw [← e2]; exact h1
    · rcases h2 with h2 | ⟨e2, h2⟩
      · left; rw [e1]; exact h2
      · right; exact ⟨e1.trans e2, less_trans h1 h2⟩
theorem lessB_trans {a b c : ByteArray} (h : lessB a b = true) (k : lessB b c = true) : lessB a c = true := less_trans h k
theorem lessB_asymm {a b : ByteArray} (h : lessB a b = true) : lessB b a = false := by
  cases e : lessB b a with
  | false => rfl
  | true => rw [← lessB_irrefl a]; exact (lessB_trans h e).symm
theorem lessB_ne {a b : ByteArray} (h : lessB a b = true) : a ≠ b := fun e => by
  rw [e, lessB_irrefl] at h; cases h

theorem set_at {l : List Lab} (h : setB l = true) {i : Nat} (hi : i < l.length) : okAt l i = true := by
  cases e : okAt l i with
  | true => rfl
  | false => rw [set_bad hi e] at h; cases h
theorem set_step {l : List Lab} (h : setB l = true) {i : Nat} (hi : i + 1 < l.length) : lessB (nth l i).1 (nth l (i + 1)).1 = true := by
  have := set_at h hi
  unfold okAt at this
  simp at this
  exact this.2
theorem set_four {l : List Lab} (h : setB l = true) : ¬ 4 < l.length := fun e => by rw [set_long e] at h; cases h
/-- names go up -/
theorem set_up {l : List Lab} (h : setB l = true) : ∀ {i d : Nat}, i + (d + 1) < l.length → lessB (nth l i).1 (nth l (i + (d + 1))).1 = true
  | i, 0, hd => set_step h hd
  | i, d + 1, hd => lessB_trans (set_up h (d := d) (by omega)) (set_step h (i := i + (d + 1)) (by omega))
theorem nth_take {l : List Lab} {k i : Nat} (h : i < k) : nth (l.take k) i = nth l i := by
  unfold nth; simp only [List.getD_eq_getElem?_getD]; rw [List.getElem?_take_of_lt h]
/-- a set in order stays as it is -/
theorem upto_take {l : List Lab} (h : setB l = true) : ∀ k, k ≤ l.length → upto l k = l.take k
  | 0, _ => by simp [upto]
  | k + 1, hk => by
    have ih := upto_take h k (by omega)
    have hp : pos (nth l k) (l.take k) k = k := by
      cases k with
      | zero => rfl
      | succ j =>
        refine pos_no ?_
        rw [nth_take (Nat.lt_succ_self j)]
        exact lessB_asymm (set_step h (by omega))
    rw [upto, ins, ih, List.length_take, Nat.min_eq_left (by omega), hp, mid, List.take_take, Nat.min_self, List.drop_eq_nil_of_le (by simp; omega), nth_eq (by omega), List.take_succ_eq_append_getElem (by omega)]
theorem sort_set {l : List Lab} (h : setB l = true) : sortB l = (l, true) := by
  have e : upto l l.length = l := by rw [upto_take h _ (Nat.le_refl _), List.take_length]
  rw [sort_yes (set_four h) (by rw [e]; exact h), e]
/-- where SortSet says no, the list was no set in order -/
theorem sort_none {l : List Lab} (h : (sortB l).2 = false) : setB l = false ∧ sortB l = ([], false) := by
  refine ⟨?_, ?_⟩
  · cases e : setB l with
    | false => rfl
    | true => rw [sort_set e] at h; cases h
  · by_cases h4 : 4 < l.length
    · exact sort_long h4
    · cases e : setB (upto l l.length) with
      | false => exact sort_no h4 e
      | true => rw [sort_yes h4 e] at h; cases h
theorem sort_some {l : List Lab} (h : (sortB l).2 = true) : sortB l = (upto l l.length, true) ∧ setB (upto l l.length) = true := by
  by_cases h4 : 4 < l.length
  · rw [sort_long h4] at h; cases h
  · cases e : setB (upto l l.length) with
    | false => rw [sort_no h4 e] at h; cases h
    | true => exact ⟨sort_yes h4 e, rfl⟩
theorem upto_has (l : List Lab) : ∀ k i, i < k → ∃ m, m < k ∧ nth (upto l k) m = nth l i
  | 0, i, h => by omega
  | k + 1, i, h => by
    have hp := pos_le (nth l k) (upto l k) (upto l k).length
    rw [upto_length] at hp
    have e : upto l (k + 1) = mid (upto l k) (nth l k) (pos (nth l k) (upto l k) k) := by rw [upto, ins, upto_length]
    rw [e]
    by_cases hi : i = k
    · exact ⟨pos (nth l k) (upto l k) k, by omega, by rw [hi, nth_mid_eq (by rw [upto_length]; exact hp)]⟩
    · obtain ⟨m, hm, em⟩ := upto_has l k i (by omega)
      by_cases h1 : m < pos (nth l k) (upto l k) k
      · exact ⟨m, by omega, by rw [nth_mid_lt h1 (by rw [upto_length]; exact hp), em]⟩
      · exact ⟨m + 1, by omega, by rw [nth_mid_gt (by omega) (by rw [upto_length]; exact hp)]; exact em⟩
/-- in a set in order each label is found by its name -/
theorem val_set {s : List Lab} (h : setB s = true) {m : Nat} (hm : m < s.length) : LabS.valOf s (nth s m).1 = ((nth s m).2, true) := by
  refine val_hit (fun j hj => ?_) hm rfl
  obtain ⟨d, rfl⟩ : ∃ d, m = j + (d + 1) := ⟨m - j - 1, by omega⟩
  exact lessB_ne (set_up h hm)
theorem val_sorted {l : List Lab} (h : (sortB l).2 = true) {i : Nat} (hi : i < l.length) : LabS.valOf (upto l l.length) (nth l i).1 = ((nth l i).2, true) := by
  obtain ⟨m, hm, e⟩ := upto_has l l.length i hi
  rw [← e]
  exact val_set (sort_some h).2 (by rw [upto_length]; exact hm)
end Go.Proofs.Ytcopckbpflmmeab.LabV
