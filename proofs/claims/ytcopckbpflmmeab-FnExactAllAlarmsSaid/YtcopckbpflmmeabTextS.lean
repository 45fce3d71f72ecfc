/-
  PROVED: over a slice of labels in memory spec.SetText answers the text of the set, nothing where it is no set; nothing that was there is changed.
-/
import Derived.Test.YtcopckbpflmmeabSetP
import Derived.Deep.QuietTactic
namespace Go.Proofs.Ytcopckbpflmmeab.TextS
open Go.RowKit
open Go.Proofs.Ytcopckbpflmmeab.Labs Go.Proofs.Ytcopckbpflmmeab.LabS Go.Proofs.Ytcopckbpflmmeab.LabO Go.Proofs.Ytcopckbpflmmeab.SetP
open Go.Proofs.Ytcopckbpflmmeab.Over
set_option linter.unusedVariables false

theorem mk_add (a b : List UInt8) : mk a ++ mk b = mk (a ++ b) := by
  have h : bs (mk a ++ mk b) = bs (mk (a ++ b)) := by
    rw [bs_mk]
    show (mk a ++ mk b).data.toList = a ++ b
    rw [ByteArray.data_append]
    simp [mk]
  rw [← mk_bs (mk a ++ mk b), h, mk_bs]
theorem add_mk (s : ByteArray) (b : List UInt8) : s ++ mk b = mk (bs s ++ b) := by rw [← mk_add, mk_bs]
/-- what is written of the first k -/
def sAt (l : List Lab) (k : Nat) : ByteArray := mk (123 :: pre l k)
theorem sAt_zero (l : List Lab) : sAt l 0 = ⟨#[123]⟩ := by unfold sAt; rw [pre_zero]; rfl
theorem add_word (s : List UInt8) (x : Lab) : mk s ++ x.1 ++ ByteArray.mk #[61, 34] ++ x.2 ++ ByteArray.mk #[34] = mk (s ++ word x) := by
  have e1 : mk s ++ x.1 = mk (s ++ bs x.1) := by rw [← mk_add, mk_bs]
  have e2 : ∀ t, mk t ++ ByteArray.mk #[61, 34] = mk (t ++ [61, 34]) := fun t => mk_add t [61, 34]
  have e3 : ∀ t, mk t ++ x.2 = mk (t ++ bs x.2) := fun t => by rw [← mk_add, mk_bs]
  have e4 : ∀ t, mk t ++ ByteArray.mk #[34] = mk (t ++ [34]) := fun t => mk_add t [34]
  rw [e1, e2, e3, e4]
  simp [word]
theorem sAt_one {l : List Lab} (h : 0 < l.length) : sAt l 1 = ByteArray.mk #[123] ++ (nth l 0).1 ++ ByteArray.mk #[61, 34] ++ (nth l 0).2 ++ ByteArray.mk #[34] := by
  have e : ByteArray.mk #[123] = mk [123] := rfl
  rw [e, add_word]
  unfold sAt
  rw [pre_one h]
  rfl
theorem sAt_up {l : List Lab} {k : Nat} (h : k + 1 < l.length) : sAt l (k + 1 + 1) = sAt l (k + 1) ++ ByteArray.mk #[44, 32] ++ (nth l (k + 1)).1 ++ ByteArray.mk #[61, 34] ++ (nth l (k + 1)).2 ++ ByteArray.mk #[34] := by
  have e : sAt l (k + 1) ++ ByteArray.mk #[44, 32] = mk ((123 :: pre l (k + 1)) ++ [44, 32]) := mk_add _ [44, 32]
  rw [e, add_word]
  unfold sAt
  rw [pre_up h]
  simp
theorem sAt_all (l : List Lab) : sAt l l.length ++ ByteArray.mk #[125] = mk (textB l) := by
  have e : sAt l l.length ++ ByteArray.mk #[125] = mk ((123 :: pre l l.length) ++ [125]) := mk_add _ [125]
  rw [e, pre_all]
  rfl
theorem sAt_size {l : List Lab} (h : setB l = true) (k : Nat) : (sAt l k).size ≤ 101 := by
  have h1 := set_len h
  have h2 : ∀ x ∈ l.take k, labB x = true := fun x hx => set_labs h x (List.mem_of_mem_take hx)
  have h3 : (l.take k).length ≤ 4 := by simp; omega
  unfold sAt
  rw [size_mk]
  unfold pre
  generalize l.take k = m at h2 h3
  match m, h2, h3 with
  | [], _, _ => simp [words]
  | x :: m, h2, h3 =>
    have h4 := word_len (h2 x (by simp))
    have h5 := tail_len m fun y hy => h2 y (by simp [hy])
    simp [words] at h3 ⊢; omega
theorem nth_sizes {l : List Lab} (h : setB l = true) {k : Nat} (hk : k < l.length) : (nth l k).1.size ≤ 8 ∧ (nth l k).2.size ≤ 12 := by
  rw [nth_eq hk]; exact lab_sizes (set_labs h _ (List.getElem_mem hk))
theorem retS {a b : ByteArray} (h : a = b) : Ending.returned (.string a) = .returned (.string b) := by rw [h]
theorem strV {a b : ByteArray} (h : a = b) : Value.string a = .string b := by rw [h]

end Go.Proofs.Ytcopckbpflmmeab.TextS
