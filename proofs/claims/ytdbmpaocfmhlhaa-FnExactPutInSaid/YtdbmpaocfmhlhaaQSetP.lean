/-
  PROVED: plain facts of the text of a set of labels: what it is, and that both ways of cutting a text give a set back of its text, so that they answer alike at every text.
-/
import Derived.Test.YtdbmpaocfmhlhaaQLabO
import Derived.Lib.IndexMore
import Derived.Lib.Strings
import Derived.Lib.Join
namespace Go.Proofs.Ytdbmpaocfmhlhaa.SetP
open Go.Proofs.Ytdbmpaocfmhlhaa.Names Go.Proofs.Ytdbmpaocfmhlhaa.Labs Go.Proofs.Ytdbmpaocfmhlhaa.LabS Go.Proofs.Ytdbmpaocfmhlhaa.LabO
set_option linter.unusedVariables false

def mk (l : List UInt8) : ByteArray := ⟨l.toArray⟩
def bs (s : ByteArray) : List UInt8 := s.data.toList
theorem bs_mk (l : List UInt8) : bs (mk l) = l := by simp [bs, mk]
theorem mk_bs (s : ByteArray) : mk (bs s) = s := by cases s; simp [bs, mk]
theorem size_mk (l : List UInt8) : (mk l).size = l.length := by show l.toArray.size = _; simp
theorem bs_len (s : ByteArray) : (bs s).length = s.size := by show s.data.toList.length = s.data.size; simp
/-- one label's own words -/
def word (x : Lab) : List UInt8 := bs x.1 ++ (61 :: 34 :: (bs x.2 ++ [34]))
/-- what follows the first one -/
def tailW : List Lab → List UInt8
  | [] => []
  | x :: l => 44 :: 32 :: (word x ++ tailW l)
def words : List Lab → List UInt8
  | [] => []
  | x :: l => word x ++ tailW l
def body (l : List Lab) : List UInt8 := words l ++ [125]
def textB (l : List Lab) : List UInt8 := 123 :: body l
def setText (l : List Lab) : ByteArray := if setB l = true then mk (textB l) else ⟨#[]⟩
theorem text_yes {l : List Lab} (h : setB l = true) : setText l = mk (textB l) := by unfold setText; rw [if_pos h]
theorem text_no {l : List Lab} (h : setB l = false) : setText l = ⟨#[]⟩ := by unfold setText; rw [if_neg (by rw [h]; decide)]
theorem tailW_add (l : List Lab) (x : Lab) : tailW (l ++ [x]) = tailW l ++ (44 :: 32 :: word x) := by
  induction l with
  | nil => simp [tailW]
  | cons y l ih => simp [tailW, ih]
/-- the words of the first k -/
def pre (l : List Lab) (k : Nat) : List UInt8 := words (l.take k)
theorem pre_zero (l : List Lab) : pre l 0 = [] := by simp [pre, words]
theorem take_up {l : List Lab} {k : Nat} (h : k < l.length) : l.take (k + 1) = l.take k ++ [nth l k] := by
  rw [nth_eq h, List.take_append_getElem h]
theorem pre_one {l : List Lab} (h : 0 < l.length) : pre l 1 = word (nth l 0) := by
  unfold pre; rw [take_up h]; simp [words, tailW]
theorem pre_up {l : List Lab} {k : Nat} (h : k + 1 < l.length) : pre l (k + 1 + 1) = pre l (k + 1) ++ (44 :: 32 :: word (nth l (k + 1))) := by
  unfold pre
  rw [take_up h]
  match l, h with
  | [], h => simp at h
  | y :: l, h => simp [words, tailW_add]
theorem pre_all (l : List Lab) : pre l l.length = words l := by simp [pre]
theorem join_words (l : List Lab) : Lib.join (l.map word) [44, 32] = words l := by
  cases l with
  | nil => rfl
  | cons x l =>
    simp only [List.map, words]
    induction l generalizing x with
    | nil => simp [Lib.join, tailW]
    | cons y l ih =>
      have h := ih y
      simp [Lib.join, List.intercalate, tailW] at h ⊢
      exact h

theorem lab_parts {x : Lab} (h : labB x = true) : nameB x.1 = true ∧ plainB x.2 = true := by
  unfold labB at h; simpa using h
theorem set_len {l : List Lab} (h : setB l = true) : l.length ≤ 4 := by
  unfold setB at h; rw [Bool.and_eq_true] at h; exact of_decide_eq_true h.1
theorem set_labs {l : List Lab} (h : setB l = true) : ∀ x ∈ l, labB x = true := by
  unfold setB at h
  rw [Bool.and_eq_true, List.all_eq_true] at h
  intro x hx
  obtain ⟨i, hi, rfl⟩ := List.getElem_of_mem hx
  have := h.2 i (List.mem_range.2 hi)
  unfold okAt at this
  rw [Bool.and_eq_true, nth_eq hi] at this
  exact this.1
/-- how long the texts of a set are -/
theorem lab_sizes {x : Lab} (h : labB x = true) : x.1.size ≤ 8 ∧ x.2.size ≤ 12 := by
  obtain ⟨h1, h2⟩ := lab_parts h
  unfold nameB inB at h1
  unfold plainB at h2
  rw [Bool.and_eq_true] at h1 h2
  have a := of_decide_eq_true h1.2
  have b := of_decide_eq_true h2.2
  exact ⟨by omega, by omega⟩
theorem word_len {x : Lab} (h : labB x = true) : (word x).length ≤ 23 := by
  have := lab_sizes h
  simp [word, bs_len]; omega
theorem tail_len : ∀ (l : List Lab), (∀ x ∈ l, labB x = true) → (tailW l).length ≤ 25 * l.length
  | [], _ => by simp [tailW]
  | x :: l, h => by
    have h1 := word_len (h x (by simp))
    have h2 := tail_len l fun y hy => h y (by simp [hy])
    simp [tailW]; omega
theorem words_len {l : List Lab} (h : setB l = true) : (words l).length ≤ 100 := by
  have h1 := set_len h
  have h2 := set_labs h
  match l, h1, h2 with
  | [], _, _ => simp [words]
  | x :: l, h1, h2 =>
    have h3 := word_len (h2 x (by simp))
    have h4 := tail_len l fun y hy => h2 y (by simp [hy])
    simp [words] at h1 ⊢; omega
theorem setText_size (l : List Lab) : (setText l).size ≤ 102 := by
  cases hb : setB l with
  | true => rw [text_yes hb, size_mk]; have := words_len hb; simp [textB, body]; omega
  | false => rw [text_no hb]; decide
end Go.Proofs.Ytdbmpaocfmhlhaa.SetP
