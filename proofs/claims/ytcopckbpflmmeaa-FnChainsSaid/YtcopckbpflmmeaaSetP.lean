/-
  PROVED: plain facts of the text of a set of labels: what it is, and that both ways of cutting a text give a set back of its text, so that they answer alike at every text.
-/
import Derived.Test.YtcopckbpflmmeaaLabO
import Derived.Lib.IndexMore
import Derived.Lib.Strings
import Derived.Lib.Join
namespace Go.Proofs.Ytcopckbpflmmeaa.SetP
open Go.Proofs.Ytcopckbpflmmeaa.Names Go.Proofs.Ytcopckbpflmmeaa.Labs Go.Proofs.Ytcopckbpflmmeaa.LabS Go.Proofs.Ytcopckbpflmmeaa.LabO
set_option linter.unusedVariables false

def mk (l : List UInt8) : ByteArray := ⟨l.toArray⟩
def bs (s : ByteArray) : List UInt8 := s.data.toList
theorem bs_mk (l : List UInt8) : bs (mk l) = l := by simp [bs, mk]
theorem mk_bs (s : ByteArray) : mk (bs s) = s := by cases s; simp [bs, mk]
theorem size_mk (l : List UInt8) : (mk l).size = l.length := by show l.toArray.size = _; simp
theorem bs_len (s : ByteArray) : (bs s).length = s.size := by show s.data.toList.length = s.data.size; simp
theorem mk_inj {a b : List UInt8} (h : mk a = mk b) : a = b := by rw [← bs_mk a, h, bs_mk]

/-- one label's own words -/
def word (x : Lab) : List UInt8 := bs x.1 ++ (61 :: 34 :: (bs x.2 ++ [34]))
/-- what follows the first one -/
def tailW : List Lab → List UInt8
  | [] => []
  | x :: l => 44 :: 32 :: (word x ++ tailW l)
def words : List Lab → List UInt8
  | [] => []
  | x :: l => word x ++ tailW l
def body (l : List Lab) : List UInt8 := words l ++ [125]
def textB (l : List Lab) : List UInt8 := 123 :: body l
def setText (l : List Lab) : ByteArray := if setB l = true then mk (textB l) else ⟨#[]⟩
theorem text_yes {l : List Lab} (h : setB l = true) : setText l = mk (textB l) := by unfold setText; rw [if_pos h]
theorem text_no {l : List Lab} (h : setB l = false) : setText l = ⟨#[]⟩ := by unfold setText; rw [if_neg (by rw [h]; decide)]
theorem tailW_add (l : List Lab) (x : Lab) : tailW (l ++ [x]) = tailW l ++ (44 :: 32 :: word x) := by
  induction l with
  | nil => simp [tailW]
  | cons y l ih => simp [tailW, ih]
/-- the words of the first k -/
def pre (l : List Lab) (k : Nat) : List UInt8 := words (l.take k)
theorem pre_zero (l : List Lab) : pre l 0 = [] := by simp [pre, words]
theorem take_up {l : List Lab} {k : Nat} (h : k < l.length) : l.take (k + 1) = l.take k ++ [nth l k] := by
  rw [nth_eq h, List.take_append_getElem h]
theorem pre_one {l : List Lab} (h : 0 < l.length) : pre l 1 = word (nth l 0) := by
  unfold pre; rw [take_up h]; simp [words, tailW]
theorem pre_up {l : List Lab} {k : Nat} (h : k + 1 < l.length) : pre l (k + 1 + 1) = pre l (k + 1) ++ (44 :: 32 :: word (nth l (k + 1))) := by
  unfold pre
  rw [take_up h]
  match l, h with
  | [], h => simp at h
  | y :: l, h => simp [words, tailW_add]
theorem pre_all (l : List Lab) : pre l l.length = words l := by simp [pre]
theorem join_words (l : List Lab) : Lib.join (l.map word) [44, 32] = words l := by
  cases l with
  | nil => rfl
  | cons x l =>
    simp only [List.map, words]
    induction l generalizing x with
    | nil => simp [Lib.join, tailW]
    | cons y l ih =>
      have h := ih y
      simp [Lib.join, List.intercalate, tailW] at h ⊢
      exact h

theorem idx (a : UInt8) (t n r : List UInt8) (hn : ∀ c ∈ n, c ≠ a) : Lib.index (n ++ (a :: t ++ r)) (a :: t) = n.length := by
  induction n with
  | nil => simp [Lib.index]
  | cons c n ih =>
    have h1 : (a == c) = false := by simpa using fun e => hn c (by simp) e.symm
    have h2 := ih fun d hd => hn d (by simp [hd])
    simp only [List.cons_append] at h2 ⊢
    unfold Lib.index
    simp only [List.isPrefixOf, h1, Bool.false_and, Bool.false_eq_true, if_false]
    rw [h2, if_neg (by simp)]
    simp
theorem cut_at (a : UInt8) (t n r : List UInt8) (hn : ∀ c ∈ n, c ≠ a) : Lib.cut (n ++ (a :: t ++ r)) (a :: t) = (n, r, true) := by
  unfold Lib.cut
  rw [idx a t n r hn, if_pos (by omega)]
  have e : ((n.length : Int)).toNat = n.length := by simp
  rw [e]
  have e2 : n ++ (a :: t ++ r) = n ++ (a :: t) ++ r := by simp
  have h1 : (n ++ (a :: t ++ r)).take n.length = n := by simp
  have h2 : (n ++ (a :: t ++ r)).drop (n.length + (a :: t).length) = r := by
    rw [e2, show n.length + (a :: t).length = (n ++ (a :: t)).length by simp, List.drop_left]
  rw [h1, h2]

/-- cutting at the quotes, as impl does: at most k labels -/
def cutN : Nat → List UInt8 → List Lab
  | 0, _ => []
  | k + 1, r =>
    if (Lib.cut r [61, 34]).2.2 = true ∧ (Lib.cut (Lib.cut r [61, 34]).2.1 [34]).2.2 = true
    then (mk (Lib.cut r [61, 34]).1, mk (Lib.cut (Lib.cut r [61, 34]).2.1 [34]).1) :: cutN k (Lib.trimPrefix (Lib.cut (Lib.cut r [61, 34]).2.1 [34]).2.1 [44, 32])
    else []
theorem name_no61 {s : ByteArray} (h : nameB s = true) : ∀ c ∈ bs s, c ≠ 61 := by
  unfold nameB allP at h
  rw [Bool.and_eq_true, List.all_eq_true] at h
  intro c hc e
  have := h.1 c hc
  rw [e] at this
  exact absurd this (by decide)
theorem plain_no34 {s : ByteArray} (h : plainB s = true) : ∀ c ∈ bs s, c ≠ 34 := by
  unfold plainB allP at h
  rw [Bool.and_eq_true, List.all_eq_true] at h
  intro c hc e
  have := h.1 c hc
  rw [e] at this
  exact absurd this (by decide)
theorem lab_parts {x : Lab} (h : labB x = true) : nameB x.1 = true ∧ plainB x.2 = true := by
  unfold labB at h; simpa using h
theorem trim_tail (l : List Lab) : Lib.trimPrefix (tailW l ++ [125]) [44, 32] = body l := by
  cases l with
  | nil => rfl
  | cons x l => simp [Lib.trimPrefix, Lib.hasPrefix, tailW, body, words]
theorem cutN_body : ∀ (l : List Lab) (k : Nat), l.length ≤ k → (∀ x ∈ l, labB x = true) → cutN k (body l) = l
  | [], 0, _, _ => rfl
  | [], k + 1, _, _ => by
    unfold cutN
    rw [if_neg (by decide)]
  | x :: l, 0, h, _ => by simp at h
  | x :: l, k + 1, h, hx => by
    obtain ⟨h1, h2⟩ := lab_parts (hx x (by simp))
    have e1 : body (x :: l) = bs x.1 ++ (61 :: [34] ++ (bs x.2 ++ (34 :: [] ++ (tailW l ++ [125])))) := by simp [body, words, word]
    have c1 := cut_at 61 [34] (bs x.1) (bs x.2 ++ (34 :: [] ++ (tailW l ++ [125]))) (name_no61 h1)
    have c2 := cut_at 34 [] (bs x.2) (tailW l ++ [125]) (plain_no34 h2)
    unfold cutN
    rw [e1, c1]
    simp only
    rw [c2]
    simp only [and_self, if_true]
    rw [trim_tail, cutN_body l k (by simpa using h) (fun y hy => hx y (by simp [hy])), mk_bs, mk_bs]
/-- up to the next byte b, and what is behind it -/
def upTo (b : UInt8) : List UInt8 → Option (List UInt8 × List UInt8)
  | [] => none
  | c :: r => if c = b then some ([], r) else (upTo b r).map fun p => (c :: p.1, p.2)
theorem upTo_at (b : UInt8) (n r : List UInt8) (hn : ∀ c ∈ n, c ≠ b) : upTo b (n ++ b :: r) = some (n, r) := by
  induction n with
  | nil => simp [upTo]
  | cons c n ih =>
    have h2 := ih fun d hd => hn d (by simp [hd])
    simp [upTo, hn c (by simp), h2]
/-- cutting as spec does: at most k labels; 'first': no sign ahead of it -/
def specN : Nat → Bool → List UInt8 → List Lab
  | 0, _, _ => []
  | k + 1, first, r =>
    if r.length < 2 then [] else
    match upTo 61 (if first then r else r.drop 2) with
    | none => []
    | some (n, r1) =>
      match upTo 34 (r1.drop 1) with
      | none => []
      | some (v, r2) => (mk n, mk v) :: specN k false r2
theorem specN_tail : ∀ (l : List Lab) (k : Nat), l.length ≤ k → (∀ x ∈ l, labB x = true) → specN k false (tailW l ++ [125]) = l
  | [], 0, _, _ => rfl
  | [], k + 1, _, _ => by unfold specN; simp [tailW]
  | x :: l, 0, h, _ => by simp at h
  | x :: l, k + 1, h, hx => by
    obtain ⟨h1, h2⟩ := lab_parts (hx x (by simp))
    have e1 : (tailW (x :: l) ++ [125]).drop 2 = bs x.1 ++ 61 :: (34 :: (bs x.2 ++ 34 :: (tailW l ++ [125]))) := by simp [tailW, word]
    unfold specN
    rw [if_neg (by simp [tailW])]
    simp only [Bool.false_eq_true, if_false]
    rw [e1, upTo_at 61 _ _ (name_no61 h1)]
    simp only [List.drop_succ_cons, List.drop_zero]
    rw [upTo_at 34 _ _ (plain_no34 h2)]
    simp only
    rw [specN_tail l k (by simpa using h) (fun y hy => hx y (by simp [hy])), mk_bs, mk_bs]
theorem specN_body (l : List Lab) (k : Nat) (h : l.length ≤ k) (hx : ∀ x ∈ l, labB x = true) : specN k true (body l) = l := by
  match l, k, h, hx with
  | [], 0, _, _ => rfl
  | [], k + 1, _, _ => unfold specN; simp [body, words]
  | x :: l, 0, h, _ => simp at h
  | x :: l, k + 1, h, hx =>
    obtain ⟨h1, h2⟩ := lab_parts (hx x (by simp))
    have e1 : body (x :: l) = bs x.1 ++ 61 :: (34 :: (bs x.2 ++ 34 :: (tailW l ++ [125]))) := by simp [body, words, word]
    unfold specN
    rw [if_neg (by rw [e1]; simp; omega)]
    simp only [if_true]
    rw [e1, upTo_at 61 _ _ (name_no61 h1)]
    simp only [List.drop_succ_cons, List.drop_zero]
    rw [upTo_at 34 _ _ (plain_no34 h2)]
    simp only
    rw [specN_tail l k (by simpa using h) (fun y hy => hx y (by simp [hy])), mk_bs, mk_bs]

theorem set_len {l : List Lab} (h : setB l = true) : l.length ≤ 4 := by
  unfold setB at h; rw [Bool.and_eq_true] at h; exact of_decide_eq_true h.1
theorem set_labs {l : List Lab} (h : setB l = true) : ∀ x ∈ l, labB x = true := by
  unfold setB at h
  rw [Bool.and_eq_true, List.all_eq_true] at h
  intro x hx
  obtain ⟨i, hi, rfl⟩ := List.getElem_of_mem hx
  have := h.2 i (List.mem_range.2 hi)
  unfold okAt at this
  rw [Bool.and_eq_true, nth_eq hi] at this
  exact this.1
def cutI (s : ByteArray) : List Lab := cutN 4 (Lib.trimPrefix (bs s) [123])
def cutS (s : ByteArray) : List Lab := specN 5 true ((bs s).drop 1)
theorem cutI_text {l : List Lab} (h : setB l = true) : cutI (mk (textB l)) = l := by
  unfold cutI
  rw [bs_mk]
  have : Lib.trimPrefix (textB l) [123] = body l := by simp [Lib.trimPrefix, Lib.hasPrefix, textB]
  rw [this, cutN_body l 4 (set_len h) (set_labs h)]
theorem cutS_text {l : List Lab} (h : setB l = true) : cutS (mk (textB l)) = l := by
  unfold cutS
  rw [bs_mk]
  exact specN_body l 5 (by have := set_len h; omega) (set_labs h)
def parseOf (l : List Lab) (s : ByteArray) : List Lab × Bool := if s.size ≠ 0 ∧ setText l = s then (l, true) else ([], false)
def parseB (s : ByteArray) : List Lab × Bool := parseOf (cutI s) s
theorem text_ok {l : List Lab} {s : ByteArray} (h0 : s.size ≠ 0) (h : setText l = s) : setB l = true ∧ s = mk (textB l) := by
  cases hb : setB l with
  | true => rw [text_yes hb] at h; exact ⟨rfl, h.symm⟩
  | false => rw [text_no hb] at h; subst h; exact absurd rfl h0
theorem parse_spec (s : ByteArray) : parseOf (cutS s) s = parseB s := by
  unfold parseB parseOf
  by_cases h0 : s.size ≠ 0
  · by_cases h1 : setText (cutS s) = s
    · obtain ⟨hb, e⟩ := text_ok h0 h1
      have e2 : cutI s = cutS s := by rw [e]; exact (cutI_text hb).trans (by rw [← e])
      rw [e2]
    · by_cases h2 : setText (cutI s) = s
      · obtain ⟨hb, e⟩ := text_ok h0 h2
        have e2 : cutS s = cutI s := by rw [e]; exact (cutS_text hb).trans (by rw [← e])
        rw [e2]
      · rw [if_neg fun x => h1 x.2, if_neg fun x => h2 x.2]
  · rw [if_neg fun x => h0 x.1, if_neg fun x => h0 x.1]
theorem text_size {l : List Lab} (h : setB l = true) : (mk (textB l)).size ≠ 0 := by rw [size_mk]; simp [textB]
theorem parse_text (l : List Lab) : parseB (setText l) = if setB l = true then (l, true) else ([], false) := by
  cases hb : setB l with
  | true =>
    rw [text_yes hb]
    unfold parseB parseOf
    rw [cutI_text hb, if_pos ⟨text_size hb, text_yes hb⟩, if_pos rfl]
  | false =>
    rw [text_no hb]
    unfold parseB parseOf
    rw [if_neg fun x => x.1 rfl, if_neg (by decide)]
theorem parse_back {s : ByteArray} (h : (parseB s).2 = true) : setText (parseB s).1 = s := by
  unfold parseB parseOf at h ⊢
  by_cases hc : s.size ≠ 0 ∧ setText (cutI s) = s
  · rw [if_pos hc]; exact hc.2
  · rw [if_neg hc] at h; cases h
theorem cutN_len : ∀ (k : Nat) (r : List UInt8), (cutN k r).length ≤ k
  | 0, r => by simp [cutN]
  | k + 1, r => by
    unfold cutN
    split
    · have := cutN_len k (Lib.trimPrefix (Lib.cut (Lib.cut r [61, 34]).2.1 [34]).2.1 [44, 32])
      simp; omega
    · simp
theorem specN_len : ∀ (k : Nat) (f : Bool) (r : List UInt8), (specN k f r).length ≤ k
  | 0, f, r => by simp [specN]
  | k + 1, f, r => by
    unfold specN
    split
    · simp
    · split
      · simp
      · split
        · simp
        · rename_i r2 _
          have := specN_len k false r2
          simp; omega
/-- how long the texts of a set are -/
theorem lab_sizes {x : Lab} (h : labB x = true) : x.1.size ≤ 8 ∧ x.2.size ≤ 12 := by
  obtain ⟨h1, h2⟩ := lab_parts h
  unfold nameB inB at h1
  unfold plainB at h2
  rw [Bool.and_eq_true] at h1 h2
  have a := of_decide_eq_true h1.2
  have b := of_decide_eq_true h2.2
  exact ⟨by omega, by omega⟩
theorem word_len {x : Lab} (h : labB x = true) : (word x).length ≤ 23 := by
  have := lab_sizes h
  simp [word, bs_len]; omega
theorem tail_len : ∀ (l : List Lab), (∀ x ∈ l, labB x = true) → (tailW l).length ≤ 25 * l.length
  | [], _ => by simp [tailW]
  | x :: l, h => by
    have h1 := word_len (h x (by simp))
    have h2 := tail_len l fun y hy => h y (by simp [hy])
    simp [tailW]; omega
theorem words_len {l : List Lab} (h : setB l = true) : (words l).length ≤ 100 := by
  have h1 := set_len h
  have h2 := set_labs h
  match l, h1, h2 with
  | [], _, _ => simp [words]
  | x :: l, h1, h2 =>
    have h3 := word_len (h2 x (by simp))
    have h4 := tail_len l fun y hy => h2 y (by simp [hy])
    simp [words] at h1 ⊢; omega
theorem setText_size (l : List Lab) : (setText l).size ≤ 102 := by
  cases hb : setB l with
  | true => rw [text_yes hb, size_mk]; have := words_len hb; simp [textB, body]; omega
  | false => rw [text_no hb]; decide
end Go.Proofs.Ytcopckbpflmmeaa.SetP
