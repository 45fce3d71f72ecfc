/-
  PROVED: plain facts of the text of a set of labels: what it is, and that both ways of cutting a text give a set back of its text, so that they answer alike at every text.
  PROVED: over a slice of labels in memory spec.SetText answers the text of the set, nothing where it is no set; nothing that was there is changed.
-/
import Derived.Test.YtooninmicfcfoaaGreatQLabO
import Derived.Lib.IndexMore
import Derived.Lib.Strings
import Derived.Lib.Join
import Derived.Deep.QuietTactic
set_option linter.unusedVariables false
namespace Go.Proofs.YtooninmicfcfoaaGreat.SetP
open Names Labs LabS LabO

def mk (l : List UInt8) : ByteArray := ⟨l.toArray⟩
def bs (s : ByteArray) : List UInt8 := s.data.toList
theorem bs_mk (l : List UInt8) : bs (mk l) = l := by simp [bs, mk]
theorem mk_bs (s : ByteArray) : mk (bs s) = s := by cases s; simp [bs, mk]
theorem size_mk (l : List UInt8) : (mk l).size = l.length := by show l.toArray.size = _; simp
theorem bs_len (s : ByteArray) : (bs s).length = s.size := by show s.data.toList.length = s.data.size; simp
def word (x : Lab) : List UInt8 := bs x.1 ++ (61 :: 34 :: (bs x.2 ++ [34]))
def tailW : List Lab → List UInt8
  | [] => []
  | x :: l => 44 :: 32 :: (word x ++ tailW l)
def words : List Lab → List UInt8
  | [] => []
  | x :: l => word x ++ tailW l
def body (l : List Lab) : List UInt8 := words l ++ [125]
def textB (l : List Lab) : List UInt8 := 123 :: body l
def setText (l : List Lab) : ByteArray := if setB l = true then mk (textB l) else ⟨#[]⟩
theorem text_yes {l : List Lab} (h : setB l = true) : setText l = mk (textB l) := by unfold setText; rw [if_pos h]
theorem text_no {l : List Lab} (h : setB l = false) : setText l = ⟨#[]⟩ := by unfold setText; rw [if_neg (by rw [h]; decide)]
theorem tailW_add (l : List Lab) (x : Lab) : tailW (l ++ [x]) = tailW l ++ (44 :: 32 :: word x) := by
  induction l with
  | nil => simp [tailW]
  | cons y l ih => simp [tailW, ih]
def pre (l : List Lab) (k : Nat) : List UInt8 := words (l.take k)
theorem pre_zero (l : List Lab) : pre l 0 = [] := by simp [pre, words]
theorem take_up {l : List Lab} {k : Nat} (h : k < l.length) : l.take (k + 1) = l.take k ++ [nth l k] := by
  rw [nth_eq h, List.take_append_getElem h]
theorem pre_one {l : List Lab} (h : 0 < l.length) : pre l 1 = word (nth l 0) := by
  unfold pre; rw [take_up h]; simp [words, tailW]
theorem pre_up {l : List Lab} {k : Nat} (h : k + 1 < l.length) : pre l (k + 1 + 1) = pre l (k + 1) ++ (44 :: 32 :: word (nth l (k + 1))) := by
  unfold pre
  rw [take_up h]
  match l, h with
  | [], h => simp at h
  | y :: l, h => simp [words, tailW_add]
theorem pre_all (l : List Lab) : pre l l.length = words l := by simp [pre]
theorem join_words (l : List Lab) : Lib.join (l.map word) [44, 32] = words l := by
  cases l with
  | nil => rfl
  | cons x l =>
    simp only [List.map, words]
    induction l generalizing x with
    | nil => simp [Lib.join, tailW]
    | cons y l ih =>
      have h := ih y
      simp [Lib.join, List.intercalate, tailW] at h ⊢
      exact h

theorem lab_parts {x : Lab} (h : labB x = true) : nameB x.1 = true ∧ plainB x.2 = true := by
  unfold labB at h; simpa using h
theorem set_len {l : List Lab} (h : setB l = true) : l.length ≤ 4 := by
  unfold setB at h; rw [Bool.and_eq_true] at h; exact of_decide_eq_true h.1
theorem set_labs {l : List Lab} (h : setB l = true) : ∀ x ∈ l, labB x = true := by
  unfold setB at h
  rw [Bool.and_eq_true, List.all_eq_true] at h
  intro x hx
  obtain ⟨i, hi, rfl⟩ := List.getElem_of_mem hx
  have := h.2 i (List.mem_range.2 hi)
  unfold okAt at this
  rw [Bool.and_eq_true, nth_eq hi] at this
  exact this.1
theorem lab_sizes {x : Lab} (h : labB x = true) : x.1.size ≤ 8 ∧ x.2.size ≤ 12 := by
  obtain ⟨h1, h2⟩ := lab_parts h
  unfold nameB inB at h1
  unfold plainB at h2
  rw [Bool.and_eq_true] at h1 h2
  have a := of_decide_eq_true h1.2
  have b := of_decide_eq_true h2.2
  exact ⟨by omega, by omega⟩
theorem word_len {x : Lab} (h : labB x = true) : (word x).length ≤ 23 := by
  have := lab_sizes h
  simp [word, bs_len]; omega
theorem tail_len : ∀ (l : List Lab), (∀ x ∈ l, labB x = true) → (tailW l).length ≤ 25 * l.length
  | [], _ => by simp [tailW]
  | x :: l, h => by
    have h1 := word_len (h x (by simp))
    have h2 := tail_len l fun y hy => h y (by simp [hy])
    simp [tailW]; omega
theorem words_len {l : List Lab} (h : setB l = true) : (words l).length ≤ 100 := by
  have h1 := set_len h
  have h2 := set_labs h
  match l, h1, h2 with
  | [], _, _ => simp [words]
  | x :: l, h1, h2 =>
    have h3 := word_len (h2 x (by simp))
    have h4 := tail_len l fun y hy => h2 y (by simp [hy])
    simp [words] at h1 ⊢; omega
theorem setText_size (l : List Lab) : (setText l).size ≤ 102 := by
  cases hb : setB l with
  | true => rw [text_yes hb, size_mk]; have := words_len hb; simp [textB, body]; omega
  | false => rw [text_no hb]; decide
end Go.Proofs.YtooninmicfcfoaaGreat.SetP
namespace Go.Proofs.YtooninmicfcfoaaGreat.TextS
open Go.RowKit
open Labs LabS LabO SetP
open Over

theorem mk_add (a b : List UInt8) : mk a ++ mk b = mk (a ++ b) := by
  have h : bs (mk a ++ mk b) = bs (mk (a ++ b)) := by
    rw [bs_mk]
    show (mk a ++ mk b).data.toList = a ++ b
    rw [ByteArray.data_append]
    simp [mk]
  rw [← mk_bs (mk a ++ mk b), h, mk_bs]
def sAt (l : List Lab) (k : Nat) : ByteArray := mk (123 :: pre l k)
theorem sAt_zero (l : List Lab) : sAt l 0 = ⟨#[123]⟩ := by unfold sAt; rw [pre_zero]; rfl
theorem add_word (s : List UInt8) (x : Lab) : mk s ++ x.1 ++ ByteArray.mk #[61, 34] ++ x.2 ++ ByteArray.mk #[34] = mk (s ++ word x) := by
  have e1 : mk s ++ x.1 = mk (s ++ bs x.1) := by rw [← mk_add, mk_bs]
  have e2 : ∀ t, mk t ++ ByteArray.mk #[61, 34] = mk (t ++ [61, 34]) := fun t => mk_add t [61, 34]
  have e3 : ∀ t, mk t ++ x.2 = mk (t ++ bs x.2) := fun t => by rw [← mk_add, mk_bs]
  have e4 : ∀ t, mk t ++ ByteArray.mk #[34] = mk (t ++ [34]) := fun t => mk_add t [34]
  rw [e1, e2, e3, e4]
  simp [word]
theorem sAt_one {l : List Lab} (h : 0 < l.length) : sAt l 1 = ByteArray.mk #[123] ++ (nth l 0).1 ++ ByteArray.mk #[61, 34] ++ (nth l 0).2 ++ ByteArray.mk #[34] := by
  have e : ByteArray.mk #[123] = mk [123] := rfl
  rw [e, add_word]
  unfold sAt
  rw [pre_one h]
  rfl
theorem sAt_up {l : List Lab} {k : Nat} (h : k + 1 < l.length) : sAt l (k + 1 + 1) = sAt l (k + 1) ++ ByteArray.mk #[44, 32] ++ (nth l (k + 1)).1 ++ ByteArray.mk #[61, 34] ++ (nth l (k + 1)).2 ++ ByteArray.mk #[34] := by
  have e : sAt l (k + 1) ++ ByteArray.mk #[44, 32] = mk ((123 :: pre l (k + 1)) ++ [44, 32]) := mk_add _ [44, 32]
  rw [e, add_word]
  unfold sAt
  rw [pre_up h]
  simp
theorem sAt_all (l : List Lab) : sAt l l.length ++ ByteArray.mk #[125] = mk (textB l) := by
  have e : sAt l l.length ++ ByteArray.mk #[125] = mk ((123 :: pre l l.length) ++ [125]) := mk_add _ [125]
  rw [e, pre_all]
  rfl
theorem sAt_size {l : List Lab} (h : setB l = true) (k : Nat) : (sAt l k).size ≤ 101 := by
  have h1 := set_len h
  have h2 : ∀ x ∈ l.take k, labB x = true := fun x hx => set_labs h x (List.mem_of_mem_take hx)
  have h3 : (l.take k).length ≤ 4 := by simp; omega
  unfold sAt
  rw [size_mk]
  unfold pre
  generalize l.take k = m at h2 h3
  match m, h2, h3 with
  | [], _, _ => simp [words]
  | x :: m, h2, h3 =>
    have h4 := word_len (h2 x (by simp))
    have h5 := tail_len m fun y hy => h2 y (by simp [hy])
    simp [words] at h3 ⊢; omega
theorem nth_sizes {l : List Lab} (h : setB l = true) {k : Nat} (hk : k < l.length) : (nth l k).1.size ≤ 8 ∧ (nth l k).2.size ≤ 12 := by
  rw [nth_eq hk]; exact lab_sizes (set_labs h _ (List.getElem_mem hk))
theorem retS {a b : ByteArray} (h : a = b) : Ending.returned (.string a) = .returned (.string b) := by rw [h]
theorem strV {a b : ByteArray} (h : a = b) : Value.string a = .string b := by rw [h]

set_option maxHeartbeats 800000 in
theorem specText_any (a : Option Addr) (cap : Nat) (l : List Lab) (w : World) (hr : Reads w a l) (hl : l.length ≤ maxLen) (hz : Fits l) :
    Calls Tryz.prog 126 #[.slice a l.length cap] w fun e w' => e = .returned (.string (setText l)) ∧ Below w.heap.size w w' := by
  have HC : Hid (Calls Tryz.prog 164 #[.slice a l.length cap] w fun e w' => e = .returned (.bool (setB l)) ∧ Below w.heap.size w w') := specSet_any a cap l w hr hl hz
  unfold maxLen at hl
  have HR : Hid (Reads w a l) := hr
  clear hr hz
  cases hs : setB l with
  | false =>
    have HN : Hid (setText l = ⟨#[]⟩) := text_no hs
    rw [hs] at HC
    clear hs
    go_enter Tryz.func126, Tryz.ntmps126
    go_wp2_with fail
    refine HC.out.mono ?_
    rintro e w1 ⟨rfl, hb⟩
    have HB : Hid (Below w.heap.size w w1) := hb
    clear hb
    go_wp2
    go_ret
    exact ⟨retS HN.out.symm, HB.out⟩
  | true =>
    have HN : Hid (setText l = mk (textB l)) := text_yes hs
    have HS : Hid (setB l = true) := hs
    rw [hs] at HC
    clear hs
    go_enter Tryz.func126, Tryz.ntmps126
    go_wp2_with fail
    refine HC.out.mono ?_
    rintro e w1 ⟨rfl, hb⟩
    have HB1 : Hid (Below w.heap.size w w1) := hb
    clear hb
    go_wp2
    go_loopw [3, 4] (fun s i w' => ∃ k : Nat, i = .int .i64 k ∧ s = .string (sAt l k) ∧ k ≤ l.length ∧ Below w.heap.size w w') (fun s i _ => l.length - (intOf i).toNat)
    case atStart => exact ⟨0, rfl, strV (sAt_zero l).symm, Nat.zero_le _, HB1.out⟩
    case round =>
      obtain ⟨k, rfl, rfl, hk, hw0⟩ := hrel
      have HB : Hid (Below w.heap.size w wr) := hw0
      have HR1 : Hid (Reads wr a l) := HR.out.below hw0
      clear hw0
      by_cases hlt : k < l.length
      · have hlt' : (k : Int) < (l.length : Int) := by omega
        obtain ⟨b, off, rfl, hb, hc⟩ := HR1.out.get hlt
        obtain ⟨h0, h1⟩ := hc k hlt
        obtain ⟨hs0, hs1⟩ := nth_sizes HS.out hlt
        have hst := sAt_size HS.out k
        clear hc
        cases k with
        | zero =>
          have HU : Hid (sAt l 1 = sAt l 0 ++ (nth l 0).1 ++ ByteArray.mk #[61, 34] ++ (nth l 0).2 ++ ByteArray.mk #[34]) := by rw [sAt_zero]; exact sAt_one hlt
          simp only [Nat.zero_mul, Nat.add_zero] at h0 h1
          generalize sAt l 0 = t at HU hst ⊢
          go_wp2
          go_quiet (fail)
          go_wp2
          go_roundw
          case rel => exact ⟨1, by go_num, strV HU.out.symm, by omega, bel_drewN HB.out _⟩
          case measure => simp [intOf]; omega
        | succ j =>
          have HU : Hid (sAt l (j + 1 + 1) = sAt l (j + 1) ++ ByteArray.mk #[44, 32] ++ (nth l (j + 1)).1 ++ ByteArray.mk #[61, 34] ++ (nth l (j + 1)).2 ++ ByteArray.mk #[34]) := sAt_up hlt
          generalize hm : j + 1 = m at HU hlt hlt' h0 h1 hk hst hs0 hs1 ⊢
          generalize sAt l m = t at HU hst ⊢
          have hj0 : (0 : Int) < (m : Int) := by omega
          clear hm
          go_wp2
          go_quiet (fail)
          go_wp2
          go_roundw
          case rel => exact ⟨m + 1, by go_num, strV HU.out.symm, by omega, bel_drewN HB.out _⟩
          case measure => simp [intOf]; omega
      · have hge : ¬ (k : Int) < (l.length : Int) := by omega
        obtain rfl : k = l.length := by omega
        have HE : Hid (sAt l l.length ++ ByteArray.mk #[125] = mk (textB l)) := sAt_all l
        have hst := sAt_size HS.out l.length
        generalize sAt l l.length = t at HE hst ⊢
        go_wp2
        go_ret
        exact ⟨retS (by rw [HN.out]; exact HE.out), HB.out⟩
end Go.Proofs.YtooninmicfcfoaaGreat.TextS
