/-
  PROVED: over a slice of labels in memory spec.SetText answers the text of the set, nothing where it is no set; nothing that was there is changed.
-/
import Derived.Test.YtcopckbpflmmeaaSetP
import Derived.Deep.QuietTactic
namespace Go.Proofs.Ytcopckbpflmmeaa.TextS
open Go.RowKit
open Go.Proofs.Ytcopckbpflmmeaa.Labs Go.Proofs.Ytcopckbpflmmeaa.LabS Go.Proofs.Ytcopckbpflmmeaa.LabO Go.Proofs.Ytcopckbpflmmeaa.SetP
open Go.Proofs.Ytcopckbpflmmeaa.Over
set_option linter.unusedVariables false

theorem mk_add (a b : List UInt8) : mk a ++ mk b = mk (a ++ b) := by
  have h : bs (mk a ++ mk b) = bs (mk (a ++ b)) := by
    rw [bs_mk]
    show (mk a ++ mk b).data.toList = a ++ b
    rw [ByteArray.data_append]
    simp [mk]
  rw [← mk_bs (mk a ++ mk b), h, mk_bs]
theorem add_mk (s : ByteArray) (b : List UInt8) : s ++ mk b = mk (bs s ++ b) := by rw [← mk_add, mk_bs]
/-- what is written of the first k -/
def sAt (l : List Lab) (k : Nat) : ByteArray := mk (123 :: pre l k)
theorem sAt_zero (l : List Lab) : sAt l 0 = ⟨#[123]⟩ := by unfold sAt; rw [pre_zero]; rfl
theorem add_word (s : List UInt8) (x : Lab) : mk s ++ x.1 ++ ByteArray.mk #[61, 34] ++ x.2 ++ ByteArray.mk #[34] = mk (s ++ word x) := by
  have e1 : mk s ++ x.1 = mk (s ++ bs x.1) := by rw [← mk_add, mk_bs]
  have e2 : ∀ t, mk t ++ ByteArray.mk #[61, 34] = mk (t ++ [61, 34]) := fun t => mk_add t [61, 34]
  have e3 : ∀ t, mk t ++ x.2 = mk (t ++ bs x.2) := fun t => by rw [← mk_add, mk_bs]
  have e4 : ∀ t, mk t ++ ByteArray.mk #[34] = mk (t ++ [34]) := fun t => mk_add t [34]
  rw [e1, e2, e3, e4]
  simp [word]
theorem sAt_one {l : List Lab} (h : 0 < l.length) : sAt l 1 = ByteArray.mk #[123] ++ (nth l 0).1 ++ ByteArray.mk #[61, 34] ++ (nth l 0).2 ++ ByteArray.mk #[34] := by
  have e : ByteArray.mk #[123] = mk [123] := rfl
  rw [e, add_word]
  unfold sAt
  rw [pre_one h]
  rfl
theorem sAt_up {l : List Lab} {k : Nat} (h : k + 1 < l.length) : sAt l (k + 1 + 1) = sAt l (k + 1) ++ ByteArray.mk #[44, 32] ++ (nth l (k + 1)).1 ++ ByteArray.mk #[61, 34] ++ (nth l (k + 1)).2 ++ ByteArray.mk #[34] := by
  have e : sAt l (k + 1) ++ ByteArray.mk #[44, 32] = mk ((123 :: pre l (k + 1)) ++ [44, 32]) := mk_add _ [44, 32]
  rw [e, add_word]
  unfold sAt
  rw [pre_up h]
  simp
theorem sAt_all (l : List Lab) : sAt l l.length ++ ByteArray.mk #[125] = mk (textB l) := by
  have e : sAt l l.length ++ ByteArray.mk #[125] = mk ((123 :: pre l l.length) ++ [125]) := mk_add _ [125]
  rw [e, pre_all]
  rfl
theorem sAt_size {l : List Lab} (h : setB l = true) (k : Nat) : (sAt l k).size ≤ 101 := by
  have h1 := set_len h
  have h2 : ∀ x ∈ l.take k, labB x = true := fun x hx => set_labs h x (List.mem_of_mem_take hx)
  have h3 : (l.take k).length ≤ 4 := by simp; omega
  unfold sAt
  rw [size_mk]
  unfold pre
  generalize l.take k = m at h2 h3
  match m, h2, h3 with
  | [], _, _ => simp [words]
  | x :: m, h2, h3 =>
    have h4 := word_len (h2 x (by simp))
    have h5 := tail_len m fun y hy => h2 y (by simp [hy])
    simp [words] at h3 ⊢; omega
theorem nth_sizes {l : List Lab} (h : setB l = true) {k : Nat} (hk : k < l.length) : (nth l k).1.size ≤ 8 ∧ (nth l k).2.size ≤ 12 := by
  rw [nth_eq hk]; exact lab_sizes (set_labs h _ (List.getElem_mem hk))
theorem retS {a b : ByteArray} (h : a = b) : Ending.returned (.string a) = .returned (.string b) := by rw [h]
theorem strV {a b : ByteArray} (h : a = b) : Value.string a = .string b := by rw [h]

set_option maxHeartbeats 800000 in
theorem specText_any (a : Option Addr) (cap : Nat) (l : List Lab) (w : World) (hr : Reads w a l) (hl : l.length ≤ maxLen) (hz : Fits l) :
    Calls Try.prog 105 #[.slice a l.length cap] w fun e w' => e = .returned (.string (setText l)) ∧ Below w.heap.size w w' := by
  have HC : Hid (Calls Try.prog 101 #[.slice a l.length cap] w fun e w' => e = .returned (.bool (setB l)) ∧ Below w.heap.size w w') := specSet_any a cap l w hr hl hz
  unfold maxLen at hl
  have HR : Hid (Reads w a l) := hr
  clear hr hz
  cases hs : setB l with
  | false =>
    have HN : Hid (setText l = ⟨#[]⟩) := text_no hs
    rw [hs] at HC
    clear hs
    go_enter Try.func105, Try.ntmps105
    go_wp2_with fail
    refine HC.out.mono ?_
    rintro e w1 ⟨rfl, hb⟩
    have HB : Hid (Below w.heap.size w w1) := hb
    clear hb
    go_wp2
    go_ret
    exact ⟨retS HN.out.symm, HB.out⟩
  | true =>
    have HN : Hid (setText l = mk (textB l)) := text_yes hs
    have HS : Hid (setB l = true) := hs
    rw [hs] at HC
    clear hs
    go_enter Try.func105, Try.ntmps105
    go_wp2_with fail
    refine HC.out.mono ?_
    rintro e w1 ⟨rfl, hb⟩
    have HB1 : Hid (Below w.heap.size w w1) := hb
    clear hb
    go_wp2
    go_loopw [3, 4] (fun s i w' => ∃ k : Nat, i = .int .i64 k ∧ s = .string (sAt l k) ∧ k ≤ l.length ∧ Below w.heap.size w w') (fun s i _ => l.length - (intOf i).toNat)
    case atStart => exact ⟨0, rfl, strV (sAt_zero l).symm, Nat.zero_le _, HB1.out⟩
    case round =>
      obtain ⟨k, rfl, rfl, hk, hw0⟩ := hrel
      have HB : Hid (Below w.heap.size w wr) := hw0
      have HR1 : Hid (Reads wr a l) := HR.out.below hw0
      clear hw0
      by_cases hlt : k < l.length
      · have hlt' : (k : Int) < (l.length : Int) := by omega
        obtain ⟨b, off, rfl, hb, hc⟩ := HR1.out.get hlt
        obtain ⟨h0, h1⟩ := hc k hlt
        obtain ⟨hs0, hs1⟩ := nth_sizes HS.out hlt
        have hst := sAt_size HS.out k
        clear hc
        cases k with
        | zero =>
          have HU : Hid (sAt l 1 = sAt l 0 ++ (nth l 0).1 ++ ByteArray.mk #[61, 34] ++ (nth l 0).2 ++ ByteArray.mk #[34]) := by rw [sAt_zero]; exact sAt_one hlt
          simp only [Nat.zero_mul, Nat.add_zero] at h0 h1
          generalize sAt l 0 = t at HU hst ⊢
          go_wp2
          go_quiet (fail)
          go_wp2
          go_roundw
          case rel => exact ⟨1, by go_num, strV HU.out.symm, by omega, bel_drewN HB.out _⟩
          case measure => simp [intOf]; omega
        | succ j =>
          have HU : Hid (sAt l (j + 1 + 1) = sAt l (j + 1) ++ ByteArray.mk #[44, 32] ++ (nth l (j + 1)).1 ++ ByteArray.mk #[61, 34] ++ (nth l (j + 1)).2 ++ ByteArray.mk #[34]) := sAt_up hlt
          generalize hm : j + 1 = m at HU hlt hlt' h0 h1 hk hst hs0 hs1 ⊢
          generalize sAt l m = t at HU hst ⊢
          have hj0 : (0 : Int) < (m : Int) := by omega
          clear hm
          go_wp2
          go_quiet (fail)
          go_wp2
          go_roundw
          case rel => exact ⟨m + 1, by go_num, strV HU.out.symm, by omega, bel_drewN HB.out _⟩
          case measure => simp [intOf]; omega
      · have hge : ¬ (k : Int) < (l.length : Int) := by omega
        obtain rfl : k = l.length := by omega
        have HE : Hid (sAt l l.length ++ ByteArray.mk #[125] = mk (textB l)) := sAt_all l
        have hst := sAt_size HS.out l.length
        generalize sAt l l.length = t at HE hst ⊢
        go_wp2
        go_ret
        exact ⟨retS (by rw [HN.out]; exact HE.out), HB.out⟩
end Go.Proofs.Ytcopckbpflmmeaa.TextS
