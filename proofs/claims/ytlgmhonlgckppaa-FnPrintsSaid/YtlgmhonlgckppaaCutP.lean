/-
  PROVED: over any string that is not too long impl.ParseSet answers as a plain function says, in memory of its own; nothing that was there is changed.
-/
import Derived.Test.YtlgmhonlgckppaaCuts
namespace Go.Proofs.Ytlgmhonlgckppaa.CutP
open Go.RowKit
open Go.Proofs.Ytlgmhonlgckppaa.Labs Go.Proofs.Ytlgmhonlgckppaa.LabS Go.Proofs.Ytlgmhonlgckppaa.LabO Go.Proofs.Ytlgmhonlgckppaa.SetP Go.Proofs.Ytlgmhonlgckppaa.TextS Go.Proofs.Ytlgmhonlgckppaa.TextI Go.Proofs.Ytlgmhonlgckppaa.LabR
open Go.Proofs.Ytlgmhonlgckppaa.Over Go.Proofs.Ytlgmhonlgckppaa.Blk Go.Proofs.Ytlgmhonlgckppaa.App Go.Proofs.Ytlgmhonlgckppaa.Cuts
open Go.Proofs.Ytlgmhonlgckppaa.Names (empty_yes empty_no)
set_option linter.unusedVariables false

theorem fits_of {l : List Lab} {n : Nat} (hn : n ≤ maxLen) (h : ∀ x ∈ l, x.1.size ≤ n ∧ x.2.size ≤ n) : Fits l := fun i hi => by
  rw [nth_eq hi]
  have := h _ (List.getElem_mem hi)
  exact ⟨Nat.le_trans this.1 hn, Nat.le_trans this.2 hn⟩
theorem cutN_sizes : ∀ (k : Nat) (r : List UInt8), ∀ x ∈ cutN k r, x.1.size ≤ r.length ∧ x.2.size ≤ r.length
  | 0, r => by simp [cutN]
  | k + 1, r => by
    unfold cutN
    split
    · have h1 := cut_lens r [61, 34]
      have h2 := cut_lens (Lib.cut r [61, 34]).2.1 [34]
      have h3 := trim_len (Lib.cut (Lib.cut r [61, 34]).2.1 [34]).2.1 [44, 32]
      intro x hx
      rcases List.mem_cons.1 hx with rfl | hx
      · rw [size_mk, size_mk]; exact ⟨h1.1, Nat.le_trans h2.1 h1.2⟩
      · have := cutN_sizes k _ x hx
        exact ⟨by omega, by omega⟩
    · simp
theorem cutI_fits {s : ByteArray} (hs : s.size ≤ 1048576) : Fits (cutI s) := by
  refine fits_of (n := 1048576) (by unfold maxLen; decide) fun x hx => ?_
  have h1 := cutN_sizes 4 _ x hx
  have h2 := trim_len (bs s) [123]
  have h3 := bs_len s
  exact ⟨by omega, by omega⟩
theorem cutI_len (s : ByteArray) : (cutI s).length ≤ maxLen := Nat.le_trans (cutN_len 4 _) (by unfold maxLen; decide)
theorem parse_empty {l : List Lab} {s : ByteArray} (h : s.size = 0) : parseOf l s = ([], false) := by unfold parseOf; rw [if_neg fun x => x.1 h]
theorem parse_no {l : List Lab} {s : ByteArray} (h : setText l ≠ s) : parseOf l s = ([], false) := by unfold parseOf; rw [if_neg fun x => h x.2]
theorem parse_yes {l : List Lab} {s : ByteArray} (h0 : ¬ s.size = 0) (h : setText l = s) : parseOf l s = (l, true) := by unfold parseOf; rw [if_pos ⟨h0, h⟩]
theorem retP {p q : List Lab × Bool} {M c n : Nat} (h : p = q) (hn : n = q.1.length) : Ending.returned (.tuple #[.slice (some ⟨M, 0, none⟩) n c, .bool q.2]) = .returned (.tuple #[.slice (some ⟨M, 0, none⟩) p.1.length c, .bool p.2]) := by rw [h, hn]

set_option maxHeartbeats 800000 in
theorem implParse_any (s : ByteArray) (w : World) (hs : s.size ≤ 1048576) (hm : MaxAt w) :
    Calls Try.prog 12 #[.string s] w fun e w' => (∃ M c, e = .returned (.tuple #[.slice (some ⟨M, 0, none⟩) (parseB s).1.length c, .bool (parseB s).2]) ∧ Own w w' M (parseB s).1) ∧ Below w.heap.size w w' := by
  have HM : Hid (MaxAt w) := hm
  have HZ : Hid (s.size ≤ 1048576) := hs
  have HF : Hid (Fits (cutI s)) := cutI_fits hs
  have HL : Hid ((cutI s).length ≤ maxLen) := cutI_len s
  have HP : Hid (parseB s = parseOf (cutI s) s) := rfl
  clear hs hm
  go_enter Try.func12, Try.ntmps12
  go_wp2_with fail
  refine (implCut_any s _ HZ.out HM.out).mono ?_
  rintro e w1 ⟨v, rfl, hst⟩
  obtain ⟨g, cap, rfl⟩ := hst.lies
  have HS : Hid (OSt w w1 (.slice (some ⟨g, 0, none⟩) (cutI s).length cap) (cutI s)) := hst
  clear hst
  generalize cutI s = l at HF HL HP HS ⊢
  by_cases hs0 : s.size = 0
  · have hE := empty_yes hs0
    have HP1 : Hid (parseB s = ([], false)) := HP.out.trans (parse_empty hs0)
    clear hs0
    go_wp2
    go_ret2
    have ho := OSt.void HS.out.bel
    exact ⟨⟨_, _, retP HP1.out rfl, by rw [HP1.out]; exact ho.outs⟩, ho.bel⟩
  · have hE := empty_no hs0
    by_cases hq : setText l = s
    · have HP1 : Hid (parseB s = (l, true)) := HP.out.trans (parse_yes hs0 hq)
      have hb := beqS_yes hq
      clear hs0 hq
      go_wp2_with fail
      refine (implText_any _ _ l _ HS.out.reads HL.out HF.out).mono ?_
      rintro e w2 ⟨rfl, hb2⟩
      have HS2 : Hid (OSt w w2 (.slice (some ⟨g, 0, none⟩) l.length cap) l) := HS.out.grow hb2
      clear hb2
      go_wp2
      go_ret2
      exact ⟨⟨_, _, retP HP1.out rfl, by rw [HP1.out]; exact HS2.out.outs⟩, HS2.out.bel⟩
    · have HP1 : Hid (parseB s = ([], false)) := HP.out.trans (parse_no hq)
      have hb := beqS_no hq
      clear hs0 hq
      go_wp2_with fail
      refine (implText_any _ _ l _ HS.out.reads HL.out HF.out).mono ?_
      rintro e w2 ⟨rfl, hb2⟩
      have HS2 : Hid (OSt w w2 (.slice (some ⟨g, 0, none⟩) l.length cap) l) := HS.out.grow hb2
      clear hb2
      go_wp2
      go_ret2
      have ho := OSt.void HS2.out.bel
      exact ⟨⟨_, _, retP HP1.out rfl, by rw [HP1.out]; exact ho.outs⟩, ho.bel⟩
end Go.Proofs.Ytlgmhonlgckppaa.CutP
