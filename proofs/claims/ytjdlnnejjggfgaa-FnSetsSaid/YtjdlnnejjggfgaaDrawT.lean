/-
  PROVED: the contract of spec.DrawSetLess: two slices of a few small labels in memory of its own; nothing that was there is changed.
-/
import Derived.Test.YtjdlnnejjggfgaaDrawL
namespace Go.Proofs.Ytjdlnnejjggfgaa.DrawT
open Go.RowKit
open Go.Proofs.Ytjdlnnejjggfgaa.Draw
open Go.Proofs.Ytjdlnnejjggfgaa.Labs Go.Proofs.Ytjdlnnejjggfgaa.LabS Go.Proofs.Ytjdlnnejjggfgaa.Over Go.Proofs.Ytjdlnnejjggfgaa.DrawL
set_option linter.unusedVariables false

theorem small_fits {p : List Lab} (h : Small p) : ∀ i, i < p.length → (nth p i).1.size ≤ maxLen ∧ (nth p i).2.size ≤ maxLen := fun i hi => by
  rw [nth_eq hi]
  have := h _ (List.getElem_mem hi)
  unfold maxLen
  exact ⟨by omega, by omega⟩
/-- the draw's world, seen from the law's -/
theorem low_of {w w1 w2 : World} (h1 : Below w.heap.size w w1) (hc : w.heap.size < w1.heap.size) (h2 : Kept w.heap.size w1 w2) : Below w.heap.size w w2 := h1.trans (h2.below (Nat.le_refl _) (Nat.le_of_lt hc))

theorem drawSetLess_any (a : Option Addr) (len cap : Nat) (w : World) (hl : len ≤ maxLen) (hb : Bytes w a len w.heap.size) :
    Calls Try.prog 25 #[.slice a len cap] w fun e w' => (∃ (g c g' c' : Nat) (p q : List Lab), e = .returned (.tuple #[.slice (some ⟨g, 0, none⟩) p.length c, .slice (some ⟨g', 0, none⟩) q.length c']) ∧ Reads w' (some ⟨g, 0, none⟩) p ∧ Reads w' (some ⟨g', 0, none⟩) q ∧ p.length ≤ 8 ∧ q.length ≤ 8 ∧ Small p ∧ Small q) ∧ Below w.heap.size w w' := by
  have HB : Hid (Bytes w a len w.heap.size) := hb
  have HL : Hid (len ≤ maxLen) := hl
  clear hb hl
  go_enter Try.func25, Try.ntmps25
  go_wp2_with fail
  refine (new_any a len cap _ HL.out HB.out).mono ?_
  rintro e w1 ⟨rfl, hc1, hb1⟩
  have HC1 : Hid (Cur w1 w.heap.size ∧ Below w.heap.size w w1) := ⟨hc1, hb1⟩
  clear hc1 hb1
  go_wp2_with fail
  refine (l2Any_any _ _ HC1.out.1).mono ?_
  rintro e w2 ⟨v, rfl, p, hst, hp⟩
  obtain ⟨g, c, rfl⟩ := hst.lies
  have HS2 : Hid (LSt w1 w.heap.size w2 (.slice (some ⟨g, 0, none⟩) p.length c) p) := hst
  clear hst
  go_wp2_with fail
  refine (l2Any_any _ _ HS2.out.cur).mono ?_
  rintro e w3 ⟨v, rfl, q, hst, hq⟩
  obtain ⟨g', c', rfl⟩ := hst.lies
  have HS3 : Hid (LSt w2 w.heap.size w3 (.slice (some ⟨g', 0, none⟩) q.length c') q) := hst
  have HS4 : Hid (LSt w1 w.heap.size w3 (.slice (some ⟨g, 0, none⟩) p.length c) p) := HS2.out.keep hst.cur hst.kept
  clear hst
  go_wp2
  go_ret2
  exact ⟨⟨g, c, g', c', p, q, rfl, HS4.out.reads, HS3.out.reads, hp, hq, HS4.out.fit, HS3.out.fit⟩, low_of HC1.out.2 HC1.out.1.lt HS4.out.kept⟩
end Go.Proofs.Ytjdlnnejjggfgaa.DrawT
