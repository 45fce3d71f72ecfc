/-
  Small alarms and rows of them beside the drawing cursor.
-/
import Derived.Test.YtcopckbpflmmeaaDrawB
import Derived.Test.YtcopckbpflmmeaaLsK
namespace Go.Proofs.Ytcopckbpflmmeaa.DrawC
open Go.RowKit
open Go.Proofs.Ytcopckbpflmmeaa.Draw
open Go.Proofs.Ytcopckbpflmmeaa.Labs Go.Proofs.Ytcopckbpflmmeaa.LabS Go.Proofs.Ytcopckbpflmmeaa.Over Go.Proofs.Ytcopckbpflmmeaa.Blk Go.Proofs.Ytcopckbpflmmeaa.App Go.Proofs.Ytcopckbpflmmeaa.DrawL Go.Proofs.Ytcopckbpflmmeaa.DrawT Go.Proofs.Ytcopckbpflmmeaa.Alms Go.Proofs.Ytcopckbpflmmeaa.AlmM Go.Proofs.Ytcopckbpflmmeaa.DrawA Go.Proofs.Ytcopckbpflmmeaa.DrawB Go.Proofs.Ytcopckbpflmmeaa.Rws Go.Proofs.Ytcopckbpflmmeaa.ChnI Go.Proofs.Ytcopckbpflmmeaa.ChnC Go.Proofs.Ytcopckbpflmmeaa.ChnP Go.Proofs.Ytcopckbpflmmeaa.ChnK
open Go.Proofs.Ytcopckbpflmmeaa.LabT (Held held_reads)
set_option linter.unusedVariables false

theorem grown_bel {w w' : World} (h : Below w.heap.size w w') : w.grownBy w' none := ⟨h.os, h.tape, h.output, h.size, fun k hk _ => h.block k hk⟩
theorem cur_bel {w w' : World} {c : Nat} (h : Cur w c) (hb : Below w.heap.size w w') : Cur w' c := h.grown (grown_bel hb) (fun k hk => by cases hk)
theorem kept_bel {c : Nat} {w w' : World} (h : Below w.heap.size w w') : Kept c w w' := ⟨h.os, h.tape, h.output, h.size, fun k hk _ => h.block k hk⟩
theorem cur_set {w : World} {c A : Nat} (h : Cur w c) (hne : c < A) (i : Nat) (v : Value) : Cur (w.setCell ⟨A, i, none⟩ v) c := h.grown (grown_set w A i v) (fun k hk => by cases hk; exact hne)
theorem kept_set {w wr : World} {c A : Nat} (h : Kept c w wr) (hA : w.heap.size ≤ A) (i : Nat) (v : Value) : Kept c w (wr.setCell ⟨A, i, none⟩ v) := kept_grown (B := 0) h (grown_set wr A i v) (fun k hk => by cases hk; exact hA)
theorem own_kept {c lo : Nat} {w w' : World} {x : ARow} (h : OwnA lo w x) (hk : Kept c w w') (hc : c < lo) : OwnA lo w' x := by
  obtain ⟨h1, h2, ds, hb, h3⟩ := h
  exact ⟨h1, h2, ds, blk_kept hb hk (by omega), h3⟩
theorem ab_kept {c lo : Nat} {w w' : World} {M cap : Nat} {rs : List ARow} (h : AB lo w M cap rs) (hk : Kept c w w') (hc : c < lo) : AB lo w' M cap rs := by
  obtain ⟨cur, h1, h2⟩ := h.outer
  exact ⟨h.at', h.cap, ⟨cur, blk_kept h1 hk (by have := h.at'; omega), h2⟩, fun x hx => own_kept (h.rows x hx) hk hc, h.ne⟩
theorem own_lst {W w' : World} {c g cap : Nat} {p : List Lab} {s e : Int} {n : ByteArray} (h : LSt W c w' (.slice (some ⟨g, 0, none⟩) p.length cap) p) (hp : p.length ≤ 8) : OwnA W.heap.size w' (g, cap, ⟨p, s, e, n⟩) := by
  rcases h.own.2 with ⟨e', _⟩ | ⟨g', c', cur, e', hb, hcur, hcc, _, hz, ht⟩
  · cases e'
  · cases e'
    refine ⟨hb, by show p.length ≤ _; omega, cur, hcur, by show p.length * 2 ≤ _; rw [hz]; omega, fun j hj => ?_⟩
    have hj' : j < p.length := hj
    have h2 := LabR.flat_get p j hj'
    have hl := LabR.flat_len p
    rw [← ht, List.getElem?_take_of_lt (by omega), List.getElem?_take_of_lt (by omega)] at h2
    simpa using h2

/-- a small alarm -/
def Fine (x : PAl) : Prop := FitA x ∧ x.l.length ≤ 8
def Fines (P : List PAl) : Prop := ∀ x ∈ P, Fine x
theorem fine_of {p : List Lab} {s e : Int} {n : ByteArray} (hp : p.length ≤ 8) (hf : Small p) (hs : I64 s) (he : I64 e) (hn : n.size ≤ 100) : Fine ⟨p, s, e, n⟩ :=
  ⟨⟨by show p.length ≤ _; unfold maxLen; omega, small_fits hf, hs, he, by show n.size ≤ _; unfold maxLen; omega⟩, hp⟩
theorem nthP_mem {P : List PAl} {i : Nat} (h : i < P.length) : nthP P i ∈ P := by rw [nthP_eq h]; exact List.getElem_mem _
theorem fines_nil : Fines [] := fun x hx => by simp at hx
theorem fines_app {P : List PAl} {a : PAl} (h : Fines P) (ha : Fine a) : Fines (P ++ [a]) := fun x hx => by
  rcases List.mem_append.1 hx with h1 | h1
  · exact h x h1
  · have : x = a := by simpa using h1
    subst this; exact ha
theorem Fines.fits {P : List PAl} (h : Fines P) : FitsP P := fits_of fun x hx => (h x hx).1
theorem Fines.lens {P : List PAl} (h : Fines P) : LenM P := fun i hi => by have := (h _ (nthP_mem hi)).2; omega
end Go.Proofs.Ytcopckbpflmmeaa.DrawC
