/-
  PROVED: the contracts of what the exact laws call over slices of strings: the size that szStringS counts, the copy that toStringS makes, that eqStringS finds two of the same alike, the marks that markStringS writes; what a slice of strings that came in is.
-/
import Derived.Test.YtdmhccheaemkkaaStrB
import Derived.Test.YtdmhccheaemkkaaMark
import Derived.SliceStrings
import Derived.OpenShut
import Derived.ProofKit
namespace Go.Proofs.Ytdmhccheaemkkaa.StrT
open Go.RowKit
open Go.ChangeShapes Go.WideShapes Go.ChangeAt
open Go.Proofs.Ytdmhccheaemkkaa.StrB Go.Proofs.Ytdmhccheaemkkaa.Over Go.Proofs.Ytdmhccheaemkkaa.Blk
open Go.Proofs.Ytdmhccheaemkkaa.Mark (Apart mt markText_any retI)
set_option linter.unusedVariables false

def FitsS (l : List ByteArray) : Prop := ∀ i, i < l.length → (nth l i).size ≤ maxLen
theorem nthS_eq {l : List ByteArray} {i : Nat} (h : i < l.length) : nth l i = l[i] := by unfold nth; simp [h]
theorem Reads.get {w : World} {a : Option Addr} {l : List ByteArray} (h : Reads w a l) {i : Nat} (hi : i < l.length) :
    ∃ b off, a = some ⟨b, off, none⟩ ∧ b < w.heap.size ∧ ∀ i, i < l.length → w.cell? ⟨b, off + i, none⟩ = some (.string (nth l i)) := by
  rcases h with h | h
  · rw [h] at hi; simp at hi
  · exact h

theorem infoS : (Try.prog.info? 9).map (fun i => (i.zero, i.size, i.bytes)) = some (some (.string ByteArray.empty), 1, 16) := by kernel_rfl
/-- the cells that hold these strings -/
def HeldS (cs : Array Value) (l : List ByteArray) : Prop := ∀ j, j < l.length → cs[j]? = some (.string (nth l j))
theorem heldS_reads {w : World} {M : Nat} {cs : Array Value} {T : TypeId} {l : List ByteArray} (h : Blk w M cs T) (hh : HeldS cs l) : Reads w (some ⟨M, 0, none⟩) l :=
  .inr ⟨M, 0, rfl, h.lt, fun i hi => by rw [h.cell, Nat.zero_add]; exact hh i hi⟩

/-- what the frame knows of a slice of strings that came in -/
def IsStrs (w : World) (a : Option Addr) (len cap : Nat) (zs : List ByteArray) : Prop :=
  (a = none ∧ len = 0 ∧ cap = 0 ∧ zs = []) ∨
  ∃ x, a = some x ∧ len ≤ cap ∧ cap ≤ maxLen ∧ len ≤ zs.length ∧ (∀ i, i < zs.length → w.cell? (x.add i) = some (.string (zs.getD i ByteArray.empty))) ∧ ∀ s ∈ zs, s.size ≤ maxLen
theorem block_lt {w : World} {x : Addr} {v : Value} (h : w.cell? x = some v) : x.block < w.heap.size := by
  by_cases hb : x.block < w.heap.size
  · exact hb
  · have : w.heap[x.block]? = none := by simp; omega
    simp [World.cell?, this] at h
theorem reads_of {w : World} {a : Option Addr} {len cap : Nat} {zs : List ByteArray} (h : IsStrs w a len cap zs) :
    ∃ l : List ByteArray, len = l.length ∧ Reads w a l ∧ l.length ≤ maxLen ∧ FitsS l := by
  rcases h with ⟨rfl, rfl, rfl, rfl⟩ | ⟨x, rfl, hl, hm, hz, hc, hs⟩
  · exact ⟨[], rfl, .inl rfl, by simp, fun i h => by simp at h⟩
  · have e : (zs.take len).length = len := by simp; omega
    refine ⟨zs.take len, e.symm, ?_, by omega, fun i hi => ?_⟩
    · by_cases h0 : len = 0
      · left; rw [h0]; simp
      · right
        obtain ⟨b, off, spot⟩ := x
        have h00 := hc 0 (by omega)
        have hspot : spot = none := by simpa [Addr.add] using World.cell?_spot h00
        subst hspot
        refine ⟨b, off, rfl, block_lt (x := ⟨b, off, none⟩) (by simpa [Addr.add] using h00), fun i hi => ?_⟩
        have hii := hc i (by omega)
        have en : nth (zs.take len) i = zs.getD i ByteArray.empty := by
          unfold nth
          simp only [List.getD_eq_getElem?_getD]
          rw [List.getElem?_take_of_lt (by omega)]
        have ea : (⟨b, off, none⟩ : Addr).add i = ⟨b, off + i, none⟩ := by by_cases h : i = 0 <;> simp [Addr.add, h]
        rw [en, ← ea]
        exact hii
    · have hi' : i < zs.length := by omega
      have en : nth (zs.take len) i = zs[i] := by
        unfold nth
        simp only [List.getD_eq_getElem?_getD]
        rw [List.getElem?_take_of_lt (by omega), List.getElem?_eq_getElem hi']; rfl
      rw [en]
      exact hs _ (List.getElem_mem _)
/-- a slice of strings that came in -/
theorem open_strs {H : Type} {enc : TypeId × Value → H} {W : World} {base : Nat} {spare : Nat → Bool} {held : Bool} {a : Option Addr} {len cap : Nat} {d : DataW H} {p : List MemPlace}
    (h : DataW.Trod enc Try.prog W base spare held 113 (.slice a len cap) d p) : ∃ l : List ByteArray, len = l.length ∧ Reads W a l ∧ l.length ≤ maxLen ∧ FitsS l := by
  obtain ⟨fuel, hf⟩ := h
  rcases open_strings Try.underlying113 Try.underlying9 (by kernel_rfl) hf with ⟨hcs, _⟩ | ⟨x, l, c, zs, hcs, _, hl, hm, hz, _, hcell, hwz⟩
  · simp [Value.cells] at hcs
    obtain ⟨rfl, rfl, rfl⟩ := hcs
    exact ⟨[], rfl, .inl rfl, by simp, fun i hi => by simp at hi⟩
  · simp [Value.cells] at hcs
    obtain ⟨rfl, rfl, rfl⟩ := hcs
    exact reads_of (zs := zs) (.inr ⟨_, rfl, hl, hm, by rw [hz]; split <;> omega, hcell, hwz⟩)
end Go.Proofs.Ytdmhccheaemkkaa.StrT
