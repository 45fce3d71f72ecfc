/-
  A struct by value that came in, whatever the number of its fields: each field's cell is read as a datum of the field's type.
-/
import Derived.Lib.SmallJoins
import Derived.ChangeShapes
namespace Go.Proofs.Ytgncimlojbnbfaa.Opn
open Go.RowKit
open Go.ChangeShapes Go.WideShapes Go.Deep
set_option linter.unusedVariables false
theorem open_fields {H : Type} {enc : TypeId × Value → H} {P : Program} {w : World} {base b0 : Nat} {spare : Nat → Bool} {held : Bool} {r : Reach} {t : TypeId} {fs : Array Field} {v : Value} {d : DataW H} {p : List MemPlace}
    (hs : P.underlying t = some (.struct fs)) (hone : oneCellFields P fs = true) (hv : Value.okWide P w r b0 t v) (h : DataW.Trod enc P w base spare held t v d p) :
    ∃ (cs : Array Value) (n : Nat), v = .agg cs ∧ cs.size = P.cellsOf t ∧ ∀ (i : Nat) (f : Field) (c : Value), fs[i]? = some f → cs[i]? = some c → ∃ y, DataW.trod enc P w base spare held n f.type [c] = some y := by
  obtain ⟨cs, rfl, hsz⟩ := okWide_struct hs hv
  obtain ⟨fuel, hf⟩ := h
  obtain ⟨xs, n, hn, hx, hl, hlen, hf⟩ := DataW.trod_struct hs hf
  refine ⟨cs, n, rfl, hsz, fun i f c hfi hci => ?_⟩
  obtain ⟨o, k⟩ := hone_of hone i f hfi
  have h1 := hf i f hfi
  have hi : i < xs.length := by
    have := (Array.getElem?_eq_some_iff.1 hfi).1
    omega
  refine ⟨xs[i], ?_⟩
  have e : ((Value.agg cs).cells.toList.drop f.offset).take (P.cellsOf f.type) = [c] := by
    rw [o, k]
    have hc : cs.toList[i]? = some c := by simpa using hci
    obtain ⟨hlt, hc⟩ := List.getElem?_eq_some_iff.1 hc
    show (cs.toList.drop i).take 1 = [c]
    rw [List.drop_eq_getElem_cons hlt, hc]; rfl
  rw [e] at h1
  rw [h1]
  simp [hi]
end Go.Proofs.Ytgncimlojbnbfaa.Opn
