/-
  PROVED: over two alarms whose labels lie in memory spec.Merge and impl.Merge answer alike, in memory of their own; nothing that was there is changed.
-/
import Derived.Test.YtgncimlojbnbfabAlmS
import Derived.Test.YtgncimlojbnbfabLabR
import Derived.Test.YtgncimlojbnbfabApp
namespace Go.Proofs.Ytgncimlojbnbfab.AlmM
open Go.RowKit
open Go.Proofs.Ytgncimlojbnbfab.Labs Go.Proofs.Ytgncimlojbnbfab.LabS Go.Proofs.Ytgncimlojbnbfab.LabR Go.Proofs.Ytgncimlojbnbfab.Alm Go.Proofs.Ytgncimlojbnbfab.AlmS Go.Proofs.Ytgncimlojbnbfab.Over Go.Proofs.Ytgncimlojbnbfab.Blk Go.Proofs.Ytgncimlojbnbfab.App
open Go.Proofs.Ytgncimlojbnbfab.LabT (infoL Held held_reads)
open Go.Proofs.Ytgncimlojbnbfab.StrB (retB)
set_option linter.unusedVariables false

theorem src_of {w : World} {ad : Addr} {l : List Lab} (h : Reads w (some ad) l) : ∀ j u, (flat l)[j]? = some u → w.cell? (ad.add j) = some u := fun j u hj => by
  rcases reads_src h with h0 | ⟨ad', e, h1⟩
  · have : l = [] := List.eq_nil_of_length_eq_zero h0
    subst this
    simp [flat] at hj
  · cases e; exact h1 j u hj
/-- a row of the call's own -/
theorem own_row {w' : World} {B g n c : Nat} {l : List Lab} (h : w'.ownsRow B 47 2 (.slice (some ⟨g, 0, none⟩) n c) l.length (flat l)) : B ≤ g ∧ ∃ cs : Array Value, Blk w' g cs 47 ∧ l.length * 2 ≤ cs.size ∧ Held cs l l.length := by
  rcases h.2 with ⟨e, _⟩ | ⟨g', cap', cur, e, hb, hg, hc, _, hz, ht⟩
  · cases e
  · cases e
    refine ⟨hb, cur, hg, ?_, fun j hj => ?_⟩
    · rw [hz]; omega
    · have h2 := flat_get l j hj
      have hl := flat_len l
      rw [← ht, List.getElem?_take_of_lt (by omega), List.getElem?_take_of_lt (by omega)] at h2
      simpa using h2
theorem flat_heldL (l : List Lab) : Held (flat l).toArray l l.length := flat_held l

/-- the lesser one of two -/
def leastB (a b : Int) : Int := if b < a then b else a
theorem least_y {a b : Int} (h : b < a) : leastB a b = b := if_pos h
theorem least_n {a b : Int} (h : ¬ b < a) : leastB a b = a := if_neg h
theorem retI {a b : Int} (h : a = b) : Ending.returned (.int .i64 a) = .returned (.int .i64 b) := by rw [h]
/-- the start of two alarms merged -/
def startB (s e s' e' : Int) : Int := if touchB s e s' e' = true then leastB s s' else s'
theorem start_y {s e s' e' : Int} (h : touchB s e s' e' = true) : startB s e s' e' = leastB s s' := if_pos h
theorem start_n {s e s' e' : Int} (h : touchB s e s' e' = false) : startB s e s' e' = s' := by unfold startB; rw [h]; rfl
theorem retA {M n c : Nat} {s s' e : Int} {t : ByteArray} (h : s = s') : Ending.returned (.agg #[.slice (some ⟨M, 0, none⟩) n c, .int .i64 s, .int .i64 e, .string t]) = .returned (.agg #[.slice (some ⟨M, 0, none⟩) n c, .int .i64 s', .int .i64 e, .string t]) := by rw [h]

end Go.Proofs.Ytgncimlojbnbfab.AlmM
