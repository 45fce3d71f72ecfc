/-
  What a law over drawn inputs begins with: the code that came in as a row of bytes; laws.big; the order of bytes is total.
-/
import Derived.Test.YtgncimlojbnbfaaGreatQDrawW
import Derived.ProofKit
import Derived.OpenShut
set_option linter.unusedVariables false
namespace Go.Proofs.YtgncimlojbnbfaaGreat.LawB
open Go.RowKit Draw
open Go.ChangeShapes Go.WideShapes Go.ChangeAt

def IsRow (k : IntKind) (w : World) (a : Option Addr) (len cap : Nat) (zs : List Int) : Prop :=
  (a = none ∧ len = 0 ∧ cap = 0 ∧ zs = []) ∨
  ∃ x, a = some x ∧ len ≤ cap ∧ cap ≤ maxLen ∧ zs.length = cap ∧ (∀ i, i < zs.length → w.cell? (x.add i) = some (.int k (zs.getD i 0))) ∧ ∀ n ∈ zs, (Lit.int k n).wf = true

theorem block_lt {w : World} {x : Addr} {v : Value} (h : w.cell? x = some v) : x.block < w.heap.size := by
  by_cases hb : x.block < w.heap.size
  · exact hb
  · have : w.heap[x.block]? = none := by simp; omega
    simp [World.cell?, this] at h

theorem bytes_of {w : World} {a : Option Addr} {len cap : Nat} {zs : List Int} (h : IsRow .u8 w a len cap zs) : len ≤ maxLen ∧ Bytes w a len w.heap.size := by
  rcases h with ⟨rfl, rfl, rfl, rfl⟩ | ⟨x, rfl, hl, hm, hz, hc, hs⟩
  · exact ⟨by simp, .inl rfl⟩
  · refine ⟨by omega, ?_⟩
    by_cases h0 : len = 0
    · exact .inl h0
    · obtain ⟨b, off, spot⟩ := x
      have h00 := hc 0 (by omega)
      have hspot : spot = none := by simpa [Addr.add] using World.cell?_spot h00
      subst hspot
      refine .inr ⟨b, off, rfl, block_lt (x := ⟨b, off, none⟩) (by simpa [Addr.add] using h00), fun i hi => ?_⟩
      have hii := hc i (by omega)
      have ea : (⟨b, off, none⟩ : Addr).add i = ⟨b, off + i, none⟩ := by by_cases h : i = 0 <;> simp [Addr.add, h]
      rw [ea] at hii
      have hi' : i < zs.length := by omega
      have hw := hs (zs.getD i 0) (by rw [List.getD_eq_getElem?_getD, List.getElem?_eq_getElem hi']; exact List.getElem_mem _)
      have hbd := bounds_u8 hw
      exact ⟨_, hii, hbd.1, hbd.2⟩

theorem bytes_up {w w' : World} {a : Option Addr} {len : Nat} (h : Bytes w a len w.heap.size) (hb : Below w.heap.size w w') : Bytes w' a len w'.heap.size := by
  rcases h with h | ⟨b, off, rfl, hlt, hz⟩
  · exact .inl h
  · exact .inr ⟨b, off, rfl, Nat.lt_of_lt_of_le hlt hb.size, fun j hj => by
      obtain ⟨z, h1, h2⟩ := hz j hj
      exact ⟨z, by rw [hb.cell (p := ⟨b, off + j, none⟩) hlt]; exact h1, h2⟩⟩

theorem retB {a b : Bool} (h : a = b) : Ending.returned (.bool a) = .returned (.bool b) := by rw [h]
theorem big_any (a : Option Addr) (len cap : Nat) (w : World) (hl : len ≤ maxLen) :
    Calls Tryz.prog 4 #[.slice a len cap] w fun e w' => e = .returned (.bool (decide ((1048576 : Int) < (len : Int)))) ∧ w' = w := by
  unfold maxLen at hl
  by_cases c : (1048576 : Int) < (len : Int)
  all_goals
    go_enter Tryz.func4, Tryz.ntmps4
    go_wp2
    go_ret
    exact ⟨retB (by simp; omega), rfl⟩

end Go.Proofs.YtgncimlojbnbfaaGreat.LawB
