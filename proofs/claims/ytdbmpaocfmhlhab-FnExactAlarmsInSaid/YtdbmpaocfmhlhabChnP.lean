/-
  PROVED: over a chain and an alarm in memory impl.PutChain answers as a plain function on lists says, in memory of its own; nothing that was there is changed.
-/
import Derived.Test.YtdbmpaocfmhlhabChnC
namespace Go.Proofs.Ytdbmpaocfmhlhab.ChnP
open Go.RowKit
open Go.Proofs.Ytdbmpaocfmhlhab.Labs Go.Proofs.Ytdbmpaocfmhlhab.LabS Go.Proofs.Ytdbmpaocfmhlhab.Alms Go.Proofs.Ytdbmpaocfmhlhab.AlmM Go.Proofs.Ytdbmpaocfmhlhab.Over Go.Proofs.Ytdbmpaocfmhlhab.Blk Go.Proofs.Ytdbmpaocfmhlhab.App Go.Proofs.Ytdbmpaocfmhlhab.Rws Go.Proofs.Ytdbmpaocfmhlhab.ChnI Go.Proofs.Ytdbmpaocfmhlhab.ChnC
set_option linter.unusedVariables false

theorem len_m {P : List PAl} (h : LenM P) : LenP P := fun i hi => by have := h i hi; unfold maxLen; omega
theorem set2 {B M : Nat} {w w' : World} (h : Below B w w') (hM : B ≤ M) (v0 v1 : Value) : Below B w ((w'.setCell ⟨M, 0, none⟩ v0).setCell ⟨M, 1, none⟩ v1) := set_low (set_low h hM 0 v0) hM 1 v1
theorem ab_moved {lo : Nat} {w w' : World} {M c : Nat} {rs : List ARow} (h : AB lo w M c rs) (hA : ∀ {cs : Array Value}, Blk w M cs 46 → Blk w' M cs 46) (hL : ∀ {k : Nat} {cs : Array Value}, Blk w k cs 63 → Blk w' k cs 63) : AB lo w' M c rs := by
  obtain ⟨cur, h1, h2⟩ := h.outer
  exact ⟨h.at', h.cap, ⟨cur, hA h1, h2⟩, fun x hx => by
    obtain ⟨k0, k1, ds, k2, k3⟩ := h.rows x hx
    exact ⟨k0, k1, ds, hL k2, k3⟩, h.ne⟩
theorem chain_alarm {w : World} {a b : Nat} {cs ds : Array Value} (h : Blk w a cs 40) (k : Blk w b ds 46) : a ≠ b := fun e => by
  subst e
  unfold Blk at h k
  rw [h] at k
  injection k with k
  injection k with _ k
  exact absurd k (by decide)
theorem chain_label {w : World} {a b : Nat} {cs ds : Array Value} (h : Blk w a cs 40) (k : Blk w b ds 63) : a ≠ b := fun e => by
  subst e
  exact blkC_ne h k
/-- a chain's block is written: the rows lie as they lay -/
theorem ab_set2 {lo : Nat} {w : World} {M c N : Nat} {rs : List ARow} {cs : Array Value} (h : AB lo w M c rs) (hN : Blk w N cs 40) (v0 v1 : Value) : AB lo ((w.setCell ⟨N, 0, none⟩ v0).setCell ⟨N, 1, none⟩ v1) M c rs :=
  ab_moved h (fun k => (k.set_other (chain_alarm hN k) _).set_other (chain_alarm hN k) _) (fun k => (k.set_other (chain_label hN k) _).set_other (chain_label hN k) _)
theorem ab_set1 {lo : Nat} {w : World} {M c N : Nat} {rs : List ARow} {cs : Array Value} (h : AB lo w M c rs) (hN : Blk w N cs 40) (i : Nat) (v : Value) : AB lo (w.setCell ⟨N, i, none⟩ v) M c rs :=
  ab_moved h (fun k => k.set_other (chain_alarm hN k) _) (fun k => k.set_other (chain_label hN k) _)
theorem own_grow {w w' : World} {B : Nat} {e : TypeId} {size n : Nat} {v : Value} {xs : List Value} (h : w.ownsRow B e size v n xs) (hb : Below w.heap.size w w') : w'.ownsRow B e size v n xs :=
  h.kept (bel_grown hb) (by cases hv : v.ownBlock with | none => exact .inl rfl | some k => exact .inr (fun e => by cases e))
theorem retC {M n n' c : Nat} {f : Int} {b b' : Bool} (h : n = n') (hb : b = b') : Ending.returned (.tuple #[.agg #[.int .i64 f, .slice (some ⟨M, 0, none⟩) n c], .bool b]) = .returned (.tuple #[.agg #[.int .i64 f, .slice (some ⟨M, 0, none⟩) n' c], .bool b']) := by rw [h, hb]
theorem pals_put (rs : List ARow) (k : Nat) (x : ARow) : pals (putA rs k x) = (pals rs).set k x.2.2 := by simp [pals, putA, List.map_set]
theorem putA_len (rs : List ARow) (k : Nat) (x : ARow) : (putA rs k x).length = rs.length := by simp [putA]
end Go.Proofs.Ytdbmpaocfmhlhab.ChnP
