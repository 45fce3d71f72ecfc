/-
  PROVED: impl.copiedChain gives a chain of the same alarms in memory of its own, each alarm's labels in a block of their own; nothing that was there is changed.
  PROVED: over a chain and an alarm in memory impl.PutChain answers as a plain function on lists says, in memory of its own; nothing that was there is changed.
  PROVED: over a chain in memory impl.DropOver answers as two plain functions on lists say, in memory of its own; nothing that was there is changed.
-/
import Derived.Test.YtbccaioahifloabQChnI
import Derived.Deep.DeepCutAuto
namespace Go.Proofs.Ytbccaioahifloab.ChnC
open Go.RowKit
open Go.Proofs.Ytbccaioahifloab.Labs Go.Proofs.Ytbccaioahifloab.LabS Go.Proofs.Ytbccaioahifloab.Alms Go.Proofs.Ytbccaioahifloab.AlmM Go.Proofs.Ytbccaioahifloab.Over Go.Proofs.Ytbccaioahifloab.Blk Go.Proofs.Ytbccaioahifloab.Rnd Go.Proofs.Ytbccaioahifloab.Plc Go.Proofs.Ytbccaioahifloab.Lop Go.Proofs.Ytbccaioahifloab.App Go.Proofs.Ytbccaioahifloab.Rws Go.Proofs.Ytbccaioahifloab.ChnI
set_option linter.unusedVariables false
attribute [local go_sem] Oper.semAt_some

def LenM (P : List PAl) : Prop := ∀ i, i < P.length → (nthP P i).l.length ≤ 1048576
theorem blkC_ne {w : World} {a : Nat} {cs ds : Array Value} (h : Blk w a cs 54) (k : Blk w a ds 64) : False := by
  unfold Blk at h k
  rw [h] at k
  injection k with k
  injection k with _ k
  exact absurd k (by decide)
end Go.Proofs.Ytbccaioahifloab.ChnC
namespace Go.Proofs.Ytbccaioahifloab.ChnP
open Go.RowKit
open Go.Proofs.Ytbccaioahifloab.Labs Go.Proofs.Ytbccaioahifloab.LabS Go.Proofs.Ytbccaioahifloab.Alms Go.Proofs.Ytbccaioahifloab.AlmM Go.Proofs.Ytbccaioahifloab.Over Go.Proofs.Ytbccaioahifloab.Blk Go.Proofs.Ytbccaioahifloab.App Go.Proofs.Ytbccaioahifloab.Rws Go.Proofs.Ytbccaioahifloab.ChnI Go.Proofs.Ytbccaioahifloab.ChnC
set_option linter.unusedVariables false

theorem set2 {B M : Nat} {w w' : World} (h : Below B w w') (hM : B ≤ M) (v0 v1 : Value) : Below B w ((w'.setCell ⟨M, 0, none⟩ v0).setCell ⟨M, 1, none⟩ v1) := set_low (set_low h hM 0 v0) hM 1 v1
theorem ab_moved {lo : Nat} {w w' : World} {M c : Nat} {rs : List ARow} (h : AB lo w M c rs) (hA : ∀ {cs : Array Value}, Blk w M cs 47 → Blk w' M cs 47) (hL : ∀ {k : Nat} {cs : Array Value}, Blk w k cs 64 → Blk w' k cs 64) : AB lo w' M c rs := by
  obtain ⟨cur, h1, h2⟩ := h.outer
  exact ⟨h.at', h.cap, ⟨cur, hA h1, h2⟩, fun x hx => by
    obtain ⟨k0, k1, ds, k2, k3⟩ := h.rows x hx
    exact ⟨k0, k1, ds, hL k2, k3⟩, h.ne⟩
theorem chain_alarm {w : World} {a b : Nat} {cs ds : Array Value} (h : Blk w a cs 54) (k : Blk w b ds 47) : a ≠ b := fun e => by
  subst e
  unfold Blk at h k
  rw [h] at k
  injection k with k
  injection k with _ k
  exact absurd k (by decide)
theorem chain_label {w : World} {a b : Nat} {cs ds : Array Value} (h : Blk w a cs 54) (k : Blk w b ds 64) : a ≠ b := fun e => by
  subst e
  exact blkC_ne h k
/-- a chain's block is written: the rows lie as they lay -/
theorem ab_set2 {lo : Nat} {w : World} {M c N : Nat} {rs : List ARow} {cs : Array Value} (h : AB lo w M c rs) (hN : Blk w N cs 54) (v0 v1 : Value) : AB lo ((w.setCell ⟨N, 0, none⟩ v0).setCell ⟨N, 1, none⟩ v1) M c rs :=
  ab_moved h (fun k => (k.set_other (chain_alarm hN k) _).set_other (chain_alarm hN k) _) (fun k => (k.set_other (chain_label hN k) _).set_other (chain_label hN k) _)
theorem ab_set1 {lo : Nat} {w : World} {M c N : Nat} {rs : List ARow} {cs : Array Value} (h : AB lo w M c rs) (hN : Blk w N cs 54) (i : Nat) (v : Value) : AB lo (w.setCell ⟨N, i, none⟩ v) M c rs :=
  ab_moved h (fun k => k.set_other (chain_alarm hN k) _) (fun k => k.set_other (chain_label hN k) _)
end Go.Proofs.Ytbccaioahifloab.ChnP
namespace Go.Proofs.Ytbccaioahifloab.ChnD
open Go.RowKit
open Go.Proofs.Ytbccaioahifloab.Labs Go.Proofs.Ytbccaioahifloab.LabS Go.Proofs.Ytbccaioahifloab.Alms Go.Proofs.Ytbccaioahifloab.AlmS Go.Proofs.Ytbccaioahifloab.AlmM Go.Proofs.Ytbccaioahifloab.Over Go.Proofs.Ytbccaioahifloab.Blk Go.Proofs.Ytbccaioahifloab.Rnd Go.Proofs.Ytbccaioahifloab.Plc Go.Proofs.Ytbccaioahifloab.Lop Go.Proofs.Ytbccaioahifloab.App Go.Proofs.Ytbccaioahifloab.Rws Go.Proofs.Ytbccaioahifloab.ChnI Go.Proofs.Ytbccaioahifloab.ChnC Go.Proofs.Ytbccaioahifloab.ChnP
set_option linter.unusedVariables false
attribute [local go_sem] Oper.semAt_some

/-- two rows of alarms, apart -/
structure Two (lo : Nat) (w : World) (M1 c1 : Nat) (rs1 : List ARow) (M2 c2 : Nat) (rs2 : List ARow) : Prop where
  a : AB lo w M1 c1 rs1
  b : AB lo w M2 c2 rs2
  ne : M1 ≠ M2
  far : ∀ x ∈ rs1, ∀ y ∈ rs2, x.1 ≠ y.1
theorem Two.grow {lo : Nat} {w w' : World} {M1 c1 : Nat} {rs1 : List ARow} {M2 c2 : Nat} {rs2 : List ARow} (h : Two lo w M1 c1 rs1 M2 c2 rs2) (hb : Below w.heap.size w w') : Two lo w' M1 c1 rs1 M2 c2 rs2 := ⟨h.a.grow hb, h.b.grow hb, h.ne, h.far⟩
/-- what is so between two rounds -/
structure Mid (w W0 : World) (f now : Int) (W : World) (M1 c1 : Nat) (rs1 : List ARow) (M2 c2 : Nat) (rs2 : List ARow) : Prop where
  two : Two w.heap.size W M1 c1 rs1 M2 c2 rs2
  low : w.heap.size + 3 ≤ M1 ∧ w.heap.size + 3 ≤ M2
  bnow : Blk W (w.heap.size + 1) #[.int .i64 now] 3
  bres : Blk W (w.heap.size + 1 + 1) #[.int .i64 0, .slice none 0 0] 54
  bleft : Blk W (w.heap.size + 1 + 1 + 1 + 1 + 1) #[.int .i64 f, .slice (some ⟨M1, 0, none⟩) rs1.length c1] 54
  bover : Blk W (w.heap.size + 1 + 1 + 1 + 1 + 1 + 1) #[.slice (some ⟨M2, 0, none⟩) rs2.length c2] 24
  below : Below w.heap.size w W
  size : W0.heap.size ≤ W.heap.size
theorem Mid.grow {w W0 : World} {f now : Int} {W W' : World} {M1 c1 : Nat} {rs1 : List ARow} {M2 c2 : Nat} {rs2 : List ARow} (h : Mid w W0 f now W M1 c1 rs1 M2 c2 rs2) (hb : Below W.heap.size W W') : Mid w W0 f now W' M1 c1 rs1 M2 c2 rs2 :=
  ⟨h.two.grow hb, h.low, h.bnow.grow hb, h.bres.grow hb, h.bleft.grow hb, h.bover.grow hb, grow_on h.below hb, Nat.le_trans h.size hb.size⟩
end Go.Proofs.Ytbccaioahifloab.ChnD
