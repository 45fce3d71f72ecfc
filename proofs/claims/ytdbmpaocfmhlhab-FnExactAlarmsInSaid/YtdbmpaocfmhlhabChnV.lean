/-
  PROVED: over a chain in memory spec.DropOver answers as two plain functions on lists say, in memory of its own; nothing that was there is changed.
-/
import Derived.Test.YtdbmpaocfmhlhabChnU
namespace Go.Proofs.Ytdbmpaocfmhlhab.ChnV
open Go.RowKit
open Go.Proofs.Ytdbmpaocfmhlhab.Labs Go.Proofs.Ytdbmpaocfmhlhab.LabS Go.Proofs.Ytdbmpaocfmhlhab.Alms Go.Proofs.Ytdbmpaocfmhlhab.AlmS Go.Proofs.Ytdbmpaocfmhlhab.AlmM Go.Proofs.Ytdbmpaocfmhlhab.Over Go.Proofs.Ytdbmpaocfmhlhab.Blk Go.Proofs.Ytdbmpaocfmhlhab.App Go.Proofs.Ytdbmpaocfmhlhab.Rws Go.Proofs.Ytdbmpaocfmhlhab.ChnI Go.Proofs.Ytdbmpaocfmhlhab.ChnC Go.Proofs.Ytdbmpaocfmhlhab.ChnP Go.Proofs.Ytdbmpaocfmhlhab.ChnD
set_option linter.unusedVariables false

/-- what is so between two rounds -/
structure MidS (w : World) (f : Int) (a : Option Addr) (n cap : Nat) (W : World) (M1 c1 : Nat) (rs1 : List ARow) (M2 c2 : Nat) (rs2 : List ARow) : Prop where
  two : Two w.heap.size W M1 c1 rs1 M2 c2 rs2
  low : w.heap.size + 2 ≤ M1 ∧ w.heap.size + 2 ≤ M2
  bch : Blk W w.heap.size #[.int .i64 f, .slice a n cap] 40
  bres : Blk W (w.heap.size + 1) #[.int .i64 0, .slice none 0 0] 40
  bleft : Blk W (w.heap.size + 1 + 1 + 1) #[.int .i64 f, .slice (some ⟨M1, 0, none⟩) rs1.length c1] 40
  below : Below w.heap.size w W
theorem MidS.grow {w : World} {f : Int} {a : Option Addr} {n cap : Nat} {W W' : World} {M1 c1 : Nat} {rs1 : List ARow} {M2 c2 : Nat} {rs2 : List ARow} (h : MidS w f a n cap W M1 c1 rs1 M2 c2 rs2) (hb : Below W.heap.size W W') : MidS w f a n cap W' M1 c1 rs1 M2 c2 rs2 :=
  ⟨h.two.grow hb, h.low, h.bch.grow hb, h.bres.grow hb, h.bleft.grow hb, grow_on h.below hb⟩
theorem left_o {P : List PAl} {now : Int} {k : Nat} (h : k < P.length) (ho : overB (nthP P k).e now = true) : leftTo P now (k + 1) = leftTo P now k ∧ goneTo P now (k + 1) = goneTo P now k ++ [nthP P k] := by rw [left_up h, gone_up h, if_pos ho, if_pos ho]; simp
theorem left_k {P : List PAl} {now : Int} {k : Nat} (h : k < P.length) (ho : overB (nthP P k).e now = false) : leftTo P now (k + 1) = leftTo P now k ++ [nthP P k] ∧ goneTo P now (k + 1) = goneTo P now k := by rw [left_up h, gone_up h, ho]; simp
theorem to_le {P : List PAl} {now : Int} {k : Nat} (h : k ≤ P.length) : (leftTo P now k).length ≤ P.length ∧ (goneTo P now k).length ≤ P.length := by
  have h1 := drop_len P now k
  have h2 : (P.take k).length ≤ P.length := by simp; omega
  exact ⟨by omega, by omega⟩
end Go.Proofs.Ytdbmpaocfmhlhab.ChnV
