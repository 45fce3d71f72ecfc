/-
  PROVED: spec.l7Copy gives a part of the same chains in memory of its own; what an alarm that is put into a part makes of its chains, on plain lists; nothing that was there is changed.
-/
import Derived.Test.YtcopckbpflmmeabPrtF
import Derived.Test.YtcopckbpflmmeabChnU
namespace Go.Proofs.Ytcopckbpflmmeab.PrtC
open Go.RowKit
open Go.Proofs.Ytcopckbpflmmeab.Labs Go.Proofs.Ytcopckbpflmmeab.LabS Go.Proofs.Ytcopckbpflmmeab.Alms Go.Proofs.Ytcopckbpflmmeab.AlmM Go.Proofs.Ytcopckbpflmmeab.Over Go.Proofs.Ytcopckbpflmmeab.Blk Go.Proofs.Ytcopckbpflmmeab.App Go.Proofs.Ytcopckbpflmmeab.Rws Go.Proofs.Ytcopckbpflmmeab.ChnI Go.Proofs.Ytcopckbpflmmeab.ChnC Go.Proofs.Ytcopckbpflmmeab.ChnP Go.Proofs.Ytcopckbpflmmeab.ChnU Go.Proofs.Ytcopckbpflmmeab.ChnK Go.Proofs.Ytcopckbpflmmeab.Chs Go.Proofs.Ytcopckbpflmmeab.Prt Go.Proofs.Ytcopckbpflmmeab.PrtO Go.Proofs.Ytcopckbpflmmeab.PrtF
open Go.Proofs.Ytcopckbpflmmeab.Fing (fingerB)
set_option linter.unusedVariables false

/-- the state of l7Copy's loop -/
structure MidC (w : World) (hd vr : Int) (a : Option Addr) (n cap : Nat) (W : World) (M c : Nat) (cs : List CRow) : Prop where
  part : Blk W w.heap.size #[.int .i64 hd, .int .i64 vr, .slice a n cap] 28
  res : Blk W (w.heap.size + 1) #[.int .i64 0, .int .i64 0, .slice none 0 0] 28
  out : Blk W (w.heap.size + 3) #[.int .i64 hd, .int .i64 vr, .slice (some ⟨M, 0, none⟩) cs.length c] 28
  left : CB (w.heap.size + 2) W M c cs
  low : Below w.heap.size w W
  size : w.heap.size + 4 ≤ W.heap.size
theorem MidC.grow {w : World} {hd vr : Int} {a : Option Addr} {n cap : Nat} {W W' : World} {M c : Nat} {cs : List CRow} (h : MidC w hd vr a n cap W M c cs) (hb : Below W.heap.size W W') : MidC w hd vr a n cap W' M c cs :=
  ⟨h.part.grow hb, h.res.grow hb, h.out.grow hb, h.left.grow hb, grow_on h.low hb, Nat.le_trans h.size hb.size⟩
/-- how many chains stand ahead of the number f: those at the head that are less -/
def posTo (C : List PCh) (f : Int) : Nat → Nat
  | 0 => 0
  | k + 1 => if posTo C f k = k ∧ (nthC C k).f < f then k + 1 else posTo C f k
def posB (C : List PCh) (f : Int) : Nat := posTo C f C.length
theorem posTo_le (C : List PCh) (f : Int) : ∀ k, posTo C f k ≤ k
  | 0 => Nat.le_refl _
  | k + 1 => by have := posTo_le C f k; rw [posTo]; split <;> omega
theorem posTo_all {C : List PCh} {f : Int} : ∀ {k : Nat}, (∀ j, j < k → (nthC C j).f < f) → posTo C f k = k
  | 0, _ => rfl
  | k + 1, h => by rw [posTo, posTo_all (fun j hj => h j (by omega)), if_pos ⟨rfl, h k (by omega)⟩]
theorem posTo_at {C : List PCh} {f : Int} {i : Nat} (h : ∀ j, j < i → (nthC C j).f < f) (hi : ¬ (nthC C i).f < f) : ∀ {k : Nat}, i < k → posTo C f k = i
  | 0, q => by omega
  | k + 1, q => by
    by_cases e : i = k
    · subst e
      rw [posTo, posTo_all h, if_neg (fun x => hi x.2)]
    · have := posTo_at h hi (k := k) (by omega)
      rw [posTo, this, if_neg (fun x => by omega)]
theorem pos_all {C : List PCh} {f : Int} (h : ∀ j, j < C.length → (nthC C j).f < f) : posB C f = C.length := posTo_all h
theorem pos_at {C : List PCh} {f : Int} {i : Nat} (h : ∀ j, j < i → (nthC C j).f < f) (hi : ¬ (nthC C i).f < f) (hl : i < C.length) : posB C f = i := posTo_at h hi hl
theorem pos_le (C : List PCh) (f : Int) : posB C f ≤ C.length := posTo_le C f _
/-- the chains of a part behind a put -/
def putC (C : List PCh) (x : PAl) : List PCh :=
  match atO C (fingerB x.l) with
  | some k => C.set k ⟨(nthC C k).f, putL (nthC C k).P x⟩
  | none => C.take (posB C (fingerB x.l)) ++ ⟨fingerB x.l, [x]⟩ :: C.drop (posB C (fingerB x.l))
def newC (C : List PCh) (x : PAl) : Bool :=
  match atO C (fingerB x.l) with
  | some k => isNew (nthC C k).P x.l
  | none => true
theorem put_some {C : List PCh} {x : PAl} {k : Nat} (h : atO C (fingerB x.l) = some k) : putC C x = C.set k ⟨(nthC C k).f, putL (nthC C k).P x⟩ ∧ newC C x = isNew (nthC C k).P x.l := by unfold putC newC; rw [h]; exact ⟨rfl, rfl⟩
theorem put_none {C : List PCh} {x : PAl} (h : atO C (fingerB x.l) = none) : putC C x = C.take (posB C (fingerB x.l)) ++ ⟨fingerB x.l, [x]⟩ :: C.drop (posB C (fingerB x.l)) ∧ newC C x = true := by unfold putC newC; rw [h]; exact ⟨rfl, rfl⟩
end Go.Proofs.Ytcopckbpflmmeab.PrtC
