/-
  PROVED: over a part in memory spec.PartOk and impl.PartOk answer alike, as a plain function on lists of chains says; nothing that was there is changed.
  PROVED: over a part in memory spec.l7At finds the first chain of a number, and spec.FindIn gives a copy of the first alarm of the labels in it, as plain functions on lists of chains say; nothing that was there is changed.
-/
import Derived.Test.YtooninmicfcfoaaQPrt
set_option linter.unusedVariables false
namespace Go.Proofs.Ytooninmicfcfoaa.PrtO
open Go.RowKit
open Labs LabS Alms AlmS AlmM Over Blk App Rws ChnI ChnC ChnP ChnO ChnS ChnK Chs Prt
open StrB (retB)
open Sums (partB)
open Alm (at_par)

def okP (C : List PCh) (i n : Int) (k : Nat) : Bool := chainB (nthC C k).f (nthC C k).P && (decide (partB (nthC C k).f n = i) && (decide (k = 0) || decide ((nthC C (k - 1)).f < (nthC C k).f)))
theorem ok_up {C : List PCh} {i n : Int} {k : Nat} (h : ∀ j, j < k → okP C i n j = true) (hk : okP C i n k = true) : ∀ j, j < k + 1 → okP C i n j = true := fun j hj => by
  by_cases e : j = k
  · subst e; exact hk
  · exact h j (by omega)
def Small (C : List PCh) : Prop := ∀ x ∈ C, x.P.length ≤ 1048576 ∧ LenM x.P
end Go.Proofs.Ytooninmicfcfoaa.PrtO
namespace Go.Proofs.Ytooninmicfcfoaa.PrtF
open Go.RowKit
open Labs LabS Alms AlmS AlmM Over Blk App Rws ChnI ChnC ChnP ChnS ChnK Chs Prt PrtO
open Fing (fingerB)
open Alm (at_par)

def atTo (C : List PCh) (f : Int) : Nat → Option Nat
  | 0 => none
  | k + 1 => match atTo C f k with
    | some j => some j
    | none => if (nthC C k).f = f then some k else none
def atO (C : List PCh) (f : Int) : Option Nat := atTo C f C.length
def atB (C : List PCh) (f : Int) : Int :=
  match atO C f with
  | some j => (j : Int)
  | none => -1
theorem atTo_none {C : List PCh} {f : Int} : ∀ {k : Nat}, (∀ j, j < k → (nthC C j).f ≠ f) → atTo C f k = none
  | 0, _ => rfl
  | k + 1, h => by
    rw [atTo, atTo_none (fun j hj => h j (by omega))]
    simp only []
    rw [if_neg (h k (by omega))]
theorem atTo_some {C : List PCh} {f : Int} {j : Nat} (hj : ∀ i, i < j → (nthC C i).f ≠ f) (he : (nthC C j).f = f) : ∀ {k : Nat}, j < k → atTo C f k = some j
  | 0, h => by omega
  | k + 1, h => by
    by_cases e : j = k
    · subst e
      rw [atTo, atTo_none hj]
      simp only []
      rw [if_pos he]
    · rw [atTo, atTo_some hj he (k := k) (by omega)]
theorem atTo_cases (C : List PCh) (f : Int) : ∀ k, (∀ j, j < k → (nthC C j).f ≠ f) ∨ ∃ j, j < k ∧ (nthC C j).f = f ∧ ∀ i, i < j → (nthC C i).f ≠ f
  | 0 => .inl fun j h => by omega
  | k + 1 => by
    rcases atTo_cases C f k with h | ⟨j, h0, h1, h2⟩
    · by_cases e : (nthC C k).f = f
      · exact .inr ⟨k, by omega, e, h⟩
      · refine .inl fun j hj => ?_
        by_cases q : j = k
        · subst q; exact e
        · exact h j (by omega)
    · exact .inr ⟨j, by omega, h1, h2⟩
theorem at_cases (C : List PCh) (f : Int) : (atO C f = none ∧ atB C f = -1 ∧ ∀ j, j < C.length → (nthC C j).f ≠ f) ∨ ∃ k : Nat, atO C f = some k ∧ atB C f = (k : Int) ∧ k < C.length ∧ (nthC C k).f = f ∧ ∀ j, j < k → (nthC C j).f ≠ f := by
  rcases atTo_cases C f C.length with h | ⟨k, h0, h1, h2⟩
  · have e : atO C f = none := atTo_none h
    exact .inl ⟨e, by unfold atB; rw [e], h⟩
  · have e : atO C f = some k := atTo_some h2 h1 h0
    exact .inr ⟨k, e, by unfold atB; rw [e], h0, h1, h2⟩
theorem at_miss {C : List PCh} {f : Int} (h : ∀ j, j < C.length → (nthC C j).f ≠ f) : atB C f = -1 := by
  have e : atO C f = none := atTo_none h
  unfold atB; rw [e]
theorem at_hit {C : List PCh} {f : Int} {j : Nat} (hj : ∀ i, i < j → (nthC C i).f ≠ f) (he : (nthC C j).f = f) (hl : j < C.length) : atB C f = (j : Int) := by
  have e : atO C f = some j := atTo_some hj he hl
  unfold atB; rw [e]
set_option maxHeartbeats 800000 in
theorem l7At_any (hd vr f : Int) (a : Option Addr) (cap : Nat) (C : List PCh) (w : World) (hr : RdG RdA w a C) (hl : C.length ≤ 1048576) :
    Calls Try.prog 19 #[.agg #[.int .i64 hd, .int .i64 vr, .slice a C.length cap], .int .i64 f] w fun e w' => e = .returned (.int .i64 (atB C f)) ∧ Below w.heap.size w w' := by
  have HR : Hid (RdG RdA w a C) := hr
  clear hr
  go_enter Try.func19, Try.ntmps19
  go_wp2
  go_loopw [5] (fun q w' => ∃ k : Nat, q = .int .i64 k ∧ k ≤ C.length ∧ (∀ j, j < k → (nthC C j).f ≠ f) ∧ Below (w.alloc (.cells #[.int .i64 hd, .int .i64 vr, .slice a C.length cap] 32)).heap.size (w.alloc (.cells #[.int .i64 hd, .int .i64 vr, .slice a C.length cap] 32)) w') (fun q _ => C.length - (intOf q).toNat)
  case atStart => exact ⟨0, rfl, Nat.zero_le _, fun j h => by omega, Below.refl _ _⟩
  case round =>
    obtain ⟨k, rfl, hk, hu, hw⟩ := hrel
    have HU : Hid (∀ j, j < k → (nthC C j).f ≠ f) := hu
    have c2 : wr.cell? ⟨w.heap.size, 2, none⟩ = some (.slice a C.length cap) := at_par hw 2 rfl
    have HB0 : Hid (Below (w.alloc (.cells #[.int .i64 hd, .int .i64 vr, .slice a C.length cap] 32)).heap.size (w.alloc (.cells #[.int .i64 hd, .int .i64 vr, .slice a C.length cap] 32)) wr) := hw
    have HBW : Hid (Below w.heap.size w wr) := grow_on (Go.Joins.below_alloc1 w _) hw
    clear hu hw
    by_cases hlt : k < C.length
    · have hlt' : (k : Int) < (C.length : Int) := by omega
      obtain ⟨b, off, ea, hb, ad, cp, hat⟩ := (HR.out.below stays_rd HBW.out).get hlt
      cases ea
      have x0 := hat.c0
      clear hat
      by_cases hf : (nthC C k).f = f
      · have HE : Hid (atB C f = (k : Int)) := at_hit HU.out hf hlt
        go_wp2
        go_ret
        exact ⟨ChnI.retI HE.out.symm, HBW.out⟩
      · have HU1 : Hid (∀ j, j < k + 1 → (nthC C j).f ≠ f) := fun j hj => by
          by_cases e : j = k
          · subst e; exact hf
          · exact HU.out j (by omega)
        go_wp2
        go_roundw
        case rel => exact ⟨k + 1, by go_num, by omega, HU1.out, HB0.out⟩
        case measure => simp [intOf]; omega
    · have hge : ¬ (k : Int) < (C.length : Int) := by omega
      have HE : Hid (atB C f = -1) := at_miss fun j hj => HU.out j (by omega)
      go_wp2
      go_ret
      exact ⟨ChnI.retI HE.out.symm, HBW.out⟩

end Go.Proofs.Ytooninmicfcfoaa.PrtF
