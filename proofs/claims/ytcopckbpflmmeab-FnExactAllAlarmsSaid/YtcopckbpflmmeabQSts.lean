/-
  PROVED: over any string spec.Sum and impl.Sum answer alike, as a plain function on its bytes says, between nought and 2 to the 32; spec.PartOf and impl.PartOf answer the remainder, nought at wrong input; nothing is changed.
  PROVED: over a slice of labels in memory spec.Finger and impl.Finger answer alike, between nought and 31, as a plain function says; so do spec.Alike and impl.Alike over two; nothing that was there is changed.
  PROVED: over a chain in memory impl.ChainOk answers as a plain function on lists says; nothing that was there is changed.
  PROVED: over chains in memory spec.InChain, spec.ChainOk, spec.SameChain and impl.SameChain answer as plain functions on lists say; nothing that was there is changed.
  PROVED: over two chains in memory spec.SameChain and impl.SameChain answer alike, as a plain function on lists says; spec.l4All and spec.l6Copy give the same alarms in memory of their own; nothing that was there is changed.
  PROVED: over chains in memory spec.l6Copy, spec.PutChain and spec.DropOver answer as plain functions on lists say, in memory of their own; nothing that was there is changed.
  PROVED: over a chain in memory spec.DropOver answers as two plain functions on lists say, in memory of its own; nothing that was there is changed.
  PROVED: the contracts of what the exact laws call over chains: the size that szChain counts, the copy that toChain makes, that eqChain finds two of the same alike, the marks that markAlarmS writes and heldAlarmS finds; what a chain that came in is.
  PROVED: slices of chains: what one that came in is; the size that szChainS and szPart count, the copy that toChainS and toPart make, that eqChainS and eqPart find two of the same alike; rows of chains in memory of a call's own, read, grown by an append, written at a place.
  PROVED: parts: what one that came in is; the copy that toPart makes, that eqChainS and eqPart find two of the same alike.
  PROVED: the marks that markChainS and markPart write lie in the chains' own memory alone, and heldChainS and heldPart find them.
  PROVED: slices of parts: what one that came in is; the size that szPartS counts, the copy that toPartS makes, that eqPartS finds two of the same alike; rows of parts in memory of a call's own, read, filled in turn, written at a place.
-/
import Derived.Test.YtcopckbpflmmeabQTextS
import Derived.Laws.BitsAllLaws
import Derived.Test.YtcopckbpflmmeabQTextI
import Derived.Test.YtcopckbpflmmeabQChnI
import Derived.Test.YtcopckbpflmmeabQLsS
import Derived.Test.YtcopckbpflmmeabQLsA
import Derived.Test.YtcopckbpflmmeabQChnD
import Derived.Test.YtcopckbpflmmeabQLsK
set_option linter.unusedVariables false
namespace Go.Proofs.Ytcopckbpflmmeab.Sums
open Go.RowKit
open SetP (bs)

def stepU (h : Nat) (c : UInt8) : Nat := ((h ^^^ c.toNat) * 16777619) % 4294967296
def sumB (s : ByteArray) : Nat := (bs s).foldl stepU 2166136261
end Go.Proofs.Ytcopckbpflmmeab.Sums
namespace Go.Proofs.Ytcopckbpflmmeab.Fing
open Go.RowKit
open Labs LabS LabO SetP TextS TextI Sums
open Over

def foldB (x : Nat) : Nat := (x ^^^ (x / 65536)) % 32
def fingerB (l : List Lab) : Nat := foldB (sumB (setText l))
theorem retB {a b : Bool} (h : a = b) : Ending.returned (.bool a) = .returned (.bool b) := by rw [h]
end Go.Proofs.Ytcopckbpflmmeab.Fing
namespace Go.Proofs.Ytcopckbpflmmeab.ChnO
open Go.RowKit
open Labs LabS Alms AlmS Over Blk Rnd Plc Lop App Rws ChnI
open Fing (fingerB)
open StrB (retB)
attribute [local go_sem] Oper.semAt_some

def okC (f : Int) (P : List PAl) (i : Nat) : Bool := alarmB (nthP P i).l (nthP P i).s (nthP P i).e (nthP P i).n && (decide ((fingerB (nthP P i).l : Int) = f) && decide (idxB P (nthP P i).l = (i : Int)))
theorem okC_3 {f : Int} {P : List PAl} {i : Nat} (h : idxB P (nthP P i).l ≠ (i : Int)) : okC f P i = false := by simp [okC, h]
theorem okC_y {f : Int} {P : List PAl} {i : Nat} (h1 : alarmB (nthP P i).l (nthP P i).s (nthP P i).e (nthP P i).n = true) (h2 : (fingerB (nthP P i).l : Int) = f) (h3 : idxB P (nthP P i).l = (i : Int)) : okC f P i = true := by simp [okC, h1, h2, h3]
end Go.Proofs.Ytcopckbpflmmeab.ChnO
namespace Go.Proofs.Ytcopckbpflmmeab.ChnS
open Go.RowKit
open Labs LabS Alms AlmS Over Blk Rws ChnI ChnO
open Fing (fingerB)
open StrB (retB)
open Alm (at_par)

theorem ok_first {f : Int} {P : List PAl} {i : Nat} (hi : i < P.length) (h1 : alarmB (nthP P i).l (nthP P i).s (nthP P i).e (nthP P i).n = true) (h2 : (fingerB (nthP P i).l : Int) = f) (h3 : ∀ j, j < i → (nthP P j).l ≠ (nthP P i).l) : okC f P i = true := okC_y h1 h2 (idx_hit h3 rfl hi)
theorem ok_again {f : Int} {P : List PAl} {i j : Nat} (hj : j < i) (h : (nthP P j).l = (nthP P i).l) : okC f P i = false := by
  refine okC_3 fun e => ?_
  rcases idx_cases P (nthP P i).l with ⟨q, hm⟩ | ⟨k, q, hk, he, hm⟩
  · rw [q] at e; omega
  · rw [q] at e
    have : k = i := by omega
    subst this
    exact hm j hj h
end Go.Proofs.Ytcopckbpflmmeab.ChnS
namespace Go.Proofs.Ytcopckbpflmmeab.ChnT
open Go.RowKit
open Labs LabS Alms AlmS AlmM Over Blk App Rws ChnI ChnC ChnP ChnD ChnS
open StrB (retB)
open Alm (at_par)

end Go.Proofs.Ytcopckbpflmmeab.ChnT
namespace Go.Proofs.Ytcopckbpflmmeab.ChnU
open Go.RowKit
open Labs LabS Alms AlmS AlmM Over Blk App Rws ChnI ChnC ChnP ChnD ChnS ChnT

end Go.Proofs.Ytcopckbpflmmeab.ChnU
namespace Go.Proofs.Ytcopckbpflmmeab.ChnV
open Go.RowKit
open Labs LabS Alms AlmS AlmM Over Blk App Rws ChnI ChnC ChnP ChnD

end Go.Proofs.Ytcopckbpflmmeab.ChnV
namespace Go.Proofs.Ytcopckbpflmmeab.ChnK
open Go.RowKit
open Go.ChangeShapes Go.WideShapes
open Labs LabS Alms AlmS AlmM Over Blk App Rws ChnC ChnP ChnD
open Go.Proofs.Ytcopckbpflmmeab.Mark (Apart Marked)
open StrB (retB)
open Alm (at_par)
open LabT (Held held_reads)

theorem szC_any (f : Int) (a : Option Addr) (cap : Nat) (P : List PAl) (left : Int) (w : World) (hr : RdA w a P) (hl : P.length ≤ maxLen) (hz : FitsP P) (h0 : 0 ≤ left) (h1 : left ≤ 1048576) :
    Calls Try.prog 48 #[.agg #[.int .i64 f, .slice a P.length cap], .int .i64 left] w fun e w' => (∃ n : Int, e = .returned (.int .i64 n) ∧ n ≤ left ∧ (0 ≤ n → n + (P.length : Int) + (sumL P : Int) ≤ left)) ∧ Below w.heap.size w w' := by
  have HR : Hid (RdA w a P ∧ P.length ≤ maxLen ∧ FitsP P) := ⟨hr, hl, hz⟩
  clear hr hl hz
  go_enter Try.func48, Try.ntmps48
  go_wp2_with fail
  refine (Alms.sz_any a cap P left _ (HR.out.1.below (Go.Joins.below_alloc1 w _)) HR.out.2.1 HR.out.2.2 h0 h1).mono ?_
  rintro r w1 ⟨⟨n, rfl, hn, hn2⟩, hb⟩
  have HB : Hid (Below w.heap.size w w1) := grow_on (Go.Joins.below_alloc1 w _) hb
  have HN : Hid (0 ≤ n → n + (P.length : Int) + (sumL P : Int) ≤ left) := hn2
  clear hb hn2
  by_cases g : n < 0
  · go_wp2
    go_ret
    exact ⟨⟨-1, rfl, by omega, fun h => by omega⟩, HB.out⟩
  · go_wp2
    go_ret
    exact ⟨⟨_, rfl, hn, HN.out⟩, HB.out⟩

set_option maxHeartbeats 400000 in
theorem toC_any (f : Int) (a : Option Addr) (cap : Nat) (P : List PAl) (w : World) (hr : RdA w a P) (hl : P.length ≤ 1048576) (hs : sumL P ≤ 1048576) :
    Calls Try.prog 51 #[.agg #[.int .i64 f, .slice a P.length cap]] w fun r w' => (∃ M rs, r = .returned (.agg #[.int .i64 f, .slice (some ⟨M, 0, none⟩) P.length P.length]) ∧ AB w.heap.size w' M P.length rs ∧ pals rs = P) ∧ Below w.heap.size w w' := by
  have HR : Hid (RdA w a P) := hr
  have HS : Hid (sumL P ≤ 1048576) := hs
  clear hr hs
  go_enter Try.func51, Try.ntmps51
  go_wp2_with fail
  have hB3 : Below w.heap.size w (((w.alloc (.cells #[.int .i64 f, .slice a P.length cap] 82)).alloc (.cells #[.int .i64 0, .slice none 0 0] 52)).alloc (.cells #[.int .i64 f, .slice none 0 0] 52)) := Alm.below3 w _ _ _
  refine (Alms.to_any a cap P _ (HR.out.below hB3) hl HS.out).mono ?_
  rintro r w1 ⟨rfl, ⟨cs, g, hC⟩, hb⟩
  have hP : Blk w1 w.heap.size #[.int .i64 f, .slice a P.length cap] 82 := (((Blk.new _ _ _).alloc _).alloc _).grow hb
  have hR : Blk w1 (w.heap.size + 1) #[.int .i64 0, .slice none 0 0] 52 := ((Blk.new_at (by simp)).alloc _).grow hb
  have hO : Blk w1 (w.heap.size + 1 + 1) #[.int .i64 f, .slice none 0 0] 52 := (Blk.new_at (by simp)).grow hb
  have HB : Hid (Below w.heap.size w w1) := grow_on hB3 hb
  have HC : Hid (∃ rs, AB w.heap.size w1 (w.heap.size + 1 + 1 + 1) P.length rs ∧ pals rs = P) := by
    have h := copy_ab (lo := w.heap.size) hC (by simp; omega) hl (fun i hi => Nat.le_trans (sum_nth hi) HS.out)
    have e : (((w.alloc (.cells #[.int .i64 f, .slice a P.length cap] 82)).alloc (.cells #[.int .i64 0, .slice none 0 0] 52)).alloc (.cells #[.int .i64 f, .slice none 0 0] 52)).heap.size = w.heap.size + 1 + 1 + 1 := by simp
    rw [e] at h
    exact h
  have HRR : Hid (Blk w1 (w.heap.size + 1) #[.int .i64 0, .slice none 0 0] 52) := hR
  have HO : Hid (Blk w1 (w.heap.size + 1 + 1) #[.int .i64 f, .slice none 0 0] 52) := hO
  have o0 : w1.cell? ⟨w.heap.size + 1 + 1, 0, none⟩ = some (.int .i64 f) := hO.cell 0
  have o1 : w1.cell? ⟨w.heap.size + 1 + 1, 1, none⟩ = some (.slice none 0 0) := hO.cell 1
  have fo := hO.frozen 1
  have r0 : w1.cell? ⟨w.heap.size + 1, 0, none⟩ = some (.int .i64 0) := hR.cell 0
  have r1 : w1.cell? ⟨w.heap.size + 1, 1, none⟩ = some (.slice none 0 0) := hR.cell 1
  have f0 := hR.frozen 0
  have f1 := hR.frozen 1
  clear hb hC hP hR hO hB3
  go_wp2
  have hs : Blk (((w1.setCell ⟨w.heap.size + 1 + 1, 1, none⟩ (.slice (some ⟨w.heap.size + 1 + 1 + 1, 0, none⟩) P.length P.length)).setCell ⟨w.heap.size + 1, 0, none⟩ (.int .i64 f)).setCell ⟨w.heap.size + 1, 1, none⟩ (.slice (some ⟨w.heap.size + 1 + 1 + 1, 0, none⟩) P.length P.length)) (w.heap.size + 1) #[.int .i64 f, .slice (some ⟨w.heap.size + 1 + 1 + 1, 0, none⟩) P.length P.length] 52 := ((HRR.out.set_other (by show w.heap.size + 1 + 1 ≠ w.heap.size + 1; omega) _).set 0 _).set 1 _
  have s0 := hs.cell 0
  have s1 := hs.cell 1
  refine bodyPost_ret (v := .agg #[.int .i64 f, .slice (some ⟨w.heap.size + 1 + 1 + 1, 0, none⟩) P.length P.length]) (by simp [results, Try.results51, go_sem, s0, s1]) rfl ?_
  obtain ⟨rs, hab, hp⟩ := HC.out
  exact ⟨⟨w.heap.size + 1 + 1 + 1, rs, rfl, ab_set2 (ab_set1 hab HO.out _ _) (HRR.out.set_other (by show w.heap.size + 1 + 1 ≠ w.heap.size + 1; omega) _) _ _, hp⟩, ChnP.set2 (ChnI.set_low HB.out (by omega) _ _) (by omega) _ _⟩

theorem eqC_any (f : Int) (a a' : Option Addr) (cap cap' : Nat) (P : List PAl) (w : World) (hr : RdA w a P) (hr' : RdA w a' P) (hl : P.length ≤ maxLen) (hz : FitsP P) :
    Calls Try.prog 55 #[.agg #[.int .i64 f, .slice a P.length cap], .agg #[.int .i64 f, .slice a' P.length cap']] w fun e w' => e = .returned (.bool true) ∧ Below w.heap.size w w' := by
  have HR : Hid (RdA w a P ∧ RdA w a' P ∧ P.length ≤ maxLen ∧ FitsP P) := ⟨hr, hr', hl, hz⟩
  clear hr hr' hl hz
  go_enter Try.func55, Try.ntmps55
  go_wp2_with fail
  refine (Alms.eq_any a a' cap cap' P _ (HR.out.1.below (Go.Joins.below_alloc2 w _ _)) (HR.out.2.1.below (Go.Joins.below_alloc2 w _ _)) HR.out.2.2.1 HR.out.2.2.2).mono ?_
  rintro r w1 ⟨rfl, hb⟩
  have HB : Hid (Below w.heap.size w w1) := grow_on (Go.Joins.below_alloc2 w _ _) hb
  clear hb
  go_wp2
  go_ret
  exact ⟨rfl, HB.out⟩

theorem cellsC : Try.prog.cellsOf 82 = 2 := by kernel_rfl
end Go.Proofs.Ytcopckbpflmmeab.ChnK
namespace Go.Proofs.Ytcopckbpflmmeab.Chs
open Go.RowKit
open Go.ChangeShapes Go.WideShapes
open Labs LabS Alms AlmS AlmM Over Blk App Rws ChnI ChnC ChnP ChnK
open StrB (retB)

structure PCh where
  f : Int
  P : List PAl
def nthC (C : List PCh) (i : Nat) : PCh := C.getD i ⟨0, []⟩
theorem nthC_eq {C : List PCh} {i : Nat} (h : i < C.length) : nthC C i = C[i] := by unfold nthC; simp [h]
theorem nthC_mem {C : List PCh} {i : Nat} (h : i < C.length) : nthC C i ∈ C := by rw [nthC_eq h]; exact List.getElem_mem _
theorem takeC_up {C : List PCh} {k : Nat} (h : k < C.length) : C.take (k + 1) = C.take k ++ [nthC C k] := by
  rw [nthC_eq h, List.take_succ_eq_append_getElem h]
structure AtC (R : World → Option Addr → List PAl → Prop) (w : World) (b off i : Nat) (x : PCh) (ad : Option Addr) (cap : Nat) : Prop where
  c0 : w.cell? ⟨b, off + i * 2, none⟩ = some (.int .i64 x.f)
  c1 : w.cell? ⟨b, off + i * 2 + 1, none⟩ = some (.slice ad x.P.length cap)
  reads : R w ad x.P
theorem AtC.below {R : World → Option Addr → List PAl → Prop} (hR : Stays R) {w w' : World} {b off i : Nat} {x : PCh} {ad : Option Addr} {cap : Nat} (h : AtC R w b off i x ad cap) (hb : Below w.heap.size w w') (hlt : b < w.heap.size) : AtC R w' b off i x ad cap :=
  ⟨(hb.cell (p := ⟨b, off + i * 2, none⟩) hlt).trans h.c0, (hb.cell (p := ⟨b, off + i * 2 + 1, none⟩) hlt).trans h.c1, hR _ _ _ _ h.reads hb⟩
def RdG (R : World → Option Addr → List PAl → Prop) (w : World) (a : Option Addr) (C : List PCh) : Prop :=
  C = [] ∨ ∃ b off, a = some ⟨b, off, none⟩ ∧ b < w.heap.size ∧ ∀ i, i < C.length → ∃ ad cap, AtC R w b off i (nthC C i) ad cap
theorem RdG.below {R : World → Option Addr → List PAl → Prop} (hR : Stays R) {w w' : World} {a : Option Addr} {C : List PCh} (h : RdG R w a C) (hb : Below w.heap.size w w') : RdG R w' a C := by
  rcases h with h | ⟨b, off, rfl, hlt, hc⟩
  · exact .inl h
  · exact .inr ⟨b, off, rfl, Nat.lt_of_lt_of_le hlt hb.size, fun i hi => by
      obtain ⟨ad, cap, h⟩ := hc i hi
      exact ⟨ad, cap, h.below hR hb hlt⟩⟩
theorem RdG.get {R : World → Option Addr → List PAl → Prop} {w : World} {a : Option Addr} {C : List PCh} (h : RdG R w a C) {i : Nat} (hi : i < C.length) :
    ∃ b off, a = some ⟨b, off, none⟩ ∧ b < w.heap.size ∧ ∃ ad cap, AtC R w b off i (nthC C i) ad cap := by
  rcases h with h | ⟨b, off, e, hb, h⟩
  · rw [h] at hi; simp at hi
  · exact ⟨b, off, e, hb, h i hi⟩
theorem RdG.imp {R R' : World → Option Addr → List PAl → Prop} {w : World} {a : Option Addr} {C : List PCh} (h : RdG R w a C) (hi : ∀ a P, R w a P → R' w a P) : RdG R' w a C := by
  rcases h with h | ⟨b, off, e, hb, h⟩
  · exact .inl h
  · exact .inr ⟨b, off, e, hb, fun i hi' => by obtain ⟨ad, cap, h⟩ := h i hi'; exact ⟨ad, cap, h.c0, h.c1, hi _ _ h.reads⟩⟩
theorem RdG.rd {w : World} {a : Option Addr} {C : List PCh} (h : RdG RdN w a C) : RdG RdA w a C := h.imp fun _ _ h => h.rd
structure FitC (x : PCh) : Prop where
  fb : -9223372036854775808 ≤ x.f ∧ x.f ≤ 9223372036854775807
  len : x.P.length ≤ maxLen
  fits : FitsP x.P
def FitsC (C : List PCh) : Prop := ∀ x ∈ C, FitC x
def sumC : List PCh → Nat
  | [] => 0
  | x :: C => x.P.length + sumL x.P + sumC C
theorem sumC_app (p q : List PCh) : sumC (p ++ q) = sumC p + sumC q := by
  induction p with
  | nil => simp [sumC]
  | cons x p ih => rw [List.cons_append, sumC, ih, sumC]; omega
theorem sumC_up {C : List PCh} {k : Nat} (h : k < C.length) : sumC (C.take (k + 1)) = sumC (C.take k) + (nthC C k).P.length + sumL (nthC C k).P := by
  rw [takeC_up h, sumC_app]; simp [sumC]; omega
theorem sumC_all {C : List PCh} {k : Nat} (h : C.length ≤ k) : sumC (C.take k) = sumC C := by rw [List.take_of_length_le h]
theorem sumC_le (C : List PCh) (k : Nat) : sumC (C.take k) ≤ sumC C := by
  have := sumC_app (C.take k) (C.drop k)
  rw [List.take_append_drop] at this
  omega
theorem sumC_mem {C : List PCh} {x : PCh} (h : x ∈ C) : x.P.length + sumL x.P ≤ sumC C := by
  induction C with
  | nil => simp at h
  | cons y C ih =>
    rw [sumC]
    rcases List.mem_cons.1 h with rfl | h
    · omega
    · have := ih h; omega
theorem sumC_nth {C : List PCh} {k : Nat} (h : k < C.length) : (nthC C k).P.length + sumL (nthC C k).P ≤ sumC C := sumC_mem (nthC_mem h)

set_option maxHeartbeats 800000 in
theorem szS_any (a : Option Addr) (cap : Nat) (C : List PCh) (left : Int) (w : World) (hr : RdG RdA w a C) (hl : C.length ≤ maxLen) (hz : FitsC C) (h0 : 0 ≤ left) (h1 : left ≤ 1048576) :
    Calls Try.prog 28 #[.slice a C.length cap, .int .i64 left] w fun e w' => (∃ n : Int, e = .returned (.int .i64 n) ∧ n ≤ left ∧ (0 ≤ n → n + (C.length : Int) + (sumC C : Int) ≤ left)) ∧ Below w.heap.size w w' := by
  unfold maxLen at hl
  have HR : Hid (RdG RdA w a C) := hr
  have HZ : Hid (FitsC C) := hz
  clear hr hz
  by_cases c : left - (C.length : Int) < 0
  · go_enter Try.func28, Try.ntmps28
    go_wp2
    go_ret
    exact ⟨⟨-1, rfl, by omega, fun h => by omega⟩, Below.refl _ _⟩
  · go_enter Try.func28, Try.ntmps28
    go_wp2
    go_loopw [1, 5] (fun m i w' => ∃ (k : Nat) (x : Int), k ≤ C.length ∧ i = .int .i64 k ∧ m = .int .i64 x ∧ 0 ≤ x ∧ x + (C.length : Int) + (sumC (C.take k) : Int) ≤ left ∧ Below w.heap.size w w') (fun _ i _ => C.length - (intOf i).toNat)
    case atStart => exact ⟨0, _, Nat.zero_le _, rfl, rfl, by omega, by simp [sumC], Below.refl _ _⟩
    case round =>
      obtain ⟨k, x, hk, rfl, rfl, hx0, hx1, hw0⟩ := hrel
      have HB : Hid (Below w.heap.size w wr) := hw0
      have HX : Hid (x + (C.length : Int) + (sumC (C.take k) : Int) ≤ left) := hx1
      have hx2 : x ≤ left := by omega
      clear hw0 hx1
      by_cases hlt : k < C.length
      · have hlt' : (k : Int) < (C.length : Int) := by omega
        obtain ⟨b, off, rfl, hb, ad, cp, hat⟩ := (HR.out.below stays_rd HB.out).get hlt
        have h2 := hat.c0
        have h3 := hat.c1
        have HA : Hid (RdA wr ad (nthC C k).P) := hat.reads
        have HU : Hid (sumC (C.take (k + 1)) = sumC (C.take k) + (nthC C k).P.length + sumL (nthC C k).P) := sumC_up hlt
        clear hat
        go_wp2_with fail
        refine (szC_any _ ad cp _ x _ HA.out (HZ.out _ (nthC_mem hlt)).len (HZ.out _ (nthC_mem hlt)).fits hx0 (by omega)).mono ?_
        rintro e w1 ⟨⟨y, rfl, hy, hyn⟩, hb1⟩
        have HB1 : Hid (Below w.heap.size w w1) := grow_on HB.out hb1
        clear hb1 h2 h3
        by_cases hn : y < 0
        · clear hyn
          go_wp2
          go_ret
          exact ⟨⟨-1, rfl, by omega, fun h => by omega⟩, HB1.out⟩
        · have HY : Hid (y + ((nthC C k).P.length : Int) + (sumL (nthC C k).P : Int) ≤ x) := hyn (by omega)
          clear hyn
          go_wp2
          go_roundw
          case rel => exact ⟨k + 1, y, by omega, by go_num, rfl, by omega, by have h1 := HY.out; have h2 := HX.out; have h3 := HU.out; omega, HB1.out⟩
          case measure => simp [intOf]; omega
      · have hge : ¬ (k : Int) < (C.length : Int) := by omega
        have HE : Hid (sumC (C.take k) = sumC C) := sumC_all (by omega)
        go_wp2
        go_ret
        exact ⟨⟨_, rfl, by omega, fun h => by have h1 := HX.out; have h2 := HE.out; omega⟩, HB.out⟩

theorem szPart_any (hd vr : Int) (a : Option Addr) (cap : Nat) (C : List PCh) (left : Int) (w : World) (hr : RdG RdA w a C) (hl : C.length ≤ maxLen) (hz : FitsC C) (h0 : 0 ≤ left) (h1 : left ≤ 1048576) :
    Calls Try.prog 7 #[.agg #[.int .i64 hd, .int .i64 vr, .slice a C.length cap], .int .i64 left] w fun e w' => (∃ n : Int, e = .returned (.int .i64 n) ∧ n ≤ left ∧ (0 ≤ n → n + (C.length : Int) + (sumC C : Int) ≤ left)) ∧ Below w.heap.size w w' := by
  have HR : Hid (RdG RdA w a C ∧ C.length ≤ maxLen ∧ FitsC C) := ⟨hr, hl, hz⟩
  clear hr hl hz
  go_enter Try.func7, Try.ntmps7
  go_wp2_with fail
  refine (szS_any a cap C left _ (HR.out.1.below stays_rd (Go.Joins.below_alloc1 w _)) HR.out.2.1 HR.out.2.2 h0 h1).mono ?_
  rintro r w1 ⟨⟨n, rfl, hn, hn2⟩, hb⟩
  have HB : Hid (Below w.heap.size w w1) := grow_on (Go.Joins.below_alloc1 w _) hb
  have HN : Hid (0 ≤ n → n + (C.length : Int) + (sumC C : Int) ≤ left) := hn2
  clear hb hn2
  by_cases g : n < 0
  · go_wp2
    go_ret
    exact ⟨⟨-1, rfl, by omega, fun h => by omega⟩, HB.out⟩
  · go_wp2
    go_ret
    exact ⟨⟨_, rfl, hn, HN.out⟩, HB.out⟩

theorem infoC : (Try.prog.info? 52).map (fun i => (i.zero, i.size, i.bytes)) = some (some (.agg #[.int .i64 0, .slice none 0 0]), 2, 32) := by kernel_rfl

structure CRow where
  f : Int
  M : Nat
  c : Nat
  rs : List ARow
def CRow.ch (x : CRow) : PCh := ⟨x.f, pals x.rs⟩
def chs (cs : List CRow) : List PCh := cs.map CRow.ch
def nthR (cs : List CRow) (i : Nat) : CRow := cs.getD i ⟨0, 0, 0, []⟩
theorem nthR_eq {cs : List CRow} {i : Nat} (h : i < cs.length) : nthR cs i = cs[i] := by unfold nthR; simp [h]
theorem nthR_mem {cs : List CRow} {i : Nat} (h : i < cs.length) : nthR cs i ∈ cs := by rw [nthR_eq h]; exact List.getElem_mem _
theorem chs_len (cs : List CRow) : (chs cs).length = cs.length := by simp [chs]
theorem chs_nth {cs : List CRow} {i : Nat} (h : i < cs.length) : nthC (chs cs) i = (nthR cs i).ch := by
  rw [nthC_eq (by rw [chs_len]; exact h), nthR_eq h]
  simp [chs]
theorem chs_app (cs : List CRow) (x : CRow) : chs (cs ++ [x]) = chs cs ++ [x.ch] := by simp [chs]
theorem nthR_app_lt {cs : List CRow} {x : CRow} {i : Nat} (h : i < cs.length) : nthR (cs ++ [x]) i = nthR cs i := by
  rw [nthR_eq (by simp; omega), nthR_eq h, List.getElem_append_left h]
theorem nthR_app_eq (cs : List CRow) (x : CRow) : nthR (cs ++ [x]) cs.length = x := by
  rw [nthR_eq (by simp)]; simp
def Cel (f : Nat → Option Value) (i : Nat) (x : CRow) : Prop := f (i * 2) = some (.int .i64 x.f) ∧ f (i * 2 + 1) = some (.slice (some ⟨x.M, 0, none⟩) x.rs.length x.c)
theorem Cel.congr {f g : Nat → Option Value} {i : Nat} {x : CRow} (h : Cel f i x) (e : ∀ k, i * 2 ≤ k → k < i * 2 + 2 → g k = f k) : Cel g i x :=
  ⟨by rw [e _ (by omega) (by omega)]; exact h.1, by rw [e _ (by omega) (by omega)]; exact h.2⟩
structure RowsC (lo : Nat) (w : World) (cs : List CRow) : Prop where
  rows : ∀ x ∈ cs, AB lo w x.M x.c x.rs
  ne : cs.Pairwise fun x y => ∀ k, blks x.M x.rs k → ¬ blks y.M y.rs k
theorem RowsC.nil (lo : Nat) (w : World) : RowsC lo w [] := ⟨fun x hx => by simp at hx, List.Pairwise.nil⟩
theorem RowsC.moved {lo : Nat} {w w' : World} {cs : List CRow} (h : RowsC lo w cs) (hm : Moved w w') : RowsC lo w' cs := ⟨fun x hx => ab_moved (h.rows x hx) hm, h.ne⟩
theorem RowsC.grow {lo : Nat} {w w' : World} {cs : List CRow} (h : RowsC lo w cs) (hb : Below w.heap.size w w') : RowsC lo w' cs := h.moved (Moved.of hb)
theorem RowsC.down {lo lo' : Nat} {w : World} {cs : List CRow} (h : RowsC lo w cs) (hl : lo' ≤ lo) : RowsC lo' w cs := ⟨fun x hx => (h.rows x hx).down hl, h.ne⟩
theorem RowsC.app {lo : Nat} {w : World} {cs : List CRow} {x : CRow} (h : RowsC lo w cs) (hx : AB lo w x.M x.c x.rs) (hne : ∀ y ∈ cs, ∀ k, blks y.M y.rs k → ¬ blks x.M x.rs k) : RowsC lo w (cs ++ [x]) := by
  refine ⟨fun y hy => ?_, ?_⟩
  · rcases List.mem_append.1 hy with hy | hy
    · exact h.rows y hy
    · rw [List.mem_singleton.1 hy]; exact hx
  · rw [List.pairwise_append]
    exact ⟨h.ne, List.pairwise_singleton _ _, fun a ha b hb => by rw [List.mem_singleton.1 hb]; exact hne a ha⟩
theorem RowsC.fresh {lo B : Nat} {w w' : World} {cs : List CRow} {x : CRow} (h : RowsC lo w cs) (hx : AB B w' x.M x.c x.rs) (hB : w.heap.size ≤ B) : ∀ y ∈ cs, ∀ k, blks y.M y.rs k → ¬ blks x.M x.rs k := fun y hy k h1 h2 => by
  have := blks_high (h.rows y hy) k h1
  have := blks_low hx k h2
  omega
structure CB (lo : Nat) (w : World) (M c : Nat) (cs : List CRow) : Prop where
  at' : lo ≤ M
  cap : cs.length ≤ c ∧ c ≤ maxLen
  outer : ∃ cur : Array Value, Blk w M cur 52 ∧ cur.size = c * 2 ∧ ∀ i, i < cs.length → Cel (fun k => cur[k]?) i (nthR cs i)
  rows : RowsC lo w cs
theorem CB.grow {lo : Nat} {w w' : World} {M c : Nat} {cs : List CRow} (h : CB lo w M c cs) (hb : Below w.heap.size w w') : CB lo w' M c cs := by
  obtain ⟨cur, h1, h2⟩ := h.outer
  exact ⟨h.at', h.cap, ⟨cur, h1.grow hb, h2⟩, h.rows.grow hb⟩
theorem CB.down {lo lo' : Nat} {w : World} {M c : Nat} {cs : List CRow} (h : CB lo w M c cs) (hl : lo' ≤ lo) : CB lo' w M c cs := ⟨Nat.le_trans hl h.at', h.cap, h.outer, h.rows.down hl⟩
theorem CB.lt {lo : Nat} {w : World} {M c : Nat} {cs : List CRow} (h : CB lo w M c cs) : M < w.heap.size := by
  obtain ⟨cur, h1, _⟩ := h.outer
  exact h1.lt
theorem CB.rn {lo : Nat} {w : World} {M c : Nat} {cs : List CRow} (h : CB lo w M c cs) : RdG RdN w (some ⟨M, 0, none⟩) (chs cs) := by
  obtain ⟨cur, h1, h2, h3⟩ := h.outer
  refine .inr ⟨M, 0, rfl, h1.lt, fun i hi => ?_⟩
  rw [chs_len] at hi
  obtain ⟨c0, c1⟩ := h3 i hi
  refine ⟨some ⟨(nthR cs i).M, 0, none⟩, (nthR cs i).c, ?_⟩
  rw [chs_nth hi]
  exact ⟨by rw [h1.cell, Nat.zero_add]; exact c0, by rw [h1.cell, Nat.zero_add, CRow.ch, pals_len]; exact c1, (h.rows.rows _ (nthR_mem hi)).rd⟩
theorem CB.set {lo : Nat} {w : World} {M c N : Nat} {cs : List CRow} {ds : Array Value} {T : TypeId} (h : CB lo w M c cs) (hN : Blk w N ds T) (hA : T ≠ 68) (hL : T ≠ 94) (hne : N ≠ M) (i : Nat) (v : Value) : CB lo (w.setCell ⟨N, i, none⟩ v) M c cs := by
  obtain ⟨cur, h1, h2⟩ := h.outer
  exact ⟨h.at', h.cap, ⟨cur, h1.set_other hne _, h2⟩, h.rows.moved (Moved.set hN hA hL i v)⟩
def put2C (cs : Array Value) (k : Nat) (x : CRow) : Array Value := (cs.setIfInBounds (k * 2) (.int .i64 x.f)).setIfInBounds (k * 2 + 1) (.slice (some ⟨x.M, 0, none⟩) x.rs.length x.c)
def put2W (w : World) (M k : Nat) (x : CRow) : World := (w.setCell ⟨M, k * 2, none⟩ (.int .i64 x.f)).setCell ⟨M, k * 2 + 1, none⟩ (.slice (some ⟨x.M, 0, none⟩) x.rs.length x.c)
theorem put2_at {cs : Array Value} {k : Nat} {x : CRow} (h : k * 2 + 1 < cs.size) : Cel (fun j => (put2C cs k x)[j]?) k x := by
  unfold put2C
  exact ⟨by show (Array.setIfInBounds _ _ _)[_]? = _; rw [set_ne (by omega), set_at (by omega)], by show (Array.setIfInBounds _ _ _)[_]? = _; rw [set_at (by simp; omega)]⟩
theorem put2_ne {cs : Array Value} {k j : Nat} {x : CRow} (h : j < k * 2 ∨ k * 2 + 2 ≤ j) : (put2C cs k x)[j]? = cs[j]? := by
  unfold put2C
  rw [set_ne (by omega), set_ne (by omega)]
theorem put2_size (cs : Array Value) (k : Nat) (x : CRow) : (put2C cs k x).size = cs.size := by simp [put2C]
theorem put2W_blk {w : World} {M k : Nat} {x : CRow} {cs : Array Value} {T : TypeId} (h : Blk w M cs T) : Blk (put2W w M k x) M (put2C cs k x) T := (h.set _ _).set _ _
theorem put2W_moved {w : World} {M k : Nat} {x : CRow} {cs : Array Value} (h : Blk w M cs 52) : Moved w (put2W w M k x) := (Moved.set h (by decide) (by decide) _ _).trans (Moved.set (h.set _ _) (by decide) (by decide) _ _)
structure FillC (lo : Nat) (w : World) (M : Nat) (C : List PCh) (k : Nat) (cur : Array Value) (cs : List CRow) : Prop where
  blk : Blk w M cur 52
  size : cur.size = C.length * 2
  len : cs.length = k
  ch : chs cs = C.take k
  cell : ∀ i, i < k → Cel (fun j => cur[j]?) i (nthR cs i)
  rows : RowsC lo w cs
theorem FillC.grow {lo : Nat} {w w' : World} {M : Nat} {C : List PCh} {k : Nat} {cur : Array Value} {cs : List CRow} (h : FillC lo w M C k cur cs) (hb : Below w.heap.size w w') : FillC lo w' M C k cur cs :=
  ⟨h.blk.grow hb, h.size, h.len, h.ch, h.cell, h.rows.grow hb⟩
theorem FillC.next {lo : Nat} {w : World} {M : Nat} {C : List PCh} {k : Nat} {cur : Array Value} {cs : List CRow} {x : CRow} (h : FillC lo w M C k cur cs) (hk : k < C.length) (hx : AB lo w x.M x.c x.rs) (hp : x.ch = nthC C k) (hne : ∀ y ∈ cs, ∀ k, blks y.M y.rs k → ¬ blks x.M x.rs k) :
    FillC lo (put2W w M k x) M C (k + 1) (put2C cur k x) (cs ++ [x]) := by
  have hl := h.len
  have hs := h.size
  refine ⟨put2W_blk h.blk, by rw [put2_size]; exact hs, by simp [hl], by rw [chs_app, h.ch, takeC_up hk, hp], fun i hi => ?_, (h.rows.app hx hne).moved (put2W_moved h.blk)⟩
  by_cases e : i < k
  · rw [nthR_app_lt (by omega)]
    exact (h.cell i e).congr fun j h0 h1 => put2_ne (by omega)
  · have : i = cs.length := by omega
    subst this
    rw [nthR_app_eq, hl]
    exact put2_at (by omega)
theorem FillC.cb {lo : Nat} {w : World} {M : Nat} {C : List PCh} {cur : Array Value} {cs : List CRow} (h : FillC lo w M C C.length cur cs) (hlo : lo ≤ M) (hl : C.length ≤ 1048576) : CB lo w M C.length cs ∧ chs cs = C :=
  ⟨⟨hlo, ⟨by rw [h.len]; exact Nat.le_refl _, by unfold maxLen; omega⟩, ⟨cur, h.blk, h.size, fun i hi => h.cell i (by rw [← h.len]; exact hi)⟩, h.rows⟩, by rw [h.ch]; exact List.take_length⟩

set_option maxHeartbeats 1600000 in
theorem toS_any (a : Option Addr) (cap : Nat) (C : List PCh) (w : World) (hr : RdG RdA w a C) (hl : C.length ≤ 1048576) (hs : sumC C ≤ 1048576) :
    Calls Try.prog 30 #[.slice a C.length cap] w fun e w' => e = .returned (.slice (some ⟨w.heap.size, 0, none⟩) C.length C.length) ∧ (∃ cs, CB w.heap.size w' w.heap.size C.length cs ∧ chs cs = C) ∧ Below w.heap.size w w' := by
  have HR : Hid (RdG RdA w a C) := hr
  have HS : Hid (sumC C ≤ 1048576) := hs
  clear hr hs
  have hmk := make_k (P := Try.prog) 26 52 (.agg #[.int .i64 0, .slice none 0 0]) 2 32 Try.underlying26 infoC .i64 .i64 C.length (by omega) (by omega)
  go_enter Try.func30, Try.ntmps30
  go_wp2
  go_loopw [4] (fun i w' => ∃ (k : Nat) (cur : Array Value) (cs : List CRow), k ≤ C.length ∧ i = .int .i64 k ∧ FillC w.heap.size w' w.heap.size C k cur cs ∧ Below w.heap.size w w') (fun i _ => C.length - (intOf i).toNat)
  case atStart => exact ⟨0, _, [], Nat.zero_le _, rfl, ⟨Blk.new _ _ _, by simp [size_madeCells], rfl, rfl, fun i h => by omega, RowsC.nil _ _⟩, (Below.refl _ _).alloc (Nat.le_refl _) _⟩
  case round =>
    clear hmk
    obtain ⟨k, cur, cs, hk, rfl, hC, hw0⟩ := hrel
    have HB : Hid (Below w.heap.size w wr) := hw0
    have HC : Hid (FillC w.heap.size wr w.heap.size C k cur cs) := hC
    clear hC hw0
    by_cases hlt : k < C.length
    · have hlt' : (k : Int) < (C.length : Int) := by omega
      obtain ⟨b, off, rfl, hb, ad, cp, hat⟩ := (HR.out.below stays_rd HB.out).get hlt
      have h2 := hat.c0
      have h3 := hat.c1
      have HA : Hid (RdA wr ad (nthC C k).P) := hat.reads
      have HS1 : Hid ((nthC C k).P.length ≤ 1048576 ∧ sumL (nthC C k).P ≤ 1048576) := by have := sumC_nth hlt; have := HS.out; constructor <;> omega
      clear hat
      go_wp2_with fail
      refine (toC_any _ ad cp _ _ HA.out HS1.out.1 HS1.out.2).mono ?_
      rintro e w1 ⟨⟨M1, rs, rfl, hab, hp⟩, hb1⟩
      have HB1 : Hid (Below w.heap.size w w1) := grow_on HB.out hb1
      have hC1 : FillC w.heap.size w1 w.heap.size C k cur cs := HC.out.grow hb1
      have hrl : rs.length = (nthC C k).P.length := by rw [← pals_len, hp]
      have HN := hC1.next (x := ⟨(nthC C k).f, M1, (nthC C k).P.length, rs⟩) hlt (hab.down HB.out.size) (by unfold CRow.ch; rw [hp]) (HC.out.rows.fresh (x := ⟨(nthC C k).f, M1, (nthC C k).P.length, rs⟩) hab (Nat.le_refl _))
      unfold put2W put2C at HN
      rw [hrl] at HN
      have HC2 : Hid _ := HN
      have hsz := hC1.size
      obtain ⟨v0, c0⟩ : ∃ v, w1.cell? ⟨w.heap.size, k * 2, none⟩ = some v := ⟨cur[k * 2]'(by omega), by rw [hC1.blk.cell]; simp⟩
      obtain ⟨v1, c1⟩ : ∃ v, w1.cell? ⟨w.heap.size, k * 2 + 1, none⟩ = some v := ⟨cur[k * 2 + 1]'(by omega), by rw [hC1.blk.cell]; simp⟩
      have f0 := hC1.blk.frozen (k * 2)
      have f1 := hC1.blk.frozen (k * 2 + 1)
      clear hb1 h2 h3 hC1 hsz HN hab hp hrl
      go_wp2
      go_roundw
      case rel => exact ⟨k + 1, _, _, by omega, by go_num, HC2.out, (HB1.out.setCell (Nat.le_refl _) _).setCell (Nat.le_refl _) _⟩
      case measure => simp [intOf]; omega
    · have hge : ¬ (k : Int) < (C.length : Int) := by omega
      have HE : Hid (k = C.length) := by show k = C.length; omega
      go_wp2
      go_ret
      have hF := HC.out
      rw [HE.out] at hF
      exact ⟨rfl, ⟨cs, (hF.cb (Nat.le_refl _) hl).1, (hF.cb (Nat.le_refl _) hl).2⟩, HB.out⟩
end Go.Proofs.Ytcopckbpflmmeab.Chs
namespace Go.Proofs.Ytcopckbpflmmeab.Prt
open Go.RowKit
open Go.ChangeShapes Go.WideShapes
open Labs LabS Alms AlmS AlmM Over Blk App Rws ChnI ChnC ChnP ChnK Chs
open StrB (retB)

set_option maxHeartbeats 800000 in
theorem eqS_any (a a' : Option Addr) (cap cap' : Nat) (C : List PCh) (w : World) (hr : RdG RdA w a C) (hr' : RdG RdA w a' C) (hl : C.length ≤ maxLen) (hz : FitsC C) :
    Calls Try.prog 34 #[.slice a C.length cap, .slice a' C.length cap'] w fun e w' => e = .returned (.bool true) ∧ Below w.heap.size w w' := by
  unfold maxLen at hl
  have HR : Hid (RdG RdA w a C) := hr
  have HR' : Hid (RdG RdA w a' C) := hr'
  have HZ : Hid (FitsC C) := hz
  clear hr hr' hz
  go_enter Try.func34, Try.ntmps34
  go_wp2
  go_loopw [5] (fun i w' => ∃ k : Nat, i = .int .i64 k ∧ k ≤ C.length ∧ Below w.heap.size w w') (fun i _ => C.length - (intOf i).toNat)
  case atStart => exact ⟨0, rfl, Nat.zero_le _, Below.refl _ _⟩
  case round =>
    obtain ⟨k, rfl, hk, hw0⟩ := hrel
    have HB : Hid (Below w.heap.size w wr) := hw0
    clear hw0
    by_cases hlt : k < C.length
    · have hlt' : (k : Int) < (C.length : Int) := by omega
      obtain ⟨b, off, rfl, hb, ad, cp, hat⟩ := (HR.out.below stays_rd HB.out).get hlt
      obtain ⟨b', off', rfl, hb', ad', cp', hat'⟩ := (HR'.out.below stays_rd HB.out).get hlt
      have hne := Grown.some wr
      have x0 := fun x : Grown wr => x.cell hb hat.c0
      have x1 := fun x : Grown wr => x.cell hb hat.c1
      have y0 := fun x : Grown wr => x.cell hb' hat'.c0
      have y1 := fun x : Grown wr => x.cell hb' hat'.c1
      have HC : ∀ x : Grown wr, Hid (Calls Try.prog 55 #[.agg #[.int .i64 (nthC C k).f, .slice ad (nthC C k).P.length cp], .agg #[.int .i64 (nthC C k).f, .slice ad' (nthC C k).P.length cp']] x.out fun e w' => e = .returned (.bool true) ∧ Below x.out.heap.size x.out w') := fun x => eqC_any _ ad ad' cp cp' _ x.out (hat.reads.below x.bel) (hat'.reads.below x.bel) (HZ.out _ (nthC_mem hlt)).len (HZ.out _ (nthC_mem hlt)).fits
      clear hat hat'
      go_wp2
      refine wp_over (z := wr) (by kernel_rfl) (by kernel_rfl) (Below.refl _ _) ?_
      repeat (go_big_quiet_step (first | (go_at_call 55; exact call_over (HC _).out)))
      refine wpQuiet_nil ?_
      intro w2 hw2
      have HB2 : Hid (Below w.heap.size w w2) := grow_on HB.out (over_bel hw2)
      clear hw2 hne x0 x1 y0 y1 HC
      go_wp2
      go_roundw
      case rel => exact ⟨k + 1, by go_num, by omega, HB2.out⟩
      case measure => simp [intOf]; omega
    · have hge : ¬ (k : Int) < (C.length : Int) := by omega
      go_wp2
      go_ret
      exact ⟨rfl, HB.out⟩
theorem set3 {B M : Nat} {w w' : World} (h : Below B w w') (hM : B ≤ M) (v0 v1 v2 : Value) : Below B w (((w'.setCell ⟨M, 0, none⟩ v0).setCell ⟨M, 1, none⟩ v1).setCell ⟨M, 2, none⟩ v2) :=
  ((h.setCell hM _).setCell hM _).setCell hM _
theorem put3 {w : World} {M : Nat} {x0 x1 x2 : Value} {T : TypeId} (h : Blk w M #[x0, x1, x2] T) (v0 v1 v2 : Value) : Blk (((w.setCell ⟨M, 0, none⟩ v0).setCell ⟨M, 1, none⟩ v1).setCell ⟨M, 2, none⟩ v2) M #[v0, v1, v2] T :=
  ((h.set 0 v0).set 1 v1).set 2 v2
theorem blkT_ne {w : World} {a b : Nat} {cs ds : Array Value} {T U : TypeId} (h : Blk w a cs T) (k : Blk w b ds U) (hT : T ≠ U) : a ≠ b := fun e => by
  subst e
  unfold Blk at h k
  rw [h] at k
  injection k with k
  injection k with _ k
  exact hT k
theorem CB.set' {lo : Nat} {w : World} {M c N : Nat} {cs : List CRow} {ds : Array Value} (h : CB lo w M c cs) (hN : Blk w N ds 28) (i : Nat) (v : Value) : CB lo (w.setCell ⟨N, i, none⟩ v) M c cs := by
  obtain ⟨cur, h1, h2⟩ := h.outer
  exact CB.set h hN (by decide) (by decide) (blkT_ne hN h1 (by decide)) i v
theorem CB.set3 {lo : Nat} {w : World} {M c N : Nat} {cs : List CRow} {ds : Array Value} (h : CB lo w M c cs) (hN : Blk w N ds 28) (v0 v1 v2 : Value) : CB lo (((w.setCell ⟨N, 0, none⟩ v0).setCell ⟨N, 1, none⟩ v1).setCell ⟨N, 2, none⟩ v2) M c cs :=
  CB.set' (CB.set' (CB.set' h hN 0 v0) (hN.set 0 v0) 1 v1) ((hN.set 0 v0).set 1 v1) 2 v2

set_option maxHeartbeats 800000 in
theorem toPart_any (hd vr : Int) (a : Option Addr) (cap : Nat) (C : List PCh) (w : World) (hr : RdG RdA w a C) (hl : C.length ≤ 1048576) (hs : sumC C ≤ 1048576) :
    Calls Try.prog 9 #[.agg #[.int .i64 hd, .int .i64 vr, .slice a C.length cap]] w fun r w' => (∃ M cs, r = .returned (.agg #[.int .i64 hd, .int .i64 vr, .slice (some ⟨M, 0, none⟩) C.length C.length]) ∧ CB w.heap.size w' M C.length cs ∧ chs cs = C) ∧ Below w.heap.size w w' := by
  have HR : Hid (RdG RdA w a C) := hr
  have HS : Hid (sumC C ≤ 1048576) := hs
  clear hr hs
  go_enter Try.func9, Try.ntmps9
  go_wp2_with fail
  generalize hW : ((w.alloc (.cells #[.int .i64 hd, .int .i64 vr, .slice a C.length cap] 24)).alloc (.cells #[.int .i64 0, .int .i64 0, .slice none 0 0] 28)).alloc (.cells #[.int .i64 hd, .int .i64 vr, .slice none 0 0] 28) = W
  have hB3 : Below w.heap.size w W := by rw [← hW]; exact Alm.below3 w _ _ _
  have hP : Blk W w.heap.size #[.int .i64 hd, .int .i64 vr, .slice a C.length cap] 24 := by rw [← hW]; exact ((Blk.new _ _ _).alloc _).alloc _
  have hR : Blk W (w.heap.size + 1) #[.int .i64 0, .int .i64 0, .slice none 0 0] 28 := by rw [← hW]; exact (Blk.new_at (by simp)).alloc _
  have hO : Blk W (w.heap.size + 1 + 1) #[.int .i64 hd, .int .i64 vr, .slice none 0 0] 28 := by rw [← hW]; exact Blk.new_at (by simp)
  have hSz : W.heap.size = w.heap.size + 1 + 1 + 1 := by rw [← hW]; simp
  clear hW
  refine (toS_any a cap C _ (HR.out.below stays_rd hB3) hl HS.out).mono ?_
  rintro r w1 ⟨rfl, ⟨cs, hC, hch⟩, hb⟩
  rw [hSz] at hC ⊢
  have HB : Hid (Below w.heap.size w w1) := grow_on hB3 hb
  have HC : Hid (CB w.heap.size w1 (w.heap.size + 1 + 1 + 1) C.length cs ∧ chs cs = C) := ⟨hC.down (by omega), hch⟩
  have hR1 := hR.grow hb
  have hO1 := hO.grow hb
  have HRR : Hid (Blk w1 (w.heap.size + 1) #[.int .i64 0, .int .i64 0, .slice none 0 0] 28) := hR1
  have HO : Hid (Blk w1 (w.heap.size + 1 + 1) #[.int .i64 hd, .int .i64 vr, .slice none 0 0] 28) := hO1
  have o0 : w1.cell? ⟨w.heap.size + 1 + 1, 0, none⟩ = some (.int .i64 hd) := hO1.cell 0
  have o1 : w1.cell? ⟨w.heap.size + 1 + 1, 1, none⟩ = some (.int .i64 vr) := hO1.cell 1
  have o2 : w1.cell? ⟨w.heap.size + 1 + 1, 2, none⟩ = some (.slice none 0 0) := hO1.cell 2
  have fo := hO1.frozen 2
  have r0 : w1.cell? ⟨w.heap.size + 1, 0, none⟩ = some (.int .i64 0) := hR1.cell 0
  have r1 : w1.cell? ⟨w.heap.size + 1, 1, none⟩ = some (.int .i64 0) := hR1.cell 1
  have r2 : w1.cell? ⟨w.heap.size + 1, 2, none⟩ = some (.slice none 0 0) := hR1.cell 2
  have f0 := hR1.frozen 0
  have f1 := hR1.frozen 1
  have f2 := hR1.frozen 2
  clear hb hC hch hR hO hR1 hO1 hB3 hP hSz
  go_wp2
  have hs := put3 (HRR.out.set_other (p := ⟨w.heap.size + 1 + 1, 2, none⟩) (by show w.heap.size + 1 + 1 ≠ w.heap.size + 1; omega) (.slice (some ⟨w.heap.size + 1 + 1 + 1, 0, none⟩) C.length C.length)) (.int .i64 hd) (.int .i64 vr) (.slice (some ⟨w.heap.size + 1 + 1 + 1, 0, none⟩) C.length C.length)
  have s0 := hs.cell 0
  have s1 := hs.cell 1
  have s2 := hs.cell 2
  refine bodyPost_ret (v := .agg #[.int .i64 hd, .int .i64 vr, .slice (some ⟨w.heap.size + 1 + 1 + 1, 0, none⟩) C.length C.length]) (by simp [results, Try.results9, go_sem, s0, s1, s2]) rfl ?_
  exact ⟨⟨w.heap.size + 1 + 1 + 1, cs, rfl, CB.set3 (CB.set' HC.out.1 HO.out _ _) (HRR.out.set_other (by show w.heap.size + 1 + 1 ≠ w.heap.size + 1; omega) _) _ _ _, HC.out.2⟩, set3 (ChnI.set_low HB.out (by omega) _ _) (by omega) _ _ _⟩

theorem eqPart_any (hd vr : Int) (a a' : Option Addr) (cap cap' : Nat) (C : List PCh) (w : World) (hr : RdG RdA w a C) (hr' : RdG RdA w a' C) (hl : C.length ≤ maxLen) (hz : FitsC C) :
    Calls Try.prog 11 #[.agg #[.int .i64 hd, .int .i64 vr, .slice a C.length cap], .agg #[.int .i64 hd, .int .i64 vr, .slice a' C.length cap']] w fun e w' => e = .returned (.bool true) ∧ Below w.heap.size w w' := by
  have HR : Hid (RdG RdA w a C ∧ RdG RdA w a' C ∧ C.length ≤ maxLen ∧ FitsC C) := ⟨hr, hr', hl, hz⟩
  clear hr hr' hl hz
  go_enter Try.func11, Try.ntmps11
  go_wp2_with fail
  refine (eqS_any a a' cap cap' C _ (HR.out.1.below stays_rd (Go.Joins.below_alloc2 w _ _)) (HR.out.2.1.below stays_rd (Go.Joins.below_alloc2 w _ _)) HR.out.2.2.1 HR.out.2.2.2).mono ?_
  rintro r w1 ⟨rfl, hb⟩
  have HB : Hid (Below w.heap.size w w1) := grow_on (Go.Joins.below_alloc2 w _ _) hb
  clear hb
  go_wp2
  go_ret
  exact ⟨rfl, HB.out⟩

set_option maxRecDepth 100000 in
theorem open_chains {H : Type} {enc : TypeId × Value → H} {W : World} {base : Nat} {spare : Nat → Bool} {held : Bool} {a : Option Addr} {len cap : Nat} {d : DataW H} {p : List MemPlace}
    (h : DataW.Trod enc Try.prog W base spare held 22 (.slice a len cap) d p) : ∃ C : List PCh, len = C.length ∧ RdG RdA W a C ∧ C.length ≤ maxLen ∧ FitsC C := by
  obtain ⟨fuel, hf⟩ := h
  rcases Go.Deep.open_slice Try.underlying22 (by simpa [Value.cells] using hf) with ⟨hcs, _⟩ | ⟨x, l, c, m, n, D, Pl, hcs, _, hl, hm, hmm, _, hx⟩
  · simp at hcs
    obtain ⟨rfl, rfl, rfl⟩ := hcs
    exact ⟨[], rfl, .inl rfl, by simp, fun i hi => by simp at hi⟩
  · simp at hcs
    obtain ⟨rfl, rfl, rfl⟩ := hcs
    have hlm : len ≤ m := by rw [hmm]; split <;> omega
    have each : ∀ i, i < len → ∃ z : PCh, FitC z ∧ ∃ (ad : Option Addr) (cp : Nat), W.cell? (x.add (i * 2)) = some (.int .i64 z.f) ∧ W.cell? (x.add (i * 2 + 1)) = some (.slice ad z.P.length cp) ∧ RdA W ad z.P := by
      intro i hi
      obtain ⟨cs', h1, h2⟩ := hx i (by omega)
      rw [cellsC] at h1
      obtain ⟨_, hlen, hcell⟩ := World.cells?_some h1
      obtain ⟨xs, k, hk, hxy, _, hxl, hf⟩ := DataW.trod_struct Try.underlying82 h2
      match xs, hxl, cs', hlen with
      | [y0, y1], _, [v0, v1], _ =>
        have k0 : Try.prog.cellsOf 80 = 1 := by kernel_rfl
        have k1 : Try.prog.cellsOf 3 = 1 := by kernel_rfl
        have g0 : DataW.trod enc Try.prog W base spare held k 3 [v0] = some y0 := by have := hf 0 _ rfl; simpa [k1] using this
        have g1 : DataW.trod enc Try.prog W base spare held k 80 [v1] = some y1 := by have := hf 1 _ rfl; simpa [k0] using this
        obtain ⟨s, e0, _, z0⟩ := DataW.trod_int Try.underlying3 g0
        obtain ⟨ad, ln, cp, e1⟩ := Go.Joins.slice_form Try.underlying80 g1
        simp at e0 e1
        subst e0 e1
        obtain ⟨P, rfl, hr, hll, hff⟩ := open_alarms (enc := enc) (W := W) (d := y1.1) (p := y1.2) ⟨k, by simpa [Value.cells] using g1⟩
        have c0 := hcell 0 (by omega)
        have c1 := hcell 1 (by omega)
        rw [Go.Deep.add_add] at c0 c1
        exact ⟨⟨s, P⟩, ⟨Go.bounds_i64 z0, hll, hff⟩, ad, cp, by simpa using c0, by simpa using c1, hr⟩
    have hin : Inhabited PCh := ⟨⟨0, []⟩⟩
    obtain ⟨f, hfz⟩ := Go.Deep.choose_lt each
    have hlen : ((List.range len).map f).length = len := by simp
    have hn : ∀ i, i < len → nthC ((List.range len).map f) i = f i := fun i hi => by rw [nthC_eq (by simpa using hi)]; simp
    refine ⟨(List.range len).map f, hlen.symm, ?_, by omega, fun y hy => ?_⟩
    · by_cases h0 : len = 0
      · left; subst h0; rfl
      · right
        obtain ⟨b, off, spot⟩ := x
        obtain ⟨_, ad, cp, c0, _⟩ := hfz 0 (by omega)
        have hspot : spot = none := by simpa [Addr.add] using World.cell?_spot c0
        subst hspot
        have eb : b < W.heap.size := by
          by_cases hb : b < W.heap.size
          · exact hb
          · have : W.heap[b]? = none := by simp; omega
            simp [World.cell?, Addr.add, this] at c0
        have ea : ∀ i, (⟨b, off, none⟩ : Addr).add i = ⟨b, off + i, none⟩ := fun i => by by_cases h : i = 0 <;> simp [Addr.add, h]
        refine ⟨b, off, rfl, eb, fun i hi => ?_⟩
        rw [hlen] at hi
        obtain ⟨_, ad, cp, c0, c1, hr⟩ := hfz i hi
        rw [ea] at c0 c1
        rw [hn i hi]
        exact ⟨ad, cp, c0, c1, hr⟩
    · obtain ⟨i, hi, rfl⟩ := List.mem_map.1 hy
      exact (hfz i (by simpa using hi)).1
theorem cellsP : Try.prog.cellsOf 24 = 3 := by kernel_rfl
def I64 (x : Int) : Prop := -9223372036854775808 ≤ x ∧ x ≤ 9223372036854775807
end Go.Proofs.Ytcopckbpflmmeab.Prt
namespace Go.Proofs.Ytcopckbpflmmeab.PrtM
open Go.RowKit
open Labs LabS Alms AlmM Over Blk App Rws ChnI ChnC ChnP ChnK Chs Prt

def blksC (M : Nat) (cs : List CRow) (k : Nat) : Prop := k = M ∨ ∃ x ∈ cs, blks x.M x.rs k
theorem blksC_low {lo : Nat} {w : World} {M c : Nat} {cs : List CRow} (h : CB lo w M c cs) (k : Nat) (hk : blksC M cs k) : lo ≤ k := by
  rcases hk with rfl | ⟨x, hx, hk⟩
  · exact h.at'
  · exact blks_low (h.rows.rows x hx) k hk
theorem blksC_high {lo : Nat} {w : World} {M c : Nat} {cs : List CRow} (h : CB lo w M c cs) (k : Nat) (hk : blksC M cs k) : k < w.heap.size := by
  rcases hk with rfl | ⟨x, hx, hk⟩
  · exact h.lt
  · exact blks_high (h.rows.rows x hx) k hk
theorem cb_ne {lo : Nat} {w : World} {M M' c : Nat} {cur : Array Value} {rs : List ARow} (hb : Blk w M cur 52) (h : AB lo w M' c rs) : ¬ blks M' rs M := fun hk => by
  rcases hk with e | ⟨x, hx, e⟩
  · obtain ⟨cu, h1, _⟩ := h.outer
    exact blkT_ne hb h1 (by decide) e
  · obtain ⟨_, _, ds, h2, _⟩ := h.rows x hx
    exact blkT_ne hb h2 (by decide) e.symm
theorem cb_only {S : Nat → Prop} {lo : Nat} {w w' : World} {M c : Nat} {cs : List CRow} (h : CB lo w M c cs) (ho : Only S w w') (hn : ∀ k, blksC M cs k → ¬ S k) : CB lo w' M c cs := by
  obtain ⟨cur, h1, h2⟩ := h.outer
  exact ⟨h.at', h.cap, ⟨cur, ho.blk h1 (hn _ (.inl rfl)), h2⟩, ⟨fun x hx => ab_only (h.rows.rows x hx) ho fun k hk => hn k (.inr ⟨x, hx, hk⟩), h.rows.ne⟩⟩
def sumM : List CRow → Nat
  | [] => 0
  | x :: cs => 1 + sumA x.rs + sumM cs
theorem sumM_app (p q : List CRow) : sumM (p ++ q) = sumM p + sumM q := by
  induction p with
  | nil => simp [sumM]
  | cons x p ih => rw [List.cons_append, sumM, ih, sumM]; omega
theorem takeR_up {cs : List CRow} {k : Nat} (h : k < cs.length) : cs.take (k + 1) = cs.take k ++ [nthR cs k] := by rw [nthR_eq h, List.take_succ_eq_append_getElem h]
theorem sumM_up {cs : List CRow} {k : Nat} (h : k < cs.length) : sumM (cs.take (k + 1)) = sumM (cs.take k) + 1 + sumA (nthR cs k).rs := by rw [takeR_up h, sumM_app]; simp [sumM]; omega
theorem sumM_all {cs : List CRow} {k : Nat} (h : cs.length ≤ k) : sumM (cs.take k) = sumM cs := by rw [List.take_of_length_le h]
theorem sumM_le (cs : List CRow) (k : Nat) : sumM (cs.take k) ≤ sumM cs := by
  have := sumM_app (cs.take k) (cs.drop k)
  rw [List.take_append_drop] at this
  omega
theorem sumM_chs (cs : List CRow) : sumM cs ≤ 3 * sumC (chs cs) + cs.length := by
  induction cs with
  | nil => simp [sumM]
  | cons x cs ih =>
    have h1 := sumA_pals x.rs
    have h2 := pals_len x.rs
    have h3 : sumC (chs (x :: cs)) = (pals x.rs).length + sumL (pals x.rs) + sumC (chs cs) := rfl
    rw [h3, sumM]
    simp only [List.length_cons]
    omega
structure MC (w : World) (M : Nat) (cs : List CRow) (k j : Nat) : Prop where
  outer : ∃ cur : Array Value, Blk w M cur 52 ∧ cs.length * 2 ≤ cur.size ∧ (∀ i, i < cs.length → cur[i * 2 + 1]? = some (.slice (some ⟨(nthR cs i).M, 0, none⟩) (nthR cs i).rs.length (nthR cs i).c)) ∧ ∀ i, i < j → cur[i * 2]? = some (.int .i64 ((k + sumM (cs.take i) : Nat) : Int))
  done : ∀ i, i < j → MA w (nthR cs i).M (nthR cs i).rs (k + sumM (cs.take i) + 1) (nthR cs i).rs.length
  todo : ∀ i, j ≤ i → i < cs.length → ∃ lo, AB lo w (nthR cs i).M (nthR cs i).c (nthR cs i).rs
  apart : ∀ x ∈ cs, ¬ blks x.M x.rs M
theorem CB.mc {lo : Nat} {w : World} {M c : Nat} {cs : List CRow} (h : CB lo w M c cs) (k : Nat) : MC w M cs k 0 := by
  obtain ⟨cur, h1, h2, h3⟩ := h.outer
  have hc := h.cap
  exact ⟨⟨cur, h1, by omega, fun i hi => (h3 i hi).2, fun i hi => by omega⟩, fun i hi => by omega, fun i _ hi => ⟨lo, h.rows.rows _ (nthR_mem hi)⟩, fun x hx => cb_ne h1 (h.rows.rows x hx)⟩
theorem MC.only {S : Nat → Prop} {w w' : World} {M : Nat} {cs : List CRow} {k : Nat} (h : MC w M cs k cs.length) (ho : Only S w w') (hn : ∀ k, blksC M cs k → ¬ S k) : MC w' M cs k cs.length := by
  obtain ⟨cur, h1, h2⟩ := h.outer
  exact ⟨⟨cur, ho.blk h1 (hn _ (.inl rfl)), h2⟩, fun i hi => (h.done i hi).only ho fun q hq => hn q (.inr ⟨_, nthR_mem hi, hq⟩), fun i h1 h2 => by omega, h.apart⟩
theorem ne_rows {cs : List CRow} (h : cs.Pairwise fun x y => ∀ k, blks x.M x.rs k → ¬ blks y.M y.rs k) {i j : Nat} (hi : i < cs.length) (hj : j < cs.length) (hne : i ≠ j) : ∀ k, blks (nthR cs i).M (nthR cs i).rs k → ¬ blks (nthR cs j).M (nthR cs j).rs k := by
  rw [List.pairwise_iff_getElem] at h
  rw [nthR_eq hi, nthR_eq hj]
  rcases Nat.lt_or_gt_of_ne hne with hlt | hlt
  · exact h i j hi hj hlt
  · exact fun k h1 h2 => h j i hj hi hlt k h2 h1

set_option maxHeartbeats 1600000 in
theorem markCS_any (M c k lo cap : Nat) (cs : List CRow) (w : World) (hCB : CB lo w M c cs) (hl : cs.length ≤ 2000000) (hrl : ∀ x ∈ cs, x.rs.length ≤ 2000000) (hk : 1 ≤ k) (hk2 : k + sumM cs ≤ 9000000) :
    Calls Try.prog 36 #[.slice (some ⟨M, 0, none⟩) cs.length cap, .int .i64 k] w fun e w' => e = .returned (.int .i64 ((k + sumM cs : Nat) : Int)) ∧ MC w' M cs k cs.length ∧ Only (blksC M cs) w w' := by
  have HM : Hid (MC w M cs k 0) := CB.mc hCB k
  have HN : Hid ((cs.Pairwise fun x y => ∀ k, blks x.M x.rs k → ¬ blks y.M y.rs k) ∧ k + sumM cs ≤ 9000000 ∧ ∀ x ∈ cs, x.rs.length ≤ 2000000) := ⟨hCB.rows.ne, hk2, hrl⟩
  clear hCB hk2 hrl
  go_enter Try.func36, Try.ntmps36
  go_wp2
  go_loopw [1, 5] (fun x i w' => ∃ j : Nat, j ≤ cs.length ∧ i = .int .i64 j ∧ x = .int .i64 ((k + sumM (cs.take j) : Nat) : Int) ∧ MC w' M cs k j ∧ Only (blksC M cs) w w') (fun _ i _ => cs.length - (intOf i).toNat)
  case atStart => exact ⟨0, Nat.zero_le _, rfl, rfl, HM.out, Only.refl _ _⟩
  case round =>
    obtain ⟨j, hj, rfl, rfl, hm, ha⟩ := hrel
    have HM1 : Hid (MC wr M cs k j) := hm
    have HA : Hid (Only (blksC M cs) w wr) := ha
    clear hm ha
    by_cases hlt : j < cs.length
    · have hlt' : (j : Int) < (cs.length : Int) := by omega
      have HU : Hid (k + sumM (cs.take (j + 1)) = k + sumM (cs.take j) + 1 + sumA (nthR cs j).rs) := by have := sumM_up hlt; show _ = _; omega
      have hzb : k + sumM (cs.take (j + 1)) ≤ 9000000 := by have := sumM_le cs (j + 1); have := HN.out.2.1; omega
      obtain ⟨cur, ho, hos, hc, hdn⟩ := HM1.out.outer
      obtain ⟨lo1, hab⟩ := HM1.out.todo j (Nat.le_refl _) hlt
      have HO : Hid (Blk wr M cur 52 ∧ cs.length * 2 ≤ cur.size ∧ (∀ i, i < cs.length → cur[i * 2 + 1]? = some (.slice (some ⟨(nthR cs i).M, 0, none⟩) (nthR cs i).rs.length (nthR cs i).c)) ∧ ∀ i, i < j → cur[i * 2]? = some (.int .i64 ((k + sumM (cs.take i) : Nat) : Int))) := ⟨ho, hos, hc, hdn⟩
      have HAB : Hid (AB lo1 wr (nthR cs j).M (nthR cs j).c (nthR cs j).rs) := hab
      obtain ⟨v0, p0⟩ : ∃ v, wr.cell? ⟨M, j * 2, none⟩ = some v := ⟨cur[j * 2]'(by omega), by rw [ho.cell]; simp⟩
      have f0 := ho.frozen (j * 2)
      have c1 : wr.cell? ⟨M, j * 2 + 1, none⟩ = some (.slice (some ⟨(nthR cs j).M, 0, none⟩) (nthR cs j).rs.length (nthR cs j).c) := (ho.cell _).trans (hc j hlt)
      generalize hz : k + sumM (cs.take j) = z at *
      have HZ : Hid (k + sumM (cs.take j) = z) := hz
      have hz1 : 1 ≤ z := by omega
      have hz2 : z ≤ 9000000 := by have := HU.out; omega
      clear ho hos hc hdn hab hz
      go_wp2_with fail
      have ez : (z : Int) + 1 = ((z + 1 : Nat) : Int) := by omega
      rw [ez]
      generalize hW : wr.setCell ⟨M, j * 2, none⟩ (.int .i64 z) = W
      have HKW : Hid (Blk W M (cur.setIfInBounds (j * 2) (.int .i64 z)) 52) := by rw [← hW]; exact HO.out.1.set _ _
      have HMW : Hid (Only (fun q => q = M) wr W) := by rw [← hW]; exact (Only.refl (fun q => q = M) wr).set (M := M) rfl _ _
      have HABW : Hid (AB lo1 W (nthR cs j).M (nthR cs j).c (nthR cs j).rs) := ab_only HAB.out HMW.out (fun q hq e => HM1.out.apart _ (nthR_mem hlt) (by rw [← e]; exact hq))
      clear hW p0 c1 f0 ez
      refine (markS_any (nthR cs j).M (nthR cs j).c (z + 1) lo1 _ (nthR cs j).rs W HABW.out (HN.out.2.2 _ (nthR_mem hlt)) (by omega) (by have := HU.out; omega)).mono ?_
      rintro e w2 ⟨rfl, hma, ho2⟩
      have HMA : Hid (MA w2 (nthR cs j).M (nthR cs j).rs (z + 1) (nthR cs j).rs.length) := hma
      have HO2 : Hid (Only (blks (nthR cs j).M (nthR cs j).rs) W w2) := ho2
      have hap := HM1.out.apart _ (nthR_mem hlt)
      have HK2 : Hid (Blk w2 M (cur.setIfInBounds (j * 2) (.int .i64 z)) 52) := ho2.blk HKW.out hap
      have HE : Hid (MC w2 M cs k (j + 1)) := by
        refine ⟨⟨_, HK2.out, by simp; exact HO.out.2.1, fun i hi => ?_, fun i hi => ?_⟩, fun i hi => ?_, fun i hi hl => ?_, HM1.out.apart⟩
        · rw [set_ne (by omega)]; exact HO.out.2.2.1 i hi
        · by_cases e : i = j
          · subst e
            rw [HZ.out, set_at (by have := HO.out.2.1; omega)]
          · rw [set_ne (by omega)]; exact HO.out.2.2.2 i (by omega)
        · by_cases e : i = j
          · subst e
            rw [HZ.out]
            exact HMA.out
          · have h1 := (HM1.out.done i (by omega)).only HMW.out (fun q hq e => HM1.out.apart _ (nthR_mem (i := i) (by omega)) (by rw [← e]; exact hq))
            exact h1.only HO2.out (fun q hq hs => ne_rows HN.out.1 (by omega) hlt e q hq hs)
        · obtain ⟨lo2, h1⟩ := HM1.out.todo i (by omega) hl
          exact ⟨lo2, ab_only (ab_only h1 HMW.out (fun q hq e => HM1.out.apart _ (nthR_mem hl) (by rw [← e]; exact hq))) HO2.out (fun q hq hs => ne_rows HN.out.1 hl hlt (by omega) q hq hs)⟩
      have HA2 : Hid (Only (blksC M cs) w w2) := by
        refine HA.out.trans (Only.trans ?_ ?_ (b := W))
        · exact ⟨HMW.out.os, HMW.out.tape, HMW.out.output, HMW.out.size, fun q hq hn => HMW.out.block q hq (fun e => hn (.inl e))⟩
        · exact ⟨HO2.out.os, HO2.out.tape, HO2.out.output, HO2.out.size, fun q hq hn => HO2.out.block q hq (fun e => hn (.inr ⟨_, nthR_mem hlt, e⟩))⟩
      have HF : Hid (k + sumM (cs.take (j + 1)) = z + 1 + sumA (nthR cs j).rs) := HU.out
      clear hma ho2 hap
      generalize hy : z + 1 + sumA (nthR cs j).rs = y at HF ⊢
      clear hy
      go_wp2
      go_roundw
      case rel => exact ⟨j + 1, by omega, by go_num, by rw [HF.out], HE.out, HA2.out⟩
      case measure => simp [intOf]; omega
    · have hge : ¬ (j : Int) < (cs.length : Int) := by omega
      have HE : Hid (j = cs.length ∧ sumM (cs.take j) = sumM cs) := ⟨by omega, sumM_all (by omega)⟩
      go_wp2
      go_ret
      exact ⟨Mark.retI (by have := HE.out.2; omega), by have := HM1.out; rwa [HE.out.1] at this, HA.out⟩

end Go.Proofs.Ytcopckbpflmmeab.PrtM
namespace Go.Proofs.Ytcopckbpflmmeab.Sts
open Go.RowKit
open Go.ChangeShapes Go.WideShapes
open Labs LabS Alms AlmS AlmM Over Blk App Rws ChnI ChnC ChnP ChnK Chs Prt PrtM
open StrB (retB)

structure PPt where
  hd : Int
  vr : Int
  C : List PCh
def nthT (S : List PPt) (i : Nat) : PPt := S.getD i ⟨0, 0, []⟩
theorem nthT_eq {S : List PPt} {i : Nat} (h : i < S.length) : nthT S i = S[i] := by unfold nthT; simp [h]
theorem nthT_mem {S : List PPt} {i : Nat} (h : i < S.length) : nthT S i ∈ S := by rw [nthT_eq h]; exact List.getElem_mem _
theorem takeT_up {S : List PPt} {k : Nat} (h : k < S.length) : S.take (k + 1) = S.take k ++ [nthT S k] := by
  rw [nthT_eq h, List.take_succ_eq_append_getElem h]
structure AtP (R : World → Option Addr → List PAl → Prop) (w : World) (b off i : Nat) (x : PPt) (ad : Option Addr) (cap : Nat) : Prop where
  c0 : w.cell? ⟨b, off + i * 3, none⟩ = some (.int .i64 x.hd)
  c1 : w.cell? ⟨b, off + i * 3 + 1, none⟩ = some (.int .i64 x.vr)
  c2 : w.cell? ⟨b, off + i * 3 + 2, none⟩ = some (.slice ad x.C.length cap)
  reads : RdG R w ad x.C
theorem AtP.below {R : World → Option Addr → List PAl → Prop} (hR : Stays R) {w w' : World} {b off i : Nat} {x : PPt} {ad : Option Addr} {cap : Nat} (h : AtP R w b off i x ad cap) (hb : Below w.heap.size w w') (hlt : b < w.heap.size) : AtP R w' b off i x ad cap :=
  ⟨(hb.cell (p := ⟨b, off + i * 3, none⟩) hlt).trans h.c0, (hb.cell (p := ⟨b, off + i * 3 + 1, none⟩) hlt).trans h.c1, (hb.cell (p := ⟨b, off + i * 3 + 2, none⟩) hlt).trans h.c2, h.reads.below hR hb⟩
def RdS (R : World → Option Addr → List PAl → Prop) (w : World) (a : Option Addr) (S : List PPt) : Prop :=
  S = [] ∨ ∃ b off, a = some ⟨b, off, none⟩ ∧ b < w.heap.size ∧ ∀ i, i < S.length → ∃ ad cap, AtP R w b off i (nthT S i) ad cap
theorem RdS.below {R : World → Option Addr → List PAl → Prop} (hR : Stays R) {w w' : World} {a : Option Addr} {S : List PPt} (h : RdS R w a S) (hb : Below w.heap.size w w') : RdS R w' a S := by
  rcases h with h | ⟨b, off, rfl, hlt, hc⟩
  · exact .inl h
  · exact .inr ⟨b, off, rfl, Nat.lt_of_lt_of_le hlt hb.size, fun i hi => by
      obtain ⟨ad, cap, h⟩ := hc i hi
      exact ⟨ad, cap, h.below hR hb hlt⟩⟩
theorem RdS.get {R : World → Option Addr → List PAl → Prop} {w : World} {a : Option Addr} {S : List PPt} (h : RdS R w a S) {i : Nat} (hi : i < S.length) :
    ∃ b off, a = some ⟨b, off, none⟩ ∧ b < w.heap.size ∧ ∃ ad cap, AtP R w b off i (nthT S i) ad cap := by
  rcases h with h | ⟨b, off, e, hb, h⟩
  · rw [h] at hi; simp at hi
  · exact ⟨b, off, e, hb, h i hi⟩
theorem RdS.rd {w : World} {a : Option Addr} {S : List PPt} (h : RdS RdN w a S) : RdS RdA w a S := by
  rcases h with h | ⟨b, off, e, hb, h⟩
  · exact .inl h
  · exact .inr ⟨b, off, e, hb, fun i hi => by obtain ⟨ad, cap, h⟩ := h i hi; exact ⟨ad, cap, h.c0, h.c1, h.c2, h.reads.rd⟩⟩
structure FitT (x : PPt) : Prop where
  hb : I64 x.hd
  vb : I64 x.vr
  len : x.C.length ≤ maxLen
  fits : FitsC x.C
def FitsT (S : List PPt) : Prop := ∀ x ∈ S, FitT x
def sumT : List PPt → Nat
  | [] => 0
  | x :: S => x.C.length + sumC x.C + sumT S
theorem sumT_app (p q : List PPt) : sumT (p ++ q) = sumT p + sumT q := by
  induction p with
  | nil => simp [sumT]
  | cons x p ih => rw [List.cons_append, sumT, ih, sumT]; omega
theorem sumT_up {S : List PPt} {k : Nat} (h : k < S.length) : sumT (S.take (k + 1)) = sumT (S.take k) + (nthT S k).C.length + sumC (nthT S k).C := by
  rw [takeT_up h, sumT_app]; simp [sumT]; omega
theorem sumT_all {S : List PPt} {k : Nat} (h : S.length ≤ k) : sumT (S.take k) = sumT S := by rw [List.take_of_length_le h]
theorem sumT_le (S : List PPt) (k : Nat) : sumT (S.take k) ≤ sumT S := by
  have := sumT_app (S.take k) (S.drop k)
  rw [List.take_append_drop] at this
  omega
theorem sumT_mem {S : List PPt} {x : PPt} (h : x ∈ S) : x.C.length + sumC x.C ≤ sumT S := by
  induction S with
  | nil => simp at h
  | cons y S ih =>
    rw [sumT]
    rcases List.mem_cons.1 h with rfl | h
    · omega
    · have := ih h; omega
theorem sumT_nth {S : List PPt} {k : Nat} (h : k < S.length) : (nthT S k).C.length + sumC (nthT S k).C ≤ sumT S := sumT_mem (nthT_mem h)
theorem small_of {C : List PCh} (h : sumC C ≤ 1048576) : ∀ x ∈ C, x.P.length ≤ 1048576 ∧ LenM x.P := fun x hx => by
  have := sumC_mem hx
  exact ⟨by omega, lenM_of (by omega)⟩

set_option maxHeartbeats 800000 in
theorem szPS_any (a : Option Addr) (cap : Nat) (S : List PPt) (left : Int) (w : World) (hr : RdS RdA w a S) (hl : S.length ≤ maxLen) (hz : FitsT S) (h0 : 0 ≤ left) (h1 : left ≤ 1048576) :
    Calls Try.prog 24 #[.slice a S.length cap, .int .i64 left] w fun e w' => (∃ n : Int, e = .returned (.int .i64 n) ∧ n ≤ left ∧ (0 ≤ n → n + (S.length : Int) + (sumT S : Int) ≤ left)) ∧ Below w.heap.size w w' := by
  unfold maxLen at hl
  have HR : Hid (RdS RdA w a S) := hr
  have HZ : Hid (FitsT S) := hz
  clear hr hz
  by_cases c : left - (S.length : Int) < 0
  · go_enter Try.func24, Try.ntmps24
    go_wp2
    go_ret
    exact ⟨⟨-1, rfl, by omega, fun h => by omega⟩, Below.refl _ _⟩
  · go_enter Try.func24, Try.ntmps24
    go_wp2
    go_loopw [1, 5] (fun m i w' => ∃ (k : Nat) (x : Int), k ≤ S.length ∧ i = .int .i64 k ∧ m = .int .i64 x ∧ 0 ≤ x ∧ x + (S.length : Int) + (sumT (S.take k) : Int) ≤ left ∧ Below w.heap.size w w') (fun _ i _ => S.length - (intOf i).toNat)
    case atStart => exact ⟨0, _, Nat.zero_le _, rfl, rfl, by omega, by simp [sumT], Below.refl _ _⟩
    case round =>
      obtain ⟨k, x, hk, rfl, rfl, hx0, hx1, hw0⟩ := hrel
      have HB : Hid (Below w.heap.size w wr) := hw0
      have HX : Hid (x + (S.length : Int) + (sumT (S.take k) : Int) ≤ left) := hx1
      have hx2 : x ≤ left := by omega
      clear hw0 hx1
      by_cases hlt : k < S.length
      · have hlt' : (k : Int) < (S.length : Int) := by omega
        obtain ⟨b, off, rfl, hb, ad, cp, hat⟩ := (HR.out.below stays_rd HB.out).get hlt
        have h2 := hat.c0
        have h3 := hat.c1
        have h4 := hat.c2
        have HA : Hid (RdG RdA wr ad (nthT S k).C) := hat.reads
        have HU : Hid (sumT (S.take (k + 1)) = sumT (S.take k) + (nthT S k).C.length + sumC (nthT S k).C) := sumT_up hlt
        clear hat
        go_wp2_with fail
        refine (szPart_any _ _ ad cp _ x _ HA.out (HZ.out _ (nthT_mem hlt)).len (HZ.out _ (nthT_mem hlt)).fits hx0 (by omega)).mono ?_
        rintro e w1 ⟨⟨y, rfl, hy, hyn⟩, hb1⟩
        have HB1 : Hid (Below w.heap.size w w1) := grow_on HB.out hb1
        clear hb1 h2 h3 h4
        by_cases hn : y < 0
        · clear hyn
          go_wp2
          go_ret
          exact ⟨⟨-1, rfl, by omega, fun h => by omega⟩, HB1.out⟩
        · have HY : Hid (y + ((nthT S k).C.length : Int) + (sumC (nthT S k).C : Int) ≤ x) := hyn (by omega)
          clear hyn
          go_wp2
          go_roundw
          case rel => exact ⟨k + 1, y, by omega, by go_num, rfl, by omega, by have h1 := HY.out; have h2 := HX.out; have h3 := HU.out; omega, HB1.out⟩
          case measure => simp [intOf]; omega
      · have hge : ¬ (k : Int) < (S.length : Int) := by omega
        have HE : Hid (sumT (S.take k) = sumT S) := sumT_all (by omega)
        go_wp2
        go_ret
        exact ⟨⟨_, rfl, by omega, fun h => by have h1 := HX.out; have h2 := HE.out; omega⟩, HB.out⟩

theorem infoP : (Try.prog.info? 28).map (fun i => (i.zero, i.size, i.bytes)) = some (some (.agg #[.int .i64 0, .int .i64 0, .slice none 0 0]), 3, 40) := by kernel_rfl

structure PRow where
  hd : Int
  vr : Int
  a : Option Addr
  c : Nat
  cs : List CRow
def PRow.pt (x : PRow) : PPt := ⟨x.hd, x.vr, chs x.cs⟩
def pts (ps : List PRow) : List PPt := ps.map PRow.pt
def nthQ (ps : List PRow) (i : Nat) : PRow := ps.getD i ⟨0, 0, none, 0, []⟩
theorem nthQ_eq {ps : List PRow} {i : Nat} (h : i < ps.length) : nthQ ps i = ps[i] := by unfold nthQ; simp [h]
theorem nthQ_mem {ps : List PRow} {i : Nat} (h : i < ps.length) : nthQ ps i ∈ ps := by rw [nthQ_eq h]; exact List.getElem_mem _
theorem pts_len (ps : List PRow) : (pts ps).length = ps.length := by simp [pts]
theorem pts_nth {ps : List PRow} {i : Nat} (h : i < ps.length) : nthT (pts ps) i = (nthQ ps i).pt := by
  rw [nthT_eq (by rw [pts_len]; exact h), nthQ_eq h]
  simp [pts]
theorem pts_app (ps : List PRow) (x : PRow) : pts (ps ++ [x]) = pts ps ++ [x.pt] := by simp [pts]
theorem nthQ_app_lt {ps : List PRow} {x : PRow} {i : Nat} (h : i < ps.length) : nthQ (ps ++ [x]) i = nthQ ps i := by
  rw [nthQ_eq (by simp; omega), nthQ_eq h, List.getElem_append_left h]
theorem nthQ_app_eq (ps : List PRow) (x : PRow) : nthQ (ps ++ [x]) ps.length = x := by
  rw [nthQ_eq (by simp)]; simp
def Cel3 (f : Nat → Option Value) (i : Nat) (x : PRow) : Prop := f (i * 3) = some (.int .i64 x.hd) ∧ f (i * 3 + 1) = some (.int .i64 x.vr) ∧ f (i * 3 + 2) = some (.slice x.a x.cs.length x.c)
theorem Cel3.congr {f g : Nat → Option Value} {i : Nat} {x : PRow} (h : Cel3 f i x) (e : ∀ k, i * 3 ≤ k → k < i * 3 + 3 → g k = f k) : Cel3 g i x :=
  ⟨by rw [e _ (by omega) (by omega)]; exact h.1, by rw [e _ (by omega) (by omega)]; exact h.2.1, by rw [e _ (by omega) (by omega)]; exact h.2.2⟩
def PO (lo : Nat) (w : World) (a : Option Addr) (cap : Nat) (cs : List CRow) : Prop := (a = none ∧ cap = 0 ∧ cs = []) ∨ ∃ M, a = some ⟨M, 0, none⟩ ∧ CB lo w M cap cs
theorem PO.grow {lo : Nat} {w w' : World} {a : Option Addr} {cap : Nat} {cs : List CRow} (h : PO lo w a cap cs) (hb : Below w.heap.size w w') : PO lo w' a cap cs := h.imp id fun ⟨M, e, k⟩ => ⟨M, e, k.grow hb⟩
theorem PO.rn {lo : Nat} {w : World} {a : Option Addr} {cap : Nat} {cs : List CRow} (h : PO lo w a cap cs) : RdG RdN w a (chs cs) := by
  rcases h with ⟨_, _, e⟩ | ⟨M, e, k⟩
  · exact .inl (by rw [e]; rfl)
  · rw [e]; exact k.rn
theorem PO.of {lo : Nat} {w : World} {M cap : Nat} {cs : List CRow} (h : CB lo w M cap cs) : PO lo w (some ⟨M, 0, none⟩) cap cs := .inr ⟨M, rfl, h⟩
structure MovedP (w w' : World) : Prop where
  C : ∀ {k : Nat} {cs : Array Value}, Blk w k cs 52 → Blk w' k cs 52
  M : Moved w w'
theorem MovedP.trans {a b c : World} (h : MovedP a b) (k : MovedP b c) : MovedP a c := ⟨fun x => k.C (h.C x), h.M.trans k.M⟩
theorem MovedP.set {w : World} {N : Nat} {cs : Array Value} (hN : Blk w N cs 28) (i : Nat) (v : Value) : MovedP w (w.setCell ⟨N, i, none⟩ v) :=
  ⟨fun x => x.set_other (blkT_ne hN x (by decide)) _, Moved.set hN (by decide) (by decide) i v⟩
theorem cb_moved {lo : Nat} {w w' : World} {M c : Nat} {cs : List CRow} (h : CB lo w M c cs) (hm : MovedP w w') : CB lo w' M c cs := by
  obtain ⟨cur, h1, h2⟩ := h.outer
  exact ⟨h.at', h.cap, ⟨cur, hm.C h1, h2⟩, h.rows.moved hm.M⟩
theorem PO.moved {lo : Nat} {w w' : World} {a : Option Addr} {cap : Nat} {cs : List CRow} (h : PO lo w a cap cs) (hm : MovedP w w') : PO lo w' a cap cs := h.imp id fun ⟨M, e, k⟩ => ⟨M, e, cb_moved k hm⟩
structure PB (lo : Nat) (w : World) (M c : Nat) (ps : List PRow) : Prop where
  at' : lo ≤ M
  cap : ps.length ≤ c ∧ c ≤ maxLen
  outer : ∃ cur : Array Value, Blk w M cur 28 ∧ cur.size = c * 3 ∧ ∀ i, i < ps.length → Cel3 (fun k => cur[k]?) i (nthQ ps i)
  rows : ∀ x ∈ ps, PO lo w x.a x.c x.cs
theorem PB.grow {lo : Nat} {w w' : World} {M c : Nat} {ps : List PRow} (h : PB lo w M c ps) (hb : Below w.heap.size w w') : PB lo w' M c ps := by
  obtain ⟨cur, h1, h2⟩ := h.outer
  exact ⟨h.at', h.cap, ⟨cur, h1.grow hb, h2⟩, fun x hx => (h.rows x hx).grow hb⟩
theorem PB.lt {lo : Nat} {w : World} {M c : Nat} {ps : List PRow} (h : PB lo w M c ps) : M < w.heap.size := by
  obtain ⟨cur, h1, _⟩ := h.outer
  exact h1.lt
theorem PB.rn {lo : Nat} {w : World} {M c : Nat} {ps : List PRow} (h : PB lo w M c ps) : RdS RdN w (some ⟨M, 0, none⟩) (pts ps) := by
  obtain ⟨cur, h1, h2, h3⟩ := h.outer
  refine .inr ⟨M, 0, rfl, h1.lt, fun i hi => ?_⟩
  rw [pts_len] at hi
  obtain ⟨c0, c1, c2⟩ := h3 i hi
  refine ⟨(nthQ ps i).a, (nthQ ps i).c, ?_⟩
  rw [pts_nth hi]
  exact ⟨by rw [h1.cell, Nat.zero_add]; exact c0, by rw [h1.cell, Nat.zero_add]; exact c1, by rw [h1.cell, Nat.zero_add]; unfold PRow.pt; rw [chs_len]; exact c2, (h.rows _ (nthQ_mem hi)).rn⟩
def put3C (cs : Array Value) (k : Nat) (x : PRow) : Array Value := ((cs.setIfInBounds (k * 3) (.int .i64 x.hd)).setIfInBounds (k * 3 + 1) (.int .i64 x.vr)).setIfInBounds (k * 3 + 2) (.slice x.a x.cs.length x.c)
def put3W (w : World) (M k : Nat) (x : PRow) : World := ((w.setCell ⟨M, k * 3, none⟩ (.int .i64 x.hd)).setCell ⟨M, k * 3 + 1, none⟩ (.int .i64 x.vr)).setCell ⟨M, k * 3 + 2, none⟩ (.slice x.a x.cs.length x.c)
theorem put3_at {cs : Array Value} {k : Nat} {x : PRow} (h : k * 3 + 2 < cs.size) : Cel3 (fun j => (put3C cs k x)[j]?) k x := by
  unfold put3C
  exact ⟨by show (Array.setIfInBounds _ _ _)[_]? = _; rw [set_ne (by omega), set_ne (by omega), set_at (by omega)], by show (Array.setIfInBounds _ _ _)[_]? = _; rw [set_ne (by omega), set_at (by simp; omega)], by show (Array.setIfInBounds _ _ _)[_]? = _; rw [set_at (by simp; omega)]⟩
theorem put3_ne {cs : Array Value} {k j : Nat} {x : PRow} (h : j < k * 3 ∨ k * 3 + 3 ≤ j) : (put3C cs k x)[j]? = cs[j]? := by
  unfold put3C
  rw [set_ne (by omega), set_ne (by omega), set_ne (by omega)]
theorem put3_size (cs : Array Value) (k : Nat) (x : PRow) : (put3C cs k x).size = cs.size := by simp [put3C]
theorem put3W_blk {w : World} {M k : Nat} {x : PRow} {cs : Array Value} {T : TypeId} (h : Blk w M cs T) : Blk (put3W w M k x) M (put3C cs k x) T := ((h.set _ _).set _ _).set _ _
theorem put3W_moved {w : World} {M k : Nat} {x : PRow} {cs : Array Value} (h : Blk w M cs 28) : MovedP w (put3W w M k x) := ((MovedP.set h _ _).trans (MovedP.set (h.set _ _) _ _)).trans (MovedP.set ((h.set _ _).set _ _) _ _)
def blksP (x : PRow) (k : Nat) : Prop := ∃ M, x.a = some ⟨M, 0, none⟩ ∧ blksC M x.cs k
theorem blksP_low {lo : Nat} {w : World} {x : PRow} (h : PO lo w x.a x.c x.cs) (k : Nat) (hk : blksP x k) : lo ≤ k := by
  obtain ⟨M, e, hk⟩ := hk
  rcases h with ⟨e', _⟩ | ⟨M', e', h⟩
  · rw [e'] at e; cases e
  · rw [e'] at e; cases e; exact blksC_low h k hk
theorem blksP_high {lo : Nat} {w : World} {x : PRow} (h : PO lo w x.a x.c x.cs) (k : Nat) (hk : blksP x k) : k < w.heap.size := by
  obtain ⟨M, e, hk⟩ := hk
  rcases h with ⟨e', _⟩ | ⟨M', e', h⟩
  · rw [e'] at e; cases e
  · rw [e'] at e; cases e; exact blksC_high h k hk
structure Own8 (ps : List PRow) : Prop where
  ne : ps.Pairwise fun x y => ∀ k, blksP x k → ¬ blksP y k
  full : ∀ x ∈ ps, ∃ M, x.a = some ⟨M, 0, none⟩
theorem Own8.nil : Own8 [] := ⟨List.Pairwise.nil, fun x hx => by simp at hx⟩
theorem Own8.app {ps : List PRow} {x : PRow} (h : Own8 ps) (hx : ∃ M, x.a = some ⟨M, 0, none⟩) (hne : ∀ y ∈ ps, ∀ k, blksP y k → ¬ blksP x k) : Own8 (ps ++ [x]) := by
  refine ⟨?_, fun y hy => ?_⟩
  · rw [List.pairwise_append]
    exact ⟨h.ne, List.pairwise_singleton _ _, fun a ha b hb => by rw [List.mem_singleton.1 hb]; exact hne a ha⟩
  · rcases List.mem_append.1 hy with hy | hy
    · exact h.full y hy
    · rw [List.mem_singleton.1 hy]; exact hx
theorem fresh8 {lo B : Nat} {w w' : World} {ps : List PRow} {x : PRow} (h : ∀ y ∈ ps, PO lo w y.a y.c y.cs) (hx : PO B w' x.a x.c x.cs) (hB : w.heap.size ≤ B) : ∀ y ∈ ps, ∀ k, blksP y k → ¬ blksP x k := fun y hy k h1 h2 => by
  have := blksP_high (h y hy) k h1
  have := blksP_low hx k h2
  omega

structure FillP (lo : Nat) (w : World) (M : Nat) (S : List PPt) (k : Nat) (cur : Array Value) (ps : List PRow) : Prop where
  blk : Blk w M cur 28
  size : cur.size = S.length * 3
  len : ps.length = k
  pt : pts ps = S.take k
  cell : ∀ i, i < k → Cel3 (fun j => cur[j]?) i (nthQ ps i)
  rows : ∀ x ∈ ps, PO lo w x.a x.c x.cs
  own : Own8 ps
theorem FillP.grow {lo : Nat} {w w' : World} {M : Nat} {S : List PPt} {k : Nat} {cur : Array Value} {ps : List PRow} (h : FillP lo w M S k cur ps) (hb : Below w.heap.size w w') : FillP lo w' M S k cur ps :=
  ⟨h.blk.grow hb, h.size, h.len, h.pt, h.cell, fun x hx => (h.rows x hx).grow hb, h.own⟩
theorem FillP.next {lo : Nat} {w : World} {M : Nat} {S : List PPt} {k : Nat} {cur : Array Value} {ps : List PRow} {x : PRow} (h : FillP lo w M S k cur ps) (hk : k < S.length) (hx : PO lo w x.a x.c x.cs) (hp : x.pt = nthT S k) (hf : ∃ M, x.a = some ⟨M, 0, none⟩) (hne : ∀ y ∈ ps, ∀ k, blksP y k → ¬ blksP x k) :
    FillP lo (put3W w M k x) M S (k + 1) (put3C cur k x) (ps ++ [x]) := by
  have hl := h.len
  have hs := h.size
  have hmv := put3W_moved (k := k) (x := x) h.blk
  refine ⟨put3W_blk h.blk, by rw [put3_size]; exact hs, by simp [hl], by rw [pts_app, h.pt, takeT_up hk, hp], fun i hi => ?_, fun y hy => ?_, h.own.app hf hne⟩
  · by_cases e : i < k
    · rw [nthQ_app_lt (by omega)]
      exact (h.cell i e).congr fun j h0 h1 => put3_ne (by omega)
    · have : i = ps.length := by omega
      subst this
      rw [nthQ_app_eq, hl]
      exact put3_at (by omega)
  · rcases List.mem_append.1 hy with hy | hy
    · exact (h.rows y hy).moved hmv
    · rw [List.mem_singleton.1 hy]; exact hx.moved hmv
theorem FillP.pb {lo : Nat} {w : World} {M : Nat} {S : List PPt} {cur : Array Value} {ps : List PRow} (h : FillP lo w M S S.length cur ps) (hlo : lo ≤ M) (hl : S.length ≤ 1048576) : PB lo w M S.length ps ∧ pts ps = S ∧ Own8 ps :=
  ⟨⟨hlo, ⟨by rw [h.len]; exact Nat.le_refl _, by unfold maxLen; omega⟩, ⟨cur, h.blk, h.size, fun i hi => h.cell i (by rw [← h.len]; exact hi)⟩, h.rows⟩, by rw [h.pt]; exact List.take_length, h.own⟩

theorem bel_id {w w' : World} (h : Below w.heap.size w w') : Below w.heap.size w w' := h
set_option maxHeartbeats 1600000 in
theorem toPS_any (a : Option Addr) (cap : Nat) (S : List PPt) (w : World) (hr : RdS RdA w a S) (hl : S.length ≤ 1048576) (hs : sumT S ≤ 1048576) :
    Calls Try.prog 26 #[.slice a S.length cap] w fun e w' => e = .returned (.slice (some ⟨w.heap.size, 0, none⟩) S.length S.length) ∧ (∃ ps, PB w.heap.size w' w.heap.size S.length ps ∧ pts ps = S ∧ Own8 ps) ∧ Below w.heap.size w w' := by
  have HR : Hid (RdS RdA w a S) := hr
  have HS : Hid (sumT S ≤ 1048576) := hs
  clear hr hs
  have hmk := make_k (P := Try.prog) 40 28 (.agg #[.int .i64 0, .int .i64 0, .slice none 0 0]) 3 40 Try.underlying40 infoP .i64 .i64 S.length (by omega) (by omega)
  go_enter Try.func26, Try.ntmps26
  go_wp2
  go_loopw [4] (fun i w' => ∃ (k : Nat) (cur : Array Value) (ps : List PRow), k ≤ S.length ∧ i = .int .i64 k ∧ FillP w.heap.size w' w.heap.size S k cur ps ∧ Below w.heap.size w w') (fun i _ => S.length - (intOf i).toNat)
  case atStart => exact ⟨0, _, [], Nat.zero_le _, rfl, ⟨Blk.new _ _ _, by simp [size_madeCells], rfl, rfl, fun i h => by omega, fun x hx => by simp at hx, Own8.nil⟩, (Below.refl _ _).alloc (Nat.le_refl _) _⟩
  case round =>
    clear hmk
    obtain ⟨k, cur, ps, hk, rfl, hC, hw0⟩ := hrel
    have HB : Hid (Below w.heap.size w wr) := hw0
    have HC : Hid (FillP w.heap.size wr w.heap.size S k cur ps) := hC
    clear hC hw0
    by_cases hlt : k < S.length
    · have hlt' : (k : Int) < (S.length : Int) := by omega
      obtain ⟨b, off, rfl, hb, ad, cp, hat⟩ := (HR.out.below stays_rd HB.out).get hlt
      have h2 := hat.c0
      have h3 := hat.c1
      have h4 := hat.c2
      have HA : Hid (RdG RdA wr ad (nthT S k).C) := hat.reads
      have HS1 : Hid ((nthT S k).C.length ≤ 1048576 ∧ sumC (nthT S k).C ≤ 1048576) := by have := sumT_nth hlt; have := HS.out; constructor <;> omega
      clear hat
      go_wp2_with fail
      refine (toPart_any _ _ ad cp _ _ HA.out HS1.out.1 HS1.out.2).mono ?_
      rintro e w1 ⟨⟨M1, cs, rfl, hab, hp⟩, hb1⟩
      replace hb1 : Below wr.heap.size wr w1 := bel_id hb1
      replace hab : CB wr.heap.size w1 M1 (nthT S k).C.length cs := hab.down (by first | exact Nat.le_refl _ | simp)
      have HB1 : Hid (Below w.heap.size w w1) := grow_on HB.out hb1
      have hC1 : FillP w.heap.size w1 w.heap.size S k cur ps := HC.out.grow hb1
      have hrl : cs.length = (nthT S k).C.length := by rw [← chs_len, hp]
      have HN := hC1.next (x := ⟨(nthT S k).hd, (nthT S k).vr, some ⟨M1, 0, none⟩, (nthT S k).C.length, cs⟩) hlt (PO.of (hab.down HB.out.size)) (by unfold PRow.pt; rw [hp]) ⟨M1, rfl⟩ (fresh8 (x := ⟨(nthT S k).hd, (nthT S k).vr, some ⟨M1, 0, none⟩, (nthT S k).C.length, cs⟩) HC.out.rows (PO.of hab) (Nat.le_refl _))
      unfold put3W put3C at HN
      rw [hrl] at HN
      have HC2 : Hid _ := HN
      have hsz := hC1.size
      obtain ⟨v0, c0⟩ : ∃ v, w1.cell? ⟨w.heap.size, k * 3, none⟩ = some v := ⟨cur[k * 3]'(by omega), by rw [hC1.blk.cell]; simp⟩
      obtain ⟨v1, c1⟩ : ∃ v, w1.cell? ⟨w.heap.size, k * 3 + 1, none⟩ = some v := ⟨cur[k * 3 + 1]'(by omega), by rw [hC1.blk.cell]; simp⟩
      obtain ⟨v2, c2⟩ : ∃ v, w1.cell? ⟨w.heap.size, k * 3 + 2, none⟩ = some v := ⟨cur[k * 3 + 2]'(by omega), by rw [hC1.blk.cell]; simp⟩
      have f0 := hC1.blk.frozen (k * 3)
      have f1 := hC1.blk.frozen (k * 3 + 1)
      have f2 := hC1.blk.frozen (k * 3 + 2)
      clear hb1 h2 h3 h4 hC1 hsz HN hab hp hrl
      go_wp2
      go_roundw
      case rel => exact ⟨k + 1, _, _, by omega, by go_num, HC2.out, ((HB1.out.setCell (Nat.le_refl _) _).setCell (Nat.le_refl _) _).setCell (Nat.le_refl _) _⟩
      case measure => simp [intOf]; omega
    · have hge : ¬ (k : Int) < (S.length : Int) := by omega
      have HE : Hid (k = S.length) := by show k = S.length; omega
      go_wp2
      go_ret
      have hF := HC.out
      rw [HE.out] at hF
      exact ⟨rfl, ⟨ps, hF.pb (Nat.le_refl _) hl⟩, HB.out⟩

set_option maxHeartbeats 800000 in
theorem eqPS_any (a a' : Option Addr) (cap cap' : Nat) (S : List PPt) (w : World) (hr : RdS RdA w a S) (hr' : RdS RdA w a' S) (hl : S.length ≤ maxLen) (hz : FitsT S) :
    Calls Try.prog 21 #[.slice a S.length cap, .slice a' S.length cap'] w fun e w' => e = .returned (.bool true) ∧ Below w.heap.size w w' := by
  unfold maxLen at hl
  have HR : Hid (RdS RdA w a S) := hr
  have HR' : Hid (RdS RdA w a' S) := hr'
  have HZ : Hid (FitsT S) := hz
  clear hr hr' hz
  go_enter Try.func21, Try.ntmps21
  go_wp2
  go_loopw [5] (fun i w' => ∃ k : Nat, i = .int .i64 k ∧ k ≤ S.length ∧ Below w.heap.size w w') (fun i _ => S.length - (intOf i).toNat)
  case atStart => exact ⟨0, rfl, Nat.zero_le _, Below.refl _ _⟩
  case round =>
    obtain ⟨k, rfl, hk, hw0⟩ := hrel
    have HB : Hid (Below w.heap.size w wr) := hw0
    clear hw0
    by_cases hlt : k < S.length
    · have hlt' : (k : Int) < (S.length : Int) := by omega
      obtain ⟨b, off, rfl, hb, ad, cp, hat⟩ := (HR.out.below stays_rd HB.out).get hlt
      obtain ⟨b', off', rfl, hb', ad', cp', hat'⟩ := (HR'.out.below stays_rd HB.out).get hlt
      have hne := Grown.some wr
      have x0 := fun x : Grown wr => x.cell hb hat.c0
      have x1 := fun x : Grown wr => x.cell hb hat.c1
      have x2 := fun x : Grown wr => x.cell hb hat.c2
      have y0 := fun x : Grown wr => x.cell hb' hat'.c0
      have y1 := fun x : Grown wr => x.cell hb' hat'.c1
      have y2 := fun x : Grown wr => x.cell hb' hat'.c2
      have HC : ∀ x : Grown wr, Hid (Calls Try.prog 11 #[.agg #[.int .i64 (nthT S k).hd, .int .i64 (nthT S k).vr, .slice ad (nthT S k).C.length cp], .agg #[.int .i64 (nthT S k).hd, .int .i64 (nthT S k).vr, .slice ad' (nthT S k).C.length cp']] x.out fun e w' => e = .returned (.bool true) ∧ Below x.out.heap.size x.out w') := fun x => eqPart_any _ _ ad ad' cp cp' _ x.out (hat.reads.below stays_rd x.bel) (hat'.reads.below stays_rd x.bel) (HZ.out _ (nthT_mem hlt)).len (HZ.out _ (nthT_mem hlt)).fits
      clear hat hat'
      go_wp2
      refine wp_over (z := wr) (by kernel_rfl) (by kernel_rfl) (Below.refl _ _) ?_
      repeat (go_big_quiet_step (first | (go_at_call 11; exact call_over (HC _).out)))
      refine wpQuiet_nil ?_
      intro w2 hw2
      have HB2 : Hid (Below w.heap.size w w2) := grow_on HB.out (over_bel hw2)
      clear hw2 hne x0 x1 x2 y0 y1 y2 HC
      go_wp2
      go_roundw
      case rel => exact ⟨k + 1, by go_num, by omega, HB2.out⟩
      case measure => simp [intOf]; omega
    · have hge : ¬ (k : Int) < (S.length : Int) := by omega
      go_wp2
      go_ret
      exact ⟨rfl, HB.out⟩

set_option maxRecDepth 100000 in
theorem open_parts {H : Type} {enc : TypeId × Value → H} {W : World} {base : Nat} {spare : Nat → Bool} {held : Bool} {a : Option Addr} {len cap : Nat} {d : DataW H} {p : List MemPlace}
    (h : DataW.Trod enc Try.prog W base spare held 45 (.slice a len cap) d p) : ∃ S : List PPt, len = S.length ∧ RdS RdA W a S ∧ S.length ≤ maxLen ∧ FitsT S := by
  obtain ⟨fuel, hf⟩ := h
  rcases Go.Deep.open_slice Try.underlying45 (by simpa [Value.cells] using hf) with ⟨hcs, _⟩ | ⟨x, l, c, m, n, D, Pl, hcs, _, hl, hm, hmm, _, hx⟩
  · simp at hcs
    obtain ⟨rfl, rfl, rfl⟩ := hcs
    exact ⟨[], rfl, .inl rfl, by simp, fun i hi => by simp at hi⟩
  · simp at hcs
    obtain ⟨rfl, rfl, rfl⟩ := hcs
    have hlm : len ≤ m := by rw [hmm]; split <;> omega
    have each : ∀ i, i < len → ∃ z : PPt, FitT z ∧ ∃ (ad : Option Addr) (cp : Nat), W.cell? (x.add (i * 3)) = some (.int .i64 z.hd) ∧ W.cell? (x.add (i * 3 + 1)) = some (.int .i64 z.vr) ∧ W.cell? (x.add (i * 3 + 2)) = some (.slice ad z.C.length cp) ∧ RdG RdA W ad z.C := by
      intro i hi
      obtain ⟨cs', h1, h2⟩ := hx i (by omega)
      rw [cellsP] at h1
      obtain ⟨_, hlen, hcell⟩ := World.cells?_some h1
      obtain ⟨xs, k, hk, hxy, _, hxl, hf⟩ := DataW.trod_struct Try.underlying24 h2
      match xs, hxl, cs', hlen with
      | [y0, y1, y2], _, [v0, v1, v2], _ =>
        have k0 : Try.prog.cellsOf 22 = 1 := by kernel_rfl
        have k1 : Try.prog.cellsOf 3 = 1 := by kernel_rfl
        have g0 : DataW.trod enc Try.prog W base spare held k 3 [v0] = some y0 := by have := hf 0 _ rfl; simpa [k1] using this
        have g1 : DataW.trod enc Try.prog W base spare held k 3 [v1] = some y1 := by have := hf 1 _ rfl; simpa [k1] using this
        have g2 : DataW.trod enc Try.prog W base spare held k 22 [v2] = some y2 := by have := hf 2 _ rfl; simpa [k0, k1] using this
        obtain ⟨s, e0, _, z0⟩ := DataW.trod_int Try.underlying3 g0
        obtain ⟨t, e1, _, z1⟩ := DataW.trod_int Try.underlying3 g1
        obtain ⟨ad, ln, cp, e2⟩ := Go.Joins.slice_form Try.underlying22 g2
        simp at e0 e1 e2
        subst e0 e1 e2
        obtain ⟨C, rfl, hr, hll, hff⟩ := open_chains (enc := enc) (W := W) (d := y2.1) (p := y2.2) ⟨k, by simpa [Value.cells] using g2⟩
        have c0 := hcell 0 (by omega)
        have c1 := hcell 1 (by omega)
        have c2 := hcell 2 (by omega)
        rw [Go.Deep.add_add] at c0 c1 c2
        exact ⟨⟨s, t, C⟩, ⟨Go.bounds_i64 z0, Go.bounds_i64 z1, hll, hff⟩, ad, cp, by simpa using c0, by simpa using c1, by simpa using c2, hr⟩
    have hin : Inhabited PPt := ⟨⟨0, 0, []⟩⟩
    obtain ⟨f, hfz⟩ := Go.Deep.choose_lt each
    have hlen : ((List.range len).map f).length = len := by simp
    have hn : ∀ i, i < len → nthT ((List.range len).map f) i = f i := fun i hi => by rw [nthT_eq (by simpa using hi)]; simp
    refine ⟨(List.range len).map f, hlen.symm, ?_, by omega, fun y hy => ?_⟩
    · by_cases h0 : len = 0
      · left; subst h0; rfl
      · right
        obtain ⟨b, off, spot⟩ := x
        obtain ⟨_, ad, cp, c0, _⟩ := hfz 0 (by omega)
        have hspot : spot = none := by simpa [Addr.add] using World.cell?_spot c0
        subst hspot
        have eb : b < W.heap.size := by
          by_cases hb : b < W.heap.size
          · exact hb
          · have : W.heap[b]? = none := by simp; omega
            simp [World.cell?, Addr.add, this] at c0
        have ea : ∀ i, (⟨b, off, none⟩ : Addr).add i = ⟨b, off + i, none⟩ := fun i => by by_cases h : i = 0 <;> simp [Addr.add, h]
        refine ⟨b, off, rfl, eb, fun i hi => ?_⟩
        rw [hlen] at hi
        obtain ⟨_, ad, cp, c0, c1, c2, hr⟩ := hfz i hi
        rw [ea] at c0 c1 c2
        rw [hn i hi]
        exact ⟨ad, cp, c0, c1, c2, hr⟩
    · obtain ⟨i, hi, rfl⟩ := List.mem_map.1 hy
      exact (hfz i (by simpa using hi)).1
end Go.Proofs.Ytcopckbpflmmeab.Sts
