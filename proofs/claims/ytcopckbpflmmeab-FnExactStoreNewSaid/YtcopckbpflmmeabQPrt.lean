/-
  PROVED: over any string spec.Sum and impl.Sum answer alike, as a plain function on its bytes says, between nought and 2 to the 32; spec.PartOf and impl.PartOf answer the remainder, nought at wrong input; nothing is changed.
  PROVED: over a slice of labels in memory spec.Finger and impl.Finger answer alike, between nought and 31, as a plain function says; so do spec.Alike and impl.Alike over two; nothing that was there is changed.
  PROVED: over a chain in memory impl.ChainOk answers as a plain function on lists says; nothing that was there is changed.
  PROVED: over chains in memory spec.InChain, spec.ChainOk, spec.SameChain and impl.SameChain answer as plain functions on lists say; nothing that was there is changed.
  PROVED: over two chains in memory spec.SameChain and impl.SameChain answer alike, as a plain function on lists says; spec.l4All and spec.l6Copy give the same alarms in memory of their own; nothing that was there is changed.
  PROVED: over chains in memory spec.l6Copy, spec.PutChain and spec.DropOver answer as plain functions on lists say, in memory of their own; nothing that was there is changed.
  PROVED: over a chain in memory spec.DropOver answers as two plain functions on lists say, in memory of its own; nothing that was there is changed.
  PROVED: the contracts of what the exact laws call over chains: the size that szChain counts, the copy that toChain makes, that eqChain finds two of the same alike, the marks that markAlarmS writes and heldAlarmS finds; what a chain that came in is.
  PROVED: slices of chains: what one that came in is; the size that szChainS and szPart count, the copy that toChainS and toPart make, that eqChainS and eqPart find two of the same alike; rows of chains in memory of a call's own, read, grown by an append, written at a place.
  PROVED: parts: what one that came in is; the copy that toPart makes, that eqChainS and eqPart find two of the same alike.
-/
import Derived.Test.YtcopckbpflmmeabQTextS
import Derived.Laws.BitsAllLaws
import Derived.Test.YtcopckbpflmmeabQTextI
import Derived.Test.YtcopckbpflmmeabQChnI
import Derived.Test.YtcopckbpflmmeabQLsS
import Derived.Test.YtcopckbpflmmeabQLsA
import Derived.Test.YtcopckbpflmmeabQChnD
import Derived.Test.YtcopckbpflmmeabQLsK
set_option linter.unusedVariables false
namespace Go.Proofs.Ytcopckbpflmmeab.Sums
open Go.RowKit
open SetP (bs)

def stepU (h : Nat) (c : UInt8) : Nat := ((h ^^^ c.toNat) * 16777619) % 4294967296
def sumAt (s : ByteArray) (k : Nat) : Nat := ((bs s).take k).foldl stepU 2166136261
def sumB (s : ByteArray) : Nat := (bs s).foldl stepU 2166136261
theorem sum_all (s : ByteArray) : sumAt s s.size = sumB s := by
  unfold sumAt sumB
  rw [List.take_of_length_le]
  show s.data.toList.length ≤ s.data.size
  simp
theorem fold_up {f : Nat → UInt8 → Nat} {z : Nat} {s : ByteArray} {k : Nat} (h : k < s.size) : ((bs s).take (k + 1)).foldl f z = f (((bs s).take k).foldl f z) s[k] := by
  have hk : k < (bs s).length := by show k < s.data.toList.length; simpa using h
  rw [← List.take_append_getElem hk, List.foldl_append]
  rfl
theorem sum_up {s : ByteArray} {k : Nat} (h : k < s.size) : sumAt s (k + 1) = stepU (sumAt s k) s[k] := fold_up h
theorem retI {a b : Int} (h : a = b) : Ending.returned (.int .i64 a) = .returned (.int .i64 b) := by rw [h]
def partB (f n : Int) : Int := if n < 1 ∨ f < 0 then 0 else f % n
end Go.Proofs.Ytcopckbpflmmeab.Sums
namespace Go.Proofs.Ytcopckbpflmmeab.Fing
open Go.RowKit
open Labs LabS LabO SetP TextS TextI Sums
open Over

def foldB (x : Nat) : Nat := (x ^^^ (x / 65536)) % 32
def fingerB (l : List Lab) : Nat := foldB (sumB (setText l))
theorem retB {a b : Bool} (h : a = b) : Ending.returned (.bool a) = .returned (.bool b) := by rw [h]
end Go.Proofs.Ytcopckbpflmmeab.Fing
namespace Go.Proofs.Ytcopckbpflmmeab.ChnO
open Go.RowKit
open Labs LabS Alms AlmS Over Blk Rnd Plc Lop App Rws ChnI
open Fing (fingerB)
open StrB (retB)
attribute [local go_sem] Oper.semAt_some

end Go.Proofs.Ytcopckbpflmmeab.ChnO
namespace Go.Proofs.Ytcopckbpflmmeab.ChnS
open Go.RowKit
open Labs LabS Alms AlmS Over Blk Rws ChnI ChnO
open Fing (fingerB)
open StrB (retB)
open Alm (at_par)

end Go.Proofs.Ytcopckbpflmmeab.ChnS
namespace Go.Proofs.Ytcopckbpflmmeab.ChnT
open Go.RowKit
open Labs LabS Alms AlmS AlmM Over Blk App Rws ChnI ChnC ChnP ChnD ChnS
open StrB (retB)
open Alm (at_par)

end Go.Proofs.Ytcopckbpflmmeab.ChnT
namespace Go.Proofs.Ytcopckbpflmmeab.ChnU
open Go.RowKit
open Labs LabS Alms AlmS AlmM Over Blk App Rws ChnI ChnC ChnP ChnD ChnS ChnT

end Go.Proofs.Ytcopckbpflmmeab.ChnU
namespace Go.Proofs.Ytcopckbpflmmeab.ChnV
open Go.RowKit
open Labs LabS Alms AlmS AlmM Over Blk App Rws ChnI ChnC ChnP ChnD

structure MidS (w : World) (f : Int) (a : Option Addr) (n cap : Nat) (W : World) (M1 c1 : Nat) (rs1 : List ARow) (M2 c2 : Nat) (rs2 : List ARow) : Prop where
  two : Two w.heap.size W M1 c1 rs1 M2 c2 rs2
  low : w.heap.size + 2 ≤ M1 ∧ w.heap.size + 2 ≤ M2
  bch : Blk W w.heap.size #[.int .i64 f, .slice a n cap] 52
  bres : Blk W (w.heap.size + 1) #[.int .i64 0, .slice none 0 0] 52
  bleft : Blk W (w.heap.size + 1 + 1 + 1) #[.int .i64 f, .slice (some ⟨M1, 0, none⟩) rs1.length c1] 52
  below : Below w.heap.size w W
theorem MidS.grow {w : World} {f : Int} {a : Option Addr} {n cap : Nat} {W W' : World} {M1 c1 : Nat} {rs1 : List ARow} {M2 c2 : Nat} {rs2 : List ARow} (h : MidS w f a n cap W M1 c1 rs1 M2 c2 rs2) (hb : Below W.heap.size W W') : MidS w f a n cap W' M1 c1 rs1 M2 c2 rs2 :=
  ⟨h.two.grow hb, h.low, h.bch.grow hb, h.bres.grow hb, h.bleft.grow hb, grow_on h.below hb⟩
end Go.Proofs.Ytcopckbpflmmeab.ChnV
namespace Go.Proofs.Ytcopckbpflmmeab.ChnK
open Go.RowKit
open Go.ChangeShapes Go.WideShapes
open Labs LabS Alms AlmS AlmM Over Blk App Rws ChnC ChnP ChnD
open Go.Proofs.Ytcopckbpflmmeab.Mark (Apart Marked)
open StrB (retB)
open Alm (at_par)
open LabT (Held held_reads)

set_option maxHeartbeats 400000 in
theorem toC_any (f : Int) (a : Option Addr) (cap : Nat) (P : List PAl) (w : World) (hr : RdA w a P) (hl : P.length ≤ 1048576) (hs : sumL P ≤ 1048576) :
    Calls Try.prog 51 #[.agg #[.int .i64 f, .slice a P.length cap]] w fun r w' => (∃ M rs, r = .returned (.agg #[.int .i64 f, .slice (some ⟨M, 0, none⟩) P.length P.length]) ∧ AB w.heap.size w' M P.length rs ∧ pals rs = P) ∧ Below w.heap.size w w' := by
  have HR : Hid (RdA w a P) := hr
  have HS : Hid (sumL P ≤ 1048576) := hs
  clear hr hs
  go_enter Try.func51, Try.ntmps51
  go_wp2_with fail
  have hB3 : Below w.heap.size w (((w.alloc (.cells #[.int .i64 f, .slice a P.length cap] 82)).alloc (.cells #[.int .i64 0, .slice none 0 0] 52)).alloc (.cells #[.int .i64 f, .slice none 0 0] 52)) := Alm.below3 w _ _ _
  refine (Alms.to_any a cap P _ (HR.out.below hB3) hl HS.out).mono ?_
  rintro r w1 ⟨rfl, ⟨cs, g, hC⟩, hb⟩
  have hP : Blk w1 w.heap.size #[.int .i64 f, .slice a P.length cap] 82 := (((Blk.new _ _ _).alloc _).alloc _).grow hb
  have hR : Blk w1 (w.heap.size + 1) #[.int .i64 0, .slice none 0 0] 52 := ((Blk.new_at (by simp)).alloc _).grow hb
  have hO : Blk w1 (w.heap.size + 1 + 1) #[.int .i64 f, .slice none 0 0] 52 := (Blk.new_at (by simp)).grow hb
  have HB : Hid (Below w.heap.size w w1) := grow_on hB3 hb
  have HC : Hid (∃ rs, AB w.heap.size w1 (w.heap.size + 1 + 1 + 1) P.length rs ∧ pals rs = P) := by
    have h := copy_ab (lo := w.heap.size) hC (by simp; omega) hl (fun i hi => Nat.le_trans (sum_nth hi) HS.out)
    have e : (((w.alloc (.cells #[.int .i64 f, .slice a P.length cap] 82)).alloc (.cells #[.int .i64 0, .slice none 0 0] 52)).alloc (.cells #[.int .i64 f, .slice none 0 0] 52)).heap.size = w.heap.size + 1 + 1 + 1 := by simp
    rw [e] at h
    exact h
  have HRR : Hid (Blk w1 (w.heap.size + 1) #[.int .i64 0, .slice none 0 0] 52) := hR
  have HO : Hid (Blk w1 (w.heap.size + 1 + 1) #[.int .i64 f, .slice none 0 0] 52) := hO
  have o0 : w1.cell? ⟨w.heap.size + 1 + 1, 0, none⟩ = some (.int .i64 f) := hO.cell 0
  have o1 : w1.cell? ⟨w.heap.size + 1 + 1, 1, none⟩ = some (.slice none 0 0) := hO.cell 1
  have fo := hO.frozen 1
  have r0 : w1.cell? ⟨w.heap.size + 1, 0, none⟩ = some (.int .i64 0) := hR.cell 0
  have r1 : w1.cell? ⟨w.heap.size + 1, 1, none⟩ = some (.slice none 0 0) := hR.cell 1
  have f0 := hR.frozen 0
  have f1 := hR.frozen 1
  clear hb hC hP hR hO hB3
  go_wp2
  have hs : Blk (((w1.setCell ⟨w.heap.size + 1 + 1, 1, none⟩ (.slice (some ⟨w.heap.size + 1 + 1 + 1, 0, none⟩) P.length P.length)).setCell ⟨w.heap.size + 1, 0, none⟩ (.int .i64 f)).setCell ⟨w.heap.size + 1, 1, none⟩ (.slice (some ⟨w.heap.size + 1 + 1 + 1, 0, none⟩) P.length P.length)) (w.heap.size + 1) #[.int .i64 f, .slice (some ⟨w.heap.size + 1 + 1 + 1, 0, none⟩) P.length P.length] 52 := ((HRR.out.set_other (by show w.heap.size + 1 + 1 ≠ w.heap.size + 1; omega) _).set 0 _).set 1 _
  have s0 := hs.cell 0
  have s1 := hs.cell 1
  refine bodyPost_ret (v := .agg #[.int .i64 f, .slice (some ⟨w.heap.size + 1 + 1 + 1, 0, none⟩) P.length P.length]) (by simp [results, Try.results51, go_sem, s0, s1]) rfl ?_
  obtain ⟨rs, hab, hp⟩ := HC.out
  exact ⟨⟨w.heap.size + 1 + 1 + 1, rs, rfl, ab_set2 (ab_set1 hab HO.out _ _) (HRR.out.set_other (by show w.heap.size + 1 + 1 ≠ w.heap.size + 1; omega) _) _ _, hp⟩, ChnP.set2 (ChnI.set_low HB.out (by omega) _ _) (by omega) _ _⟩

theorem eqC_any (f : Int) (a a' : Option Addr) (cap cap' : Nat) (P : List PAl) (w : World) (hr : RdA w a P) (hr' : RdA w a' P) (hl : P.length ≤ maxLen) (hz : FitsP P) :
    Calls Try.prog 55 #[.agg #[.int .i64 f, .slice a P.length cap], .agg #[.int .i64 f, .slice a' P.length cap']] w fun e w' => e = .returned (.bool true) ∧ Below w.heap.size w w' := by
  have HR : Hid (RdA w a P ∧ RdA w a' P ∧ P.length ≤ maxLen ∧ FitsP P) := ⟨hr, hr', hl, hz⟩
  clear hr hr' hl hz
  go_enter Try.func55, Try.ntmps55
  go_wp2_with fail
  refine (Alms.eq_any a a' cap cap' P _ (HR.out.1.below (Go.Joins.below_alloc2 w _ _)) (HR.out.2.1.below (Go.Joins.below_alloc2 w _ _)) HR.out.2.2.1 HR.out.2.2.2).mono ?_
  rintro r w1 ⟨rfl, hb⟩
  have HB : Hid (Below w.heap.size w w1) := grow_on (Go.Joins.below_alloc2 w _ _) hb
  clear hb
  go_wp2
  go_ret
  exact ⟨rfl, HB.out⟩

end Go.Proofs.Ytcopckbpflmmeab.ChnK
namespace Go.Proofs.Ytcopckbpflmmeab.Chs
open Go.RowKit
open Go.ChangeShapes Go.WideShapes
open Labs LabS Alms AlmS AlmM Over Blk App Rws ChnI ChnC ChnP ChnK
open StrB (retB)

structure PCh where
  f : Int
  P : List PAl
def nthC (C : List PCh) (i : Nat) : PCh := C.getD i ⟨0, []⟩
theorem nthC_eq {C : List PCh} {i : Nat} (h : i < C.length) : nthC C i = C[i] := by unfold nthC; simp [h]
theorem nthC_mem {C : List PCh} {i : Nat} (h : i < C.length) : nthC C i ∈ C := by rw [nthC_eq h]; exact List.getElem_mem _
theorem takeC_up {C : List PCh} {k : Nat} (h : k < C.length) : C.take (k + 1) = C.take k ++ [nthC C k] := by
  rw [nthC_eq h, List.take_succ_eq_append_getElem h]
structure AtC (R : World → Option Addr → List PAl → Prop) (w : World) (b off i : Nat) (x : PCh) (ad : Option Addr) (cap : Nat) : Prop where
  c0 : w.cell? ⟨b, off + i * 2, none⟩ = some (.int .i64 x.f)
  c1 : w.cell? ⟨b, off + i * 2 + 1, none⟩ = some (.slice ad x.P.length cap)
  reads : R w ad x.P
theorem AtC.below {R : World → Option Addr → List PAl → Prop} (hR : Stays R) {w w' : World} {b off i : Nat} {x : PCh} {ad : Option Addr} {cap : Nat} (h : AtC R w b off i x ad cap) (hb : Below w.heap.size w w') (hlt : b < w.heap.size) : AtC R w' b off i x ad cap :=
  ⟨(hb.cell (p := ⟨b, off + i * 2, none⟩) hlt).trans h.c0, (hb.cell (p := ⟨b, off + i * 2 + 1, none⟩) hlt).trans h.c1, hR _ _ _ _ h.reads hb⟩
def RdG (R : World → Option Addr → List PAl → Prop) (w : World) (a : Option Addr) (C : List PCh) : Prop :=
  C = [] ∨ ∃ b off, a = some ⟨b, off, none⟩ ∧ b < w.heap.size ∧ ∀ i, i < C.length → ∃ ad cap, AtC R w b off i (nthC C i) ad cap
theorem RdG.below {R : World → Option Addr → List PAl → Prop} (hR : Stays R) {w w' : World} {a : Option Addr} {C : List PCh} (h : RdG R w a C) (hb : Below w.heap.size w w') : RdG R w' a C := by
  rcases h with h | ⟨b, off, rfl, hlt, hc⟩
  · exact .inl h
  · exact .inr ⟨b, off, rfl, Nat.lt_of_lt_of_le hlt hb.size, fun i hi => by
      obtain ⟨ad, cap, h⟩ := hc i hi
      exact ⟨ad, cap, h.below hR hb hlt⟩⟩
theorem RdG.get {R : World → Option Addr → List PAl → Prop} {w : World} {a : Option Addr} {C : List PCh} (h : RdG R w a C) {i : Nat} (hi : i < C.length) :
    ∃ b off, a = some ⟨b, off, none⟩ ∧ b < w.heap.size ∧ ∃ ad cap, AtC R w b off i (nthC C i) ad cap := by
  rcases h with h | ⟨b, off, e, hb, h⟩
  · rw [h] at hi; simp at hi
  · exact ⟨b, off, e, hb, h i hi⟩
theorem RdG.imp {R R' : World → Option Addr → List PAl → Prop} {w : World} {a : Option Addr} {C : List PCh} (h : RdG R w a C) (hi : ∀ a P, R w a P → R' w a P) : RdG R' w a C := by
  rcases h with h | ⟨b, off, e, hb, h⟩
  · exact .inl h
  · exact .inr ⟨b, off, e, hb, fun i hi' => by obtain ⟨ad, cap, h⟩ := h i hi'; exact ⟨ad, cap, h.c0, h.c1, hi _ _ h.reads⟩⟩
theorem RdG.rd {w : World} {a : Option Addr} {C : List PCh} (h : RdG RdN w a C) : RdG RdA w a C := h.imp fun _ _ h => h.rd
structure FitC (x : PCh) : Prop where
  fb : -9223372036854775808 ≤ x.f ∧ x.f ≤ 9223372036854775807
  len : x.P.length ≤ maxLen
  fits : FitsP x.P
def FitsC (C : List PCh) : Prop := ∀ x ∈ C, FitC x
def sumC : List PCh → Nat
  | [] => 0
  | x :: C => x.P.length + sumL x.P + sumC C
theorem sumC_mem {C : List PCh} {x : PCh} (h : x ∈ C) : x.P.length + sumL x.P ≤ sumC C := by
  induction C with
  | nil => simp at h
  | cons y C ih =>
    rw [sumC]
    rcases List.mem_cons.1 h with rfl | h
    · omega
    · have := ih h; omega
theorem sumC_nth {C : List PCh} {k : Nat} (h : k < C.length) : (nthC C k).P.length + sumL (nthC C k).P ≤ sumC C := sumC_mem (nthC_mem h)

theorem infoC : (Try.prog.info? 52).map (fun i => (i.zero, i.size, i.bytes)) = some (some (.agg #[.int .i64 0, .slice none 0 0]), 2, 32) := by kernel_rfl

structure CRow where
  f : Int
  M : Nat
  c : Nat
  rs : List ARow
def CRow.ch (x : CRow) : PCh := ⟨x.f, pals x.rs⟩
def chs (cs : List CRow) : List PCh := cs.map CRow.ch
def nthR (cs : List CRow) (i : Nat) : CRow := cs.getD i ⟨0, 0, 0, []⟩
theorem nthR_eq {cs : List CRow} {i : Nat} (h : i < cs.length) : nthR cs i = cs[i] := by unfold nthR; simp [h]
theorem nthR_mem {cs : List CRow} {i : Nat} (h : i < cs.length) : nthR cs i ∈ cs := by rw [nthR_eq h]; exact List.getElem_mem _
theorem chs_len (cs : List CRow) : (chs cs).length = cs.length := by simp [chs]
theorem chs_nth {cs : List CRow} {i : Nat} (h : i < cs.length) : nthC (chs cs) i = (nthR cs i).ch := by
  rw [nthC_eq (by rw [chs_len]; exact h), nthR_eq h]
  simp [chs]
theorem chs_app (cs : List CRow) (x : CRow) : chs (cs ++ [x]) = chs cs ++ [x.ch] := by simp [chs]
theorem nthR_app_lt {cs : List CRow} {x : CRow} {i : Nat} (h : i < cs.length) : nthR (cs ++ [x]) i = nthR cs i := by
  rw [nthR_eq (by simp; omega), nthR_eq h, List.getElem_append_left h]
theorem nthR_app_eq (cs : List CRow) (x : CRow) : nthR (cs ++ [x]) cs.length = x := by
  rw [nthR_eq (by simp)]; simp
def Cel (f : Nat → Option Value) (i : Nat) (x : CRow) : Prop := f (i * 2) = some (.int .i64 x.f) ∧ f (i * 2 + 1) = some (.slice (some ⟨x.M, 0, none⟩) x.rs.length x.c)
theorem Cel.congr {f g : Nat → Option Value} {i : Nat} {x : CRow} (h : Cel f i x) (e : ∀ k, i * 2 ≤ k → k < i * 2 + 2 → g k = f k) : Cel g i x :=
  ⟨by rw [e _ (by omega) (by omega)]; exact h.1, by rw [e _ (by omega) (by omega)]; exact h.2⟩
def rowC (x : CRow) : List Value := [.int .i64 x.f, .slice (some ⟨x.M, 0, none⟩) x.rs.length x.c]
structure RowsC (lo : Nat) (w : World) (cs : List CRow) : Prop where
  rows : ∀ x ∈ cs, AB lo w x.M x.c x.rs
  ne : cs.Pairwise fun x y => ∀ k, blks x.M x.rs k → ¬ blks y.M y.rs k
theorem RowsC.nil (lo : Nat) (w : World) : RowsC lo w [] := ⟨fun x hx => by simp at hx, List.Pairwise.nil⟩
theorem RowsC.moved {lo : Nat} {w w' : World} {cs : List CRow} (h : RowsC lo w cs) (hm : Moved w w') : RowsC lo w' cs := ⟨fun x hx => ab_moved (h.rows x hx) hm, h.ne⟩
theorem RowsC.grow {lo : Nat} {w w' : World} {cs : List CRow} (h : RowsC lo w cs) (hb : Below w.heap.size w w') : RowsC lo w' cs := h.moved (Moved.of hb)
theorem RowsC.down {lo lo' : Nat} {w : World} {cs : List CRow} (h : RowsC lo w cs) (hl : lo' ≤ lo) : RowsC lo' w cs := ⟨fun x hx => (h.rows x hx).down hl, h.ne⟩
theorem RowsC.app {lo : Nat} {w : World} {cs : List CRow} {x : CRow} (h : RowsC lo w cs) (hx : AB lo w x.M x.c x.rs) (hne : ∀ y ∈ cs, ∀ k, blks y.M y.rs k → ¬ blks x.M x.rs k) : RowsC lo w (cs ++ [x]) := by
  refine ⟨fun y hy => ?_, ?_⟩
  · rcases List.mem_append.1 hy with hy | hy
    · exact h.rows y hy
    · rw [List.mem_singleton.1 hy]; exact hx
  · rw [List.pairwise_append]
    exact ⟨h.ne, List.pairwise_singleton _ _, fun a ha b hb => by rw [List.mem_singleton.1 hb]; exact hne a ha⟩
theorem RowsC.fresh {lo B : Nat} {w w' : World} {cs : List CRow} {x : CRow} (h : RowsC lo w cs) (hx : AB B w' x.M x.c x.rs) (hB : w.heap.size ≤ B) : ∀ y ∈ cs, ∀ k, blks y.M y.rs k → ¬ blks x.M x.rs k := fun y hy k h1 h2 => by
  have := blks_high (h.rows y hy) k h1
  have := blks_low hx k h2
  omega
structure CB (lo : Nat) (w : World) (M c : Nat) (cs : List CRow) : Prop where
  at' : lo ≤ M
  cap : cs.length ≤ c ∧ c ≤ maxLen
  outer : ∃ cur : Array Value, Blk w M cur 52 ∧ cur.size = c * 2 ∧ ∀ i, i < cs.length → Cel (fun k => cur[k]?) i (nthR cs i)
  rows : RowsC lo w cs
theorem CB.grow {lo : Nat} {w w' : World} {M c : Nat} {cs : List CRow} (h : CB lo w M c cs) (hb : Below w.heap.size w w') : CB lo w' M c cs := by
  obtain ⟨cur, h1, h2⟩ := h.outer
  exact ⟨h.at', h.cap, ⟨cur, h1.grow hb, h2⟩, h.rows.grow hb⟩
theorem CB.down {lo lo' : Nat} {w : World} {M c : Nat} {cs : List CRow} (h : CB lo w M c cs) (hl : lo' ≤ lo) : CB lo' w M c cs := ⟨Nat.le_trans hl h.at', h.cap, h.outer, h.rows.down hl⟩
theorem CB.lt {lo : Nat} {w : World} {M c : Nat} {cs : List CRow} (h : CB lo w M c cs) : M < w.heap.size := by
  obtain ⟨cur, h1, _⟩ := h.outer
  exact h1.lt
theorem CB.nil {lo : Nat} {w : World} {M : Nat} (h : Blk w M #[] 52) (hl : lo ≤ M) : CB lo w M 0 [] :=
  ⟨hl, ⟨Nat.le_refl _, by simp [maxLen]⟩, ⟨#[], h, rfl, fun i hi => by simp at hi⟩, RowsC.nil _ _⟩
theorem CB.rn {lo : Nat} {w : World} {M c : Nat} {cs : List CRow} (h : CB lo w M c cs) : RdG RdN w (some ⟨M, 0, none⟩) (chs cs) := by
  obtain ⟨cur, h1, h2, h3⟩ := h.outer
  refine .inr ⟨M, 0, rfl, h1.lt, fun i hi => ?_⟩
  rw [chs_len] at hi
  obtain ⟨c0, c1⟩ := h3 i hi
  refine ⟨some ⟨(nthR cs i).M, 0, none⟩, (nthR cs i).c, ?_⟩
  rw [chs_nth hi]
  exact ⟨by rw [h1.cell, Nat.zero_add]; exact c0, by rw [h1.cell, Nat.zero_add, CRow.ch, pals_len]; exact c1, (h.rows.rows _ (nthR_mem hi)).rd⟩
theorem CB.rd {lo : Nat} {w : World} {M c : Nat} {cs : List CRow} (h : CB lo w M c cs) : RdG RdA w (some ⟨M, 0, none⟩) (chs cs) := h.rn.rd
theorem CB.set {lo : Nat} {w : World} {M c N : Nat} {cs : List CRow} {ds : Array Value} {T : TypeId} (h : CB lo w M c cs) (hN : Blk w N ds T) (hA : T ≠ 68) (hL : T ≠ 94) (hne : N ≠ M) (i : Nat) (v : Value) : CB lo (w.setCell ⟨N, i, none⟩ v) M c cs := by
  obtain ⟨cur, h1, h2⟩ := h.outer
  exact ⟨h.at', h.cap, ⟨cur, h1.set_other hne _, h2⟩, h.rows.moved (Moved.set hN hA hL i v)⟩
theorem CB.own {lo : Nat} {w : World} {M c : Nat} {cs : List CRow} (h : CB lo w M c cs) : ∃ xs : List Value, w.ownsRow lo 52 2 (.slice (some ⟨M, 0, none⟩) cs.length c) cs.length xs ∧ xs.length = cs.length * 2 ∧ ∀ i, i < cs.length → Cel (fun k => xs[k]?) i (nthR cs i) := by
  obtain ⟨cur, h1, h2, h3⟩ := h.outer
  have hc := h.cap
  have hlen : (cur.toList.take (cs.length * 2)).length = cs.length * 2 := by simp; omega
  refine ⟨cur.toList.take (cs.length * 2), ⟨hlen, .inr ⟨M, c, cur, rfl, h.at', h1, hc.1, hc.2, h2, rfl⟩⟩, hlen, fun i hi => ?_⟩
  refine (h3 i hi).congr fun k _ hk => ?_
  show (cur.toList.take _)[k]? = cur[k]?
  rw [List.getElem?_take_of_lt (by omega)]
  simp
theorem CB.app {lo : Nat} {W w' : World} {M c : Nat} {cs : List CRow} {x : CRow} {xs : List Value} {v' : Value} (h : CB lo W M c cs) (hx : AB lo W x.M x.c x.rs) (hne : ∀ y ∈ cs, ∀ k, blks y.M y.rs k → ¬ blks x.M x.rs k) (hl : xs.length = cs.length * 2) (hxs : ∀ i, i < cs.length → Cel (fun k => xs[k]?) i (nthR cs i))
    (hown : w'.ownsRow lo 52 2 v' (cs.length + 1) (xs ++ rowC x)) (hg : W.grownBy w' (some M)) : ∃ M' c', v' = .slice (some ⟨M', 0, none⟩) (cs.length + 1) c' ∧ CB lo w' M' c' (cs ++ [x]) := by
  rcases hown.2 with ⟨_, e⟩ | ⟨g, cap, cur, e, hb, hgb, hc, hm, hz, ht⟩
  · omega
  · obtain ⟨cu0, hcu0, _⟩ := h.outer
    have hmv : Moved W w' := Moved.far hcu0 (by decide) (by decide) hg
    refine ⟨g, cap, e, hb, ⟨by simp; omega, hm⟩, ⟨cur, hgb, hz, fun i hi => ?_⟩, (h.rows.app hx hne).moved hmv⟩
    have at' : ∀ k, k < (cs.length + 1) * 2 → cur[k]? = (xs ++ rowC x)[k]? := fun k hk => by
      rw [← ht, List.getElem?_take_of_lt hk]; simp
    simp at hi
    by_cases hlt : i < cs.length
    · rw [nthR_app_lt hlt]
      refine (hxs i hlt).congr fun k _ hk => ?_
      show cur[k]? = xs[k]?
      rw [at' k (by omega), List.getElem?_append_left (by omega)]
    · have ei : i = cs.length := by omega
      subst ei
      rw [nthR_app_eq]
      have hr : ∀ j, j < 2 → cur[cs.length * 2 + j]? = (rowC x)[j]? := fun j hj => by
        rw [at' _ (by omega), List.getElem?_append_right (by omega), hl]
        congr 1; omega
      exact ⟨hr 0 (by omega), hr 1 (by omega)⟩
def put2C (cs : Array Value) (k : Nat) (x : CRow) : Array Value := (cs.setIfInBounds (k * 2) (.int .i64 x.f)).setIfInBounds (k * 2 + 1) (.slice (some ⟨x.M, 0, none⟩) x.rs.length x.c)
def put2W (w : World) (M k : Nat) (x : CRow) : World := (w.setCell ⟨M, k * 2, none⟩ (.int .i64 x.f)).setCell ⟨M, k * 2 + 1, none⟩ (.slice (some ⟨x.M, 0, none⟩) x.rs.length x.c)
theorem put2_at {cs : Array Value} {k : Nat} {x : CRow} (h : k * 2 + 1 < cs.size) : Cel (fun j => (put2C cs k x)[j]?) k x := by
  unfold put2C
  exact ⟨by show (Array.setIfInBounds _ _ _)[_]? = _; rw [set_ne (by omega), set_at (by omega)], by show (Array.setIfInBounds _ _ _)[_]? = _; rw [set_at (by simp; omega)]⟩
theorem put2_ne {cs : Array Value} {k j : Nat} {x : CRow} (h : j < k * 2 ∨ k * 2 + 2 ≤ j) : (put2C cs k x)[j]? = cs[j]? := by
  unfold put2C
  rw [set_ne (by omega), set_ne (by omega)]
theorem put2_size (cs : Array Value) (k : Nat) (x : CRow) : (put2C cs k x).size = cs.size := by simp [put2C]
theorem put2W_blk {w : World} {M k : Nat} {x : CRow} {cs : Array Value} {T : TypeId} (h : Blk w M cs T) : Blk (put2W w M k x) M (put2C cs k x) T := (h.set _ _).set _ _
theorem put2W_moved {w : World} {M k : Nat} {x : CRow} {cs : Array Value} (h : Blk w M cs 52) : Moved w (put2W w M k x) := (Moved.set h (by decide) (by decide) _ _).trans (Moved.set (h.set _ _) (by decide) (by decide) _ _)
theorem nthR_put {cs : List CRow} {k i : Nat} {x : CRow} (hi : i < cs.length) : nthR (cs.set k x) i = if i = k then x else nthR cs i := by
  rw [nthR_eq (by simpa using hi), nthR_eq hi, List.getElem_set]
  by_cases e : k = i
  · subst e; simp
  · rw [if_neg e, if_neg (fun h => e h.symm)]
theorem CB.put {lo : Nat} {w : World} {M c k : Nat} {cs : List CRow} {x : CRow} (h : CB lo w M c cs) (hk : k < cs.length) (hx : AB lo w x.M x.c x.rs) (hne : ∀ y ∈ cs, ∀ k, blks y.M y.rs k → ¬ blks x.M x.rs k) : CB lo (put2W w M k x) M c (cs.set k x) := by
  obtain ⟨cur, h1, h2, h3⟩ := h.outer
  have hc := h.cap
  have hmv := put2W_moved (k := k) (x := x) h1
  refine ⟨h.at', by simpa using hc, ⟨put2C cur k x, put2W_blk h1, by rw [put2_size]; exact h2, fun i hi => ?_⟩, ⟨fun y hy => ?_, ?_⟩⟩
  · rw [List.length_set] at hi
    rw [nthR_put hi]
    by_cases e : i = k
    · subst e
      rw [if_pos rfl]
      exact put2_at (by omega)
    · rw [if_neg e]
      exact (h3 i hi).congr fun j h0 h1 => put2_ne (by omega)
  · rcases List.mem_or_eq_of_mem_set hy with hy | hy
    · exact ab_moved (h.rows.rows y hy) hmv
    · subst hy; exact ab_moved hx hmv
  · have hp := h.rows.ne
    rw [List.pairwise_iff_getElem] at hp ⊢
    intro i j hi hj hij
    simp only [List.length_set] at hi hj
    rw [List.getElem_set, List.getElem_set]
    by_cases e1 : k = i
    · rw [if_pos e1, if_neg (by omega)]
      exact fun q h1 h2 => hne _ (List.getElem_mem hj) q h2 h1
    · rw [if_neg e1]
      by_cases e2 : k = j
      · rw [if_pos e2]; exact hne _ (List.getElem_mem hi)
      · rw [if_neg e2]; exact hp i j hi hj hij

structure FillC (lo : Nat) (w : World) (M : Nat) (C : List PCh) (k : Nat) (cur : Array Value) (cs : List CRow) : Prop where
  blk : Blk w M cur 52
  size : cur.size = C.length * 2
  len : cs.length = k
  ch : chs cs = C.take k
  cell : ∀ i, i < k → Cel (fun j => cur[j]?) i (nthR cs i)
  rows : RowsC lo w cs
theorem FillC.grow {lo : Nat} {w w' : World} {M : Nat} {C : List PCh} {k : Nat} {cur : Array Value} {cs : List CRow} (h : FillC lo w M C k cur cs) (hb : Below w.heap.size w w') : FillC lo w' M C k cur cs :=
  ⟨h.blk.grow hb, h.size, h.len, h.ch, h.cell, h.rows.grow hb⟩
theorem FillC.next {lo : Nat} {w : World} {M : Nat} {C : List PCh} {k : Nat} {cur : Array Value} {cs : List CRow} {x : CRow} (h : FillC lo w M C k cur cs) (hk : k < C.length) (hx : AB lo w x.M x.c x.rs) (hp : x.ch = nthC C k) (hne : ∀ y ∈ cs, ∀ k, blks y.M y.rs k → ¬ blks x.M x.rs k) :
    FillC lo (put2W w M k x) M C (k + 1) (put2C cur k x) (cs ++ [x]) := by
  have hl := h.len
  have hs := h.size
  refine ⟨put2W_blk h.blk, by rw [put2_size]; exact hs, by simp [hl], by rw [chs_app, h.ch, takeC_up hk, hp], fun i hi => ?_, (h.rows.app hx hne).moved (put2W_moved h.blk)⟩
  by_cases e : i < k
  · rw [nthR_app_lt (by omega)]
    exact (h.cell i e).congr fun j h0 h1 => put2_ne (by omega)
  · have : i = cs.length := by omega
    subst this
    rw [nthR_app_eq, hl]
    exact put2_at (by omega)
theorem FillC.cb {lo : Nat} {w : World} {M : Nat} {C : List PCh} {cur : Array Value} {cs : List CRow} (h : FillC lo w M C C.length cur cs) (hlo : lo ≤ M) (hl : C.length ≤ 1048576) : CB lo w M C.length cs ∧ chs cs = C :=
  ⟨⟨hlo, ⟨by rw [h.len]; exact Nat.le_refl _, by unfold maxLen; omega⟩, ⟨cur, h.blk, h.size, fun i hi => h.cell i (by rw [← h.len]; exact hi)⟩, h.rows⟩, by rw [h.ch]; exact List.take_length⟩

set_option maxHeartbeats 1600000 in
theorem toS_any (a : Option Addr) (cap : Nat) (C : List PCh) (w : World) (hr : RdG RdA w a C) (hl : C.length ≤ 1048576) (hs : sumC C ≤ 1048576) :
    Calls Try.prog 30 #[.slice a C.length cap] w fun e w' => e = .returned (.slice (some ⟨w.heap.size, 0, none⟩) C.length C.length) ∧ (∃ cs, CB w.heap.size w' w.heap.size C.length cs ∧ chs cs = C) ∧ Below w.heap.size w w' := by
  have HR : Hid (RdG RdA w a C) := hr
  have HS : Hid (sumC C ≤ 1048576) := hs
  clear hr hs
  have hmk := make_k (P := Try.prog) 26 52 (.agg #[.int .i64 0, .slice none 0 0]) 2 32 Try.underlying26 infoC .i64 .i64 C.length (by omega) (by omega)
  go_enter Try.func30, Try.ntmps30
  go_wp2
  go_loopw [4] (fun i w' => ∃ (k : Nat) (cur : Array Value) (cs : List CRow), k ≤ C.length ∧ i = .int .i64 k ∧ FillC w.heap.size w' w.heap.size C k cur cs ∧ Below w.heap.size w w') (fun i _ => C.length - (intOf i).toNat)
  case atStart => exact ⟨0, _, [], Nat.zero_le _, rfl, ⟨Blk.new _ _ _, by simp [size_madeCells], rfl, rfl, fun i h => by omega, RowsC.nil _ _⟩, (Below.refl _ _).alloc (Nat.le_refl _) _⟩
  case round =>
    clear hmk
    obtain ⟨k, cur, cs, hk, rfl, hC, hw0⟩ := hrel
    have HB : Hid (Below w.heap.size w wr) := hw0
    have HC : Hid (FillC w.heap.size wr w.heap.size C k cur cs) := hC
    clear hC hw0
    by_cases hlt : k < C.length
    · have hlt' : (k : Int) < (C.length : Int) := by omega
      obtain ⟨b, off, rfl, hb, ad, cp, hat⟩ := (HR.out.below stays_rd HB.out).get hlt
      have h2 := hat.c0
      have h3 := hat.c1
      have HA : Hid (RdA wr ad (nthC C k).P) := hat.reads
      have HS1 : Hid ((nthC C k).P.length ≤ 1048576 ∧ sumL (nthC C k).P ≤ 1048576) := by have := sumC_nth hlt; have := HS.out; constructor <;> omega
      clear hat
      go_wp2_with fail
      refine (toC_any _ ad cp _ _ HA.out HS1.out.1 HS1.out.2).mono ?_
      rintro e w1 ⟨⟨M1, rs, rfl, hab, hp⟩, hb1⟩
      have HB1 : Hid (Below w.heap.size w w1) := grow_on HB.out hb1
      have hC1 : FillC w.heap.size w1 w.heap.size C k cur cs := HC.out.grow hb1
      have hrl : rs.length = (nthC C k).P.length := by rw [← pals_len, hp]
      have HN := hC1.next (x := ⟨(nthC C k).f, M1, (nthC C k).P.length, rs⟩) hlt (hab.down HB.out.size) (by unfold CRow.ch; rw [hp]) (HC.out.rows.fresh (x := ⟨(nthC C k).f, M1, (nthC C k).P.length, rs⟩) hab (Nat.le_refl _))
      unfold put2W put2C at HN
      rw [hrl] at HN
      have HC2 : Hid _ := HN
      have hsz := hC1.size
      obtain ⟨v0, c0⟩ : ∃ v, w1.cell? ⟨w.heap.size, k * 2, none⟩ = some v := ⟨cur[k * 2]'(by omega), by rw [hC1.blk.cell]; simp⟩
      obtain ⟨v1, c1⟩ : ∃ v, w1.cell? ⟨w.heap.size, k * 2 + 1, none⟩ = some v := ⟨cur[k * 2 + 1]'(by omega), by rw [hC1.blk.cell]; simp⟩
      have f0 := hC1.blk.frozen (k * 2)
      have f1 := hC1.blk.frozen (k * 2 + 1)
      clear hb1 h2 h3 hC1 hsz HN hab hp hrl
      go_wp2
      go_roundw
      case rel => exact ⟨k + 1, _, _, by omega, by go_num, HC2.out, (HB1.out.setCell (Nat.le_refl _) _).setCell (Nat.le_refl _) _⟩
      case measure => simp [intOf]; omega
    · have hge : ¬ (k : Int) < (C.length : Int) := by omega
      have HE : Hid (k = C.length) := by show k = C.length; omega
      go_wp2
      go_ret
      have hF := HC.out
      rw [HE.out] at hF
      exact ⟨rfl, ⟨cs, (hF.cb (Nat.le_refl _) hl).1, (hF.cb (Nat.le_refl _) hl).2⟩, HB.out⟩
end Go.Proofs.Ytcopckbpflmmeab.Chs
namespace Go.Proofs.Ytcopckbpflmmeab.Prt
open Go.RowKit
open Go.ChangeShapes Go.WideShapes
open Labs LabS Alms AlmS AlmM Over Blk App Rws ChnI ChnC ChnP ChnK Chs
open StrB (retB)

set_option maxHeartbeats 800000 in
theorem eqS_any (a a' : Option Addr) (cap cap' : Nat) (C : List PCh) (w : World) (hr : RdG RdA w a C) (hr' : RdG RdA w a' C) (hl : C.length ≤ maxLen) (hz : FitsC C) :
    Calls Try.prog 34 #[.slice a C.length cap, .slice a' C.length cap'] w fun e w' => e = .returned (.bool true) ∧ Below w.heap.size w w' := by
  unfold maxLen at hl
  have HR : Hid (RdG RdA w a C) := hr
  have HR' : Hid (RdG RdA w a' C) := hr'
  have HZ : Hid (FitsC C) := hz
  clear hr hr' hz
  go_enter Try.func34, Try.ntmps34
  go_wp2
  go_loopw [5] (fun i w' => ∃ k : Nat, i = .int .i64 k ∧ k ≤ C.length ∧ Below w.heap.size w w') (fun i _ => C.length - (intOf i).toNat)
  case atStart => exact ⟨0, rfl, Nat.zero_le _, Below.refl _ _⟩
  case round =>
    obtain ⟨k, rfl, hk, hw0⟩ := hrel
    have HB : Hid (Below w.heap.size w wr) := hw0
    clear hw0
    by_cases hlt : k < C.length
    · have hlt' : (k : Int) < (C.length : Int) := by omega
      obtain ⟨b, off, rfl, hb, ad, cp, hat⟩ := (HR.out.below stays_rd HB.out).get hlt
      obtain ⟨b', off', rfl, hb', ad', cp', hat'⟩ := (HR'.out.below stays_rd HB.out).get hlt
      have hne := Grown.some wr
      have x0 := fun x : Grown wr => x.cell hb hat.c0
      have x1 := fun x : Grown wr => x.cell hb hat.c1
      have y0 := fun x : Grown wr => x.cell hb' hat'.c0
      have y1 := fun x : Grown wr => x.cell hb' hat'.c1
      have HC : ∀ x : Grown wr, Hid (Calls Try.prog 55 #[.agg #[.int .i64 (nthC C k).f, .slice ad (nthC C k).P.length cp], .agg #[.int .i64 (nthC C k).f, .slice ad' (nthC C k).P.length cp']] x.out fun e w' => e = .returned (.bool true) ∧ Below x.out.heap.size x.out w') := fun x => eqC_any _ ad ad' cp cp' _ x.out (hat.reads.below x.bel) (hat'.reads.below x.bel) (HZ.out _ (nthC_mem hlt)).len (HZ.out _ (nthC_mem hlt)).fits
      clear hat hat'
      go_wp2
      refine wp_over (z := wr) (by kernel_rfl) (by kernel_rfl) (Below.refl _ _) ?_
      repeat (go_big_quiet_step (first | (go_at_call 55; exact call_over (HC _).out)))
      refine wpQuiet_nil ?_
      intro w2 hw2
      have HB2 : Hid (Below w.heap.size w w2) := grow_on HB.out (over_bel hw2)
      clear hw2 hne x0 x1 y0 y1 HC
      go_wp2
      go_roundw
      case rel => exact ⟨k + 1, by go_num, by omega, HB2.out⟩
      case measure => simp [intOf]; omega
    · have hge : ¬ (k : Int) < (C.length : Int) := by omega
      go_wp2
      go_ret
      exact ⟨rfl, HB.out⟩
theorem set3 {B M : Nat} {w w' : World} (h : Below B w w') (hM : B ≤ M) (v0 v1 v2 : Value) : Below B w (((w'.setCell ⟨M, 0, none⟩ v0).setCell ⟨M, 1, none⟩ v1).setCell ⟨M, 2, none⟩ v2) :=
  ((h.setCell hM _).setCell hM _).setCell hM _
theorem put3 {w : World} {M : Nat} {x0 x1 x2 : Value} {T : TypeId} (h : Blk w M #[x0, x1, x2] T) (v0 v1 v2 : Value) : Blk (((w.setCell ⟨M, 0, none⟩ v0).setCell ⟨M, 1, none⟩ v1).setCell ⟨M, 2, none⟩ v2) M #[v0, v1, v2] T :=
  ((h.set 0 v0).set 1 v1).set 2 v2
theorem blkT_ne {w : World} {a b : Nat} {cs ds : Array Value} {T U : TypeId} (h : Blk w a cs T) (k : Blk w b ds U) (hT : T ≠ U) : a ≠ b := fun e => by
  subst e
  unfold Blk at h k
  rw [h] at k
  injection k with k
  injection k with _ k
  exact hT k
theorem CB.set' {lo : Nat} {w : World} {M c N : Nat} {cs : List CRow} {ds : Array Value} (h : CB lo w M c cs) (hN : Blk w N ds 28) (i : Nat) (v : Value) : CB lo (w.setCell ⟨N, i, none⟩ v) M c cs := by
  obtain ⟨cur, h1, h2⟩ := h.outer
  exact CB.set h hN (by decide) (by decide) (blkT_ne hN h1 (by decide)) i v
theorem CB.set3 {lo : Nat} {w : World} {M c N : Nat} {cs : List CRow} {ds : Array Value} (h : CB lo w M c cs) (hN : Blk w N ds 28) (v0 v1 v2 : Value) : CB lo (((w.setCell ⟨N, 0, none⟩ v0).setCell ⟨N, 1, none⟩ v1).setCell ⟨N, 2, none⟩ v2) M c cs :=
  CB.set' (CB.set' (CB.set' h hN 0 v0) (hN.set 0 v0) 1 v1) ((hN.set 0 v0).set 1 v1) 2 v2

set_option maxHeartbeats 800000 in
theorem toPart_any (hd vr : Int) (a : Option Addr) (cap : Nat) (C : List PCh) (w : World) (hr : RdG RdA w a C) (hl : C.length ≤ 1048576) (hs : sumC C ≤ 1048576) :
    Calls Try.prog 9 #[.agg #[.int .i64 hd, .int .i64 vr, .slice a C.length cap]] w fun r w' => (∃ M cs, r = .returned (.agg #[.int .i64 hd, .int .i64 vr, .slice (some ⟨M, 0, none⟩) C.length C.length]) ∧ CB w.heap.size w' M C.length cs ∧ chs cs = C) ∧ Below w.heap.size w w' := by
  have HR : Hid (RdG RdA w a C) := hr
  have HS : Hid (sumC C ≤ 1048576) := hs
  clear hr hs
  go_enter Try.func9, Try.ntmps9
  go_wp2_with fail
  generalize hW : ((w.alloc (.cells #[.int .i64 hd, .int .i64 vr, .slice a C.length cap] 24)).alloc (.cells #[.int .i64 0, .int .i64 0, .slice none 0 0] 28)).alloc (.cells #[.int .i64 hd, .int .i64 vr, .slice none 0 0] 28) = W
  have hB3 : Below w.heap.size w W := by rw [← hW]; exact Alm.below3 w _ _ _
  have hP : Blk W w.heap.size #[.int .i64 hd, .int .i64 vr, .slice a C.length cap] 24 := by rw [← hW]; exact ((Blk.new _ _ _).alloc _).alloc _
  have hR : Blk W (w.heap.size + 1) #[.int .i64 0, .int .i64 0, .slice none 0 0] 28 := by rw [← hW]; exact (Blk.new_at (by simp)).alloc _
  have hO : Blk W (w.heap.size + 1 + 1) #[.int .i64 hd, .int .i64 vr, .slice none 0 0] 28 := by rw [← hW]; exact Blk.new_at (by simp)
  have hSz : W.heap.size = w.heap.size + 1 + 1 + 1 := by rw [← hW]; simp
  clear hW
  refine (toS_any a cap C _ (HR.out.below stays_rd hB3) hl HS.out).mono ?_
  rintro r w1 ⟨rfl, ⟨cs, hC, hch⟩, hb⟩
  rw [hSz] at hC ⊢
  have HB : Hid (Below w.heap.size w w1) := grow_on hB3 hb
  have HC : Hid (CB w.heap.size w1 (w.heap.size + 1 + 1 + 1) C.length cs ∧ chs cs = C) := ⟨hC.down (by omega), hch⟩
  have hR1 := hR.grow hb
  have hO1 := hO.grow hb
  have HRR : Hid (Blk w1 (w.heap.size + 1) #[.int .i64 0, .int .i64 0, .slice none 0 0] 28) := hR1
  have HO : Hid (Blk w1 (w.heap.size + 1 + 1) #[.int .i64 hd, .int .i64 vr, .slice none 0 0] 28) := hO1
  have o0 : w1.cell? ⟨w.heap.size + 1 + 1, 0, none⟩ = some (.int .i64 hd) := hO1.cell 0
  have o1 : w1.cell? ⟨w.heap.size + 1 + 1, 1, none⟩ = some (.int .i64 vr) := hO1.cell 1
  have o2 : w1.cell? ⟨w.heap.size + 1 + 1, 2, none⟩ = some (.slice none 0 0) := hO1.cell 2
  have fo := hO1.frozen 2
  have r0 : w1.cell? ⟨w.heap.size + 1, 0, none⟩ = some (.int .i64 0) := hR1.cell 0
  have r1 : w1.cell? ⟨w.heap.size + 1, 1, none⟩ = some (.int .i64 0) := hR1.cell 1
  have r2 : w1.cell? ⟨w.heap.size + 1, 2, none⟩ = some (.slice none 0 0) := hR1.cell 2
  have f0 := hR1.frozen 0
  have f1 := hR1.frozen 1
  have f2 := hR1.frozen 2
  clear hb hC hch hR hO hR1 hO1 hB3 hP hSz
  go_wp2
  have hs := put3 (HRR.out.set_other (p := ⟨w.heap.size + 1 + 1, 2, none⟩) (by show w.heap.size + 1 + 1 ≠ w.heap.size + 1; omega) (.slice (some ⟨w.heap.size + 1 + 1 + 1, 0, none⟩) C.length C.length)) (.int .i64 hd) (.int .i64 vr) (.slice (some ⟨w.heap.size + 1 + 1 + 1, 0, none⟩) C.length C.length)
  have s0 := hs.cell 0
  have s1 := hs.cell 1
  have s2 := hs.cell 2
  refine bodyPost_ret (v := .agg #[.int .i64 hd, .int .i64 vr, .slice (some ⟨w.heap.size + 1 + 1 + 1, 0, none⟩) C.length C.length]) (by simp [results, Try.results9, go_sem, s0, s1, s2]) rfl ?_
  exact ⟨⟨w.heap.size + 1 + 1 + 1, cs, rfl, CB.set3 (CB.set' HC.out.1 HO.out _ _) (HRR.out.set_other (by show w.heap.size + 1 + 1 ≠ w.heap.size + 1; omega) _) _ _ _, HC.out.2⟩, set3 (ChnI.set_low HB.out (by omega) _ _) (by omega) _ _ _⟩

theorem eqPart_any (hd vr : Int) (a a' : Option Addr) (cap cap' : Nat) (C : List PCh) (w : World) (hr : RdG RdA w a C) (hr' : RdG RdA w a' C) (hl : C.length ≤ maxLen) (hz : FitsC C) :
    Calls Try.prog 11 #[.agg #[.int .i64 hd, .int .i64 vr, .slice a C.length cap], .agg #[.int .i64 hd, .int .i64 vr, .slice a' C.length cap']] w fun e w' => e = .returned (.bool true) ∧ Below w.heap.size w w' := by
  have HR : Hid (RdG RdA w a C ∧ RdG RdA w a' C ∧ C.length ≤ maxLen ∧ FitsC C) := ⟨hr, hr', hl, hz⟩
  clear hr hr' hl hz
  go_enter Try.func11, Try.ntmps11
  go_wp2_with fail
  refine (eqS_any a a' cap cap' C _ (HR.out.1.below stays_rd (Go.Joins.below_alloc2 w _ _)) (HR.out.2.1.below stays_rd (Go.Joins.below_alloc2 w _ _)) HR.out.2.2.1 HR.out.2.2.2).mono ?_
  rintro r w1 ⟨rfl, hb⟩
  have HB : Hid (Below w.heap.size w w1) := grow_on (Go.Joins.below_alloc2 w _ _) hb
  clear hb
  go_wp2
  go_ret
  exact ⟨rfl, HB.out⟩

def I64 (x : Int) : Prop := -9223372036854775808 ≤ x ∧ x ≤ 9223372036854775807
end Go.Proofs.Ytcopckbpflmmeab.Prt
