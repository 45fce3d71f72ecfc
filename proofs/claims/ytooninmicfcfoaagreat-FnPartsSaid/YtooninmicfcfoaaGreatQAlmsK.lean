/-
  PROVED: the contracts of what the exact laws call over slices of alarms: the size that szAlarmS counts, the copy that toAlarmS makes, that eqAlarmS finds two of the same alike, the marks that markAlarmS writes; what a slice of alarms that came in is.
  PROVED: the marks that markAlarmS writes lie in the copied alarms' own memory alone; what a slice of alarms that came in is.
-/
import Derived.Test.YtooninmicfcfoaaGreatQAlm
import Derived.Test.YtooninmicfcfoaaGreatQMark
import Derived.Deep.Slices
set_option linter.unusedVariables false
namespace Go.Proofs.YtooninmicfcfoaaGreat.Alms
open Go.RowKit
open Go.ChangeShapes Go.WideShapes
open Labs LabS LabT Alm Over Blk
open StrB (retB)

structure PAl where
  l : List Lab
  s : Int
  e : Int
  n : ByteArray
def nthP (P : List PAl) (i : Nat) : PAl := P.getD i ⟨[], 0, 0, ByteArray.empty⟩
theorem nthP_eq {P : List PAl} {i : Nat} (h : i < P.length) : nthP P i = P[i] := by unfold nthP; simp [h]
structure At (w : World) (b off i : Nat) (x : PAl) (ad : Option Addr) (cap : Nat) : Prop where
  c0 : w.cell? ⟨b, off + i * 4, none⟩ = some (.slice ad x.l.length cap)
  c1 : w.cell? ⟨b, off + i * 4 + 1, none⟩ = some (.int .i64 x.s)
  c2 : w.cell? ⟨b, off + i * 4 + 2, none⟩ = some (.int .i64 x.e)
  c3 : w.cell? ⟨b, off + i * 4 + 3, none⟩ = some (.string x.n)
  reads : Reads w ad x.l
theorem At.below {w w' : World} {b off i : Nat} {x : PAl} {ad : Option Addr} {cap : Nat} (h : At w b off i x ad cap) (hb : Below w.heap.size w w') (hlt : b < w.heap.size) : At w' b off i x ad cap :=
  ⟨(hb.cell (p := ⟨b, off + i * 4, none⟩) hlt).trans h.c0, (hb.cell (p := ⟨b, off + i * 4 + 1, none⟩) hlt).trans h.c1, (hb.cell (p := ⟨b, off + i * 4 + 2, none⟩) hlt).trans h.c2, (hb.cell (p := ⟨b, off + i * 4 + 3, none⟩) hlt).trans h.c3, h.reads.below hb⟩
def RdA (w : World) (a : Option Addr) (P : List PAl) : Prop :=
  P = [] ∨ ∃ b off, a = some ⟨b, off, none⟩ ∧ b < w.heap.size ∧ ∀ i, i < P.length → ∃ ad cap, At w b off i (nthP P i) ad cap
theorem RdA.below {w w' : World} {a : Option Addr} {P : List PAl} (h : RdA w a P) (hb : Below w.heap.size w w') : RdA w' a P := by
  rcases h with h | ⟨b, off, rfl, hlt, hc⟩
  · exact .inl h
  · exact .inr ⟨b, off, rfl, Nat.lt_of_lt_of_le hlt hb.size, fun i hi => by
      obtain ⟨ad, cap, h⟩ := hc i hi
      exact ⟨ad, cap, h.below hb hlt⟩⟩
theorem RdA.get {w : World} {a : Option Addr} {P : List PAl} (h : RdA w a P) {i : Nat} (hi : i < P.length) :
    ∃ b off, a = some ⟨b, off, none⟩ ∧ b < w.heap.size ∧ ∃ ad cap, At w b off i (nthP P i) ad cap := by
  rcases h with h | ⟨b, off, e, hb, h⟩
  · rw [h] at hi; simp at hi
  · exact ⟨b, off, e, hb, h i hi⟩
structure FitA (x : PAl) : Prop where
  len : x.l.length ≤ maxLen
  fits : Fits x.l
  sb : -9223372036854775808 ≤ x.s ∧ x.s ≤ 9223372036854775807
  eb : -9223372036854775808 ≤ x.e ∧ x.e ≤ 9223372036854775807
  note : x.n.size ≤ maxLen
def FitsP (P : List PAl) : Prop := ∀ i, i < P.length → FitA (nthP P i)
theorem FitA.al {w : World} {x : PAl} {ad : Option Addr} (h : FitA x) (hr : Reads w ad x.l) : AlIn w ad x.l x.s x.e x.n := ⟨hr, h.len, h.fits, h.sb, h.eb, h.note⟩

def sumL : List PAl → Nat
  | [] => 0
  | x :: P => x.l.length + sumL P
theorem sum_app (P Q : List PAl) : sumL (P ++ Q) = sumL P + sumL Q := by
  induction P with
  | nil => simp [sumL]
  | cons x P ih => rw [List.cons_append, sumL, ih, sumL]; omega
theorem takeP_up {P : List PAl} {k : Nat} (h : k < P.length) : P.take (k + 1) = P.take k ++ [nthP P k] := by
  rw [nthP_eq h, List.take_succ_eq_append_getElem h]
theorem infoA : (Tryz.prog.info? 29).map (fun i => (i.zero, i.size, i.bytes)) = some (some (.agg #[.slice none 0 0, .int .i64 0, .int .i64 0, .string ByteArray.empty]), 4, 56) := by kernel_rfl

theorem set_at {cs : Array Value} {i : Nat} {v : Value} (h : i < cs.size) : (cs.setIfInBounds i v)[i]? = some v := by rw [Array.getElem?_setIfInBounds, if_pos rfl, if_pos h]
theorem set_ne {cs : Array Value} {i j : Nat} {v : Value} (h : i ≠ j) : (cs.setIfInBounds i v)[j]? = cs[j]? := Array.getElem?_setIfInBounds_ne h
end Go.Proofs.YtooninmicfcfoaaGreat.Alms
namespace Go.Proofs.YtooninmicfcfoaaGreat.Alms
open Go.RowKit
open Go.ChangeShapes Go.WideShapes
open Labs LabS LabT Alm Over Blk
open Go.Proofs.YtooninmicfcfoaaGreat.Mark (Apart)
open StrB (retB)

end Go.Proofs.YtooninmicfcfoaaGreat.Alms
