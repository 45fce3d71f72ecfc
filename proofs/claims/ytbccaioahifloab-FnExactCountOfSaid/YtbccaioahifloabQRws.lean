/-
  The builtin append as a step of a region that draws its order, onto a row of the call's own.
  PROVED: over two alarms whose labels lie in memory spec.Merge and impl.Merge answer alike, in memory of their own; nothing that was there is changed.
  PROVED: rows of alarms in memory of a call's own, each alarm's labels in a block of their own: read, grown by an append, written at a place; what chains come to, on plain lists.
-/
import Derived.Test.YtbccaioahifloabQBlk
import Derived.Maps.AppendAt
import Derived.Deep.AppendLies
import Derived.Deep.RegionHeld3
import Derived.Test.YtbccaioahifloabQAlmS
import Derived.Test.YtbccaioahifloabQLabR
import Derived.Test.YtbccaioahifloabQAlmsK
namespace Go.Proofs.Ytbccaioahifloab.App
open Go.RowKit Go.Proofs.Ytbccaioahifloab.Over Go.Proofs.Ytbccaioahifloab.Blk
set_option linter.unusedVariables false

theorem blk_far {w w' : World} {M : Nat} {cs : Array Value} {e : TypeId} {row : Option Nat} (h : Blk w M cs e) (hg : w.grownBy w' row) (hne : some M ≠ row) : Blk w' M cs e := by
  unfold Blk at *
  rw [hg.block M (Array.getElem?_eq_some_iff.1 h).1 hne]; exact h
end Go.Proofs.Ytbccaioahifloab.App
namespace Go.Proofs.Ytbccaioahifloab.AlmM
open Go.RowKit
open Go.Proofs.Ytbccaioahifloab.Labs Go.Proofs.Ytbccaioahifloab.LabS Go.Proofs.Ytbccaioahifloab.LabR Go.Proofs.Ytbccaioahifloab.Alm Go.Proofs.Ytbccaioahifloab.AlmS Go.Proofs.Ytbccaioahifloab.Over Go.Proofs.Ytbccaioahifloab.Blk Go.Proofs.Ytbccaioahifloab.App
open Go.Proofs.Ytbccaioahifloab.LabT (infoL Held held_reads)
open Go.Proofs.Ytbccaioahifloab.StrB (retB)
set_option linter.unusedVariables false

theorem retI {a b : Int} (h : a = b) : Ending.returned (.int .i64 a) = .returned (.int .i64 b) := by rw [h]
end Go.Proofs.Ytbccaioahifloab.AlmM
namespace Go.Proofs.Ytbccaioahifloab.Rws
open Go.RowKit
open Go.Proofs.Ytbccaioahifloab.Labs Go.Proofs.Ytbccaioahifloab.LabS Go.Proofs.Ytbccaioahifloab.Alms Go.Proofs.Ytbccaioahifloab.AlmS Go.Proofs.Ytbccaioahifloab.AlmM Go.Proofs.Ytbccaioahifloab.Over Go.Proofs.Ytbccaioahifloab.Blk Go.Proofs.Ytbccaioahifloab.App
open Go.Proofs.Ytbccaioahifloab.Alm (sameB same_self)
open Go.Proofs.Ytbccaioahifloab.LabT (Held held_reads Fits)
open Go.Proofs.Ytbccaioahifloab.LabR (Own)
set_option linter.unusedVariables false

/-- a slice's cells hold these alarms, none of whose labels are nil -/
def RdN (w : World) (a : Option Addr) (P : List PAl) : Prop :=
  P = [] ∨ ∃ b off, a = some ⟨b, off, none⟩ ∧ b < w.heap.size ∧ ∀ i, i < P.length → ∃ g o cap, At w b off i (nthP P i) (some ⟨g, o, none⟩) cap
theorem RdN.rd {w : World} {a : Option Addr} {P : List PAl} (h : RdN w a P) : RdA w a P := by
  rcases h with h | ⟨b, off, e, hb, hc⟩
  · exact .inl h
  · exact .inr ⟨b, off, e, hb, fun i hi => by obtain ⟨g, o, cap, h⟩ := hc i hi; exact ⟨_, _, h⟩⟩
theorem RdN.below {w w' : World} {a : Option Addr} {P : List PAl} (h : RdN w a P) (hb : Below w.heap.size w w') : RdN w' a P := by
  rcases h with h | ⟨b, off, rfl, hlt, hc⟩
  · exact .inl h
  · exact .inr ⟨b, off, rfl, Nat.lt_of_lt_of_le hlt hb.size, fun i hi => by
      obtain ⟨g, o, cap, h⟩ := hc i hi
      exact ⟨g, o, cap, h.below hb hlt⟩⟩
/-- an alarm in memory of the call's own: the block of its labels, their room, the alarm -/
abbrev ARow := Nat × Nat × PAl
def pals (rs : List ARow) : List PAl := rs.map fun x => x.2.2
def nthA (rs : List ARow) (i : Nat) : ARow := rs.getD i (0, 0, ⟨[], 0, 0, ByteArray.empty⟩)
theorem nthA_eq {rs : List ARow} {i : Nat} (h : i < rs.length) : nthA rs i = rs[i] := by unfold nthA; simp [h]
theorem nthA_mem {rs : List ARow} {i : Nat} (h : i < rs.length) : nthA rs i ∈ rs := by rw [nthA_eq h]; exact List.getElem_mem _
theorem pals_len (rs : List ARow) : (pals rs).length = rs.length := by simp [pals]
theorem pals_nth {rs : List ARow} {i : Nat} (h : i < rs.length) : nthP (pals rs) i = (nthA rs i).2.2 := by
  rw [nthP_eq (by rw [pals_len]; exact h), nthA_eq h]
  simp [pals]
/-- the four cells of the i-th one -/
def Four (f : Nat → Option Value) (i : Nat) (x : ARow) : Prop :=
  f (i * 4) = some (.slice (some ⟨x.1, 0, none⟩) x.2.2.l.length x.2.1) ∧ f (i * 4 + 1) = some (.int .i64 x.2.2.s) ∧ f (i * 4 + 2) = some (.int .i64 x.2.2.e) ∧ f (i * 4 + 3) = some (.string x.2.2.n)
def OwnA (lo : Nat) (w : World) (x : ARow) : Prop := lo ≤ x.1 ∧ x.2.2.l.length ≤ 1048576 ∧ ∃ ds : Array Value, Blk w x.1 ds 64 ∧ x.2.2.l.length * 2 ≤ ds.size ∧ Held ds x.2.2.l x.2.2.l.length
theorem OwnA.grow {lo : Nat} {w w' : World} {x : ARow} (h : OwnA lo w x) (hb : Below w.heap.size w w') : OwnA lo w' x := by
  obtain ⟨h0, h1, ds, h2, h3⟩ := h
  exact ⟨h0, h1, ds, h2.grow hb, h3⟩
theorem OwnA.lt {lo : Nat} {w : World} {x : ARow} (h : OwnA lo w x) : x.1 < w.heap.size := by
  obtain ⟨h0, h1, ds, h2, h3⟩ := h
  exact h2.lt
theorem OwnA.reads {lo : Nat} {w : World} {x : ARow} (h : OwnA lo w x) : Reads w (some ⟨x.1, 0, none⟩) x.2.2.l := by
  obtain ⟨h0, h1, ds, h2, h3, h4⟩ := h
  exact held_reads h2 h4
theorem OwnA.down {lo lo' : Nat} {w : World} {x : ARow} (h : OwnA lo w x) (hl : lo' ≤ lo) : OwnA lo' w x := ⟨Nat.le_trans hl h.1, h.2⟩
/-- the alarms rs lie in the row at block M, whose room is c -/
structure AB (lo : Nat) (w : World) (M c : Nat) (rs : List ARow) : Prop where
  at' : lo ≤ M
  cap : rs.length ≤ c ∧ c ≤ maxLen
  outer : ∃ cur : Array Value, Blk w M cur 47 ∧ cur.size = c * 4 ∧ ∀ i, i < rs.length → Four (fun k => cur[k]?) i (nthA rs i)
  rows : ∀ x ∈ rs, OwnA lo w x
  ne : rs.Pairwise fun x y => x.1 ≠ y.1
theorem AB.grow {lo : Nat} {w w' : World} {M c : Nat} {rs : List ARow} (h : AB lo w M c rs) (hb : Below w.heap.size w w') : AB lo w' M c rs := by
  obtain ⟨cur, h1, h2⟩ := h.outer
  exact ⟨h.at', h.cap, ⟨cur, h1.grow hb, h2⟩, fun x hx => (h.rows x hx).grow hb, h.ne⟩
theorem AB.down {lo lo' : Nat} {w : World} {M c : Nat} {rs : List ARow} (h : AB lo w M c rs) (hl : lo' ≤ lo) : AB lo' w M c rs :=
  ⟨Nat.le_trans hl h.at', h.cap, h.outer, fun x hx => (h.rows x hx).down hl, h.ne⟩
theorem AB.lt {lo : Nat} {w : World} {M c : Nat} {rs : List ARow} (h : AB lo w M c rs) : M < w.heap.size := by
  obtain ⟨cur, h1, _⟩ := h.outer
  exact h1.lt
theorem AB.rd {lo : Nat} {w : World} {M c : Nat} {rs : List ARow} (h : AB lo w M c rs) : RdN w (some ⟨M, 0, none⟩) (pals rs) := by
  obtain ⟨cur, h1, h2, h3⟩ := h.outer
  refine .inr ⟨M, 0, rfl, h1.lt, fun i hi => ?_⟩
  rw [pals_len] at hi
  obtain ⟨c0, c1, c2, c3⟩ := h3 i hi
  refine ⟨(nthA rs i).1, 0, (nthA rs i).2.1, ?_⟩
  rw [pals_nth hi]
  exact ⟨by rw [h1.cell, Nat.zero_add]; exact c0, by rw [h1.cell, Nat.zero_add]; exact c1, by rw [h1.cell, Nat.zero_add]; exact c2, by rw [h1.cell, Nat.zero_add]; exact c3, (h.rows _ (nthA_mem hi)).reads⟩
theorem blkA_ne {w : World} {a b : Nat} {cs ds : Array Value} (h : Blk w a cs 47) (k : Blk w b ds 64) : a ≠ b := fun e => by
  subst e
  unfold Blk at h k
  rw [h] at k
  injection k with k
  injection k with _ k
  exact absurd k (by decide)
end Go.Proofs.Ytbccaioahifloab.Rws
