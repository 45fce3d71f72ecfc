/-
  PROVED: the contracts of laws.markAlarm and laws.heldAlarm: the marks are written into the alarm's labels alone, and found there.
  PROVED: the marks that markAlarmS writes over a row of alarms and heldAlarmS finds; the copy that toAlarmS makes, as a row.
-/
import Derived.Test.YtekcmpjjfnijmaaQLst
import Derived.Test.YtekcmpjjfnijmaaQMark
set_option linter.unusedVariables false
namespace Go.Proofs.Ytekcmpjjfnijmaa.AlmK
open Go.RowKit
open Labs LabS Alm Over Blk Go.Proofs.Ytekcmpjjfnijmaa.Mark

theorem Apart.ahead {M : Nat} {a b c : World} (h : Below a.heap.size a b) (k : Apart M b c) : Apart M a c := (Apart.of h).trans k

end Go.Proofs.Ytekcmpjjfnijmaa.AlmK
namespace Go.Proofs.Ytekcmpjjfnijmaa.ChnK
open Go.RowKit
open Labs LabS Alms AlmM Over Blk App Rws
open AlmS ChnI ChnC ChnP
open Go.Proofs.Ytekcmpjjfnijmaa.Mark (Apart Marked)
open StrB (retB)
open Alm (at_par)
open LabT (Held held_reads)
structure Only (S : Nat → Prop) (w w' : World) : Prop where
  os : w'.os = w.os
  tape : w'.tape = w.tape
  output : w'.output = w.output
  size : w.heap.size ≤ w'.heap.size
  block : ∀ k, k < w.heap.size → ¬ S k → w'.heap[k]? = w.heap[k]?
theorem Only.refl (S : Nat → Prop) (w : World) : Only S w w := ⟨rfl, rfl, rfl, Nat.le_refl _, fun _ _ _ => rfl⟩
theorem Only.trans {S : Nat → Prop} {a b c : World} (h : Only S a b) (k : Only S b c) : Only S a c :=
  ⟨k.os.trans h.os, k.tape.trans h.tape, k.output.trans h.output, Nat.le_trans h.size k.size, fun i hi hM => (k.block i (Nat.lt_of_lt_of_le hi h.size) hM).trans (h.block i hi hM)⟩
theorem Only.of {S : Nat → Prop} {w w' : World} (h : Below w.heap.size w w') : Only S w w' := ⟨h.os, h.tape, h.output, h.size, fun k hk _ => h.block k hk⟩
theorem Only.below {S : Nat → Prop} {a b c : World} (h : Only S a b) (k : Below b.heap.size b c) : Only S a c := h.trans (Only.of k)
theorem Only.ahead {S : Nat → Prop} {a b c : World} (h : Below a.heap.size a b) (k : Only S b c) : Only S a c := (Only.of h).trans k
theorem Only.apart {S : Nat → Prop} {M : Nat} {w w' : World} (h : Apart M w w') (hM : S M) : Only S w w' := ⟨h.os, h.tape, h.output, h.size, fun k hk hn => h.block k hk (fun e => hn (by rw [e]; exact hM))⟩
theorem Only.set {S : Nat → Prop} {M : Nat} {a w : World} (h : Only S a w) (hM : S M) (i : Nat) (v : Value) : Only S a (w.setCell ⟨M, i, none⟩ v) :=
  h.trans (Only.apart ((Apart.refl M w).setCell i v) hM)
theorem Only.low {S : Nat → Prop} {B : Nat} {w w' : World} (h : Only S w w') (hB : ∀ k, S k → B ≤ k) (hw : B ≤ w.heap.size) : Below B w w' :=
  ⟨h.os, h.tape, h.output, h.size, fun k hk => h.block k (by omega) (fun hs => by have := hB k hs; omega)⟩
theorem Only.blk {S : Nat → Prop} {N : Nat} {w w' : World} {cs : Array Value} {T : TypeId} (h : Only S w w') (hb : Blk w N cs T) (hn : ¬ S N) : Blk w' N cs T := by
  have hlt := hb.lt
  unfold Blk at *
  rw [h.block N hlt hn]; exact hb
def blks (M : Nat) (rs : List ARow) (k : Nat) : Prop := k = M ∨ ∃ x ∈ rs, x.1 = k
theorem blks_high {lo : Nat} {w : World} {M c : Nat} {rs : List ARow} (h : AB lo w M c rs) (k : Nat) (hk : blks M rs k) : k < w.heap.size := by
  rcases hk with rfl | ⟨x, hx, rfl⟩
  · exact h.lt
  · exact (h.rows x hx).lt
def sumA : List ARow → Nat
  | [] => 0
  | x :: rs => 2 * x.2.2.l.length + 3 + sumA rs
def MarkA (cur : Array Value) (i z : Nat) : Prop := cur[i * 4 + 1]? = some (.int .i64 (z : Int)) ∧ cur[i * 4 + 2]? = some (.int .i64 ((z + 1 : Nat) : Int)) ∧ cur[i * 4 + 3]? = some (.string (Mark.mt (z + 2)))
structure MA (w : World) (M : Nat) (rs : List ARow) (k j : Nat) : Prop where
  outer : ∃ cur : Array Value, Blk w M cur 29 ∧ rs.length * 4 ≤ cur.size ∧ (∀ i, i < rs.length → cur[i * 4]? = some (.slice (some ⟨(nthA rs i).1, 0, none⟩) (nthA rs i).2.2.l.length (nthA rs i).2.1)) ∧ ∀ i, i < j → MarkA cur i (k + sumA (rs.take i) + 2 * (nthA rs i).2.2.l.length)
  done : ∀ i, i < j → ∃ ds : Array Value, Blk w (nthA rs i).1 ds 94 ∧ Marked ds (k + sumA (rs.take i)) (nthA rs i).2.2.l.length
  todo : ∀ i, j ≤ i → i < rs.length → ∃ ds : Array Value, Blk w (nthA rs i).1 ds 94 ∧ (nthA rs i).2.2.l.length * 2 ≤ ds.size
theorem MA.only {S : Nat → Prop} {w w' : World} {M : Nat} {rs : List ARow} {k : Nat} (h : MA w M rs k rs.length) (ho : Only S w w') (hn : ∀ k, blks M rs k → ¬ S k) : MA w' M rs k rs.length := by
  obtain ⟨cur, h1, h2⟩ := h.outer
  exact ⟨⟨cur, ho.blk h1 (hn _ (.inl rfl)), h2⟩, fun i hi => by
    obtain ⟨ds, h3, h4⟩ := h.done i hi
    exact ⟨ds, ho.blk h3 (hn _ (.inr ⟨_, nthA_mem hi, rfl⟩)), h4⟩, fun i hi hj => by omega⟩
theorem MA.grow {w w' : World} {M : Nat} {rs : List ARow} {k : Nat} (h : MA w M rs k rs.length) (hb : Below w.heap.size w w') : MA w' M rs k rs.length := h.only (S := fun _ => False) (Only.of hb) (fun _ _ h => h)

theorem fits_of {P : List PAl} (h : ∀ x ∈ P, FitA x) : FitsP P := fun i hi => by rw [nthP_eq hi]; exact h _ (List.getElem_mem _)
end Go.Proofs.Ytekcmpjjfnijmaa.ChnK
