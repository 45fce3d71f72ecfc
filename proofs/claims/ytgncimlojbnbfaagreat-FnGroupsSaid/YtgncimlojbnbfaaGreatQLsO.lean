/-
  PROVED: the contracts of laws.markAlarm and laws.heldAlarm: the marks are written into the alarm's labels alone, and found there.
  PROVED: the marks that markAlarmS writes over a row of alarms and heldAlarmS finds; the copy that toAlarmS makes, as a row.
  PROVED: the marks that markAlarmS writes over a row of alarms that begins at a place of its block, and heldAlarmS finds.
-/
import Derived.Test.YtgncimlojbnbfaaGreatQAlmM
import Derived.Test.YtgncimlojbnbfaaGreatQMark
import Derived.Test.YtgncimlojbnbfaaGreatQLst
set_option linter.unusedVariables false
namespace Go.Proofs.YtgncimlojbnbfaaGreat.AlmK
open Go.RowKit
open Labs LabS Alm Over Blk Go.Proofs.YtgncimlojbnbfaaGreat.Mark

end Go.Proofs.YtgncimlojbnbfaaGreat.AlmK
namespace Go.Proofs.YtgncimlojbnbfaaGreat.ChnK
open Go.RowKit
open Labs LabS Alms AlmM Over Blk App Rws
open AlmS ChnI ChnC ChnP
open Go.Proofs.YtgncimlojbnbfaaGreat.Mark (Apart Marked)
open StrB (retB)
open Alm (at_par)
open LabT (Held held_reads)
structure Only (S : Nat → Prop) (w w' : World) : Prop where
  os : w'.os = w.os
  tape : w'.tape = w.tape
  output : w'.output = w.output
  size : w.heap.size ≤ w'.heap.size
  block : ∀ k, k < w.heap.size → ¬ S k → w'.heap[k]? = w.heap[k]?
theorem Only.refl (S : Nat → Prop) (w : World) : Only S w w := ⟨rfl, rfl, rfl, Nat.le_refl _, fun _ _ _ => rfl⟩
theorem Only.trans {S : Nat → Prop} {a b c : World} (h : Only S a b) (k : Only S b c) : Only S a c :=
  ⟨k.os.trans h.os, k.tape.trans h.tape, k.output.trans h.output, Nat.le_trans h.size k.size, fun i hi hM => (k.block i (Nat.lt_of_lt_of_le hi h.size) hM).trans (h.block i hi hM)⟩
theorem Only.apart {S : Nat → Prop} {M : Nat} {w w' : World} (h : Apart M w w') (hM : S M) : Only S w w' := ⟨h.os, h.tape, h.output, h.size, fun k hk hn => h.block k hk (fun e => hn (by rw [e]; exact hM))⟩
theorem Only.set {S : Nat → Prop} {M : Nat} {a w : World} (h : Only S a w) (hM : S M) (i : Nat) (v : Value) : Only S a (w.setCell ⟨M, i, none⟩ v) :=
  h.trans (Only.apart ((Apart.refl M w).setCell i v) hM)
theorem Only.blk {S : Nat → Prop} {N : Nat} {w w' : World} {cs : Array Value} {T : TypeId} (h : Only S w w') (hb : Blk w N cs T) (hn : ¬ S N) : Blk w' N cs T := by
  have hlt := hb.lt
  unfold Blk at *
  rw [h.block N hlt hn]; exact hb
def blks (M : Nat) (rs : List ARow) (k : Nat) : Prop := k = M ∨ ∃ x ∈ rs, x.1 = k
theorem blks_high {lo : Nat} {w : World} {M c : Nat} {rs : List ARow} (h : AB lo w M c rs) (k : Nat) (hk : blks M rs k) : k < w.heap.size := by
  rcases hk with rfl | ⟨x, hx, rfl⟩
  · exact h.lt
  · exact (h.rows x hx).lt
def sumA : List ARow → Nat
  | [] => 0
  | x :: rs => 2 * x.2.2.l.length + 3 + sumA rs
def MarkA (cur : Array Value) (i z : Nat) : Prop := cur[i * 4 + 1]? = some (.int .i64 (z : Int)) ∧ cur[i * 4 + 2]? = some (.int .i64 ((z + 1 : Nat) : Int)) ∧ cur[i * 4 + 3]? = some (.string (Mark.mt (z + 2)))
structure MA (w : World) (M : Nat) (rs : List ARow) (k j : Nat) : Prop where
  outer : ∃ cur : Array Value, Blk w M cur 27 ∧ rs.length * 4 ≤ cur.size ∧ (∀ i, i < rs.length → cur[i * 4]? = some (.slice (some ⟨(nthA rs i).1, 0, none⟩) (nthA rs i).2.2.l.length (nthA rs i).2.1)) ∧ ∀ i, i < j → MarkA cur i (k + sumA (rs.take i) + 2 * (nthA rs i).2.2.l.length)
  done : ∀ i, i < j → ∃ ds : Array Value, Blk w (nthA rs i).1 ds 99 ∧ Marked ds (k + sumA (rs.take i)) (nthA rs i).2.2.l.length
  todo : ∀ i, j ≤ i → i < rs.length → ∃ ds : Array Value, Blk w (nthA rs i).1 ds 99 ∧ (nthA rs i).2.2.l.length * 2 ≤ ds.size
end Go.Proofs.YtgncimlojbnbfaaGreat.ChnK
namespace Go.Proofs.YtgncimlojbnbfaaGreat.ChnK
open Go.RowKit
open Labs LabS Alms AlmM Over Blk App Rws AlmS ChnI ChnC ChnP
open Go.Proofs.YtgncimlojbnbfaaGreat.Mark (Apart Marked)
open StrB (retB)
open Alm (at_par)
open LabT (Held held_reads)

structure AO (lo : Nat) (w : World) (M o : Nat) (rs : List ARow) : Prop where
  at' : lo ≤ M
  outer : ∃ cur : Array Value, Blk w M cur 27 ∧ o + rs.length * 4 ≤ cur.size ∧ ∀ i, i < rs.length → Four (fun k => cur[o + k]?) i (nthA rs i)
  rows : ∀ x ∈ rs, OwnA lo w x
  ne : rs.Pairwise fun x y => x.1 ≠ y.1
theorem AO.grow {lo : Nat} {w w' : World} {M o : Nat} {rs : List ARow} (h : AO lo w M o rs) (hb : Below w.heap.size w w') : AO lo w' M o rs := by
  obtain ⟨cur, h1, h2⟩ := h.outer
  exact ⟨h.at', ⟨cur, h1.grow hb, h2⟩, fun x hx => (h.rows x hx).grow hb, h.ne⟩
theorem AO.down {lo lo' : Nat} {w : World} {M o : Nat} {rs : List ARow} (h : AO lo w M o rs) (hl : lo' ≤ lo) : AO lo' w M o rs :=
  ⟨Nat.le_trans hl h.at', h.outer, fun x hx => (h.rows x hx).down hl, h.ne⟩
theorem AO.lt {lo : Nat} {w : World} {M o : Nat} {rs : List ARow} (h : AO lo w M o rs) : M < w.heap.size := by
  obtain ⟨cur, h1, _⟩ := h.outer
  exact h1.lt
theorem AO.rd {lo : Nat} {w : World} {M o : Nat} {rs : List ARow} (h : AO lo w M o rs) : RdN w (some ⟨M, o, none⟩) (pals rs) := by
  obtain ⟨cur, h1, h2, h3⟩ := h.outer
  refine .inr ⟨M, o, rfl, h1.lt, fun i hi => ?_⟩
  rw [pals_len] at hi
  obtain ⟨c0, c1, c2, c3⟩ := h3 i hi
  refine ⟨(nthA rs i).1, 0, (nthA rs i).2.1, ?_⟩
  rw [pals_nth hi]
  exact ⟨by rw [h1.cell]; exact c0, by rw [h1.cell]; exact c1, by rw [h1.cell]; exact c2, by rw [h1.cell]; exact c3, (h.rows _ (nthA_mem hi)).reads⟩
theorem AB.ao {lo : Nat} {w : World} {M c : Nat} {rs : List ARow} (h : AB lo w M c rs) : AO lo w M 0 rs := by
  obtain ⟨cur, h1, h2, h3⟩ := h.outer
  have hc := h.cap
  exact ⟨h.at', ⟨cur, h1, by omega, fun i hi => (h3 i hi).congr fun k _ _ => by show cur[0 + k]? = cur[k]?; rw [Nat.zero_add]⟩, h.rows, h.ne⟩
theorem ao_moved {lo : Nat} {w w' : World} {M o : Nat} {rs : List ARow} (h : AO lo w M o rs) (hm : Chs.Moved w w') : AO lo w' M o rs := by
  obtain ⟨cur, h1, h2⟩ := h.outer
  refine ⟨h.at', ⟨cur, hm.A h1, h2⟩, fun x hx => ?_, h.ne⟩
  obtain ⟨h0, h1, ds, h2, h3⟩ := h.rows x hx
  exact ⟨h0, h1, ds, hm.L h2, h3⟩
theorem ao_only {S : Nat → Prop} {lo : Nat} {w w' : World} {M o : Nat} {rs : List ARow} (h : AO lo w M o rs) (ho : Only S w w') (hn : ∀ k, blks M rs k → ¬ S k) : AO lo w' M o rs := by
  obtain ⟨cur, h1, h2⟩ := h.outer
  exact ⟨h.at', ⟨cur, ho.blk h1 (hn _ (.inl rfl)), h2⟩, fun x hx => by
    obtain ⟨k0, k1, ds, k2, k3⟩ := h.rows x hx
    exact ⟨k0, k1, ds, ho.blk k2 (hn _ (.inr ⟨x, hx, rfl⟩)), k3⟩, h.ne⟩
theorem aoblks_low {lo : Nat} {w : World} {M o : Nat} {rs : List ARow} (h : AO lo w M o rs) (k : Nat) (hk : blks M rs k) : lo ≤ k := by
  rcases hk with rfl | ⟨x, hx, rfl⟩
  · exact h.at'
  · exact (h.rows x hx).1
theorem aoblks_high {lo : Nat} {w : World} {M o : Nat} {rs : List ARow} (h : AO lo w M o rs) (k : Nat) (hk : blks M rs k) : k < w.heap.size := by
  rcases hk with rfl | ⟨x, hx, rfl⟩
  · exact h.lt
  · exact (h.rows x hx).lt
end Go.Proofs.YtgncimlojbnbfaaGreat.ChnK
