/-
  PROVED: over a chain in memory impl.DropOver answers as two plain functions on lists say, in memory of its own; nothing that was there is changed.
-/
import Derived.Test.YtdbmpaocfmhlhabChnP
namespace Go.Proofs.Ytdbmpaocfmhlhab.ChnD
open Go.RowKit
open Go.Proofs.Ytdbmpaocfmhlhab.Labs Go.Proofs.Ytdbmpaocfmhlhab.LabS Go.Proofs.Ytdbmpaocfmhlhab.Alms Go.Proofs.Ytdbmpaocfmhlhab.AlmS Go.Proofs.Ytdbmpaocfmhlhab.AlmM Go.Proofs.Ytdbmpaocfmhlhab.Over Go.Proofs.Ytdbmpaocfmhlhab.Blk Go.Proofs.Ytdbmpaocfmhlhab.Rnd Go.Proofs.Ytdbmpaocfmhlhab.Plc Go.Proofs.Ytdbmpaocfmhlhab.Lop Go.Proofs.Ytdbmpaocfmhlhab.App Go.Proofs.Ytdbmpaocfmhlhab.Rws Go.Proofs.Ytdbmpaocfmhlhab.ChnI Go.Proofs.Ytdbmpaocfmhlhab.ChnC Go.Proofs.Ytdbmpaocfmhlhab.ChnP
set_option linter.unusedVariables false
attribute [local go_sem] Oper.semAt_some

/-- two rows of alarms, apart -/
structure Two (lo : Nat) (w : World) (M1 c1 : Nat) (rs1 : List ARow) (M2 c2 : Nat) (rs2 : List ARow) : Prop where
  a : AB lo w M1 c1 rs1
  b : AB lo w M2 c2 rs2
  ne : M1 ≠ M2
  far : ∀ x ∈ rs1, ∀ y ∈ rs2, x.1 ≠ y.1
theorem Two.symm {lo : Nat} {w : World} {M1 c1 : Nat} {rs1 : List ARow} {M2 c2 : Nat} {rs2 : List ARow} (h : Two lo w M1 c1 rs1 M2 c2 rs2) : Two lo w M2 c2 rs2 M1 c1 rs1 := ⟨h.b, h.a, fun e => h.ne e.symm, fun x hx y hy e => h.far y hy x hx e.symm⟩
theorem Two.grow {lo : Nat} {w w' : World} {M1 c1 : Nat} {rs1 : List ARow} {M2 c2 : Nat} {rs2 : List ARow} (h : Two lo w M1 c1 rs1 M2 c2 rs2) (hb : Below w.heap.size w w') : Two lo w' M1 c1 rs1 M2 c2 rs2 := ⟨h.a.grow hb, h.b.grow hb, h.ne, h.far⟩
theorem Two.down {lo lo' : Nat} {w : World} {M1 c1 : Nat} {rs1 : List ARow} {M2 c2 : Nat} {rs2 : List ARow} (h : Two lo w M1 c1 rs1 M2 c2 rs2) (hl : lo' ≤ lo) : Two lo' w M1 c1 rs1 M2 c2 rs2 := ⟨h.a.down hl, h.b.down hl, h.ne, h.far⟩
theorem Two.moved {lo : Nat} {w w' : World} {M1 c1 : Nat} {rs1 : List ARow} {M2 c2 : Nat} {rs2 : List ARow} (h : Two lo w M1 c1 rs1 M2 c2 rs2) (hA : ∀ {k : Nat} {cs : Array Value}, Blk w k cs 46 → Blk w' k cs 46) (hL : ∀ {k : Nat} {cs : Array Value}, Blk w k cs 63 → Blk w' k cs 63) : Two lo w' M1 c1 rs1 M2 c2 rs2 :=
  ⟨ab_moved h.a (fun k => hA k) (fun k => hL k), ab_moved h.b (fun k => hA k) (fun k => hL k), h.ne, h.far⟩
theorem Two.app {lo : Nat} {W w' : World} {M1 c1 : Nat} {rs1 : List ARow} {M2 c2 : Nat} {rs2 : List ARow} {x : ARow} {xs : List Value} {v' : Value} (h : Two lo W M1 c1 rs1 M2 c2 rs2) (hx : OwnA lo W x) (hn1 : ∀ y ∈ rs1, y.1 ≠ x.1) (hn2 : ∀ y ∈ rs2, y.1 ≠ x.1) (hl : xs.length = rs1.length * 4) (hxs : ∀ i, i < rs1.length → Four (fun k => xs[k]?) i (nthA rs1 i))
    (hown : w'.ownsRow lo 46 4 v' (rs1.length + 1) (xs ++ rowV x)) (hg : W.grownBy w' (some M1)) (hat : v'.ownBlock = some M1 ∨ v'.ownBlock = some W.heap.size) : ∃ M' c', v' = .slice (some ⟨M', 0, none⟩) (rs1.length + 1) c' ∧ Two lo w' M' c' (rs1 ++ [x]) M2 c2 rs2 := by
  obtain ⟨M', c', e, hab⟩ := h.a.app hx hn1 hl hxs hown hg
  have hlt := h.b.lt
  obtain ⟨cu, hcu, _⟩ := h.a.outer
  refine ⟨M', c', e, hab, ab_moved h.b (fun k => blk_far k hg (fun e => h.ne (Option.some.inj e).symm)) (fun k => blk_far k hg (fun e => blkA_ne hcu k (Option.some.inj e).symm)), fun q => ?_, fun y hy z hz => ?_⟩
  · subst e
    simp only [Value.ownBlock] at hat
    rcases hat with hat | hat
    · exact h.ne ((Option.some.inj hat).symm.trans q)
    · have := Option.some.inj hat
      omega
  · rcases List.mem_append.1 hy with hy | hy
    · exact h.far y hy z hz
    · rw [List.mem_singleton.1 hy]
      exact fun e => hn2 z hz e.symm

/-- those that are over, and those that are not, of what has come -/
def leftF (P : List PAl) (now : Int) (pre : List (Fin P.length)) : List PAl := (pre.map fun x => nthP P x.1).filter fun x => !overB x.e now
def goneF (P : List PAl) (now : Int) (pre : List (Fin P.length)) : List PAl := (pre.map fun x => nthP P x.1).filter fun x => overB x.e now
theorem come_all {P : List PAl} {xs : List (Fin P.length)} (h : InTurn xs) (hl : xs.length = P.length) : (xs.map fun x => nthP P x.1) = P := by
  apply List.ext_getElem
  · simpa using hl
  · intro i h1 h2
    simp only [List.getElem_map]
    rw [h i (by simpa using h1), nthP_eq h2]
theorem left_all {P : List PAl} {now : Int} {xs : List (Fin P.length)} (h : InTurn xs) (hl : xs.length = P.length) : leftF P now xs = leftTo P now P.length := by
  unfold leftF leftTo
  rw [come_all h hl, List.take_length]
theorem gone_all {P : List PAl} {now : Int} {xs : List (Fin P.length)} (h : InTurn xs) (hl : xs.length = P.length) : goneF P now xs = goneTo P now P.length := by
  unfold goneF goneTo
  rw [come_all h hl, List.take_length]
theorem left_y {P : List PAl} {now : Int} {pre : List (Fin P.length)} {x : Fin P.length} (h : overB (nthP P x.1).e now = true) : leftF P now (pre ++ [x]) = leftF P now pre ∧ goneF P now (pre ++ [x]) = goneF P now pre ++ [nthP P x.1] := by simp [leftF, goneF, h]
theorem left_n {P : List PAl} {now : Int} {pre : List (Fin P.length)} {x : Fin P.length} (h : overB (nthP P x.1).e now = false) : leftF P now (pre ++ [x]) = leftF P now pre ++ [nthP P x.1] ∧ goneF P now (pre ++ [x]) = goneF P now pre := by simp [leftF, goneF, h]
theorem left_le {P : List PAl} (now : Int) (pre : List (Fin P.length)) : (leftF P now pre).length ≤ pre.length := by unfold leftF; exact Nat.le_trans (List.length_filter_le _ _) (by simp)
theorem gone_le {P : List PAl} (now : Int) (pre : List (Fin P.length)) : (goneF P now pre).length ≤ pre.length := by unfold goneF; exact Nat.le_trans (List.length_filter_le _ _) (by simp)
theorem list_label {w : World} {a b : Nat} {cs ds : Array Value} (h : Blk w a cs 26) (k : Blk w b ds 63) : a ≠ b := fun e => by
  subst e
  unfold Blk at h k
  rw [h] at k
  injection k with k
  injection k with _ k
  exact absurd k (by decide)
theorem list_alarm {w : World} {a b : Nat} {cs ds : Array Value} (h : Blk w a cs 26) (k : Blk w b ds 46) : a ≠ b := fun e => by
  subst e
  unfold Blk at h k
  rw [h] at k
  injection k with k
  injection k with _ k
  exact absurd k (by decide)
/-- what is so between two rounds -/
structure Mid (w W0 : World) (f now : Int) (W : World) (M1 c1 : Nat) (rs1 : List ARow) (M2 c2 : Nat) (rs2 : List ARow) : Prop where
  two : Two w.heap.size W M1 c1 rs1 M2 c2 rs2
  low : w.heap.size + 3 ≤ M1 ∧ w.heap.size + 3 ≤ M2
  bnow : Blk W (w.heap.size + 1) #[.int .i64 now] 3
  bres : Blk W (w.heap.size + 1 + 1) #[.int .i64 0, .slice none 0 0] 40
  bleft : Blk W (w.heap.size + 1 + 1 + 1 + 1 + 1) #[.int .i64 f, .slice (some ⟨M1, 0, none⟩) rs1.length c1] 40
  bover : Blk W (w.heap.size + 1 + 1 + 1 + 1 + 1 + 1) #[.slice (some ⟨M2, 0, none⟩) rs2.length c2] 26
  below : Below w.heap.size w W
  size : W0.heap.size ≤ W.heap.size
theorem Mid.grow {w W0 : World} {f now : Int} {W W' : World} {M1 c1 : Nat} {rs1 : List ARow} {M2 c2 : Nat} {rs2 : List ARow} (h : Mid w W0 f now W M1 c1 rs1 M2 c2 rs2) (hb : Below W.heap.size W W') : Mid w W0 f now W' M1 c1 rs1 M2 c2 rs2 :=
  ⟨h.two.grow hb, h.low, h.bnow.grow hb, h.bres.grow hb, h.bleft.grow hb, h.bover.grow hb, grow_on h.below hb, Nat.le_trans h.size hb.size⟩
theorem Mid.turn {w W0 : World} {f now : Int} {W W' : World} {M1 c1 : Nat} {rs1 : List ARow} {M2 c2 : Nat} {rs2 : List ARow} (h : Mid w W0 f now W M1 c1 rs1 M2 c2 rs2) (hw : w.heap.size ≤ W0.heap.size) (ht : Turn W0.heap.size W W') : Mid w W0 f now W' M1 c1 rs1 M2 c2 rs2 :=
  ⟨h.two.moved (fun k => ht.blk k) (fun k => ht.blk k), h.low, ht.blk h.bnow, ht.blk h.bres, ht.blk h.bleft, ht.blk h.bover, ht.below (Nat.le_refl _) hw h.below, Nat.le_trans h.size ht.size⟩
theorem mid_low {M M' : Nat} {v' : Value} {W : World} {n c : Nat} {lo : Nat} (h : v'.ownBlock = some M ∨ v'.ownBlock = some W.heap.size) (e : v' = .slice (some ⟨M', 0, none⟩) n c) (hM : lo ≤ M) (hW : lo ≤ W.heap.size) : lo ≤ M' := by
  subst e
  simp only [Value.ownBlock] at h
  rcases h with h | h
  · rw [Option.some.inj h]; exact hM
  · rw [Option.some.inj h]; exact hW
end Go.Proofs.Ytdbmpaocfmhlhab.ChnD
