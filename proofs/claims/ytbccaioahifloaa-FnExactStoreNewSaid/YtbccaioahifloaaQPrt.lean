/-
  PROVED: over any string spec.Sum and impl.Sum answer alike, as a plain function on its bytes says, between nought and 2 to the 32; spec.PartOf and impl.PartOf answer the remainder, nought at wrong input; nothing is changed.
  PROVED: over a slice of labels in memory spec.Finger and impl.Finger answer alike, between nought and 31, as a plain function says; so do spec.Alike and impl.Alike over two; nothing that was there is changed.
  PROVED: over a chain in memory impl.ChainOk answers as a plain function on lists says; nothing that was there is changed.
  PROVED: over chains in memory spec.InChain, spec.ChainOk, spec.SameChain and impl.SameChain answer as plain functions on lists say; nothing that was there is changed.
  PROVED: over two chains in memory spec.SameChain and impl.SameChain answer alike, as a plain function on lists says; spec.l4All and spec.l6Copy give the same alarms in memory of their own; nothing that was there is changed.
  PROVED: over chains in memory spec.l6Copy, spec.PutChain and spec.DropOver answer as plain functions on lists say, in memory of their own; nothing that was there is changed.
  PROVED: over a chain in memory spec.DropOver answers as two plain functions on lists say, in memory of its own; nothing that was there is changed.
  PROVED: the contracts of what the exact laws call over chains: the size that szChain counts, the copy that toChain makes, that eqChain finds two of the same alike, the marks that markAlarmS writes and heldAlarmS finds; what a chain that came in is.
  PROVED: slices of chains: what one that came in is; the size that szChainS and szPart count, the copy that toChainS and toPart make, that eqChainS and eqPart find two of the same alike; rows of chains in memory of a call's own, read, grown by an append, written at a place.
  PROVED: parts: what one that came in is; the copy that toPart makes, that eqChainS and eqPart find two of the same alike.
-/
import Derived.Test.YtbccaioahifloaaQTextS
import Derived.Laws.BitsAllLaws
import Derived.Test.YtbccaioahifloaaQTextI
import Derived.Test.YtbccaioahifloaaQChnI
import Derived.Test.YtbccaioahifloaaQChnD
import Derived.Test.YtbccaioahifloaaQAlmK
namespace Go.Proofs.Ytbccaioahifloaa.Sums
open Go.RowKit
open Go.Proofs.Ytbccaioahifloaa.SetP (bs)
set_option linter.unusedVariables false

def stepU (h : Nat) (c : UInt8) : Nat := ((h ^^^ c.toNat) * 16777619) % 4294967296
def sumB (s : ByteArray) : Nat := (bs s).foldl stepU 2166136261
/-- the part of a finger -/
def partB (f n : Int) : Int := if n < 1 ∨ f < 0 then 0 else f % n
end Go.Proofs.Ytbccaioahifloaa.Sums
namespace Go.Proofs.Ytbccaioahifloaa.Fing
open Go.RowKit
open Go.Proofs.Ytbccaioahifloaa.Labs Go.Proofs.Ytbccaioahifloaa.LabS Go.Proofs.Ytbccaioahifloaa.LabO Go.Proofs.Ytbccaioahifloaa.SetP Go.Proofs.Ytbccaioahifloaa.TextS Go.Proofs.Ytbccaioahifloaa.TextI Go.Proofs.Ytbccaioahifloaa.Sums
open Go.Proofs.Ytbccaioahifloaa.Over
set_option linter.unusedVariables false

def foldB (x : Nat) : Nat := (x ^^^ (x / 65536)) % 32
def fingerB (l : List Lab) : Nat := foldB (sumB (setText l))
theorem retB {a b : Bool} (h : a = b) : Ending.returned (.bool a) = .returned (.bool b) := by rw [h]
end Go.Proofs.Ytbccaioahifloaa.Fing
namespace Go.Proofs.Ytbccaioahifloaa.ChnO
open Go.RowKit
open Go.Proofs.Ytbccaioahifloaa.Labs Go.Proofs.Ytbccaioahifloaa.LabS Go.Proofs.Ytbccaioahifloaa.Alms Go.Proofs.Ytbccaioahifloaa.AlmS Go.Proofs.Ytbccaioahifloaa.Over Go.Proofs.Ytbccaioahifloaa.Blk Go.Proofs.Ytbccaioahifloaa.Rnd Go.Proofs.Ytbccaioahifloaa.Plc Go.Proofs.Ytbccaioahifloaa.Lop Go.Proofs.Ytbccaioahifloaa.App Go.Proofs.Ytbccaioahifloaa.Rws Go.Proofs.Ytbccaioahifloaa.ChnI
open Go.Proofs.Ytbccaioahifloaa.Fing (fingerB)
open Go.Proofs.Ytbccaioahifloaa.StrB (retB)
set_option linter.unusedVariables false
attribute [local go_sem] Oper.semAt_some

end Go.Proofs.Ytbccaioahifloaa.ChnO
namespace Go.Proofs.Ytbccaioahifloaa.ChnS
open Go.RowKit
open Go.Proofs.Ytbccaioahifloaa.Labs Go.Proofs.Ytbccaioahifloaa.LabS Go.Proofs.Ytbccaioahifloaa.Alms Go.Proofs.Ytbccaioahifloaa.AlmS Go.Proofs.Ytbccaioahifloaa.Over Go.Proofs.Ytbccaioahifloaa.Blk Go.Proofs.Ytbccaioahifloaa.Rws Go.Proofs.Ytbccaioahifloaa.ChnI Go.Proofs.Ytbccaioahifloaa.ChnO
open Go.Proofs.Ytbccaioahifloaa.Fing (fingerB)
open Go.Proofs.Ytbccaioahifloaa.StrB (retB)
open Go.Proofs.Ytbccaioahifloaa.Alm (at_par)
set_option linter.unusedVariables false

end Go.Proofs.Ytbccaioahifloaa.ChnS
namespace Go.Proofs.Ytbccaioahifloaa.ChnT
open Go.RowKit
open Go.Proofs.Ytbccaioahifloaa.Labs Go.Proofs.Ytbccaioahifloaa.LabS Go.Proofs.Ytbccaioahifloaa.Alms Go.Proofs.Ytbccaioahifloaa.AlmS Go.Proofs.Ytbccaioahifloaa.AlmM Go.Proofs.Ytbccaioahifloaa.Over Go.Proofs.Ytbccaioahifloaa.Blk Go.Proofs.Ytbccaioahifloaa.App Go.Proofs.Ytbccaioahifloaa.Rws Go.Proofs.Ytbccaioahifloaa.ChnI Go.Proofs.Ytbccaioahifloaa.ChnC Go.Proofs.Ytbccaioahifloaa.ChnP Go.Proofs.Ytbccaioahifloaa.ChnD Go.Proofs.Ytbccaioahifloaa.ChnS
open Go.Proofs.Ytbccaioahifloaa.StrB (retB)
open Go.Proofs.Ytbccaioahifloaa.Alm (at_par)
set_option linter.unusedVariables false

end Go.Proofs.Ytbccaioahifloaa.ChnT
namespace Go.Proofs.Ytbccaioahifloaa.ChnU
open Go.RowKit
open Go.Proofs.Ytbccaioahifloaa.Labs Go.Proofs.Ytbccaioahifloaa.LabS Go.Proofs.Ytbccaioahifloaa.Alms Go.Proofs.Ytbccaioahifloaa.AlmS Go.Proofs.Ytbccaioahifloaa.AlmM Go.Proofs.Ytbccaioahifloaa.Over Go.Proofs.Ytbccaioahifloaa.Blk Go.Proofs.Ytbccaioahifloaa.App Go.Proofs.Ytbccaioahifloaa.Rws Go.Proofs.Ytbccaioahifloaa.ChnI Go.Proofs.Ytbccaioahifloaa.ChnC Go.Proofs.Ytbccaioahifloaa.ChnP Go.Proofs.Ytbccaioahifloaa.ChnD Go.Proofs.Ytbccaioahifloaa.ChnS Go.Proofs.Ytbccaioahifloaa.ChnT
set_option linter.unusedVariables false

end Go.Proofs.Ytbccaioahifloaa.ChnU
namespace Go.Proofs.Ytbccaioahifloaa.ChnV
open Go.RowKit
open Go.Proofs.Ytbccaioahifloaa.Labs Go.Proofs.Ytbccaioahifloaa.LabS Go.Proofs.Ytbccaioahifloaa.Alms Go.Proofs.Ytbccaioahifloaa.AlmS Go.Proofs.Ytbccaioahifloaa.AlmM Go.Proofs.Ytbccaioahifloaa.Over Go.Proofs.Ytbccaioahifloaa.Blk Go.Proofs.Ytbccaioahifloaa.App Go.Proofs.Ytbccaioahifloaa.Rws Go.Proofs.Ytbccaioahifloaa.ChnI Go.Proofs.Ytbccaioahifloaa.ChnC Go.Proofs.Ytbccaioahifloaa.ChnP Go.Proofs.Ytbccaioahifloaa.ChnD
set_option linter.unusedVariables false

/-- what is so between two rounds -/
structure MidS (w : World) (f : Int) (a : Option Addr) (n cap : Nat) (W : World) (M1 c1 : Nat) (rs1 : List ARow) (M2 c2 : Nat) (rs2 : List ARow) : Prop where
  two : Two w.heap.size W M1 c1 rs1 M2 c2 rs2
  low : w.heap.size + 2 ≤ M1 ∧ w.heap.size + 2 ≤ M2
  bch : Blk W w.heap.size #[.int .i64 f, .slice a n cap] 77
  bres : Blk W (w.heap.size + 1) #[.int .i64 0, .slice none 0 0] 77
  bleft : Blk W (w.heap.size + 1 + 1 + 1) #[.int .i64 f, .slice (some ⟨M1, 0, none⟩) rs1.length c1] 77
  below : Below w.heap.size w W
theorem MidS.grow {w : World} {f : Int} {a : Option Addr} {n cap : Nat} {W W' : World} {M1 c1 : Nat} {rs1 : List ARow} {M2 c2 : Nat} {rs2 : List ARow} (h : MidS w f a n cap W M1 c1 rs1 M2 c2 rs2) (hb : Below W.heap.size W W') : MidS w f a n cap W' M1 c1 rs1 M2 c2 rs2 :=
  ⟨h.two.grow hb, h.low, h.bch.grow hb, h.bres.grow hb, h.bleft.grow hb, grow_on h.below hb⟩
end Go.Proofs.Ytbccaioahifloaa.ChnV
namespace Go.Proofs.Ytbccaioahifloaa.ChnK
open Go.RowKit
open Go.ChangeShapes Go.WideShapes
open Go.Proofs.Ytbccaioahifloaa.Labs Go.Proofs.Ytbccaioahifloaa.LabS Go.Proofs.Ytbccaioahifloaa.Alms Go.Proofs.Ytbccaioahifloaa.AlmS Go.Proofs.Ytbccaioahifloaa.AlmM Go.Proofs.Ytbccaioahifloaa.Over Go.Proofs.Ytbccaioahifloaa.Blk Go.Proofs.Ytbccaioahifloaa.App Go.Proofs.Ytbccaioahifloaa.Rws Go.Proofs.Ytbccaioahifloaa.ChnC Go.Proofs.Ytbccaioahifloaa.ChnP Go.Proofs.Ytbccaioahifloaa.ChnD
open Go.Proofs.Ytbccaioahifloaa.Mark (Apart Marked)
open Go.Proofs.Ytbccaioahifloaa.StrB (retB)
open Go.Proofs.Ytbccaioahifloaa.Alm (at_par)
open Go.Proofs.Ytbccaioahifloaa.LabT (Held held_reads)
set_option linter.unusedVariables false

/-- what was there is as it was, but for the blocks of S -/
structure Only (S : Nat → Prop) (w w' : World) : Prop where
  os : w'.os = w.os
  tape : w'.tape = w.tape
  output : w'.output = w.output
  size : w.heap.size ≤ w'.heap.size
  block : ∀ k, k < w.heap.size → ¬ S k → w'.heap[k]? = w.heap[k]?
theorem Only.refl (S : Nat → Prop) (w : World) : Only S w w := ⟨rfl, rfl, rfl, Nat.le_refl _, fun _ _ _ => rfl⟩
theorem Only.trans {S : Nat → Prop} {a b c : World} (h : Only S a b) (k : Only S b c) : Only S a c :=
  ⟨k.os.trans h.os, k.tape.trans h.tape, k.output.trans h.output, Nat.le_trans h.size k.size, fun i hi hM => (k.block i (Nat.lt_of_lt_of_le hi h.size) hM).trans (h.block i hi hM)⟩
theorem Only.of {S : Nat → Prop} {w w' : World} (h : Below w.heap.size w w') : Only S w w' := ⟨h.os, h.tape, h.output, h.size, fun k hk _ => h.block k hk⟩
theorem Only.below {S : Nat → Prop} {a b c : World} (h : Only S a b) (k : Below b.heap.size b c) : Only S a c := h.trans (Only.of k)
theorem Only.apart {S : Nat → Prop} {M : Nat} {w w' : World} (h : Apart M w w') (hM : S M) : Only S w w' := ⟨h.os, h.tape, h.output, h.size, fun k hk hn => h.block k hk (fun e => hn (by rw [e]; exact hM))⟩
theorem Only.set {S : Nat → Prop} {M : Nat} {a w : World} (h : Only S a w) (hM : S M) (i : Nat) (v : Value) : Only S a (w.setCell ⟨M, i, none⟩ v) :=
  h.trans (Only.apart ((Apart.refl M w).setCell i v) hM)
theorem Only.low {S : Nat → Prop} {B : Nat} {w w' : World} (h : Only S w w') (hB : ∀ k, S k → B ≤ k) (hw : B ≤ w.heap.size) : Below B w w' :=
  ⟨h.os, h.tape, h.output, h.size, fun k hk => h.block k (by omega) (fun hs => by have := hB k hs; omega)⟩
theorem Only.blk {S : Nat → Prop} {N : Nat} {w w' : World} {cs : Array Value} {T : TypeId} (h : Only S w w') (hb : Blk w N cs T) (hn : ¬ S N) : Blk w' N cs T := by
  have hlt := hb.lt
  unfold Blk at *
  rw [h.block N hlt hn]; exact hb
/-- the blocks of a row of alarms -/
def blks (M : Nat) (rs : List ARow) (k : Nat) : Prop := k = M ∨ ∃ x ∈ rs, x.1 = k
theorem blks_low {lo : Nat} {w : World} {M c : Nat} {rs : List ARow} (h : AB lo w M c rs) (k : Nat) (hk : blks M rs k) : lo ≤ k := by
  rcases hk with rfl | ⟨x, hx, rfl⟩
  · exact h.at'
  · exact (h.rows x hx).1
theorem blks_high {lo : Nat} {w : World} {M c : Nat} {rs : List ARow} (h : AB lo w M c rs) (k : Nat) (hk : blks M rs k) : k < w.heap.size := by
  rcases hk with rfl | ⟨x, hx, rfl⟩
  · exact h.lt
  · exact (h.rows x hx).lt
theorem ab_only {S : Nat → Prop} {lo : Nat} {w w' : World} {M c : Nat} {rs : List ARow} (h : AB lo w M c rs) (ho : Only S w w') (hn : ∀ k, blks M rs k → ¬ S k) : AB lo w' M c rs := by
  obtain ⟨cur, h1, h2⟩ := h.outer
  exact ⟨h.at', h.cap, ⟨cur, ho.blk h1 (hn _ (.inl rfl)), h2⟩, fun x hx => by
    obtain ⟨k0, k1, ds, k2, k3⟩ := h.rows x hx
    exact ⟨k0, k1, ds, ho.blk k2 (hn _ (.inr ⟨x, hx, rfl⟩)), k3⟩, h.ne⟩

/-- how many marks they take, together -/
def sumA : List ARow → Nat
  | [] => 0
  | x :: rs => 2 * x.2.2.l.length + 3 + sumA rs
theorem sumA_app (p q : List ARow) : sumA (p ++ q) = sumA p + sumA q := by
  induction p with
  | nil => simp [sumA]
  | cons x p ih => rw [List.cons_append, sumA, ih, sumA]; omega
theorem takeA_up {rs : List ARow} {k : Nat} (h : k < rs.length) : rs.take (k + 1) = rs.take k ++ [nthA rs k] := by
  rw [nthA_eq h, List.take_succ_eq_append_getElem h]
theorem sumA_up {rs : List ARow} {k : Nat} (h : k < rs.length) : sumA (rs.take (k + 1)) = sumA (rs.take k) + 2 * (nthA rs k).2.2.l.length + 3 := by
  rw [takeA_up h, sumA_app]; simp [sumA]; omega
theorem sumA_all {rs : List ARow} {k : Nat} (h : rs.length ≤ k) : sumA (rs.take k) = sumA rs := by rw [List.take_of_length_le h]
theorem sumA_le (rs : List ARow) (k : Nat) : sumA (rs.take k) ≤ sumA rs := by
  have := sumA_app (rs.take k) (rs.drop k)
  rw [List.take_append_drop] at this
  omega
theorem sumA_pals (rs : List ARow) : sumA rs = 2 * sumL (pals rs) + 3 * rs.length := by
  induction rs with
  | nil => rfl
  | cons x rs ih => rw [sumA, ih]; show _ = 2 * (x.2.2.l.length + sumL (pals rs)) + 3 * (rs.length + 1); omega

theorem inc_ne {rs : List ARow} (h : rs.Pairwise fun x y => x.1 ≠ y.1) {i j : Nat} (hi : i < rs.length) (hj : j < rs.length) (hne : i ≠ j) : (nthA rs i).1 ≠ (nthA rs j).1 := by
  rw [List.pairwise_iff_getElem] at h
  rw [nthA_eq hi, nthA_eq hj]
  rcases Nat.lt_or_gt_of_ne hne with hlt | hlt
  · exact h i j hi hj hlt
  · exact fun e => h j i hj hi hlt e.symm
/-- what the i-th one's other cells hold when it is marked -/
def MarkA (cur : Array Value) (i z : Nat) : Prop := cur[i * 4 + 1]? = some (.int .i64 (z : Int)) ∧ cur[i * 4 + 2]? = some (.int .i64 ((z + 1 : Nat) : Int)) ∧ cur[i * 4 + 3]? = some (.string (Mark.mt (z + 2)))
/-- the alarms while they are marked: the first j are -/
structure MA (w : World) (M : Nat) (rs : List ARow) (k j : Nat) : Prop where
  outer : ∃ cur : Array Value, Blk w M cur 40 ∧ rs.length * 4 ≤ cur.size ∧ (∀ i, i < rs.length → cur[i * 4]? = some (.slice (some ⟨(nthA rs i).1, 0, none⟩) (nthA rs i).2.2.l.length (nthA rs i).2.1)) ∧ ∀ i, i < j → MarkA cur i (k + sumA (rs.take i) + 2 * (nthA rs i).2.2.l.length)
  done : ∀ i, i < j → ∃ ds : Array Value, Blk w (nthA rs i).1 ds 67 ∧ Marked ds (k + sumA (rs.take i)) (nthA rs i).2.2.l.length
  todo : ∀ i, j ≤ i → i < rs.length → ∃ ds : Array Value, Blk w (nthA rs i).1 ds 67 ∧ (nthA rs i).2.2.l.length * 2 ≤ ds.size
theorem AB.ma {lo : Nat} {w : World} {M c : Nat} {rs : List ARow} (h : AB lo w M c rs) (k : Nat) : MA w M rs k 0 := by
  obtain ⟨cur, h1, h2, h3⟩ := h.outer
  have hc := h.cap
  exact ⟨⟨cur, h1, by omega, fun i hi => (h3 i hi).1, fun i hi => by omega⟩, fun i hi => by omega, fun i _ hi => by
    obtain ⟨_, _, ds, k2, k3, _⟩ := h.rows _ (nthA_mem hi)
    exact ⟨ds, k2, k3⟩⟩
theorem MA.only {S : Nat → Prop} {w w' : World} {M : Nat} {rs : List ARow} {k : Nat} (h : MA w M rs k rs.length) (ho : Only S w w') (hn : ∀ k, blks M rs k → ¬ S k) : MA w' M rs k rs.length := by
  obtain ⟨cur, h1, h2⟩ := h.outer
  exact ⟨⟨cur, ho.blk h1 (hn _ (.inl rfl)), h2⟩, fun i hi => by
    obtain ⟨ds, h3, h4⟩ := h.done i hi
    exact ⟨ds, ho.blk h3 (hn _ (.inr ⟨_, nthA_mem hi, rfl⟩)), h4⟩, fun i hi hj => by omega⟩
theorem MA.grow {w w' : World} {M : Nat} {rs : List ARow} {k : Nat} (h : MA w M rs k rs.length) (hb : Below w.heap.size w w') : MA w' M rs k rs.length := h.only (S := fun _ => False) (Only.of hb) (fun _ _ h => h)

set_option maxHeartbeats 1600000 in
theorem markS_any (M c k lo cap : Nat) (rs : List ARow) (w : World) (hAB : AB lo w M c rs) (hl : rs.length ≤ 2000000) (hk : 1 ≤ k) (hk2 : k + sumA rs ≤ 9000000) :
    Calls Try.prog 55 #[.slice (some ⟨M, 0, none⟩) rs.length cap, .int .i64 k] w fun e w' => e = .returned (.int .i64 ((k + sumA rs : Nat) : Int)) ∧ MA w' M rs k rs.length ∧ Only (blks M rs) w w' := by
  have HM : Hid (MA w M rs k 0) := AB.ma hAB k
  have HN : Hid ((rs.Pairwise fun x y => x.1 ≠ y.1) ∧ k + sumA rs ≤ 9000000 ∧ ∀ x ∈ rs, x.2.2.l.length ≤ 1048576) := ⟨hAB.ne, hk2, fun x hx => (hAB.rows x hx).2.1⟩
  clear hAB hk2
  go_enter Try.func55, Try.ntmps55
  go_wp2
  go_loopw [1, 5] (fun x i w' => ∃ j : Nat, j ≤ rs.length ∧ i = .int .i64 j ∧ x = .int .i64 ((k + sumA (rs.take j) : Nat) : Int) ∧ MA w' M rs k j ∧ Only (blks M rs) w w') (fun _ i _ => rs.length - (intOf i).toNat)
  case atStart => exact ⟨0, Nat.zero_le _, rfl, rfl, HM.out, Only.refl _ _⟩
  case round =>
    obtain ⟨j, hj, rfl, rfl, hm, ha⟩ := hrel
    have HM1 : Hid (MA wr M rs k j) := hm
    have HA : Hid (Only (blks M rs) w wr) := ha
    clear hm ha
    by_cases hlt : j < rs.length
    · have hlt' : (j : Int) < (rs.length : Int) := by omega
      have HU : Hid (k + sumA (rs.take (j + 1)) = k + sumA (rs.take j) + 2 * (nthA rs j).2.2.l.length + 3) := by have := sumA_up hlt; show _ = _; omega
      have hzb : k + sumA (rs.take (j + 1)) ≤ 9000000 := by have := sumA_le rs (j + 1); have := HN.out.2.1; omega
      obtain ⟨cur, ho, hos, hc, hdn⟩ := HM1.out.outer
      have c0 : wr.cell? ⟨M, j * 4, none⟩ = some (.slice (some ⟨(nthA rs j).1, 0, none⟩) (nthA rs j).2.2.l.length (nthA rs j).2.1) := (ho.cell _).trans (hc j hlt)
      obtain ⟨ds, hd, hds⟩ := HM1.out.todo j (Nat.le_refl _) hlt
      have hlen : (nthA rs j).2.2.l.length ≤ 1048576 := HN.out.2.2 _ (nthA_mem hlt)
      have HO : Hid (Blk wr M cur 40 ∧ rs.length * 4 ≤ cur.size ∧ (∀ i, i < rs.length → cur[i * 4]? = some (.slice (some ⟨(nthA rs i).1, 0, none⟩) (nthA rs i).2.2.l.length (nthA rs i).2.1)) ∧ ∀ i, i < j → MarkA cur i (k + sumA (rs.take i) + 2 * (nthA rs i).2.2.l.length)) := ⟨ho, hos, hc, hdn⟩
      generalize hz : k + sumA (rs.take j) = z at *
      have HZ : Hid (k + sumA (rs.take j) = z) := hz
      have hz1 : 1 ≤ z := by omega
      have hz2 : z ≤ 9000000 := by have := HU.out; omega
      have HC : Hid (Calls Try.prog 24 #[.slice (some ⟨(nthA rs j).1, 0, none⟩) (nthA rs j).2.2.l.length (nthA rs j).2.1, .int .i64 (z : Int)] wr fun e w' => e = .returned (.int .i64 ((z + 2 * (nthA rs j).2.2.l.length : Nat) : Int)) ∧ (∃ cs' : Array Value, Blk w' (nthA rs j).1 cs' 67 ∧ cs'.size = ds.size ∧ Marked cs' z (nthA rs j).2.2.l.length) ∧ Apart (nthA rs j).1 wr w') := Mark.mark_any (nthA rs j).1 _ _ z ds wr hd hds hlen hz1 (by omega)
      have HD : Hid (M ≠ (nthA rs j).1) := blkA_ne ho hd
      clear ho hos hc hdn hd hds hz hlen
      go_wp2_with fail
      refine HC.out.mono ?_
      rintro e w1 ⟨rfl, ⟨ds1, hd1, _, hmk⟩, ha1⟩
      have hK1 : Blk w1 M cur 40 := ha1.blk HO.out.1 HD.out
      have HK1 : Hid (Blk w1 M cur 40) := hK1
      have HD1 : Hid (Blk w1 (nthA rs j).1 ds1 67 ∧ Marked ds1 z (nthA rs j).2.2.l.length) := ⟨hd1, hmk⟩
      have HAp : Hid (Apart (nthA rs j).1 wr w1) := ha1
      have hsz := HO.out.2.1
      obtain ⟨v1, p1⟩ : ∃ v, w1.cell? ⟨M, j * 4 + 1, none⟩ = some v := ⟨cur[j * 4 + 1]'(by omega), by rw [hK1.cell]; simp⟩
      obtain ⟨v2, p2⟩ : ∃ v, w1.cell? ⟨M, j * 4 + 2, none⟩ = some v := ⟨cur[j * 4 + 2]'(by omega), by rw [hK1.cell]; simp⟩
      have f1 := hK1.frozen (j * 4 + 1)
      have f2 := hK1.frozen (j * 4 + 2)
      clear hd1 hmk ha1 hK1 hsz c0 HC
      generalize hy : z + 2 * (nthA rs j).2.2.l.length = y
      have HY : Hid (z + 2 * (nthA rs j).2.2.l.length = y) := hy
      have hyb : y ≤ 9000000 := by have := HU.out; omega
      clear hy
      go_wp2_with fail
      have ez : (y : Int) + 1 + 1 = ((y + 2 : Nat) : Int) := by omega
      have ey : (y : Int) + 1 = ((y + 1 : Nat) : Int) := by omega
      rw [ez, ey]
      generalize hW : (w1.setCell ⟨M, j * 4 + 1, none⟩ (.int .i64 y)).setCell ⟨M, j * 4 + 2, none⟩ (.int .i64 ((y + 1 : Nat) : Int)) = W
      have HKW : Hid (Blk W M ((cur.setIfInBounds (j * 4 + 1) (.int .i64 y)).setIfInBounds (j * 4 + 2) (.int .i64 ((y + 1 : Nat) : Int))) 40) := by rw [← hW]; exact (HK1.out.set _ _).set _ _
      have HLW : Hid (∀ {g : Nat} {es : Array Value}, Blk w1 g es 67 → Blk W g es 67) := fun h => by rw [← hW]; exact (h.set_other (blkA_ne HK1.out h) _).set_other (blkA_ne HK1.out h) _
      have HAW : Hid (Only (blks M rs) w W) := by rw [← hW]; exact ((HA.out.trans (Only.apart HAp.out (.inr ⟨_, nthA_mem hlt, rfl⟩))).set (.inl rfl) _ _).set (.inl rfl) _ _
      clear hW p1 p2 f1 f2 ez ey
      refine (Mark.markText_any (y + 2) _ (by omega) (by omega)).mono ?_
      rintro e w2 ⟨rfl, hb2⟩
      have hK2 := HKW.out.grow hb2
      have HK2 : Hid (Blk w2 M ((cur.setIfInBounds (j * 4 + 1) (.int .i64 y)).setIfInBounds (j * 4 + 2) (.int .i64 ((y + 1 : Nat) : Int))) 40) := hK2
      have HL2 : Hid (∀ {g : Nat} {es : Array Value}, Blk w1 g es 67 → Blk w2 g es 67) := fun h => (HLW.out h).grow hb2
      have HA2 : Hid (Only (blks M rs) w w2) := HAW.out.below hb2
      have hsz := HO.out.2.1
      obtain ⟨v3, p3⟩ : ∃ v, w2.cell? ⟨M, j * 4 + 3, none⟩ = some v := ⟨((cur.setIfInBounds (j * 4 + 1) (.int .i64 y)).setIfInBounds (j * 4 + 2) (.int .i64 ((y + 1 : Nat) : Int)))[j * 4 + 3]'(by simp; omega), by rw [hK2.cell]; exact Array.getElem?_eq_getElem _⟩
      have f3 := hK2.frozen (j * 4 + 3)
      have HE : Hid (MA (w2.setCell ⟨M, j * 4 + 3, none⟩ (.string (Mark.mt (y + 2)))) M rs k (j + 1)) := by
        refine ⟨⟨_, HK2.out.set _ _, by simp; exact hsz, fun i hi => ?_, fun i hi => ?_⟩, fun i hi => ?_, fun i hi hl => ?_⟩
        · rw [set_ne (by omega), set_ne (by omega), set_ne (by omega)]; exact HO.out.2.2.1 i hi
        · by_cases e : i = j
          · subst e
            rw [HZ.out, HY.out]
            exact ⟨by rw [set_ne (by omega), set_ne (by omega), set_at (by omega)], by rw [set_ne (by omega), set_at (by simp; omega)], by rw [set_at (by simp; omega)]⟩
          · obtain ⟨q1, q2, q3⟩ := HO.out.2.2.2 i (by omega)
            exact ⟨by rw [set_ne (by omega), set_ne (by omega), set_ne (by omega)]; exact q1, by rw [set_ne (by omega), set_ne (by omega), set_ne (by omega)]; exact q2, by rw [set_ne (by omega), set_ne (by omega), set_ne (by omega)]; exact q3⟩
        · by_cases e : i = j
          · subst e
            rw [HZ.out]
            exact ⟨ds1, (HL2.out HD1.out.1).set_other (blkA_ne HK2.out (HL2.out HD1.out.1)) _, HD1.out.2⟩
          · obtain ⟨es, q1, q2⟩ := HM1.out.done i (by omega)
            have q3 := HL2.out (HAp.out.blk q1 (inc_ne HN.out.1 (by omega) hlt e))
            exact ⟨es, q3.set_other (blkA_ne HK2.out q3) _, q2⟩
        · obtain ⟨es, q1, q2⟩ := HM1.out.todo i (by omega) hl
          have q3 := HL2.out (HAp.out.blk q1 (inc_ne HN.out.1 hl hlt (by omega)))
          exact ⟨es, q3.set_other (blkA_ne HK2.out q3) _, q2⟩
      have HF : Hid (k + sumA (rs.take (j + 1)) = y + 3) := by have := HU.out; have := HY.out; show _ = _; omega
      clear hb2 hK2 hsz
      go_wp2
      go_roundw
      case rel => exact ⟨j + 1, by omega, by go_num, by rw [HF.out]; go_num, HE.out, HA2.out.set (.inl rfl) _ _⟩
      case measure => simp [intOf]; omega
    · have hge : ¬ (j : Int) < (rs.length : Int) := by omega
      have HE : Hid (j = rs.length ∧ sumA (rs.take j) = sumA rs) := ⟨by omega, sumA_all (by omega)⟩
      go_wp2
      go_ret
      exact ⟨Mark.retI (by have := HE.out.2; omega), by have := HM1.out; rwa [HE.out.1] at this, HA.out⟩

set_option maxHeartbeats 1600000 in
theorem heldS_any (M k cap : Nat) (rs : List ARow) (w : World) (hM : MA w M rs k rs.length) (hll : ∀ x ∈ rs, x.2.2.l.length ≤ 1048576) (hl : rs.length ≤ 2000000) (hk : 1 ≤ k) (hk2 : k + sumA rs ≤ 9000000) :
    Calls Try.prog 56 #[.slice (some ⟨M, 0, none⟩) rs.length cap, .int .i64 k] w fun e w' => e = .returned (.int .i64 ((k + sumA rs : Nat) : Int)) ∧ Below w.heap.size w w' := by
  have HS : Hid (k + sumA rs ≤ 9000000 ∧ ∀ x ∈ rs, x.2.2.l.length ≤ 1048576) := ⟨hk2, hll⟩
  have HM : Hid (MA w M rs k rs.length) := hM
  clear hM hll hk2
  go_enter Try.func56, Try.ntmps56
  go_wp2
  go_loopw [1, 5] (fun x i w' => ∃ j : Nat, j ≤ rs.length ∧ i = .int .i64 j ∧ x = .int .i64 ((k + sumA (rs.take j) : Nat) : Int) ∧ Below w.heap.size w w') (fun _ i _ => rs.length - (intOf i).toNat)
  case atStart => exact ⟨0, Nat.zero_le _, rfl, rfl, Below.refl _ _⟩
  case round =>
    obtain ⟨j, hj, rfl, rfl, hb⟩ := hrel
    have HB : Hid (Below w.heap.size w wr) := hb
    have HM1 : Hid (MA wr M rs k rs.length) := HM.out.grow hb
    clear hb
    by_cases hlt : j < rs.length
    · have hlt' : (j : Int) < (rs.length : Int) := by omega
      have HU : Hid (k + sumA (rs.take (j + 1)) = k + sumA (rs.take j) + 2 * (nthA rs j).2.2.l.length + 3) := by have := sumA_up hlt; show _ = _; omega
      have hzb : k + sumA (rs.take (j + 1)) ≤ 9000000 := by have := sumA_le rs (j + 1); have := HS.out.1; omega
      obtain ⟨cur, ho, hos, hc, hdn⟩ := HM1.out.outer
      obtain ⟨g1, g2, g3⟩ := hdn j hlt
      have c0 : wr.cell? ⟨M, j * 4, none⟩ = some (.slice (some ⟨(nthA rs j).1, 0, none⟩) (nthA rs j).2.2.l.length (nthA rs j).2.1) := (ho.cell _).trans (hc j hlt)
      obtain ⟨ds, hd, hds⟩ := HM1.out.done j hlt
      have hlen : (nthA rs j).2.2.l.length ≤ 1048576 := HS.out.2 _ (nthA_mem hlt)
      have HO : Hid (Blk wr M cur 40) := ho
      generalize hz : k + sumA (rs.take j) = z at *
      have hz1 : 1 ≤ z := by omega
      have hz2 : z ≤ 9000000 := by have := HU.out; omega
      have HC : Hid (Calls Try.prog 48 #[.slice (some ⟨(nthA rs j).1, 0, none⟩) (nthA rs j).2.2.l.length (nthA rs j).2.1, .int .i64 (z : Int)] wr fun e w' => e = .returned (.int .i64 ((z + 2 * (nthA rs j).2.2.l.length : Nat) : Int)) ∧ Below wr.heap.size wr w') := Mark.held_any (nthA rs j).1 _ _ z ds wr hd hds hlen hz1 (by omega)
      clear ho hos hc hdn hd hds hz hlen
      go_wp2_with fail
      refine HC.out.mono ?_
      rintro e w1 ⟨rfl, hb1⟩
      have HB1 : Hid (Below w.heap.size w w1) := grow_on HB.out hb1
      have hK1 : Blk w1 M cur 40 := HO.out.grow hb1
      have HK1 : Hid (Blk w1 M cur 40) := hK1
      generalize hy : z + 2 * (nthA rs j).2.2.l.length = y at *
      have HY : Hid (k + sumA (rs.take (j + 1)) = y + 3) := by have := HU.out; show _ = _; omega
      have hyb : y ≤ 9000000 := by have := HU.out; omega
      have p1 : w1.cell? ⟨M, j * 4 + 1, none⟩ = some (.int .i64 (y : Int)) := (hK1.cell _).trans g1
      have p2 : w1.cell? ⟨M, j * 4 + 2, none⟩ = some (.int .i64 ((y + 1 : Nat) : Int)) := (hK1.cell _).trans g2
      have HG : Hid (cur[j * 4 + 3]? = some (.string (Mark.mt (y + 2)))) := g3
      have hyn : ¬ (y : Int) < 0 := by omega
      clear hb1 hK1 c0 HC g1 g2 g3 hy HU
      have hne := Grown.some w1
      have hMr := HK1.out.lt
      have x0 := fun q : Grown w1 => q.cell (p := ⟨M, j * 4 + 3, none⟩) hMr ((HK1.out.cell _).trans HG.out)
      have hd : ((Mark.mt (y + 2)).toList == (Mark.mt (y + 2)).toList) = true := Labs.beqS_yes rfl
      have HT : ∀ q : Grown w1, Hid (Calls Try.prog 47 #[.int .i64 ((y + 2 : Nat) : Int)] q.out fun e w' => e = .returned (.string (Mark.mt (y + 2))) ∧ Below q.out.heap.size q.out w') := fun q => Mark.markText_any (y + 2) _ (by omega) (by omega)
      go_wp2
      have ez : (y : Int) + 1 + 1 = ((y + 2 : Nat) : Int) := by omega
      rw [ez]
      clear ez
      have HY2 : Hid (k + sumA (rs.take (j + 1)) = y + 2 + 1) := HY.out
      have hvb : y + 2 ≤ 9000002 := by omega
      generalize hv : y + 2 = v at x0 hd HT HY2 hvb ⊢
      clear hv hyb p1 p2
      refine wp_over (z := w1) (by kernel_rfl) (by kernel_rfl) (Below.refl _ _) ?_
      repeat (go_big_quiet_step (first | (go_at_call 47; exact call_over (HT _).out)))
      refine wpQuiet_nil ?_
      intro w2 hw2
      have HB2 : Hid (Below w.heap.size w w2) := grow_on HB1.out (over_bel hw2)
      clear hw2 hne x0 hd HT
      go_wp2
      go_roundw
      case rel => exact ⟨j + 1, by omega, by go_num, by rw [HY2.out]; go_num, HB2.out⟩
      case measure => simp [intOf]; omega
    · have hge : ¬ (j : Int) < (rs.length : Int) := by omega
      have HE : Hid (sumA (rs.take j) = sumA rs) := sumA_all (by omega)
      go_wp2
      go_ret
      exact ⟨Mark.retI (by have := HE.out; omega), HB.out⟩

/-- the copy that toAlarmS makes, as a row -/
theorem copy_ab {M lo : Nat} {w : World} {P : List PAl} {cs : Array Value} {g : Nat → Nat} (h : CopyA M w P P.length cs g) (hlo : lo ≤ M) (hl : P.length ≤ 1048576) (hs : LenM P) : ∃ rs, AB lo w M P.length rs ∧ pals rs = P := by
  have hlen : ((List.range P.length).map fun i => ((g i, (nthP P i).l.length, nthP P i) : ARow)).length = P.length := by simp
  have hn : ∀ i, i < P.length → nthA ((List.range P.length).map fun i => ((g i, (nthP P i).l.length, nthP P i) : ARow)) i = (g i, (nthP P i).l.length, nthP P i) := fun i hi => by rw [nthA_eq (by simpa using hi)]; simp
  refine ⟨(List.range P.length).map fun i => (g i, (nthP P i).l.length, nthP P i), ⟨hlo, ⟨by rw [hlen]; exact Nat.le_refl _, by unfold maxLen; omega⟩, ⟨cs, h.blk, h.size, fun i hi => ?_⟩, fun x hx => ?_, ?_⟩, ?_⟩
  · rw [hlen] at hi
    rw [hn i hi]
    exact h.cell i hi
  · obtain ⟨i, hi, rfl⟩ := List.mem_map.1 hx
    have hi' : i < P.length := by simpa using hi
    obtain ⟨h0, ds, h1, h2, h3⟩ := h.own i hi'
    exact ⟨by show lo ≤ g i; omega, hs i hi', ds, h1, Nat.le_of_eq h2.symm, h3⟩
  · rw [List.pairwise_iff_getElem]
    intro i j hi hj hij
    simp only [List.getElem_map, List.getElem_range]
    have := h.inc i j hij (by simpa using hj)
    omega
  · apply List.ext_getElem
    · simp [pals]
    · intro i h1 h2
      simp only [pals, List.getElem_map, List.getElem_range]
      exact nthP_eq h2

set_option maxHeartbeats 400000 in
theorem toC_any (f : Int) (a : Option Addr) (cap : Nat) (P : List PAl) (w : World) (hr : RdA w a P) (hl : P.length ≤ 1048576) (hs : sumL P ≤ 1048576) :
    Calls Try.prog 70 #[.agg #[.int .i64 f, .slice a P.length cap]] w fun r w' => (∃ M rs, r = .returned (.agg #[.int .i64 f, .slice (some ⟨M, 0, none⟩) P.length P.length]) ∧ AB w.heap.size w' M P.length rs ∧ pals rs = P) ∧ Below w.heap.size w w' := by
  have HR : Hid (RdA w a P) := hr
  have HS : Hid (sumL P ≤ 1048576) := hs
  clear hr hs
  go_enter Try.func70, Try.ntmps70
  go_wp2_with fail
  have hB3 : Below w.heap.size w (((w.alloc (.cells #[.int .i64 f, .slice a P.length cap] 99)).alloc (.cells #[.int .i64 0, .slice none 0 0] 77)).alloc (.cells #[.int .i64 f, .slice none 0 0] 77)) := Alm.below3 w _ _ _
  refine (Alms.to_any a cap P _ (HR.out.below hB3) hl HS.out).mono ?_
  rintro r w1 ⟨rfl, ⟨cs, g, hC⟩, hb⟩
  have hP : Blk w1 w.heap.size #[.int .i64 f, .slice a P.length cap] 99 := (((Blk.new _ _ _).alloc _).alloc _).grow hb
  have hR : Blk w1 (w.heap.size + 1) #[.int .i64 0, .slice none 0 0] 77 := ((Blk.new_at (by simp)).alloc _).grow hb
  have hO : Blk w1 (w.heap.size + 1 + 1) #[.int .i64 f, .slice none 0 0] 77 := (Blk.new_at (by simp)).grow hb
  have HB : Hid (Below w.heap.size w w1) := grow_on hB3 hb
  have HC : Hid (∃ rs, AB w.heap.size w1 (w.heap.size + 1 + 1 + 1) P.length rs ∧ pals rs = P) := by
    have h := copy_ab (lo := w.heap.size) hC (by simp; omega) hl (fun i hi => Nat.le_trans (sum_nth hi) HS.out)
    have e : (((w.alloc (.cells #[.int .i64 f, .slice a P.length cap] 99)).alloc (.cells #[.int .i64 0, .slice none 0 0] 77)).alloc (.cells #[.int .i64 f, .slice none 0 0] 77)).heap.size = w.heap.size + 1 + 1 + 1 := by simp
    rw [e] at h
    exact h
  have HRR : Hid (Blk w1 (w.heap.size + 1) #[.int .i64 0, .slice none 0 0] 77) := hR
  have HO : Hid (Blk w1 (w.heap.size + 1 + 1) #[.int .i64 f, .slice none 0 0] 77) := hO
  have o0 : w1.cell? ⟨w.heap.size + 1 + 1, 0, none⟩ = some (.int .i64 f) := hO.cell 0
  have o1 : w1.cell? ⟨w.heap.size + 1 + 1, 1, none⟩ = some (.slice none 0 0) := hO.cell 1
  have fo := hO.frozen 1
  have r0 : w1.cell? ⟨w.heap.size + 1, 0, none⟩ = some (.int .i64 0) := hR.cell 0
  have r1 : w1.cell? ⟨w.heap.size + 1, 1, none⟩ = some (.slice none 0 0) := hR.cell 1
  have f0 := hR.frozen 0
  have f1 := hR.frozen 1
  clear hb hC hP hR hO hB3
  go_wp2
  have hs : Blk (((w1.setCell ⟨w.heap.size + 1 + 1, 1, none⟩ (.slice (some ⟨w.heap.size + 1 + 1 + 1, 0, none⟩) P.length P.length)).setCell ⟨w.heap.size + 1, 0, none⟩ (.int .i64 f)).setCell ⟨w.heap.size + 1, 1, none⟩ (.slice (some ⟨w.heap.size + 1 + 1 + 1, 0, none⟩) P.length P.length)) (w.heap.size + 1) #[.int .i64 f, .slice (some ⟨w.heap.size + 1 + 1 + 1, 0, none⟩) P.length P.length] 77 := ((HRR.out.set_other (by show w.heap.size + 1 + 1 ≠ w.heap.size + 1; omega) _).set 0 _).set 1 _
  have s0 := hs.cell 0
  have s1 := hs.cell 1
  refine bodyPost_ret (v := .agg #[.int .i64 f, .slice (some ⟨w.heap.size + 1 + 1 + 1, 0, none⟩) P.length P.length]) (by simp [results, Try.results70, go_sem, s0, s1]) rfl ?_
  obtain ⟨rs, hab, hp⟩ := HC.out
  exact ⟨⟨w.heap.size + 1 + 1 + 1, rs, rfl, ab_set2 (ab_set1 hab HO.out _ _) (HRR.out.set_other (by show w.heap.size + 1 + 1 ≠ w.heap.size + 1; omega) _) _ _, hp⟩, ChnP.set2 (ChnI.set_low HB.out (by omega) _ _) (by omega) _ _⟩

theorem eqC_any (f : Int) (a a' : Option Addr) (cap cap' : Nat) (P : List PAl) (w : World) (hr : RdA w a P) (hr' : RdA w a' P) (hl : P.length ≤ maxLen) (hz : FitsP P) :
    Calls Try.prog 73 #[.agg #[.int .i64 f, .slice a P.length cap], .agg #[.int .i64 f, .slice a' P.length cap']] w fun e w' => e = .returned (.bool true) ∧ Below w.heap.size w w' := by
  have HR : Hid (RdA w a P ∧ RdA w a' P ∧ P.length ≤ maxLen ∧ FitsP P) := ⟨hr, hr', hl, hz⟩
  clear hr hr' hl hz
  go_enter Try.func73, Try.ntmps73
  go_wp2_with fail
  refine (Alms.eq_any a a' cap cap' P _ (HR.out.1.below (Go.Joins.below_alloc2 w _ _)) (HR.out.2.1.below (Go.Joins.below_alloc2 w _ _)) HR.out.2.2.1 HR.out.2.2.2).mono ?_
  rintro r w1 ⟨rfl, hb⟩
  have HB : Hid (Below w.heap.size w w1) := grow_on (Go.Joins.below_alloc2 w _ _) hb
  clear hb
  go_wp2
  go_ret
  exact ⟨rfl, HB.out⟩

end Go.Proofs.Ytbccaioahifloaa.ChnK
namespace Go.Proofs.Ytbccaioahifloaa.Chs
open Go.RowKit
open Go.ChangeShapes Go.WideShapes
open Go.Proofs.Ytbccaioahifloaa.Labs Go.Proofs.Ytbccaioahifloaa.LabS Go.Proofs.Ytbccaioahifloaa.Alms Go.Proofs.Ytbccaioahifloaa.AlmS Go.Proofs.Ytbccaioahifloaa.AlmM Go.Proofs.Ytbccaioahifloaa.Over Go.Proofs.Ytbccaioahifloaa.Blk Go.Proofs.Ytbccaioahifloaa.App Go.Proofs.Ytbccaioahifloaa.Rws Go.Proofs.Ytbccaioahifloaa.ChnI Go.Proofs.Ytbccaioahifloaa.ChnC Go.Proofs.Ytbccaioahifloaa.ChnP Go.Proofs.Ytbccaioahifloaa.ChnK
open Go.Proofs.Ytbccaioahifloaa.StrB (retB)
set_option linter.unusedVariables false

/-- a chain, plain -/
structure PCh where
  f : Int
  P : List PAl
def nthC (C : List PCh) (i : Nat) : PCh := C.getD i ⟨0, []⟩
theorem nthC_eq {C : List PCh} {i : Nat} (h : i < C.length) : nthC C i = C[i] := by unfold nthC; simp [h]
theorem nthC_mem {C : List PCh} {i : Nat} (h : i < C.length) : nthC C i ∈ C := by rw [nthC_eq h]; exact List.getElem_mem _
theorem takeC_up {C : List PCh} {k : Nat} (h : k < C.length) : C.take (k + 1) = C.take k ++ [nthC C k] := by
  rw [nthC_eq h, List.take_succ_eq_append_getElem h]
/-- the cells of the i-th chain, and its alarms -/
structure AtC (R : World → Option Addr → List PAl → Prop) (w : World) (b off i : Nat) (x : PCh) (ad : Option Addr) (cap : Nat) : Prop where
  c0 : w.cell? ⟨b, off + i * 2, none⟩ = some (.int .i64 x.f)
  c1 : w.cell? ⟨b, off + i * 2 + 1, none⟩ = some (.slice ad x.P.length cap)
  reads : R w ad x.P
/-- what is read stays as it is while memory grows -/
def Stays (R : World → Option Addr → List PAl → Prop) : Prop := ∀ (w w' : World) (a : Option Addr) (P : List PAl), R w a P → Below w.heap.size w w' → R w' a P
theorem stays_rd : Stays RdA := fun _ _ _ _ h hb => h.below hb
theorem AtC.below {R : World → Option Addr → List PAl → Prop} (hR : Stays R) {w w' : World} {b off i : Nat} {x : PCh} {ad : Option Addr} {cap : Nat} (h : AtC R w b off i x ad cap) (hb : Below w.heap.size w w') (hlt : b < w.heap.size) : AtC R w' b off i x ad cap :=
  ⟨(hb.cell (p := ⟨b, off + i * 2, none⟩) hlt).trans h.c0, (hb.cell (p := ⟨b, off + i * 2 + 1, none⟩) hlt).trans h.c1, hR _ _ _ _ h.reads hb⟩
/-- a slice's cells hold these chains -/
def RdG (R : World → Option Addr → List PAl → Prop) (w : World) (a : Option Addr) (C : List PCh) : Prop :=
  C = [] ∨ ∃ b off, a = some ⟨b, off, none⟩ ∧ b < w.heap.size ∧ ∀ i, i < C.length → ∃ ad cap, AtC R w b off i (nthC C i) ad cap
theorem RdG.below {R : World → Option Addr → List PAl → Prop} (hR : Stays R) {w w' : World} {a : Option Addr} {C : List PCh} (h : RdG R w a C) (hb : Below w.heap.size w w') : RdG R w' a C := by
  rcases h with h | ⟨b, off, rfl, hlt, hc⟩
  · exact .inl h
  · exact .inr ⟨b, off, rfl, Nat.lt_of_lt_of_le hlt hb.size, fun i hi => by
      obtain ⟨ad, cap, h⟩ := hc i hi
      exact ⟨ad, cap, h.below hR hb hlt⟩⟩
theorem RdG.get {R : World → Option Addr → List PAl → Prop} {w : World} {a : Option Addr} {C : List PCh} (h : RdG R w a C) {i : Nat} (hi : i < C.length) :
    ∃ b off, a = some ⟨b, off, none⟩ ∧ b < w.heap.size ∧ ∃ ad cap, AtC R w b off i (nthC C i) ad cap := by
  rcases h with h | ⟨b, off, e, hb, h⟩
  · rw [h] at hi; simp at hi
  · exact ⟨b, off, e, hb, h i hi⟩
theorem RdG.imp {R R' : World → Option Addr → List PAl → Prop} {w : World} {a : Option Addr} {C : List PCh} (h : RdG R w a C) (hi : ∀ a P, R w a P → R' w a P) : RdG R' w a C := by
  rcases h with h | ⟨b, off, e, hb, h⟩
  · exact .inl h
  · exact .inr ⟨b, off, e, hb, fun i hi' => by obtain ⟨ad, cap, h⟩ := h i hi'; exact ⟨ad, cap, h.c0, h.c1, hi _ _ h.reads⟩⟩
theorem RdG.rd {w : World} {a : Option Addr} {C : List PCh} (h : RdG RdN w a C) : RdG RdA w a C := h.imp fun _ _ h => h.rd
/-- each of them is of its kind -/
structure FitC (x : PCh) : Prop where
  fb : -9223372036854775808 ≤ x.f ∧ x.f ≤ 9223372036854775807
  len : x.P.length ≤ maxLen
  fits : FitsP x.P
def FitsC (C : List PCh) : Prop := ∀ x ∈ C, FitC x
/-- how many alarms and labels they have, together -/
def sumC : List PCh → Nat
  | [] => 0
  | x :: C => x.P.length + sumL x.P + sumC C
theorem sumC_mem {C : List PCh} {x : PCh} (h : x ∈ C) : x.P.length + sumL x.P ≤ sumC C := by
  induction C with
  | nil => simp at h
  | cons y C ih =>
    rw [sumC]
    rcases List.mem_cons.1 h with rfl | h
    · omega
    · have := ih h; omega
theorem sumC_nth {C : List PCh} {k : Nat} (h : k < C.length) : (nthC C k).P.length + sumL (nthC C k).P ≤ sumC C := sumC_mem (nthC_mem h)
theorem lenM_of {P : List PAl} (h : sumL P ≤ 1048576) : LenM P := fun i hi => Nat.le_trans (sum_nth hi) h
theorem infoC : (Try.prog.info? 77).map (fun i => (i.zero, i.size, i.bytes)) = some (some (.agg #[.int .i64 0, .slice none 0 0]), 2, 32) := by kernel_rfl

/-- a chain in memory of the call's own -/
structure CRow where
  f : Int
  M : Nat
  c : Nat
  rs : List ARow
def CRow.ch (x : CRow) : PCh := ⟨x.f, pals x.rs⟩
def chs (cs : List CRow) : List PCh := cs.map CRow.ch
def nthR (cs : List CRow) (i : Nat) : CRow := cs.getD i ⟨0, 0, 0, []⟩
theorem nthR_eq {cs : List CRow} {i : Nat} (h : i < cs.length) : nthR cs i = cs[i] := by unfold nthR; simp [h]
theorem nthR_mem {cs : List CRow} {i : Nat} (h : i < cs.length) : nthR cs i ∈ cs := by rw [nthR_eq h]; exact List.getElem_mem _
theorem chs_len (cs : List CRow) : (chs cs).length = cs.length := by simp [chs]
theorem chs_nth {cs : List CRow} {i : Nat} (h : i < cs.length) : nthC (chs cs) i = (nthR cs i).ch := by
  rw [nthC_eq (by rw [chs_len]; exact h), nthR_eq h]
  simp [chs]
theorem chs_app (cs : List CRow) (x : CRow) : chs (cs ++ [x]) = chs cs ++ [x.ch] := by simp [chs]
theorem nthR_app_lt {cs : List CRow} {x : CRow} {i : Nat} (h : i < cs.length) : nthR (cs ++ [x]) i = nthR cs i := by
  rw [nthR_eq (by simp; omega), nthR_eq h, List.getElem_append_left h]
theorem nthR_app_eq (cs : List CRow) (x : CRow) : nthR (cs ++ [x]) cs.length = x := by
  rw [nthR_eq (by simp)]; simp
def Cel (f : Nat → Option Value) (i : Nat) (x : CRow) : Prop := f (i * 2) = some (.int .i64 x.f) ∧ f (i * 2 + 1) = some (.slice (some ⟨x.M, 0, none⟩) x.rs.length x.c)
theorem Cel.congr {f g : Nat → Option Value} {i : Nat} {x : CRow} (h : Cel f i x) (e : ∀ k, i * 2 ≤ k → k < i * 2 + 2 → g k = f k) : Cel g i x :=
  ⟨by rw [e _ (by omega) (by omega)]; exact h.1, by rw [e _ (by omega) (by omega)]; exact h.2⟩
/-- what holds alarms and labels is as it was -/
structure Moved (w w' : World) : Prop where
  A : ∀ {k : Nat} {cs : Array Value}, Blk w k cs 40 → Blk w' k cs 40
  L : ∀ {k : Nat} {cs : Array Value}, Blk w k cs 67 → Blk w' k cs 67
theorem Moved.trans {a b c : World} (h : Moved a b) (k : Moved b c) : Moved a c := ⟨fun x => k.A (h.A x), fun x => k.L (h.L x)⟩
theorem Moved.of {w w' : World} (h : Below w.heap.size w w') : Moved w w' := ⟨fun x => x.grow h, fun x => x.grow h⟩
theorem Moved.set {w : World} {N : Nat} {cs : Array Value} {T : TypeId} (hN : Blk w N cs T) (hA : T ≠ 40) (hL : T ≠ 67) (i : Nat) (v : Value) : Moved w (w.setCell ⟨N, i, none⟩ v) := by
  have ne : ∀ {k : Nat} {ds : Array Value} {U : TypeId}, Blk w k ds U → T ≠ U → N ≠ k := fun h hU e => by
    subst e
    unfold Blk at h hN
    rw [hN] at h
    injection h with h
    injection h with _ h
    exact hU h
  exact ⟨fun x => x.set_other (ne x hA) _, fun x => x.set_other (ne x hL) _⟩
theorem Moved.far {w w' : World} {N : Nat} {cs : Array Value} {T : TypeId} (hN : Blk w N cs T) (hA : T ≠ 40) (hL : T ≠ 67) (hg : w.grownBy w' (some N)) : Moved w w' := by
  have ne : ∀ {k : Nat} {ds : Array Value} {U : TypeId}, Blk w k ds U → T ≠ U → some k ≠ some N := fun h hU e => by
    injection e with e
    subst e
    unfold Blk at h hN
    rw [hN] at h
    injection h with h
    injection h with _ h
    exact hU h
  exact ⟨fun x => blk_far x hg (ne x hA), fun x => blk_far x hg (ne x hL)⟩
theorem ab_moved {lo : Nat} {w w' : World} {M c : Nat} {rs : List ARow} (h : AB lo w M c rs) (hm : Moved w w') : AB lo w' M c rs := by
  obtain ⟨cur, h1, h2⟩ := h.outer
  refine ⟨h.at', h.cap, ⟨cur, hm.A h1, h2⟩, fun x hx => ?_, h.ne⟩
  obtain ⟨h0, h1, ds, h2, h3⟩ := h.rows x hx
  exact ⟨h0, h1, ds, hm.L h2, h3⟩
/-- the rows of chains, no two of which share a block -/
structure RowsC (lo : Nat) (w : World) (cs : List CRow) : Prop where
  rows : ∀ x ∈ cs, AB lo w x.M x.c x.rs
  ne : cs.Pairwise fun x y => ∀ k, blks x.M x.rs k → ¬ blks y.M y.rs k
theorem RowsC.nil (lo : Nat) (w : World) : RowsC lo w [] := ⟨fun x hx => by simp at hx, List.Pairwise.nil⟩
theorem RowsC.moved {lo : Nat} {w w' : World} {cs : List CRow} (h : RowsC lo w cs) (hm : Moved w w') : RowsC lo w' cs := ⟨fun x hx => ab_moved (h.rows x hx) hm, h.ne⟩
theorem RowsC.grow {lo : Nat} {w w' : World} {cs : List CRow} (h : RowsC lo w cs) (hb : Below w.heap.size w w') : RowsC lo w' cs := h.moved (Moved.of hb)
theorem RowsC.down {lo lo' : Nat} {w : World} {cs : List CRow} (h : RowsC lo w cs) (hl : lo' ≤ lo) : RowsC lo' w cs := ⟨fun x hx => (h.rows x hx).down hl, h.ne⟩
theorem RowsC.app {lo : Nat} {w : World} {cs : List CRow} {x : CRow} (h : RowsC lo w cs) (hx : AB lo w x.M x.c x.rs) (hne : ∀ y ∈ cs, ∀ k, blks y.M y.rs k → ¬ blks x.M x.rs k) : RowsC lo w (cs ++ [x]) := by
  refine ⟨fun y hy => ?_, ?_⟩
  · rcases List.mem_append.1 hy with hy | hy
    · exact h.rows y hy
    · rw [List.mem_singleton.1 hy]; exact hx
  · rw [List.pairwise_append]
    exact ⟨h.ne, List.pairwise_singleton _ _, fun a ha b hb => by rw [List.mem_singleton.1 hb]; exact hne a ha⟩
/-- a row that is younger than all of them -/
theorem RowsC.fresh {lo B : Nat} {w w' : World} {cs : List CRow} {x : CRow} (h : RowsC lo w cs) (hx : AB B w' x.M x.c x.rs) (hB : w.heap.size ≤ B) : ∀ y ∈ cs, ∀ k, blks y.M y.rs k → ¬ blks x.M x.rs k := fun y hy k h1 h2 => by
  have := blks_high (h.rows y hy) k h1
  have := blks_low hx k h2
  omega
/-- the chains cs lie in the row at block M, whose room is c -/
structure CB (lo : Nat) (w : World) (M c : Nat) (cs : List CRow) : Prop where
  at' : lo ≤ M
  cap : cs.length ≤ c ∧ c ≤ maxLen
  outer : ∃ cur : Array Value, Blk w M cur 77 ∧ cur.size = c * 2 ∧ ∀ i, i < cs.length → Cel (fun k => cur[k]?) i (nthR cs i)
  rows : RowsC lo w cs
theorem CB.grow {lo : Nat} {w w' : World} {M c : Nat} {cs : List CRow} (h : CB lo w M c cs) (hb : Below w.heap.size w w') : CB lo w' M c cs := by
  obtain ⟨cur, h1, h2⟩ := h.outer
  exact ⟨h.at', h.cap, ⟨cur, h1.grow hb, h2⟩, h.rows.grow hb⟩
theorem CB.down {lo lo' : Nat} {w : World} {M c : Nat} {cs : List CRow} (h : CB lo w M c cs) (hl : lo' ≤ lo) : CB lo' w M c cs := ⟨Nat.le_trans hl h.at', h.cap, h.outer, h.rows.down hl⟩
theorem CB.lt {lo : Nat} {w : World} {M c : Nat} {cs : List CRow} (h : CB lo w M c cs) : M < w.heap.size := by
  obtain ⟨cur, h1, _⟩ := h.outer
  exact h1.lt
theorem CB.rn {lo : Nat} {w : World} {M c : Nat} {cs : List CRow} (h : CB lo w M c cs) : RdG RdN w (some ⟨M, 0, none⟩) (chs cs) := by
  obtain ⟨cur, h1, h2, h3⟩ := h.outer
  refine .inr ⟨M, 0, rfl, h1.lt, fun i hi => ?_⟩
  rw [chs_len] at hi
  obtain ⟨c0, c1⟩ := h3 i hi
  refine ⟨some ⟨(nthR cs i).M, 0, none⟩, (nthR cs i).c, ?_⟩
  rw [chs_nth hi]
  exact ⟨by rw [h1.cell, Nat.zero_add]; exact c0, by rw [h1.cell, Nat.zero_add, CRow.ch, pals_len]; exact c1, (h.rows.rows _ (nthR_mem hi)).rd⟩
/-- what is another block of cells of another type is written -/
theorem CB.set {lo : Nat} {w : World} {M c N : Nat} {cs : List CRow} {ds : Array Value} {T : TypeId} (h : CB lo w M c cs) (hN : Blk w N ds T) (hA : T ≠ 40) (hL : T ≠ 67) (hne : N ≠ M) (i : Nat) (v : Value) : CB lo (w.setCell ⟨N, i, none⟩ v) M c cs := by
  obtain ⟨cur, h1, h2⟩ := h.outer
  exact ⟨h.at', h.cap, ⟨cur, h1.set_other hne _, h2⟩, h.rows.moved (Moved.set hN hA hL i v)⟩
/-- a chain is written at a place -/
def put2C (cs : Array Value) (k : Nat) (x : CRow) : Array Value := (cs.setIfInBounds (k * 2) (.int .i64 x.f)).setIfInBounds (k * 2 + 1) (.slice (some ⟨x.M, 0, none⟩) x.rs.length x.c)
def put2W (w : World) (M k : Nat) (x : CRow) : World := (w.setCell ⟨M, k * 2, none⟩ (.int .i64 x.f)).setCell ⟨M, k * 2 + 1, none⟩ (.slice (some ⟨x.M, 0, none⟩) x.rs.length x.c)
theorem put2_at {cs : Array Value} {k : Nat} {x : CRow} (h : k * 2 + 1 < cs.size) : Cel (fun j => (put2C cs k x)[j]?) k x := by
  unfold put2C
  exact ⟨by show (Array.setIfInBounds _ _ _)[_]? = _; rw [set_ne (by omega), set_at (by omega)], by show (Array.setIfInBounds _ _ _)[_]? = _; rw [set_at (by simp; omega)]⟩
theorem put2_ne {cs : Array Value} {k j : Nat} {x : CRow} (h : j < k * 2 ∨ k * 2 + 2 ≤ j) : (put2C cs k x)[j]? = cs[j]? := by
  unfold put2C
  rw [set_ne (by omega), set_ne (by omega)]
theorem put2_size (cs : Array Value) (k : Nat) (x : CRow) : (put2C cs k x).size = cs.size := by simp [put2C]
theorem put2W_blk {w : World} {M k : Nat} {x : CRow} {cs : Array Value} {T : TypeId} (h : Blk w M cs T) : Blk (put2W w M k x) M (put2C cs k x) T := (h.set _ _).set _ _
theorem put2W_moved {w : World} {M k : Nat} {x : CRow} {cs : Array Value} (h : Blk w M cs 77) : Moved w (put2W w M k x) := (Moved.set h (by decide) (by decide) _ _).trans (Moved.set (h.set _ _) (by decide) (by decide) _ _)
/-- the row while it is filled: as far as the chains have come in turn -/
structure FillC (lo : Nat) (w : World) (M : Nat) (C : List PCh) (k : Nat) (cur : Array Value) (cs : List CRow) : Prop where
  blk : Blk w M cur 77
  size : cur.size = C.length * 2
  len : cs.length = k
  ch : chs cs = C.take k
  cell : ∀ i, i < k → Cel (fun j => cur[j]?) i (nthR cs i)
  rows : RowsC lo w cs
theorem FillC.grow {lo : Nat} {w w' : World} {M : Nat} {C : List PCh} {k : Nat} {cur : Array Value} {cs : List CRow} (h : FillC lo w M C k cur cs) (hb : Below w.heap.size w w') : FillC lo w' M C k cur cs :=
  ⟨h.blk.grow hb, h.size, h.len, h.ch, h.cell, h.rows.grow hb⟩
theorem FillC.next {lo : Nat} {w : World} {M : Nat} {C : List PCh} {k : Nat} {cur : Array Value} {cs : List CRow} {x : CRow} (h : FillC lo w M C k cur cs) (hk : k < C.length) (hx : AB lo w x.M x.c x.rs) (hp : x.ch = nthC C k) (hne : ∀ y ∈ cs, ∀ k, blks y.M y.rs k → ¬ blks x.M x.rs k) :
    FillC lo (put2W w M k x) M C (k + 1) (put2C cur k x) (cs ++ [x]) := by
  have hl := h.len
  have hs := h.size
  refine ⟨put2W_blk h.blk, by rw [put2_size]; exact hs, by simp [hl], by rw [chs_app, h.ch, takeC_up hk, hp], fun i hi => ?_, (h.rows.app hx hne).moved (put2W_moved h.blk)⟩
  by_cases e : i < k
  · rw [nthR_app_lt (by omega)]
    exact (h.cell i e).congr fun j h0 h1 => put2_ne (by omega)
  · have : i = cs.length := by omega
    subst this
    rw [nthR_app_eq, hl]
    exact put2_at (by omega)
theorem FillC.cb {lo : Nat} {w : World} {M : Nat} {C : List PCh} {cur : Array Value} {cs : List CRow} (h : FillC lo w M C C.length cur cs) (hlo : lo ≤ M) (hl : C.length ≤ 1048576) : CB lo w M C.length cs ∧ chs cs = C :=
  ⟨⟨hlo, ⟨by rw [h.len]; exact Nat.le_refl _, by unfold maxLen; omega⟩, ⟨cur, h.blk, h.size, fun i hi => h.cell i (by rw [← h.len]; exact hi)⟩, h.rows⟩, by rw [h.ch]; exact List.take_length⟩

set_option maxHeartbeats 1600000 in
theorem toS_any (a : Option Addr) (cap : Nat) (C : List PCh) (w : World) (hr : RdG RdA w a C) (hl : C.length ≤ 1048576) (hs : sumC C ≤ 1048576) :
    Calls Try.prog 51 #[.slice a C.length cap] w fun e w' => e = .returned (.slice (some ⟨w.heap.size, 0, none⟩) C.length C.length) ∧ (∃ cs, CB w.heap.size w' w.heap.size C.length cs ∧ chs cs = C) ∧ Below w.heap.size w w' := by
  have HR : Hid (RdG RdA w a C) := hr
  have HS : Hid (sumC C ≤ 1048576) := hs
  clear hr hs
  have hmk := make_k (P := Try.prog) 51 77 (.agg #[.int .i64 0, .slice none 0 0]) 2 32 Try.underlying51 infoC .i64 .i64 C.length (by omega) (by omega)
  go_enter Try.func51, Try.ntmps51
  go_wp2
  go_loopw [4] (fun i w' => ∃ (k : Nat) (cur : Array Value) (cs : List CRow), k ≤ C.length ∧ i = .int .i64 k ∧ FillC w.heap.size w' w.heap.size C k cur cs ∧ Below w.heap.size w w') (fun i _ => C.length - (intOf i).toNat)
  case atStart => exact ⟨0, _, [], Nat.zero_le _, rfl, ⟨Blk.new _ _ _, by simp [size_madeCells], rfl, rfl, fun i h => by omega, RowsC.nil _ _⟩, (Below.refl _ _).alloc (Nat.le_refl _) _⟩
  case round =>
    clear hmk
    obtain ⟨k, cur, cs, hk, rfl, hC, hw0⟩ := hrel
    have HB : Hid (Below w.heap.size w wr) := hw0
    have HC : Hid (FillC w.heap.size wr w.heap.size C k cur cs) := hC
    clear hC hw0
    by_cases hlt : k < C.length
    · have hlt' : (k : Int) < (C.length : Int) := by omega
      obtain ⟨b, off, rfl, hb, ad, cp, hat⟩ := (HR.out.below stays_rd HB.out).get hlt
      have h2 := hat.c0
      have h3 := hat.c1
      have HA : Hid (RdA wr ad (nthC C k).P) := hat.reads
      have HS1 : Hid ((nthC C k).P.length ≤ 1048576 ∧ sumL (nthC C k).P ≤ 1048576) := by have := sumC_nth hlt; have := HS.out; constructor <;> omega
      clear hat
      go_wp2_with fail
      refine (toC_any _ ad cp _ _ HA.out HS1.out.1 HS1.out.2).mono ?_
      rintro e w1 ⟨⟨M1, rs, rfl, hab, hp⟩, hb1⟩
      have HB1 : Hid (Below w.heap.size w w1) := grow_on HB.out hb1
      have hC1 : FillC w.heap.size w1 w.heap.size C k cur cs := HC.out.grow hb1
      have hrl : rs.length = (nthC C k).P.length := by rw [← pals_len, hp]
      have HN := hC1.next (x := ⟨(nthC C k).f, M1, (nthC C k).P.length, rs⟩) hlt (hab.down HB.out.size) (by unfold CRow.ch; rw [hp]) (HC.out.rows.fresh (x := ⟨(nthC C k).f, M1, (nthC C k).P.length, rs⟩) hab (Nat.le_refl _))
      unfold put2W put2C at HN
      rw [hrl] at HN
      have HC2 : Hid _ := HN
      have hsz := hC1.size
      obtain ⟨v0, c0⟩ : ∃ v, w1.cell? ⟨w.heap.size, k * 2, none⟩ = some v := ⟨cur[k * 2]'(by omega), by rw [hC1.blk.cell]; simp⟩
      obtain ⟨v1, c1⟩ : ∃ v, w1.cell? ⟨w.heap.size, k * 2 + 1, none⟩ = some v := ⟨cur[k * 2 + 1]'(by omega), by rw [hC1.blk.cell]; simp⟩
      have f0 := hC1.blk.frozen (k * 2)
      have f1 := hC1.blk.frozen (k * 2 + 1)
      clear hb1 h2 h3 hC1 hsz HN hab hp hrl
      go_wp2
      go_roundw
      case rel => exact ⟨k + 1, _, _, by omega, by go_num, HC2.out, (HB1.out.setCell (Nat.le_refl _) _).setCell (Nat.le_refl _) _⟩
      case measure => simp [intOf]; omega
    · have hge : ¬ (k : Int) < (C.length : Int) := by omega
      have HE : Hid (k = C.length) := by show k = C.length; omega
      go_wp2
      go_ret
      have hF := HC.out
      rw [HE.out] at hF
      exact ⟨rfl, ⟨cs, (hF.cb (Nat.le_refl _) hl).1, (hF.cb (Nat.le_refl _) hl).2⟩, HB.out⟩
end Go.Proofs.Ytbccaioahifloaa.Chs
namespace Go.Proofs.Ytbccaioahifloaa.Prt
open Go.RowKit
open Go.ChangeShapes Go.WideShapes
open Go.Proofs.Ytbccaioahifloaa.Labs Go.Proofs.Ytbccaioahifloaa.LabS Go.Proofs.Ytbccaioahifloaa.Alms Go.Proofs.Ytbccaioahifloaa.AlmS Go.Proofs.Ytbccaioahifloaa.AlmM Go.Proofs.Ytbccaioahifloaa.Over Go.Proofs.Ytbccaioahifloaa.Blk Go.Proofs.Ytbccaioahifloaa.App Go.Proofs.Ytbccaioahifloaa.Rws Go.Proofs.Ytbccaioahifloaa.ChnI Go.Proofs.Ytbccaioahifloaa.ChnC Go.Proofs.Ytbccaioahifloaa.ChnP Go.Proofs.Ytbccaioahifloaa.ChnK Go.Proofs.Ytbccaioahifloaa.Chs
open Go.Proofs.Ytbccaioahifloaa.StrB (retB)
set_option linter.unusedVariables false

set_option maxHeartbeats 800000 in
theorem eqS_any (a a' : Option Addr) (cap cap' : Nat) (C : List PCh) (w : World) (hr : RdG RdA w a C) (hr' : RdG RdA w a' C) (hl : C.length ≤ maxLen) (hz : FitsC C) :
    Calls Try.prog 53 #[.slice a C.length cap, .slice a' C.length cap'] w fun e w' => e = .returned (.bool true) ∧ Below w.heap.size w w' := by
  unfold maxLen at hl
  have HR : Hid (RdG RdA w a C) := hr
  have HR' : Hid (RdG RdA w a' C) := hr'
  have HZ : Hid (FitsC C) := hz
  clear hr hr' hz
  go_enter Try.func53, Try.ntmps53
  go_wp2
  go_loopw [5] (fun i w' => ∃ k : Nat, i = .int .i64 k ∧ k ≤ C.length ∧ Below w.heap.size w w') (fun i _ => C.length - (intOf i).toNat)
  case atStart => exact ⟨0, rfl, Nat.zero_le _, Below.refl _ _⟩
  case round =>
    obtain ⟨k, rfl, hk, hw0⟩ := hrel
    have HB : Hid (Below w.heap.size w wr) := hw0
    clear hw0
    by_cases hlt : k < C.length
    · have hlt' : (k : Int) < (C.length : Int) := by omega
      obtain ⟨b, off, rfl, hb, ad, cp, hat⟩ := (HR.out.below stays_rd HB.out).get hlt
      obtain ⟨b', off', rfl, hb', ad', cp', hat'⟩ := (HR'.out.below stays_rd HB.out).get hlt
      have hne := Grown.some wr
      have x0 := fun x : Grown wr => x.cell hb hat.c0
      have x1 := fun x : Grown wr => x.cell hb hat.c1
      have y0 := fun x : Grown wr => x.cell hb' hat'.c0
      have y1 := fun x : Grown wr => x.cell hb' hat'.c1
      have HC : ∀ x : Grown wr, Hid (Calls Try.prog 73 #[.agg #[.int .i64 (nthC C k).f, .slice ad (nthC C k).P.length cp], .agg #[.int .i64 (nthC C k).f, .slice ad' (nthC C k).P.length cp']] x.out fun e w' => e = .returned (.bool true) ∧ Below x.out.heap.size x.out w') := fun x => eqC_any _ ad ad' cp cp' _ x.out (hat.reads.below x.bel) (hat'.reads.below x.bel) (HZ.out _ (nthC_mem hlt)).len (HZ.out _ (nthC_mem hlt)).fits
      clear hat hat'
      go_wp2
      refine wp_over (z := wr) (by kernel_rfl) (by kernel_rfl) (Below.refl _ _) ?_
      repeat (go_big_quiet_step (first | (go_at_call 73; exact call_over (HC _).out)))
      refine wpQuiet_nil ?_
      intro w2 hw2
      have HB2 : Hid (Below w.heap.size w w2) := grow_on HB.out (over_bel hw2)
      clear hw2 hne x0 x1 y0 y1 HC
      go_wp2
      go_roundw
      case rel => exact ⟨k + 1, by go_num, by omega, HB2.out⟩
      case measure => simp [intOf]; omega
    · have hge : ¬ (k : Int) < (C.length : Int) := by omega
      go_wp2
      go_ret
      exact ⟨rfl, HB.out⟩
theorem set3 {B M : Nat} {w w' : World} (h : Below B w w') (hM : B ≤ M) (v0 v1 v2 : Value) : Below B w (((w'.setCell ⟨M, 0, none⟩ v0).setCell ⟨M, 1, none⟩ v1).setCell ⟨M, 2, none⟩ v2) :=
  ((h.setCell hM _).setCell hM _).setCell hM _
theorem put3 {w : World} {M : Nat} {x0 x1 x2 : Value} {T : TypeId} (h : Blk w M #[x0, x1, x2] T) (v0 v1 v2 : Value) : Blk (((w.setCell ⟨M, 0, none⟩ v0).setCell ⟨M, 1, none⟩ v1).setCell ⟨M, 2, none⟩ v2) M #[v0, v1, v2] T :=
  ((h.set 0 v0).set 1 v1).set 2 v2
/-- blocks of unlike types are unlike -/
theorem blkT_ne {w : World} {a b : Nat} {cs ds : Array Value} {T U : TypeId} (h : Blk w a cs T) (k : Blk w b ds U) (hT : T ≠ U) : a ≠ b := fun e => by
  subst e
  unfold Blk at h k
  rw [h] at k
  injection k with k
  injection k with _ k
  exact hT k
theorem CB.set' {lo : Nat} {w : World} {M c N : Nat} {cs : List CRow} {ds : Array Value} (h : CB lo w M c cs) (hN : Blk w N ds 53) (i : Nat) (v : Value) : CB lo (w.setCell ⟨N, i, none⟩ v) M c cs := by
  obtain ⟨cur, h1, h2⟩ := h.outer
  exact CB.set h hN (by decide) (by decide) (blkT_ne hN h1 (by decide)) i v
theorem CB.set3 {lo : Nat} {w : World} {M c N : Nat} {cs : List CRow} {ds : Array Value} (h : CB lo w M c cs) (hN : Blk w N ds 53) (v0 v1 v2 : Value) : CB lo (((w.setCell ⟨N, 0, none⟩ v0).setCell ⟨N, 1, none⟩ v1).setCell ⟨N, 2, none⟩ v2) M c cs :=
  CB.set' (CB.set' (CB.set' h hN 0 v0) (hN.set 0 v0) 1 v1) ((hN.set 0 v0).set 1 v1) 2 v2

set_option maxHeartbeats 800000 in
theorem toPart_any (hd vr : Int) (a : Option Addr) (cap : Nat) (C : List PCh) (w : World) (hr : RdG RdA w a C) (hl : C.length ≤ 1048576) (hs : sumC C ≤ 1048576) :
    Calls Try.prog 30 #[.agg #[.int .i64 hd, .int .i64 vr, .slice a C.length cap]] w fun r w' => (∃ M cs, r = .returned (.agg #[.int .i64 hd, .int .i64 vr, .slice (some ⟨M, 0, none⟩) C.length C.length]) ∧ CB w.heap.size w' M C.length cs ∧ chs cs = C) ∧ Below w.heap.size w w' := by
  have HR : Hid (RdG RdA w a C) := hr
  have HS : Hid (sumC C ≤ 1048576) := hs
  clear hr hs
  go_enter Try.func30, Try.ntmps30
  go_wp2_with fail
  generalize hW : ((w.alloc (.cells #[.int .i64 hd, .int .i64 vr, .slice a C.length cap] 49)).alloc (.cells #[.int .i64 0, .int .i64 0, .slice none 0 0] 53)).alloc (.cells #[.int .i64 hd, .int .i64 vr, .slice none 0 0] 53) = W
  have hB3 : Below w.heap.size w W := by rw [← hW]; exact Alm.below3 w _ _ _
  have hP : Blk W w.heap.size #[.int .i64 hd, .int .i64 vr, .slice a C.length cap] 49 := by rw [← hW]; exact ((Blk.new _ _ _).alloc _).alloc _
  have hR : Blk W (w.heap.size + 1) #[.int .i64 0, .int .i64 0, .slice none 0 0] 53 := by rw [← hW]; exact (Blk.new_at (by simp)).alloc _
  have hO : Blk W (w.heap.size + 1 + 1) #[.int .i64 hd, .int .i64 vr, .slice none 0 0] 53 := by rw [← hW]; exact Blk.new_at (by simp)
  have hSz : W.heap.size = w.heap.size + 1 + 1 + 1 := by rw [← hW]; simp
  clear hW
  refine (toS_any a cap C _ (HR.out.below stays_rd hB3) hl HS.out).mono ?_
  rintro r w1 ⟨rfl, ⟨cs, hC, hch⟩, hb⟩
  rw [hSz] at hC ⊢
  have HB : Hid (Below w.heap.size w w1) := grow_on hB3 hb
  have HC : Hid (CB w.heap.size w1 (w.heap.size + 1 + 1 + 1) C.length cs ∧ chs cs = C) := ⟨hC.down (by omega), hch⟩
  have hR1 := hR.grow hb
  have hO1 := hO.grow hb
  have HRR : Hid (Blk w1 (w.heap.size + 1) #[.int .i64 0, .int .i64 0, .slice none 0 0] 53) := hR1
  have HO : Hid (Blk w1 (w.heap.size + 1 + 1) #[.int .i64 hd, .int .i64 vr, .slice none 0 0] 53) := hO1
  have o0 : w1.cell? ⟨w.heap.size + 1 + 1, 0, none⟩ = some (.int .i64 hd) := hO1.cell 0
  have o1 : w1.cell? ⟨w.heap.size + 1 + 1, 1, none⟩ = some (.int .i64 vr) := hO1.cell 1
  have o2 : w1.cell? ⟨w.heap.size + 1 + 1, 2, none⟩ = some (.slice none 0 0) := hO1.cell 2
  have fo := hO1.frozen 2
  have r0 : w1.cell? ⟨w.heap.size + 1, 0, none⟩ = some (.int .i64 0) := hR1.cell 0
  have r1 : w1.cell? ⟨w.heap.size + 1, 1, none⟩ = some (.int .i64 0) := hR1.cell 1
  have r2 : w1.cell? ⟨w.heap.size + 1, 2, none⟩ = some (.slice none 0 0) := hR1.cell 2
  have f0 := hR1.frozen 0
  have f1 := hR1.frozen 1
  have f2 := hR1.frozen 2
  clear hb hC hch hR hO hR1 hO1 hB3 hP hSz
  go_wp2
  have hs := put3 (HRR.out.set_other (p := ⟨w.heap.size + 1 + 1, 2, none⟩) (by show w.heap.size + 1 + 1 ≠ w.heap.size + 1; omega) (.slice (some ⟨w.heap.size + 1 + 1 + 1, 0, none⟩) C.length C.length)) (.int .i64 hd) (.int .i64 vr) (.slice (some ⟨w.heap.size + 1 + 1 + 1, 0, none⟩) C.length C.length)
  have s0 := hs.cell 0
  have s1 := hs.cell 1
  have s2 := hs.cell 2
  refine bodyPost_ret (v := .agg #[.int .i64 hd, .int .i64 vr, .slice (some ⟨w.heap.size + 1 + 1 + 1, 0, none⟩) C.length C.length]) (by simp [results, Try.results30, go_sem, s0, s1, s2]) rfl ?_
  exact ⟨⟨w.heap.size + 1 + 1 + 1, cs, rfl, CB.set3 (CB.set' HC.out.1 HO.out _ _) (HRR.out.set_other (by show w.heap.size + 1 + 1 ≠ w.heap.size + 1; omega) _) _ _ _, HC.out.2⟩, set3 (ChnI.set_low HB.out (by omega) _ _) (by omega) _ _ _⟩

theorem eqPart_any (hd vr : Int) (a a' : Option Addr) (cap cap' : Nat) (C : List PCh) (w : World) (hr : RdG RdA w a C) (hr' : RdG RdA w a' C) (hl : C.length ≤ maxLen) (hz : FitsC C) :
    Calls Try.prog 32 #[.agg #[.int .i64 hd, .int .i64 vr, .slice a C.length cap], .agg #[.int .i64 hd, .int .i64 vr, .slice a' C.length cap']] w fun e w' => e = .returned (.bool true) ∧ Below w.heap.size w w' := by
  have HR : Hid (RdG RdA w a C ∧ RdG RdA w a' C ∧ C.length ≤ maxLen ∧ FitsC C) := ⟨hr, hr', hl, hz⟩
  clear hr hr' hl hz
  go_enter Try.func32, Try.ntmps32
  go_wp2_with fail
  refine (eqS_any a a' cap cap' C _ (HR.out.1.below stays_rd (Go.Joins.below_alloc2 w _ _)) (HR.out.2.1.below stays_rd (Go.Joins.below_alloc2 w _ _)) HR.out.2.2.1 HR.out.2.2.2).mono ?_
  rintro r w1 ⟨rfl, hb⟩
  have HB : Hid (Below w.heap.size w w1) := grow_on (Go.Joins.below_alloc2 w _ _) hb
  clear hb
  go_wp2
  go_ret
  exact ⟨rfl, HB.out⟩

def I64 (x : Int) : Prop := -9223372036854775808 ≤ x ∧ x ≤ 9223372036854775807
end Go.Proofs.Ytbccaioahifloaa.Prt
