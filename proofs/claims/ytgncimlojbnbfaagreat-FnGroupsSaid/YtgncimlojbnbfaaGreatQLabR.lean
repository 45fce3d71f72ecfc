/-
  The builtin copy of a whole row whose elements have several cells, into a block of the call's own.
  Plain lists of labels: putting one into a sorted list from the right, sorting by that, what SortSet answers. No program is spoken of.
  PROVED: the contracts of the comparing function that SortSet hands to the library's sort, and of the library's insertion sort over labels: it leaves the row sorted as the plain lists say.
  PROVED: impl.SortSet, through the library's stable sort, answers what the plain lists say, in memory of its own; nothing that was there is changed.
-/
import Derived.Test.YtgncimlojbnbfaaGreatQBlk
import Derived.Laws.CopyOwn
import Derived.Laws.Append
import Derived.Test.YtgncimlojbnbfaaGreatQLabO
import Derived.Test.YtgncimlojbnbfaaGreatQLabT
set_option linter.unusedVariables false
namespace Go.Proofs.YtgncimlojbnbfaaGreat.CopyK
open Go.RowKit Over Blk

theorem run_copy_k {P : Program} (w : World) (dT sT ty elem : TypeId) (k g n c c' : Nat) (cur : Array Value) (t : TypeId) (cs : List Value) (a : Option Addr)
    (hu : P.underlying dT = some (.slice elem)) (hs : (P.info? elem).map (·.size) = some k) (hg : Blk w g cur t) (hcur : cur.size = n * k) (hcs : cs.length = n * k)
    (ha : n = 0 ∨ ∃ ad, a = some ad ∧ ∀ j v, cs[j]? = some v → w.cell? (ad.add j) = some v) (h1 : ∀ v ∈ cs, v.oneCell' = true) :
    (Builtin.copy_ #[dT, sT] ty #[.slice (some ⟨g, 0, none⟩) n c, .slice a n c']).run P w = .ok (goInt n) (w.setRow g cs.toArray) := by
  have hg' : w.heap[g]? = some (.cells cur t (0, 0)) := hg
  have hst := run_storeCells_at P g 0 t cs 0 cur w hg' (by omega) h1
  have e : (cur.toList.take (0 + 0) ++ cs ++ cur.toList.drop (0 + 0 + cs.length)).toArray = cs.toArray := by
    rw [List.drop_eq_nil_of_le (by simp; omega)]; simp
  rw [e] at hst
  have hfc : (Builtin.firstCells k n (.slice a n c')).run P w = .ok cs.toArray w := by
    rcases ha with h0 | ⟨ad, rfl, hsrc⟩
    · have hc0 : cs = [] := List.eq_nil_of_length_eq_zero (by rw [hcs, h0]; simp)
      subst hc0
      cases a with
      | none => exact run_firstCells_none (P := P) (w := w) _ _ _ _
      | some ad => exact run_firstCells_some (P := P) (w := w) _ _ _ _ _ _ hcs (fun j v h => by simp at h)
    · exact run_firstCells_some (P := P) (w := w) _ _ _ _ _ _ hcs hsrc
  cases hq : P.info? elem with
  | none => simp [hq] at hs
  | some i =>
    have hi : i.size = k := by simpa [hq] using hs
    simp [Builtin.copy_, run_underlying hu, Builtin.lenOf, sizeOf, typeInfo, hq, hi, hfc, hst]

theorem wpList_copy_k {P : Program} {w : World} {ops : Array Oper} {rest : List Oper} {o : Oper} {a : Act} {Q : Exit → Act → World → Prop} (hgd : o.guard = none) (d s : Operand) (dT sT : TypeId)
    (ho : o.op = .call { callee := .builtin .copy, args := #[d, s], argTypes := #[dT, sT] }) (elem : TypeId) (k : Nat) (hu : P.underlying dT = some (.slice elem)) (hsz : (P.info? elem).map (·.size) = some k)
    (g n c c' : Nat) (p : Option Addr) (hd : a.eval d = .slice (some ⟨g, 0, none⟩) n c) (hs : a.eval s = .slice p n c') (cur : Array Value) (t : TypeId) (hg : Blk w g cur t) (hcur : cur.size = n * k) (cs : List Value) (hcs : cs.length = n * k)
    (ha : n = 0 ∨ ∃ ad, p = some ad ∧ ∀ j v, cs[j]? = some v → w.cell? (ad.add j) = some v) (h1 : ∀ v ∈ cs, v.oneCell' = true) (B : Nat) (w0 : World) (hb : Below B w0 w) (hBg : B ≤ g)
    (h : ∀ w', Blk w' g cs.toArray t → Below B w0 w' → wpList P ops Q rest (a.put o.dst (goInt n)) w') : wpList P ops Q (o :: rest) a w := by
  refine wpList_plain hgd fun K hK => ?_
  have hrun := run_copy_k (P := P) w dT sT o.type elem k g n c c' cur t cs p hu hsz hg hcur hcs ha h1
  unfold Oper.wp
  simp [execOp, ho, resolve, invoke, builtin, hd, hs, hrun, Result.andThen]
  exact hK _ _ (h _ (setRow_heap w g _ _ t _ hg) (below_setRow hb hBg _))
end Go.Proofs.YtgncimlojbnbfaaGreat.CopyK
namespace Go.Proofs.YtgncimlojbnbfaaGreat.LabP
open Go.RowKit
open Labs LabS
open StrB (lessB retB)
open LabO (setB set_long okAt)

def mid (p : List Lab) (x : Lab) (j : Nat) : List Lab := p.take j ++ x :: p.drop j
def pos (x : Lab) (p : List Lab) : Nat → Nat
  | 0 => 0
  | k + 1 => if lessB x.1 (nth p k).1 = true then pos x p k else k + 1
def ins (p : List Lab) (x : Lab) : List Lab := mid p x (pos x p p.length)
def upto (l : List Lab) : Nat → List Lab
  | 0 => []
  | k + 1 => ins (upto l k) (nth l k)
def row (l : List Lab) (i j : Nat) : List Lab := mid (upto l i) (nth l i) j ++ l.drop (i + 1)
end Go.Proofs.YtgncimlojbnbfaaGreat.LabP
namespace Go.Proofs.YtgncimlojbnbfaaGreat.LabQ
open Go.RowKit
open Labs LabS LabP Over Blk
open StrB (lessB retB)

theorem retI {a b : Int} (h : a = b) : Ending.returned (.int .i64 a) = .returned (.int .i64 b) := by rw [h]

def HeldF (cs : Array Value) (f : Nat → Lab) (n : Nat) : Prop := ∀ m, m < n → cs[m * 2]? = some (.string (f m).1) ∧ cs[m * 2 + 1]? = some (.string (f m).2)
end Go.Proofs.YtgncimlojbnbfaaGreat.LabQ
namespace Go.Proofs.YtgncimlojbnbfaaGreat.LabR
open Go.RowKit
open Labs LabS LabP LabQ Over Blk CopyK
open StrB (lessB retB)
open LabO (setB set_long Fits)
open LabT (Held held_reads infoL)

def flat : List Lab → List Value
  | [] => []
  | x :: l => .string x.1 :: .string x.2 :: flat l
theorem flat_len : ∀ l : List Lab, (flat l).length = l.length * 2
  | [] => rfl
  | x :: l => by rw [flat, List.length_cons, List.length_cons, flat_len l, List.length_cons]; omega
theorem flat_get : ∀ (l : List Lab) (m : Nat), m < l.length → (flat l)[m * 2]? = some (.string (nth l m).1) ∧ (flat l)[m * 2 + 1]? = some (.string (nth l m).2)
  | [], m, h => by simp at h
  | x :: l, 0, _ => ⟨rfl, rfl⟩
  | x :: l, m + 1, h => by
    have := flat_get l m (by simpa using h)
    have e : (m + 1) * 2 = m * 2 + 2 := by omega
    rw [e]
    exact this
theorem flat_one : ∀ (l : List Lab), ∀ v ∈ flat l, v.oneCell' = true
  | [], v, h => by simp [flat] at h
  | x :: l, v, h => by
    simp only [flat, List.mem_cons] at h
    rcases h with rfl | rfl | h
    · rfl
    · rfl
    · exact flat_one l v h
theorem flat_held (l : List Lab) : HeldF (flat l).toArray (nth l) l.length := fun m hm => by
  have := flat_get l m hm
  simpa using this
theorem flat_src {w : World} {b off : Nat} {l : List Lab} (h : ∀ i, i < l.length → w.cell? ⟨b, off + i * 2, none⟩ = some (.string (nth l i).1) ∧ w.cell? ⟨b, off + i * 2 + 1, none⟩ = some (.string (nth l i).2)) :
    ∀ j v, (flat l)[j]? = some v → w.cell? ((⟨b, off, none⟩ : Addr).add j) = some v := fun j v hj => by
  have ea : (⟨b, off, none⟩ : Addr).add j = ⟨b, off + j, none⟩ := by by_cases h : j = 0 <;> simp [Addr.add, h]
  rw [ea]
  have hlt : j < l.length * 2 := by
    rw [← flat_len]
    exact (List.getElem?_eq_some_iff.1 hj).1
  rcases Nat.mod_two_eq_zero_or_one j with e | e
  · obtain ⟨m, rfl⟩ : ∃ m, j = m * 2 := ⟨j / 2, by omega⟩
    rw [(flat_get l m (by omega)).1] at hj
    rw [← hj]; exact (h m (by omega)).1
  · obtain ⟨m, rfl⟩ : ∃ m, j = m * 2 + 1 := ⟨j / 2, by omega⟩
    rw [(flat_get l m (by omega)).2] at hj
    rw [← hj, ← Nat.add_assoc]; exact (h m (by omega)).2
theorem reads_src {w : World} {a : Option Addr} {l : List Lab} (h : Reads w a l) : l.length = 0 ∨ ∃ ad, a = some ad ∧ ∀ j v, (flat l)[j]? = some v → w.cell? (ad.add j) = some v := by
  rcases h with rfl | ⟨b, off, rfl, _, hc⟩
  · exact .inl rfl
  · exact .inr ⟨_, rfl, flat_src hc⟩

theorem infoK : (Tryz.prog.info? 99).map (·.size) = some 2 := by kernel_rfl
set_option maxHeartbeats 800000 in
theorem copied_any (a : Option Addr) (cap : Nat) (l : List Lab) (w : World) (M : Nat) (hM : M = w.heap.size) (hr : Reads w a l) (hl : l.length ≤ 1048576) :
    Calls Tryz.prog 71 #[.slice a l.length cap] w
      fun e w' => e = .returned (.slice (some ⟨M, 0, none⟩) l.length l.length) ∧ Below M w w' ∧ Blk w' M (flat l).toArray 99 := by
  subst hM
  have HR : Hid (Reads w a l) := hr
  clear hr
  have hmk := make_k (P := Tryz.prog) 25 99 (.agg #[.string ByteArray.empty, .string ByteArray.empty]) 2 32 Tryz.underlying25 infoL .i64 .i64 l.length (by omega) (by omega)
  go_enter Tryz.func71, Tryz.ntmps71
  go_wp2_with (refine wpList_copy_k (by rfl) _ _ 25 25 (by rfl) 99 2 Tryz.underlying25 infoK w.heap.size l.length l.length cap a (by rfl) (by rfl) (madeCells #[.string ByteArray.empty, .string ByteArray.empty] (l.length * 2)) 99 ?c1 ?c2 (flat l) (flat_len l) ?c3 (flat_one l) w.heap.size _ (Below.refl _ _) (Nat.le_refl _) ?_)
  case c1 => exact Blk.new_at rfl
  case c2 => simp [size_madeCells]
  case c3 =>
    rcases reads_src HR.out with h | ⟨ad, rfl, h⟩
    · exact .inl h
    · rcases HR.out with hn | ⟨b, off, e, hlt, hc⟩
      · exact .inl (by rw [hn]; rfl)
      · refine .inr ⟨ad, rfl, fun j v hj => ?_⟩
        have := h j v hj
        have hb : (ad.add j).block < w.heap.size := by cases e; by_cases h : j = 0 <;> simp [Addr.add, h, hlt]
        rw [World.cell?_alloc_lt _ _ _ hb]
        exact this
  intro w2 hB2 hb2
  have HB2 : Hid (Blk w2 w.heap.size (flat l).toArray 99) := hB2
  have HW2 : Hid (Below w.heap.size w w2) := ((Below.refl _ _).alloc (Nat.le_refl _) _).trans hb2
  clear hB2 hb2 hmk
  go_wp2
  go_ret
  exact ⟨rfl, HW2.out, HB2.out⟩
def Own (w w' : World) (M : Nat) (s : List Lab) : Prop := w.heap.size ≤ M ∧ ∃ cs : Array Value, Blk w' M cs 99 ∧ s.length * 2 ≤ cs.size ∧ Held cs s s.length
end Go.Proofs.YtgncimlojbnbfaaGreat.LabR
