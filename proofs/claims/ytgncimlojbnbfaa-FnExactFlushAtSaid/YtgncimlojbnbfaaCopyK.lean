/-
  The builtin copy of a whole row whose elements have several cells, into a block of the call's own.
-/
import Derived.Test.YtgncimlojbnbfaaBlk
import Derived.Laws.CopyOwn
import Derived.Laws.Append
namespace Go.Proofs.Ytgncimlojbnbfaa.CopyK
open Go.RowKit Go.Proofs.Ytgncimlojbnbfaa.Over Go.Proofs.Ytgncimlojbnbfaa.Blk
set_option linter.unusedVariables false

theorem run_copy_k {P : Program} (w : World) (dT sT ty elem : TypeId) (k g n c c' : Nat) (cur : Array Value) (t : TypeId) (cs : List Value) (a : Option Addr)
    (hu : P.underlying dT = some (.slice elem)) (hs : (P.info? elem).map (·.size) = some k) (hg : Blk w g cur t) (hcur : cur.size = n * k) (hcs : cs.length = n * k)
    (ha : n = 0 ∨ ∃ ad, a = some ad ∧ ∀ j v, cs[j]? = some v → w.cell? (ad.add j) = some v) (h1 : ∀ v ∈ cs, v.oneCell' = true) :
    (Builtin.copy_ #[dT, sT] ty #[.slice (some ⟨g, 0, none⟩) n c, .slice a n c']).run P w = .ok (goInt n) (w.setRow g cs.toArray) := by
  have hg' : w.heap[g]? = some (.cells cur t (0, 0)) := hg
  have hst := run_storeCells_at P g 0 t cs 0 cur w hg' (by omega) h1
  have e : (cur.toList.take (0 + 0) ++ cs ++ cur.toList.drop (0 + 0 + cs.length)).toArray = cs.toArray := by
    rw [List.drop_eq_nil_of_le (by simp; omega)]; simp
  rw [e] at hst
  have hfc : (Builtin.firstCells k n (.slice a n c')).run P w = .ok cs.toArray w := by
    rcases ha with h0 | ⟨ad, rfl, hsrc⟩
    · have hc0 : cs = [] := List.eq_nil_of_length_eq_zero (by rw [hcs, h0]; simp)
      subst hc0
      cases a with
      | none => exact run_firstCells_none (P := P) (w := w) _ _ _ _
      | some ad => exact run_firstCells_some (P := P) (w := w) _ _ _ _ _ _ hcs (fun j v h => by simp at h)
    · exact run_firstCells_some (P := P) (w := w) _ _ _ _ _ _ hcs hsrc
  cases hq : P.info? elem with
  | none => simp [hq] at hs
  | some i =>
    have hi : i.size = k := by simpa [hq] using hs
    simp [Builtin.copy_, run_underlying hu, Builtin.lenOf, sizeOf, typeInfo, hq, hi, hfc, hst]

theorem wpList_copy_k {P : Program} {w : World} {ops : Array Oper} {rest : List Oper} {o : Oper} {a : Act} {Q : Exit → Act → World → Prop} (hgd : o.guard = none) (d s : Operand) (dT sT : TypeId)
    (ho : o.op = .call { callee := .builtin .copy, args := #[d, s], argTypes := #[dT, sT] }) (elem : TypeId) (k : Nat) (hu : P.underlying dT = some (.slice elem)) (hsz : (P.info? elem).map (·.size) = some k)
    (g n c c' : Nat) (p : Option Addr) (hd : a.eval d = .slice (some ⟨g, 0, none⟩) n c) (hs : a.eval s = .slice p n c') (cur : Array Value) (t : TypeId) (hg : Blk w g cur t) (hcur : cur.size = n * k) (cs : List Value) (hcs : cs.length = n * k)
    (ha : n = 0 ∨ ∃ ad, p = some ad ∧ ∀ j v, cs[j]? = some v → w.cell? (ad.add j) = some v) (h1 : ∀ v ∈ cs, v.oneCell' = true) (B : Nat) (w0 : World) (hb : Below B w0 w) (hBg : B ≤ g)
    (h : ∀ w', Blk w' g cs.toArray t → Below B w0 w' → wpList P ops Q rest (a.put o.dst (goInt n)) w') : wpList P ops Q (o :: rest) a w := by
  refine wpList_plain hgd fun K hK => ?_
  have hrun := run_copy_k (P := P) w dT sT o.type elem k g n c c' cur t cs p hu hsz hg hcur hcs ha h1
  unfold Oper.wp
  simp [execOp, ho, resolve, invoke, builtin, hd, hs, hrun, Result.andThen]
  exact hK _ _ (h _ (setRow_heap w g _ _ t _ hg) (below_setRow hb hBg _))
end Go.Proofs.Ytgncimlojbnbfaa.CopyK
