/-
  A block of the call's own, known whole: its cells read, written, kept while other memory grows; a make of elements of several cells.
-/
import Derived.Test.YtgncimlojbnbfaaGreatQOver
import Derived.Deep.OwnRows
set_option linter.unusedVariables false
namespace Go.Proofs.YtgncimlojbnbfaaGreat.Blk
open Go.RowKit Over

def Blk (w : World) (M : Nat) (cs : Array Value) (T : TypeId) : Prop := w.heap[M]? = some (.cells cs T)
theorem Blk.lt {w : World} {M : Nat} {cs : Array Value} {T : TypeId} (h : Blk w M cs T) : M < w.heap.size := by
  unfold Blk at h
  exact (Array.getElem?_eq_some_iff.1 h).1
theorem Blk.cell {w : World} {M : Nat} {cs : Array Value} {T : TypeId} (h : Blk w M cs T) (i : Nat) : w.cell? ⟨M, i, none⟩ = cs[i]? := by
  unfold Blk at h
  simp [World.cell?, h]
theorem Blk.frozen {w : World} {M : Nat} {cs : Array Value} {T : TypeId} (h : Blk w M cs T) (i : Nat) : w.frozen? ⟨M, i, none⟩ = false := by
  unfold Blk at h
  simp [World.frozen?, h]
theorem Blk.below {w w' : World} {M B : Nat} {cs : Array Value} {T : TypeId} (h : Blk w M cs T) (hb : Below B w w') (hM : M < B) : Blk w' M cs T := by
  unfold Blk at *
  rw [hb.block M hM]; exact h
theorem Blk.grow {w w' : World} {M : Nat} {cs : Array Value} {T : TypeId} (h : Blk w M cs T) (hb : Below w.heap.size w w') : Blk w' M cs T := h.below hb h.lt
theorem Blk.alloc {w : World} {M : Nat} {cs : Array Value} {T : TypeId} (h : Blk w M cs T) (o : Obj) : Blk (w.alloc o) M cs T := h.grow ((Below.refl _ _).alloc (Nat.le_refl _) o)
theorem Blk.drew {w : World} {M : Nat} {cs : Array Value} {T : TypeId} (h : Blk w M cs T) : Blk w.drew M cs T := h
theorem Blk.new (w : World) (cs : Array Value) (T : TypeId) : Blk (w.alloc (.cells cs T)) w.heap.size cs T := by
  unfold Blk
  show (w.heap.push _)[w.heap.size]? = _
  simp
theorem Blk.new_at {w : World} {M : Nat} {cs : Array Value} {T : TypeId} (h : M = w.heap.size) : Blk (w.alloc (.cells cs T)) M cs T := by
  subst h; exact Blk.new _ _ _
theorem Blk.set {w : World} {M : Nat} {cs : Array Value} {T : TypeId} (h : Blk w M cs T) (i : Nat) (v : Value) : Blk (w.setCell ⟨M, i, none⟩ v) M (cs.setIfInBounds i v) T := by
  unfold Blk at *
  simp [World.setCell, Array.getElem?_modify, h]
theorem Blk.set_other {w : World} {M : Nat} {cs : Array Value} {T : TypeId} (h : Blk w M cs T) {p : Addr} (hp : p.block ≠ M) (v : Value) : Blk (w.setCell p v) M cs T := by
  unfold Blk at *
  rw [Below.heap_setCell _ _ _ _ (Ne.symm hp)]; exact h
theorem make_k {P : Program} (t e : TypeId) (z : Value) (k bytes : Nat) (ht : P.underlying t = some (.slice e)) (hinfo : (P.info? e).map (fun i => (i.zero, i.size, i.bytes)) = some (some z, k, bytes))
    (kl kc : IntKind) (n : Nat) (hbytes : bytes * n ≤ 281474976710656) (h63 : n ≤ 9223372036854775807) (w : World) :
    (Instr.makeSlice t (.int kl (n : Int)) (.int kc (n : Int))).run P w = .ok (.slice (some ⟨w.heap.size, 0, none⟩) n n) (w.alloc (.cells (madeCells z.cells (n * k)) e)) := by
  obtain ⟨i, hi, hzz⟩ := Option.map_eq_some_iff.1 hinfo
  simp only [Prod.mk.injEq] at hzz
  obtain ⟨hz, hs, hb⟩ := hzz
  have hb' : (i.bytes : Int) * (n : Int) ≤ 281474976710656 := by
    have h : ((i.bytes * n : Nat) : Int) ≤ 281474976710656 := by rw [hb]; omega
    rwa [Int.natCast_mul] at h
  have hr := run_make (P := P) w t e i z ht hi hz kl kc n n (by omega) (Int.le_refl _) hb' (by omega)
  rw [Int.toNat_natCast, hs] at hr
  exact hr
end Go.Proofs.YtgncimlojbnbfaaGreat.Blk
