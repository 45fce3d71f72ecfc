/-
  PROVED: the marks that markAlarmS writes lie in the copied alarms' own memory alone; what a slice of alarms that came in is.
-/
import Derived.Test.YtgncimlojbnbfabAlms
namespace Go.Proofs.Ytgncimlojbnbfab.Alms
open Go.RowKit
open Go.ChangeShapes Go.WideShapes
open Go.Proofs.Ytgncimlojbnbfab.Labs Go.Proofs.Ytgncimlojbnbfab.LabS Go.Proofs.Ytgncimlojbnbfab.LabT Go.Proofs.Ytgncimlojbnbfab.Alm Go.Proofs.Ytgncimlojbnbfab.Over Go.Proofs.Ytgncimlojbnbfab.Blk
open Go.Proofs.Ytgncimlojbnbfab.Mark (Apart)
open Go.Proofs.Ytgncimlojbnbfab.StrB (retB)
set_option linter.unusedVariables false

/-- what was there is as it was, but for the blocks from lo up to hi -/
structure Aside (lo hi : Nat) (w w' : World) : Prop where
  os : w'.os = w.os
  tape : w'.tape = w.tape
  output : w'.output = w.output
  size : w.heap.size ≤ w'.heap.size
  block : ∀ k, k < w.heap.size → (k < lo ∨ hi ≤ k) → w'.heap[k]? = w.heap[k]?
theorem Aside.refl (lo hi : Nat) (w : World) : Aside lo hi w w := ⟨rfl, rfl, rfl, Nat.le_refl _, fun _ _ _ => rfl⟩
theorem Aside.trans {lo hi : Nat} {a b c : World} (h : Aside lo hi a b) (k : Aside lo hi b c) : Aside lo hi a c :=
  ⟨k.os.trans h.os, k.tape.trans h.tape, k.output.trans h.output, Nat.le_trans h.size k.size, fun i hi hM => (k.block i (Nat.lt_of_lt_of_le hi h.size) hM).trans (h.block i hi hM)⟩
theorem Aside.of {lo hi : Nat} {w w' : World} (h : Below w.heap.size w w') : Aside lo hi w w' := ⟨h.os, h.tape, h.output, h.size, fun k hk _ => h.block k hk⟩
theorem Aside.below {lo hi : Nat} {a b c : World} (h : Aside lo hi a b) (k : Below b.heap.size b c) : Aside lo hi a c := h.trans (Aside.of k)
theorem Aside.apart {lo hi M : Nat} {w w' : World} (h : Apart M w w') (h0 : lo ≤ M) (h1 : M < hi) : Aside lo hi w w' := ⟨h.os, h.tape, h.output, h.size, fun k hk hM => h.block k hk (by omega)⟩
theorem Aside.set {lo hi M : Nat} {a w : World} (h : Aside lo hi a w) (h0 : lo ≤ M) (h1 : M < hi) (i : Nat) (v : Value) : Aside lo hi a (w.setCell ⟨M, i, none⟩ v) :=
  h.trans (Aside.apart ((Apart.refl M w).setCell i v) h0 h1)
theorem Aside.low {lo hi B : Nat} {w w' : World} (h : Aside lo hi w w') (hB : B ≤ lo) (hw : B ≤ w.heap.size) : Below B w w' :=
  ⟨h.os, h.tape, h.output, h.size, fun k hk => h.block k (by omega) (by omega)⟩
theorem Aside.blk {lo hi N : Nat} {w w' : World} {cs : Array Value} {T : TypeId} (h : Aside lo hi w w') (hb : Blk w N cs T) (hn : N < lo ∨ hi ≤ N) : Blk w' N cs T := by
  have hlt := hb.lt
  unfold Blk at *
  rw [h.block N hlt hn]; exact hb

/-- the copied alarms while they are marked -/
structure KeepA (M : Nat) (w : World) (P : List PAl) (cs : Array Value) (g : Nat → Nat) : Prop where
  blk : Blk w M cs 45
  size : cs.size = P.length * 4
  cell : ∀ i, i < P.length → cs[i * 4]? = some (.slice (some ⟨g i, 0, none⟩) (nthP P i).l.length (nthP P i).l.length)
  own : ∀ i, i < P.length → M < g i ∧ ∃ ds : Array Value, Blk w (g i) ds 47 ∧ ds.size = (nthP P i).l.length * 2
  inc : ∀ i j, i < j → j < P.length → g i < g j
theorem CopyA.keep {M : Nat} {w : World} {P : List PAl} {cs : Array Value} {g : Nat → Nat} (h : CopyA M w P P.length cs g) : KeepA M w P cs g :=
  ⟨h.blk, h.size, fun i hi => (h.cell i hi).1, fun i hi => by
    obtain ⟨h0, ds, h1, h2, _⟩ := h.own i hi
    exact ⟨h0, ds, h1, h2⟩, h.inc⟩
theorem KeepA.grow {M : Nat} {w w' : World} {P : List PAl} {cs : Array Value} {g : Nat → Nat} (h : KeepA M w P cs g) (hb : Below w.heap.size w w') : KeepA M w' P cs g :=
  ⟨h.blk.grow hb, h.size, h.cell, fun i hi => by
    obtain ⟨h0, ds, h1, h2⟩ := h.own i hi
    exact ⟨h0, ds, h1.grow hb, h2⟩, h.inc⟩
theorem KeepA.ne {M : Nat} {w : World} {P : List PAl} {cs : Array Value} {g : Nat → Nat} (h : KeepA M w P cs g) {i j : Nat} (hi : i < P.length) (hj : j < P.length) (hne : i ≠ j) : g i ≠ g j := by
  rcases Nat.lt_or_gt_of_ne hne with hlt | hlt
  · have := h.inc i j hlt hj; omega
  · have := h.inc j i hlt hi; omega
theorem KeepA.marked {M : Nat} {w w' : World} {P : List PAl} {cs ds : Array Value} {g : Nat → Nat} {j : Nat} (h : KeepA M w P cs g) (hj : j < P.length) (ha : Apart (g j) w w') (hd : Blk w' (g j) ds 47) (hs : ds.size = (nthP P j).l.length * 2) : KeepA M w' P cs g :=
  ⟨ha.blk h.blk (by have := (h.own j hj).1; omega), h.size, h.cell, fun i hi => by
    obtain ⟨h0, es, h1, h2⟩ := h.own i hi
    by_cases e : i = j
    · subst e; exact ⟨h0, ds, hd, hs⟩
    · exact ⟨h0, es, ha.blk h1 (h.ne hi hj e), h2⟩, h.inc⟩
theorem KeepA.set {M : Nat} {w : World} {P : List PAl} {cs : Array Value} {g : Nat → Nat} (h : KeepA M w P cs g) (k : Nat) (hk : ∀ i, k ≠ i * 4) (v : Value) : KeepA M (w.setCell ⟨M, k, none⟩ v) P (cs.setIfInBounds k v) g :=
  ⟨h.blk.set _ _, by simpa using h.size, fun i hi => by rw [set_ne (hk i)]; exact h.cell i hi, fun i hi => by
    obtain ⟨h0, es, h1, h2⟩ := h.own i hi
    exact ⟨h0, es, h1.set_other (by show M ≠ g i; omega) _, h2⟩, h.inc⟩

set_option maxRecDepth 100000 in
/-- a slice of alarms that came in -/
theorem open_alarms {H : Type} {enc : TypeId × Value → H} {W : World} {base : Nat} {spare : Nat → Bool} {held : Bool} {a : Option Addr} {len cap : Nat} {d : DataW H} {p : List MemPlace}
    (h : DataW.Trod enc Try.prog W base spare held 35 (.slice a len cap) d p) : ∃ P : List PAl, len = P.length ∧ RdA W a P ∧ P.length ≤ maxLen ∧ FitsP P := by
  obtain ⟨fuel, hf⟩ := h
  rcases Go.Deep.open_slice Try.underlying35 (by simpa [Value.cells] using hf) with ⟨hcs, _⟩ | ⟨x, l, c, m, n, D, Pl, hcs, _, hl, hm, hmm, _, hx⟩
  · simp at hcs
    obtain ⟨rfl, rfl, rfl⟩ := hcs
    exact ⟨[], rfl, .inl rfl, by simp, fun i hi => by simp at hi⟩
  · simp at hcs
    obtain ⟨rfl, rfl, rfl⟩ := hcs
    have hlm : len ≤ m := by rw [hmm]; split <;> omega
    have each : ∀ i, i < len → ∃ z : PAl, FitA z ∧ ∃ (ad : Option Addr) (cp : Nat), W.cell? (x.add (i * 4)) = some (.slice ad z.l.length cp) ∧ W.cell? (x.add (i * 4 + 1)) = some (.int .i64 z.s) ∧ W.cell? (x.add (i * 4 + 2)) = some (.int .i64 z.e) ∧ W.cell? (x.add (i * 4 + 3)) = some (.string z.n) ∧ Reads W ad z.l := by
      intro i hi
      obtain ⟨cs', h1, h2⟩ := hx i (by omega)
      rw [cellsA] at h1
      obtain ⟨_, hlen, hcell⟩ := World.cells?_some h1
      obtain ⟨xs, k, hk, hxy, _, hxl, hf⟩ := DataW.trod_struct Try.underlying59 h2
      match xs, hxl, cs', hlen with
      | [y0, y1, y2, y3], _, [v0, v1, v2, v3], _ =>
        have k0 : Try.prog.cellsOf 23 = 1 := by kernel_rfl
        have k1 : Try.prog.cellsOf 3 = 1 := by kernel_rfl
        have k2 : Try.prog.cellsOf 9 = 1 := by kernel_rfl
        have g0 : DataW.trod enc Try.prog W base spare held k 23 [v0] = some y0 := by have := hf 0 _ rfl; simpa [k0] using this
        have g1 : DataW.trod enc Try.prog W base spare held k 3 [v1] = some y1 := by have := hf 1 _ rfl; simpa [k1] using this
        have g2 : DataW.trod enc Try.prog W base spare held k 3 [v2] = some y2 := by have := hf 2 _ rfl; simpa [k1] using this
        have g3 : DataW.trod enc Try.prog W base spare held k 9 [v3] = some y3 := by have := hf 3 _ rfl; simpa [k2] using this
        obtain ⟨ad, ln, cp, e0⟩ := Go.Joins.slice_form Try.underlying23 g0
        obtain ⟨s, e1, _, z1⟩ := DataW.trod_int Try.underlying3 g1
        obtain ⟨e, e2, _, z2⟩ := DataW.trod_int Try.underlying3 g2
        obtain ⟨nt, e3, _, z3⟩ := DataW.trod_string Try.underlying9 g3
        simp at e0 e1 e2 e3
        subst e0 e1 e2 e3
        obtain ⟨lb, rfl, hr, hll, hff⟩ := open_labs g0
        have c0 := hcell 0 (by omega)
        have c1 := hcell 1 (by omega)
        have c2 := hcell 2 (by omega)
        have c3 := hcell 3 (by omega)
        rw [Go.Deep.add_add] at c0 c1 c2 c3
        exact ⟨⟨lb, s, e, nt⟩, ⟨hll, hff, Go.bounds_i64 z1, Go.bounds_i64 z2, z3⟩, ad, cp, by simpa using c0, by simpa using c1, by simpa using c2, by simpa using c3, hr⟩
    have hin : Inhabited PAl := ⟨⟨[], 0, 0, ByteArray.empty⟩⟩
    obtain ⟨f, hfz⟩ := Go.Deep.choose_lt each
    have hlen : ((List.range len).map f).length = len := by simp
    have hn : ∀ i, i < len → nthP ((List.range len).map f) i = f i := fun i hi => by rw [nthP_eq (by simpa using hi)]; simp
    refine ⟨(List.range len).map f, hlen.symm, ?_, by omega, fun i hi => ?_⟩
    · by_cases h0 : len = 0
      · left; subst h0; rfl
      · right
        obtain ⟨b, off, spot⟩ := x
        obtain ⟨_, ad, cp, c0, _⟩ := hfz 0 (by omega)
        have hspot : spot = none := by simpa [Addr.add] using World.cell?_spot c0
        subst hspot
        have eb : b < W.heap.size := by
          by_cases hb : b < W.heap.size
          · exact hb
          · have : W.heap[b]? = none := by simp; omega
            simp [World.cell?, Addr.add, this] at c0
        have ea : ∀ i, (⟨b, off, none⟩ : Addr).add i = ⟨b, off + i, none⟩ := fun i => by by_cases h : i = 0 <;> simp [Addr.add, h]
        refine ⟨b, off, rfl, eb, fun i hi => ?_⟩
        rw [hlen] at hi
        obtain ⟨_, ad, cp, c0, c1, c2, c3, hr⟩ := hfz i hi
        rw [ea] at c0 c1 c2 c3
        rw [hn i hi]
        exact ⟨ad, cp, c0, c1, c2, c3, hr⟩
    · rw [hlen] at hi
      rw [hn i hi]
      exact (hfz i hi).1
end Go.Proofs.Ytgncimlojbnbfab.Alms
