/-
  PROVED: the marks that markAlarmS writes lie in the copied alarms' own memory alone; what a slice of alarms that came in is.
-/
import Derived.Test.YtgncimlojbnbfaaAlms
namespace Go.Proofs.Ytgncimlojbnbfaa.Alms
open Go.RowKit
open Go.ChangeShapes Go.WideShapes
open Go.Proofs.Ytgncimlojbnbfaa.Labs Go.Proofs.Ytgncimlojbnbfaa.LabS Go.Proofs.Ytgncimlojbnbfaa.LabT Go.Proofs.Ytgncimlojbnbfaa.Alm Go.Proofs.Ytgncimlojbnbfaa.Over Go.Proofs.Ytgncimlojbnbfaa.Blk
open Go.Proofs.Ytgncimlojbnbfaa.Mark (Apart)
open Go.Proofs.Ytgncimlojbnbfaa.StrB (retB)
set_option linter.unusedVariables false

/-- what was there is as it was, but for the blocks from lo up to hi -/
structure Aside (lo hi : Nat) (w w' : World) : Prop where
  os : w'.os = w.os
  tape : w'.tape = w.tape
  output : w'.output = w.output
  size : w.heap.size ≤ w'.heap.size
  block : ∀ k, k < w.heap.size → (k < lo ∨ hi ≤ k) → w'.heap[k]? = w.heap[k]?
theorem Aside.refl (lo hi : Nat) (w : World) : Aside lo hi w w := ⟨rfl, rfl, rfl, Nat.le_refl _, fun _ _ _ => rfl⟩
theorem Aside.trans {lo hi : Nat} {a b c : World} (h : Aside lo hi a b) (k : Aside lo hi b c) : Aside lo hi a c :=
  ⟨k.os.trans h.os, k.tape.trans h.tape, k.output.trans h.output, Nat.le_trans h.size k.size, fun i hi hM => (k.block i (Nat.lt_of_lt_of_le hi h.size) hM).trans (h.block i hi hM)⟩
theorem Aside.of {lo hi : Nat} {w w' : World} (h : Below w.heap.size w w') : Aside lo hi w w' := ⟨h.os, h.tape, h.output, h.size, fun k hk _ => h.block k hk⟩
theorem Aside.below {lo hi : Nat} {a b c : World} (h : Aside lo hi a b) (k : Below b.heap.size b c) : Aside lo hi a c := h.trans (Aside.of k)
theorem Aside.apart {lo hi M : Nat} {w w' : World} (h : Apart M w w') (h0 : lo ≤ M) (h1 : M < hi) : Aside lo hi w w' := ⟨h.os, h.tape, h.output, h.size, fun k hk hM => h.block k hk (by omega)⟩
theorem Aside.set {lo hi M : Nat} {a w : World} (h : Aside lo hi a w) (h0 : lo ≤ M) (h1 : M < hi) (i : Nat) (v : Value) : Aside lo hi a (w.setCell ⟨M, i, none⟩ v) :=
  h.trans (Aside.apart ((Apart.refl M w).setCell i v) h0 h1)
theorem Aside.low {lo hi B : Nat} {w w' : World} (h : Aside lo hi w w') (hB : B ≤ lo) (hw : B ≤ w.heap.size) : Below B w w' :=
  ⟨h.os, h.tape, h.output, h.size, fun k hk => h.block k (by omega) (by omega)⟩
theorem Aside.blk {lo hi N : Nat} {w w' : World} {cs : Array Value} {T : TypeId} (h : Aside lo hi w w') (hb : Blk w N cs T) (hn : N < lo ∨ hi ≤ N) : Blk w' N cs T := by
  have hlt := hb.lt
  unfold Blk at *
  rw [h.block N hlt hn]; exact hb

/-- the copied alarms while they are marked -/
structure KeepA (M : Nat) (w : World) (P : List PAl) (cs : Array Value) (g : Nat → Nat) : Prop where
  blk : Blk w M cs 48
  size : cs.size = P.length * 4
  cell : ∀ i, i < P.length → cs[i * 4]? = some (.slice (some ⟨g i, 0, none⟩) (nthP P i).l.length (nthP P i).l.length)
  own : ∀ i, i < P.length → M < g i ∧ ∃ ds : Array Value, Blk w (g i) ds 73 ∧ ds.size = (nthP P i).l.length * 2
  inc : ∀ i j, i < j → j < P.length → g i < g j
theorem CopyA.keep {M : Nat} {w : World} {P : List PAl} {cs : Array Value} {g : Nat → Nat} (h : CopyA M w P P.length cs g) : KeepA M w P cs g :=
  ⟨h.blk, h.size, fun i hi => (h.cell i hi).1, fun i hi => by
    obtain ⟨h0, ds, h1, h2, _⟩ := h.own i hi
    exact ⟨h0, ds, h1, h2⟩, h.inc⟩
theorem KeepA.grow {M : Nat} {w w' : World} {P : List PAl} {cs : Array Value} {g : Nat → Nat} (h : KeepA M w P cs g) (hb : Below w.heap.size w w') : KeepA M w' P cs g :=
  ⟨h.blk.grow hb, h.size, h.cell, fun i hi => by
    obtain ⟨h0, ds, h1, h2⟩ := h.own i hi
    exact ⟨h0, ds, h1.grow hb, h2⟩, h.inc⟩
theorem KeepA.ne {M : Nat} {w : World} {P : List PAl} {cs : Array Value} {g : Nat → Nat} (h : KeepA M w P cs g) {i j : Nat} (hi : i < P.length) (hj : j < P.length) (hne : i ≠ j) : g i ≠ g j := by
  rcases Nat.lt_or_gt_of_ne hne with hlt | hlt
  · have := h.inc i j hlt hj; omega
  · have := h.inc j i hlt hi; omega
theorem KeepA.marked {M : Nat} {w w' : World} {P : List PAl} {cs ds : Array Value} {g : Nat → Nat} {j : Nat} (h : KeepA M w P cs g) (hj : j < P.length) (ha : Apart (g j) w w') (hd : Blk w' (g j) ds 73) (hs : ds.size = (nthP P j).l.length * 2) : KeepA M w' P cs g :=
  ⟨ha.blk h.blk (by have := (h.own j hj).1; omega), h.size, h.cell, fun i hi => by
    obtain ⟨h0, es, h1, h2⟩ := h.own i hi
    by_cases e : i = j
    · subst e; exact ⟨h0, ds, hd, hs⟩
    · exact ⟨h0, es, ha.blk h1 (h.ne hi hj e), h2⟩, h.inc⟩
theorem KeepA.set {M : Nat} {w : World} {P : List PAl} {cs : Array Value} {g : Nat → Nat} (h : KeepA M w P cs g) (k : Nat) (hk : ∀ i, k ≠ i * 4) (v : Value) : KeepA M (w.setCell ⟨M, k, none⟩ v) P (cs.setIfInBounds k v) g :=
  ⟨h.blk.set _ _, by simpa using h.size, fun i hi => by rw [set_ne (hk i)]; exact h.cell i hi, fun i hi => by
    obtain ⟨h0, es, h1, h2⟩ := h.own i hi
    exact ⟨h0, es, h1.set_other (by show M ≠ g i; omega) _, h2⟩, h.inc⟩

set_option maxHeartbeats 1600000 in
theorem mark_any (M cap k hi : Nat) (P : List PAl) (cs : Array Value) (g : Nat → Nat) (w : World) (hC : KeepA M w P cs g) (hM : M < hi) (hg : ∀ i, i < P.length → g i < hi) (hl : P.length ≤ 1048576) (hs : sumL P ≤ 1048576) (hk : 1 ≤ k) (hk2 : k ≤ 1000000) :
    Calls Try.prog 59 #[.slice (some ⟨M, 0, none⟩) P.length cap, .int .i64 k] w fun e w' => (∃ z : Nat, e = .returned (.int .i64 (z : Int)) ∧ 1 ≤ z ∧ z ≤ 10000000) ∧ Aside M hi w w' := by
  have HC : Hid (KeepA M w P cs g) := hC
  have HS : Hid (sumL P ≤ 1048576) := hs
  have HM : Hid (M < hi ∧ ∀ i, i < P.length → g i < hi) := ⟨hM, hg⟩
  clear hC hs hM hg
  go_enter Try.func59, Try.ntmps59
  go_wp2
  go_loopw [1, 5] (fun x i w' => ∃ (j z : Nat) (cs' : Array Value), j ≤ P.length ∧ i = .int .i64 j ∧ x = .int .i64 (z : Int) ∧ 1 ≤ z ∧ z ≤ k + 3 * j + 2 * sumL (P.take j) ∧ KeepA M w' P cs' g ∧ Aside M hi w w') (fun _ i _ => P.length - (intOf i).toNat)
  case atStart => exact ⟨0, k, cs, Nat.zero_le _, rfl, rfl, hk, by omega, HC.out, Aside.refl _ _ _⟩
  case round =>
    obtain ⟨j, x, cs1, hj, rfl, rfl, hx0, hx1, hC1, ha⟩ := hrel
    have HC1 : Hid (KeepA M wr P cs1 g) := hC1
    have HA : Hid (Aside M hi w wr) := ha
    have HX : Hid (x ≤ k + 3 * j + 2 * sumL (P.take j)) := hx1
    have hxb : x ≤ 6500000 := by have := sum_le P j; have := HS.out; omega
    clear hC1 ha hx1
    by_cases hlt : j < P.length
    · have hlt' : (j : Int) < (P.length : Int) := by omega
      obtain ⟨hMg, ds, hd, hds⟩ := HC1.out.own j hlt
      have HD : Hid (M < g j ∧ Blk wr (g j) ds 73 ∧ ds.size = (nthP P j).l.length * 2) := ⟨hMg, hd, hds⟩
      have c0 : wr.cell? ⟨M, j * 4, none⟩ = some (.slice (some ⟨g j, 0, none⟩) (nthP P j).l.length (nthP P j).l.length) := by rw [HC1.out.blk.cell]; exact HC1.out.cell j hlt
      have HU : Hid (sumL (P.take (j + 1)) = sumL (P.take j) + (nthP P j).l.length) := sum_up hlt
      have hlen : (nthP P j).l.length ≤ 1048576 := Nat.le_trans (sum_nth hlt) HS.out
      clear hd hds hMg
      go_wp2_with fail
      refine (Mark.mark_any (g j) (nthP P j).l.length _ x ds _ HD.out.2.1 (by rw [HD.out.2.2]; exact Nat.le_refl _) hlen hx0 (by omega)).mono ?_
      rintro e w1 ⟨rfl, ⟨ds1, hd1, hs1, _⟩, ha1⟩
      have hK1 : KeepA M w1 P cs1 g := HC1.out.marked hlt ha1 hd1 (by rw [hs1]; exact HD.out.2.2)
      have HK1 : Hid (KeepA M w1 P cs1 g) := hK1
      have HA1 : Hid (Aside M hi w w1) := HA.out.trans (Aside.apart ha1 (Nat.le_of_lt HD.out.1) (HM.out.2 j hlt))
      have HXZ : Hid (x + 2 * (nthP P j).l.length + 3 ≤ k + 3 * (j + 1) + 2 * sumL (P.take (j + 1))) := by have h1 := HX.out; have h2 := HU.out; show _ ≤ _; omega
      have hzb : x + 2 * (nthP P j).l.length ≤ 9000000 := by have := sum_le P (j + 1); have := HS.out; have := HXZ.out; omega
      have hz1 : 1 ≤ x + 2 * (nthP P j).l.length := by omega
      clear ha1 hd1 hs1 c0
      generalize x + 2 * (nthP P j).l.length = z at HXZ hzb hz1 ⊢
      have hsz := hK1.size
      obtain ⟨v1, c1⟩ : ∃ v, w1.cell? ⟨M, j * 4 + 1, none⟩ = some v := ⟨cs1[j * 4 + 1]'(by omega), by rw [hK1.blk.cell]; simp⟩
      obtain ⟨v2, c2⟩ : ∃ v, w1.cell? ⟨M, j * 4 + 2, none⟩ = some v := ⟨cs1[j * 4 + 2]'(by omega), by rw [hK1.blk.cell]; simp⟩
      have f1 := hK1.blk.frozen (j * 4 + 1)
      have f2 := hK1.blk.frozen (j * 4 + 2)
      clear hK1 hsz
      go_wp2_with fail
      have ez : (z : Int) + 1 + 1 = ((z + 2 : Nat) : Int) := by omega
      rw [ez]
      generalize hW : (w1.setCell ⟨M, j * 4 + 1, none⟩ (.int .i64 z)).setCell ⟨M, j * 4 + 2, none⟩ (.int .i64 ((z : Int) + 1)) = W
      have HKW : Hid (KeepA M W P ((cs1.setIfInBounds (j * 4 + 1) (.int .i64 z)).setIfInBounds (j * 4 + 2) (.int .i64 ((z : Int) + 1))) g) := by rw [← hW]; exact (HK1.out.set _ (fun i => by omega) _).set _ (fun i => by omega) _
      have HAW : Hid (Aside M hi w W) := by rw [← hW]; exact (HA1.out.set (Nat.le_refl _) HM.out.1 _ _).set (Nat.le_refl _) HM.out.1 _ _
      clear hW c1 c2 f1 f2 ez
      refine (Mark.markText_any (z + 2) _ (by omega) (by omega)).mono ?_
      rintro e w2 ⟨rfl, hb2⟩
      have hK2 := HKW.out.grow hb2
      have HK2 : Hid _ := hK2
      have HA2 : Hid (Aside M hi w w2) := HAW.out.below hb2
      have hsz := hK2.size
      obtain ⟨v3, c3⟩ : ∃ v, w2.cell? ⟨M, j * 4 + 3, none⟩ = some v := ⟨((cs1.setIfInBounds (j * 4 + 1) (.int .i64 z)).setIfInBounds (j * 4 + 2) (.int .i64 ((z : Int) + 1)))[j * 4 + 3]'(by rw [hsz]; omega), by rw [hK2.blk.cell]; exact Array.getElem?_eq_getElem _⟩
      have f3 := hK2.blk.frozen (j * 4 + 3)
      clear hb2 hK2 hsz
      go_wp2
      go_roundw
      case rel => exact ⟨j + 1, z + 3, _, by omega, by go_num, by go_num, by omega, HXZ.out, HK2.out.set _ (fun i => by omega) _, HA2.out.set (Nat.le_refl _) HM.out.1 _ _⟩
      case measure => simp [intOf]; omega
    · have hge : ¬ (j : Int) < (P.length : Int) := by omega
      go_wp2
      go_ret
      exact ⟨⟨x, rfl, hx0, by omega⟩, HA.out⟩

set_option maxRecDepth 100000 in
/-- a slice of alarms that came in -/
theorem open_alarms {H : Type} {enc : TypeId × Value → H} {W : World} {base : Nat} {spare : Nat → Bool} {held : Bool} {a : Option Addr} {len cap : Nat} {d : DataW H} {p : List MemPlace}
    (h : DataW.Trod enc Try.prog W base spare held 62 (.slice a len cap) d p) : ∃ P : List PAl, len = P.length ∧ RdA W a P ∧ P.length ≤ maxLen ∧ FitsP P := by
  obtain ⟨fuel, hf⟩ := h
  rcases Go.Deep.open_slice Try.underlying62 (by simpa [Value.cells] using hf) with ⟨hcs, _⟩ | ⟨x, l, c, m, n, D, Pl, hcs, _, hl, hm, hmm, _, hx⟩
  · simp at hcs
    obtain ⟨rfl, rfl, rfl⟩ := hcs
    exact ⟨[], rfl, .inl rfl, by simp, fun i hi => by simp at hi⟩
  · simp at hcs
    obtain ⟨rfl, rfl, rfl⟩ := hcs
    have hlm : len ≤ m := by rw [hmm]; split <;> omega
    have each : ∀ i, i < len → ∃ z : PAl, FitA z ∧ ∃ (ad : Option Addr) (cp : Nat), W.cell? (x.add (i * 4)) = some (.slice ad z.l.length cp) ∧ W.cell? (x.add (i * 4 + 1)) = some (.int .i64 z.s) ∧ W.cell? (x.add (i * 4 + 2)) = some (.int .i64 z.e) ∧ W.cell? (x.add (i * 4 + 3)) = some (.string z.n) ∧ Reads W ad z.l := by
      intro i hi
      obtain ⟨cs', h1, h2⟩ := hx i (by omega)
      rw [cellsA] at h1
      obtain ⟨_, hlen, hcell⟩ := World.cells?_some h1
      obtain ⟨xs, k, hk, hxy, _, hxl, hf⟩ := DataW.trod_struct Try.underlying43 h2
      match xs, hxl, cs', hlen with
      | [y0, y1, y2, y3], _, [v0, v1, v2, v3], _ =>
        have k0 : Try.prog.cellsOf 33 = 1 := by kernel_rfl
        have k1 : Try.prog.cellsOf 3 = 1 := by kernel_rfl
        have k2 : Try.prog.cellsOf 9 = 1 := by kernel_rfl
        have g0 : DataW.trod enc Try.prog W base spare held k 33 [v0] = some y0 := by have := hf 0 _ rfl; simpa [k0] using this
        have g1 : DataW.trod enc Try.prog W base spare held k 3 [v1] = some y1 := by have := hf 1 _ rfl; simpa [k1] using this
        have g2 : DataW.trod enc Try.prog W base spare held k 3 [v2] = some y2 := by have := hf 2 _ rfl; simpa [k1] using this
        have g3 : DataW.trod enc Try.prog W base spare held k 9 [v3] = some y3 := by have := hf 3 _ rfl; simpa [k2] using this
        obtain ⟨ad, ln, cp, e0⟩ := Go.Joins.slice_form Try.underlying33 g0
        obtain ⟨s, e1, _, z1⟩ := DataW.trod_int Try.underlying3 g1
        obtain ⟨e, e2, _, z2⟩ := DataW.trod_int Try.underlying3 g2
        obtain ⟨nt, e3, _, z3⟩ := DataW.trod_string Try.underlying9 g3
        simp at e0 e1 e2 e3
        subst e0 e1 e2 e3
        obtain ⟨lb, rfl, hr, hll, hff⟩ := open_labs g0
        have c0 := hcell 0 (by omega)
        have c1 := hcell 1 (by omega)
        have c2 := hcell 2 (by omega)
        have c3 := hcell 3 (by omega)
        rw [Go.Deep.add_add] at c0 c1 c2 c3
        exact ⟨⟨lb, s, e, nt⟩, ⟨hll, hff, Go.bounds_i64 z1, Go.bounds_i64 z2, z3⟩, ad, cp, by simpa using c0, by simpa using c1, by simpa using c2, by simpa using c3, hr⟩
    have hin : Inhabited PAl := ⟨⟨[], 0, 0, ByteArray.empty⟩⟩
    obtain ⟨f, hfz⟩ := Go.Deep.choose_lt each
    have hlen : ((List.range len).map f).length = len := by simp
    have hn : ∀ i, i < len → nthP ((List.range len).map f) i = f i := fun i hi => by rw [nthP_eq (by simpa using hi)]; simp
    refine ⟨(List.range len).map f, hlen.symm, ?_, by omega, fun i hi => ?_⟩
    · by_cases h0 : len = 0
      · left; subst h0; rfl
      · right
        obtain ⟨b, off, spot⟩ := x
        obtain ⟨_, ad, cp, c0, _⟩ := hfz 0 (by omega)
        have hspot : spot = none := by simpa [Addr.add] using World.cell?_spot c0
        subst hspot
        have eb : b < W.heap.size := by
          by_cases hb : b < W.heap.size
          · exact hb
          · have : W.heap[b]? = none := by simp; omega
            simp [World.cell?, Addr.add, this] at c0
        have ea : ∀ i, (⟨b, off, none⟩ : Addr).add i = ⟨b, off + i, none⟩ := fun i => by by_cases h : i = 0 <;> simp [Addr.add, h]
        refine ⟨b, off, rfl, eb, fun i hi => ?_⟩
        rw [hlen] at hi
        obtain ⟨_, ad, cp, c0, c1, c2, c3, hr⟩ := hfz i hi
        rw [ea] at c0 c1 c2 c3
        rw [hn i hi]
        exact ⟨ad, cp, c0, c1, c2, c3, hr⟩
    · rw [hlen] at hi
      rw [hn i hi]
      exact (hfz i hi).1
end Go.Proofs.Ytgncimlojbnbfaa.Alms
