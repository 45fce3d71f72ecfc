/-
  PROVED: the contracts of what the exact laws call over slices of labels: the size that szLabelS counts, the copy that toLabelS makes, whether eqLabelS finds two alike.
-/
import Derived.Test.YtgncimlojbnbfaaLabS
import Derived.Test.YtgncimlojbnbfaaBlk
import Derived.Deep.SlicePairs
import Derived.Lib.SmallJoins
namespace Go.Proofs.Ytgncimlojbnbfaa.LabT
open Go.RowKit
open Go.Proofs.Ytgncimlojbnbfaa.Labs Go.Proofs.Ytgncimlojbnbfaa.LabS Go.Proofs.Ytgncimlojbnbfaa.Over Go.Proofs.Ytgncimlojbnbfaa.Blk
open Go.Proofs.Ytgncimlojbnbfaa.StrB (lessB retB drew_more)
set_option linter.unusedVariables false

def Fits (l : List Lab) : Prop := ∀ i, i < l.length → (nth l i).1.size ≤ maxLen ∧ (nth l i).2.size ≤ maxLen

set_option maxHeartbeats 400000 in
theorem sz_any (a : Option Addr) (cap : Nat) (l : List Lab) (left : Int) (w : World) (hr : Reads w a l) (hl : l.length ≤ maxLen) (hz : Fits l) (h0 : 0 ≤ left) (h1 : left ≤ 1048576) :
    Calls Try.prog 16 #[.slice a l.length cap, .int .i64 left] w fun e w' => (∃ n : Int, e = .returned (.int .i64 n) ∧ n ≤ left ∧ (0 ≤ n → n + (l.length : Int) ≤ left)) ∧ Below w.heap.size w w' := by
  unfold maxLen at hl
  have HR : Hid (Reads w a l) := hr
  have HZ : Hid (Fits l) := hz
  clear hr hz
  by_cases c : left - (l.length : Int) < 0
  · go_enter Try.func16, Try.ntmps16
    go_wp2
    go_ret
    exact ⟨⟨-1, rfl, by omega, fun h => by omega⟩, Below.refl _ _⟩
  · go_enter Try.func16, Try.ntmps16
    go_wp2
    go_loopw [1, 5] (fun m i w' => ∃ (k : Nat) (x : Int), k ≤ l.length ∧ i = .int .i64 k ∧ m = .int .i64 x ∧ 0 ≤ x ∧ x + (l.length : Int) ≤ left ∧ Below w.heap.size w w') (fun _ i _ => l.length - (intOf i).toNat)
    case atStart => exact ⟨0, _, Nat.zero_le _, rfl, rfl, by omega, by omega, Below.refl _ _⟩
    case round =>
      obtain ⟨k, x, hk, rfl, rfl, hx0, hx1, hw0⟩ := hrel
      have HB : Hid (Below w.heap.size w wr) := hw0
      clear hw0
      by_cases hlt : k < l.length
      · have hlt' : (k : Int) < (l.length : Int) := by omega
        obtain ⟨b, off, rfl, hb, hc⟩ := (HR.out.below HB.out).get hlt
        obtain ⟨h2, h3⟩ := hc k hlt
        clear hc
        go_wp2_with fail
        refine (szLab_any (nth l k) x _ (HZ.out k hlt).1 (HZ.out k hlt).2 hx0 (by omega)).mono ?_
        rintro e w1 ⟨⟨y, rfl, hy, -⟩, hb1⟩
        have HB1 : Hid (Below w.heap.size w w1) := HB.out.trans (hb1.mono HB.out.size)
        clear hb1 h2 h3
        by_cases hn : y < 0
        · go_wp2
          go_ret
          exact ⟨⟨-1, rfl, by omega, fun h => by omega⟩, HB1.out⟩
        · go_wp2
          go_roundw
          case rel => exact ⟨k + 1, y, by omega, by go_num, rfl, by omega, by omega, HB1.out⟩
          case measure => simp [intOf]; omega
      · have hge : ¬ (k : Int) < (l.length : Int) := by omega
        go_wp2
        go_ret
        exact ⟨⟨_, rfl, by omega, fun h => by omega⟩, HB.out⟩

theorem infoL : (Try.prog.info? 73).map (fun i => (i.zero, i.size, i.bytes)) = some (some (.agg #[.string ByteArray.empty, .string ByteArray.empty]), 2, 32) := by kernel_rfl

/-- the cells that hold these labels from the j-th on up to the k-th -/
def Held (cs : Array Value) (l : List Lab) (k : Nat) : Prop := ∀ j, j < k → cs[j * 2]? = some (.string (nth l j).1) ∧ cs[j * 2 + 1]? = some (.string (nth l j).2)
theorem held_up {cs : Array Value} {l : List Lab} {k : Nat} (h : Held cs l k) (hs : k * 2 + 1 < cs.size) : Held ((cs.setIfInBounds (k * 2) (.string (nth l k).1)).setIfInBounds (k * 2 + 1) (.string (nth l k).2)) l (k + 1) := by
  intro j hj
  by_cases e : j = k
  · subst e
    refine ⟨?_, ?_⟩
    · rw [Array.getElem?_setIfInBounds_ne (by omega), Array.getElem?_setIfInBounds, if_pos rfl, if_pos (by omega)]
    · rw [Array.getElem?_setIfInBounds, if_pos rfl, if_pos (by simpa using hs)]
  · have := h j (by omega)
    refine ⟨?_, ?_⟩
    · rw [Array.getElem?_setIfInBounds_ne (by omega), Array.getElem?_setIfInBounds_ne (by omega)]; exact this.1
    · rw [Array.getElem?_setIfInBounds_ne (by omega), Array.getElem?_setIfInBounds_ne (by omega)]; exact this.2
theorem held_reads {w : World} {M : Nat} {cs : Array Value} {T : TypeId} {l : List Lab} (h : Blk w M cs T) (hh : Held cs l l.length) : Reads w (some ⟨M, 0, none⟩) l :=
  .inr ⟨M, 0, rfl, h.lt, fun i hi => by
    rw [h.cell, h.cell, Nat.zero_add]
    exact hh i hi⟩

set_option maxHeartbeats 400000 in
theorem to_any (a : Option Addr) (cap : Nat) (l : List Lab) (w : World) (hr : Reads w a l) (hl : l.length ≤ 1048576) :
    Calls Try.prog 18 #[.slice a l.length cap] w fun e w' => e = .returned (.slice (some ⟨w.heap.size, 0, none⟩) l.length l.length) ∧ (∃ cs : Array Value, Blk w' w.heap.size cs 73 ∧ cs.size = l.length * 2 ∧ Held cs l l.length) ∧ Below w.heap.size w w' := by
  have HR : Hid (Reads w a l) := hr
  clear hr
  have hmk := make_k (P := Try.prog) 36 73 (.agg #[.string ByteArray.empty, .string ByteArray.empty]) 2 32 Try.underlying36 infoL .i64 .i64 l.length (by omega) (by omega)
  go_enter Try.func18, Try.ntmps18
  go_wp2
  go_loopw [4] (fun i w' => ∃ (k : Nat) (cs : Array Value), k ≤ l.length ∧ i = .int .i64 k ∧ Blk w' w.heap.size cs 73 ∧ cs.size = l.length * 2 ∧ Held cs l k ∧ Below w.heap.size w w') (fun i _ => l.length - (intOf i).toNat)
  case atStart => exact ⟨0, _, Nat.zero_le _, rfl, Blk.new _ _ _, by simp [size_madeCells], fun j h => by omega, (Below.refl _ _).alloc (Nat.le_refl _) _⟩
  case round =>
    clear hmk
    obtain ⟨k, cs, hk, rfl, hB, hcs, hdone, hw0⟩ := hrel
    have HB : Hid (Below w.heap.size w wr) := hw0
    have HD : Hid (Held cs l k) := hdone
    have HC : Hid (cs.size = l.length * 2) := hcs
    have HK : Hid (Blk wr w.heap.size cs 73) := hB
    clear hdone hcs hw0 hB
    by_cases hlt : k < l.length
    · have hlt' : (k : Int) < (l.length : Int) := by omega
      obtain ⟨b, off, rfl, hb, hc⟩ := (HR.out.below HB.out).get hlt
      obtain ⟨h2, h3⟩ := hc k hlt
      clear hc
      go_wp2_with fail
      refine (toLab_any (nth l k) _).mono ?_
      rintro e w1 ⟨rfl, hb1⟩
      have HB1 : Hid (Below w.heap.size w w1) := HB.out.trans (hb1.mono HB.out.size)
      have hK1 : Blk w1 w.heap.size cs 73 := HK.out.grow hb1
      have HK1 : Hid (Blk w1 w.heap.size cs 73) := hK1
      have hs2 : k * 2 + 1 < cs.size := by rw [HC.out]; omega
      have HS2 : Hid (k * 2 + 1 < cs.size) := hs2
      obtain ⟨v0, c0⟩ : ∃ v, w1.cell? ⟨w.heap.size, k * 2, none⟩ = some v := ⟨cs[k * 2]'(by omega), by rw [hK1.cell]; simp⟩
      obtain ⟨v1, c1⟩ : ∃ v, w1.cell? ⟨w.heap.size, k * 2 + 1, none⟩ = some v := ⟨cs[k * 2 + 1]'(by omega), by rw [hK1.cell]; simp⟩
      have f0 := hK1.frozen (k * 2)
      have f1 := hK1.frozen (k * 2 + 1)
      clear hb1 h2 h3 hK1 hs2
      go_wp2
      go_roundw
      case rel => exact ⟨k + 1, _, by omega, by go_num, (HK1.out.set _ _).set _ _, by simp [HC.out], held_up HD.out HS2.out, (HB1.out.setCell (Nat.le_refl _) _).setCell (Nat.le_refl _) _⟩
      case measure => simp [intOf]; omega
    · have hge : ¬ (k : Int) < (l.length : Int) := by omega
      have HE : Hid (k = l.length) := by show k = l.length; omega
      go_wp2
      go_ret
      exact ⟨rfl, ⟨cs, HK.out, HC.out, by have := HD.out; rwa [HE.out] at this⟩, HB.out⟩

set_option maxHeartbeats 400000 in
theorem eq_any (a a' : Option Addr) (cap cap' : Nat) (l m : List Lab) (w : World) (hr : Reads w a l) (hr' : Reads w a' m) (hl : l.length ≤ maxLen) (hm : m.length ≤ maxLen) :
    Calls Try.prog 20 #[.slice a l.length cap, .slice a' m.length cap'] w fun e w' => e = .returned (.bool (decide (l = m))) ∧ Below w.heap.size w w' := by
  unfold maxLen at hl hm
  have HR : Hid (Reads w a l) := hr
  have HR' : Hid (Reads w a' m) := hr'
  clear hr hr'
  by_cases hlen : l.length = m.length
  · have hlen' : (l.length : Int) = (m.length : Int) := by omega
    go_enter Try.func20, Try.ntmps20
    go_wp2
    go_loopw [5] (fun i w' => ∃ k : Nat, i = .int .i64 k ∧ k ≤ l.length ∧ (∀ j, j < k → nth l j = nth m j) ∧ Below w.heap.size w w') (fun i _ => l.length - (intOf i).toNat)
    case atStart => exact ⟨0, rfl, Nat.zero_le _, fun j h => by omega, Below.refl _ _⟩
    case round =>
      obtain ⟨k, rfl, hk, hu, hw0⟩ := hrel
      have HU : Hid (∀ j, j < k → nth l j = nth m j) := hu
      have HB : Hid (Below w.heap.size w wr) := hw0
      have HR1 : Hid (Reads wr a l) := HR.out.below hw0
      have HR2 : Hid (Reads wr a' m) := HR'.out.below hw0
      clear hw0 hu
      by_cases hlt : k < l.length
      · have hlt' : (k : Int) < (l.length : Int) := by omega
        have hlt2 : (k : Int) < (m.length : Int) := by omega
        obtain ⟨b, off, rfl, hb, hc⟩ := HR1.out.get hlt
        obtain ⟨b', off', rfl, hb', hc'⟩ := HR2.out.get (i := k) (by omega)
        obtain ⟨h0, h1⟩ := hc k hlt
        obtain ⟨h2, h3⟩ := hc' k (by omega)
        have hne := Grown.some wr
        have x0 := fun x : Grown wr => x.cell hb h0
        have x1 := fun x : Grown wr => x.cell hb h1
        have x2 := fun x : Grown wr => x.cell hb' h2
        have x3 := fun x : Grown wr => x.cell hb' h3
        clear hc hc' h0 h1 h2 h3
        by_cases he : nth l k = nth m k
        · have HU1 : Hid (∀ j, j < k + 1 → nth l j = nth m j) := fun j hj => by
            by_cases e : j = k
            · subst e; exact he
            · exact HU.out j (by omega)
          have HC : ∀ w, Hid (Calls Try.prog 48 #[.agg #[.string (nth l k).1, .string (nth l k).2], .agg #[.string (nth m k).1, .string (nth m k).2]] w fun e w' => e = .returned (.bool true) ∧ Below w.heap.size w w') := fun w => (eqLab_any (nth l k) (nth m k) w).mono fun e w' h => ⟨h.1.trans (retB (decide_eq_true he)), h.2⟩
          clear he
          go_wp2
          refine wp_over (z := wr) (by kernel_rfl) (by kernel_rfl) (Below.refl _ _) ?_
          repeat (go_big_quiet_step (first | (go_at_call 48; exact call_over (HC _).out)))
          refine wpQuiet_nil ?_
          intro w2 hw2
          have hb2 := over_bel hw2
          clear hw2 hne
          go_wp2
          go_roundw
          case rel => exact ⟨k + 1, by go_num, by omega, HU1.out, HB.out.trans (hb2.mono HB.out.size)⟩
          case measure => simp [intOf]; omega
        · have HN : Hid (decide (l = m) = false) := same_no (ne_nth k he)
          have HC : ∀ w, Hid (Calls Try.prog 48 #[.agg #[.string (nth l k).1, .string (nth l k).2], .agg #[.string (nth m k).1, .string (nth m k).2]] w fun e w' => e = .returned (.bool false) ∧ Below w.heap.size w w') := fun w => (eqLab_any (nth l k) (nth m k) w).mono fun e w' h => ⟨h.1.trans (retB (decide_eq_false he)), h.2⟩
          clear he
          go_wp2
          refine wp_over (z := wr) (by kernel_rfl) (by kernel_rfl) (Below.refl _ _) ?_
          repeat (go_big_quiet_step (first | (go_at_call 48; exact call_over (HC _).out)))
          refine wpQuiet_nil ?_
          intro w2 hw2
          have hb2 := over_bel hw2
          clear hw2 hne
          go_wp2
          go_ret
          exact ⟨retB HN.out.symm, HB.out.trans (hb2.mono HB.out.size)⟩
      · have hge : ¬ (k : Int) < (l.length : Int) := by omega
        have HY : Hid (decide (l = m) = true) := same_yes (same_of hlen fun j hj => HU.out j (by omega))
        go_wp2
        go_ret
        exact ⟨retB HY.out.symm, HB.out⟩
  · have hlen' : ¬ (l.length : Int) = (m.length : Int) := by omega
    have HN : Hid (decide (l = m) = false) := same_no (ne_len hlen)
    go_enter Try.func20, Try.ntmps20
    go_wp2
    go_ret
    exact ⟨retB HN.out.symm, Below.refl _ _⟩

theorem cellsL : Try.prog.cellsOf 72 = 2 := by kernel_rfl
/-- a slice of labels that came in -/
theorem open_labs {H : Type} {enc : TypeId × Value → H} {W : World} {base : Nat} {spare : Nat → Bool} {held : Bool} {fuel : Nat} {x : DataW H × List MemPlace} {a : Option Addr} {len cap : Nat}
    (h : DataW.trod enc Try.prog W base spare held fuel 33 [.slice a len cap] = some x) : ∃ l : List Lab, len = l.length ∧ Reads W a l ∧ l.length ≤ maxLen ∧ Fits l := by
  rcases Go.Deep.open_slice_pairs Try.underlying33 Try.underlying72 cellsL rfl rfl (by kernel_rfl) (by kernel_rfl) h with ⟨hcs, _⟩ | ⟨x, l, c, m, n, V0, V1, D0, D1, P0, P1, hcs, _, hl, hm, hmm, _, hall⟩
  · simp at hcs
    obtain ⟨rfl, rfl, rfl⟩ := hcs
    exact ⟨[], rfl, .inl rfl, by simp, fun i hi => by simp at hi⟩
  · simp at hcs
    obtain ⟨rfl, rfl, rfl⟩ := hcs
    have hlm : len ≤ m := by rw [hmm]; split <;> omega
    obtain ⟨f, hf⟩ := Go.Deep.choose_lt (n := len) (p := fun i (z : Lab) => V0 i = .string z.1 ∧ V1 i = .string z.2 ∧ z.1.size ≤ maxLen ∧ z.2.size ≤ maxLen) fun i hi => by
      obtain ⟨_, _, t0, t1⟩ := hall i (by omega)
      obtain ⟨s0, e0, _, z0⟩ := DataW.trod_string Try.underlying9 t0
      obtain ⟨s1, e1, _, z1⟩ := DataW.trod_string Try.underlying9 t1
      simp at e0 e1
      exact ⟨(s0, s1), e0, e1, z0, z1⟩
    have hlen : ((List.range len).map f).length = len := by simp
    have hn : ∀ i, i < len → nth ((List.range len).map f) i = f i := fun i hi => by rw [nth_eq (by simpa using hi)]; simp
    refine ⟨(List.range len).map f, hlen.symm, ?_, by omega, fun i hi => ?_⟩
    · by_cases h0 : len = 0
      · left; subst h0; rfl
      · right
        obtain ⟨b, off, spot⟩ := x
        obtain ⟨c0, _, _, _⟩ := hall 0 (by omega)
        have hspot : spot = none := by simpa [Addr.add] using World.cell?_spot c0
        subst hspot
        have eb : b < W.heap.size := by
          by_cases hb : b < W.heap.size
          · exact hb
          · have : W.heap[b]? = none := by simp; omega
            simp [World.cell?, Addr.add, this] at c0
        have ea : ∀ i, (⟨b, off, none⟩ : Addr).add i = ⟨b, off + i, none⟩ := fun i => by by_cases h : i = 0 <;> simp [Addr.add, h]
        refine ⟨b, off, rfl, eb, fun i hi => ?_⟩
        rw [hlen] at hi
        obtain ⟨c0, c1, _, _⟩ := hall i (by omega)
        obtain ⟨v0, v1, _, _⟩ := hf i hi
        rw [ea, v0] at c0
        rw [ea, v1] at c1
        rw [hn i hi]
        exact ⟨c0, by rw [Nat.add_assoc]; exact c1⟩
    · rw [hlen] at hi
      rw [hn i hi]
      exact (hf i hi).2.2
set_option maxRecDepth 100000 in
/-- a label that came in -/
theorem open_lab {H : Type} {enc : TypeId × Value → H} {W : World} {base b0 : Nat} {spare : Nat → Bool} {held : Bool} {r : Reach} {v : Value} {d : DataW H} {p : List MemPlace}
    (hv : Value.okWide Try.prog W r b0 72 v) (h : DataW.Trod enc Try.prog W base spare held 72 v d p) : ∃ x : Lab, v = .agg #[.string x.1, .string x.2] ∧ x.1.size ≤ maxLen ∧ x.2.size ≤ maxLen := by
  obtain ⟨c0, c1, y0, y1, m, rfl, rfl, rfl, hy0, hy1⟩ := Go.Joins.open_agg2 Try.underlying72 (by kernel_rfl) cellsL hv h
  obtain ⟨s0, e0, _, z0⟩ := DataW.trod_string Try.underlying9 hy0
  obtain ⟨s1, e1, _, z1⟩ := DataW.trod_string Try.underlying9 hy1
  simp at e0 e1
  exact ⟨(s0, s1), by rw [e0, e1], z0, z1⟩
end Go.Proofs.Ytgncimlojbnbfaa.LabT
