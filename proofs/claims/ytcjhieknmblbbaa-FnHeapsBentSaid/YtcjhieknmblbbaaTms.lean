/-
  PROVED: the contracts of what the exact laws call over slices of timers: szTimerS, toTimer, toTimerS, eqTimer, eqTimerS, markTimerS, heldTimerS; a slice of timers that came in.
-/
import Derived.Test.YtcjhieknmblbbaaHp
import Derived.Test.YtcjhieknmblbbaaAprt
import Derived.Deep.SlicePairs
import Derived.Lib.SmallJoins
namespace Go.Proofs.Ytcjhieknmblbbaa.Tms
open Go.RowKit
open Go.Proofs.Ytcjhieknmblbbaa.Hp Go.Proofs.Ytcjhieknmblbbaa.Over Go.Proofs.Ytcjhieknmblbbaa.Blk
open Go.Proofs.Ytcjhieknmblbbaa.Mark (Apart)
set_option linter.unusedVariables false

def tmV (x : Tm) : Value := .agg #[.int .i64 x.1, .int .i64 x.2]
theorem retB {a b : Bool} (h : a = b) : Ending.returned (.bool a) = .returned (.bool b) := by rw [h]
theorem retI {a b : Int} (h : a = b) : Ending.returned (.int .i64 a) = .returned (.int .i64 b) := by rw [h]
/-- a slice's cells hold these timers -/
def RdT (w : World) (a : Option Addr) (l : List Tm) : Prop :=
  l = [] ∨ ∃ b off, a = some ⟨b, off, none⟩ ∧ b < w.heap.size ∧ ∀ i, i < l.length → w.cell? ⟨b, off + i * 2, none⟩ = some (.int .i64 (nthT l i).1) ∧ w.cell? ⟨b, off + i * 2 + 1, none⟩ = some (.int .i64 (nthT l i).2)
theorem RdT.below {w w' : World} {a : Option Addr} {l : List Tm} (h : RdT w a l) (hb : Below w.heap.size w w') : RdT w' a l := by
  rcases h with h | ⟨b, off, rfl, hlt, hc⟩
  · exact .inl h
  · exact .inr ⟨b, off, rfl, Nat.lt_of_lt_of_le hlt hb.size, fun i hi => by rw [hb.cell (p := ⟨b, off + i * 2, none⟩) hlt, hb.cell (p := ⟨b, off + i * 2 + 1, none⟩) hlt]; exact hc i hi⟩
theorem RdT.get {w : World} {a : Option Addr} {l : List Tm} (h : RdT w a l) {i : Nat} (hi : i < l.length) :
    ∃ b off, a = some ⟨b, off, none⟩ ∧ b < w.heap.size ∧ ∀ i, i < l.length → w.cell? ⟨b, off + i * 2, none⟩ = some (.int .i64 (nthT l i).1) ∧ w.cell? ⟨b, off + i * 2 + 1, none⟩ = some (.int .i64 (nthT l i).2) := by
  rcases h with h | h
  · rw [h] at hi; simp at hi
  · exact h

theorem sz_any (a : Option Addr) (cap : Nat) (l : List Tm) (left : Int) (w : World) (hl : l.length ≤ maxLen) (h0 : 0 ≤ left) (h1 : left ≤ 1048576) :
    Calls Try.prog 31 #[.slice a l.length cap, .int .i64 left] w fun e w' => (∃ n : Int, e = .returned (.int .i64 n) ∧ n ≤ left ∧ (0 ≤ n → n + (l.length : Int) ≤ left)) ∧ Below w.heap.size w w' := by
  unfold maxLen at hl
  by_cases c : left - (l.length : Int) < 0
  · go_enter Try.func31, Try.ntmps31
    go_wp2
    go_ret
    exact ⟨⟨-1, rfl, by omega, fun h => by omega⟩, Below.refl _ _⟩
  · go_enter Try.func31, Try.ntmps31
    go_wp2
    go_ret
    exact ⟨⟨_, rfl, by omega, fun h => by omega⟩, Below.refl _ _⟩

theorem infoT : (Try.prog.info? 26).map (fun i => (i.zero, i.size, i.bytes)) = some (some (.agg #[.int .i64 0, .int .i64 0]), 2, 16) := by kernel_rfl

/-- the cells that hold these timers up to the k-th -/
def HeldT (cs : Array Value) (l : List Tm) (k : Nat) : Prop := ∀ j, j < k → cs[j * 2]? = some (.int .i64 (nthT l j).1) ∧ cs[j * 2 + 1]? = some (.int .i64 (nthT l j).2)
theorem held_up {cs : Array Value} {l : List Tm} {k : Nat} (h : HeldT cs l k) (hs : k * 2 + 1 < cs.size) : HeldT ((cs.setIfInBounds (k * 2) (.int .i64 (nthT l k).1)).setIfInBounds (k * 2 + 1) (.int .i64 (nthT l k).2)) l (k + 1) := by
  intro j hj
  by_cases e : j = k
  · subst e
    refine ⟨?_, ?_⟩
    · rw [Array.getElem?_setIfInBounds_ne (by omega), Array.getElem?_setIfInBounds, if_pos rfl, if_pos (by omega)]
    · rw [Array.getElem?_setIfInBounds, if_pos rfl, if_pos (by simpa using hs)]
  · have := h j (by omega)
    refine ⟨?_, ?_⟩
    · rw [Array.getElem?_setIfInBounds_ne (by omega), Array.getElem?_setIfInBounds_ne (by omega)]; exact this.1
    · rw [Array.getElem?_setIfInBounds_ne (by omega), Array.getElem?_setIfInBounds_ne (by omega)]; exact this.2
theorem held_reads {w : World} {M : Nat} {cs : Array Value} {T : TypeId} {l : List Tm} (h : Blk w M cs T) (hh : HeldT cs l l.length) : RdT w (some ⟨M, 0, none⟩) l :=
  .inr ⟨M, 0, rfl, h.lt, fun i hi => by
    rw [h.cell, h.cell, Nat.zero_add]
    exact hh i hi⟩
theorem toTm_any (x : Tm) (w : World) :
    Calls Try.prog 30 #[.agg #[.int .i64 x.1, .int .i64 x.2]] w fun e w' => e = .returned (.agg #[.int .i64 x.1, .int .i64 x.2]) ∧ Below w.heap.size w w' := by
  obtain ⟨x0, x1⟩ := x
  go_enter Try.func30, Try.ntmps30
  go_wp2
  exact bodyPost_ret (v := .agg #[.int .i64 x0, .int .i64 x1]) (by simp [results, Try.results30, go_sem]) rfl ⟨rfl, (((Below.refl _ _).alloc (Nat.le_refl _) _).alloc (by simp) _).alloc (by simp; omega) _⟩
theorem eqTm_any (x y : Tm) (w : World) :
    Calls Try.prog 36 #[.agg #[.int .i64 x.1, .int .i64 x.2], .agg #[.int .i64 y.1, .int .i64 y.2]] w fun e w' => e = .returned (.bool (decide (x = y))) ∧ Below w.heap.size w w' := by
  obtain ⟨a, b⟩ := x
  obtain ⟨c, d⟩ := y
  have HE : Hid (decide ((a, b) = (c, d)) = (decide (a = c) && decide (b = d))) := by unfold Hid; simp [Bool.decide_and]
  by_cases h : a = c
  · by_cases h2 : b = d
    · have HL : Hid (decide ((a, b) = (c, d)) = true) := by unfold Hid; rw [HE.out]; simp [h, h2]
      clear HE
      go_enter Try.func36, Try.ntmps36
      go_wp2
      go_ret
      exact ⟨retB HL.out.symm, ((Below.refl _ _).alloc (Nat.le_refl _) _).alloc (by simp) _⟩
    · have HL : Hid (decide ((a, b) = (c, d)) = false) := by unfold Hid; rw [HE.out]; simp [h2]
      clear HE
      go_enter Try.func36, Try.ntmps36
      go_wp2
      go_ret
      exact ⟨retB HL.out.symm, ((Below.refl _ _).alloc (Nat.le_refl _) _).alloc (by simp) _⟩
  · have HL : Hid (decide ((a, b) = (c, d)) = false) := by unfold Hid; rw [HE.out]; simp [h]
    clear HE
    go_enter Try.func36, Try.ntmps36
    go_wp2
    go_ret
    exact ⟨retB HL.out.symm, ((Below.refl _ _).alloc (Nat.le_refl _) _).alloc (by simp) _⟩

set_option maxHeartbeats 400000 in
theorem to_any (a : Option Addr) (cap : Nat) (l : List Tm) (w : World) (hr : RdT w a l) (hl : l.length ≤ 1048576) :
    Calls Try.prog 32 #[.slice a l.length cap] w fun e w' => e = .returned (.slice (some ⟨w.heap.size, 0, none⟩) l.length l.length) ∧ (∃ cs : Array Value, Blk w' w.heap.size cs 26 ∧ cs.size = l.length * 2 ∧ HeldT cs l l.length) ∧ Below w.heap.size w w' := by
  have HR : Hid (RdT w a l) := hr
  clear hr
  have hmk := make_k (P := Try.prog) 24 26 (.agg #[.int .i64 0, .int .i64 0]) 2 16 Try.underlying24 infoT .i64 .i64 l.length (by omega) (by omega)
  go_enter Try.func32, Try.ntmps32
  go_wp2
  go_loopw [4] (fun i w' => ∃ (k : Nat) (cs : Array Value), k ≤ l.length ∧ i = .int .i64 k ∧ Blk w' w.heap.size cs 26 ∧ cs.size = l.length * 2 ∧ HeldT cs l k ∧ Below w.heap.size w w') (fun i _ => l.length - (intOf i).toNat)
  case atStart => exact ⟨0, _, Nat.zero_le _, rfl, Blk.new _ _ _, by simp [size_madeCells], fun j h => by omega, (Below.refl _ _).alloc (Nat.le_refl _) _⟩
  case round =>
    clear hmk
    obtain ⟨k, cs, hk, rfl, hB, hcs, hdone, hw0⟩ := hrel
    have HB : Hid (Below w.heap.size w wr) := hw0
    have HD : Hid (HeldT cs l k) := hdone
    have HC : Hid (cs.size = l.length * 2) := hcs
    have HK : Hid (Blk wr w.heap.size cs 26) := hB
    clear hdone hcs hw0 hB
    by_cases hlt : k < l.length
    · have hlt' : (k : Int) < (l.length : Int) := by omega
      obtain ⟨b, off, rfl, hb, hc⟩ := (HR.out.below HB.out).get hlt
      obtain ⟨h2, h3⟩ := hc k hlt
      clear hc
      go_wp2_with fail
      refine (toTm_any (nthT l k) _).mono ?_
      rintro e w1 ⟨rfl, hb1⟩
      have HB1 : Hid (Below w.heap.size w w1) := HB.out.trans (hb1.mono HB.out.size)
      have hK1 : Blk w1 w.heap.size cs 26 := HK.out.grow hb1
      have HK1 : Hid (Blk w1 w.heap.size cs 26) := hK1
      have hs2 : k * 2 + 1 < cs.size := by rw [HC.out]; omega
      have HS2 : Hid (k * 2 + 1 < cs.size) := hs2
      obtain ⟨v0, c0⟩ : ∃ v, w1.cell? ⟨w.heap.size, k * 2, none⟩ = some v := ⟨cs[k * 2]'(by omega), by rw [hK1.cell]; simp⟩
      obtain ⟨v1, c1⟩ : ∃ v, w1.cell? ⟨w.heap.size, k * 2 + 1, none⟩ = some v := ⟨cs[k * 2 + 1]'(by omega), by rw [hK1.cell]; simp⟩
      have f0 := hK1.frozen (k * 2)
      have f1 := hK1.frozen (k * 2 + 1)
      clear hb1 h2 h3 hK1 hs2
      go_wp2
      go_roundw
      case rel => exact ⟨k + 1, _, by omega, by go_num, (HK1.out.set _ _).set _ _, by simp [HC.out], held_up HD.out HS2.out, (HB1.out.setCell (Nat.le_refl _) _).setCell (Nat.le_refl _) _⟩
      case measure => simp [intOf]; omega
    · have hge : ¬ (k : Int) < (l.length : Int) := by omega
      have HE : Hid (k = l.length) := by show k = l.length; omega
      go_wp2
      go_ret
      exact ⟨rfl, ⟨cs, HK.out, HC.out, by have := HD.out; rwa [HE.out] at this⟩, HB.out⟩

theorem eq_no {l m : List Tm} (h : l ≠ m) : decide (l = m) = false := decide_eq_false h
set_option maxHeartbeats 400000 in
theorem eq_any (a a' : Option Addr) (cap cap' : Nat) (l m : List Tm) (w : World) (hr : RdT w a l) (hr' : RdT w a' m) (hl : l.length ≤ maxLen) (hm : m.length ≤ maxLen) :
    Calls Try.prog 33 #[.slice a l.length cap, .slice a' m.length cap'] w fun e w' => e = .returned (.bool (decide (l = m))) ∧ Below w.heap.size w w' := by
  unfold maxLen at hl hm
  have HR : Hid (RdT w a l) := hr
  have HR' : Hid (RdT w a' m) := hr'
  clear hr hr'
  by_cases hlen : l.length = m.length
  · have hlen' : (l.length : Int) = (m.length : Int) := by omega
    go_enter Try.func33, Try.ntmps33
    go_wp2
    go_loopw [5] (fun i w' => ∃ k : Nat, i = .int .i64 k ∧ k ≤ l.length ∧ (∀ j, j < k → nthT l j = nthT m j) ∧ Below w.heap.size w w') (fun i _ => l.length - (intOf i).toNat)
    case atStart => exact ⟨0, rfl, Nat.zero_le _, fun j h => by omega, Below.refl _ _⟩
    case round =>
      obtain ⟨k, rfl, hk, hu, hw0⟩ := hrel
      have HU : Hid (∀ j, j < k → nthT l j = nthT m j) := hu
      have HB : Hid (Below w.heap.size w wr) := hw0
      have HR1 : Hid (RdT wr a l) := HR.out.below hw0
      have HR2 : Hid (RdT wr a' m) := HR'.out.below hw0
      clear hw0 hu
      by_cases hlt : k < l.length
      · have hlt' : (k : Int) < (l.length : Int) := by omega
        have hlt2 : (k : Int) < (m.length : Int) := by omega
        obtain ⟨b, off, rfl, hb, hc⟩ := HR1.out.get hlt
        obtain ⟨b', off', rfl, hb', hc'⟩ := HR2.out.get (i := k) (by omega)
        obtain ⟨h0, h1⟩ := hc k hlt
        obtain ⟨h2, h3⟩ := hc' k (by omega)
        have hne := Grown.some wr
        have x0 := fun x : Grown wr => x.cell hb h0
        have x1 := fun x : Grown wr => x.cell hb h1
        have x2 := fun x : Grown wr => x.cell hb' h2
        have x3 := fun x : Grown wr => x.cell hb' h3
        clear hc hc' h0 h1 h2 h3
        by_cases he : nthT l k = nthT m k
        · have HU1 : Hid (∀ j, j < k + 1 → nthT l j = nthT m j) := fun j hj => by
            by_cases e : j = k
            · subst e; exact he
            · exact HU.out j (by omega)
          have HC : ∀ w, Hid (Calls Try.prog 36 #[.agg #[.int .i64 (nthT l k).1, .int .i64 (nthT l k).2], .agg #[.int .i64 (nthT m k).1, .int .i64 (nthT m k).2]] w fun e w' => e = .returned (.bool true) ∧ Below w.heap.size w w') := fun w => (eqTm_any (nthT l k) (nthT m k) w).mono fun e w' h => ⟨h.1.trans (retB (decide_eq_true he)), h.2⟩
          clear he
          go_wp2
          refine wp_over (z := wr) (by kernel_rfl) (by kernel_rfl) (Below.refl _ _) ?_
          repeat (go_big_quiet_step (first | (go_at_call 36; exact call_over (HC _).out)))
          refine wpQuiet_nil ?_
          intro w2 hw2
          have hb2 := over_bel hw2
          clear hw2 hne
          go_wp2
          go_roundw
          case rel => exact ⟨k + 1, by go_num, by omega, HU1.out, HB.out.trans (hb2.mono HB.out.size)⟩
          case measure => simp [intOf]; omega
        · have HN : Hid (decide (l = m) = false) := eq_no fun e => he (by rw [e])
          have HC : ∀ w, Hid (Calls Try.prog 36 #[.agg #[.int .i64 (nthT l k).1, .int .i64 (nthT l k).2], .agg #[.int .i64 (nthT m k).1, .int .i64 (nthT m k).2]] w fun e w' => e = .returned (.bool false) ∧ Below w.heap.size w w') := fun w => (eqTm_any (nthT l k) (nthT m k) w).mono fun e w' h => ⟨h.1.trans (retB (decide_eq_false he)), h.2⟩
          clear he
          go_wp2
          refine wp_over (z := wr) (by kernel_rfl) (by kernel_rfl) (Below.refl _ _) ?_
          repeat (go_big_quiet_step (first | (go_at_call 36; exact call_over (HC _).out)))
          refine wpQuiet_nil ?_
          intro w2 hw2
          have hb2 := over_bel hw2
          clear hw2 hne
          go_wp2
          go_ret
          exact ⟨retB HN.out.symm, HB.out.trans (hb2.mono HB.out.size)⟩
      · have hge : ¬ (k : Int) < (l.length : Int) := by omega
        have HY : Hid (decide (l = m) = true) := decide_eq_true (ext_nth hlen fun j hj => HU.out j (by omega))
        go_wp2
        go_ret
        exact ⟨retB HY.out.symm, HB.out⟩
  · have hlen' : ¬ (l.length : Int) = (m.length : Int) := by omega
    have HN : Hid (decide (l = m) = false) := eq_no fun e => hlen (by rw [e])
    go_enter Try.func33, Try.ntmps33
    go_wp2
    go_ret
    exact ⟨retB HN.out.symm, Below.refl _ _⟩

/-- the first n timers of the row are marked, from mark k on -/
def MarkedT (cs : Array Value) (k n : Nat) : Prop := ∀ m, m < n → cs[m * 2]? = some (.int .i64 ((k + 2 * m : Nat) : Int)) ∧ cs[m * 2 + 1]? = some (.int .i64 ((k + 2 * m + 1 : Nat) : Int))
theorem marked_up {cs : Array Value} {k n : Nat} (h : MarkedT cs k n) (hs : n * 2 + 1 < cs.size) : MarkedT ((cs.setIfInBounds (n * 2) (.int .i64 ((k + 2 * n : Nat) : Int))).setIfInBounds (n * 2 + 1) (.int .i64 ((k + 2 * n + 1 : Nat) : Int))) k (n + 1) := by
  intro m hm
  by_cases e : m = n
  · subst e
    exact ⟨by rw [Array.getElem?_setIfInBounds_ne (by omega), Array.getElem?_setIfInBounds, if_pos rfl, if_pos (by omega)], by rw [Array.getElem?_setIfInBounds, if_pos rfl, if_pos (by simpa using hs)]⟩
  · have := h m (by omega)
    rw [Array.getElem?_setIfInBounds_ne (by omega), Array.getElem?_setIfInBounds_ne (by omega), Array.getElem?_setIfInBounds_ne (by omega), Array.getElem?_setIfInBounds_ne (by omega)]
    exact this
set_option maxHeartbeats 800000 in
theorem mark_any (M n cap k : Nat) (cs : Array Value) (w : World) (hB : Blk w M cs 26) (hs : n * 2 ≤ cs.size) (hn : n ≤ 10000000) (hk : 1 ≤ k) (hk2 : k ≤ 1000000000) :
    Calls Try.prog 34 #[.slice (some ⟨M, 0, none⟩) n cap, .int .i64 k] w fun e w' => e = .returned (.int .i64 ((k + 2 * n : Nat) : Int)) ∧ (∃ cs' : Array Value, Blk w' M cs' 26 ∧ cs'.size = cs.size ∧ MarkedT cs' k n) ∧ Apart M w w' := by
  have HK : Hid (Blk w M cs 26) := hB
  have HS : Hid (n * 2 ≤ cs.size) := hs
  clear hB hs
  go_enter Try.func34, Try.ntmps34
  go_wp2
  go_loopw [1, 5] (fun x i w' => ∃ (j : Nat) (cs' : Array Value), j ≤ n ∧ i = .int .i64 j ∧ x = .int .i64 ((k + 2 * j : Nat) : Int) ∧ Blk w' M cs' 26 ∧ cs'.size = cs.size ∧ MarkedT cs' k j ∧ Apart M w w') (fun _ i _ => n - (intOf i).toNat)
  case atStart => exact ⟨0, cs, Nat.zero_le _, rfl, rfl, HK.out, rfl, fun m h => by omega, Apart.refl _ _⟩
  case round =>
    obtain ⟨j, cs1, hj, rfl, rfl, hB, hs, hm, ha⟩ := hrel
    have hK1 := hB
    have HK1 : Hid (Blk wr M cs1 26) := hB
    have HS1 : Hid (cs1.size = cs.size) := hs
    have HM : Hid (MarkedT cs1 k j) := hm
    have HA : Hid (Apart M w wr) := ha
    clear hB hs hm ha
    by_cases hlt : j < n
    · have hlt' : (j : Int) < (n : Int) := by omega
      have hs2 : j * 2 + 1 < cs1.size := by rw [HS1.out]; have := HS.out; omega
      have HS2 : Hid (j * 2 + 1 < cs1.size) := hs2
      have e1 : ((k + 2 * j + 1 : Nat) : Int) = ((k + 2 * j : Nat) : Int) + 1 := by omega
      have HE : Hid (MarkedT ((cs1.setIfInBounds (j * 2) (.int .i64 ((k + 2 * j : Nat) : Int))).setIfInBounds (j * 2 + 1) (.int .i64 (((k + 2 * j : Nat) : Int) + 1))) k (j + 1)) := by rw [← e1]; exact marked_up HM.out hs2
      clear e1
      have HW : Hid (k + 2 * (j + 1) = k + 2 * j + 2) := by show _ = _; omega
      have hz3 : k + 2 * j ≤ 1100000000 := by omega
      generalize k + 2 * j = z at *
      obtain ⟨v0, c0⟩ : ∃ v, wr.cell? ⟨M, j * 2, none⟩ = some v := ⟨cs1[j * 2]'(by omega), by rw [hK1.cell]; simp⟩
      obtain ⟨v1, c1⟩ : ∃ v, wr.cell? ⟨M, j * 2 + 1, none⟩ = some v := ⟨cs1[j * 2 + 1]'(by omega), by rw [hK1.cell]; simp⟩
      have f0 := hK1.frozen (j * 2)
      have f1 := hK1.frozen (j * 2 + 1)
      clear hK1 hs2
      go_wp2
      go_roundw
      case rel => exact ⟨j + 1, _, by omega, by go_num, by (rw [HW.out]; go_num), (HK1.out.set _ _).set _ _, by simp [HS1.out], HE.out, (HA.out.setCell _ _).setCell _ _⟩
      case measure => simp [intOf]; omega
    · have hge : ¬ (j : Int) < (n : Int) := by omega
      have HE : Hid (j = n) := by show j = n; omega
      go_wp2
      go_ret
      exact ⟨retI (by have := HE.out; omega), ⟨cs1, HK1.out, HS1.out, by have := HM.out; rwa [HE.out] at this⟩, HA.out⟩
set_option maxHeartbeats 800000 in
theorem heldS_any (M n cap k : Nat) (cs : Array Value) (w : World) (hB : Blk w M cs 26) (hm : MarkedT cs k n) (hn : n ≤ 10000000) (hk : 1 ≤ k) (hk2 : k ≤ 1000000000) :
    Calls Try.prog 35 #[.slice (some ⟨M, 0, none⟩) n cap, .int .i64 k] w fun e w' => e = .returned (.int .i64 ((k + 2 * n : Nat) : Int)) ∧ Below w.heap.size w w' := by
  have HK : Hid (Blk w M cs 26) := hB
  have HM : Hid (MarkedT cs k n) := hm
  clear hB hm
  go_enter Try.func35, Try.ntmps35
  go_wp2
  go_loopw [1, 5] (fun x i w' => ∃ j : Nat, j ≤ n ∧ i = .int .i64 j ∧ x = .int .i64 ((k + 2 * j : Nat) : Int) ∧ Below w.heap.size w w') (fun _ i _ => n - (intOf i).toNat)
  case atStart => exact ⟨0, Nat.zero_le _, rfl, rfl, Below.refl _ _⟩
  case round =>
    obtain ⟨j, hj, rfl, rfl, hb⟩ := hrel
    have HB : Hid (Below w.heap.size w wr) := hb
    have HK1 := HK.out.grow hb
    clear hb
    by_cases hlt : j < n
    · have hlt' : (j : Int) < (n : Int) := by omega
      obtain ⟨g0, g1⟩ := HM.out j hlt
      have e1 : ((k + 2 * j + 1 : Nat) : Int) = ((k + 2 * j : Nat) : Int) + 1 := by omega
      have HW : Hid (k + 2 * (j + 1) = k + 2 * j + 2) := by show _ = _; omega
      have hz3 : k + 2 * j ≤ 1100000000 := by omega
      have c0 : wr.cell? ⟨M, j * 2, none⟩ = some (.int .i64 ((k + 2 * j : Nat) : Int)) := (HK1.cell _).trans g0
      have c1 : wr.cell? ⟨M, j * 2 + 1, none⟩ = some (.int .i64 (((k + 2 * j : Nat) : Int) + 1)) := by rw [← e1]; exact (HK1.cell _).trans g1
      clear g0 g1 e1 HK1
      generalize k + 2 * j = z at *
      go_wp2
      go_roundw
      case rel => exact ⟨j + 1, by omega, by go_num, by (rw [HW.out]; go_num), HB.out⟩
      case measure => simp [intOf]; omega
    · have hge : ¬ (j : Int) < (n : Int) := by omega
      have HE : Hid (j = n) := by show j = n; omega
      go_wp2
      go_ret
      exact ⟨retI (by have := HE.out; omega), HB.out⟩

theorem cellsT : Try.prog.cellsOf 42 = 2 := by kernel_rfl
/-- a slice of timers that came in -/
theorem open_tms {H : Type} {enc : TypeId × Value → H} {W : World} {base : Nat} {spare : Nat → Bool} {held : Bool} {fuel : Nat} {x : DataW H × List MemPlace} {a : Option Addr} {len cap : Nat}
    (h : DataW.trod enc Try.prog W base spare held fuel 45 [.slice a len cap] = some x) : ∃ l : List Tm, len = l.length ∧ RdT W a l ∧ l.length ≤ maxLen := by
  rcases Go.Deep.open_slice_pairs Try.underlying45 Try.underlying42 cellsT rfl rfl (by kernel_rfl) (by kernel_rfl) h with ⟨hcs, _⟩ | ⟨x, l, c, m, n, V0, V1, D0, D1, P0, P1, hcs, _, hl, hm, hmm, _, hall⟩
  · simp at hcs
    obtain ⟨rfl, rfl, rfl⟩ := hcs
    exact ⟨[], rfl, .inl rfl, by simp⟩
  · simp at hcs
    obtain ⟨rfl, rfl, rfl⟩ := hcs
    have hlm : len ≤ m := by rw [hmm]; split <;> omega
    obtain ⟨f, hf⟩ := Go.Deep.choose_lt (n := len) (p := fun i (z : Tm) => V0 i = .int .i64 z.1 ∧ V1 i = .int .i64 z.2) fun i hi => by
      obtain ⟨_, _, t0, t1⟩ := hall i (by omega)
      obtain ⟨s0, e0, _, z0⟩ := DataW.trod_int Try.underlying3 t0
      obtain ⟨s1, e1, _, z1⟩ := DataW.trod_int Try.underlying3 t1
      simp at e0 e1
      exact ⟨(s0, s1), e0, e1⟩
    have hlen : ((List.range len).map f).length = len := by simp
    have hn : ∀ i, i < len → nthT ((List.range len).map f) i = f i := fun i hi => by rw [nth_lt (by simpa using hi)]; simp
    refine ⟨(List.range len).map f, hlen.symm, ?_, by omega⟩
    by_cases h0 : len = 0
    · left; subst h0; rfl
    · right
      obtain ⟨b, off, spot⟩ := x
      obtain ⟨c0, _, _, _⟩ := hall 0 (by omega)
      have hspot : spot = none := by simpa [Addr.add] using World.cell?_spot c0
      subst hspot
      have eb : b < W.heap.size := by
        by_cases hb : b < W.heap.size
        · exact hb
        · have : W.heap[b]? = none := by simp; omega
          simp [World.cell?, Addr.add, this] at c0
      have ea : ∀ i, (⟨b, off, none⟩ : Addr).add i = ⟨b, off + i, none⟩ := fun i => by by_cases h : i = 0 <;> simp [Addr.add, h]
      refine ⟨b, off, rfl, eb, fun i hi => ?_⟩
      rw [hlen] at hi
      obtain ⟨c0, c1, _, _⟩ := hall i (by omega)
      obtain ⟨v0, v1⟩ := hf i hi
      rw [ea, v0] at c0
      rw [ea, v1] at c1
      rw [hn i hi]
      exact ⟨c0, by rw [Nat.add_assoc]; exact c1⟩
set_option maxRecDepth 100000 in
/-- a timer that came in -/
theorem open_tm {H : Type} {enc : TypeId × Value → H} {W : World} {base b0 : Nat} {spare : Nat → Bool} {held : Bool} {r : Reach} {v : Value} {d : DataW H} {p : List MemPlace}
    (hv : Value.okWide Try.prog W r b0 42 v) (h : DataW.Trod enc Try.prog W base spare held 42 v d p) : ∃ x : Tm, v = .agg #[.int .i64 x.1, .int .i64 x.2] := by
  obtain ⟨c0, c1, y0, y1, m, rfl, rfl, rfl, hy0, hy1⟩ := Go.Joins.open_agg2 Try.underlying42 (by kernel_rfl) cellsT hv h
  obtain ⟨s0, e0, _, z0⟩ := DataW.trod_int Try.underlying3 hy0
  obtain ⟨s1, e1, _, z1⟩ := DataW.trod_int Try.underlying3 hy1
  simp at e0 e1
  exact ⟨(s0, s1), by rw [e0, e1]⟩
end Go.Proofs.Ytcjhieknmblbbaa.Tms
