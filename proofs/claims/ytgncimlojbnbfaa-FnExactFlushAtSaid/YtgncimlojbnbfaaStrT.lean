/-
  PROVED: the contracts of what the exact laws call over slices of strings: the size that szStringS counts, the copy that toStringS makes, that eqStringS finds two of the same alike, the marks that markStringS writes; what a slice of strings that came in is.
-/
import Derived.Test.YtgncimlojbnbfaaStrB
import Derived.Test.YtgncimlojbnbfaaMark
import Derived.SliceStrings
import Derived.OpenShut
import Derived.ProofKit
namespace Go.Proofs.Ytgncimlojbnbfaa.StrT
open Go.RowKit
open Go.ChangeShapes Go.WideShapes Go.ChangeAt
open Go.Proofs.Ytgncimlojbnbfaa.StrB Go.Proofs.Ytgncimlojbnbfaa.Over Go.Proofs.Ytgncimlojbnbfaa.Blk
open Go.Proofs.Ytgncimlojbnbfaa.Mark (Apart mt retI)
set_option linter.unusedVariables false

def FitsS (l : List ByteArray) : Prop := ∀ i, i < l.length → (nth l i).size ≤ maxLen
theorem nthS_eq {l : List ByteArray} {i : Nat} (h : i < l.length) : nth l i = l[i] := by unfold nth; simp [h]
theorem Reads.get {w : World} {a : Option Addr} {l : List ByteArray} (h : Reads w a l) {i : Nat} (hi : i < l.length) :
    ∃ b off, a = some ⟨b, off, none⟩ ∧ b < w.heap.size ∧ ∀ i, i < l.length → w.cell? ⟨b, off + i, none⟩ = some (.string (nth l i)) := by
  rcases h with h | h
  · rw [h] at hi; simp at hi
  · exact h

set_option maxHeartbeats 400000 in
theorem sz_any (a : Option Addr) (cap : Nat) (l : List ByteArray) (left : Int) (w : World) (hr : Reads w a l) (hl : l.length ≤ maxLen) (hz : FitsS l) (h0 : 0 ≤ left) (h1 : left ≤ 1048576) :
    Calls Try.prog 9 #[.slice a l.length cap, .int .i64 left] w fun e w' => (∃ n : Int, e = .returned (.int .i64 n) ∧ n ≤ left ∧ (0 ≤ n → (l.length : Int) ≤ left)) ∧ Below w.heap.size w w' := by
  unfold FitsS maxLen at hz
  unfold maxLen at hl
  have HR : Hid (Reads w a l) := hr
  have HZ : Hid (∀ i, i < l.length → (nth l i).size ≤ 2 ^ 63 - 1) := hz
  clear hr hz
  by_cases c : left - (l.length : Int) < 0
  · go_enter Try.func9, Try.ntmps9
    go_wp2
    go_ret
    exact ⟨⟨-1, rfl, by omega, fun h => by omega⟩, Below.refl _ _⟩
  · go_enter Try.func9, Try.ntmps9
    go_wp2
    go_loop [1, 5] (fun m i => ∃ (k : Nat) (x : Int), k ≤ l.length ∧ i = .int .i64 k ∧ m = .int .i64 x ∧ 0 ≤ x ∧ x ≤ left) (fun _ i => l.length - (intOf i).toNat)
    case atStart => exact ⟨0, _, Nat.zero_le _, rfl, rfl, by omega, by omega⟩
    case round =>
      obtain ⟨k, x, hk, rfl, rfl, hx0, hx1⟩ := hrel
      by_cases hlt : k < l.length
      · have hlt' : (k : Int) < (l.length : Int) := by omega
        obtain ⟨b, off, rfl, hb, hc⟩ := Reads.get HR.out hlt
        have hck := hc k hlt
        have hsz := HZ.out k hlt
        clear hc
        by_cases hn : x - ((nth l k).size : Int) < 0
        · go_wp2
          go_ret
          exact ⟨⟨-1, rfl, by omega, fun h => by omega⟩, Below.refl _ _⟩
        · go_wp2
          go_round
          case rel => exact ⟨k + 1, _, by omega, by go_num, rfl, by omega, by omega⟩
          case measure => simp [intOf]; omega
      · have hge : ¬ (k : Int) < (l.length : Int) := by omega
        go_wp2
        go_ret
        exact ⟨⟨_, rfl, by omega, fun h => by omega⟩, Below.refl _ _⟩

theorem infoS : (Try.prog.info? 9).map (fun i => (i.zero, i.size, i.bytes)) = some (some (.string ByteArray.empty), 1, 16) := by kernel_rfl
/-- the cells that hold these strings -/
def HeldS (cs : Array Value) (l : List ByteArray) : Prop := ∀ j, j < l.length → cs[j]? = some (.string (nth l j))
theorem heldS_reads {w : World} {M : Nat} {cs : Array Value} {T : TypeId} {l : List ByteArray} (h : Blk w M cs T) (hh : HeldS cs l) : Reads w (some ⟨M, 0, none⟩) l :=
  .inr ⟨M, 0, rfl, h.lt, fun i hi => by rw [h.cell, Nat.zero_add]; exact hh i hi⟩

set_option maxHeartbeats 400000 in
theorem to_any (a : Option Addr) (cap : Nat) (l : List ByteArray) (w : World) (hr : Reads w a l) (hl : l.length ≤ 1048576) :
    Calls Try.prog 12 #[.slice a l.length cap] w fun e w' => e = .returned (.slice (some ⟨w.heap.size, 0, none⟩) l.length l.length) ∧ (∃ cs : Array Value, Blk w' w.heap.size cs 9 ∧ cs.size = l.length ∧ HeldS cs l) ∧ Below w.heap.size w w' := by
  have HR : Hid (Reads w a l) := hr
  clear hr
  have hmk := run_make_row' (P := Try.prog) 23 9 (.string ByteArray.empty) 16 Try.underlying23 infoS rfl .i64 .i64 l.length (by omega) (by omega)
  go_enter Try.func12, Try.ntmps12
  go_wp2
  go_loopw [4] (fun i w' => ∃ (k : Nat) (cs : Array Value), k ≤ l.length ∧ i = .int .i64 k ∧ w' = w.alloc (.cells cs 9) ∧ cs.size = l.length ∧ ∀ j, j < k → cs[j]? = some (.string (nth l j))) (fun i _ => l.length - (intOf i).toNat)
  case atStart => exact ⟨0, _, Nat.zero_le _, rfl, rfl, by simp [size_madeCells], fun j h => by omega⟩
  case round =>
    obtain ⟨k, cs, hk, rfl, rfl, hcs, hdone⟩ := hrel
    have HD : Hid (∀ j, j < k → cs[j]? = some (.string (nth l j))) := hdone
    have HC : Hid (cs.size = l.length) := hcs
    clear hdone hcs
    by_cases hlt : k < l.length
    · have hlt' : (k : Int) < (l.length : Int) := by omega
      obtain ⟨b, off, rfl, hb, hc⟩ := Reads.get HR.out hlt
      have hck := hc k hlt
      clear hc
      obtain ⟨v0, hv0⟩ : ∃ v, cs[k]? = some v := ⟨cs[k]'(by rw [HC.out]; exact hlt), by simp [HC.out, hlt]⟩
      go_wp2
      go_roundw
      case rel =>
        refine ⟨k + 1, _, by omega, by go_num, rfl, by simp [HC.out], fun j hj => ?_⟩
        by_cases e : j = k
        · subst e; simp [HC.out, hlt]
        · rw [Array.getElem?_setIfInBounds_ne (by omega)]; exact HD.out j (by omega)
      case measure => simp [intOf]; omega
    · have hge : ¬ (k : Int) < (l.length : Int) := by omega
      have HK : Hid (k = l.length) := by show k = l.length; omega
      go_wp2
      go_ret
      exact ⟨rfl, ⟨cs, Blk.new _ _ _, HC.out, fun j hj => HD.out j (by rw [HK.out]; exact hj)⟩, (Below.refl _ _).alloc (Nat.le_refl _) _⟩

set_option maxHeartbeats 400000 in
theorem eq_any (a : Option Addr) (cap : Nat) (a' : Option Addr) (cap' : Nat) (l : List ByteArray) (w : World) (hr : Reads w a l) (hr' : Reads w a' l) (hl : l.length ≤ maxLen) :
    Calls Try.prog 15 #[.slice a l.length cap, .slice a' l.length cap'] w fun e w' => e = .returned (.bool true) ∧ Below w.heap.size w w' := by
  unfold maxLen at hl
  have HR : Hid (Reads w a l) := hr
  have HR' : Hid (Reads w a' l) := hr'
  clear hr hr'
  go_enter Try.func15, Try.ntmps15
  go_wp2
  go_loopw [5] (fun i w' => ∃ k : Nat, i = .int .i64 k ∧ k ≤ l.length ∧ ∃ n, w' = w.drewN n) (fun i _ => l.length - (intOf i).toNat)
  case atStart => exact ⟨0, rfl, Nat.zero_le _, 0, rfl⟩
  case round =>
    obtain ⟨k, rfl, hk, hw0⟩ := hrel
    have HW : Hid (∃ n, wr = w.drewN n) := hw0
    have HR1 : Hid (Reads wr a l) := HR.out.drew hw0
    have HR2 : Hid (Reads wr a' l) := HR'.out.drew hw0
    clear hw0
    by_cases hlt : k < l.length
    · have hlt' : (k : Int) < (l.length : Int) := by omega
      obtain ⟨b, off, rfl, hb, hc⟩ := Reads.get HR1.out hlt
      obtain ⟨b', off', rfl, hb', hc'⟩ := Reads.get HR2.out hlt
      have h0 := hc k hlt
      have h1 := hc' k hlt
      clear hc hc'
      go_wp2
      go_quiet (fail)
      go_wp2
      go_roundw
      case rel => exact ⟨k + 1, by go_num, by omega, drew_more HW.out _⟩
      case measure => simp [intOf]; omega
    · have hge : ¬ (k : Int) < (l.length : Int) := by omega
      go_wp2
      go_ret
      exact ⟨rfl, bel_drew HW.out⟩

set_option maxHeartbeats 800000 in
theorem mark_any (M n cap k : Nat) (cs : Array Value) (w : World) (hB : Blk w M cs 9) (hs : n ≤ cs.size) (hn : n ≤ 1048576) (hk : 1 ≤ k) (hk2 : k ≤ 10000000) :
    Calls Try.prog 30 #[.slice (some ⟨M, 0, none⟩) n cap, .int .i64 k] w fun e w' => e = .returned (.int .i64 ((k + n : Nat) : Int)) ∧ Apart M w w' := by
  have HK : Hid (Blk w M cs 9) := hB
  have HS : Hid (n ≤ cs.size) := hs
  clear hB hs
  go_enter Try.func30, Try.ntmps30
  go_wp2
  go_loopw [1, 5] (fun x i w' => ∃ (j : Nat) (cs' : Array Value), j ≤ n ∧ i = .int .i64 j ∧ x = .int .i64 ((k + j : Nat) : Int) ∧ Blk w' M cs' 9 ∧ cs'.size = cs.size ∧ Apart M w w') (fun _ i _ => n - (intOf i).toNat)
  case atStart => exact ⟨0, cs, Nat.zero_le _, rfl, rfl, HK.out, rfl, Apart.refl _ _⟩
  case round =>
    obtain ⟨j, cs1, hj, rfl, rfl, hB, hs, ha⟩ := hrel
    have HK1 : Hid (Blk wr M cs1 9) := hB
    have HS1 : Hid (cs1.size = cs.size) := hs
    have HA : Hid (Apart M w wr) := ha
    clear hB hs ha
    by_cases hlt : j < n
    · have hlt' : (j : Int) < (n : Int) := by omega
      generalize hz : k + j = z at *
      go_wp2_with fail
      refine (Mark.markText_any z _ (by omega) (by omega)).mono ?_
      rintro e w1 ⟨rfl, hb1⟩
      have hK1 : Blk w1 M cs1 9 := HK1.out.grow hb1
      have HK2 : Hid (Blk w1 M cs1 9) := hK1
      have HA1 : Hid (Apart M w w1) := HA.out.below hb1
      have hs2 : j < cs1.size := by rw [HS1.out]; have := HS.out; omega
      obtain ⟨v0, c0⟩ : ∃ v, w1.cell? ⟨M, j, none⟩ = some v := ⟨cs1[j]'(by omega), by rw [hK1.cell]; simp⟩
      have f0 := hK1.frozen j
      clear hb1 hK1 hs2
      go_wp2
      go_roundw
      case rel => exact ⟨j + 1, _, by omega, by go_num, by go_num, HK2.out.set _ _, by simp [HS1.out], HA1.out.setCell _ _⟩
      case measure => simp [intOf]; omega
    · have hge : ¬ (j : Int) < (n : Int) := by omega
      have HE : Hid (j = n) := by show j = n; omega
      go_wp2
      go_ret
      exact ⟨retI (by have := HE.out; omega), HA.out⟩

/-- what the frame knows of a slice of strings that came in -/
def IsStrs (w : World) (a : Option Addr) (len cap : Nat) (zs : List ByteArray) : Prop :=
  (a = none ∧ len = 0 ∧ cap = 0 ∧ zs = []) ∨
  ∃ x, a = some x ∧ len ≤ cap ∧ cap ≤ maxLen ∧ len ≤ zs.length ∧ (∀ i, i < zs.length → w.cell? (x.add i) = some (.string (zs.getD i ByteArray.empty))) ∧ ∀ s ∈ zs, s.size ≤ maxLen
theorem block_lt {w : World} {x : Addr} {v : Value} (h : w.cell? x = some v) : x.block < w.heap.size := by
  by_cases hb : x.block < w.heap.size
  · exact hb
  · have : w.heap[x.block]? = none := by simp; omega
    simp [World.cell?, this] at h
theorem reads_of {w : World} {a : Option Addr} {len cap : Nat} {zs : List ByteArray} (h : IsStrs w a len cap zs) :
    ∃ l : List ByteArray, len = l.length ∧ Reads w a l ∧ l.length ≤ maxLen ∧ FitsS l := by
  rcases h with ⟨rfl, rfl, rfl, rfl⟩ | ⟨x, rfl, hl, hm, hz, hc, hs⟩
  · exact ⟨[], rfl, .inl rfl, by simp, fun i h => by simp at h⟩
  · have e : (zs.take len).length = len := by simp; omega
    refine ⟨zs.take len, e.symm, ?_, by omega, fun i hi => ?_⟩
    · by_cases h0 : len = 0
      · left; rw [h0]; simp
      · right
        obtain ⟨b, off, spot⟩ := x
        have h00 := hc 0 (by omega)
        have hspot : spot = none := by simpa [Addr.add] using World.cell?_spot h00
        subst hspot
        refine ⟨b, off, rfl, block_lt (x := ⟨b, off, none⟩) (by simpa [Addr.add] using h00), fun i hi => ?_⟩
        have hii := hc i (by omega)
        have en : nth (zs.take len) i = zs.getD i ByteArray.empty := by
          unfold nth
          simp only [List.getD_eq_getElem?_getD]
          rw [List.getElem?_take_of_lt (by omega)]
        have ea : (⟨b, off, none⟩ : Addr).add i = ⟨b, off + i, none⟩ := by by_cases h : i = 0 <;> simp [Addr.add, h]
        rw [en, ← ea]
        exact hii
    · have hi' : i < zs.length := by omega
      have en : nth (zs.take len) i = zs[i] := by
        unfold nth
        simp only [List.getD_eq_getElem?_getD]
        rw [List.getElem?_take_of_lt (by omega), List.getElem?_eq_getElem hi']; rfl
      rw [en]
      exact hs _ (List.getElem_mem _)
/-- a slice of strings that came in -/
theorem open_strs {H : Type} {enc : TypeId × Value → H} {W : World} {base : Nat} {spare : Nat → Bool} {held : Bool} {a : Option Addr} {len cap : Nat} {d : DataW H} {p : List MemPlace}
    (h : DataW.Trod enc Try.prog W base spare held 23 (.slice a len cap) d p) : ∃ l : List ByteArray, len = l.length ∧ Reads W a l ∧ l.length ≤ maxLen ∧ FitsS l := by
  obtain ⟨fuel, hf⟩ := h
  rcases open_strings Try.underlying23 Try.underlying9 (by kernel_rfl) hf with ⟨hcs, _⟩ | ⟨x, l, c, zs, hcs, _, hl, hm, hz, _, hcell, hwz⟩
  · simp [Value.cells] at hcs
    obtain ⟨rfl, rfl, rfl⟩ := hcs
    exact ⟨[], rfl, .inl rfl, by simp, fun i hi => by simp at hi⟩
  · simp [Value.cells] at hcs
    obtain ⟨rfl, rfl, rfl⟩ := hcs
    exact reads_of (zs := zs) (.inr ⟨_, rfl, hl, hm, by rw [hz]; split <;> omega, hcell, hwz⟩)
end Go.Proofs.Ytgncimlojbnbfaa.StrT
