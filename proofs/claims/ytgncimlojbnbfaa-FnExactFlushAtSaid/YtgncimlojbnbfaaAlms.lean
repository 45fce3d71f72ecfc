/-
  PROVED: the contracts of what the exact laws call over slices of alarms: the size that szAlarmS counts, the copy that toAlarmS makes, that eqAlarmS finds two of the same alike, the marks that markAlarmS writes; what a slice of alarms that came in is.
-/
import Derived.Test.YtgncimlojbnbfaaAlm
import Derived.Test.YtgncimlojbnbfaaMark
import Derived.Deep.Slices
namespace Go.Proofs.Ytgncimlojbnbfaa.Alms
open Go.RowKit
open Go.ChangeShapes Go.WideShapes
open Go.Proofs.Ytgncimlojbnbfaa.Labs Go.Proofs.Ytgncimlojbnbfaa.LabS Go.Proofs.Ytgncimlojbnbfaa.LabT Go.Proofs.Ytgncimlojbnbfaa.Alm Go.Proofs.Ytgncimlojbnbfaa.Over Go.Proofs.Ytgncimlojbnbfaa.Blk
open Go.Proofs.Ytgncimlojbnbfaa.StrB (retB)
set_option linter.unusedVariables false

/-- an alarm, plain -/
structure PAl where
  l : List Lab
  s : Int
  e : Int
  n : ByteArray
def nthP (P : List PAl) (i : Nat) : PAl := P.getD i ⟨[], 0, 0, ByteArray.empty⟩
theorem nthP_eq {P : List PAl} {i : Nat} (h : i < P.length) : nthP P i = P[i] := by unfold nthP; simp [h]
/-- the cells of the i-th alarm, and its labels -/
structure At (w : World) (b off i : Nat) (x : PAl) (ad : Option Addr) (cap : Nat) : Prop where
  c0 : w.cell? ⟨b, off + i * 4, none⟩ = some (.slice ad x.l.length cap)
  c1 : w.cell? ⟨b, off + i * 4 + 1, none⟩ = some (.int .i64 x.s)
  c2 : w.cell? ⟨b, off + i * 4 + 2, none⟩ = some (.int .i64 x.e)
  c3 : w.cell? ⟨b, off + i * 4 + 3, none⟩ = some (.string x.n)
  reads : Reads w ad x.l
theorem At.below {w w' : World} {b off i : Nat} {x : PAl} {ad : Option Addr} {cap : Nat} (h : At w b off i x ad cap) (hb : Below w.heap.size w w') (hlt : b < w.heap.size) : At w' b off i x ad cap :=
  ⟨(hb.cell (p := ⟨b, off + i * 4, none⟩) hlt).trans h.c0, (hb.cell (p := ⟨b, off + i * 4 + 1, none⟩) hlt).trans h.c1, (hb.cell (p := ⟨b, off + i * 4 + 2, none⟩) hlt).trans h.c2, (hb.cell (p := ⟨b, off + i * 4 + 3, none⟩) hlt).trans h.c3, h.reads.below hb⟩
/-- a slice's cells hold these alarms -/
def RdA (w : World) (a : Option Addr) (P : List PAl) : Prop :=
  P = [] ∨ ∃ b off, a = some ⟨b, off, none⟩ ∧ b < w.heap.size ∧ ∀ i, i < P.length → ∃ ad cap, At w b off i (nthP P i) ad cap
theorem RdA.below {w w' : World} {a : Option Addr} {P : List PAl} (h : RdA w a P) (hb : Below w.heap.size w w') : RdA w' a P := by
  rcases h with h | ⟨b, off, rfl, hlt, hc⟩
  · exact .inl h
  · exact .inr ⟨b, off, rfl, Nat.lt_of_lt_of_le hlt hb.size, fun i hi => by
      obtain ⟨ad, cap, h⟩ := hc i hi
      exact ⟨ad, cap, h.below hb hlt⟩⟩
theorem RdA.get {w : World} {a : Option Addr} {P : List PAl} (h : RdA w a P) {i : Nat} (hi : i < P.length) :
    ∃ b off, a = some ⟨b, off, none⟩ ∧ b < w.heap.size ∧ ∃ ad cap, At w b off i (nthP P i) ad cap := by
  rcases h with h | ⟨b, off, e, hb, h⟩
  · rw [h] at hi; simp at hi
  · exact ⟨b, off, e, hb, h i hi⟩
/-- each of them is of its kind -/
structure FitA (x : PAl) : Prop where
  len : x.l.length ≤ maxLen
  fits : Fits x.l
  sb : -9223372036854775808 ≤ x.s ∧ x.s ≤ 9223372036854775807
  eb : -9223372036854775808 ≤ x.e ∧ x.e ≤ 9223372036854775807
  note : x.n.size ≤ maxLen
def FitsP (P : List PAl) : Prop := ∀ i, i < P.length → FitA (nthP P i)
theorem FitA.al {w : World} {x : PAl} {ad : Option Addr} (h : FitA x) (hr : Reads w ad x.l) : AlIn w ad x.l x.s x.e x.n := ⟨hr, h.len, h.fits, h.sb, h.eb, h.note⟩

/-- how many labels they have, together -/
def sumL : List PAl → Nat
  | [] => 0
  | x :: P => x.l.length + sumL P
theorem sum_app (P Q : List PAl) : sumL (P ++ Q) = sumL P + sumL Q := by
  induction P with
  | nil => simp [sumL]
  | cons x P ih => rw [List.cons_append, sumL, ih, sumL]; omega
theorem takeP_up {P : List PAl} {k : Nat} (h : k < P.length) : P.take (k + 1) = P.take k ++ [nthP P k] := by
  rw [nthP_eq h, List.take_succ_eq_append_getElem h]
theorem sum_up {P : List PAl} {k : Nat} (h : k < P.length) : sumL (P.take (k + 1)) = sumL (P.take k) + (nthP P k).l.length := by
  rw [takeP_up h, sum_app]; simp [sumL]
theorem sum_all {P : List PAl} {k : Nat} (h : P.length ≤ k) : sumL (P.take k) = sumL P := by rw [List.take_of_length_le h]
theorem sum_le (P : List PAl) (k : Nat) : sumL (P.take k) ≤ sumL P := by
  have := sum_app (P.take k) (P.drop k)
  rw [List.take_append_drop] at this
  omega
theorem sum_nth {P : List PAl} {k : Nat} (h : k < P.length) : (nthP P k).l.length ≤ sumL P := by
  have h1 := sum_up h
  have h2 := sum_le P (k + 1)
  omega

set_option maxHeartbeats 800000 in
theorem sz_any (a : Option Addr) (cap : Nat) (P : List PAl) (left : Int) (w : World) (hr : RdA w a P) (hl : P.length ≤ maxLen) (hz : FitsP P) (h0 : 0 ≤ left) (h1 : left ≤ 1048576) :
    Calls Try.prog 66 #[.slice a P.length cap, .int .i64 left] w fun e w' => (∃ n : Int, e = .returned (.int .i64 n) ∧ n ≤ left ∧ (0 ≤ n → n + (P.length : Int) + (sumL P : Int) ≤ left)) ∧ Below w.heap.size w w' := by
  unfold maxLen at hl
  have HR : Hid (RdA w a P) := hr
  have HZ : Hid (FitsP P) := hz
  clear hr hz
  by_cases c : left - (P.length : Int) < 0
  · go_enter Try.func66, Try.ntmps66
    go_wp2
    go_ret
    exact ⟨⟨-1, rfl, by omega, fun h => by omega⟩, Below.refl _ _⟩
  · go_enter Try.func66, Try.ntmps66
    go_wp2
    go_loopw [1, 5] (fun m i w' => ∃ (k : Nat) (x : Int), k ≤ P.length ∧ i = .int .i64 k ∧ m = .int .i64 x ∧ 0 ≤ x ∧ x + (P.length : Int) + (sumL (P.take k) : Int) ≤ left ∧ Below w.heap.size w w') (fun _ i _ => P.length - (intOf i).toNat)
    case atStart => exact ⟨0, _, Nat.zero_le _, rfl, rfl, by omega, by simp [sumL], Below.refl _ _⟩
    case round =>
      obtain ⟨k, x, hk, rfl, rfl, hx0, hx1, hw0⟩ := hrel
      have HB : Hid (Below w.heap.size w wr) := hw0
      have HX : Hid (x + (P.length : Int) + (sumL (P.take k) : Int) ≤ left) := hx1
      have hx2 : x ≤ left := by omega
      clear hw0 hx1
      by_cases hlt : k < P.length
      · have hlt' : (k : Int) < (P.length : Int) := by omega
        obtain ⟨b, off, rfl, hb, ad, cp, hat⟩ := (HR.out.below HB.out).get hlt
        have h2 := hat.c0
        have h3 := hat.c1
        have h4 := hat.c2
        have h5 := hat.c3
        have HA : Hid (AlIn wr ad (nthP P k).l (nthP P k).s (nthP P k).e (nthP P k).n) := (HZ.out k hlt).al hat.reads
        have HU : Hid (sumL (P.take (k + 1)) = sumL (P.take k) + (nthP P k).l.length) := sum_up hlt
        clear hat
        go_wp2_with fail
        refine (Alm.sz_any ad cp _ _ _ _ x _ HA.out hx0 (by omega)).mono ?_
        rintro e w1 ⟨⟨y, rfl, hy, hyn⟩, hb1⟩
        have HB1 : Hid (Below w.heap.size w w1) := grow_on HB.out hb1
        clear hb1 h2 h3 h4 h5
        by_cases hn : y < 0
        · clear hyn
          go_wp2
          go_ret
          exact ⟨⟨-1, rfl, by omega, fun h => by omega⟩, HB1.out⟩
        · have HY : Hid (y + ((nthP P k).l.length : Int) ≤ x) := hyn (by omega)
          clear hyn
          go_wp2
          go_roundw
          case rel => exact ⟨k + 1, y, by omega, by go_num, rfl, by omega, by have h1 := HY.out; have h2 := HX.out; have h3 := HU.out; omega, HB1.out⟩
          case measure => simp [intOf]; omega
      · have hge : ¬ (k : Int) < (P.length : Int) := by omega
        have HE : Hid (sumL (P.take k) = sumL P) := sum_all (by omega)
        go_wp2
        go_ret
        exact ⟨⟨_, rfl, by omega, fun h => by have h1 := HX.out; have h2 := HE.out; omega⟩, HB.out⟩

theorem infoA : (Try.prog.info? 48).map (fun i => (i.zero, i.size, i.bytes)) = some (some (.agg #[.slice none 0 0, .int .i64 0, .int .i64 0, .string ByteArray.empty]), 4, 56) := by kernel_rfl

/-- the first k alarms of the copy, in a row of the call's own, each with its labels in a block of its own -/
structure CopyA (M : Nat) (w : World) (P : List PAl) (k : Nat) (cs : Array Value) (g : Nat → Nat) : Prop where
  blk : Blk w M cs 48
  size : cs.size = P.length * 4
  cell : ∀ i, i < k → cs[i * 4]? = some (.slice (some ⟨g i, 0, none⟩) (nthP P i).l.length (nthP P i).l.length) ∧ cs[i * 4 + 1]? = some (.int .i64 (nthP P i).s) ∧ cs[i * 4 + 2]? = some (.int .i64 (nthP P i).e) ∧ cs[i * 4 + 3]? = some (.string (nthP P i).n)
  own : ∀ i, i < k → M < g i ∧ ∃ ds : Array Value, Blk w (g i) ds 73 ∧ ds.size = (nthP P i).l.length * 2 ∧ Held ds (nthP P i).l (nthP P i).l.length
  inc : ∀ i j, i < j → j < k → g i < g j
theorem CopyA.grow {M : Nat} {w w' : World} {P : List PAl} {k : Nat} {cs : Array Value} {g : Nat → Nat} (h : CopyA M w P k cs g) (hb : Below w.heap.size w w') : CopyA M w' P k cs g :=
  ⟨h.blk.grow hb, h.size, h.cell, fun i hi => by
    obtain ⟨h0, ds, h1, h2⟩ := h.own i hi
    exact ⟨h0, ds, h1.grow hb, h2⟩, h.inc⟩
theorem CopyA.reads {M : Nat} {w : World} {P : List PAl} {cs : Array Value} {g : Nat → Nat} (h : CopyA M w P P.length cs g) : RdA w (some ⟨M, 0, none⟩) P :=
  .inr ⟨M, 0, rfl, h.blk.lt, fun i hi => by
    obtain ⟨h0, h1, h2, h3⟩ := h.cell i hi
    obtain ⟨_, ds, hd, _, hh⟩ := h.own i hi
    exact ⟨some ⟨g i, 0, none⟩, _, by rw [h.blk.cell, Nat.zero_add]; exact h0, by rw [h.blk.cell, Nat.zero_add]; exact h1, by rw [h.blk.cell, Nat.zero_add]; exact h2, by rw [h.blk.cell, Nat.zero_add]; exact h3, held_reads hd hh⟩⟩
def upd (g : Nat → Nat) (k v : Nat) : Nat → Nat := fun i => if i = k then v else g i
theorem upd_same (g : Nat → Nat) (k v : Nat) : upd g k v k = v := if_pos rfl
theorem upd_other {g : Nat → Nat} {k v i : Nat} (h : i ≠ k) : upd g k v i = g i := if_neg h
theorem set_at {cs : Array Value} {i : Nat} {v : Value} (h : i < cs.size) : (cs.setIfInBounds i v)[i]? = some v := by rw [Array.getElem?_setIfInBounds, if_pos rfl, if_pos h]
theorem set_ne {cs : Array Value} {i j : Nat} {v : Value} (h : i ≠ j) : (cs.setIfInBounds i v)[j]? = cs[j]? := Array.getElem?_setIfInBounds_ne h
/-- the next one is laid -/
theorem CopyA.next {M : Nat} {w : World} {P : List PAl} {k : Nat} {cs ds : Array Value} {g : Nat → Nat} {v : Nat} (h : CopyA M w P k cs g) (hk : k < P.length) (hv : M < v) (hlt : ∀ i, i < k → g i < v)
    (hd : Blk w v ds 73) (hs : ds.size = (nthP P k).l.length * 2) (hh : Held ds (nthP P k).l (nthP P k).l.length) :
    CopyA M ((((w.setCell ⟨M, k * 4, none⟩ (.slice (some ⟨v, 0, none⟩) (nthP P k).l.length (nthP P k).l.length)).setCell ⟨M, k * 4 + 1, none⟩ (.int .i64 (nthP P k).s)).setCell ⟨M, k * 4 + 2, none⟩ (.int .i64 (nthP P k).e)).setCell ⟨M, k * 4 + 3, none⟩ (.string (nthP P k).n)) P (k + 1)
      ((((cs.setIfInBounds (k * 4) (.slice (some ⟨v, 0, none⟩) (nthP P k).l.length (nthP P k).l.length)).setIfInBounds (k * 4 + 1) (.int .i64 (nthP P k).s)).setIfInBounds (k * 4 + 2) (.int .i64 (nthP P k).e)).setIfInBounds (k * 4 + 3) (.string (nthP P k).n)) (upd g k v) := by
  have hsz := h.size
  refine ⟨(((h.blk.set _ _).set _ _).set _ _).set _ _, by simpa using hsz, fun i hi => ?_, fun i hi => ?_, fun i j hij hj => ?_⟩
  · by_cases e : i = k
    · subst e
      rw [upd_same]
      refine ⟨?_, ?_, ?_, ?_⟩
      · rw [set_ne (by omega), set_ne (by omega), set_ne (by omega), set_at (by omega)]
      · rw [set_ne (by omega), set_ne (by omega), set_at (by simp; omega)]
      · rw [set_ne (by omega), set_at (by simp; omega)]
      · rw [set_at (by simp; omega)]
    · obtain ⟨h0, h1, h2, h3⟩ := h.cell i (by omega)
      rw [upd_other e]
      refine ⟨?_, ?_, ?_, ?_⟩
      · rw [set_ne (by omega), set_ne (by omega), set_ne (by omega), set_ne (by omega)]; exact h0
      · rw [set_ne (by omega), set_ne (by omega), set_ne (by omega), set_ne (by omega)]; exact h1
      · rw [set_ne (by omega), set_ne (by omega), set_ne (by omega), set_ne (by omega)]; exact h2
      · rw [set_ne (by omega), set_ne (by omega), set_ne (by omega), set_ne (by omega)]; exact h3
  · by_cases e : i = k
    · subst e
      rw [upd_same]
      exact ⟨hv, ds, (((hd.set_other (by show M ≠ v; omega) _).set_other (by show M ≠ v; omega) _).set_other (by show M ≠ v; omega) _).set_other (by show M ≠ v; omega) _, hs, hh⟩
    · obtain ⟨h0, es, h1, h2⟩ := h.own i (by omega)
      rw [upd_other e]
      exact ⟨h0, es, (((h1.set_other (by show M ≠ g i; omega) _).set_other (by show M ≠ g i; omega) _).set_other (by show M ≠ g i; omega) _).set_other (by show M ≠ g i; omega) _, h2⟩
  · by_cases e : j = k
    · subst e
      rw [upd_same, upd_other (by omega)]
      exact hlt i (by omega)
    · rw [upd_other e, upd_other (by omega)]
      exact h.inc i j hij (by omega)

set_option maxHeartbeats 1600000 in
theorem to_any (a : Option Addr) (cap : Nat) (P : List PAl) (w : World) (hr : RdA w a P) (hl : P.length ≤ 1048576) (hs : sumL P ≤ 1048576) :
    Calls Try.prog 71 #[.slice a P.length cap] w fun e w' => e = .returned (.slice (some ⟨w.heap.size, 0, none⟩) P.length P.length) ∧ (∃ cs g, CopyA w.heap.size w' P P.length cs g) ∧ Below w.heap.size w w' := by
  have HR : Hid (RdA w a P) := hr
  have HS : Hid (sumL P ≤ 1048576) := hs
  clear hr hs
  have hmk := make_k (P := Try.prog) 53 48 (.agg #[.slice none 0 0, .int .i64 0, .int .i64 0, .string ByteArray.empty]) 4 56 Try.underlying53 infoA .i64 .i64 P.length (by omega) (by omega)
  go_enter Try.func71, Try.ntmps71
  go_wp2
  go_loopw [4] (fun i w' => ∃ (k : Nat) (cs : Array Value) (g : Nat → Nat), k ≤ P.length ∧ i = .int .i64 k ∧ CopyA w.heap.size w' P k cs g ∧ Below w.heap.size w w') (fun i _ => P.length - (intOf i).toNat)
  case atStart => exact ⟨0, _, fun _ => 0, Nat.zero_le _, rfl, ⟨Blk.new _ _ _, by simp [size_madeCells], fun i h => by omega, fun i h => by omega, fun i j h k => by omega⟩, (Below.refl _ _).alloc (Nat.le_refl _) _⟩
  case round =>
    clear hmk
    obtain ⟨k, cs, g, hk, rfl, hC, hw0⟩ := hrel
    have HB : Hid (Below w.heap.size w wr) := hw0
    have HC : Hid (CopyA w.heap.size wr P k cs g) := hC
    clear hC hw0
    by_cases hlt : k < P.length
    · have hlt' : (k : Int) < (P.length : Int) := by omega
      obtain ⟨b, off, rfl, hb, ad, cp, hat⟩ := (HR.out.below HB.out).get hlt
      have h2 := hat.c0
      have h3 := hat.c1
      have h4 := hat.c2
      have h5 := hat.c3
      have HA : Hid (Reads wr ad (nthP P k).l) := hat.reads
      clear hat
      go_wp2_with fail
      refine (Alm.to_any ad cp _ _ _ _ _ HA.out (Nat.le_trans (sum_nth hlt) HS.out)).mono ?_
      rintro e w1 ⟨⟨v, ds, rfl, hv, hd, hds, hh⟩, hb1⟩
      have HB1 : Hid (Below w.heap.size w w1) := grow_on HB.out hb1
      have hC1 : CopyA w.heap.size w1 P k cs g := HC.out.grow hb1
      have hM := HC.out.blk.lt
      have hsz := hC1.size
      have HN := hC1.next hlt (Nat.lt_of_lt_of_le hM hv) (fun i hi => by
        obtain ⟨_, es, h1, _⟩ := HC.out.own i hi
        exact Nat.lt_of_lt_of_le h1.lt hv) hd hds hh
      have HC2 : Hid _ := HN
      obtain ⟨v0, c0⟩ : ∃ v, w1.cell? ⟨w.heap.size, k * 4, none⟩ = some v := ⟨cs[k * 4]'(by omega), by rw [hC1.blk.cell]; simp⟩
      obtain ⟨v1, c1⟩ : ∃ v, w1.cell? ⟨w.heap.size, k * 4 + 1, none⟩ = some v := ⟨cs[k * 4 + 1]'(by omega), by rw [hC1.blk.cell]; simp⟩
      obtain ⟨v2, c2⟩ : ∃ v, w1.cell? ⟨w.heap.size, k * 4 + 2, none⟩ = some v := ⟨cs[k * 4 + 2]'(by omega), by rw [hC1.blk.cell]; simp⟩
      obtain ⟨v3, c3⟩ : ∃ v, w1.cell? ⟨w.heap.size, k * 4 + 3, none⟩ = some v := ⟨cs[k * 4 + 3]'(by omega), by rw [hC1.blk.cell]; simp⟩
      have f0 := hC1.blk.frozen (k * 4)
      have f1 := hC1.blk.frozen (k * 4 + 1)
      have f2 := hC1.blk.frozen (k * 4 + 2)
      have f3 := hC1.blk.frozen (k * 4 + 3)
      clear hb1 h2 h3 h4 h5 hC1 hsz HN hM hd hds hh hv
      go_wp2
      go_roundw
      case rel => exact ⟨k + 1, _, _, by omega, by go_num, HC2.out, (((HB1.out.setCell (Nat.le_refl _) _).setCell (Nat.le_refl _) _).setCell (Nat.le_refl _) _).setCell (Nat.le_refl _) _⟩
      case measure => simp [intOf]; omega
    · have hge : ¬ (k : Int) < (P.length : Int) := by omega
      have HE : Hid (k = P.length) := by show k = P.length; omega
      go_wp2
      go_ret
      exact ⟨rfl, ⟨cs, g, by have := HC.out; rwa [HE.out] at this⟩, HB.out⟩

set_option maxHeartbeats 800000 in
theorem eq_any (a a' : Option Addr) (cap cap' : Nat) (P : List PAl) (w : World) (hr : RdA w a P) (hr' : RdA w a' P) (hl : P.length ≤ maxLen) (hz : FitsP P) :
    Calls Try.prog 65 #[.slice a P.length cap, .slice a' P.length cap'] w fun e w' => e = .returned (.bool true) ∧ Below w.heap.size w w' := by
  unfold maxLen at hl
  have HR : Hid (RdA w a P) := hr
  have HR' : Hid (RdA w a' P) := hr'
  have HZ : Hid (FitsP P) := hz
  clear hr hr' hz
  go_enter Try.func65, Try.ntmps65
  go_wp2
  go_loopw [5] (fun i w' => ∃ k : Nat, i = .int .i64 k ∧ k ≤ P.length ∧ Below w.heap.size w w') (fun i _ => P.length - (intOf i).toNat)
  case atStart => exact ⟨0, rfl, Nat.zero_le _, Below.refl _ _⟩
  case round =>
    obtain ⟨k, rfl, hk, hw0⟩ := hrel
    have HB : Hid (Below w.heap.size w wr) := hw0
    clear hw0
    by_cases hlt : k < P.length
    · have hlt' : (k : Int) < (P.length : Int) := by omega
      obtain ⟨b, off, rfl, hb, ad, cp, hat⟩ := (HR.out.below HB.out).get hlt
      obtain ⟨b', off', rfl, hb', ad', cp', hat'⟩ := (HR'.out.below HB.out).get hlt
      have hne := Grown.some wr
      have x0 := fun x : Grown wr => x.cell hb hat.c0
      have x1 := fun x : Grown wr => x.cell hb hat.c1
      have x2 := fun x : Grown wr => x.cell hb hat.c2
      have x3 := fun x : Grown wr => x.cell hb hat.c3
      have y0 := fun x : Grown wr => x.cell hb' hat'.c0
      have y1 := fun x : Grown wr => x.cell hb' hat'.c1
      have y2 := fun x : Grown wr => x.cell hb' hat'.c2
      have y3 := fun x : Grown wr => x.cell hb' hat'.c3
      have HC : ∀ x : Grown wr, Hid (Calls Try.prog 27 #[.agg #[.slice ad (nthP P k).l.length cp, .int .i64 (nthP P k).s, .int .i64 (nthP P k).e, .string (nthP P k).n], .agg #[.slice ad' (nthP P k).l.length cp', .int .i64 (nthP P k).s, .int .i64 (nthP P k).e, .string (nthP P k).n]] x.out fun e w' => e = .returned (.bool true) ∧ Below x.out.heap.size x.out w') := fun x => (Alm.eq_any ad ad' cp cp' _ _ _ _ _ _ _ _ x.out (hat.reads.below x.bel) (hat'.reads.below x.bel) (HZ.out k hlt).len (HZ.out k hlt).len).mono fun e w' h => ⟨h.1.trans (retB (same_self _ _ _ _)), h.2⟩
      clear hat hat'
      go_wp2
      refine wp_over (z := wr) (by kernel_rfl) (by kernel_rfl) (Below.refl _ _) ?_
      repeat (go_big_quiet_step (first | (go_at_call 27; exact call_over (HC _).out)))
      refine wpQuiet_nil ?_
      intro w2 hw2
      have hb2 := over_bel hw2
      have HB2 : Hid (Below w.heap.size w w2) := grow_on HB.out hb2
      clear hw2 hne hb2 x0 x1 x2 x3 y0 y1 y2 y3 HC
      go_wp2
      go_roundw
      case rel => exact ⟨k + 1, by go_num, by omega, HB2.out⟩
      case measure => simp [intOf]; omega
    · have hge : ¬ (k : Int) < (P.length : Int) := by omega
      go_wp2
      go_ret
      exact ⟨rfl, HB.out⟩
end Go.Proofs.Ytgncimlojbnbfaa.Alms
