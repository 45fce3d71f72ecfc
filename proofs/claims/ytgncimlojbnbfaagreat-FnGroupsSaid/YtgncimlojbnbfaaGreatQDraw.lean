/-
  PROVED: the contracts of the drawing functions of the specification (l1New, l1Byte, l1Below, l1Once, l1Int, l1Str and what is drawn by them): each returns, whatever the code; what is drawn is of its kind; nothing that was there is changed but the cursor.
-/
import Derived.Test.YtgncimlojbnbfaaGreatRows
import Derived.WalkKit
import Derived.WalkLawsBesides
import Derived.WalkSpells
import Derived.Deep.QuietTactic
import Derived.BigQuiet
import Derived.Below
import Derived.WalkSmall
set_option linter.unusedVariables false
namespace Go.Proofs.YtgncimlojbnbfaaGreat.Draw
open Go.RowKit

structure Kept (c : Nat) (w w' : World) : Prop where
  os : w'.os = w.os
  tape : w'.tape = w.tape
  output : w'.output = w.output
  size : w.heap.size ≤ w'.heap.size
  block : ∀ k, k < w.heap.size → k ≠ c → w'.heap[k]? = w.heap[k]?
theorem Kept.refl (c : Nat) (w : World) : Kept c w w := ⟨rfl, rfl, rfl, Nat.le_refl _, fun _ _ _ => rfl⟩
theorem Kept.trans {c : Nat} {a b d : World} (h : Kept c a b) (k : Kept c b d) : Kept c a d :=
  ⟨k.os.trans h.os, k.tape.trans h.tape, k.output.trans h.output, Nat.le_trans h.size k.size, fun i hi hc => (k.block i (Nat.lt_of_lt_of_le hi h.size) hc).trans (h.block i hi hc)⟩
theorem Kept.drewN {c : Nat} {a w : World} (h : Kept c a w) (n : Nat) : Kept c a (w.drewN n) := ⟨h.os, h.tape, h.output, h.size, h.block⟩
theorem Kept.alloc {c : Nat} {a w : World} (h : Kept c a w) (o : Obj) : Kept c a (w.alloc o) :=
  h.trans ⟨rfl, rfl, rfl, by simp, fun k hk _ => Below.heap_alloc w o k hk⟩
theorem Kept.setCell {c : Nat} {a w : World} (h : Kept c a w) (off : Nat) (u : Value) : Kept c a (w.setCell ⟨c, off, none⟩ u) :=
  h.trans ⟨rfl, rfl, rfl, by simp [World.setCell], fun k _ hc => Below.heap_setCell w ⟨c, off, none⟩ u k hc⟩
theorem Kept.below {c B : Nat} {w w' : World} (h : Kept c w w') (hB : B ≤ c) (hw : B ≤ w.heap.size) : Below B w w' :=
  ⟨h.os, h.tape, h.output, h.size, fun k hk => h.block k (by omega) (by omega)⟩
theorem Kept.cell {c : Nat} {w w' : World} (h : Kept c w w') {p : Addr} (hp : p.block < w.heap.size) (hc : p.block ≠ c) : w'.cell? p = w.cell? p :=
  World.cell?_of_block (w := w) (h.block p.block hp hc)

def Bytes (w : World) (a : Option Addr) (len c : Nat) : Prop :=
  len = 0 ∨ ∃ b off, a = some ⟨b, off, none⟩ ∧ b < c ∧ ∀ j, j < len → ∃ z : Int, w.cell? ⟨b, off + j, none⟩ = some (.int .u8 z) ∧ 0 ≤ z ∧ z ≤ 255
def Cur (w : World) (c : Nat) : Prop :=
  ∃ (a : Option Addr) (len cap : Nat) (i h : Int), w.cell? ⟨c, 0, none⟩ = some (.slice a len cap) ∧ w.cell? ⟨c, 1, none⟩ = some (.int .i64 i) ∧ w.cell? ⟨c, 2, none⟩ = some (.int .i64 h) ∧
    w.frozen? ⟨c, 1, none⟩ = false ∧ w.frozen? ⟨c, 2, none⟩ = false ∧ 0 ≤ i ∧ len ≤ 9223372036854775807 ∧ Bytes w a len c ∧ c < w.heap.size

theorem Bytes.keep {w w' : World} {a : Option Addr} {len c : Nat} (h : Bytes w a len c) (hk : Kept c w w') (hc : c ≤ w.heap.size) : Bytes w' a len c := by
  rcases h with h | ⟨b, off, rfl, hb, hz⟩
  · exact .inl h
  · exact .inr ⟨b, off, rfl, hb, fun j hj => by
      obtain ⟨z, h1, h2⟩ := hz j hj
      exact ⟨z, by rw [hk.cell (p := ⟨b, off + j, none⟩) (by show b < _; omega) (by show b ≠ c; omega)]; exact h1, h2⟩⟩
theorem Cur.drewN {w : World} {c : Nat} (h : Cur w c) (n : Nat) : Cur (w.drewN n) c := h
theorem cell_other (w : World) (c i j : Nat) (v : Value) (h : i ≠ j) : (w.setCell ⟨c, i, none⟩ v).cell? ⟨c, j, none⟩ = w.cell? ⟨c, j, none⟩ :=
  World.cell?_setCell_other (w := w) (a := ⟨c, i, none⟩) (b := ⟨c, j, none⟩) (v := v) (fun e => h (congrArg Addr.off e))
theorem cell_same (w : World) (c i : Nat) (v u : Value) (h : w.cell? ⟨c, i, none⟩ = some u) : (w.setCell ⟨c, i, none⟩ v).cell? ⟨c, i, none⟩ = some v :=
  World.cell?_setCell_same (w := w) (a := ⟨c, i, none⟩) (v := v) h
theorem Cur.set2 {w : World} {c : Nat} (h : Cur w c) (x : Int) : Cur (w.setCell ⟨c, 2, none⟩ (.int .i64 x)) c := by
  obtain ⟨a, len, cap, i, h, h0, h1, h2, f1, f2, hi, hl, hb, hlt⟩ := h
  refine ⟨a, len, cap, i, x, ?_, ?_, ?_, ?_, ?_, hi, hl, hb.keep ((Kept.refl c w).setCell 2 _) (by omega), by simpa [World.setCell] using hlt⟩
  · rw [cell_other _ _ _ _ _ (by decide)]; exact h0
  · rw [cell_other _ _ _ _ _ (by decide)]; exact h1
  · exact cell_same _ _ _ _ _ h2
  · rw [World.frozen?_setCell]; exact f1
  · rw [World.frozen?_setCell]; exact f2
theorem Cur.set1 {w : World} {c : Nat} (h : Cur w c) (x : Int) (hx : 0 ≤ x) : Cur (w.setCell ⟨c, 1, none⟩ (.int .i64 x)) c := by
  obtain ⟨a, len, cap, i, h, h0, h1, h2, f1, f2, hi, hl, hb, hlt⟩ := h
  refine ⟨a, len, cap, x, h, ?_, ?_, ?_, ?_, ?_, hx, hl, hb.keep ((Kept.refl c w).setCell 1 _) (by omega), by simpa [World.setCell] using hlt⟩
  · rw [cell_other _ _ _ _ _ (by decide)]; exact h0
  · exact cell_same _ _ _ _ _ h1
  · rw [cell_other _ _ _ _ _ (by decide)]; exact h2
  · rw [World.frozen?_setCell]; exact f1
  · rw [World.frozen?_setCell]; exact f2

theorem maskAnd (x : Int) (m j : Nat) (hm : m < 2 ^ j) (hj : j ≤ 62) : 0 ≤ bits .and .i64 x (m : Int) ∧ bits .and .i64 x (m : Int) < ((2 ^ j : Nat) : Int) := by
  have hp : 2 ^ j ≤ 2 ^ 62 := Nat.pow_le_pow_right (by decide) hj
  have h2 : (BitVec.ofInt 64 (m : Int)).toNat = m := by
    rw [BitVec.ofInt_natCast, BitVec.toNat_ofNat]; exact Nat.mod_eq_of_lt (by omega)
  have h := Nat.and_lt_two_pow (BitVec.ofInt 64 x).toNat hm
  have e : bits .and .i64 x (m : Int) = IntKind.i64.wrap (((BitVec.ofInt 64 x).toNat &&& m : Nat) : Int) := by
    show IntKind.i64.wrap ((BitVec.ofInt 64 x &&& BitVec.ofInt 64 (m : Int)).toNat : Int) = _
    rw [BitVec.toNat_and, h2]
  rw [e, IntKind.wrap_i64]
  omega
theorem byteAnd (x : Int) : 0 ≤ bits .and .i64 x 255 ∧ bits .and .i64 x 255 ≤ 255 := by
  have := maskAnd x 255 8 (by decide) (by decide)
  simp at this
  omega

set_option maxHeartbeats 400000 in
theorem byte_any (c : Nat) (w : World) (hc : Cur w c) :
    Calls Tryz.prog 59 #[.pointer (some ⟨c, 0, none⟩)] w fun e w' => (∃ x : Int, e = .returned (.int .i64 x) ∧ 0 ≤ x ∧ x ≤ 255) ∧ Cur w' c ∧ Kept c w w' := by
  have HC : Hid (Cur w c) := hc
  obtain ⟨a, len, cap, i, h, h0, h1, h2, f1, f2, hi, hl, hb, hlt⟩ := hc
  obtain ⟨k, rfl⟩ := Int.eq_ofNat_of_zero_le hi
  by_cases hlen : (k : Int) < (len : Int)
  · obtain ⟨b, off, rfl, hbc, hz⟩ : ∃ b off, a = some ⟨b, off, none⟩ ∧ b < c ∧ ∀ j, j < len → ∃ z : Int, w.cell? ⟨b, off + j, none⟩ = some (.int .u8 z) ∧ 0 ≤ z ∧ z ≤ 255 := by
      rcases hb with h | h
      · omega
      · exact h
    have HB : Hid (Bytes w (some ⟨b, off, none⟩) len c) := hb
    obtain ⟨z, hz1, hz2, hz3⟩ := hz k (by omega)
    have hne : b ≠ c := by omega
    have hne' : ¬ c = b := by omega
    clear hb hz
    go_enter Tryz.func59, Tryz.ntmps59
    go_wp2
    generalize wrap64 (wrap64 (h * 6364136223846793005) + 1442695040888963407) = H
    go_quiet (fail)
    go_wp2
    go_quiet (fail)
    go_wp2
    have hX := byteAnd (bits BinOp.xor IntKind.i64 (H / 8589934592) (H / 140737488355328))
    generalize bits BinOp.and IntKind.i64 (bits BinOp.xor IntKind.i64 (H / 8589934592) (H / 140737488355328)) 255 = X at hX ⊢
    have HX := hX
    go_quiet (fail)
    go_wp2
    have hY := byteAnd (X + z)
    generalize bits BinOp.and IntKind.i64 (X + z) 255 = Y at hY ⊢
    go_ret
    refine ⟨⟨Y, rfl, hY⟩, ?_, ?_⟩
    · exact Cur.set1 (Cur.drewN (HC.out.set2 _) _) _ (by omega)
    · exact (((Kept.refl c w).setCell 2 _).drewN _).setCell 1 _
  · go_enter Tryz.func59, Tryz.ntmps59
    go_wp2
    generalize wrap64 (wrap64 (h * 6364136223846793005) + 1442695040888963407) = H
    go_quiet (fail)
    go_wp2
    go_quiet (fail)
    go_wp2
    have hX := byteAnd (bits BinOp.xor IntKind.i64 (H / 8589934592) (H / 140737488355328))
    generalize bits BinOp.and IntKind.i64 (bits BinOp.xor IntKind.i64 (H / 8589934592) (H / 140737488355328)) 255 = X at hX ⊢
    go_ret
    refine ⟨⟨X, rfl, hX⟩, ?_, ?_⟩
    · exact HC.out.set2 _
    · exact (((Kept.refl c w).setCell 2 _).drewN _).drewN _

set_option maxHeartbeats 400000 in
theorem below_any (c : Nat) (n : Int) (w : World) (hc : Cur w c) (h1 : 0 < n) (h2 : n ≤ 1000000) :
    Calls Tryz.prog 30 #[.pointer (some ⟨c, 0, none⟩), .int .i64 n] w fun e w' => (∃ x : Int, e = .returned (.int .i64 x) ∧ 0 ≤ x ∧ x < n) ∧ Cur w' c ∧ Kept c w w' := by
  have HC : Hid (Cur w c) := hc
  clear hc
  by_cases hs : n ≤ 256
  · go_enter Tryz.func30, Tryz.ntmps30
    go_wp2_with fail
    refine (byte_any c _ HC.out).mono ?_
    rintro e w1 ⟨⟨x, rfl, hx0, hx1⟩, hc1, hk1⟩
    have HC1 : Hid (Cur w1 c ∧ Kept c w w1) := ⟨hc1, hk1⟩
    clear hc1 hk1
    go_wp2
    go_ret
    exact ⟨⟨_, rfl, Int.emod_nonneg _ (by omega), Int.emod_lt_of_pos _ h1⟩, HC1.out⟩
  · go_enter Tryz.func30, Tryz.ntmps30
    go_wp2_with fail
    refine (byte_any c _ HC.out).mono ?_
    rintro e w1 ⟨⟨x, rfl, hx0, hx1⟩, hc1, hk1⟩
    have HC1 : Hid (Cur w1 c ∧ Kept c w w1) := ⟨hc1, hk1⟩
    clear hc1 hk1
    go_wp2_with fail
    refine (byte_any c _ HC1.out.1).mono ?_
    rintro e w2 ⟨⟨y, rfl, hy0, hy1⟩, hc2, hk2⟩
    have HC2 : Hid (Cur w2 c ∧ Kept c w w2) := ⟨hc2, HC1.out.2.trans hk2⟩
    clear hc2 hk2
    go_wp2_with fail
    refine (byte_any c _ HC2.out.1).mono ?_
    rintro e w3 ⟨⟨z, rfl, hz0, hz1⟩, hc3, hk3⟩
    have HC3 : Hid (Cur w3 c ∧ Kept c w w3) := ⟨hc3, HC2.out.2.trans hk3⟩
    clear hc3 hk3
    go_wp2
    go_ret
    exact ⟨⟨_, rfl, Int.emod_nonneg _ (by omega), Int.emod_lt_of_pos _ h1⟩, HC3.out⟩

set_option maxHeartbeats 400000 in
theorem once_any (c : Nat) (n : Int) (w : World) (hc : Cur w c) (h1 : 0 < n) (h2 : n ≤ 1000000) :
    Calls Tryz.prog 38 #[.pointer (some ⟨c, 0, none⟩), .int .i64 n] w fun e w' => (∃ b : Bool, e = .returned (.bool b)) ∧ Cur w' c ∧ Kept c w w' := by
  have HC : Hid (Cur w c) := hc
  clear hc
  go_enter Tryz.func38, Tryz.ntmps38
  go_wp2_with fail
  refine (below_any c n _ HC.out h1 h2).mono ?_
  rintro e w1 ⟨⟨x, rfl, hx0, hx1⟩, hc1, hk1⟩
  have HC1 : Hid (Cur w1 c ∧ Kept c w w1) := ⟨hc1, hk1⟩
  clear hc1 hk1
  go_wp2
  go_ret
  exact ⟨⟨_, rfl⟩, HC1.out⟩

def isStr : Value → Bool | .string s => decide (s.size ≤ 100) | _ => false
def isInt : Value → Bool | .int .i64 n => decide (-9223372036854775808 ≤ n ∧ n ≤ 9223372036854775807) | _ => false
def Row (p : Value → Bool) (w : World) (a : Addr) (len c : Nat) : Prop :=
  a.spot = none ∧ a.block ≠ c ∧ a.block < w.heap.size ∧ ∀ j, j < len → ∃ v, w.cell? ⟨a.block, a.off + j, none⟩ = some v ∧ p v = true
theorem Row.keep {p : Value → Bool} {w w' : World} {a : Addr} {len c : Nat} (h : Row p w a len c) (hk : Kept c w w') : Row p w' a len c :=
  ⟨h.1, h.2.1, Nat.lt_of_lt_of_le h.2.2.1 hk.size, fun j hj => by rw [hk.cell (p := ⟨a.block, a.off + j, none⟩) h.2.2.1 h.2.1]; exact h.2.2.2 j hj⟩
theorem row_lit {p : Value → Bool} {w : World} {arr : Array Value} {T : TypeId} {c n : Nat} (h : arr.toList.all p = true) (hn : arr.size = n) (hc : c < w.heap.size) : Row p (w.alloc (.cells arr T)) ⟨w.heap.size, 0, none⟩ n c := by
  subst hn
  refine ⟨rfl, by show w.heap.size ≠ c; omega, by simp, fun j hj => ⟨arr[j], ?_, ?_⟩⟩
  · show (w.alloc (.cells arr T)).cell? ⟨w.heap.size, 0 + j, none⟩ = _
    rw [World.cell?_alloc_new, Nat.zero_add]; simp [hj]
  · exact (List.all_eq_true.1 h) _ (by simp)
theorem str_of {v : Value} (h : isStr v = true) : ∃ s : ByteArray, v = .string s ∧ s.size ≤ 100 := by
  unfold isStr at h
  split at h
  · exact ⟨_, rfl, of_decide_eq_true h⟩
  · cases h
theorem int_of {v : Value} (h : isInt v = true) : ∃ n : Int, v = .int .i64 n ∧ -9223372036854775808 ≤ n ∧ n ≤ 9223372036854775807 := by
  unfold isInt at h
  split at h
  · exact ⟨_, rfl, of_decide_eq_true h⟩
  · cases h

set_option maxHeartbeats 400000 in
theorem str_any (c b off len cap : Nat) (w : World) (hc : Cur w c) (hr : Row isStr w ⟨b, off, none⟩ len c) (h1 : 0 < len) (h2 : len ≤ 256) :
    Calls Tryz.prog 75 #[.pointer (some ⟨c, 0, none⟩), .slice (some ⟨b, off, none⟩) len cap] w fun e w' => (∃ s : ByteArray, e = .returned (.string s) ∧ s.size ≤ 100) ∧ Cur w' c ∧ Kept c w w' := by
  have HC : Hid (Cur w c) := hc
  have HR : Hid (Row isStr w ⟨b, off, none⟩ len c) := hr
  clear hc hr
  go_enter Tryz.func75, Tryz.ntmps75
  go_wp2_with fail
  refine (below_any c (len : Int) _ HC.out (by omega) (by omega)).mono ?_
  rintro e w1 ⟨⟨x, rfl, hx0, hx1⟩, hc1, hk1⟩
  have HC1 : Hid (Cur w1 c ∧ Kept c w w1) := ⟨hc1, hk1⟩
  obtain ⟨k, rfl⟩ := Int.eq_ofNat_of_zero_le hx0
  obtain ⟨v, hv, hp⟩ := (HR.out.keep hk1).2.2.2 k (by omega)
  obtain ⟨s, rfl, hs⟩ := str_of hp
  clear hc1 hk1 hp
  go_wp2
  go_ret
  exact ⟨⟨_, rfl, hs⟩, HC1.out⟩

set_option maxHeartbeats 400000 in
theorem int_any (c b off len cap : Nat) (w : World) (hc : Cur w c) (hr : Row isInt w ⟨b, off, none⟩ len c) (h1 : 0 < len) (h2 : len ≤ 256) :
    Calls Tryz.prog 58 #[.pointer (some ⟨c, 0, none⟩), .slice (some ⟨b, off, none⟩) len cap] w fun e w' => (∃ n : Int, e = .returned (.int .i64 n) ∧ -9223372036854775808 ≤ n ∧ n ≤ 9223372036854775807) ∧ Cur w' c ∧ Kept c w w' := by
  have HC : Hid (Cur w c) := hc
  have HR : Hid (Row isInt w ⟨b, off, none⟩ len c) := hr
  clear hc hr
  go_enter Tryz.func58, Tryz.ntmps58
  go_wp2_with fail
  refine (below_any c (len : Int) _ HC.out (by omega) (by omega)).mono ?_
  rintro e w1 ⟨⟨x, rfl, hx0, hx1⟩, hc1, hk1⟩
  have HC1 : Hid (Cur w1 c ∧ Kept c w w1) := ⟨hc1, hk1⟩
  obtain ⟨k, rfl⟩ := Int.eq_ofNat_of_zero_le hx0
  obtain ⟨v, hv, hp⟩ := (HR.out.keep hk1).2.2.2 k (by omega)
  obtain ⟨s, rfl, hs⟩ := int_of hp
  clear hc1 hk1 hp
  go_wp2
  go_ret
  exact ⟨⟨_, rfl, hs⟩, HC1.out⟩

theorem Cur.alloc {w : World} {c : Nat} (h : Cur w c) (o : Obj) : Cur (w.alloc o) c := by
  obtain ⟨a, len, cap, i, h, h0, h1, h2, f1, f2, hi, hl, hb, hlt⟩ := h
  refine ⟨a, len, cap, i, h, ?_, ?_, ?_, ?_, ?_, hi, hl, hb.keep ((Kept.refl c w).alloc o) (by omega), by simp; omega⟩
  · rw [World.cell?_alloc_lt w o ⟨c, 0, none⟩ hlt]; exact h0
  · rw [World.cell?_alloc_lt w o ⟨c, 1, none⟩ hlt]; exact h1
  · rw [World.cell?_alloc_lt w o ⟨c, 2, none⟩ hlt]; exact h2
  · rw [World.frozen?_alloc_old w o ⟨c, 1, none⟩ (Nat.ne_of_lt hlt)]; exact f1
  · rw [World.frozen?_alloc_old w o ⟨c, 2, none⟩ (Nat.ne_of_lt hlt)]; exact f2
theorem Cur.lt {w : World} {c : Nat} (h : Cur w c) : c < w.heap.size := by
  obtain ⟨a, len, cap, i, h, h0, h1, h2, f1, f2, hi, hl, hb, hlt⟩ := h
  exact hlt

theorem cur_new (w : World) (a : Option Addr) (len cap : Nat) (h : Int) (T : TypeId) (hl : len ≤ 9223372036854775807) (hb : Bytes w a len w.heap.size) :
    Cur (w.alloc (.cells #[.slice a len cap, .int .i64 0, .int .i64 h] T)) w.heap.size := by
  refine ⟨a, len, cap, 0, h, ?_, ?_, ?_, ?_, ?_, by omega, hl, hb.keep ((Kept.refl _ w).alloc _) (Nat.le_refl _), by simp⟩
  · rw [World.cell?_alloc_new]; rfl
  · rw [World.cell?_alloc_new]; rfl
  · rw [World.cell?_alloc_new]; rfl
  · exact World.frozen?_alloc_new w _ _ _
  · exact World.frozen?_alloc_new w _ _ _

set_option maxHeartbeats 400000 in
theorem new_any (a : Option Addr) (len cap : Nat) (w : World) (hl : len ≤ maxLen) (hb : Bytes w a len w.heap.size) :
    Calls Tryz.prog 26 #[.slice a len cap] w fun e w' => e = .returned (.pointer (some ⟨w.heap.size, 0, none⟩)) ∧ Cur w' w.heap.size ∧ Below w.heap.size w w' := by
  unfold maxLen at hl
  have HB : Hid (Bytes w a len w.heap.size) := hb
  clear hb
  go_enter Tryz.func26, Tryz.ntmps26
  go_wp2
  go_loop [3, 4] (fun h i => ∃ (k : Nat) (x : Int), k ≤ len ∧ i = .int .i64 k ∧ h = .int .i64 x) (fun _ i => len - (intOf i).toNat)
  case atStart => exact ⟨0, _, Nat.zero_le _, rfl, rfl⟩
  case round =>
    obtain ⟨k, x, hk, rfl, rfl⟩ := hrel
    by_cases hlt : k < len
    · have hlt' : (k : Int) < (len : Int) := by omega
      by_cases h4 : (k : Int) < 4000
      · obtain ⟨b, off, rfl, hbc, hz⟩ : ∃ b off, a = some ⟨b, off, none⟩ ∧ b < w.heap.size ∧ ∀ j, j < len → ∃ z : Int, w.cell? ⟨b, off + j, none⟩ = some (.int .u8 z) ∧ 0 ≤ z ∧ z ≤ 255 := by
          rcases HB.out with h | h
          · omega
          · exact h
        obtain ⟨z, hz1, hz2, hz3⟩ := hz k hlt
        clear hz
        go_wp2
        go_round
        case rel => exact ⟨k + 1, _, by omega, by go_num, rfl⟩
        case measure => simp [intOf]; omega
      · go_wp2
        go_ret
        exact ⟨rfl, cur_new _ _ _ _ _ _ (by omega) HB.out, (Below.refl _ _).alloc (Nat.le_refl _) _⟩
    · have hge : ¬ (k : Int) < (len : Int) := by omega
      go_wp2
      go_ret
      exact ⟨rfl, cur_new _ _ _ _ _ _ (by omega) HB.out, (Below.refl _ _).alloc (Nat.le_refl _) _⟩

set_option maxHeartbeats 400000 in
theorem odd_any (c : Nat) (w : World) (hc : Cur w c) :
    Calls Tryz.prog 113 #[.pointer (some ⟨c, 0, none⟩)] w fun e w' => (∃ n : Int, e = .returned (.int .i64 n) ∧ -9223372036854775808 ≤ n ∧ n ≤ 9223372036854775807) ∧ Cur w' c ∧ Kept c w w' := by
  have HC : Hid (Cur w c) := hc
  clear hc
  go_enter Tryz.func113, Tryz.ntmps113
  go_wp2_with fail
  refine (int_any c _ _ _ _ _ ?hc ?hr ?h1 ?h2).mono ?_
  case hc => exact HC.out.alloc _
  case hr => exact row_lit (by decide) rfl HC.out.lt
  case h1 => decide
  case h2 => decide
  rintro e w1 ⟨⟨n, rfl, hn⟩, hc1, hk1⟩
  have HC1 : Hid (Cur w1 c ∧ Kept c w w1) := ⟨hc1, ((Kept.refl c w).alloc _).trans hk1⟩
  clear hc1 hk1
  go_wp2
  go_ret
  exact ⟨⟨_, rfl, hn⟩, HC1.out⟩

set_option maxHeartbeats 400000 in
theorem raw_any (c : Nat) (w : World) (hc : Cur w c) :
    Calls Tryz.prog 91 #[.pointer (some ⟨c, 0, none⟩)] w fun e w' => (∃ n : Int, e = .returned (.int .i64 n) ∧ -9223372036854775808 ≤ n ∧ n ≤ 9223372036854775807) ∧ Cur w' c ∧ Kept c w w' := by
  have HC : Hid (Cur w c) := hc
  clear hc
  go_enter Tryz.func91, Tryz.ntmps91
  go_wp2_with fail
  refine (once_any c 2 _ HC.out (by decide) (by decide)).mono ?_
  rintro e w1 ⟨⟨b, rfl⟩, hc1, hk1⟩
  have HC1 : Hid (Cur w1 c ∧ Kept c w w1) := ⟨hc1, hk1⟩
  clear hc1 hk1
  cases b with
  | true =>
    go_wp2_with fail
    refine (odd_any c _ HC1.out.1).mono ?_
    rintro e w2 ⟨⟨n, rfl, hn⟩, hc2, hk2⟩
    have HC2 : Hid (Cur w2 c ∧ Kept c w w2) := ⟨hc2, HC1.out.2.trans hk2⟩
    clear hc2 hk2
    go_wp2
    go_ret
    exact ⟨⟨_, rfl, hn⟩, HC2.out⟩
  | false =>
    go_wp2_with fail
    refine (int_any c _ _ _ _ _ ?hc ?hr ?h1 ?h2).mono ?_
    case hc => exact HC1.out.1.alloc _
    case hr => exact row_lit (by decide) rfl HC1.out.1.lt
    case h1 => decide
    case h2 => decide
    rintro e w2 ⟨⟨n, rfl, hn⟩, hc2, hk2⟩
    have HC2 : Hid (Cur w2 c ∧ Kept c w w2) := ⟨hc2, (HC1.out.2.alloc _).trans hk2⟩
    clear hc2 hk2
    go_wp2
    go_ret
    exact ⟨⟨_, rfl, hn⟩, HC2.out⟩
end Go.Proofs.YtgncimlojbnbfaaGreat.Draw
