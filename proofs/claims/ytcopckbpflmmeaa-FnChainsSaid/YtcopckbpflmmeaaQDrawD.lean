/-
  PROVED: over any string spec.Sum and impl.Sum answer alike, as a plain function on its bytes says, between nought and 2 to the 32; spec.PartOf and impl.PartOf answer the remainder, nought at wrong input; nothing is changed.
  PROVED: over a slice of labels in memory spec.Finger and impl.Finger answer alike, between nought and 31, as a plain function says; so do spec.Alike and impl.Alike over two; nothing that was there is changed.
  PROVED: over a chain in memory impl.ChainOk answers as a plain function on lists says; nothing that was there is changed.
  PROVED: over chains in memory spec.InChain, spec.ChainOk, spec.SameChain and impl.SameChain answer as plain functions on lists say; nothing that was there is changed.
  PROVED: over two chains in memory spec.SameChain and impl.SameChain answer alike, as a plain function on lists says; spec.l4All and spec.l6Copy give the same alarms in memory of their own; nothing that was there is changed.
  PROVED: over chains in memory spec.l6Copy, spec.PutChain and spec.DropOver answer as plain functions on lists say, in memory of their own; nothing that was there is changed.
  PROVED: over a chain in memory spec.DropOver answers as two plain functions on lists say, in memory of its own; nothing that was there is changed.
  PROVED: the contracts of laws.markAlarm and laws.heldAlarm: the marks are written into the alarm's labels alone, and found there.
  PROVED: the marks that markAlarmS writes over a row of alarms and heldAlarmS finds; the copy that toAlarmS makes, as a row.
  PROVED: the contracts of what the exact laws call over chains: the size that szChain counts, the copy that toChain makes, that eqChain finds two of the same alike, the marks that markAlarmS writes and heldAlarmS finds; what a chain that came in is.
  PROVED: the contract of spec.DrawInOrder: it returns a slice of at most five strings in memory of its own, and nothing that was there is changed.
  PROVED: the contracts of the drawing of labels: l2Draw and l2Any hand back a row of the call's own with a few small labels; the cursor goes on, all else is as it was.
  PROVED: the contract of spec.DrawSetLess: two slices of a few small labels in memory of its own; nothing that was there is changed.
  PROVED: the contracts of the drawing of alarms: l4Draw, l4Any, l4Pair and what is drawn by them: alarms with a few small labels in memory of their own; nothing that was there is changed but the cursor.
  PROVED: the contracts of the draws of alarms that FnMerges and FnAlarms begin with: alarms with a few small labels in memory of their own; nothing that was there is changed.
  Small alarms and rows of them beside the drawing cursor.
  PROVED: the contracts of the drawing of chains, l6Draw first: a chain with a few small alarms in memory of its own; nothing that was there is changed but the cursor.
  PROVED: the contract of l6Any: a drawn chain, bent or not, in memory of its own; nothing that was there is changed but the cursor.
-/
import Derived.Test.YtcopckbpflmmeaaQTextS
import Derived.Laws.BitsAllLaws
import Derived.Test.YtcopckbpflmmeaaQTextI
import Derived.Test.YtcopckbpflmmeaaQChnI
import Derived.Test.YtcopckbpflmmeaaQLsS
import Derived.Test.YtcopckbpflmmeaaQLsA
import Derived.Test.YtcopckbpflmmeaaQChnD
import Derived.Test.YtcopckbpflmmeaaQAlmS
import Derived.Test.YtcopckbpflmmeaaQMark
import Derived.Test.YtcopckbpflmmeaaQLst
import Derived.Test.YtcopckbpflmmeaaQDrawW
import Derived.Test.YtcopckbpflmmeaaQApp
import Derived.Deep.RegionHeld3
import Derived.Test.YtcopckbpflmmeaaQLawB
set_option linter.unusedVariables false
namespace Go.Proofs.Ytcopckbpflmmeaa.Sums
open Go.RowKit
open SetP (bs)

def stepU (h : Nat) (c : UInt8) : Nat := ((h ^^^ c.toNat) * 16777619) % 4294967296
def sumAt (s : ByteArray) (k : Nat) : Nat := ((bs s).take k).foldl stepU 2166136261
def sumB (s : ByteArray) : Nat := (bs s).foldl stepU 2166136261
theorem sum_zero (s : ByteArray) : sumAt s 0 = 2166136261 := by simp [sumAt]
theorem sum_all (s : ByteArray) : sumAt s s.size = sumB s := by
  unfold sumAt sumB
  rw [List.take_of_length_le]
  show s.data.toList.length ≤ s.data.size
  simp
theorem fold_up {f : Nat → UInt8 → Nat} {z : Nat} {s : ByteArray} {k : Nat} (h : k < s.size) : ((bs s).take (k + 1)).foldl f z = f (((bs s).take k).foldl f z) s[k] := by
  have hk : k < (bs s).length := by show k < s.data.toList.length; simpa using h
  rw [← List.take_append_getElem hk, List.foldl_append]
  rfl
theorem sum_up {s : ByteArray} {k : Nat} (h : k < s.size) : sumAt s (k + 1) = stepU (sumAt s k) s[k] := fold_up h
theorem step_lt (h : Nat) (c : UInt8) : stepU h c < 4294967296 := Nat.mod_lt _ (by decide)
theorem fold_lt (l : List UInt8) : ∀ h, h < 4294967296 → l.foldl stepU h < 4294967296 := by
  induction l with
  | nil => exact fun h hh => hh
  | cons c l ih => exact fun h _ => ih _ (step_lt h c)
theorem sumAt_lt (s : ByteArray) (k : Nat) : sumAt s k < 4294967296 := fold_lt _ _ (by decide)
theorem sumB_lt (s : ByteArray) : sumB s < 4294967296 := fold_lt _ _ (by decide)
theorem xor_lt {x c : Nat} (hx : x < 4294967296) (hc : c < 256) : x ^^^ c < 4294967296 := Nat.xor_lt_two_pow (n := 32) hx (by omega)
theorem ofInt64 (a : Nat) (h : a < 18446744073709551616) : (BitVec.ofInt 64 (a : Int)).toNat = a := by rw [BitVec.toNat_ofInt]; omega
theorem i64_xor (a b : Nat) (ha : a < 4294967296) (hb : b < 4294967296) : bits .xor .i64 (a : Int) (b : Int) = ((a ^^^ b : Nat) : Int) := by
  have hx : a ^^^ b < 2 ^ 32 := Nat.xor_lt_two_pow (by omega) (by omega)
  show IntKind.i64.wrap ((BitVec.ofInt 64 (a : Int) ^^^ BitVec.ofInt 64 (b : Int)).toNat : Int) = _
  rw [BitVec.toNat_xor, ofInt64 a (by omega), ofInt64 b (by omega), IntKind.wrap_i64]
  omega
theorem i64_and32 (n : Int) : bits .and .i64 n 4294967295 = n % 4294967296 := by
  have h127 : (BitVec.ofInt 64 4294967295).toNat = 2 ^ 32 - 1 := by decide
  have key : (BitVec.ofInt 64 n &&& BitVec.ofInt 64 4294967295).toNat = (n % ((2 ^ 64 : Nat) : Int)).toNat % 2 ^ 32 := by
    rw [BitVec.toNat_and, BitVec.toNat_ofInt, h127, Nat.and_two_pow_sub_one_eq_mod]
  show IntKind.i64.wrap ((BitVec.ofInt 64 n &&& BitVec.ofInt 64 4294967295).toNat : Nat) = n % 4294967296
  rw [key, IntKind.wrap_i64]
  omega
theorem retI {a b : Int} (h : a = b) : Ending.returned (.int .i64 a) = .returned (.int .i64 b) := by rw [h]
theorem i64_of {x y : Int} (h : x = y) : Value.int .i64 x = .int .i64 y := by rw [h]
theorem u32_of {x y : Int} (h : x = y) : Value.int .u32 x = .int .u32 y := by rw [h]

set_option maxHeartbeats 400000 in
theorem specSum_any (s : ByteArray) (w : World) (hs : s.size ≤ maxLen) :
    Calls Try.prog 104 #[.string s] w fun e w' => e = .returned (.int .i64 (sumB s)) ∧ w' = w := by
  unfold maxLen at hs
  go_enter Try.func104, Try.ntmps104
  go_wp2
  go_loop [3, 4] (fun h i => ∃ k : Nat, k ≤ s.size ∧ i = .int .i64 k ∧ h = .int .i64 (sumAt s k)) (fun h i => s.size - (intOf i).toNat)
  case atStart => exact ⟨0, Nat.zero_le _, rfl, by rw [sum_zero]; rfl⟩
  case round =>
    obtain ⟨k, hk, rfl, rfl⟩ := hrel
    by_cases hlt : k < s.size
    · have hlt' : (k : Int) < s.size := by omega
      have hup := sum_up hlt
      have hx0 := sumAt_lt s k
      generalize sumAt s k = x at hup hx0 ⊢
      have hc : s[k].toNat < 256 := s[k].toNat_lt
      unfold stepU at hup
      have hb := i64_xor x s[k].toNat hx0 (by omega)
      have hy0 := xor_lt hx0 hc
      generalize x ^^^ s[k].toNat = y at hup hb hy0
      have ha := i64_and32 ((y : Int) * 16777619)
      have HU : Hid (sumAt s (k + 1) = y * 16777619 % 4294967296) := hup
      clear hup
      go_wp2
      go_round
      case rel => exact ⟨k + 1, by omega, by go_num, i64_of (by rw [HU.out]; omega)⟩
      case measure => simp [intOf]; omega
    · have hge : ¬ (k : Int) < s.size := by omega
      obtain rfl : k = s.size := by omega
      have HE : Hid (sumAt s s.size = sumB s) := sum_all s
      go_wp2
      go_ret
      exact ⟨retI (by rw [HE.out]), rfl⟩

set_option maxHeartbeats 400000 in
theorem implSum_any (s : ByteArray) (w : World) (hs : s.size ≤ maxLen) :
    Calls Try.prog 99 #[.string s] w fun e w' => e = .returned (.int .i64 (sumB s)) ∧ w' = w := by
  unfold maxLen at hs
  go_enter Try.func99, Try.ntmps99
  go_wp2
  go_loop [3, 7] (fun h i => ∃ k : Nat, k ≤ s.size ∧ i = .int .i64 k ∧ h = .int .u32 (sumAt s k)) (fun h i => s.size - (intOf i).toNat)
  case atStart => exact ⟨0, Nat.zero_le _, rfl, by rw [sum_zero]; rfl⟩
  case round =>
    obtain ⟨k, hk, rfl, rfl⟩ := hrel
    by_cases hlt : k < s.size
    · have hlt' : (k : Int) < s.size := by omega
      have hup := sum_up hlt
      have hx0 := sumAt_lt s k
      generalize sumAt s k = x at hup hx0 ⊢
      have hc : s[k].toNat < 256 := s[k].toNat_lt
      unfold stepU at hup
      have hb := u32_xor_nat x s[k].toNat hx0 (by omega)
      have hy0 := xor_lt hx0 hc
      generalize x ^^^ s[k].toNat = y at hup hb hy0
      have HU : Hid (sumAt s (k + 1) = y * 16777619 % 4294967296) := hup
      clear hup
      go_wp2
      go_round
      case rel => exact ⟨k + 1, by omega, by go_num, u32_of (by rw [HU.out]; first | omega | (rw [IntKind.wrap_u32]; omega))⟩
      case measure => simp [intOf]; omega
    · have hge : ¬ (k : Int) < s.size := by omega
      obtain rfl : k = s.size := by omega
      have HE : Hid (sumAt s s.size = sumB s) := sum_all s
      have hx0 := sumAt_lt s s.size
      generalize sumAt s s.size = x at HE hx0 ⊢
      go_wp2
      go_ret
      exact ⟨retI (by have := HE.out; first | omega | (rw [IntKind.wrap_i64]; omega)), rfl⟩

end Go.Proofs.Ytcopckbpflmmeaa.Sums
namespace Go.Proofs.Ytcopckbpflmmeaa.Fing
open Go.RowKit
open Labs LabS LabO SetP TextS TextI Sums
open Over

def foldB (x : Nat) : Nat := (x ^^^ (x / 65536)) % 32
def fingerB (l : List Lab) : Nat := foldB (sumB (setText l))
theorem foldB_lt (x : Nat) : foldB x < 32 := Nat.mod_lt _ (by decide)
theorem finger_lt (l : List Lab) : fingerB l < 32 := foldB_lt _
theorem text_max (l : List Lab) : (setText l).size ≤ maxLen := by have := setText_size l; unfold maxLen; omega

set_option maxHeartbeats 400000 in
theorem specFinger_any (a : Option Addr) (cap : Nat) (l : List Lab) (w : World) (hr : Reads w a l) (hl : l.length ≤ maxLen) (hz : Fits l) :
    Calls Try.prog 60 #[.slice a l.length cap] w fun e w' => e = .returned (.int .i64 (fingerB l)) ∧ Below w.heap.size w w' := by
  have HC : Hid (Calls Try.prog 105 #[.slice a l.length cap] w fun e w' => e = .returned (.string (setText l)) ∧ Below w.heap.size w w') := specText_any a cap l w hr hl hz
  have HT := hidL (text_max l)
  have HF : Hid (fingerB l = foldB (sumB (setText l))) := rfl
  clear hr hl hz
  generalize setText l = t at HC HT HF
  go_enter Try.func60, Try.ntmps60
  go_wp2_with fail
  refine HC.out.mono ?_
  rintro e w1 ⟨rfl, hb⟩
  have HB : Hid (Below w.heap.size w w1) := hb
  clear hb
  go_wp2_with fail
  refine (specSum_any t _ HT.out).mono ?_
  rintro e w2 ⟨rfl, rfl⟩
  have hx0 := sumB_lt t
  generalize sumB t = x at HF hx0 ⊢
  have hq := i64_xor x (x / 65536) hx0 (by omega)
  have hy0 : x ^^^ (x / 65536) < 4294967296 := Nat.xor_lt_two_pow (n := 32) hx0 (by omega)
  unfold foldB at HF
  generalize x ^^^ (x / 65536) = y at HF hq hy0
  have hq' : bits .xor .i64 (x : Int) ((x : Int) / 65536) = (y : Int) := by rw [← hq]; simp
  clear hq
  go_wp2
  go_ret
  exact ⟨retI (by rw [HF.out]; omega), HB.out⟩
set_option maxHeartbeats 400000 in
theorem implFinger_any (a : Option Addr) (cap : Nat) (l : List Lab) (w : World) (hr : Reads w a l) (hl : l.length ≤ maxLen) (hz : Fits l) :
    Calls Try.prog 58 #[.slice a l.length cap] w fun e w' => e = .returned (.int .i64 (fingerB l)) ∧ Below w.heap.size w w' := by
  have HC : Hid (Calls Try.prog 100 #[.slice a l.length cap] w fun e w' => e = .returned (.string (setText l)) ∧ Below w.heap.size w w') := implText_any a cap l w hr hl hz
  have HT := hidL (text_max l)
  have HF : Hid (fingerB l = foldB (sumB (setText l))) := rfl
  clear hr hl hz
  generalize setText l = t at HC HT HF
  go_enter Try.func58, Try.ntmps58
  go_wp2_with fail
  refine HC.out.mono ?_
  rintro e w1 ⟨rfl, hb⟩
  have HB : Hid (Below w.heap.size w w1) := hb
  clear hb
  go_wp2_with fail
  refine (implSum_any t _ HT.out).mono ?_
  rintro e w2 ⟨rfl, rfl⟩
  have hx0 := sumB_lt t
  generalize sumB t = x at HF hx0 ⊢
  have hq := i64_xor x (x / 65536) hx0 (by omega)
  have hy0 : x ^^^ (x / 65536) < 4294967296 := Nat.xor_lt_two_pow (n := 32) hx0 (by omega)
  unfold foldB at HF
  generalize x ^^^ (x / 65536) = y at HF hq hy0
  have hq' : bits .xor .i64 (x : Int) ((x : Int) / 65536) = (y : Int) := by rw [← hq]; simp
  clear hq
  go_wp2
  go_ret
  exact ⟨retI (by rw [HF.out]; omega), HB.out⟩

theorem retB {a b : Bool} (h : a = b) : Ending.returned (.bool a) = .returned (.bool b) := by rw [h]
end Go.Proofs.Ytcopckbpflmmeaa.Fing
namespace Go.Proofs.Ytcopckbpflmmeaa.ChnO
open Go.RowKit
open Labs LabS Alms AlmS Over Blk Rnd Plc Lop App Rws ChnI
open Fing (fingerB)
open StrB (retB)
attribute [local go_sem] Oper.semAt_some

def okC (f : Int) (P : List PAl) (i : Nat) : Bool := alarmB (nthP P i).l (nthP P i).s (nthP P i).e (nthP P i).n && (decide ((fingerB (nthP P i).l : Int) = f) && decide (idxB P (nthP P i).l = (i : Int)))
def chainB (f : Int) (P : List PAl) : Bool := (List.range P.length).all (okC f P) && decide (0 < P.length)
theorem okC_1 {f : Int} {P : List PAl} {i : Nat} (h : alarmB (nthP P i).l (nthP P i).s (nthP P i).e (nthP P i).n = false) : okC f P i = false := by simp [okC, h]
theorem okC_2 {f : Int} {P : List PAl} {i : Nat} (h : (fingerB (nthP P i).l : Int) ≠ f) : okC f P i = false := by simp [okC, h]
theorem okC_3 {f : Int} {P : List PAl} {i : Nat} (h : idxB P (nthP P i).l ≠ (i : Int)) : okC f P i = false := by simp [okC, h]
theorem okC_y {f : Int} {P : List PAl} {i : Nat} (h1 : alarmB (nthP P i).l (nthP P i).s (nthP P i).e (nthP P i).n = true) (h2 : (fingerB (nthP P i).l : Int) = f) (h3 : idxB P (nthP P i).l = (i : Int)) : okC f P i = true := by simp [okC, h1, h2, h3]
theorem chain_bad {f : Int} {P : List PAl} {i : Nat} (hi : i < P.length) (h : okC f P i = false) : chainB f P = false := by
  unfold chainB
  rw [Bool.and_eq_false_iff]
  left
  rw [List.all_eq_false]
  exact ⟨i, by simpa using hi, by simp [h]⟩
theorem chain_good {f : Int} {P : List PAl} (h : ∀ i, i < P.length → okC f P i = true) : chainB f P = decide (0 < P.length) := by
  unfold chainB
  rw [List.all_eq_true.2 (fun i hi => h i (by simpa using hi))]; rfl

set_option maxRecDepth 100000 in
set_option maxHeartbeats 8000000 in
theorem implChain_any (f : Int) (a : Option Addr) (cap : Nat) (P : List PAl) (w : World) (hr : RdA w a P) (hl : P.length ≤ 1048576) (hs : FitsP P) :
    Calls Try.prog 17 #[.agg #[.int .i64 f, .slice a P.length cap]] w fun e w' => e = .returned (.bool (chainB f P)) ∧ Below w.heap.size w w' := by
  obtain ⟨b, off, ad, cp, ha, hat⟩ := pick hr
  have HA : Hid (∀ i, i < P.length → At w b off i (nthP P i) (ad i) (cp i)) := hat
  have HR : Hid (RdA w a P) := hr
  have HF : Hid (FitsP P) := hs
  have HAB : Hid (P = [] ∨ (a = some ⟨b, off, none⟩ ∧ b < w.heap.size)) := ha
  clear hr hat hs ha
  refine (callsIn_wide (n := 2)).1 ?_
  refine callsIn_of_wp_marks Try.func17 rfl trivial ?_ rfl
  simp only [Try.ntmps17, List.size_toArray, List.length_cons, List.length_nil, Nat.reduceAdd, Nat.reduceSub, Array.replicate_succ, Array.replicate_zero, List.push_toArray, List.append_toArray, List.nil_append, List.cons_append]
  refine wpIn_wide.2 ?_
  go_wp2_with fail
  refine (places_any f a P.length cap _).mono ?_
  rintro e w1 ⟨rfl, rfl⟩
  go_wp2_with fail
  have hsz : (((w.alloc (.cells #[.int .i64 f, .slice a P.length cap] 26)).alloc (.cells #[.bool false] 4)).alloc (.cells #[.int .i64 f, .slice a P.length cap] 26)).heap.size = w.heap.size + 3 := by simp
  have hW1 : Blk (((w.alloc (.cells #[.int .i64 f, .slice a P.length cap] 26)).alloc (.cells #[.bool false] 4)).alloc (.cells #[.int .i64 f, .slice a P.length cap] 26)) w.heap.size #[.int .i64 f, .slice a P.length cap] 26 := ((Blk.new _ _ _).alloc _).alloc _
  have hW2 : Blk (((w.alloc (.cells #[.int .i64 f, .slice a P.length cap] 26)).alloc (.cells #[.bool false] 4)).alloc (.cells #[.int .i64 f, .slice a P.length cap] 26)) (w.heap.size + 1) #[.bool false] 4 := (Blk.new_at (by simp)).alloc _
  have hW3 : Blk (((w.alloc (.cells #[.int .i64 f, .slice a P.length cap] 26)).alloc (.cells #[.bool false] 4)).alloc (.cells #[.int .i64 f, .slice a P.length cap] 26)) (w.heap.size + 1 + 1) #[.int .i64 f, .slice a P.length cap] 26 := Blk.new_at (by simp)
  have hB0 : Below w.heap.size w (((w.alloc (.cells #[.int .i64 f, .slice a P.length cap] 26)).alloc (.cells #[.bool false] 4)).alloc (.cells #[.int .i64 f, .slice a P.length cap] 26)) := Alm.below3 w _ _ _
  generalize (((w.alloc (.cells #[.int .i64 f, .slice a P.length cap] 26)).alloc (.cells #[.bool false] 4)).alloc (.cells #[.int .i64 f, .slice a P.length cap] 26)) = W0 at *
  refine loop_places (B := w.heap.size + 1 + 1) (n₀ := w.heap.size) (P := P) (s := a) (cap := cap) (b := b) (off := off) (ad := ad) (cp := cp) rfl rfl (by omega) (by omega) (hW3.cell 1) hl HAB.out (fun i hi => (HA.out i hi).below hB0 (by
      rcases HAB.out with e | h
      · rw [e] at hi; simp at hi
      · exact h.2))
    (fun pre W => (∀ x ∈ pre, okC f P x.1 = true) ∧ Blk W w.heap.size #[.int .i64 f, .slice a P.length cap] 26 ∧ Blk W (w.heap.size + 1) #[.bool false] 4 ∧ Below w.heap.size w W ∧ W0.heap.size ≤ W.heap.size)
    (fun pre W => ∃ ini last, pre = ini ++ [last] ∧ okC f P last.1 = false ∧ Blk W (w.heap.size + 1) #[.bool false] 4 ∧ Below w.heap.size w W)
    (fun pre W W' h ht => ⟨h.1, ht.blk h.2.1, ht.blk h.2.2.1, ht.below (Nat.le_refl _) (by omega) h.2.2.2.1, Nat.le_trans h.2.2.2.2 ht.size⟩)
    (fun pre W W' h ht => by
      obtain ⟨ini, last, h1, h3, h4, h5⟩ := h
      exact ⟨ini, last, h1, h3, ht.blk h4, ht.below (Nat.le_refl _) (by omega) h5⟩)
    (fun pre W h => h.2.2.2.2) ⟨fun x hx => by simp at hx, hW1, hW2, hB0, Nat.le_refl _⟩
    (fun x N => { tmps := #[.agg #[.int .i64 f, .slice a P.length cap], .pointer (some ⟨w.heap.size, 0, none⟩), .pointer (some ⟨w.heap.size + 1, 0, none⟩), .int .i64 (x.1 : Int), .pointer (some ⟨N, 0, none⟩), .agg #[.int .i64 f, .slice a P.length cap], .func (.func 95) #[] #[.pointer (some ⟨w.heap.size + 1 + 1, 0, none⟩)], .int .i64 (x.1 : Int), .agg #[.slice (ad x.1) (nthP P x.1).l.length (cp x.1), .int .i64 (nthP P x.1).s, .int .i64 (nthP P x.1).e, .string (nthP P x.1).n], undef, undef, undef, undef, undef, undef, undef, undef, undef, undef, undef, undef, undef, undef, undef, undef, undef, undef, undef, undef, undef, undef, undef], defers := [] }) ?assign ?body ?done ?stop
  case assign =>
    intro l x W K hK
    dsimp only [enc]
    gi_wp2
    exact hK
  case body =>
    rintro l pre x N W hN hx ⟨hp, h1, h2, hB, hz⟩ hlt
    have HP : Hid (∀ x ∈ pre, okC f P x.1 = true) := hp
    have H1 : Hid (Blk W w.heap.size #[.int .i64 f, .slice a P.length cap] 26) := h1
    have H2 : Hid (Blk W (w.heap.size + 1) #[.bool false] 4) := h2
    have HB : Hid (Below w.heap.size w W ∧ W0.heap.size ≤ W.heap.size) := ⟨hB, hz⟩
    have hne := Grown.some W
    have x0 : ∀ q : Grown W, q.out.cell? ⟨N, 0, none⟩ = some (.slice (ad x.1) (nthP P x.1).l.length (cp x.1)) := fun q => q.cell hx.lt (hx.cell 0)
    have x1 : ∀ q : Grown W, q.out.cell? ⟨N, 1, none⟩ = some (.int .i64 (nthP P x.1).s) := fun q => q.cell hx.lt (hx.cell 1)
    have x2 : ∀ q : Grown W, q.out.cell? ⟨N, 2, none⟩ = some (.int .i64 (nthP P x.1).e) := fun q => q.cell hx.lt (hx.cell 2)
    have x3 : ∀ q : Grown W, q.out.cell? ⟨N, 3, none⟩ = some (.string (nthP P x.1).n) := fun q => q.cell hx.lt (hx.cell 3)
    have y0 : ∀ q : Grown W, q.out.cell? ⟨w.heap.size, 0, none⟩ = some (.int .i64 f) := fun q => q.cell h1.lt (h1.cell 0)
    have y1 : ∀ q : Grown W, q.out.cell? ⟨w.heap.size, 1, none⟩ = some (.slice a P.length cap) := fun q => q.cell h1.lt (h1.cell 1)
    have hat := (HA.out x.1 x.2).reads.below hB
    have HC1 : ∀ q : Grown W, Hid (Calls Try.prog 57 #[.agg #[.slice (ad x.1) (nthP P x.1).l.length (cp x.1), .int .i64 (nthP P x.1).s, .int .i64 (nthP P x.1).e, .string (nthP P x.1).n]] q.out fun e w' => e = .returned (.bool (alarmB (nthP P x.1).l (nthP P x.1).s (nthP P x.1).e (nthP P x.1).n)) ∧ Below q.out.heap.size q.out w') := fun q => implAlarm_any _ _ _ _ _ _ _ ((HF.out x.1 x.2).al (hat.below q.bel))
    have HC2 : ∀ q : Grown W, Hid (Calls Try.prog 58 #[.slice (ad x.1) (nthP P x.1).l.length (cp x.1)] q.out fun e w' => e = .returned (.int .i64 (fingerB (nthP P x.1).l)) ∧ Below q.out.heap.size q.out w') := fun q => Fing.implFinger_any _ _ _ _ (hat.below q.bel) (HF.out x.1 x.2).len (HF.out x.1 x.2).fits
    have HC3 : ∀ q : Grown W, Hid (Calls Try.prog 21 #[.agg #[.int .i64 f, .slice a P.length cap], .slice (ad x.1) (nthP P x.1).l.length (cp x.1)] q.out fun e w' => e = .returned (.int .i64 (idxB P (nthP P x.1).l)) ∧ Below q.out.heap.size q.out w') := fun q => implIn_any f a _ cap _ P _ _ (HR.out.below (grow_on hB q.bel)) (hat.below q.bel) hl (fun i hi => (HF.out i hi).len) (HF.out x.1 x.2).len
    clear hp hx h1 h2 hB hz hat
    cases hA : alarmB (nthP P x.1).l (nthP P x.1).s (nthP P x.1).e (nthP P x.1).n with
    | false =>
      have HE : Hid (okC f P x.1 = false) := okC_1 hA
      rw [hA] at HC1
      clear hA
      gi_wp2
      refine over_in (z := W) (by kernel_rfl) (by kernel_rfl) (by kernel_rfl) (fun h => by obtain ⟨_, _, h⟩ := h; exact h) (Below.refl _ _) ?_
      repeat (go_big_quiet_step (first | (go_at_call 57; exact call_over (HC1 _).out) | (go_at_call 58; exact call_over (HC2 _).out) | (go_at_call 21; exact call_over (HC3 _).out)))
      refine wpQuiet_nil ?_
      intro w2 hw2
      have hb2 := over_bel hw2
      have HB2 : Hid (Below W.heap.size W w2) := hb2
      clear hw2 hne HC1 HC2 HC3 x0 x1 x2 x3 y0 y1
      have h2 := H2.out.grow hb2
      have c2 := h2.frozen 0
      have c3 : w2.cell? ⟨w.heap.size + 1, 0, none⟩ = some (.bool false) := h2.cell 0
      clear hb2 h2
      gi_wp2
      exact ⟨(keeps_of HB2.out).trans ((KeepsOthers.setCell _ _ _).from _), rfl, pre, x, rfl, HE.out, (H2.out.grow HB2.out).set 0 _, set_low (grow_on HB.out.1 HB2.out) (by omega) _ _⟩
    | true =>
      rw [hA] at HC1
      by_cases hF : (fingerB (nthP P x.1).l : Int) = f
      · by_cases hI : idxB P (nthP P x.1).l = (x.1 : Int)
        · have HE : Hid (okC f P x.1 = true) := okC_y hA hF hI
          clear hA
          gi_wp2
          refine over_in (z := W) (by kernel_rfl) (by kernel_rfl) (by kernel_rfl) (fun h => by obtain ⟨_, _, h⟩ := h; exact h) (Below.refl _ _) ?_
          repeat (go_big_quiet_step (first | (go_at_call 57; exact call_over (HC1 _).out) | (go_at_call 58; exact call_over (HC2 _).out) | (go_at_call 21; exact call_over (HC3 _).out)))
          refine wpQuiet_nil ?_
          intro w2 hw2
          have hb2 := over_bel hw2
          have HB2 : Hid (Below W.heap.size W w2) := hb2
          clear hw2 hne HC1 HC2 HC3 x0 x1 x2 x3 y0 y1
          clear hb2
          gi_wp2
          exact ⟨keeps_of HB2.out, HB2.out.mono HB.out.1.size, fun y hy => (List.mem_append.1 hy).elim (HP.out y) (fun e => by rw [List.mem_singleton.1 e]; exact HE.out), H1.out.grow HB2.out, H2.out.grow HB2.out, grow_on HB.out.1 HB2.out, Nat.le_trans HB.out.2 HB2.out.size⟩
        · have HE : Hid (okC f P x.1 = false) := okC_3 hI
          clear hA
          gi_wp2
          refine over_in (z := W) (by kernel_rfl) (by kernel_rfl) (by kernel_rfl) (fun h => by obtain ⟨_, _, h⟩ := h; exact h) (Below.refl _ _) ?_
          repeat (go_big_quiet_step (first | (go_at_call 57; exact call_over (HC1 _).out) | (go_at_call 58; exact call_over (HC2 _).out) | (go_at_call 21; exact call_over (HC3 _).out)))
          refine wpQuiet_nil ?_
          intro w2 hw2
          have hb2 := over_bel hw2
          have HB2 : Hid (Below W.heap.size W w2) := hb2
          clear hw2 hne HC1 HC2 HC3 x0 x1 x2 x3 y0 y1
          have h2 := H2.out.grow hb2
          have c2 := h2.frozen 0
          have c3 : w2.cell? ⟨w.heap.size + 1, 0, none⟩ = some (.bool false) := h2.cell 0
          clear hb2 h2
          gi_wp2
          exact ⟨(keeps_of HB2.out).trans ((KeepsOthers.setCell _ _ _).from _), rfl, pre, x, rfl, HE.out, (H2.out.grow HB2.out).set 0 _, set_low (grow_on HB.out.1 HB2.out) (by omega) _ _⟩
      · have HE : Hid (okC f P x.1 = false) := okC_2 hF
        have hF1 : ((fingerB (nthP P x.1).l : Int) != f) = true := bne_iff_ne.2 hF
        clear hA
        gi_wp2
        refine over_in (z := W) (by kernel_rfl) (by kernel_rfl) (by kernel_rfl) (fun h => by obtain ⟨_, _, h⟩ := h; exact h) (Below.refl _ _) ?_
        repeat (go_big_quiet_step (first | (go_at_call 57; exact call_over (HC1 _).out) | (go_at_call 58; exact call_over (HC2 _).out) | (go_at_call 21; exact call_over (HC3 _).out)))
        refine wpQuiet_nil ?_
        intro w2 hw2
        have hb2 := over_bel hw2
        have HB2 : Hid (Below W.heap.size W w2) := hb2
        clear hw2 hne HC1 HC2 HC3 x0 x1 x2 x3 y0 y1
        have h2 := H2.out.grow hb2
        have c2 := h2.frozen 0
        have c3 : w2.cell? ⟨w.heap.size + 1, 0, none⟩ = some (.bool false) := h2.cell 0
        clear hb2 h2
        gi_wp2
        exact ⟨(keeps_of HB2.out).trans ((KeepsOthers.setCell _ _ _).from _), rfl, pre, x, rfl, HE.out, (H2.out.grow HB2.out).set 0 _, set_low (grow_on HB.out.1 HB2.out) (by omega) _ _⟩
  case done =>
    rintro D xs W hD hlen hg ⟨hp, h1, h2, hB, hz⟩ hK
    have c2 := h2.frozen 0
    have c3 : W.cell? ⟨w.heap.size + 1, 0, none⟩ = some (.bool false) := h2.cell 0
    have c1 : W.cell? ⟨w.heap.size, 1, none⟩ = some (.slice a P.length cap) := h1.cell 1
    have HM : Hid (chainB f P = decide (0 < P.length)) := chain_good fun j hj => by
      obtain ⟨x, hx, e⟩ := good_has hg (i := j) (by rw [hlen]; exact hj)
      rw [← e]; exact hp x hx
    go_wp2
    have hK' : (W.setCell ⟨w.heap.size + 1, 0, none⟩ (.bool (decide (0 < P.length)))).heap[D]? = some (.deferred (some [])) := (Below.heap_setCell _ _ _ _ (by show D ≠ w.heap.size + 1; omega)).trans hK
    have ht := turn_shut (o := .deferred none) hK' hD
    have hR : ((W.setCell ⟨w.heap.size + 1, 0, none⟩ (.bool (decide (0 < P.length)))).putObj D (.deferred none)).cell? ⟨w.heap.size + 1, 0, none⟩ = some (.bool (decide (0 < P.length))) := (ht.blk (h2.set 0 (.bool (decide (0 < P.length))))).cell 0
    refine ⟨by simp, .inl ⟨_, _, rfl, run_takeDeferred hK', ?_⟩⟩
    refine ⟨.bool (decide (0 < P.length)), ?_, retB HM.out.symm, ht.below (Nat.le_refl _) (by omega) (set_low hB (by omega) _ _)⟩
    simp [results, Try.results17, go_sem, hR]
  case stop =>
    rintro D pre W hD hg ⟨ini, last, rfl, he, h2, hB⟩ hK
    have HM : Hid (chainB f P = false) := chain_bad last.2 he
    go_wp2
    have ht := turn_shut (o := .deferred none) hK hD
    have hR : (W.putObj D (.deferred none)).cell? ⟨w.heap.size + 1, 0, none⟩ = some (.bool false) := (ht.blk h2).cell 0
    refine ⟨by simp, .inl ⟨_, _, rfl, run_takeDeferred hK, ?_⟩⟩
    refine ⟨.bool false, ?_, retB HM.out.symm, ht.below (Nat.le_refl _) (by omega) hB⟩
    simp [results, Try.results17, go_sem, hR]
end Go.Proofs.Ytcopckbpflmmeaa.ChnO
namespace Go.Proofs.Ytcopckbpflmmeaa.ChnS
open Go.RowKit
open Labs LabS Alms AlmS Over Blk Rws ChnI ChnO
open Fing (fingerB)
open StrB (retB)
open Alm (at_par)

set_option maxHeartbeats 1600000 in
theorem specIn_any (f : Int) (a a' : Option Addr) (cap cap' : Nat) (P : List PAl) (q : List Lab) (w : World) (hr : RdA w a P) (hr' : Reads w a' q) (hl : P.length ≤ 1048576) (hs : LenP P) (hq : q.length ≤ maxLen) :
    Calls Try.prog 22 #[.agg #[.int .i64 f, .slice a P.length cap], .slice a' q.length cap'] w fun e w' => e = .returned (.int .i64 (idxB P q)) ∧ Below w.heap.size w w' := by
  have HR : Hid (RdA w a P ∧ Reads w a' q ∧ LenP P ∧ q.length ≤ maxLen) := ⟨hr, hr', hs, hq⟩
  clear hr hr' hs hq
  go_enter Try.func22, Try.ntmps22
  go_wp2
  go_loopw [5] (fun i w' => ∃ k : Nat, i = .int .i64 k ∧ k ≤ P.length ∧ (∀ j, j < k → (nthP P j).l ≠ q) ∧ Below (w.alloc (.cells #[.int .i64 f, .slice a P.length cap] 26)).heap.size (w.alloc (.cells #[.int .i64 f, .slice a P.length cap] 26)) w') (fun i _ => P.length - (intOf i).toNat)
  case atStart => exact ⟨0, rfl, Nat.zero_le _, fun j h => by omega, Below.refl _ _⟩
  case round =>
    obtain ⟨k, rfl, hk, hu, hw⟩ := hrel
    have HU : Hid (∀ j, j < k → (nthP P j).l ≠ q) := hu
    have c1 : wr.cell? ⟨w.heap.size, 1, none⟩ = some (.slice a P.length cap) := at_par hw 1 rfl
    have HB0 : Hid (Below (w.alloc (.cells #[.int .i64 f, .slice a P.length cap] 26)).heap.size (w.alloc (.cells #[.int .i64 f, .slice a P.length cap] 26)) wr) := hw
    have HB : Hid (Below w.heap.size w wr) := grow_on (Go.Joins.below_alloc1 w _) hw
    clear hu hw
    by_cases hlt : k < P.length
    · have hlt' : (k : Int) < (P.length : Int) := by omega
      obtain ⟨b, off, rfl, hb, ad, cp, hat⟩ := (HR.out.1.below HB.out).get hlt
      have h2 := hat.c0
      have HC1 : Hid (Calls Try.prog 61 #[.slice ad (nthP P k).l.length cp, .slice a' q.length cap'] wr fun e w' => e = .returned (.bool (decide ((nthP P k).l = q))) ∧ Below wr.heap.size wr w') := calls_drew (specSame_any _ _ _ _ _ _ wr hat.reads (HR.out.2.1.below HB.out) (HR.out.2.2.1 k hlt) HR.out.2.2.2)
      clear hat
      by_cases he : (nthP P k).l = q
      · have HY : Hid (idxB P q = (k : Int)) := idx_hit HU.out he hlt
        have hd : decide ((nthP P k).l = q) = true := decide_eq_true he
        clear he
        go_wp2_with fail
        refine HC1.out.mono ?_
        rintro e w1 ⟨rfl, hb1⟩
        have HB1 : Hid (Below w.heap.size w w1) := grow_on HB.out hb1
        clear hb1
        go_wp2
        go_ret
        exact ⟨ChnI.retI HY.out.symm, HB1.out⟩
      · have HU1 : Hid (∀ j, j < k + 1 → (nthP P j).l ≠ q) := fun j hj => by
          by_cases e : j = k
          · subst e; exact he
          · exact HU.out j (by omega)
        have hd : decide ((nthP P k).l = q) = false := decide_eq_false he
        clear he
        go_wp2_with fail
        refine HC1.out.mono ?_
        rintro e w1 ⟨rfl, hb1⟩
        have HB1 : Hid (Below (w.alloc (.cells #[.int .i64 f, .slice (some ⟨b, off, none⟩) P.length cap] 26)).heap.size (w.alloc (.cells #[.int .i64 f, .slice (some ⟨b, off, none⟩) P.length cap] 26)) w1) := grow_on HB0.out hb1
        clear hb1 c1 h2
        go_wp2
        go_roundw
        case rel => exact ⟨k + 1, by go_num, by omega, HU1.out, HB1.out⟩
        case measure => simp [intOf]; omega
    · have hge : ¬ (k : Int) < (P.length : Int) := by omega
      have HN : Hid (idxB P q = -1) := idx_miss fun j hj => HU.out j (by omega)
      go_wp2
      go_ret
      exact ⟨ChnI.retI HN.out.symm, HB.out⟩

theorem ok_first {f : Int} {P : List PAl} {i : Nat} (hi : i < P.length) (h1 : alarmB (nthP P i).l (nthP P i).s (nthP P i).e (nthP P i).n = true) (h2 : (fingerB (nthP P i).l : Int) = f) (h3 : ∀ j, j < i → (nthP P j).l ≠ (nthP P i).l) : okC f P i = true := okC_y h1 h2 (idx_hit h3 rfl hi)
theorem ok_again {f : Int} {P : List PAl} {i j : Nat} (hj : j < i) (h : (nthP P j).l = (nthP P i).l) : okC f P i = false := by
  refine okC_3 fun e => ?_
  rcases idx_cases P (nthP P i).l with ⟨q, hm⟩ | ⟨k, q, hk, he, hm⟩
  · rw [q] at e; omega
  · rw [q] at e
    have : k = i := by omega
    subst this
    exact hm j hj h
set_option maxRecDepth 100000 in
set_option maxHeartbeats 4000000 in
theorem specChain_any (f : Int) (a : Option Addr) (cap : Nat) (P : List PAl) (w : World) (hr : RdA w a P) (hl : P.length ≤ 1048576) (hs : FitsP P) :
    Calls Try.prog 18 #[.agg #[.int .i64 f, .slice a P.length cap]] w fun e w' => e = .returned (.bool (chainB f P)) ∧ Below w.heap.size w w' := by
  have HR : Hid (RdA w a P) := hr
  have HF : Hid (FitsP P) := hs
  clear hr hs
  go_enter Try.func18, Try.ntmps18
  go_wp2
  go_loopw [3] (fun i w' => ∃ k : Nat, i = .int .i64 k ∧ k ≤ P.length ∧ (∀ j, j < k → okC f P j = true) ∧ Below (w.alloc (.cells #[.int .i64 f, .slice a P.length cap] 26)).heap.size (w.alloc (.cells #[.int .i64 f, .slice a P.length cap] 26)) w') (fun i _ => P.length - (intOf i).toNat)
  case atStart => exact ⟨0, rfl, Nat.zero_le _, fun j h => by omega, Below.refl _ _⟩
  case round =>
    obtain ⟨k, rfl, hk, hu, hw⟩ := hrel
    have HU : Hid (∀ j, j < k → okC f P j = true) := hu
    have c0 : wr.cell? ⟨w.heap.size, 0, none⟩ = some (.int .i64 f) := at_par hw 0 rfl
    have c1 : wr.cell? ⟨w.heap.size, 1, none⟩ = some (.slice a P.length cap) := at_par hw 1 rfl
    have HB0 : Hid (Below (w.alloc (.cells #[.int .i64 f, .slice a P.length cap] 26)).heap.size (w.alloc (.cells #[.int .i64 f, .slice a P.length cap] 26)) wr) := hw
    have HB : Hid (Below w.heap.size w wr) := grow_on (Go.Joins.below_alloc1 w _) hw
    have hlt0 : w.heap.size < wr.heap.size := by have := hw.size; simp at this; omega
    clear hu hw
    by_cases hlt : k < P.length
    · have hlt' : (k : Int) < (P.length : Int) := by omega
      obtain ⟨b, off, rfl, hb, ad, cp, hat⟩ := (HR.out.below HB.out).get hlt
      have hne := Grown.some wr
      have x0 : ∀ q : Grown wr, q.out.cell? ⟨b, off + k * 4, none⟩ = some (.slice ad (nthP P k).l.length cp) := fun q => q.cell hb hat.c0
      have x1 : ∀ q : Grown wr, q.out.cell? ⟨b, off + k * 4 + 1, none⟩ = some (.int .i64 (nthP P k).s) := fun q => q.cell hb hat.c1
      have x2 : ∀ q : Grown wr, q.out.cell? ⟨b, off + k * 4 + 2, none⟩ = some (.int .i64 (nthP P k).e) := fun q => q.cell hb hat.c2
      have x3 : ∀ q : Grown wr, q.out.cell? ⟨b, off + k * 4 + 3, none⟩ = some (.string (nthP P k).n) := fun q => q.cell hb hat.c3
      have y0 : ∀ q : Grown wr, q.out.cell? ⟨w.heap.size, 0, none⟩ = some (.int .i64 f) := fun q => q.cell hlt0 c0
      have y1 : ∀ q : Grown wr, q.out.cell? ⟨w.heap.size, 1, none⟩ = some (.slice (some ⟨b, off, none⟩) P.length cap) := fun q => q.cell hlt0 c1
      have HC1 : ∀ q : Grown wr, Hid (Calls Try.prog 59 #[.agg #[.slice ad (nthP P k).l.length cp, .int .i64 (nthP P k).s, .int .i64 (nthP P k).e, .string (nthP P k).n]] q.out fun e w' => e = .returned (.bool (alarmB (nthP P k).l (nthP P k).s (nthP P k).e (nthP P k).n)) ∧ Below q.out.heap.size q.out w') := fun q => specAlarm_any _ _ _ _ _ _ _ ((HF.out k hlt).al (hat.reads.below q.bel))
      have HC2 : ∀ q : Grown wr, Hid (Calls Try.prog 60 #[.slice ad (nthP P k).l.length cp] q.out fun e w' => e = .returned (.int .i64 (fingerB (nthP P k).l)) ∧ Below q.out.heap.size q.out w') := fun q => Fing.specFinger_any _ _ _ _ (hat.reads.below q.bel) (HF.out k hlt).len (HF.out k hlt).fits
      clear hat c0
      cases hA : alarmB (nthP P k).l (nthP P k).s (nthP P k).e (nthP P k).n with
      | false =>
        have HE : Hid (chainB f P = false) := chain_bad hlt (okC_1 hA)
        rw [hA] at HC1
        clear hA
        go_wp2
        refine wp_over (z := wr) (by kernel_rfl) (by kernel_rfl) (Below.refl _ _) ?_
        repeat (go_big_quiet_step (first | (go_at_call 59; exact call_over (HC1 _).out) | (go_at_call 60; exact call_over (HC2 _).out)))
        refine wpQuiet_nil ?_
        intro w2 hw2
        have hb2 := over_bel hw2
        have HB2 : Hid (Below wr.heap.size wr w2) := hb2
        clear hw2 hne HC1 HC2 x0 x1 x2 x3 y0 y1
        clear hb2
        go_wp2
        go_ret
        exact ⟨retB HE.out.symm, grow_on HB.out HB2.out⟩
      | true =>
        rw [hA] at HC1
        by_cases hF : (fingerB (nthP P k).l : Int) = f
        · have HA2 : Hid (alarmB (nthP P k).l (nthP P k).s (nthP P k).e (nthP P k).n = true ∧ (fingerB (nthP P k).l : Int) = f) := ⟨hA, hF⟩
          clear hA
          go_wp2
          refine wp_over (z := wr) (by kernel_rfl) (by kernel_rfl) (Below.refl _ _) ?_
          repeat (go_big_quiet_step (first | (go_at_call 59; exact call_over (HC1 _).out) | (go_at_call 60; exact call_over (HC2 _).out)))
          refine wpQuiet_nil ?_
          intro w2 hw2
          have hb2 := over_bel hw2
          have HB2 : Hid (Below wr.heap.size wr w2) := hb2
          clear hw2 hne HC1 HC2 x0 x1 x2 x3 y0 y1
          have HW : Hid (Below (w.alloc (.cells #[.int .i64 f, .slice (some ⟨b, off, none⟩) P.length cap] 26)).heap.size (w.alloc (.cells #[.int .i64 f, .slice (some ⟨b, off, none⟩) P.length cap] 26)) w2) := grow_on HB0.out hb2
          clear hb2 c1 hF HB0 HB HB2
          go_wp2
          go_loopw [4] (fun i w' => ∃ m : Nat, i = .int .i64 m ∧ m ≤ k ∧ (∀ j, j < m → (nthP P j).l ≠ (nthP P k).l) ∧ Below (w.alloc (.cells #[.int .i64 f, .slice (some ⟨b, off, none⟩) P.length cap] 26)).heap.size (w.alloc (.cells #[.int .i64 f, .slice (some ⟨b, off, none⟩) P.length cap] 26)) w') (fun i _ => k - (intOf i).toNat)
          case atStart => exact ⟨0, rfl, Nat.zero_le _, fun j h => by omega, HW.out⟩
          case round =>
            obtain ⟨m, rfl, hm, hv, hw⟩ := hrel
            have HV : Hid (∀ j, j < m → (nthP P j).l ≠ (nthP P k).l) := hv
            have c1 : wr.cell? ⟨w.heap.size, 1, none⟩ = some (.slice (some ⟨b, off, none⟩) P.length cap) := at_par hw 1 rfl
            have HB0 : Hid (Below (w.alloc (.cells #[.int .i64 f, .slice (some ⟨b, off, none⟩) P.length cap] 26)).heap.size (w.alloc (.cells #[.int .i64 f, .slice (some ⟨b, off, none⟩) P.length cap] 26)) wr) := hw
            have HB : Hid (Below w.heap.size w wr) := grow_on (Go.Joins.below_alloc1 w _) hw
            have hlt1 : w.heap.size < wr.heap.size := by have := hw.size; simp at this; omega
            clear hv hw
            by_cases hmk : m < k
            · have hmk' : (m : Int) < (k : Int) := by omega
              have hml : (m : Int) < (P.length : Int) := by omega
              have hmP : m < P.length := by omega
              obtain ⟨b1, off1, e1, hb1, ad1, cp1, hat1⟩ := (HR.out.below HB.out).get hmP
              obtain ⟨b2, off2, e2, hb2, ad2, cp2, hat2⟩ := (HR.out.below HB.out).get hlt
              cases e1
              cases e2
              have hne := Grown.some wr
              have x0 : ∀ q : Grown wr, q.out.cell? ⟨b, off + m * 4, none⟩ = some (.slice ad1 (nthP P m).l.length cp1) := fun q => q.cell hb1 hat1.c0
              have x1 : ∀ q : Grown wr, q.out.cell? ⟨b, off + k * 4, none⟩ = some (.slice ad2 (nthP P k).l.length cp2) := fun q => q.cell hb2 hat2.c0
              have y1 : ∀ q : Grown wr, q.out.cell? ⟨w.heap.size, 1, none⟩ = some (.slice (some ⟨b, off, none⟩) P.length cap) := fun q => q.cell hlt1 c1
              have HC1 : ∀ q : Grown wr, Hid (Calls Try.prog 61 #[.slice ad1 (nthP P m).l.length cp1, .slice ad2 (nthP P k).l.length cp2] q.out fun e w' => e = .returned (.bool (decide ((nthP P m).l = (nthP P k).l))) ∧ Below q.out.heap.size q.out w') := fun q => calls_drew (specSame_any _ _ _ _ _ _ _ (hat1.reads.below q.bel) (hat2.reads.below q.bel) (HF.out m hmP).len (HF.out k hlt).len)
              clear hat1 hat2
              by_cases he : (nthP P m).l = (nthP P k).l
              · have hd : decide ((nthP P m).l = (nthP P k).l) = true := decide_eq_true he
                have HE : Hid (chainB f P = false) := chain_bad hlt (ok_again hmk he)
                rw [hd] at HC1
                clear hd he
                go_wp2
                refine wp_over (z := wr) (by kernel_rfl) (by kernel_rfl) (Below.refl _ _) ?_
                repeat (go_big_quiet_step (first | (go_at_call 61; exact call_over (HC1 _).out)))
                refine wpQuiet_nil ?_
                intro w3 hw3
                have HB3 : Hid (Below w.heap.size w w3) := grow_on HB.out (over_bel hw3)
                clear hw3 hne HC1 x0 x1 y1 c1
                go_wp2
                go_ret
                exact ⟨retB HE.out.symm, HB3.out⟩
              · have hd : decide ((nthP P m).l = (nthP P k).l) = false := decide_eq_false he
                have HV1 : Hid (∀ j, j < m + 1 → (nthP P j).l ≠ (nthP P k).l) := fun j hj => by
                  by_cases e : j = m
                  · subst e; exact he
                  · exact HV.out j (by omega)
                rw [hd] at HC1
                clear hd he
                go_wp2
                refine wp_over (z := wr) (by kernel_rfl) (by kernel_rfl) (Below.refl _ _) ?_
                repeat (go_big_quiet_step (first | (go_at_call 61; exact call_over (HC1 _).out)))
                refine wpQuiet_nil ?_
                intro w3 hw3
                have HB3 : Hid (Below (w.alloc (.cells #[.int .i64 f, .slice (some ⟨b, off, none⟩) P.length cap] 26)).heap.size (w.alloc (.cells #[.int .i64 f, .slice (some ⟨b, off, none⟩) P.length cap] 26)) w3) := grow_on HB0.out (over_bel hw3)
                clear hw3 hne HC1 x0 x1 y1 c1
                go_wp2
                go_roundw
                case rel => exact ⟨m + 1, by go_num, by omega, HV1.out, HB3.out⟩
                case measure => simp [intOf]; omega
            · have hge : ¬ (m : Int) < (k : Int) := by omega
              have HU1 : Hid (∀ j, j < k + 1 → okC f P j = true) := fun j hj => by
                by_cases e : j = k
                · subst e; exact ok_first hlt HA2.out.1 HA2.out.2 (fun i hi => HV.out i (by omega))
                · exact HU.out j (by omega)
              clear c1
              go_wp2
              go_roundw
              case rel => exact ⟨k + 1, by go_num, by omega, HU1.out, HB0.out⟩
              case measure => simp [intOf]; omega
        · have hF1 : ((fingerB (nthP P k).l : Int) != f) = true := bne_iff_ne.2 hF
          have HE : Hid (chainB f P = false) := chain_bad hlt (okC_2 hF)
          clear hA
          go_wp2
          refine wp_over (z := wr) (by kernel_rfl) (by kernel_rfl) (Below.refl _ _) ?_
          repeat (go_big_quiet_step (first | (go_at_call 59; exact call_over (HC1 _).out) | (go_at_call 60; exact call_over (HC2 _).out)))
          refine wpQuiet_nil ?_
          intro w2 hw2
          have hb2 := over_bel hw2
          have HB2 : Hid (Below wr.heap.size wr w2) := hb2
          clear hw2 hne HC1 HC2 x0 x1 x2 x3 y0 y1
          clear hb2
          go_wp2
          go_ret
          exact ⟨retB HE.out.symm, grow_on HB.out HB2.out⟩
    · have hge : ¬ (k : Int) < (P.length : Int) := by omega
      have HN : Hid (chainB f P = decide (0 < P.length)) := chain_good fun j hj => HU.out j (by omega)
      go_wp2
      go_ret
      exact ⟨retB HN.out.symm, HB.out⟩

end Go.Proofs.Ytcopckbpflmmeaa.ChnS
namespace Go.Proofs.Ytcopckbpflmmeaa.ChnT
open Go.RowKit
open Labs LabS Alms AlmS AlmM Over Blk App Rws ChnI ChnC ChnP ChnD ChnS
open StrB (retB)
open Alm (at_par)

def sameCB (f : Int) (P : List PAl) (f' : Int) (Q : List PAl) : Bool := decide (f = f') && sameLB P Q
theorem sameC_y {f f' : Int} {P Q : List PAl} (h : f = f') : sameCB f P f' Q = sameLB P Q := by simp [sameCB, h]
theorem sameC_n {f f' : Int} {P Q : List PAl} (h : f ≠ f') : sameCB f P f' Q = false := by simp [sameCB, h]
set_option maxHeartbeats 800000 in
theorem specSameC_any (f f' : Int) (a a' : Option Addr) (cap cap' : Nat) (P Q : List PAl) (w : World) (hr : RdA w a P) (hr' : RdA w a' Q) (hl : P.length ≤ 1048576) (hl' : Q.length ≤ 1048576) (hs : LenP P) (hs' : LenP Q) :
    Calls Try.prog 19 #[.agg #[.int .i64 f, .slice a P.length cap], .agg #[.int .i64 f', .slice a' Q.length cap']] w fun e w' => e = .returned (.bool (sameCB f P f' Q)) ∧ Below w.heap.size w w' := by
  have HR : Hid (RdA w a P ∧ RdA w a' Q ∧ LenP P ∧ LenP Q) := ⟨hr, hr', hs, hs'⟩
  clear hr hr' hs hs'
  by_cases hf : f = f'
  · have HE : Hid (sameCB f P f' Q = sameLB P Q) := sameC_y hf
    subst hf
    go_enter Try.func19, Try.ntmps19
    go_wp2_with fail
    refine (l4Same_any a a' cap cap' P Q _ (HR.out.1.below (Go.Joins.below_alloc2 w _ _)) (HR.out.2.1.below (Go.Joins.below_alloc2 w _ _)) hl hl' HR.out.2.2.1 HR.out.2.2.2).mono ?_
    rintro e w2 ⟨rfl, hb⟩
    have HB : Hid (Below w.heap.size w w2) := grow_on (Go.Joins.below_alloc2 w _ _) hb
    clear hb
    go_wp2
    go_ret
    exact ⟨retB HE.out.symm, HB.out⟩
  · have HE : Hid (sameCB f P f' Q = false) := sameC_n hf
    go_enter Try.func19, Try.ntmps19
    go_wp2
    go_ret
    exact ⟨retB HE.out.symm, Go.Joins.below_alloc2 w _ _⟩
set_option maxHeartbeats 800000 in
theorem implSameC_any (f f' : Int) (a a' : Option Addr) (cap cap' : Nat) (P Q : List PAl) (w : World) (hr : RdA w a P) (hr' : RdA w a' Q) (hl : P.length ≤ 1048576) (hl' : Q.length ≤ 1048576) (hs : LenP P) (hs' : LenP Q) :
    Calls Try.prog 16 #[.agg #[.int .i64 f, .slice a P.length cap], .agg #[.int .i64 f', .slice a' Q.length cap']] w fun e w' => e = .returned (.bool (sameCB f P f' Q)) ∧ Below w.heap.size w w' := by
  have HR : Hid (RdA w a P ∧ RdA w a' Q ∧ LenP P ∧ LenP Q) := ⟨hr, hr', hs, hs'⟩
  clear hr hr' hs hs'
  by_cases hf : f = f'
  · have HE : Hid (sameCB f P f' Q = sameLB P Q) := sameC_y hf
    subst hf
    go_enter Try.func16, Try.ntmps16
    go_wp2_with fail
    refine (equalF_any a a' cap cap' P Q _ (HR.out.1.below (Go.Joins.below_alloc2 w _ _)) (HR.out.2.1.below (Go.Joins.below_alloc2 w _ _)) hl hl' HR.out.2.2.1 HR.out.2.2.2).mono ?_
    rintro e w2 ⟨rfl, hb⟩
    have HB : Hid (Below w.heap.size w w2) := grow_on (Go.Joins.below_alloc2 w _ _) hb
    clear hb
    go_wp2
    go_ret
    exact ⟨retB HE.out.symm, HB.out⟩
  · have HE : Hid (sameCB f P f' Q = false) := sameC_n hf
    go_enter Try.func16, Try.ntmps16
    go_wp2
    go_ret
    exact ⟨retB HE.out.symm, Go.Joins.below_alloc2 w _ _⟩

end Go.Proofs.Ytcopckbpflmmeaa.ChnT
namespace Go.Proofs.Ytcopckbpflmmeaa.ChnU
open Go.RowKit
open Labs LabS Alms AlmS AlmM Over Blk App Rws ChnI ChnC ChnP ChnD ChnS ChnT

set_option maxHeartbeats 1600000 in
theorem l6Copy_any (f : Int) (a : Option Addr) (cap : Nat) (P : List PAl) (w : World) (hr : RdN w a P) (hl : P.length ≤ 1048576) (hs : LenM P) :
    Calls Try.prog 48 #[.agg #[.int .i64 f, .slice a P.length cap]] w fun e w' => (∃ M c rs, e = .returned (.agg #[.int .i64 f, .slice (some ⟨M, 0, none⟩) rs.length c]) ∧ AB (w.heap.size + 2) w' M c rs ∧ pals rs = P) ∧ Below w.heap.size w w' := by
  have HR : Hid (RdN w a P ∧ LenM P) := ⟨hr, hs⟩
  clear hr hs
  go_enter Try.func48, Try.ntmps48
  go_wp2
  generalize hW0 : (w.alloc (.cells #[.int .i64 f, .slice a P.length cap] 26)).alloc (.cells #[.int .i64 0, .slice none 0 0] 26) = W0
  have C0 : Hid (Blk W0 w.heap.size #[.int .i64 f, .slice a P.length cap] 26) := by rw [← hW0]; exact (Blk.new _ _ _).alloc _
  have R0 : Hid (Blk W0 (w.heap.size + 1) #[.int .i64 0, .slice none 0 0] 26) := by rw [← hW0]; exact Blk.new_at (by simp)
  have HB0 : Hid (Below w.heap.size w W0) := by rw [← hW0]; exact Go.Joins.below_alloc2 w _ _
  have HZ0 : Hid (W0.heap.size = w.heap.size + 2) := by show _ = _; rw [← hW0]; simp
  clear hW0
  have HC : Hid (∀ y, Below W0.heap.size W0 y → Calls Try.prog 92 #[.slice a P.length cap] y fun e w' => (∃ M c rs, e = .returned (.slice (some ⟨M, 0, none⟩) rs.length c) ∧ AB y.heap.size w' M c rs ∧ pals rs = P) ∧ Below y.heap.size y w') := fun y hy => l4All_any a cap P y (HR.out.1.below (grow_on HB0.out hy)) hl HR.out.2
  have HS : Hid (∀ w', Blk w' w.heap.size #[.int .i64 f, .slice a P.length cap] 26 → w'.cell? ⟨w.heap.size, 0, none⟩ = some (.int .i64 f) ∧ w'.cell? ⟨w.heap.size, 1, none⟩ = some (.slice a P.length cap)) := fun w' h => ⟨h.cell 0, h.cell 1⟩
  refine wp_region_held_drew (S := fun w' => w'.cell? ⟨w.heap.size, 0, none⟩ = some (.int .i64 f) ∧ w'.cell? ⟨w.heap.size, 1, none⟩ = some (.slice a P.length cap)) (by kernel_rfl) (HS.out _ C0.out.drew) (fun hHeld => ?_)
  refine wpAnyH_take (i := 0) (oi := { dst := some 3, op := Op.fieldAddr 26 (Operand.tmp 1) 0, type := 0, pos := "l06_chain.go:22", after := #[], guard := none }) (v := ?vc0) rfl (by kernel_rfl) (by kernel_rfl) (by kernel_rfl) (fun _ _ _ h => h) (Or.inl ⟨by rfl, ?hyc0⟩) hHeld ?_
  case hyc0 => (intro w hSw; (try dsimp only at hSw); go_simp <;> with_reducible rfl)
  try simp only [Act.put, List.setIfInBounds_toArray, List.set_cons_zero, List.set_cons_succ]
  refine wpAnyH_take (i := 1) (oi := { dst := some 4, op := Op.load 3 (Operand.tmp 3), type := 3, pos := "l06_chain.go:22", after := #[{ on := 0, ground := Ground.data }], guard := none }) (v := ?vc1) rfl (by kernel_rfl) (by kernel_rfl) (by kernel_rfl) (fun _ _ _ h => h) (Or.inl ⟨by rfl, ?hyc1⟩) hHeld ?_
  case hyc1 => (intro w hSw; (try dsimp only at hSw); go_simp <;> with_reducible rfl)
  try simp only [Act.put, List.setIfInBounds_toArray, List.set_cons_zero, List.set_cons_succ]
  refine wpAnyH_take (i := 2) (oi := { dst := some 5, op := Op.fieldAddr 26 (Operand.tmp 1) 1, type := 0, pos := "l06_chain.go:22", after := #[], guard := none }) (v := ?vc2) rfl (by kernel_rfl) (by kernel_rfl) (by kernel_rfl) (fun _ _ _ h => h) (Or.inl ⟨by rfl, ?hyc2⟩) hHeld ?_
  case hyc2 => (intro w hSw; (try dsimp only at hSw); go_simp <;> with_reducible rfl)
  try simp only [Act.put, List.setIfInBounds_toArray, List.set_cons_zero, List.set_cons_succ]
  refine wpAnyH_take (i := 3) (oi := { dst := some 6, op := Op.load 24 (Operand.tmp 5), type := 24, pos := "l06_chain.go:22", after := #[{ on := 2, ground := Ground.data }], guard := none }) (v := ?vc3) rfl (by kernel_rfl) (by kernel_rfl) (by kernel_rfl) (fun _ _ _ h => h) (Or.inl ⟨by rfl, ?hyc3⟩) hHeld ?_
  case hyc3 => (intro w hSw; (try dsimp only at hSw); go_simp <;> with_reducible rfl)
  try simp only [Act.put, List.setIfInBounds_toArray, List.set_cons_zero, List.set_cons_succ]
  refine wpAnyH_ready (rs := [4]) (by kernel_rfl) (by simp) ?_
  refine AllReadyH.cons (o := { dst := some 7, op := Op.call { callee := Callee.value (Operand.func 92), args := #[Operand.tmp 6], argTypes := #[24] }, type := 24, pos := "l06_chain.go:22", after := #[{ on := 3, ground := Ground.data }], guard := none }) rfl (fun K hK => ?_) AllReadyH.nil
  go_simp
  refine (HC.out _ (Below.refl _ _).drew).mono ?_
  rintro r wyc4 ⟨⟨M, c, rs, rfl, hab, hp⟩, hy⟩
  have HZ : Hid (Below W0.heap.size W0 wyc4) := grow_on (Below.refl _ _).drew hy
  have HAB : Hid (AB (w.heap.size + 2) wyc4 M c rs) := hab.down (by show w.heap.size + 2 ≤ W0.drew.heap.size; have := HZ0.out; simp; omega)
  have HP : Hid (pals rs = P) := hp
  have hR := R0.out.grow HZ.out
  have r0 : wyc4.cell? ⟨w.heap.size + 1, 0, none⟩ = some (.int .i64 0) := hR.cell 0
  have r1 : wyc4.cell? ⟨w.heap.size + 1, 1, none⟩ = some (.slice none 0 0) := hR.cell 1
  have f0 := hR.frozen 0
  have f1 := hR.frozen 1
  clear hy hab hp hR
  clear hHeld
  refine hK.out _ _ (HS.out _ (C0.out.grow HZ.out)) (fun hHeld => ?_)
  clear hK K
  try simp only [Act.put, List.setIfInBounds_toArray, List.set_cons_zero, List.set_cons_succ]
  refine wpAnyH_take (i := 5) (oi := { dst := some 8, op := Op.build 26 #[(0, Operand.tmp 4), (1, Operand.tmp 7)], type := 26, pos := "l06_chain.go:22", after := #[{ on := 1, ground := Ground.data }, { on := 4, ground := Ground.data }], guard := none }) (v := ?vc5) rfl (by kernel_rfl) (by kernel_rfl) (by kernel_rfl) (fun _ _ _ h => h) (Or.inl ⟨by rfl, ?hyc5⟩) hHeld ?_
  case hyc5 => (intro w hSw; (try dsimp only at hSw); go_simp <;> with_reducible rfl)
  try simp only [Act.put, List.setIfInBounds_toArray, List.set_cons_zero, List.set_cons_succ]
  have hne : w.heap.size + 1 ≠ w.heap.size := by omega
  refine wpAnyH_ready (rs := [6]) (by kernel_rfl) (by simp) ?_
  refine AllReadyH.cons (o := { dst := none, op := Op.store 26 (Operand.tmp 2) (Operand.tmp 8), type := 0, pos := "l06_chain.go:22", after := #[{ on := 5, ground := Ground.data }, { on := 4, ground := Ground.chain }, { on := 0, ground := Ground.phase }, { on := 1, ground := Ground.phase }, { on := 2, ground := Ground.phase }, { on := 3, ground := Ground.phase }, { on := 4, ground := Ground.phase }, { on := 5, ground := Ground.phase }], guard := none }) rfl (fun K hK => ?_) AllReadyH.nil
  go_simp
  clear hHeld
  refine hK.out _ _ (HS.out _ (((C0.out.grow HZ.out).set_other hne _).set_other hne _)) (fun hHeld => ?_)
  clear hK K
  try simp only [Act.put, List.setIfInBounds_toArray, List.set_cons_zero, List.set_cons_succ]
  refine wpAnyH_done (by kernel_rfl) ?_ _
  go_wp2
  have hs : Blk ((wyc4.setCell ⟨w.heap.size + 1, 0, none⟩ (.int .i64 f)).setCell ⟨w.heap.size + 1, 1, none⟩ (.slice (some ⟨M, 0, none⟩) rs.length c)) (w.heap.size + 1) #[.int .i64 f, .slice (some ⟨M, 0, none⟩) rs.length c] 26 := ((R0.out.grow HZ.out).set 0 _).set 1 _
  have s0 := hs.cell 0
  have s1 := hs.cell 1
  refine bodyPost_ret (v := .agg #[.int .i64 f, .slice (some ⟨M, 0, none⟩) rs.length c]) (by simp [results, Try.results48, go_sem, s0, s1]) rfl ?_
  exact ⟨⟨M, c, rs, rfl, ab_set2 HAB.out (R0.out.grow HZ.out) _ _, HP.out⟩, ChnP.set2 (grow_on HB0.out HZ.out) (by omega) _ _⟩

set_option maxRecDepth 100000 in
set_option maxHeartbeats 2000000 in
theorem specPut_any (f : Int) (a : Option Addr) (cap : Nat) (P : List PAl) (g o cap' : Nat) (x : PAl) (w : World) (hr : RdN w a P) (hx : Reads w (some ⟨g, o, none⟩) x.l) (hl : P.length ≤ 1048576) (hs : LenM P) (hxl : x.l.length ≤ 1048576) :
    Calls Try.prog 9 #[.agg #[.int .i64 f, .slice a P.length cap], .agg #[.slice (some ⟨g, o, none⟩) x.l.length cap', .int .i64 x.s, .int .i64 x.e, .string x.n]] w fun e w' => (∃ M c rs, e = .returned (.tuple #[.agg #[.int .i64 f, .slice (some ⟨M, 0, none⟩) rs.length c], .bool (isNew P x.l)]) ∧ AB w.heap.size w' M c rs ∧ pals rs = putL P x) ∧ Below w.heap.size w w' := by
  have HR : Hid (RdN w a P ∧ Reads w (some ⟨g, o, none⟩) x.l) := ⟨hr, hx⟩
  have HS : Hid (LenM P ∧ x.l.length ≤ 1048576) := ⟨hs, hxl⟩
  clear hr hx hs hxl
  obtain ⟨i0, hi, hz0, hz1, hz2⟩ := info_parts infoA
  go_enter Try.func9, Try.ntmps9
  go_wp2_with fail
  refine (l6Copy_any f a cap P _ (HR.out.1.below (Alm.below3 w _ _ _)) hl HS.out.1).mono ?_
  rintro e w1 ⟨⟨M, c, rs, rfl, hAB, hP⟩, hb⟩
  have C1 : Hid (Blk w1 w.heap.size #[.int .i64 f, .slice a P.length cap] 26) := (((Blk.new _ _ _).alloc _).alloc _).grow hb
  have A1 : Hid (Blk w1 (w.heap.size + 1) #[.slice (some ⟨g, o, none⟩) x.l.length cap', .int .i64 x.s, .int .i64 x.e, .string x.n] 29) := ((Blk.new_at (by simp)).alloc _).grow hb
  have R1 : Hid (Blk w1 (w.heap.size + 1 + 1) #[.int .i64 0, .slice none 0 0] 26) := (Blk.new_at (by simp)).grow hb
  have HB1 : Hid (Below w.heap.size w w1) := grow_on (Alm.below3 w _ _ _) hb
  have HAB1 : Hid (AB w.heap.size w1 M c rs) := hAB.down (by simp; omega)
  have HM : Hid (w.heap.size + 3 ≤ M) := by have := hAB.at'; simp at this; show _ ≤ _; omega
  have HP : Hid (pals rs = P) := hP
  have HRl : Hid (rs.length = P.length) := by show _ = _; rw [← pals_len, hP]
  have hrl : rs.length ≤ 1048576 := by have := HRl.out; omega
  clear hb hAB hP
  generalize hDo : Obj.cells #[.int .i64 f, .slice (some ⟨M, 0, none⟩) rs.length c] 26 = Do
  have cC0 : (w1.alloc Do).cell? ⟨w.heap.size, 0, none⟩ = some (.int .i64 f) := (C1.out.alloc _).cell 0
  have cC1 : (w1.alloc Do).cell? ⟨w.heap.size, 1, none⟩ = some (.slice a P.length cap) := (C1.out.alloc _).cell 1
  have cA0 : (w1.alloc Do).cell? ⟨w.heap.size + 1, 0, none⟩ = some (.slice (some ⟨g, o, none⟩) x.l.length cap') := (A1.out.alloc _).cell 0
  subst hDo
  rcases idx_cases P x.l with ⟨hq, hm⟩ | ⟨k, hq, hk, he, hj⟩
  · have HN : Hid (true = isNew P x.l) := (put_miss hm).2.symm
    have HPP : Hid (∀ M c, pals (rs ++ [(M, c, x)]) = putL P x) := fun M c => by rw [pals_app, HP.out, (put_miss hm).1]
    clear hm
    have HI : Hid (∀ y, Below w1.heap.size w1 y → Calls Try.prog 22 #[.agg #[.int .i64 f, .slice a P.length cap], .slice (some ⟨g, o, none⟩) x.l.length cap'] y fun e w' => e = .returned (.int .i64 (-1)) ∧ Below y.heap.size y w') := fun y hy => (specIn_any f a _ cap _ P x.l y (HR.out.1.rd.below (grow_on HB1.out hy)) (HR.out.2.below (grow_on HB1.out hy)) hl (len_m HS.out.1) (by have := HS.out.2; unfold maxLen; omega)).mono fun e w' h => ⟨h.1.trans (ChnI.retI hq), h.2⟩
    go_wp2_with fail
    refine (HI.out _ (Go.Joins.below_alloc1 w1 _)).mono ?_
    rintro e w2 ⟨rfl, hb⟩
    clear cC0 cC1 cA0 HI hq
    have D2 : Hid (Blk w2 w1.heap.size #[.int .i64 f, .slice (some ⟨M, 0, none⟩) rs.length c] 26) := (Blk.new _ _ _).grow hb
    have hb' := grow_on (Go.Joins.below_alloc1 w1 _) hb
    have C2 : Hid (Blk w2 w.heap.size #[.int .i64 f, .slice a P.length cap] 26) := C1.out.grow hb'
    have A2 : Hid (Blk w2 (w.heap.size + 1) #[.slice (some ⟨g, o, none⟩) x.l.length cap', .int .i64 x.s, .int .i64 x.e, .string x.n] 29) := A1.out.grow hb'
    have R2 : Hid (Blk w2 (w.heap.size + 1 + 1) #[.int .i64 0, .slice none 0 0] 26) := R1.out.grow hb'
    have HB2 : Hid (Below w.heap.size w w2) := grow_on HB1.out hb'
    have HAB2 : Hid (AB w.heap.size w2 M c rs) := HAB1.out.grow hb'
    have HW : Hid (w.heap.size + 3 ≤ w1.heap.size ∧ w1.heap.size < w2.heap.size) := ⟨by have := R1.out.lt; omega, D2.out.lt⟩
    clear hb hb' C1 A1 R1
    have a0 : w2.cell? ⟨w.heap.size + 1, 0, none⟩ = some (.slice (some ⟨g, o, none⟩) x.l.length cap') := A2.out.cell 0
    have a1 : w2.cell? ⟨w.heap.size + 1, 1, none⟩ = some (.int .i64 x.s) := A2.out.cell 1
    have a2 : w2.cell? ⟨w.heap.size + 1, 2, none⟩ = some (.int .i64 x.e) := A2.out.cell 2
    have a3 : w2.cell? ⟨w.heap.size + 1, 3, none⟩ = some (.string x.n) := A2.out.cell 3
    go_wp2_with fail
    refine (copyS_any g o cap' x.l x.s x.e x.n w2 (HR.out.2.below HB2.out) HS.out.2).mono ?_
    rintro e w3 ⟨⟨Mx, cx, rfl, hO⟩, hb⟩
    have D3 : Hid (Blk w3 w1.heap.size #[.int .i64 f, .slice (some ⟨M, 0, none⟩) rs.length c] 26) := D2.out.grow hb
    have R3 : Hid (Blk w3 (w.heap.size + 1 + 1) #[.int .i64 0, .slice none 0 0] 26) := R2.out.grow hb
    have HB3 : Hid (Below w.heap.size w w3) := grow_on HB2.out hb
    have HAB3 : Hid (AB w.heap.size w3 M c rs) := HAB2.out.grow hb
    have HO : Hid (OwnA w.heap.size w3 (Mx, cx, x) ∧ w2.heap.size ≤ Mx) := ⟨(own_of_copy hO HS.out.2).down HB2.out.size, hO.1⟩
    have HW3 : Hid (w.heap.size + 3 ≤ w1.heap.size ∧ w1.heap.size < w3.heap.size ∧ w2.heap.size ≤ w3.heap.size) := ⟨HW.out.1, D3.out.lt, hb.size⟩
    obtain ⟨xs, hox, hxl, hxs⟩ := HAB3.out.own
    have HOX : Hid (∀ o1 o2, ((w3.alloc o1).alloc o2).ownsRow w.heap.size 29 4 (.slice (some ⟨M, 0, none⟩) rs.length c) rs.length xs) := fun o1 o2 => own_grow hox (Go.Joins.below_alloc2 w3 o1 o2)
    have HXS : Hid (xs.length = rs.length * 4 ∧ ∀ i, i < rs.length → Four (fun k => xs[k]?) i (nthA rs i)) := ⟨hxl, hxs⟩
    generalize hNo : Obj.cells #[.slice (some ⟨Mx, 0, none⟩) x.l.length cx, .int .i64 x.s, .int .i64 x.e, .string x.n] 29 = No
    have d1 : (w3.alloc No).cell? ⟨w1.heap.size, 1, none⟩ = some (.slice (some ⟨M, 0, none⟩) rs.length c) := (D3.out.alloc _).cell 1
    subst hNo
    clear hb hO hox hxl hxs a0 a1 a2 a3
    go_wp2_with (at_builtin; refine wpList_append_own_at _ rfl _ _ 24 rfl w.heap.size 29 i0 (.agg #[.slice none 0 0, .int .i64 0, .int .i64 0, .string ByteArray.empty]) 4 56 Try.underlying24 hi hz0 hz1 hz2 rfl (by decide) _ _ _ rfl (HOX.out _ _) ⟨w3.heap.size + 1, 0, none⟩ 1 1 (rowV (Mx, cx, x)) rfl rfl ?c1 (row_one _) ?c3 ?c4 ?c5 ?_)
    case c1 => exact blk_news (Blk.new_at (by simp))
    case c3 => unfold maxLen; omega
    case c4 => omega
    case c5 => have := HB3.out.size; simp; omega
    intro v' w4 hown hg hnil hat
    have hU := Go.Joins.below_alloc2 w3 (.cells #[.slice (some ⟨Mx, 0, none⟩) x.l.length cx, .int .i64 x.s, .int .i64 x.e, .string x.n] 29) (.cells #[.slice (some ⟨Mx, 0, none⟩) x.l.length cx, .int .i64 x.s, .int .i64 x.e, .string x.n] 29)
    obtain ⟨M3, c3, rfl, hAB4⟩ := (HAB3.out.grow hU).app (HO.out.1.grow hU) (fun y hy => by have := (HAB2.out.rows y hy).lt; have := HO.out.2; show y.1 ≠ Mx; omega) HXS.out.1 HXS.out.2 hown hg
    obtain ⟨cu, hcu, _⟩ := (HAB3.out.grow hU).outer
    have D4 : Hid (Blk w4 w1.heap.size #[.int .i64 f, .slice (some ⟨M, 0, none⟩) rs.length c] 26) := blk_far (D3.out.grow hU) hg (fun e => chain_alarm (D3.out.grow hU) hcu (Option.some.inj e))
    have R4 : Hid (Blk w4 (w.heap.size + 1 + 1) #[.int .i64 0, .slice none 0 0] 26) := blk_far (R3.out.grow hU) hg (fun e => chain_alarm (R3.out.grow hU) hcu (Option.some.inj e))
    have HAB4 : Hid (AB w.heap.size w4 M3 c3 (rs ++ [(Mx, cx, x)])) := hAB4
    have HB4 : Hid (Below w.heap.size w w4) := (grow_on HB3.out hU).grown hg (by have := HB3.out.size; simp; omega) (fun k e => by have h : M = k := Option.some.inj e; have := HM.out; omega)
    have d4 : w4.cell? ⟨w1.heap.size, 1, none⟩ = some (.slice (some ⟨M, 0, none⟩) rs.length c) := D4.out.cell 1
    have fd4 := D4.out.frozen 1
    clear hown hg hnil hat hAB4 hcu hU d1
    go_upto_region 6 with fail
    clear D3 R3 HAB3 HB3
    have D3 : Hid (Blk (w4.setCell ⟨w1.heap.size, 1, none⟩ (.slice (some ⟨M3, 0, none⟩) (rs.length + 1) c3)) w1.heap.size #[.int .i64 f, .slice (some ⟨M3, 0, none⟩) (rs.length + 1) c3] 26) := D4.out.set 1 _
    have R3 : Hid (Blk (w4.setCell ⟨w1.heap.size, 1, none⟩ (.slice (some ⟨M3, 0, none⟩) (rs.length + 1) c3)) (w.heap.size + 1 + 1) #[.int .i64 0, .slice none 0 0] 26) := R4.out.set_other (by have := HW.out; show w1.heap.size ≠ w.heap.size + 1 + 1; omega) _
    have HAB3 : Hid (AB w.heap.size (w4.setCell ⟨w1.heap.size, 1, none⟩ (.slice (some ⟨M3, 0, none⟩) (rs.length + 1) c3)) M3 c3 (rs ++ [(Mx, cx, x)])) := ab_set1 HAB4.out D4.out _ _
    have HB3 : Hid (Below w.heap.size w (w4.setCell ⟨w1.heap.size, 1, none⟩ (.slice (some ⟨M3, 0, none⟩) (rs.length + 1) c3))) := set_low HB4.out (by have := HW.out; omega) _ _
    clear D4 R4 HAB4 HB4 d4 fd4
    generalize w4.setCell ⟨w1.heap.size, 1, none⟩ (.slice (some ⟨M3, 0, none⟩) (rs.length + 1) c3) = W3 at *
    have c0 : W3.cell? ⟨w1.heap.size, 0, none⟩ = some (.int .i64 f) := D3.out.cell 0
    have c1 : W3.cell? ⟨w1.heap.size, 1, none⟩ = some (.slice (some ⟨M3, 0, none⟩) (rs.length + 1) c3) := D3.out.cell 1
    have r0 : W3.cell? ⟨w.heap.size + 1 + 1, 0, none⟩ = some (.int .i64 0) := R3.out.cell 0
    have r1 : W3.cell? ⟨w.heap.size + 1 + 1, 1, none⟩ = some (.slice none 0 0) := R3.out.cell 1
    have f0 := R3.out.frozen 0
    have f1 := R3.out.frozen 1
    go_wp2
    have hs : Blk ((W3.setCell ⟨w.heap.size + 1 + 1, 0, none⟩ (.int .i64 f)).setCell ⟨w.heap.size + 1 + 1, 1, none⟩ (.slice (some ⟨M3, 0, none⟩) (rs.length + 1) c3)) (w.heap.size + 1 + 1) #[.int .i64 f, .slice (some ⟨M3, 0, none⟩) (rs.length + 1) c3] 26 := (R3.out.set 0 _).set 1 _
    have s0 := hs.cell 0
    have s1 := hs.cell 1
    refine bodyPost_ret (v := .tuple #[.agg #[.int .i64 f, .slice (some ⟨M3, 0, none⟩) (rs.length + 1) c3], .bool true]) (by simp [results, Try.results9, go_sem, s0, s1]) rfl ?_
    exact ⟨⟨M3, c3, rs ++ [(Mx, cx, x)], retC (by simp) HN.out, ab_set2 HAB3.out R3.out _ _, HPP.out _ _⟩, ChnP.set2 HB3.out (by omega) _ _⟩
  · have HN : Hid (false = isNew P x.l) := (put_hit hj he hk).2.symm
    have HPP : Hid (∀ M c, pals (putA rs k (M, c, mergeX (nthP P k) x)) = putL P x) := fun M c => by rw [pals_put, HP.out, (put_hit hj he hk).1]
    clear hj he
    have HI : Hid (∀ y, Below w1.heap.size w1 y → Calls Try.prog 22 #[.agg #[.int .i64 f, .slice a P.length cap], .slice (some ⟨g, o, none⟩) x.l.length cap'] y fun e w' => e = .returned (.int .i64 (k)) ∧ Below y.heap.size y w') := fun y hy => (specIn_any f a _ cap _ P x.l y (HR.out.1.rd.below (grow_on HB1.out hy)) (HR.out.2.below (grow_on HB1.out hy)) hl (len_m HS.out.1) (by have := HS.out.2; unfold maxLen; omega)).mono fun e w' h => ⟨h.1.trans (ChnI.retI hq), h.2⟩
    go_wp2_with fail
    refine (HI.out _ (Go.Joins.below_alloc1 w1 _)).mono ?_
    rintro e w2 ⟨rfl, hb⟩
    clear cC0 cC1 cA0 HI hq
    have D2 : Hid (Blk w2 w1.heap.size #[.int .i64 f, .slice (some ⟨M, 0, none⟩) rs.length c] 26) := (Blk.new _ _ _).grow hb
    have hb' := grow_on (Go.Joins.below_alloc1 w1 _) hb
    have C2 : Hid (Blk w2 w.heap.size #[.int .i64 f, .slice a P.length cap] 26) := C1.out.grow hb'
    have A2 : Hid (Blk w2 (w.heap.size + 1) #[.slice (some ⟨g, o, none⟩) x.l.length cap', .int .i64 x.s, .int .i64 x.e, .string x.n] 29) := A1.out.grow hb'
    have R2 : Hid (Blk w2 (w.heap.size + 1 + 1) #[.int .i64 0, .slice none 0 0] 26) := R1.out.grow hb'
    have HB2 : Hid (Below w.heap.size w w2) := grow_on HB1.out hb'
    have HAB2 : Hid (AB w.heap.size w2 M c rs) := HAB1.out.grow hb'
    have HW : Hid (w.heap.size + 3 ≤ w1.heap.size ∧ w1.heap.size < w2.heap.size) := ⟨by have := R1.out.lt; omega, D2.out.lt⟩
    clear hb hb' C1 A1 R1
    obtain ⟨b, off, rfl, hb, gd, od, cp, hat⟩ := HR.out.1.get hk
    have b0 := hat.c0
    have b1 := hat.c1
    have b2 := hat.c2
    have b3 := hat.c3
    have HBB : Hid (b < w.heap.size) := hb
    have hk0 : ¬ (k : Int) < 0 := by omega
    have hk1 : (k : Int) < (P.length : Int) := by omega
    have hk2 : (0 : Int) ≤ (k : Int) := by omega
    have HC : Hid (∀ y, Below w2.heap.size w2 y → Calls Try.prog 50 #[.agg #[.slice (some ⟨gd, od, none⟩) (nthP P k).l.length cp, .int .i64 (nthP P k).s, .int .i64 (nthP P k).e, .string (nthP P k).n], .agg #[.slice (some ⟨g, o, none⟩) x.l.length cap', .int .i64 x.s, .int .i64 x.e, .string x.n]] y fun r w' => (∃ Mx cx, r = .returned (.agg #[.slice (some ⟨Mx, 0, none⟩) x.l.length cx, .int .i64 (startB (nthP P k).s (nthP P k).e x.s x.e), .int .i64 x.e, .string x.n]) ∧ LabR.Own y w' Mx x.l) ∧ Below y.heap.size y w') := fun y hy => specMerge_any _ _ _ _ _ _ _ _ _ _ _ _ _ y (HR.out.2.below (grow_on HB2.out hy)) HS.out.2
    go_wp2
    have HSB : Hid (∀ w', Blk w' w.heap.size #[.int .i64 f, .slice (some ⟨b, off, none⟩) P.length cap] 26 → Below w.heap.size w w' → Blk w' (w.heap.size + 1) #[.slice (some ⟨g, o, none⟩) x.l.length cap', .int .i64 x.s, .int .i64 x.e, .string x.n] 29 → w'.cell? ⟨w.heap.size, 1, none⟩ = some (.slice (some ⟨b, off, none⟩) P.length cap) ∧ w'.cell? ⟨b, off + k * 4, none⟩ = some (.slice (some ⟨gd, od, none⟩) (nthP P k).l.length cp) ∧ w'.cell? ⟨b, off + k * 4 + 1, none⟩ = some (.int .i64 (nthP P k).s) ∧ w'.cell? ⟨b, off + k * 4 + 2, none⟩ = some (.int .i64 (nthP P k).e) ∧ w'.cell? ⟨b, off + k * 4 + 3, none⟩ = some (.string (nthP P k).n) ∧ w'.cell? ⟨w.heap.size + 1, 0, none⟩ = some (.slice (some ⟨g, o, none⟩) x.l.length cap') ∧ w'.cell? ⟨w.heap.size + 1, 1, none⟩ = some (.int .i64 x.s) ∧ w'.cell? ⟨w.heap.size + 1, 2, none⟩ = some (.int .i64 x.e) ∧ w'.cell? ⟨w.heap.size + 1, 3, none⟩ = some (.string x.n)) := fun w' q hw k => ⟨q.cell 1, (hw.cell hb).trans b0, (hw.cell hb).trans b1, (hw.cell hb).trans b2, (hw.cell hb).trans b3, k.cell 0, k.cell 1, k.cell 2, k.cell 3⟩
    clear hat b0 b1 b2 b3 hb
    refine wp_region_held_drew (S := fun w' => w'.cell? ⟨w.heap.size, 1, none⟩ = some (.slice (some ⟨b, off, none⟩) P.length cap) ∧ w'.cell? ⟨b, off + k * 4, none⟩ = some (.slice (some ⟨gd, od, none⟩) (nthP P k).l.length cp) ∧ w'.cell? ⟨b, off + k * 4 + 1, none⟩ = some (.int .i64 (nthP P k).s) ∧ w'.cell? ⟨b, off + k * 4 + 2, none⟩ = some (.int .i64 (nthP P k).e) ∧ w'.cell? ⟨b, off + k * 4 + 3, none⟩ = some (.string (nthP P k).n) ∧ w'.cell? ⟨w.heap.size + 1, 0, none⟩ = some (.slice (some ⟨g, o, none⟩) x.l.length cap') ∧ w'.cell? ⟨w.heap.size + 1, 1, none⟩ = some (.int .i64 x.s) ∧ w'.cell? ⟨w.heap.size + 1, 2, none⟩ = some (.int .i64 x.e) ∧ w'.cell? ⟨w.heap.size + 1, 3, none⟩ = some (.string x.n)) (by kernel_rfl) (HSB.out _ C2.out.drew HB2.out.drew A2.out.drew) (fun hHeld => ?_)
    refine wpAnyH_take (i := 0) (oi := { dst := some 27, op := Op.fieldAddr 26 (Operand.tmp 2) 1, type := 0, pos := "l06_chain.go:42", after := #[], guard := none }) (v := ?vh1) rfl (by kernel_rfl) (by kernel_rfl) (by kernel_rfl) (fun _ _ _ h => h) (Or.inl ⟨by rfl, ?hyh1⟩) hHeld ?_
    case hyh1 => (intro w hSw; (try dsimp only at hSw); go_simp <;> with_reducible rfl)
    try simp only [Act.put, List.setIfInBounds_toArray, List.set_cons_zero, List.set_cons_succ]
    refine wpAnyH_take (i := 1) (oi := { dst := some 28, op := Op.load 24 (Operand.tmp 27), type := 24, pos := "l06_chain.go:42", after := #[{ on := 0, ground := Ground.data }], guard := none }) (v := ?vh2) rfl (by kernel_rfl) (by kernel_rfl) (by kernel_rfl) (fun _ _ _ h => h) (Or.inl ⟨by rfl, ?hyh2⟩) hHeld ?_
    case hyh2 => (intro w hSw; (try dsimp only at hSw); go_simp <;> with_reducible rfl)
    try simp only [Act.put, List.setIfInBounds_toArray, List.set_cons_zero, List.set_cons_succ]
    refine wpAnyH_take (i := 2) (oi := { dst := some 29, op := Op.move (Operand.tmp 7), type := 3, pos := "l06_chain.go:42", after := #[], guard := none }) (v := ?vh3) rfl (by kernel_rfl) (by kernel_rfl) (by kernel_rfl) (fun _ _ _ h => h) (Or.inl ⟨by rfl, ?hyh3⟩) hHeld ?_
    case hyh3 => (intro w hSw; (try dsimp only at hSw); go_simp <;> with_reducible rfl)
    try simp only [Act.put, List.setIfInBounds_toArray, List.set_cons_zero, List.set_cons_succ]
    refine wpAnyH_take (i := 3) (oi := { dst := some 30, op := Op.indexAddr 24 (Operand.tmp 28) (Operand.tmp 29), type := 0, pos := "l06_chain.go:42", after := #[{ on := 1, ground := Ground.data }, { on := 2, ground := Ground.data }], guard := none }) (v := ?vh4) rfl (by kernel_rfl) (by kernel_rfl) (by kernel_rfl) (fun _ _ _ h => h) (Or.inl ⟨by rfl, ?hyh4⟩) hHeld ?_
    case hyh4 => (intro w hSw; (try dsimp only at hSw); go_simp <;> with_reducible rfl)
    try simp only [Act.put, List.setIfInBounds_toArray, List.set_cons_zero, List.set_cons_succ]
    refine wpAnyH_take (i := 4) (oi := { dst := some 31, op := Op.load 29 (Operand.tmp 30), type := 29, pos := "l06_chain.go:42", after := #[{ on := 3, ground := Ground.data }], guard := none }) (v := ?vh5) rfl (by kernel_rfl) (by kernel_rfl) (by kernel_rfl) (fun _ _ _ h => h) (Or.inl ⟨by rfl, ?hyh5⟩) hHeld ?_
    case hyh5 => (intro w hSw; (try dsimp only at hSw); go_simp <;> with_reducible rfl)
    try simp only [Act.put, List.setIfInBounds_toArray, List.set_cons_zero, List.set_cons_succ]
    refine wpAnyH_take (i := 5) (oi := { dst := some 32, op := Op.load 29 (Operand.tmp 3), type := 29, pos := "l06_chain.go:42", after := #[], guard := none }) (v := ?vh6) rfl (by kernel_rfl) (by kernel_rfl) (by kernel_rfl) (fun _ _ _ h => h) (Or.inl ⟨by rfl, ?hyh6⟩) hHeld ?_
    case hyh6 => (intro w hSw; (try dsimp only at hSw); go_simp <;> with_reducible rfl)
    try simp only [Act.put, List.setIfInBounds_toArray, List.set_cons_zero, List.set_cons_succ]
    refine wpAnyH_ready (rs := [6, 7]) (by kernel_rfl) (by simp) ?_
    refine AllReadyH.cons (o := { dst := some 33, op := Op.call { callee := Callee.value (Operand.func 50), args := #[Operand.tmp 31, Operand.tmp 32], argTypes := #[29, 29] }, type := 29, pos := "l06_chain.go:42", after := #[{ on := 4, ground := Ground.data }, { on := 5, ground := Ground.data }], guard := none }) rfl (fun K hK => ?_) ?_
    ·
      go_simp
      refine (HC.out _ (Below.refl _ _).drew).mono ?_
      rintro r wy ⟨⟨Mx, cx, rfl, hO⟩, hy⟩
      have HZ : Hid (Below w2.heap.size w2 wy) := grow_on (Below.refl _ _).drew hy
      have HO : Hid (OwnA w.heap.size wy (Mx, cx, mergeX (nthP P k) x) ∧ w2.heap.size ≤ Mx) := ⟨(own_of_copy (x := mergeX (nthP P k) x) hO HS.out.2).down (by have := HW.out; show w.heap.size ≤ w2.drew.heap.size; simp; omega), hO.1⟩
      clear hy hO
      clear hHeld
      refine hK.out _ _ (HSB.out _ (C2.out.grow HZ.out) (grow_on HB2.out HZ.out) (A2.out.grow HZ.out)) (fun hHeld => ?_)
      clear hK K
      try simp only [Act.put, List.setIfInBounds_toArray, List.set_cons_zero, List.set_cons_succ]
      refine wpAnyH_ready (rs := [7]) (by kernel_rfl) (by simp) ?_
      refine AllReadyH.cons (o := { dst := some 9, op := Op.alloc 29, type := 0, pos := "l06_chain.go:42", after := #[], guard := none }) rfl (fun K hK => ?_) AllReadyH.nil
      go_simp
      clear hHeld
      refine hK.out _ _ (HSB.out _ (C2.out.grow (grow_on HZ.out (Go.Joins.below_alloc1 wy _))) (grow_on HB2.out (grow_on HZ.out (Go.Joins.below_alloc1 wy _))) (A2.out.grow (grow_on HZ.out (Go.Joins.below_alloc1 wy _)))) (fun hHeld => ?_)
      clear hK K
      try simp only [Act.put, List.setIfInBounds_toArray, List.set_cons_zero, List.set_cons_succ]
      refine wpAnyH_ready (rs := [8]) (by kernel_rfl) (by simp) ?_
      refine AllReadyH.cons (o := { dst := none, op := Op.store 29 (Operand.tmp 9) (Operand.tmp 33), type := 0, pos := "l06_chain.go:42", after := #[{ on := 7, ground := Ground.data }, { on := 6, ground := Ground.data }, { on := 6, ground := Ground.chain }, { on := 0, ground := Ground.phase }, { on := 1, ground := Ground.phase }, { on := 2, ground := Ground.phase }, { on := 3, ground := Ground.phase }, { on := 4, ground := Ground.phase }, { on := 5, ground := Ground.phase }, { on := 6, ground := Ground.phase }, { on := 7, ground := Ground.phase }], guard := none }) rfl (fun K hK => ?_) AllReadyH.nil
      go_simp
      clear hHeld
      refine hK.out _ _ (HSB.out _ (C2.out.grow (grow_on HZ.out (Go.Joins.below_alloc1 wy _))) (grow_on HB2.out (grow_on HZ.out (Go.Joins.below_alloc1 wy _))) (A2.out.grow (grow_on HZ.out (Go.Joins.below_alloc1 wy _)))) (fun hHeld => ?_)
      clear hK K
      try simp only [Act.put, List.setIfInBounds_toArray, List.set_cons_zero, List.set_cons_succ]
      refine wpAnyH_done (by kernel_rfl) ?_ _
      generalize hWY : (wy.alloc (.cells #[.slice (some ⟨Mx, 0, none⟩) x.l.length cx, .int .i64 (startB (nthP P k).s (nthP P k).e x.s x.e), .int .i64 x.e, .string x.n] 29)) = WY
      have HY : Hid (Below w2.heap.size w2 WY) := by rw [← hWY]; exact grow_on HZ.out (Go.Joins.below_alloc1 wy _)
      have XB : Hid (Blk WY wy.heap.size #[.slice (some ⟨Mx, 0, none⟩) x.l.length cx, .int .i64 (startB (nthP P k).s (nthP P k).e x.s x.e), .int .i64 x.e, .string x.n] 29) := by rw [← hWY]; exact Blk.new _ _ _
      have HOY : Hid (OwnA w.heap.size WY (Mx, cx, mergeX (nthP P k) x)) := by rw [← hWY]; exact (HO.out.1.grow (Go.Joins.below_alloc1 wy _))
      have HN2 : Hid (w2.heap.size ≤ wy.heap.size) := HZ.out.size
      clear hWY hHeld
      have z0 : WY.cell? ⟨wy.heap.size, 0, none⟩ = some (.slice (some ⟨Mx, 0, none⟩) x.l.length cx) := XB.out.cell 0
      have z1 : WY.cell? ⟨wy.heap.size, 1, none⟩ = some (.int .i64 (startB (nthP P k).s (nthP P k).e x.s x.e)) := XB.out.cell 1
      have z2 : WY.cell? ⟨wy.heap.size, 2, none⟩ = some (.int .i64 x.e) := XB.out.cell 2
      have z3 : WY.cell? ⟨wy.heap.size, 3, none⟩ = some (.string x.n) := XB.out.cell 3
      have hD := D2.out.grow HY.out
      have d1 : WY.cell? ⟨w1.heap.size, 1, none⟩ = some (.slice (some ⟨M, 0, none⟩) rs.length c) := hD.cell 1
      have hab := HAB2.out.grow HY.out
      obtain ⟨cs, h2, hcs, _⟩ := hab.outer
      have hca := hab.cap
      have hkr : k < rs.length := by rw [HRl.out]; exact hk
      have hkr' : (k : Int) < (rs.length : Int) := by omega
      obtain ⟨v0, p0⟩ : ∃ v, WY.cell? ⟨M, k * 4, none⟩ = some v := ⟨cs[k * 4]'(by omega), by rw [h2.cell]; simp⟩
      obtain ⟨v1, p1⟩ : ∃ v, WY.cell? ⟨M, k * 4 + 1, none⟩ = some v := ⟨cs[k * 4 + 1]'(by omega), by rw [h2.cell]; simp⟩
      obtain ⟨v2, p2⟩ : ∃ v, WY.cell? ⟨M, k * 4 + 2, none⟩ = some v := ⟨cs[k * 4 + 2]'(by omega), by rw [h2.cell]; simp⟩
      obtain ⟨v3, p3⟩ : ∃ v, WY.cell? ⟨M, k * 4 + 3, none⟩ = some v := ⟨cs[k * 4 + 3]'(by omega), by rw [h2.cell]; simp⟩
      have f0 := h2.frozen (k * 4)
      have f1 := h2.frozen (k * 4 + 1)
      have f2 := h2.frozen (k * 4 + 2)
      have f3 := h2.frozen (k * 4 + 3)
      have hMD : M ≠ w1.heap.size := fun e => chain_alarm hD h2 e.symm
      clear hD hab h2 hcs hca
      go_upto_region 9 with fail
      clear z0 z1 z2 z3 d1 p0 p1 p2 p3 f0 f1 f2 f3
      have hMR : M ≠ w.heap.size + 1 + 1 := by have := HM.out; omega
      have hMw : w.heap.size ≤ M := by have := HM.out; omega
      obtain ⟨W3, hW3⟩ : ∃ W3, put4W WY M k (Mx, cx, mergeX (nthP P k) x) = W3 := ⟨_, rfl⟩
      obtain ⟨M3, hM3⟩ : ∃ M3, M3 = M := ⟨_, rfl⟩
      obtain ⟨c3, hc3⟩ : ∃ c3, c3 = c := ⟨_, rfl⟩
      have D3 : Hid (Blk W3 w1.heap.size #[.int .i64 f, .slice (some ⟨M3, 0, none⟩) rs.length c3] 26) := by rw [← hW3, hM3, hc3]; exact put4W_other (D2.out.grow HY.out) hMD
      have R3 : Hid (Blk W3 (w.heap.size + 1 + 1) #[.int .i64 0, .slice none 0 0] 26) := by rw [← hW3]; exact put4W_other (R2.out.grow HY.out) hMR
      have HAB3 : Hid (AB w.heap.size W3 M3 c3 (putA rs k (Mx, cx, mergeX (nthP P k) x))) := by
        rw [← hW3, hM3, hc3]
        exact (HAB2.out.grow HY.out).put hkr HOY.out (fun y hy => by have := (HAB2.out.rows y hy).lt; have := HO.out.2; show y.1 ≠ Mx; omega)
      have HB3 : Hid (Below w.heap.size w W3) := by rw [← hW3]; exact put4W_low (grow_on HB2.out HY.out) hMw
      simp only [put4W, mergeX] at hW3
      rw [hW3]
      clear hW3 hM3 hc3 hMD hMR hMw
      have c0 : W3.cell? ⟨w1.heap.size, 0, none⟩ = some (.int .i64 f) := D3.out.cell 0
      have c1 : W3.cell? ⟨w1.heap.size, 1, none⟩ = some (.slice (some ⟨M3, 0, none⟩) (rs.length) c3) := D3.out.cell 1
      have r0 : W3.cell? ⟨w.heap.size + 1 + 1, 0, none⟩ = some (.int .i64 0) := R3.out.cell 0
      have r1 : W3.cell? ⟨w.heap.size + 1 + 1, 1, none⟩ = some (.slice none 0 0) := R3.out.cell 1
      have f0 := R3.out.frozen 0
      have f1 := R3.out.frozen 1
      go_wp2
      have hs : Blk ((W3.setCell ⟨w.heap.size + 1 + 1, 0, none⟩ (.int .i64 f)).setCell ⟨w.heap.size + 1 + 1, 1, none⟩ (.slice (some ⟨M3, 0, none⟩) (rs.length) c3)) (w.heap.size + 1 + 1) #[.int .i64 f, .slice (some ⟨M3, 0, none⟩) (rs.length) c3] 26 := (R3.out.set 0 _).set 1 _
      have s0 := hs.cell 0
      have s1 := hs.cell 1
      refine bodyPost_ret (v := .tuple #[.agg #[.int .i64 f, .slice (some ⟨M3, 0, none⟩) (rs.length) c3], .bool false]) (by simp [results, Try.results9, go_sem, s0, s1]) rfl ?_
      exact ⟨⟨M3, c3, putA rs k (Mx, cx, mergeX (nthP P k) x), retC (by rw [putA_len]) HN.out, ab_set2 HAB3.out R3.out _ _, HPP.out _ _⟩, ChnP.set2 HB3.out (by omega) _ _⟩
    refine AllReadyH.cons (o := { dst := some 9, op := Op.alloc 29, type := 0, pos := "l06_chain.go:42", after := #[], guard := none }) rfl (fun K hK => ?_) AllReadyH.nil
    go_simp
    clear hHeld
    refine hK.out _ _ (HSB.out _ (C2.out.grow ((Below.refl _ _).drew.alloc (Nat.le_refl _) _)) (grow_on HB2.out ((Below.refl _ _).drew.alloc (Nat.le_refl _) _)) (A2.out.grow ((Below.refl _ _).drew.alloc (Nat.le_refl _) _))) (fun hHeld => ?_)
    clear hK K
    try simp only [Act.put, List.setIfInBounds_toArray, List.set_cons_zero, List.set_cons_succ]
    refine wpAnyH_ready (rs := [6]) (by kernel_rfl) (by simp) ?_
    refine AllReadyH.cons (o := { dst := some 33, op := Op.call { callee := Callee.value (Operand.func 50), args := #[Operand.tmp 31, Operand.tmp 32], argTypes := #[29, 29] }, type := 29, pos := "l06_chain.go:42", after := #[{ on := 4, ground := Ground.data }, { on := 5, ground := Ground.data }], guard := none }) rfl (fun K hK => ?_) AllReadyH.nil
    go_simp
    refine (HC.out _ ((Below.refl _ _).drew.alloc (Nat.le_refl _) _)).mono ?_
    rintro r wy ⟨⟨Mx, cx, rfl, hO⟩, hy⟩
    have HZ : Hid (Below w2.heap.size w2 wy) := grow_on ((Below.refl _ _).drew.alloc (Nat.le_refl _) _) hy
    have NB : Hid (Blk wy w2.heap.size #[.slice none 0 0, .int .i64 0, .int .i64 0, .string ⟨#[]⟩] 29) := (Blk.new w2.drew _ _).grow hy
    have HO : Hid (OwnA w.heap.size wy (Mx, cx, mergeX (nthP P k) x) ∧ w2.heap.size ≤ Mx) := ⟨(own_of_copy (x := mergeX (nthP P k) x) hO HS.out.2).down (by have := HW.out; show w.heap.size ≤ (w2.drew.alloc _).heap.size; simp; omega), by have := hO.1; simp at this; omega⟩
    clear hy hO
    clear hHeld
    refine hK.out _ _ (HSB.out _ (C2.out.grow HZ.out) (grow_on HB2.out HZ.out) (A2.out.grow HZ.out)) (fun hHeld => ?_)
    clear hK K
    try simp only [Act.put, List.setIfInBounds_toArray, List.set_cons_zero, List.set_cons_succ]
    refine wpAnyH_ready (rs := [8]) (by kernel_rfl) (by simp) ?_
    refine AllReadyH.cons (o := { dst := none, op := Op.store 29 (Operand.tmp 9) (Operand.tmp 33), type := 0, pos := "l06_chain.go:42", after := #[{ on := 7, ground := Ground.data }, { on := 6, ground := Ground.data }, { on := 6, ground := Ground.chain }, { on := 0, ground := Ground.phase }, { on := 1, ground := Ground.phase }, { on := 2, ground := Ground.phase }, { on := 3, ground := Ground.phase }, { on := 4, ground := Ground.phase }, { on := 5, ground := Ground.phase }, { on := 6, ground := Ground.phase }, { on := 7, ground := Ground.phase }], guard := none }) rfl (fun K hK => ?_) AllReadyH.nil
    have n0 : wy.cell? ⟨w2.heap.size, 0, none⟩ = some (.slice none 0 0) := NB.out.cell 0
    have n1 : wy.cell? ⟨w2.heap.size, 1, none⟩ = some (.int .i64 0) := NB.out.cell 1
    have n2 : wy.cell? ⟨w2.heap.size, 2, none⟩ = some (.int .i64 0) := NB.out.cell 2
    have n3 : wy.cell? ⟨w2.heap.size, 3, none⟩ = some (.string ⟨#[]⟩) := NB.out.cell 3
    have m0 := NB.out.frozen 0
    have m1 := NB.out.frozen 1
    have m2 := NB.out.frozen 2
    have m3 := NB.out.frozen 3
    go_simp
    clear n0 n1 n2 n3 m0 m1 m2 m3
    clear hHeld
    refine hK.out _ _ (HSB.out _ (C2.out.grow (Alm.set4 HZ.out (Nat.le_refl _) _ _ _ _)) (grow_on HB2.out (Alm.set4 HZ.out (Nat.le_refl _) _ _ _ _)) (A2.out.grow (Alm.set4 HZ.out (Nat.le_refl _) _ _ _ _))) (fun hHeld => ?_)
    clear hK K
    try simp only [Act.put, List.setIfInBounds_toArray, List.set_cons_zero, List.set_cons_succ]
    refine wpAnyH_done (by kernel_rfl) ?_ _
    generalize hWY : ((((wy.setCell ⟨w2.heap.size, 0, none⟩ (.slice (some ⟨Mx, 0, none⟩) x.l.length cx)).setCell ⟨w2.heap.size, 1, none⟩ (.int .i64 (startB (nthP P k).s (nthP P k).e x.s x.e))).setCell ⟨w2.heap.size, 2, none⟩ (.int .i64 x.e)).setCell ⟨w2.heap.size, 3, none⟩ (.string x.n)) = WY
    have HY : Hid (Below w2.heap.size w2 WY) := by rw [← hWY]; exact Alm.set4 HZ.out (Nat.le_refl _) _ _ _ _
    have XB : Hid (Blk WY w2.heap.size #[.slice (some ⟨Mx, 0, none⟩) x.l.length cx, .int .i64 (startB (nthP P k).s (nthP P k).e x.s x.e), .int .i64 x.e, .string x.n] 29) := by rw [← hWY]; exact Alm.put4 NB.out _ _ _ _
    have HOY : Hid (OwnA w.heap.size WY (Mx, cx, mergeX (nthP P k) x)) := by rw [← hWY]; exact (by obtain ⟨h0, h1, ds, h2, h3⟩ := HO.out.1; exact ⟨h0, h1, ds, Alm.blk4 h2 (blkA_ne NB.out h2) _ _ _ _, h3⟩)
    have HN2 : Hid (w2.heap.size ≤ w2.heap.size) := Nat.le_refl _
    clear hWY hHeld
    have z0 : WY.cell? ⟨w2.heap.size, 0, none⟩ = some (.slice (some ⟨Mx, 0, none⟩) x.l.length cx) := XB.out.cell 0
    have z1 : WY.cell? ⟨w2.heap.size, 1, none⟩ = some (.int .i64 (startB (nthP P k).s (nthP P k).e x.s x.e)) := XB.out.cell 1
    have z2 : WY.cell? ⟨w2.heap.size, 2, none⟩ = some (.int .i64 x.e) := XB.out.cell 2
    have z3 : WY.cell? ⟨w2.heap.size, 3, none⟩ = some (.string x.n) := XB.out.cell 3
    have hD := D2.out.grow HY.out
    have d1 : WY.cell? ⟨w1.heap.size, 1, none⟩ = some (.slice (some ⟨M, 0, none⟩) rs.length c) := hD.cell 1
    have hab := HAB2.out.grow HY.out
    obtain ⟨cs, h2, hcs, _⟩ := hab.outer
    have hca := hab.cap
    have hkr : k < rs.length := by rw [HRl.out]; exact hk
    have hkr' : (k : Int) < (rs.length : Int) := by omega
    obtain ⟨v0, p0⟩ : ∃ v, WY.cell? ⟨M, k * 4, none⟩ = some v := ⟨cs[k * 4]'(by omega), by rw [h2.cell]; simp⟩
    obtain ⟨v1, p1⟩ : ∃ v, WY.cell? ⟨M, k * 4 + 1, none⟩ = some v := ⟨cs[k * 4 + 1]'(by omega), by rw [h2.cell]; simp⟩
    obtain ⟨v2, p2⟩ : ∃ v, WY.cell? ⟨M, k * 4 + 2, none⟩ = some v := ⟨cs[k * 4 + 2]'(by omega), by rw [h2.cell]; simp⟩
    obtain ⟨v3, p3⟩ : ∃ v, WY.cell? ⟨M, k * 4 + 3, none⟩ = some v := ⟨cs[k * 4 + 3]'(by omega), by rw [h2.cell]; simp⟩
    have f0 := h2.frozen (k * 4)
    have f1 := h2.frozen (k * 4 + 1)
    have f2 := h2.frozen (k * 4 + 2)
    have f3 := h2.frozen (k * 4 + 3)
    have hMD : M ≠ w1.heap.size := fun e => chain_alarm hD h2 e.symm
    clear hD hab h2 hcs hca
    go_upto_region 9 with fail
    clear z0 z1 z2 z3 d1 p0 p1 p2 p3 f0 f1 f2 f3
    have hMR : M ≠ w.heap.size + 1 + 1 := by have := HM.out; omega
    have hMw : w.heap.size ≤ M := by have := HM.out; omega
    obtain ⟨W3, hW3⟩ : ∃ W3, put4W WY M k (Mx, cx, mergeX (nthP P k) x) = W3 := ⟨_, rfl⟩
    obtain ⟨M3, hM3⟩ : ∃ M3, M3 = M := ⟨_, rfl⟩
    obtain ⟨c3, hc3⟩ : ∃ c3, c3 = c := ⟨_, rfl⟩
    have D3 : Hid (Blk W3 w1.heap.size #[.int .i64 f, .slice (some ⟨M3, 0, none⟩) rs.length c3] 26) := by rw [← hW3, hM3, hc3]; exact put4W_other (D2.out.grow HY.out) hMD
    have R3 : Hid (Blk W3 (w.heap.size + 1 + 1) #[.int .i64 0, .slice none 0 0] 26) := by rw [← hW3]; exact put4W_other (R2.out.grow HY.out) hMR
    have HAB3 : Hid (AB w.heap.size W3 M3 c3 (putA rs k (Mx, cx, mergeX (nthP P k) x))) := by
      rw [← hW3, hM3, hc3]
      exact (HAB2.out.grow HY.out).put hkr HOY.out (fun y hy => by have := (HAB2.out.rows y hy).lt; have := HO.out.2; show y.1 ≠ Mx; omega)
    have HB3 : Hid (Below w.heap.size w W3) := by rw [← hW3]; exact put4W_low (grow_on HB2.out HY.out) hMw
    simp only [put4W, mergeX] at hW3
    rw [hW3]
    clear hW3 hM3 hc3 hMD hMR hMw
    have c0 : W3.cell? ⟨w1.heap.size, 0, none⟩ = some (.int .i64 f) := D3.out.cell 0
    have c1 : W3.cell? ⟨w1.heap.size, 1, none⟩ = some (.slice (some ⟨M3, 0, none⟩) (rs.length) c3) := D3.out.cell 1
    have r0 : W3.cell? ⟨w.heap.size + 1 + 1, 0, none⟩ = some (.int .i64 0) := R3.out.cell 0
    have r1 : W3.cell? ⟨w.heap.size + 1 + 1, 1, none⟩ = some (.slice none 0 0) := R3.out.cell 1
    have f0 := R3.out.frozen 0
    have f1 := R3.out.frozen 1
    go_wp2
    have hs : Blk ((W3.setCell ⟨w.heap.size + 1 + 1, 0, none⟩ (.int .i64 f)).setCell ⟨w.heap.size + 1 + 1, 1, none⟩ (.slice (some ⟨M3, 0, none⟩) (rs.length) c3)) (w.heap.size + 1 + 1) #[.int .i64 f, .slice (some ⟨M3, 0, none⟩) (rs.length) c3] 26 := (R3.out.set 0 _).set 1 _
    have s0 := hs.cell 0
    have s1 := hs.cell 1
    refine bodyPost_ret (v := .tuple #[.agg #[.int .i64 f, .slice (some ⟨M3, 0, none⟩) (rs.length) c3], .bool false]) (by simp [results, Try.results9, go_sem, s0, s1]) rfl ?_
    exact ⟨⟨M3, c3, putA rs k (Mx, cx, mergeX (nthP P k) x), retC (by rw [putA_len]) HN.out, ab_set2 HAB3.out R3.out _ _, HPP.out _ _⟩, ChnP.set2 HB3.out (by omega) _ _⟩
end Go.Proofs.Ytcopckbpflmmeaa.ChnU
namespace Go.Proofs.Ytcopckbpflmmeaa.ChnV
open Go.RowKit
open Labs LabS Alms AlmS AlmM Over Blk App Rws ChnI ChnC ChnP ChnD

structure MidS (w : World) (f : Int) (a : Option Addr) (n cap : Nat) (W : World) (M1 c1 : Nat) (rs1 : List ARow) (M2 c2 : Nat) (rs2 : List ARow) : Prop where
  two : Two w.heap.size W M1 c1 rs1 M2 c2 rs2
  low : w.heap.size + 2 ≤ M1 ∧ w.heap.size + 2 ≤ M2
  bch : Blk W w.heap.size #[.int .i64 f, .slice a n cap] 26
  bres : Blk W (w.heap.size + 1) #[.int .i64 0, .slice none 0 0] 26
  bleft : Blk W (w.heap.size + 1 + 1 + 1) #[.int .i64 f, .slice (some ⟨M1, 0, none⟩) rs1.length c1] 26
  below : Below w.heap.size w W
theorem MidS.grow {w : World} {f : Int} {a : Option Addr} {n cap : Nat} {W W' : World} {M1 c1 : Nat} {rs1 : List ARow} {M2 c2 : Nat} {rs2 : List ARow} (h : MidS w f a n cap W M1 c1 rs1 M2 c2 rs2) (hb : Below W.heap.size W W') : MidS w f a n cap W' M1 c1 rs1 M2 c2 rs2 :=
  ⟨h.two.grow hb, h.low, h.bch.grow hb, h.bres.grow hb, h.bleft.grow hb, grow_on h.below hb⟩
theorem left_o {P : List PAl} {now : Int} {k : Nat} (h : k < P.length) (ho : overB (nthP P k).e now = true) : leftTo P now (k + 1) = leftTo P now k ∧ goneTo P now (k + 1) = goneTo P now k ++ [nthP P k] := by rw [left_up h, gone_up h, if_pos ho, if_pos ho]; simp
theorem left_k {P : List PAl} {now : Int} {k : Nat} (h : k < P.length) (ho : overB (nthP P k).e now = false) : leftTo P now (k + 1) = leftTo P now k ++ [nthP P k] ∧ goneTo P now (k + 1) = goneTo P now k := by rw [left_up h, gone_up h, ho]; simp
theorem to_le {P : List PAl} {now : Int} {k : Nat} (h : k ≤ P.length) : (leftTo P now k).length ≤ P.length ∧ (goneTo P now k).length ≤ P.length := by
  have h1 := drop_len P now k
  have h2 : (P.take k).length ≤ P.length := by simp; omega
  exact ⟨by omega, by omega⟩
set_option maxRecDepth 100000 in
set_option maxHeartbeats 2000000 in
theorem specDrop_any (f : Int) (a : Option Addr) (cap : Nat) (P : List PAl) (now : Int) (w : World) (hr : RdN w a P) (hl : P.length ≤ 1048576) (hs : LenM P) :
    Calls Try.prog 14 #[.agg #[.int .i64 f, .slice a P.length cap], .int .i64 now] w fun e w' => (∃ M1 c1 rs1 M2 c2 rs2, e = .returned (.tuple #[.agg #[.int .i64 f, .slice (some ⟨M1, 0, none⟩) rs1.length c1], .slice (some ⟨M2, 0, none⟩) rs2.length c2]) ∧ Two w.heap.size w' M1 c1 rs1 M2 c2 rs2 ∧ pals rs1 = leftTo P now P.length ∧ pals rs2 = goneTo P now P.length) ∧ Below w.heap.size w w' := by
  have HR : Hid (RdN w a P ∧ LenM P) := ⟨hr, hs⟩
  clear hr hs
  obtain ⟨i0, hi, hz0, hz1, hz2⟩ := info_parts infoA
  go_enter Try.func14, Try.ntmps14
  go_wp2
  go_loopw [7, 8] (fun v i w' => ∃ (k M1 c1 : Nat) (rs1 : List ARow) (M2 c2 : Nat) (rs2 : List ARow), i = .int .i64 k ∧ k ≤ P.length ∧ v = .slice (some ⟨M2, 0, none⟩) rs2.length c2 ∧ MidS w f a P.length cap w' M1 c1 rs1 M2 c2 rs2 ∧ pals rs1 = leftTo P now k ∧ pals rs2 = goneTo P now k) (fun _ i _ => P.length - (intOf i).toNat)
  case atStart =>
    exact ⟨0, w.heap.size + 1 + 1, 0, [], w.heap.size + 1 + 1 + 1 + 1, 0, [], rfl, Nat.zero_le _, rfl, ⟨⟨AB.nil (((Blk.new_at (by simp)).alloc _).alloc _) (by omega), AB.nil (Blk.new_at (by simp)) (by omega), by omega, fun x hx => by simp at hx⟩, ⟨by omega, by omega⟩, ((((Blk.new _ _ _).alloc _).alloc _).alloc _).alloc _, (((Blk.new_at (by simp)).alloc _).alloc _).alloc _, (Blk.new_at (by simp)).alloc _, ((Alm.below3 w _ _ _).alloc (by simp; omega) _).alloc (by simp; omega) _⟩, rfl, rfl⟩
  case round =>
    obtain ⟨k, M1, c1, rs1, M2, c2, rs2, rfl, hk, rfl, hm, hp1, hp2⟩ := hrel
    have HM : Hid (MidS w f a P.length cap wr M1 c1 rs1 M2 c2 rs2) := hm
    have HP : Hid (pals rs1 = leftTo P now k ∧ pals rs2 = goneTo P now k) := ⟨hp1, hp2⟩
    have hll := to_le (now := now) hk
    rw [← hp1, ← hp2, pals_len, pals_len] at hll
    have hl1 : rs1.length ≤ 1048576 := by omega
    have hl2 : rs2.length ≤ 1048576 := by omega
    have q1 : wr.cell? ⟨w.heap.size, 1, none⟩ = some (.slice a P.length cap) := hm.bch.cell 1
    clear hm hp1 hp2 hll
    by_cases hlt : k < P.length
    · have hlt' : (k : Int) < (P.length : Int) := by omega
      obtain ⟨b, off, rfl, hb, g, o, cp, hat⟩ := (HR.out.1.below HM.out.below).get hlt
      have h2 := hat.c0
      have h3 := hat.c1
      have h4 := hat.c2
      have h5 := hat.c3
      have HC : Hid (Calls Try.prog 49 #[.agg #[.slice (some ⟨g, o, none⟩) (nthP P k).l.length cp, .int .i64 (nthP P k).s, .int .i64 (nthP P k).e, .string (nthP P k).n]] wr fun r w' => (∃ Mx c, r = .returned (.agg #[.slice (some ⟨Mx, 0, none⟩) (nthP P k).l.length c, .int .i64 (nthP P k).s, .int .i64 (nthP P k).e, .string (nthP P k).n]) ∧ LabR.Own wr w' Mx (nthP P k).l) ∧ Below wr.heap.size wr w') := copyS_any _ _ _ _ _ _ _ wr hat.reads (HR.out.2 k hlt)
      clear hat
      go_wp2_with fail
      refine HC.out.mono ?_
      rintro e w1 ⟨⟨Mx, cx, rfl, hO⟩, hb1⟩
      have HM1 : Hid (MidS w f (some ⟨b, off, none⟩) P.length cap w1 M1 c1 rs1 M2 c2 rs2) := HM.out.grow hb1
      have HO : Hid (OwnA w.heap.size w1 (Mx, cx, nthP P k) ∧ wr.heap.size ≤ Mx) := ⟨(own_of_copy hO (HR.out.2 k hlt)).down HM.out.below.size, hO.1⟩
      clear hb1 hO h2 h3 h4 h5 HC q1
      have HV : ∀ y, Hid (Calls Try.prog 54 #[.agg #[.slice (some ⟨Mx, 0, none⟩) (nthP P k).l.length cx, .int .i64 (nthP P k).s, .int .i64 (nthP P k).e, .string (nthP P k).n], .int .i64 now] y fun r w' => r = .returned (.bool (overB (nthP P k).e now)) ∧ Below y.heap.size y w') := fun y => specOver_any _ _ _ _ _ _
      cases hov : overB (nthP P k).e now with
      | true =>
        rw [hov] at HV
        have HE := left_o hlt hov
        have HEE : Hid _ := HE
        clear hov HE
        go_wp2_with fail
        refine (HV _).out.mono ?_
        rintro e w2 ⟨rfl, hb2⟩
        have XB : Hid (Blk w2 w1.heap.size #[.slice (some ⟨Mx, 0, none⟩) (nthP P k).l.length cx, .int .i64 (nthP P k).s, .int .i64 (nthP P k).e, .string (nthP P k).n] 29) := (Blk.new _ _ _).grow hb2
        replace hb2 := grow_on (Go.Joins.below_alloc1 w1 _) hb2
        have HM2 : Hid (MidS w f (some ⟨b, off, none⟩) P.length cap w2 M1 c1 rs1 M2 c2 rs2) := HM1.out.grow hb2
        have HO2 : Hid (OwnA w.heap.size w2 (Mx, cx, nthP P k)) := HO.out.1.grow hb2
        obtain ⟨xs, hox, hxl, hxs⟩ := HM2.out.two.b.own
        have HOX : Hid (∀ o1, (w2.alloc o1).ownsRow w.heap.size 29 4 (.slice (some ⟨M2, 0, none⟩) rs2.length c2) rs2.length xs) := fun o1 => own_grow hox (Go.Joins.below_alloc1 w2 o1)
        have HXS : Hid (xs.length = rs2.length * 4 ∧ ∀ i, i < rs2.length → Four (fun k => xs[k]?) i (nthA rs2 i)) := ⟨hxl, hxs⟩
        have z0 : w2.cell? ⟨w1.heap.size, 0, none⟩ = some (.slice (some ⟨Mx, 0, none⟩) (nthP P k).l.length cx) := XB.out.cell 0
        have z1 : w2.cell? ⟨w1.heap.size, 1, none⟩ = some (.int .i64 (nthP P k).s) := XB.out.cell 1
        have z2 : w2.cell? ⟨w1.heap.size, 2, none⟩ = some (.int .i64 (nthP P k).e) := XB.out.cell 2
        have z3 : w2.cell? ⟨w1.heap.size, 3, none⟩ = some (.string (nthP P k).n) := XB.out.cell 3
        have d1 : w2.cell? ⟨w.heap.size + 1 + 1 + 1, 1, none⟩ = some (.slice (some ⟨M1, 0, none⟩) rs1.length c1) := HM2.out.bleft.cell 1
        clear hox hxl hxs hb2 HM1
        go_wp2_with (at_builtin; refine wpList_append_own_at _ rfl _ _ 24 rfl w.heap.size 29 i0 (.agg #[.slice none 0 0, .int .i64 0, .int .i64 0, .string ByteArray.empty]) 4 56 Try.underlying24 hi hz0 hz1 hz2 rfl (by decide) _ _ _ rfl (HOX.out _) ⟨w2.heap.size, 0, none⟩ 1 1 (rowV (Mx, cx, nthP P k)) rfl rfl ?c1 (row_one _) ?c3 ?c4 ?c5 ?_)
        case c1 => exact blk_news (Blk.new _ _ _)
        case c3 => unfold maxLen; omega
        case c4 => omega
        case c5 => have := HM2.out.below.size; simp; omega
        intro v' w3 hown hg hnil hat
        have hU := Go.Joins.below_alloc1 w2 (.cells #[.slice (some ⟨Mx, 0, none⟩) (nthP P k).l.length cx, .int .i64 (nthP P k).s, .int .i64 (nthP P k).e, .string (nthP P k).n] 29)
        obtain ⟨cu, hcu, _⟩ := (HM2.out.two.grow hU).b.outer
        have hat2 : v'.ownBlock = some M2 ∨ v'.ownBlock = some (w2.alloc (.cells #[.slice (some ⟨Mx, 0, none⟩) (nthP P k).l.length cx, .int .i64 (nthP P k).s, .int .i64 (nthP P k).e, .string (nthP P k).n] 29)).heap.size := by
          rcases hat with h | h
          · exact .inl h
          · exact .inr (by rw [h]; simp)
        have hlow : ∀ {M' n' c'}, v' = .slice (some ⟨M', 0, none⟩) n' c' → w.heap.size + 2 ≤ M' := fun e => mid_low (W := w2.alloc (.cells #[.slice (some ⟨Mx, 0, none⟩) (nthP P k).l.length cx, .int .i64 (nthP P k).s, .int .i64 (nthP P k).e, .string (nthP P k).n] 29)) hat2 e HM2.out.low.2 (by have := HM2.out.bleft.lt; simp; omega)
        obtain ⟨M3, c3, e3, hT⟩ := (HM2.out.two.grow hU).symm.app (HO2.out.grow hU) (fun y hy => by have := (HM.out.two.b.rows y hy).lt; have := HO.out.2; show y.1 ≠ Mx; omega) (fun y hy => by have := (HM.out.two.a.rows y hy).lt; have := HO.out.2; show y.1 ≠ Mx; omega) HXS.out.1 HXS.out.2 hown hg hat2
        have HLo : Hid (w.heap.size + 2 ≤ M3) := hlow e3
        subst e3
        have HT : Hid (Two w.heap.size w3 M1 c1 rs1 M3 c3 (rs2 ++ [(Mx, cx, nthP P k)])) := hT.symm
        have B0 : Hid (Blk w3 w.heap.size #[.int .i64 f, .slice (some ⟨b, off, none⟩) P.length cap] 26) := blk_far (HM2.out.bch.grow hU) hg (fun e => chain_alarm (HM2.out.bch.grow hU) hcu (Option.some.inj e))
        have B1 : Hid (Blk w3 (w.heap.size + 1) #[.int .i64 0, .slice none 0 0] 26) := blk_far (HM2.out.bres.grow hU) hg (fun e => chain_alarm (HM2.out.bres.grow hU) hcu (Option.some.inj e))
        have B3 : Hid (Blk w3 (w.heap.size + 1 + 1 + 1) #[.int .i64 f, .slice (some ⟨M1, 0, none⟩) rs1.length c1] 26) := blk_far (HM2.out.bleft.grow hU) hg (fun e => chain_alarm (HM2.out.bleft.grow hU) hcu (Option.some.inj e))
        have HB3 : Hid (Below w.heap.size w w3) := (grow_on HM2.out.below hU).grown hg (by have := HM2.out.below.size; simp; omega) (fun k e => by have h : M2 = k := Option.some.inj e; have := HM2.out.low; omega)
        have HL3 : Hid ((rs2 ++ [(Mx, cx, nthP P k)]).length = rs2.length + 1) := by show _ = _; simp
        clear hown hg hnil hat hat2 hT hlow hcu hU z0 z1 z2 z3 d1
        have HMid : Hid (MidS w f (some ⟨b, off, none⟩) P.length cap w3 M1 c1 rs1 M3 c3 (rs2 ++ [(Mx, cx, nthP P k)])) := ⟨HT.out, ⟨HM2.out.low.1, HLo.out⟩, B0.out, B1.out, B3.out, HB3.out⟩
        go_wp2
        go_roundw
        case rel => exact ⟨k + 1, M1, c1, rs1, M3, c3, _, by go_num, by omega, by rw [HL3.out], HMid.out, HP.out.1.trans HEE.out.1.symm, by rw [pals_app, HP.out.2, HEE.out.2]⟩
        case measure => simp [intOf]; omega
      | false =>
        rw [hov] at HV
        have HE := left_k hlt hov
        have HEE : Hid _ := HE
        clear hov HE
        go_wp2_with fail
        refine (HV _).out.mono ?_
        rintro e w2 ⟨rfl, hb2⟩
        have XB : Hid (Blk w2 w1.heap.size #[.slice (some ⟨Mx, 0, none⟩) (nthP P k).l.length cx, .int .i64 (nthP P k).s, .int .i64 (nthP P k).e, .string (nthP P k).n] 29) := (Blk.new _ _ _).grow hb2
        replace hb2 := grow_on (Go.Joins.below_alloc1 w1 _) hb2
        have HM2 : Hid (MidS w f (some ⟨b, off, none⟩) P.length cap w2 M1 c1 rs1 M2 c2 rs2) := HM1.out.grow hb2
        have HO2 : Hid (OwnA w.heap.size w2 (Mx, cx, nthP P k)) := HO.out.1.grow hb2
        obtain ⟨xs, hox, hxl, hxs⟩ := HM2.out.two.a.own
        have HOX : Hid (∀ o1, (w2.alloc o1).ownsRow w.heap.size 29 4 (.slice (some ⟨M1, 0, none⟩) rs1.length c1) rs1.length xs) := fun o1 => own_grow hox (Go.Joins.below_alloc1 w2 o1)
        have HXS : Hid (xs.length = rs1.length * 4 ∧ ∀ i, i < rs1.length → Four (fun k => xs[k]?) i (nthA rs1 i)) := ⟨hxl, hxs⟩
        have z0 : w2.cell? ⟨w1.heap.size, 0, none⟩ = some (.slice (some ⟨Mx, 0, none⟩) (nthP P k).l.length cx) := XB.out.cell 0
        have z1 : w2.cell? ⟨w1.heap.size, 1, none⟩ = some (.int .i64 (nthP P k).s) := XB.out.cell 1
        have z2 : w2.cell? ⟨w1.heap.size, 2, none⟩ = some (.int .i64 (nthP P k).e) := XB.out.cell 2
        have z3 : w2.cell? ⟨w1.heap.size, 3, none⟩ = some (.string (nthP P k).n) := XB.out.cell 3
        have d1 : w2.cell? ⟨w.heap.size + 1 + 1 + 1, 1, none⟩ = some (.slice (some ⟨M1, 0, none⟩) rs1.length c1) := HM2.out.bleft.cell 1
        clear hox hxl hxs hb2 HM1
        go_wp2_with (at_builtin; refine wpList_append_own_at _ rfl _ _ 24 rfl w.heap.size 29 i0 (.agg #[.slice none 0 0, .int .i64 0, .int .i64 0, .string ByteArray.empty]) 4 56 Try.underlying24 hi hz0 hz1 hz2 rfl (by decide) _ _ _ rfl (HOX.out _) ⟨w2.heap.size, 0, none⟩ 1 1 (rowV (Mx, cx, nthP P k)) rfl rfl ?c1 (row_one _) ?c3 ?c4 ?c5 ?_)
        case c1 => exact blk_news (Blk.new _ _ _)
        case c3 => unfold maxLen; omega
        case c4 => omega
        case c5 => have := HM2.out.below.size; simp; omega
        intro v' w3 hown hg hnil hat
        have hU := Go.Joins.below_alloc1 w2 (.cells #[.slice (some ⟨Mx, 0, none⟩) (nthP P k).l.length cx, .int .i64 (nthP P k).s, .int .i64 (nthP P k).e, .string (nthP P k).n] 29)
        obtain ⟨cu, hcu, _⟩ := (HM2.out.two.grow hU).a.outer
        have hat2 : v'.ownBlock = some M1 ∨ v'.ownBlock = some (w2.alloc (.cells #[.slice (some ⟨Mx, 0, none⟩) (nthP P k).l.length cx, .int .i64 (nthP P k).s, .int .i64 (nthP P k).e, .string (nthP P k).n] 29)).heap.size := by
          rcases hat with h | h
          · exact .inl h
          · exact .inr (by rw [h]; simp)
        have hlow : ∀ {M' n' c'}, v' = .slice (some ⟨M', 0, none⟩) n' c' → w.heap.size + 2 ≤ M' := fun e => mid_low (W := w2.alloc (.cells #[.slice (some ⟨Mx, 0, none⟩) (nthP P k).l.length cx, .int .i64 (nthP P k).s, .int .i64 (nthP P k).e, .string (nthP P k).n] 29)) hat2 e HM2.out.low.1 (by have := HM2.out.bleft.lt; simp; omega)
        obtain ⟨M3, c3, e3, hT⟩ := (HM2.out.two.grow hU).app (HO2.out.grow hU) (fun y hy => by have := (HM.out.two.a.rows y hy).lt; have := HO.out.2; show y.1 ≠ Mx; omega) (fun y hy => by have := (HM.out.two.b.rows y hy).lt; have := HO.out.2; show y.1 ≠ Mx; omega) HXS.out.1 HXS.out.2 hown hg hat2
        have HLo : Hid (w.heap.size + 2 ≤ M3) := hlow e3
        subst e3
        have HT : Hid (Two w.heap.size w3 M3 c3 (rs1 ++ [(Mx, cx, nthP P k)]) M2 c2 rs2) := hT
        have B0 : Hid (Blk w3 w.heap.size #[.int .i64 f, .slice (some ⟨b, off, none⟩) P.length cap] 26) := blk_far (HM2.out.bch.grow hU) hg (fun e => chain_alarm (HM2.out.bch.grow hU) hcu (Option.some.inj e))
        have B1 : Hid (Blk w3 (w.heap.size + 1) #[.int .i64 0, .slice none 0 0] 26) := blk_far (HM2.out.bres.grow hU) hg (fun e => chain_alarm (HM2.out.bres.grow hU) hcu (Option.some.inj e))
        have B3 : Hid (Blk w3 (w.heap.size + 1 + 1 + 1) #[.int .i64 f, .slice (some ⟨M1, 0, none⟩) rs1.length c1] 26) := blk_far (HM2.out.bleft.grow hU) hg (fun e => chain_alarm (HM2.out.bleft.grow hU) hcu (Option.some.inj e))
        have HB3 : Hid (Below w.heap.size w w3) := (grow_on HM2.out.below hU).grown hg (by have := HM2.out.below.size; simp; omega) (fun k e => by have h : M1 = k := Option.some.inj e; have := HM2.out.low; omega)
        have HL3 : Hid ((rs1 ++ [(Mx, cx, nthP P k)]).length = rs1.length + 1) := by show _ = _; simp
        clear hown hg hnil hat hat2 hT hlow hcu hU z0 z1 z2 z3 d1
        have d3 : w3.cell? ⟨w.heap.size + 1 + 1 + 1, 1, none⟩ = some (.slice (some ⟨M1, 0, none⟩) rs1.length c1) := B3.out.cell 1
        have fd3 := B3.out.frozen 1
        have HMid : Hid (MidS w f (some ⟨b, off, none⟩) P.length cap (w3.setCell ⟨w.heap.size + 1 + 1 + 1, 1, none⟩ (.slice (some ⟨M3, 0, none⟩) (rs1.length + 1) c3)) M3 c3 (rs1 ++ [(Mx, cx, nthP P k)]) M2 c2 rs2) := ⟨HT.out.moved (fun k => k.set_other (chain_alarm B3.out k) _) (fun k => k.set_other (chain_label B3.out k) _), ⟨HLo.out, HM2.out.low.2⟩, B0.out.set_other (by show w.heap.size + 1 + 1 + 1 ≠ w.heap.size; omega) _, B1.out.set_other (by show w.heap.size + 1 + 1 + 1 ≠ w.heap.size + 1; omega) _, by have := B3.out.set 1 (.slice (some ⟨M3, 0, none⟩) (rs1.length + 1) c3); rw [HL3.out]; exact this, set_low HB3.out (by omega) _ _⟩
        go_wp2
        go_roundw
        case rel => exact ⟨k + 1, M3, c3, _, M2, c2, rs2, by go_num, by omega, rfl, HMid.out, by rw [pals_app, HP.out.1, HEE.out.1], HP.out.2.trans HEE.out.2.symm⟩
        case measure => simp [intOf]; omega
    · have hge : ¬ (k : Int) < (P.length : Int) := by omega
      have HF : Hid (pals rs1 = leftTo P now P.length ∧ pals rs2 = goneTo P now P.length) := by
        have e : k = P.length := by omega
        have := HP.out
        rwa [e] at this
      have l0 : wr.cell? ⟨w.heap.size + 1 + 1 + 1, 0, none⟩ = some (.int .i64 f) := HM.out.bleft.cell 0
      have l1 : wr.cell? ⟨w.heap.size + 1 + 1 + 1, 1, none⟩ = some (.slice (some ⟨M1, 0, none⟩) rs1.length c1) := HM.out.bleft.cell 1
      have r0 : wr.cell? ⟨w.heap.size + 1, 0, none⟩ = some (.int .i64 0) := HM.out.bres.cell 0
      have r1 : wr.cell? ⟨w.heap.size + 1, 1, none⟩ = some (.slice none 0 0) := HM.out.bres.cell 1
      have f0 := HM.out.bres.frozen 0
      have f1 := HM.out.bres.frozen 1
      go_wp2
      have hs : Blk ((wr.setCell ⟨w.heap.size + 1, 0, none⟩ (.int .i64 f)).setCell ⟨w.heap.size + 1, 1, none⟩ (.slice (some ⟨M1, 0, none⟩) rs1.length c1)) (w.heap.size + 1) #[.int .i64 f, .slice (some ⟨M1, 0, none⟩) rs1.length c1] 26 := (HM.out.bres.set 0 _).set 1 _
      have s0 := hs.cell 0
      have s1 := hs.cell 1
      refine bodyPost_ret (v := .tuple #[.agg #[.int .i64 f, .slice (some ⟨M1, 0, none⟩) rs1.length c1], .slice (some ⟨M2, 0, none⟩) rs2.length c2]) (by simp [results, Try.results14, go_sem, s0, s1]) rfl ?_
      exact ⟨⟨M1, c1, rs1, M2, c2, rs2, rfl, HM.out.two.moved (fun k => (k.set_other (chain_alarm HM.out.bres k) _).set_other (chain_alarm HM.out.bres k) _) (fun k => (k.set_other (chain_label HM.out.bres k) _).set_other (chain_label HM.out.bres k) _), HF.out⟩, ChnP.set2 HM.out.below (by omega) _ _⟩
end Go.Proofs.Ytcopckbpflmmeaa.ChnV
namespace Go.Proofs.Ytcopckbpflmmeaa.AlmK
open Go.RowKit
open Labs LabS Alm Over Blk Go.Proofs.Ytcopckbpflmmeaa.Mark

end Go.Proofs.Ytcopckbpflmmeaa.AlmK
namespace Go.Proofs.Ytcopckbpflmmeaa.ChnK
open Go.RowKit
open Labs LabS Alms AlmM Over Blk App Rws
open AlmS ChnI ChnC ChnP
open Go.Proofs.Ytcopckbpflmmeaa.Mark (Apart Marked)
open StrB (retB)
open Alm (at_par)
open LabT (Held held_reads)
theorem fits_of {P : List PAl} (h : ∀ x ∈ P, FitA x) : FitsP P := fun i hi => by rw [nthP_eq hi]; exact h _ (List.getElem_mem _)
end Go.Proofs.Ytcopckbpflmmeaa.ChnK
namespace Go.Proofs.Ytcopckbpflmmeaa.ChnK
open Go.RowKit
open Go.ChangeShapes Go.WideShapes
open Labs LabS Alms AlmS AlmM Over Blk App Rws ChnC ChnP ChnD
open Go.Proofs.Ytcopckbpflmmeaa.Mark (Apart Marked)
open StrB (retB)
open Alm (at_par)
open LabT (Held held_reads)

theorem fit_merge {x a : PAl} (hx : FitA x) (ha : FitA a) : FitA (mergeX x a) := by
  refine ⟨ha.len, ha.fits, ?_, ha.eb, ha.note⟩
  have h1 := hx.sb
  have h2 := ha.sb
  show -9223372036854775808 ≤ startB x.s x.e a.s a.e ∧ startB x.s x.e a.s a.e ≤ 9223372036854775807
  unfold startB leastB
  split
  · split <;> omega
  · omega
theorem sumL_set {P : List PAl} {k : Nat} {x : PAl} (h : k < P.length) : sumL (P.set k x) ≤ sumL P + x.l.length := by
  induction P generalizing k with
  | nil => simp at h
  | cons y P ih =>
    cases k with
    | zero => simp only [List.set_cons_zero, sumL]; omega
    | succ k =>
      simp only [List.set_cons_succ, sumL]
      have := ih (k := k) (by simpa using h)
      omega
theorem put_sum (P : List PAl) (a : PAl) : sumL (putL P a) ≤ sumL P + a.l.length ∧ (putL P a).length ≤ P.length + 1 := by
  rcases idxTo_cases P a.l P.length with hm | ⟨k, h0, h1, h2⟩
  · rw [(put_miss hm).1, sum_app]; simp [sumL]
  · rw [(put_hit h2 h1 h0).1]
    have := sumL_set (x := mergeX (nthP P k) a) h0
    exact ⟨this, by simp⟩
end Go.Proofs.Ytcopckbpflmmeaa.ChnK
namespace Go.Proofs.Ytcopckbpflmmeaa.Draw
open Go.RowKit StrB

theorem Kept.grown {c : Nat} {w w' : World} (h : Kept c w w') : w.grownBy w' (some c) :=
  ⟨h.os, h.tape, h.output, h.size, fun k hk hne => h.block k hk (fun e => hne (by rw [e]))⟩
theorem Bytes.grown {w w' : World} {a : Option Addr} {len c : Nat} {row : Option Nat} (h : Bytes w a len c) (hg : w.grownBy w' row) (hr : ∀ k, row = some k → c < k) (hc : c ≤ w.heap.size) : Bytes w' a len c := by
  rcases h with h | ⟨b, off, rfl, hb, hz⟩
  · exact .inl h
  · exact .inr ⟨b, off, rfl, hb, fun j hj => by
      obtain ⟨z, h1, h2⟩ := hz j hj
      exact ⟨z, hg.cell h1 (fun e => by have := hr b e.symm; omega), h2⟩⟩
theorem Cur.grown {w w' : World} {c : Nat} {row : Option Nat} (h : Cur w c) (hg : w.grownBy w' row) (hr : ∀ k, row = some k → c < k) : Cur w' c := by
  obtain ⟨a, len, cap, i, h, h0, h1, h2, f1, f2, hi, hl, hb, hlt⟩ := h
  have hne : some c ≠ row := fun e => by have := hr c e.symm; omega
  have hblk := hg.block c hlt hne
  exact ⟨a, len, cap, i, h, hg.cell h0 hne, hg.cell h1 hne, hg.cell h2 hne, by rw [World.frozen?_of_block (w := w) (a := ⟨c, 1, none⟩) hblk]; exact f1, by rw [World.frozen?_of_block (w := w) (a := ⟨c, 2, none⟩) hblk]; exact f2, hi, hl, hb.grown hg hr (by omega), Nat.lt_of_lt_of_le hlt hg.size⟩
theorem Row.grown {p : Value → Bool} {w w' : World} {a : Addr} {len c : Nat} {row : Option Nat} (h : Row p w a len c) (hg : w.grownBy w' row) (hr : some a.block ≠ row) : Row p w' a len c :=
  ⟨h.1, h.2.1, Nat.lt_of_lt_of_le h.2.2.1 hg.size, fun j hj => by
    obtain ⟨v, h1, h2⟩ := h.2.2.2 j hj
    exact ⟨v, hg.cell (a := ⟨a.block, a.off + j, none⟩) h1 hr, h2⟩⟩

theorem row_lit_at {p : Value → Bool} {w : World} {arr : Array Value} {T : TypeId} {c n b : Nat} (h : arr.toList.all p = true) (hn : arr.size = n) (hc : c < w.heap.size) (hb : b = w.heap.size) : Row p (w.alloc (.cells arr T)) ⟨b, 0, none⟩ n c := by
  subst hb
  exact row_lit h hn hc
end Go.Proofs.Ytcopckbpflmmeaa.Draw
namespace Go.Proofs.Ytcopckbpflmmeaa.DrawL
open Go.RowKit
open Draw
open Labs LabS LabR Over Blk App
open LabT (infoL)

def Small (p : List Lab) : Prop := ∀ x ∈ p, x.1.size ≤ 100 ∧ x.2.size ≤ 100
theorem small_app {p q : List Lab} (h : Small p) (k : Small q) : Small (p ++ q) := fun x hx => by
  rcases List.mem_append.1 hx with h1 | h1
  · exact h x h1
  · exact k x h1
theorem small_one {a b : ByteArray} (h : a.size ≤ 100) (k : b.size ≤ 100) : Small [(a, b)] := fun x hx => by
  have : x = (a, b) := by simpa using hx
  subst this; exact ⟨h, k⟩
theorem small_nil : Small [] := fun x hx => by simp at hx
theorem flat_app (p q : List Lab) : flat (p ++ q) = flat p ++ flat q := by
  induction p with
  | nil => rfl
  | cons x p ih => rw [List.cons_append, flat, ih]; rfl

structure LSt (w : World) (c : Nat) (wr : World) (v : Value) (p : List Lab) : Prop where
  own : wr.ownsRow w.heap.size 125 2 v p.length (flat p)
  lies : ∃ g cap, v = .slice (some ⟨g, 0, none⟩) p.length cap
  cur : Cur wr c
  kept : Kept c w wr
  clt : c < w.heap.size
  fit : Small p
theorem LSt.lt {w : World} {c : Nat} {wr : World} {v : Value} {p : List Lab} (h : LSt w c wr v p) : ∀ k, v.ownBlock = some k → c < k := fun k hk => by
  have := (h.own.lt k hk).1; have := h.clt; omega
theorem LSt.keep {w : World} {c : Nat} {wr w' : World} {v : Value} {p : List Lab} (h : LSt w c wr v p) (hc : Cur w' c) (hk : Kept c wr w') : LSt w c w' v p :=
  ⟨h.own.kept hk.grown (by
      cases hv : v.ownBlock with
      | none => exact .inl rfl
      | some k => exact .inr (fun e => by have := h.lt k hv; cases e; omega)), h.lies, hc, h.kept.trans hk, h.clt, h.fit⟩
theorem LSt.alloc {w : World} {c : Nat} {wr : World} {v : Value} {p : List Lab} (h : LSt w c wr v p) (o : Obj) : LSt w c (wr.alloc o) v p :=
  h.keep (h.cur.alloc o) ((Kept.refl c wr).alloc o)
theorem kept_grown {c B : Nat} {w W w' : World} {row : Option Nat} (h : Kept c w W) (hg : W.grownBy w' row) (hr : ∀ k, row = some k → w.heap.size ≤ k) : Kept c w w' :=
  ⟨hg.os.trans h.os, hg.tape.trans h.tape, hg.output.trans h.output, Nat.le_trans h.size hg.size, fun k hk hc => (hg.block k (Nat.lt_of_lt_of_le hk h.size) (fun e => by have := hr k e.symm; omega)).trans (h.block k hk hc)⟩
theorem own_form {w : World} {B : Nat} {v : Value} {p : List Lab} (h : w.ownsRow B 125 2 v p.length (flat p)) (hp : 0 < p.length) : ∃ g cap, v = .slice (some ⟨g, 0, none⟩) p.length cap := by
  obtain ⟨g, c, e, _⟩ := h.form hp
  exact ⟨g, c, e⟩
theorem LSt.add {w : World} {c : Nat} {W w' : World} {v v' : Value} {p q : List Lab} {n m : Nat} {xs ys : List Value} (h : LSt w c W v p) (hn : n = p.length) (hm : m = q.length) (hx : xs = flat p) (hy : ys = flat q) (hf : Small q) (hq : 0 < q.length)
    (hown : w'.ownsRow w.heap.size 125 2 v' (n + m) (xs ++ ys)) (hg : W.grownBy w' v.ownBlock) : LSt w c w' v' (p ++ q) := by
  subst hn hm hx hy
  have ho : w'.ownsRow w.heap.size 125 2 v' (p ++ q).length (flat (p ++ q)) := by rw [flat_app, List.length_append]; exact hown
  exact ⟨ho, own_form ho (by simp; omega), h.cur.grown hg h.lt, kept_grown (B := 0) h.kept hg (fun k hk => (h.own.lt k hk).1), h.clt, small_app h.fit hf⟩
theorem LSt.cells {w : World} {c : Nat} {wr : World} {g cap : Nat} {p : List Lab} {n : Nat} (h : LSt w c wr (.slice (some ⟨g, 0, none⟩) n cap) p) {m : Nat} (hm : m < p.length) : wr.cell? ⟨g, m * 2, none⟩ = some (.string (nth p m).1) ∧ wr.cell? ⟨g, m * 2 + 1, none⟩ = some (.string (nth p m).2) := by
  have ea : ∀ j, (⟨g, 0, none⟩ : Addr).add j = ⟨g, j, none⟩ := fun j => by by_cases h : j = 0 <;> simp [Addr.add, h]
  have h0 := h.own.cells (g := g) rfl (m * 2) _ (flat_get p m hm).1
  have h1 := h.own.cells (g := g) rfl (m * 2 + 1) _ (flat_get p m hm).2
  rw [ea] at h0 h1
  exact ⟨h0, h1⟩
theorem LSt.blk {w : World} {c : Nat} {wr : World} {g cap : Nat} {p : List Lab} {n : Nat} (h : LSt w c wr (.slice (some ⟨g, 0, none⟩) n cap) p) : w.heap.size ≤ g ∧ g < wr.heap.size := h.own.lt g rfl
theorem LSt.warm {w : World} {c : Nat} {wr : World} {g cap : Nat} {p : List Lab} {n : Nat} (h : LSt w c wr (.slice (some ⟨g, 0, none⟩) n cap) p) (i : Nat) : wr.frozen? ⟨g, i, none⟩ = false := by
  rcases h.own.2 with ⟨e, _⟩ | ⟨g', cap', cur, e, _, hg, _⟩
  · cases e
  · cases e; exact Blk.frozen (T := 125) hg i
theorem own_one {w : World} {B M : Nat} {x : Lab} (h : Blk w M #[.string x.1, .string x.2] 125) (hB : B ≤ M) : w.ownsRow B 125 2 (.slice (some ⟨M, 0, none⟩) 1 1) 1 (flat [x]) :=
  ⟨rfl, .inr ⟨M, 1, _, rfl, hB, h, Nat.le_refl _, by simp [maxLen], rfl, rfl⟩⟩
theorem lst_one {w : World} {c : Nat} {W : World} {x : Lab} (hc : Cur W c) (hk : Kept c w W) (hcl : c < w.heap.size) (hs : x.1.size ≤ 100 ∧ x.2.size ≤ 100) : LSt w c (W.alloc (.cells #[.string x.1, .string x.2] 125)) (.slice (some ⟨W.heap.size, 0, none⟩) 1 1) [x] :=
  ⟨own_one (Blk.new _ _ _) hk.size, ⟨_, _, rfl⟩, hc.alloc _, hk.alloc _, hcl, small_one hs.1 hs.2⟩

structure LLit (w : World) (c lit k : Nat) (wr : World) (v : Value) (p : List Lab) : Prop where
  st : LSt w c wr v p
  row : Row isStr wr ⟨lit, 0, none⟩ k c
  ne : v.ownBlock ≠ some lit
theorem LLit.keep {w : World} {c lit k : Nat} {wr w' : World} {v : Value} {p : List Lab} (h : LLit w c lit k wr v p) (hc : Cur w' c) (hk : Kept c wr w') : LLit w c lit k w' v p :=
  ⟨h.st.keep hc hk, h.row.keep hk, h.ne⟩
theorem LLit.alloc {w : World} {c lit k : Nat} {wr : World} {v : Value} {p : List Lab} (h : LLit w c lit k wr v p) (o : Obj) : LLit w c lit k (wr.alloc o) v p :=
  h.keep (h.st.cur.alloc o) ((Kept.refl c wr).alloc o)
theorem LLit.add {w : World} {c lit k : Nat} {W w' : World} {v v' : Value} {p q : List Lab} {n m : Nat} {xs ys : List Value} (h : LLit w c lit k W v p) (hn : n = p.length) (hm : m = q.length) (hx : xs = flat p) (hy : ys = flat q) (hf : Small q) (hq : 0 < q.length)
    (hown : w'.ownsRow w.heap.size 125 2 v' (n + m) (xs ++ ys)) (hg : W.grownBy w' v.ownBlock) (N : Nat) (hN : N = W.heap.size) (hat : v'.ownBlock = v.ownBlock ∨ v'.ownBlock = some N) : LLit w c lit k w' v' (p ++ q) := by
  subst hN
  refine ⟨h.st.add hn hm hx hy hf hq hown hg, h.row.grown hg (fun e => h.ne e.symm), ?_⟩
  rcases hat with hat | hat
  · rw [hat]; exact h.ne
  · rw [hat]; intro e; have hlt : lit < W.heap.size := h.row.2.2.1; cases e; omega

set_option maxHeartbeats 1600000 in
theorem l2Draw_any (c : Nat) (w : World) (hc : Cur w c) :
    Calls Try.prog 55 #[.pointer (some ⟨c, 0, none⟩)] w fun e w' => ∃ v, e = .returned v ∧ ∃ p, LSt w c w' v p ∧ 1 ≤ p.length ∧ p.length ≤ 4 := by
  have HC : Hid (Cur w c) := hc
  have HL : Hid (c < w.heap.size) := hc.lt
  clear hc
  obtain ⟨i0, hi, hz0, hz1, hz2⟩ := info_parts infoL
  go_enter Try.func55, Try.ntmps55
  go_wp2_with fail
  refine (str_any c w.heap.size 0 3 3 _ (HC.out.alloc _) ?_ (by decide) (by decide)).mono ?_
  · exact row_lit (by decide) rfl HL.out
  rintro e w1 ⟨⟨s, rfl, hs⟩, hc1, hk1⟩
  have HK1 : Hid (Kept c w w1) := ((Kept.refl c w).alloc _).trans hk1
  have HC1 : Hid (Cur w1 c) := hc1
  clear hc1 hk1
  go_wp2_with fail
  go_loopw [3, 13] (fun v i wr => ∃ (k : Nat) (p : List Lab), k ≤ 3 ∧ i = .int .i64 k ∧ 1 ≤ p.length ∧ p.length ≤ k + 1 ∧ LLit w c (w1.heap.size + 1) 3 wr v p) (fun _ i _ => 3 - (intOf i).toNat)
  case atStart =>
    refine ⟨0, [(⟨#[97, 112, 112]⟩, s)], by omega, rfl, by simp, by simp, ⟨(lst_one (x := (⟨#[97, 112, 112]⟩, s)) HC1.out HK1.out HL.out ⟨show (ByteArray.mk #[97, 112, 112]).size ≤ 100 by decide, hs⟩).alloc _, ?_, by simp [Value.ownBlock]⟩⟩
    refine row_lit_at (p := isStr) ?_ rfl ?_ (by simp)
    · decide
    · have := HK1.out.size; have := HL.out; simp; omega
  case round =>
    obtain ⟨k, p, hk, rfl, hp1, hp2, hst⟩ := hrel
    have HS : Hid (LLit w c (w1.heap.size + 1) 3 wr u3 p) := hst
    clear hst
    by_cases hlt : k < 3
    · have hlt' : (k : Int) < 3 := by omega
      obtain ⟨v, hv, hp⟩ := HS.out.row.2.2.2 k hlt
      obtain ⟨t, rfl, ht⟩ := str_of hp
      have hv' : wr.cell? ⟨w1.heap.size + 1, k, none⟩ = some (.string t) := by simpa using hv
      clear hv hp
      go_wp2_with fail
      refine (once_any _ 4 _ HS.out.st.cur (by decide) (by decide)).mono ?_
      rintro e w2 ⟨⟨b, rfl⟩, hc2, hk2⟩
      have HS2 : Hid (LLit w c (w1.heap.size + 1) 3 w2 u3 p) := HS.out.keep hc2 hk2
      clear hc2 hk2 hv'
      cases b with
      | true =>
        go_wp2_with fail
        refine (str_any c w2.heap.size 0 2 2 _ (HS2.out.st.cur.alloc _) ?_ (by decide) (by decide)).mono ?_
        · exact row_lit (by decide) rfl HS2.out.st.cur.lt
        rintro e w3 ⟨⟨y, rfl, hy⟩, hc3, hk3⟩
        have HS3 : Hid (LLit w c (w1.heap.size + 1) 3 w3 u3 p) := (HS2.out.alloc _).keep hc3 hk3
        clear hc3 hk3
        go_wp2_with (at_builtin; refine wpList_append_own_at _ rfl _ _ 27 rfl w.heap.size 125 i0 (.agg #[.string ByteArray.empty, .string ByteArray.empty]) 2 32 Try.underlying27 hi hz0 hz1 hz2 rfl (by decide) _ _ _ rfl (HS3.out.alloc _).st.own ⟨w3.heap.size, 0, none⟩ 1 1 [.string t, .string y] rfl rfl ?c1 ?c2 ?c3 ?c4 ?c5 ?_)
        case c1 => exact blk_news (Blk.new _ _ _)
        case c2 => exact flat_one [(t, y)]
        case c3 => unfold maxLen; omega
        case c4 => omega
        case c5 => have := HS3.out.st.kept.size; simp; omega
        intro v' w4 hown hg _ hat
        have HS4 : Hid (LLit w c (w1.heap.size + 1) 3 w4 v' (p ++ [(t, y)])) := (HS3.out.alloc _).add (q := [(t, y)]) rfl rfl rfl rfl (small_one ht hy) (by simp) hown hg _ (by simp) hat
        clear hown hg hat
        go_wp2
        go_roundw
        case rel => exact ⟨k + 1, p ++ [(t, y)], by omega, by go_num, by simp, by simp; omega, HS4.out⟩
        case measure => simp [intOf]; omega
      | false =>
        go_wp2
        go_roundw
        case rel => exact ⟨k + 1, p, by omega, by go_num, hp1, by omega, HS2.out⟩
        case measure => simp [intOf]; omega
    · have hge : ¬ (k : Int) < 3 := by omega
      go_wp2
      go_ret
      exact ⟨_, rfl, p, HS.out.st, hp1, by omega⟩

theorem grown_set (w : World) (g i : Nat) (v : Value) : w.grownBy (w.setCell ⟨g, i, none⟩ v) (some g) :=
  ⟨rfl, rfl, rfl, by simp [World.setCell], fun k _ hne => Below.heap_setCell _ _ _ _ (fun e => hne (by rw [e]))⟩
theorem LSt.put {w : World} {c : Nat} {wr : World} {g cap n : Nat} {p : List Lab} (h : LSt w c wr (.slice (some ⟨g, 0, none⟩) n cap) p) (hp : 0 < p.length) (s : ByteArray) (hs : s.size ≤ 100) :
    LSt w c (wr.setCell ⟨g, 1, none⟩ (.string s)) (.slice (some ⟨g, 0, none⟩) n cap) (((nth p 0).1, s) :: p.tail) := by
  obtain ⟨x, q, rfl⟩ : ∃ x q, p = x :: q := by cases p with | nil => simp at hp | cons x q => exact ⟨x, q, rfl⟩
  have hgl := h.blk
  have hgc : c ≠ g := by have := h.clt; omega
  refine ⟨⟨by simp [flat_len], ?_⟩, h.lies, ?_, ?_, h.clt, ?_⟩
  · rcases h.own.2 with ⟨e, _⟩ | ⟨g', cap', cur, e, hb, hg, hn, hcm, hcs, ht⟩
    · cases e
    · cases e
      refine .inr ⟨g, cap, cur.setIfInBounds 1 (.string s), rfl, hb, ?_, hn, hcm, by simpa using hcs, ?_⟩
      · exact Blk.set (T := 125) hg 1 (.string s)
      · rw [Array.toList_setIfInBounds, List.take_set]
        show (List.take ((x :: q).length * 2) cur.toList).set 1 (.string s) = flat ((x.1, s) :: q)
        rw [ht]
        rfl
  · exact h.cur.grown (grown_set wr g 1 _) (fun k hk => by cases hk; have := h.clt; omega)
  · exact kept_grown (B := 0) h.kept (grown_set wr g 1 _) (fun k hk => by cases hk; exact hgl.1)
  · intro y hy
    rcases List.mem_cons.1 hy with rfl | hy
    · exact ⟨(h.fit x (by simp)).1, hs⟩
    · exact h.fit y (by simp [show y ∈ q from hy])
theorem LSt.none_new {w : World} {c : Nat} {W : World} (hc : Cur W c) (hk : Kept c w W) (hcl : c < w.heap.size) : LSt w c (W.alloc (.cells #[] 125)) (.slice (some ⟨W.heap.size, 0, none⟩) 0 0) [] :=
  ⟨own_empty (Blk.new _ _ _) hk.size, ⟨_, _, rfl⟩, hc.alloc _, hk.alloc _, hcl, small_nil⟩

theorem LSt.ahead {w : World} {c : Nat} {W w' : World} {v v' : Value} {x : Lab} {p : List Lab} {xs ys : List Value} {n m : Nat} (h : LSt w c W v p) {u : Value} (hu : W.ownsRow w.heap.size 125 2 u n xs) (hn : n = 1) (hm : m = p.length) (hx : xs = flat [x]) (hy : ys = flat p) (hs : Small [x])
    (hown : w'.ownsRow w.heap.size 125 2 v' (n + m) (xs ++ ys)) (hg : W.grownBy w' u.ownBlock) : LSt w c w' v' (x :: p) := by
  subst hn hm hx hy
  have ho : w'.ownsRow w.heap.size 125 2 v' (x :: p).length (flat (x :: p)) := by
    rw [List.length_cons, Nat.add_comm]; exact hown
  exact ⟨ho, own_form ho (by simp), h.cur.grown hg (fun k hk => by have := (hu.lt k hk).1; have := h.clt; omega), kept_grown (B := 0) h.kept hg (fun k hk => (hu.lt k hk).1), h.clt, by
    intro y hy
    rcases List.mem_cons.1 hy with rfl | hy
    · exact hs _ (by simp)
    · exact h.fit y hy⟩
theorem LSt.src {w : World} {c : Nat} {wr : World} {g cap n : Nat} {p : List Lab} (h : LSt w c wr (.slice (some ⟨g, 0, none⟩) n cap) p) : ∀ j u, (flat p)[j]? = some u → wr.cell? ((⟨g, 0, none⟩ : Addr).add j) = some u := h.own.cells (g := g) rfl

set_option maxHeartbeats 1600000 in
theorem l2Any_any (c : Nat) (w : World) (hc : Cur w c) :
    Calls Try.prog 116 #[.pointer (some ⟨c, 0, none⟩)] w fun e w' => ∃ v, e = .returned v ∧ ∃ p, LSt w c w' v p ∧ p.length ≤ 8 := by
  have HC : Hid (Cur w c) := hc
  have HL : Hid (c < w.heap.size) := hc.lt
  clear hc
  obtain ⟨i0, hi, hz0, hz1, hz2⟩ := info_parts infoL
  go_enter Try.func116, Try.ntmps116
  go_wp2_with fail
  refine (l2Draw_any c w HC.out).mono ?_
  rintro e w1 ⟨v, rfl, p, hst, hp1, hp2⟩
  obtain ⟨g, cap, rfl⟩ := hst.lies
  have HS1 : Hid (LSt w c w1 (.slice (some ⟨g, 0, none⟩) p.length cap) p) := hst
  clear hst
  go_wp2_with fail
  refine (below_any c 10 _ HS1.out.cur (by decide) (by decide)).mono ?_
  rintro e w2 ⟨⟨x, rfl, hx0, hx1⟩, hc2, hk2⟩
  have HS2 : Hid (LSt w c w2 (.slice (some ⟨g, 0, none⟩) p.length cap) p) := HS1.out.keep hc2 hk2
  clear hc2 hk2
  by_cases e0 : x = 0
  · subst e0
    go_wp2_with fail
    refine (anyName_any c _ HS2.out.cur).mono ?_
    rintro e w3 ⟨⟨s, rfl, hs⟩, hc3, hk3⟩
    have HS3 : Hid (LSt w c w3 (.slice (some ⟨g, 0, none⟩) p.length cap) p) := HS2.out.keep hc3 hk3
    clear hc3 hk3
    go_wp2_with fail
    refine (anyPlain_any c _ HS3.out.cur).mono ?_
    rintro e w4 ⟨⟨t, rfl, ht⟩, hc4, hk4⟩
    have HS4 : Hid (LSt w c w4 (.slice (some ⟨g, 0, none⟩) p.length cap) p) := HS3.out.keep hc4 hk4
    clear hc4 hk4
    go_wp2_with (at_builtin; refine wpList_append_own_at _ rfl _ _ 27 rfl w.heap.size 125 i0 (.agg #[.string ByteArray.empty, .string ByteArray.empty]) 2 32 Try.underlying27 hi hz0 hz1 hz2 rfl (by decide) _ _ _ rfl (HS4.out.alloc _).own ⟨w4.heap.size, 0, none⟩ 1 1 [.string s, .string t] rfl rfl ?c1 ?c2 ?c3 ?c4 ?c5 ?_)
    case c1 => exact blk_news (Blk.new _ _ _)
    case c2 => exact flat_one [(s, t)]
    case c3 => unfold maxLen; omega
    case c4 => omega
    case c5 => have := HS4.out.kept.size; simp; omega
    intro v' w5 hown hg _ hat
    have HS5 : Hid (LSt w c w5 v' (p ++ [(s, t)])) := (HS4.out.alloc _).add (q := [(s, t)]) rfl rfl rfl rfl (small_one hs ht) (by simp) hown hg
    clear hown hg hat
    go_wp2
    go_ret
    exact ⟨_, rfl, _, HS5.out, by simp; omega⟩
  have d0 : (x == 0) = false := by simpa using e0
  by_cases e1 : x = 1
  · subst e1
    have HB : Hid (Blk (w2.alloc (.cells #[.string ⟨#[122, 122]⟩, .string ⟨#[49]⟩] 125)) w2.heap.size #[.string ⟨#[122, 122]⟩, .string ⟨#[49]⟩] 125) := Blk.new _ _ _
    have HO : Hid ((w2.alloc (.cells #[.string ⟨#[122, 122]⟩, .string ⟨#[49]⟩] 125)).ownsRow w.heap.size 125 2 (.slice (some ⟨w2.heap.size, 0, none⟩) 1 1) 1 (flat [(⟨#[122, 122]⟩, ⟨#[49]⟩)])) := own_one (x := (⟨#[122, 122]⟩, ⟨#[49]⟩)) HB.out HS2.out.kept.size
    go_wp2_with (at_builtin; refine wpList_append_own_at _ rfl _ _ 27 rfl w.heap.size 125 i0 (.agg #[.string ByteArray.empty, .string ByteArray.empty]) 2 32 Try.underlying27 hi hz0 hz1 hz2 rfl (by decide) _ _ _ rfl HO.out ⟨g, 0, none⟩ p.length cap (flat p) rfl (flat_len p) ?c1 (flat_one p) ?c3 ?c4 ?c5 ?_)
    case c1 => exact (HS2.out.alloc _).src
    case c3 => unfold maxLen; omega
    case c4 => omega
    case c5 => have := HS2.out.kept.size; simp; omega
    intro v' w3 hown hg _ hat
    have HS3 : Hid (LSt w c w3 v' ((⟨#[122, 122]⟩, ⟨#[49]⟩) :: p)) := (HS2.out.alloc _).ahead HO.out rfl rfl rfl rfl (small_one (by decide) (by decide)) hown hg
    clear hown hg hat HO HB
    go_wp2
    go_ret
    exact ⟨_, rfl, _, HS3.out, by simp; omega⟩
  have d1 : (x == 1) = false := by simpa using e1
  by_cases e2 : x = 2
  · subst e2
    obtain ⟨c0, c1⟩ := HS2.out.cells (m := 0) (by omega)
    have hpl : (0 : Int) < (p.length : Int) := by omega
    simp only [Nat.zero_mul, Nat.zero_add] at c0 c1
    go_wp2_with (at_builtin; refine wpList_append_own_at _ rfl _ _ 27 rfl w.heap.size 125 i0 (.agg #[.string ByteArray.empty, .string ByteArray.empty]) 2 32 Try.underlying27 hi hz0 hz1 hz2 rfl (by decide) _ _ _ rfl (HS2.out.alloc _).own ⟨w2.heap.size, 0, none⟩ 1 1 [.string (nth p 0).1, .string (nth p 0).2] rfl rfl ?c1 ?c2 ?c3 ?c4 ?c5 ?_)
    case c1 => exact blk_news (Blk.new _ _ _)
    case c2 => exact flat_one [nth p 0]
    case c3 => unfold maxLen; omega
    case c4 => omega
    case c5 => have := HS2.out.kept.size; simp; omega
    intro v' w3 hown hg _ hat
    have HS3 : Hid (LSt w c w3 v' (p ++ [nth p 0])) := (HS2.out.alloc _).add (q := [nth p 0]) rfl rfl rfl rfl (fun y hy => by
      have e : y = nth p 0 := by simpa using hy
      rw [e]; exact HS2.out.fit _ (by rw [nth_eq (by omega)]; exact List.getElem_mem _)) (by simp) hown hg
    clear hown hg hat c0 c1
    go_wp2
    go_ret
    exact ⟨_, rfl, _, HS3.out, by simp; omega⟩
  have d2 : (x == 2) = false := by simpa using e2
  by_cases e3 : x = 3
  · subst e3
    go_wp2_with (at_builtin; refine wpList_append_own_at _ rfl _ _ 27 rfl w.heap.size 125 i0 (.agg #[.string ByteArray.empty, .string ByteArray.empty]) 2 32 Try.underlying27 hi hz0 hz1 hz2 rfl (by decide) _ _ _ rfl (HS2.out.alloc _).own ⟨w2.heap.size, 0, none⟩ 4 4 (flat [(⟨#[122, 117]⟩, ByteArray.empty), (⟨#[122, 118]⟩, ByteArray.empty), (⟨#[122, 119]⟩, ByteArray.empty), (⟨#[122, 120]⟩, ByteArray.empty)]) rfl rfl ?c1 (flat_one _) ?c3 ?c4 ?c5 ?_)
    case c1 => exact blk_news (Blk.new _ _ _)
    case c3 => unfold maxLen; omega
    case c4 => omega
    case c5 => have := HS2.out.kept.size; simp; omega
    intro v' w3 hown hg _ hat
    have HS3 : Hid (LSt w c w3 v' (p ++ [(⟨#[122, 117]⟩, ByteArray.empty), (⟨#[122, 118]⟩, ByteArray.empty), (⟨#[122, 119]⟩, ByteArray.empty), (⟨#[122, 120]⟩, ByteArray.empty)])) := (HS2.out.alloc _).add (q := [(⟨#[122, 117]⟩, ByteArray.empty), (⟨#[122, 118]⟩, ByteArray.empty), (⟨#[122, 119]⟩, ByteArray.empty), (⟨#[122, 120]⟩, ByteArray.empty)]) rfl rfl rfl rfl (fun y hy => by
      simp only [List.mem_cons, List.not_mem_nil, or_false] at hy
      rcases hy with rfl | rfl | rfl | rfl <;> exact ⟨by decide, by decide⟩) (by simp) hown hg
    clear hown hg hat
    go_wp2
    go_ret
    exact ⟨_, rfl, _, HS3.out, by simp; omega⟩
  have d3 : (x == 3) = false := by simpa using e3
  by_cases e4 : x = 4
  · subst e4
    go_wp2_with fail
    refine (anyPlain_any c _ HS2.out.cur).mono ?_
    rintro e w3 ⟨⟨t, rfl, ht⟩, hc3, hk3⟩
    have hS3 : LSt w c w3 (.slice (some ⟨g, 0, none⟩) p.length cap) p := HS2.out.keep hc3 hk3
    have HS3 : Hid (LSt w c w3 (.slice (some ⟨g, 0, none⟩) p.length cap) p) := hS3
    obtain ⟨c0, c1⟩ := hS3.cells (m := 0) (by omega)
    have hpl : (0 : Int) < (p.length : Int) := by omega
    simp only [Nat.zero_mul, Nat.zero_add] at c0 c1
    have f1 : w3.frozen? ⟨g, 1, none⟩ = false := hS3.warm 1
    have HS4 : Hid (LSt w c (w3.setCell ⟨g, 1, none⟩ (.string t)) (.slice (some ⟨g, 0, none⟩) p.length cap) (((nth p 0).1, t) :: p.tail)) := hS3.put (by omega) t ht
    clear hc3 hk3 hS3
    go_wp2
    go_ret
    exact ⟨_, rfl, _, HS4.out, by simp; omega⟩
  have d4 : (x == 4) = false := by simpa using e4
  by_cases e5 : x = 5
  · subst e5
    go_wp2
    go_ret
    exact ⟨_, rfl, _, LSt.none_new HS2.out.cur HS2.out.kept HL.out, by simp⟩
  have d5 : (x == 5) = false := by simpa using e5
  go_wp2
  go_ret
  exact ⟨_, rfl, _, HS2.out, by omega⟩
end Go.Proofs.Ytcopckbpflmmeaa.DrawL
namespace Go.Proofs.Ytcopckbpflmmeaa.DrawT
open Go.RowKit
open Draw
open Labs LabS Over DrawL

theorem small_fits {p : List Lab} (h : Small p) : ∀ i, i < p.length → (nth p i).1.size ≤ maxLen ∧ (nth p i).2.size ≤ maxLen := fun i hi => by
  rw [nth_eq hi]
  have := h _ (List.getElem_mem hi)
  unfold maxLen
  exact ⟨by omega, by omega⟩
end Go.Proofs.Ytcopckbpflmmeaa.DrawT
namespace Go.Proofs.Ytcopckbpflmmeaa.DrawA
open Go.RowKit
open Draw
open Labs LabS LabR Over Blk App DrawL DrawT Alm AlmM
open LabT (infoL Held held_reads)

theorem blk_kept {c M : Nat} {w w' : World} {cs : Array Value} {T : TypeId} (h : Blk w M cs T) (hk : Kept c w w') (hne : M ≠ c) : Blk w' M cs T := by
  have hl := h.lt
  unfold Blk at *
  rw [hk.block M hl hne]; exact h
theorem lst_base {w W wr : World} {c : Nat} {v : Value} {p : List Lab} (h : LSt W c wr v p) (hk : Kept c w W) (hc : c < w.heap.size) : LSt w c wr v p :=
  ⟨Go.Joins.ownsRow_le h.own hk.size, h.lies, h.cur, hk.trans h.kept, hc, h.fit⟩
theorem lst_other {w wr : World} {c : Nat} {v : Value} {p : List Lab} (h : LSt w c wr v p) {B : Nat} (hB : w.heap.size ≤ B) (hne : v.ownBlock ≠ some B) (i : Nat) (u : Value) : LSt w c (wr.setCell ⟨B, i, none⟩ u) v p :=
  ⟨h.own.kept (grown_set wr B i u) (.inr hne), h.lies, h.cur.grown (grown_set wr B i u) (fun k hk => by cases hk; have := h.clt; omega), kept_grown (B := 0) h.kept (grown_set wr B i u) (fun k hk => by cases hk; exact hB), h.clt, h.fit⟩
theorem lst_other4 {w wr : World} {c : Nat} {v : Value} {p : List Lab} (h : LSt w c wr v p) {B : Nat} (hB : w.heap.size ≤ B) (hne : v.ownBlock ≠ some B) (u0 u1 u2 u3 : Value) : LSt w c ((((wr.setCell ⟨B, 0, none⟩ u0).setCell ⟨B, 1, none⟩ u1).setCell ⟨B, 2, none⟩ u2).setCell ⟨B, 3, none⟩ u3) v p :=
  lst_other (lst_other (lst_other (lst_other h hB hne 0 u0) hB hne 1 u1) hB hne 2 u2) hB hne 3 u3
theorem own_ne {g n c B : Nat} (h : g ≠ B) : (Value.slice (some ⟨g, 0, none⟩) n c).ownBlock ≠ some B := fun e => h (Option.some.inj e)
theorem wrapB (x : Int) : -9223372036854775808 ≤ IntKind.i64.wrap x ∧ IntKind.i64.wrap x ≤ 9223372036854775807 := by
  rw [IntKind.wrap_i64]; omega
def I64 (x : Int) : Prop := -9223372036854775808 ≤ x ∧ x ≤ 9223372036854775807

set_option maxRecDepth 100000 in
set_option maxHeartbeats 1600000 in
theorem l4Draw_any (c : Nat) (w : World) (hc : Cur w c) :
    Calls Try.prog 43 #[.pointer (some ⟨c, 0, none⟩)] w fun r w' => ∃ (g cap : Nat) (p : List Lab) (s e : Int) (n : ByteArray), r = .returned (.agg #[.slice (some ⟨g, 0, none⟩) p.length cap, .int .i64 s, .int .i64 e, .string n]) ∧ LSt w c w' (.slice (some ⟨g, 0, none⟩) p.length cap) p ∧ p.length ≤ 8 ∧ I64 s ∧ I64 e ∧ n.size ≤ 100 := by
  have HC : Hid (Cur w c) := hc
  have HL : Hid (c < w.heap.size) := hc.lt
  clear hc
  go_enter Try.func43, Try.ntmps43
  go_wp2_with fail
  refine (l2Draw_any c _ (HC.out.alloc _)).mono ?_
  rintro r w1 ⟨v, rfl, p, hst, hp1, hp2⟩
  obtain ⟨g, cap, rfl⟩ := hst.lies
  have HG : Hid (w.heap.size < g ∧ g < w1.heap.size) := by have := hst.blk; simp at this; exact ⟨by omega, this.2⟩
  have HR1 : Hid (Blk w1 w.heap.size #[.slice none 0 0, .int .i64 0, .int .i64 0, .string ⟨#[]⟩] 29) := blk_kept (Blk.new _ _ _) hst.kept (by have := HL.out; omega)
  have HS1 : Hid (LSt w c w1 (.slice (some ⟨g, 0, none⟩) p.length cap) p) := lst_base hst ((Kept.refl c w).alloc _) HL.out
  clear hst
  go_wp2_with fail
  refine (below_any c 8 _ HS1.out.cur (by decide) (by decide)).mono ?_
  rintro r w2 ⟨⟨s, rfl, hs0, hs1⟩, hc2, hk2⟩
  have HS2 : Hid (LSt w c w2 (.slice (some ⟨g, 0, none⟩) p.length cap) p) := HS1.out.keep hc2 hk2
  have HR2 : Hid (Blk w2 w.heap.size #[.slice none 0 0, .int .i64 0, .int .i64 0, .string ⟨#[]⟩] 29) := blk_kept HR1.out hk2 (by have := HL.out; omega)
  have HZ2 : Hid (w1.heap.size ≤ w2.heap.size) := hk2.size
  clear hc2 hk2
  go_wp2_with fail
  refine (plainS_any c _ HS2.out.cur).mono ?_
  rintro r w3 ⟨⟨n, rfl, hn⟩, hc3, hk3⟩
  have HS3 : Hid (LSt w c w3 (.slice (some ⟨g, 0, none⟩) p.length cap) p) := HS2.out.keep hc3 hk3
  have HR3 : Hid (Blk w3 w.heap.size #[.slice none 0 0, .int .i64 0, .int .i64 0, .string ⟨#[]⟩] 29) := blk_kept HR2.out hk3 (by have := HL.out; omega)
  have HN : Hid (w.heap.size < w3.heap.size ∧ g < w3.heap.size ∧ c < w3.heap.size) := by
    have h1 := HG.out; have h2 := HZ2.out; have h3 := hk3.size; have h4 := HL.out
    exact ⟨by omega, by omega, by omega⟩
  clear hc3 hk3 HS1 HS2 HR1 HR2 HZ2
  go_wp2
  generalize hz : w3.alloc (.cells #[.slice (some ⟨g, 0, none⟩) p.length cap, .int .i64 s, .int .i64 0, .string n] 29) = z
  have HSz : Hid (LSt w c z (.slice (some ⟨g, 0, none⟩) p.length cap) p) := by rw [← hz]; exact HS3.out.alloc _
  have HRz : Hid (Blk z w.heap.size #[.slice none 0 0, .int .i64 0, .int .i64 0, .string ⟨#[]⟩] 29) := by rw [← hz]; exact HR3.out.alloc _
  have HAz : Hid (Blk z w3.heap.size #[.slice (some ⟨g, 0, none⟩) p.length cap, .int .i64 s, .int .i64 0, .string n] 29) := by rw [← hz]; exact Blk.new _ _ _
  clear hz HS3 HR3
  generalize w3.heap.size = A at HN HAz ⊢
  have a1 : z.cell? ⟨A, 1, none⟩ = some (.int .i64 s) := HAz.out.cell 1
  have HK : Hid (∀ (o : Obj) (w4 : World), Cur w4 c → Kept c (z.alloc o) w4 → LSt w c w4 (.slice (some ⟨g, 0, none⟩) p.length cap) p ∧ Blk w4 A #[.slice (some ⟨g, 0, none⟩) p.length cap, .int .i64 s, .int .i64 0, .string n] 29 ∧ Blk w4 w.heap.size #[.slice none 0 0, .int .i64 0, .int .i64 0, .string ⟨#[]⟩] 29) := fun o w4 hc h => by
    have h0 := HN.out; have h1 := HL.out
    exact ⟨(HSz.out.alloc o).keep hc h, blk_kept (HAz.out.alloc o) h (by omega), blk_kept (HRz.out.alloc o) h (by omega)⟩
  have HCz : Hid (Cur z c) := HSz.out.cur
  have HI : Hid (Calls Try.prog 51 #[.pointer (some ⟨c, 0, none⟩), .slice (some ⟨z.heap.size, 0, none⟩) 5 5] (z.alloc (.cells #[.int .i64 0, .int .i64 2, .int .i64 5, .int .i64 20, .int .i64 60] 3)).drew fun e w4 => (∃ x : Int, e = .returned (.int .i64 x) ∧ -9223372036854775808 ≤ x ∧ x ≤ 9223372036854775807) ∧ Cur w4 c ∧ Kept c (z.alloc (.cells #[.int .i64 0, .int .i64 2, .int .i64 5, .int .i64 20, .int .i64 60] 3)) w4) := by
    refine (int_any c z.heap.size 0 5 5 _ ?_ ?_ (by decide) (by decide)).mono fun e w4 h => ⟨h.1, h.2.1, ⟨h.2.2.os, h.2.2.tape, h.2.2.output, h.2.2.size, h.2.2.block⟩⟩
    · exact HCz.out.alloc _
    · exact row_lit (w := z) (by decide) rfl HCz.out.lt
  have kz : z.drew.cell? ⟨A, 1, none⟩ = some (.int .i64 s) := a1
  go_region_held3 (fun w' => w'.cell? ⟨A, 1, none⟩ = some (.int .i64 s)) (first | exact kz | exact Blk.cell (HAz.out.alloc _) 1 | exact hA4.cell 1 | exact (hA4.set 2 _).cell 1 | (go_keep; done)) (first
    | (go_at_call 51; (with_reducible refine HI.out.mono ?_); rintro r w4 ⟨⟨x, rfl, hx⟩, hc4, hk4⟩; (have hA3 := HK.out _ w4 hc4 hk4); (have hA4 := hA3.2.1); (have n2 : w4.cell? ⟨A, 2, none⟩ = some (.int .i64 0) := hA4.cell 2); (have f2 := hA4.frozen 2)))
  have HS4 : Hid (LSt w c w4 (.slice (some ⟨g, 0, none⟩) p.length cap) p) := hA3.1
  have hR := hA3.2.2
  have hA := hA4
  clear n2 f2 hA3 hA4 hc4 hk4 kz a1
  have HE : Hid (I64 (IntKind.i64.wrap (s + x))) := wrapB _
  generalize IntKind.i64.wrap (s + x) = y at HE ⊢
  have A0 : w4.cell? ⟨A, 0, none⟩ = some (.slice (some ⟨g, 0, none⟩) p.length cap) := hA.cell 0
  have A1 : w4.cell? ⟨A, 1, none⟩ = some (.int .i64 s) := hA.cell 1
  have A2 : w4.cell? ⟨A, 2, none⟩ = some (.int .i64 0) := hA.cell 2
  have A3 : w4.cell? ⟨A, 3, none⟩ = some (.string n) := hA.cell 3
  have fA0 := hA.frozen 0
  have fA1 := hA.frozen 1
  have fA2 := hA.frozen 2
  have fA3 := hA.frozen 3
  have R0 : w4.cell? ⟨w.heap.size, 0, none⟩ = some (.slice none 0 0) := hR.cell 0
  have R1 : w4.cell? ⟨w.heap.size, 1, none⟩ = some (.int .i64 0) := hR.cell 1
  have R2 : w4.cell? ⟨w.heap.size, 2, none⟩ = some (.int .i64 0) := hR.cell 2
  have R3 : w4.cell? ⟨w.heap.size, 3, none⟩ = some (.string ⟨#[]⟩) := hR.cell 3
  have fR0 := hR.frozen 0
  have fR1 := hR.frozen 1
  have fR2 := hR.frozen 2
  have fR3 := hR.frozen 3
  have d1 : ¬ A = w.heap.size := by have := HN.out; omega
  have d2 : ¬ w.heap.size = A := by have := HN.out; omega
  clear hA hR
  go_wp2
  refine bodyPost_ret (v := .agg #[.slice (some ⟨g, 0, none⟩) p.length cap, .int .i64 s, .int .i64 y, .string n]) (by simp [results, Try.results43, go_sem, R0, R1, R2, R3]) rfl ?_
  have h0 := HN.out; have h1 := HG.out; have h2 := HL.out
  exact ⟨g, cap, p, s, y, n, rfl, lst_other4 (lst_other HS4.out (by omega) (own_ne (by omega)) _ _) (Nat.le_refl _) (own_ne (by omega)) _ _ _ _, by omega, ⟨by omega, by omega⟩, HE.out, hn⟩

set_option maxRecDepth 100000 in
set_option maxHeartbeats 3200000 in
theorem l4Any_any (c : Nat) (w : World) (hc : Cur w c) :
    Calls Try.prog 87 #[.pointer (some ⟨c, 0, none⟩)] w fun r w' => ∃ (g cap : Nat) (p : List Lab) (s e : Int) (n : ByteArray), r = .returned (.agg #[.slice (some ⟨g, 0, none⟩) p.length cap, .int .i64 s, .int .i64 e, .string n]) ∧ LSt w c w' (.slice (some ⟨g, 0, none⟩) p.length cap) p ∧ p.length ≤ 8 ∧ I64 s ∧ I64 e ∧ n.size ≤ 100 := by
  have HC : Hid (Cur w c) := hc
  have HL : Hid (c < w.heap.size) := hc.lt
  clear hc
  go_enter Try.func87, Try.ntmps87
  go_wp2_with fail
  refine (l4Draw_any c _ (HC.out.alloc _)).mono ?_
  rintro r w1 ⟨g, cap, p, s, e, n, rfl, hst, hp, hs, he, hn⟩
  have HG : Hid (w.heap.size < g ∧ g < w1.heap.size) := by have := hst.blk; simp at this; exact ⟨by omega, this.2⟩
  have HR1 : Hid (Blk w1 w.heap.size #[.slice none 0 0, .int .i64 0, .int .i64 0, .string ⟨#[]⟩] 29) := blk_kept (Blk.new _ _ _) hst.kept (by have := HL.out; omega)
  have HS1 : Hid (LSt w c w1 (.slice (some ⟨g, 0, none⟩) p.length cap) p) := lst_base hst ((Kept.refl c w).alloc _) HL.out
  have HI : Hid (p.length ≤ 8 ∧ I64 s ∧ I64 e ∧ n.size ≤ 100) := ⟨hp, hs, he, hn⟩
  clear hst hp hs he hn
  go_wp2_with fail
  refine (below_any c 12 _ (HS1.out.cur.alloc _) (by decide) (by decide)).mono ?_
  rintro r w2 ⟨⟨x, rfl, hx0, hx1⟩, hc2, hk2⟩
  have HN : Hid (w.heap.size < g ∧ g < w1.heap.size ∧ w1.heap.size < w2.heap.size) := by
    have h1 := HG.out; have h2 := hk2.size; simp at h2
    exact ⟨by omega, by omega, by omega⟩
  have HS2 : Hid (LSt w c w2 (.slice (some ⟨g, 0, none⟩) p.length cap) p) := (HS1.out.alloc _).keep hc2 hk2
  have HA2 : Hid (Blk w2 w1.heap.size #[.slice (some ⟨g, 0, none⟩) p.length cap, .int .i64 s, .int .i64 e, .string n] 29) := blk_kept (Blk.new _ _ _) hk2 (by have := HL.out; have := HN.out; omega)
  have HR2 : Hid (Blk w2 w.heap.size #[.slice none 0 0, .int .i64 0, .int .i64 0, .string ⟨#[]⟩] 29) := blk_kept (HR1.out.alloc _) hk2 (by have := HL.out; omega)
  clear hc2 hk2 HS1 HR1 HG
  generalize w1.heap.size = A at HN HA2 ⊢
  have HAc : Hid (A ≠ c ∧ w.heap.size ≠ c) := by have := HL.out; have := HN.out; exact ⟨by omega, by omega⟩
  by_cases e0 : x = 0
  · subst e0
    go_wp2_with fail
    refine (l2Any_any c _ HS2.out.cur).mono ?_
    rintro r w3 ⟨v, rfl, q, hst, hq⟩
    obtain ⟨g', cap', rfl⟩ := hst.lies
    have HG' : Hid (A < g') := by have := hst.blk; have := HN.out; show A < g'; omega
    have hA := blk_kept HA2.out hst.kept HAc.out.1
    have hR := blk_kept HR2.out hst.kept HAc.out.2
    have HS3 : Hid (LSt w c w3 (.slice (some ⟨g', 0, none⟩) q.length cap') q) := lst_base hst HS2.out.kept HL.out
    clear hst
    have A0 : w3.cell? ⟨A, 0, none⟩ = some (.slice (some ⟨g, 0, none⟩) p.length cap) := hA.cell 0
    have A1 : w3.cell? ⟨A, 1, none⟩ = some (.int .i64 s) := hA.cell 1
    have A2 : w3.cell? ⟨A, 2, none⟩ = some (.int .i64 e) := hA.cell 2
    have A3 : w3.cell? ⟨A, 3, none⟩ = some (.string n) := hA.cell 3
    have fA0 := hA.frozen 0
    have fA1 := hA.frozen 1
    have fA2 := hA.frozen 2
    have fA3 := hA.frozen 3
    have R0 : w3.cell? ⟨w.heap.size, 0, none⟩ = some (.slice none 0 0) := hR.cell 0
    have R1 : w3.cell? ⟨w.heap.size, 1, none⟩ = some (.int .i64 0) := hR.cell 1
    have R2 : w3.cell? ⟨w.heap.size, 2, none⟩ = some (.int .i64 0) := hR.cell 2
    have R3 : w3.cell? ⟨w.heap.size, 3, none⟩ = some (.string ⟨#[]⟩) := hR.cell 3
    have fR0 := hR.frozen 0
    have fR1 := hR.frozen 1
    have fR2 := hR.frozen 2
    have fR3 := hR.frozen 3
    have d1 : ¬ A = w.heap.size := by have := HN.out; omega
    have d2 : ¬ w.heap.size = A := by have := HN.out; omega
    clear hA hR
    go_wp2
    refine bodyPost_ret (v := .agg #[.slice (some ⟨g', 0, none⟩) q.length cap', .int .i64 s, .int .i64 e, .string n]) (by simp [results, Try.results87, go_sem, R0, R1, R2, R3]) rfl ?_
    have h0 := HN.out; have h3 := HG'.out; have h2 := HL.out
    exact ⟨g', cap', q, s, e, n, rfl, lst_other4 (lst_other HS3.out (by omega) (own_ne (by have := HG'.out; omega)) _ _) (Nat.le_refl _) (own_ne (by omega)) _ _ _ _, hq, HI.out.2.1, HI.out.2.2.1, HI.out.2.2.2⟩
  have d0' : (x == 0) = false := by simpa using e0
  by_cases e1 : x = 1
  · subst e1
    go_wp2_with fail
    refine (int_any c _ _ _ _ _ ?hc ?hr ?h1 ?h2).mono ?_
    case hc => exact HS2.out.cur.alloc _
    case hr => exact row_lit (by decide) rfl HS2.out.cur.lt
    case h1 => decide
    case h2 => decide
    rintro r w3 ⟨⟨y, rfl, hy⟩, hc3, hk3⟩
    have HY : Hid (I64 y) := hy
    have hA := blk_kept (HA2.out.alloc _) hk3 HAc.out.1
    have hR := blk_kept (HR2.out.alloc _) hk3 HAc.out.2
    have HS3 : Hid (LSt w c w3 (.slice (some ⟨g, 0, none⟩) p.length cap) p) := (HS2.out.alloc _).keep hc3 hk3
    clear hc3 hk3 hy
    have A0 : w3.cell? ⟨A, 0, none⟩ = some (.slice (some ⟨g, 0, none⟩) p.length cap) := hA.cell 0
    have A1 : w3.cell? ⟨A, 1, none⟩ = some (.int .i64 s) := hA.cell 1
    have A2 : w3.cell? ⟨A, 2, none⟩ = some (.int .i64 e) := hA.cell 2
    have A3 : w3.cell? ⟨A, 3, none⟩ = some (.string n) := hA.cell 3
    have fA0 := hA.frozen 0
    have fA1 := hA.frozen 1
    have fA2 := hA.frozen 2
    have fA3 := hA.frozen 3
    have R0 : w3.cell? ⟨w.heap.size, 0, none⟩ = some (.slice none 0 0) := hR.cell 0
    have R1 : w3.cell? ⟨w.heap.size, 1, none⟩ = some (.int .i64 0) := hR.cell 1
    have R2 : w3.cell? ⟨w.heap.size, 2, none⟩ = some (.int .i64 0) := hR.cell 2
    have R3 : w3.cell? ⟨w.heap.size, 3, none⟩ = some (.string ⟨#[]⟩) := hR.cell 3
    have fR0 := hR.frozen 0
    have fR1 := hR.frozen 1
    have fR2 := hR.frozen 2
    have fR3 := hR.frozen 3
    have d1 : ¬ A = w.heap.size := by have := HN.out; omega
    have d2 : ¬ w.heap.size = A := by have := HN.out; omega
    clear hA hR
    go_wp2
    refine bodyPost_ret (v := .agg #[.slice (some ⟨g, 0, none⟩) p.length cap, .int .i64 y, .int .i64 e, .string n]) (by simp [results, Try.results87, go_sem, R0, R1, R2, R3]) rfl ?_
    have h0 := HN.out; have h2 := HL.out
    exact ⟨g, cap, p, y, e, n, rfl, lst_other4 (lst_other HS3.out (by omega) (own_ne (by omega)) _ _) (Nat.le_refl _) (own_ne (by omega)) _ _ _ _, HI.out.1, HY.out, HI.out.2.2.1, HI.out.2.2.2⟩
  have d1' : (x == 1) = false := by simpa using e1
  by_cases e2 : x = 2
  · subst e2
    go_wp2_with fail
    refine (raw_any c _ HS2.out.cur).mono ?_
    rintro r w3 ⟨⟨y, rfl, hy⟩, hc3, hk3⟩
    have HY : Hid (I64 y) := hy
    have hA := blk_kept HA2.out hk3 HAc.out.1
    have hR := blk_kept HR2.out hk3 HAc.out.2
    have HS3 : Hid (LSt w c w3 (.slice (some ⟨g, 0, none⟩) p.length cap) p) := HS2.out.keep hc3 hk3
    clear hc3 hk3 hy
    have A0 : w3.cell? ⟨A, 0, none⟩ = some (.slice (some ⟨g, 0, none⟩) p.length cap) := hA.cell 0
    have A1 : w3.cell? ⟨A, 1, none⟩ = some (.int .i64 s) := hA.cell 1
    have A2 : w3.cell? ⟨A, 2, none⟩ = some (.int .i64 e) := hA.cell 2
    have A3 : w3.cell? ⟨A, 3, none⟩ = some (.string n) := hA.cell 3
    have fA0 := hA.frozen 0
    have fA1 := hA.frozen 1
    have fA2 := hA.frozen 2
    have fA3 := hA.frozen 3
    have R0 : w3.cell? ⟨w.heap.size, 0, none⟩ = some (.slice none 0 0) := hR.cell 0
    have R1 : w3.cell? ⟨w.heap.size, 1, none⟩ = some (.int .i64 0) := hR.cell 1
    have R2 : w3.cell? ⟨w.heap.size, 2, none⟩ = some (.int .i64 0) := hR.cell 2
    have R3 : w3.cell? ⟨w.heap.size, 3, none⟩ = some (.string ⟨#[]⟩) := hR.cell 3
    have fR0 := hR.frozen 0
    have fR1 := hR.frozen 1
    have fR2 := hR.frozen 2
    have fR3 := hR.frozen 3
    have d1 : ¬ A = w.heap.size := by have := HN.out; omega
    have d2 : ¬ w.heap.size = A := by have := HN.out; omega
    clear hA hR
    go_wp2
    refine bodyPost_ret (v := .agg #[.slice (some ⟨g, 0, none⟩) p.length cap, .int .i64 s, .int .i64 y, .string n]) (by simp [results, Try.results87, go_sem, R0, R1, R2, R3]) rfl ?_
    have h0 := HN.out; have h2 := HL.out
    exact ⟨g, cap, p, s, y, n, rfl, lst_other4 (lst_other HS3.out (by omega) (own_ne (by omega)) _ _) (Nat.le_refl _) (own_ne (by omega)) _ _ _ _, HI.out.1, HI.out.2.1, HY.out, HI.out.2.2.2⟩
  have d2' : (x == 2) = false := by simpa using e2
  by_cases e3 : x = 3
  · subst e3
    go_wp2_with fail
    refine (anyPlain_any c _ HS2.out.cur).mono ?_
    rintro r w3 ⟨⟨t, rfl, ht⟩, hc3, hk3⟩
    have HY : Hid (t.size ≤ 100) := ht
    have hA := blk_kept HA2.out hk3 HAc.out.1
    have hR := blk_kept HR2.out hk3 HAc.out.2
    have HS3 : Hid (LSt w c w3 (.slice (some ⟨g, 0, none⟩) p.length cap) p) := HS2.out.keep hc3 hk3
    clear hc3 hk3 ht
    have A0 : w3.cell? ⟨A, 0, none⟩ = some (.slice (some ⟨g, 0, none⟩) p.length cap) := hA.cell 0
    have A1 : w3.cell? ⟨A, 1, none⟩ = some (.int .i64 s) := hA.cell 1
    have A2 : w3.cell? ⟨A, 2, none⟩ = some (.int .i64 e) := hA.cell 2
    have A3 : w3.cell? ⟨A, 3, none⟩ = some (.string n) := hA.cell 3
    have fA0 := hA.frozen 0
    have fA1 := hA.frozen 1
    have fA2 := hA.frozen 2
    have fA3 := hA.frozen 3
    have R0 : w3.cell? ⟨w.heap.size, 0, none⟩ = some (.slice none 0 0) := hR.cell 0
    have R1 : w3.cell? ⟨w.heap.size, 1, none⟩ = some (.int .i64 0) := hR.cell 1
    have R2 : w3.cell? ⟨w.heap.size, 2, none⟩ = some (.int .i64 0) := hR.cell 2
    have R3 : w3.cell? ⟨w.heap.size, 3, none⟩ = some (.string ⟨#[]⟩) := hR.cell 3
    have fR0 := hR.frozen 0
    have fR1 := hR.frozen 1
    have fR2 := hR.frozen 2
    have fR3 := hR.frozen 3
    have d1 : ¬ A = w.heap.size := by have := HN.out; omega
    have d2 : ¬ w.heap.size = A := by have := HN.out; omega
    clear hA hR
    go_wp2
    refine bodyPost_ret (v := .agg #[.slice (some ⟨g, 0, none⟩) p.length cap, .int .i64 s, .int .i64 e, .string t]) (by simp [results, Try.results87, go_sem, R0, R1, R2, R3]) rfl ?_
    have h0 := HN.out; have h2 := HL.out
    exact ⟨g, cap, p, s, e, t, rfl, lst_other4 (lst_other HS3.out (by omega) (own_ne (by omega)) _ _) (Nat.le_refl _) (own_ne (by omega)) _ _ _ _, HI.out.1, HI.out.2.1, HI.out.2.2.1, HY.out⟩
  have d3' : (x == 3) = false := by simpa using e3
  have hA := HA2.out
  have hR := HR2.out
  have A0 : w2.cell? ⟨A, 0, none⟩ = some (.slice (some ⟨g, 0, none⟩) p.length cap) := hA.cell 0
  have A1 : w2.cell? ⟨A, 1, none⟩ = some (.int .i64 s) := hA.cell 1
  have A2 : w2.cell? ⟨A, 2, none⟩ = some (.int .i64 e) := hA.cell 2
  have A3 : w2.cell? ⟨A, 3, none⟩ = some (.string n) := hA.cell 3
  have fA0 := hA.frozen 0
  have fA1 := hA.frozen 1
  have fA2 := hA.frozen 2
  have fA3 := hA.frozen 3
  have R0 : w2.cell? ⟨w.heap.size, 0, none⟩ = some (.slice none 0 0) := hR.cell 0
  have R1 : w2.cell? ⟨w.heap.size, 1, none⟩ = some (.int .i64 0) := hR.cell 1
  have R2 : w2.cell? ⟨w.heap.size, 2, none⟩ = some (.int .i64 0) := hR.cell 2
  have R3 : w2.cell? ⟨w.heap.size, 3, none⟩ = some (.string ⟨#[]⟩) := hR.cell 3
  have fR0 := hR.frozen 0
  have fR1 := hR.frozen 1
  have fR2 := hR.frozen 2
  have fR3 := hR.frozen 3
  have d1 : ¬ A = w.heap.size := by have := HN.out; omega
  have d2 : ¬ w.heap.size = A := by have := HN.out; omega
  clear hA hR
  go_wp2
  refine bodyPost_ret (v := .agg #[.slice (some ⟨g, 0, none⟩) p.length cap, .int .i64 s, .int .i64 e, .string n]) (by simp [results, Try.results87, go_sem, R0, R1, R2, R3]) rfl ?_
  have h0 := HN.out; have h2 := HL.out
  exact ⟨g, cap, p, s, e, n, rfl, lst_other4 HS2.out (Nat.le_refl _) (own_ne (by omega)) _ _ _ _, HI.out.1, HI.out.2.1, HI.out.2.2.1, HI.out.2.2.2⟩

theorem reads_drew {w : World} {a : Option Addr} {p : List Lab} (h : Reads w a p) : Reads w.drew a p := h
end Go.Proofs.Ytcopckbpflmmeaa.DrawA
namespace Go.Proofs.Ytcopckbpflmmeaa.DrawB
open Go.RowKit
open Draw
open Labs LabS LabR Over Blk App DrawL DrawT Alm AlmM DrawA
open LabT (infoL Held held_reads)

theorem kept_drew {c : Nat} {w w' : World} (h : Kept c w.drew w') : Kept c w w' := ⟨h.os, h.tape, h.output, h.size, h.block⟩
end Go.Proofs.Ytcopckbpflmmeaa.DrawB
namespace Go.Proofs.Ytcopckbpflmmeaa.DrawC
open Go.RowKit
open Draw
open Labs LabS Over Blk App DrawL DrawT Alms AlmM DrawA DrawB Rws ChnI ChnC ChnP ChnK
open LabT (Held held_reads)

theorem grown_bel {w w' : World} (h : Below w.heap.size w w') : w.grownBy w' none := ⟨h.os, h.tape, h.output, h.size, fun k hk _ => h.block k hk⟩
theorem cur_bel {w w' : World} {c : Nat} (h : Cur w c) (hb : Below w.heap.size w w') : Cur w' c := h.grown (grown_bel hb) (fun k hk => by cases hk)
theorem kept_bel {c : Nat} {w w' : World} (h : Below w.heap.size w w') : Kept c w w' := ⟨h.os, h.tape, h.output, h.size, fun k hk _ => h.block k hk⟩
theorem cur_set {w : World} {c A : Nat} (h : Cur w c) (hne : c < A) (i : Nat) (v : Value) : Cur (w.setCell ⟨A, i, none⟩ v) c := h.grown (grown_set w A i v) (fun k hk => by cases hk; exact hne)
theorem kept_set {w wr : World} {c A : Nat} (h : Kept c w wr) (hA : w.heap.size ≤ A) (i : Nat) (v : Value) : Kept c w (wr.setCell ⟨A, i, none⟩ v) := kept_grown (B := 0) h (grown_set wr A i v) (fun k hk => by cases hk; exact hA)
theorem own_kept {c lo : Nat} {w w' : World} {x : ARow} (h : OwnA lo w x) (hk : Kept c w w') (hc : c < lo) : OwnA lo w' x := by
  obtain ⟨h1, h2, ds, hb, h3⟩ := h
  exact ⟨h1, h2, ds, blk_kept hb hk (by omega), h3⟩
theorem ab_kept {c lo : Nat} {w w' : World} {M cap : Nat} {rs : List ARow} (h : AB lo w M cap rs) (hk : Kept c w w') (hc : c < lo) : AB lo w' M cap rs := by
  obtain ⟨cur, h1, h2⟩ := h.outer
  exact ⟨h.at', h.cap, ⟨cur, blk_kept h1 hk (by have := h.at'; omega), h2⟩, fun x hx => own_kept (h.rows x hx) hk hc, h.ne⟩
theorem own_lst {W w' : World} {c g cap : Nat} {p : List Lab} {s e : Int} {n : ByteArray} (h : LSt W c w' (.slice (some ⟨g, 0, none⟩) p.length cap) p) (hp : p.length ≤ 8) : OwnA W.heap.size w' (g, cap, ⟨p, s, e, n⟩) := by
  rcases h.own.2 with ⟨e', _⟩ | ⟨g', c', cur, e', hb, hcur, hcc, _, hz, ht⟩
  · cases e'
  · cases e'
    refine ⟨hb, by show p.length ≤ _; omega, cur, hcur, by show p.length * 2 ≤ _; rw [hz]; omega, fun j hj => ?_⟩
    have hj' : j < p.length := hj
    have h2 := LabR.flat_get p j hj'
    have hl := LabR.flat_len p
    rw [← ht, List.getElem?_take_of_lt (by omega), List.getElem?_take_of_lt (by omega)] at h2
    simpa using h2

def Fine (x : PAl) : Prop := FitA x ∧ x.l.length ≤ 8
def Fines (P : List PAl) : Prop := ∀ x ∈ P, Fine x
theorem fine_of {p : List Lab} {s e : Int} {n : ByteArray} (hp : p.length ≤ 8) (hf : Small p) (hs : I64 s) (he : I64 e) (hn : n.size ≤ 100) : Fine ⟨p, s, e, n⟩ :=
  ⟨⟨by show p.length ≤ _; unfold maxLen; omega, small_fits hf, hs, he, by show n.size ≤ _; unfold maxLen; omega⟩, hp⟩
theorem nthP_mem {P : List PAl} {i : Nat} (h : i < P.length) : nthP P i ∈ P := by rw [nthP_eq h]; exact List.getElem_mem _
theorem fines_nil : Fines [] := fun x hx => by simp at hx
theorem fines_app {P : List PAl} {a : PAl} (h : Fines P) (ha : Fine a) : Fines (P ++ [a]) := fun x hx => by
  rcases List.mem_append.1 hx with h1 | h1
  · exact h x h1
  · have : x = a := by simpa using h1
    subst this; exact ha
theorem Fines.fits {P : List PAl} (h : Fines P) : FitsP P := fits_of fun x hx => (h x hx).1
theorem Fines.lens {P : List PAl} (h : Fines P) : LenM P := fun i hi => by have := (h _ (nthP_mem hi)).2; omega
end Go.Proofs.Ytcopckbpflmmeaa.DrawC
namespace Go.Proofs.Ytcopckbpflmmeaa.DrawC
open Go.RowKit
open Draw
open Labs LabS Over Blk App DrawL DrawT Alms AlmM DrawA DrawB Rws ChnI ChnC ChnP ChnS ChnU ChnK
open LabT (Held held_reads)
open Fing (fingerB)

theorem fines_put {P : List PAl} {a : PAl} (h : Fines P) (ha : Fine a) : Fines (putL P a) := by
  rcases idxTo_cases P a.l P.length with hm | ⟨k, hk, he, hj⟩
  · rw [(put_miss hm).1]; exact fines_app h ha
  · rw [(put_hit hj he hk).1]
    intro x hx
    rcases List.mem_or_eq_of_mem_set hx with h1 | h1
    · exact h x h1
    · subst h1; exact ⟨fit_merge (h _ (nthP_mem hk)).1 ha.1, ha.2⟩
structure DSt (w : World) (c A O : Nat) (f : Int) (wr : World) (a : Option Addr) (cap : Nat) (rs : List ARow) (x : ARow) : Prop where
  cur : Cur wr c
  kept : Kept c w wr
  clt : c < w.heap.size
  ord : w.heap.size < A ∧ A < O ∧ O < wr.heap.size
  bR : Blk wr w.heap.size #[.int .i64 0, .slice none 0 0] 26
  bA : Blk wr A #[.slice (some ⟨x.1, 0, none⟩) x.2.2.l.length x.2.1, .int .i64 x.2.2.s, .int .i64 x.2.2.e, .string x.2.2.n] 29
  bO : Blk wr O #[.int .i64 f, .slice a rs.length cap] 26
  xo : OwnA w.heap.size wr x
  xf : Fine x.2.2
  list : (a = none ∧ rs = []) ∨ ∃ M, a = some ⟨M, 0, none⟩ ∧ AB (O + 1) wr M cap rs
  fine : Fines (pals rs)
  few : rs.length ≤ 4
theorem DSt.keep {w : World} {c A O : Nat} {f : Int} {wr w' : World} {a : Option Addr} {cap : Nat} {rs : List ARow} {x : ARow} (h : DSt w c A O f wr a cap rs x) (hc : Cur w' c) (hk : Kept c wr w') : DSt w c A O f w' a cap rs x :=
  ⟨hc, h.kept.trans hk, h.clt, ⟨h.ord.1, h.ord.2.1, Nat.lt_of_lt_of_le h.ord.2.2 hk.size⟩, blk_kept h.bR hk (by have := h.clt; omega), blk_kept h.bA hk (by have := h.clt; have := h.ord; omega), blk_kept h.bO hk (by have := h.clt; have := h.ord; omega), own_kept h.xo hk h.clt, h.xf,
    h.list.imp id (fun ⟨M, e, hab⟩ => ⟨M, e, ab_kept hab hk (by have := h.clt; have := h.ord; omega)⟩), h.fine, h.few⟩
theorem DSt.grow {w : World} {c A O : Nat} {f : Int} {wr w' : World} {a : Option Addr} {cap : Nat} {rs : List ARow} {x : ARow} (h : DSt w c A O f wr a cap rs x) (hb : Below wr.heap.size wr w') : DSt w c A O f w' a cap rs x := h.keep (cur_bel h.cur hb) (kept_bel hb)
theorem DSt.rd {w : World} {c A O : Nat} {f : Int} {wr : World} {a : Option Addr} {cap : Nat} {rs : List ARow} {x : ARow} (h : DSt w c A O f wr a cap rs x) : RdN wr a (pals rs) := by
  rcases h.list with ⟨_, e⟩ | ⟨M, e, hab⟩
  · exact .inl (by rw [e]; rfl)
  · rw [e]; exact hab.rd
theorem DSt.other {w : World} {c A O : Nat} {f : Int} {wr : World} {a : Option Addr} {cap : Nat} {rs : List ARow} {x : ARow} (h : DSt w c A O f wr a cap rs x) {y : ARow} (hy : OwnA w.heap.size wr y) (hf : Fine y.2.2) :
    DSt w c A O f ((((wr.setCell ⟨A, 0, none⟩ (.slice (some ⟨y.1, 0, none⟩) y.2.2.l.length y.2.1)).setCell ⟨A, 1, none⟩ (.int .i64 y.2.2.s)).setCell ⟨A, 2, none⟩ (.int .i64 y.2.2.e)).setCell ⟨A, 3, none⟩ (.string y.2.2.n)) a cap rs y := by
  have h0 := h.clt; have h1 := h.ord
  have hne : A ≠ y.1 := by
    obtain ⟨_, _, ds, hb, _⟩ := hy
    exact blkA_ne h.bA hb
  refine ⟨cur_set (cur_set (cur_set (cur_set h.cur (by omega) _ _) (by omega) _ _) (by omega) _ _) (by omega) _ _, kept_set (kept_set (kept_set (kept_set h.kept (by omega) _ _) (by omega) _ _) (by omega) _ _) (by omega) _ _, h0, by simpa using h1, Alm.blk4 h.bR (by omega) _ _ _ _, (((h.bA.set 0 _).set 1 _).set 2 _).set 3 _, Alm.blk4 h.bO (by omega) _ _ _ _, own_set (own_set (own_set (own_set hy hne _ _) hne _ _) hne _ _) hne _ _, hf, h.list.imp id (fun ⟨M, e, hab⟩ => ⟨M, e, ab_under (ab_under (ab_under (ab_under hab (by omega) _ _) (by omega) _ _) (by omega) _ _) (by omega) _ _⟩), h.fine, h.few⟩
theorem DSt.put {w : World} {c A O : Nat} {f : Int} {wr w' : World} {a : Option Addr} {cap : Nat} {rs : List ARow} {x : ARow} (h : DSt w c A O f wr a cap rs x) (h4 : rs.length < 4) (hb : Below wr.heap.size wr w') {M cap' : Nat} {rs' : List ARow} (hab : AB wr.heap.size w' M cap' rs') (hp : pals rs' = putL (pals rs) x.2.2) :
    DSt w c A O f ((w'.setCell ⟨O, 0, none⟩ (.int .i64 f)).setCell ⟨O, 1, none⟩ (.slice (some ⟨M, 0, none⟩) rs'.length cap')) (some ⟨M, 0, none⟩) cap' rs' x ∧ rs' ≠ [] := by
  have hg := h.grow hb
  have h0 := hg.clt; have h1 := hg.ord; have h2 := h.ord
  have hne : O ≠ x.1 := by
    obtain ⟨_, _, ds, hb, _⟩ := hg.xo
    exact chain_label hg.bO hb
  have hl := (put_sum (pals rs) x.2.2).2
  rw [← hp, pals_len, pals_len] at hl
  have hn : rs' ≠ [] := fun e => by
    have hz : (putL (pals rs) x.2.2).length = 0 := by rw [← hp, e]; rfl
    rcases idxTo_cases (pals rs) x.2.2.l (pals rs).length with hm | ⟨k, hk, he, hj⟩
    · rw [(put_miss hm).1] at hz; simp at hz
    · rw [(put_hit hj he hk).1] at hz; simp at hz; rw [hz] at hk; simp at hk
  exact ⟨⟨cur_set (cur_set hg.cur (by omega) _ _) (by omega) _ _, kept_set (kept_set hg.kept (by omega) _ _) (by omega) _ _, h0, by simpa using h1, (hg.bR.set_other (by show O ≠ _; omega) _).set_other (by show O ≠ _; omega) _, (hg.bA.set_other (by show O ≠ _; omega) _).set_other (by show O ≠ _; omega) _, (hg.bO.set 0 _).set 1 _, own_set (own_set hg.xo hne _ _) hne _ _, hg.xf, .inr ⟨M, rfl, ab_under (ab_under (hab.down (by omega)) (by omega) _ _) (by omega) _ _⟩, by rw [hp]; exact fines_put h.fine h.xf, by omega⟩, hn⟩

structure CDr (w : World) (c : Nat) (wr : World) (M cap : Nat) (rs : List ARow) : Prop where
  ab : AB (w.heap.size + 1) wr M cap rs
  cur : Cur wr c
  kept : Kept c w wr
  clt : c < w.heap.size
  fine : Fines (pals rs)

set_option maxRecDepth 100000 in
set_option maxHeartbeats 3200000 in
theorem l6Draw_any (c : Nat) (w : World) (hc : Cur w c) :
    Calls Try.prog 86 #[.pointer (some ⟨c, 0, none⟩)] w fun r w' => ∃ (f : Int) (M cap : Nat) (rs : List ARow), r = .returned (.agg #[.int .i64 f, .slice (some ⟨M, 0, none⟩) rs.length cap]) ∧ CDr w c w' M cap rs ∧ 0 < rs.length ∧ rs.length ≤ 4 ∧ I64 f := by
  have HC : Hid (Cur w c) := hc
  have HL : Hid (c < w.heap.size) := hc.lt
  clear hc
  go_enter Try.func86, Try.ntmps86
  go_wp2_with fail
  refine (l4Draw_any c _ (HC.out.alloc _)).mono ?_
  rintro r w1 ⟨g, cp, p, s, e, n, rfl, hst, hp, hs, he, hn⟩
  have HF : Hid (Fine ⟨p, s, e, n⟩) := fine_of hp hst.fit hs he hn
  have HX1 : Hid (OwnA w.heap.size w1 (g, cp, ⟨p, s, e, n⟩)) := (own_lst hst hp).down (by simp)
  have HR1 : Hid (Blk w1 w.heap.size #[.int .i64 0, .slice none 0 0] 26) := blk_kept (Blk.new _ _ _) hst.kept (by have := HL.out; omega)
  have HC1 : Hid (Cur w1 c) := hst.cur
  have HK1 : Hid (Kept c w w1) := ((Kept.refl c w).alloc _).trans hst.kept
  clear hst hp hs he hn
  generalize hDo : Obj.cells #[.slice (some ⟨g, 0, none⟩) p.length cp, .int .i64 s, .int .i64 e, .string n] 29 = Do
  have xA0 : (w1.alloc Do).cell? ⟨w1.heap.size, 0, none⟩ = some (.slice (some ⟨g, 0, none⟩) p.length cp) := by rw [← hDo]; exact (Blk.new w1 _ _).cell 0
  subst hDo
  go_wp2_with fail
  refine (Fing.specFinger_any _ _ _ _ ((HX1.out.grow (Go.Joins.below_alloc1 w1 _)).reads) HF.out.1.len HF.out.1.fits).mono ?_
  rintro r w2 ⟨rfl, hb⟩
  have HR2 : Hid (Blk w2 w.heap.size #[.int .i64 0, .slice none 0 0] 26) := (HR1.out.alloc _).grow hb
  have HA2 : Hid (Blk w2 w1.heap.size #[.slice (some ⟨g, 0, none⟩) p.length cp, .int .i64 s, .int .i64 e, .string n] 29) := (Blk.new w1 _ _).grow hb
  have HX2 : Hid (OwnA w.heap.size w2 (g, cp, ⟨p, s, e, n⟩)) := (HX1.out.grow (Go.Joins.below_alloc1 w1 _)).grow hb
  have HC2 : Hid (Cur w2 c) := cur_bel (HC1.out.alloc _) hb
  have HK2 : Hid (Kept c w w2) := (HK1.out.alloc _).trans (kept_bel hb)
  have HN2 : Hid (w.heap.size < w1.heap.size ∧ w1.heap.size < w2.heap.size) := ⟨HR1.out.lt, HA2.out.lt⟩
  clear hb xA0 HX1 HR1 HC1 HK1
  go_wp2_with fail
  refine (below_any c 30 _ (HC2.out.alloc _) (by decide) (by decide)).mono ?_
  rintro r w3 ⟨⟨j0, rfl, hj0, hj1⟩, hc3, hk3⟩
  have HFX : Hid (I64 (fingerB p : Int)) := by have := Fing.finger_lt p; exact ⟨by omega, by omega⟩
  generalize hfx : (fingerB p : Int) = fx at *
  have HS3 : Hid (DSt w c w1.heap.size w2.heap.size fx w3 none 0 [] (g, cp, ⟨p, s, e, n⟩)) := by
    have h0 := HN2.out; have h1 := HL.out
    have hs := hk3.size
    simp at hs
    exact ⟨hc3, (HK2.out.alloc _).trans hk3, h1, ⟨h0.1, h0.2, by omega⟩, blk_kept (HR2.out.alloc _) hk3 (by omega), blk_kept (HA2.out.alloc _) hk3 (by omega), blk_kept (Blk.new _ _ _) hk3 (by omega), own_kept (HX2.out.grow (Go.Joins.below_alloc1 w2 _)) hk3 h1, HF.out, .inl ⟨rfl, rfl⟩, fines_nil, by simp⟩
  have HJ : Hid (0 ≤ j0 ∧ j0 ≤ 29) := ⟨hj0, by omega⟩
  clear hc3 hk3 hj0 hj1 HX2 HR2 HA2 HC2 HK2 HN2
  generalize w1.heap.size = A at HS3 ⊢
  generalize w2.heap.size = O at HS3 ⊢
  go_wp2
  go_loopw [5] (fun i wr => ∃ (j : Int) (a : Option Addr) (cap : Nat) (rs : List ARow) (x : ARow), i = .int .i64 j ∧ -1 ≤ j ∧ j ≤ 29 ∧ DSt w c A O fx wr a cap rs x ∧ (rs = [] → (fingerB x.2.2.l : Int) = fx ∧ 0 ≤ j)) (fun i _ => (intOf i + 1).toNat)
  case atStart => exact ⟨j0, none, 0, [], (g, cp, ⟨p, s, e, n⟩), rfl, by have := HJ.out; omega, HJ.out.2, HS3.out, fun _ => ⟨hfx, HJ.out.1⟩⟩
  case round =>
    clear hfx HF HS3 HJ
    obtain ⟨j, a, cap, rs, x, rfl, hj1, hj2, hst, hfirst⟩ := hrel
    have HS : Hid (DSt w c A O fx wr a cap rs x) := hst
    have HFi : Hid (rs = [] → (fingerB x.2.2.l : Int) = fx ∧ 0 ≤ j) := hfirst
    clear hst hfirst
    by_cases hj : 0 ≤ j
    · have hj' : (j ≥ 0) := hj
      have hne := Grown.some wr
      have HO : Hid (A < wr.heap.size ∧ O < wr.heap.size) := by have := HS.out.ord; exact ⟨by omega, by omega⟩
      have a0 : ∀ q : Grown wr, q.out.cell? ⟨A, 0, none⟩ = some (.slice (some ⟨x.1, 0, none⟩) x.2.2.l.length x.2.1) := fun q => q.cell HO.out.1 (HS.out.bA.cell 0)
      have o0 : ∀ q : Grown wr, q.out.cell? ⟨O, 0, none⟩ = some (.int .i64 fx) := fun q => q.cell HO.out.2 (HS.out.bO.cell 0)
      have o1 : ∀ q : Grown wr, q.out.cell? ⟨O, 1, none⟩ = some (.slice a rs.length cap) := fun q => q.cell HO.out.2 (HS.out.bO.cell 1)
      have HC1 : ∀ q : Grown wr, Hid (Calls Try.prog 60 #[.slice (some ⟨x.1, 0, none⟩) x.2.2.l.length x.2.1] q.out fun e w' => e = .returned (.int .i64 (fingerB x.2.2.l)) ∧ Below q.out.heap.size q.out w') := fun q => Fing.specFinger_any _ _ _ _ (HS.out.xo.reads.below q.bel) HS.out.xf.1.len HS.out.xf.1.fits
      have HGo : Hid (∀ (w5 : World) (a : Option Addr) (cap : Nat) (rs : List ARow), DSt w c A O fx w5 a cap rs x → Calls Try.prog 43 #[.pointer (some ⟨c, 0, none⟩)] w5 fun r w' => ∃ (y : ARow), r = .returned (.agg #[.slice (some ⟨y.1, 0, none⟩) y.2.2.l.length y.2.1, .int .i64 y.2.2.s, .int .i64 y.2.2.e, .string y.2.2.n]) ∧ DSt w c A O fx w' a cap rs x ∧ OwnA w.heap.size w' y ∧ Fine y.2.2) := fun w5 a cap rs hd => (l4Draw_any c w5 hd.cur).mono fun r w' ⟨g, cp, p, s, e, n, hr, hst, hp, hs, he, hn⟩ => ⟨(g, cp, ⟨p, s, e, n⟩), hr, hd.keep hst.cur hst.kept, (own_lst hst hp).down hd.kept.size, fine_of hp hst.fit hs he hn⟩
      by_cases hF : (fingerB x.2.2.l : Int) = fx
      · by_cases h4 : rs.length < 4
        · have h4' : (rs.length : Int) < 4 := by omega
          go_wp2
          refine wp_over (z := wr) (by kernel_rfl) (by kernel_rfl) (Below.refl _ _) ?_
          repeat (go_big_quiet_step (first | (go_at_call 60; exact call_over (HC1 _).out)))
          refine wpQuiet_nil ?_
          intro w4 hw4
          have HS4 : Hid (DSt w c A O fx w4 a cap rs x) := HS.out.grow (over_bel hw4)
          clear hw4 hne HC1 a0 o0 o1 HO
          have o0 : w4.cell? ⟨O, 0, none⟩ = some (.int .i64 fx) := HS4.out.bO.cell 0
          have o1 : w4.cell? ⟨O, 1, none⟩ = some (.slice a rs.length cap) := HS4.out.bO.cell 1
          have q0 : w4.cell? ⟨A, 0, none⟩ = some (.slice (some ⟨x.1, 0, none⟩) x.2.2.l.length x.2.1) := HS4.out.bA.cell 0
          have q1 : w4.cell? ⟨A, 1, none⟩ = some (.int .i64 x.2.2.s) := HS4.out.bA.cell 1
          have q2 : w4.cell? ⟨A, 2, none⟩ = some (.int .i64 x.2.2.e) := HS4.out.bA.cell 2
          have q3 : w4.cell? ⟨A, 3, none⟩ = some (.string x.2.2.n) := HS4.out.bA.cell 3
          have HPC : Hid (Calls Try.prog 9 #[.agg #[.int .i64 fx, .slice a rs.length cap], .agg #[.slice (some ⟨x.1, 0, none⟩) x.2.2.l.length x.2.1, .int .i64 x.2.2.s, .int .i64 x.2.2.e, .string x.2.2.n]] w4 fun e w' => (∃ M c rs', e = .returned (.tuple #[.agg #[.int .i64 fx, .slice (some ⟨M, 0, none⟩) rs'.length c], .bool (isNew (pals rs) x.2.2.l)]) ∧ AB w4.heap.size w' M c rs' ∧ pals rs' = putL (pals rs) x.2.2) ∧ Below w4.heap.size w4 w') := by
            have h := specPut_any fx a cap (pals rs) x.1 0 x.2.1 x.2.2 w4 HS4.out.rd HS4.out.xo.reads (by rw [pals_len]; omega) HS4.out.fine.lens (by have := HS4.out.xf.2; omega)
            rw [pals_len] at h
            exact h
          go_wp2_with fail
          refine HPC.out.mono ?_
          rintro r w5 ⟨⟨M, c', rs', rfl, hab, hp⟩, hb⟩
          have hO5 := HS4.out.bO.grow hb
          have p0 : w5.cell? ⟨O, 0, none⟩ = some (.int .i64 fx) := hO5.cell 0
          have p1 : w5.cell? ⟨O, 1, none⟩ = some (.slice a rs.length cap) := hO5.cell 1
          have fp0 := hO5.frozen 0
          have fp1 := hO5.frozen 1
          have HS5 : Hid (DSt w c A O fx ((w5.setCell ⟨O, 0, none⟩ (.int .i64 fx)).setCell ⟨O, 1, none⟩ (.slice (some ⟨M, 0, none⟩) rs'.length c')) (some ⟨M, 0, none⟩) c' rs' x ∧ rs' ≠ []) := HS4.out.put h4 hb hab hp
          have HN : Hid (rs' ≠ []) := HS5.out.2
          clear hab hp hb hO5 HPC o0 o1 q0 q1 q2 q3
          go_wp2_with fail
          refine (HGo.out _ _ _ _ HS5.out.1).mono ?_
          rintro r w6 ⟨y, rfl, hd, hy, hyf⟩
          have HS6 : Hid (DSt w c A O fx w6 _ _ _ x) := hd
          have HY6 : Hid (OwnA w.heap.size w6 y ∧ Fine y.2.2) := ⟨hy, hyf⟩
          have q0 : w6.cell? ⟨A, 0, none⟩ = some (.slice (some ⟨x.1, 0, none⟩) x.2.2.l.length x.2.1) := hd.bA.cell 0
          have q1 : w6.cell? ⟨A, 1, none⟩ = some (.int .i64 x.2.2.s) := hd.bA.cell 1
          have q2 : w6.cell? ⟨A, 2, none⟩ = some (.int .i64 x.2.2.e) := hd.bA.cell 2
          have q3 : w6.cell? ⟨A, 3, none⟩ = some (.string x.2.2.n) := hd.bA.cell 3
          have g0 := hd.bA.frozen 0
          have g1 := hd.bA.frozen 1
          have g2 := hd.bA.frozen 2
          have g3 := hd.bA.frozen 3
          clear hd hy hyf
          go_wp2
          go_roundw
          case rel => exact ⟨j - 1, _, _, _, y, by go_num, by omega, by omega, HS6.out.other HY6.out.1 HY6.out.2, fun e => absurd e HN.out⟩
          case measure => simp [intOf]; omega
        · have h4' : ¬ (rs.length : Int) < 4 := by omega
          have HN : Hid (rs ≠ []) := fun e => by rw [e] at h4; simp at h4
          go_wp2
          refine wp_over (z := wr) (by kernel_rfl) (by kernel_rfl) (Below.refl _ _) ?_
          repeat (go_big_quiet_step (first | (go_at_call 60; exact call_over (HC1 _).out)))
          refine wpQuiet_nil ?_
          intro w4 hw4
          have HS4 : Hid (DSt w c A O fx w4 a cap rs x) := HS.out.grow (over_bel hw4)
          clear hw4 hne HC1 a0 o0 o1 HO
          go_wp2_with fail
          refine (HGo.out _ _ _ _ HS4.out).mono ?_
          rintro r w6 ⟨y, rfl, hd, hy, hyf⟩
          have HS6 : Hid (DSt w c A O fx w6 _ _ _ x) := hd
          have HY6 : Hid (OwnA w.heap.size w6 y ∧ Fine y.2.2) := ⟨hy, hyf⟩
          have q0 : w6.cell? ⟨A, 0, none⟩ = some (.slice (some ⟨x.1, 0, none⟩) x.2.2.l.length x.2.1) := hd.bA.cell 0
          have q1 : w6.cell? ⟨A, 1, none⟩ = some (.int .i64 x.2.2.s) := hd.bA.cell 1
          have q2 : w6.cell? ⟨A, 2, none⟩ = some (.int .i64 x.2.2.e) := hd.bA.cell 2
          have q3 : w6.cell? ⟨A, 3, none⟩ = some (.string x.2.2.n) := hd.bA.cell 3
          have g0 := hd.bA.frozen 0
          have g1 := hd.bA.frozen 1
          have g2 := hd.bA.frozen 2
          have g3 := hd.bA.frozen 3
          clear hd hy hyf
          go_wp2
          go_roundw
          case rel => exact ⟨j - 1, _, _, _, y, by go_num, by omega, by omega, HS6.out.other HY6.out.1 HY6.out.2, fun e => absurd e HN.out⟩
          case measure => simp [intOf]; omega
      · have hF1 : ((fingerB x.2.2.l : Int) == fx) = false := by simpa using hF
        have HN : Hid (rs ≠ []) := fun e => hF (HFi.out e).1
        go_wp2
        refine wp_over (z := wr) (by kernel_rfl) (by kernel_rfl) (Below.refl _ _) ?_
        repeat (go_big_quiet_step (first | (go_at_call 60; exact call_over (HC1 _).out)))
        refine wpQuiet_nil ?_
        intro w4 hw4
        have HS4 : Hid (DSt w c A O fx w4 a cap rs x) := HS.out.grow (over_bel hw4)
        clear hw4 hne HC1 a0 o0 o1 HO
        go_wp2_with fail
        refine (HGo.out _ _ _ _ HS4.out).mono ?_
        rintro r w6 ⟨y, rfl, hd, hy, hyf⟩
        have HS6 : Hid (DSt w c A O fx w6 _ _ _ x) := hd
        have HY6 : Hid (OwnA w.heap.size w6 y ∧ Fine y.2.2) := ⟨hy, hyf⟩
        have q0 : w6.cell? ⟨A, 0, none⟩ = some (.slice (some ⟨x.1, 0, none⟩) x.2.2.l.length x.2.1) := hd.bA.cell 0
        have q1 : w6.cell? ⟨A, 1, none⟩ = some (.int .i64 x.2.2.s) := hd.bA.cell 1
        have q2 : w6.cell? ⟨A, 2, none⟩ = some (.int .i64 x.2.2.e) := hd.bA.cell 2
        have q3 : w6.cell? ⟨A, 3, none⟩ = some (.string x.2.2.n) := hd.bA.cell 3
        have g0 := hd.bA.frozen 0
        have g1 := hd.bA.frozen 1
        have g2 := hd.bA.frozen 2
        have g3 := hd.bA.frozen 3
        clear hd hy hyf
        go_wp2
        go_roundw
        case rel => exact ⟨j - 1, _, _, _, y, by go_num, by omega, by omega, HS6.out.other HY6.out.1 HY6.out.2, fun e => absurd e HN.out⟩
        case measure => simp [intOf]; omega
    · have hj' : ¬ (j ≥ 0) := by omega
      have hr0 : 0 < rs.length := by
        rcases rs with _ | ⟨y, ys⟩
        · exact absurd (HFi.out rfl).2 hj
        · simp
      have o0 : wr.cell? ⟨O, 0, none⟩ = some (.int .i64 fx) := HS.out.bO.cell 0
      have o1 : wr.cell? ⟨O, 1, none⟩ = some (.slice a rs.length cap) := HS.out.bO.cell 1
      have r0 : wr.cell? ⟨w.heap.size, 0, none⟩ = some (.int .i64 0) := HS.out.bR.cell 0
      have r1 : wr.cell? ⟨w.heap.size, 1, none⟩ = some (.slice none 0 0) := HS.out.bR.cell 1
      have f0 := HS.out.bR.frozen 0
      have f1 := HS.out.bR.frozen 1
      go_wp2
      have hs : Blk ((wr.setCell ⟨w.heap.size, 0, none⟩ (.int .i64 fx)).setCell ⟨w.heap.size, 1, none⟩ (.slice a rs.length cap)) w.heap.size #[.int .i64 fx, .slice a rs.length cap] 26 := (HS.out.bR.set 0 _).set 1 _
      have s0 := hs.cell 0
      have s1 := hs.cell 1
      refine bodyPost_ret (v := .agg #[.int .i64 fx, .slice a rs.length cap]) (by simp [results, Try.results86, go_sem, s0, s1]) rfl ?_
      have h0 := HS.out.clt; have h1 := HS.out.ord
      rcases HS.out.list with ⟨_, e⟩ | ⟨M, e, hab⟩
      · rw [e] at hr0; simp at hr0
      · subst e
        exact ⟨fx, M, cap, rs, rfl, ⟨ab_under (ab_under (hab.down (by omega)) (by omega) _ _) (by omega) _ _, cur_set (cur_set HS.out.cur h0 _ _) h0 _ _, kept_set (kept_set HS.out.kept (Nat.le_refl _) _ _) (Nat.le_refl _) _ _, h0, HS.out.fine⟩, hr0, HS.out.few, HFX.out⟩
end Go.Proofs.Ytcopckbpflmmeaa.DrawC
namespace Go.Proofs.Ytcopckbpflmmeaa.DrawD
open Go.RowKit
open Draw
open Labs LabS Over Blk App DrawL DrawT Alms AlmM DrawA DrawB Rws ChnI ChnC ChnP ChnS ChnU ChnK DrawC

structure XSt (w : World) (c X : Nat) (f : Int) (wr : World) (u : Value) (M cap : Nat) (rs : List ARow) : Prop where
  cur : Cur wr c
  kept : Kept c w wr
  clt : c < w.heap.size
  ord : w.heap.size < X ∧ X < wr.heap.size
  bR : Blk wr w.heap.size #[.int .i64 0, .slice none 0 0] 26
  bX : Blk wr X #[.int .i64 f, u] 26
  ab : AB (w.heap.size + 1) wr M cap rs
  fine : Fines (pals rs)
theorem XSt.keep {w : World} {c X : Nat} {f : Int} {wr w' : World} {u : Value} {M cap : Nat} {rs : List ARow} (h : XSt w c X f wr u M cap rs) (hc : Cur w' c) (hk : Kept c wr w') : XSt w c X f w' u M cap rs :=
  ⟨hc, h.kept.trans hk, h.clt, ⟨h.ord.1, Nat.lt_of_lt_of_le h.ord.2 hk.size⟩, blk_kept h.bR hk (by have := h.clt; omega), blk_kept h.bX hk (by have := h.clt; have := h.ord; omega), ab_kept h.ab hk (by have := h.clt; omega), h.fine⟩
theorem XSt.grow {w : World} {c X : Nat} {f : Int} {wr w' : World} {u : Value} {M cap : Nat} {rs : List ARow} (h : XSt w c X f wr u M cap rs) (hb : Below wr.heap.size wr w') : XSt w c X f w' u M cap rs := h.keep (cur_bel h.cur hb) (kept_bel hb)
theorem XSt.setF {w : World} {c X : Nat} {f : Int} {wr : World} {u : Value} {M cap : Nat} {rs : List ARow} (h : XSt w c X f wr u M cap rs) (y : Int) : XSt w c X y (wr.setCell ⟨X, 0, none⟩ (.int .i64 y)) u M cap rs := by
  have h0 := h.clt; have h1 := h.ord
  exact ⟨cur_set h.cur (by omega) _ _, DrawC.kept_set h.kept (by omega) _ _, h0, by simpa using h1, h.bR.set_other (by show X ≠ _; omega) _, h.bX.set 0 _, ab_set1 h.ab h.bX _ _, h.fine⟩
theorem XSt.setL {w : World} {c X : Nat} {f : Int} {wr : World} {u : Value} {M cap : Nat} {rs : List ARow} (h : XSt w c X f wr u M cap rs) (u' : Value) : XSt w c X f (wr.setCell ⟨X, 1, none⟩ u') u' M cap rs := by
  have h0 := h.clt; have h1 := h.ord
  exact ⟨cur_set h.cur (by omega) _ _, DrawC.kept_set h.kept (by omega) _ _, h0, by simpa using h1, h.bR.set_other (by show X ≠ _; omega) _, h.bX.set 1 _, ab_set1 h.ab h.bX _ _, h.fine⟩
theorem XSt.fin {w : World} {c X : Nat} {f : Int} {wr : World} {u : Value} {M cap : Nat} {rs : List ARow} (h : XSt w c X f wr u M cap rs) (v0 v1 : Value) : CDr w c ((wr.setCell ⟨w.heap.size, 0, none⟩ v0).setCell ⟨w.heap.size, 1, none⟩ v1) M cap rs :=
  ⟨ab_under (ab_under h.ab (by omega) _ _) (by omega) _ _, cur_set (cur_set h.cur h.clt _ _) h.clt _ _, DrawC.kept_set (DrawC.kept_set h.kept (Nat.le_refl _) _ _) (Nat.le_refl _) _ _, h.clt, h.fine⟩
theorem XSt.app {w : World} {c X : Nat} {f : Int} {W w' : World} {u v' : Value} {M cap : Nat} {rs : List ARow} {y : ARow} {xs : List Value} (h : XSt w c X f W u M cap rs) (hy : OwnA (w.heap.size + 1) W y) (hf : Fine y.2.2) (hne : ∀ x ∈ rs, x.1 ≠ y.1) (hl : xs.length = rs.length * 4) (hxs : ∀ i, i < rs.length → Four (fun k => xs[k]?) i (nthA rs i))
    (hown : w'.ownsRow (w.heap.size + 1) 29 4 v' (rs.length + 1) (xs ++ rowV y)) (hg : W.grownBy w' (some M)) : ∃ M' c', v' = .slice (some ⟨M', 0, none⟩) (rs.length + 1) c' ∧ XSt w c X f w' u M' c' (rs ++ [y]) := by
  have h0 := h.clt; have h1 := h.ord; have h2 := h.ab.at'
  obtain ⟨cu, hcu, _⟩ := h.ab.outer
  obtain ⟨M', c', e, hab⟩ := h.ab.app hy hne hl hxs hown hg
  refine ⟨M', c', e, h.cur.grown hg (fun k hk => by cases hk; omega), kept_grown (B := 0) h.kept hg (fun k hk => by cases hk; omega), h0, ⟨h1.1, Nat.lt_of_lt_of_le h1.2 hg.size⟩, blk_far h.bR hg (fun e => by have := Option.some.inj e; omega), blk_far h.bX hg (fun e => chain_alarm h.bX hcu (Option.some.inj e)), hab, ?_⟩
  rw [pals_app]; exact fines_app h.fine hf
theorem retA {M n n' c : Nat} {f : Int} (h : n = n') : Ending.returned (.agg #[.int .i64 f, .slice (some ⟨M, 0, none⟩) n c]) = .returned (.agg #[.int .i64 f, .slice (some ⟨M, 0, none⟩) n' c]) := by rw [h]

set_option maxRecDepth 100000 in
set_option maxHeartbeats 3200000 in
theorem l6Any_any (c : Nat) (w : World) (hc : Cur w c) :
    Calls Try.prog 42 #[.pointer (some ⟨c, 0, none⟩)] w fun r w' => ∃ (f : Int) (M cap : Nat) (rs : List ARow), r = .returned (.agg #[.int .i64 f, .slice (some ⟨M, 0, none⟩) rs.length cap]) ∧ CDr w c w' M cap rs ∧ rs.length ≤ 5 ∧ I64 f := by
  have HC : Hid (Cur w c) := hc
  have HL : Hid (c < w.heap.size) := hc.lt
  clear hc
  obtain ⟨i0, hi, hz0, hz1, hz2⟩ := info_parts infoA
  go_enter Try.func42, Try.ntmps42
  go_wp2_with fail
  refine (l6Draw_any c _ (HC.out.alloc _)).mono ?_
  rintro r w1 ⟨f, M, cap, rs, rfl, hd, hr0, hr4, hfb⟩
  have HFB : Hid (I64 f) := hfb
  clear hfb
  have HD1 : Hid (CDr (w.alloc (.cells #[.int .i64 0, .slice none 0 0] 26)) c w1 M cap rs) := hd
  have HR1 : Hid (Blk w1 w.heap.size #[.int .i64 0, .slice none 0 0] 26) := blk_kept (Blk.new _ _ _) hd.kept (by have := HL.out; omega)
  clear hd
  go_wp2_with fail
  refine (below_any c 8 _ (HD1.out.cur.alloc _) (by decide) (by decide)).mono ?_
  rintro r w2 ⟨⟨z, rfl, hz0', hz1'⟩, hc2, hk2⟩
  have HX : Hid (XSt w c w1.heap.size f w2 (.slice (some ⟨M, 0, none⟩) rs.length cap) M cap rs) := by
    have h0 := HL.out; have h1 := HR1.out.lt
    have h2 := hk2.size
    simp at h2
    exact ⟨hc2, ((((Kept.refl c w).alloc _).trans HD1.out.kept).alloc _).trans hk2, h0, ⟨h1, by omega⟩, blk_kept (HR1.out.alloc _) hk2 (by omega), blk_kept (Blk.new w1 _ _) hk2 (by omega), ab_kept ((HD1.out.ab.grow (Go.Joins.below_alloc1 w1 _)).down (by simp)) hk2 (by omega), HD1.out.fine⟩
  clear hc2 hk2 HD1 HR1
  generalize w1.heap.size = X at HX ⊢
  by_cases e0 : z = 0
  · subst e0
    go_wp2_with fail
    refine (below_any c 33 _ HX.out.cur (by decide) (by decide)).mono ?_
    rintro r w3 ⟨⟨y, rfl, hy0, hy1⟩, hc3, hk3⟩
    clear HFB
    have HFB : Hid (I64 y) := ⟨by omega, by omega⟩
    clear hy0 hy1
    have HX3 : Hid (XSt w c X f w3 (.slice (some ⟨M, 0, none⟩) rs.length cap) M cap rs) := HX.out.keep hc3 hk3
    have q0 : w3.cell? ⟨X, 0, none⟩ = some (.int .i64 f) := HX3.out.bX.cell 0
    have g0 := HX3.out.bX.frozen 0
    clear hc3 hk3
    go_upto_region 11 with fail
    have HX4 : Hid (XSt w c X y (w3.setCell ⟨X, 0, none⟩ (.int .i64 y)) (.slice (some ⟨M, 0, none⟩) rs.length cap) M cap rs) := HX3.out.setF y
    clear q0 g0
    generalize w3.setCell ⟨X, 0, none⟩ (.int .i64 y) = W3 at *
    have r0 : W3.cell? ⟨w.heap.size, 0, none⟩ = some (.int .i64 0) := HX4.out.bR.cell 0
    have r1 : W3.cell? ⟨w.heap.size, 1, none⟩ = some (.slice none 0 0) := HX4.out.bR.cell 1
    have f0 := HX4.out.bR.frozen 0
    have f1 := HX4.out.bR.frozen 1
    have x0 : W3.cell? ⟨X, 0, none⟩ = some (.int .i64 y) := HX4.out.bX.cell 0
    have x1 : W3.cell? ⟨X, 1, none⟩ = some (.slice (some ⟨M, 0, none⟩) rs.length cap) := HX4.out.bX.cell 1
    go_wp2
    have hs : Blk ((W3.setCell ⟨w.heap.size, 0, none⟩ (.int .i64 y)).setCell ⟨w.heap.size, 1, none⟩ (.slice (some ⟨M, 0, none⟩) rs.length cap)) w.heap.size #[.int .i64 y, .slice (some ⟨M, 0, none⟩) rs.length cap] 26 := (HX4.out.bR.set 0 _).set 1 _
    have s0 := hs.cell 0
    have s1 := hs.cell 1
    refine bodyPost_ret (v := .agg #[.int .i64 y, .slice (some ⟨M, 0, none⟩) rs.length cap]) (by simp [results, Try.results42, go_sem, s0, s1]) rfl ?_
    exact ⟨y, M, cap, rs, rfl, HX4.out.fin _ _, by omega, HFB.out⟩
  have d0' : (z == 0) = false := by simpa using e0
  by_cases e1 : z = 1
  · subst e1
    have HC : Hid (Calls Try.prog 87 #[.pointer (some ⟨c, 0, none⟩)] w2.drew fun r w' => ∃ y : ARow, r = .returned (.agg #[.slice (some ⟨y.1, 0, none⟩) y.2.2.l.length y.2.1, .int .i64 y.2.2.s, .int .i64 y.2.2.e, .string y.2.2.n]) ∧ XSt w c X f w' (.slice (some ⟨M, 0, none⟩) rs.length cap) M cap rs ∧ OwnA (w.heap.size + 1) w' y ∧ w2.heap.size ≤ y.1 ∧ Fine y.2.2) := (l4Any_any c w2.drew (Cur.drewN HX.out.cur 1)).mono fun r w' ⟨g, cp, p, s, e, n, hr, hst, hp, hs, he, hn⟩ => ⟨(g, cp, ⟨p, s, e, n⟩), hr, HX.out.keep hst.cur (kept_drew hst.kept), (own_lst hst hp).down (by have := HX.out.ord; show _ ≤ w2.drew.heap.size; simp; omega), hst.blk.1, fine_of hp hst.fit hs he hn⟩
    go_upto_region 6 with fail
    refine wp_region_held_drew (S := fun w' => True) (by kernel_rfl) trivial (fun hHeld => ?_)
    refine wpAnyH_take (i := 0) (oi := { dst := some 15, op := Op.fieldAddr 26 (Operand.tmp 3) 1, type := 0, pos := "l06_chain.go:79", after := #[], guard := none }) (v := ?vd11) rfl (by kernel_rfl) (by kernel_rfl) (by kernel_rfl) (fun _ _ _ h => h) (Or.inl ⟨by rfl, ?hyd11⟩) hHeld ?_
    case hyd11 => (intro w hSw; (try dsimp only at hSw); go_simp <;> with_reducible rfl)
    try simp only [Act.put, List.setIfInBounds_toArray, List.set_cons_zero, List.set_cons_succ]
    refine wpAnyH_take (i := 2) (oi := { dst := some 17, op := Op.move (Operand.tmp 0), type := 75, pos := "l06_chain.go:79", after := #[], guard := none }) (v := ?vd12) rfl (by kernel_rfl) (by kernel_rfl) (by kernel_rfl) (fun _ _ _ h => h) (Or.inl ⟨by rfl, ?hyd12⟩) hHeld ?_
    case hyd12 => (intro w hSw; (try dsimp only at hSw); go_simp <;> with_reducible rfl)
    try simp only [Act.put, List.setIfInBounds_toArray, List.set_cons_zero, List.set_cons_succ]
    refine wpAnyH_ready (rs := [1, 3]) (by kernel_rfl) (by simp) ?_
    refine AllReadyH.cons (o := { dst := some 16, op := Op.load 24 (Operand.tmp 15), type := 24, pos := "l06_chain.go:79", after := #[{ on := 0, ground := Ground.data }], guard := none }) rfl (fun K hK => ?_) ?_
    ·
      have cD : w2.drew.cell? ⟨X, 1, none⟩ = some (.slice (some ⟨M, 0, none⟩) rs.length cap) := (HX.out.bX.drew).cell 1
      go_simp
      clear cD
      clear hHeld
      refine hK.out _ _ trivial (fun hHeld => ?_)
      clear hK K
      try simp only [Act.put, List.setIfInBounds_toArray, List.set_cons_zero, List.set_cons_succ]
      
      refine wpAnyH_ready (rs := [3]) (by kernel_rfl) (by simp) ?_
      refine AllReadyH.cons (o := { dst := some 18, op := Op.call { callee := Callee.value (Operand.func 87), args := #[Operand.tmp 17], argTypes := #[75] }, type := 29, pos := "l06_chain.go:79", after := #[{ on := 2, ground := Ground.data }], guard := none }) rfl (fun K hK => ?_) AllReadyH.nil
      go_simp
      refine HC.out.mono ?_
      rintro r wyc ⟨y, rfl, hx, hy, hyl, hyf⟩
      have HXc : Hid (XSt w c X f wyc (.slice (some ⟨M, 0, none⟩) rs.length cap) M cap rs) := hx
      have HY : Hid (OwnA (w.heap.size + 1) wyc y ∧ w2.heap.size ≤ y.1 ∧ Fine y.2.2) := ⟨hy, hyl, hyf⟩
      clear hx hy hyl hyf
      clear hHeld
      refine hK.out _ _ trivial (fun hHeld => ?_)
      clear hK K
      try simp only [Act.put, List.setIfInBounds_toArray, List.set_cons_zero, List.set_cons_succ]
      
      refine wpAnyH_ready (rs := [4]) (by kernel_rfl) (by simp) ?_
      refine AllReadyH.cons (o := { dst := some 19, op := Op.buildSlice 24 1 #[(0, Operand.tmp 18)], type := 24, pos := "l06_chain.go:79", after := #[{ on := 3, ground := Ground.data }], guard := none }) rfl (fun K hK => ?_) AllReadyH.nil
      go_simp
      clear hHeld
      refine hK.out _ _ trivial (fun hHeld => ?_)
      clear hK K
      try simp only [Act.put, List.setIfInBounds_toArray, List.set_cons_zero, List.set_cons_succ]
      
      refine wpAnyH_ready (rs := [5]) (by kernel_rfl) (by simp) ?_
      refine AllReadyH.cons (o := { dst := some 20, op := Op.call { callee := Callee.builtin Builtin.append, args := #[Operand.tmp 16, Operand.tmp 19], argTypes := #[24, 24] }, type := 24, pos := "l06_chain.go:79", after := #[{ on := 1, ground := Ground.data }, { on := 4, ground := Ground.data }, { on := 3, ground := Ground.chain }], guard := none }) rfl (fun K hK => ?_) AllReadyH.nil
      have hXd : XSt w c X f (wyc.alloc (.cells #[.slice (some ⟨y.1, 0, none⟩) y.2.2.l.length y.2.1, .int .i64 y.2.2.s, .int .i64 y.2.2.e, .string y.2.2.n] 29)) (.slice (some ⟨M, 0, none⟩) rs.length cap) M cap rs := HXc.out.grow (Go.Joins.below_alloc1 wyc _)
      obtain ⟨xs, hox, hxl, hxs⟩ := hXd.ab.own
      refine step_appB rfl _ _ 24 rfl 29 i0 (.agg #[.slice none 0 0, .int .i64 0, .int .i64 0, .string ByteArray.empty]) 4 56 Try.underlying24 hi hz0 hz1 hz2 rfl (by decide) (w.heap.size + 1) ?k11b (.slice (some ⟨M, 0, none⟩) rs.length cap) rs.length xs rfl hox ⟨wyc.heap.size, 0, none⟩ 1 1 (rowV y) rfl rfl (blk_news (Blk.new _ _ _)) (row_one _) ?k11c ?k11d ?_
      case k11b => have := hXd.ord; omega
      case k11c => unfold maxLen; omega
      case k11d => omega
      intro v' wya hown hg hat
      obtain ⟨M3, c3, e3, hXA⟩ := hXd.app (HY.out.1.grow (Go.Joins.below_alloc1 wyc _)) HY.out.2.2 (fun x hx => by have := (HX.out.ab.rows x hx).lt; have := HY.out.2.1; omega) hxl hxs hown hg
      subst e3
      have HXA : Hid (XSt w c X f wya (.slice (some ⟨M, 0, none⟩) rs.length cap) M3 c3 (rs ++ [y])) := hXA
      clear hown hg hat hXA hXd hox hxl hxs
      clear hHeld
      refine hK.out _ _ trivial (fun hHeld => ?_)
      clear hK K
      try simp only [Act.put, List.setIfInBounds_toArray, List.set_cons_zero, List.set_cons_succ]
      
      refine wpAnyH_take (i := 6) (oi := { dst := some 21, op := Op.fieldAddr 26 (Operand.tmp 3) 1, type := 0, pos := "l06_chain.go:79", after := #[{ on := 0, ground := Ground.phase }, { on := 1, ground := Ground.phase }, { on := 2, ground := Ground.phase }, { on := 3, ground := Ground.phase }, { on := 4, ground := Ground.phase }, { on := 5, ground := Ground.phase }], guard := none }) (v := ?vd17) rfl (by kernel_rfl) (by kernel_rfl) (by kernel_rfl) (fun _ _ _ h => h) (Or.inl ⟨by rfl, ?hyd17⟩) hHeld ?_
      case hyd17 => (intro w hSw; (try dsimp only at hSw); go_simp <;> with_reducible rfl)
      try simp only [Act.put, List.setIfInBounds_toArray, List.set_cons_zero, List.set_cons_succ]
      refine wpAnyH_ready (rs := [7]) (by kernel_rfl) (by simp) ?_
      refine AllReadyH.cons (o := { dst := none, op := Op.store 24 (Operand.tmp 21) (Operand.tmp 20), type := 0, pos := "l06_chain.go:79", after := #[{ on := 6, ground := Ground.data }, { on := 5, ground := Ground.data }, { on := 5, ground := Ground.chain }, { on := 0, ground := Ground.phase }, { on := 1, ground := Ground.phase }, { on := 2, ground := Ground.phase }, { on := 3, ground := Ground.phase }, { on := 4, ground := Ground.phase }, { on := 5, ground := Ground.phase }], guard := none }) rfl (fun K hK => ?_) AllReadyH.nil
      have cD : wya.cell? ⟨X, 1, none⟩ = some (.slice (some ⟨M, 0, none⟩) rs.length cap) := HXA.out.bX.cell 1
      have fD := HXA.out.bX.frozen 1
      go_simp
      clear cD fD
      clear hHeld
      refine hK.out _ _ trivial (fun hHeld => ?_)
      clear hK K
      try simp only [Act.put, List.setIfInBounds_toArray, List.set_cons_zero, List.set_cons_succ]
      
      refine wpAnyH_done (by kernel_rfl) ?_ _
      have HXZ : Hid (XSt w c X f (wya.setCell ⟨X, 1, none⟩ (.slice (some ⟨M3, 0, none⟩) (rs.length + 1) c3)) (.slice (some ⟨M3, 0, none⟩) (rs.length + 1) c3) M3 c3 (rs ++ [y])) := HXA.out.setL _
      clear hHeld HXA HXc HY
      generalize wya.setCell ⟨X, 1, none⟩ (.slice (some ⟨M3, 0, none⟩) (rs.length + 1) c3) = W3 at *
      have r0 : W3.cell? ⟨w.heap.size, 0, none⟩ = some (.int .i64 0) := HXZ.out.bR.cell 0
      have r1 : W3.cell? ⟨w.heap.size, 1, none⟩ = some (.slice none 0 0) := HXZ.out.bR.cell 1
      have f0 := HXZ.out.bR.frozen 0
      have f1 := HXZ.out.bR.frozen 1
      have x0 : W3.cell? ⟨X, 0, none⟩ = some (.int .i64 f) := HXZ.out.bX.cell 0
      have x1 : W3.cell? ⟨X, 1, none⟩ = some (.slice (some ⟨M3, 0, none⟩) (rs.length + 1) c3) := HXZ.out.bX.cell 1
      go_wp2
      have hs : Blk ((W3.setCell ⟨w.heap.size, 0, none⟩ (.int .i64 f)).setCell ⟨w.heap.size, 1, none⟩ (.slice (some ⟨M3, 0, none⟩) (rs.length + 1) c3)) w.heap.size #[.int .i64 f, .slice (some ⟨M3, 0, none⟩) (rs.length + 1) c3] 26 := (HXZ.out.bR.set 0 _).set 1 _
      have s0 := hs.cell 0
      have s1 := hs.cell 1
      refine bodyPost_ret (v := .agg #[.int .i64 f, .slice (some ⟨M3, 0, none⟩) (rs.length + 1) c3]) (by simp [results, Try.results42, go_sem, s0, s1]) rfl ?_
      exact ⟨f, M3, c3, rs ++ [y], retA (by simp), HXZ.out.fin _ _, by simp; omega, HFB.out⟩
    refine AllReadyH.cons (o := { dst := some 18, op := Op.call { callee := Callee.value (Operand.func 87), args := #[Operand.tmp 17], argTypes := #[75] }, type := 29, pos := "l06_chain.go:79", after := #[{ on := 2, ground := Ground.data }], guard := none }) rfl (fun K hK => ?_) AllReadyH.nil
    go_simp
    refine HC.out.mono ?_
    rintro r wyc ⟨y, rfl, hx, hy, hyl, hyf⟩
    have HXc : Hid (XSt w c X f wyc (.slice (some ⟨M, 0, none⟩) rs.length cap) M cap rs) := hx
    have HY : Hid (OwnA (w.heap.size + 1) wyc y ∧ w2.heap.size ≤ y.1 ∧ Fine y.2.2) := ⟨hy, hyl, hyf⟩
    clear hx hy hyl hyf
    clear hHeld
    refine hK.out _ _ trivial (fun hHeld => ?_)
    clear hK K
    try simp only [Act.put, List.setIfInBounds_toArray, List.set_cons_zero, List.set_cons_succ]
    
    refine wpAnyH_ready (rs := [1, 4]) (by kernel_rfl) (by simp) ?_
    refine AllReadyH.cons (o := { dst := some 16, op := Op.load 24 (Operand.tmp 15), type := 24, pos := "l06_chain.go:79", after := #[{ on := 0, ground := Ground.data }], guard := none }) rfl (fun K hK => ?_) ?_
    ·
      have cD : wyc.cell? ⟨X, 1, none⟩ = some (.slice (some ⟨M, 0, none⟩) rs.length cap) := (HXc.out.bX).cell 1
      go_simp
      clear cD
      clear hHeld
      refine hK.out _ _ trivial (fun hHeld => ?_)
      clear hK K
      try simp only [Act.put, List.setIfInBounds_toArray, List.set_cons_zero, List.set_cons_succ]
      
      refine wpAnyH_ready (rs := [4]) (by kernel_rfl) (by simp) ?_
      refine AllReadyH.cons (o := { dst := some 19, op := Op.buildSlice 24 1 #[(0, Operand.tmp 18)], type := 24, pos := "l06_chain.go:79", after := #[{ on := 3, ground := Ground.data }], guard := none }) rfl (fun K hK => ?_) AllReadyH.nil
      go_simp
      clear hHeld
      refine hK.out _ _ trivial (fun hHeld => ?_)
      clear hK K
      try simp only [Act.put, List.setIfInBounds_toArray, List.set_cons_zero, List.set_cons_succ]
      
      refine wpAnyH_ready (rs := [5]) (by kernel_rfl) (by simp) ?_
      refine AllReadyH.cons (o := { dst := some 20, op := Op.call { callee := Callee.builtin Builtin.append, args := #[Operand.tmp 16, Operand.tmp 19], argTypes := #[24, 24] }, type := 24, pos := "l06_chain.go:79", after := #[{ on := 1, ground := Ground.data }, { on := 4, ground := Ground.data }, { on := 3, ground := Ground.chain }], guard := none }) rfl (fun K hK => ?_) AllReadyH.nil
      have hXd : XSt w c X f (wyc.alloc (.cells #[.slice (some ⟨y.1, 0, none⟩) y.2.2.l.length y.2.1, .int .i64 y.2.2.s, .int .i64 y.2.2.e, .string y.2.2.n] 29)) (.slice (some ⟨M, 0, none⟩) rs.length cap) M cap rs := HXc.out.grow (Go.Joins.below_alloc1 wyc _)
      obtain ⟨xs, hox, hxl, hxs⟩ := hXd.ab.own
      refine step_appB rfl _ _ 24 rfl 29 i0 (.agg #[.slice none 0 0, .int .i64 0, .int .i64 0, .string ByteArray.empty]) 4 56 Try.underlying24 hi hz0 hz1 hz2 rfl (by decide) (w.heap.size + 1) ?k12b (.slice (some ⟨M, 0, none⟩) rs.length cap) rs.length xs rfl hox ⟨wyc.heap.size, 0, none⟩ 1 1 (rowV y) rfl rfl (blk_news (Blk.new _ _ _)) (row_one _) ?k12c ?k12d ?_
      case k12b => have := hXd.ord; omega
      case k12c => unfold maxLen; omega
      case k12d => omega
      intro v' wya hown hg hat
      obtain ⟨M3, c3, e3, hXA⟩ := hXd.app (HY.out.1.grow (Go.Joins.below_alloc1 wyc _)) HY.out.2.2 (fun x hx => by have := (HX.out.ab.rows x hx).lt; have := HY.out.2.1; omega) hxl hxs hown hg
      subst e3
      have HXA : Hid (XSt w c X f wya (.slice (some ⟨M, 0, none⟩) rs.length cap) M3 c3 (rs ++ [y])) := hXA
      clear hown hg hat hXA hXd hox hxl hxs
      clear hHeld
      refine hK.out _ _ trivial (fun hHeld => ?_)
      clear hK K
      try simp only [Act.put, List.setIfInBounds_toArray, List.set_cons_zero, List.set_cons_succ]
      
      refine wpAnyH_take (i := 6) (oi := { dst := some 21, op := Op.fieldAddr 26 (Operand.tmp 3) 1, type := 0, pos := "l06_chain.go:79", after := #[{ on := 0, ground := Ground.phase }, { on := 1, ground := Ground.phase }, { on := 2, ground := Ground.phase }, { on := 3, ground := Ground.phase }, { on := 4, ground := Ground.phase }, { on := 5, ground := Ground.phase }], guard := none }) (v := ?vd113) rfl (by kernel_rfl) (by kernel_rfl) (by kernel_rfl) (fun _ _ _ h => h) (Or.inl ⟨by rfl, ?hyd113⟩) hHeld ?_
      case hyd113 => (intro w hSw; (try dsimp only at hSw); go_simp <;> with_reducible rfl)
      try simp only [Act.put, List.setIfInBounds_toArray, List.set_cons_zero, List.set_cons_succ]
      refine wpAnyH_ready (rs := [7]) (by kernel_rfl) (by simp) ?_
      refine AllReadyH.cons (o := { dst := none, op := Op.store 24 (Operand.tmp 21) (Operand.tmp 20), type := 0, pos := "l06_chain.go:79", after := #[{ on := 6, ground := Ground.data }, { on := 5, ground := Ground.data }, { on := 5, ground := Ground.chain }, { on := 0, ground := Ground.phase }, { on := 1, ground := Ground.phase }, { on := 2, ground := Ground.phase }, { on := 3, ground := Ground.phase }, { on := 4, ground := Ground.phase }, { on := 5, ground := Ground.phase }], guard := none }) rfl (fun K hK => ?_) AllReadyH.nil
      have cD : wya.cell? ⟨X, 1, none⟩ = some (.slice (some ⟨M, 0, none⟩) rs.length cap) := HXA.out.bX.cell 1
      have fD := HXA.out.bX.frozen 1
      go_simp
      clear cD fD
      clear hHeld
      refine hK.out _ _ trivial (fun hHeld => ?_)
      clear hK K
      try simp only [Act.put, List.setIfInBounds_toArray, List.set_cons_zero, List.set_cons_succ]
      
      refine wpAnyH_done (by kernel_rfl) ?_ _
      have HXZ : Hid (XSt w c X f (wya.setCell ⟨X, 1, none⟩ (.slice (some ⟨M3, 0, none⟩) (rs.length + 1) c3)) (.slice (some ⟨M3, 0, none⟩) (rs.length + 1) c3) M3 c3 (rs ++ [y])) := HXA.out.setL _
      clear hHeld HXA HXc HY
      generalize wya.setCell ⟨X, 1, none⟩ (.slice (some ⟨M3, 0, none⟩) (rs.length + 1) c3) = W3 at *
      have r0 : W3.cell? ⟨w.heap.size, 0, none⟩ = some (.int .i64 0) := HXZ.out.bR.cell 0
      have r1 : W3.cell? ⟨w.heap.size, 1, none⟩ = some (.slice none 0 0) := HXZ.out.bR.cell 1
      have f0 := HXZ.out.bR.frozen 0
      have f1 := HXZ.out.bR.frozen 1
      have x0 : W3.cell? ⟨X, 0, none⟩ = some (.int .i64 f) := HXZ.out.bX.cell 0
      have x1 : W3.cell? ⟨X, 1, none⟩ = some (.slice (some ⟨M3, 0, none⟩) (rs.length + 1) c3) := HXZ.out.bX.cell 1
      go_wp2
      have hs : Blk ((W3.setCell ⟨w.heap.size, 0, none⟩ (.int .i64 f)).setCell ⟨w.heap.size, 1, none⟩ (.slice (some ⟨M3, 0, none⟩) (rs.length + 1) c3)) w.heap.size #[.int .i64 f, .slice (some ⟨M3, 0, none⟩) (rs.length + 1) c3] 26 := (HXZ.out.bR.set 0 _).set 1 _
      have s0 := hs.cell 0
      have s1 := hs.cell 1
      refine bodyPost_ret (v := .agg #[.int .i64 f, .slice (some ⟨M3, 0, none⟩) (rs.length + 1) c3]) (by simp [results, Try.results42, go_sem, s0, s1]) rfl ?_
      exact ⟨f, M3, c3, rs ++ [y], retA (by simp), HXZ.out.fin _ _, by simp; omega, HFB.out⟩
    refine AllReadyH.cons (o := { dst := some 19, op := Op.buildSlice 24 1 #[(0, Operand.tmp 18)], type := 24, pos := "l06_chain.go:79", after := #[{ on := 3, ground := Ground.data }], guard := none }) rfl (fun K hK => ?_) AllReadyH.nil
    go_simp
    clear hHeld
    refine hK.out _ _ trivial (fun hHeld => ?_)
    clear hK K
    try simp only [Act.put, List.setIfInBounds_toArray, List.set_cons_zero, List.set_cons_succ]
    
    refine wpAnyH_ready (rs := [1]) (by kernel_rfl) (by simp) ?_
    refine AllReadyH.cons (o := { dst := some 16, op := Op.load 24 (Operand.tmp 15), type := 24, pos := "l06_chain.go:79", after := #[{ on := 0, ground := Ground.data }], guard := none }) rfl (fun K hK => ?_) AllReadyH.nil
    have cD : (wyc.alloc (.cells #[.slice (some ⟨y.1, 0, none⟩) y.2.2.l.length y.2.1, .int .i64 y.2.2.s, .int .i64 y.2.2.e, .string y.2.2.n] 29)).cell? ⟨X, 1, none⟩ = some (.slice (some ⟨M, 0, none⟩) rs.length cap) := ((HXc.out.bX.alloc _)).cell 1
    go_simp
    clear cD
    clear hHeld
    refine hK.out _ _ trivial (fun hHeld => ?_)
    clear hK K
    try simp only [Act.put, List.setIfInBounds_toArray, List.set_cons_zero, List.set_cons_succ]
    
    refine wpAnyH_ready (rs := [5]) (by kernel_rfl) (by simp) ?_
    refine AllReadyH.cons (o := { dst := some 20, op := Op.call { callee := Callee.builtin Builtin.append, args := #[Operand.tmp 16, Operand.tmp 19], argTypes := #[24, 24] }, type := 24, pos := "l06_chain.go:79", after := #[{ on := 1, ground := Ground.data }, { on := 4, ground := Ground.data }, { on := 3, ground := Ground.chain }], guard := none }) rfl (fun K hK => ?_) AllReadyH.nil
    have hXd : XSt w c X f (wyc.alloc (.cells #[.slice (some ⟨y.1, 0, none⟩) y.2.2.l.length y.2.1, .int .i64 y.2.2.s, .int .i64 y.2.2.e, .string y.2.2.n] 29)) (.slice (some ⟨M, 0, none⟩) rs.length cap) M cap rs := HXc.out.grow (Go.Joins.below_alloc1 wyc _)
    obtain ⟨xs, hox, hxl, hxs⟩ := hXd.ab.own
    refine step_appB rfl _ _ 24 rfl 29 i0 (.agg #[.slice none 0 0, .int .i64 0, .int .i64 0, .string ByteArray.empty]) 4 56 Try.underlying24 hi hz0 hz1 hz2 rfl (by decide) (w.heap.size + 1) ?k13b (.slice (some ⟨M, 0, none⟩) rs.length cap) rs.length xs rfl hox ⟨wyc.heap.size, 0, none⟩ 1 1 (rowV y) rfl rfl (blk_news (Blk.new _ _ _)) (row_one _) ?k13c ?k13d ?_
    case k13b => have := hXd.ord; omega
    case k13c => unfold maxLen; omega
    case k13d => omega
    intro v' wya hown hg hat
    obtain ⟨M3, c3, e3, hXA⟩ := hXd.app (HY.out.1.grow (Go.Joins.below_alloc1 wyc _)) HY.out.2.2 (fun x hx => by have := (HX.out.ab.rows x hx).lt; have := HY.out.2.1; omega) hxl hxs hown hg
    subst e3
    have HXA : Hid (XSt w c X f wya (.slice (some ⟨M, 0, none⟩) rs.length cap) M3 c3 (rs ++ [y])) := hXA
    clear hown hg hat hXA hXd hox hxl hxs
    clear hHeld
    refine hK.out _ _ trivial (fun hHeld => ?_)
    clear hK K
    try simp only [Act.put, List.setIfInBounds_toArray, List.set_cons_zero, List.set_cons_succ]
    
    refine wpAnyH_take (i := 6) (oi := { dst := some 21, op := Op.fieldAddr 26 (Operand.tmp 3) 1, type := 0, pos := "l06_chain.go:79", after := #[{ on := 0, ground := Ground.phase }, { on := 1, ground := Ground.phase }, { on := 2, ground := Ground.phase }, { on := 3, ground := Ground.phase }, { on := 4, ground := Ground.phase }, { on := 5, ground := Ground.phase }], guard := none }) (v := ?vd118) rfl (by kernel_rfl) (by kernel_rfl) (by kernel_rfl) (fun _ _ _ h => h) (Or.inl ⟨by rfl, ?hyd118⟩) hHeld ?_
    case hyd118 => (intro w hSw; (try dsimp only at hSw); go_simp <;> with_reducible rfl)
    try simp only [Act.put, List.setIfInBounds_toArray, List.set_cons_zero, List.set_cons_succ]
    refine wpAnyH_ready (rs := [7]) (by kernel_rfl) (by simp) ?_
    refine AllReadyH.cons (o := { dst := none, op := Op.store 24 (Operand.tmp 21) (Operand.tmp 20), type := 0, pos := "l06_chain.go:79", after := #[{ on := 6, ground := Ground.data }, { on := 5, ground := Ground.data }, { on := 5, ground := Ground.chain }, { on := 0, ground := Ground.phase }, { on := 1, ground := Ground.phase }, { on := 2, ground := Ground.phase }, { on := 3, ground := Ground.phase }, { on := 4, ground := Ground.phase }, { on := 5, ground := Ground.phase }], guard := none }) rfl (fun K hK => ?_) AllReadyH.nil
    have cD : wya.cell? ⟨X, 1, none⟩ = some (.slice (some ⟨M, 0, none⟩) rs.length cap) := HXA.out.bX.cell 1
    have fD := HXA.out.bX.frozen 1
    go_simp
    clear cD fD
    clear hHeld
    refine hK.out _ _ trivial (fun hHeld => ?_)
    clear hK K
    try simp only [Act.put, List.setIfInBounds_toArray, List.set_cons_zero, List.set_cons_succ]
    
    refine wpAnyH_done (by kernel_rfl) ?_ _
    have HXZ : Hid (XSt w c X f (wya.setCell ⟨X, 1, none⟩ (.slice (some ⟨M3, 0, none⟩) (rs.length + 1) c3)) (.slice (some ⟨M3, 0, none⟩) (rs.length + 1) c3) M3 c3 (rs ++ [y])) := HXA.out.setL _
    clear hHeld HXA HXc HY
    generalize wya.setCell ⟨X, 1, none⟩ (.slice (some ⟨M3, 0, none⟩) (rs.length + 1) c3) = W3 at *
    have r0 : W3.cell? ⟨w.heap.size, 0, none⟩ = some (.int .i64 0) := HXZ.out.bR.cell 0
    have r1 : W3.cell? ⟨w.heap.size, 1, none⟩ = some (.slice none 0 0) := HXZ.out.bR.cell 1
    have f0 := HXZ.out.bR.frozen 0
    have f1 := HXZ.out.bR.frozen 1
    have x0 : W3.cell? ⟨X, 0, none⟩ = some (.int .i64 f) := HXZ.out.bX.cell 0
    have x1 : W3.cell? ⟨X, 1, none⟩ = some (.slice (some ⟨M3, 0, none⟩) (rs.length + 1) c3) := HXZ.out.bX.cell 1
    go_wp2
    have hs : Blk ((W3.setCell ⟨w.heap.size, 0, none⟩ (.int .i64 f)).setCell ⟨w.heap.size, 1, none⟩ (.slice (some ⟨M3, 0, none⟩) (rs.length + 1) c3)) w.heap.size #[.int .i64 f, .slice (some ⟨M3, 0, none⟩) (rs.length + 1) c3] 26 := (HXZ.out.bR.set 0 _).set 1 _
    have s0 := hs.cell 0
    have s1 := hs.cell 1
    refine bodyPost_ret (v := .agg #[.int .i64 f, .slice (some ⟨M3, 0, none⟩) (rs.length + 1) c3]) (by simp [results, Try.results42, go_sem, s0, s1]) rfl ?_
    exact ⟨f, M3, c3, rs ++ [y], retA (by simp), HXZ.out.fin _ _, by simp; omega, HFB.out⟩
  have d1' : (z == 1) = false := by simpa using e1
  by_cases e2 : z = 2
  · subst e2
    obtain ⟨cu, hcu, hcs, h4⟩ := HX.out.ab.outer
    have h40 := h4 0 hr0
    unfold Four at h40
    have HAl : Hid (w2.drew.cell? ⟨M, 0, none⟩ = some (.slice (some ⟨(nthA rs 0).1, 0, none⟩) (nthA rs 0).2.2.l.length (nthA rs 0).2.1) ∧ w2.drew.cell? ⟨M, 1, none⟩ = some (.int .i64 (nthA rs 0).2.2.s) ∧ w2.drew.cell? ⟨M, 2, none⟩ = some (.int .i64 (nthA rs 0).2.2.e) ∧ w2.drew.cell? ⟨M, 3, none⟩ = some (.string (nthA rs 0).2.2.n)) := ⟨(hcu.drew.cell 0).trans h40.1, (hcu.drew.cell 1).trans h40.2.1, (hcu.drew.cell 2).trans h40.2.2.1, (hcu.drew.cell 3).trans h40.2.2.2⟩
    clear h40 h4 hcs hcu
    have hri : (0 : Int) < (rs.length : Int) := by omega
    have HC : Hid (Calls Try.prog 49 #[.agg #[.slice (some ⟨(nthA rs 0).1, 0, none⟩) (nthA rs 0).2.2.l.length (nthA rs 0).2.1, .int .i64 (nthA rs 0).2.2.s, .int .i64 (nthA rs 0).2.2.e, .string (nthA rs 0).2.2.n]] w2.drew fun r w' => ∃ y : ARow, r = .returned (.agg #[.slice (some ⟨y.1, 0, none⟩) y.2.2.l.length y.2.1, .int .i64 y.2.2.s, .int .i64 y.2.2.e, .string y.2.2.n]) ∧ XSt w c X f w' (.slice (some ⟨M, 0, none⟩) rs.length cap) M cap rs ∧ OwnA (w.heap.size + 1) w' y ∧ w2.heap.size ≤ y.1 ∧ Fine y.2.2) := by
      have ho := HX.out.ab.rows _ (nthA_mem hr0)
      have hfi : Fine (nthA rs 0).2.2 := by rw [← pals_nth hr0]; exact HX.out.fine _ (nthP_mem (by rw [pals_len]; exact hr0))
      exact (copyS_any _ _ _ _ _ _ _ w2.drew (reads_drew ho.reads) ho.2.1).mono fun r w' ⟨⟨Mx, cx, hr, hO⟩, hb⟩ => ⟨(Mx, cx, (nthA rs 0).2.2), hr, HX.out.grow (grow_on ((Below.refl _ _).drew) hb), (own_of_copy hO ho.2.1).down (by have := HX.out.ord; show _ ≤ w2.drew.heap.size; simp; omega), hO.1, hfi⟩
    go_upto_region 8 with fail
    refine wp_region_held_drew (S := fun w' => True) (by kernel_rfl) trivial (fun hHeld => ?_)
    refine wpAnyH_take (i := 0) (oi := { dst := some 24, op := Op.fieldAddr 26 (Operand.tmp 3) 1, type := 0, pos := "l06_chain.go:81", after := #[], guard := none }) (v := ?vd21) rfl (by kernel_rfl) (by kernel_rfl) (by kernel_rfl) (fun _ _ _ h => h) (Or.inl ⟨by rfl, ?hyd21⟩) hHeld ?_
    case hyd21 => (intro w hSw; (try dsimp only at hSw); go_simp <;> with_reducible rfl)
    try simp only [Act.put, List.setIfInBounds_toArray, List.set_cons_zero, List.set_cons_succ]
    refine wpAnyH_take (i := 2) (oi := { dst := some 26, op := Op.fieldAddr 26 (Operand.tmp 3) 1, type := 0, pos := "l06_chain.go:81", after := #[], guard := none }) (v := ?vd22) rfl (by kernel_rfl) (by kernel_rfl) (by kernel_rfl) (fun _ _ _ h => h) (Or.inl ⟨by rfl, ?hyd22⟩) hHeld ?_
    case hyd22 => (intro w hSw; (try dsimp only at hSw); go_simp <;> with_reducible rfl)
    try simp only [Act.put, List.setIfInBounds_toArray, List.set_cons_zero, List.set_cons_succ]
    refine wpAnyH_ready (rs := [1, 3]) (by kernel_rfl) (by simp) ?_
    refine AllReadyH.cons (o := { dst := some 25, op := Op.load 24 (Operand.tmp 24), type := 24, pos := "l06_chain.go:81", after := #[{ on := 0, ground := Ground.data }], guard := none }) rfl (fun K hK => ?_) ?_
    ·
      have cD : w2.drew.cell? ⟨X, 1, none⟩ = some (.slice (some ⟨M, 0, none⟩) rs.length cap) := (HX.out.bX.drew).cell 1
      go_simp
      clear cD
      clear hHeld
      refine hK.out _ _ trivial (fun hHeld => ?_)
      clear hK K
      try simp only [Act.put, List.setIfInBounds_toArray, List.set_cons_zero, List.set_cons_succ]
      
      refine wpAnyH_ready (rs := [3]) (by kernel_rfl) (by simp) ?_
      refine AllReadyH.cons (o := { dst := some 27, op := Op.load 24 (Operand.tmp 26), type := 24, pos := "l06_chain.go:81", after := #[{ on := 2, ground := Ground.data }], guard := none }) rfl (fun K hK => ?_) AllReadyH.nil
      have cD : w2.drew.cell? ⟨X, 1, none⟩ = some (.slice (some ⟨M, 0, none⟩) rs.length cap) := (HX.out.bX.drew).cell 1
      go_simp
      clear cD
      clear hHeld
      refine hK.out _ _ trivial (fun hHeld => ?_)
      clear hK K
      try simp only [Act.put, List.setIfInBounds_toArray, List.set_cons_zero, List.set_cons_succ]
      
      refine wpAnyH_take (i := 4) (oi := { dst := some 28, op := Op.indexAddr 24 (Operand.tmp 27) (Operand.const (Value.int IntKind.i64 0)), type := 0, pos := "l06_chain.go:81", after := #[{ on := 3, ground := Ground.data }], guard := none }) (v := ?vd25) rfl (by kernel_rfl) (by kernel_rfl) (by kernel_rfl) (fun _ _ _ h => h) (Or.inl ⟨by rfl, ?hyd25⟩) hHeld ?_
      case hyd25 => (intro w hSw; (try dsimp only at hSw); go_simp <;> with_reducible rfl)
      try simp only [Act.put, List.setIfInBounds_toArray, List.set_cons_zero, List.set_cons_succ]
      refine wpAnyH_ready (rs := [5]) (by kernel_rfl) (by simp) ?_
      refine AllReadyH.cons (o := { dst := some 29, op := Op.load 29 (Operand.tmp 28), type := 29, pos := "l06_chain.go:81", after := #[{ on := 4, ground := Ground.data }], guard := none }) rfl (fun K hK => ?_) AllReadyH.nil
      have y0 := HAl.out.1
      have y1 := HAl.out.2.1
      have y2 := HAl.out.2.2.1
      have y3 := HAl.out.2.2.2
      go_simp
      clear y0 y1 y2 y3
      clear hHeld
      refine hK.out _ _ trivial (fun hHeld => ?_)
      clear hK K
      try simp only [Act.put, List.setIfInBounds_toArray, List.set_cons_zero, List.set_cons_succ]
      
      refine wpAnyH_ready (rs := [6]) (by kernel_rfl) (by simp) ?_
      refine AllReadyH.cons (o := { dst := some 30, op := Op.call { callee := Callee.value (Operand.func 49), args := #[Operand.tmp 29], argTypes := #[29] }, type := 29, pos := "l06_chain.go:81", after := #[{ on := 5, ground := Ground.data }], guard := none }) rfl (fun K hK => ?_) AllReadyH.nil
      go_simp
      refine HC.out.mono ?_
      rintro r wyc ⟨y, rfl, hx, hy, hyl, hyf⟩
      have HXc : Hid (XSt w c X f wyc (.slice (some ⟨M, 0, none⟩) rs.length cap) M cap rs) := hx
      have HY : Hid (OwnA (w.heap.size + 1) wyc y ∧ w2.heap.size ≤ y.1 ∧ Fine y.2.2) := ⟨hy, hyl, hyf⟩
      clear hx hy hyl hyf
      clear hHeld
      refine hK.out _ _ trivial (fun hHeld => ?_)
      clear hK K
      try simp only [Act.put, List.setIfInBounds_toArray, List.set_cons_zero, List.set_cons_succ]
      
      refine wpAnyH_ready (rs := [7]) (by kernel_rfl) (by simp) ?_
      refine AllReadyH.cons (o := { dst := some 31, op := Op.buildSlice 24 1 #[(0, Operand.tmp 30)], type := 24, pos := "l06_chain.go:81", after := #[{ on := 6, ground := Ground.data }], guard := none }) rfl (fun K hK => ?_) AllReadyH.nil
      go_simp
      clear hHeld
      refine hK.out _ _ trivial (fun hHeld => ?_)
      clear hK K
      try simp only [Act.put, List.setIfInBounds_toArray, List.set_cons_zero, List.set_cons_succ]
      
      refine wpAnyH_ready (rs := [8]) (by kernel_rfl) (by simp) ?_
      refine AllReadyH.cons (o := { dst := some 32, op := Op.call { callee := Callee.builtin Builtin.append, args := #[Operand.tmp 25, Operand.tmp 31], argTypes := #[24, 24] }, type := 24, pos := "l06_chain.go:81", after := #[{ on := 1, ground := Ground.data }, { on := 7, ground := Ground.data }, { on := 6, ground := Ground.chain }], guard := none }) rfl (fun K hK => ?_) AllReadyH.nil
      have hXd : XSt w c X f (wyc.alloc (.cells #[.slice (some ⟨y.1, 0, none⟩) y.2.2.l.length y.2.1, .int .i64 y.2.2.s, .int .i64 y.2.2.e, .string y.2.2.n] 29)) (.slice (some ⟨M, 0, none⟩) rs.length cap) M cap rs := HXc.out.grow (Go.Joins.below_alloc1 wyc _)
      obtain ⟨xs, hox, hxl, hxs⟩ := hXd.ab.own
      refine step_appB rfl _ _ 24 rfl 29 i0 (.agg #[.slice none 0 0, .int .i64 0, .int .i64 0, .string ByteArray.empty]) 4 56 Try.underlying24 hi hz0 hz1 hz2 rfl (by decide) (w.heap.size + 1) ?k21b (.slice (some ⟨M, 0, none⟩) rs.length cap) rs.length xs rfl hox ⟨wyc.heap.size, 0, none⟩ 1 1 (rowV y) rfl rfl (blk_news (Blk.new _ _ _)) (row_one _) ?k21c ?k21d ?_
      case k21b => have := hXd.ord; omega
      case k21c => unfold maxLen; omega
      case k21d => omega
      intro v' wya hown hg hat
      obtain ⟨M3, c3, e3, hXA⟩ := hXd.app (HY.out.1.grow (Go.Joins.below_alloc1 wyc _)) HY.out.2.2 (fun x hx => by have := (HX.out.ab.rows x hx).lt; have := HY.out.2.1; omega) hxl hxs hown hg
      subst e3
      have HXA : Hid (XSt w c X f wya (.slice (some ⟨M, 0, none⟩) rs.length cap) M3 c3 (rs ++ [y])) := hXA
      clear hown hg hat hXA hXd hox hxl hxs
      clear hHeld
      refine hK.out _ _ trivial (fun hHeld => ?_)
      clear hK K
      try simp only [Act.put, List.setIfInBounds_toArray, List.set_cons_zero, List.set_cons_succ]
      
      refine wpAnyH_take (i := 9) (oi := { dst := some 33, op := Op.fieldAddr 26 (Operand.tmp 3) 1, type := 0, pos := "l06_chain.go:81", after := #[{ on := 0, ground := Ground.phase }, { on := 1, ground := Ground.phase }, { on := 2, ground := Ground.phase }, { on := 3, ground := Ground.phase }, { on := 4, ground := Ground.phase }, { on := 5, ground := Ground.phase }, { on := 6, ground := Ground.phase }, { on := 7, ground := Ground.phase }, { on := 8, ground := Ground.phase }], guard := none }) (v := ?vd210) rfl (by kernel_rfl) (by kernel_rfl) (by kernel_rfl) (fun _ _ _ h => h) (Or.inl ⟨by rfl, ?hyd210⟩) hHeld ?_
      case hyd210 => (intro w hSw; (try dsimp only at hSw); go_simp <;> with_reducible rfl)
      try simp only [Act.put, List.setIfInBounds_toArray, List.set_cons_zero, List.set_cons_succ]
      refine wpAnyH_ready (rs := [10]) (by kernel_rfl) (by simp) ?_
      refine AllReadyH.cons (o := { dst := none, op := Op.store 24 (Operand.tmp 33) (Operand.tmp 32), type := 0, pos := "l06_chain.go:81", after := #[{ on := 9, ground := Ground.data }, { on := 8, ground := Ground.data }, { on := 8, ground := Ground.chain }, { on := 0, ground := Ground.phase }, { on := 1, ground := Ground.phase }, { on := 2, ground := Ground.phase }, { on := 3, ground := Ground.phase }, { on := 4, ground := Ground.phase }, { on := 5, ground := Ground.phase }, { on := 6, ground := Ground.phase }, { on := 7, ground := Ground.phase }, { on := 8, ground := Ground.phase }], guard := none }) rfl (fun K hK => ?_) AllReadyH.nil
      have cD : wya.cell? ⟨X, 1, none⟩ = some (.slice (some ⟨M, 0, none⟩) rs.length cap) := HXA.out.bX.cell 1
      have fD := HXA.out.bX.frozen 1
      go_simp
      clear cD fD
      clear hHeld
      refine hK.out _ _ trivial (fun hHeld => ?_)
      clear hK K
      try simp only [Act.put, List.setIfInBounds_toArray, List.set_cons_zero, List.set_cons_succ]
      
      refine wpAnyH_done (by kernel_rfl) ?_ _
      have HXZ : Hid (XSt w c X f (wya.setCell ⟨X, 1, none⟩ (.slice (some ⟨M3, 0, none⟩) (rs.length + 1) c3)) (.slice (some ⟨M3, 0, none⟩) (rs.length + 1) c3) M3 c3 (rs ++ [y])) := HXA.out.setL _
      clear hHeld HXA HXc HY
      generalize wya.setCell ⟨X, 1, none⟩ (.slice (some ⟨M3, 0, none⟩) (rs.length + 1) c3) = W3 at *
      have r0 : W3.cell? ⟨w.heap.size, 0, none⟩ = some (.int .i64 0) := HXZ.out.bR.cell 0
      have r1 : W3.cell? ⟨w.heap.size, 1, none⟩ = some (.slice none 0 0) := HXZ.out.bR.cell 1
      have f0 := HXZ.out.bR.frozen 0
      have f1 := HXZ.out.bR.frozen 1
      have x0 : W3.cell? ⟨X, 0, none⟩ = some (.int .i64 f) := HXZ.out.bX.cell 0
      have x1 : W3.cell? ⟨X, 1, none⟩ = some (.slice (some ⟨M3, 0, none⟩) (rs.length + 1) c3) := HXZ.out.bX.cell 1
      go_wp2
      have hs : Blk ((W3.setCell ⟨w.heap.size, 0, none⟩ (.int .i64 f)).setCell ⟨w.heap.size, 1, none⟩ (.slice (some ⟨M3, 0, none⟩) (rs.length + 1) c3)) w.heap.size #[.int .i64 f, .slice (some ⟨M3, 0, none⟩) (rs.length + 1) c3] 26 := (HXZ.out.bR.set 0 _).set 1 _
      have s0 := hs.cell 0
      have s1 := hs.cell 1
      refine bodyPost_ret (v := .agg #[.int .i64 f, .slice (some ⟨M3, 0, none⟩) (rs.length + 1) c3]) (by simp [results, Try.results42, go_sem, s0, s1]) rfl ?_
      exact ⟨f, M3, c3, rs ++ [y], retA (by simp), HXZ.out.fin _ _, by simp; omega, HFB.out⟩
    refine AllReadyH.cons (o := { dst := some 27, op := Op.load 24 (Operand.tmp 26), type := 24, pos := "l06_chain.go:81", after := #[{ on := 2, ground := Ground.data }], guard := none }) rfl (fun K hK => ?_) AllReadyH.nil
    have cD : w2.drew.cell? ⟨X, 1, none⟩ = some (.slice (some ⟨M, 0, none⟩) rs.length cap) := (HX.out.bX.drew).cell 1
    go_simp
    clear cD
    clear hHeld
    refine hK.out _ _ trivial (fun hHeld => ?_)
    clear hK K
    try simp only [Act.put, List.setIfInBounds_toArray, List.set_cons_zero, List.set_cons_succ]
    
    refine wpAnyH_take (i := 4) (oi := { dst := some 28, op := Op.indexAddr 24 (Operand.tmp 27) (Operand.const (Value.int IntKind.i64 0)), type := 0, pos := "l06_chain.go:81", after := #[{ on := 3, ground := Ground.data }], guard := none }) (v := ?vd213) rfl (by kernel_rfl) (by kernel_rfl) (by kernel_rfl) (fun _ _ _ h => h) (Or.inl ⟨by rfl, ?hyd213⟩) hHeld ?_
    case hyd213 => (intro w hSw; (try dsimp only at hSw); go_simp <;> with_reducible rfl)
    try simp only [Act.put, List.setIfInBounds_toArray, List.set_cons_zero, List.set_cons_succ]
    refine wpAnyH_ready (rs := [1, 5]) (by kernel_rfl) (by simp) ?_
    refine AllReadyH.cons (o := { dst := some 25, op := Op.load 24 (Operand.tmp 24), type := 24, pos := "l06_chain.go:81", after := #[{ on := 0, ground := Ground.data }], guard := none }) rfl (fun K hK => ?_) ?_
    ·
      have cD : w2.drew.cell? ⟨X, 1, none⟩ = some (.slice (some ⟨M, 0, none⟩) rs.length cap) := (HX.out.bX.drew).cell 1
      go_simp
      clear cD
      clear hHeld
      refine hK.out _ _ trivial (fun hHeld => ?_)
      clear hK K
      try simp only [Act.put, List.setIfInBounds_toArray, List.set_cons_zero, List.set_cons_succ]
      
      refine wpAnyH_ready (rs := [5]) (by kernel_rfl) (by simp) ?_
      refine AllReadyH.cons (o := { dst := some 29, op := Op.load 29 (Operand.tmp 28), type := 29, pos := "l06_chain.go:81", after := #[{ on := 4, ground := Ground.data }], guard := none }) rfl (fun K hK => ?_) AllReadyH.nil
      have y0 := HAl.out.1
      have y1 := HAl.out.2.1
      have y2 := HAl.out.2.2.1
      have y3 := HAl.out.2.2.2
      go_simp
      clear y0 y1 y2 y3
      clear hHeld
      refine hK.out _ _ trivial (fun hHeld => ?_)
      clear hK K
      try simp only [Act.put, List.setIfInBounds_toArray, List.set_cons_zero, List.set_cons_succ]
      
      refine wpAnyH_ready (rs := [6]) (by kernel_rfl) (by simp) ?_
      refine AllReadyH.cons (o := { dst := some 30, op := Op.call { callee := Callee.value (Operand.func 49), args := #[Operand.tmp 29], argTypes := #[29] }, type := 29, pos := "l06_chain.go:81", after := #[{ on := 5, ground := Ground.data }], guard := none }) rfl (fun K hK => ?_) AllReadyH.nil
      go_simp
      refine HC.out.mono ?_
      rintro r wyc ⟨y, rfl, hx, hy, hyl, hyf⟩
      have HXc : Hid (XSt w c X f wyc (.slice (some ⟨M, 0, none⟩) rs.length cap) M cap rs) := hx
      have HY : Hid (OwnA (w.heap.size + 1) wyc y ∧ w2.heap.size ≤ y.1 ∧ Fine y.2.2) := ⟨hy, hyl, hyf⟩
      clear hx hy hyl hyf
      clear hHeld
      refine hK.out _ _ trivial (fun hHeld => ?_)
      clear hK K
      try simp only [Act.put, List.setIfInBounds_toArray, List.set_cons_zero, List.set_cons_succ]
      
      refine wpAnyH_ready (rs := [7]) (by kernel_rfl) (by simp) ?_
      refine AllReadyH.cons (o := { dst := some 31, op := Op.buildSlice 24 1 #[(0, Operand.tmp 30)], type := 24, pos := "l06_chain.go:81", after := #[{ on := 6, ground := Ground.data }], guard := none }) rfl (fun K hK => ?_) AllReadyH.nil
      go_simp
      clear hHeld
      refine hK.out _ _ trivial (fun hHeld => ?_)
      clear hK K
      try simp only [Act.put, List.setIfInBounds_toArray, List.set_cons_zero, List.set_cons_succ]
      
      refine wpAnyH_ready (rs := [8]) (by kernel_rfl) (by simp) ?_
      refine AllReadyH.cons (o := { dst := some 32, op := Op.call { callee := Callee.builtin Builtin.append, args := #[Operand.tmp 25, Operand.tmp 31], argTypes := #[24, 24] }, type := 24, pos := "l06_chain.go:81", after := #[{ on := 1, ground := Ground.data }, { on := 7, ground := Ground.data }, { on := 6, ground := Ground.chain }], guard := none }) rfl (fun K hK => ?_) AllReadyH.nil
      have hXd : XSt w c X f (wyc.alloc (.cells #[.slice (some ⟨y.1, 0, none⟩) y.2.2.l.length y.2.1, .int .i64 y.2.2.s, .int .i64 y.2.2.e, .string y.2.2.n] 29)) (.slice (some ⟨M, 0, none⟩) rs.length cap) M cap rs := HXc.out.grow (Go.Joins.below_alloc1 wyc _)
      obtain ⟨xs, hox, hxl, hxs⟩ := hXd.ab.own
      refine step_appB rfl _ _ 24 rfl 29 i0 (.agg #[.slice none 0 0, .int .i64 0, .int .i64 0, .string ByteArray.empty]) 4 56 Try.underlying24 hi hz0 hz1 hz2 rfl (by decide) (w.heap.size + 1) ?k22b (.slice (some ⟨M, 0, none⟩) rs.length cap) rs.length xs rfl hox ⟨wyc.heap.size, 0, none⟩ 1 1 (rowV y) rfl rfl (blk_news (Blk.new _ _ _)) (row_one _) ?k22c ?k22d ?_
      case k22b => have := hXd.ord; omega
      case k22c => unfold maxLen; omega
      case k22d => omega
      intro v' wya hown hg hat
      obtain ⟨M3, c3, e3, hXA⟩ := hXd.app (HY.out.1.grow (Go.Joins.below_alloc1 wyc _)) HY.out.2.2 (fun x hx => by have := (HX.out.ab.rows x hx).lt; have := HY.out.2.1; omega) hxl hxs hown hg
      subst e3
      have HXA : Hid (XSt w c X f wya (.slice (some ⟨M, 0, none⟩) rs.length cap) M3 c3 (rs ++ [y])) := hXA
      clear hown hg hat hXA hXd hox hxl hxs
      clear hHeld
      refine hK.out _ _ trivial (fun hHeld => ?_)
      clear hK K
      try simp only [Act.put, List.setIfInBounds_toArray, List.set_cons_zero, List.set_cons_succ]
      
      refine wpAnyH_take (i := 9) (oi := { dst := some 33, op := Op.fieldAddr 26 (Operand.tmp 3) 1, type := 0, pos := "l06_chain.go:81", after := #[{ on := 0, ground := Ground.phase }, { on := 1, ground := Ground.phase }, { on := 2, ground := Ground.phase }, { on := 3, ground := Ground.phase }, { on := 4, ground := Ground.phase }, { on := 5, ground := Ground.phase }, { on := 6, ground := Ground.phase }, { on := 7, ground := Ground.phase }, { on := 8, ground := Ground.phase }], guard := none }) (v := ?vd219) rfl (by kernel_rfl) (by kernel_rfl) (by kernel_rfl) (fun _ _ _ h => h) (Or.inl ⟨by rfl, ?hyd219⟩) hHeld ?_
      case hyd219 => (intro w hSw; (try dsimp only at hSw); go_simp <;> with_reducible rfl)
      try simp only [Act.put, List.setIfInBounds_toArray, List.set_cons_zero, List.set_cons_succ]
      refine wpAnyH_ready (rs := [10]) (by kernel_rfl) (by simp) ?_
      refine AllReadyH.cons (o := { dst := none, op := Op.store 24 (Operand.tmp 33) (Operand.tmp 32), type := 0, pos := "l06_chain.go:81", after := #[{ on := 9, ground := Ground.data }, { on := 8, ground := Ground.data }, { on := 8, ground := Ground.chain }, { on := 0, ground := Ground.phase }, { on := 1, ground := Ground.phase }, { on := 2, ground := Ground.phase }, { on := 3, ground := Ground.phase }, { on := 4, ground := Ground.phase }, { on := 5, ground := Ground.phase }, { on := 6, ground := Ground.phase }, { on := 7, ground := Ground.phase }, { on := 8, ground := Ground.phase }], guard := none }) rfl (fun K hK => ?_) AllReadyH.nil
      have cD : wya.cell? ⟨X, 1, none⟩ = some (.slice (some ⟨M, 0, none⟩) rs.length cap) := HXA.out.bX.cell 1
      have fD := HXA.out.bX.frozen 1
      go_simp
      clear cD fD
      clear hHeld
      refine hK.out _ _ trivial (fun hHeld => ?_)
      clear hK K
      try simp only [Act.put, List.setIfInBounds_toArray, List.set_cons_zero, List.set_cons_succ]
      
      refine wpAnyH_done (by kernel_rfl) ?_ _
      have HXZ : Hid (XSt w c X f (wya.setCell ⟨X, 1, none⟩ (.slice (some ⟨M3, 0, none⟩) (rs.length + 1) c3)) (.slice (some ⟨M3, 0, none⟩) (rs.length + 1) c3) M3 c3 (rs ++ [y])) := HXA.out.setL _
      clear hHeld HXA HXc HY
      generalize wya.setCell ⟨X, 1, none⟩ (.slice (some ⟨M3, 0, none⟩) (rs.length + 1) c3) = W3 at *
      have r0 : W3.cell? ⟨w.heap.size, 0, none⟩ = some (.int .i64 0) := HXZ.out.bR.cell 0
      have r1 : W3.cell? ⟨w.heap.size, 1, none⟩ = some (.slice none 0 0) := HXZ.out.bR.cell 1
      have f0 := HXZ.out.bR.frozen 0
      have f1 := HXZ.out.bR.frozen 1
      have x0 : W3.cell? ⟨X, 0, none⟩ = some (.int .i64 f) := HXZ.out.bX.cell 0
      have x1 : W3.cell? ⟨X, 1, none⟩ = some (.slice (some ⟨M3, 0, none⟩) (rs.length + 1) c3) := HXZ.out.bX.cell 1
      go_wp2
      have hs : Blk ((W3.setCell ⟨w.heap.size, 0, none⟩ (.int .i64 f)).setCell ⟨w.heap.size, 1, none⟩ (.slice (some ⟨M3, 0, none⟩) (rs.length + 1) c3)) w.heap.size #[.int .i64 f, .slice (some ⟨M3, 0, none⟩) (rs.length + 1) c3] 26 := (HXZ.out.bR.set 0 _).set 1 _
      have s0 := hs.cell 0
      have s1 := hs.cell 1
      refine bodyPost_ret (v := .agg #[.int .i64 f, .slice (some ⟨M3, 0, none⟩) (rs.length + 1) c3]) (by simp [results, Try.results42, go_sem, s0, s1]) rfl ?_
      exact ⟨f, M3, c3, rs ++ [y], retA (by simp), HXZ.out.fin _ _, by simp; omega, HFB.out⟩
    refine AllReadyH.cons (o := { dst := some 29, op := Op.load 29 (Operand.tmp 28), type := 29, pos := "l06_chain.go:81", after := #[{ on := 4, ground := Ground.data }], guard := none }) rfl (fun K hK => ?_) AllReadyH.nil
    have y0 := HAl.out.1
    have y1 := HAl.out.2.1
    have y2 := HAl.out.2.2.1
    have y3 := HAl.out.2.2.2
    go_simp
    clear y0 y1 y2 y3
    clear hHeld
    refine hK.out _ _ trivial (fun hHeld => ?_)
    clear hK K
    try simp only [Act.put, List.setIfInBounds_toArray, List.set_cons_zero, List.set_cons_succ]
    
    refine wpAnyH_ready (rs := [1, 6]) (by kernel_rfl) (by simp) ?_
    refine AllReadyH.cons (o := { dst := some 25, op := Op.load 24 (Operand.tmp 24), type := 24, pos := "l06_chain.go:81", after := #[{ on := 0, ground := Ground.data }], guard := none }) rfl (fun K hK => ?_) ?_
    ·
      have cD : w2.drew.cell? ⟨X, 1, none⟩ = some (.slice (some ⟨M, 0, none⟩) rs.length cap) := (HX.out.bX.drew).cell 1
      go_simp
      clear cD
      clear hHeld
      refine hK.out _ _ trivial (fun hHeld => ?_)
      clear hK K
      try simp only [Act.put, List.setIfInBounds_toArray, List.set_cons_zero, List.set_cons_succ]
      
      refine wpAnyH_ready (rs := [6]) (by kernel_rfl) (by simp) ?_
      refine AllReadyH.cons (o := { dst := some 30, op := Op.call { callee := Callee.value (Operand.func 49), args := #[Operand.tmp 29], argTypes := #[29] }, type := 29, pos := "l06_chain.go:81", after := #[{ on := 5, ground := Ground.data }], guard := none }) rfl (fun K hK => ?_) AllReadyH.nil
      go_simp
      refine HC.out.mono ?_
      rintro r wyc ⟨y, rfl, hx, hy, hyl, hyf⟩
      have HXc : Hid (XSt w c X f wyc (.slice (some ⟨M, 0, none⟩) rs.length cap) M cap rs) := hx
      have HY : Hid (OwnA (w.heap.size + 1) wyc y ∧ w2.heap.size ≤ y.1 ∧ Fine y.2.2) := ⟨hy, hyl, hyf⟩
      clear hx hy hyl hyf
      clear hHeld
      refine hK.out _ _ trivial (fun hHeld => ?_)
      clear hK K
      try simp only [Act.put, List.setIfInBounds_toArray, List.set_cons_zero, List.set_cons_succ]
      
      refine wpAnyH_ready (rs := [7]) (by kernel_rfl) (by simp) ?_
      refine AllReadyH.cons (o := { dst := some 31, op := Op.buildSlice 24 1 #[(0, Operand.tmp 30)], type := 24, pos := "l06_chain.go:81", after := #[{ on := 6, ground := Ground.data }], guard := none }) rfl (fun K hK => ?_) AllReadyH.nil
      go_simp
      clear hHeld
      refine hK.out _ _ trivial (fun hHeld => ?_)
      clear hK K
      try simp only [Act.put, List.setIfInBounds_toArray, List.set_cons_zero, List.set_cons_succ]
      
      refine wpAnyH_ready (rs := [8]) (by kernel_rfl) (by simp) ?_
      refine AllReadyH.cons (o := { dst := some 32, op := Op.call { callee := Callee.builtin Builtin.append, args := #[Operand.tmp 25, Operand.tmp 31], argTypes := #[24, 24] }, type := 24, pos := "l06_chain.go:81", after := #[{ on := 1, ground := Ground.data }, { on := 7, ground := Ground.data }, { on := 6, ground := Ground.chain }], guard := none }) rfl (fun K hK => ?_) AllReadyH.nil
      have hXd : XSt w c X f (wyc.alloc (.cells #[.slice (some ⟨y.1, 0, none⟩) y.2.2.l.length y.2.1, .int .i64 y.2.2.s, .int .i64 y.2.2.e, .string y.2.2.n] 29)) (.slice (some ⟨M, 0, none⟩) rs.length cap) M cap rs := HXc.out.grow (Go.Joins.below_alloc1 wyc _)
      obtain ⟨xs, hox, hxl, hxs⟩ := hXd.ab.own
      refine step_appB rfl _ _ 24 rfl 29 i0 (.agg #[.slice none 0 0, .int .i64 0, .int .i64 0, .string ByteArray.empty]) 4 56 Try.underlying24 hi hz0 hz1 hz2 rfl (by decide) (w.heap.size + 1) ?k23b (.slice (some ⟨M, 0, none⟩) rs.length cap) rs.length xs rfl hox ⟨wyc.heap.size, 0, none⟩ 1 1 (rowV y) rfl rfl (blk_news (Blk.new _ _ _)) (row_one _) ?k23c ?k23d ?_
      case k23b => have := hXd.ord; omega
      case k23c => unfold maxLen; omega
      case k23d => omega
      intro v' wya hown hg hat
      obtain ⟨M3, c3, e3, hXA⟩ := hXd.app (HY.out.1.grow (Go.Joins.below_alloc1 wyc _)) HY.out.2.2 (fun x hx => by have := (HX.out.ab.rows x hx).lt; have := HY.out.2.1; omega) hxl hxs hown hg
      subst e3
      have HXA : Hid (XSt w c X f wya (.slice (some ⟨M, 0, none⟩) rs.length cap) M3 c3 (rs ++ [y])) := hXA
      clear hown hg hat hXA hXd hox hxl hxs
      clear hHeld
      refine hK.out _ _ trivial (fun hHeld => ?_)
      clear hK K
      try simp only [Act.put, List.setIfInBounds_toArray, List.set_cons_zero, List.set_cons_succ]
      
      refine wpAnyH_take (i := 9) (oi := { dst := some 33, op := Op.fieldAddr 26 (Operand.tmp 3) 1, type := 0, pos := "l06_chain.go:81", after := #[{ on := 0, ground := Ground.phase }, { on := 1, ground := Ground.phase }, { on := 2, ground := Ground.phase }, { on := 3, ground := Ground.phase }, { on := 4, ground := Ground.phase }, { on := 5, ground := Ground.phase }, { on := 6, ground := Ground.phase }, { on := 7, ground := Ground.phase }, { on := 8, ground := Ground.phase }], guard := none }) (v := ?vd226) rfl (by kernel_rfl) (by kernel_rfl) (by kernel_rfl) (fun _ _ _ h => h) (Or.inl ⟨by rfl, ?hyd226⟩) hHeld ?_
      case hyd226 => (intro w hSw; (try dsimp only at hSw); go_simp <;> with_reducible rfl)
      try simp only [Act.put, List.setIfInBounds_toArray, List.set_cons_zero, List.set_cons_succ]
      refine wpAnyH_ready (rs := [10]) (by kernel_rfl) (by simp) ?_
      refine AllReadyH.cons (o := { dst := none, op := Op.store 24 (Operand.tmp 33) (Operand.tmp 32), type := 0, pos := "l06_chain.go:81", after := #[{ on := 9, ground := Ground.data }, { on := 8, ground := Ground.data }, { on := 8, ground := Ground.chain }, { on := 0, ground := Ground.phase }, { on := 1, ground := Ground.phase }, { on := 2, ground := Ground.phase }, { on := 3, ground := Ground.phase }, { on := 4, ground := Ground.phase }, { on := 5, ground := Ground.phase }, { on := 6, ground := Ground.phase }, { on := 7, ground := Ground.phase }, { on := 8, ground := Ground.phase }], guard := none }) rfl (fun K hK => ?_) AllReadyH.nil
      have cD : wya.cell? ⟨X, 1, none⟩ = some (.slice (some ⟨M, 0, none⟩) rs.length cap) := HXA.out.bX.cell 1
      have fD := HXA.out.bX.frozen 1
      go_simp
      clear cD fD
      clear hHeld
      refine hK.out _ _ trivial (fun hHeld => ?_)
      clear hK K
      try simp only [Act.put, List.setIfInBounds_toArray, List.set_cons_zero, List.set_cons_succ]
      
      refine wpAnyH_done (by kernel_rfl) ?_ _
      have HXZ : Hid (XSt w c X f (wya.setCell ⟨X, 1, none⟩ (.slice (some ⟨M3, 0, none⟩) (rs.length + 1) c3)) (.slice (some ⟨M3, 0, none⟩) (rs.length + 1) c3) M3 c3 (rs ++ [y])) := HXA.out.setL _
      clear hHeld HXA HXc HY
      generalize wya.setCell ⟨X, 1, none⟩ (.slice (some ⟨M3, 0, none⟩) (rs.length + 1) c3) = W3 at *
      have r0 : W3.cell? ⟨w.heap.size, 0, none⟩ = some (.int .i64 0) := HXZ.out.bR.cell 0
      have r1 : W3.cell? ⟨w.heap.size, 1, none⟩ = some (.slice none 0 0) := HXZ.out.bR.cell 1
      have f0 := HXZ.out.bR.frozen 0
      have f1 := HXZ.out.bR.frozen 1
      have x0 : W3.cell? ⟨X, 0, none⟩ = some (.int .i64 f) := HXZ.out.bX.cell 0
      have x1 : W3.cell? ⟨X, 1, none⟩ = some (.slice (some ⟨M3, 0, none⟩) (rs.length + 1) c3) := HXZ.out.bX.cell 1
      go_wp2
      have hs : Blk ((W3.setCell ⟨w.heap.size, 0, none⟩ (.int .i64 f)).setCell ⟨w.heap.size, 1, none⟩ (.slice (some ⟨M3, 0, none⟩) (rs.length + 1) c3)) w.heap.size #[.int .i64 f, .slice (some ⟨M3, 0, none⟩) (rs.length + 1) c3] 26 := (HXZ.out.bR.set 0 _).set 1 _
      have s0 := hs.cell 0
      have s1 := hs.cell 1
      refine bodyPost_ret (v := .agg #[.int .i64 f, .slice (some ⟨M3, 0, none⟩) (rs.length + 1) c3]) (by simp [results, Try.results42, go_sem, s0, s1]) rfl ?_
      exact ⟨f, M3, c3, rs ++ [y], retA (by simp), HXZ.out.fin _ _, by simp; omega, HFB.out⟩
    refine AllReadyH.cons (o := { dst := some 30, op := Op.call { callee := Callee.value (Operand.func 49), args := #[Operand.tmp 29], argTypes := #[29] }, type := 29, pos := "l06_chain.go:81", after := #[{ on := 5, ground := Ground.data }], guard := none }) rfl (fun K hK => ?_) AllReadyH.nil
    go_simp
    refine HC.out.mono ?_
    rintro r wyc ⟨y, rfl, hx, hy, hyl, hyf⟩
    have HXc : Hid (XSt w c X f wyc (.slice (some ⟨M, 0, none⟩) rs.length cap) M cap rs) := hx
    have HY : Hid (OwnA (w.heap.size + 1) wyc y ∧ w2.heap.size ≤ y.1 ∧ Fine y.2.2) := ⟨hy, hyl, hyf⟩
    clear hx hy hyl hyf
    clear hHeld
    refine hK.out _ _ trivial (fun hHeld => ?_)
    clear hK K
    try simp only [Act.put, List.setIfInBounds_toArray, List.set_cons_zero, List.set_cons_succ]
    
    refine wpAnyH_ready (rs := [1, 7]) (by kernel_rfl) (by simp) ?_
    refine AllReadyH.cons (o := { dst := some 25, op := Op.load 24 (Operand.tmp 24), type := 24, pos := "l06_chain.go:81", after := #[{ on := 0, ground := Ground.data }], guard := none }) rfl (fun K hK => ?_) ?_
    ·
      have cD : wyc.cell? ⟨X, 1, none⟩ = some (.slice (some ⟨M, 0, none⟩) rs.length cap) := (HXc.out.bX).cell 1
      go_simp
      clear cD
      clear hHeld
      refine hK.out _ _ trivial (fun hHeld => ?_)
      clear hK K
      try simp only [Act.put, List.setIfInBounds_toArray, List.set_cons_zero, List.set_cons_succ]
      
      refine wpAnyH_ready (rs := [7]) (by kernel_rfl) (by simp) ?_
      refine AllReadyH.cons (o := { dst := some 31, op := Op.buildSlice 24 1 #[(0, Operand.tmp 30)], type := 24, pos := "l06_chain.go:81", after := #[{ on := 6, ground := Ground.data }], guard := none }) rfl (fun K hK => ?_) AllReadyH.nil
      go_simp
      clear hHeld
      refine hK.out _ _ trivial (fun hHeld => ?_)
      clear hK K
      try simp only [Act.put, List.setIfInBounds_toArray, List.set_cons_zero, List.set_cons_succ]
      
      refine wpAnyH_ready (rs := [8]) (by kernel_rfl) (by simp) ?_
      refine AllReadyH.cons (o := { dst := some 32, op := Op.call { callee := Callee.builtin Builtin.append, args := #[Operand.tmp 25, Operand.tmp 31], argTypes := #[24, 24] }, type := 24, pos := "l06_chain.go:81", after := #[{ on := 1, ground := Ground.data }, { on := 7, ground := Ground.data }, { on := 6, ground := Ground.chain }], guard := none }) rfl (fun K hK => ?_) AllReadyH.nil
      have hXd : XSt w c X f (wyc.alloc (.cells #[.slice (some ⟨y.1, 0, none⟩) y.2.2.l.length y.2.1, .int .i64 y.2.2.s, .int .i64 y.2.2.e, .string y.2.2.n] 29)) (.slice (some ⟨M, 0, none⟩) rs.length cap) M cap rs := HXc.out.grow (Go.Joins.below_alloc1 wyc _)
      obtain ⟨xs, hox, hxl, hxs⟩ := hXd.ab.own
      refine step_appB rfl _ _ 24 rfl 29 i0 (.agg #[.slice none 0 0, .int .i64 0, .int .i64 0, .string ByteArray.empty]) 4 56 Try.underlying24 hi hz0 hz1 hz2 rfl (by decide) (w.heap.size + 1) ?k24b (.slice (some ⟨M, 0, none⟩) rs.length cap) rs.length xs rfl hox ⟨wyc.heap.size, 0, none⟩ 1 1 (rowV y) rfl rfl (blk_news (Blk.new _ _ _)) (row_one _) ?k24c ?k24d ?_
      case k24b => have := hXd.ord; omega
      case k24c => unfold maxLen; omega
      case k24d => omega
      intro v' wya hown hg hat
      obtain ⟨M3, c3, e3, hXA⟩ := hXd.app (HY.out.1.grow (Go.Joins.below_alloc1 wyc _)) HY.out.2.2 (fun x hx => by have := (HX.out.ab.rows x hx).lt; have := HY.out.2.1; omega) hxl hxs hown hg
      subst e3
      have HXA : Hid (XSt w c X f wya (.slice (some ⟨M, 0, none⟩) rs.length cap) M3 c3 (rs ++ [y])) := hXA
      clear hown hg hat hXA hXd hox hxl hxs
      clear hHeld
      refine hK.out _ _ trivial (fun hHeld => ?_)
      clear hK K
      try simp only [Act.put, List.setIfInBounds_toArray, List.set_cons_zero, List.set_cons_succ]
      
      refine wpAnyH_take (i := 9) (oi := { dst := some 33, op := Op.fieldAddr 26 (Operand.tmp 3) 1, type := 0, pos := "l06_chain.go:81", after := #[{ on := 0, ground := Ground.phase }, { on := 1, ground := Ground.phase }, { on := 2, ground := Ground.phase }, { on := 3, ground := Ground.phase }, { on := 4, ground := Ground.phase }, { on := 5, ground := Ground.phase }, { on := 6, ground := Ground.phase }, { on := 7, ground := Ground.phase }, { on := 8, ground := Ground.phase }], guard := none }) (v := ?vd232) rfl (by kernel_rfl) (by kernel_rfl) (by kernel_rfl) (fun _ _ _ h => h) (Or.inl ⟨by rfl, ?hyd232⟩) hHeld ?_
      case hyd232 => (intro w hSw; (try dsimp only at hSw); go_simp <;> with_reducible rfl)
      try simp only [Act.put, List.setIfInBounds_toArray, List.set_cons_zero, List.set_cons_succ]
      refine wpAnyH_ready (rs := [10]) (by kernel_rfl) (by simp) ?_
      refine AllReadyH.cons (o := { dst := none, op := Op.store 24 (Operand.tmp 33) (Operand.tmp 32), type := 0, pos := "l06_chain.go:81", after := #[{ on := 9, ground := Ground.data }, { on := 8, ground := Ground.data }, { on := 8, ground := Ground.chain }, { on := 0, ground := Ground.phase }, { on := 1, ground := Ground.phase }, { on := 2, ground := Ground.phase }, { on := 3, ground := Ground.phase }, { on := 4, ground := Ground.phase }, { on := 5, ground := Ground.phase }, { on := 6, ground := Ground.phase }, { on := 7, ground := Ground.phase }, { on := 8, ground := Ground.phase }], guard := none }) rfl (fun K hK => ?_) AllReadyH.nil
      have cD : wya.cell? ⟨X, 1, none⟩ = some (.slice (some ⟨M, 0, none⟩) rs.length cap) := HXA.out.bX.cell 1
      have fD := HXA.out.bX.frozen 1
      go_simp
      clear cD fD
      clear hHeld
      refine hK.out _ _ trivial (fun hHeld => ?_)
      clear hK K
      try simp only [Act.put, List.setIfInBounds_toArray, List.set_cons_zero, List.set_cons_succ]
      
      refine wpAnyH_done (by kernel_rfl) ?_ _
      have HXZ : Hid (XSt w c X f (wya.setCell ⟨X, 1, none⟩ (.slice (some ⟨M3, 0, none⟩) (rs.length + 1) c3)) (.slice (some ⟨M3, 0, none⟩) (rs.length + 1) c3) M3 c3 (rs ++ [y])) := HXA.out.setL _
      clear hHeld HXA HXc HY
      generalize wya.setCell ⟨X, 1, none⟩ (.slice (some ⟨M3, 0, none⟩) (rs.length + 1) c3) = W3 at *
      have r0 : W3.cell? ⟨w.heap.size, 0, none⟩ = some (.int .i64 0) := HXZ.out.bR.cell 0
      have r1 : W3.cell? ⟨w.heap.size, 1, none⟩ = some (.slice none 0 0) := HXZ.out.bR.cell 1
      have f0 := HXZ.out.bR.frozen 0
      have f1 := HXZ.out.bR.frozen 1
      have x0 : W3.cell? ⟨X, 0, none⟩ = some (.int .i64 f) := HXZ.out.bX.cell 0
      have x1 : W3.cell? ⟨X, 1, none⟩ = some (.slice (some ⟨M3, 0, none⟩) (rs.length + 1) c3) := HXZ.out.bX.cell 1
      go_wp2
      have hs : Blk ((W3.setCell ⟨w.heap.size, 0, none⟩ (.int .i64 f)).setCell ⟨w.heap.size, 1, none⟩ (.slice (some ⟨M3, 0, none⟩) (rs.length + 1) c3)) w.heap.size #[.int .i64 f, .slice (some ⟨M3, 0, none⟩) (rs.length + 1) c3] 26 := (HXZ.out.bR.set 0 _).set 1 _
      have s0 := hs.cell 0
      have s1 := hs.cell 1
      refine bodyPost_ret (v := .agg #[.int .i64 f, .slice (some ⟨M3, 0, none⟩) (rs.length + 1) c3]) (by simp [results, Try.results42, go_sem, s0, s1]) rfl ?_
      exact ⟨f, M3, c3, rs ++ [y], retA (by simp), HXZ.out.fin _ _, by simp; omega, HFB.out⟩
    refine AllReadyH.cons (o := { dst := some 31, op := Op.buildSlice 24 1 #[(0, Operand.tmp 30)], type := 24, pos := "l06_chain.go:81", after := #[{ on := 6, ground := Ground.data }], guard := none }) rfl (fun K hK => ?_) AllReadyH.nil
    go_simp
    clear hHeld
    refine hK.out _ _ trivial (fun hHeld => ?_)
    clear hK K
    try simp only [Act.put, List.setIfInBounds_toArray, List.set_cons_zero, List.set_cons_succ]
    
    refine wpAnyH_ready (rs := [1]) (by kernel_rfl) (by simp) ?_
    refine AllReadyH.cons (o := { dst := some 25, op := Op.load 24 (Operand.tmp 24), type := 24, pos := "l06_chain.go:81", after := #[{ on := 0, ground := Ground.data }], guard := none }) rfl (fun K hK => ?_) AllReadyH.nil
    have cD : (wyc.alloc (.cells #[.slice (some ⟨y.1, 0, none⟩) y.2.2.l.length y.2.1, .int .i64 y.2.2.s, .int .i64 y.2.2.e, .string y.2.2.n] 29)).cell? ⟨X, 1, none⟩ = some (.slice (some ⟨M, 0, none⟩) rs.length cap) := ((HXc.out.bX.alloc _)).cell 1
    go_simp
    clear cD
    clear hHeld
    refine hK.out _ _ trivial (fun hHeld => ?_)
    clear hK K
    try simp only [Act.put, List.setIfInBounds_toArray, List.set_cons_zero, List.set_cons_succ]
    
    refine wpAnyH_ready (rs := [8]) (by kernel_rfl) (by simp) ?_
    refine AllReadyH.cons (o := { dst := some 32, op := Op.call { callee := Callee.builtin Builtin.append, args := #[Operand.tmp 25, Operand.tmp 31], argTypes := #[24, 24] }, type := 24, pos := "l06_chain.go:81", after := #[{ on := 1, ground := Ground.data }, { on := 7, ground := Ground.data }, { on := 6, ground := Ground.chain }], guard := none }) rfl (fun K hK => ?_) AllReadyH.nil
    have hXd : XSt w c X f (wyc.alloc (.cells #[.slice (some ⟨y.1, 0, none⟩) y.2.2.l.length y.2.1, .int .i64 y.2.2.s, .int .i64 y.2.2.e, .string y.2.2.n] 29)) (.slice (some ⟨M, 0, none⟩) rs.length cap) M cap rs := HXc.out.grow (Go.Joins.below_alloc1 wyc _)
    obtain ⟨xs, hox, hxl, hxs⟩ := hXd.ab.own
    refine step_appB rfl _ _ 24 rfl 29 i0 (.agg #[.slice none 0 0, .int .i64 0, .int .i64 0, .string ByteArray.empty]) 4 56 Try.underlying24 hi hz0 hz1 hz2 rfl (by decide) (w.heap.size + 1) ?k25b (.slice (some ⟨M, 0, none⟩) rs.length cap) rs.length xs rfl hox ⟨wyc.heap.size, 0, none⟩ 1 1 (rowV y) rfl rfl (blk_news (Blk.new _ _ _)) (row_one _) ?k25c ?k25d ?_
    case k25b => have := hXd.ord; omega
    case k25c => unfold maxLen; omega
    case k25d => omega
    intro v' wya hown hg hat
    obtain ⟨M3, c3, e3, hXA⟩ := hXd.app (HY.out.1.grow (Go.Joins.below_alloc1 wyc _)) HY.out.2.2 (fun x hx => by have := (HX.out.ab.rows x hx).lt; have := HY.out.2.1; omega) hxl hxs hown hg
    subst e3
    have HXA : Hid (XSt w c X f wya (.slice (some ⟨M, 0, none⟩) rs.length cap) M3 c3 (rs ++ [y])) := hXA
    clear hown hg hat hXA hXd hox hxl hxs
    clear hHeld
    refine hK.out _ _ trivial (fun hHeld => ?_)
    clear hK K
    try simp only [Act.put, List.setIfInBounds_toArray, List.set_cons_zero, List.set_cons_succ]
    
    refine wpAnyH_take (i := 9) (oi := { dst := some 33, op := Op.fieldAddr 26 (Operand.tmp 3) 1, type := 0, pos := "l06_chain.go:81", after := #[{ on := 0, ground := Ground.phase }, { on := 1, ground := Ground.phase }, { on := 2, ground := Ground.phase }, { on := 3, ground := Ground.phase }, { on := 4, ground := Ground.phase }, { on := 5, ground := Ground.phase }, { on := 6, ground := Ground.phase }, { on := 7, ground := Ground.phase }, { on := 8, ground := Ground.phase }], guard := none }) (v := ?vd237) rfl (by kernel_rfl) (by kernel_rfl) (by kernel_rfl) (fun _ _ _ h => h) (Or.inl ⟨by rfl, ?hyd237⟩) hHeld ?_
    case hyd237 => (intro w hSw; (try dsimp only at hSw); go_simp <;> with_reducible rfl)
    try simp only [Act.put, List.setIfInBounds_toArray, List.set_cons_zero, List.set_cons_succ]
    refine wpAnyH_ready (rs := [10]) (by kernel_rfl) (by simp) ?_
    refine AllReadyH.cons (o := { dst := none, op := Op.store 24 (Operand.tmp 33) (Operand.tmp 32), type := 0, pos := "l06_chain.go:81", after := #[{ on := 9, ground := Ground.data }, { on := 8, ground := Ground.data }, { on := 8, ground := Ground.chain }, { on := 0, ground := Ground.phase }, { on := 1, ground := Ground.phase }, { on := 2, ground := Ground.phase }, { on := 3, ground := Ground.phase }, { on := 4, ground := Ground.phase }, { on := 5, ground := Ground.phase }, { on := 6, ground := Ground.phase }, { on := 7, ground := Ground.phase }, { on := 8, ground := Ground.phase }], guard := none }) rfl (fun K hK => ?_) AllReadyH.nil
    have cD : wya.cell? ⟨X, 1, none⟩ = some (.slice (some ⟨M, 0, none⟩) rs.length cap) := HXA.out.bX.cell 1
    have fD := HXA.out.bX.frozen 1
    go_simp
    clear cD fD
    clear hHeld
    refine hK.out _ _ trivial (fun hHeld => ?_)
    clear hK K
    try simp only [Act.put, List.setIfInBounds_toArray, List.set_cons_zero, List.set_cons_succ]
    
    refine wpAnyH_done (by kernel_rfl) ?_ _
    have HXZ : Hid (XSt w c X f (wya.setCell ⟨X, 1, none⟩ (.slice (some ⟨M3, 0, none⟩) (rs.length + 1) c3)) (.slice (some ⟨M3, 0, none⟩) (rs.length + 1) c3) M3 c3 (rs ++ [y])) := HXA.out.setL _
    clear hHeld HXA HXc HY
    generalize wya.setCell ⟨X, 1, none⟩ (.slice (some ⟨M3, 0, none⟩) (rs.length + 1) c3) = W3 at *
    have r0 : W3.cell? ⟨w.heap.size, 0, none⟩ = some (.int .i64 0) := HXZ.out.bR.cell 0
    have r1 : W3.cell? ⟨w.heap.size, 1, none⟩ = some (.slice none 0 0) := HXZ.out.bR.cell 1
    have f0 := HXZ.out.bR.frozen 0
    have f1 := HXZ.out.bR.frozen 1
    have x0 : W3.cell? ⟨X, 0, none⟩ = some (.int .i64 f) := HXZ.out.bX.cell 0
    have x1 : W3.cell? ⟨X, 1, none⟩ = some (.slice (some ⟨M3, 0, none⟩) (rs.length + 1) c3) := HXZ.out.bX.cell 1
    go_wp2
    have hs : Blk ((W3.setCell ⟨w.heap.size, 0, none⟩ (.int .i64 f)).setCell ⟨w.heap.size, 1, none⟩ (.slice (some ⟨M3, 0, none⟩) (rs.length + 1) c3)) w.heap.size #[.int .i64 f, .slice (some ⟨M3, 0, none⟩) (rs.length + 1) c3] 26 := (HXZ.out.bR.set 0 _).set 1 _
    have s0 := hs.cell 0
    have s1 := hs.cell 1
    refine bodyPost_ret (v := .agg #[.int .i64 f, .slice (some ⟨M3, 0, none⟩) (rs.length + 1) c3]) (by simp [results, Try.results42, go_sem, s0, s1]) rfl ?_
    exact ⟨f, M3, c3, rs ++ [y], retA (by simp), HXZ.out.fin _ _, by simp; omega, HFB.out⟩
  have d2' : (z == 2) = false := by simpa using e2
  by_cases e3 : z = 3
  · subst e3
    have HXa : Hid (XSt w c X f (w2.alloc (.cells #[] 29)) (.slice (some ⟨M, 0, none⟩) rs.length cap) M cap rs) := HX.out.grow (Go.Joins.below_alloc1 w2 _)
    have HXb : Hid (XSt w c X f (w2.alloc (.cells #[] 29)) (.slice (some ⟨M, 0, none⟩) rs.length cap) w2.heap.size 0 []) := ⟨HXa.out.cur, HXa.out.kept, HXa.out.clt, HXa.out.ord, HXa.out.bR, HXa.out.bX, AB.nil (Blk.new _ _ _) (by have := HX.out.ord; omega), fines_nil⟩
    have HXZ : Hid (XSt w c X f ((w2.alloc (.cells #[] 29)).setCell ⟨X, 1, none⟩ (.slice (some ⟨w2.heap.size, 0, none⟩) 0 0)) (.slice (some ⟨w2.heap.size, 0, none⟩) 0 0) w2.heap.size 0 []) := HXb.out.setL _
    have q1 : (w2.alloc (.cells #[] 29)).cell? ⟨X, 1, none⟩ = some (.slice (some ⟨M, 0, none⟩) rs.length cap) := HXa.out.bX.cell 1
    have g1 := HXa.out.bX.frozen 1
    go_upto_region 11 with fail
    clear q1 g1 HXa HXb
    generalize (w2.alloc (.cells #[] 29)).setCell ⟨X, 1, none⟩ (.slice (some ⟨w2.heap.size, 0, none⟩) 0 0) = W3 at *
    have r0 : W3.cell? ⟨w.heap.size, 0, none⟩ = some (.int .i64 0) := HXZ.out.bR.cell 0
    have r1 : W3.cell? ⟨w.heap.size, 1, none⟩ = some (.slice none 0 0) := HXZ.out.bR.cell 1
    have f0 := HXZ.out.bR.frozen 0
    have f1 := HXZ.out.bR.frozen 1
    have x0 : W3.cell? ⟨X, 0, none⟩ = some (.int .i64 f) := HXZ.out.bX.cell 0
    have x1 : W3.cell? ⟨X, 1, none⟩ = some (.slice (some ⟨w2.heap.size, 0, none⟩) 0 0) := HXZ.out.bX.cell 1
    go_wp2
    have hs : Blk ((W3.setCell ⟨w.heap.size, 0, none⟩ (.int .i64 f)).setCell ⟨w.heap.size, 1, none⟩ (.slice (some ⟨w2.heap.size, 0, none⟩) 0 0)) w.heap.size #[.int .i64 f, .slice (some ⟨w2.heap.size, 0, none⟩) 0 0] 26 := (HXZ.out.bR.set 0 _).set 1 _
    have s0 := hs.cell 0
    have s1 := hs.cell 1
    refine bodyPost_ret (v := .agg #[.int .i64 f, .slice (some ⟨w2.heap.size, 0, none⟩) 0 0]) (by simp [results, Try.results42, go_sem, s0, s1]) rfl ?_
    exact ⟨f, w2.heap.size, 0, [], rfl, HXZ.out.fin _ _, by simp, HFB.out⟩
  have d3' : (z == 3) = false := by simpa using e3
  go_upto_region 11 with fail
  have r0 : w2.cell? ⟨w.heap.size, 0, none⟩ = some (.int .i64 0) := HX.out.bR.cell 0
  have r1 : w2.cell? ⟨w.heap.size, 1, none⟩ = some (.slice none 0 0) := HX.out.bR.cell 1
  have f0 := HX.out.bR.frozen 0
  have f1 := HX.out.bR.frozen 1
  have x0 : w2.cell? ⟨X, 0, none⟩ = some (.int .i64 f) := HX.out.bX.cell 0
  have x1 : w2.cell? ⟨X, 1, none⟩ = some (.slice (some ⟨M, 0, none⟩) rs.length cap) := HX.out.bX.cell 1
  go_wp2
  have hs : Blk ((w2.setCell ⟨w.heap.size, 0, none⟩ (.int .i64 f)).setCell ⟨w.heap.size, 1, none⟩ (.slice (some ⟨M, 0, none⟩) rs.length cap)) w.heap.size #[.int .i64 f, .slice (some ⟨M, 0, none⟩) rs.length cap] 26 := (HX.out.bR.set 0 _).set 1 _
  have s0 := hs.cell 0
  have s1 := hs.cell 1
  refine bodyPost_ret (v := .agg #[.int .i64 f, .slice (some ⟨M, 0, none⟩) rs.length cap]) (by simp [results, Try.results42, go_sem, s0, s1]) rfl ?_
  exact ⟨f, M, cap, rs, rfl, HX.out.fin _ _, by omega, HFB.out⟩
end Go.Proofs.Ytcopckbpflmmeaa.DrawD
