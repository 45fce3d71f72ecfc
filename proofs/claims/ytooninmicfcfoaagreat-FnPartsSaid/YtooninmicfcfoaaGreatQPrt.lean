/-
  PROVED: over any string spec.Sum and impl.Sum answer alike, as a plain function on its bytes says, between nought and 2 to the 32; spec.PartOf and impl.PartOf answer the remainder, nought at wrong input; nothing is changed.
  PROVED: over a slice of labels in memory spec.Finger and impl.Finger answer alike, between nought and 31, as a plain function says; so do spec.Alike and impl.Alike over two; nothing that was there is changed.
  PROVED: over a chain in memory impl.ChainOk answers as a plain function on lists says; nothing that was there is changed.
  PROVED: over chains in memory spec.InChain, spec.ChainOk, spec.SameChain and impl.SameChain answer as plain functions on lists say; nothing that was there is changed.
  PROVED: over two chains in memory spec.SameChain and impl.SameChain answer alike, as a plain function on lists says; spec.l4All and spec.l6Copy give the same alarms in memory of their own; nothing that was there is changed.
  PROVED: over chains in memory spec.l6Copy, spec.PutChain and spec.DropOver answer as plain functions on lists say, in memory of their own; nothing that was there is changed.
  PROVED: over a chain in memory spec.DropOver answers as two plain functions on lists say, in memory of its own; nothing that was there is changed.
  PROVED: the contracts of laws.markAlarm and laws.heldAlarm: the marks are written into the alarm's labels alone, and found there.
  PROVED: the marks that markAlarmS writes over a row of alarms and heldAlarmS finds; the copy that toAlarmS makes, as a row.
  PROVED: the contracts of what the exact laws call over chains: the size that szChain counts, the copy that toChain makes, that eqChain finds two of the same alike, the marks that markAlarmS writes and heldAlarmS finds; what a chain that came in is.
  PROVED: slices of chains: what one that came in is; the size that szChainS and szPart count, the copy that toChainS and toPart make, that eqChainS and eqPart find two of the same alike; rows of chains in memory of a call's own, read, grown by an append, written at a place.
  PROVED: parts: what one that came in is; the copy that toPart makes, that eqChainS and eqPart find two of the same alike.
-/
import Derived.Test.YtooninmicfcfoaaGreatQTextS
import Derived.Laws.BitsAllLaws
import Derived.Test.YtooninmicfcfoaaGreatQTextI
import Derived.Test.YtooninmicfcfoaaGreatQChnI
import Derived.Test.YtooninmicfcfoaaGreatQLsS
import Derived.Test.YtooninmicfcfoaaGreatQLsA
import Derived.Test.YtooninmicfcfoaaGreatQChnD
import Derived.Test.YtooninmicfcfoaaGreatQAlmS
import Derived.Test.YtooninmicfcfoaaGreatQMark
import Derived.Test.YtooninmicfcfoaaGreatQLst
set_option linter.unusedVariables false
namespace Go.Proofs.YtooninmicfcfoaaGreat.Sums
open Go.RowKit
open SetP (bs)

def stepU (h : Nat) (c : UInt8) : Nat := ((h ^^^ c.toNat) * 16777619) % 4294967296
def sumAt (s : ByteArray) (k : Nat) : Nat := ((bs s).take k).foldl stepU 2166136261
def sumB (s : ByteArray) : Nat := (bs s).foldl stepU 2166136261
theorem sum_zero (s : ByteArray) : sumAt s 0 = 2166136261 := by simp [sumAt]
theorem sum_all (s : ByteArray) : sumAt s s.size = sumB s := by
  unfold sumAt sumB
  rw [List.take_of_length_le]
  show s.data.toList.length ≤ s.data.size
  simp
theorem fold_up {f : Nat → UInt8 → Nat} {z : Nat} {s : ByteArray} {k : Nat} (h : k < s.size) : ((bs s).take (k + 1)).foldl f z = f (((bs s).take k).foldl f z) s[k] := by
  have hk : k < (bs s).length := by show k < s.data.toList.length; simpa using h
  rw [← List.take_append_getElem hk, List.foldl_append]
  rfl
theorem sum_up {s : ByteArray} {k : Nat} (h : k < s.size) : sumAt s (k + 1) = stepU (sumAt s k) s[k] := fold_up h
theorem step_lt (h : Nat) (c : UInt8) : stepU h c < 4294967296 := Nat.mod_lt _ (by decide)
theorem fold_lt (l : List UInt8) : ∀ h, h < 4294967296 → l.foldl stepU h < 4294967296 := by
  induction l with
  | nil => exact fun h hh => hh
  | cons c l ih => exact fun h _ => ih _ (step_lt h c)
theorem sumAt_lt (s : ByteArray) (k : Nat) : sumAt s k < 4294967296 := fold_lt _ _ (by decide)
theorem sumB_lt (s : ByteArray) : sumB s < 4294967296 := fold_lt _ _ (by decide)
theorem xor_lt {x c : Nat} (hx : x < 4294967296) (hc : c < 256) : x ^^^ c < 4294967296 := Nat.xor_lt_two_pow (n := 32) hx (by omega)
theorem ofInt64 (a : Nat) (h : a < 18446744073709551616) : (BitVec.ofInt 64 (a : Int)).toNat = a := by rw [BitVec.toNat_ofInt]; omega
theorem i64_xor (a b : Nat) (ha : a < 4294967296) (hb : b < 4294967296) : bits .xor .i64 (a : Int) (b : Int) = ((a ^^^ b : Nat) : Int) := by
  have hx : a ^^^ b < 2 ^ 32 := Nat.xor_lt_two_pow (by omega) (by omega)
  show IntKind.i64.wrap ((BitVec.ofInt 64 (a : Int) ^^^ BitVec.ofInt 64 (b : Int)).toNat : Int) = _
  rw [BitVec.toNat_xor, ofInt64 a (by omega), ofInt64 b (by omega), IntKind.wrap_i64]
  omega
theorem i64_and32 (n : Int) : bits .and .i64 n 4294967295 = n % 4294967296 := by
  have h127 : (BitVec.ofInt 64 4294967295).toNat = 2 ^ 32 - 1 := by decide
  have key : (BitVec.ofInt 64 n &&& BitVec.ofInt 64 4294967295).toNat = (n % ((2 ^ 64 : Nat) : Int)).toNat % 2 ^ 32 := by
    rw [BitVec.toNat_and, BitVec.toNat_ofInt, h127, Nat.and_two_pow_sub_one_eq_mod]
  show IntKind.i64.wrap ((BitVec.ofInt 64 n &&& BitVec.ofInt 64 4294967295).toNat : Nat) = n % 4294967296
  rw [key, IntKind.wrap_i64]
  omega
theorem retI {a b : Int} (h : a = b) : Ending.returned (.int .i64 a) = .returned (.int .i64 b) := by rw [h]
theorem i64_of {x y : Int} (h : x = y) : Value.int .i64 x = .int .i64 y := by rw [h]
theorem u32_of {x y : Int} (h : x = y) : Value.int .u32 x = .int .u32 y := by rw [h]

set_option maxHeartbeats 400000 in
theorem specSum_any (s : ByteArray) (w : World) (hs : s.size ≤ maxLen) :
    Calls Tryz.prog 125 #[.string s] w fun e w' => e = .returned (.int .i64 (sumB s)) ∧ w' = w := by
  unfold maxLen at hs
  go_enter Tryz.func125, Tryz.ntmps125
  go_wp2
  go_loop [3, 4] (fun h i => ∃ k : Nat, k ≤ s.size ∧ i = .int .i64 k ∧ h = .int .i64 (sumAt s k)) (fun h i => s.size - (intOf i).toNat)
  case atStart => exact ⟨0, Nat.zero_le _, rfl, by rw [sum_zero]; rfl⟩
  case round =>
    obtain ⟨k, hk, rfl, rfl⟩ := hrel
    by_cases hlt : k < s.size
    · have hlt' : (k : Int) < s.size := by omega
      have hup := sum_up hlt
      have hx0 := sumAt_lt s k
      generalize sumAt s k = x at hup hx0 ⊢
      have hc : s[k].toNat < 256 := s[k].toNat_lt
      unfold stepU at hup
      have hb := i64_xor x s[k].toNat hx0 (by omega)
      have hy0 := xor_lt hx0 hc
      generalize x ^^^ s[k].toNat = y at hup hb hy0
      have ha := i64_and32 ((y : Int) * 16777619)
      have HU : Hid (sumAt s (k + 1) = y * 16777619 % 4294967296) := hup
      clear hup
      go_wp2
      go_round
      case rel => exact ⟨k + 1, by omega, by go_num, i64_of (by rw [HU.out]; omega)⟩
      case measure => simp [intOf]; omega
    · have hge : ¬ (k : Int) < s.size := by omega
      obtain rfl : k = s.size := by omega
      have HE : Hid (sumAt s s.size = sumB s) := sum_all s
      go_wp2
      go_ret
      exact ⟨retI (by rw [HE.out]), rfl⟩

set_option maxHeartbeats 400000 in
theorem implSum_any (s : ByteArray) (w : World) (hs : s.size ≤ maxLen) :
    Calls Tryz.prog 120 #[.string s] w fun e w' => e = .returned (.int .i64 (sumB s)) ∧ w' = w := by
  unfold maxLen at hs
  go_enter Tryz.func120, Tryz.ntmps120
  go_wp2
  go_loop [3, 7] (fun h i => ∃ k : Nat, k ≤ s.size ∧ i = .int .i64 k ∧ h = .int .u32 (sumAt s k)) (fun h i => s.size - (intOf i).toNat)
  case atStart => exact ⟨0, Nat.zero_le _, rfl, by rw [sum_zero]; rfl⟩
  case round =>
    obtain ⟨k, hk, rfl, rfl⟩ := hrel
    by_cases hlt : k < s.size
    · have hlt' : (k : Int) < s.size := by omega
      have hup := sum_up hlt
      have hx0 := sumAt_lt s k
      generalize sumAt s k = x at hup hx0 ⊢
      have hc : s[k].toNat < 256 := s[k].toNat_lt
      unfold stepU at hup
      have hb := u32_xor_nat x s[k].toNat hx0 (by omega)
      have hy0 := xor_lt hx0 hc
      generalize x ^^^ s[k].toNat = y at hup hb hy0
      have HU : Hid (sumAt s (k + 1) = y * 16777619 % 4294967296) := hup
      clear hup
      go_wp2
      go_round
      case rel => exact ⟨k + 1, by omega, by go_num, u32_of (by rw [HU.out]; first | omega | (rw [IntKind.wrap_u32]; omega))⟩
      case measure => simp [intOf]; omega
    · have hge : ¬ (k : Int) < s.size := by omega
      obtain rfl : k = s.size := by omega
      have HE : Hid (sumAt s s.size = sumB s) := sum_all s
      have hx0 := sumAt_lt s s.size
      generalize sumAt s s.size = x at HE hx0 ⊢
      go_wp2
      go_ret
      exact ⟨retI (by have := HE.out; first | omega | (rw [IntKind.wrap_i64]; omega)), rfl⟩

def partB (f n : Int) : Int := if n < 1 ∨ f < 0 then 0 else f % n
theorem specPart_any (f n : Int) (w : World) (h0 : -9223372036854775808 ≤ f) (h1 : f ≤ 9223372036854775807) (h2 : -9223372036854775808 ≤ n) (h3 : n ≤ 9223372036854775807) :
    Calls Tryz.prog 89 #[.int .i64 f, .int .i64 n] w fun e w' => e = .returned (.int .i64 (partB f n)) ∧ w' = w := by
  by_cases c1 : n < 1
  · have HE : Hid (partB f n = 0) := if_pos (Or.inl c1)
    go_enter Tryz.func89, Tryz.ntmps89
    go_wp2
    go_ret
    exact ⟨retI HE.out.symm, rfl⟩
  · by_cases c2 : f < 0
    · have HE : Hid (partB f n = 0) := if_pos (Or.inr c2)
      go_enter Tryz.func89, Tryz.ntmps89
      go_wp2
      go_ret
      exact ⟨retI HE.out.symm, rfl⟩
    · have HE : Hid (partB f n = f % n) := if_neg (by omega)
      have hn0 : n ≠ 0 := by omega
      go_enter Tryz.func89, Tryz.ntmps89
      go_wp2
      go_ret
      exact ⟨retI HE.out.symm, rfl⟩
theorem implPart_any (f n : Int) (w : World) (h0 : -9223372036854775808 ≤ f) (h1 : f ≤ 9223372036854775807) (h2 : -9223372036854775808 ≤ n) (h3 : n ≤ 9223372036854775807) :
    Calls Tryz.prog 87 #[.int .i64 f, .int .i64 n] w fun e w' => e = .returned (.int .i64 (partB f n)) ∧ w' = w := by
  by_cases c1 : n < 1
  · have HE : Hid (partB f n = 0) := if_pos (Or.inl c1)
    go_enter Tryz.func87, Tryz.ntmps87
    go_wp2
    go_ret
    exact ⟨retI HE.out.symm, rfl⟩
  · by_cases c2 : f < 0
    · have HE : Hid (partB f n = 0) := if_pos (Or.inr c2)
      go_enter Tryz.func87, Tryz.ntmps87
      go_wp2
      go_ret
      exact ⟨retI HE.out.symm, rfl⟩
    · have HE : Hid (partB f n = f % n) := if_neg (by omega)
      have hn0 : n ≠ 0 := by omega
      go_enter Tryz.func87, Tryz.ntmps87
      go_wp2
      go_ret
      exact ⟨retI HE.out.symm, rfl⟩
end Go.Proofs.YtooninmicfcfoaaGreat.Sums
namespace Go.Proofs.YtooninmicfcfoaaGreat.Fing
open Go.RowKit
open Labs LabS LabO SetP TextS TextI Sums
open Over

def foldB (x : Nat) : Nat := (x ^^^ (x / 65536)) % 32
def fingerB (l : List Lab) : Nat := foldB (sumB (setText l))
theorem foldB_lt (x : Nat) : foldB x < 32 := Nat.mod_lt _ (by decide)
theorem finger_lt (l : List Lab) : fingerB l < 32 := foldB_lt _
theorem text_max (l : List Lab) : (setText l).size ≤ maxLen := by have := setText_size l; unfold maxLen; omega

set_option maxHeartbeats 400000 in
theorem specFinger_any (a : Option Addr) (cap : Nat) (l : List Lab) (w : World) (hr : Reads w a l) (hl : l.length ≤ maxLen) (hz : Fits l) :
    Calls Tryz.prog 70 #[.slice a l.length cap] w fun e w' => e = .returned (.int .i64 (fingerB l)) ∧ Below w.heap.size w w' := by
  have HC : Hid (Calls Tryz.prog 126 #[.slice a l.length cap] w fun e w' => e = .returned (.string (setText l)) ∧ Below w.heap.size w w') := specText_any a cap l w hr hl hz
  have HT := hidL (text_max l)
  have HF : Hid (fingerB l = foldB (sumB (setText l))) := rfl
  clear hr hl hz
  generalize setText l = t at HC HT HF
  go_enter Tryz.func70, Tryz.ntmps70
  go_wp2_with fail
  refine HC.out.mono ?_
  rintro e w1 ⟨rfl, hb⟩
  have HB : Hid (Below w.heap.size w w1) := hb
  clear hb
  go_wp2_with fail
  refine (specSum_any t _ HT.out).mono ?_
  rintro e w2 ⟨rfl, rfl⟩
  have hx0 := sumB_lt t
  generalize sumB t = x at HF hx0 ⊢
  have hq := i64_xor x (x / 65536) hx0 (by omega)
  have hy0 : x ^^^ (x / 65536) < 4294967296 := Nat.xor_lt_two_pow (n := 32) hx0 (by omega)
  unfold foldB at HF
  generalize x ^^^ (x / 65536) = y at HF hq hy0
  have hq' : bits .xor .i64 (x : Int) ((x : Int) / 65536) = (y : Int) := by rw [← hq]; simp
  clear hq
  go_wp2
  go_ret
  exact ⟨retI (by rw [HF.out]; omega), HB.out⟩
set_option maxHeartbeats 400000 in
theorem implFinger_any (a : Option Addr) (cap : Nat) (l : List Lab) (w : World) (hr : Reads w a l) (hl : l.length ≤ maxLen) (hz : Fits l) :
    Calls Tryz.prog 65 #[.slice a l.length cap] w fun e w' => e = .returned (.int .i64 (fingerB l)) ∧ Below w.heap.size w w' := by
  have HC : Hid (Calls Tryz.prog 121 #[.slice a l.length cap] w fun e w' => e = .returned (.string (setText l)) ∧ Below w.heap.size w w') := implText_any a cap l w hr hl hz
  have HT := hidL (text_max l)
  have HF : Hid (fingerB l = foldB (sumB (setText l))) := rfl
  clear hr hl hz
  generalize setText l = t at HC HT HF
  go_enter Tryz.func65, Tryz.ntmps65
  go_wp2_with fail
  refine HC.out.mono ?_
  rintro e w1 ⟨rfl, hb⟩
  have HB : Hid (Below w.heap.size w w1) := hb
  clear hb
  go_wp2_with fail
  refine (implSum_any t _ HT.out).mono ?_
  rintro e w2 ⟨rfl, rfl⟩
  have hx0 := sumB_lt t
  generalize sumB t = x at HF hx0 ⊢
  have hq := i64_xor x (x / 65536) hx0 (by omega)
  have hy0 : x ^^^ (x / 65536) < 4294967296 := Nat.xor_lt_two_pow (n := 32) hx0 (by omega)
  unfold foldB at HF
  generalize x ^^^ (x / 65536) = y at HF hq hy0
  have hq' : bits .xor .i64 (x : Int) ((x : Int) / 65536) = (y : Int) := by rw [← hq]; simp
  clear hq
  go_wp2
  go_ret
  exact ⟨retI (by rw [HF.out]; omega), HB.out⟩

theorem retB {a b : Bool} (h : a = b) : Ending.returned (.bool a) = .returned (.bool b) := by rw [h]
end Go.Proofs.YtooninmicfcfoaaGreat.Fing
namespace Go.Proofs.YtooninmicfcfoaaGreat.ChnO
open Go.RowKit
open Labs LabS Alms AlmS Over Blk Rnd Plc Lop App Rws ChnI
open Fing (fingerB)
open StrB (retB)
attribute [local go_sem] Oper.semAt_some

def okC (f : Int) (P : List PAl) (i : Nat) : Bool := alarmB (nthP P i).l (nthP P i).s (nthP P i).e (nthP P i).n && (decide ((fingerB (nthP P i).l : Int) = f) && decide (idxB P (nthP P i).l = (i : Int)))
def chainB (f : Int) (P : List PAl) : Bool := (List.range P.length).all (okC f P) && decide (0 < P.length)
theorem okC_1 {f : Int} {P : List PAl} {i : Nat} (h : alarmB (nthP P i).l (nthP P i).s (nthP P i).e (nthP P i).n = false) : okC f P i = false := by simp [okC, h]
theorem okC_2 {f : Int} {P : List PAl} {i : Nat} (h : (fingerB (nthP P i).l : Int) ≠ f) : okC f P i = false := by simp [okC, h]
theorem okC_3 {f : Int} {P : List PAl} {i : Nat} (h : idxB P (nthP P i).l ≠ (i : Int)) : okC f P i = false := by simp [okC, h]
theorem okC_y {f : Int} {P : List PAl} {i : Nat} (h1 : alarmB (nthP P i).l (nthP P i).s (nthP P i).e (nthP P i).n = true) (h2 : (fingerB (nthP P i).l : Int) = f) (h3 : idxB P (nthP P i).l = (i : Int)) : okC f P i = true := by simp [okC, h1, h2, h3]
theorem chain_bad {f : Int} {P : List PAl} {i : Nat} (hi : i < P.length) (h : okC f P i = false) : chainB f P = false := by
  unfold chainB
  rw [Bool.and_eq_false_iff]
  left
  rw [List.all_eq_false]
  exact ⟨i, by simpa using hi, by simp [h]⟩
theorem chain_good {f : Int} {P : List PAl} (h : ∀ i, i < P.length → okC f P i = true) : chainB f P = decide (0 < P.length) := by
  unfold chainB
  rw [List.all_eq_true.2 (fun i hi => h i (by simpa using hi))]; rfl

set_option maxRecDepth 100000 in
set_option maxHeartbeats 8000000 in
theorem implChain_any (f : Int) (a : Option Addr) (cap : Nat) (P : List PAl) (w : World) (hr : RdA w a P) (hl : P.length ≤ 1048576) (hs : FitsP P) :
    Calls Tryz.prog 86 #[.agg #[.int .i64 f, .slice a P.length cap]] w fun e w' => e = .returned (.bool (chainB f P)) ∧ Below w.heap.size w w' := by
  obtain ⟨b, off, ad, cp, ha, hat⟩ := pick hr
  have HA : Hid (∀ i, i < P.length → At w b off i (nthP P i) (ad i) (cp i)) := hat
  have HR : Hid (RdA w a P) := hr
  have HF : Hid (FitsP P) := hs
  have HAB : Hid (P = [] ∨ (a = some ⟨b, off, none⟩ ∧ b < w.heap.size)) := ha
  clear hr hat hs ha
  refine (callsIn_wide (n := 2)).1 ?_
  refine callsIn_of_wp_marks Tryz.func86 rfl trivial ?_ rfl
  simp only [Tryz.ntmps86, List.size_toArray, List.length_cons, List.length_nil, Nat.reduceAdd, Nat.reduceSub, Array.replicate_succ, Array.replicate_zero, List.push_toArray, List.append_toArray, List.nil_append, List.cons_append]
  refine wpIn_wide.2 ?_
  go_wp2_with fail
  refine (places_any f a P.length cap _).mono ?_
  rintro e w1 ⟨rfl, rfl⟩
  go_wp2_with fail
  have hsz : (((w.alloc (.cells #[.int .i64 f, .slice a P.length cap] 96)).alloc (.cells #[.bool false] 4)).alloc (.cells #[.int .i64 f, .slice a P.length cap] 96)).heap.size = w.heap.size + 3 := by simp
  have hW1 : Blk (((w.alloc (.cells #[.int .i64 f, .slice a P.length cap] 96)).alloc (.cells #[.bool false] 4)).alloc (.cells #[.int .i64 f, .slice a P.length cap] 96)) w.heap.size #[.int .i64 f, .slice a P.length cap] 96 := ((Blk.new _ _ _).alloc _).alloc _
  have hW2 : Blk (((w.alloc (.cells #[.int .i64 f, .slice a P.length cap] 96)).alloc (.cells #[.bool false] 4)).alloc (.cells #[.int .i64 f, .slice a P.length cap] 96)) (w.heap.size + 1) #[.bool false] 4 := (Blk.new_at (by simp)).alloc _
  have hW3 : Blk (((w.alloc (.cells #[.int .i64 f, .slice a P.length cap] 96)).alloc (.cells #[.bool false] 4)).alloc (.cells #[.int .i64 f, .slice a P.length cap] 96)) (w.heap.size + 1 + 1) #[.int .i64 f, .slice a P.length cap] 96 := Blk.new_at (by simp)
  have hB0 : Below w.heap.size w (((w.alloc (.cells #[.int .i64 f, .slice a P.length cap] 96)).alloc (.cells #[.bool false] 4)).alloc (.cells #[.int .i64 f, .slice a P.length cap] 96)) := Alm.below3 w _ _ _
  generalize (((w.alloc (.cells #[.int .i64 f, .slice a P.length cap] 96)).alloc (.cells #[.bool false] 4)).alloc (.cells #[.int .i64 f, .slice a P.length cap] 96)) = W0 at *
  refine loop_places (B := w.heap.size + 1 + 1) (n₀ := w.heap.size) (P := P) (s := a) (cap := cap) (b := b) (off := off) (ad := ad) (cp := cp) rfl rfl (by omega) (by omega) (hW3.cell 1) hl HAB.out (fun i hi => (HA.out i hi).below hB0 (by
      rcases HAB.out with e | h
      · rw [e] at hi; simp at hi
      · exact h.2))
    (fun pre W => (∀ x ∈ pre, okC f P x.1 = true) ∧ Blk W w.heap.size #[.int .i64 f, .slice a P.length cap] 96 ∧ Blk W (w.heap.size + 1) #[.bool false] 4 ∧ Below w.heap.size w W ∧ W0.heap.size ≤ W.heap.size)
    (fun pre W => ∃ ini last, pre = ini ++ [last] ∧ okC f P last.1 = false ∧ Blk W (w.heap.size + 1) #[.bool false] 4 ∧ Below w.heap.size w W)
    (fun pre W W' h ht => ⟨h.1, ht.blk h.2.1, ht.blk h.2.2.1, ht.below (Nat.le_refl _) (by omega) h.2.2.2.1, Nat.le_trans h.2.2.2.2 ht.size⟩)
    (fun pre W W' h ht => by
      obtain ⟨ini, last, h1, h3, h4, h5⟩ := h
      exact ⟨ini, last, h1, h3, ht.blk h4, ht.below (Nat.le_refl _) (by omega) h5⟩)
    (fun pre W h => h.2.2.2.2) ⟨fun x hx => by simp at hx, hW1, hW2, hB0, Nat.le_refl _⟩
    (fun x N => { tmps := #[.agg #[.int .i64 f, .slice a P.length cap], .pointer (some ⟨w.heap.size, 0, none⟩), .pointer (some ⟨w.heap.size + 1, 0, none⟩), .int .i64 (x.1 : Int), .pointer (some ⟨N, 0, none⟩), .agg #[.int .i64 f, .slice a P.length cap], .func (.func 167) #[] #[.pointer (some ⟨w.heap.size + 1 + 1, 0, none⟩)], .int .i64 (x.1 : Int), .agg #[.slice (ad x.1) (nthP P x.1).l.length (cp x.1), .int .i64 (nthP P x.1).s, .int .i64 (nthP P x.1).e, .string (nthP P x.1).n], undef, undef, undef, undef, undef, undef, undef, undef, undef, undef, undef, undef, undef, undef, undef, undef, undef, undef, undef, undef, undef, undef, undef], defers := [] }) ?assign ?body ?done ?stop
  case assign =>
    intro l x W K hK
    dsimp only [enc]
    gi_wp2
    exact hK
  case body =>
    rintro l pre x N W hN hx ⟨hp, h1, h2, hB, hz⟩ hlt
    have HP : Hid (∀ x ∈ pre, okC f P x.1 = true) := hp
    have H1 : Hid (Blk W w.heap.size #[.int .i64 f, .slice a P.length cap] 96) := h1
    have H2 : Hid (Blk W (w.heap.size + 1) #[.bool false] 4) := h2
    have HB : Hid (Below w.heap.size w W ∧ W0.heap.size ≤ W.heap.size) := ⟨hB, hz⟩
    have hne := Grown.some W
    have x0 : ∀ q : Grown W, q.out.cell? ⟨N, 0, none⟩ = some (.slice (ad x.1) (nthP P x.1).l.length (cp x.1)) := fun q => q.cell hx.lt (hx.cell 0)
    have x1 : ∀ q : Grown W, q.out.cell? ⟨N, 1, none⟩ = some (.int .i64 (nthP P x.1).s) := fun q => q.cell hx.lt (hx.cell 1)
    have x2 : ∀ q : Grown W, q.out.cell? ⟨N, 2, none⟩ = some (.int .i64 (nthP P x.1).e) := fun q => q.cell hx.lt (hx.cell 2)
    have x3 : ∀ q : Grown W, q.out.cell? ⟨N, 3, none⟩ = some (.string (nthP P x.1).n) := fun q => q.cell hx.lt (hx.cell 3)
    have y0 : ∀ q : Grown W, q.out.cell? ⟨w.heap.size, 0, none⟩ = some (.int .i64 f) := fun q => q.cell h1.lt (h1.cell 0)
    have y1 : ∀ q : Grown W, q.out.cell? ⟨w.heap.size, 1, none⟩ = some (.slice a P.length cap) := fun q => q.cell h1.lt (h1.cell 1)
    have hat := (HA.out x.1 x.2).reads.below hB
    have HC1 : ∀ q : Grown W, Hid (Calls Tryz.prog 135 #[.agg #[.slice (ad x.1) (nthP P x.1).l.length (cp x.1), .int .i64 (nthP P x.1).s, .int .i64 (nthP P x.1).e, .string (nthP P x.1).n]] q.out fun e w' => e = .returned (.bool (alarmB (nthP P x.1).l (nthP P x.1).s (nthP P x.1).e (nthP P x.1).n)) ∧ Below q.out.heap.size q.out w') := fun q => implAlarm_any _ _ _ _ _ _ _ ((HF.out x.1 x.2).al (hat.below q.bel))
    have HC2 : ∀ q : Grown W, Hid (Calls Tryz.prog 65 #[.slice (ad x.1) (nthP P x.1).l.length (cp x.1)] q.out fun e w' => e = .returned (.int .i64 (fingerB (nthP P x.1).l)) ∧ Below q.out.heap.size q.out w') := fun q => Fing.implFinger_any _ _ _ _ (hat.below q.bel) (HF.out x.1 x.2).len (HF.out x.1 x.2).fits
    have HC3 : ∀ q : Grown W, Hid (Calls Tryz.prog 74 #[.agg #[.int .i64 f, .slice a P.length cap], .slice (ad x.1) (nthP P x.1).l.length (cp x.1)] q.out fun e w' => e = .returned (.int .i64 (idxB P (nthP P x.1).l)) ∧ Below q.out.heap.size q.out w') := fun q => implIn_any f a _ cap _ P _ _ (HR.out.below (grow_on hB q.bel)) (hat.below q.bel) hl (fun i hi => (HF.out i hi).len) (HF.out x.1 x.2).len
    clear hp hx h1 h2 hB hz hat
    cases hA : alarmB (nthP P x.1).l (nthP P x.1).s (nthP P x.1).e (nthP P x.1).n with
    | false =>
      have HE : Hid (okC f P x.1 = false) := okC_1 hA
      rw [hA] at HC1
      clear hA
      gi_wp2
      refine over_in (z := W) (by kernel_rfl) (by kernel_rfl) (by kernel_rfl) (fun h => by obtain ⟨_, _, h⟩ := h; exact h) (Below.refl _ _) ?_
      repeat (go_big_quiet_step (first | (go_at_call 135; exact call_over (HC1 _).out) | (go_at_call 65; exact call_over (HC2 _).out) | (go_at_call 74; exact call_over (HC3 _).out)))
      refine wpQuiet_nil ?_
      intro w2 hw2
      have hb2 := over_bel hw2
      have HB2 : Hid (Below W.heap.size W w2) := hb2
      clear hw2 hne HC1 HC2 HC3 x0 x1 x2 x3 y0 y1
      have h2 := H2.out.grow hb2
      have c2 := h2.frozen 0
      have c3 : w2.cell? ⟨w.heap.size + 1, 0, none⟩ = some (.bool false) := h2.cell 0
      clear hb2 h2
      gi_wp2
      exact ⟨(keeps_of HB2.out).trans ((KeepsOthers.setCell _ _ _).from _), rfl, pre, x, rfl, HE.out, (H2.out.grow HB2.out).set 0 _, set_low (grow_on HB.out.1 HB2.out) (by omega) _ _⟩
    | true =>
      rw [hA] at HC1
      by_cases hF : (fingerB (nthP P x.1).l : Int) = f
      · by_cases hI : idxB P (nthP P x.1).l = (x.1 : Int)
        · have HE : Hid (okC f P x.1 = true) := okC_y hA hF hI
          clear hA
          gi_wp2
          refine over_in (z := W) (by kernel_rfl) (by kernel_rfl) (by kernel_rfl) (fun h => by obtain ⟨_, _, h⟩ := h; exact h) (Below.refl _ _) ?_
          repeat (go_big_quiet_step (first | (go_at_call 135; exact call_over (HC1 _).out) | (go_at_call 65; exact call_over (HC2 _).out) | (go_at_call 74; exact call_over (HC3 _).out)))
          refine wpQuiet_nil ?_
          intro w2 hw2
          have hb2 := over_bel hw2
          have HB2 : Hid (Below W.heap.size W w2) := hb2
          clear hw2 hne HC1 HC2 HC3 x0 x1 x2 x3 y0 y1
          clear hb2
          gi_wp2
          exact ⟨keeps_of HB2.out, HB2.out.mono HB.out.1.size, fun y hy => (List.mem_append.1 hy).elim (HP.out y) (fun e => by rw [List.mem_singleton.1 e]; exact HE.out), H1.out.grow HB2.out, H2.out.grow HB2.out, grow_on HB.out.1 HB2.out, Nat.le_trans HB.out.2 HB2.out.size⟩
        · have HE : Hid (okC f P x.1 = false) := okC_3 hI
          clear hA
          gi_wp2
          refine over_in (z := W) (by kernel_rfl) (by kernel_rfl) (by kernel_rfl) (fun h => by obtain ⟨_, _, h⟩ := h; exact h) (Below.refl _ _) ?_
          repeat (go_big_quiet_step (first | (go_at_call 135; exact call_over (HC1 _).out) | (go_at_call 65; exact call_over (HC2 _).out) | (go_at_call 74; exact call_over (HC3 _).out)))
          refine wpQuiet_nil ?_
          intro w2 hw2
          have hb2 := over_bel hw2
          have HB2 : Hid (Below W.heap.size W w2) := hb2
          clear hw2 hne HC1 HC2 HC3 x0 x1 x2 x3 y0 y1
          have h2 := H2.out.grow hb2
          have c2 := h2.frozen 0
          have c3 : w2.cell? ⟨w.heap.size + 1, 0, none⟩ = some (.bool false) := h2.cell 0
          clear hb2 h2
          gi_wp2
          exact ⟨(keeps_of HB2.out).trans ((KeepsOthers.setCell _ _ _).from _), rfl, pre, x, rfl, HE.out, (H2.out.grow HB2.out).set 0 _, set_low (grow_on HB.out.1 HB2.out) (by omega) _ _⟩
      · have HE : Hid (okC f P x.1 = false) := okC_2 hF
        have hF1 : ((fingerB (nthP P x.1).l : Int) != f) = true := bne_iff_ne.2 hF
        clear hA
        gi_wp2
        refine over_in (z := W) (by kernel_rfl) (by kernel_rfl) (by kernel_rfl) (fun h => by obtain ⟨_, _, h⟩ := h; exact h) (Below.refl _ _) ?_
        repeat (go_big_quiet_step (first | (go_at_call 135; exact call_over (HC1 _).out) | (go_at_call 65; exact call_over (HC2 _).out) | (go_at_call 74; exact call_over (HC3 _).out)))
        refine wpQuiet_nil ?_
        intro w2 hw2
        have hb2 := over_bel hw2
        have HB2 : Hid (Below W.heap.size W w2) := hb2
        clear hw2 hne HC1 HC2 HC3 x0 x1 x2 x3 y0 y1
        have h2 := H2.out.grow hb2
        have c2 := h2.frozen 0
        have c3 : w2.cell? ⟨w.heap.size + 1, 0, none⟩ = some (.bool false) := h2.cell 0
        clear hb2 h2
        gi_wp2
        exact ⟨(keeps_of HB2.out).trans ((KeepsOthers.setCell _ _ _).from _), rfl, pre, x, rfl, HE.out, (H2.out.grow HB2.out).set 0 _, set_low (grow_on HB.out.1 HB2.out) (by omega) _ _⟩
  case done =>
    rintro D xs W hD hlen hg ⟨hp, h1, h2, hB, hz⟩ hK
    have c2 := h2.frozen 0
    have c3 : W.cell? ⟨w.heap.size + 1, 0, none⟩ = some (.bool false) := h2.cell 0
    have c1 : W.cell? ⟨w.heap.size, 1, none⟩ = some (.slice a P.length cap) := h1.cell 1
    have HM : Hid (chainB f P = decide (0 < P.length)) := chain_good fun j hj => by
      obtain ⟨x, hx, e⟩ := good_has hg (i := j) (by rw [hlen]; exact hj)
      rw [← e]; exact hp x hx
    go_wp2
    have hK' : (W.setCell ⟨w.heap.size + 1, 0, none⟩ (.bool (decide (0 < P.length)))).heap[D]? = some (.deferred (some [])) := (Below.heap_setCell _ _ _ _ (by show D ≠ w.heap.size + 1; omega)).trans hK
    have ht := turn_shut (o := .deferred none) hK' hD
    have hR : ((W.setCell ⟨w.heap.size + 1, 0, none⟩ (.bool (decide (0 < P.length)))).putObj D (.deferred none)).cell? ⟨w.heap.size + 1, 0, none⟩ = some (.bool (decide (0 < P.length))) := (ht.blk (h2.set 0 (.bool (decide (0 < P.length))))).cell 0
    refine ⟨by simp, .inl ⟨_, _, rfl, run_takeDeferred hK', ?_⟩⟩
    refine ⟨.bool (decide (0 < P.length)), ?_, retB HM.out.symm, ht.below (Nat.le_refl _) (by omega) (set_low hB (by omega) _ _)⟩
    simp [results, Tryz.results86, go_sem, hR]
  case stop =>
    rintro D pre W hD hg ⟨ini, last, rfl, he, h2, hB⟩ hK
    have HM : Hid (chainB f P = false) := chain_bad last.2 he
    go_wp2
    have ht := turn_shut (o := .deferred none) hK hD
    have hR : (W.putObj D (.deferred none)).cell? ⟨w.heap.size + 1, 0, none⟩ = some (.bool false) := (ht.blk h2).cell 0
    refine ⟨by simp, .inl ⟨_, _, rfl, run_takeDeferred hK, ?_⟩⟩
    refine ⟨.bool false, ?_, retB HM.out.symm, ht.below (Nat.le_refl _) (by omega) hB⟩
    simp [results, Tryz.results86, go_sem, hR]
end Go.Proofs.YtooninmicfcfoaaGreat.ChnO
namespace Go.Proofs.YtooninmicfcfoaaGreat.ChnS
open Go.RowKit
open Labs LabS Alms AlmS Over Blk Rws ChnI ChnO
open Fing (fingerB)
open StrB (retB)
open Alm (at_par)

set_option maxHeartbeats 1600000 in
theorem specIn_any (f : Int) (a a' : Option Addr) (cap cap' : Nat) (P : List PAl) (q : List Lab) (w : World) (hr : RdA w a P) (hr' : Reads w a' q) (hl : P.length ≤ 1048576) (hs : LenP P) (hq : q.length ≤ maxLen) :
    Calls Tryz.prog 76 #[.agg #[.int .i64 f, .slice a P.length cap], .slice a' q.length cap'] w fun e w' => e = .returned (.int .i64 (idxB P q)) ∧ Below w.heap.size w w' := by
  have HR : Hid (RdA w a P ∧ Reads w a' q ∧ LenP P ∧ q.length ≤ maxLen) := ⟨hr, hr', hs, hq⟩
  clear hr hr' hs hq
  go_enter Tryz.func76, Tryz.ntmps76
  go_wp2
  go_loopw [5] (fun i w' => ∃ k : Nat, i = .int .i64 k ∧ k ≤ P.length ∧ (∀ j, j < k → (nthP P j).l ≠ q) ∧ Below (w.alloc (.cells #[.int .i64 f, .slice a P.length cap] 96)).heap.size (w.alloc (.cells #[.int .i64 f, .slice a P.length cap] 96)) w') (fun i _ => P.length - (intOf i).toNat)
  case atStart => exact ⟨0, rfl, Nat.zero_le _, fun j h => by omega, Below.refl _ _⟩
  case round =>
    obtain ⟨k, rfl, hk, hu, hw⟩ := hrel
    have HU : Hid (∀ j, j < k → (nthP P j).l ≠ q) := hu
    have c1 : wr.cell? ⟨w.heap.size, 1, none⟩ = some (.slice a P.length cap) := at_par hw 1 rfl
    have HB0 : Hid (Below (w.alloc (.cells #[.int .i64 f, .slice a P.length cap] 96)).heap.size (w.alloc (.cells #[.int .i64 f, .slice a P.length cap] 96)) wr) := hw
    have HB : Hid (Below w.heap.size w wr) := grow_on (Go.Joins.below_alloc1 w _) hw
    clear hu hw
    by_cases hlt : k < P.length
    · have hlt' : (k : Int) < (P.length : Int) := by omega
      obtain ⟨b, off, rfl, hb, ad, cp, hat⟩ := (HR.out.1.below HB.out).get hlt
      have h2 := hat.c0
      have HC1 : Hid (Calls Tryz.prog 130 #[.slice ad (nthP P k).l.length cp, .slice a' q.length cap'] wr fun e w' => e = .returned (.bool (decide ((nthP P k).l = q))) ∧ Below wr.heap.size wr w') := calls_drew (specSame_any _ _ _ _ _ _ wr hat.reads (HR.out.2.1.below HB.out) (HR.out.2.2.1 k hlt) HR.out.2.2.2)
      clear hat
      by_cases he : (nthP P k).l = q
      · have HY : Hid (idxB P q = (k : Int)) := idx_hit HU.out he hlt
        have hd : decide ((nthP P k).l = q) = true := decide_eq_true he
        clear he
        go_wp2_with fail
        refine HC1.out.mono ?_
        rintro e w1 ⟨rfl, hb1⟩
        have HB1 : Hid (Below w.heap.size w w1) := grow_on HB.out hb1
        clear hb1
        go_wp2
        go_ret
        exact ⟨ChnI.retI HY.out.symm, HB1.out⟩
      · have HU1 : Hid (∀ j, j < k + 1 → (nthP P j).l ≠ q) := fun j hj => by
          by_cases e : j = k
          · subst e; exact he
          · exact HU.out j (by omega)
        have hd : decide ((nthP P k).l = q) = false := decide_eq_false he
        clear he
        go_wp2_with fail
        refine HC1.out.mono ?_
        rintro e w1 ⟨rfl, hb1⟩
        have HB1 : Hid (Below (w.alloc (.cells #[.int .i64 f, .slice (some ⟨b, off, none⟩) P.length cap] 96)).heap.size (w.alloc (.cells #[.int .i64 f, .slice (some ⟨b, off, none⟩) P.length cap] 96)) w1) := grow_on HB0.out hb1
        clear hb1 c1 h2
        go_wp2
        go_roundw
        case rel => exact ⟨k + 1, by go_num, by omega, HU1.out, HB1.out⟩
        case measure => simp [intOf]; omega
    · have hge : ¬ (k : Int) < (P.length : Int) := by omega
      have HN : Hid (idxB P q = -1) := idx_miss fun j hj => HU.out j (by omega)
      go_wp2
      go_ret
      exact ⟨ChnI.retI HN.out.symm, HB.out⟩

theorem ok_first {f : Int} {P : List PAl} {i : Nat} (hi : i < P.length) (h1 : alarmB (nthP P i).l (nthP P i).s (nthP P i).e (nthP P i).n = true) (h2 : (fingerB (nthP P i).l : Int) = f) (h3 : ∀ j, j < i → (nthP P j).l ≠ (nthP P i).l) : okC f P i = true := okC_y h1 h2 (idx_hit h3 rfl hi)
theorem ok_again {f : Int} {P : List PAl} {i j : Nat} (hj : j < i) (h : (nthP P j).l = (nthP P i).l) : okC f P i = false := by
  refine okC_3 fun e => ?_
  rcases idx_cases P (nthP P i).l with ⟨q, hm⟩ | ⟨k, q, hk, he, hm⟩
  · rw [q] at e; omega
  · rw [q] at e
    have : k = i := by omega
    subst this
    exact hm j hj h
set_option maxRecDepth 100000 in
set_option maxHeartbeats 4000000 in
theorem specChain_any (f : Int) (a : Option Addr) (cap : Nat) (P : List PAl) (w : World) (hr : RdA w a P) (hl : P.length ≤ 1048576) (hs : FitsP P) :
    Calls Tryz.prog 88 #[.agg #[.int .i64 f, .slice a P.length cap]] w fun e w' => e = .returned (.bool (chainB f P)) ∧ Below w.heap.size w w' := by
  have HR : Hid (RdA w a P) := hr
  have HF : Hid (FitsP P) := hs
  clear hr hs
  go_enter Tryz.func88, Tryz.ntmps88
  go_wp2
  go_loopw [3] (fun i w' => ∃ k : Nat, i = .int .i64 k ∧ k ≤ P.length ∧ (∀ j, j < k → okC f P j = true) ∧ Below (w.alloc (.cells #[.int .i64 f, .slice a P.length cap] 96)).heap.size (w.alloc (.cells #[.int .i64 f, .slice a P.length cap] 96)) w') (fun i _ => P.length - (intOf i).toNat)
  case atStart => exact ⟨0, rfl, Nat.zero_le _, fun j h => by omega, Below.refl _ _⟩
  case round =>
    obtain ⟨k, rfl, hk, hu, hw⟩ := hrel
    have HU : Hid (∀ j, j < k → okC f P j = true) := hu
    have c0 : wr.cell? ⟨w.heap.size, 0, none⟩ = some (.int .i64 f) := at_par hw 0 rfl
    have c1 : wr.cell? ⟨w.heap.size, 1, none⟩ = some (.slice a P.length cap) := at_par hw 1 rfl
    have HB0 : Hid (Below (w.alloc (.cells #[.int .i64 f, .slice a P.length cap] 96)).heap.size (w.alloc (.cells #[.int .i64 f, .slice a P.length cap] 96)) wr) := hw
    have HB : Hid (Below w.heap.size w wr) := grow_on (Go.Joins.below_alloc1 w _) hw
    have hlt0 : w.heap.size < wr.heap.size := by have := hw.size; simp at this; omega
    clear hu hw
    by_cases hlt : k < P.length
    · have hlt' : (k : Int) < (P.length : Int) := by omega
      obtain ⟨b, off, rfl, hb, ad, cp, hat⟩ := (HR.out.below HB.out).get hlt
      have hne := Grown.some wr
      have x0 : ∀ q : Grown wr, q.out.cell? ⟨b, off + k * 4, none⟩ = some (.slice ad (nthP P k).l.length cp) := fun q => q.cell hb hat.c0
      have x1 : ∀ q : Grown wr, q.out.cell? ⟨b, off + k * 4 + 1, none⟩ = some (.int .i64 (nthP P k).s) := fun q => q.cell hb hat.c1
      have x2 : ∀ q : Grown wr, q.out.cell? ⟨b, off + k * 4 + 2, none⟩ = some (.int .i64 (nthP P k).e) := fun q => q.cell hb hat.c2
      have x3 : ∀ q : Grown wr, q.out.cell? ⟨b, off + k * 4 + 3, none⟩ = some (.string (nthP P k).n) := fun q => q.cell hb hat.c3
      have y0 : ∀ q : Grown wr, q.out.cell? ⟨w.heap.size, 0, none⟩ = some (.int .i64 f) := fun q => q.cell hlt0 c0
      have y1 : ∀ q : Grown wr, q.out.cell? ⟨w.heap.size, 1, none⟩ = some (.slice (some ⟨b, off, none⟩) P.length cap) := fun q => q.cell hlt0 c1
      have HC1 : ∀ q : Grown wr, Hid (Calls Tryz.prog 136 #[.agg #[.slice ad (nthP P k).l.length cp, .int .i64 (nthP P k).s, .int .i64 (nthP P k).e, .string (nthP P k).n]] q.out fun e w' => e = .returned (.bool (alarmB (nthP P k).l (nthP P k).s (nthP P k).e (nthP P k).n)) ∧ Below q.out.heap.size q.out w') := fun q => specAlarm_any _ _ _ _ _ _ _ ((HF.out k hlt).al (hat.reads.below q.bel))
      have HC2 : ∀ q : Grown wr, Hid (Calls Tryz.prog 70 #[.slice ad (nthP P k).l.length cp] q.out fun e w' => e = .returned (.int .i64 (fingerB (nthP P k).l)) ∧ Below q.out.heap.size q.out w') := fun q => Fing.specFinger_any _ _ _ _ (hat.reads.below q.bel) (HF.out k hlt).len (HF.out k hlt).fits
      clear hat c0
      cases hA : alarmB (nthP P k).l (nthP P k).s (nthP P k).e (nthP P k).n with
      | false =>
        have HE : Hid (chainB f P = false) := chain_bad hlt (okC_1 hA)
        rw [hA] at HC1
        clear hA
        go_wp2
        refine wp_over (z := wr) (by kernel_rfl) (by kernel_rfl) (Below.refl _ _) ?_
        repeat (go_big_quiet_step (first | (go_at_call 136; exact call_over (HC1 _).out) | (go_at_call 70; exact call_over (HC2 _).out)))
        refine wpQuiet_nil ?_
        intro w2 hw2
        have hb2 := over_bel hw2
        have HB2 : Hid (Below wr.heap.size wr w2) := hb2
        clear hw2 hne HC1 HC2 x0 x1 x2 x3 y0 y1
        clear hb2
        go_wp2
        go_ret
        exact ⟨retB HE.out.symm, grow_on HB.out HB2.out⟩
      | true =>
        rw [hA] at HC1
        by_cases hF : (fingerB (nthP P k).l : Int) = f
        · have HA2 : Hid (alarmB (nthP P k).l (nthP P k).s (nthP P k).e (nthP P k).n = true ∧ (fingerB (nthP P k).l : Int) = f) := ⟨hA, hF⟩
          clear hA
          go_wp2
          refine wp_over (z := wr) (by kernel_rfl) (by kernel_rfl) (Below.refl _ _) ?_
          repeat (go_big_quiet_step (first | (go_at_call 136; exact call_over (HC1 _).out) | (go_at_call 70; exact call_over (HC2 _).out)))
          refine wpQuiet_nil ?_
          intro w2 hw2
          have hb2 := over_bel hw2
          have HB2 : Hid (Below wr.heap.size wr w2) := hb2
          clear hw2 hne HC1 HC2 x0 x1 x2 x3 y0 y1
          have HW : Hid (Below (w.alloc (.cells #[.int .i64 f, .slice (some ⟨b, off, none⟩) P.length cap] 96)).heap.size (w.alloc (.cells #[.int .i64 f, .slice (some ⟨b, off, none⟩) P.length cap] 96)) w2) := grow_on HB0.out hb2
          clear hb2 c1 hF HB0 HB HB2
          go_wp2
          go_loopw [4] (fun i w' => ∃ m : Nat, i = .int .i64 m ∧ m ≤ k ∧ (∀ j, j < m → (nthP P j).l ≠ (nthP P k).l) ∧ Below (w.alloc (.cells #[.int .i64 f, .slice (some ⟨b, off, none⟩) P.length cap] 96)).heap.size (w.alloc (.cells #[.int .i64 f, .slice (some ⟨b, off, none⟩) P.length cap] 96)) w') (fun i _ => k - (intOf i).toNat)
          case atStart => exact ⟨0, rfl, Nat.zero_le _, fun j h => by omega, HW.out⟩
          case round =>
            obtain ⟨m, rfl, hm, hv, hw⟩ := hrel
            have HV : Hid (∀ j, j < m → (nthP P j).l ≠ (nthP P k).l) := hv
            have c1 : wr.cell? ⟨w.heap.size, 1, none⟩ = some (.slice (some ⟨b, off, none⟩) P.length cap) := at_par hw 1 rfl
            have HB0 : Hid (Below (w.alloc (.cells #[.int .i64 f, .slice (some ⟨b, off, none⟩) P.length cap] 96)).heap.size (w.alloc (.cells #[.int .i64 f, .slice (some ⟨b, off, none⟩) P.length cap] 96)) wr) := hw
            have HB : Hid (Below w.heap.size w wr) := grow_on (Go.Joins.below_alloc1 w _) hw
            have hlt1 : w.heap.size < wr.heap.size := by have := hw.size; simp at this; omega
            clear hv hw
            by_cases hmk : m < k
            · have hmk' : (m : Int) < (k : Int) := by omega
              have hml : (m : Int) < (P.length : Int) := by omega
              have hmP : m < P.length := by omega
              obtain ⟨b1, off1, e1, hb1, ad1, cp1, hat1⟩ := (HR.out.below HB.out).get hmP
              obtain ⟨b2, off2, e2, hb2, ad2, cp2, hat2⟩ := (HR.out.below HB.out).get hlt
              cases e1
              cases e2
              have hne := Grown.some wr
              have x0 : ∀ q : Grown wr, q.out.cell? ⟨b, off + m * 4, none⟩ = some (.slice ad1 (nthP P m).l.length cp1) := fun q => q.cell hb1 hat1.c0
              have x1 : ∀ q : Grown wr, q.out.cell? ⟨b, off + k * 4, none⟩ = some (.slice ad2 (nthP P k).l.length cp2) := fun q => q.cell hb2 hat2.c0
              have y1 : ∀ q : Grown wr, q.out.cell? ⟨w.heap.size, 1, none⟩ = some (.slice (some ⟨b, off, none⟩) P.length cap) := fun q => q.cell hlt1 c1
              have HC1 : ∀ q : Grown wr, Hid (Calls Tryz.prog 130 #[.slice ad1 (nthP P m).l.length cp1, .slice ad2 (nthP P k).l.length cp2] q.out fun e w' => e = .returned (.bool (decide ((nthP P m).l = (nthP P k).l))) ∧ Below q.out.heap.size q.out w') := fun q => calls_drew (specSame_any _ _ _ _ _ _ _ (hat1.reads.below q.bel) (hat2.reads.below q.bel) (HF.out m hmP).len (HF.out k hlt).len)
              clear hat1 hat2
              by_cases he : (nthP P m).l = (nthP P k).l
              · have hd : decide ((nthP P m).l = (nthP P k).l) = true := decide_eq_true he
                have HE : Hid (chainB f P = false) := chain_bad hlt (ok_again hmk he)
                rw [hd] at HC1
                clear hd he
                go_wp2
                refine wp_over (z := wr) (by kernel_rfl) (by kernel_rfl) (Below.refl _ _) ?_
                repeat (go_big_quiet_step (first | (go_at_call 130; exact call_over (HC1 _).out)))
                refine wpQuiet_nil ?_
                intro w3 hw3
                have HB3 : Hid (Below w.heap.size w w3) := grow_on HB.out (over_bel hw3)
                clear hw3 hne HC1 x0 x1 y1 c1
                go_wp2
                go_ret
                exact ⟨retB HE.out.symm, HB3.out⟩
              · have hd : decide ((nthP P m).l = (nthP P k).l) = false := decide_eq_false he
                have HV1 : Hid (∀ j, j < m + 1 → (nthP P j).l ≠ (nthP P k).l) := fun j hj => by
                  by_cases e : j = m
                  · subst e; exact he
                  · exact HV.out j (by omega)
                rw [hd] at HC1
                clear hd he
                go_wp2
                refine wp_over (z := wr) (by kernel_rfl) (by kernel_rfl) (Below.refl _ _) ?_
                repeat (go_big_quiet_step (first | (go_at_call 130; exact call_over (HC1 _).out)))
                refine wpQuiet_nil ?_
                intro w3 hw3
                have HB3 : Hid (Below (w.alloc (.cells #[.int .i64 f, .slice (some ⟨b, off, none⟩) P.length cap] 96)).heap.size (w.alloc (.cells #[.int .i64 f, .slice (some ⟨b, off, none⟩) P.length cap] 96)) w3) := grow_on HB0.out (over_bel hw3)
                clear hw3 hne HC1 x0 x1 y1 c1
                go_wp2
                go_roundw
                case rel => exact ⟨m + 1, by go_num, by omega, HV1.out, HB3.out⟩
                case measure => simp [intOf]; omega
            · have hge : ¬ (m : Int) < (k : Int) := by omega
              have HU1 : Hid (∀ j, j < k + 1 → okC f P j = true) := fun j hj => by
                by_cases e : j = k
                · subst e; exact ok_first hlt HA2.out.1 HA2.out.2 (fun i hi => HV.out i (by omega))
                · exact HU.out j (by omega)
              clear c1
              go_wp2
              go_roundw
              case rel => exact ⟨k + 1, by go_num, by omega, HU1.out, HB0.out⟩
              case measure => simp [intOf]; omega
        · have hF1 : ((fingerB (nthP P k).l : Int) != f) = true := bne_iff_ne.2 hF
          have HE : Hid (chainB f P = false) := chain_bad hlt (okC_2 hF)
          clear hA
          go_wp2
          refine wp_over (z := wr) (by kernel_rfl) (by kernel_rfl) (Below.refl _ _) ?_
          repeat (go_big_quiet_step (first | (go_at_call 136; exact call_over (HC1 _).out) | (go_at_call 70; exact call_over (HC2 _).out)))
          refine wpQuiet_nil ?_
          intro w2 hw2
          have hb2 := over_bel hw2
          have HB2 : Hid (Below wr.heap.size wr w2) := hb2
          clear hw2 hne HC1 HC2 x0 x1 x2 x3 y0 y1
          clear hb2
          go_wp2
          go_ret
          exact ⟨retB HE.out.symm, grow_on HB.out HB2.out⟩
    · have hge : ¬ (k : Int) < (P.length : Int) := by omega
      have HN : Hid (chainB f P = decide (0 < P.length)) := chain_good fun j hj => HU.out j (by omega)
      go_wp2
      go_ret
      exact ⟨retB HN.out.symm, HB.out⟩

end Go.Proofs.YtooninmicfcfoaaGreat.ChnS
namespace Go.Proofs.YtooninmicfcfoaaGreat.ChnT
open Go.RowKit
open Labs LabS Alms AlmS AlmM Over Blk App Rws ChnI ChnC ChnP ChnD ChnS
open StrB (retB)
open Alm (at_par)

def sameCB (f : Int) (P : List PAl) (f' : Int) (Q : List PAl) : Bool := decide (f = f') && sameLB P Q
theorem sameC_y {f f' : Int} {P Q : List PAl} (h : f = f') : sameCB f P f' Q = sameLB P Q := by simp [sameCB, h]
theorem sameC_n {f f' : Int} {P Q : List PAl} (h : f ≠ f') : sameCB f P f' Q = false := by simp [sameCB, h]
set_option maxHeartbeats 800000 in
theorem specSameC_any (f f' : Int) (a a' : Option Addr) (cap cap' : Nat) (P Q : List PAl) (w : World) (hr : RdA w a P) (hr' : RdA w a' Q) (hl : P.length ≤ 1048576) (hl' : Q.length ≤ 1048576) (hs : LenP P) (hs' : LenP Q) :
    Calls Tryz.prog 91 #[.agg #[.int .i64 f, .slice a P.length cap], .agg #[.int .i64 f', .slice a' Q.length cap']] w fun e w' => e = .returned (.bool (sameCB f P f' Q)) ∧ Below w.heap.size w w' := by
  have HR : Hid (RdA w a P ∧ RdA w a' Q ∧ LenP P ∧ LenP Q) := ⟨hr, hr', hs, hs'⟩
  clear hr hr' hs hs'
  by_cases hf : f = f'
  · have HE : Hid (sameCB f P f' Q = sameLB P Q) := sameC_y hf
    subst hf
    go_enter Tryz.func91, Tryz.ntmps91
    go_wp2_with fail
    refine (l4Same_any a a' cap cap' P Q _ (HR.out.1.below (Go.Joins.below_alloc2 w _ _)) (HR.out.2.1.below (Go.Joins.below_alloc2 w _ _)) hl hl' HR.out.2.2.1 HR.out.2.2.2).mono ?_
    rintro e w2 ⟨rfl, hb⟩
    have HB : Hid (Below w.heap.size w w2) := grow_on (Go.Joins.below_alloc2 w _ _) hb
    clear hb
    go_wp2
    go_ret
    exact ⟨retB HE.out.symm, HB.out⟩
  · have HE : Hid (sameCB f P f' Q = false) := sameC_n hf
    go_enter Tryz.func91, Tryz.ntmps91
    go_wp2
    go_ret
    exact ⟨retB HE.out.symm, Go.Joins.below_alloc2 w _ _⟩
set_option maxHeartbeats 800000 in
theorem implSameC_any (f f' : Int) (a a' : Option Addr) (cap cap' : Nat) (P Q : List PAl) (w : World) (hr : RdA w a P) (hr' : RdA w a' Q) (hl : P.length ≤ 1048576) (hl' : Q.length ≤ 1048576) (hs : LenP P) (hs' : LenP Q) :
    Calls Tryz.prog 83 #[.agg #[.int .i64 f, .slice a P.length cap], .agg #[.int .i64 f', .slice a' Q.length cap']] w fun e w' => e = .returned (.bool (sameCB f P f' Q)) ∧ Below w.heap.size w w' := by
  have HR : Hid (RdA w a P ∧ RdA w a' Q ∧ LenP P ∧ LenP Q) := ⟨hr, hr', hs, hs'⟩
  clear hr hr' hs hs'
  by_cases hf : f = f'
  · have HE : Hid (sameCB f P f' Q = sameLB P Q) := sameC_y hf
    subst hf
    go_enter Tryz.func83, Tryz.ntmps83
    go_wp2_with fail
    refine (equalF_any a a' cap cap' P Q _ (HR.out.1.below (Go.Joins.below_alloc2 w _ _)) (HR.out.2.1.below (Go.Joins.below_alloc2 w _ _)) hl hl' HR.out.2.2.1 HR.out.2.2.2).mono ?_
    rintro e w2 ⟨rfl, hb⟩
    have HB : Hid (Below w.heap.size w w2) := grow_on (Go.Joins.below_alloc2 w _ _) hb
    clear hb
    go_wp2
    go_ret
    exact ⟨retB HE.out.symm, HB.out⟩
  · have HE : Hid (sameCB f P f' Q = false) := sameC_n hf
    go_enter Tryz.func83, Tryz.ntmps83
    go_wp2
    go_ret
    exact ⟨retB HE.out.symm, Go.Joins.below_alloc2 w _ _⟩

end Go.Proofs.YtooninmicfcfoaaGreat.ChnT
namespace Go.Proofs.YtooninmicfcfoaaGreat.ChnU
open Go.RowKit
open Labs LabS Alms AlmS AlmM Over Blk App Rws ChnI ChnC ChnP ChnD ChnS ChnT

set_option maxHeartbeats 1600000 in
theorem l6Copy_any (f : Int) (a : Option Addr) (cap : Nat) (P : List PAl) (w : World) (hr : RdN w a P) (hl : P.length ≤ 1048576) (hs : LenM P) :
    Calls Tryz.prog 118 #[.agg #[.int .i64 f, .slice a P.length cap]] w fun e w' => (∃ M c rs, e = .returned (.agg #[.int .i64 f, .slice (some ⟨M, 0, none⟩) rs.length c]) ∧ AB (w.heap.size + 2) w' M c rs ∧ pals rs = P) ∧ Below w.heap.size w w' := by
  have HR : Hid (RdN w a P ∧ LenM P) := ⟨hr, hs⟩
  clear hr hs
  go_enter Tryz.func118, Tryz.ntmps118
  go_wp2
  generalize hW0 : (w.alloc (.cells #[.int .i64 f, .slice a P.length cap] 96)).alloc (.cells #[.int .i64 0, .slice none 0 0] 96) = W0
  have C0 : Hid (Blk W0 w.heap.size #[.int .i64 f, .slice a P.length cap] 96) := by rw [← hW0]; exact (Blk.new _ _ _).alloc _
  have R0 : Hid (Blk W0 (w.heap.size + 1) #[.int .i64 0, .slice none 0 0] 96) := by rw [← hW0]; exact Blk.new_at (by simp)
  have HB0 : Hid (Below w.heap.size w W0) := by rw [← hW0]; exact Go.Joins.below_alloc2 w _ _
  have HZ0 : Hid (W0.heap.size = w.heap.size + 2) := by show _ = _; rw [← hW0]; simp
  clear hW0
  have HC : Hid (∀ y, Below W0.heap.size W0 y → Calls Tryz.prog 95 #[.slice a P.length cap] y fun e w' => (∃ M c rs, e = .returned (.slice (some ⟨M, 0, none⟩) rs.length c) ∧ AB y.heap.size w' M c rs ∧ pals rs = P) ∧ Below y.heap.size y w') := fun y hy => l4All_any a cap P y (HR.out.1.below (grow_on HB0.out hy)) hl HR.out.2
  have HS : Hid (∀ w', Blk w' w.heap.size #[.int .i64 f, .slice a P.length cap] 96 → w'.cell? ⟨w.heap.size, 0, none⟩ = some (.int .i64 f) ∧ w'.cell? ⟨w.heap.size, 1, none⟩ = some (.slice a P.length cap)) := fun w' h => ⟨h.cell 0, h.cell 1⟩
  refine wp_region_held_drew (S := fun w' => w'.cell? ⟨w.heap.size, 0, none⟩ = some (.int .i64 f) ∧ w'.cell? ⟨w.heap.size, 1, none⟩ = some (.slice a P.length cap)) (by kernel_rfl) (HS.out _ C0.out.drew) (fun hHeld => ?_)
  refine wpAnyH_take (i := 0) (oi := { dst := some 3, op := Op.fieldAddr 96 (Operand.tmp 1) 0, type := 0, pos := "l06_chain.go:22", after := #[], guard := none }) (v := ?vc0) rfl (by kernel_rfl) (by kernel_rfl) (by kernel_rfl) (fun _ _ _ h => h) (Or.inl ⟨by rfl, ?hyc0⟩) hHeld ?_
  case hyc0 => (intro w hSw; (try dsimp only at hSw); go_simp <;> with_reducible rfl)
  try simp only [Act.put, List.setIfInBounds_toArray, List.set_cons_zero, List.set_cons_succ]
  refine wpAnyH_take (i := 1) (oi := { dst := some 4, op := Op.load 3 (Operand.tmp 3), type := 3, pos := "l06_chain.go:22", after := #[{ on := 0, ground := Ground.data }], guard := none }) (v := ?vc1) rfl (by kernel_rfl) (by kernel_rfl) (by kernel_rfl) (fun _ _ _ h => h) (Or.inl ⟨by rfl, ?hyc1⟩) hHeld ?_
  case hyc1 => (intro w hSw; (try dsimp only at hSw); go_simp <;> with_reducible rfl)
  try simp only [Act.put, List.setIfInBounds_toArray, List.set_cons_zero, List.set_cons_succ]
  refine wpAnyH_take (i := 2) (oi := { dst := some 5, op := Op.fieldAddr 96 (Operand.tmp 1) 1, type := 0, pos := "l06_chain.go:22", after := #[], guard := none }) (v := ?vc2) rfl (by kernel_rfl) (by kernel_rfl) (by kernel_rfl) (fun _ _ _ h => h) (Or.inl ⟨by rfl, ?hyc2⟩) hHeld ?_
  case hyc2 => (intro w hSw; (try dsimp only at hSw); go_simp <;> with_reducible rfl)
  try simp only [Act.put, List.setIfInBounds_toArray, List.set_cons_zero, List.set_cons_succ]
  refine wpAnyH_take (i := 3) (oi := { dst := some 6, op := Op.load 40 (Operand.tmp 5), type := 40, pos := "l06_chain.go:22", after := #[{ on := 2, ground := Ground.data }], guard := none }) (v := ?vc3) rfl (by kernel_rfl) (by kernel_rfl) (by kernel_rfl) (fun _ _ _ h => h) (Or.inl ⟨by rfl, ?hyc3⟩) hHeld ?_
  case hyc3 => (intro w hSw; (try dsimp only at hSw); go_simp <;> with_reducible rfl)
  try simp only [Act.put, List.setIfInBounds_toArray, List.set_cons_zero, List.set_cons_succ]
  refine wpAnyH_ready (rs := [4]) (by kernel_rfl) (by simp) ?_
  refine AllReadyH.cons (o := { dst := some 7, op := Op.call { callee := Callee.value (Operand.func 95), args := #[Operand.tmp 6], argTypes := #[40] }, type := 40, pos := "l06_chain.go:22", after := #[{ on := 3, ground := Ground.data }], guard := none }) rfl (fun K hK => ?_) AllReadyH.nil
  go_simp
  refine (HC.out _ (Below.refl _ _).drew).mono ?_
  rintro r wyc4 ⟨⟨M, c, rs, rfl, hab, hp⟩, hy⟩
  have HZ : Hid (Below W0.heap.size W0 wyc4) := grow_on (Below.refl _ _).drew hy
  have HAB : Hid (AB (w.heap.size + 2) wyc4 M c rs) := hab.down (by show w.heap.size + 2 ≤ W0.drew.heap.size; have := HZ0.out; simp; omega)
  have HP : Hid (pals rs = P) := hp
  have hR := R0.out.grow HZ.out
  have r0 : wyc4.cell? ⟨w.heap.size + 1, 0, none⟩ = some (.int .i64 0) := hR.cell 0
  have r1 : wyc4.cell? ⟨w.heap.size + 1, 1, none⟩ = some (.slice none 0 0) := hR.cell 1
  have f0 := hR.frozen 0
  have f1 := hR.frozen 1
  clear hy hab hp hR
  clear hHeld
  refine hK.out _ _ (HS.out _ (C0.out.grow HZ.out)) (fun hHeld => ?_)
  clear hK K
  try simp only [Act.put, List.setIfInBounds_toArray, List.set_cons_zero, List.set_cons_succ]
  refine wpAnyH_take (i := 5) (oi := { dst := some 8, op := Op.build 96 #[(0, Operand.tmp 4), (1, Operand.tmp 7)], type := 96, pos := "l06_chain.go:22", after := #[{ on := 1, ground := Ground.data }, { on := 4, ground := Ground.data }], guard := none }) (v := ?vc5) rfl (by kernel_rfl) (by kernel_rfl) (by kernel_rfl) (fun _ _ _ h => h) (Or.inl ⟨by rfl, ?hyc5⟩) hHeld ?_
  case hyc5 => (intro w hSw; (try dsimp only at hSw); go_simp <;> with_reducible rfl)
  try simp only [Act.put, List.setIfInBounds_toArray, List.set_cons_zero, List.set_cons_succ]
  have hne : w.heap.size + 1 ≠ w.heap.size := by omega
  refine wpAnyH_ready (rs := [6]) (by kernel_rfl) (by simp) ?_
  refine AllReadyH.cons (o := { dst := none, op := Op.store 96 (Operand.tmp 2) (Operand.tmp 8), type := 0, pos := "l06_chain.go:22", after := #[{ on := 5, ground := Ground.data }, { on := 4, ground := Ground.chain }, { on := 0, ground := Ground.phase }, { on := 1, ground := Ground.phase }, { on := 2, ground := Ground.phase }, { on := 3, ground := Ground.phase }, { on := 4, ground := Ground.phase }, { on := 5, ground := Ground.phase }], guard := none }) rfl (fun K hK => ?_) AllReadyH.nil
  go_simp
  clear hHeld
  refine hK.out _ _ (HS.out _ (((C0.out.grow HZ.out).set_other hne _).set_other hne _)) (fun hHeld => ?_)
  clear hK K
  try simp only [Act.put, List.setIfInBounds_toArray, List.set_cons_zero, List.set_cons_succ]
  refine wpAnyH_done (by kernel_rfl) ?_ _
  go_wp2
  have hs : Blk ((wyc4.setCell ⟨w.heap.size + 1, 0, none⟩ (.int .i64 f)).setCell ⟨w.heap.size + 1, 1, none⟩ (.slice (some ⟨M, 0, none⟩) rs.length c)) (w.heap.size + 1) #[.int .i64 f, .slice (some ⟨M, 0, none⟩) rs.length c] 96 := ((R0.out.grow HZ.out).set 0 _).set 1 _
  have s0 := hs.cell 0
  have s1 := hs.cell 1
  refine bodyPost_ret (v := .agg #[.int .i64 f, .slice (some ⟨M, 0, none⟩) rs.length c]) (by simp [results, Tryz.results118, go_sem, s0, s1]) rfl ?_
  exact ⟨⟨M, c, rs, rfl, ab_set2 HAB.out (R0.out.grow HZ.out) _ _, HP.out⟩, ChnP.set2 (grow_on HB0.out HZ.out) (by omega) _ _⟩

set_option maxRecDepth 100000 in
set_option maxHeartbeats 2000000 in
theorem specPut_any (f : Int) (a : Option Addr) (cap : Nat) (P : List PAl) (g o cap' : Nat) (x : PAl) (w : World) (hr : RdN w a P) (hx : Reads w (some ⟨g, o, none⟩) x.l) (hl : P.length ≤ 1048576) (hs : LenM P) (hxl : x.l.length ≤ 1048576) :
    Calls Tryz.prog 72 #[.agg #[.int .i64 f, .slice a P.length cap], .agg #[.slice (some ⟨g, o, none⟩) x.l.length cap', .int .i64 x.s, .int .i64 x.e, .string x.n]] w fun e w' => (∃ M c rs, e = .returned (.tuple #[.agg #[.int .i64 f, .slice (some ⟨M, 0, none⟩) rs.length c], .bool (isNew P x.l)]) ∧ AB w.heap.size w' M c rs ∧ pals rs = putL P x) ∧ Below w.heap.size w w' := by
  have HR : Hid (RdN w a P ∧ Reads w (some ⟨g, o, none⟩) x.l) := ⟨hr, hx⟩
  have HS : Hid (LenM P ∧ x.l.length ≤ 1048576) := ⟨hs, hxl⟩
  clear hr hx hs hxl
  obtain ⟨i0, hi, hz0, hz1, hz2⟩ := info_parts infoA
  go_enter Tryz.func72, Tryz.ntmps72
  go_wp2_with fail
  refine (l6Copy_any f a cap P _ (HR.out.1.below (Alm.below3 w _ _ _)) hl HS.out.1).mono ?_
  rintro e w1 ⟨⟨M, c, rs, rfl, hAB, hP⟩, hb⟩
  have C1 : Hid (Blk w1 w.heap.size #[.int .i64 f, .slice a P.length cap] 96) := (((Blk.new _ _ _).alloc _).alloc _).grow hb
  have A1 : Hid (Blk w1 (w.heap.size + 1) #[.slice (some ⟨g, o, none⟩) x.l.length cap', .int .i64 x.s, .int .i64 x.e, .string x.n] 29) := ((Blk.new_at (by simp)).alloc _).grow hb
  have R1 : Hid (Blk w1 (w.heap.size + 1 + 1) #[.int .i64 0, .slice none 0 0] 96) := (Blk.new_at (by simp)).grow hb
  have HB1 : Hid (Below w.heap.size w w1) := grow_on (Alm.below3 w _ _ _) hb
  have HAB1 : Hid (AB w.heap.size w1 M c rs) := hAB.down (by simp; omega)
  have HM : Hid (w.heap.size + 3 ≤ M) := by have := hAB.at'; simp at this; show _ ≤ _; omega
  have HP : Hid (pals rs = P) := hP
  have HRl : Hid (rs.length = P.length) := by show _ = _; rw [← pals_len, hP]
  have hrl : rs.length ≤ 1048576 := by have := HRl.out; omega
  clear hb hAB hP
  generalize hDo : Obj.cells #[.int .i64 f, .slice (some ⟨M, 0, none⟩) rs.length c] 96 = Do
  have cC0 : (w1.alloc Do).cell? ⟨w.heap.size, 0, none⟩ = some (.int .i64 f) := (C1.out.alloc _).cell 0
  have cC1 : (w1.alloc Do).cell? ⟨w.heap.size, 1, none⟩ = some (.slice a P.length cap) := (C1.out.alloc _).cell 1
  have cA0 : (w1.alloc Do).cell? ⟨w.heap.size + 1, 0, none⟩ = some (.slice (some ⟨g, o, none⟩) x.l.length cap') := (A1.out.alloc _).cell 0
  subst hDo
  rcases idx_cases P x.l with ⟨hq, hm⟩ | ⟨k, hq, hk, he, hj⟩
  · have HN : Hid (true = isNew P x.l) := (put_miss hm).2.symm
    have HPP : Hid (∀ M c, pals (rs ++ [(M, c, x)]) = putL P x) := fun M c => by rw [pals_app, HP.out, (put_miss hm).1]
    clear hm
    have HI : Hid (∀ y, Below w1.heap.size w1 y → Calls Tryz.prog 76 #[.agg #[.int .i64 f, .slice a P.length cap], .slice (some ⟨g, o, none⟩) x.l.length cap'] y fun e w' => e = .returned (.int .i64 (-1)) ∧ Below y.heap.size y w') := fun y hy => (specIn_any f a _ cap _ P x.l y (HR.out.1.rd.below (grow_on HB1.out hy)) (HR.out.2.below (grow_on HB1.out hy)) hl (len_m HS.out.1) (by have := HS.out.2; unfold maxLen; omega)).mono fun e w' h => ⟨h.1.trans (ChnI.retI hq), h.2⟩
    go_wp2_with fail
    refine (HI.out _ (Go.Joins.below_alloc1 w1 _)).mono ?_
    rintro e w2 ⟨rfl, hb⟩
    clear cC0 cC1 cA0 HI hq
    have D2 : Hid (Blk w2 w1.heap.size #[.int .i64 f, .slice (some ⟨M, 0, none⟩) rs.length c] 96) := (Blk.new _ _ _).grow hb
    have hb' := grow_on (Go.Joins.below_alloc1 w1 _) hb
    have C2 : Hid (Blk w2 w.heap.size #[.int .i64 f, .slice a P.length cap] 96) := C1.out.grow hb'
    have A2 : Hid (Blk w2 (w.heap.size + 1) #[.slice (some ⟨g, o, none⟩) x.l.length cap', .int .i64 x.s, .int .i64 x.e, .string x.n] 29) := A1.out.grow hb'
    have R2 : Hid (Blk w2 (w.heap.size + 1 + 1) #[.int .i64 0, .slice none 0 0] 96) := R1.out.grow hb'
    have HB2 : Hid (Below w.heap.size w w2) := grow_on HB1.out hb'
    have HAB2 : Hid (AB w.heap.size w2 M c rs) := HAB1.out.grow hb'
    have HW : Hid (w.heap.size + 3 ≤ w1.heap.size ∧ w1.heap.size < w2.heap.size) := ⟨by have := R1.out.lt; omega, D2.out.lt⟩
    clear hb hb' C1 A1 R1
    have a0 : w2.cell? ⟨w.heap.size + 1, 0, none⟩ = some (.slice (some ⟨g, o, none⟩) x.l.length cap') := A2.out.cell 0
    have a1 : w2.cell? ⟨w.heap.size + 1, 1, none⟩ = some (.int .i64 x.s) := A2.out.cell 1
    have a2 : w2.cell? ⟨w.heap.size + 1, 2, none⟩ = some (.int .i64 x.e) := A2.out.cell 2
    have a3 : w2.cell? ⟨w.heap.size + 1, 3, none⟩ = some (.string x.n) := A2.out.cell 3
    go_wp2_with fail
    refine (copyS_any g o cap' x.l x.s x.e x.n w2 (HR.out.2.below HB2.out) HS.out.2).mono ?_
    rintro e w3 ⟨⟨Mx, cx, rfl, hO⟩, hb⟩
    have D3 : Hid (Blk w3 w1.heap.size #[.int .i64 f, .slice (some ⟨M, 0, none⟩) rs.length c] 96) := D2.out.grow hb
    have R3 : Hid (Blk w3 (w.heap.size + 1 + 1) #[.int .i64 0, .slice none 0 0] 96) := R2.out.grow hb
    have HB3 : Hid (Below w.heap.size w w3) := grow_on HB2.out hb
    have HAB3 : Hid (AB w.heap.size w3 M c rs) := HAB2.out.grow hb
    have HO : Hid (OwnA w.heap.size w3 (Mx, cx, x) ∧ w2.heap.size ≤ Mx) := ⟨(own_of_copy hO HS.out.2).down HB2.out.size, hO.1⟩
    have HW3 : Hid (w.heap.size + 3 ≤ w1.heap.size ∧ w1.heap.size < w3.heap.size ∧ w2.heap.size ≤ w3.heap.size) := ⟨HW.out.1, D3.out.lt, hb.size⟩
    obtain ⟨xs, hox, hxl, hxs⟩ := HAB3.out.own
    have HOX : Hid (∀ o1 o2, ((w3.alloc o1).alloc o2).ownsRow w.heap.size 29 4 (.slice (some ⟨M, 0, none⟩) rs.length c) rs.length xs) := fun o1 o2 => own_grow hox (Go.Joins.below_alloc2 w3 o1 o2)
    have HXS : Hid (xs.length = rs.length * 4 ∧ ∀ i, i < rs.length → Four (fun k => xs[k]?) i (nthA rs i)) := ⟨hxl, hxs⟩
    generalize hNo : Obj.cells #[.slice (some ⟨Mx, 0, none⟩) x.l.length cx, .int .i64 x.s, .int .i64 x.e, .string x.n] 29 = No
    have d1 : (w3.alloc No).cell? ⟨w1.heap.size, 1, none⟩ = some (.slice (some ⟨M, 0, none⟩) rs.length c) := (D3.out.alloc _).cell 1
    subst hNo
    clear hb hO hox hxl hxs a0 a1 a2 a3
    go_wp2_with (at_builtin; refine wpList_append_own_at _ rfl _ _ 40 rfl w.heap.size 29 i0 (.agg #[.slice none 0 0, .int .i64 0, .int .i64 0, .string ByteArray.empty]) 4 56 Tryz.underlying40 hi hz0 hz1 hz2 rfl (by decide) _ _ _ rfl (HOX.out _ _) ⟨w3.heap.size + 1, 0, none⟩ 1 1 (rowV (Mx, cx, x)) rfl rfl ?c1 (row_one _) ?c3 ?c4 ?c5 ?_)
    case c1 => exact blk_news (Blk.new_at (by simp))
    case c3 => unfold maxLen; omega
    case c4 => omega
    case c5 => have := HB3.out.size; simp; omega
    intro v' w4 hown hg hnil hat
    have hU := Go.Joins.below_alloc2 w3 (.cells #[.slice (some ⟨Mx, 0, none⟩) x.l.length cx, .int .i64 x.s, .int .i64 x.e, .string x.n] 29) (.cells #[.slice (some ⟨Mx, 0, none⟩) x.l.length cx, .int .i64 x.s, .int .i64 x.e, .string x.n] 29)
    obtain ⟨M3, c3, rfl, hAB4⟩ := (HAB3.out.grow hU).app (HO.out.1.grow hU) (fun y hy => by have := (HAB2.out.rows y hy).lt; have := HO.out.2; show y.1 ≠ Mx; omega) HXS.out.1 HXS.out.2 hown hg
    obtain ⟨cu, hcu, _⟩ := (HAB3.out.grow hU).outer
    have D4 : Hid (Blk w4 w1.heap.size #[.int .i64 f, .slice (some ⟨M, 0, none⟩) rs.length c] 96) := blk_far (D3.out.grow hU) hg (fun e => chain_alarm (D3.out.grow hU) hcu (Option.some.inj e))
    have R4 : Hid (Blk w4 (w.heap.size + 1 + 1) #[.int .i64 0, .slice none 0 0] 96) := blk_far (R3.out.grow hU) hg (fun e => chain_alarm (R3.out.grow hU) hcu (Option.some.inj e))
    have HAB4 : Hid (AB w.heap.size w4 M3 c3 (rs ++ [(Mx, cx, x)])) := hAB4
    have HB4 : Hid (Below w.heap.size w w4) := (grow_on HB3.out hU).grown hg (by have := HB3.out.size; simp; omega) (fun k e => by have h : M = k := Option.some.inj e; have := HM.out; omega)
    have d4 : w4.cell? ⟨w1.heap.size, 1, none⟩ = some (.slice (some ⟨M, 0, none⟩) rs.length c) := D4.out.cell 1
    have fd4 := D4.out.frozen 1
    clear hown hg hnil hat hAB4 hcu hU d1
    go_upto_region 6 with fail
    clear D3 R3 HAB3 HB3
    have D3 : Hid (Blk (w4.setCell ⟨w1.heap.size, 1, none⟩ (.slice (some ⟨M3, 0, none⟩) (rs.length + 1) c3)) w1.heap.size #[.int .i64 f, .slice (some ⟨M3, 0, none⟩) (rs.length + 1) c3] 96) := D4.out.set 1 _
    have R3 : Hid (Blk (w4.setCell ⟨w1.heap.size, 1, none⟩ (.slice (some ⟨M3, 0, none⟩) (rs.length + 1) c3)) (w.heap.size + 1 + 1) #[.int .i64 0, .slice none 0 0] 96) := R4.out.set_other (by have := HW.out; show w1.heap.size ≠ w.heap.size + 1 + 1; omega) _
    have HAB3 : Hid (AB w.heap.size (w4.setCell ⟨w1.heap.size, 1, none⟩ (.slice (some ⟨M3, 0, none⟩) (rs.length + 1) c3)) M3 c3 (rs ++ [(Mx, cx, x)])) := ab_set1 HAB4.out D4.out _ _
    have HB3 : Hid (Below w.heap.size w (w4.setCell ⟨w1.heap.size, 1, none⟩ (.slice (some ⟨M3, 0, none⟩) (rs.length + 1) c3))) := set_low HB4.out (by have := HW.out; omega) _ _
    clear D4 R4 HAB4 HB4 d4 fd4
    generalize w4.setCell ⟨w1.heap.size, 1, none⟩ (.slice (some ⟨M3, 0, none⟩) (rs.length + 1) c3) = W3 at *
    have c0 : W3.cell? ⟨w1.heap.size, 0, none⟩ = some (.int .i64 f) := D3.out.cell 0
    have c1 : W3.cell? ⟨w1.heap.size, 1, none⟩ = some (.slice (some ⟨M3, 0, none⟩) (rs.length + 1) c3) := D3.out.cell 1
    have r0 : W3.cell? ⟨w.heap.size + 1 + 1, 0, none⟩ = some (.int .i64 0) := R3.out.cell 0
    have r1 : W3.cell? ⟨w.heap.size + 1 + 1, 1, none⟩ = some (.slice none 0 0) := R3.out.cell 1
    have f0 := R3.out.frozen 0
    have f1 := R3.out.frozen 1
    go_wp2
    have hs : Blk ((W3.setCell ⟨w.heap.size + 1 + 1, 0, none⟩ (.int .i64 f)).setCell ⟨w.heap.size + 1 + 1, 1, none⟩ (.slice (some ⟨M3, 0, none⟩) (rs.length + 1) c3)) (w.heap.size + 1 + 1) #[.int .i64 f, .slice (some ⟨M3, 0, none⟩) (rs.length + 1) c3] 96 := (R3.out.set 0 _).set 1 _
    have s0 := hs.cell 0
    have s1 := hs.cell 1
    refine bodyPost_ret (v := .tuple #[.agg #[.int .i64 f, .slice (some ⟨M3, 0, none⟩) (rs.length + 1) c3], .bool true]) (by simp [results, Tryz.results72, go_sem, s0, s1]) rfl ?_
    exact ⟨⟨M3, c3, rs ++ [(Mx, cx, x)], retC (by simp) HN.out, ab_set2 HAB3.out R3.out _ _, HPP.out _ _⟩, ChnP.set2 HB3.out (by omega) _ _⟩
  · have HN : Hid (false = isNew P x.l) := (put_hit hj he hk).2.symm
    have HPP : Hid (∀ M c, pals (putA rs k (M, c, mergeX (nthP P k) x)) = putL P x) := fun M c => by rw [pals_put, HP.out, (put_hit hj he hk).1]
    clear hj he
    have HI : Hid (∀ y, Below w1.heap.size w1 y → Calls Tryz.prog 76 #[.agg #[.int .i64 f, .slice a P.length cap], .slice (some ⟨g, o, none⟩) x.l.length cap'] y fun e w' => e = .returned (.int .i64 (k)) ∧ Below y.heap.size y w') := fun y hy => (specIn_any f a _ cap _ P x.l y (HR.out.1.rd.below (grow_on HB1.out hy)) (HR.out.2.below (grow_on HB1.out hy)) hl (len_m HS.out.1) (by have := HS.out.2; unfold maxLen; omega)).mono fun e w' h => ⟨h.1.trans (ChnI.retI hq), h.2⟩
    go_wp2_with fail
    refine (HI.out _ (Go.Joins.below_alloc1 w1 _)).mono ?_
    rintro e w2 ⟨rfl, hb⟩
    clear cC0 cC1 cA0 HI hq
    have D2 : Hid (Blk w2 w1.heap.size #[.int .i64 f, .slice (some ⟨M, 0, none⟩) rs.length c] 96) := (Blk.new _ _ _).grow hb
    have hb' := grow_on (Go.Joins.below_alloc1 w1 _) hb
    have C2 : Hid (Blk w2 w.heap.size #[.int .i64 f, .slice a P.length cap] 96) := C1.out.grow hb'
    have A2 : Hid (Blk w2 (w.heap.size + 1) #[.slice (some ⟨g, o, none⟩) x.l.length cap', .int .i64 x.s, .int .i64 x.e, .string x.n] 29) := A1.out.grow hb'
    have R2 : Hid (Blk w2 (w.heap.size + 1 + 1) #[.int .i64 0, .slice none 0 0] 96) := R1.out.grow hb'
    have HB2 : Hid (Below w.heap.size w w2) := grow_on HB1.out hb'
    have HAB2 : Hid (AB w.heap.size w2 M c rs) := HAB1.out.grow hb'
    have HW : Hid (w.heap.size + 3 ≤ w1.heap.size ∧ w1.heap.size < w2.heap.size) := ⟨by have := R1.out.lt; omega, D2.out.lt⟩
    clear hb hb' C1 A1 R1
    obtain ⟨b, off, rfl, hb, gd, od, cp, hat⟩ := HR.out.1.get hk
    have b0 := hat.c0
    have b1 := hat.c1
    have b2 := hat.c2
    have b3 := hat.c3
    have HBB : Hid (b < w.heap.size) := hb
    have hk0 : ¬ (k : Int) < 0 := by omega
    have hk1 : (k : Int) < (P.length : Int) := by omega
    have hk2 : (0 : Int) ≤ (k : Int) := by omega
    have HC : Hid (∀ y, Below w2.heap.size w2 y → Calls Tryz.prog 127 #[.agg #[.slice (some ⟨gd, od, none⟩) (nthP P k).l.length cp, .int .i64 (nthP P k).s, .int .i64 (nthP P k).e, .string (nthP P k).n], .agg #[.slice (some ⟨g, o, none⟩) x.l.length cap', .int .i64 x.s, .int .i64 x.e, .string x.n]] y fun r w' => (∃ Mx cx, r = .returned (.agg #[.slice (some ⟨Mx, 0, none⟩) x.l.length cx, .int .i64 (startB (nthP P k).s (nthP P k).e x.s x.e), .int .i64 x.e, .string x.n]) ∧ LabR.Own y w' Mx x.l) ∧ Below y.heap.size y w') := fun y hy => specMerge_any _ _ _ _ _ _ _ _ _ _ _ _ _ y (HR.out.2.below (grow_on HB2.out hy)) HS.out.2
    go_wp2
    have HSB : Hid (∀ w', Blk w' w.heap.size #[.int .i64 f, .slice (some ⟨b, off, none⟩) P.length cap] 96 → Below w.heap.size w w' → Blk w' (w.heap.size + 1) #[.slice (some ⟨g, o, none⟩) x.l.length cap', .int .i64 x.s, .int .i64 x.e, .string x.n] 29 → w'.cell? ⟨w.heap.size, 1, none⟩ = some (.slice (some ⟨b, off, none⟩) P.length cap) ∧ w'.cell? ⟨b, off + k * 4, none⟩ = some (.slice (some ⟨gd, od, none⟩) (nthP P k).l.length cp) ∧ w'.cell? ⟨b, off + k * 4 + 1, none⟩ = some (.int .i64 (nthP P k).s) ∧ w'.cell? ⟨b, off + k * 4 + 2, none⟩ = some (.int .i64 (nthP P k).e) ∧ w'.cell? ⟨b, off + k * 4 + 3, none⟩ = some (.string (nthP P k).n) ∧ w'.cell? ⟨w.heap.size + 1, 0, none⟩ = some (.slice (some ⟨g, o, none⟩) x.l.length cap') ∧ w'.cell? ⟨w.heap.size + 1, 1, none⟩ = some (.int .i64 x.s) ∧ w'.cell? ⟨w.heap.size + 1, 2, none⟩ = some (.int .i64 x.e) ∧ w'.cell? ⟨w.heap.size + 1, 3, none⟩ = some (.string x.n)) := fun w' q hw k => ⟨q.cell 1, (hw.cell hb).trans b0, (hw.cell hb).trans b1, (hw.cell hb).trans b2, (hw.cell hb).trans b3, k.cell 0, k.cell 1, k.cell 2, k.cell 3⟩
    clear hat b0 b1 b2 b3 hb
    refine wp_region_held_drew (S := fun w' => w'.cell? ⟨w.heap.size, 1, none⟩ = some (.slice (some ⟨b, off, none⟩) P.length cap) ∧ w'.cell? ⟨b, off + k * 4, none⟩ = some (.slice (some ⟨gd, od, none⟩) (nthP P k).l.length cp) ∧ w'.cell? ⟨b, off + k * 4 + 1, none⟩ = some (.int .i64 (nthP P k).s) ∧ w'.cell? ⟨b, off + k * 4 + 2, none⟩ = some (.int .i64 (nthP P k).e) ∧ w'.cell? ⟨b, off + k * 4 + 3, none⟩ = some (.string (nthP P k).n) ∧ w'.cell? ⟨w.heap.size + 1, 0, none⟩ = some (.slice (some ⟨g, o, none⟩) x.l.length cap') ∧ w'.cell? ⟨w.heap.size + 1, 1, none⟩ = some (.int .i64 x.s) ∧ w'.cell? ⟨w.heap.size + 1, 2, none⟩ = some (.int .i64 x.e) ∧ w'.cell? ⟨w.heap.size + 1, 3, none⟩ = some (.string x.n)) (by kernel_rfl) (HSB.out _ C2.out.drew HB2.out.drew A2.out.drew) (fun hHeld => ?_)
    refine wpAnyH_take (i := 0) (oi := { dst := some 27, op := Op.fieldAddr 96 (Operand.tmp 2) 1, type := 0, pos := "l06_chain.go:42", after := #[], guard := none }) (v := ?vh1) rfl (by kernel_rfl) (by kernel_rfl) (by kernel_rfl) (fun _ _ _ h => h) (Or.inl ⟨by rfl, ?hyh1⟩) hHeld ?_
    case hyh1 => (intro w hSw; (try dsimp only at hSw); go_simp <;> with_reducible rfl)
    try simp only [Act.put, List.setIfInBounds_toArray, List.set_cons_zero, List.set_cons_succ]
    refine wpAnyH_take (i := 1) (oi := { dst := some 28, op := Op.load 40 (Operand.tmp 27), type := 40, pos := "l06_chain.go:42", after := #[{ on := 0, ground := Ground.data }], guard := none }) (v := ?vh2) rfl (by kernel_rfl) (by kernel_rfl) (by kernel_rfl) (fun _ _ _ h => h) (Or.inl ⟨by rfl, ?hyh2⟩) hHeld ?_
    case hyh2 => (intro w hSw; (try dsimp only at hSw); go_simp <;> with_reducible rfl)
    try simp only [Act.put, List.setIfInBounds_toArray, List.set_cons_zero, List.set_cons_succ]
    refine wpAnyH_take (i := 2) (oi := { dst := some 29, op := Op.move (Operand.tmp 7), type := 3, pos := "l06_chain.go:42", after := #[], guard := none }) (v := ?vh3) rfl (by kernel_rfl) (by kernel_rfl) (by kernel_rfl) (fun _ _ _ h => h) (Or.inl ⟨by rfl, ?hyh3⟩) hHeld ?_
    case hyh3 => (intro w hSw; (try dsimp only at hSw); go_simp <;> with_reducible rfl)
    try simp only [Act.put, List.setIfInBounds_toArray, List.set_cons_zero, List.set_cons_succ]
    refine wpAnyH_take (i := 3) (oi := { dst := some 30, op := Op.indexAddr 40 (Operand.tmp 28) (Operand.tmp 29), type := 0, pos := "l06_chain.go:42", after := #[{ on := 1, ground := Ground.data }, { on := 2, ground := Ground.data }], guard := none }) (v := ?vh4) rfl (by kernel_rfl) (by kernel_rfl) (by kernel_rfl) (fun _ _ _ h => h) (Or.inl ⟨by rfl, ?hyh4⟩) hHeld ?_
    case hyh4 => (intro w hSw; (try dsimp only at hSw); go_simp <;> with_reducible rfl)
    try simp only [Act.put, List.setIfInBounds_toArray, List.set_cons_zero, List.set_cons_succ]
    refine wpAnyH_take (i := 4) (oi := { dst := some 31, op := Op.load 29 (Operand.tmp 30), type := 29, pos := "l06_chain.go:42", after := #[{ on := 3, ground := Ground.data }], guard := none }) (v := ?vh5) rfl (by kernel_rfl) (by kernel_rfl) (by kernel_rfl) (fun _ _ _ h => h) (Or.inl ⟨by rfl, ?hyh5⟩) hHeld ?_
    case hyh5 => (intro w hSw; (try dsimp only at hSw); go_simp <;> with_reducible rfl)
    try simp only [Act.put, List.setIfInBounds_toArray, List.set_cons_zero, List.set_cons_succ]
    refine wpAnyH_take (i := 5) (oi := { dst := some 32, op := Op.load 29 (Operand.tmp 3), type := 29, pos := "l06_chain.go:42", after := #[], guard := none }) (v := ?vh6) rfl (by kernel_rfl) (by kernel_rfl) (by kernel_rfl) (fun _ _ _ h => h) (Or.inl ⟨by rfl, ?hyh6⟩) hHeld ?_
    case hyh6 => (intro w hSw; (try dsimp only at hSw); go_simp <;> with_reducible rfl)
    try simp only [Act.put, List.setIfInBounds_toArray, List.set_cons_zero, List.set_cons_succ]
    refine wpAnyH_ready (rs := [6, 7]) (by kernel_rfl) (by simp) ?_
    refine AllReadyH.cons (o := { dst := some 33, op := Op.call { callee := Callee.value (Operand.func 127), args := #[Operand.tmp 31, Operand.tmp 32], argTypes := #[29, 29] }, type := 29, pos := "l06_chain.go:42", after := #[{ on := 4, ground := Ground.data }, { on := 5, ground := Ground.data }], guard := none }) rfl (fun K hK => ?_) ?_
    ·
      go_simp
      refine (HC.out _ (Below.refl _ _).drew).mono ?_
      rintro r wy ⟨⟨Mx, cx, rfl, hO⟩, hy⟩
      have HZ : Hid (Below w2.heap.size w2 wy) := grow_on (Below.refl _ _).drew hy
      have HO : Hid (OwnA w.heap.size wy (Mx, cx, mergeX (nthP P k) x) ∧ w2.heap.size ≤ Mx) := ⟨(own_of_copy (x := mergeX (nthP P k) x) hO HS.out.2).down (by have := HW.out; show w.heap.size ≤ w2.drew.heap.size; simp; omega), hO.1⟩
      clear hy hO
      clear hHeld
      refine hK.out _ _ (HSB.out _ (C2.out.grow HZ.out) (grow_on HB2.out HZ.out) (A2.out.grow HZ.out)) (fun hHeld => ?_)
      clear hK K
      try simp only [Act.put, List.setIfInBounds_toArray, List.set_cons_zero, List.set_cons_succ]
      refine wpAnyH_ready (rs := [7]) (by kernel_rfl) (by simp) ?_
      refine AllReadyH.cons (o := { dst := some 9, op := Op.alloc 29, type := 0, pos := "l06_chain.go:42", after := #[], guard := none }) rfl (fun K hK => ?_) AllReadyH.nil
      go_simp
      clear hHeld
      refine hK.out _ _ (HSB.out _ (C2.out.grow (grow_on HZ.out (Go.Joins.below_alloc1 wy _))) (grow_on HB2.out (grow_on HZ.out (Go.Joins.below_alloc1 wy _))) (A2.out.grow (grow_on HZ.out (Go.Joins.below_alloc1 wy _)))) (fun hHeld => ?_)
      clear hK K
      try simp only [Act.put, List.setIfInBounds_toArray, List.set_cons_zero, List.set_cons_succ]
      refine wpAnyH_ready (rs := [8]) (by kernel_rfl) (by simp) ?_
      refine AllReadyH.cons (o := { dst := none, op := Op.store 29 (Operand.tmp 9) (Operand.tmp 33), type := 0, pos := "l06_chain.go:42", after := #[{ on := 7, ground := Ground.data }, { on := 6, ground := Ground.data }, { on := 6, ground := Ground.chain }, { on := 0, ground := Ground.phase }, { on := 1, ground := Ground.phase }, { on := 2, ground := Ground.phase }, { on := 3, ground := Ground.phase }, { on := 4, ground := Ground.phase }, { on := 5, ground := Ground.phase }, { on := 6, ground := Ground.phase }, { on := 7, ground := Ground.phase }], guard := none }) rfl (fun K hK => ?_) AllReadyH.nil
      go_simp
      clear hHeld
      refine hK.out _ _ (HSB.out _ (C2.out.grow (grow_on HZ.out (Go.Joins.below_alloc1 wy _))) (grow_on HB2.out (grow_on HZ.out (Go.Joins.below_alloc1 wy _))) (A2.out.grow (grow_on HZ.out (Go.Joins.below_alloc1 wy _)))) (fun hHeld => ?_)
      clear hK K
      try simp only [Act.put, List.setIfInBounds_toArray, List.set_cons_zero, List.set_cons_succ]
      refine wpAnyH_done (by kernel_rfl) ?_ _
      generalize hWY : (wy.alloc (.cells #[.slice (some ⟨Mx, 0, none⟩) x.l.length cx, .int .i64 (startB (nthP P k).s (nthP P k).e x.s x.e), .int .i64 x.e, .string x.n] 29)) = WY
      have HY : Hid (Below w2.heap.size w2 WY) := by rw [← hWY]; exact grow_on HZ.out (Go.Joins.below_alloc1 wy _)
      have XB : Hid (Blk WY wy.heap.size #[.slice (some ⟨Mx, 0, none⟩) x.l.length cx, .int .i64 (startB (nthP P k).s (nthP P k).e x.s x.e), .int .i64 x.e, .string x.n] 29) := by rw [← hWY]; exact Blk.new _ _ _
      have HOY : Hid (OwnA w.heap.size WY (Mx, cx, mergeX (nthP P k) x)) := by rw [← hWY]; exact (HO.out.1.grow (Go.Joins.below_alloc1 wy _))
      have HN2 : Hid (w2.heap.size ≤ wy.heap.size) := HZ.out.size
      clear hWY hHeld
      have z0 : WY.cell? ⟨wy.heap.size, 0, none⟩ = some (.slice (some ⟨Mx, 0, none⟩) x.l.length cx) := XB.out.cell 0
      have z1 : WY.cell? ⟨wy.heap.size, 1, none⟩ = some (.int .i64 (startB (nthP P k).s (nthP P k).e x.s x.e)) := XB.out.cell 1
      have z2 : WY.cell? ⟨wy.heap.size, 2, none⟩ = some (.int .i64 x.e) := XB.out.cell 2
      have z3 : WY.cell? ⟨wy.heap.size, 3, none⟩ = some (.string x.n) := XB.out.cell 3
      have hD := D2.out.grow HY.out
      have d1 : WY.cell? ⟨w1.heap.size, 1, none⟩ = some (.slice (some ⟨M, 0, none⟩) rs.length c) := hD.cell 1
      have hab := HAB2.out.grow HY.out
      obtain ⟨cs, h2, hcs, _⟩ := hab.outer
      have hca := hab.cap
      have hkr : k < rs.length := by rw [HRl.out]; exact hk
      have hkr' : (k : Int) < (rs.length : Int) := by omega
      obtain ⟨v0, p0⟩ : ∃ v, WY.cell? ⟨M, k * 4, none⟩ = some v := ⟨cs[k * 4]'(by omega), by rw [h2.cell]; simp⟩
      obtain ⟨v1, p1⟩ : ∃ v, WY.cell? ⟨M, k * 4 + 1, none⟩ = some v := ⟨cs[k * 4 + 1]'(by omega), by rw [h2.cell]; simp⟩
      obtain ⟨v2, p2⟩ : ∃ v, WY.cell? ⟨M, k * 4 + 2, none⟩ = some v := ⟨cs[k * 4 + 2]'(by omega), by rw [h2.cell]; simp⟩
      obtain ⟨v3, p3⟩ : ∃ v, WY.cell? ⟨M, k * 4 + 3, none⟩ = some v := ⟨cs[k * 4 + 3]'(by omega), by rw [h2.cell]; simp⟩
      have f0 := h2.frozen (k * 4)
      have f1 := h2.frozen (k * 4 + 1)
      have f2 := h2.frozen (k * 4 + 2)
      have f3 := h2.frozen (k * 4 + 3)
      have hMD : M ≠ w1.heap.size := fun e => chain_alarm hD h2 e.symm
      clear hD hab h2 hcs hca
      go_upto_region 9 with fail
      clear z0 z1 z2 z3 d1 p0 p1 p2 p3 f0 f1 f2 f3
      have hMR : M ≠ w.heap.size + 1 + 1 := by have := HM.out; omega
      have hMw : w.heap.size ≤ M := by have := HM.out; omega
      obtain ⟨W3, hW3⟩ : ∃ W3, put4W WY M k (Mx, cx, mergeX (nthP P k) x) = W3 := ⟨_, rfl⟩
      obtain ⟨M3, hM3⟩ : ∃ M3, M3 = M := ⟨_, rfl⟩
      obtain ⟨c3, hc3⟩ : ∃ c3, c3 = c := ⟨_, rfl⟩
      have D3 : Hid (Blk W3 w1.heap.size #[.int .i64 f, .slice (some ⟨M3, 0, none⟩) rs.length c3] 96) := by rw [← hW3, hM3, hc3]; exact put4W_other (D2.out.grow HY.out) hMD
      have R3 : Hid (Blk W3 (w.heap.size + 1 + 1) #[.int .i64 0, .slice none 0 0] 96) := by rw [← hW3]; exact put4W_other (R2.out.grow HY.out) hMR
      have HAB3 : Hid (AB w.heap.size W3 M3 c3 (putA rs k (Mx, cx, mergeX (nthP P k) x))) := by
        rw [← hW3, hM3, hc3]
        exact (HAB2.out.grow HY.out).put hkr HOY.out (fun y hy => by have := (HAB2.out.rows y hy).lt; have := HO.out.2; show y.1 ≠ Mx; omega)
      have HB3 : Hid (Below w.heap.size w W3) := by rw [← hW3]; exact put4W_low (grow_on HB2.out HY.out) hMw
      simp only [put4W, mergeX] at hW3
      rw [hW3]
      clear hW3 hM3 hc3 hMD hMR hMw
      have c0 : W3.cell? ⟨w1.heap.size, 0, none⟩ = some (.int .i64 f) := D3.out.cell 0
      have c1 : W3.cell? ⟨w1.heap.size, 1, none⟩ = some (.slice (some ⟨M3, 0, none⟩) (rs.length) c3) := D3.out.cell 1
      have r0 : W3.cell? ⟨w.heap.size + 1 + 1, 0, none⟩ = some (.int .i64 0) := R3.out.cell 0
      have r1 : W3.cell? ⟨w.heap.size + 1 + 1, 1, none⟩ = some (.slice none 0 0) := R3.out.cell 1
      have f0 := R3.out.frozen 0
      have f1 := R3.out.frozen 1
      go_wp2
      have hs : Blk ((W3.setCell ⟨w.heap.size + 1 + 1, 0, none⟩ (.int .i64 f)).setCell ⟨w.heap.size + 1 + 1, 1, none⟩ (.slice (some ⟨M3, 0, none⟩) (rs.length) c3)) (w.heap.size + 1 + 1) #[.int .i64 f, .slice (some ⟨M3, 0, none⟩) (rs.length) c3] 96 := (R3.out.set 0 _).set 1 _
      have s0 := hs.cell 0
      have s1 := hs.cell 1
      refine bodyPost_ret (v := .tuple #[.agg #[.int .i64 f, .slice (some ⟨M3, 0, none⟩) (rs.length) c3], .bool false]) (by simp [results, Tryz.results72, go_sem, s0, s1]) rfl ?_
      exact ⟨⟨M3, c3, putA rs k (Mx, cx, mergeX (nthP P k) x), retC (by rw [putA_len]) HN.out, ab_set2 HAB3.out R3.out _ _, HPP.out _ _⟩, ChnP.set2 HB3.out (by omega) _ _⟩
    refine AllReadyH.cons (o := { dst := some 9, op := Op.alloc 29, type := 0, pos := "l06_chain.go:42", after := #[], guard := none }) rfl (fun K hK => ?_) AllReadyH.nil
    go_simp
    clear hHeld
    refine hK.out _ _ (HSB.out _ (C2.out.grow ((Below.refl _ _).drew.alloc (Nat.le_refl _) _)) (grow_on HB2.out ((Below.refl _ _).drew.alloc (Nat.le_refl _) _)) (A2.out.grow ((Below.refl _ _).drew.alloc (Nat.le_refl _) _))) (fun hHeld => ?_)
    clear hK K
    try simp only [Act.put, List.setIfInBounds_toArray, List.set_cons_zero, List.set_cons_succ]
    refine wpAnyH_ready (rs := [6]) (by kernel_rfl) (by simp) ?_
    refine AllReadyH.cons (o := { dst := some 33, op := Op.call { callee := Callee.value (Operand.func 127), args := #[Operand.tmp 31, Operand.tmp 32], argTypes := #[29, 29] }, type := 29, pos := "l06_chain.go:42", after := #[{ on := 4, ground := Ground.data }, { on := 5, ground := Ground.data }], guard := none }) rfl (fun K hK => ?_) AllReadyH.nil
    go_simp
    refine (HC.out _ ((Below.refl _ _).drew.alloc (Nat.le_refl _) _)).mono ?_
    rintro r wy ⟨⟨Mx, cx, rfl, hO⟩, hy⟩
    have HZ : Hid (Below w2.heap.size w2 wy) := grow_on ((Below.refl _ _).drew.alloc (Nat.le_refl _) _) hy
    have NB : Hid (Blk wy w2.heap.size #[.slice none 0 0, .int .i64 0, .int .i64 0, .string ⟨#[]⟩] 29) := (Blk.new w2.drew _ _).grow hy
    have HO : Hid (OwnA w.heap.size wy (Mx, cx, mergeX (nthP P k) x) ∧ w2.heap.size ≤ Mx) := ⟨(own_of_copy (x := mergeX (nthP P k) x) hO HS.out.2).down (by have := HW.out; show w.heap.size ≤ (w2.drew.alloc _).heap.size; simp; omega), by have := hO.1; simp at this; omega⟩
    clear hy hO
    clear hHeld
    refine hK.out _ _ (HSB.out _ (C2.out.grow HZ.out) (grow_on HB2.out HZ.out) (A2.out.grow HZ.out)) (fun hHeld => ?_)
    clear hK K
    try simp only [Act.put, List.setIfInBounds_toArray, List.set_cons_zero, List.set_cons_succ]
    refine wpAnyH_ready (rs := [8]) (by kernel_rfl) (by simp) ?_
    refine AllReadyH.cons (o := { dst := none, op := Op.store 29 (Operand.tmp 9) (Operand.tmp 33), type := 0, pos := "l06_chain.go:42", after := #[{ on := 7, ground := Ground.data }, { on := 6, ground := Ground.data }, { on := 6, ground := Ground.chain }, { on := 0, ground := Ground.phase }, { on := 1, ground := Ground.phase }, { on := 2, ground := Ground.phase }, { on := 3, ground := Ground.phase }, { on := 4, ground := Ground.phase }, { on := 5, ground := Ground.phase }, { on := 6, ground := Ground.phase }, { on := 7, ground := Ground.phase }], guard := none }) rfl (fun K hK => ?_) AllReadyH.nil
    have n0 : wy.cell? ⟨w2.heap.size, 0, none⟩ = some (.slice none 0 0) := NB.out.cell 0
    have n1 : wy.cell? ⟨w2.heap.size, 1, none⟩ = some (.int .i64 0) := NB.out.cell 1
    have n2 : wy.cell? ⟨w2.heap.size, 2, none⟩ = some (.int .i64 0) := NB.out.cell 2
    have n3 : wy.cell? ⟨w2.heap.size, 3, none⟩ = some (.string ⟨#[]⟩) := NB.out.cell 3
    have m0 := NB.out.frozen 0
    have m1 := NB.out.frozen 1
    have m2 := NB.out.frozen 2
    have m3 := NB.out.frozen 3
    go_simp
    clear n0 n1 n2 n3 m0 m1 m2 m3
    clear hHeld
    refine hK.out _ _ (HSB.out _ (C2.out.grow (Alm.set4 HZ.out (Nat.le_refl _) _ _ _ _)) (grow_on HB2.out (Alm.set4 HZ.out (Nat.le_refl _) _ _ _ _)) (A2.out.grow (Alm.set4 HZ.out (Nat.le_refl _) _ _ _ _))) (fun hHeld => ?_)
    clear hK K
    try simp only [Act.put, List.setIfInBounds_toArray, List.set_cons_zero, List.set_cons_succ]
    refine wpAnyH_done (by kernel_rfl) ?_ _
    generalize hWY : ((((wy.setCell ⟨w2.heap.size, 0, none⟩ (.slice (some ⟨Mx, 0, none⟩) x.l.length cx)).setCell ⟨w2.heap.size, 1, none⟩ (.int .i64 (startB (nthP P k).s (nthP P k).e x.s x.e))).setCell ⟨w2.heap.size, 2, none⟩ (.int .i64 x.e)).setCell ⟨w2.heap.size, 3, none⟩ (.string x.n)) = WY
    have HY : Hid (Below w2.heap.size w2 WY) := by rw [← hWY]; exact Alm.set4 HZ.out (Nat.le_refl _) _ _ _ _
    have XB : Hid (Blk WY w2.heap.size #[.slice (some ⟨Mx, 0, none⟩) x.l.length cx, .int .i64 (startB (nthP P k).s (nthP P k).e x.s x.e), .int .i64 x.e, .string x.n] 29) := by rw [← hWY]; exact Alm.put4 NB.out _ _ _ _
    have HOY : Hid (OwnA w.heap.size WY (Mx, cx, mergeX (nthP P k) x)) := by rw [← hWY]; exact (by obtain ⟨h0, h1, ds, h2, h3⟩ := HO.out.1; exact ⟨h0, h1, ds, Alm.blk4 h2 (blkA_ne NB.out h2) _ _ _ _, h3⟩)
    have HN2 : Hid (w2.heap.size ≤ w2.heap.size) := Nat.le_refl _
    clear hWY hHeld
    have z0 : WY.cell? ⟨w2.heap.size, 0, none⟩ = some (.slice (some ⟨Mx, 0, none⟩) x.l.length cx) := XB.out.cell 0
    have z1 : WY.cell? ⟨w2.heap.size, 1, none⟩ = some (.int .i64 (startB (nthP P k).s (nthP P k).e x.s x.e)) := XB.out.cell 1
    have z2 : WY.cell? ⟨w2.heap.size, 2, none⟩ = some (.int .i64 x.e) := XB.out.cell 2
    have z3 : WY.cell? ⟨w2.heap.size, 3, none⟩ = some (.string x.n) := XB.out.cell 3
    have hD := D2.out.grow HY.out
    have d1 : WY.cell? ⟨w1.heap.size, 1, none⟩ = some (.slice (some ⟨M, 0, none⟩) rs.length c) := hD.cell 1
    have hab := HAB2.out.grow HY.out
    obtain ⟨cs, h2, hcs, _⟩ := hab.outer
    have hca := hab.cap
    have hkr : k < rs.length := by rw [HRl.out]; exact hk
    have hkr' : (k : Int) < (rs.length : Int) := by omega
    obtain ⟨v0, p0⟩ : ∃ v, WY.cell? ⟨M, k * 4, none⟩ = some v := ⟨cs[k * 4]'(by omega), by rw [h2.cell]; simp⟩
    obtain ⟨v1, p1⟩ : ∃ v, WY.cell? ⟨M, k * 4 + 1, none⟩ = some v := ⟨cs[k * 4 + 1]'(by omega), by rw [h2.cell]; simp⟩
    obtain ⟨v2, p2⟩ : ∃ v, WY.cell? ⟨M, k * 4 + 2, none⟩ = some v := ⟨cs[k * 4 + 2]'(by omega), by rw [h2.cell]; simp⟩
    obtain ⟨v3, p3⟩ : ∃ v, WY.cell? ⟨M, k * 4 + 3, none⟩ = some v := ⟨cs[k * 4 + 3]'(by omega), by rw [h2.cell]; simp⟩
    have f0 := h2.frozen (k * 4)
    have f1 := h2.frozen (k * 4 + 1)
    have f2 := h2.frozen (k * 4 + 2)
    have f3 := h2.frozen (k * 4 + 3)
    have hMD : M ≠ w1.heap.size := fun e => chain_alarm hD h2 e.symm
    clear hD hab h2 hcs hca
    go_upto_region 9 with fail
    clear z0 z1 z2 z3 d1 p0 p1 p2 p3 f0 f1 f2 f3
    have hMR : M ≠ w.heap.size + 1 + 1 := by have := HM.out; omega
    have hMw : w.heap.size ≤ M := by have := HM.out; omega
    obtain ⟨W3, hW3⟩ : ∃ W3, put4W WY M k (Mx, cx, mergeX (nthP P k) x) = W3 := ⟨_, rfl⟩
    obtain ⟨M3, hM3⟩ : ∃ M3, M3 = M := ⟨_, rfl⟩
    obtain ⟨c3, hc3⟩ : ∃ c3, c3 = c := ⟨_, rfl⟩
    have D3 : Hid (Blk W3 w1.heap.size #[.int .i64 f, .slice (some ⟨M3, 0, none⟩) rs.length c3] 96) := by rw [← hW3, hM3, hc3]; exact put4W_other (D2.out.grow HY.out) hMD
    have R3 : Hid (Blk W3 (w.heap.size + 1 + 1) #[.int .i64 0, .slice none 0 0] 96) := by rw [← hW3]; exact put4W_other (R2.out.grow HY.out) hMR
    have HAB3 : Hid (AB w.heap.size W3 M3 c3 (putA rs k (Mx, cx, mergeX (nthP P k) x))) := by
      rw [← hW3, hM3, hc3]
      exact (HAB2.out.grow HY.out).put hkr HOY.out (fun y hy => by have := (HAB2.out.rows y hy).lt; have := HO.out.2; show y.1 ≠ Mx; omega)
    have HB3 : Hid (Below w.heap.size w W3) := by rw [← hW3]; exact put4W_low (grow_on HB2.out HY.out) hMw
    simp only [put4W, mergeX] at hW3
    rw [hW3]
    clear hW3 hM3 hc3 hMD hMR hMw
    have c0 : W3.cell? ⟨w1.heap.size, 0, none⟩ = some (.int .i64 f) := D3.out.cell 0
    have c1 : W3.cell? ⟨w1.heap.size, 1, none⟩ = some (.slice (some ⟨M3, 0, none⟩) (rs.length) c3) := D3.out.cell 1
    have r0 : W3.cell? ⟨w.heap.size + 1 + 1, 0, none⟩ = some (.int .i64 0) := R3.out.cell 0
    have r1 : W3.cell? ⟨w.heap.size + 1 + 1, 1, none⟩ = some (.slice none 0 0) := R3.out.cell 1
    have f0 := R3.out.frozen 0
    have f1 := R3.out.frozen 1
    go_wp2
    have hs : Blk ((W3.setCell ⟨w.heap.size + 1 + 1, 0, none⟩ (.int .i64 f)).setCell ⟨w.heap.size + 1 + 1, 1, none⟩ (.slice (some ⟨M3, 0, none⟩) (rs.length) c3)) (w.heap.size + 1 + 1) #[.int .i64 f, .slice (some ⟨M3, 0, none⟩) (rs.length) c3] 96 := (R3.out.set 0 _).set 1 _
    have s0 := hs.cell 0
    have s1 := hs.cell 1
    refine bodyPost_ret (v := .tuple #[.agg #[.int .i64 f, .slice (some ⟨M3, 0, none⟩) (rs.length) c3], .bool false]) (by simp [results, Tryz.results72, go_sem, s0, s1]) rfl ?_
    exact ⟨⟨M3, c3, putA rs k (Mx, cx, mergeX (nthP P k) x), retC (by rw [putA_len]) HN.out, ab_set2 HAB3.out R3.out _ _, HPP.out _ _⟩, ChnP.set2 HB3.out (by omega) _ _⟩
end Go.Proofs.YtooninmicfcfoaaGreat.ChnU
namespace Go.Proofs.YtooninmicfcfoaaGreat.ChnV
open Go.RowKit
open Labs LabS Alms AlmS AlmM Over Blk App Rws ChnI ChnC ChnP ChnD

structure MidS (w : World) (f : Int) (a : Option Addr) (n cap : Nat) (W : World) (M1 c1 : Nat) (rs1 : List ARow) (M2 c2 : Nat) (rs2 : List ARow) : Prop where
  two : Two w.heap.size W M1 c1 rs1 M2 c2 rs2
  low : w.heap.size + 2 ≤ M1 ∧ w.heap.size + 2 ≤ M2
  bch : Blk W w.heap.size #[.int .i64 f, .slice a n cap] 96
  bres : Blk W (w.heap.size + 1) #[.int .i64 0, .slice none 0 0] 96
  bleft : Blk W (w.heap.size + 1 + 1 + 1) #[.int .i64 f, .slice (some ⟨M1, 0, none⟩) rs1.length c1] 96
  below : Below w.heap.size w W
theorem MidS.grow {w : World} {f : Int} {a : Option Addr} {n cap : Nat} {W W' : World} {M1 c1 : Nat} {rs1 : List ARow} {M2 c2 : Nat} {rs2 : List ARow} (h : MidS w f a n cap W M1 c1 rs1 M2 c2 rs2) (hb : Below W.heap.size W W') : MidS w f a n cap W' M1 c1 rs1 M2 c2 rs2 :=
  ⟨h.two.grow hb, h.low, h.bch.grow hb, h.bres.grow hb, h.bleft.grow hb, grow_on h.below hb⟩
theorem left_o {P : List PAl} {now : Int} {k : Nat} (h : k < P.length) (ho : overB (nthP P k).e now = true) : leftTo P now (k + 1) = leftTo P now k ∧ goneTo P now (k + 1) = goneTo P now k ++ [nthP P k] := by rw [left_up h, gone_up h, if_pos ho, if_pos ho]; simp
theorem left_k {P : List PAl} {now : Int} {k : Nat} (h : k < P.length) (ho : overB (nthP P k).e now = false) : leftTo P now (k + 1) = leftTo P now k ++ [nthP P k] ∧ goneTo P now (k + 1) = goneTo P now k := by rw [left_up h, gone_up h, ho]; simp
theorem to_le {P : List PAl} {now : Int} {k : Nat} (h : k ≤ P.length) : (leftTo P now k).length ≤ P.length ∧ (goneTo P now k).length ≤ P.length := by
  have h1 := drop_len P now k
  have h2 : (P.take k).length ≤ P.length := by simp; omega
  exact ⟨by omega, by omega⟩
set_option maxRecDepth 100000 in
set_option maxHeartbeats 2000000 in
theorem specDrop_any (f : Int) (a : Option Addr) (cap : Nat) (P : List PAl) (now : Int) (w : World) (hr : RdN w a P) (hl : P.length ≤ 1048576) (hs : LenM P) :
    Calls Tryz.prog 79 #[.agg #[.int .i64 f, .slice a P.length cap], .int .i64 now] w fun e w' => (∃ M1 c1 rs1 M2 c2 rs2, e = .returned (.tuple #[.agg #[.int .i64 f, .slice (some ⟨M1, 0, none⟩) rs1.length c1], .slice (some ⟨M2, 0, none⟩) rs2.length c2]) ∧ Two w.heap.size w' M1 c1 rs1 M2 c2 rs2 ∧ pals rs1 = leftTo P now P.length ∧ pals rs2 = goneTo P now P.length) ∧ Below w.heap.size w w' := by
  have HR : Hid (RdN w a P ∧ LenM P) := ⟨hr, hs⟩
  clear hr hs
  obtain ⟨i0, hi, hz0, hz1, hz2⟩ := info_parts infoA
  go_enter Tryz.func79, Tryz.ntmps79
  go_wp2
  go_loopw [7, 8] (fun v i w' => ∃ (k M1 c1 : Nat) (rs1 : List ARow) (M2 c2 : Nat) (rs2 : List ARow), i = .int .i64 k ∧ k ≤ P.length ∧ v = .slice (some ⟨M2, 0, none⟩) rs2.length c2 ∧ MidS w f a P.length cap w' M1 c1 rs1 M2 c2 rs2 ∧ pals rs1 = leftTo P now k ∧ pals rs2 = goneTo P now k) (fun _ i _ => P.length - (intOf i).toNat)
  case atStart =>
    exact ⟨0, w.heap.size + 1 + 1, 0, [], w.heap.size + 1 + 1 + 1 + 1, 0, [], rfl, Nat.zero_le _, rfl, ⟨⟨AB.nil (((Blk.new_at (by simp)).alloc _).alloc _) (by omega), AB.nil (Blk.new_at (by simp)) (by omega), by omega, fun x hx => by simp at hx⟩, ⟨by omega, by omega⟩, ((((Blk.new _ _ _).alloc _).alloc _).alloc _).alloc _, (((Blk.new_at (by simp)).alloc _).alloc _).alloc _, (Blk.new_at (by simp)).alloc _, ((Alm.below3 w _ _ _).alloc (by simp; omega) _).alloc (by simp; omega) _⟩, rfl, rfl⟩
  case round =>
    obtain ⟨k, M1, c1, rs1, M2, c2, rs2, rfl, hk, rfl, hm, hp1, hp2⟩ := hrel
    have HM : Hid (MidS w f a P.length cap wr M1 c1 rs1 M2 c2 rs2) := hm
    have HP : Hid (pals rs1 = leftTo P now k ∧ pals rs2 = goneTo P now k) := ⟨hp1, hp2⟩
    have hll := to_le (now := now) hk
    rw [← hp1, ← hp2, pals_len, pals_len] at hll
    have hl1 : rs1.length ≤ 1048576 := by omega
    have hl2 : rs2.length ≤ 1048576 := by omega
    have q1 : wr.cell? ⟨w.heap.size, 1, none⟩ = some (.slice a P.length cap) := hm.bch.cell 1
    clear hm hp1 hp2 hll
    by_cases hlt : k < P.length
    · have hlt' : (k : Int) < (P.length : Int) := by omega
      obtain ⟨b, off, rfl, hb, g, o, cp, hat⟩ := (HR.out.1.below HM.out.below).get hlt
      have h2 := hat.c0
      have h3 := hat.c1
      have h4 := hat.c2
      have h5 := hat.c3
      have HC : Hid (Calls Tryz.prog 73 #[.agg #[.slice (some ⟨g, o, none⟩) (nthP P k).l.length cp, .int .i64 (nthP P k).s, .int .i64 (nthP P k).e, .string (nthP P k).n]] wr fun r w' => (∃ Mx c, r = .returned (.agg #[.slice (some ⟨Mx, 0, none⟩) (nthP P k).l.length c, .int .i64 (nthP P k).s, .int .i64 (nthP P k).e, .string (nthP P k).n]) ∧ LabR.Own wr w' Mx (nthP P k).l) ∧ Below wr.heap.size wr w') := copyS_any _ _ _ _ _ _ _ wr hat.reads (HR.out.2 k hlt)
      clear hat
      go_wp2_with fail
      refine HC.out.mono ?_
      rintro e w1 ⟨⟨Mx, cx, rfl, hO⟩, hb1⟩
      have HM1 : Hid (MidS w f (some ⟨b, off, none⟩) P.length cap w1 M1 c1 rs1 M2 c2 rs2) := HM.out.grow hb1
      have HO : Hid (OwnA w.heap.size w1 (Mx, cx, nthP P k) ∧ wr.heap.size ≤ Mx) := ⟨(own_of_copy hO (HR.out.2 k hlt)).down HM.out.below.size, hO.1⟩
      clear hb1 hO h2 h3 h4 h5 HC q1
      have HV : ∀ y, Hid (Calls Tryz.prog 131 #[.agg #[.slice (some ⟨Mx, 0, none⟩) (nthP P k).l.length cx, .int .i64 (nthP P k).s, .int .i64 (nthP P k).e, .string (nthP P k).n], .int .i64 now] y fun r w' => r = .returned (.bool (overB (nthP P k).e now)) ∧ Below y.heap.size y w') := fun y => specOver_any _ _ _ _ _ _
      cases hov : overB (nthP P k).e now with
      | true =>
        rw [hov] at HV
        have HE := left_o hlt hov
        have HEE : Hid _ := HE
        clear hov HE
        go_wp2_with fail
        refine (HV _).out.mono ?_
        rintro e w2 ⟨rfl, hb2⟩
        have XB : Hid (Blk w2 w1.heap.size #[.slice (some ⟨Mx, 0, none⟩) (nthP P k).l.length cx, .int .i64 (nthP P k).s, .int .i64 (nthP P k).e, .string (nthP P k).n] 29) := (Blk.new _ _ _).grow hb2
        replace hb2 := grow_on (Go.Joins.below_alloc1 w1 _) hb2
        have HM2 : Hid (MidS w f (some ⟨b, off, none⟩) P.length cap w2 M1 c1 rs1 M2 c2 rs2) := HM1.out.grow hb2
        have HO2 : Hid (OwnA w.heap.size w2 (Mx, cx, nthP P k)) := HO.out.1.grow hb2
        obtain ⟨xs, hox, hxl, hxs⟩ := HM2.out.two.b.own
        have HOX : Hid (∀ o1, (w2.alloc o1).ownsRow w.heap.size 29 4 (.slice (some ⟨M2, 0, none⟩) rs2.length c2) rs2.length xs) := fun o1 => own_grow hox (Go.Joins.below_alloc1 w2 o1)
        have HXS : Hid (xs.length = rs2.length * 4 ∧ ∀ i, i < rs2.length → Four (fun k => xs[k]?) i (nthA rs2 i)) := ⟨hxl, hxs⟩
        have z0 : w2.cell? ⟨w1.heap.size, 0, none⟩ = some (.slice (some ⟨Mx, 0, none⟩) (nthP P k).l.length cx) := XB.out.cell 0
        have z1 : w2.cell? ⟨w1.heap.size, 1, none⟩ = some (.int .i64 (nthP P k).s) := XB.out.cell 1
        have z2 : w2.cell? ⟨w1.heap.size, 2, none⟩ = some (.int .i64 (nthP P k).e) := XB.out.cell 2
        have z3 : w2.cell? ⟨w1.heap.size, 3, none⟩ = some (.string (nthP P k).n) := XB.out.cell 3
        have d1 : w2.cell? ⟨w.heap.size + 1 + 1 + 1, 1, none⟩ = some (.slice (some ⟨M1, 0, none⟩) rs1.length c1) := HM2.out.bleft.cell 1
        clear hox hxl hxs hb2 HM1
        go_wp2_with (at_builtin; refine wpList_append_own_at _ rfl _ _ 40 rfl w.heap.size 29 i0 (.agg #[.slice none 0 0, .int .i64 0, .int .i64 0, .string ByteArray.empty]) 4 56 Tryz.underlying40 hi hz0 hz1 hz2 rfl (by decide) _ _ _ rfl (HOX.out _) ⟨w2.heap.size, 0, none⟩ 1 1 (rowV (Mx, cx, nthP P k)) rfl rfl ?c1 (row_one _) ?c3 ?c4 ?c5 ?_)
        case c1 => exact blk_news (Blk.new _ _ _)
        case c3 => unfold maxLen; omega
        case c4 => omega
        case c5 => have := HM2.out.below.size; simp; omega
        intro v' w3 hown hg hnil hat
        have hU := Go.Joins.below_alloc1 w2 (.cells #[.slice (some ⟨Mx, 0, none⟩) (nthP P k).l.length cx, .int .i64 (nthP P k).s, .int .i64 (nthP P k).e, .string (nthP P k).n] 29)
        obtain ⟨cu, hcu, _⟩ := (HM2.out.two.grow hU).b.outer
        have hat2 : v'.ownBlock = some M2 ∨ v'.ownBlock = some (w2.alloc (.cells #[.slice (some ⟨Mx, 0, none⟩) (nthP P k).l.length cx, .int .i64 (nthP P k).s, .int .i64 (nthP P k).e, .string (nthP P k).n] 29)).heap.size := by
          rcases hat with h | h
          · exact .inl h
          · exact .inr (by rw [h]; simp)
        have hlow : ∀ {M' n' c'}, v' = .slice (some ⟨M', 0, none⟩) n' c' → w.heap.size + 2 ≤ M' := fun e => mid_low (W := w2.alloc (.cells #[.slice (some ⟨Mx, 0, none⟩) (nthP P k).l.length cx, .int .i64 (nthP P k).s, .int .i64 (nthP P k).e, .string (nthP P k).n] 29)) hat2 e HM2.out.low.2 (by have := HM2.out.bleft.lt; simp; omega)
        obtain ⟨M3, c3, e3, hT⟩ := (HM2.out.two.grow hU).symm.app (HO2.out.grow hU) (fun y hy => by have := (HM.out.two.b.rows y hy).lt; have := HO.out.2; show y.1 ≠ Mx; omega) (fun y hy => by have := (HM.out.two.a.rows y hy).lt; have := HO.out.2; show y.1 ≠ Mx; omega) HXS.out.1 HXS.out.2 hown hg hat2
        have HLo : Hid (w.heap.size + 2 ≤ M3) := hlow e3
        subst e3
        have HT : Hid (Two w.heap.size w3 M1 c1 rs1 M3 c3 (rs2 ++ [(Mx, cx, nthP P k)])) := hT.symm
        have B0 : Hid (Blk w3 w.heap.size #[.int .i64 f, .slice (some ⟨b, off, none⟩) P.length cap] 96) := blk_far (HM2.out.bch.grow hU) hg (fun e => chain_alarm (HM2.out.bch.grow hU) hcu (Option.some.inj e))
        have B1 : Hid (Blk w3 (w.heap.size + 1) #[.int .i64 0, .slice none 0 0] 96) := blk_far (HM2.out.bres.grow hU) hg (fun e => chain_alarm (HM2.out.bres.grow hU) hcu (Option.some.inj e))
        have B3 : Hid (Blk w3 (w.heap.size + 1 + 1 + 1) #[.int .i64 f, .slice (some ⟨M1, 0, none⟩) rs1.length c1] 96) := blk_far (HM2.out.bleft.grow hU) hg (fun e => chain_alarm (HM2.out.bleft.grow hU) hcu (Option.some.inj e))
        have HB3 : Hid (Below w.heap.size w w3) := (grow_on HM2.out.below hU).grown hg (by have := HM2.out.below.size; simp; omega) (fun k e => by have h : M2 = k := Option.some.inj e; have := HM2.out.low; omega)
        have HL3 : Hid ((rs2 ++ [(Mx, cx, nthP P k)]).length = rs2.length + 1) := by show _ = _; simp
        clear hown hg hnil hat hat2 hT hlow hcu hU z0 z1 z2 z3 d1
        have HMid : Hid (MidS w f (some ⟨b, off, none⟩) P.length cap w3 M1 c1 rs1 M3 c3 (rs2 ++ [(Mx, cx, nthP P k)])) := ⟨HT.out, ⟨HM2.out.low.1, HLo.out⟩, B0.out, B1.out, B3.out, HB3.out⟩
        go_wp2
        go_roundw
        case rel => exact ⟨k + 1, M1, c1, rs1, M3, c3, _, by go_num, by omega, by rw [HL3.out], HMid.out, HP.out.1.trans HEE.out.1.symm, by rw [pals_app, HP.out.2, HEE.out.2]⟩
        case measure => simp [intOf]; omega
      | false =>
        rw [hov] at HV
        have HE := left_k hlt hov
        have HEE : Hid _ := HE
        clear hov HE
        go_wp2_with fail
        refine (HV _).out.mono ?_
        rintro e w2 ⟨rfl, hb2⟩
        have XB : Hid (Blk w2 w1.heap.size #[.slice (some ⟨Mx, 0, none⟩) (nthP P k).l.length cx, .int .i64 (nthP P k).s, .int .i64 (nthP P k).e, .string (nthP P k).n] 29) := (Blk.new _ _ _).grow hb2
        replace hb2 := grow_on (Go.Joins.below_alloc1 w1 _) hb2
        have HM2 : Hid (MidS w f (some ⟨b, off, none⟩) P.length cap w2 M1 c1 rs1 M2 c2 rs2) := HM1.out.grow hb2
        have HO2 : Hid (OwnA w.heap.size w2 (Mx, cx, nthP P k)) := HO.out.1.grow hb2
        obtain ⟨xs, hox, hxl, hxs⟩ := HM2.out.two.a.own
        have HOX : Hid (∀ o1, (w2.alloc o1).ownsRow w.heap.size 29 4 (.slice (some ⟨M1, 0, none⟩) rs1.length c1) rs1.length xs) := fun o1 => own_grow hox (Go.Joins.below_alloc1 w2 o1)
        have HXS : Hid (xs.length = rs1.length * 4 ∧ ∀ i, i < rs1.length → Four (fun k => xs[k]?) i (nthA rs1 i)) := ⟨hxl, hxs⟩
        have z0 : w2.cell? ⟨w1.heap.size, 0, none⟩ = some (.slice (some ⟨Mx, 0, none⟩) (nthP P k).l.length cx) := XB.out.cell 0
        have z1 : w2.cell? ⟨w1.heap.size, 1, none⟩ = some (.int .i64 (nthP P k).s) := XB.out.cell 1
        have z2 : w2.cell? ⟨w1.heap.size, 2, none⟩ = some (.int .i64 (nthP P k).e) := XB.out.cell 2
        have z3 : w2.cell? ⟨w1.heap.size, 3, none⟩ = some (.string (nthP P k).n) := XB.out.cell 3
        have d1 : w2.cell? ⟨w.heap.size + 1 + 1 + 1, 1, none⟩ = some (.slice (some ⟨M1, 0, none⟩) rs1.length c1) := HM2.out.bleft.cell 1
        clear hox hxl hxs hb2 HM1
        go_wp2_with (at_builtin; refine wpList_append_own_at _ rfl _ _ 40 rfl w.heap.size 29 i0 (.agg #[.slice none 0 0, .int .i64 0, .int .i64 0, .string ByteArray.empty]) 4 56 Tryz.underlying40 hi hz0 hz1 hz2 rfl (by decide) _ _ _ rfl (HOX.out _) ⟨w2.heap.size, 0, none⟩ 1 1 (rowV (Mx, cx, nthP P k)) rfl rfl ?c1 (row_one _) ?c3 ?c4 ?c5 ?_)
        case c1 => exact blk_news (Blk.new _ _ _)
        case c3 => unfold maxLen; omega
        case c4 => omega
        case c5 => have := HM2.out.below.size; simp; omega
        intro v' w3 hown hg hnil hat
        have hU := Go.Joins.below_alloc1 w2 (.cells #[.slice (some ⟨Mx, 0, none⟩) (nthP P k).l.length cx, .int .i64 (nthP P k).s, .int .i64 (nthP P k).e, .string (nthP P k).n] 29)
        obtain ⟨cu, hcu, _⟩ := (HM2.out.two.grow hU).a.outer
        have hat2 : v'.ownBlock = some M1 ∨ v'.ownBlock = some (w2.alloc (.cells #[.slice (some ⟨Mx, 0, none⟩) (nthP P k).l.length cx, .int .i64 (nthP P k).s, .int .i64 (nthP P k).e, .string (nthP P k).n] 29)).heap.size := by
          rcases hat with h | h
          · exact .inl h
          · exact .inr (by rw [h]; simp)
        have hlow : ∀ {M' n' c'}, v' = .slice (some ⟨M', 0, none⟩) n' c' → w.heap.size + 2 ≤ M' := fun e => mid_low (W := w2.alloc (.cells #[.slice (some ⟨Mx, 0, none⟩) (nthP P k).l.length cx, .int .i64 (nthP P k).s, .int .i64 (nthP P k).e, .string (nthP P k).n] 29)) hat2 e HM2.out.low.1 (by have := HM2.out.bleft.lt; simp; omega)
        obtain ⟨M3, c3, e3, hT⟩ := (HM2.out.two.grow hU).app (HO2.out.grow hU) (fun y hy => by have := (HM.out.two.a.rows y hy).lt; have := HO.out.2; show y.1 ≠ Mx; omega) (fun y hy => by have := (HM.out.two.b.rows y hy).lt; have := HO.out.2; show y.1 ≠ Mx; omega) HXS.out.1 HXS.out.2 hown hg hat2
        have HLo : Hid (w.heap.size + 2 ≤ M3) := hlow e3
        subst e3
        have HT : Hid (Two w.heap.size w3 M3 c3 (rs1 ++ [(Mx, cx, nthP P k)]) M2 c2 rs2) := hT
        have B0 : Hid (Blk w3 w.heap.size #[.int .i64 f, .slice (some ⟨b, off, none⟩) P.length cap] 96) := blk_far (HM2.out.bch.grow hU) hg (fun e => chain_alarm (HM2.out.bch.grow hU) hcu (Option.some.inj e))
        have B1 : Hid (Blk w3 (w.heap.size + 1) #[.int .i64 0, .slice none 0 0] 96) := blk_far (HM2.out.bres.grow hU) hg (fun e => chain_alarm (HM2.out.bres.grow hU) hcu (Option.some.inj e))
        have B3 : Hid (Blk w3 (w.heap.size + 1 + 1 + 1) #[.int .i64 f, .slice (some ⟨M1, 0, none⟩) rs1.length c1] 96) := blk_far (HM2.out.bleft.grow hU) hg (fun e => chain_alarm (HM2.out.bleft.grow hU) hcu (Option.some.inj e))
        have HB3 : Hid (Below w.heap.size w w3) := (grow_on HM2.out.below hU).grown hg (by have := HM2.out.below.size; simp; omega) (fun k e => by have h : M1 = k := Option.some.inj e; have := HM2.out.low; omega)
        have HL3 : Hid ((rs1 ++ [(Mx, cx, nthP P k)]).length = rs1.length + 1) := by show _ = _; simp
        clear hown hg hnil hat hat2 hT hlow hcu hU z0 z1 z2 z3 d1
        have d3 : w3.cell? ⟨w.heap.size + 1 + 1 + 1, 1, none⟩ = some (.slice (some ⟨M1, 0, none⟩) rs1.length c1) := B3.out.cell 1
        have fd3 := B3.out.frozen 1
        have HMid : Hid (MidS w f (some ⟨b, off, none⟩) P.length cap (w3.setCell ⟨w.heap.size + 1 + 1 + 1, 1, none⟩ (.slice (some ⟨M3, 0, none⟩) (rs1.length + 1) c3)) M3 c3 (rs1 ++ [(Mx, cx, nthP P k)]) M2 c2 rs2) := ⟨HT.out.moved (fun k => k.set_other (chain_alarm B3.out k) _) (fun k => k.set_other (chain_label B3.out k) _), ⟨HLo.out, HM2.out.low.2⟩, B0.out.set_other (by show w.heap.size + 1 + 1 + 1 ≠ w.heap.size; omega) _, B1.out.set_other (by show w.heap.size + 1 + 1 + 1 ≠ w.heap.size + 1; omega) _, by have := B3.out.set 1 (.slice (some ⟨M3, 0, none⟩) (rs1.length + 1) c3); rw [HL3.out]; exact this, set_low HB3.out (by omega) _ _⟩
        go_wp2
        go_roundw
        case rel => exact ⟨k + 1, M3, c3, _, M2, c2, rs2, by go_num, by omega, rfl, HMid.out, by rw [pals_app, HP.out.1, HEE.out.1], HP.out.2.trans HEE.out.2.symm⟩
        case measure => simp [intOf]; omega
    · have hge : ¬ (k : Int) < (P.length : Int) := by omega
      have HF : Hid (pals rs1 = leftTo P now P.length ∧ pals rs2 = goneTo P now P.length) := by
        have e : k = P.length := by omega
        have := HP.out
        rwa [e] at this
      have l0 : wr.cell? ⟨w.heap.size + 1 + 1 + 1, 0, none⟩ = some (.int .i64 f) := HM.out.bleft.cell 0
      have l1 : wr.cell? ⟨w.heap.size + 1 + 1 + 1, 1, none⟩ = some (.slice (some ⟨M1, 0, none⟩) rs1.length c1) := HM.out.bleft.cell 1
      have r0 : wr.cell? ⟨w.heap.size + 1, 0, none⟩ = some (.int .i64 0) := HM.out.bres.cell 0
      have r1 : wr.cell? ⟨w.heap.size + 1, 1, none⟩ = some (.slice none 0 0) := HM.out.bres.cell 1
      have f0 := HM.out.bres.frozen 0
      have f1 := HM.out.bres.frozen 1
      go_wp2
      have hs : Blk ((wr.setCell ⟨w.heap.size + 1, 0, none⟩ (.int .i64 f)).setCell ⟨w.heap.size + 1, 1, none⟩ (.slice (some ⟨M1, 0, none⟩) rs1.length c1)) (w.heap.size + 1) #[.int .i64 f, .slice (some ⟨M1, 0, none⟩) rs1.length c1] 96 := (HM.out.bres.set 0 _).set 1 _
      have s0 := hs.cell 0
      have s1 := hs.cell 1
      refine bodyPost_ret (v := .tuple #[.agg #[.int .i64 f, .slice (some ⟨M1, 0, none⟩) rs1.length c1], .slice (some ⟨M2, 0, none⟩) rs2.length c2]) (by simp [results, Tryz.results79, go_sem, s0, s1]) rfl ?_
      exact ⟨⟨M1, c1, rs1, M2, c2, rs2, rfl, HM.out.two.moved (fun k => (k.set_other (chain_alarm HM.out.bres k) _).set_other (chain_alarm HM.out.bres k) _) (fun k => (k.set_other (chain_label HM.out.bres k) _).set_other (chain_label HM.out.bres k) _), HF.out⟩, ChnP.set2 HM.out.below (by omega) _ _⟩
end Go.Proofs.YtooninmicfcfoaaGreat.ChnV
namespace Go.Proofs.YtooninmicfcfoaaGreat.AlmK
open Go.RowKit
open Labs LabS Alm Over Blk Go.Proofs.YtooninmicfcfoaaGreat.Mark

end Go.Proofs.YtooninmicfcfoaaGreat.AlmK
namespace Go.Proofs.YtooninmicfcfoaaGreat.ChnK
open Go.RowKit
open Labs LabS Alms AlmM Over Blk App Rws
open AlmS ChnI ChnC ChnP
open Go.Proofs.YtooninmicfcfoaaGreat.Mark (Apart Marked)
open StrB (retB)
open Alm (at_par)
open LabT (Held held_reads)
def blks (M : Nat) (rs : List ARow) (k : Nat) : Prop := k = M ∨ ∃ x ∈ rs, x.1 = k
theorem blks_low {lo : Nat} {w : World} {M c : Nat} {rs : List ARow} (h : AB lo w M c rs) (k : Nat) (hk : blks M rs k) : lo ≤ k := by
  rcases hk with rfl | ⟨x, hx, rfl⟩
  · exact h.at'
  · exact (h.rows x hx).1
theorem blks_high {lo : Nat} {w : World} {M c : Nat} {rs : List ARow} (h : AB lo w M c rs) (k : Nat) (hk : blks M rs k) : k < w.heap.size := by
  rcases hk with rfl | ⟨x, hx, rfl⟩
  · exact h.lt
  · exact (h.rows x hx).lt
theorem fits_of {P : List PAl} (h : ∀ x ∈ P, FitA x) : FitsP P := fun i hi => by rw [nthP_eq hi]; exact h _ (List.getElem_mem _)
end Go.Proofs.YtooninmicfcfoaaGreat.ChnK
namespace Go.Proofs.YtooninmicfcfoaaGreat.ChnK
open Go.RowKit
open Go.ChangeShapes Go.WideShapes
open Labs LabS Alms AlmS AlmM Over Blk App Rws ChnC ChnP ChnD
open Go.Proofs.YtooninmicfcfoaaGreat.Mark (Apart Marked)
open StrB (retB)
open Alm (at_par)
open LabT (Held held_reads)

theorem fit_merge {x a : PAl} (hx : FitA x) (ha : FitA a) : FitA (mergeX x a) := by
  refine ⟨ha.len, ha.fits, ?_, ha.eb, ha.note⟩
  have h1 := hx.sb
  have h2 := ha.sb
  show -9223372036854775808 ≤ startB x.s x.e a.s a.e ∧ startB x.s x.e a.s a.e ≤ 9223372036854775807
  unfold startB leastB
  split
  · split <;> omega
  · omega
theorem sumL_set {P : List PAl} {k : Nat} {x : PAl} (h : k < P.length) : sumL (P.set k x) ≤ sumL P + x.l.length := by
  induction P generalizing k with
  | nil => simp at h
  | cons y P ih =>
    cases k with
    | zero => simp only [List.set_cons_zero, sumL]; omega
    | succ k =>
      simp only [List.set_cons_succ, sumL]
      have := ih (k := k) (by simpa using h)
      omega
theorem put_sum (P : List PAl) (a : PAl) : sumL (putL P a) ≤ sumL P + a.l.length ∧ (putL P a).length ≤ P.length + 1 := by
  rcases idxTo_cases P a.l P.length with hm | ⟨k, h0, h1, h2⟩
  · rw [(put_miss hm).1, sum_app]; simp [sumL]
  · rw [(put_hit h2 h1 h0).1]
    have := sumL_set (x := mergeX (nthP P k) a) h0
    exact ⟨this, by simp⟩
theorem drop_sum (P : List PAl) (now : Int) (k : Nat) : sumL (leftTo P now k) + sumL (goneTo P now k) = sumL (P.take k) := by
  unfold leftTo goneTo
  induction P.take k with
  | nil => rfl
  | cons x l ih => cases hq : overB x.e now <;> simp [hq, sumL] <;> omega
end Go.Proofs.YtooninmicfcfoaaGreat.ChnK
namespace Go.Proofs.YtooninmicfcfoaaGreat.Chs
open Go.RowKit
open Go.ChangeShapes Go.WideShapes
open Labs LabS Alms AlmS AlmM Over Blk App Rws ChnI ChnC ChnP ChnK
open StrB (retB)

structure PCh where
  f : Int
  P : List PAl
def nthC (C : List PCh) (i : Nat) : PCh := C.getD i ⟨0, []⟩
theorem nthC_eq {C : List PCh} {i : Nat} (h : i < C.length) : nthC C i = C[i] := by unfold nthC; simp [h]
theorem nthC_mem {C : List PCh} {i : Nat} (h : i < C.length) : nthC C i ∈ C := by rw [nthC_eq h]; exact List.getElem_mem _
theorem takeC_up {C : List PCh} {k : Nat} (h : k < C.length) : C.take (k + 1) = C.take k ++ [nthC C k] := by
  rw [nthC_eq h, List.take_succ_eq_append_getElem h]
structure AtC (R : World → Option Addr → List PAl → Prop) (w : World) (b off i : Nat) (x : PCh) (ad : Option Addr) (cap : Nat) : Prop where
  c0 : w.cell? ⟨b, off + i * 2, none⟩ = some (.int .i64 x.f)
  c1 : w.cell? ⟨b, off + i * 2 + 1, none⟩ = some (.slice ad x.P.length cap)
  reads : R w ad x.P
theorem AtC.below {R : World → Option Addr → List PAl → Prop} (hR : Stays R) {w w' : World} {b off i : Nat} {x : PCh} {ad : Option Addr} {cap : Nat} (h : AtC R w b off i x ad cap) (hb : Below w.heap.size w w') (hlt : b < w.heap.size) : AtC R w' b off i x ad cap :=
  ⟨(hb.cell (p := ⟨b, off + i * 2, none⟩) hlt).trans h.c0, (hb.cell (p := ⟨b, off + i * 2 + 1, none⟩) hlt).trans h.c1, hR _ _ _ _ h.reads hb⟩
def RdG (R : World → Option Addr → List PAl → Prop) (w : World) (a : Option Addr) (C : List PCh) : Prop :=
  C = [] ∨ ∃ b off, a = some ⟨b, off, none⟩ ∧ b < w.heap.size ∧ ∀ i, i < C.length → ∃ ad cap, AtC R w b off i (nthC C i) ad cap
theorem RdG.below {R : World → Option Addr → List PAl → Prop} (hR : Stays R) {w w' : World} {a : Option Addr} {C : List PCh} (h : RdG R w a C) (hb : Below w.heap.size w w') : RdG R w' a C := by
  rcases h with h | ⟨b, off, rfl, hlt, hc⟩
  · exact .inl h
  · exact .inr ⟨b, off, rfl, Nat.lt_of_lt_of_le hlt hb.size, fun i hi => by
      obtain ⟨ad, cap, h⟩ := hc i hi
      exact ⟨ad, cap, h.below hR hb hlt⟩⟩
theorem RdG.get {R : World → Option Addr → List PAl → Prop} {w : World} {a : Option Addr} {C : List PCh} (h : RdG R w a C) {i : Nat} (hi : i < C.length) :
    ∃ b off, a = some ⟨b, off, none⟩ ∧ b < w.heap.size ∧ ∃ ad cap, AtC R w b off i (nthC C i) ad cap := by
  rcases h with h | ⟨b, off, e, hb, h⟩
  · rw [h] at hi; simp at hi
  · exact ⟨b, off, e, hb, h i hi⟩
theorem RdG.imp {R R' : World → Option Addr → List PAl → Prop} {w : World} {a : Option Addr} {C : List PCh} (h : RdG R w a C) (hi : ∀ a P, R w a P → R' w a P) : RdG R' w a C := by
  rcases h with h | ⟨b, off, e, hb, h⟩
  · exact .inl h
  · exact .inr ⟨b, off, e, hb, fun i hi' => by obtain ⟨ad, cap, h⟩ := h i hi'; exact ⟨ad, cap, h.c0, h.c1, hi _ _ h.reads⟩⟩
theorem RdG.rd {w : World} {a : Option Addr} {C : List PCh} (h : RdG RdN w a C) : RdG RdA w a C := h.imp fun _ _ h => h.rd
structure FitC (x : PCh) : Prop where
  fb : -9223372036854775808 ≤ x.f ∧ x.f ≤ 9223372036854775807
  len : x.P.length ≤ maxLen
  fits : FitsP x.P
def FitsC (C : List PCh) : Prop := ∀ x ∈ C, FitC x
def sumC : List PCh → Nat
  | [] => 0
  | x :: C => x.P.length + sumL x.P + sumC C
theorem sumC_app (p q : List PCh) : sumC (p ++ q) = sumC p + sumC q := by
  induction p with
  | nil => simp [sumC]
  | cons x p ih => rw [List.cons_append, sumC, ih, sumC]; omega
theorem sumC_up {C : List PCh} {k : Nat} (h : k < C.length) : sumC (C.take (k + 1)) = sumC (C.take k) + (nthC C k).P.length + sumL (nthC C k).P := by
  rw [takeC_up h, sumC_app]; simp [sumC]; omega
theorem sumC_le (C : List PCh) (k : Nat) : sumC (C.take k) ≤ sumC C := by
  have := sumC_app (C.take k) (C.drop k)
  rw [List.take_append_drop] at this
  omega
theorem sumC_mem {C : List PCh} {x : PCh} (h : x ∈ C) : x.P.length + sumL x.P ≤ sumC C := by
  induction C with
  | nil => simp at h
  | cons y C ih =>
    rw [sumC]
    rcases List.mem_cons.1 h with rfl | h
    · omega
    · have := ih h; omega
theorem sumC_nth {C : List PCh} {k : Nat} (h : k < C.length) : (nthC C k).P.length + sumL (nthC C k).P ≤ sumC C := sumC_mem (nthC_mem h)

theorem infoC : (Tryz.prog.info? 96).map (fun i => (i.zero, i.size, i.bytes)) = some (some (.agg #[.int .i64 0, .slice none 0 0]), 2, 32) := by kernel_rfl

structure CRow where
  f : Int
  M : Nat
  c : Nat
  rs : List ARow
def CRow.ch (x : CRow) : PCh := ⟨x.f, pals x.rs⟩
def chs (cs : List CRow) : List PCh := cs.map CRow.ch
def nthR (cs : List CRow) (i : Nat) : CRow := cs.getD i ⟨0, 0, 0, []⟩
theorem nthR_eq {cs : List CRow} {i : Nat} (h : i < cs.length) : nthR cs i = cs[i] := by unfold nthR; simp [h]
theorem nthR_mem {cs : List CRow} {i : Nat} (h : i < cs.length) : nthR cs i ∈ cs := by rw [nthR_eq h]; exact List.getElem_mem _
theorem chs_len (cs : List CRow) : (chs cs).length = cs.length := by simp [chs]
theorem chs_nth {cs : List CRow} {i : Nat} (h : i < cs.length) : nthC (chs cs) i = (nthR cs i).ch := by
  rw [nthC_eq (by rw [chs_len]; exact h), nthR_eq h]
  simp [chs]
theorem chs_app (cs : List CRow) (x : CRow) : chs (cs ++ [x]) = chs cs ++ [x.ch] := by simp [chs]
theorem nthR_app_lt {cs : List CRow} {x : CRow} {i : Nat} (h : i < cs.length) : nthR (cs ++ [x]) i = nthR cs i := by
  rw [nthR_eq (by simp; omega), nthR_eq h, List.getElem_append_left h]
theorem nthR_app_eq (cs : List CRow) (x : CRow) : nthR (cs ++ [x]) cs.length = x := by
  rw [nthR_eq (by simp)]; simp
def Cel (f : Nat → Option Value) (i : Nat) (x : CRow) : Prop := f (i * 2) = some (.int .i64 x.f) ∧ f (i * 2 + 1) = some (.slice (some ⟨x.M, 0, none⟩) x.rs.length x.c)
theorem Cel.congr {f g : Nat → Option Value} {i : Nat} {x : CRow} (h : Cel f i x) (e : ∀ k, i * 2 ≤ k → k < i * 2 + 2 → g k = f k) : Cel g i x :=
  ⟨by rw [e _ (by omega) (by omega)]; exact h.1, by rw [e _ (by omega) (by omega)]; exact h.2⟩
def rowC (x : CRow) : List Value := [.int .i64 x.f, .slice (some ⟨x.M, 0, none⟩) x.rs.length x.c]
theorem rowC_one (x : CRow) : ∀ v ∈ rowC x, v.oneCell' = true := fun v hv => by
  simp only [rowC, List.mem_cons, List.not_mem_nil, or_false] at hv
  rcases hv with rfl | rfl <;> rfl
structure RowsC (lo : Nat) (w : World) (cs : List CRow) : Prop where
  rows : ∀ x ∈ cs, AB lo w x.M x.c x.rs
  ne : cs.Pairwise fun x y => ∀ k, blks x.M x.rs k → ¬ blks y.M y.rs k
theorem RowsC.nil (lo : Nat) (w : World) : RowsC lo w [] := ⟨fun x hx => by simp at hx, List.Pairwise.nil⟩
theorem RowsC.moved {lo : Nat} {w w' : World} {cs : List CRow} (h : RowsC lo w cs) (hm : Moved w w') : RowsC lo w' cs := ⟨fun x hx => ab_moved (h.rows x hx) hm, h.ne⟩
theorem RowsC.grow {lo : Nat} {w w' : World} {cs : List CRow} (h : RowsC lo w cs) (hb : Below w.heap.size w w') : RowsC lo w' cs := h.moved (Moved.of hb)
theorem RowsC.down {lo lo' : Nat} {w : World} {cs : List CRow} (h : RowsC lo w cs) (hl : lo' ≤ lo) : RowsC lo' w cs := ⟨fun x hx => (h.rows x hx).down hl, h.ne⟩
theorem RowsC.app {lo : Nat} {w : World} {cs : List CRow} {x : CRow} (h : RowsC lo w cs) (hx : AB lo w x.M x.c x.rs) (hne : ∀ y ∈ cs, ∀ k, blks y.M y.rs k → ¬ blks x.M x.rs k) : RowsC lo w (cs ++ [x]) := by
  refine ⟨fun y hy => ?_, ?_⟩
  · rcases List.mem_append.1 hy with hy | hy
    · exact h.rows y hy
    · rw [List.mem_singleton.1 hy]; exact hx
  · rw [List.pairwise_append]
    exact ⟨h.ne, List.pairwise_singleton _ _, fun a ha b hb => by rw [List.mem_singleton.1 hb]; exact hne a ha⟩
theorem RowsC.fresh {lo B : Nat} {w w' : World} {cs : List CRow} {x : CRow} (h : RowsC lo w cs) (hx : AB B w' x.M x.c x.rs) (hB : w.heap.size ≤ B) : ∀ y ∈ cs, ∀ k, blks y.M y.rs k → ¬ blks x.M x.rs k := fun y hy k h1 h2 => by
  have := blks_high (h.rows y hy) k h1
  have := blks_low hx k h2
  omega
structure CB (lo : Nat) (w : World) (M c : Nat) (cs : List CRow) : Prop where
  at' : lo ≤ M
  cap : cs.length ≤ c ∧ c ≤ maxLen
  outer : ∃ cur : Array Value, Blk w M cur 96 ∧ cur.size = c * 2 ∧ ∀ i, i < cs.length → Cel (fun k => cur[k]?) i (nthR cs i)
  rows : RowsC lo w cs
theorem CB.grow {lo : Nat} {w w' : World} {M c : Nat} {cs : List CRow} (h : CB lo w M c cs) (hb : Below w.heap.size w w') : CB lo w' M c cs := by
  obtain ⟨cur, h1, h2⟩ := h.outer
  exact ⟨h.at', h.cap, ⟨cur, h1.grow hb, h2⟩, h.rows.grow hb⟩
theorem CB.down {lo lo' : Nat} {w : World} {M c : Nat} {cs : List CRow} (h : CB lo w M c cs) (hl : lo' ≤ lo) : CB lo' w M c cs := ⟨Nat.le_trans hl h.at', h.cap, h.outer, h.rows.down hl⟩
theorem CB.nil {lo : Nat} {w : World} {M : Nat} (h : Blk w M #[] 96) (hl : lo ≤ M) : CB lo w M 0 [] :=
  ⟨hl, ⟨Nat.le_refl _, by simp [maxLen]⟩, ⟨#[], h, rfl, fun i hi => by simp at hi⟩, RowsC.nil _ _⟩
theorem CB.rn {lo : Nat} {w : World} {M c : Nat} {cs : List CRow} (h : CB lo w M c cs) : RdG RdN w (some ⟨M, 0, none⟩) (chs cs) := by
  obtain ⟨cur, h1, h2, h3⟩ := h.outer
  refine .inr ⟨M, 0, rfl, h1.lt, fun i hi => ?_⟩
  rw [chs_len] at hi
  obtain ⟨c0, c1⟩ := h3 i hi
  refine ⟨some ⟨(nthR cs i).M, 0, none⟩, (nthR cs i).c, ?_⟩
  rw [chs_nth hi]
  exact ⟨by rw [h1.cell, Nat.zero_add]; exact c0, by rw [h1.cell, Nat.zero_add, CRow.ch, pals_len]; exact c1, (h.rows.rows _ (nthR_mem hi)).rd⟩
theorem CB.set {lo : Nat} {w : World} {M c N : Nat} {cs : List CRow} {ds : Array Value} {T : TypeId} (h : CB lo w M c cs) (hN : Blk w N ds T) (hA : T ≠ 29) (hL : T ≠ 127) (hne : N ≠ M) (i : Nat) (v : Value) : CB lo (w.setCell ⟨N, i, none⟩ v) M c cs := by
  obtain ⟨cur, h1, h2⟩ := h.outer
  exact ⟨h.at', h.cap, ⟨cur, h1.set_other hne _, h2⟩, h.rows.moved (Moved.set hN hA hL i v)⟩
theorem CB.own {lo : Nat} {w : World} {M c : Nat} {cs : List CRow} (h : CB lo w M c cs) : ∃ xs : List Value, w.ownsRow lo 96 2 (.slice (some ⟨M, 0, none⟩) cs.length c) cs.length xs ∧ xs.length = cs.length * 2 ∧ ∀ i, i < cs.length → Cel (fun k => xs[k]?) i (nthR cs i) := by
  obtain ⟨cur, h1, h2, h3⟩ := h.outer
  have hc := h.cap
  have hlen : (cur.toList.take (cs.length * 2)).length = cs.length * 2 := by simp; omega
  refine ⟨cur.toList.take (cs.length * 2), ⟨hlen, .inr ⟨M, c, cur, rfl, h.at', h1, hc.1, hc.2, h2, rfl⟩⟩, hlen, fun i hi => ?_⟩
  refine (h3 i hi).congr fun k _ hk => ?_
  show (cur.toList.take _)[k]? = cur[k]?
  rw [List.getElem?_take_of_lt (by omega)]
  simp
theorem CB.app {lo : Nat} {W w' : World} {M c : Nat} {cs : List CRow} {x : CRow} {xs : List Value} {v' : Value} (h : CB lo W M c cs) (hx : AB lo W x.M x.c x.rs) (hne : ∀ y ∈ cs, ∀ k, blks y.M y.rs k → ¬ blks x.M x.rs k) (hl : xs.length = cs.length * 2) (hxs : ∀ i, i < cs.length → Cel (fun k => xs[k]?) i (nthR cs i))
    (hown : w'.ownsRow lo 96 2 v' (cs.length + 1) (xs ++ rowC x)) (hg : W.grownBy w' (some M)) : ∃ M' c', v' = .slice (some ⟨M', 0, none⟩) (cs.length + 1) c' ∧ CB lo w' M' c' (cs ++ [x]) := by
  rcases hown.2 with ⟨_, e⟩ | ⟨g, cap, cur, e, hb, hgb, hc, hm, hz, ht⟩
  · omega
  · obtain ⟨cu0, hcu0, _⟩ := h.outer
    have hmv : Moved W w' := Moved.far hcu0 (by decide) (by decide) hg
    refine ⟨g, cap, e, hb, ⟨by simp; omega, hm⟩, ⟨cur, hgb, hz, fun i hi => ?_⟩, (h.rows.app hx hne).moved hmv⟩
    have at' : ∀ k, k < (cs.length + 1) * 2 → cur[k]? = (xs ++ rowC x)[k]? := fun k hk => by
      rw [← ht, List.getElem?_take_of_lt hk]; simp
    simp at hi
    by_cases hlt : i < cs.length
    · rw [nthR_app_lt hlt]
      refine (hxs i hlt).congr fun k _ hk => ?_
      show cur[k]? = xs[k]?
      rw [at' k (by omega), List.getElem?_append_left (by omega)]
    · have ei : i = cs.length := by omega
      subst ei
      rw [nthR_app_eq]
      have hr : ∀ j, j < 2 → cur[cs.length * 2 + j]? = (rowC x)[j]? := fun j hj => by
        rw [at' _ (by omega), List.getElem?_append_right (by omega), hl]
        congr 1; omega
      exact ⟨hr 0 (by omega), hr 1 (by omega)⟩
def put2C (cs : Array Value) (k : Nat) (x : CRow) : Array Value := (cs.setIfInBounds (k * 2) (.int .i64 x.f)).setIfInBounds (k * 2 + 1) (.slice (some ⟨x.M, 0, none⟩) x.rs.length x.c)
def put2W (w : World) (M k : Nat) (x : CRow) : World := (w.setCell ⟨M, k * 2, none⟩ (.int .i64 x.f)).setCell ⟨M, k * 2 + 1, none⟩ (.slice (some ⟨x.M, 0, none⟩) x.rs.length x.c)
theorem put2_at {cs : Array Value} {k : Nat} {x : CRow} (h : k * 2 + 1 < cs.size) : Cel (fun j => (put2C cs k x)[j]?) k x := by
  unfold put2C
  exact ⟨by show (Array.setIfInBounds _ _ _)[_]? = _; rw [set_ne (by omega), set_at (by omega)], by show (Array.setIfInBounds _ _ _)[_]? = _; rw [set_at (by simp; omega)]⟩
theorem put2_ne {cs : Array Value} {k j : Nat} {x : CRow} (h : j < k * 2 ∨ k * 2 + 2 ≤ j) : (put2C cs k x)[j]? = cs[j]? := by
  unfold put2C
  rw [set_ne (by omega), set_ne (by omega)]
theorem put2_size (cs : Array Value) (k : Nat) (x : CRow) : (put2C cs k x).size = cs.size := by simp [put2C]
theorem put2W_blk {w : World} {M k : Nat} {x : CRow} {cs : Array Value} {T : TypeId} (h : Blk w M cs T) : Blk (put2W w M k x) M (put2C cs k x) T := (h.set _ _).set _ _
theorem put2W_low {w w' : World} {B M k : Nat} {x : CRow} (h : Below B w w') (hM : B ≤ M) : Below B w (put2W w' M k x) := (h.setCell hM _).setCell hM _
theorem put2W_moved {w : World} {M k : Nat} {x : CRow} {cs : Array Value} (h : Blk w M cs 96) : Moved w (put2W w M k x) := (Moved.set h (by decide) (by decide) _ _).trans (Moved.set (h.set _ _) (by decide) (by decide) _ _)
theorem nthR_put {cs : List CRow} {k i : Nat} {x : CRow} (hi : i < cs.length) : nthR (cs.set k x) i = if i = k then x else nthR cs i := by
  rw [nthR_eq (by simpa using hi), nthR_eq hi, List.getElem_set]
  by_cases e : k = i
  · subst e; simp
  · rw [if_neg e, if_neg (fun h => e h.symm)]
theorem CB.put {lo : Nat} {w : World} {M c k : Nat} {cs : List CRow} {x : CRow} (h : CB lo w M c cs) (hk : k < cs.length) (hx : AB lo w x.M x.c x.rs) (hne : ∀ y ∈ cs, ∀ k, blks y.M y.rs k → ¬ blks x.M x.rs k) : CB lo (put2W w M k x) M c (cs.set k x) := by
  obtain ⟨cur, h1, h2, h3⟩ := h.outer
  have hc := h.cap
  have hmv := put2W_moved (k := k) (x := x) h1
  refine ⟨h.at', by simpa using hc, ⟨put2C cur k x, put2W_blk h1, by rw [put2_size]; exact h2, fun i hi => ?_⟩, ⟨fun y hy => ?_, ?_⟩⟩
  · rw [List.length_set] at hi
    rw [nthR_put hi]
    by_cases e : i = k
    · subst e
      rw [if_pos rfl]
      exact put2_at (by omega)
    · rw [if_neg e]
      exact (h3 i hi).congr fun j h0 h1 => put2_ne (by omega)
  · rcases List.mem_or_eq_of_mem_set hy with hy | hy
    · exact ab_moved (h.rows.rows y hy) hmv
    · subst hy; exact ab_moved hx hmv
  · have hp := h.rows.ne
    rw [List.pairwise_iff_getElem] at hp ⊢
    intro i j hi hj hij
    simp only [List.length_set] at hi hj
    rw [List.getElem_set, List.getElem_set]
    by_cases e1 : k = i
    · rw [if_pos e1, if_neg (by omega)]
      exact fun q h1 h2 => hne _ (List.getElem_mem hj) q h2 h1
    · rw [if_neg e1]
      by_cases e2 : k = j
      · rw [if_pos e2]; exact hne _ (List.getElem_mem hi)
      · rw [if_neg e2]; exact hp i j hi hj hij

end Go.Proofs.YtooninmicfcfoaaGreat.Chs
namespace Go.Proofs.YtooninmicfcfoaaGreat.Prt
open Go.RowKit
open Go.ChangeShapes Go.WideShapes
open Labs LabS Alms AlmS AlmM Over Blk App Rws ChnI ChnC ChnP ChnK Chs
open StrB (retB)

theorem set3 {B M : Nat} {w w' : World} (h : Below B w w') (hM : B ≤ M) (v0 v1 v2 : Value) : Below B w (((w'.setCell ⟨M, 0, none⟩ v0).setCell ⟨M, 1, none⟩ v1).setCell ⟨M, 2, none⟩ v2) :=
  ((h.setCell hM _).setCell hM _).setCell hM _
theorem put3 {w : World} {M : Nat} {x0 x1 x2 : Value} {T : TypeId} (h : Blk w M #[x0, x1, x2] T) (v0 v1 v2 : Value) : Blk (((w.setCell ⟨M, 0, none⟩ v0).setCell ⟨M, 1, none⟩ v1).setCell ⟨M, 2, none⟩ v2) M #[v0, v1, v2] T :=
  ((h.set 0 v0).set 1 v1).set 2 v2
theorem blkT_ne {w : World} {a b : Nat} {cs ds : Array Value} {T U : TypeId} (h : Blk w a cs T) (k : Blk w b ds U) (hT : T ≠ U) : a ≠ b := fun e => by
  subst e
  unfold Blk at h k
  rw [h] at k
  injection k with k
  injection k with _ k
  exact hT k
theorem CB.set' {lo : Nat} {w : World} {M c N : Nat} {cs : List CRow} {ds : Array Value} (h : CB lo w M c cs) (hN : Blk w N ds 26) (i : Nat) (v : Value) : CB lo (w.setCell ⟨N, i, none⟩ v) M c cs := by
  obtain ⟨cur, h1, h2⟩ := h.outer
  exact CB.set h hN (by decide) (by decide) (blkT_ne hN h1 (by decide)) i v
theorem CB.set3 {lo : Nat} {w : World} {M c N : Nat} {cs : List CRow} {ds : Array Value} (h : CB lo w M c cs) (hN : Blk w N ds 26) (v0 v1 v2 : Value) : CB lo (((w.setCell ⟨N, 0, none⟩ v0).setCell ⟨N, 1, none⟩ v1).setCell ⟨N, 2, none⟩ v2) M c cs :=
  CB.set' (CB.set' (CB.set' h hN 0 v0) (hN.set 0 v0) 1 v1) ((hN.set 0 v0).set 1 v1) 2 v2

def I64 (x : Int) : Prop := -9223372036854775808 ≤ x ∧ x ≤ 9223372036854775807
end Go.Proofs.YtooninmicfcfoaaGreat.Prt
