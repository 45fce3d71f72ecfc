/-
  PROVED: over any string spec.Sum and impl.Sum answer alike, as a plain function on its bytes says, between nought and 2 to the 32; spec.PartOf and impl.PartOf answer the remainder, nought at wrong input; nothing is changed.
  PROVED: over a slice of labels in memory spec.Finger and impl.Finger answer alike, between nought and 31, as a plain function says; so do spec.Alike and impl.Alike over two; nothing that was there is changed.
  PROVED: over a chain in memory impl.ChainOk answers as a plain function on lists says; nothing that was there is changed.
  PROVED: over chains in memory spec.InChain, spec.ChainOk, spec.SameChain and impl.SameChain answer as plain functions on lists say; nothing that was there is changed.
  PROVED: over two chains in memory spec.SameChain and impl.SameChain answer alike, as a plain function on lists says; spec.l4All and spec.l6Copy give the same alarms in memory of their own; nothing that was there is changed.
  PROVED: over chains in memory spec.l6Copy, spec.PutChain and spec.DropOver answer as plain functions on lists say, in memory of their own; nothing that was there is changed.
  PROVED: over a chain in memory spec.DropOver answers as two plain functions on lists say, in memory of its own; nothing that was there is changed.
  PROVED: the contracts of what the exact laws call over chains: the size that szChain counts, the copy that toChain makes, that eqChain finds two of the same alike, the marks that markAlarmS writes and heldAlarmS finds; what a chain that came in is.
  PROVED: slices of chains: what one that came in is; the size that szChainS and szPart count, the copy that toChainS and toPart make, that eqChainS and eqPart find two of the same alike; rows of chains in memory of a call's own, read, grown by an append, written at a place.
  PROVED: parts: what one that came in is; the copy that toPart makes, that eqChainS and eqPart find two of the same alike.
-/
import Derived.Test.YtooninmicfcfoaaQTextS
import Derived.Laws.BitsAllLaws
import Derived.Test.YtooninmicfcfoaaQTextI
import Derived.Test.YtooninmicfcfoaaQChnI
import Derived.Test.YtooninmicfcfoaaQLsS
import Derived.Test.YtooninmicfcfoaaQLsA
import Derived.Test.YtooninmicfcfoaaQChnD
import Derived.Test.YtooninmicfcfoaaQLsK
set_option linter.unusedVariables false
namespace Go.Proofs.Ytooninmicfcfoaa.Sums
open Go.RowKit
open SetP (bs)

def stepU (h : Nat) (c : UInt8) : Nat := ((h ^^^ c.toNat) * 16777619) % 4294967296
def sumAt (s : ByteArray) (k : Nat) : Nat := ((bs s).take k).foldl stepU 2166136261
def sumB (s : ByteArray) : Nat := (bs s).foldl stepU 2166136261
theorem sum_zero (s : ByteArray) : sumAt s 0 = 2166136261 := by simp [sumAt]
theorem sum_all (s : ByteArray) : sumAt s s.size = sumB s := by
  unfold sumAt sumB
  rw [List.take_of_length_le]
  show s.data.toList.length ≤ s.data.size
  simp
theorem fold_up {f : Nat → UInt8 → Nat} {z : Nat} {s : ByteArray} {k : Nat} (h : k < s.size) : ((bs s).take (k + 1)).foldl f z = f (((bs s).take k).foldl f z) s[k] := by
  have hk : k < (bs s).length := by show k < s.data.toList.length; simpa using h
  rw [← List.take_append_getElem hk, List.foldl_append]
  rfl
theorem sum_up {s : ByteArray} {k : Nat} (h : k < s.size) : sumAt s (k + 1) = stepU (sumAt s k) s[k] := fold_up h
theorem step_lt (h : Nat) (c : UInt8) : stepU h c < 4294967296 := Nat.mod_lt _ (by decide)
theorem fold_lt (l : List UInt8) : ∀ h, h < 4294967296 → l.foldl stepU h < 4294967296 := by
  induction l with
  | nil => exact fun h hh => hh
  | cons c l ih => exact fun h _ => ih _ (step_lt h c)
theorem sumAt_lt (s : ByteArray) (k : Nat) : sumAt s k < 4294967296 := fold_lt _ _ (by decide)
theorem sumB_lt (s : ByteArray) : sumB s < 4294967296 := fold_lt _ _ (by decide)
theorem xor_lt {x c : Nat} (hx : x < 4294967296) (hc : c < 256) : x ^^^ c < 4294967296 := Nat.xor_lt_two_pow (n := 32) hx (by omega)
theorem ofInt64 (a : Nat) (h : a < 18446744073709551616) : (BitVec.ofInt 64 (a : Int)).toNat = a := by rw [BitVec.toNat_ofInt]; omega
theorem i64_xor (a b : Nat) (ha : a < 4294967296) (hb : b < 4294967296) : bits .xor .i64 (a : Int) (b : Int) = ((a ^^^ b : Nat) : Int) := by
  have hx : a ^^^ b < 2 ^ 32 := Nat.xor_lt_two_pow (by omega) (by omega)
  show IntKind.i64.wrap ((BitVec.ofInt 64 (a : Int) ^^^ BitVec.ofInt 64 (b : Int)).toNat : Int) = _
  rw [BitVec.toNat_xor, ofInt64 a (by omega), ofInt64 b (by omega), IntKind.wrap_i64]
  omega
theorem i64_and32 (n : Int) : bits .and .i64 n 4294967295 = n % 4294967296 := by
  have h127 : (BitVec.ofInt 64 4294967295).toNat = 2 ^ 32 - 1 := by decide
  have key : (BitVec.ofInt 64 n &&& BitVec.ofInt 64 4294967295).toNat = (n % ((2 ^ 64 : Nat) : Int)).toNat % 2 ^ 32 := by
    rw [BitVec.toNat_and, BitVec.toNat_ofInt, h127, Nat.and_two_pow_sub_one_eq_mod]
  show IntKind.i64.wrap ((BitVec.ofInt 64 n &&& BitVec.ofInt 64 4294967295).toNat : Nat) = n % 4294967296
  rw [key, IntKind.wrap_i64]
  omega
theorem retI {a b : Int} (h : a = b) : Ending.returned (.int .i64 a) = .returned (.int .i64 b) := by rw [h]
theorem i64_of {x y : Int} (h : x = y) : Value.int .i64 x = .int .i64 y := by rw [h]
theorem u32_of {x y : Int} (h : x = y) : Value.int .u32 x = .int .u32 y := by rw [h]

set_option maxHeartbeats 400000 in
theorem specSum_any (s : ByteArray) (w : World) (hs : s.size ≤ maxLen) :
    Calls Try.prog 37 #[.string s] w fun e w' => e = .returned (.int .i64 (sumB s)) ∧ w' = w := by
  unfold maxLen at hs
  go_enter Try.func37, Try.ntmps37
  go_wp2
  go_loop [3, 4] (fun h i => ∃ k : Nat, k ≤ s.size ∧ i = .int .i64 k ∧ h = .int .i64 (sumAt s k)) (fun h i => s.size - (intOf i).toNat)
  case atStart => exact ⟨0, Nat.zero_le _, rfl, by rw [sum_zero]; rfl⟩
  case round =>
    obtain ⟨k, hk, rfl, rfl⟩ := hrel
    by_cases hlt : k < s.size
    · have hlt' : (k : Int) < s.size := by omega
      have hup := sum_up hlt
      have hx0 := sumAt_lt s k
      generalize sumAt s k = x at hup hx0 ⊢
      have hc : s[k].toNat < 256 := s[k].toNat_lt
      unfold stepU at hup
      have hb := i64_xor x s[k].toNat hx0 (by omega)
      have hy0 := xor_lt hx0 hc
      generalize x ^^^ s[k].toNat = y at hup hb hy0
      have ha := i64_and32 ((y : Int) * 16777619)
      have HU : Hid (sumAt s (k + 1) = y * 16777619 % 4294967296) := hup
      clear hup
      go_wp2
      go_round
      case rel => exact ⟨k + 1, by omega, by go_num, i64_of (by rw [HU.out]; omega)⟩
      case measure => simp [intOf]; omega
    · have hge : ¬ (k : Int) < s.size := by omega
      obtain rfl : k = s.size := by omega
      have HE : Hid (sumAt s s.size = sumB s) := sum_all s
      go_wp2
      go_ret
      exact ⟨retI (by rw [HE.out]), rfl⟩

set_option maxHeartbeats 400000 in
theorem implSum_any (s : ByteArray) (w : World) (hs : s.size ≤ maxLen) :
    Calls Try.prog 43 #[.string s] w fun e w' => e = .returned (.int .i64 (sumB s)) ∧ w' = w := by
  unfold maxLen at hs
  go_enter Try.func43, Try.ntmps43
  go_wp2
  go_loop [3, 7] (fun h i => ∃ k : Nat, k ≤ s.size ∧ i = .int .i64 k ∧ h = .int .u32 (sumAt s k)) (fun h i => s.size - (intOf i).toNat)
  case atStart => exact ⟨0, Nat.zero_le _, rfl, by rw [sum_zero]; rfl⟩
  case round =>
    obtain ⟨k, hk, rfl, rfl⟩ := hrel
    by_cases hlt : k < s.size
    · have hlt' : (k : Int) < s.size := by omega
      have hup := sum_up hlt
      have hx0 := sumAt_lt s k
      generalize sumAt s k = x at hup hx0 ⊢
      have hc : s[k].toNat < 256 := s[k].toNat_lt
      unfold stepU at hup
      have hb := u32_xor_nat x s[k].toNat hx0 (by omega)
      have hy0 := xor_lt hx0 hc
      generalize x ^^^ s[k].toNat = y at hup hb hy0
      have HU : Hid (sumAt s (k + 1) = y * 16777619 % 4294967296) := hup
      clear hup
      go_wp2
      go_round
      case rel => exact ⟨k + 1, by omega, by go_num, u32_of (by rw [HU.out]; first | omega | (rw [IntKind.wrap_u32]; omega))⟩
      case measure => simp [intOf]; omega
    · have hge : ¬ (k : Int) < s.size := by omega
      obtain rfl : k = s.size := by omega
      have HE : Hid (sumAt s s.size = sumB s) := sum_all s
      have hx0 := sumAt_lt s s.size
      generalize sumAt s s.size = x at HE hx0 ⊢
      go_wp2
      go_ret
      exact ⟨retI (by have := HE.out; first | omega | (rw [IntKind.wrap_i64]; omega)), rfl⟩

def partB (f n : Int) : Int := if n < 1 ∨ f < 0 then 0 else f % n
end Go.Proofs.Ytooninmicfcfoaa.Sums
namespace Go.Proofs.Ytooninmicfcfoaa.Fing
open Go.RowKit
open Labs LabS LabO SetP TextS TextI Sums
open Over

def foldB (x : Nat) : Nat := (x ^^^ (x / 65536)) % 32
def fingerB (l : List Lab) : Nat := foldB (sumB (setText l))
theorem foldB_lt (x : Nat) : foldB x < 32 := Nat.mod_lt _ (by decide)
theorem finger_lt (l : List Lab) : fingerB l < 32 := foldB_lt _
theorem text_max (l : List Lab) : (setText l).size ≤ maxLen := by have := setText_size l; unfold maxLen; omega

set_option maxHeartbeats 400000 in
theorem specFinger_any (a : Option Addr) (cap : Nat) (l : List Lab) (w : World) (hr : Reads w a l) (hl : l.length ≤ maxLen) (hz : Fits l) :
    Calls Try.prog 18 #[.slice a l.length cap] w fun e w' => e = .returned (.int .i64 (fingerB l)) ∧ Below w.heap.size w w' := by
  have HC : Hid (Calls Try.prog 38 #[.slice a l.length cap] w fun e w' => e = .returned (.string (setText l)) ∧ Below w.heap.size w w') := specText_any a cap l w hr hl hz
  have HT := hidL (text_max l)
  have HF : Hid (fingerB l = foldB (sumB (setText l))) := rfl
  clear hr hl hz
  generalize setText l = t at HC HT HF
  go_enter Try.func18, Try.ntmps18
  go_wp2_with fail
  refine HC.out.mono ?_
  rintro e w1 ⟨rfl, hb⟩
  have HB : Hid (Below w.heap.size w w1) := hb
  clear hb
  go_wp2_with fail
  refine (specSum_any t _ HT.out).mono ?_
  rintro e w2 ⟨rfl, rfl⟩
  have hx0 := sumB_lt t
  generalize sumB t = x at HF hx0 ⊢
  have hq := i64_xor x (x / 65536) hx0 (by omega)
  have hy0 : x ^^^ (x / 65536) < 4294967296 := Nat.xor_lt_two_pow (n := 32) hx0 (by omega)
  unfold foldB at HF
  generalize x ^^^ (x / 65536) = y at HF hq hy0
  have hq' : bits .xor .i64 (x : Int) ((x : Int) / 65536) = (y : Int) := by rw [← hq]; simp
  clear hq
  go_wp2
  go_ret
  exact ⟨retI (by rw [HF.out]; omega), HB.out⟩
set_option maxHeartbeats 400000 in
theorem implFinger_any (a : Option Addr) (cap : Nat) (l : List Lab) (w : World) (hr : Reads w a l) (hl : l.length ≤ maxLen) (hz : Fits l) :
    Calls Try.prog 25 #[.slice a l.length cap] w fun e w' => e = .returned (.int .i64 (fingerB l)) ∧ Below w.heap.size w w' := by
  have HC : Hid (Calls Try.prog 44 #[.slice a l.length cap] w fun e w' => e = .returned (.string (setText l)) ∧ Below w.heap.size w w') := implText_any a cap l w hr hl hz
  have HT := hidL (text_max l)
  have HF : Hid (fingerB l = foldB (sumB (setText l))) := rfl
  clear hr hl hz
  generalize setText l = t at HC HT HF
  go_enter Try.func25, Try.ntmps25
  go_wp2_with fail
  refine HC.out.mono ?_
  rintro e w1 ⟨rfl, hb⟩
  have HB : Hid (Below w.heap.size w w1) := hb
  clear hb
  go_wp2_with fail
  refine (implSum_any t _ HT.out).mono ?_
  rintro e w2 ⟨rfl, rfl⟩
  have hx0 := sumB_lt t
  generalize sumB t = x at HF hx0 ⊢
  have hq := i64_xor x (x / 65536) hx0 (by omega)
  have hy0 : x ^^^ (x / 65536) < 4294967296 := Nat.xor_lt_two_pow (n := 32) hx0 (by omega)
  unfold foldB at HF
  generalize x ^^^ (x / 65536) = y at HF hq hy0
  have hq' : bits .xor .i64 (x : Int) ((x : Int) / 65536) = (y : Int) := by rw [← hq]; simp
  clear hq
  go_wp2
  go_ret
  exact ⟨retI (by rw [HF.out]; omega), HB.out⟩

theorem retB {a b : Bool} (h : a = b) : Ending.returned (.bool a) = .returned (.bool b) := by rw [h]
end Go.Proofs.Ytooninmicfcfoaa.Fing
namespace Go.Proofs.Ytooninmicfcfoaa.ChnO
open Go.RowKit
open Labs LabS Alms AlmS Over Blk Rnd Plc Lop App Rws ChnI
open Fing (fingerB)
open StrB (retB)
attribute [local go_sem] Oper.semAt_some

def okC (f : Int) (P : List PAl) (i : Nat) : Bool := alarmB (nthP P i).l (nthP P i).s (nthP P i).e (nthP P i).n && (decide ((fingerB (nthP P i).l : Int) = f) && decide (idxB P (nthP P i).l = (i : Int)))
def chainB (f : Int) (P : List PAl) : Bool := (List.range P.length).all (okC f P) && decide (0 < P.length)
theorem okC_y {f : Int} {P : List PAl} {i : Nat} (h1 : alarmB (nthP P i).l (nthP P i).s (nthP P i).e (nthP P i).n = true) (h2 : (fingerB (nthP P i).l : Int) = f) (h3 : idxB P (nthP P i).l = (i : Int)) : okC f P i = true := by simp [okC, h1, h2, h3]
end Go.Proofs.Ytooninmicfcfoaa.ChnO
namespace Go.Proofs.Ytooninmicfcfoaa.ChnS
open Go.RowKit
open Labs LabS Alms AlmS Over Blk Rws ChnI ChnO
open Fing (fingerB)
open StrB (retB)
open Alm (at_par)

set_option maxHeartbeats 1600000 in
theorem specIn_any (f : Int) (a a' : Option Addr) (cap cap' : Nat) (P : List PAl) (q : List Lab) (w : World) (hr : RdA w a P) (hr' : Reads w a' q) (hl : P.length ≤ 1048576) (hs : LenP P) (hq : q.length ≤ maxLen) :
    Calls Try.prog 39 #[.agg #[.int .i64 f, .slice a P.length cap], .slice a' q.length cap'] w fun e w' => e = .returned (.int .i64 (idxB P q)) ∧ Below w.heap.size w w' := by
  have HR : Hid (RdA w a P ∧ Reads w a' q ∧ LenP P ∧ q.length ≤ maxLen) := ⟨hr, hr', hs, hq⟩
  clear hr hr' hs hq
  go_enter Try.func39, Try.ntmps39
  go_wp2
  go_loopw [5] (fun i w' => ∃ k : Nat, i = .int .i64 k ∧ k ≤ P.length ∧ (∀ j, j < k → (nthP P j).l ≠ q) ∧ Below (w.alloc (.cells #[.int .i64 f, .slice a P.length cap] 51)).heap.size (w.alloc (.cells #[.int .i64 f, .slice a P.length cap] 51)) w') (fun i _ => P.length - (intOf i).toNat)
  case atStart => exact ⟨0, rfl, Nat.zero_le _, fun j h => by omega, Below.refl _ _⟩
  case round =>
    obtain ⟨k, rfl, hk, hu, hw⟩ := hrel
    have HU : Hid (∀ j, j < k → (nthP P j).l ≠ q) := hu
    have c1 : wr.cell? ⟨w.heap.size, 1, none⟩ = some (.slice a P.length cap) := at_par hw 1 rfl
    have HB0 : Hid (Below (w.alloc (.cells #[.int .i64 f, .slice a P.length cap] 51)).heap.size (w.alloc (.cells #[.int .i64 f, .slice a P.length cap] 51)) wr) := hw
    have HB : Hid (Below w.heap.size w wr) := grow_on (Go.Joins.below_alloc1 w _) hw
    clear hu hw
    by_cases hlt : k < P.length
    · have hlt' : (k : Int) < (P.length : Int) := by omega
      obtain ⟨b, off, rfl, hb, ad, cp, hat⟩ := (HR.out.1.below HB.out).get hlt
      have h2 := hat.c0
      have HC1 : Hid (Calls Try.prog 60 #[.slice ad (nthP P k).l.length cp, .slice a' q.length cap'] wr fun e w' => e = .returned (.bool (decide ((nthP P k).l = q))) ∧ Below wr.heap.size wr w') := calls_drew (specSame_any _ _ _ _ _ _ wr hat.reads (HR.out.2.1.below HB.out) (HR.out.2.2.1 k hlt) HR.out.2.2.2)
      clear hat
      by_cases he : (nthP P k).l = q
      · have HY : Hid (idxB P q = (k : Int)) := idx_hit HU.out he hlt
        have hd : decide ((nthP P k).l = q) = true := decide_eq_true he
        clear he
        go_wp2_with fail
        refine HC1.out.mono ?_
        rintro e w1 ⟨rfl, hb1⟩
        have HB1 : Hid (Below w.heap.size w w1) := grow_on HB.out hb1
        clear hb1
        go_wp2
        go_ret
        exact ⟨ChnI.retI HY.out.symm, HB1.out⟩
      · have HU1 : Hid (∀ j, j < k + 1 → (nthP P j).l ≠ q) := fun j hj => by
          by_cases e : j = k
          · subst e; exact he
          · exact HU.out j (by omega)
        have hd : decide ((nthP P k).l = q) = false := decide_eq_false he
        clear he
        go_wp2_with fail
        refine HC1.out.mono ?_
        rintro e w1 ⟨rfl, hb1⟩
        have HB1 : Hid (Below (w.alloc (.cells #[.int .i64 f, .slice (some ⟨b, off, none⟩) P.length cap] 51)).heap.size (w.alloc (.cells #[.int .i64 f, .slice (some ⟨b, off, none⟩) P.length cap] 51)) w1) := grow_on HB0.out hb1
        clear hb1 c1 h2
        go_wp2
        go_roundw
        case rel => exact ⟨k + 1, by go_num, by omega, HU1.out, HB1.out⟩
        case measure => simp [intOf]; omega
    · have hge : ¬ (k : Int) < (P.length : Int) := by omega
      have HN : Hid (idxB P q = -1) := idx_miss fun j hj => HU.out j (by omega)
      go_wp2
      go_ret
      exact ⟨ChnI.retI HN.out.symm, HB.out⟩

theorem ok_first {f : Int} {P : List PAl} {i : Nat} (hi : i < P.length) (h1 : alarmB (nthP P i).l (nthP P i).s (nthP P i).e (nthP P i).n = true) (h2 : (fingerB (nthP P i).l : Int) = f) (h3 : ∀ j, j < i → (nthP P j).l ≠ (nthP P i).l) : okC f P i = true := okC_y h1 h2 (idx_hit h3 rfl hi)
end Go.Proofs.Ytooninmicfcfoaa.ChnS
namespace Go.Proofs.Ytooninmicfcfoaa.ChnT
open Go.RowKit
open Labs LabS Alms AlmS AlmM Over Blk App Rws ChnI ChnC ChnP ChnD ChnS
open StrB (retB)
open Alm (at_par)

end Go.Proofs.Ytooninmicfcfoaa.ChnT
namespace Go.Proofs.Ytooninmicfcfoaa.ChnU
open Go.RowKit
open Labs LabS Alms AlmS AlmM Over Blk App Rws ChnI ChnC ChnP ChnD ChnS ChnT

set_option maxHeartbeats 1600000 in
theorem l6Copy_any (f : Int) (a : Option Addr) (cap : Nat) (P : List PAl) (w : World) (hr : RdN w a P) (hl : P.length ≤ 1048576) (hs : LenM P) :
    Calls Try.prog 36 #[.agg #[.int .i64 f, .slice a P.length cap]] w fun e w' => (∃ M c rs, e = .returned (.agg #[.int .i64 f, .slice (some ⟨M, 0, none⟩) rs.length c]) ∧ AB (w.heap.size + 2) w' M c rs ∧ pals rs = P) ∧ Below w.heap.size w w' := by
  have HR : Hid (RdN w a P ∧ LenM P) := ⟨hr, hs⟩
  clear hr hs
  go_enter Try.func36, Try.ntmps36
  go_wp2
  generalize hW0 : (w.alloc (.cells #[.int .i64 f, .slice a P.length cap] 51)).alloc (.cells #[.int .i64 0, .slice none 0 0] 51) = W0
  have C0 : Hid (Blk W0 w.heap.size #[.int .i64 f, .slice a P.length cap] 51) := by rw [← hW0]; exact (Blk.new _ _ _).alloc _
  have R0 : Hid (Blk W0 (w.heap.size + 1) #[.int .i64 0, .slice none 0 0] 51) := by rw [← hW0]; exact Blk.new_at (by simp)
  have HB0 : Hid (Below w.heap.size w W0) := by rw [← hW0]; exact Go.Joins.below_alloc2 w _ _
  have HZ0 : Hid (W0.heap.size = w.heap.size + 2) := by show _ = _; rw [← hW0]; simp
  clear hW0
  have HC : Hid (∀ y, Below W0.heap.size W0 y → Calls Try.prog 58 #[.slice a P.length cap] y fun e w' => (∃ M c rs, e = .returned (.slice (some ⟨M, 0, none⟩) rs.length c) ∧ AB y.heap.size w' M c rs ∧ pals rs = P) ∧ Below y.heap.size y w') := fun y hy => l4All_any a cap P y (HR.out.1.below (grow_on HB0.out hy)) hl HR.out.2
  have HS : Hid (∀ w', Blk w' w.heap.size #[.int .i64 f, .slice a P.length cap] 51 → w'.cell? ⟨w.heap.size, 0, none⟩ = some (.int .i64 f) ∧ w'.cell? ⟨w.heap.size, 1, none⟩ = some (.slice a P.length cap)) := fun w' h => ⟨h.cell 0, h.cell 1⟩
  refine wp_region_held_drew (S := fun w' => w'.cell? ⟨w.heap.size, 0, none⟩ = some (.int .i64 f) ∧ w'.cell? ⟨w.heap.size, 1, none⟩ = some (.slice a P.length cap)) (by kernel_rfl) (HS.out _ C0.out.drew) (fun hHeld => ?_)
  refine wpAnyH_take (i := 0) (oi := { dst := some 3, op := Op.fieldAddr 51 (Operand.tmp 1) 0, type := 0, pos := "l06_chain.go:22", after := #[], guard := none }) (v := ?vc0) rfl (by kernel_rfl) (by kernel_rfl) (by kernel_rfl) (fun _ _ _ h => h) (Or.inl ⟨by rfl, ?hyc0⟩) hHeld ?_
  case hyc0 => (intro w hSw; (try dsimp only at hSw); go_simp <;> with_reducible rfl)
  try simp only [Act.put, List.setIfInBounds_toArray, List.set_cons_zero, List.set_cons_succ]
  refine wpAnyH_take (i := 1) (oi := { dst := some 4, op := Op.load 3 (Operand.tmp 3), type := 3, pos := "l06_chain.go:22", after := #[{ on := 0, ground := Ground.data }], guard := none }) (v := ?vc1) rfl (by kernel_rfl) (by kernel_rfl) (by kernel_rfl) (fun _ _ _ h => h) (Or.inl ⟨by rfl, ?hyc1⟩) hHeld ?_
  case hyc1 => (intro w hSw; (try dsimp only at hSw); go_simp <;> with_reducible rfl)
  try simp only [Act.put, List.setIfInBounds_toArray, List.set_cons_zero, List.set_cons_succ]
  refine wpAnyH_take (i := 2) (oi := { dst := some 5, op := Op.fieldAddr 51 (Operand.tmp 1) 1, type := 0, pos := "l06_chain.go:22", after := #[], guard := none }) (v := ?vc2) rfl (by kernel_rfl) (by kernel_rfl) (by kernel_rfl) (fun _ _ _ h => h) (Or.inl ⟨by rfl, ?hyc2⟩) hHeld ?_
  case hyc2 => (intro w hSw; (try dsimp only at hSw); go_simp <;> with_reducible rfl)
  try simp only [Act.put, List.setIfInBounds_toArray, List.set_cons_zero, List.set_cons_succ]
  refine wpAnyH_take (i := 3) (oi := { dst := some 6, op := Op.load 49 (Operand.tmp 5), type := 49, pos := "l06_chain.go:22", after := #[{ on := 2, ground := Ground.data }], guard := none }) (v := ?vc3) rfl (by kernel_rfl) (by kernel_rfl) (by kernel_rfl) (fun _ _ _ h => h) (Or.inl ⟨by rfl, ?hyc3⟩) hHeld ?_
  case hyc3 => (intro w hSw; (try dsimp only at hSw); go_simp <;> with_reducible rfl)
  try simp only [Act.put, List.setIfInBounds_toArray, List.set_cons_zero, List.set_cons_succ]
  refine wpAnyH_ready (rs := [4]) (by kernel_rfl) (by simp) ?_
  refine AllReadyH.cons (o := { dst := some 7, op := Op.call { callee := Callee.value (Operand.func 58), args := #[Operand.tmp 6], argTypes := #[49] }, type := 49, pos := "l06_chain.go:22", after := #[{ on := 3, ground := Ground.data }], guard := none }) rfl (fun K hK => ?_) AllReadyH.nil
  go_simp
  refine (HC.out _ (Below.refl _ _).drew).mono ?_
  rintro r wyc4 ⟨⟨M, c, rs, rfl, hab, hp⟩, hy⟩
  have HZ : Hid (Below W0.heap.size W0 wyc4) := grow_on (Below.refl _ _).drew hy
  have HAB : Hid (AB (w.heap.size + 2) wyc4 M c rs) := hab.down (by show w.heap.size + 2 ≤ W0.drew.heap.size; have := HZ0.out; simp; omega)
  have HP : Hid (pals rs = P) := hp
  have hR := R0.out.grow HZ.out
  have r0 : wyc4.cell? ⟨w.heap.size + 1, 0, none⟩ = some (.int .i64 0) := hR.cell 0
  have r1 : wyc4.cell? ⟨w.heap.size + 1, 1, none⟩ = some (.slice none 0 0) := hR.cell 1
  have f0 := hR.frozen 0
  have f1 := hR.frozen 1
  clear hy hab hp hR
  clear hHeld
  refine hK.out _ _ (HS.out _ (C0.out.grow HZ.out)) (fun hHeld => ?_)
  clear hK K
  try simp only [Act.put, List.setIfInBounds_toArray, List.set_cons_zero, List.set_cons_succ]
  refine wpAnyH_take (i := 5) (oi := { dst := some 8, op := Op.build 51 #[(0, Operand.tmp 4), (1, Operand.tmp 7)], type := 51, pos := "l06_chain.go:22", after := #[{ on := 1, ground := Ground.data }, { on := 4, ground := Ground.data }], guard := none }) (v := ?vc5) rfl (by kernel_rfl) (by kernel_rfl) (by kernel_rfl) (fun _ _ _ h => h) (Or.inl ⟨by rfl, ?hyc5⟩) hHeld ?_
  case hyc5 => (intro w hSw; (try dsimp only at hSw); go_simp <;> with_reducible rfl)
  try simp only [Act.put, List.setIfInBounds_toArray, List.set_cons_zero, List.set_cons_succ]
  have hne : w.heap.size + 1 ≠ w.heap.size := by omega
  refine wpAnyH_ready (rs := [6]) (by kernel_rfl) (by simp) ?_
  refine AllReadyH.cons (o := { dst := none, op := Op.store 51 (Operand.tmp 2) (Operand.tmp 8), type := 0, pos := "l06_chain.go:22", after := #[{ on := 5, ground := Ground.data }, { on := 4, ground := Ground.chain }, { on := 0, ground := Ground.phase }, { on := 1, ground := Ground.phase }, { on := 2, ground := Ground.phase }, { on := 3, ground := Ground.phase }, { on := 4, ground := Ground.phase }, { on := 5, ground := Ground.phase }], guard := none }) rfl (fun K hK => ?_) AllReadyH.nil
  go_simp
  clear hHeld
  refine hK.out _ _ (HS.out _ (((C0.out.grow HZ.out).set_other hne _).set_other hne _)) (fun hHeld => ?_)
  clear hK K
  try simp only [Act.put, List.setIfInBounds_toArray, List.set_cons_zero, List.set_cons_succ]
  refine wpAnyH_done (by kernel_rfl) ?_ _
  go_wp2
  have hs : Blk ((wyc4.setCell ⟨w.heap.size + 1, 0, none⟩ (.int .i64 f)).setCell ⟨w.heap.size + 1, 1, none⟩ (.slice (some ⟨M, 0, none⟩) rs.length c)) (w.heap.size + 1) #[.int .i64 f, .slice (some ⟨M, 0, none⟩) rs.length c] 51 := ((R0.out.grow HZ.out).set 0 _).set 1 _
  have s0 := hs.cell 0
  have s1 := hs.cell 1
  refine bodyPost_ret (v := .agg #[.int .i64 f, .slice (some ⟨M, 0, none⟩) rs.length c]) (by simp [results, Try.results36, go_sem, s0, s1]) rfl ?_
  exact ⟨⟨M, c, rs, rfl, ab_set2 HAB.out (R0.out.grow HZ.out) _ _, HP.out⟩, ChnP.set2 (grow_on HB0.out HZ.out) (by omega) _ _⟩

set_option maxRecDepth 100000 in
set_option maxHeartbeats 2000000 in
theorem specPut_any (f : Int) (a : Option Addr) (cap : Nat) (P : List PAl) (g o cap' : Nat) (x : PAl) (w : World) (hr : RdN w a P) (hx : Reads w (some ⟨g, o, none⟩) x.l) (hl : P.length ≤ 1048576) (hs : LenM P) (hxl : x.l.length ≤ 1048576) :
    Calls Try.prog 20 #[.agg #[.int .i64 f, .slice a P.length cap], .agg #[.slice (some ⟨g, o, none⟩) x.l.length cap', .int .i64 x.s, .int .i64 x.e, .string x.n]] w fun e w' => (∃ M c rs, e = .returned (.tuple #[.agg #[.int .i64 f, .slice (some ⟨M, 0, none⟩) rs.length c], .bool (isNew P x.l)]) ∧ AB w.heap.size w' M c rs ∧ pals rs = putL P x) ∧ Below w.heap.size w w' := by
  have HR : Hid (RdN w a P ∧ Reads w (some ⟨g, o, none⟩) x.l) := ⟨hr, hx⟩
  have HS : Hid (LenM P ∧ x.l.length ≤ 1048576) := ⟨hs, hxl⟩
  clear hr hx hs hxl
  obtain ⟨i0, hi, hz0, hz1, hz2⟩ := info_parts infoA
  go_enter Try.func20, Try.ntmps20
  go_wp2_with fail
  refine (l6Copy_any f a cap P _ (HR.out.1.below (Alm.below3 w _ _ _)) hl HS.out.1).mono ?_
  rintro e w1 ⟨⟨M, c, rs, rfl, hAB, hP⟩, hb⟩
  have C1 : Hid (Blk w1 w.heap.size #[.int .i64 f, .slice a P.length cap] 51) := (((Blk.new _ _ _).alloc _).alloc _).grow hb
  have A1 : Hid (Blk w1 (w.heap.size + 1) #[.slice (some ⟨g, o, none⟩) x.l.length cap', .int .i64 x.s, .int .i64 x.e, .string x.n] 38) := ((Blk.new_at (by simp)).alloc _).grow hb
  have R1 : Hid (Blk w1 (w.heap.size + 1 + 1) #[.int .i64 0, .slice none 0 0] 51) := (Blk.new_at (by simp)).grow hb
  have HB1 : Hid (Below w.heap.size w w1) := grow_on (Alm.below3 w _ _ _) hb
  have HAB1 : Hid (AB w.heap.size w1 M c rs) := hAB.down (by simp; omega)
  have HM : Hid (w.heap.size + 3 ≤ M) := by have := hAB.at'; simp at this; show _ ≤ _; omega
  have HP : Hid (pals rs = P) := hP
  have HRl : Hid (rs.length = P.length) := by show _ = _; rw [← pals_len, hP]
  have hrl : rs.length ≤ 1048576 := by have := HRl.out; omega
  clear hb hAB hP
  generalize hDo : Obj.cells #[.int .i64 f, .slice (some ⟨M, 0, none⟩) rs.length c] 51 = Do
  have cC0 : (w1.alloc Do).cell? ⟨w.heap.size, 0, none⟩ = some (.int .i64 f) := (C1.out.alloc _).cell 0
  have cC1 : (w1.alloc Do).cell? ⟨w.heap.size, 1, none⟩ = some (.slice a P.length cap) := (C1.out.alloc _).cell 1
  have cA0 : (w1.alloc Do).cell? ⟨w.heap.size + 1, 0, none⟩ = some (.slice (some ⟨g, o, none⟩) x.l.length cap') := (A1.out.alloc _).cell 0
  subst hDo
  rcases idx_cases P x.l with ⟨hq, hm⟩ | ⟨k, hq, hk, he, hj⟩
  · have HN : Hid (true = isNew P x.l) := (put_miss hm).2.symm
    have HPP : Hid (∀ M c, pals (rs ++ [(M, c, x)]) = putL P x) := fun M c => by rw [pals_app, HP.out, (put_miss hm).1]
    clear hm
    have HI : Hid (∀ y, Below w1.heap.size w1 y → Calls Try.prog 39 #[.agg #[.int .i64 f, .slice a P.length cap], .slice (some ⟨g, o, none⟩) x.l.length cap'] y fun e w' => e = .returned (.int .i64 (-1)) ∧ Below y.heap.size y w') := fun y hy => (specIn_any f a _ cap _ P x.l y (HR.out.1.rd.below (grow_on HB1.out hy)) (HR.out.2.below (grow_on HB1.out hy)) hl (len_m HS.out.1) (by have := HS.out.2; unfold maxLen; omega)).mono fun e w' h => ⟨h.1.trans (ChnI.retI hq), h.2⟩
    go_wp2_with fail
    refine (HI.out _ (Go.Joins.below_alloc1 w1 _)).mono ?_
    rintro e w2 ⟨rfl, hb⟩
    clear cC0 cC1 cA0 HI hq
    have D2 : Hid (Blk w2 w1.heap.size #[.int .i64 f, .slice (some ⟨M, 0, none⟩) rs.length c] 51) := (Blk.new _ _ _).grow hb
    have hb' := grow_on (Go.Joins.below_alloc1 w1 _) hb
    have C2 : Hid (Blk w2 w.heap.size #[.int .i64 f, .slice a P.length cap] 51) := C1.out.grow hb'
    have A2 : Hid (Blk w2 (w.heap.size + 1) #[.slice (some ⟨g, o, none⟩) x.l.length cap', .int .i64 x.s, .int .i64 x.e, .string x.n] 38) := A1.out.grow hb'
    have R2 : Hid (Blk w2 (w.heap.size + 1 + 1) #[.int .i64 0, .slice none 0 0] 51) := R1.out.grow hb'
    have HB2 : Hid (Below w.heap.size w w2) := grow_on HB1.out hb'
    have HAB2 : Hid (AB w.heap.size w2 M c rs) := HAB1.out.grow hb'
    have HW : Hid (w.heap.size + 3 ≤ w1.heap.size ∧ w1.heap.size < w2.heap.size) := ⟨by have := R1.out.lt; omega, D2.out.lt⟩
    clear hb hb' C1 A1 R1
    have a0 : w2.cell? ⟨w.heap.size + 1, 0, none⟩ = some (.slice (some ⟨g, o, none⟩) x.l.length cap') := A2.out.cell 0
    have a1 : w2.cell? ⟨w.heap.size + 1, 1, none⟩ = some (.int .i64 x.s) := A2.out.cell 1
    have a2 : w2.cell? ⟨w.heap.size + 1, 2, none⟩ = some (.int .i64 x.e) := A2.out.cell 2
    have a3 : w2.cell? ⟨w.heap.size + 1, 3, none⟩ = some (.string x.n) := A2.out.cell 3
    go_wp2_with fail
    refine (copyS_any g o cap' x.l x.s x.e x.n w2 (HR.out.2.below HB2.out) HS.out.2).mono ?_
    rintro e w3 ⟨⟨Mx, cx, rfl, hO⟩, hb⟩
    have D3 : Hid (Blk w3 w1.heap.size #[.int .i64 f, .slice (some ⟨M, 0, none⟩) rs.length c] 51) := D2.out.grow hb
    have R3 : Hid (Blk w3 (w.heap.size + 1 + 1) #[.int .i64 0, .slice none 0 0] 51) := R2.out.grow hb
    have HB3 : Hid (Below w.heap.size w w3) := grow_on HB2.out hb
    have HAB3 : Hid (AB w.heap.size w3 M c rs) := HAB2.out.grow hb
    have HO : Hid (OwnA w.heap.size w3 (Mx, cx, x) ∧ w2.heap.size ≤ Mx) := ⟨(own_of_copy hO HS.out.2).down HB2.out.size, hO.1⟩
    have HW3 : Hid (w.heap.size + 3 ≤ w1.heap.size ∧ w1.heap.size < w3.heap.size ∧ w2.heap.size ≤ w3.heap.size) := ⟨HW.out.1, D3.out.lt, hb.size⟩
    obtain ⟨xs, hox, hxl, hxs⟩ := HAB3.out.own
    have HOX : Hid (∀ o1 o2, ((w3.alloc o1).alloc o2).ownsRow w.heap.size 38 4 (.slice (some ⟨M, 0, none⟩) rs.length c) rs.length xs) := fun o1 o2 => own_grow hox (Go.Joins.below_alloc2 w3 o1 o2)
    have HXS : Hid (xs.length = rs.length * 4 ∧ ∀ i, i < rs.length → Four (fun k => xs[k]?) i (nthA rs i)) := ⟨hxl, hxs⟩
    generalize hNo : Obj.cells #[.slice (some ⟨Mx, 0, none⟩) x.l.length cx, .int .i64 x.s, .int .i64 x.e, .string x.n] 38 = No
    have d1 : (w3.alloc No).cell? ⟨w1.heap.size, 1, none⟩ = some (.slice (some ⟨M, 0, none⟩) rs.length c) := (D3.out.alloc _).cell 1
    subst hNo
    clear hb hO hox hxl hxs a0 a1 a2 a3
    go_wp2_with (at_builtin; refine wpList_append_own_at _ rfl _ _ 49 rfl w.heap.size 38 i0 (.agg #[.slice none 0 0, .int .i64 0, .int .i64 0, .string ByteArray.empty]) 4 56 Try.underlying49 hi hz0 hz1 hz2 rfl (by decide) _ _ _ rfl (HOX.out _ _) ⟨w3.heap.size + 1, 0, none⟩ 1 1 (rowV (Mx, cx, x)) rfl rfl ?c1 (row_one _) ?c3 ?c4 ?c5 ?_)
    case c1 => exact blk_news (Blk.new_at (by simp))
    case c3 => unfold maxLen; omega
    case c4 => omega
    case c5 => have := HB3.out.size; simp; omega
    intro v' w4 hown hg hnil hat
    have hU := Go.Joins.below_alloc2 w3 (.cells #[.slice (some ⟨Mx, 0, none⟩) x.l.length cx, .int .i64 x.s, .int .i64 x.e, .string x.n] 38) (.cells #[.slice (some ⟨Mx, 0, none⟩) x.l.length cx, .int .i64 x.s, .int .i64 x.e, .string x.n] 38)
    obtain ⟨M3, c3, rfl, hAB4⟩ := (HAB3.out.grow hU).app (HO.out.1.grow hU) (fun y hy => by have := (HAB2.out.rows y hy).lt; have := HO.out.2; show y.1 ≠ Mx; omega) HXS.out.1 HXS.out.2 hown hg
    obtain ⟨cu, hcu, _⟩ := (HAB3.out.grow hU).outer
    have D4 : Hid (Blk w4 w1.heap.size #[.int .i64 f, .slice (some ⟨M, 0, none⟩) rs.length c] 51) := blk_far (D3.out.grow hU) hg (fun e => chain_alarm (D3.out.grow hU) hcu (Option.some.inj e))
    have R4 : Hid (Blk w4 (w.heap.size + 1 + 1) #[.int .i64 0, .slice none 0 0] 51) := blk_far (R3.out.grow hU) hg (fun e => chain_alarm (R3.out.grow hU) hcu (Option.some.inj e))
    have HAB4 : Hid (AB w.heap.size w4 M3 c3 (rs ++ [(Mx, cx, x)])) := hAB4
    have HB4 : Hid (Below w.heap.size w w4) := (grow_on HB3.out hU).grown hg (by have := HB3.out.size; simp; omega) (fun k e => by have h : M = k := Option.some.inj e; have := HM.out; omega)
    have d4 : w4.cell? ⟨w1.heap.size, 1, none⟩ = some (.slice (some ⟨M, 0, none⟩) rs.length c) := D4.out.cell 1
    have fd4 := D4.out.frozen 1
    clear hown hg hnil hat hAB4 hcu hU d1
    go_upto_region 6 with fail
    clear D3 R3 HAB3 HB3
    have D3 : Hid (Blk (w4.setCell ⟨w1.heap.size, 1, none⟩ (.slice (some ⟨M3, 0, none⟩) (rs.length + 1) c3)) w1.heap.size #[.int .i64 f, .slice (some ⟨M3, 0, none⟩) (rs.length + 1) c3] 51) := D4.out.set 1 _
    have R3 : Hid (Blk (w4.setCell ⟨w1.heap.size, 1, none⟩ (.slice (some ⟨M3, 0, none⟩) (rs.length + 1) c3)) (w.heap.size + 1 + 1) #[.int .i64 0, .slice none 0 0] 51) := R4.out.set_other (by have := HW.out; show w1.heap.size ≠ w.heap.size + 1 + 1; omega) _
    have HAB3 : Hid (AB w.heap.size (w4.setCell ⟨w1.heap.size, 1, none⟩ (.slice (some ⟨M3, 0, none⟩) (rs.length + 1) c3)) M3 c3 (rs ++ [(Mx, cx, x)])) := ab_set1 HAB4.out D4.out _ _
    have HB3 : Hid (Below w.heap.size w (w4.setCell ⟨w1.heap.size, 1, none⟩ (.slice (some ⟨M3, 0, none⟩) (rs.length + 1) c3))) := set_low HB4.out (by have := HW.out; omega) _ _
    clear D4 R4 HAB4 HB4 d4 fd4
    generalize w4.setCell ⟨w1.heap.size, 1, none⟩ (.slice (some ⟨M3, 0, none⟩) (rs.length + 1) c3) = W3 at *
    have c0 : W3.cell? ⟨w1.heap.size, 0, none⟩ = some (.int .i64 f) := D3.out.cell 0
    have c1 : W3.cell? ⟨w1.heap.size, 1, none⟩ = some (.slice (some ⟨M3, 0, none⟩) (rs.length + 1) c3) := D3.out.cell 1
    have r0 : W3.cell? ⟨w.heap.size + 1 + 1, 0, none⟩ = some (.int .i64 0) := R3.out.cell 0
    have r1 : W3.cell? ⟨w.heap.size + 1 + 1, 1, none⟩ = some (.slice none 0 0) := R3.out.cell 1
    have f0 := R3.out.frozen 0
    have f1 := R3.out.frozen 1
    go_wp2
    have hs : Blk ((W3.setCell ⟨w.heap.size + 1 + 1, 0, none⟩ (.int .i64 f)).setCell ⟨w.heap.size + 1 + 1, 1, none⟩ (.slice (some ⟨M3, 0, none⟩) (rs.length + 1) c3)) (w.heap.size + 1 + 1) #[.int .i64 f, .slice (some ⟨M3, 0, none⟩) (rs.length + 1) c3] 51 := (R3.out.set 0 _).set 1 _
    have s0 := hs.cell 0
    have s1 := hs.cell 1
    refine bodyPost_ret (v := .tuple #[.agg #[.int .i64 f, .slice (some ⟨M3, 0, none⟩) (rs.length + 1) c3], .bool true]) (by simp [results, Try.results20, go_sem, s0, s1]) rfl ?_
    exact ⟨⟨M3, c3, rs ++ [(Mx, cx, x)], retC (by simp) HN.out, ab_set2 HAB3.out R3.out _ _, HPP.out _ _⟩, ChnP.set2 HB3.out (by omega) _ _⟩
  · have HN : Hid (false = isNew P x.l) := (put_hit hj he hk).2.symm
    have HPP : Hid (∀ M c, pals (putA rs k (M, c, mergeX (nthP P k) x)) = putL P x) := fun M c => by rw [pals_put, HP.out, (put_hit hj he hk).1]
    clear hj he
    have HI : Hid (∀ y, Below w1.heap.size w1 y → Calls Try.prog 39 #[.agg #[.int .i64 f, .slice a P.length cap], .slice (some ⟨g, o, none⟩) x.l.length cap'] y fun e w' => e = .returned (.int .i64 (k)) ∧ Below y.heap.size y w') := fun y hy => (specIn_any f a _ cap _ P x.l y (HR.out.1.rd.below (grow_on HB1.out hy)) (HR.out.2.below (grow_on HB1.out hy)) hl (len_m HS.out.1) (by have := HS.out.2; unfold maxLen; omega)).mono fun e w' h => ⟨h.1.trans (ChnI.retI hq), h.2⟩
    go_wp2_with fail
    refine (HI.out _ (Go.Joins.below_alloc1 w1 _)).mono ?_
    rintro e w2 ⟨rfl, hb⟩
    clear cC0 cC1 cA0 HI hq
    have D2 : Hid (Blk w2 w1.heap.size #[.int .i64 f, .slice (some ⟨M, 0, none⟩) rs.length c] 51) := (Blk.new _ _ _).grow hb
    have hb' := grow_on (Go.Joins.below_alloc1 w1 _) hb
    have C2 : Hid (Blk w2 w.heap.size #[.int .i64 f, .slice a P.length cap] 51) := C1.out.grow hb'
    have A2 : Hid (Blk w2 (w.heap.size + 1) #[.slice (some ⟨g, o, none⟩) x.l.length cap', .int .i64 x.s, .int .i64 x.e, .string x.n] 38) := A1.out.grow hb'
    have R2 : Hid (Blk w2 (w.heap.size + 1 + 1) #[.int .i64 0, .slice none 0 0] 51) := R1.out.grow hb'
    have HB2 : Hid (Below w.heap.size w w2) := grow_on HB1.out hb'
    have HAB2 : Hid (AB w.heap.size w2 M c rs) := HAB1.out.grow hb'
    have HW : Hid (w.heap.size + 3 ≤ w1.heap.size ∧ w1.heap.size < w2.heap.size) := ⟨by have := R1.out.lt; omega, D2.out.lt⟩
    clear hb hb' C1 A1 R1
    obtain ⟨b, off, rfl, hb, gd, od, cp, hat⟩ := HR.out.1.get hk
    have b0 := hat.c0
    have b1 := hat.c1
    have b2 := hat.c2
    have b3 := hat.c3
    have HBB : Hid (b < w.heap.size) := hb
    have hk0 : ¬ (k : Int) < 0 := by omega
    have hk1 : (k : Int) < (P.length : Int) := by omega
    have hk2 : (0 : Int) ≤ (k : Int) := by omega
    have HC : Hid (∀ y, Below w2.heap.size w2 y → Calls Try.prog 40 #[.agg #[.slice (some ⟨gd, od, none⟩) (nthP P k).l.length cp, .int .i64 (nthP P k).s, .int .i64 (nthP P k).e, .string (nthP P k).n], .agg #[.slice (some ⟨g, o, none⟩) x.l.length cap', .int .i64 x.s, .int .i64 x.e, .string x.n]] y fun r w' => (∃ Mx cx, r = .returned (.agg #[.slice (some ⟨Mx, 0, none⟩) x.l.length cx, .int .i64 (startB (nthP P k).s (nthP P k).e x.s x.e), .int .i64 x.e, .string x.n]) ∧ LabR.Own y w' Mx x.l) ∧ Below y.heap.size y w') := fun y hy => specMerge_any _ _ _ _ _ _ _ _ _ _ _ _ _ y (HR.out.2.below (grow_on HB2.out hy)) HS.out.2
    go_wp2
    have HSB : Hid (∀ w', Blk w' w.heap.size #[.int .i64 f, .slice (some ⟨b, off, none⟩) P.length cap] 51 → Below w.heap.size w w' → Blk w' (w.heap.size + 1) #[.slice (some ⟨g, o, none⟩) x.l.length cap', .int .i64 x.s, .int .i64 x.e, .string x.n] 38 → w'.cell? ⟨w.heap.size, 1, none⟩ = some (.slice (some ⟨b, off, none⟩) P.length cap) ∧ w'.cell? ⟨b, off + k * 4, none⟩ = some (.slice (some ⟨gd, od, none⟩) (nthP P k).l.length cp) ∧ w'.cell? ⟨b, off + k * 4 + 1, none⟩ = some (.int .i64 (nthP P k).s) ∧ w'.cell? ⟨b, off + k * 4 + 2, none⟩ = some (.int .i64 (nthP P k).e) ∧ w'.cell? ⟨b, off + k * 4 + 3, none⟩ = some (.string (nthP P k).n) ∧ w'.cell? ⟨w.heap.size + 1, 0, none⟩ = some (.slice (some ⟨g, o, none⟩) x.l.length cap') ∧ w'.cell? ⟨w.heap.size + 1, 1, none⟩ = some (.int .i64 x.s) ∧ w'.cell? ⟨w.heap.size + 1, 2, none⟩ = some (.int .i64 x.e) ∧ w'.cell? ⟨w.heap.size + 1, 3, none⟩ = some (.string x.n)) := fun w' q hw k => ⟨q.cell 1, (hw.cell hb).trans b0, (hw.cell hb).trans b1, (hw.cell hb).trans b2, (hw.cell hb).trans b3, k.cell 0, k.cell 1, k.cell 2, k.cell 3⟩
    clear hat b0 b1 b2 b3 hb
    refine wp_region_held_drew (S := fun w' => w'.cell? ⟨w.heap.size, 1, none⟩ = some (.slice (some ⟨b, off, none⟩) P.length cap) ∧ w'.cell? ⟨b, off + k * 4, none⟩ = some (.slice (some ⟨gd, od, none⟩) (nthP P k).l.length cp) ∧ w'.cell? ⟨b, off + k * 4 + 1, none⟩ = some (.int .i64 (nthP P k).s) ∧ w'.cell? ⟨b, off + k * 4 + 2, none⟩ = some (.int .i64 (nthP P k).e) ∧ w'.cell? ⟨b, off + k * 4 + 3, none⟩ = some (.string (nthP P k).n) ∧ w'.cell? ⟨w.heap.size + 1, 0, none⟩ = some (.slice (some ⟨g, o, none⟩) x.l.length cap') ∧ w'.cell? ⟨w.heap.size + 1, 1, none⟩ = some (.int .i64 x.s) ∧ w'.cell? ⟨w.heap.size + 1, 2, none⟩ = some (.int .i64 x.e) ∧ w'.cell? ⟨w.heap.size + 1, 3, none⟩ = some (.string x.n)) (by kernel_rfl) (HSB.out _ C2.out.drew HB2.out.drew A2.out.drew) (fun hHeld => ?_)
    refine wpAnyH_take (i := 0) (oi := { dst := some 27, op := Op.fieldAddr 51 (Operand.tmp 2) 1, type := 0, pos := "l06_chain.go:42", after := #[], guard := none }) (v := ?vh1) rfl (by kernel_rfl) (by kernel_rfl) (by kernel_rfl) (fun _ _ _ h => h) (Or.inl ⟨by rfl, ?hyh1⟩) hHeld ?_
    case hyh1 => (intro w hSw; (try dsimp only at hSw); go_simp <;> with_reducible rfl)
    try simp only [Act.put, List.setIfInBounds_toArray, List.set_cons_zero, List.set_cons_succ]
    refine wpAnyH_take (i := 1) (oi := { dst := some 28, op := Op.load 49 (Operand.tmp 27), type := 49, pos := "l06_chain.go:42", after := #[{ on := 0, ground := Ground.data }], guard := none }) (v := ?vh2) rfl (by kernel_rfl) (by kernel_rfl) (by kernel_rfl) (fun _ _ _ h => h) (Or.inl ⟨by rfl, ?hyh2⟩) hHeld ?_
    case hyh2 => (intro w hSw; (try dsimp only at hSw); go_simp <;> with_reducible rfl)
    try simp only [Act.put, List.setIfInBounds_toArray, List.set_cons_zero, List.set_cons_succ]
    refine wpAnyH_take (i := 2) (oi := { dst := some 29, op := Op.move (Operand.tmp 7), type := 3, pos := "l06_chain.go:42", after := #[], guard := none }) (v := ?vh3) rfl (by kernel_rfl) (by kernel_rfl) (by kernel_rfl) (fun _ _ _ h => h) (Or.inl ⟨by rfl, ?hyh3⟩) hHeld ?_
    case hyh3 => (intro w hSw; (try dsimp only at hSw); go_simp <;> with_reducible rfl)
    try simp only [Act.put, List.setIfInBounds_toArray, List.set_cons_zero, List.set_cons_succ]
    refine wpAnyH_take (i := 3) (oi := { dst := some 30, op := Op.indexAddr 49 (Operand.tmp 28) (Operand.tmp 29), type := 0, pos := "l06_chain.go:42", after := #[{ on := 1, ground := Ground.data }, { on := 2, ground := Ground.data }], guard := none }) (v := ?vh4) rfl (by kernel_rfl) (by kernel_rfl) (by kernel_rfl) (fun _ _ _ h => h) (Or.inl ⟨by rfl, ?hyh4⟩) hHeld ?_
    case hyh4 => (intro w hSw; (try dsimp only at hSw); go_simp <;> with_reducible rfl)
    try simp only [Act.put, List.setIfInBounds_toArray, List.set_cons_zero, List.set_cons_succ]
    refine wpAnyH_take (i := 4) (oi := { dst := some 31, op := Op.load 38 (Operand.tmp 30), type := 38, pos := "l06_chain.go:42", after := #[{ on := 3, ground := Ground.data }], guard := none }) (v := ?vh5) rfl (by kernel_rfl) (by kernel_rfl) (by kernel_rfl) (fun _ _ _ h => h) (Or.inl ⟨by rfl, ?hyh5⟩) hHeld ?_
    case hyh5 => (intro w hSw; (try dsimp only at hSw); go_simp <;> with_reducible rfl)
    try simp only [Act.put, List.setIfInBounds_toArray, List.set_cons_zero, List.set_cons_succ]
    refine wpAnyH_take (i := 5) (oi := { dst := some 32, op := Op.load 38 (Operand.tmp 3), type := 38, pos := "l06_chain.go:42", after := #[], guard := none }) (v := ?vh6) rfl (by kernel_rfl) (by kernel_rfl) (by kernel_rfl) (fun _ _ _ h => h) (Or.inl ⟨by rfl, ?hyh6⟩) hHeld ?_
    case hyh6 => (intro w hSw; (try dsimp only at hSw); go_simp <;> with_reducible rfl)
    try simp only [Act.put, List.setIfInBounds_toArray, List.set_cons_zero, List.set_cons_succ]
    refine wpAnyH_ready (rs := [6, 7]) (by kernel_rfl) (by simp) ?_
    refine AllReadyH.cons (o := { dst := some 33, op := Op.call { callee := Callee.value (Operand.func 40), args := #[Operand.tmp 31, Operand.tmp 32], argTypes := #[38, 38] }, type := 38, pos := "l06_chain.go:42", after := #[{ on := 4, ground := Ground.data }, { on := 5, ground := Ground.data }], guard := none }) rfl (fun K hK => ?_) ?_
    ·
      go_simp
      refine (HC.out _ (Below.refl _ _).drew).mono ?_
      rintro r wy ⟨⟨Mx, cx, rfl, hO⟩, hy⟩
      have HZ : Hid (Below w2.heap.size w2 wy) := grow_on (Below.refl _ _).drew hy
      have HO : Hid (OwnA w.heap.size wy (Mx, cx, mergeX (nthP P k) x) ∧ w2.heap.size ≤ Mx) := ⟨(own_of_copy (x := mergeX (nthP P k) x) hO HS.out.2).down (by have := HW.out; show w.heap.size ≤ w2.drew.heap.size; simp; omega), hO.1⟩
      clear hy hO
      clear hHeld
      refine hK.out _ _ (HSB.out _ (C2.out.grow HZ.out) (grow_on HB2.out HZ.out) (A2.out.grow HZ.out)) (fun hHeld => ?_)
      clear hK K
      try simp only [Act.put, List.setIfInBounds_toArray, List.set_cons_zero, List.set_cons_succ]
      refine wpAnyH_ready (rs := [7]) (by kernel_rfl) (by simp) ?_
      refine AllReadyH.cons (o := { dst := some 9, op := Op.alloc 38, type := 0, pos := "l06_chain.go:42", after := #[], guard := none }) rfl (fun K hK => ?_) AllReadyH.nil
      go_simp
      clear hHeld
      refine hK.out _ _ (HSB.out _ (C2.out.grow (grow_on HZ.out (Go.Joins.below_alloc1 wy _))) (grow_on HB2.out (grow_on HZ.out (Go.Joins.below_alloc1 wy _))) (A2.out.grow (grow_on HZ.out (Go.Joins.below_alloc1 wy _)))) (fun hHeld => ?_)
      clear hK K
      try simp only [Act.put, List.setIfInBounds_toArray, List.set_cons_zero, List.set_cons_succ]
      refine wpAnyH_ready (rs := [8]) (by kernel_rfl) (by simp) ?_
      refine AllReadyH.cons (o := { dst := none, op := Op.store 38 (Operand.tmp 9) (Operand.tmp 33), type := 0, pos := "l06_chain.go:42", after := #[{ on := 7, ground := Ground.data }, { on := 6, ground := Ground.data }, { on := 6, ground := Ground.chain }, { on := 0, ground := Ground.phase }, { on := 1, ground := Ground.phase }, { on := 2, ground := Ground.phase }, { on := 3, ground := Ground.phase }, { on := 4, ground := Ground.phase }, { on := 5, ground := Ground.phase }, { on := 6, ground := Ground.phase }, { on := 7, ground := Ground.phase }], guard := none }) rfl (fun K hK => ?_) AllReadyH.nil
      go_simp
      clear hHeld
      refine hK.out _ _ (HSB.out _ (C2.out.grow (grow_on HZ.out (Go.Joins.below_alloc1 wy _))) (grow_on HB2.out (grow_on HZ.out (Go.Joins.below_alloc1 wy _))) (A2.out.grow (grow_on HZ.out (Go.Joins.below_alloc1 wy _)))) (fun hHeld => ?_)
      clear hK K
      try simp only [Act.put, List.setIfInBounds_toArray, List.set_cons_zero, List.set_cons_succ]
      refine wpAnyH_done (by kernel_rfl) ?_ _
      generalize hWY : (wy.alloc (.cells #[.slice (some ⟨Mx, 0, none⟩) x.l.length cx, .int .i64 (startB (nthP P k).s (nthP P k).e x.s x.e), .int .i64 x.e, .string x.n] 38)) = WY
      have HY : Hid (Below w2.heap.size w2 WY) := by rw [← hWY]; exact grow_on HZ.out (Go.Joins.below_alloc1 wy _)
      have XB : Hid (Blk WY wy.heap.size #[.slice (some ⟨Mx, 0, none⟩) x.l.length cx, .int .i64 (startB (nthP P k).s (nthP P k).e x.s x.e), .int .i64 x.e, .string x.n] 38) := by rw [← hWY]; exact Blk.new _ _ _
      have HOY : Hid (OwnA w.heap.size WY (Mx, cx, mergeX (nthP P k) x)) := by rw [← hWY]; exact (HO.out.1.grow (Go.Joins.below_alloc1 wy _))
      have HN2 : Hid (w2.heap.size ≤ wy.heap.size) := HZ.out.size
      clear hWY hHeld
      have z0 : WY.cell? ⟨wy.heap.size, 0, none⟩ = some (.slice (some ⟨Mx, 0, none⟩) x.l.length cx) := XB.out.cell 0
      have z1 : WY.cell? ⟨wy.heap.size, 1, none⟩ = some (.int .i64 (startB (nthP P k).s (nthP P k).e x.s x.e)) := XB.out.cell 1
      have z2 : WY.cell? ⟨wy.heap.size, 2, none⟩ = some (.int .i64 x.e) := XB.out.cell 2
      have z3 : WY.cell? ⟨wy.heap.size, 3, none⟩ = some (.string x.n) := XB.out.cell 3
      have hD := D2.out.grow HY.out
      have d1 : WY.cell? ⟨w1.heap.size, 1, none⟩ = some (.slice (some ⟨M, 0, none⟩) rs.length c) := hD.cell 1
      have hab := HAB2.out.grow HY.out
      obtain ⟨cs, h2, hcs, _⟩ := hab.outer
      have hca := hab.cap
      have hkr : k < rs.length := by rw [HRl.out]; exact hk
      have hkr' : (k : Int) < (rs.length : Int) := by omega
      obtain ⟨v0, p0⟩ : ∃ v, WY.cell? ⟨M, k * 4, none⟩ = some v := ⟨cs[k * 4]'(by omega), by rw [h2.cell]; simp⟩
      obtain ⟨v1, p1⟩ : ∃ v, WY.cell? ⟨M, k * 4 + 1, none⟩ = some v := ⟨cs[k * 4 + 1]'(by omega), by rw [h2.cell]; simp⟩
      obtain ⟨v2, p2⟩ : ∃ v, WY.cell? ⟨M, k * 4 + 2, none⟩ = some v := ⟨cs[k * 4 + 2]'(by omega), by rw [h2.cell]; simp⟩
      obtain ⟨v3, p3⟩ : ∃ v, WY.cell? ⟨M, k * 4 + 3, none⟩ = some v := ⟨cs[k * 4 + 3]'(by omega), by rw [h2.cell]; simp⟩
      have f0 := h2.frozen (k * 4)
      have f1 := h2.frozen (k * 4 + 1)
      have f2 := h2.frozen (k * 4 + 2)
      have f3 := h2.frozen (k * 4 + 3)
      have hMD : M ≠ w1.heap.size := fun e => chain_alarm hD h2 e.symm
      clear hD hab h2 hcs hca
      go_upto_region 9 with fail
      clear z0 z1 z2 z3 d1 p0 p1 p2 p3 f0 f1 f2 f3
      have hMR : M ≠ w.heap.size + 1 + 1 := by have := HM.out; omega
      have hMw : w.heap.size ≤ M := by have := HM.out; omega
      obtain ⟨W3, hW3⟩ : ∃ W3, put4W WY M k (Mx, cx, mergeX (nthP P k) x) = W3 := ⟨_, rfl⟩
      obtain ⟨M3, hM3⟩ : ∃ M3, M3 = M := ⟨_, rfl⟩
      obtain ⟨c3, hc3⟩ : ∃ c3, c3 = c := ⟨_, rfl⟩
      have D3 : Hid (Blk W3 w1.heap.size #[.int .i64 f, .slice (some ⟨M3, 0, none⟩) rs.length c3] 51) := by rw [← hW3, hM3, hc3]; exact put4W_other (D2.out.grow HY.out) hMD
      have R3 : Hid (Blk W3 (w.heap.size + 1 + 1) #[.int .i64 0, .slice none 0 0] 51) := by rw [← hW3]; exact put4W_other (R2.out.grow HY.out) hMR
      have HAB3 : Hid (AB w.heap.size W3 M3 c3 (putA rs k (Mx, cx, mergeX (nthP P k) x))) := by
        rw [← hW3, hM3, hc3]
        exact (HAB2.out.grow HY.out).put hkr HOY.out (fun y hy => by have := (HAB2.out.rows y hy).lt; have := HO.out.2; show y.1 ≠ Mx; omega)
      have HB3 : Hid (Below w.heap.size w W3) := by rw [← hW3]; exact put4W_low (grow_on HB2.out HY.out) hMw
      simp only [put4W, mergeX] at hW3
      rw [hW3]
      clear hW3 hM3 hc3 hMD hMR hMw
      have c0 : W3.cell? ⟨w1.heap.size, 0, none⟩ = some (.int .i64 f) := D3.out.cell 0
      have c1 : W3.cell? ⟨w1.heap.size, 1, none⟩ = some (.slice (some ⟨M3, 0, none⟩) (rs.length) c3) := D3.out.cell 1
      have r0 : W3.cell? ⟨w.heap.size + 1 + 1, 0, none⟩ = some (.int .i64 0) := R3.out.cell 0
      have r1 : W3.cell? ⟨w.heap.size + 1 + 1, 1, none⟩ = some (.slice none 0 0) := R3.out.cell 1
      have f0 := R3.out.frozen 0
      have f1 := R3.out.frozen 1
      go_wp2
      have hs : Blk ((W3.setCell ⟨w.heap.size + 1 + 1, 0, none⟩ (.int .i64 f)).setCell ⟨w.heap.size + 1 + 1, 1, none⟩ (.slice (some ⟨M3, 0, none⟩) (rs.length) c3)) (w.heap.size + 1 + 1) #[.int .i64 f, .slice (some ⟨M3, 0, none⟩) (rs.length) c3] 51 := (R3.out.set 0 _).set 1 _
      have s0 := hs.cell 0
      have s1 := hs.cell 1
      refine bodyPost_ret (v := .tuple #[.agg #[.int .i64 f, .slice (some ⟨M3, 0, none⟩) (rs.length) c3], .bool false]) (by simp [results, Try.results20, go_sem, s0, s1]) rfl ?_
      exact ⟨⟨M3, c3, putA rs k (Mx, cx, mergeX (nthP P k) x), retC (by rw [putA_len]) HN.out, ab_set2 HAB3.out R3.out _ _, HPP.out _ _⟩, ChnP.set2 HB3.out (by omega) _ _⟩
    refine AllReadyH.cons (o := { dst := some 9, op := Op.alloc 38, type := 0, pos := "l06_chain.go:42", after := #[], guard := none }) rfl (fun K hK => ?_) AllReadyH.nil
    go_simp
    clear hHeld
    refine hK.out _ _ (HSB.out _ (C2.out.grow ((Below.refl _ _).drew.alloc (Nat.le_refl _) _)) (grow_on HB2.out ((Below.refl _ _).drew.alloc (Nat.le_refl _) _)) (A2.out.grow ((Below.refl _ _).drew.alloc (Nat.le_refl _) _))) (fun hHeld => ?_)
    clear hK K
    try simp only [Act.put, List.setIfInBounds_toArray, List.set_cons_zero, List.set_cons_succ]
    refine wpAnyH_ready (rs := [6]) (by kernel_rfl) (by simp) ?_
    refine AllReadyH.cons (o := { dst := some 33, op := Op.call { callee := Callee.value (Operand.func 40), args := #[Operand.tmp 31, Operand.tmp 32], argTypes := #[38, 38] }, type := 38, pos := "l06_chain.go:42", after := #[{ on := 4, ground := Ground.data }, { on := 5, ground := Ground.data }], guard := none }) rfl (fun K hK => ?_) AllReadyH.nil
    go_simp
    refine (HC.out _ ((Below.refl _ _).drew.alloc (Nat.le_refl _) _)).mono ?_
    rintro r wy ⟨⟨Mx, cx, rfl, hO⟩, hy⟩
    have HZ : Hid (Below w2.heap.size w2 wy) := grow_on ((Below.refl _ _).drew.alloc (Nat.le_refl _) _) hy
    have NB : Hid (Blk wy w2.heap.size #[.slice none 0 0, .int .i64 0, .int .i64 0, .string ⟨#[]⟩] 38) := (Blk.new w2.drew _ _).grow hy
    have HO : Hid (OwnA w.heap.size wy (Mx, cx, mergeX (nthP P k) x) ∧ w2.heap.size ≤ Mx) := ⟨(own_of_copy (x := mergeX (nthP P k) x) hO HS.out.2).down (by have := HW.out; show w.heap.size ≤ (w2.drew.alloc _).heap.size; simp; omega), by have := hO.1; simp at this; omega⟩
    clear hy hO
    clear hHeld
    refine hK.out _ _ (HSB.out _ (C2.out.grow HZ.out) (grow_on HB2.out HZ.out) (A2.out.grow HZ.out)) (fun hHeld => ?_)
    clear hK K
    try simp only [Act.put, List.setIfInBounds_toArray, List.set_cons_zero, List.set_cons_succ]
    refine wpAnyH_ready (rs := [8]) (by kernel_rfl) (by simp) ?_
    refine AllReadyH.cons (o := { dst := none, op := Op.store 38 (Operand.tmp 9) (Operand.tmp 33), type := 0, pos := "l06_chain.go:42", after := #[{ on := 7, ground := Ground.data }, { on := 6, ground := Ground.data }, { on := 6, ground := Ground.chain }, { on := 0, ground := Ground.phase }, { on := 1, ground := Ground.phase }, { on := 2, ground := Ground.phase }, { on := 3, ground := Ground.phase }, { on := 4, ground := Ground.phase }, { on := 5, ground := Ground.phase }, { on := 6, ground := Ground.phase }, { on := 7, ground := Ground.phase }], guard := none }) rfl (fun K hK => ?_) AllReadyH.nil
    have n0 : wy.cell? ⟨w2.heap.size, 0, none⟩ = some (.slice none 0 0) := NB.out.cell 0
    have n1 : wy.cell? ⟨w2.heap.size, 1, none⟩ = some (.int .i64 0) := NB.out.cell 1
    have n2 : wy.cell? ⟨w2.heap.size, 2, none⟩ = some (.int .i64 0) := NB.out.cell 2
    have n3 : wy.cell? ⟨w2.heap.size, 3, none⟩ = some (.string ⟨#[]⟩) := NB.out.cell 3
    have m0 := NB.out.frozen 0
    have m1 := NB.out.frozen 1
    have m2 := NB.out.frozen 2
    have m3 := NB.out.frozen 3
    go_simp
    clear n0 n1 n2 n3 m0 m1 m2 m3
    clear hHeld
    refine hK.out _ _ (HSB.out _ (C2.out.grow (Alm.set4 HZ.out (Nat.le_refl _) _ _ _ _)) (grow_on HB2.out (Alm.set4 HZ.out (Nat.le_refl _) _ _ _ _)) (A2.out.grow (Alm.set4 HZ.out (Nat.le_refl _) _ _ _ _))) (fun hHeld => ?_)
    clear hK K
    try simp only [Act.put, List.setIfInBounds_toArray, List.set_cons_zero, List.set_cons_succ]
    refine wpAnyH_done (by kernel_rfl) ?_ _
    generalize hWY : ((((wy.setCell ⟨w2.heap.size, 0, none⟩ (.slice (some ⟨Mx, 0, none⟩) x.l.length cx)).setCell ⟨w2.heap.size, 1, none⟩ (.int .i64 (startB (nthP P k).s (nthP P k).e x.s x.e))).setCell ⟨w2.heap.size, 2, none⟩ (.int .i64 x.e)).setCell ⟨w2.heap.size, 3, none⟩ (.string x.n)) = WY
    have HY : Hid (Below w2.heap.size w2 WY) := by rw [← hWY]; exact Alm.set4 HZ.out (Nat.le_refl _) _ _ _ _
    have XB : Hid (Blk WY w2.heap.size #[.slice (some ⟨Mx, 0, none⟩) x.l.length cx, .int .i64 (startB (nthP P k).s (nthP P k).e x.s x.e), .int .i64 x.e, .string x.n] 38) := by rw [← hWY]; exact Alm.put4 NB.out _ _ _ _
    have HOY : Hid (OwnA w.heap.size WY (Mx, cx, mergeX (nthP P k) x)) := by rw [← hWY]; exact (by obtain ⟨h0, h1, ds, h2, h3⟩ := HO.out.1; exact ⟨h0, h1, ds, Alm.blk4 h2 (blkA_ne NB.out h2) _ _ _ _, h3⟩)
    have HN2 : Hid (w2.heap.size ≤ w2.heap.size) := Nat.le_refl _
    clear hWY hHeld
    have z0 : WY.cell? ⟨w2.heap.size, 0, none⟩ = some (.slice (some ⟨Mx, 0, none⟩) x.l.length cx) := XB.out.cell 0
    have z1 : WY.cell? ⟨w2.heap.size, 1, none⟩ = some (.int .i64 (startB (nthP P k).s (nthP P k).e x.s x.e)) := XB.out.cell 1
    have z2 : WY.cell? ⟨w2.heap.size, 2, none⟩ = some (.int .i64 x.e) := XB.out.cell 2
    have z3 : WY.cell? ⟨w2.heap.size, 3, none⟩ = some (.string x.n) := XB.out.cell 3
    have hD := D2.out.grow HY.out
    have d1 : WY.cell? ⟨w1.heap.size, 1, none⟩ = some (.slice (some ⟨M, 0, none⟩) rs.length c) := hD.cell 1
    have hab := HAB2.out.grow HY.out
    obtain ⟨cs, h2, hcs, _⟩ := hab.outer
    have hca := hab.cap
    have hkr : k < rs.length := by rw [HRl.out]; exact hk
    have hkr' : (k : Int) < (rs.length : Int) := by omega
    obtain ⟨v0, p0⟩ : ∃ v, WY.cell? ⟨M, k * 4, none⟩ = some v := ⟨cs[k * 4]'(by omega), by rw [h2.cell]; simp⟩
    obtain ⟨v1, p1⟩ : ∃ v, WY.cell? ⟨M, k * 4 + 1, none⟩ = some v := ⟨cs[k * 4 + 1]'(by omega), by rw [h2.cell]; simp⟩
    obtain ⟨v2, p2⟩ : ∃ v, WY.cell? ⟨M, k * 4 + 2, none⟩ = some v := ⟨cs[k * 4 + 2]'(by omega), by rw [h2.cell]; simp⟩
    obtain ⟨v3, p3⟩ : ∃ v, WY.cell? ⟨M, k * 4 + 3, none⟩ = some v := ⟨cs[k * 4 + 3]'(by omega), by rw [h2.cell]; simp⟩
    have f0 := h2.frozen (k * 4)
    have f1 := h2.frozen (k * 4 + 1)
    have f2 := h2.frozen (k * 4 + 2)
    have f3 := h2.frozen (k * 4 + 3)
    have hMD : M ≠ w1.heap.size := fun e => chain_alarm hD h2 e.symm
    clear hD hab h2 hcs hca
    go_upto_region 9 with fail
    clear z0 z1 z2 z3 d1 p0 p1 p2 p3 f0 f1 f2 f3
    have hMR : M ≠ w.heap.size + 1 + 1 := by have := HM.out; omega
    have hMw : w.heap.size ≤ M := by have := HM.out; omega
    obtain ⟨W3, hW3⟩ : ∃ W3, put4W WY M k (Mx, cx, mergeX (nthP P k) x) = W3 := ⟨_, rfl⟩
    obtain ⟨M3, hM3⟩ : ∃ M3, M3 = M := ⟨_, rfl⟩
    obtain ⟨c3, hc3⟩ : ∃ c3, c3 = c := ⟨_, rfl⟩
    have D3 : Hid (Blk W3 w1.heap.size #[.int .i64 f, .slice (some ⟨M3, 0, none⟩) rs.length c3] 51) := by rw [← hW3, hM3, hc3]; exact put4W_other (D2.out.grow HY.out) hMD
    have R3 : Hid (Blk W3 (w.heap.size + 1 + 1) #[.int .i64 0, .slice none 0 0] 51) := by rw [← hW3]; exact put4W_other (R2.out.grow HY.out) hMR
    have HAB3 : Hid (AB w.heap.size W3 M3 c3 (putA rs k (Mx, cx, mergeX (nthP P k) x))) := by
      rw [← hW3, hM3, hc3]
      exact (HAB2.out.grow HY.out).put hkr HOY.out (fun y hy => by have := (HAB2.out.rows y hy).lt; have := HO.out.2; show y.1 ≠ Mx; omega)
    have HB3 : Hid (Below w.heap.size w W3) := by rw [← hW3]; exact put4W_low (grow_on HB2.out HY.out) hMw
    simp only [put4W, mergeX] at hW3
    rw [hW3]
    clear hW3 hM3 hc3 hMD hMR hMw
    have c0 : W3.cell? ⟨w1.heap.size, 0, none⟩ = some (.int .i64 f) := D3.out.cell 0
    have c1 : W3.cell? ⟨w1.heap.size, 1, none⟩ = some (.slice (some ⟨M3, 0, none⟩) (rs.length) c3) := D3.out.cell 1
    have r0 : W3.cell? ⟨w.heap.size + 1 + 1, 0, none⟩ = some (.int .i64 0) := R3.out.cell 0
    have r1 : W3.cell? ⟨w.heap.size + 1 + 1, 1, none⟩ = some (.slice none 0 0) := R3.out.cell 1
    have f0 := R3.out.frozen 0
    have f1 := R3.out.frozen 1
    go_wp2
    have hs : Blk ((W3.setCell ⟨w.heap.size + 1 + 1, 0, none⟩ (.int .i64 f)).setCell ⟨w.heap.size + 1 + 1, 1, none⟩ (.slice (some ⟨M3, 0, none⟩) (rs.length) c3)) (w.heap.size + 1 + 1) #[.int .i64 f, .slice (some ⟨M3, 0, none⟩) (rs.length) c3] 51 := (R3.out.set 0 _).set 1 _
    have s0 := hs.cell 0
    have s1 := hs.cell 1
    refine bodyPost_ret (v := .tuple #[.agg #[.int .i64 f, .slice (some ⟨M3, 0, none⟩) (rs.length) c3], .bool false]) (by simp [results, Try.results20, go_sem, s0, s1]) rfl ?_
    exact ⟨⟨M3, c3, putA rs k (Mx, cx, mergeX (nthP P k) x), retC (by rw [putA_len]) HN.out, ab_set2 HAB3.out R3.out _ _, HPP.out _ _⟩, ChnP.set2 HB3.out (by omega) _ _⟩
end Go.Proofs.Ytooninmicfcfoaa.ChnU
namespace Go.Proofs.Ytooninmicfcfoaa.ChnV
open Go.RowKit
open Labs LabS Alms AlmS AlmM Over Blk App Rws ChnI ChnC ChnP ChnD

structure MidS (w : World) (f : Int) (a : Option Addr) (n cap : Nat) (W : World) (M1 c1 : Nat) (rs1 : List ARow) (M2 c2 : Nat) (rs2 : List ARow) : Prop where
  two : Two w.heap.size W M1 c1 rs1 M2 c2 rs2
  low : w.heap.size + 2 ≤ M1 ∧ w.heap.size + 2 ≤ M2
  bch : Blk W w.heap.size #[.int .i64 f, .slice a n cap] 51
  bres : Blk W (w.heap.size + 1) #[.int .i64 0, .slice none 0 0] 51
  bleft : Blk W (w.heap.size + 1 + 1 + 1) #[.int .i64 f, .slice (some ⟨M1, 0, none⟩) rs1.length c1] 51
  below : Below w.heap.size w W
theorem MidS.grow {w : World} {f : Int} {a : Option Addr} {n cap : Nat} {W W' : World} {M1 c1 : Nat} {rs1 : List ARow} {M2 c2 : Nat} {rs2 : List ARow} (h : MidS w f a n cap W M1 c1 rs1 M2 c2 rs2) (hb : Below W.heap.size W W') : MidS w f a n cap W' M1 c1 rs1 M2 c2 rs2 :=
  ⟨h.two.grow hb, h.low, h.bch.grow hb, h.bres.grow hb, h.bleft.grow hb, grow_on h.below hb⟩
end Go.Proofs.Ytooninmicfcfoaa.ChnV
namespace Go.Proofs.Ytooninmicfcfoaa.ChnK
open Go.RowKit
open Go.ChangeShapes Go.WideShapes
open Labs LabS Alms AlmS AlmM Over Blk App Rws ChnC ChnP ChnD
open Go.Proofs.Ytooninmicfcfoaa.Mark (Apart Marked)
open StrB (retB)
open Alm (at_par)
open LabT (Held held_reads)

theorem szC_any (f : Int) (a : Option Addr) (cap : Nat) (P : List PAl) (left : Int) (w : World) (hr : RdA w a P) (hl : P.length ≤ maxLen) (hz : FitsP P) (h0 : 0 ≤ left) (h1 : left ≤ 1048576) :
    Calls Try.prog 34 #[.agg #[.int .i64 f, .slice a P.length cap], .int .i64 left] w fun e w' => (∃ n : Int, e = .returned (.int .i64 n) ∧ n ≤ left ∧ (0 ≤ n → n + (P.length : Int) + (sumL P : Int) ≤ left)) ∧ Below w.heap.size w w' := by
  have HR : Hid (RdA w a P ∧ P.length ≤ maxLen ∧ FitsP P) := ⟨hr, hl, hz⟩
  clear hr hl hz
  go_enter Try.func34, Try.ntmps34
  go_wp2_with fail
  refine (Alms.sz_any a cap P left _ (HR.out.1.below (Go.Joins.below_alloc1 w _)) HR.out.2.1 HR.out.2.2 h0 h1).mono ?_
  rintro r w1 ⟨⟨n, rfl, hn, hn2⟩, hb⟩
  have HB : Hid (Below w.heap.size w w1) := grow_on (Go.Joins.below_alloc1 w _) hb
  have HN : Hid (0 ≤ n → n + (P.length : Int) + (sumL P : Int) ≤ left) := hn2
  clear hb hn2
  by_cases g : n < 0
  · go_wp2
    go_ret
    exact ⟨⟨-1, rfl, by omega, fun h => by omega⟩, HB.out⟩
  · go_wp2
    go_ret
    exact ⟨⟨_, rfl, hn, HN.out⟩, HB.out⟩

set_option maxHeartbeats 400000 in
theorem toC_any (f : Int) (a : Option Addr) (cap : Nat) (P : List PAl) (w : World) (hr : RdA w a P) (hl : P.length ≤ 1048576) (hs : sumL P ≤ 1048576) :
    Calls Try.prog 41 #[.agg #[.int .i64 f, .slice a P.length cap]] w fun r w' => (∃ M rs, r = .returned (.agg #[.int .i64 f, .slice (some ⟨M, 0, none⟩) P.length P.length]) ∧ AB w.heap.size w' M P.length rs ∧ pals rs = P) ∧ Below w.heap.size w w' := by
  have HR : Hid (RdA w a P) := hr
  have HS : Hid (sumL P ≤ 1048576) := hs
  clear hr hs
  go_enter Try.func41, Try.ntmps41
  go_wp2_with fail
  have hB3 : Below w.heap.size w (((w.alloc (.cells #[.int .i64 f, .slice a P.length cap] 73)).alloc (.cells #[.int .i64 0, .slice none 0 0] 51)).alloc (.cells #[.int .i64 f, .slice none 0 0] 51)) := Alm.below3 w _ _ _
  refine (Alms.to_any a cap P _ (HR.out.below hB3) hl HS.out).mono ?_
  rintro r w1 ⟨rfl, ⟨cs, g, hC⟩, hb⟩
  have hP : Blk w1 w.heap.size #[.int .i64 f, .slice a P.length cap] 73 := (((Blk.new _ _ _).alloc _).alloc _).grow hb
  have hR : Blk w1 (w.heap.size + 1) #[.int .i64 0, .slice none 0 0] 51 := ((Blk.new_at (by simp)).alloc _).grow hb
  have hO : Blk w1 (w.heap.size + 1 + 1) #[.int .i64 f, .slice none 0 0] 51 := (Blk.new_at (by simp)).grow hb
  have HB : Hid (Below w.heap.size w w1) := grow_on hB3 hb
  have HC : Hid (∃ rs, AB w.heap.size w1 (w.heap.size + 1 + 1 + 1) P.length rs ∧ pals rs = P) := by
    have h := copy_ab (lo := w.heap.size) hC (by simp; omega) hl (fun i hi => Nat.le_trans (sum_nth hi) HS.out)
    have e : (((w.alloc (.cells #[.int .i64 f, .slice a P.length cap] 73)).alloc (.cells #[.int .i64 0, .slice none 0 0] 51)).alloc (.cells #[.int .i64 f, .slice none 0 0] 51)).heap.size = w.heap.size + 1 + 1 + 1 := by simp
    rw [e] at h
    exact h
  have HRR : Hid (Blk w1 (w.heap.size + 1) #[.int .i64 0, .slice none 0 0] 51) := hR
  have HO : Hid (Blk w1 (w.heap.size + 1 + 1) #[.int .i64 f, .slice none 0 0] 51) := hO
  have o0 : w1.cell? ⟨w.heap.size + 1 + 1, 0, none⟩ = some (.int .i64 f) := hO.cell 0
  have o1 : w1.cell? ⟨w.heap.size + 1 + 1, 1, none⟩ = some (.slice none 0 0) := hO.cell 1
  have fo := hO.frozen 1
  have r0 : w1.cell? ⟨w.heap.size + 1, 0, none⟩ = some (.int .i64 0) := hR.cell 0
  have r1 : w1.cell? ⟨w.heap.size + 1, 1, none⟩ = some (.slice none 0 0) := hR.cell 1
  have f0 := hR.frozen 0
  have f1 := hR.frozen 1
  clear hb hC hP hR hO hB3
  go_wp2
  have hs : Blk (((w1.setCell ⟨w.heap.size + 1 + 1, 1, none⟩ (.slice (some ⟨w.heap.size + 1 + 1 + 1, 0, none⟩) P.length P.length)).setCell ⟨w.heap.size + 1, 0, none⟩ (.int .i64 f)).setCell ⟨w.heap.size + 1, 1, none⟩ (.slice (some ⟨w.heap.size + 1 + 1 + 1, 0, none⟩) P.length P.length)) (w.heap.size + 1) #[.int .i64 f, .slice (some ⟨w.heap.size + 1 + 1 + 1, 0, none⟩) P.length P.length] 51 := ((HRR.out.set_other (by show w.heap.size + 1 + 1 ≠ w.heap.size + 1; omega) _).set 0 _).set 1 _
  have s0 := hs.cell 0
  have s1 := hs.cell 1
  refine bodyPost_ret (v := .agg #[.int .i64 f, .slice (some ⟨w.heap.size + 1 + 1 + 1, 0, none⟩) P.length P.length]) (by simp [results, Try.results41, go_sem, s0, s1]) rfl ?_
  obtain ⟨rs, hab, hp⟩ := HC.out
  exact ⟨⟨w.heap.size + 1 + 1 + 1, rs, rfl, ab_set2 (ab_set1 hab HO.out _ _) (HRR.out.set_other (by show w.heap.size + 1 + 1 ≠ w.heap.size + 1; omega) _) _ _, hp⟩, ChnP.set2 (ChnI.set_low HB.out (by omega) _ _) (by omega) _ _⟩

theorem eqC_any (f : Int) (a a' : Option Addr) (cap cap' : Nat) (P : List PAl) (w : World) (hr : RdA w a P) (hr' : RdA w a' P) (hl : P.length ≤ maxLen) (hz : FitsP P) :
    Calls Try.prog 52 #[.agg #[.int .i64 f, .slice a P.length cap], .agg #[.int .i64 f, .slice a' P.length cap']] w fun e w' => e = .returned (.bool true) ∧ Below w.heap.size w w' := by
  have HR : Hid (RdA w a P ∧ RdA w a' P ∧ P.length ≤ maxLen ∧ FitsP P) := ⟨hr, hr', hl, hz⟩
  clear hr hr' hl hz
  go_enter Try.func52, Try.ntmps52
  go_wp2_with fail
  refine (Alms.eq_any a a' cap cap' P _ (HR.out.1.below (Go.Joins.below_alloc2 w _ _)) (HR.out.2.1.below (Go.Joins.below_alloc2 w _ _)) HR.out.2.2.1 HR.out.2.2.2).mono ?_
  rintro r w1 ⟨rfl, hb⟩
  have HB : Hid (Below w.heap.size w w1) := grow_on (Go.Joins.below_alloc2 w _ _) hb
  clear hb
  go_wp2
  go_ret
  exact ⟨rfl, HB.out⟩

theorem cellsC : Try.prog.cellsOf 73 = 2 := by kernel_rfl
theorem fit_merge {x a : PAl} (hx : FitA x) (ha : FitA a) : FitA (mergeX x a) := by
  refine ⟨ha.len, ha.fits, ?_, ha.eb, ha.note⟩
  have h1 := hx.sb
  have h2 := ha.sb
  show -9223372036854775808 ≤ startB x.s x.e a.s a.e ∧ startB x.s x.e a.s a.e ≤ 9223372036854775807
  unfold startB leastB
  split
  · split <;> omega
  · omega
theorem fits_put {P : List PAl} {a : PAl} (h : FitsP P) (ha : FitA a) : FitsP (putL P a) := by
  refine fits_of fun y hy => ?_
  rcases idxTo_cases P a.l P.length with hm | ⟨k, h0, h1, h2⟩
  · rw [(put_miss hm).1] at hy
    rcases List.mem_append.1 hy with hy | hy
    · exact fits_mem h hy
    · rw [List.mem_singleton.1 hy]; exact ha
  · rw [(put_hit h2 h1 h0).1] at hy
    rcases List.mem_or_eq_of_mem_set hy with hy | hy
    · exact fits_mem h hy
    · rw [hy]; exact fit_merge (h k h0) ha
theorem sumL_set {P : List PAl} {k : Nat} {x : PAl} (h : k < P.length) : sumL (P.set k x) ≤ sumL P + x.l.length := by
  induction P generalizing k with
  | nil => simp at h
  | cons y P ih =>
    cases k with
    | zero => simp only [List.set_cons_zero, sumL]; omega
    | succ k =>
      simp only [List.set_cons_succ, sumL]
      have := ih (k := k) (by simpa using h)
      omega
theorem put_sum (P : List PAl) (a : PAl) : sumL (putL P a) ≤ sumL P + a.l.length ∧ (putL P a).length ≤ P.length + 1 := by
  rcases idxTo_cases P a.l P.length with hm | ⟨k, h0, h1, h2⟩
  · rw [(put_miss hm).1, sum_app]; simp [sumL]
  · rw [(put_hit h2 h1 h0).1]
    have := sumL_set (x := mergeX (nthP P k) a) h0
    exact ⟨this, by simp⟩
end Go.Proofs.Ytooninmicfcfoaa.ChnK
namespace Go.Proofs.Ytooninmicfcfoaa.Chs
open Go.RowKit
open Go.ChangeShapes Go.WideShapes
open Labs LabS Alms AlmS AlmM Over Blk App Rws ChnI ChnC ChnP ChnK
open StrB (retB)

structure PCh where
  f : Int
  P : List PAl
def nthC (C : List PCh) (i : Nat) : PCh := C.getD i ⟨0, []⟩
theorem nthC_eq {C : List PCh} {i : Nat} (h : i < C.length) : nthC C i = C[i] := by unfold nthC; simp [h]
theorem nthC_mem {C : List PCh} {i : Nat} (h : i < C.length) : nthC C i ∈ C := by rw [nthC_eq h]; exact List.getElem_mem _
theorem takeC_up {C : List PCh} {k : Nat} (h : k < C.length) : C.take (k + 1) = C.take k ++ [nthC C k] := by
  rw [nthC_eq h, List.take_succ_eq_append_getElem h]
structure AtC (R : World → Option Addr → List PAl → Prop) (w : World) (b off i : Nat) (x : PCh) (ad : Option Addr) (cap : Nat) : Prop where
  c0 : w.cell? ⟨b, off + i * 2, none⟩ = some (.int .i64 x.f)
  c1 : w.cell? ⟨b, off + i * 2 + 1, none⟩ = some (.slice ad x.P.length cap)
  reads : R w ad x.P
theorem AtC.below {R : World → Option Addr → List PAl → Prop} (hR : Stays R) {w w' : World} {b off i : Nat} {x : PCh} {ad : Option Addr} {cap : Nat} (h : AtC R w b off i x ad cap) (hb : Below w.heap.size w w') (hlt : b < w.heap.size) : AtC R w' b off i x ad cap :=
  ⟨(hb.cell (p := ⟨b, off + i * 2, none⟩) hlt).trans h.c0, (hb.cell (p := ⟨b, off + i * 2 + 1, none⟩) hlt).trans h.c1, hR _ _ _ _ h.reads hb⟩
def RdG (R : World → Option Addr → List PAl → Prop) (w : World) (a : Option Addr) (C : List PCh) : Prop :=
  C = [] ∨ ∃ b off, a = some ⟨b, off, none⟩ ∧ b < w.heap.size ∧ ∀ i, i < C.length → ∃ ad cap, AtC R w b off i (nthC C i) ad cap
theorem RdG.below {R : World → Option Addr → List PAl → Prop} (hR : Stays R) {w w' : World} {a : Option Addr} {C : List PCh} (h : RdG R w a C) (hb : Below w.heap.size w w') : RdG R w' a C := by
  rcases h with h | ⟨b, off, rfl, hlt, hc⟩
  · exact .inl h
  · exact .inr ⟨b, off, rfl, Nat.lt_of_lt_of_le hlt hb.size, fun i hi => by
      obtain ⟨ad, cap, h⟩ := hc i hi
      exact ⟨ad, cap, h.below hR hb hlt⟩⟩
theorem RdG.get {R : World → Option Addr → List PAl → Prop} {w : World} {a : Option Addr} {C : List PCh} (h : RdG R w a C) {i : Nat} (hi : i < C.length) :
    ∃ b off, a = some ⟨b, off, none⟩ ∧ b < w.heap.size ∧ ∃ ad cap, AtC R w b off i (nthC C i) ad cap := by
  rcases h with h | ⟨b, off, e, hb, h⟩
  · rw [h] at hi; simp at hi
  · exact ⟨b, off, e, hb, h i hi⟩
theorem RdG.imp {R R' : World → Option Addr → List PAl → Prop} {w : World} {a : Option Addr} {C : List PCh} (h : RdG R w a C) (hi : ∀ a P, R w a P → R' w a P) : RdG R' w a C := by
  rcases h with h | ⟨b, off, e, hb, h⟩
  · exact .inl h
  · exact .inr ⟨b, off, e, hb, fun i hi' => by obtain ⟨ad, cap, h⟩ := h i hi'; exact ⟨ad, cap, h.c0, h.c1, hi _ _ h.reads⟩⟩
theorem RdG.rd {w : World} {a : Option Addr} {C : List PCh} (h : RdG RdN w a C) : RdG RdA w a C := h.imp fun _ _ h => h.rd
structure FitC (x : PCh) : Prop where
  fb : -9223372036854775808 ≤ x.f ∧ x.f ≤ 9223372036854775807
  len : x.P.length ≤ maxLen
  fits : FitsP x.P
def FitsC (C : List PCh) : Prop := ∀ x ∈ C, FitC x
def sumC : List PCh → Nat
  | [] => 0
  | x :: C => x.P.length + sumL x.P + sumC C
theorem sumC_app (p q : List PCh) : sumC (p ++ q) = sumC p + sumC q := by
  induction p with
  | nil => simp [sumC]
  | cons x p ih => rw [List.cons_append, sumC, ih, sumC]; omega
theorem sumC_up {C : List PCh} {k : Nat} (h : k < C.length) : sumC (C.take (k + 1)) = sumC (C.take k) + (nthC C k).P.length + sumL (nthC C k).P := by
  rw [takeC_up h, sumC_app]; simp [sumC]; omega
theorem sumC_all {C : List PCh} {k : Nat} (h : C.length ≤ k) : sumC (C.take k) = sumC C := by rw [List.take_of_length_le h]
theorem sumC_mem {C : List PCh} {x : PCh} (h : x ∈ C) : x.P.length + sumL x.P ≤ sumC C := by
  induction C with
  | nil => simp at h
  | cons y C ih =>
    rw [sumC]
    rcases List.mem_cons.1 h with rfl | h
    · omega
    · have := ih h; omega
theorem sumC_nth {C : List PCh} {k : Nat} (h : k < C.length) : (nthC C k).P.length + sumL (nthC C k).P ≤ sumC C := sumC_mem (nthC_mem h)

set_option maxHeartbeats 800000 in
theorem szS_any (a : Option Addr) (cap : Nat) (C : List PCh) (left : Int) (w : World) (hr : RdG RdA w a C) (hl : C.length ≤ maxLen) (hz : FitsC C) (h0 : 0 ≤ left) (h1 : left ≤ 1048576) :
    Calls Try.prog 15 #[.slice a C.length cap, .int .i64 left] w fun e w' => (∃ n : Int, e = .returned (.int .i64 n) ∧ n ≤ left ∧ (0 ≤ n → n + (C.length : Int) + (sumC C : Int) ≤ left)) ∧ Below w.heap.size w w' := by
  unfold maxLen at hl
  have HR : Hid (RdG RdA w a C) := hr
  have HZ : Hid (FitsC C) := hz
  clear hr hz
  by_cases c : left - (C.length : Int) < 0
  · go_enter Try.func15, Try.ntmps15
    go_wp2
    go_ret
    exact ⟨⟨-1, rfl, by omega, fun h => by omega⟩, Below.refl _ _⟩
  · go_enter Try.func15, Try.ntmps15
    go_wp2
    go_loopw [1, 5] (fun m i w' => ∃ (k : Nat) (x : Int), k ≤ C.length ∧ i = .int .i64 k ∧ m = .int .i64 x ∧ 0 ≤ x ∧ x + (C.length : Int) + (sumC (C.take k) : Int) ≤ left ∧ Below w.heap.size w w') (fun _ i _ => C.length - (intOf i).toNat)
    case atStart => exact ⟨0, _, Nat.zero_le _, rfl, rfl, by omega, by simp [sumC], Below.refl _ _⟩
    case round =>
      obtain ⟨k, x, hk, rfl, rfl, hx0, hx1, hw0⟩ := hrel
      have HB : Hid (Below w.heap.size w wr) := hw0
      have HX : Hid (x + (C.length : Int) + (sumC (C.take k) : Int) ≤ left) := hx1
      have hx2 : x ≤ left := by omega
      clear hw0 hx1
      by_cases hlt : k < C.length
      · have hlt' : (k : Int) < (C.length : Int) := by omega
        obtain ⟨b, off, rfl, hb, ad, cp, hat⟩ := (HR.out.below stays_rd HB.out).get hlt
        have h2 := hat.c0
        have h3 := hat.c1
        have HA : Hid (RdA wr ad (nthC C k).P) := hat.reads
        have HU : Hid (sumC (C.take (k + 1)) = sumC (C.take k) + (nthC C k).P.length + sumL (nthC C k).P) := sumC_up hlt
        clear hat
        go_wp2_with fail
        refine (szC_any _ ad cp _ x _ HA.out (HZ.out _ (nthC_mem hlt)).len (HZ.out _ (nthC_mem hlt)).fits hx0 (by omega)).mono ?_
        rintro e w1 ⟨⟨y, rfl, hy, hyn⟩, hb1⟩
        have HB1 : Hid (Below w.heap.size w w1) := grow_on HB.out hb1
        clear hb1 h2 h3
        by_cases hn : y < 0
        · clear hyn
          go_wp2
          go_ret
          exact ⟨⟨-1, rfl, by omega, fun h => by omega⟩, HB1.out⟩
        · have HY : Hid (y + ((nthC C k).P.length : Int) + (sumL (nthC C k).P : Int) ≤ x) := hyn (by omega)
          clear hyn
          go_wp2
          go_roundw
          case rel => exact ⟨k + 1, y, by omega, by go_num, rfl, by omega, by have h1 := HY.out; have h2 := HX.out; have h3 := HU.out; omega, HB1.out⟩
          case measure => simp [intOf]; omega
      · have hge : ¬ (k : Int) < (C.length : Int) := by omega
        have HE : Hid (sumC (C.take k) = sumC C) := sumC_all (by omega)
        go_wp2
        go_ret
        exact ⟨⟨_, rfl, by omega, fun h => by have h1 := HX.out; have h2 := HE.out; omega⟩, HB.out⟩

theorem szPart_any (hd vr : Int) (a : Option Addr) (cap : Nat) (C : List PCh) (left : Int) (w : World) (hr : RdG RdA w a C) (hl : C.length ≤ maxLen) (hz : FitsC C) (h0 : 0 ≤ left) (h1 : left ≤ 1048576) :
    Calls Try.prog 4 #[.agg #[.int .i64 hd, .int .i64 vr, .slice a C.length cap], .int .i64 left] w fun e w' => (∃ n : Int, e = .returned (.int .i64 n) ∧ n ≤ left ∧ (0 ≤ n → n + (C.length : Int) + (sumC C : Int) ≤ left)) ∧ Below w.heap.size w w' := by
  have HR : Hid (RdG RdA w a C ∧ C.length ≤ maxLen ∧ FitsC C) := ⟨hr, hl, hz⟩
  clear hr hl hz
  go_enter Try.func4, Try.ntmps4
  go_wp2_with fail
  refine (szS_any a cap C left _ (HR.out.1.below stays_rd (Go.Joins.below_alloc1 w _)) HR.out.2.1 HR.out.2.2 h0 h1).mono ?_
  rintro r w1 ⟨⟨n, rfl, hn, hn2⟩, hb⟩
  have HB : Hid (Below w.heap.size w w1) := grow_on (Go.Joins.below_alloc1 w _) hb
  have HN : Hid (0 ≤ n → n + (C.length : Int) + (sumC C : Int) ≤ left) := hn2
  clear hb hn2
  by_cases g : n < 0
  · go_wp2
    go_ret
    exact ⟨⟨-1, rfl, by omega, fun h => by omega⟩, HB.out⟩
  · go_wp2
    go_ret
    exact ⟨⟨_, rfl, hn, HN.out⟩, HB.out⟩

theorem infoC : (Try.prog.info? 51).map (fun i => (i.zero, i.size, i.bytes)) = some (some (.agg #[.int .i64 0, .slice none 0 0]), 2, 32) := by kernel_rfl

structure CRow where
  f : Int
  M : Nat
  c : Nat
  rs : List ARow
def CRow.ch (x : CRow) : PCh := ⟨x.f, pals x.rs⟩
def chs (cs : List CRow) : List PCh := cs.map CRow.ch
def nthR (cs : List CRow) (i : Nat) : CRow := cs.getD i ⟨0, 0, 0, []⟩
theorem nthR_eq {cs : List CRow} {i : Nat} (h : i < cs.length) : nthR cs i = cs[i] := by unfold nthR; simp [h]
theorem nthR_mem {cs : List CRow} {i : Nat} (h : i < cs.length) : nthR cs i ∈ cs := by rw [nthR_eq h]; exact List.getElem_mem _
theorem chs_len (cs : List CRow) : (chs cs).length = cs.length := by simp [chs]
theorem chs_nth {cs : List CRow} {i : Nat} (h : i < cs.length) : nthC (chs cs) i = (nthR cs i).ch := by
  rw [nthC_eq (by rw [chs_len]; exact h), nthR_eq h]
  simp [chs]
theorem chs_app (cs : List CRow) (x : CRow) : chs (cs ++ [x]) = chs cs ++ [x.ch] := by simp [chs]
theorem nthR_app_lt {cs : List CRow} {x : CRow} {i : Nat} (h : i < cs.length) : nthR (cs ++ [x]) i = nthR cs i := by
  rw [nthR_eq (by simp; omega), nthR_eq h, List.getElem_append_left h]
theorem nthR_app_eq (cs : List CRow) (x : CRow) : nthR (cs ++ [x]) cs.length = x := by
  rw [nthR_eq (by simp)]; simp
def Cel (f : Nat → Option Value) (i : Nat) (x : CRow) : Prop := f (i * 2) = some (.int .i64 x.f) ∧ f (i * 2 + 1) = some (.slice (some ⟨x.M, 0, none⟩) x.rs.length x.c)
theorem Cel.congr {f g : Nat → Option Value} {i : Nat} {x : CRow} (h : Cel f i x) (e : ∀ k, i * 2 ≤ k → k < i * 2 + 2 → g k = f k) : Cel g i x :=
  ⟨by rw [e _ (by omega) (by omega)]; exact h.1, by rw [e _ (by omega) (by omega)]; exact h.2⟩
def rowC (x : CRow) : List Value := [.int .i64 x.f, .slice (some ⟨x.M, 0, none⟩) x.rs.length x.c]
theorem rowC_one (x : CRow) : ∀ v ∈ rowC x, v.oneCell' = true := fun v hv => by
  simp only [rowC, List.mem_cons, List.not_mem_nil, or_false] at hv
  rcases hv with rfl | rfl <;> rfl
structure RowsC (lo : Nat) (w : World) (cs : List CRow) : Prop where
  rows : ∀ x ∈ cs, AB lo w x.M x.c x.rs
  ne : cs.Pairwise fun x y => ∀ k, blks x.M x.rs k → ¬ blks y.M y.rs k
theorem RowsC.nil (lo : Nat) (w : World) : RowsC lo w [] := ⟨fun x hx => by simp at hx, List.Pairwise.nil⟩
theorem RowsC.moved {lo : Nat} {w w' : World} {cs : List CRow} (h : RowsC lo w cs) (hm : Moved w w') : RowsC lo w' cs := ⟨fun x hx => ab_moved (h.rows x hx) hm, h.ne⟩
theorem RowsC.grow {lo : Nat} {w w' : World} {cs : List CRow} (h : RowsC lo w cs) (hb : Below w.heap.size w w') : RowsC lo w' cs := h.moved (Moved.of hb)
theorem RowsC.down {lo lo' : Nat} {w : World} {cs : List CRow} (h : RowsC lo w cs) (hl : lo' ≤ lo) : RowsC lo' w cs := ⟨fun x hx => (h.rows x hx).down hl, h.ne⟩
theorem RowsC.app {lo : Nat} {w : World} {cs : List CRow} {x : CRow} (h : RowsC lo w cs) (hx : AB lo w x.M x.c x.rs) (hne : ∀ y ∈ cs, ∀ k, blks y.M y.rs k → ¬ blks x.M x.rs k) : RowsC lo w (cs ++ [x]) := by
  refine ⟨fun y hy => ?_, ?_⟩
  · rcases List.mem_append.1 hy with hy | hy
    · exact h.rows y hy
    · rw [List.mem_singleton.1 hy]; exact hx
  · rw [List.pairwise_append]
    exact ⟨h.ne, List.pairwise_singleton _ _, fun a ha b hb => by rw [List.mem_singleton.1 hb]; exact hne a ha⟩
theorem RowsC.fresh {lo B : Nat} {w w' : World} {cs : List CRow} {x : CRow} (h : RowsC lo w cs) (hx : AB B w' x.M x.c x.rs) (hB : w.heap.size ≤ B) : ∀ y ∈ cs, ∀ k, blks y.M y.rs k → ¬ blks x.M x.rs k := fun y hy k h1 h2 => by
  have := blks_high (h.rows y hy) k h1
  have := blks_low hx k h2
  omega
structure CB (lo : Nat) (w : World) (M c : Nat) (cs : List CRow) : Prop where
  at' : lo ≤ M
  cap : cs.length ≤ c ∧ c ≤ maxLen
  outer : ∃ cur : Array Value, Blk w M cur 51 ∧ cur.size = c * 2 ∧ ∀ i, i < cs.length → Cel (fun k => cur[k]?) i (nthR cs i)
  rows : RowsC lo w cs
theorem CB.grow {lo : Nat} {w w' : World} {M c : Nat} {cs : List CRow} (h : CB lo w M c cs) (hb : Below w.heap.size w w') : CB lo w' M c cs := by
  obtain ⟨cur, h1, h2⟩ := h.outer
  exact ⟨h.at', h.cap, ⟨cur, h1.grow hb, h2⟩, h.rows.grow hb⟩
theorem CB.down {lo lo' : Nat} {w : World} {M c : Nat} {cs : List CRow} (h : CB lo w M c cs) (hl : lo' ≤ lo) : CB lo' w M c cs := ⟨Nat.le_trans hl h.at', h.cap, h.outer, h.rows.down hl⟩
theorem CB.lt {lo : Nat} {w : World} {M c : Nat} {cs : List CRow} (h : CB lo w M c cs) : M < w.heap.size := by
  obtain ⟨cur, h1, _⟩ := h.outer
  exact h1.lt
theorem CB.nil {lo : Nat} {w : World} {M : Nat} (h : Blk w M #[] 51) (hl : lo ≤ M) : CB lo w M 0 [] :=
  ⟨hl, ⟨Nat.le_refl _, by simp [maxLen]⟩, ⟨#[], h, rfl, fun i hi => by simp at hi⟩, RowsC.nil _ _⟩
theorem CB.rn {lo : Nat} {w : World} {M c : Nat} {cs : List CRow} (h : CB lo w M c cs) : RdG RdN w (some ⟨M, 0, none⟩) (chs cs) := by
  obtain ⟨cur, h1, h2, h3⟩ := h.outer
  refine .inr ⟨M, 0, rfl, h1.lt, fun i hi => ?_⟩
  rw [chs_len] at hi
  obtain ⟨c0, c1⟩ := h3 i hi
  refine ⟨some ⟨(nthR cs i).M, 0, none⟩, (nthR cs i).c, ?_⟩
  rw [chs_nth hi]
  exact ⟨by rw [h1.cell, Nat.zero_add]; exact c0, by rw [h1.cell, Nat.zero_add, CRow.ch, pals_len]; exact c1, (h.rows.rows _ (nthR_mem hi)).rd⟩
theorem CB.rd {lo : Nat} {w : World} {M c : Nat} {cs : List CRow} (h : CB lo w M c cs) : RdG RdA w (some ⟨M, 0, none⟩) (chs cs) := h.rn.rd
theorem CB.set {lo : Nat} {w : World} {M c N : Nat} {cs : List CRow} {ds : Array Value} {T : TypeId} (h : CB lo w M c cs) (hN : Blk w N ds T) (hA : T ≠ 38) (hL : T ≠ 84) (hne : N ≠ M) (i : Nat) (v : Value) : CB lo (w.setCell ⟨N, i, none⟩ v) M c cs := by
  obtain ⟨cur, h1, h2⟩ := h.outer
  exact ⟨h.at', h.cap, ⟨cur, h1.set_other hne _, h2⟩, h.rows.moved (Moved.set hN hA hL i v)⟩
theorem CB.own {lo : Nat} {w : World} {M c : Nat} {cs : List CRow} (h : CB lo w M c cs) : ∃ xs : List Value, w.ownsRow lo 51 2 (.slice (some ⟨M, 0, none⟩) cs.length c) cs.length xs ∧ xs.length = cs.length * 2 ∧ ∀ i, i < cs.length → Cel (fun k => xs[k]?) i (nthR cs i) := by
  obtain ⟨cur, h1, h2, h3⟩ := h.outer
  have hc := h.cap
  have hlen : (cur.toList.take (cs.length * 2)).length = cs.length * 2 := by simp; omega
  refine ⟨cur.toList.take (cs.length * 2), ⟨hlen, .inr ⟨M, c, cur, rfl, h.at', h1, hc.1, hc.2, h2, rfl⟩⟩, hlen, fun i hi => ?_⟩
  refine (h3 i hi).congr fun k _ hk => ?_
  show (cur.toList.take _)[k]? = cur[k]?
  rw [List.getElem?_take_of_lt (by omega)]
  simp
theorem CB.app {lo : Nat} {W w' : World} {M c : Nat} {cs : List CRow} {x : CRow} {xs : List Value} {v' : Value} (h : CB lo W M c cs) (hx : AB lo W x.M x.c x.rs) (hne : ∀ y ∈ cs, ∀ k, blks y.M y.rs k → ¬ blks x.M x.rs k) (hl : xs.length = cs.length * 2) (hxs : ∀ i, i < cs.length → Cel (fun k => xs[k]?) i (nthR cs i))
    (hown : w'.ownsRow lo 51 2 v' (cs.length + 1) (xs ++ rowC x)) (hg : W.grownBy w' (some M)) : ∃ M' c', v' = .slice (some ⟨M', 0, none⟩) (cs.length + 1) c' ∧ CB lo w' M' c' (cs ++ [x]) := by
  rcases hown.2 with ⟨_, e⟩ | ⟨g, cap, cur, e, hb, hgb, hc, hm, hz, ht⟩
  · omega
  · obtain ⟨cu0, hcu0, _⟩ := h.outer
    have hmv : Moved W w' := Moved.far hcu0 (by decide) (by decide) hg
    refine ⟨g, cap, e, hb, ⟨by simp; omega, hm⟩, ⟨cur, hgb, hz, fun i hi => ?_⟩, (h.rows.app hx hne).moved hmv⟩
    have at' : ∀ k, k < (cs.length + 1) * 2 → cur[k]? = (xs ++ rowC x)[k]? := fun k hk => by
      rw [← ht, List.getElem?_take_of_lt hk]; simp
    simp at hi
    by_cases hlt : i < cs.length
    · rw [nthR_app_lt hlt]
      refine (hxs i hlt).congr fun k _ hk => ?_
      show cur[k]? = xs[k]?
      rw [at' k (by omega), List.getElem?_append_left (by omega)]
    · have ei : i = cs.length := by omega
      subst ei
      rw [nthR_app_eq]
      have hr : ∀ j, j < 2 → cur[cs.length * 2 + j]? = (rowC x)[j]? := fun j hj => by
        rw [at' _ (by omega), List.getElem?_append_right (by omega), hl]
        congr 1; omega
      exact ⟨hr 0 (by omega), hr 1 (by omega)⟩
def put2C (cs : Array Value) (k : Nat) (x : CRow) : Array Value := (cs.setIfInBounds (k * 2) (.int .i64 x.f)).setIfInBounds (k * 2 + 1) (.slice (some ⟨x.M, 0, none⟩) x.rs.length x.c)
def put2W (w : World) (M k : Nat) (x : CRow) : World := (w.setCell ⟨M, k * 2, none⟩ (.int .i64 x.f)).setCell ⟨M, k * 2 + 1, none⟩ (.slice (some ⟨x.M, 0, none⟩) x.rs.length x.c)
theorem put2_at {cs : Array Value} {k : Nat} {x : CRow} (h : k * 2 + 1 < cs.size) : Cel (fun j => (put2C cs k x)[j]?) k x := by
  unfold put2C
  exact ⟨by show (Array.setIfInBounds _ _ _)[_]? = _; rw [set_ne (by omega), set_at (by omega)], by show (Array.setIfInBounds _ _ _)[_]? = _; rw [set_at (by simp; omega)]⟩
theorem put2_ne {cs : Array Value} {k j : Nat} {x : CRow} (h : j < k * 2 ∨ k * 2 + 2 ≤ j) : (put2C cs k x)[j]? = cs[j]? := by
  unfold put2C
  rw [set_ne (by omega), set_ne (by omega)]
theorem put2_size (cs : Array Value) (k : Nat) (x : CRow) : (put2C cs k x).size = cs.size := by simp [put2C]
theorem put2W_blk {w : World} {M k : Nat} {x : CRow} {cs : Array Value} {T : TypeId} (h : Blk w M cs T) : Blk (put2W w M k x) M (put2C cs k x) T := (h.set _ _).set _ _
theorem put2W_low {w w' : World} {B M k : Nat} {x : CRow} (h : Below B w w') (hM : B ≤ M) : Below B w (put2W w' M k x) := (h.setCell hM _).setCell hM _
theorem put2W_moved {w : World} {M k : Nat} {x : CRow} {cs : Array Value} (h : Blk w M cs 51) : Moved w (put2W w M k x) := (Moved.set h (by decide) (by decide) _ _).trans (Moved.set (h.set _ _) (by decide) (by decide) _ _)
theorem nthR_put {cs : List CRow} {k i : Nat} {x : CRow} (hi : i < cs.length) : nthR (cs.set k x) i = if i = k then x else nthR cs i := by
  rw [nthR_eq (by simpa using hi), nthR_eq hi, List.getElem_set]
  by_cases e : k = i
  · subst e; simp
  · rw [if_neg e, if_neg (fun h => e h.symm)]
theorem CB.put {lo : Nat} {w : World} {M c k : Nat} {cs : List CRow} {x : CRow} (h : CB lo w M c cs) (hk : k < cs.length) (hx : AB lo w x.M x.c x.rs) (hne : ∀ y ∈ cs, ∀ k, blks y.M y.rs k → ¬ blks x.M x.rs k) : CB lo (put2W w M k x) M c (cs.set k x) := by
  obtain ⟨cur, h1, h2, h3⟩ := h.outer
  have hc := h.cap
  have hmv := put2W_moved (k := k) (x := x) h1
  refine ⟨h.at', by simpa using hc, ⟨put2C cur k x, put2W_blk h1, by rw [put2_size]; exact h2, fun i hi => ?_⟩, ⟨fun y hy => ?_, ?_⟩⟩
  · rw [List.length_set] at hi
    rw [nthR_put hi]
    by_cases e : i = k
    · subst e
      rw [if_pos rfl]
      exact put2_at (by omega)
    · rw [if_neg e]
      exact (h3 i hi).congr fun j h0 h1 => put2_ne (by omega)
  · rcases List.mem_or_eq_of_mem_set hy with hy | hy
    · exact ab_moved (h.rows.rows y hy) hmv
    · subst hy; exact ab_moved hx hmv
  · have hp := h.rows.ne
    rw [List.pairwise_iff_getElem] at hp ⊢
    intro i j hi hj hij
    simp only [List.length_set] at hi hj
    rw [List.getElem_set, List.getElem_set]
    by_cases e1 : k = i
    · rw [if_pos e1, if_neg (by omega)]
      exact fun q h1 h2 => hne _ (List.getElem_mem hj) q h2 h1
    · rw [if_neg e1]
      by_cases e2 : k = j
      · rw [if_pos e2]; exact hne _ (List.getElem_mem hi)
      · rw [if_neg e2]; exact hp i j hi hj hij

structure FillC (lo : Nat) (w : World) (M : Nat) (C : List PCh) (k : Nat) (cur : Array Value) (cs : List CRow) : Prop where
  blk : Blk w M cur 51
  size : cur.size = C.length * 2
  len : cs.length = k
  ch : chs cs = C.take k
  cell : ∀ i, i < k → Cel (fun j => cur[j]?) i (nthR cs i)
  rows : RowsC lo w cs
theorem FillC.grow {lo : Nat} {w w' : World} {M : Nat} {C : List PCh} {k : Nat} {cur : Array Value} {cs : List CRow} (h : FillC lo w M C k cur cs) (hb : Below w.heap.size w w') : FillC lo w' M C k cur cs :=
  ⟨h.blk.grow hb, h.size, h.len, h.ch, h.cell, h.rows.grow hb⟩
theorem FillC.next {lo : Nat} {w : World} {M : Nat} {C : List PCh} {k : Nat} {cur : Array Value} {cs : List CRow} {x : CRow} (h : FillC lo w M C k cur cs) (hk : k < C.length) (hx : AB lo w x.M x.c x.rs) (hp : x.ch = nthC C k) (hne : ∀ y ∈ cs, ∀ k, blks y.M y.rs k → ¬ blks x.M x.rs k) :
    FillC lo (put2W w M k x) M C (k + 1) (put2C cur k x) (cs ++ [x]) := by
  have hl := h.len
  have hs := h.size
  refine ⟨put2W_blk h.blk, by rw [put2_size]; exact hs, by simp [hl], by rw [chs_app, h.ch, takeC_up hk, hp], fun i hi => ?_, (h.rows.app hx hne).moved (put2W_moved h.blk)⟩
  by_cases e : i < k
  · rw [nthR_app_lt (by omega)]
    exact (h.cell i e).congr fun j h0 h1 => put2_ne (by omega)
  · have : i = cs.length := by omega
    subst this
    rw [nthR_app_eq, hl]
    exact put2_at (by omega)
theorem FillC.cb {lo : Nat} {w : World} {M : Nat} {C : List PCh} {cur : Array Value} {cs : List CRow} (h : FillC lo w M C C.length cur cs) (hlo : lo ≤ M) (hl : C.length ≤ 1048576) : CB lo w M C.length cs ∧ chs cs = C :=
  ⟨⟨hlo, ⟨by rw [h.len]; exact Nat.le_refl _, by unfold maxLen; omega⟩, ⟨cur, h.blk, h.size, fun i hi => h.cell i (by rw [← h.len]; exact hi)⟩, h.rows⟩, by rw [h.ch]; exact List.take_length⟩

set_option maxHeartbeats 1600000 in
theorem toS_any (a : Option Addr) (cap : Nat) (C : List PCh) (w : World) (hr : RdG RdA w a C) (hl : C.length ≤ 1048576) (hs : sumC C ≤ 1048576) :
    Calls Try.prog 22 #[.slice a C.length cap] w fun e w' => e = .returned (.slice (some ⟨w.heap.size, 0, none⟩) C.length C.length) ∧ (∃ cs, CB w.heap.size w' w.heap.size C.length cs ∧ chs cs = C) ∧ Below w.heap.size w w' := by
  have HR : Hid (RdG RdA w a C) := hr
  have HS : Hid (sumC C ≤ 1048576) := hs
  clear hr hs
  have hmk := make_k (P := Try.prog) 30 51 (.agg #[.int .i64 0, .slice none 0 0]) 2 32 Try.underlying30 infoC .i64 .i64 C.length (by omega) (by omega)
  go_enter Try.func22, Try.ntmps22
  go_wp2
  go_loopw [4] (fun i w' => ∃ (k : Nat) (cur : Array Value) (cs : List CRow), k ≤ C.length ∧ i = .int .i64 k ∧ FillC w.heap.size w' w.heap.size C k cur cs ∧ Below w.heap.size w w') (fun i _ => C.length - (intOf i).toNat)
  case atStart => exact ⟨0, _, [], Nat.zero_le _, rfl, ⟨Blk.new _ _ _, by simp [size_madeCells], rfl, rfl, fun i h => by omega, RowsC.nil _ _⟩, (Below.refl _ _).alloc (Nat.le_refl _) _⟩
  case round =>
    clear hmk
    obtain ⟨k, cur, cs, hk, rfl, hC, hw0⟩ := hrel
    have HB : Hid (Below w.heap.size w wr) := hw0
    have HC : Hid (FillC w.heap.size wr w.heap.size C k cur cs) := hC
    clear hC hw0
    by_cases hlt : k < C.length
    · have hlt' : (k : Int) < (C.length : Int) := by omega
      obtain ⟨b, off, rfl, hb, ad, cp, hat⟩ := (HR.out.below stays_rd HB.out).get hlt
      have h2 := hat.c0
      have h3 := hat.c1
      have HA : Hid (RdA wr ad (nthC C k).P) := hat.reads
      have HS1 : Hid ((nthC C k).P.length ≤ 1048576 ∧ sumL (nthC C k).P ≤ 1048576) := by have := sumC_nth hlt; have := HS.out; constructor <;> omega
      clear hat
      go_wp2_with fail
      refine (toC_any _ ad cp _ _ HA.out HS1.out.1 HS1.out.2).mono ?_
      rintro e w1 ⟨⟨M1, rs, rfl, hab, hp⟩, hb1⟩
      have HB1 : Hid (Below w.heap.size w w1) := grow_on HB.out hb1
      have hC1 : FillC w.heap.size w1 w.heap.size C k cur cs := HC.out.grow hb1
      have hrl : rs.length = (nthC C k).P.length := by rw [← pals_len, hp]
      have HN := hC1.next (x := ⟨(nthC C k).f, M1, (nthC C k).P.length, rs⟩) hlt (hab.down HB.out.size) (by unfold CRow.ch; rw [hp]) (HC.out.rows.fresh (x := ⟨(nthC C k).f, M1, (nthC C k).P.length, rs⟩) hab (Nat.le_refl _))
      unfold put2W put2C at HN
      rw [hrl] at HN
      have HC2 : Hid _ := HN
      have hsz := hC1.size
      obtain ⟨v0, c0⟩ : ∃ v, w1.cell? ⟨w.heap.size, k * 2, none⟩ = some v := ⟨cur[k * 2]'(by omega), by rw [hC1.blk.cell]; simp⟩
      obtain ⟨v1, c1⟩ : ∃ v, w1.cell? ⟨w.heap.size, k * 2 + 1, none⟩ = some v := ⟨cur[k * 2 + 1]'(by omega), by rw [hC1.blk.cell]; simp⟩
      have f0 := hC1.blk.frozen (k * 2)
      have f1 := hC1.blk.frozen (k * 2 + 1)
      clear hb1 h2 h3 hC1 hsz HN hab hp hrl
      go_wp2
      go_roundw
      case rel => exact ⟨k + 1, _, _, by omega, by go_num, HC2.out, (HB1.out.setCell (Nat.le_refl _) _).setCell (Nat.le_refl _) _⟩
      case measure => simp [intOf]; omega
    · have hge : ¬ (k : Int) < (C.length : Int) := by omega
      have HE : Hid (k = C.length) := by show k = C.length; omega
      go_wp2
      go_ret
      have hF := HC.out
      rw [HE.out] at hF
      exact ⟨rfl, ⟨cs, (hF.cb (Nat.le_refl _) hl).1, (hF.cb (Nat.le_refl _) hl).2⟩, HB.out⟩
end Go.Proofs.Ytooninmicfcfoaa.Chs
namespace Go.Proofs.Ytooninmicfcfoaa.Prt
open Go.RowKit
open Go.ChangeShapes Go.WideShapes
open Labs LabS Alms AlmS AlmM Over Blk App Rws ChnI ChnC ChnP ChnK Chs
open StrB (retB)

set_option maxHeartbeats 800000 in
theorem eqS_any (a a' : Option Addr) (cap cap' : Nat) (C : List PCh) (w : World) (hr : RdG RdA w a C) (hr' : RdG RdA w a' C) (hl : C.length ≤ maxLen) (hz : FitsC C) :
    Calls Try.prog 29 #[.slice a C.length cap, .slice a' C.length cap'] w fun e w' => e = .returned (.bool true) ∧ Below w.heap.size w w' := by
  unfold maxLen at hl
  have HR : Hid (RdG RdA w a C) := hr
  have HR' : Hid (RdG RdA w a' C) := hr'
  have HZ : Hid (FitsC C) := hz
  clear hr hr' hz
  go_enter Try.func29, Try.ntmps29
  go_wp2
  go_loopw [5] (fun i w' => ∃ k : Nat, i = .int .i64 k ∧ k ≤ C.length ∧ Below w.heap.size w w') (fun i _ => C.length - (intOf i).toNat)
  case atStart => exact ⟨0, rfl, Nat.zero_le _, Below.refl _ _⟩
  case round =>
    obtain ⟨k, rfl, hk, hw0⟩ := hrel
    have HB : Hid (Below w.heap.size w wr) := hw0
    clear hw0
    by_cases hlt : k < C.length
    · have hlt' : (k : Int) < (C.length : Int) := by omega
      obtain ⟨b, off, rfl, hb, ad, cp, hat⟩ := (HR.out.below stays_rd HB.out).get hlt
      obtain ⟨b', off', rfl, hb', ad', cp', hat'⟩ := (HR'.out.below stays_rd HB.out).get hlt
      have hne := Grown.some wr
      have x0 := fun x : Grown wr => x.cell hb hat.c0
      have x1 := fun x : Grown wr => x.cell hb hat.c1
      have y0 := fun x : Grown wr => x.cell hb' hat'.c0
      have y1 := fun x : Grown wr => x.cell hb' hat'.c1
      have HC : ∀ x : Grown wr, Hid (Calls Try.prog 52 #[.agg #[.int .i64 (nthC C k).f, .slice ad (nthC C k).P.length cp], .agg #[.int .i64 (nthC C k).f, .slice ad' (nthC C k).P.length cp']] x.out fun e w' => e = .returned (.bool true) ∧ Below x.out.heap.size x.out w') := fun x => eqC_any _ ad ad' cp cp' _ x.out (hat.reads.below x.bel) (hat'.reads.below x.bel) (HZ.out _ (nthC_mem hlt)).len (HZ.out _ (nthC_mem hlt)).fits
      clear hat hat'
      go_wp2
      refine wp_over (z := wr) (by kernel_rfl) (by kernel_rfl) (Below.refl _ _) ?_
      repeat (go_big_quiet_step (first | (go_at_call 52; exact call_over (HC _).out)))
      refine wpQuiet_nil ?_
      intro w2 hw2
      have HB2 : Hid (Below w.heap.size w w2) := grow_on HB.out (over_bel hw2)
      clear hw2 hne x0 x1 y0 y1 HC
      go_wp2
      go_roundw
      case rel => exact ⟨k + 1, by go_num, by omega, HB2.out⟩
      case measure => simp [intOf]; omega
    · have hge : ¬ (k : Int) < (C.length : Int) := by omega
      go_wp2
      go_ret
      exact ⟨rfl, HB.out⟩
theorem set3 {B M : Nat} {w w' : World} (h : Below B w w') (hM : B ≤ M) (v0 v1 v2 : Value) : Below B w (((w'.setCell ⟨M, 0, none⟩ v0).setCell ⟨M, 1, none⟩ v1).setCell ⟨M, 2, none⟩ v2) :=
  ((h.setCell hM _).setCell hM _).setCell hM _
theorem put3 {w : World} {M : Nat} {x0 x1 x2 : Value} {T : TypeId} (h : Blk w M #[x0, x1, x2] T) (v0 v1 v2 : Value) : Blk (((w.setCell ⟨M, 0, none⟩ v0).setCell ⟨M, 1, none⟩ v1).setCell ⟨M, 2, none⟩ v2) M #[v0, v1, v2] T :=
  ((h.set 0 v0).set 1 v1).set 2 v2
theorem blkT_ne {w : World} {a b : Nat} {cs ds : Array Value} {T U : TypeId} (h : Blk w a cs T) (k : Blk w b ds U) (hT : T ≠ U) : a ≠ b := fun e => by
  subst e
  unfold Blk at h k
  rw [h] at k
  injection k with k
  injection k with _ k
  exact hT k
theorem CB.set' {lo : Nat} {w : World} {M c N : Nat} {cs : List CRow} {ds : Array Value} (h : CB lo w M c cs) (hN : Blk w N ds 32) (i : Nat) (v : Value) : CB lo (w.setCell ⟨N, i, none⟩ v) M c cs := by
  obtain ⟨cur, h1, h2⟩ := h.outer
  exact CB.set h hN (by decide) (by decide) (blkT_ne hN h1 (by decide)) i v
theorem CB.set3 {lo : Nat} {w : World} {M c N : Nat} {cs : List CRow} {ds : Array Value} (h : CB lo w M c cs) (hN : Blk w N ds 32) (v0 v1 v2 : Value) : CB lo (((w.setCell ⟨N, 0, none⟩ v0).setCell ⟨N, 1, none⟩ v1).setCell ⟨N, 2, none⟩ v2) M c cs :=
  CB.set' (CB.set' (CB.set' h hN 0 v0) (hN.set 0 v0) 1 v1) ((hN.set 0 v0).set 1 v1) 2 v2

set_option maxHeartbeats 800000 in
theorem toPart_any (hd vr : Int) (a : Option Addr) (cap : Nat) (C : List PCh) (w : World) (hr : RdG RdA w a C) (hl : C.length ≤ 1048576) (hs : sumC C ≤ 1048576) :
    Calls Try.prog 7 #[.agg #[.int .i64 hd, .int .i64 vr, .slice a C.length cap]] w fun r w' => (∃ M cs, r = .returned (.agg #[.int .i64 hd, .int .i64 vr, .slice (some ⟨M, 0, none⟩) C.length C.length]) ∧ CB w.heap.size w' M C.length cs ∧ chs cs = C) ∧ Below w.heap.size w w' := by
  have HR : Hid (RdG RdA w a C) := hr
  have HS : Hid (sumC C ≤ 1048576) := hs
  clear hr hs
  go_enter Try.func7, Try.ntmps7
  go_wp2_with fail
  generalize hW : ((w.alloc (.cells #[.int .i64 hd, .int .i64 vr, .slice a C.length cap] 24)).alloc (.cells #[.int .i64 0, .int .i64 0, .slice none 0 0] 32)).alloc (.cells #[.int .i64 hd, .int .i64 vr, .slice none 0 0] 32) = W
  have hB3 : Below w.heap.size w W := by rw [← hW]; exact Alm.below3 w _ _ _
  have hP : Blk W w.heap.size #[.int .i64 hd, .int .i64 vr, .slice a C.length cap] 24 := by rw [← hW]; exact ((Blk.new _ _ _).alloc _).alloc _
  have hR : Blk W (w.heap.size + 1) #[.int .i64 0, .int .i64 0, .slice none 0 0] 32 := by rw [← hW]; exact (Blk.new_at (by simp)).alloc _
  have hO : Blk W (w.heap.size + 1 + 1) #[.int .i64 hd, .int .i64 vr, .slice none 0 0] 32 := by rw [← hW]; exact Blk.new_at (by simp)
  have hSz : W.heap.size = w.heap.size + 1 + 1 + 1 := by rw [← hW]; simp
  clear hW
  refine (toS_any a cap C _ (HR.out.below stays_rd hB3) hl HS.out).mono ?_
  rintro r w1 ⟨rfl, ⟨cs, hC, hch⟩, hb⟩
  rw [hSz] at hC ⊢
  have HB : Hid (Below w.heap.size w w1) := grow_on hB3 hb
  have HC : Hid (CB w.heap.size w1 (w.heap.size + 1 + 1 + 1) C.length cs ∧ chs cs = C) := ⟨hC.down (by omega), hch⟩
  have hR1 := hR.grow hb
  have hO1 := hO.grow hb
  have HRR : Hid (Blk w1 (w.heap.size + 1) #[.int .i64 0, .int .i64 0, .slice none 0 0] 32) := hR1
  have HO : Hid (Blk w1 (w.heap.size + 1 + 1) #[.int .i64 hd, .int .i64 vr, .slice none 0 0] 32) := hO1
  have o0 : w1.cell? ⟨w.heap.size + 1 + 1, 0, none⟩ = some (.int .i64 hd) := hO1.cell 0
  have o1 : w1.cell? ⟨w.heap.size + 1 + 1, 1, none⟩ = some (.int .i64 vr) := hO1.cell 1
  have o2 : w1.cell? ⟨w.heap.size + 1 + 1, 2, none⟩ = some (.slice none 0 0) := hO1.cell 2
  have fo := hO1.frozen 2
  have r0 : w1.cell? ⟨w.heap.size + 1, 0, none⟩ = some (.int .i64 0) := hR1.cell 0
  have r1 : w1.cell? ⟨w.heap.size + 1, 1, none⟩ = some (.int .i64 0) := hR1.cell 1
  have r2 : w1.cell? ⟨w.heap.size + 1, 2, none⟩ = some (.slice none 0 0) := hR1.cell 2
  have f0 := hR1.frozen 0
  have f1 := hR1.frozen 1
  have f2 := hR1.frozen 2
  clear hb hC hch hR hO hR1 hO1 hB3 hP hSz
  go_wp2
  have hs := put3 (HRR.out.set_other (p := ⟨w.heap.size + 1 + 1, 2, none⟩) (by show w.heap.size + 1 + 1 ≠ w.heap.size + 1; omega) (.slice (some ⟨w.heap.size + 1 + 1 + 1, 0, none⟩) C.length C.length)) (.int .i64 hd) (.int .i64 vr) (.slice (some ⟨w.heap.size + 1 + 1 + 1, 0, none⟩) C.length C.length)
  have s0 := hs.cell 0
  have s1 := hs.cell 1
  have s2 := hs.cell 2
  refine bodyPost_ret (v := .agg #[.int .i64 hd, .int .i64 vr, .slice (some ⟨w.heap.size + 1 + 1 + 1, 0, none⟩) C.length C.length]) (by simp [results, Try.results7, go_sem, s0, s1, s2]) rfl ?_
  exact ⟨⟨w.heap.size + 1 + 1 + 1, cs, rfl, CB.set3 (CB.set' HC.out.1 HO.out _ _) (HRR.out.set_other (by show w.heap.size + 1 + 1 ≠ w.heap.size + 1; omega) _) _ _ _, HC.out.2⟩, set3 (ChnI.set_low HB.out (by omega) _ _) (by omega) _ _ _⟩

theorem eqPart_any (hd vr : Int) (a a' : Option Addr) (cap cap' : Nat) (C : List PCh) (w : World) (hr : RdG RdA w a C) (hr' : RdG RdA w a' C) (hl : C.length ≤ maxLen) (hz : FitsC C) :
    Calls Try.prog 10 #[.agg #[.int .i64 hd, .int .i64 vr, .slice a C.length cap], .agg #[.int .i64 hd, .int .i64 vr, .slice a' C.length cap']] w fun e w' => e = .returned (.bool true) ∧ Below w.heap.size w w' := by
  have HR : Hid (RdG RdA w a C ∧ RdG RdA w a' C ∧ C.length ≤ maxLen ∧ FitsC C) := ⟨hr, hr', hl, hz⟩
  clear hr hr' hl hz
  go_enter Try.func10, Try.ntmps10
  go_wp2_with fail
  refine (eqS_any a a' cap cap' C _ (HR.out.1.below stays_rd (Go.Joins.below_alloc2 w _ _)) (HR.out.2.1.below stays_rd (Go.Joins.below_alloc2 w _ _)) HR.out.2.2.1 HR.out.2.2.2).mono ?_
  rintro r w1 ⟨rfl, hb⟩
  have HB : Hid (Below w.heap.size w w1) := grow_on (Go.Joins.below_alloc2 w _ _) hb
  clear hb
  go_wp2
  go_ret
  exact ⟨rfl, HB.out⟩

set_option maxRecDepth 100000 in
theorem open_chains {H : Type} {enc : TypeId × Value → H} {W : World} {base : Nat} {spare : Nat → Bool} {held : Bool} {a : Option Addr} {len cap : Nat} {d : DataW H} {p : List MemPlace}
    (h : DataW.Trod enc Try.prog W base spare held 22 (.slice a len cap) d p) : ∃ C : List PCh, len = C.length ∧ RdG RdA W a C ∧ C.length ≤ maxLen ∧ FitsC C := by
  obtain ⟨fuel, hf⟩ := h
  rcases Go.Deep.open_slice Try.underlying22 (by simpa [Value.cells] using hf) with ⟨hcs, _⟩ | ⟨x, l, c, m, n, D, Pl, hcs, _, hl, hm, hmm, _, hx⟩
  · simp at hcs
    obtain ⟨rfl, rfl, rfl⟩ := hcs
    exact ⟨[], rfl, .inl rfl, by simp, fun i hi => by simp at hi⟩
  · simp at hcs
    obtain ⟨rfl, rfl, rfl⟩ := hcs
    have hlm : len ≤ m := by rw [hmm]; split <;> omega
    have each : ∀ i, i < len → ∃ z : PCh, FitC z ∧ ∃ (ad : Option Addr) (cp : Nat), W.cell? (x.add (i * 2)) = some (.int .i64 z.f) ∧ W.cell? (x.add (i * 2 + 1)) = some (.slice ad z.P.length cp) ∧ RdA W ad z.P := by
      intro i hi
      obtain ⟨cs', h1, h2⟩ := hx i (by omega)
      rw [cellsC] at h1
      obtain ⟨_, hlen, hcell⟩ := World.cells?_some h1
      obtain ⟨xs, k, hk, hxy, _, hxl, hf⟩ := DataW.trod_struct Try.underlying73 h2
      match xs, hxl, cs', hlen with
      | [y0, y1], _, [v0, v1], _ =>
        have k0 : Try.prog.cellsOf 71 = 1 := by kernel_rfl
        have k1 : Try.prog.cellsOf 3 = 1 := by kernel_rfl
        have g0 : DataW.trod enc Try.prog W base spare held k 3 [v0] = some y0 := by have := hf 0 _ rfl; simpa [k1] using this
        have g1 : DataW.trod enc Try.prog W base spare held k 71 [v1] = some y1 := by have := hf 1 _ rfl; simpa [k0] using this
        obtain ⟨s, e0, _, z0⟩ := DataW.trod_int Try.underlying3 g0
        obtain ⟨ad, ln, cp, e1⟩ := Go.Joins.slice_form Try.underlying71 g1
        simp at e0 e1
        subst e0 e1
        obtain ⟨P, rfl, hr, hll, hff⟩ := open_alarms (enc := enc) (W := W) (d := y1.1) (p := y1.2) ⟨k, by simpa [Value.cells] using g1⟩
        have c0 := hcell 0 (by omega)
        have c1 := hcell 1 (by omega)
        rw [Go.Deep.add_add] at c0 c1
        exact ⟨⟨s, P⟩, ⟨Go.bounds_i64 z0, hll, hff⟩, ad, cp, by simpa using c0, by simpa using c1, hr⟩
    have hin : Inhabited PCh := ⟨⟨0, []⟩⟩
    obtain ⟨f, hfz⟩ := Go.Deep.choose_lt each
    have hlen : ((List.range len).map f).length = len := by simp
    have hn : ∀ i, i < len → nthC ((List.range len).map f) i = f i := fun i hi => by rw [nthC_eq (by simpa using hi)]; simp
    refine ⟨(List.range len).map f, hlen.symm, ?_, by omega, fun y hy => ?_⟩
    · by_cases h0 : len = 0
      · left; subst h0; rfl
      · right
        obtain ⟨b, off, spot⟩ := x
        obtain ⟨_, ad, cp, c0, _⟩ := hfz 0 (by omega)
        have hspot : spot = none := by simpa [Addr.add] using World.cell?_spot c0
        subst hspot
        have eb : b < W.heap.size := by
          by_cases hb : b < W.heap.size
          · exact hb
          · have : W.heap[b]? = none := by simp; omega
            simp [World.cell?, Addr.add, this] at c0
        have ea : ∀ i, (⟨b, off, none⟩ : Addr).add i = ⟨b, off + i, none⟩ := fun i => by by_cases h : i = 0 <;> simp [Addr.add, h]
        refine ⟨b, off, rfl, eb, fun i hi => ?_⟩
        rw [hlen] at hi
        obtain ⟨_, ad, cp, c0, c1, hr⟩ := hfz i hi
        rw [ea] at c0 c1
        rw [hn i hi]
        exact ⟨ad, cp, c0, c1, hr⟩
    · obtain ⟨i, hi, rfl⟩ := List.mem_map.1 hy
      exact (hfz i (by simpa using hi)).1
theorem cellsP : Try.prog.cellsOf 24 = 3 := by kernel_rfl
def I64 (x : Int) : Prop := -9223372036854775808 ≤ x ∧ x ≤ 9223372036854775807
set_option maxRecDepth 100000 in
theorem open_part {H : Type} {enc : TypeId × Value → H} {W : World} {base b0 : Nat} {spare : Nat → Bool} {held : Bool} {r : Reach} {v : Value} {d : DataW H} {p : List MemPlace}
    (hv : Value.okWide Try.prog W r b0 24 v) (h : DataW.Trod enc Try.prog W base spare held 24 v d p) :
    ∃ (hd vr : Int) (a : Option Addr) (cap : Nat) (C : List PCh), v = .agg #[.int .i64 hd, .int .i64 vr, .slice a C.length cap] ∧ RdG RdA W a C ∧ C.length ≤ maxLen ∧ FitsC C ∧ I64 hd ∧ I64 vr := by
  obtain ⟨c0, c1, c2, y0, y1, y2, m, rfl, rfl, rfl, hy0, hy1, hy2⟩ := Go.Joins.open_agg3 Try.underlying24 (by kernel_rfl) cellsP hv h
  obtain ⟨a, len, cap, e2⟩ := Go.Joins.slice_form Try.underlying22 hy2
  obtain ⟨f, e0, _, z0⟩ := DataW.trod_int Try.underlying3 hy0
  obtain ⟨g, e1, _, z1⟩ := DataW.trod_int Try.underlying3 hy1
  simp at e0 e1 e2
  subst e0 e1 e2
  obtain ⟨C, rfl, hr, hl, hf⟩ := open_chains (enc := enc) (W := W) (d := y2.1) (p := y2.2) ⟨m, by simpa [Value.cells] using hy2⟩
  exact ⟨f, g, a, cap, C, rfl, hr, hl, hf, Go.bounds_i64 z0, Go.bounds_i64 z1⟩
end Go.Proofs.Ytooninmicfcfoaa.Prt
