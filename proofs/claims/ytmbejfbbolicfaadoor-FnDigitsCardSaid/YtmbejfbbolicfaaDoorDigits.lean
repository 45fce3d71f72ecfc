/-
  PROVED: whatever the code, the law laws.FnDigits returns true and leaves the code as it was: numbers come back of their digits, where the listed tables of the library hold what the program's text lays in them, to which the card ties them.
-/
import Derived.Test.YtmbejfbbolicfaaDoorRows
import Derived.WalkKit
import Derived.ProofKit
import Derived.OpenShut
import Derived.ShutString
import Derived.ChangeOld
import Derived.Below
import Derived.WalkLawsBesides
import Derived.WalkSpells
import Derived.Test.YtmbejfbbolicfaaDoorTie
import Derived.Test.YtmbejfbbolicfaaDoorCards
import Derived.Test.YtmbejfbbolicfaaDoorParse
import Derived.Test.YtmbejfbbolicfaaDoorDig
import Derived.Test.YtmbejfbbolicfaaDoorNumS
import Derived.Test.YtmbejfbbolicfaaDoorNumI
import Derived.Test.YtmbejfbbolicfaaDoorDraw
import Derived.LaidMore
import Derived.Stop.Joined
import Derived.Stop.LaidErr
import Derived.Lib.LaidTab
import Derived.SevenTiedAt
import Derived.WalkSmall
namespace Go.Proofs.YtmbejfbbolicfaaDoor.FnDigits
open Go.ChangeShapes Go.WideShapes Go.ChangeAt Go.RowKit
open Go.ChangeMaps (open_string shut_string)
set_option linter.unusedVariables false

open Go.Proofs.YtmbejfbbolicfaaDoor.Draw Go.Proofs.YtmbejfbbolicfaaDoor.Dig Go.Proofs.YtmbejfbbolicfaaDoor.Plain
/-- what the walk is told of the slice of bytes that came in -/
def IsRow (k : IntKind) (w : World) (a : Option Addr) (len cap : Nat) (zs : List Int) : Prop :=
  (a = none ∧ len = 0 ∧ cap = 0 ∧ zs = []) ∨
  ∃ x, a = some x ∧ len ≤ cap ∧ cap ≤ maxLen ∧ zs.length = cap ∧ (∀ i, i < zs.length → w.cell? (x.add i) = some (.int k (zs.getD i 0))) ∧ ∀ n ∈ zs, (Lit.int k n).wf = true

theorem block_lt {w : World} {x : Addr} {v : Value} (h : w.cell? x = some v) : x.block < w.heap.size := by
  by_cases hb : x.block < w.heap.size
  · exact hb
  · have : w.heap[x.block]? = none := by simp; omega
    simp [World.cell?, this] at h

theorem bytes_of {w : World} {a : Option Addr} {len cap : Nat} {zs : List Int} (h : IsRow .u8 w a len cap zs) : len ≤ maxLen ∧ Bytes w a len w.heap.size := by
  rcases h with ⟨rfl, rfl, rfl, rfl⟩ | ⟨x, rfl, hl, hm, hz, hc, hs⟩
  · exact ⟨by simp, .inl rfl⟩
  · refine ⟨by omega, ?_⟩
    by_cases h0 : len = 0
    · exact .inl h0
    · obtain ⟨b, off, spot⟩ := x
      have h00 := hc 0 (by omega)
      have hspot : spot = none := by simpa [Addr.add] using World.cell?_spot h00
      subst hspot
      refine .inr ⟨b, off, rfl, block_lt (x := ⟨b, off, none⟩) (by simpa [Addr.add] using h00), fun i hi => ?_⟩
      have hii := hc i (by omega)
      have ea : (⟨b, off, none⟩ : Addr).add i = ⟨b, off + i, none⟩ := by by_cases h : i = 0 <;> simp [Addr.add, h]
      rw [ea] at hii
      have hi' : i < zs.length := by omega
      have hw := hs (zs.getD i 0) (by rw [List.getD_eq_getElem?_getD, List.getElem?_eq_getElem hi']; exact List.getElem_mem _)
      have hbd := bounds_u8 hw
      exact ⟨_, hii, hbd.1, hbd.2⟩

theorem bytes_up {w w' : World} {a : Option Addr} {len : Nat} (h : Bytes w a len w.heap.size) (hb : Below w.heap.size w w') : Bytes w' a len w'.heap.size := by
  rcases h with h | ⟨b, off, rfl, hlt, hz⟩
  · exact .inl h
  · exact .inr ⟨b, off, rfl, Nat.lt_of_lt_of_le hlt hb.size, fun j hj => by
      obtain ⟨z, h1, h2⟩ := hz j hj
      exact ⟨z, by rw [hb.cell (p := ⟨b, off + j, none⟩) hlt]; exact h1, h2⟩⟩
theorem tab_below {w w' : World} (h : Lib.TabIs Tryd.prog w "internal/strconv.uint64pow10" .u64 Lib.pow10Tab) (hb : Below w.heap.size w w') : Lib.TabIs Tryd.prog w' "internal/strconv.uint64pow10" .u64 Lib.pow10Tab := by
  have hg : Tryd.prog.globalNamed "internal/strconv.uint64pow10" = some 0 := by kernel_rfl
  have hc := block_lt (h.cell hg 0 (by decide))
  exact var?_below hb hg hc h

theorem itoa_len (n : Int) (h0 : -9223372036854775808 ≤ n) (h1 : n ≤ 9223372036854775807) : (Lib.itoa n).length ≤ 21 := by
  unfold Lib.itoa
  split
  · have := NumI.digits_le n.natAbs (by omega)
    simp; omega
  · have := NumI.digits_le n.toNat (by omega)
    omega
theorem parse_yes (s : ByteArray) (y : Int) (w : World) (hs : s.size ≤ maxLen) (hg : good s.data.toList = true) (hy : ans s.data.toList = y) :
    Calls Tryd.prog 7 #[.string s] w fun e w' => e = .returned (.tuple #[.int .i64 y, .bool true]) ∧ Below w.heap.size w w' := by
  refine (Parse.impl_any s w hs).mono fun e w' ⟨he, pos, hw⟩ => ⟨?_, ?_⟩
  · rw [he, hg, hy]; rfl
  · rw [hw]; exact (Below.refl _ _).alloc (Nat.le_refl _) _
theorem parse_no (s : ByteArray) (w : World) (hs : s.size ≤ maxLen) (hg : good s.data.toList = false) :
    Calls Tryd.prog 7 #[.string s] w fun e w' => e = .returned (.tuple #[.int .i64 0, .bool false]) ∧ Below w.heap.size w w' := by
  refine (Parse.impl_any s w hs).mono fun e w' ⟨he, pos, hw⟩ => ⟨?_, ?_⟩
  · rw [he, hg, ans_no hg]; rfl
  · rw [hw]; exact (Below.refl _ _).alloc (Nat.le_refl _) _
theorem sparse_yes (s : ByteArray) (y : Int) (w : World) (hs : s.size ≤ maxLen) (hg : good s.data.toList = true) (hy : ans s.data.toList = y) :
    Calls Tryd.prog 9 #[.string s] w fun e w' => e = .returned (.tuple #[.int .i64 y, .bool true]) ∧ w' = w := by
  refine (Parse.spec_any s w hs).mono fun e w' ⟨he, hw⟩ => ⟨?_, hw⟩
  rw [he, hg, hy]; rfl
theorem sparse_no (s : ByteArray) (w : World) (hs : s.size ≤ maxLen) (hg : good s.data.toList = false) :
    Calls Tryd.prog 9 #[.string s] w fun e w' => e = .returned (.tuple #[.int .i64 0, .bool false]) ∧ w' = w := by
  refine (Parse.spec_any s w hs).mono fun e w' ⟨he, hw⟩ => ⟨?_, hw⟩
  rw [he, hg, ans_no hg]; rfl
theorem back (s : ByteArray) (h : good s.data.toList = true) : (⟨(Lib.itoa (ans s.data.toList)).toArray⟩ : ByteArray) = s := by
  rw [itoa_ans _ h]
theorem num_back (s : ByteArray) (y : Int) (w : World) (hg : good s.data.toList = true) (hy : ans s.data.toList = y) (htab : Lib.TabIs Tryd.prog w "internal/strconv.uint64pow10" .u64 Lib.pow10Tab) :
    Calls Tryd.prog 6 #[.int .i64 y] w fun e w' => e = .returned (.string s) ∧ Below w.heap.size w w' := by
  have hb := ans_bd s.data.toList
  rw [hy] at hb
  refine (NumI.impl_any y w (by omega) hb.2 htab).mono fun e w' ⟨he, hw⟩ => ⟨?_, hw⟩
  rw [he, ← hy, back s hg]
theorem num_any (n : Int) (s : ByteArray) (w : World) (h0 : -9223372036854775808 ≤ n) (h1 : n ≤ 9223372036854775807) (hs : s = ⟨(Lib.itoa n).toArray⟩) (htab : Lib.TabIs Tryd.prog w "internal/strconv.uint64pow10" .u64 Lib.pow10Tab) :
    Calls Tryd.prog 6 #[.int .i64 n] w fun e w' => e = .returned (.string s) ∧ Below w.heap.size w w' := by
  rw [hs]; exact NumI.impl_any n w h0 h1 htab
theorem snum_any (n : Int) (s : ByteArray) (w : World) (h0 : -9223372036854775808 ≤ n) (h1 : n ≤ 9223372036854775807) (hs : s = ⟨(Lib.itoa n).toArray⟩) :
    Calls Tryd.prog 10 #[.int .i64 n] w fun e w' => e = .returned (.string s) ∧ Below w.heap.size w w' := by
  rw [hs]; exact NumS.spec_any n w h0 h1

set_option maxHeartbeats 400000 in
theorem drawNum_any (a : Option Addr) (len cap : Nat) (w : World) (hl : len ≤ maxLen) (hb : Bytes w a len w.heap.size) :
    Calls Tryd.prog 5 #[.slice a len cap] w fun e w' => (∃ n : Int, e = .returned (.int .i64 n) ∧ -9223372036854775808 ≤ n ∧ n ≤ 9223372036854775807) ∧ Below w.heap.size w w' := by
  have HB : Hid (Bytes w a len w.heap.size) := hb
  have HL : Hid (len ≤ maxLen) := hl
  clear hb hl
  go_enter Tryd.func5, Tryd.ntmps5
  go_wp2_with fail
  refine (new_any a len cap _ HL.out HB.out).mono ?_
  rintro e w1 ⟨rfl, hc1, hb1⟩
  have HC1 : Hid (Cur w1 w.heap.size ∧ Below w.heap.size w w1) := ⟨hc1, hb1⟩
  clear hc1 hb1
  go_wp2_with fail
  refine (once_any _ 2 _ HC1.out.1 (by decide) (by decide)).mono ?_
  rintro e w2 ⟨⟨b, rfl⟩, hc2, hk2⟩
  have HC2 : Hid (Cur w2 w.heap.size ∧ Below w.heap.size w w2) := ⟨hc2, HC1.out.2.trans (hk2.below (Nat.le_refl _) HC1.out.2.size)⟩
  clear hc2 hk2
  cases b with
  | true =>
    go_wp2_with fail
    refine (raw_any _ _ HC2.out.1).mono ?_
    rintro e w3 ⟨⟨x, rfl, hx⟩, hc3, hk3⟩
    have HB3 : Hid (Below w.heap.size w w3) := HC2.out.2.trans (hk3.below (Nat.le_refl _) HC2.out.2.size)
    have HX : Hid (-9223372036854775808 ≤ x ∧ x ≤ 9223372036854775807) := hx
    clear hc3 hk3 hx
    go_wp2
    go_ret
    exact ⟨⟨_, rfl, HX.out⟩, HB3.out⟩
  | false =>
    go_wp2_with fail
    refine (below_any _ 100000 _ HC2.out.1 (by decide) (by decide)).mono ?_
    rintro e w3 ⟨⟨x, rfl, hx0, hx1⟩, hc3, hk3⟩
    have HB3 : Hid (Below w.heap.size w w3) := HC2.out.2.trans (hk3.below (Nat.le_refl _) HC2.out.2.size)
    clear hc3 hk3
    go_wp2
    go_ret
    exact ⟨⟨_, rfl, by omega, by omega⟩, HB3.out⟩

set_option maxHeartbeats 400000 in
theorem drawParse_any (a : Option Addr) (len cap : Nat) (w : World) (hl : len ≤ maxLen) (hb : Bytes w a len w.heap.size) :
    Calls Tryd.prog 8 #[.slice a len cap] w fun e w' => (∃ s : ByteArray, e = .returned (.string s) ∧ s.size ≤ 100) ∧ Below w.heap.size w w' := by
  have HB : Hid (Bytes w a len w.heap.size) := hb
  have HL : Hid (len ≤ maxLen) := hl
  clear hb hl
  go_enter Tryd.func8, Tryd.ntmps8
  go_wp2_with fail
  refine (new_any a len cap _ HL.out HB.out).mono ?_
  rintro e w1 ⟨rfl, hc1, hb1⟩
  have HC1 : Hid (Cur w1 w.heap.size ∧ Below w.heap.size w w1) := ⟨hc1, hb1⟩
  clear hc1 hb1
  go_wp2_with fail
  refine (once_any _ 2 _ HC1.out.1 (by decide) (by decide)).mono ?_
  rintro e w2 ⟨⟨b, rfl⟩, hc2, hk2⟩
  have HC2 : Hid (Cur w2 w.heap.size ∧ Below w.heap.size w w2) := ⟨hc2, HC1.out.2.trans (hk2.below (Nat.le_refl _) HC1.out.2.size)⟩
  clear hc2 hk2
  cases b with
  | true =>
    go_wp2_with fail
    refine (str_any w.heap.size _ _ _ _ _ ?hc ?hr ?h1 ?h2).mono ?_
    case hc => exact HC2.out.1.alloc _
    case hr => exact row_lit (by decide) rfl HC2.out.1.lt
    case h1 => decide
    case h2 => decide
    rintro e w3 ⟨⟨s, rfl, hs⟩, hc3, hk3⟩
    have HB3 : Hid (Below w.heap.size w w3) := (HC2.out.2.alloc HC2.out.2.size _).trans (hk3.below (Nat.le_refl _) (by simp; exact Nat.le_succ_of_le HC2.out.2.size))
    clear hc3 hk3
    go_wp2
    go_ret
    exact ⟨⟨_, rfl, hs⟩, HB3.out⟩
  | false =>
    go_wp2_with fail
    refine (below_any _ 100000 _ HC2.out.1 (by decide) (by decide)).mono ?_
    rintro e w3 ⟨⟨x, rfl, hx0, hx1⟩, hc3, hk3⟩
    have HB3 : Hid (Below w.heap.size w w3) := HC2.out.2.trans (hk3.below (Nat.le_refl _) HC2.out.2.size)
    clear hc3 hk3
    have HX : Hid ((⟨(Lib.itoa x).toArray⟩ : ByteArray).size ≤ 100) := by
      show (Lib.itoa x).toArray.size ≤ 100
      have := itoa_len x (by omega) (by omega)
      simp; omega
    go_wp2_with fail
    refine (NumS.spec_any x _ (by omega) (by omega)).mono ?_
    rintro e w4 ⟨rfl, hb4⟩
    have HB4 : Hid (Below w.heap.size w w4) := HB3.out.trans (hb4.mono HB3.out.size)
    clear hb4
    go_wp2
    go_ret
    exact ⟨⟨_, rfl, HX.out⟩, HB4.out⟩

theorem big_any (a : Option Addr) (len cap : Nat) (w : World) (hl : len ≤ maxLen) :
    Calls Tryd.prog 4 #[.slice a len cap] w fun e w' => e = .returned (.bool (decide ((1048576 : Int) < (len : Int)))) ∧ w' = w := by
  unfold maxLen at hl
  by_cases c : (1048576 : Int) < (len : Int)
  all_goals
    go_enter Tryd.func4, Tryd.ntmps4
    go_wp2
    go_ret
    exact ⟨Parse.retB (by simp; omega), rfl⟩

/-- the three kinds of numbers that are drawn -/
theorem kinds (n : Int) : (inside n = true ∧ 0 ≤ n ∧ n ≤ 99999) ∨ (inside n = false ∧ n < 0) ∨ (inside n = false ∧ 99999 < n) := by
  unfold inside
  by_cases h : 0 ≤ n ∧ n ≤ 99999
  · exact .inl ⟨decide_eq_true h, h⟩
  · by_cases h0 : n < 0
    · exact .inr (.inl ⟨decide_eq_false h, h0⟩)
    · exact .inr (.inr ⟨decide_eq_false h, by omega⟩)

set_option maxHeartbeats 4000000 in
theorem core (a : Option Addr) (len cap : Nat) (w : World) (hl : len ≤ maxLen) (hb : Bytes w a len w.heap.size) (htab : Lib.TabIs Tryd.prog w "internal/strconv.uint64pow10" .u64 Lib.pow10Tab) :
    Calls Tryd.prog 3 #[.slice a len cap] w fun e w' => e = .returned (.bool true) ∧ Below w.heap.size w w' := by
  have HL : Hid (len ≤ maxLen) := hl
  have HB : Hid (Bytes w a len w.heap.size) := hb
  have HT : Hid (Lib.TabIs Tryd.prog w "internal/strconv.uint64pow10" .u64 Lib.pow10Tab) := htab
  clear hl hb htab
  by_cases c : (1048576 : Int) < (len : Int)
  · go_enter Tryd.func3, Tryd.ntmps3
    go_wp2_with fail
    refine (big_any a len cap _ HL.out).mono ?_
    rintro e w' ⟨rfl, rfl⟩
    go_wp2
    go_ret
    exact ⟨rfl, Below.refl _ _⟩
  · go_enter Tryd.func3, Tryd.ntmps3
    go_wp2_with fail
    refine (big_any a len cap _ HL.out).mono ?_
    rintro e w' ⟨rfl, rfl⟩
    go_wp2_with fail
    refine (drawNum_any a len cap _ HL.out HB.out).mono ?_
    rintro e w1 ⟨⟨n, rfl, hn0, hn1⟩, hb1⟩
    have HN : Hid (-9223372036854775808 ≤ n ∧ n ≤ 9223372036854775807) := ⟨hn0, hn1⟩
    have H1 : Hid (Below w'.heap.size w' w1) := hb1
    have B1 : Hid (Bytes w1 a len w1.heap.size) := bytes_up HB.out hb1
    have T1 : Hid (Lib.TabIs Tryd.prog w1 "internal/strconv.uint64pow10" .u64 Lib.pow10Tab) := tab_below HT.out hb1
    clear hb1
    obtain ⟨s, hs⟩ : ∃ s : ByteArray, s = ⟨(Lib.itoa n).toArray⟩ := ⟨_, rfl⟩
    have HS : Hid (s = ⟨(Lib.itoa n).toArray⟩) := hs
    have HSL : Hid (s.data.toList = Lib.itoa n) := by show s.data.toList = Lib.itoa n; rw [hs]
    have HSZ : Hid (s.size ≤ maxLen) := by
      have := itoa_len n hn0 hn1
      show s.size ≤ maxLen
      rw [hs]; show (Lib.itoa n).toArray.size ≤ maxLen; simp [maxLen]; omega
    clear hs
    go_wp2_with fail
    refine (num_any n s _ HN.out.1 HN.out.2 HS.out T1.out).mono ?_
    rintro e w2 ⟨rfl, hb2⟩
    have H2 : Hid (Below w'.heap.size w' w2) := H1.out.trans (hb2.mono H1.out.size)
    have B2 : Hid (Bytes w2 a len w2.heap.size) := bytes_up B1.out hb2
    have T2 : Hid (Lib.TabIs Tryd.prog w2 "internal/strconv.uint64pow10" .u64 Lib.pow10Tab) := tab_below T1.out hb2
    clear hb2
    rcases kinds n with ⟨hw, hk0, hk1⟩ | ⟨hw, hk0⟩ | ⟨hw, hk0⟩
    · have HG : Hid (good s.data.toList = true) := by show good s.data.toList = true; rw [HSL.out, good_itoa]; exact hw
      have HA : Hid (ans s.data.toList = n) := by show ans s.data.toList = n; rw [HSL.out]; exact ans_itoa n hw
      clear hw
      go_wp2_with fail
      refine (parse_yes s n _ HSZ.out HG.out HA.out).mono ?_
      rintro e w3 ⟨rfl, hb3⟩
      have H3 : Hid (Below w'.heap.size w' w3) := H2.out.trans (hb3.mono H2.out.size)
      have B3 : Hid (Bytes w3 a len w3.heap.size) := bytes_up B2.out hb3
      have T3 : Hid (Lib.TabIs Tryd.prog w3 "internal/strconv.uint64pow10" .u64 Lib.pow10Tab) := tab_below T2.out hb3
      clear hb3
      go_wp2_with fail
      refine (drawParse_any a len cap _ HL.out B3.out).mono ?_
      rintro e w4 ⟨⟨t, rfl, ht⟩, hb4⟩
      have HTZ : Hid (t.size ≤ maxLen) := by show t.size ≤ maxLen; unfold maxLen; omega
      have H4 : Hid (Below w'.heap.size w' w4) := H3.out.trans (hb4.mono H3.out.size)
      have T4 : Hid (Lib.TabIs Tryd.prog w4 "internal/strconv.uint64pow10" .u64 Lib.pow10Tab) := tab_below T3.out hb4
      clear hb4 ht
      cases hg : good t.data.toList with
      | true =>
        have HGT : Hid (good t.data.toList = true) := hg
        obtain ⟨y, hy⟩ : ∃ y : Int, ans t.data.toList = y := ⟨_, rfl⟩
        have HY : Hid (ans t.data.toList = y) := hy
        clear hg hy
        go_wp2_with fail
        refine (parse_yes t y _ HTZ.out HGT.out HY.out).mono ?_
        rintro e w5 ⟨rfl, hb5⟩
        have H5 : Hid (Below w'.heap.size w' w5) := H4.out.trans (hb5.mono H4.out.size)
        have T5 : Hid (Lib.TabIs Tryd.prog w5 "internal/strconv.uint64pow10" .u64 Lib.pow10Tab) := tab_below T4.out hb5
        clear hb5
        go_wp2_with fail
        refine (sparse_yes t y _ HTZ.out HGT.out HY.out).mono ?_
        rintro e w5' ⟨rfl, rfl⟩
        go_wp2_with fail
        refine (snum_any n s _ HN.out.1 HN.out.2 HS.out).mono ?_
        rintro e w6 ⟨rfl, hb6⟩
        have H6 : Hid (Below w'.heap.size w' w6) := H5.out.trans (hb6.mono H5.out.size)
        have T6 : Hid (Lib.TabIs Tryd.prog w6 "internal/strconv.uint64pow10" .u64 Lib.pow10Tab) := tab_below T5.out hb6
        clear hb6
        go_wp2_with fail
        refine (num_back t y _ HGT.out HY.out T6.out).mono ?_
        rintro e w7 ⟨rfl, hb7⟩
        have H7 : Hid (Below w'.heap.size w' w7) := H6.out.trans (hb7.mono H6.out.size)
        clear hb7
        go_wp2
        go_ret
        first | exact ⟨rfl, H7.out⟩ | exact ⟨Parse.retB (by simp; omega), H7.out⟩
      | false =>
        have HGT : Hid (good t.data.toList = false) := hg
        clear hg
        go_wp2_with fail
        refine (parse_no t _ HTZ.out HGT.out).mono ?_
        rintro e w5 ⟨rfl, hb5⟩
        have H5 : Hid (Below w'.heap.size w' w5) := H4.out.trans (hb5.mono H4.out.size)
        clear hb5
        go_wp2_with fail
        refine (sparse_no t _ HTZ.out HGT.out).mono ?_
        rintro e w5' ⟨rfl, rfl⟩
        go_wp2_with fail
        refine (snum_any n s _ HN.out.1 HN.out.2 HS.out).mono ?_
        rintro e w6 ⟨rfl, hb6⟩
        have H6 : Hid (Below w'.heap.size w' w6) := H5.out.trans (hb6.mono H5.out.size)
        clear hb6
        go_wp2
        go_ret
        first | exact ⟨rfl, H6.out⟩ | exact ⟨Parse.retB (by simp; omega), H6.out⟩
    · have HG : Hid (good s.data.toList = false) := by show good s.data.toList = false; rw [HSL.out, good_itoa]; exact hw
      clear hw
      go_wp2_with fail
      refine (parse_no s _ HSZ.out HG.out).mono ?_
      rintro e w3 ⟨rfl, hb3⟩
      have H3 : Hid (Below w'.heap.size w' w3) := H2.out.trans (hb3.mono H2.out.size)
      have B3 : Hid (Bytes w3 a len w3.heap.size) := bytes_up B2.out hb3
      have T3 : Hid (Lib.TabIs Tryd.prog w3 "internal/strconv.uint64pow10" .u64 Lib.pow10Tab) := tab_below T2.out hb3
      clear hb3
      go_wp2_with fail
      refine (drawParse_any a len cap _ HL.out B3.out).mono ?_
      rintro e w4 ⟨⟨t, rfl, ht⟩, hb4⟩
      have HTZ : Hid (t.size ≤ maxLen) := by show t.size ≤ maxLen; unfold maxLen; omega
      have H4 : Hid (Below w'.heap.size w' w4) := H3.out.trans (hb4.mono H3.out.size)
      have T4 : Hid (Lib.TabIs Tryd.prog w4 "internal/strconv.uint64pow10" .u64 Lib.pow10Tab) := tab_below T3.out hb4
      clear hb4 ht
      cases hg : good t.data.toList with
      | true =>
        have HGT : Hid (good t.data.toList = true) := hg
        obtain ⟨y, hy⟩ : ∃ y : Int, ans t.data.toList = y := ⟨_, rfl⟩
        have HY : Hid (ans t.data.toList = y) := hy
        clear hg hy
        go_wp2_with fail
        refine (parse_yes t y _ HTZ.out HGT.out HY.out).mono ?_
        rintro e w5 ⟨rfl, hb5⟩
        have H5 : Hid (Below w'.heap.size w' w5) := H4.out.trans (hb5.mono H4.out.size)
        have T5 : Hid (Lib.TabIs Tryd.prog w5 "internal/strconv.uint64pow10" .u64 Lib.pow10Tab) := tab_below T4.out hb5
        clear hb5
        go_wp2_with fail
        refine (sparse_yes t y _ HTZ.out HGT.out HY.out).mono ?_
        rintro e w5' ⟨rfl, rfl⟩
        go_wp2_with fail
        refine (snum_any n s _ HN.out.1 HN.out.2 HS.out).mono ?_
        rintro e w6 ⟨rfl, hb6⟩
        have H6 : Hid (Below w'.heap.size w' w6) := H5.out.trans (hb6.mono H5.out.size)
        have T6 : Hid (Lib.TabIs Tryd.prog w6 "internal/strconv.uint64pow10" .u64 Lib.pow10Tab) := tab_below T5.out hb6
        clear hb6
        go_wp2_with fail
        refine (num_back t y _ HGT.out HY.out T6.out).mono ?_
        rintro e w7 ⟨rfl, hb7⟩
        have H7 : Hid (Below w'.heap.size w' w7) := H6.out.trans (hb7.mono H6.out.size)
        clear hb7
        go_wp2
        go_ret
        first | exact ⟨rfl, H7.out⟩ | exact ⟨Parse.retB (by simp; omega), H7.out⟩
      | false =>
        have HGT : Hid (good t.data.toList = false) := hg
        clear hg
        go_wp2_with fail
        refine (parse_no t _ HTZ.out HGT.out).mono ?_
        rintro e w5 ⟨rfl, hb5⟩
        have H5 : Hid (Below w'.heap.size w' w5) := H4.out.trans (hb5.mono H4.out.size)
        clear hb5
        go_wp2_with fail
        refine (sparse_no t _ HTZ.out HGT.out).mono ?_
        rintro e w5' ⟨rfl, rfl⟩
        go_wp2_with fail
        refine (snum_any n s _ HN.out.1 HN.out.2 HS.out).mono ?_
        rintro e w6 ⟨rfl, hb6⟩
        have H6 : Hid (Below w'.heap.size w' w6) := H5.out.trans (hb6.mono H5.out.size)
        clear hb6
        go_wp2
        go_ret
        first | exact ⟨rfl, H6.out⟩ | exact ⟨Parse.retB (by simp; omega), H6.out⟩
    · have HG : Hid (good s.data.toList = false) := by show good s.data.toList = false; rw [HSL.out, good_itoa]; exact hw
      clear hw
      go_wp2_with fail
      refine (parse_no s _ HSZ.out HG.out).mono ?_
      rintro e w3 ⟨rfl, hb3⟩
      have H3 : Hid (Below w'.heap.size w' w3) := H2.out.trans (hb3.mono H2.out.size)
      have B3 : Hid (Bytes w3 a len w3.heap.size) := bytes_up B2.out hb3
      have T3 : Hid (Lib.TabIs Tryd.prog w3 "internal/strconv.uint64pow10" .u64 Lib.pow10Tab) := tab_below T2.out hb3
      clear hb3
      go_wp2_with fail
      refine (drawParse_any a len cap _ HL.out B3.out).mono ?_
      rintro e w4 ⟨⟨t, rfl, ht⟩, hb4⟩
      have HTZ : Hid (t.size ≤ maxLen) := by show t.size ≤ maxLen; unfold maxLen; omega
      have H4 : Hid (Below w'.heap.size w' w4) := H3.out.trans (hb4.mono H3.out.size)
      have T4 : Hid (Lib.TabIs Tryd.prog w4 "internal/strconv.uint64pow10" .u64 Lib.pow10Tab) := tab_below T3.out hb4
      clear hb4 ht
      cases hg : good t.data.toList with
      | true =>
        have HGT : Hid (good t.data.toList = true) := hg
        obtain ⟨y, hy⟩ : ∃ y : Int, ans t.data.toList = y := ⟨_, rfl⟩
        have HY : Hid (ans t.data.toList = y) := hy
        clear hg hy
        go_wp2_with fail
        refine (parse_yes t y _ HTZ.out HGT.out HY.out).mono ?_
        rintro e w5 ⟨rfl, hb5⟩
        have H5 : Hid (Below w'.heap.size w' w5) := H4.out.trans (hb5.mono H4.out.size)
        have T5 : Hid (Lib.TabIs Tryd.prog w5 "internal/strconv.uint64pow10" .u64 Lib.pow10Tab) := tab_below T4.out hb5
        clear hb5
        go_wp2_with fail
        refine (sparse_yes t y _ HTZ.out HGT.out HY.out).mono ?_
        rintro e w5' ⟨rfl, rfl⟩
        go_wp2_with fail
        refine (snum_any n s _ HN.out.1 HN.out.2 HS.out).mono ?_
        rintro e w6 ⟨rfl, hb6⟩
        have H6 : Hid (Below w'.heap.size w' w6) := H5.out.trans (hb6.mono H5.out.size)
        have T6 : Hid (Lib.TabIs Tryd.prog w6 "internal/strconv.uint64pow10" .u64 Lib.pow10Tab) := tab_below T5.out hb6
        clear hb6
        go_wp2_with fail
        refine (num_back t y _ HGT.out HY.out T6.out).mono ?_
        rintro e w7 ⟨rfl, hb7⟩
        have H7 : Hid (Below w'.heap.size w' w7) := H6.out.trans (hb7.mono H6.out.size)
        clear hb7
        go_wp2
        go_ret
        first | exact ⟨rfl, H7.out⟩ | exact ⟨Parse.retB (by simp; omega), H7.out⟩
      | false =>
        have HGT : Hid (good t.data.toList = false) := hg
        clear hg
        go_wp2_with fail
        refine (parse_no t _ HTZ.out HGT.out).mono ?_
        rintro e w5 ⟨rfl, hb5⟩
        have H5 : Hid (Below w'.heap.size w' w5) := H4.out.trans (hb5.mono H4.out.size)
        clear hb5
        go_wp2_with fail
        refine (sparse_no t _ HTZ.out HGT.out).mono ?_
        rintro e w5' ⟨rfl, rfl⟩
        go_wp2_with fail
        refine (snum_any n s _ HN.out.1 HN.out.2 HS.out).mono ?_
        rintro e w6 ⟨rfl, hb6⟩
        have H6 : Hid (Below w'.heap.size w' w6) := H5.out.trans (hb6.mono H5.out.size)
        clear hb6
        go_wp2
        go_ret
        first | exact ⟨rfl, H6.out⟩ | exact ⟨Parse.retB (by simp; omega), H6.out⟩

theorem walk (a : Option Addr) (len cap : Nat) (zs : List Int) (w : World) (h : IsRow .u8 w a len cap zs) (htab : Lib.TabIs Tryd.prog w "internal/strconv.uint64pow10" .u64 Lib.pow10Tab) :
    Calls Tryd.prog 3 #[.slice a len cap] w fun e w' => e = .returned (.bool true) ∧ Below w.heap.size w w' := by
  obtain ⟨hl, hb⟩ := bytes_of h
  exact core a len cap w hl hb htab

theorem own : ownKnob Tryd.prog.godebug = none := by kernel_rfl
theorem laidOut : laidOutB Tryd.prog = true := by kernel_rfl
theorem tab2 {W : World} (h : laidMetH Tryd.prog Rows.fnDigitsRow.laid W) : Lib.TabIs Tryd.prog W "internal/strconv.uint64pow10" .u64 Lib.pow10Tab := by
  rw [MakeChecks.laidMetH_plain _ _ _ (by kernel_rfl)] at h
  have h1 : laidMet Tryd.prog [("math/bits.deBruijn32tab", Rows.laid_math_bits_deBruijn32tab), ("math/bits.deBruijn64tab", Rows.laid_math_bits_deBruijn64tab), ("internal/strconv.uint64pow10", Rows.laid_internal_strconv_uint64pow10)] W := h
  exact Lib.tabIs_of_head (g := 0) (by kernel_rfl) (t := 64) (by kernel_rfl) Tryd.underlying64 Tryd.underlying36 (by kernel_rfl) (by kernel_rfl) (laidMet.tail (laidMet.tail (h1)))
theorem door_met (os : Os) (args : Array Value) : laidMetH Tryd.prog Rows.fnDigitsRow.laid ((World.doorLaid Tryd.prog 400 os).forCall (fun _ _ => 0) ⟨#[], args, []⟩).memory :=
  laidMetH_of_parts3 (fuel := 8) (laidMet_of_run' 8 (by kernel_rfl) (by kernel_rfl)) (by kernel_rfl) (by kernel_rfl)
set_option maxRecDepth 100000 in
theorem lifted (os : Os) (started : os.Started) (H : Type) (enc : TypeId × Value → H) :
    ReturnsInHanded {} Tryd.checked os 3 .any (fun w args => (Rows.fnDigitsSpec.pre enc Tryd.prog Tryd.f3 [] false w args ∧ laidMetH Tryd.prog Rows.fnDigitsRow.laid w) ∧ sizedMet enc Tryd.prog Tryd.f3 (OpenSpec.ofChange Rows.fnDigitsSpec) false w args)
      (Rows.fnDigitsSpec.post enc Tryd.prog Tryd.f3 false true false false) := by
  refine returnsInHanded_of_change_and (C := Tryd.checked) (X := fun w _ => laidMetH Tryd.prog Rows.fnDigitsRow.laid w) (fun _ _ _ hh h => h.of_heap hh) own started (by kernel_rfl) Tryd.func3
    (ChangeSpec.witness_shaped (enc := enc) (C := Tryd.checked) (os := os) (X := fun w _ => laidMetH Tryd.prog Rows.fnDigitsRow.laid w) false (World.doorLaid Tryd.prog 400 os) #[.slice none 0 0] 8 rfl (World.shaped_of_RefB (by kernel_rfl) (by kernel_rfl)) (by kernel_rfl) (by kernel_rfl) (by kernel_rfl) (door_met os _)) ?_
  intro W base args ds gs before hval0 hW _ _ hL _
  have hval : ∀ (j : Nat) t v, Tryd.f3.params[j]? = some t → args[j]? = some v → Value.okWide Tryd.prog W .any base t v := hval0
  have hW' := hW
  obtain ⟨p, q, hA0, hV, rfl, hfz, hnd⟩ := hW
  have hA : DataW.TrodAll enc Tryd.prog W 0 (fun _ => true) true Tryd.f3.params.toList args.toList ds p := hA0
  rw [Tryd.params3] at hA hval
  obtain ⟨v0, vs0, d0, ds0, p0, q0, hargs, rfl, rfl, h0, r0⟩ := trodAll_cons hA
  obtain ⟨rfl, rfl, rfl⟩ := trodAll_nil r0
  obtain rfl : args = #[v0] := by cases args; simp_all
  obtain ⟨rfl, rfl⟩ := trodVars_none hV
  obtain ⟨a0, len0, cap0, rfl⟩ := okWide_slice Tryd.underlying22 (hval 0 22 v0 rfl rfl)
  have k0 := h0
  have lt0 : ∀ x ∈ p0, x.block < W.heap.size := by obtain ⟨m, hm⟩ := k0; exact DataW.trod_lt m _ _ _ hm
  obtain ⟨z0, w0⟩ : ∃ zs, IsRow .u8 W a0 len0 cap0 zs := by
    obtain ⟨fuel, hf⟩ := h0
    rcases open_ints Tryd.underlying22 Tryd.underlying5 (by kernel_rfl) hf with ⟨hcs, _⟩ | ⟨x, l, c, zs, hcs, _, hl, hm, hz, _, hcell, hwz⟩
    · simp [Value.cells] at hcs
      obtain ⟨rfl, rfl, rfl⟩ := hcs
      exact ⟨[], .inl ⟨rfl, rfl, rfl, rfl⟩⟩
    · simp [Value.cells] at hcs
      obtain ⟨rfl, rfl, rfl⟩ := hcs
      exact ⟨zs, .inr ⟨_, rfl, hl, hm, by simpa using hz, hcell, hwz⟩⟩
  clear hA0 hval0
  refine (walk a0 len0 cap0 z0 W w0 (tab2 hL)).mono fun e W' ⟨he, bel⟩ => ?_
  subst he
  exact ⟨_, rfl, _, _, _, [], _, [], hW', trodAll_mk1 (shut_bool Tryd.underlying4 _), (trodAll_cons_mk (Below.trod laidOut (by kernel_rfl) (of_decide_eq_true (by kernel_rfl)) k0 bel lt0) trodAll_mk0), rfl, bel.frame _, fun h => by cases h⟩

theorem over : Rows.fnDigitsRow.holds Tryd.pinned (OpenSpec.ofChange Rows.fnDigitsSpec) :=
  OpenClaim.holds_of_wide 3 Tryd.f3 rfl rfl rfl rfl rfl rfl rfl ⟨rfl, rfl, rfl, rfl, rfl⟩ rfl rfl rfl rfl rfl (by kernel_rfl) Tryd.func3 (by kernel_rfl)
    (of_decide_eq_true (by kernel_rfl)) (by unfold Func.isWrapper; first | (rw [if_pos (by decide +kernel)]; kernel_rfl) | (rw [if_neg (by decide +kernel)]; exact ⟨rfl, rfl⟩))
    (fun os started H enc _ => lifted os started H enc)

theorem card : Rows.FnDigitsCardSaid :=
  Claim7.holds_tied_plain_at .later [] _ true _ _
    over (fun _ h => by cases h) (by kernel_rfl) (fun _ h => by cases h) fnDigits_row_tie rfl ⟨rfl, rfl⟩ (by kernel_rfl) rfl
    (fun f fn hf hfn => by
      obtain rfl : f = 3 := Option.some.inj ((show Tryd.prog.funcNamed Rows.fnDigitsRow.func = some 3 by kernel_rfl).symm.trans hf) |>.symm
      obtain rfl : fn = Tryd.f3 := (Option.some.inj (Tryd.func3.symm.trans hfn)).symm
      exact ⟨by kernel_rfl, fun j t ht => by
        rw [Tryd.params3] at ht
        have hm : t ∈ [22] := by simpa using Array.mem_of_getElem? ht
        have hall : ([22].all fun u => !Tryd.prog.wantsStandIn u) = true := by kernel_rfl
        exact (show Tryd.prog.wantsStandIn t = false by simpa using List.all_eq_true.1 hall t hm)⟩)
    (by kernel_rfl)

end Go.Proofs.YtmbejfbbolicfaaDoor.FnDigits
namespace Go.Proofs.YtmbejfbbolicfaaDoor
theorem fnDigits_card_holds : Rows.FnDigitsCardSaid := FnDigits.card
#print axioms fnDigits_card_holds
end Go.Proofs.YtmbejfbbolicfaaDoor
