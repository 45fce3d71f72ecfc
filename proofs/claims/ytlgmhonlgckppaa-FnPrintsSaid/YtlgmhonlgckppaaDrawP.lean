/-
  PROVED: the contracts of the drawings that laws.FnPrints begins with: DrawSetText, DrawFinger, DrawParseSet, DrawSum, DrawPartOf, DrawAlike: a few small labels, short strings, small ints; nothing that was there is changed.
-/
import Derived.Test.YtlgmhonlgckppaaDrawT
import Derived.Test.YtlgmhonlgckppaaBend
import Derived.Test.YtlgmhonlgckppaaFing
namespace Go.Proofs.Ytlgmhonlgckppaa.DrawP
open Go.RowKit
open Go.Proofs.Ytlgmhonlgckppaa.Draw
open Go.Proofs.Ytlgmhonlgckppaa.Labs Go.Proofs.Ytlgmhonlgckppaa.LabS Go.Proofs.Ytlgmhonlgckppaa.LabR Go.Proofs.Ytlgmhonlgckppaa.Over Go.Proofs.Ytlgmhonlgckppaa.Blk Go.Proofs.Ytlgmhonlgckppaa.App Go.Proofs.Ytlgmhonlgckppaa.DrawL Go.Proofs.Ytlgmhonlgckppaa.DrawT Go.Proofs.Ytlgmhonlgckppaa.Bend
open Go.Proofs.Ytlgmhonlgckppaa.SetP Go.Proofs.Ytlgmhonlgckppaa.TextS Go.Proofs.Ytlgmhonlgckppaa.Fing
open Go.Proofs.Ytlgmhonlgckppaa.LabO (Fits setB)
set_option linter.unusedVariables false

theorem fits_of {p : List Lab} (h : Small p) : Fits p := small_fits h
theorem len8 {n : Nat} (h : n ≤ 8) : n ≤ maxLen := by unfold maxLen; omega
theorem text100 (l : List Lab) : (setText l).size ≤ 100 := by
  cases hb : setB l with
  | true =>
    rw [text_yes hb, size_mk]
    have h1 := set_len hb
    have h2 := set_labs hb
    match l, h1, h2 with
    | [], _, _ => simp [textB, body, words]
    | x :: l, h1, h2 =>
      have h3 := word_len (h2 x (by simp))
      have h4 := tail_len l fun y hy => h2 y (by simp [hy])
      simp [textB, body, words] at h1 ⊢; omega
  | false => rw [text_no hb]; decide
theorem bel_kept {c : Nat} {w w' : World} (h : Below w.heap.size w w') : Kept c w w' := ⟨h.os, h.tape, h.output, h.size, fun k hk _ => h.block k hk⟩
theorem bel_cur {c : Nat} {w w' : World} (hc : Cur w c) (h : Below w.heap.size w w') : Cur w' c := hc.grown (bel_grown h) (fun k hk => by cases hk)
theorem LSt.on {w : World} {c : Nat} {wr w' : World} {v : Value} {p : List Lab} (h : LSt w c wr v p) (hb : Below wr.heap.size wr w') : LSt w c w' v p := h.keep (bel_cur h.cur hb) (bel_kept hb)
theorem LSt.lift {w wr : World} {c : Nat} {w' : World} {v : Value} {p : List Lab} (h : LSt wr c w' v p) (hk : Kept c w wr) (hc : c < w.heap.size) : LSt w c w' v p :=
  ⟨own_mono h.own hk.size, h.lies, h.cur, hk.trans h.kept, hc, h.fit⟩

theorem drawSetText_any (a : Option Addr) (len cap : Nat) (w : World) (hl : len ≤ maxLen) (hb : Bytes w a len w.heap.size) :
    Calls Try.prog 10 #[.slice a len cap] w fun e w' => (∃ (g c : Nat) (p : List Lab), e = .returned (.slice (some ⟨g, 0, none⟩) p.length c) ∧ Reads w' (some ⟨g, 0, none⟩) p ∧ p.length ≤ 8 ∧ Small p) ∧ Below w.heap.size w w' := by
  have HB : Hid (Bytes w a len w.heap.size) := hb
  have HL : Hid (len ≤ maxLen) := hl
  clear hb hl
  go_enter Try.func10, Try.ntmps10
  go_wp2_with fail
  refine (new_any a len cap _ HL.out HB.out).mono ?_
  rintro e w1 ⟨rfl, hc1, hb1⟩
  have HC1 : Hid (Cur w1 w.heap.size ∧ Below w.heap.size w w1) := ⟨hc1, hb1⟩
  clear hc1 hb1
  go_wp2_with fail
  refine (l2Any_any _ _ HC1.out.1).mono ?_
  rintro e w2 ⟨v, rfl, p, hst, hp⟩
  obtain ⟨g, c, rfl⟩ := hst.lies
  have HS2 : Hid (LSt w1 w.heap.size w2 (.slice (some ⟨g, 0, none⟩) p.length c) p) := hst
  clear hst
  go_wp2
  go_ret
  exact ⟨⟨g, c, p, rfl, HS2.out.reads, hp, HS2.out.fit⟩, low_of HC1.out.2 HC1.out.1.lt HS2.out.kept⟩
theorem drawFinger_any (a : Option Addr) (len cap : Nat) (w : World) (hl : len ≤ maxLen) (hb : Bytes w a len w.heap.size) :
    Calls Try.prog 15 #[.slice a len cap] w fun e w' => (∃ (g c : Nat) (p : List Lab), e = .returned (.slice (some ⟨g, 0, none⟩) p.length c) ∧ Reads w' (some ⟨g, 0, none⟩) p ∧ p.length ≤ 8 ∧ Small p) ∧ Below w.heap.size w w' := by
  have HB : Hid (Bytes w a len w.heap.size) := hb
  have HL : Hid (len ≤ maxLen) := hl
  clear hb hl
  go_enter Try.func15, Try.ntmps15
  go_wp2_with fail
  refine (new_any a len cap _ HL.out HB.out).mono ?_
  rintro e w1 ⟨rfl, hc1, hb1⟩
  have HC1 : Hid (Cur w1 w.heap.size ∧ Below w.heap.size w w1) := ⟨hc1, hb1⟩
  clear hc1 hb1
  go_wp2_with fail
  refine (l2Any_any _ _ HC1.out.1).mono ?_
  rintro e w2 ⟨v, rfl, p, hst, hp⟩
  obtain ⟨g, c, rfl⟩ := hst.lies
  have HS2 : Hid (LSt w1 w.heap.size w2 (.slice (some ⟨g, 0, none⟩) p.length c) p) := hst
  clear hst
  go_wp2
  go_ret
  exact ⟨⟨g, c, p, rfl, HS2.out.reads, hp, HS2.out.fit⟩, low_of HC1.out.2 HC1.out.1.lt HS2.out.kept⟩

set_option maxHeartbeats 400000 in
theorem drawParse_any (a : Option Addr) (len cap : Nat) (w : World) (hl : len ≤ maxLen) (hb : Bytes w a len w.heap.size) :
    Calls Try.prog 13 #[.slice a len cap] w fun e w' => (∃ s : ByteArray, e = .returned (.string s) ∧ s.size ≤ 100) ∧ Below w.heap.size w w' := by
  have HB : Hid (Bytes w a len w.heap.size) := hb
  have HL : Hid (len ≤ maxLen) := hl
  clear hb hl
  go_enter Try.func13, Try.ntmps13
  go_wp2_with fail
  refine (new_any a len cap _ HL.out HB.out).mono ?_
  rintro e w1 ⟨rfl, hc1, hb1⟩
  have HC1 : Hid (Cur w1 w.heap.size ∧ Below w.heap.size w w1) := ⟨hc1, hb1⟩
  clear hc1 hb1
  go_wp2_with fail
  refine (once_any _ 4 _ HC1.out.1 (by decide) (by decide)).mono ?_
  rintro e w2 ⟨⟨b, rfl⟩, hc2, hk2⟩
  have HC2 : Hid (Cur w2 w.heap.size ∧ Kept w.heap.size w1 w2) := ⟨hc2, hk2⟩
  clear hc2 hk2
  cases b with
  | true =>
    go_wp2_with fail
    refine (str_any _ w2.heap.size 0 12 12 _ (HC2.out.1.alloc _) ?_ (by decide) (by decide)).mono ?_
    · exact row_lit (by decide) rfl HC2.out.1.lt
    rintro e w3 ⟨⟨s, rfl, hs⟩, hc3, hk3⟩
    have HK3 : Hid (Kept w.heap.size w1 w3) := (HC2.out.2.alloc _).trans hk3
    clear hc3 hk3
    go_wp2
    go_ret
    exact ⟨⟨_, rfl, hs⟩, low_of HC1.out.2 HC1.out.1.lt HK3.out⟩
  | false =>
    go_wp2_with fail
    refine (l2Draw_any _ _ HC2.out.1).mono ?_
    rintro e w3 ⟨v, rfl, p, hst, hp1, hp⟩
    obtain ⟨g, c, rfl⟩ := hst.lies
    have HS3 : Hid (LSt w2 w.heap.size w3 (.slice (some ⟨g, 0, none⟩) p.length c) p) := hst
    clear hst
    go_wp2_with fail
    refine (specText_any _ _ p _ HS3.out.reads (len8 (by omega)) (fits_of HS3.out.fit)).mono ?_
    rintro e w4 ⟨rfl, hb4⟩
    have HS4 : Hid (LSt w2 w.heap.size w4 (.slice (some ⟨g, 0, none⟩) p.length c) p) := LSt.on HS3.out hb4
    have HT : Hid ((setText p).size ≤ 100) := text100 p
    clear hb4
    generalize setText p = t at HT ⊢
    go_wp2_with fail
    refine (bend_any _ t _ HS4.out.cur HT.out).mono ?_
    rintro e w5 ⟨⟨s, rfl, hs⟩, hc5, hk5⟩
    have HK5 : Hid (Kept w.heap.size w1 w5) := HC2.out.2.trans (HS4.out.kept.trans hk5)
    clear hc5 hk5
    go_wp2
    go_ret
    exact ⟨⟨_, rfl, hs⟩, low_of HC1.out.2 HC1.out.1.lt HK5.out⟩

theorem isStr_text {t : ByteArray} (h : t.size ≤ 100) : isStr (.string t) = true := by simp [isStr, h]
set_option maxHeartbeats 400000 in
theorem drawSum_any (a : Option Addr) (len cap : Nat) (w : World) (hl : len ≤ maxLen) (hb : Bytes w a len w.heap.size) :
    Calls Try.prog 17 #[.slice a len cap] w fun e w' => (∃ s : ByteArray, e = .returned (.string s) ∧ s.size ≤ 100) ∧ Below w.heap.size w w' := by
  have HB : Hid (Bytes w a len w.heap.size) := hb
  have HL : Hid (len ≤ maxLen) := hl
  clear hb hl
  go_enter Try.func17, Try.ntmps17
  go_wp2_with fail
  refine (new_any a len cap _ HL.out HB.out).mono ?_
  rintro e w1 ⟨rfl, hc1, hb1⟩
  have HC1 : Hid (Cur w1 w.heap.size ∧ Below w.heap.size w w1) := ⟨hc1, hb1⟩
  clear hc1 hb1
  go_wp2_with fail
  refine (l2Draw_any _ _ HC1.out.1).mono ?_
  rintro e w3 ⟨v, rfl, p, hst, hp1, hp⟩
  obtain ⟨g, c, rfl⟩ := hst.lies
  have HS3 : Hid (LSt w1 w.heap.size w3 (.slice (some ⟨g, 0, none⟩) p.length c) p) := hst
  clear hst
  go_wp2_with fail
  refine (specText_any _ _ p _ HS3.out.reads (len8 (by omega)) (fits_of HS3.out.fit)).mono ?_
  rintro e w4 ⟨rfl, hb4⟩
  have HS4 : Hid (LSt w1 w.heap.size w4 (.slice (some ⟨g, 0, none⟩) p.length c) p) := LSt.on HS3.out hb4
  have HT : Hid ((setText p).size ≤ 100) := text100 p
  clear hb4
  generalize setText p = t at HT ⊢
  go_wp2_with fail
  refine (str_any _ w4.heap.size 0 4 4 _ (HS4.out.cur.alloc _) ?_ (by decide) (by decide)).mono ?_
  · refine row_lit ?_ rfl HS4.out.cur.lt
    have := isStr_text HT.out
    simp [this]
    decide
  rintro e w5 ⟨⟨s, rfl, hs⟩, hc5, hk5⟩
  have HK5 : Hid (Kept w.heap.size w1 w5) := (HS4.out.kept.alloc _).trans hk5
  clear hc5 hk5
  go_wp2
  go_ret
  exact ⟨⟨_, rfl, hs⟩, low_of HC1.out.2 HC1.out.1.lt HK5.out⟩

theorem drawPart_any (a : Option Addr) (len cap : Nat) (w : World) (hl : len ≤ maxLen) (hb : Bytes w a len w.heap.size) :
    Calls Try.prog 18 #[.slice a len cap] w fun e w' => (∃ x y : Int, e = .returned (.tuple #[.int .i64 x, .int .i64 y]) ∧ (-100 ≤ x ∧ x ≤ 100) ∧ (-100 ≤ y ∧ y ≤ 100)) ∧ Below w.heap.size w w' := by
  have HB : Hid (Bytes w a len w.heap.size) := hb
  have HL : Hid (len ≤ maxLen) := hl
  clear hb hl
  go_enter Try.func18, Try.ntmps18
  go_wp2_with fail
  refine (new_any a len cap _ HL.out HB.out).mono ?_
  rintro e w1 ⟨rfl, hc1, hb1⟩
  have HC1 : Hid (Cur w1 w.heap.size ∧ Below w.heap.size w w1) := ⟨hc1, hb1⟩
  clear hc1 hb1
  go_wp2_with fail
  refine (below_any _ 40 _ HC1.out.1 (by decide) (by decide)).mono ?_
  rintro e w2 ⟨⟨x, rfl, hx0, hx1⟩, hc2, hk2⟩
  have HC2 : Hid (Cur w2 w.heap.size ∧ Kept w.heap.size w1 w2) := ⟨hc2, hk2⟩
  clear hc2 hk2
  go_wp2_with fail
  refine (below_any _ 6 _ HC2.out.1 (by decide) (by decide)).mono ?_
  rintro e w3 ⟨⟨y, rfl, hy0, hy1⟩, hc3, hk3⟩
  have HK3 : Hid (Kept w.heap.size w1 w3) := HC2.out.2.trans hk3
  clear hc3 hk3
  go_wp2
  go_ret2
  exact ⟨⟨x - 2, y - 1, rfl, ⟨by omega, by omega⟩, ⟨by omega, by omega⟩⟩, low_of HC1.out.2 HC1.out.1.lt HK3.out⟩

set_option maxHeartbeats 800000 in
theorem drawAlike_any (a : Option Addr) (len cap : Nat) (w : World) (hl : len ≤ maxLen) (hb : Bytes w a len w.heap.size) :
    Calls Try.prog 16 #[.slice a len cap] w fun e w' => (∃ (g c g' c' : Nat) (p q : List Lab), e = .returned (.tuple #[.slice (some ⟨g, 0, none⟩) p.length c, .slice (some ⟨g', 0, none⟩) q.length c']) ∧ Reads w' (some ⟨g, 0, none⟩) p ∧ Reads w' (some ⟨g', 0, none⟩) q ∧ p.length ≤ 8 ∧ q.length ≤ 8 ∧ Small p ∧ Small q) ∧ Below w.heap.size w w' := by
  have HB : Hid (Bytes w a len w.heap.size) := hb
  have HL : Hid (len ≤ maxLen) := hl
  clear hb hl
  go_enter Try.func16, Try.ntmps16
  go_wp2_with fail
  refine (new_any a len cap _ HL.out HB.out).mono ?_
  rintro e w1 ⟨rfl, hc1, hb1⟩
  have HC1 : Hid (Cur w1 w.heap.size ∧ Below w.heap.size w w1) := ⟨hc1, hb1⟩
  clear hc1 hb1
  go_wp2_with fail
  refine (l2Draw_any _ _ HC1.out.1).mono ?_
  rintro e w2 ⟨v, rfl, p, hst, hp1, hp⟩
  obtain ⟨g, c, rfl⟩ := hst.lies
  have HS2 : Hid (LSt w1 w.heap.size w2 (.slice (some ⟨g, 0, none⟩) p.length c) p) := hst
  clear hst
  go_wp2_with fail
  refine (l2Draw_any _ _ HS2.out.cur).mono ?_
  rintro e w3 ⟨v, rfl, q, hst, hq1, hq⟩
  have HS3 : Hid (LSt w1 w.heap.size w3 (.slice (some ⟨g, 0, none⟩) p.length c) p) := HS2.out.keep hst.cur hst.kept
  have HQ3 : Hid (LSt w1 w.heap.size w3 v q) := LSt.lift hst HS2.out.kept HC1.out.1.lt
  clear hst
  go_wp2
  go_loopw [6, 7] (fun u i wr => ∃ (k : Nat) (q : List Lab), k ≤ 20 ∧ i = .int .i64 k ∧ q.length ≤ 4 ∧ LSt w1 w.heap.size wr (.slice (some ⟨g, 0, none⟩) p.length c) p ∧ LSt w1 w.heap.size wr u q) (fun _ i _ => 20 - (intOf i).toNat)
  case atStart => exact ⟨0, q, by omega, rfl, hq, HS3.out, HQ3.out⟩
  case round =>
    clear HQ3 HS3 hq hq1 q
    obtain ⟨k, q, hk, rfl, hq, hs, hst⟩ := hrel
    obtain ⟨g', c', rfl⟩ := hst.lies
    have HS : Hid (LSt w1 w.heap.size wr (.slice (some ⟨g, 0, none⟩) p.length c) p) := hs
    have HQ : Hid (LSt w1 w.heap.size wr (.slice (some ⟨g', 0, none⟩) q.length c') q) := hst
    clear hs hst
    by_cases hlt : k < 20
    · have hlt' : (k : Int) < 20 := by omega
      go_wp2_with fail
      refine (specFinger_any _ _ p _ HS.out.reads (len8 (by omega)) (fits_of HS.out.fit)).mono ?_
      rintro e w4 ⟨rfl, hb4⟩
      have HS4 : Hid (LSt w1 w.heap.size w4 (.slice (some ⟨g, 0, none⟩) p.length c) p) := LSt.on HS.out hb4
      have HQ4 : Hid (LSt w1 w.heap.size w4 (.slice (some ⟨g', 0, none⟩) q.length c') q) := LSt.on HQ.out hb4
      clear hb4
      go_wp2_with fail
      refine (specFinger_any _ _ q _ HQ4.out.reads (len8 (by omega)) (fits_of HQ4.out.fit)).mono ?_
      rintro e w5 ⟨rfl, hb5⟩
      have HS5 : Hid (LSt w1 w.heap.size w5 (.slice (some ⟨g, 0, none⟩) p.length c) p) := LSt.on HS4.out hb5
      have HQ5 : Hid (LSt w1 w.heap.size w5 (.slice (some ⟨g', 0, none⟩) q.length c') q) := LSt.on HQ4.out hb5
      clear hb5
      generalize (fingerB p : Int) = x
      generalize (fingerB q : Int) = y
      by_cases hxy : x = y
      · go_wp2
        go_ret2
        exact ⟨⟨g, c, g', c', p, q, rfl, HS5.out.reads, HQ5.out.reads, by omega, by omega, HS5.out.fit, HQ5.out.fit⟩, low_of HC1.out.2 HC1.out.1.lt HS5.out.kept⟩
      · have hxy2 : (x == y) = false := by simpa using hxy
        go_wp2_with fail
        refine (l2Draw_any _ _ HS5.out.cur).mono ?_
        rintro e w6 ⟨v, rfl, q2, hst, hq1, hq2⟩
        have HS6 : Hid (LSt w1 w.heap.size w6 (.slice (some ⟨g, 0, none⟩) p.length c) p) := HS5.out.keep hst.cur hst.kept
        have HQ6 : Hid (LSt w1 w.heap.size w6 v q2) := LSt.lift hst HS5.out.kept HC1.out.1.lt
        clear hst
        go_wp2
        go_roundw
        case rel => exact ⟨k + 1, q2, by omega, by go_num, hq2, HS6.out, HQ6.out⟩
        case measure => simp [intOf]; omega
    · have hge : ¬ (k : Int) < 20 := by omega
      go_wp2
      go_ret2
      exact ⟨⟨g, c, g', c', p, q, rfl, HS.out.reads, HQ.out.reads, by omega, by omega, HS.out.fit, HQ.out.fit⟩, low_of HC1.out.2 HC1.out.1.lt HS.out.kept⟩
end Go.Proofs.Ytlgmhonlgckppaa.DrawP
