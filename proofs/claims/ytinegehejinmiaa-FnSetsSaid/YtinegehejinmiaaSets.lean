/-
  PROVED: whatever the code, the law laws.FnSets returns true and leaves the code as it was: of the drawn labels and lists of labels each function of chapter 2 answers as the specification has it, and what SortSet answers is a set in order that holds each label. No condition.
-/
import Derived.Test.YtinegehejinmiaaRows
import Derived.WalkKit
import Derived.ProofKit
import Derived.OpenShut
import Derived.ShutString
import Derived.ChangeOld
import Derived.Below
import Derived.WalkLawsBesides
import Derived.WalkSpells
import Derived.Test.YtinegehejinmiaaLabU
import Derived.Test.YtinegehejinmiaaLabV
import Derived.Test.YtinegehejinmiaaDrawU
namespace Go.Proofs.Ytinegehejinmiaa.FnSets
open Go.ChangeShapes Go.WideShapes Go.ChangeAt Go.RowKit
open Go.ChangeMaps (open_string shut_string)
set_option linter.unusedVariables false

open Go.Proofs.Ytinegehejinmiaa.Labs Go.Proofs.Ytinegehejinmiaa.LabS Go.Proofs.Ytinegehejinmiaa.LabP Go.Proofs.Ytinegehejinmiaa.LabV Go.Proofs.Ytinegehejinmiaa.Draw Go.Proofs.Ytinegehejinmiaa.DrawL Go.Proofs.Ytinegehejinmiaa.DrawT Go.Proofs.Ytinegehejinmiaa.DrawU Go.Proofs.Ytinegehejinmiaa.LawB Go.Proofs.Ytinegehejinmiaa.Over
open Go.Proofs.Ytinegehejinmiaa.LabO (setB specSet_any implSet_any Fits)
open Go.Proofs.Ytinegehejinmiaa.LabT (held_reads)
open Go.Proofs.Ytinegehejinmiaa.LabR (Own implSort_any fits_upto)
open Go.Proofs.Ytinegehejinmiaa.LabU (specSort_any)

theorem own_reads {w w' : World} {M : Nat} {s : List Lab} (h : Own w w' M s) : Reads w' (some ⟨M, 0, none⟩) s := by
  obtain ⟨_, cs, hk, _, hh⟩ := h
  exact held_reads hk hh
theorem fits_of {p : List Lab} (h : Small p) : Fits p := small_fits h
theorem len8 {p : List Lab} (h : p.length ≤ 8) : p.length ≤ maxLen := by unfold maxLen; omega
theorem size100 {s : ByteArray} (h : s.size ≤ 100) : s.size ≤ maxLen := by unfold maxLen; omega
set_option maxRecDepth 100000 in
set_option maxHeartbeats 4000000 in
theorem core (a : Option Addr) (len cap : Nat) (w : World) (hl : len ≤ maxLen) (hb : Bytes w a len w.heap.size) :
    Calls Try.prog 3 #[.slice a len cap] w fun e w' => e = .returned (.bool true) ∧ Below w.heap.size w w' := by
  have HB : Hid (Bytes w a len w.heap.size) := hb
  have HL : Hid (len ≤ maxLen) := hl
  clear hb hl
  by_cases hbig : (1048576 : Int) < (len : Int)
  · have HC : Hid (Calls Try.prog 8 #[.slice a len cap] w fun e w' => e = .returned (.bool true) ∧ w' = w) := (big_any a len cap w HL.out).mono fun e w' h => ⟨h.1.trans (retB (decide_eq_true hbig)), h.2⟩
    go_enter Try.func3, Try.ntmps3
    go_wp2_with fail
    refine HC.out.mono ?_
    rintro e w1 ⟨rfl, rfl⟩
    go_wp2
    go_ret
    exact ⟨rfl, Below.refl _ _⟩
  have HC : Hid (Calls Try.prog 8 #[.slice a len cap] w fun e w' => e = .returned (.bool false) ∧ w' = w) := (big_any a len cap w HL.out).mono fun e w' h => ⟨h.1.trans (retB (decide_eq_false hbig)), h.2⟩
  go_enter Try.func3, Try.ntmps3
  go_wp2_with fail
  refine HC.out.mono ?_
  rintro e w0 ⟨rfl, rfl⟩
  clear HC
  have B0 : Hid (Below w0.heap.size w0 w0) := Below.refl _ _
  go_wp2_with fail
  refine (drawSortSet_any a len cap _ HL.out HB.out).mono ?_
  rintro e w1 ⟨⟨g1, c1, l, rfl, hr, hn, hs⟩, hb⟩
  have B1 : Hid (Below w0.heap.size w0 w1) := grow_on B0.out hb
  have L_1 : Hid (Reads w1 (some ⟨g1, 0, none⟩) l) := hr
  have NL : Hid (l.length ≤ 8) := hn
  have FL : Hid (Small l) := hs
  clear hr hn hs
  clear hb
  go_wp2_with fail
  refine (implSort_any _ _ l _ L_1.out (len8 NL.out) (fits_of FL.out)).mono ?_
  rintro e w2 ⟨⟨M2, c2, rfl, ho⟩, hb⟩
  have B2 : Hid (Below w0.heap.size w0 w2) := grow_on B1.out hb
  have L_2 : Hid (Reads w2 (some ⟨g1, 0, none⟩) l) := L_1.out.below hb
  have S_2 : Hid (Reads w2 (some ⟨M2, 0, none⟩) (sortB l).1) := own_reads ho
  clear ho
  clear hb
  go_wp2_with fail
  refine (specSort_any _ _ l _ L_2.out (len8 NL.out) (fits_of FL.out)).mono ?_
  rintro e w3 ⟨⟨M3, c3, rfl, ho⟩, hb⟩
  have B3 : Hid (Below w0.heap.size w0 w3) := grow_on B2.out hb
  have L_3 : Hid (Reads w3 (some ⟨g1, 0, none⟩) l) := L_2.out.below hb
  have S_3 : Hid (Reads w3 (some ⟨M2, 0, none⟩) (sortB l).1) := S_2.out.below hb
  have T_3 : Hid (Reads w3 (some ⟨M3, 0, none⟩) (sortB l).1) := own_reads ho
  clear ho
  clear hb
  go_wp2_with fail
  refine (drawSetOk_any a len cap _ HL.out (bytes_up HB.out B3.out)).mono ?_
  rintro e w4 ⟨⟨g4, c4, o, rfl, hr, hn, hs⟩, hb⟩
  have B4 : Hid (Below w0.heap.size w0 w4) := grow_on B3.out hb
  have L_4 : Hid (Reads w4 (some ⟨g1, 0, none⟩) l) := L_3.out.below hb
  have S_4 : Hid (Reads w4 (some ⟨M2, 0, none⟩) (sortB l).1) := S_3.out.below hb
  have T_4 : Hid (Reads w4 (some ⟨M3, 0, none⟩) (sortB l).1) := T_3.out.below hb
  have O_4 : Hid (Reads w4 (some ⟨g4, 0, none⟩) o) := hr
  have NO : Hid (o.length ≤ 8) := hn
  have FO : Hid (Small o) := hs
  clear hr hn hs
  clear hb
  go_wp2_with fail
  refine (drawLabelOk_any a len cap _ HL.out (bytes_up HB.out B4.out)).mono ?_
  rintro e w5 ⟨⟨x, rfl, hx1, hx2⟩, hb⟩
  have B5 : Hid (Below w0.heap.size w0 w5) := grow_on B4.out hb
  have L_5 : Hid (Reads w5 (some ⟨g1, 0, none⟩) l) := L_4.out.below hb
  have S_5 : Hid (Reads w5 (some ⟨M2, 0, none⟩) (sortB l).1) := S_4.out.below hb
  have T_5 : Hid (Reads w5 (some ⟨M3, 0, none⟩) (sortB l).1) := T_4.out.below hb
  have O_5 : Hid (Reads w5 (some ⟨g4, 0, none⟩) o) := O_4.out.below hb
  clear hb
  go_wp2_with fail
  generalize hw6 : w5.alloc _ = w6
  have hb : Below w5.heap.size w5 w6 := by rw [← hw6]; exact (Below.refl _ _).alloc (Nat.le_refl _) _
  have B6 : Hid (Below w0.heap.size w0 w6) := grow_on B5.out hb
  have L_6 : Hid (Reads w6 (some ⟨g1, 0, none⟩) l) := L_5.out.below hb
  have S_6 : Hid (Reads w6 (some ⟨M2, 0, none⟩) (sortB l).1) := S_5.out.below hb
  have T_6 : Hid (Reads w6 (some ⟨M3, 0, none⟩) (sortB l).1) := T_5.out.below hb
  have O_6 : Hid (Reads w6 (some ⟨g4, 0, none⟩) o) := O_5.out.below hb
  have X0_6 : Hid (w6.cell? ⟨w5.heap.size, 0, none⟩ = some (.string x.1)) := by rw [← hw6]; show _ = _; simp
  have X1_6 : Hid (w6.cell? ⟨w5.heap.size, 1, none⟩ = some (.string x.2)) := by rw [← hw6]; show _ = _; simp
  have XL : Hid (w5.heap.size < w6.heap.size) := by rw [← hw6]; show _ < _; simp
  clear hb hw6
  refine (drawSameSet_any a len cap _ HL.out (bytes_up HB.out B6.out)).mono ?_
  rintro e w7 ⟨⟨g7, c7, g7', c7', p, q, rfl, hr, hr', hn, hn', hs, hs'⟩, hb⟩
  have B7 : Hid (Below w0.heap.size w0 w7) := grow_on B6.out hb
  have L_7 : Hid (Reads w7 (some ⟨g1, 0, none⟩) l) := L_6.out.below hb
  have S_7 : Hid (Reads w7 (some ⟨M2, 0, none⟩) (sortB l).1) := S_6.out.below hb
  have T_7 : Hid (Reads w7 (some ⟨M3, 0, none⟩) (sortB l).1) := T_6.out.below hb
  have O_7 : Hid (Reads w7 (some ⟨g4, 0, none⟩) o) := O_6.out.below hb
  have P_7 : Hid (Reads w7 (some ⟨g7, 0, none⟩) p) := hr
  have Q_7 : Hid (Reads w7 (some ⟨g7', 0, none⟩) q) := hr'
  have NP : Hid (p.length ≤ 8) := hn
  have NQ : Hid (q.length ≤ 8) := hn'
  have B67 : Hid (Below w6.heap.size w6 w7) := hb
  clear hr hr' hn hn' hs hs' hb
  go_wp2_with fail
  refine (drawValOf_any a len cap _ HL.out (bytes_up HB.out B7.out)).mono ?_
  rintro e w8 ⟨⟨g8, c8, v, nm, rfl, hr, hn, hs, hnm⟩, hb⟩
  have B8 : Hid (Below w0.heap.size w0 w8) := grow_on B7.out hb
  have L_8 : Hid (Reads w8 (some ⟨g1, 0, none⟩) l) := L_7.out.below hb
  have S_8 : Hid (Reads w8 (some ⟨M2, 0, none⟩) (sortB l).1) := S_7.out.below hb
  have T_8 : Hid (Reads w8 (some ⟨M3, 0, none⟩) (sortB l).1) := T_7.out.below hb
  have O_8 : Hid (Reads w8 (some ⟨g4, 0, none⟩) o) := O_7.out.below hb
  have P_8 : Hid (Reads w8 (some ⟨g7, 0, none⟩) p) := P_7.out.below hb
  have Q_8 : Hid (Reads w8 (some ⟨g7', 0, none⟩) q) := Q_7.out.below hb
  have V_8 : Hid (Reads w8 (some ⟨g8, 0, none⟩) v) := hr
  have NV : Hid (v.length ≤ 8) := hn
  have B68 : Hid (Below w6.heap.size w6 w8) := grow_on B67.out hb
  clear hr hn hs
  clear hb
  go_wp2_with fail
  refine (implVal_any _ _ v nm _ V_8.out (len8 NV.out)).mono ?_
  rintro e w9 ⟨rfl, hb⟩
  have B9 : Hid (Below w0.heap.size w0 w9) := grow_on B8.out hb
  have L_9 : Hid (Reads w9 (some ⟨g1, 0, none⟩) l) := L_8.out.below hb
  have S_9 : Hid (Reads w9 (some ⟨M2, 0, none⟩) (sortB l).1) := S_8.out.below hb
  have T_9 : Hid (Reads w9 (some ⟨M3, 0, none⟩) (sortB l).1) := T_8.out.below hb
  have O_9 : Hid (Reads w9 (some ⟨g4, 0, none⟩) o) := O_8.out.below hb
  have P_9 : Hid (Reads w9 (some ⟨g7, 0, none⟩) p) := P_8.out.below hb
  have Q_9 : Hid (Reads w9 (some ⟨g7', 0, none⟩) q) := Q_8.out.below hb
  have V_9 : Hid (Reads w9 (some ⟨g8, 0, none⟩) v) := V_8.out.below hb
  have B69 : Hid (Below w6.heap.size w6 w9) := grow_on B68.out hb
  clear hb
  go_wp2_with fail
  refine (calls_same (specVal_any _ _ v nm _ V_9.out (len8 NV.out))).mono ?_
  rintro e w10 ⟨rfl, hb⟩
  have B10 : Hid (Below w0.heap.size w0 w10) := grow_on B9.out hb
  have L_10 : Hid (Reads w10 (some ⟨g1, 0, none⟩) l) := L_9.out.below hb
  have S_10 : Hid (Reads w10 (some ⟨M2, 0, none⟩) (sortB l).1) := S_9.out.below hb
  have T_10 : Hid (Reads w10 (some ⟨M3, 0, none⟩) (sortB l).1) := T_9.out.below hb
  have O_10 : Hid (Reads w10 (some ⟨g4, 0, none⟩) o) := O_9.out.below hb
  have P_10 : Hid (Reads w10 (some ⟨g7, 0, none⟩) p) := P_9.out.below hb
  have Q_10 : Hid (Reads w10 (some ⟨g7', 0, none⟩) q) := Q_9.out.below hb
  have V_10 : Hid (Reads w10 (some ⟨g8, 0, none⟩) v) := V_9.out.below hb
  have B610 : Hid (Below w6.heap.size w6 w10) := grow_on B69.out hb
  clear hb
  have hne := Grown.some w10
  have kx : w5.heap.size < w10.heap.size := Nat.lt_of_lt_of_le XL.out B610.out.size
  have x0 := fun z : Grown w10 => z.cell (p := ⟨w5.heap.size, 0, none⟩) kx ((B610.out.cell (p := ⟨w5.heap.size, 0, none⟩) XL.out).trans X0_6.out)
  have x1 := fun z : Grown w10 => z.cell (p := ⟨w5.heap.size, 1, none⟩) kx ((B610.out.cell (p := ⟨w5.heap.size, 1, none⟩) XL.out).trans X1_6.out)
  have NS : Hid ((sortB l).1.length ≤ maxLen) := Nat.le_trans (sort_small l) (by unfold maxLen; decide)
  have C1 : ∀ z : Grown w10, Hid (Calls Try.prog 18 #[.slice (some ⟨M2, 0, none⟩) (sortB l).1.length c2, .slice (some ⟨M3, 0, none⟩) (sortB l).1.length c3] z.out fun e w' => e = .returned (.bool true) ∧ Below z.out.heap.size z.out w') := fun z => (calls_drew (implSame_any _ _ _ _ (sortB l).1 (sortB l).1 _ (S_10.out.below z.bel) (T_10.out.below z.bel) NS.out NS.out)).mono fun e w' h => ⟨h.1.trans (retB (decide_eq_true rfl)), h.2⟩
  have C2 : ∀ z : Grown w10, Hid (Calls Try.prog 19 #[.slice (some ⟨g4, 0, none⟩) o.length c4] z.out fun e w' => e = .returned (.bool (setB o)) ∧ Below z.out.heap.size z.out w') := fun z => implSet_any _ _ o _ (O_10.out.below z.bel) (len8 NO.out) (fits_of FO.out)
  have C3 : ∀ z : Grown w10, Hid (Calls Try.prog 20 #[.slice (some ⟨g4, 0, none⟩) o.length c4] z.out fun e w' => e = .returned (.bool (setB o)) ∧ Below z.out.heap.size z.out w') := fun z => specSet_any _ _ o _ (O_10.out.below z.bel) (len8 NO.out) (fits_of FO.out)
  have C4 : ∀ z : Grown w10, Hid (Calls Try.prog 21 #[.agg #[.string x.1, .string x.2]] z.out fun e w' => e = .returned (.bool (labB x)) ∧ Below z.out.heap.size z.out w') := fun z => implLab_any x _ (size100 hx1) (size100 hx2)
  have C5 : ∀ z : Grown w10, Hid (Calls Try.prog 22 #[.agg #[.string x.1, .string x.2]] z.out fun e w' => e = .returned (.bool (labB x)) ∧ Below z.out.heap.size z.out w') := fun z => specLab_any x _ (size100 hx1) (size100 hx2)
  have C6 : ∀ z : Grown w10, Hid (Calls Try.prog 18 #[.slice (some ⟨g7, 0, none⟩) p.length c7, .slice (some ⟨g7', 0, none⟩) q.length c7'] z.out fun e w' => e = .returned (.bool (decide (p = q))) ∧ Below z.out.heap.size z.out w') := fun z => calls_drew (implSame_any _ _ _ _ p q _ (P_10.out.below z.bel) (Q_10.out.below z.bel) (len8 NP.out) (len8 NQ.out))
  have C7 : ∀ z : Grown w10, Hid (Calls Try.prog 23 #[.slice (some ⟨g7, 0, none⟩) p.length c7, .slice (some ⟨g7', 0, none⟩) q.length c7'] z.out fun e w' => e = .returned (.bool (decide (p = q))) ∧ Below z.out.heap.size z.out w') := fun z => calls_drew (specSame_any _ _ _ _ p q _ (P_10.out.below z.bel) (Q_10.out.below z.bel) (len8 NP.out) (len8 NQ.out))
  have hes : ((LabS.valOf v nm).1.toList == (LabS.valOf v nm).1.toList) = true := beqS_yes rfl
  have heq : (decide (p = q) != decide (p = q)) = false := by simp
  have hok2 : ((sortB l).2 != (sortB l).2) = false := by simp
  go_wp2
  refine wp_over (z := w10) (by kernel_rfl) (by kernel_rfl) (Below.refl _ _) ?_
  repeat (go_big_quiet_step (first | (go_at_call 18; exact call_over (C1 _).out) | (go_at_call 19; exact call_over (C2 _).out) | (go_at_call 20; exact call_over (C3 _).out) | (go_at_call 21; exact call_over (C4 _).out) | (go_at_call 22; exact call_over (C5 _).out) | (go_at_call 18; exact call_over (C6 _).out) | (go_at_call 23; exact call_over (C7 _).out)))
  refine wpQuiet_nil ?_
  intro w11 hw11
  have hb := over_bel hw11
  have B11 : Hid (Below w0.heap.size w0 w11) := grow_on B10.out hb
  have L_11 : Hid (Reads w11 (some ⟨g1, 0, none⟩) l) := L_10.out.below hb
  have S_11 : Hid (Reads w11 (some ⟨M2, 0, none⟩) (sortB l).1) := S_10.out.below hb
  clear hw11 hne hb x0 x1 C1 C2 C3 C4 C5 C6 C7 hes heq hok2 kx
  cases hok : (sortB l).2 with
  | false =>
    obtain ⟨hs1, hs2⟩ := sort_none hok
    have hz : (sortB l).1.length = 0 := by rw [hs2]; rfl
    have HC : Hid (Calls Try.prog 19 #[.slice (some ⟨g1, 0, none⟩) l.length c1] w11 fun e w' => e = .returned (.bool false) ∧ Below w11.heap.size w11 w') := (implSet_any _ _ l _ L_11.out (len8 NL.out) (fits_of FL.out)).mono fun e w' h => ⟨h.1.trans (retB hs1), h.2⟩
    clear hs1 hs2
    rw [hz]
    clear hz
    go_wp2_with fail
    refine HC.out.mono ?_
    rintro e w12 ⟨rfl, hb⟩
    have B12 : Hid (Below w0.heap.size w0 w12) := grow_on B11.out hb
    clear hb HC
    go_wp2
    go_ret
    exact ⟨rfl, B12.out⟩
  | true =>
    obtain ⟨hs1, hs2⟩ := sort_some hok
    have HV : Hid (∀ i, i < l.length → LabS.valOf (upto l l.length) (nth l i).1 = ((nth l i).2, true)) := fun i hi => val_sorted hok hi
    have HS : Hid (setB (upto l l.length) = true) := hs2
    have HF : Hid (Fits (upto l l.length)) := fits_upto (fits_of FL.out)
    have HZ : Hid (sortB (upto l l.length) = (upto l l.length, true)) := sort_set hs2
    have HN : Hid ((upto l l.length).length = l.length) := upto_length l l.length
    have e1 : (sortB l).1 = upto l l.length := by rw [hs1]
    rw [e1] at S_11 ⊢
    clear hs1 hs2 hok e1
    generalize upto l l.length = s at *
    have NS2 : Hid (s.length ≤ maxLen) := by show s.length ≤ maxLen; rw [HN.out]; exact len8 NL.out
    have hsl : s.length = l.length := HN.out
    rw [hsl]
    have HC : Hid (Calls Try.prog 10 #[.slice (some ⟨M2, 0, none⟩) l.length c2] w11 fun e w' => (∃ M c, e = .returned (.tuple #[.slice (some ⟨M, 0, none⟩) l.length c, .bool true]) ∧ Reads w' (some ⟨M, 0, none⟩) s) ∧ Below w11.heap.size w11 w') := by
      have := implSort_any (some ⟨M2, 0, none⟩) c2 s w11 S_11.out NS2.out HF.out
      rw [hsl, HZ.out] at this
      exact this.mono fun e w' ⟨⟨M, c, he, ho⟩, hb⟩ => ⟨⟨M, c, by rw [he, hsl], own_reads ho⟩, hb⟩
    clear hsl
    go_wp2_with fail
    refine HC.out.mono ?_
    rintro e w12 ⟨⟨M4, c12, rfl, hz⟩, hb⟩
    have B12 : Hid (Below w0.heap.size w0 w12) := grow_on B11.out hb
    have L_12 : Hid (Reads w12 (some ⟨g1, 0, none⟩) l) := L_11.out.below hb
    have S_12 : Hid (Reads w12 (some ⟨M2, 0, none⟩) s) := S_11.out.below hb
    have Z_12 : Hid (Reads w12 (some ⟨M4, 0, none⟩) s) := hz
    have hn8 : l.length ≤ 8 := NL.out
    clear hb hz HC
    go_wp2
    go_loopw [20, 21, 22] (fun i _ _ w' => ∃ k : Nat, i = .int .i64 k ∧ k ≤ l.length ∧ Below w12.heap.size w12 w') (fun i _ _ _ => l.length - (intOf i).toNat)
    case atStart => exact ⟨0, rfl, Nat.zero_le _, Below.refl _ _⟩
    case round =>
      obtain ⟨k, rfl, hk, hw0⟩ := hrel
      have HW : Hid (Below w12.heap.size w12 wr) := hw0
      have L_r : Hid (Reads wr (some ⟨g1, 0, none⟩) l) := L_12.out.below hw0
      have S_r : Hid (Reads wr (some ⟨M2, 0, none⟩) s) := S_12.out.below hw0
      have Z_r : Hid (Reads wr (some ⟨M4, 0, none⟩) s) := Z_12.out.below hw0
      clear hw0
      by_cases hlt : k < l.length
      · have hlt' : (k : Int) < (l.length : Int) := by omega
        obtain ⟨b, off, eb, hb, hc⟩ := L_r.out.get hlt
        cases eb
        obtain ⟨h0, h1⟩ := hc k hlt
        rw [Nat.zero_add] at h0 h1
        have HC : Hid (Calls Try.prog 16 #[.slice (some ⟨M2, 0, none⟩) l.length c2, .string (nth l k).1] wr fun e w' => e = .returned (.tuple #[.string (nth l k).2, .bool true]) ∧ Below wr.heap.size wr w') := by
          have := implVal_any (some ⟨M2, 0, none⟩) c2 s (nth l k).1 wr S_r.out NS2.out
          rw [HV.out k hlt, HN.out] at this
          exact this
        clear hc
        go_wp2_with fail
        refine HC.out.mono ?_
        rintro e w13 ⟨rfl, hb13⟩
        have h4 : w13.cell? ⟨g1, k * 2 + 1, none⟩ = some (.string (nth l k).2) := by rw [hb13.cell hb]; exact h1
        have HW13 : Hid (Below w12.heap.size w12 w13) := grow_on HW.out hb13
        have hd : ((nth l k).2.toList == (nth l k).2.toList) = true := beqS_yes rfl
        clear hb13 HC h0 h1
        go_wp2
        go_roundw
        case rel => exact ⟨k + 1, by go_num, by omega, HW13.out⟩
        case measure => simp [intOf]; omega
      · have hge : ¬ (k : Int) < (l.length : Int) := by omega
        have HC : Hid (Calls Try.prog 19 #[.slice (some ⟨M2, 0, none⟩) l.length c2] wr fun e w' => e = .returned (.bool true) ∧ Below wr.heap.size wr w') := by
          have := implSet_any (some ⟨M2, 0, none⟩) c2 s wr S_r.out NS2.out HF.out
          rw [HS.out, HN.out] at this
          exact this
        go_wp2_with fail
        refine HC.out.mono ?_
        rintro e w13 ⟨rfl, hb13⟩
        have HW13 : Hid (Below w12.heap.size w12 w13) := grow_on HW.out hb13
        have HD : Hid (Calls Try.prog 18 #[.slice (some ⟨M4, 0, none⟩) l.length c12, .slice (some ⟨M2, 0, none⟩) l.length c2] w13 fun e w' => e = .returned (.bool true) ∧ Below w13.heap.size w13 w') := by
          have := calls_drew (implSame_any (some ⟨M4, 0, none⟩) (some ⟨M2, 0, none⟩) c12 c2 s s w13 (Z_r.out.below hb13) (S_r.out.below hb13) NS2.out NS2.out)
          rw [HN.out, decide_eq_true (rfl : s = s)] at this
          exact this
        clear hb13 HC
        go_wp2_with fail
        refine HD.out.mono ?_
        rintro e w14 ⟨rfl, hb14⟩
        have HW14 : Hid (Below w12.heap.size w12 w14) := grow_on HW13.out hb14
        clear hb14 HD
        go_wp2
        go_ret
        exact ⟨rfl, grow_on B12.out HW14.out⟩


theorem walk (a : Option Addr) (len cap : Nat) (zs : List Int) (w : World) (h : IsRow .u8 w a len cap zs) :
    Calls Try.prog 3 #[.slice a len cap] w fun e w' => e = .returned (.bool true) ∧ Below w.heap.size w w' := by
  obtain ⟨hl, hb⟩ := bytes_of h
  exact core a len cap w hl hb
theorem own : ownKnob Try.prog.godebug = none := by kernel_rfl
theorem laidOut : laidOutB Try.prog = true := by kernel_rfl
set_option maxRecDepth 100000 in
theorem lifted (os : Os) (started : os.Started) (H : Type) (enc : TypeId × Value → H) :
    ReturnsInHanded {} Try.checked os 3 .any (Rows.fnSetsSpec.pre6 enc Try.prog Try.f3 Rows.fnSetsRow.domain false) (Rows.fnSetsSpec.post enc Try.prog Try.f3 false true false false) := by
  refine returnsInHanded_of_change (C := Try.checked) own started (by kernel_rfl) Try.func3
    (ChangeSpec.witness6 (enc := enc) (C := Try.checked) false ⟨#[], #[.slice none 0 0], []⟩ 8 (by kernel_rfl) (by kernel_rfl) (by kernel_rfl) (by kernel_rfl)) ?_
  intro W base args ds gs before hval0 hW hcnd _
  have hval : ∀ (j : Nat) t v, Try.f3.params[j]? = some t → args[j]? = some v → Value.okWide Try.prog W .any base t v := hval0
  have hW' := hW
  obtain ⟨p, q, hA0, hV, rfl, hfz, hnd⟩ := hW
  have hA : DataW.TrodAll enc Try.prog W 0 (fun _ => true) true Try.f3.params.toList args.toList ds p := hA0
  rw [Try.params3] at hA hval
  obtain ⟨v0, vs0, d0, ds0, p0, q0, hargs, rfl, rfl, h0, r0⟩ := trodAll_cons hA
  obtain ⟨rfl, rfl, rfl⟩ := trodAll_nil r0
  obtain rfl : args = #[v0] := by cases args; simp_all
  obtain ⟨rfl, rfl⟩ := trodVars_none hV
  obtain ⟨a0, len0, cap0, rfl⟩ := okWide_slice Try.underlying22 (hval 0 22 v0 rfl rfl)
  have k0 := h0
  have lt0 : ∀ x ∈ p0, x.block < W.heap.size := by obtain ⟨m, hm⟩ := k0; exact DataW.trod_lt m _ _ _ hm
  obtain ⟨z0, w0⟩ : ∃ zs, IsRow .u8 W a0 len0 cap0 zs := by
    obtain ⟨fuel, hf⟩ := h0
    rcases open_ints Try.underlying22 Try.underlying5 (by kernel_rfl) hf with ⟨hcs, _⟩ | ⟨x, l, c, zs, hcs, _, hl, hm, hz, _, hcell, hwz⟩
    · simp [Value.cells] at hcs
      obtain ⟨rfl, rfl, rfl⟩ := hcs
      exact ⟨[], .inl ⟨rfl, rfl, rfl, rfl⟩⟩
    · simp [Value.cells] at hcs
      obtain ⟨rfl, rfl, rfl⟩ := hcs
      exact ⟨zs, .inr ⟨_, rfl, hl, hm, by simpa using hz, hcell, hwz⟩⟩
  clear hA0 hval0
  refine (walk a0 len0 cap0 z0 W w0).mono fun e W' ⟨he, bel⟩ => ?_
  subst he
  exact ⟨_, rfl, _, _, _, [], _, [], hW', trodAll_mk1 (shut_bool Try.underlying4 _), (trodAll_cons_mk (Below.trod laidOut (by kernel_rfl) (of_decide_eq_true (by kernel_rfl)) k0 bel lt0) trodAll_mk0), rfl, bel.frame _, fun h => by cases h⟩

theorem over : Rows.fnSetsRow.holds Try.pinned (OpenSpec.ofChange Rows.fnSetsSpec) :=
  OpenClaim.holds_of_wide 3 Try.f3 rfl rfl rfl rfl rfl rfl rfl ⟨rfl, rfl, rfl, rfl, rfl⟩ rfl rfl rfl rfl rfl (by kernel_rfl) Try.func3 (by kernel_rfl)
    (of_decide_eq_true (by kernel_rfl)) (by unfold Func.isWrapper; first | (rw [if_pos (by decide +kernel)]; kernel_rfl) | (rw [if_neg (by decide +kernel)]; exact ⟨rfl, rfl⟩))
    (fun os started H enc _ => lifted os started H enc)

end Go.Proofs.Ytinegehejinmiaa.FnSets
namespace Go.Proofs.Ytinegehejinmiaa
theorem fnSets_holds : Rows.FnSetsSaid := FnSets.over
#print axioms fnSets_holds
end Go.Proofs.Ytinegehejinmiaa
