/-
  PROVED: whatever the code, the law laws.FnPrints returns true and leaves the code as it was: of the drawn labels and texts each function of chapter 3 answers as the specification has it, and labels come back of their words. No condition.
-/
import Derived.Test.YtlgmhonlgckppaaRows
import Derived.WalkKit
import Derived.ProofKit
import Derived.OpenShut
import Derived.ShutString
import Derived.ChangeOld
import Derived.Below
import Derived.WalkLawsBesides
import Derived.WalkSpells
import Derived.Test.YtlgmhonlgckppaaCutT
import Derived.Test.YtlgmhonlgckppaaAlik
import Derived.Test.YtlgmhonlgckppaaDrawP
import Derived.Test.YtlgmhonlgckppaaLawB
import Derived.HandedShaped
namespace Go.Proofs.Ytlgmhonlgckppaa.FnPrints
open Go.ChangeShapes Go.WideShapes Go.ChangeAt Go.RowKit
open Go.ChangeMaps (open_string shut_string)
set_option linter.unusedVariables false

open Go.Proofs.Ytlgmhonlgckppaa.Labs Go.Proofs.Ytlgmhonlgckppaa.LabS Go.Proofs.Ytlgmhonlgckppaa.Draw Go.Proofs.Ytlgmhonlgckppaa.DrawL Go.Proofs.Ytlgmhonlgckppaa.DrawP Go.Proofs.Ytlgmhonlgckppaa.LawB Go.Proofs.Ytlgmhonlgckppaa.Over
open Go.Proofs.Ytlgmhonlgckppaa.LabO (setB specSet_any implSet_any Fits)
open Go.Proofs.Ytlgmhonlgckppaa.LabT (held_reads)
open Go.Proofs.Ytlgmhonlgckppaa.LabR (Own)
open Go.Proofs.Ytlgmhonlgckppaa.SetP (setText parseB parseOf cutI cutN_len parse_text parse_back)
open Go.Proofs.Ytlgmhonlgckppaa.TextS (specText_any)
open Go.Proofs.Ytlgmhonlgckppaa.TextI (implText_any)
open Go.Proofs.Ytlgmhonlgckppaa.Cuts (MaxAt)
open Go.Proofs.Ytlgmhonlgckppaa.CutP (implParse_any cutI_fits)
open Go.Proofs.Ytlgmhonlgckppaa.CutT (specParse_any)
open Go.Proofs.Ytlgmhonlgckppaa.Sums (sumB partB specSum_any implSum_any specPart_any implPart_any)
open Go.Proofs.Ytlgmhonlgckppaa.Fing (fingerB finger_lt alikeB alike_self alike_comm specFinger_any implFinger_any)
open Go.Proofs.Ytlgmhonlgckppaa.Alik (specAlike_any implAlike_any)

theorem own_reads {w w' : World} {M : Nat} {s : List Lab} (h : Own w w' M s) : Reads w' (some ⟨M, 0, none⟩) s := by
  obtain ⟨_, cs, hk, _, hh⟩ := h
  exact held_reads hk hh
theorem four (s : ByteArray) : (parseB s).1.length ≤ 4 := by
  unfold parseB parseOf
  split
  · exact cutN_len 4 _
  · simp
theorem parse_fits {s : ByteArray} (h : s.size ≤ 100) : Fits (parseB s).1 := by
  unfold parseB parseOf
  split
  · exact cutI_fits (by omega)
  · intro i hi; simp at hi
theorem part_low (f n : Int) : 0 ≤ partB f n := by
  unfold partB
  split
  · exact Int.le_refl _
  · exact Int.emod_nonneg _ (by omega)
theorem part_high {f n : Int} (h : ¬ n < 1) : partB f n < n := by
  unfold partB
  split
  · omega
  · exact Int.emod_lt_of_pos _ (by omega)
theorem parsed (l : List Lab) : (parseB (setText l)).2 = setB l ∧ ((parseB (setText l)).2 = true → (parseB (setText l)).1 = l) := by
  rw [parse_text]
  cases setB l with
  | true => exact ⟨rfl, fun _ => rfl⟩
  | false => exact ⟨rfl, fun h => by cases h⟩
theorem size100 {s : ByteArray} (h : s.size ≤ 100) : s.size ≤ maxLen := by unfold maxLen; omega
theorem mid {s : ByteArray} (h : s.size ≤ 100) : s.size ≤ 1048576 := by omega

set_option maxRecDepth 100000 in
set_option maxHeartbeats 8000000 in
theorem core (a : Option Addr) (len cap : Nat) (w : World) (hl : len ≤ maxLen) (hb : Bytes w a len w.heap.size) (hm : MaxAt w) :
    Calls Try.prog 3 #[.slice a len cap] w fun e w' => e = .returned (.bool true) ∧ Below w.heap.size w w' := by
  have HB : Hid (Bytes w a len w.heap.size) := hb
  have HL : Hid (len ≤ maxLen) := hl
  have HX : Hid (MaxAt w) := hm
  clear hb hl hm
  by_cases hbig : (1048576 : Int) < (len : Int)
  · have HC : Hid (Calls Try.prog 9 #[.slice a len cap] w fun e w' => e = .returned (.bool true) ∧ w' = w) := (big_any a len cap w HL.out).mono fun e w' h => ⟨h.1.trans (retB (decide_eq_true hbig)), h.2⟩
    go_enter Try.func3, Try.ntmps3
    go_wp2_with fail
    refine HC.out.mono ?_
    rintro e w1 ⟨rfl, rfl⟩
    go_wp2
    go_ret
    exact ⟨rfl, Below.refl _ _⟩
  have HC : Hid (Calls Try.prog 9 #[.slice a len cap] w fun e w' => e = .returned (.bool false) ∧ w' = w) := (big_any a len cap w HL.out).mono fun e w' h => ⟨h.1.trans (retB (decide_eq_false hbig)), h.2⟩
  go_enter Try.func3, Try.ntmps3
  go_wp2_with fail
  refine HC.out.mono ?_
  rintro e w0 ⟨rfl, rfl⟩
  clear HC
  have B0 : Hid (Below w0.heap.size w0 w0) := Below.refl _ _
  go_wp2_with fail
  refine (drawSetText_any a len cap _ HL.out HB.out).mono ?_
  rintro e w1 ⟨⟨g1, c1, l, rfl, hr, hn, hs⟩, hb⟩
  have B1 : Hid (Below w0.heap.size w0 w1) := grow_on B0.out hb
  have L_1 : Hid (Reads w1 (some ⟨g1, 0, none⟩) l) := hr
  have NL : Hid (l.length ≤ 8) := hn
  have FL : Hid (Small l) := hs
  clear hr hn hs
  clear hb
  go_wp2_with fail
  refine (implText_any _ _ l _ L_1.out (len8 NL.out) (fits_of FL.out)).mono ?_
  rintro e w2 ⟨rfl, hb⟩
  have B2 : Hid (Below w0.heap.size w0 w2) := grow_on B1.out hb
  have L_2 : Hid (Reads w2 (some ⟨g1, 0, none⟩) l) := L_1.out.below hb
  have ZS : Hid ((setText l).size ≤ 100) := text100 l
  have HP := parsed l
  have N4 := four (setText l)
  clear hb
  go_wp2_with fail
  refine (implParse_any (setText l) _ (mid ZS.out) (HX.out.below B2.out)).mono ?_
  rintro e w3 ⟨⟨M3, c3, rfl, ho⟩, hb⟩
  have B3 : Hid (Below w0.heap.size w0 w3) := grow_on B2.out hb
  have L_3 : Hid (Reads w3 (some ⟨g1, 0, none⟩) l) := L_2.out.below hb
  have M_3 := own_reads ho
  clear ho
  generalize parseB (setText l) = P at HP N4 M_3 ⊢
  obtain ⟨m, ok⟩ := P
  dsimp only at HP N4 M_3 ⊢
  have HP1 : Hid (ok = setB l ∧ (ok = true → m = l)) := HP
  have NM : Hid (m.length ≤ 8) := by show m.length ≤ 8; omega
  replace M_3 : Hid (Reads w3 (some ⟨M3, 0, none⟩) m) := M_3
  clear HP N4
  clear hb
  go_wp2_with fail
  refine (drawParse_any a len cap _ HL.out (bytes_up HB.out B3.out)).mono ?_
  rintro e w4 ⟨⟨t, rfl, ht⟩, hb⟩
  have B4 : Hid (Below w0.heap.size w0 w4) := grow_on B3.out hb
  have L_4 : Hid (Reads w4 (some ⟨g1, 0, none⟩) l) := L_3.out.below hb
  have M_4 : Hid (Reads w4 (some ⟨M3, 0, none⟩) m) := M_3.out.below hb
  have ZT : Hid (t.size ≤ 100) := ht
  clear ht
  clear hb
  go_wp2_with fail
  refine (implParse_any t _ (mid ZT.out) (HX.out.below B4.out)).mono ?_
  rintro e w5 ⟨⟨M5, c5, rfl, ho⟩, hb⟩
  have B5 : Hid (Below w0.heap.size w0 w5) := grow_on B4.out hb
  have L_5 : Hid (Reads w5 (some ⟨g1, 0, none⟩) l) := L_4.out.below hb
  have M_5 : Hid (Reads w5 (some ⟨M3, 0, none⟩) m) := M_4.out.below hb
  have X_5 : Hid (Reads w5 (some ⟨M5, 0, none⟩) (parseB t).1) := own_reads ho
  clear ho
  clear hb
  go_wp2_with fail
  refine (specParse_any t _ (mid ZT.out)).mono ?_
  rintro e w6 ⟨⟨M6, c6, rfl, -⟩, hb⟩
  have B6 : Hid (Below w0.heap.size w0 w6) := grow_on B5.out hb
  have L_6 : Hid (Reads w6 (some ⟨g1, 0, none⟩) l) := L_5.out.below hb
  have M_6 : Hid (Reads w6 (some ⟨M3, 0, none⟩) m) := M_5.out.below hb
  have X_6 : Hid (Reads w6 (some ⟨M5, 0, none⟩) (parseB t).1) := X_5.out.below hb
  have HQ := parse_back (s := t)
  have N4 := four t
  have FX := parse_fits ZT.out
  generalize parseB t = P at HQ N4 FX X_6 ⊢
  obtain ⟨x, is⟩ := P
  dsimp only at HQ N4 FX X_6 ⊢
  have HQ1 : Hid (is = true → setText x = t) := HQ
  have NX : Hid (x.length ≤ 8) := by show x.length ≤ 8; omega
  have FX1 : Hid (Fits x) := FX
  clear HQ N4 FX X_5
  clear hb
  go_wp2_with fail
  refine (drawFinger_any a len cap _ HL.out (bytes_up HB.out B6.out)).mono ?_
  rintro e w7 ⟨⟨g7, c7, f, rfl, hr, hn, hs⟩, hb⟩
  have B7 : Hid (Below w0.heap.size w0 w7) := grow_on B6.out hb
  have L_7 : Hid (Reads w7 (some ⟨g1, 0, none⟩) l) := L_6.out.below hb
  have M_7 : Hid (Reads w7 (some ⟨M3, 0, none⟩) m) := M_6.out.below hb
  have X_7 : Hid (Reads w7 (some ⟨M5, 0, none⟩) x) := X_6.out.below hb
  have F_7 : Hid (Reads w7 (some ⟨g7, 0, none⟩) f) := hr
  have NF : Hid (f.length ≤ 8) := hn
  have FF : Hid (Small f) := hs
  clear hr hn hs
  clear hb
  go_wp2_with fail
  refine (drawAlike_any a len cap _ HL.out (bytes_up HB.out B7.out)).mono ?_
  rintro e w8 ⟨⟨g8, c8, g8', c8', p, q, rfl, hr, hr', hn, hn', hs, hs'⟩, hb⟩
  have B8 : Hid (Below w0.heap.size w0 w8) := grow_on B7.out hb
  have L_8 : Hid (Reads w8 (some ⟨g1, 0, none⟩) l) := L_7.out.below hb
  have M_8 : Hid (Reads w8 (some ⟨M3, 0, none⟩) m) := M_7.out.below hb
  have X_8 : Hid (Reads w8 (some ⟨M5, 0, none⟩) x) := X_7.out.below hb
  have F_8 : Hid (Reads w8 (some ⟨g7, 0, none⟩) f) := F_7.out.below hb
  have P_8 : Hid (Reads w8 (some ⟨g8, 0, none⟩) p) := hr
  have Q_8 : Hid (Reads w8 (some ⟨g8', 0, none⟩) q) := hr'
  have NP : Hid (p.length ≤ 8) := hn
  have NQ : Hid (q.length ≤ 8) := hn'
  have FP : Hid (Small p) := hs
  have FQ : Hid (Small q) := hs'
  clear hr hr' hn hn' hs hs'
  clear hb
  go_wp2_with fail
  refine (drawSum_any a len cap _ HL.out (bytes_up HB.out B8.out)).mono ?_
  rintro e w9 ⟨⟨u, rfl, hu⟩, hb⟩
  have B9 : Hid (Below w0.heap.size w0 w9) := grow_on B8.out hb
  have L_9 : Hid (Reads w9 (some ⟨g1, 0, none⟩) l) := L_8.out.below hb
  have M_9 : Hid (Reads w9 (some ⟨M3, 0, none⟩) m) := M_8.out.below hb
  have X_9 : Hid (Reads w9 (some ⟨M5, 0, none⟩) x) := X_8.out.below hb
  have F_9 : Hid (Reads w9 (some ⟨g7, 0, none⟩) f) := F_8.out.below hb
  have P_9 : Hid (Reads w9 (some ⟨g8, 0, none⟩) p) := P_8.out.below hb
  have Q_9 : Hid (Reads w9 (some ⟨g8', 0, none⟩) q) := Q_8.out.below hb
  have ZU : Hid (u.size ≤ 100) := hu
  clear hu
  clear hb
  go_wp2_with fail
  refine (drawPart_any a len cap _ HL.out (bytes_up HB.out B9.out)).mono ?_
  rintro e w10 ⟨⟨k, n, rfl, hk, hn⟩, hb⟩
  have B10 : Hid (Below w0.heap.size w0 w10) := grow_on B9.out hb
  have L_10 : Hid (Reads w10 (some ⟨g1, 0, none⟩) l) := L_9.out.below hb
  have M_10 : Hid (Reads w10 (some ⟨M3, 0, none⟩) m) := M_9.out.below hb
  have X_10 : Hid (Reads w10 (some ⟨M5, 0, none⟩) x) := X_9.out.below hb
  have F_10 : Hid (Reads w10 (some ⟨g7, 0, none⟩) f) := F_9.out.below hb
  have P_10 : Hid (Reads w10 (some ⟨g8, 0, none⟩) p) := P_9.out.below hb
  have Q_10 : Hid (Reads w10 (some ⟨g8', 0, none⟩) q) := Q_9.out.below hb
  have ZK : Hid ((-9223372036854775808 ≤ k ∧ k ≤ 9223372036854775807) ∧ (-9223372036854775808 ≤ n ∧ n ≤ 9223372036854775807)) := by
    show _ ∧ _
    omega
  have HPL : Hid (0 ≤ partB k n) := part_low k n
  have HPH : Hid (1 ≤ n → partB k n < n) := fun h => part_high (by omega)
  have hf0 : (0 : Int) ≤ (fingerB f : Int) := by omega
  have hf1 : (fingerB f : Int) < 32 := by have := finger_lt f; omega
  clear hk hn
  clear hb
  go_wp2_with fail
  refine (specText_any _ _ l _ L_10.out (len8 NL.out) (fits_of FL.out)).mono ?_
  rintro e w11 ⟨rfl, hb⟩
  have B11 : Hid (Below w0.heap.size w0 w11) := grow_on B10.out hb
  have L_11 : Hid (Reads w11 (some ⟨g1, 0, none⟩) l) := L_10.out.below hb
  have M_11 : Hid (Reads w11 (some ⟨M3, 0, none⟩) m) := M_10.out.below hb
  have X_11 : Hid (Reads w11 (some ⟨M5, 0, none⟩) x) := X_10.out.below hb
  have F_11 : Hid (Reads w11 (some ⟨g7, 0, none⟩) f) := F_10.out.below hb
  have P_11 : Hid (Reads w11 (some ⟨g8, 0, none⟩) p) := P_10.out.below hb
  have Q_11 : Hid (Reads w11 (some ⟨g8', 0, none⟩) q) := Q_10.out.below hb
  have e0 : ((setText l).toList == (setText l).toList) = true := beqS_yes rfl
  clear hb
  cases is with
  | true =>
    have HT : Hid (setText x = t) := HQ1.out rfl
    have e1 : (t.toList == t.toList) = true := beqS_yes rfl
    go_wp2_with fail
    refine ((implText_any _ _ x _ X_11.out (len8 NX.out) FX1.out).mono fun e w' h => (⟨h.1.trans (by rw [HT.out]), h.2⟩ : e = .returned (.string t) ∧ _)).mono ?_
    rintro e w12 ⟨rfl, hb⟩
    have B12 : Hid (Below w0.heap.size w0 w12) := grow_on B11.out hb
    have L_12 : Hid (Reads w12 (some ⟨g1, 0, none⟩) l) := L_11.out.below hb
    have M_12 : Hid (Reads w12 (some ⟨M3, 0, none⟩) m) := M_11.out.below hb
    have X_12 : Hid (Reads w12 (some ⟨M5, 0, none⟩) x) := X_11.out.below hb
    have F_12 : Hid (Reads w12 (some ⟨g7, 0, none⟩) f) := F_11.out.below hb
    have P_12 : Hid (Reads w12 (some ⟨g8, 0, none⟩) p) := P_11.out.below hb
    have Q_12 : Hid (Reads w12 (some ⟨g8', 0, none⟩) q) := Q_11.out.below hb
    clear hb
    go_wp2_with fail
    refine (implFinger_any _ _ f _ F_12.out (len8 NF.out) (fits_of FF.out)).mono ?_
    rintro e w13 ⟨rfl, hb⟩
    have B13 : Hid (Below w0.heap.size w0 w13) := grow_on B12.out hb
    have L_13 : Hid (Reads w13 (some ⟨g1, 0, none⟩) l) := L_12.out.below hb
    have M_13 : Hid (Reads w13 (some ⟨M3, 0, none⟩) m) := M_12.out.below hb
    have X_13 : Hid (Reads w13 (some ⟨M5, 0, none⟩) x) := X_12.out.below hb
    have F_13 : Hid (Reads w13 (some ⟨g7, 0, none⟩) f) := F_12.out.below hb
    have P_13 : Hid (Reads w13 (some ⟨g8, 0, none⟩) p) := P_12.out.below hb
    have Q_13 : Hid (Reads w13 (some ⟨g8', 0, none⟩) q) := Q_12.out.below hb
    clear hb
    go_wp2_with fail
    refine (specFinger_any _ _ f _ F_13.out (len8 NF.out) (fits_of FF.out)).mono ?_
    rintro e w14 ⟨rfl, hb⟩
    have B14 : Hid (Below w0.heap.size w0 w14) := grow_on B13.out hb
    have L_14 : Hid (Reads w14 (some ⟨g1, 0, none⟩) l) := L_13.out.below hb
    have M_14 : Hid (Reads w14 (some ⟨M3, 0, none⟩) m) := M_13.out.below hb
    have X_14 : Hid (Reads w14 (some ⟨M5, 0, none⟩) x) := X_13.out.below hb
    have F_14 : Hid (Reads w14 (some ⟨g7, 0, none⟩) f) := F_13.out.below hb
    have P_14 : Hid (Reads w14 (some ⟨g8, 0, none⟩) p) := P_13.out.below hb
    have Q_14 : Hid (Reads w14 (some ⟨g8', 0, none⟩) q) := Q_13.out.below hb
    clear hb
    go_wp2_with fail
    refine (implAlike_any _ _ _ _ p q _ P_14.out Q_14.out (len8 NP.out) (len8 NQ.out) (fits_of FP.out) (fits_of FQ.out)).mono ?_
    rintro e w15 ⟨rfl, hb⟩
    have B15 : Hid (Below w0.heap.size w0 w15) := grow_on B14.out hb
    have L_15 : Hid (Reads w15 (some ⟨g1, 0, none⟩) l) := L_14.out.below hb
    have M_15 : Hid (Reads w15 (some ⟨M3, 0, none⟩) m) := M_14.out.below hb
    have X_15 : Hid (Reads w15 (some ⟨M5, 0, none⟩) x) := X_14.out.below hb
    have F_15 : Hid (Reads w15 (some ⟨g7, 0, none⟩) f) := F_14.out.below hb
    have P_15 : Hid (Reads w15 (some ⟨g8, 0, none⟩) p) := P_14.out.below hb
    have Q_15 : Hid (Reads w15 (some ⟨g8', 0, none⟩) q) := Q_14.out.below hb
    clear hb
    go_wp2_with fail
    refine (specAlike_any _ _ _ _ p q _ P_15.out Q_15.out (len8 NP.out) (len8 NQ.out) (fits_of FP.out) (fits_of FQ.out)).mono ?_
    rintro e w16 ⟨rfl, hb⟩
    have B16 : Hid (Below w0.heap.size w0 w16) := grow_on B15.out hb
    have L_16 : Hid (Reads w16 (some ⟨g1, 0, none⟩) l) := L_15.out.below hb
    have M_16 : Hid (Reads w16 (some ⟨M3, 0, none⟩) m) := M_15.out.below hb
    have X_16 : Hid (Reads w16 (some ⟨M5, 0, none⟩) x) := X_15.out.below hb
    have F_16 : Hid (Reads w16 (some ⟨g7, 0, none⟩) f) := F_15.out.below hb
    have P_16 : Hid (Reads w16 (some ⟨g8, 0, none⟩) p) := P_15.out.below hb
    have Q_16 : Hid (Reads w16 (some ⟨g8', 0, none⟩) q) := Q_15.out.below hb
    have ea : (alikeB p q != alikeB p q) = false := by simp
    clear hb
    go_wp2_with fail
    refine (calls_same (implSum_any u _ (size100 ZU.out))).mono ?_
    rintro e w17 ⟨rfl, hb⟩
    have B17 : Hid (Below w0.heap.size w0 w17) := grow_on B16.out hb
    have L_17 : Hid (Reads w17 (some ⟨g1, 0, none⟩) l) := L_16.out.below hb
    have M_17 : Hid (Reads w17 (some ⟨M3, 0, none⟩) m) := M_16.out.below hb
    have X_17 : Hid (Reads w17 (some ⟨M5, 0, none⟩) x) := X_16.out.below hb
    have F_17 : Hid (Reads w17 (some ⟨g7, 0, none⟩) f) := F_16.out.below hb
    have P_17 : Hid (Reads w17 (some ⟨g8, 0, none⟩) p) := P_16.out.below hb
    have Q_17 : Hid (Reads w17 (some ⟨g8', 0, none⟩) q) := Q_16.out.below hb
    clear hb
    go_wp2_with fail
    refine (calls_same (specSum_any u _ (size100 ZU.out))).mono ?_
    rintro e w18 ⟨rfl, hb⟩
    have B18 : Hid (Below w0.heap.size w0 w18) := grow_on B17.out hb
    have L_18 : Hid (Reads w18 (some ⟨g1, 0, none⟩) l) := L_17.out.below hb
    have M_18 : Hid (Reads w18 (some ⟨M3, 0, none⟩) m) := M_17.out.below hb
    have X_18 : Hid (Reads w18 (some ⟨M5, 0, none⟩) x) := X_17.out.below hb
    have F_18 : Hid (Reads w18 (some ⟨g7, 0, none⟩) f) := F_17.out.below hb
    have P_18 : Hid (Reads w18 (some ⟨g8, 0, none⟩) p) := P_17.out.below hb
    have Q_18 : Hid (Reads w18 (some ⟨g8', 0, none⟩) q) := Q_17.out.below hb
    clear hb
    go_wp2_with fail
    refine (calls_same (implPart_any k n _ ZK.out.1.1 ZK.out.1.2 ZK.out.2.1 ZK.out.2.2)).mono ?_
    rintro e w19 ⟨rfl, hb⟩
    have B19 : Hid (Below w0.heap.size w0 w19) := grow_on B18.out hb
    have L_19 : Hid (Reads w19 (some ⟨g1, 0, none⟩) l) := L_18.out.below hb
    have M_19 : Hid (Reads w19 (some ⟨M3, 0, none⟩) m) := M_18.out.below hb
    have X_19 : Hid (Reads w19 (some ⟨M5, 0, none⟩) x) := X_18.out.below hb
    have F_19 : Hid (Reads w19 (some ⟨g7, 0, none⟩) f) := F_18.out.below hb
    have P_19 : Hid (Reads w19 (some ⟨g8, 0, none⟩) p) := P_18.out.below hb
    have Q_19 : Hid (Reads w19 (some ⟨g8', 0, none⟩) q) := Q_18.out.below hb
    clear hb
    go_wp2_with fail
    refine (calls_same (specPart_any k n _ ZK.out.1.1 ZK.out.1.2 ZK.out.2.1 ZK.out.2.2)).mono ?_
    rintro e w20 ⟨rfl, hb⟩
    have B20 : Hid (Below w0.heap.size w0 w20) := grow_on B19.out hb
    have L_20 : Hid (Reads w20 (some ⟨g1, 0, none⟩) l) := L_19.out.below hb
    have M_20 : Hid (Reads w20 (some ⟨M3, 0, none⟩) m) := M_19.out.below hb
    have X_20 : Hid (Reads w20 (some ⟨M5, 0, none⟩) x) := X_19.out.below hb
    have F_20 : Hid (Reads w20 (some ⟨g7, 0, none⟩) f) := F_19.out.below hb
    have P_20 : Hid (Reads w20 (some ⟨g8, 0, none⟩) p) := P_19.out.below hb
    have Q_20 : Hid (Reads w20 (some ⟨g8', 0, none⟩) q) := Q_19.out.below hb
    clear hb
    cases ok with
    | true =>
      have HO : Hid (setB l = true) := HP1.out.1.symm
      have HMl : Hid (m = l) := HP1.out.2 rfl
      go_wp2_with fail
      refine ((implSet_any _ _ l _ L_20.out (len8 NL.out) (fits_of FL.out)).mono fun e w' h => (⟨h.1.trans (retB HO.out), h.2⟩ : e = .returned (.bool true) ∧ _)).mono ?_
      rintro e w21 ⟨rfl, hb⟩
      have B21 : Hid (Below w0.heap.size w0 w21) := grow_on B20.out hb
      have L_21 : Hid (Reads w21 (some ⟨g1, 0, none⟩) l) := L_20.out.below hb
      have M_21 : Hid (Reads w21 (some ⟨M3, 0, none⟩) m) := M_20.out.below hb
      have X_21 : Hid (Reads w21 (some ⟨M5, 0, none⟩) x) := X_20.out.below hb
      have F_21 : Hid (Reads w21 (some ⟨g7, 0, none⟩) f) := F_20.out.below hb
      have P_21 : Hid (Reads w21 (some ⟨g8, 0, none⟩) p) := P_20.out.below hb
      have Q_21 : Hid (Reads w21 (some ⟨g8', 0, none⟩) q) := Q_20.out.below hb
      clear hb
      go_wp2_with fail
      refine ((calls_drew (implSame_any _ _ _ _ m l _ M_21.out L_21.out (len8 NM.out) (len8 NL.out))).mono fun e w' h => (⟨h.1.trans (retB (decide_eq_true HMl.out)), h.2⟩ : e = .returned (.bool true) ∧ _)).mono ?_
      rintro e w22 ⟨rfl, hb⟩
      have B22 : Hid (Below w0.heap.size w0 w22) := grow_on B21.out hb
      have L_22 : Hid (Reads w22 (some ⟨g1, 0, none⟩) l) := L_21.out.below hb
      have M_22 : Hid (Reads w22 (some ⟨M3, 0, none⟩) m) := M_21.out.below hb
      have X_22 : Hid (Reads w22 (some ⟨M5, 0, none⟩) x) := X_21.out.below hb
      have F_22 : Hid (Reads w22 (some ⟨g7, 0, none⟩) f) := F_21.out.below hb
      have P_22 : Hid (Reads w22 (some ⟨g8, 0, none⟩) p) := P_21.out.below hb
      have Q_22 : Hid (Reads w22 (some ⟨g8', 0, none⟩) q) := Q_21.out.below hb
      clear hb
      go_wp2_with fail
      refine (implFinger_any _ _ f _ F_22.out (len8 NF.out) (fits_of FF.out)).mono ?_
      rintro e w23 ⟨rfl, hb⟩
      have B23 : Hid (Below w0.heap.size w0 w23) := grow_on B22.out hb
      have L_23 : Hid (Reads w23 (some ⟨g1, 0, none⟩) l) := L_22.out.below hb
      have M_23 : Hid (Reads w23 (some ⟨M3, 0, none⟩) m) := M_22.out.below hb
      have X_23 : Hid (Reads w23 (some ⟨M5, 0, none⟩) x) := X_22.out.below hb
      have F_23 : Hid (Reads w23 (some ⟨g7, 0, none⟩) f) := F_22.out.below hb
      have P_23 : Hid (Reads w23 (some ⟨g8, 0, none⟩) p) := P_22.out.below hb
      have Q_23 : Hid (Reads w23 (some ⟨g8', 0, none⟩) q) := Q_22.out.below hb
      clear hb
      go_wp2_with fail
      refine (implFinger_any _ _ f _ F_23.out (len8 NF.out) (fits_of FF.out)).mono ?_
      rintro e w24 ⟨rfl, hb⟩
      have B24 : Hid (Below w0.heap.size w0 w24) := grow_on B23.out hb
      have L_24 : Hid (Reads w24 (some ⟨g1, 0, none⟩) l) := L_23.out.below hb
      have M_24 : Hid (Reads w24 (some ⟨M3, 0, none⟩) m) := M_23.out.below hb
      have X_24 : Hid (Reads w24 (some ⟨M5, 0, none⟩) x) := X_23.out.below hb
      have F_24 : Hid (Reads w24 (some ⟨g7, 0, none⟩) f) := F_23.out.below hb
      have P_24 : Hid (Reads w24 (some ⟨g8, 0, none⟩) p) := P_23.out.below hb
      have Q_24 : Hid (Reads w24 (some ⟨g8', 0, none⟩) q) := Q_23.out.below hb
      clear hb
      go_wp2_with fail
      refine ((implAlike_any _ _ _ _ p p _ P_24.out P_24.out (len8 NP.out) (len8 NP.out) (fits_of FP.out) (fits_of FP.out)).mono fun e w' h => (⟨h.1.trans (retB (alike_self p)), h.2⟩ : e = .returned (.bool false) ∧ _)).mono ?_
      rintro e w25 ⟨rfl, hb⟩
      have B25 : Hid (Below w0.heap.size w0 w25) := grow_on B24.out hb
      have L_25 : Hid (Reads w25 (some ⟨g1, 0, none⟩) l) := L_24.out.below hb
      have M_25 : Hid (Reads w25 (some ⟨M3, 0, none⟩) m) := M_24.out.below hb
      have X_25 : Hid (Reads w25 (some ⟨M5, 0, none⟩) x) := X_24.out.below hb
      have F_25 : Hid (Reads w25 (some ⟨g7, 0, none⟩) f) := F_24.out.below hb
      have P_25 : Hid (Reads w25 (some ⟨g8, 0, none⟩) p) := P_24.out.below hb
      have Q_25 : Hid (Reads w25 (some ⟨g8', 0, none⟩) q) := Q_24.out.below hb
      clear hb
      go_wp2_with fail
      refine (implAlike_any _ _ _ _ p q _ P_25.out Q_25.out (len8 NP.out) (len8 NQ.out) (fits_of FP.out) (fits_of FQ.out)).mono ?_
      rintro e w26 ⟨rfl, hb⟩
      have B26 : Hid (Below w0.heap.size w0 w26) := grow_on B25.out hb
      have L_26 : Hid (Reads w26 (some ⟨g1, 0, none⟩) l) := L_25.out.below hb
      have M_26 : Hid (Reads w26 (some ⟨M3, 0, none⟩) m) := M_25.out.below hb
      have X_26 : Hid (Reads w26 (some ⟨M5, 0, none⟩) x) := X_25.out.below hb
      have F_26 : Hid (Reads w26 (some ⟨g7, 0, none⟩) f) := F_25.out.below hb
      have P_26 : Hid (Reads w26 (some ⟨g8, 0, none⟩) p) := P_25.out.below hb
      have Q_26 : Hid (Reads w26 (some ⟨g8', 0, none⟩) q) := Q_25.out.below hb
      clear hb
      go_wp2_with fail
      refine ((implAlike_any _ _ _ _ q p _ Q_26.out P_26.out (len8 NQ.out) (len8 NP.out) (fits_of FQ.out) (fits_of FP.out)).mono fun e w' h => (⟨h.1.trans (retB (alike_comm q p)), h.2⟩ : e = .returned (.bool (alikeB p q)) ∧ _)).mono ?_
      rintro e w27 ⟨rfl, hb⟩
      have B27 : Hid (Below w0.heap.size w0 w27) := grow_on B26.out hb
      have L_27 : Hid (Reads w27 (some ⟨g1, 0, none⟩) l) := L_26.out.below hb
      have M_27 : Hid (Reads w27 (some ⟨M3, 0, none⟩) m) := M_26.out.below hb
      have X_27 : Hid (Reads w27 (some ⟨M5, 0, none⟩) x) := X_26.out.below hb
      have F_27 : Hid (Reads w27 (some ⟨g7, 0, none⟩) f) := F_26.out.below hb
      have P_27 : Hid (Reads w27 (some ⟨g8, 0, none⟩) p) := P_26.out.below hb
      have Q_27 : Hid (Reads w27 (some ⟨g8', 0, none⟩) q) := Q_26.out.below hb
      clear hb
      by_cases hn1 : n < 1
      · have hpl : (0 : Int) ≤ partB k n := HPL.out
        go_wp2_with fail
        refine (calls_same (implPart_any k n _ ZK.out.1.1 ZK.out.1.2 ZK.out.2.1 ZK.out.2.2)).mono ?_
        rintro e w28 ⟨rfl, hb⟩
        have B28 : Hid (Below w0.heap.size w0 w28) := grow_on B27.out hb
        have L_28 : Hid (Reads w28 (some ⟨g1, 0, none⟩) l) := L_27.out.below hb
        have M_28 : Hid (Reads w28 (some ⟨M3, 0, none⟩) m) := M_27.out.below hb
        have X_28 : Hid (Reads w28 (some ⟨M5, 0, none⟩) x) := X_27.out.below hb
        have F_28 : Hid (Reads w28 (some ⟨g7, 0, none⟩) f) := F_27.out.below hb
        have P_28 : Hid (Reads w28 (some ⟨g8, 0, none⟩) p) := P_27.out.below hb
        have Q_28 : Hid (Reads w28 (some ⟨g8', 0, none⟩) q) := Q_27.out.below hb
        clear hb
        go_wp2
        go_ret
        exact ⟨rfl, B28.out⟩
      · have hpl : (0 : Int) ≤ partB k n := HPL.out
        have hph : partB k n < n := HPH.out (by omega)
        go_wp2_with fail
        refine (calls_same (implPart_any k n _ ZK.out.1.1 ZK.out.1.2 ZK.out.2.1 ZK.out.2.2)).mono ?_
        rintro e w28 ⟨rfl, hb⟩
        have B28 : Hid (Below w0.heap.size w0 w28) := grow_on B27.out hb
        have L_28 : Hid (Reads w28 (some ⟨g1, 0, none⟩) l) := L_27.out.below hb
        have M_28 : Hid (Reads w28 (some ⟨M3, 0, none⟩) m) := M_27.out.below hb
        have X_28 : Hid (Reads w28 (some ⟨M5, 0, none⟩) x) := X_27.out.below hb
        have F_28 : Hid (Reads w28 (some ⟨g7, 0, none⟩) f) := F_27.out.below hb
        have P_28 : Hid (Reads w28 (some ⟨g8, 0, none⟩) p) := P_27.out.below hb
        have Q_28 : Hid (Reads w28 (some ⟨g8', 0, none⟩) q) := Q_27.out.below hb
        clear hb
        go_wp2_with fail
        refine (calls_same (implPart_any k n _ ZK.out.1.1 ZK.out.1.2 ZK.out.2.1 ZK.out.2.2)).mono ?_
        rintro e w29 ⟨rfl, hb⟩
        have B29 : Hid (Below w0.heap.size w0 w29) := grow_on B28.out hb
        have L_29 : Hid (Reads w29 (some ⟨g1, 0, none⟩) l) := L_28.out.below hb
        have M_29 : Hid (Reads w29 (some ⟨M3, 0, none⟩) m) := M_28.out.below hb
        have X_29 : Hid (Reads w29 (some ⟨M5, 0, none⟩) x) := X_28.out.below hb
        have F_29 : Hid (Reads w29 (some ⟨g7, 0, none⟩) f) := F_28.out.below hb
        have P_29 : Hid (Reads w29 (some ⟨g8, 0, none⟩) p) := P_28.out.below hb
        have Q_29 : Hid (Reads w29 (some ⟨g8', 0, none⟩) q) := Q_28.out.below hb
        clear hb
        go_wp2
        go_ret
        exact ⟨rfl, B29.out⟩
    | false =>
      have HO : Hid (setB l = false) := HP1.out.1.symm
      go_wp2_with fail
      refine ((implSet_any _ _ l _ L_20.out (len8 NL.out) (fits_of FL.out)).mono fun e w' h => (⟨h.1.trans (retB HO.out), h.2⟩ : e = .returned (.bool false) ∧ _)).mono ?_
      rintro e w21 ⟨rfl, hb⟩
      have B21 : Hid (Below w0.heap.size w0 w21) := grow_on B20.out hb
      have L_21 : Hid (Reads w21 (some ⟨g1, 0, none⟩) l) := L_20.out.below hb
      have M_21 : Hid (Reads w21 (some ⟨M3, 0, none⟩) m) := M_20.out.below hb
      have X_21 : Hid (Reads w21 (some ⟨M5, 0, none⟩) x) := X_20.out.below hb
      have F_21 : Hid (Reads w21 (some ⟨g7, 0, none⟩) f) := F_20.out.below hb
      have P_21 : Hid (Reads w21 (some ⟨g8, 0, none⟩) p) := P_20.out.below hb
      have Q_21 : Hid (Reads w21 (some ⟨g8', 0, none⟩) q) := Q_20.out.below hb
      clear hb
      go_wp2_with fail
      refine (implFinger_any _ _ f _ F_21.out (len8 NF.out) (fits_of FF.out)).mono ?_
      rintro e w22 ⟨rfl, hb⟩
      have B22 : Hid (Below w0.heap.size w0 w22) := grow_on B21.out hb
      have L_22 : Hid (Reads w22 (some ⟨g1, 0, none⟩) l) := L_21.out.below hb
      have M_22 : Hid (Reads w22 (some ⟨M3, 0, none⟩) m) := M_21.out.below hb
      have X_22 : Hid (Reads w22 (some ⟨M5, 0, none⟩) x) := X_21.out.below hb
      have F_22 : Hid (Reads w22 (some ⟨g7, 0, none⟩) f) := F_21.out.below hb
      have P_22 : Hid (Reads w22 (some ⟨g8, 0, none⟩) p) := P_21.out.below hb
      have Q_22 : Hid (Reads w22 (some ⟨g8', 0, none⟩) q) := Q_21.out.below hb
      clear hb
      go_wp2_with fail
      refine (implFinger_any _ _ f _ F_22.out (len8 NF.out) (fits_of FF.out)).mono ?_
      rintro e w23 ⟨rfl, hb⟩
      have B23 : Hid (Below w0.heap.size w0 w23) := grow_on B22.out hb
      have L_23 : Hid (Reads w23 (some ⟨g1, 0, none⟩) l) := L_22.out.below hb
      have M_23 : Hid (Reads w23 (some ⟨M3, 0, none⟩) m) := M_22.out.below hb
      have X_23 : Hid (Reads w23 (some ⟨M5, 0, none⟩) x) := X_22.out.below hb
      have F_23 : Hid (Reads w23 (some ⟨g7, 0, none⟩) f) := F_22.out.below hb
      have P_23 : Hid (Reads w23 (some ⟨g8, 0, none⟩) p) := P_22.out.below hb
      have Q_23 : Hid (Reads w23 (some ⟨g8', 0, none⟩) q) := Q_22.out.below hb
      clear hb
      go_wp2_with fail
      refine ((implAlike_any _ _ _ _ p p _ P_23.out P_23.out (len8 NP.out) (len8 NP.out) (fits_of FP.out) (fits_of FP.out)).mono fun e w' h => (⟨h.1.trans (retB (alike_self p)), h.2⟩ : e = .returned (.bool false) ∧ _)).mono ?_
      rintro e w24 ⟨rfl, hb⟩
      have B24 : Hid (Below w0.heap.size w0 w24) := grow_on B23.out hb
      have L_24 : Hid (Reads w24 (some ⟨g1, 0, none⟩) l) := L_23.out.below hb
      have M_24 : Hid (Reads w24 (some ⟨M3, 0, none⟩) m) := M_23.out.below hb
      have X_24 : Hid (Reads w24 (some ⟨M5, 0, none⟩) x) := X_23.out.below hb
      have F_24 : Hid (Reads w24 (some ⟨g7, 0, none⟩) f) := F_23.out.below hb
      have P_24 : Hid (Reads w24 (some ⟨g8, 0, none⟩) p) := P_23.out.below hb
      have Q_24 : Hid (Reads w24 (some ⟨g8', 0, none⟩) q) := Q_23.out.below hb
      clear hb
      go_wp2_with fail
      refine (implAlike_any _ _ _ _ p q _ P_24.out Q_24.out (len8 NP.out) (len8 NQ.out) (fits_of FP.out) (fits_of FQ.out)).mono ?_
      rintro e w25 ⟨rfl, hb⟩
      have B25 : Hid (Below w0.heap.size w0 w25) := grow_on B24.out hb
      have L_25 : Hid (Reads w25 (some ⟨g1, 0, none⟩) l) := L_24.out.below hb
      have M_25 : Hid (Reads w25 (some ⟨M3, 0, none⟩) m) := M_24.out.below hb
      have X_25 : Hid (Reads w25 (some ⟨M5, 0, none⟩) x) := X_24.out.below hb
      have F_25 : Hid (Reads w25 (some ⟨g7, 0, none⟩) f) := F_24.out.below hb
      have P_25 : Hid (Reads w25 (some ⟨g8, 0, none⟩) p) := P_24.out.below hb
      have Q_25 : Hid (Reads w25 (some ⟨g8', 0, none⟩) q) := Q_24.out.below hb
      clear hb
      go_wp2_with fail
      refine ((implAlike_any _ _ _ _ q p _ Q_25.out P_25.out (len8 NQ.out) (len8 NP.out) (fits_of FQ.out) (fits_of FP.out)).mono fun e w' h => (⟨h.1.trans (retB (alike_comm q p)), h.2⟩ : e = .returned (.bool (alikeB p q)) ∧ _)).mono ?_
      rintro e w26 ⟨rfl, hb⟩
      have B26 : Hid (Below w0.heap.size w0 w26) := grow_on B25.out hb
      have L_26 : Hid (Reads w26 (some ⟨g1, 0, none⟩) l) := L_25.out.below hb
      have M_26 : Hid (Reads w26 (some ⟨M3, 0, none⟩) m) := M_25.out.below hb
      have X_26 : Hid (Reads w26 (some ⟨M5, 0, none⟩) x) := X_25.out.below hb
      have F_26 : Hid (Reads w26 (some ⟨g7, 0, none⟩) f) := F_25.out.below hb
      have P_26 : Hid (Reads w26 (some ⟨g8, 0, none⟩) p) := P_25.out.below hb
      have Q_26 : Hid (Reads w26 (some ⟨g8', 0, none⟩) q) := Q_25.out.below hb
      clear hb
      by_cases hn1 : n < 1
      · have hpl : (0 : Int) ≤ partB k n := HPL.out
        go_wp2_with fail
        refine (calls_same (implPart_any k n _ ZK.out.1.1 ZK.out.1.2 ZK.out.2.1 ZK.out.2.2)).mono ?_
        rintro e w27 ⟨rfl, hb⟩
        have B27 : Hid (Below w0.heap.size w0 w27) := grow_on B26.out hb
        have L_27 : Hid (Reads w27 (some ⟨g1, 0, none⟩) l) := L_26.out.below hb
        have M_27 : Hid (Reads w27 (some ⟨M3, 0, none⟩) m) := M_26.out.below hb
        have X_27 : Hid (Reads w27 (some ⟨M5, 0, none⟩) x) := X_26.out.below hb
        have F_27 : Hid (Reads w27 (some ⟨g7, 0, none⟩) f) := F_26.out.below hb
        have P_27 : Hid (Reads w27 (some ⟨g8, 0, none⟩) p) := P_26.out.below hb
        have Q_27 : Hid (Reads w27 (some ⟨g8', 0, none⟩) q) := Q_26.out.below hb
        clear hb
        go_wp2
        go_ret
        exact ⟨rfl, B27.out⟩
      · have hpl : (0 : Int) ≤ partB k n := HPL.out
        have hph : partB k n < n := HPH.out (by omega)
        go_wp2_with fail
        refine (calls_same (implPart_any k n _ ZK.out.1.1 ZK.out.1.2 ZK.out.2.1 ZK.out.2.2)).mono ?_
        rintro e w27 ⟨rfl, hb⟩
        have B27 : Hid (Below w0.heap.size w0 w27) := grow_on B26.out hb
        have L_27 : Hid (Reads w27 (some ⟨g1, 0, none⟩) l) := L_26.out.below hb
        have M_27 : Hid (Reads w27 (some ⟨M3, 0, none⟩) m) := M_26.out.below hb
        have X_27 : Hid (Reads w27 (some ⟨M5, 0, none⟩) x) := X_26.out.below hb
        have F_27 : Hid (Reads w27 (some ⟨g7, 0, none⟩) f) := F_26.out.below hb
        have P_27 : Hid (Reads w27 (some ⟨g8, 0, none⟩) p) := P_26.out.below hb
        have Q_27 : Hid (Reads w27 (some ⟨g8', 0, none⟩) q) := Q_26.out.below hb
        clear hb
        go_wp2_with fail
        refine (calls_same (implPart_any k n _ ZK.out.1.1 ZK.out.1.2 ZK.out.2.1 ZK.out.2.2)).mono ?_
        rintro e w28 ⟨rfl, hb⟩
        have B28 : Hid (Below w0.heap.size w0 w28) := grow_on B27.out hb
        have L_28 : Hid (Reads w28 (some ⟨g1, 0, none⟩) l) := L_27.out.below hb
        have M_28 : Hid (Reads w28 (some ⟨M3, 0, none⟩) m) := M_27.out.below hb
        have X_28 : Hid (Reads w28 (some ⟨M5, 0, none⟩) x) := X_27.out.below hb
        have F_28 : Hid (Reads w28 (some ⟨g7, 0, none⟩) f) := F_27.out.below hb
        have P_28 : Hid (Reads w28 (some ⟨g8, 0, none⟩) p) := P_27.out.below hb
        have Q_28 : Hid (Reads w28 (some ⟨g8', 0, none⟩) q) := Q_27.out.below hb
        clear hb
        go_wp2
        go_ret
        exact ⟨rfl, B28.out⟩
  | false =>
    go_wp2_with fail
    refine (implFinger_any _ _ f _ F_11.out (len8 NF.out) (fits_of FF.out)).mono ?_
    rintro e w12 ⟨rfl, hb⟩
    have B12 : Hid (Below w0.heap.size w0 w12) := grow_on B11.out hb
    have L_12 : Hid (Reads w12 (some ⟨g1, 0, none⟩) l) := L_11.out.below hb
    have M_12 : Hid (Reads w12 (some ⟨M3, 0, none⟩) m) := M_11.out.below hb
    have X_12 : Hid (Reads w12 (some ⟨M5, 0, none⟩) x) := X_11.out.below hb
    have F_12 : Hid (Reads w12 (some ⟨g7, 0, none⟩) f) := F_11.out.below hb
    have P_12 : Hid (Reads w12 (some ⟨g8, 0, none⟩) p) := P_11.out.below hb
    have Q_12 : Hid (Reads w12 (some ⟨g8', 0, none⟩) q) := Q_11.out.below hb
    clear hb
    go_wp2_with fail
    refine (specFinger_any _ _ f _ F_12.out (len8 NF.out) (fits_of FF.out)).mono ?_
    rintro e w13 ⟨rfl, hb⟩
    have B13 : Hid (Below w0.heap.size w0 w13) := grow_on B12.out hb
    have L_13 : Hid (Reads w13 (some ⟨g1, 0, none⟩) l) := L_12.out.below hb
    have M_13 : Hid (Reads w13 (some ⟨M3, 0, none⟩) m) := M_12.out.below hb
    have X_13 : Hid (Reads w13 (some ⟨M5, 0, none⟩) x) := X_12.out.below hb
    have F_13 : Hid (Reads w13 (some ⟨g7, 0, none⟩) f) := F_12.out.below hb
    have P_13 : Hid (Reads w13 (some ⟨g8, 0, none⟩) p) := P_12.out.below hb
    have Q_13 : Hid (Reads w13 (some ⟨g8', 0, none⟩) q) := Q_12.out.below hb
    clear hb
    go_wp2_with fail
    refine (implAlike_any _ _ _ _ p q _ P_13.out Q_13.out (len8 NP.out) (len8 NQ.out) (fits_of FP.out) (fits_of FQ.out)).mono ?_
    rintro e w14 ⟨rfl, hb⟩
    have B14 : Hid (Below w0.heap.size w0 w14) := grow_on B13.out hb
    have L_14 : Hid (Reads w14 (some ⟨g1, 0, none⟩) l) := L_13.out.below hb
    have M_14 : Hid (Reads w14 (some ⟨M3, 0, none⟩) m) := M_13.out.below hb
    have X_14 : Hid (Reads w14 (some ⟨M5, 0, none⟩) x) := X_13.out.below hb
    have F_14 : Hid (Reads w14 (some ⟨g7, 0, none⟩) f) := F_13.out.below hb
    have P_14 : Hid (Reads w14 (some ⟨g8, 0, none⟩) p) := P_13.out.below hb
    have Q_14 : Hid (Reads w14 (some ⟨g8', 0, none⟩) q) := Q_13.out.below hb
    clear hb
    go_wp2_with fail
    refine (specAlike_any _ _ _ _ p q _ P_14.out Q_14.out (len8 NP.out) (len8 NQ.out) (fits_of FP.out) (fits_of FQ.out)).mono ?_
    rintro e w15 ⟨rfl, hb⟩
    have B15 : Hid (Below w0.heap.size w0 w15) := grow_on B14.out hb
    have L_15 : Hid (Reads w15 (some ⟨g1, 0, none⟩) l) := L_14.out.below hb
    have M_15 : Hid (Reads w15 (some ⟨M3, 0, none⟩) m) := M_14.out.below hb
    have X_15 : Hid (Reads w15 (some ⟨M5, 0, none⟩) x) := X_14.out.below hb
    have F_15 : Hid (Reads w15 (some ⟨g7, 0, none⟩) f) := F_14.out.below hb
    have P_15 : Hid (Reads w15 (some ⟨g8, 0, none⟩) p) := P_14.out.below hb
    have Q_15 : Hid (Reads w15 (some ⟨g8', 0, none⟩) q) := Q_14.out.below hb
    have ea : (alikeB p q != alikeB p q) = false := by simp
    clear hb
    go_wp2_with fail
    refine (calls_same (implSum_any u _ (size100 ZU.out))).mono ?_
    rintro e w16 ⟨rfl, hb⟩
    have B16 : Hid (Below w0.heap.size w0 w16) := grow_on B15.out hb
    have L_16 : Hid (Reads w16 (some ⟨g1, 0, none⟩) l) := L_15.out.below hb
    have M_16 : Hid (Reads w16 (some ⟨M3, 0, none⟩) m) := M_15.out.below hb
    have X_16 : Hid (Reads w16 (some ⟨M5, 0, none⟩) x) := X_15.out.below hb
    have F_16 : Hid (Reads w16 (some ⟨g7, 0, none⟩) f) := F_15.out.below hb
    have P_16 : Hid (Reads w16 (some ⟨g8, 0, none⟩) p) := P_15.out.below hb
    have Q_16 : Hid (Reads w16 (some ⟨g8', 0, none⟩) q) := Q_15.out.below hb
    clear hb
    go_wp2_with fail
    refine (calls_same (specSum_any u _ (size100 ZU.out))).mono ?_
    rintro e w17 ⟨rfl, hb⟩
    have B17 : Hid (Below w0.heap.size w0 w17) := grow_on B16.out hb
    have L_17 : Hid (Reads w17 (some ⟨g1, 0, none⟩) l) := L_16.out.below hb
    have M_17 : Hid (Reads w17 (some ⟨M3, 0, none⟩) m) := M_16.out.below hb
    have X_17 : Hid (Reads w17 (some ⟨M5, 0, none⟩) x) := X_16.out.below hb
    have F_17 : Hid (Reads w17 (some ⟨g7, 0, none⟩) f) := F_16.out.below hb
    have P_17 : Hid (Reads w17 (some ⟨g8, 0, none⟩) p) := P_16.out.below hb
    have Q_17 : Hid (Reads w17 (some ⟨g8', 0, none⟩) q) := Q_16.out.below hb
    clear hb
    go_wp2_with fail
    refine (calls_same (implPart_any k n _ ZK.out.1.1 ZK.out.1.2 ZK.out.2.1 ZK.out.2.2)).mono ?_
    rintro e w18 ⟨rfl, hb⟩
    have B18 : Hid (Below w0.heap.size w0 w18) := grow_on B17.out hb
    have L_18 : Hid (Reads w18 (some ⟨g1, 0, none⟩) l) := L_17.out.below hb
    have M_18 : Hid (Reads w18 (some ⟨M3, 0, none⟩) m) := M_17.out.below hb
    have X_18 : Hid (Reads w18 (some ⟨M5, 0, none⟩) x) := X_17.out.below hb
    have F_18 : Hid (Reads w18 (some ⟨g7, 0, none⟩) f) := F_17.out.below hb
    have P_18 : Hid (Reads w18 (some ⟨g8, 0, none⟩) p) := P_17.out.below hb
    have Q_18 : Hid (Reads w18 (some ⟨g8', 0, none⟩) q) := Q_17.out.below hb
    clear hb
    go_wp2_with fail
    refine (calls_same (specPart_any k n _ ZK.out.1.1 ZK.out.1.2 ZK.out.2.1 ZK.out.2.2)).mono ?_
    rintro e w19 ⟨rfl, hb⟩
    have B19 : Hid (Below w0.heap.size w0 w19) := grow_on B18.out hb
    have L_19 : Hid (Reads w19 (some ⟨g1, 0, none⟩) l) := L_18.out.below hb
    have M_19 : Hid (Reads w19 (some ⟨M3, 0, none⟩) m) := M_18.out.below hb
    have X_19 : Hid (Reads w19 (some ⟨M5, 0, none⟩) x) := X_18.out.below hb
    have F_19 : Hid (Reads w19 (some ⟨g7, 0, none⟩) f) := F_18.out.below hb
    have P_19 : Hid (Reads w19 (some ⟨g8, 0, none⟩) p) := P_18.out.below hb
    have Q_19 : Hid (Reads w19 (some ⟨g8', 0, none⟩) q) := Q_18.out.below hb
    clear hb
    cases ok with
    | true =>
      have HO : Hid (setB l = true) := HP1.out.1.symm
      have HMl : Hid (m = l) := HP1.out.2 rfl
      go_wp2_with fail
      refine ((implSet_any _ _ l _ L_19.out (len8 NL.out) (fits_of FL.out)).mono fun e w' h => (⟨h.1.trans (retB HO.out), h.2⟩ : e = .returned (.bool true) ∧ _)).mono ?_
      rintro e w20 ⟨rfl, hb⟩
      have B20 : Hid (Below w0.heap.size w0 w20) := grow_on B19.out hb
      have L_20 : Hid (Reads w20 (some ⟨g1, 0, none⟩) l) := L_19.out.below hb
      have M_20 : Hid (Reads w20 (some ⟨M3, 0, none⟩) m) := M_19.out.below hb
      have X_20 : Hid (Reads w20 (some ⟨M5, 0, none⟩) x) := X_19.out.below hb
      have F_20 : Hid (Reads w20 (some ⟨g7, 0, none⟩) f) := F_19.out.below hb
      have P_20 : Hid (Reads w20 (some ⟨g8, 0, none⟩) p) := P_19.out.below hb
      have Q_20 : Hid (Reads w20 (some ⟨g8', 0, none⟩) q) := Q_19.out.below hb
      clear hb
      go_wp2_with fail
      refine ((calls_drew (implSame_any _ _ _ _ m l _ M_20.out L_20.out (len8 NM.out) (len8 NL.out))).mono fun e w' h => (⟨h.1.trans (retB (decide_eq_true HMl.out)), h.2⟩ : e = .returned (.bool true) ∧ _)).mono ?_
      rintro e w21 ⟨rfl, hb⟩
      have B21 : Hid (Below w0.heap.size w0 w21) := grow_on B20.out hb
      have L_21 : Hid (Reads w21 (some ⟨g1, 0, none⟩) l) := L_20.out.below hb
      have M_21 : Hid (Reads w21 (some ⟨M3, 0, none⟩) m) := M_20.out.below hb
      have X_21 : Hid (Reads w21 (some ⟨M5, 0, none⟩) x) := X_20.out.below hb
      have F_21 : Hid (Reads w21 (some ⟨g7, 0, none⟩) f) := F_20.out.below hb
      have P_21 : Hid (Reads w21 (some ⟨g8, 0, none⟩) p) := P_20.out.below hb
      have Q_21 : Hid (Reads w21 (some ⟨g8', 0, none⟩) q) := Q_20.out.below hb
      clear hb
      go_wp2_with fail
      refine (implFinger_any _ _ f _ F_21.out (len8 NF.out) (fits_of FF.out)).mono ?_
      rintro e w22 ⟨rfl, hb⟩
      have B22 : Hid (Below w0.heap.size w0 w22) := grow_on B21.out hb
      have L_22 : Hid (Reads w22 (some ⟨g1, 0, none⟩) l) := L_21.out.below hb
      have M_22 : Hid (Reads w22 (some ⟨M3, 0, none⟩) m) := M_21.out.below hb
      have X_22 : Hid (Reads w22 (some ⟨M5, 0, none⟩) x) := X_21.out.below hb
      have F_22 : Hid (Reads w22 (some ⟨g7, 0, none⟩) f) := F_21.out.below hb
      have P_22 : Hid (Reads w22 (some ⟨g8, 0, none⟩) p) := P_21.out.below hb
      have Q_22 : Hid (Reads w22 (some ⟨g8', 0, none⟩) q) := Q_21.out.below hb
      clear hb
      go_wp2_with fail
      refine (implFinger_any _ _ f _ F_22.out (len8 NF.out) (fits_of FF.out)).mono ?_
      rintro e w23 ⟨rfl, hb⟩
      have B23 : Hid (Below w0.heap.size w0 w23) := grow_on B22.out hb
      have L_23 : Hid (Reads w23 (some ⟨g1, 0, none⟩) l) := L_22.out.below hb
      have M_23 : Hid (Reads w23 (some ⟨M3, 0, none⟩) m) := M_22.out.below hb
      have X_23 : Hid (Reads w23 (some ⟨M5, 0, none⟩) x) := X_22.out.below hb
      have F_23 : Hid (Reads w23 (some ⟨g7, 0, none⟩) f) := F_22.out.below hb
      have P_23 : Hid (Reads w23 (some ⟨g8, 0, none⟩) p) := P_22.out.below hb
      have Q_23 : Hid (Reads w23 (some ⟨g8', 0, none⟩) q) := Q_22.out.below hb
      clear hb
      go_wp2_with fail
      refine ((implAlike_any _ _ _ _ p p _ P_23.out P_23.out (len8 NP.out) (len8 NP.out) (fits_of FP.out) (fits_of FP.out)).mono fun e w' h => (⟨h.1.trans (retB (alike_self p)), h.2⟩ : e = .returned (.bool false) ∧ _)).mono ?_
      rintro e w24 ⟨rfl, hb⟩
      have B24 : Hid (Below w0.heap.size w0 w24) := grow_on B23.out hb
      have L_24 : Hid (Reads w24 (some ⟨g1, 0, none⟩) l) := L_23.out.below hb
      have M_24 : Hid (Reads w24 (some ⟨M3, 0, none⟩) m) := M_23.out.below hb
      have X_24 : Hid (Reads w24 (some ⟨M5, 0, none⟩) x) := X_23.out.below hb
      have F_24 : Hid (Reads w24 (some ⟨g7, 0, none⟩) f) := F_23.out.below hb
      have P_24 : Hid (Reads w24 (some ⟨g8, 0, none⟩) p) := P_23.out.below hb
      have Q_24 : Hid (Reads w24 (some ⟨g8', 0, none⟩) q) := Q_23.out.below hb
      clear hb
      go_wp2_with fail
      refine (implAlike_any _ _ _ _ p q _ P_24.out Q_24.out (len8 NP.out) (len8 NQ.out) (fits_of FP.out) (fits_of FQ.out)).mono ?_
      rintro e w25 ⟨rfl, hb⟩
      have B25 : Hid (Below w0.heap.size w0 w25) := grow_on B24.out hb
      have L_25 : Hid (Reads w25 (some ⟨g1, 0, none⟩) l) := L_24.out.below hb
      have M_25 : Hid (Reads w25 (some ⟨M3, 0, none⟩) m) := M_24.out.below hb
      have X_25 : Hid (Reads w25 (some ⟨M5, 0, none⟩) x) := X_24.out.below hb
      have F_25 : Hid (Reads w25 (some ⟨g7, 0, none⟩) f) := F_24.out.below hb
      have P_25 : Hid (Reads w25 (some ⟨g8, 0, none⟩) p) := P_24.out.below hb
      have Q_25 : Hid (Reads w25 (some ⟨g8', 0, none⟩) q) := Q_24.out.below hb
      clear hb
      go_wp2_with fail
      refine ((implAlike_any _ _ _ _ q p _ Q_25.out P_25.out (len8 NQ.out) (len8 NP.out) (fits_of FQ.out) (fits_of FP.out)).mono fun e w' h => (⟨h.1.trans (retB (alike_comm q p)), h.2⟩ : e = .returned (.bool (alikeB p q)) ∧ _)).mono ?_
      rintro e w26 ⟨rfl, hb⟩
      have B26 : Hid (Below w0.heap.size w0 w26) := grow_on B25.out hb
      have L_26 : Hid (Reads w26 (some ⟨g1, 0, none⟩) l) := L_25.out.below hb
      have M_26 : Hid (Reads w26 (some ⟨M3, 0, none⟩) m) := M_25.out.below hb
      have X_26 : Hid (Reads w26 (some ⟨M5, 0, none⟩) x) := X_25.out.below hb
      have F_26 : Hid (Reads w26 (some ⟨g7, 0, none⟩) f) := F_25.out.below hb
      have P_26 : Hid (Reads w26 (some ⟨g8, 0, none⟩) p) := P_25.out.below hb
      have Q_26 : Hid (Reads w26 (some ⟨g8', 0, none⟩) q) := Q_25.out.below hb
      clear hb
      by_cases hn1 : n < 1
      · have hpl : (0 : Int) ≤ partB k n := HPL.out
        go_wp2_with fail
        refine (calls_same (implPart_any k n _ ZK.out.1.1 ZK.out.1.2 ZK.out.2.1 ZK.out.2.2)).mono ?_
        rintro e w27 ⟨rfl, hb⟩
        have B27 : Hid (Below w0.heap.size w0 w27) := grow_on B26.out hb
        have L_27 : Hid (Reads w27 (some ⟨g1, 0, none⟩) l) := L_26.out.below hb
        have M_27 : Hid (Reads w27 (some ⟨M3, 0, none⟩) m) := M_26.out.below hb
        have X_27 : Hid (Reads w27 (some ⟨M5, 0, none⟩) x) := X_26.out.below hb
        have F_27 : Hid (Reads w27 (some ⟨g7, 0, none⟩) f) := F_26.out.below hb
        have P_27 : Hid (Reads w27 (some ⟨g8, 0, none⟩) p) := P_26.out.below hb
        have Q_27 : Hid (Reads w27 (some ⟨g8', 0, none⟩) q) := Q_26.out.below hb
        clear hb
        go_wp2
        go_ret
        exact ⟨rfl, B27.out⟩
      · have hpl : (0 : Int) ≤ partB k n := HPL.out
        have hph : partB k n < n := HPH.out (by omega)
        go_wp2_with fail
        refine (calls_same (implPart_any k n _ ZK.out.1.1 ZK.out.1.2 ZK.out.2.1 ZK.out.2.2)).mono ?_
        rintro e w27 ⟨rfl, hb⟩
        have B27 : Hid (Below w0.heap.size w0 w27) := grow_on B26.out hb
        have L_27 : Hid (Reads w27 (some ⟨g1, 0, none⟩) l) := L_26.out.below hb
        have M_27 : Hid (Reads w27 (some ⟨M3, 0, none⟩) m) := M_26.out.below hb
        have X_27 : Hid (Reads w27 (some ⟨M5, 0, none⟩) x) := X_26.out.below hb
        have F_27 : Hid (Reads w27 (some ⟨g7, 0, none⟩) f) := F_26.out.below hb
        have P_27 : Hid (Reads w27 (some ⟨g8, 0, none⟩) p) := P_26.out.below hb
        have Q_27 : Hid (Reads w27 (some ⟨g8', 0, none⟩) q) := Q_26.out.below hb
        clear hb
        go_wp2_with fail
        refine (calls_same (implPart_any k n _ ZK.out.1.1 ZK.out.1.2 ZK.out.2.1 ZK.out.2.2)).mono ?_
        rintro e w28 ⟨rfl, hb⟩
        have B28 : Hid (Below w0.heap.size w0 w28) := grow_on B27.out hb
        have L_28 : Hid (Reads w28 (some ⟨g1, 0, none⟩) l) := L_27.out.below hb
        have M_28 : Hid (Reads w28 (some ⟨M3, 0, none⟩) m) := M_27.out.below hb
        have X_28 : Hid (Reads w28 (some ⟨M5, 0, none⟩) x) := X_27.out.below hb
        have F_28 : Hid (Reads w28 (some ⟨g7, 0, none⟩) f) := F_27.out.below hb
        have P_28 : Hid (Reads w28 (some ⟨g8, 0, none⟩) p) := P_27.out.below hb
        have Q_28 : Hid (Reads w28 (some ⟨g8', 0, none⟩) q) := Q_27.out.below hb
        clear hb
        go_wp2
        go_ret
        exact ⟨rfl, B28.out⟩
    | false =>
      have HO : Hid (setB l = false) := HP1.out.1.symm
      go_wp2_with fail
      refine ((implSet_any _ _ l _ L_19.out (len8 NL.out) (fits_of FL.out)).mono fun e w' h => (⟨h.1.trans (retB HO.out), h.2⟩ : e = .returned (.bool false) ∧ _)).mono ?_
      rintro e w20 ⟨rfl, hb⟩
      have B20 : Hid (Below w0.heap.size w0 w20) := grow_on B19.out hb
      have L_20 : Hid (Reads w20 (some ⟨g1, 0, none⟩) l) := L_19.out.below hb
      have M_20 : Hid (Reads w20 (some ⟨M3, 0, none⟩) m) := M_19.out.below hb
      have X_20 : Hid (Reads w20 (some ⟨M5, 0, none⟩) x) := X_19.out.below hb
      have F_20 : Hid (Reads w20 (some ⟨g7, 0, none⟩) f) := F_19.out.below hb
      have P_20 : Hid (Reads w20 (some ⟨g8, 0, none⟩) p) := P_19.out.below hb
      have Q_20 : Hid (Reads w20 (some ⟨g8', 0, none⟩) q) := Q_19.out.below hb
      clear hb
      go_wp2_with fail
      refine (implFinger_any _ _ f _ F_20.out (len8 NF.out) (fits_of FF.out)).mono ?_
      rintro e w21 ⟨rfl, hb⟩
      have B21 : Hid (Below w0.heap.size w0 w21) := grow_on B20.out hb
      have L_21 : Hid (Reads w21 (some ⟨g1, 0, none⟩) l) := L_20.out.below hb
      have M_21 : Hid (Reads w21 (some ⟨M3, 0, none⟩) m) := M_20.out.below hb
      have X_21 : Hid (Reads w21 (some ⟨M5, 0, none⟩) x) := X_20.out.below hb
      have F_21 : Hid (Reads w21 (some ⟨g7, 0, none⟩) f) := F_20.out.below hb
      have P_21 : Hid (Reads w21 (some ⟨g8, 0, none⟩) p) := P_20.out.below hb
      have Q_21 : Hid (Reads w21 (some ⟨g8', 0, none⟩) q) := Q_20.out.below hb
      clear hb
      go_wp2_with fail
      refine (implFinger_any _ _ f _ F_21.out (len8 NF.out) (fits_of FF.out)).mono ?_
      rintro e w22 ⟨rfl, hb⟩
      have B22 : Hid (Below w0.heap.size w0 w22) := grow_on B21.out hb
      have L_22 : Hid (Reads w22 (some ⟨g1, 0, none⟩) l) := L_21.out.below hb
      have M_22 : Hid (Reads w22 (some ⟨M3, 0, none⟩) m) := M_21.out.below hb
      have X_22 : Hid (Reads w22 (some ⟨M5, 0, none⟩) x) := X_21.out.below hb
      have F_22 : Hid (Reads w22 (some ⟨g7, 0, none⟩) f) := F_21.out.below hb
      have P_22 : Hid (Reads w22 (some ⟨g8, 0, none⟩) p) := P_21.out.below hb
      have Q_22 : Hid (Reads w22 (some ⟨g8', 0, none⟩) q) := Q_21.out.below hb
      clear hb
      go_wp2_with fail
      refine ((implAlike_any _ _ _ _ p p _ P_22.out P_22.out (len8 NP.out) (len8 NP.out) (fits_of FP.out) (fits_of FP.out)).mono fun e w' h => (⟨h.1.trans (retB (alike_self p)), h.2⟩ : e = .returned (.bool false) ∧ _)).mono ?_
      rintro e w23 ⟨rfl, hb⟩
      have B23 : Hid (Below w0.heap.size w0 w23) := grow_on B22.out hb
      have L_23 : Hid (Reads w23 (some ⟨g1, 0, none⟩) l) := L_22.out.below hb
      have M_23 : Hid (Reads w23 (some ⟨M3, 0, none⟩) m) := M_22.out.below hb
      have X_23 : Hid (Reads w23 (some ⟨M5, 0, none⟩) x) := X_22.out.below hb
      have F_23 : Hid (Reads w23 (some ⟨g7, 0, none⟩) f) := F_22.out.below hb
      have P_23 : Hid (Reads w23 (some ⟨g8, 0, none⟩) p) := P_22.out.below hb
      have Q_23 : Hid (Reads w23 (some ⟨g8', 0, none⟩) q) := Q_22.out.below hb
      clear hb
      go_wp2_with fail
      refine (implAlike_any _ _ _ _ p q _ P_23.out Q_23.out (len8 NP.out) (len8 NQ.out) (fits_of FP.out) (fits_of FQ.out)).mono ?_
      rintro e w24 ⟨rfl, hb⟩
      have B24 : Hid (Below w0.heap.size w0 w24) := grow_on B23.out hb
      have L_24 : Hid (Reads w24 (some ⟨g1, 0, none⟩) l) := L_23.out.below hb
      have M_24 : Hid (Reads w24 (some ⟨M3, 0, none⟩) m) := M_23.out.below hb
      have X_24 : Hid (Reads w24 (some ⟨M5, 0, none⟩) x) := X_23.out.below hb
      have F_24 : Hid (Reads w24 (some ⟨g7, 0, none⟩) f) := F_23.out.below hb
      have P_24 : Hid (Reads w24 (some ⟨g8, 0, none⟩) p) := P_23.out.below hb
      have Q_24 : Hid (Reads w24 (some ⟨g8', 0, none⟩) q) := Q_23.out.below hb
      clear hb
      go_wp2_with fail
      refine ((implAlike_any _ _ _ _ q p _ Q_24.out P_24.out (len8 NQ.out) (len8 NP.out) (fits_of FQ.out) (fits_of FP.out)).mono fun e w' h => (⟨h.1.trans (retB (alike_comm q p)), h.2⟩ : e = .returned (.bool (alikeB p q)) ∧ _)).mono ?_
      rintro e w25 ⟨rfl, hb⟩
      have B25 : Hid (Below w0.heap.size w0 w25) := grow_on B24.out hb
      have L_25 : Hid (Reads w25 (some ⟨g1, 0, none⟩) l) := L_24.out.below hb
      have M_25 : Hid (Reads w25 (some ⟨M3, 0, none⟩) m) := M_24.out.below hb
      have X_25 : Hid (Reads w25 (some ⟨M5, 0, none⟩) x) := X_24.out.below hb
      have F_25 : Hid (Reads w25 (some ⟨g7, 0, none⟩) f) := F_24.out.below hb
      have P_25 : Hid (Reads w25 (some ⟨g8, 0, none⟩) p) := P_24.out.below hb
      have Q_25 : Hid (Reads w25 (some ⟨g8', 0, none⟩) q) := Q_24.out.below hb
      clear hb
      by_cases hn1 : n < 1
      · have hpl : (0 : Int) ≤ partB k n := HPL.out
        go_wp2_with fail
        refine (calls_same (implPart_any k n _ ZK.out.1.1 ZK.out.1.2 ZK.out.2.1 ZK.out.2.2)).mono ?_
        rintro e w26 ⟨rfl, hb⟩
        have B26 : Hid (Below w0.heap.size w0 w26) := grow_on B25.out hb
        have L_26 : Hid (Reads w26 (some ⟨g1, 0, none⟩) l) := L_25.out.below hb
        have M_26 : Hid (Reads w26 (some ⟨M3, 0, none⟩) m) := M_25.out.below hb
        have X_26 : Hid (Reads w26 (some ⟨M5, 0, none⟩) x) := X_25.out.below hb
        have F_26 : Hid (Reads w26 (some ⟨g7, 0, none⟩) f) := F_25.out.below hb
        have P_26 : Hid (Reads w26 (some ⟨g8, 0, none⟩) p) := P_25.out.below hb
        have Q_26 : Hid (Reads w26 (some ⟨g8', 0, none⟩) q) := Q_25.out.below hb
        clear hb
        go_wp2
        go_ret
        exact ⟨rfl, B26.out⟩
      · have hpl : (0 : Int) ≤ partB k n := HPL.out
        have hph : partB k n < n := HPH.out (by omega)
        go_wp2_with fail
        refine (calls_same (implPart_any k n _ ZK.out.1.1 ZK.out.1.2 ZK.out.2.1 ZK.out.2.2)).mono ?_
        rintro e w26 ⟨rfl, hb⟩
        have B26 : Hid (Below w0.heap.size w0 w26) := grow_on B25.out hb
        have L_26 : Hid (Reads w26 (some ⟨g1, 0, none⟩) l) := L_25.out.below hb
        have M_26 : Hid (Reads w26 (some ⟨M3, 0, none⟩) m) := M_25.out.below hb
        have X_26 : Hid (Reads w26 (some ⟨M5, 0, none⟩) x) := X_25.out.below hb
        have F_26 : Hid (Reads w26 (some ⟨g7, 0, none⟩) f) := F_25.out.below hb
        have P_26 : Hid (Reads w26 (some ⟨g8, 0, none⟩) p) := P_25.out.below hb
        have Q_26 : Hid (Reads w26 (some ⟨g8', 0, none⟩) q) := Q_25.out.below hb
        clear hb
        go_wp2_with fail
        refine (calls_same (implPart_any k n _ ZK.out.1.1 ZK.out.1.2 ZK.out.2.1 ZK.out.2.2)).mono ?_
        rintro e w27 ⟨rfl, hb⟩
        have B27 : Hid (Below w0.heap.size w0 w27) := grow_on B26.out hb
        have L_27 : Hid (Reads w27 (some ⟨g1, 0, none⟩) l) := L_26.out.below hb
        have M_27 : Hid (Reads w27 (some ⟨M3, 0, none⟩) m) := M_26.out.below hb
        have X_27 : Hid (Reads w27 (some ⟨M5, 0, none⟩) x) := X_26.out.below hb
        have F_27 : Hid (Reads w27 (some ⟨g7, 0, none⟩) f) := F_26.out.below hb
        have P_27 : Hid (Reads w27 (some ⟨g8, 0, none⟩) p) := P_26.out.below hb
        have Q_27 : Hid (Reads w27 (some ⟨g8', 0, none⟩) q) := Q_26.out.below hb
        clear hb
        go_wp2
        go_ret
        exact ⟨rfl, B27.out⟩

theorem walk (a : Option Addr) (len cap : Nat) (zs : List Int) (w : World) (h : IsRow .u8 w a len cap zs) (hm : MaxAt w) :
    Calls Try.prog 3 #[.slice a len cap] w fun e w' => e = .returned (.bool true) ∧ Below w.heap.size w w' := by
  obtain ⟨hl, hb⟩ := bytes_of h
  exact core a len cap w hl hb hm
theorem own : ownKnob Try.prog.godebug = none := by kernel_rfl
theorem laidOut : laidOutB Try.prog = true := by kernel_rfl
set_option maxRecDepth 100000 in
theorem lifted (os : Os) (started : os.Started) (H : Type) (enc : TypeId × Value → H) :
    ReturnsInHanded {} Try.checked os 3 .any (Rows.fnPrintsSpec.pre6 enc Try.prog Try.f3 Rows.fnPrintsRow.domain false) (Rows.fnPrintsSpec.post enc Try.prog Try.f3 false true false false) := by
  refine returnsInHanded_of_change_shaped (C := Try.checked) own started (by kernel_rfl) Try.func3
    (ChangeSpec.witness6 (enc := enc) (C := Try.checked) false ⟨#[], #[.slice none 0 0], []⟩ 8 (by kernel_rfl) (by kernel_rfl) (by kernel_rfl) (by kernel_rfl)) ?_
  intro W base args ds gs before hval0 hW hcnd _ hsh _
  have hval : ∀ (j : Nat) t v, Try.f3.params[j]? = some t → args[j]? = some v → Value.okWide Try.prog W .any base t v := hval0
  have hW' := hW
  obtain ⟨p, q, hA0, hV, rfl, hfz, hnd⟩ := hW
  have hA : DataW.TrodAll enc Try.prog W 0 (fun _ => true) true Try.f3.params.toList args.toList ds p := hA0
  rw [Try.params3] at hA hval
  obtain ⟨v0, vs0, d0, ds0, p0, q0, hargs, rfl, rfl, h0, r0⟩ := trodAll_cons hA
  obtain ⟨rfl, rfl, rfl⟩ := trodAll_nil r0
  obtain rfl : args = #[v0] := by cases args; simp_all
  obtain ⟨rfl, rfl⟩ := trodVars_none hV
  obtain ⟨a0, len0, cap0, rfl⟩ := okWide_slice Try.underlying22 (hval 0 22 v0 rfl rfl)
  have k0 := h0
  have lt0 : ∀ x ∈ p0, x.block < W.heap.size := by obtain ⟨m, hm⟩ := k0; exact DataW.trod_lt m _ _ _ hm
  obtain ⟨z0, w0⟩ : ∃ zs, IsRow .u8 W a0 len0 cap0 zs := by
    obtain ⟨fuel, hf⟩ := h0
    rcases open_ints Try.underlying22 Try.underlying5 (by kernel_rfl) hf with ⟨hcs, _⟩ | ⟨x, l, c, zs, hcs, _, hl, hm, hz, _, hcell, hwz⟩
    · simp [Value.cells] at hcs
      obtain ⟨rfl, rfl, rfl⟩ := hcs
      exact ⟨[], .inl ⟨rfl, rfl, rfl, rfl⟩⟩
    · simp [Value.cells] at hcs
      obtain ⟨rfl, rfl, rfl⟩ := hcs
      exact ⟨zs, .inr ⟨_, rfl, hl, hm, by simpa using hz, hcell, hwz⟩⟩
  clear hA0 hval0
  refine (walk a0 len0 cap0 z0 W w0 (Go.Proofs.Ytlgmhonlgckppaa.Cuts.maxAt hsh)).mono fun e W' ⟨he, bel⟩ => ?_
  subst he
  exact ⟨_, rfl, _, _, _, [], _, [], hW', trodAll_mk1 (shut_bool Try.underlying4 _), (trodAll_cons_mk (Below.trod laidOut (by kernel_rfl) (of_decide_eq_true (by kernel_rfl)) k0 bel lt0) trodAll_mk0), rfl, bel.frame _, fun h => by cases h⟩

theorem over : Rows.fnPrintsRow.holds Try.pinned (OpenSpec.ofChange Rows.fnPrintsSpec) :=
  OpenClaim.holds_of_wide 3 Try.f3 rfl rfl rfl rfl rfl rfl rfl ⟨rfl, rfl, rfl, rfl, rfl⟩ rfl rfl rfl rfl rfl (by kernel_rfl) Try.func3 (by kernel_rfl)
    (of_decide_eq_true (by kernel_rfl)) (by unfold Func.isWrapper; first | (rw [if_pos (by decide +kernel)]; kernel_rfl) | (rw [if_neg (by decide +kernel)]; exact ⟨rfl, rfl⟩))
    (fun os started H enc _ => lifted os started H enc)

end Go.Proofs.Ytlgmhonlgckppaa.FnPrints
namespace Go.Proofs.Ytlgmhonlgckppaa
theorem fnPrints_holds : Rows.FnPrintsSaid := FnPrints.over
#print axioms fnPrints_holds
end Go.Proofs.Ytlgmhonlgckppaa
