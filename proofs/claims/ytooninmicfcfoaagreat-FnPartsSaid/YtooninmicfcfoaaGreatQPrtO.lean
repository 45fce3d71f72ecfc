/-
  PROVED: over a part in memory spec.PartOk and impl.PartOk answer alike, as a plain function on lists of chains says; nothing that was there is changed.
-/
import Derived.Test.YtooninmicfcfoaaGreatQPrt
set_option linter.unusedVariables false
namespace Go.Proofs.YtooninmicfcfoaaGreat.PrtO
open Go.RowKit
open Labs LabS Alms AlmS AlmM Over Blk App Rws ChnI ChnC ChnP ChnO ChnS ChnK Chs Prt
open StrB (retB)
open Sums (partB)
open Alm (at_par)

def okP (C : List PCh) (i n : Int) (k : Nat) : Bool := chainB (nthC C k).f (nthC C k).P && (decide (partB (nthC C k).f n = i) && (decide (k = 0) || decide ((nthC C (k - 1)).f < (nthC C k).f)))
def partOkB (C : List PCh) (hd vr i n : Int) : Bool := (List.range C.length).all (okP C i n) && (Names.inB hd (-1) 4 && decide (vr ≥ 0))
theorem okP_1 {C : List PCh} {i n : Int} {k : Nat} (h : chainB (nthC C k).f (nthC C k).P = false) : okP C i n k = false := by simp [okP, h]
theorem okP_2 {C : List PCh} {i n : Int} {k : Nat} (h : partB (nthC C k).f n ≠ i) : okP C i n k = false := by simp [okP, h]
theorem okP_3 {C : List PCh} {i n : Int} {m : Nat} (h : (nthC C (m + 1)).f ≤ (nthC C m).f) : okP C i n (m + 1) = false := by
  have : ¬ (nthC C m).f < (nthC C (m + 1)).f := by omega
  simp [okP, this]
theorem okP_0 {C : List PCh} {i n : Int} (h1 : chainB (nthC C 0).f (nthC C 0).P = true) (h2 : partB (nthC C 0).f n = i) : okP C i n 0 = true := by simp [okP, h1, h2]
theorem okP_s {C : List PCh} {i n : Int} {m : Nat} (h1 : chainB (nthC C (m + 1)).f (nthC C (m + 1)).P = true) (h2 : partB (nthC C (m + 1)).f n = i) (h3 : ¬ (nthC C (m + 1)).f ≤ (nthC C m).f) : okP C i n (m + 1) = true := by
  have : (nthC C m).f < (nthC C (m + 1)).f := by omega
  simp [okP, h1, h2, this]
theorem part_bad {C : List PCh} {hd vr i n : Int} {k : Nat} (hk : k < C.length) (h : okP C i n k = false) : partOkB C hd vr i n = false := by
  unfold partOkB
  rw [Bool.and_eq_false_iff]
  left
  rw [List.all_eq_false]
  exact ⟨k, by simpa using hk, by simp [h]⟩
theorem part_good {C : List PCh} {hd vr i n : Int} (h : ∀ k, k < C.length → okP C i n k = true) : partOkB C hd vr i n = (Names.inB hd (-1) 4 && decide (vr ≥ 0)) := by
  have : (List.range C.length).all (okP C i n) = true := by rw [List.all_eq_true]; intro k hk; exact h k (by simpa using hk)
  unfold partOkB
  rw [this]; rfl
theorem ok_up {C : List PCh} {i n : Int} {k : Nat} (h : ∀ j, j < k → okP C i n j = true) (hk : okP C i n k = true) : ∀ j, j < k + 1 → okP C i n j = true := fun j hj => by
  by_cases e : j = k
  · subst e; exact hk
  · exact h j (by omega)
def Small (C : List PCh) : Prop := ∀ x ∈ C, x.P.length ≤ 1048576 ∧ LenM x.P
set_option maxRecDepth 100000 in
set_option maxHeartbeats 4000000 in
theorem specPartOk_any (hd vr i n : Int) (a : Option Addr) (cap : Nat) (C : List PCh) (w : World) (hr : RdG RdA w a C) (hl : C.length ≤ 1048576) (hs : FitsC C) (hm : Small C) (hn : I64 n) :
    Calls Tryz.prog 23 #[.agg #[.int .i64 hd, .int .i64 vr, .slice a C.length cap], .int .i64 i, .int .i64 n] w fun e w' => e = .returned (.bool (partOkB C hd vr i n)) ∧ Below w.heap.size w w' := by
  have HR : Hid (RdG RdA w a C) := hr
  have HF : Hid (FitsC C ∧ Small C ∧ I64 n) := ⟨hs, hm, hn⟩
  clear hr hs hm hn
  go_enter Tryz.func23, Tryz.ntmps23
  go_wp2
  go_loopw [7] (fun q w' => ∃ k : Nat, q = .int .i64 k ∧ k ≤ C.length ∧ (∀ j, j < k → okP C i n j = true) ∧ Below (w.alloc (.cells #[.int .i64 hd, .int .i64 vr, .slice a C.length cap] 26)).heap.size (w.alloc (.cells #[.int .i64 hd, .int .i64 vr, .slice a C.length cap] 26)) w') (fun q _ => C.length - (intOf q).toNat)
  case atStart => exact ⟨0, rfl, Nat.zero_le _, fun j h => by omega, Below.refl _ _⟩
  case round =>
    obtain ⟨k, rfl, hk, hu, hw⟩ := hrel
    have HU : Hid (∀ j, j < k → okP C i n j = true) := hu
    have c0 : wr.cell? ⟨w.heap.size, 0, none⟩ = some (.int .i64 hd) := at_par hw 0 rfl
    have c1 : wr.cell? ⟨w.heap.size, 1, none⟩ = some (.int .i64 vr) := at_par hw 1 rfl
    have c2 : wr.cell? ⟨w.heap.size, 2, none⟩ = some (.slice a C.length cap) := at_par hw 2 rfl
    have HB0 : Hid (Below (w.alloc (.cells #[.int .i64 hd, .int .i64 vr, .slice a C.length cap] 26)).heap.size (w.alloc (.cells #[.int .i64 hd, .int .i64 vr, .slice a C.length cap] 26)) wr) := hw
    have HBW : Hid (Below w.heap.size w wr) := grow_on (Go.Joins.below_alloc1 w _) hw
    have hlt0 : w.heap.size < wr.heap.size := by have := hw.size; simp at this; omega
    clear hu hw
    by_cases hlt : k < C.length
    · have hlt' : (k : Int) < (C.length : Int) := by omega
      obtain ⟨b, off, ea, hb, ad, cp, hat⟩ := (HR.out.below stays_rd HBW.out).get hlt
      cases ea
      have hne := Grown.some wr
      have x0 := fun x : Grown wr => x.cell hb hat.c0
      have x1 := fun x : Grown wr => x.cell hb hat.c1
      have y2 := fun x : Grown wr => x.cell hlt0 c2
      have HC : ∀ q : Grown wr, Hid (Calls Tryz.prog 88 #[.agg #[.int .i64 (nthC C k).f, .slice ad (nthC C k).P.length cp]] q.out fun e w' => e = .returned (.bool (chainB (nthC C k).f (nthC C k).P)) ∧ Below q.out.heap.size q.out w') := fun q => specChain_any _ _ _ _ _ (hat.reads.below q.bel) (HF.out.2.1 _ (nthC_mem hlt)).1 (HF.out.1 _ (nthC_mem hlt)).fits
      have HP : ∀ q : Grown wr, Hid (Calls Tryz.prog 89 #[.int .i64 (nthC C k).f, .int .i64 n] q.out fun e w' => e = .returned (.int .i64 (partB (nthC C k).f n)) ∧ Below q.out.heap.size q.out w') := fun q => calls_same (Sums.specPart_any _ _ _ (HF.out.1 _ (nthC_mem hlt)).fb.1 (HF.out.1 _ (nthC_mem hlt)).fb.2 HF.out.2.2.1 HF.out.2.2.2)
      clear hat c0 c1
      have hzs : wr.heap.size ≤ wr.heap.size := Nat.le_refl _
      have hzb : Below wr.heap.size wr wr := Below.refl _ _
      cases hA : chainB (nthC C k).f (nthC C k).P with
      | false =>
        have HE : Hid (partOkB C hd vr i n = false) := part_bad hlt (okP_1 hA)
        rw [hA] at HC
        clear hA
        go_wp2
        refine wp_over (z := wr) (by kernel_rfl) (by kernel_rfl) (Below.refl _ _) ?_
        repeat (go_big_quiet_step (first | (go_at_call 88; exact call_over (HC _).out) | (go_at_call 89; exact call_over (HP _).out)))
        refine wpQuiet_nil ?_
        intro w2 hw2
        have HB2 : Hid (Below _ _ w2) := grow_on HB0.out (over_bel hw2)
        clear hw2 hne
        go_wp2
        go_ret
        exact ⟨retB HE.out.symm, grow_on (Go.Joins.below_alloc1 w _) HB2.out⟩
      | true =>
        rw [hA] at HC
        have HA : Hid (chainB (nthC C k).f (nthC C k).P = true) := hA
        clear hA
        cases k with
        | zero =>
          simp only [Nat.zero_mul, Nat.add_zero] at x0 x1
          by_cases hp : partB (nthC C 0).f n = i
          · have HU1 : Hid (∀ j, j < 0 + 1 → okP C i n j = true) := ok_up HU.out (okP_0 HA.out hp)
            rw [hp] at HP
            clear hp
            go_wp2
            refine wp_over (z := wr) (by kernel_rfl) (by kernel_rfl) (Below.refl _ _) ?_
            repeat (go_big_quiet_step (first | (go_at_call 88; exact call_over (HC _).out) | (go_at_call 89; exact call_over (HP _).out)))
            refine wpQuiet_nil ?_
            intro w2 hw2
            have HB2 : Hid (Below _ _ w2) := grow_on HB0.out (over_bel hw2)
            clear hw2 hne
            go_wp2
            go_roundw
            case rel => exact ⟨1, by go_num, by omega, HU1.out, HB2.out⟩
            case measure => simp [intOf]; omega
          · have HE : Hid (partOkB C hd vr i n = false) := part_bad hlt (okP_2 hp)
            have hpd : (partB (nthC C 0).f n != i) = true := bne_iff_ne.2 hp
            go_wp2
            refine wp_over (z := wr) (by kernel_rfl) (by kernel_rfl) (Below.refl _ _) ?_
            repeat (go_big_quiet_step (first | (go_at_call 88; exact call_over (HC _).out) | (go_at_call 89; exact call_over (HP _).out)))
            refine wpQuiet_nil ?_
            intro w2 hw2
            have HB2 : Hid (Below _ _ w2) := grow_on HB0.out (over_bel hw2)
            clear hw2 hne
            go_wp2
            go_ret
            exact ⟨retB HE.out.symm, grow_on (Go.Joins.below_alloc1 w _) HB2.out⟩
        | succ m =>
          have ek : ((m + 1 : Nat) : Int) = (m : Int) + 1 := by omega
          rw [ek] at hlt'
          have hm : (m : Int) < (C.length : Int) := by omega
          have hm0 : (0 : Int) < (m : Int) + 1 := by omega
          have hwm : IntKind.i64.wrap (m : Int) = (m : Int) := by rw [IntKind.wrap_i64]; omega
          obtain ⟨b1, off1, e1, hb1, ad1, cp1, hat1⟩ := (HR.out.below stays_rd HBW.out).get (i := m) (by omega)
          cases e1
          have u0 := fun x : Grown wr => x.cell (Nat.lt_of_lt_of_le hb1 hzs) ((hzb.cell (p := ⟨b, off + m * 2, none⟩) hb1).trans hat1.c0)
          clear hat1
          by_cases hp : partB (nthC C (m + 1)).f n = i
          · by_cases hq : (nthC C (m + 1)).f ≤ (nthC C m).f
            · have HE : Hid (partOkB C hd vr i n = false) := part_bad hlt (okP_3 hq)
              rw [hp] at HP
              clear hp
              rw [ek]
              go_wp2
              refine wp_over (z := wr) (by kernel_rfl) (by kernel_rfl) (Below.refl _ _) ?_
              repeat (go_big_quiet_step (first | (go_at_call 88; exact call_over (HC _).out) | (go_at_call 89; exact call_over (HP _).out)))
              refine wpQuiet_nil ?_
              intro w2 hw2
              have HB2 : Hid (Below _ _ w2) := grow_on HB0.out (over_bel hw2)
              clear hw2 hne
              go_wp2
              go_ret
              exact ⟨retB HE.out.symm, grow_on (Go.Joins.below_alloc1 w _) HB2.out⟩
            · have HU1 : Hid (∀ j, j < m + 1 + 1 → okP C i n j = true) := ok_up HU.out (okP_s HA.out hp hq)
              rw [hp] at HP
              clear hp
              have hqd : decide ((nthC C (m + 1)).f ≤ (nthC C m).f) = false := decide_eq_false hq
              rw [ek]
              go_wp2
              refine wp_over (z := wr) (by kernel_rfl) (by kernel_rfl) (Below.refl _ _) ?_
              repeat (go_big_quiet_step (first | (go_at_call 88; exact call_over (HC _).out) | (go_at_call 89; exact call_over (HP _).out)))
              refine wpQuiet_nil ?_
              intro w2 hw2
              have HB2 : Hid (Below _ _ w2) := grow_on HB0.out (over_bel hw2)
              clear hw2 hne
              go_wp2
              go_roundw
              case rel => exact ⟨m + 1 + 1, by go_num, by omega, HU1.out, HB2.out⟩
              case measure => simp [intOf]; omega
          · have HE : Hid (partOkB C hd vr i n = false) := part_bad hlt (okP_2 hp)
            have hpd : (partB (nthC C (m + 1)).f n != i) = true := bne_iff_ne.2 hp
            by_cases hq : (nthC C (m + 1)).f ≤ (nthC C m).f
            · rw [ek]
              go_wp2
              refine wp_over (z := wr) (by kernel_rfl) (by kernel_rfl) (Below.refl _ _) ?_
              repeat (go_big_quiet_step (first | (go_at_call 88; exact call_over (HC _).out) | (go_at_call 89; exact call_over (HP _).out)))
              refine wpQuiet_nil ?_
              intro w2 hw2
              have HB2 : Hid (Below _ _ w2) := grow_on HB0.out (over_bel hw2)
              clear hw2 hne
              go_wp2
              go_ret
              exact ⟨retB HE.out.symm, grow_on (Go.Joins.below_alloc1 w _) HB2.out⟩
            · have hqd : decide ((nthC C (m + 1)).f ≤ (nthC C m).f) = false := decide_eq_false hq
              rw [ek]
              go_wp2
              refine wp_over (z := wr) (by kernel_rfl) (by kernel_rfl) (Below.refl _ _) ?_
              repeat (go_big_quiet_step (first | (go_at_call 88; exact call_over (HC _).out) | (go_at_call 89; exact call_over (HP _).out)))
              refine wpQuiet_nil ?_
              intro w2 hw2
              have HB2 : Hid (Below _ _ w2) := grow_on HB0.out (over_bel hw2)
              clear hw2 hne
              go_wp2
              go_ret
              exact ⟨retB HE.out.symm, grow_on (Go.Joins.below_alloc1 w _) HB2.out⟩
    · have hge : ¬ (k : Int) < (C.length : Int) := by omega
      have HE : Hid (partOkB C hd vr i n = (Names.inB hd (-1) 4 && decide (vr ≥ 0))) := part_good fun j hj => HU.out j (by omega)
      go_wp2_with fail
      refine (Names.l1In_any hd (-1) 4 _).mono ?_
      rintro e w2 ⟨rfl, rfl⟩
      cases hI : Names.inB hd (-1) 4 with
      | false =>
        rw [hI] at HE
        go_wp2
        go_ret
        exact ⟨retB HE.out.symm, HBW.out⟩
      | true =>
        rw [hI] at HE
        go_wp2
        go_ret
        exact ⟨retB HE.out.symm, HBW.out⟩
set_option maxRecDepth 100000 in
set_option maxHeartbeats 4000000 in
theorem implPartOk_any (hd vr i n : Int) (a : Option Addr) (cap : Nat) (C : List PCh) (w : World) (hr : RdG RdA w a C) (hl : C.length ≤ 1048576) (hs : FitsC C) (hm : Small C) (hn : I64 n) :
    Calls Tryz.prog 22 #[.agg #[.int .i64 hd, .int .i64 vr, .slice a C.length cap], .int .i64 i, .int .i64 n] w fun e w' => e = .returned (.bool (partOkB C hd vr i n)) ∧ Below w.heap.size w w' := by
  have HR : Hid (RdG RdA w a C) := hr
  have HF : Hid (FitsC C ∧ Small C ∧ I64 n) := ⟨hs, hm, hn⟩
  clear hr hs hm hn
  go_enter Tryz.func22, Tryz.ntmps22
  go_wp2
  go_loopw [12] (fun q w' => ∃ k : Nat, q = .int .i64 k ∧ k ≤ C.length ∧ (∀ j, j < k → okP C i n j = true) ∧ Below (w.alloc (.cells #[.int .i64 hd, .int .i64 vr, .slice a C.length cap] 26)).heap.size (w.alloc (.cells #[.int .i64 hd, .int .i64 vr, .slice a C.length cap] 26)) w') (fun q _ => C.length - (intOf q).toNat)
  case atStart => exact ⟨0, rfl, Nat.zero_le _, fun j h => by omega, Below.refl _ _⟩
  case round =>
    obtain ⟨k, rfl, hk, hu, hw⟩ := hrel
    have HU : Hid (∀ j, j < k → okP C i n j = true) := hu
    have c0 : wr.cell? ⟨w.heap.size, 0, none⟩ = some (.int .i64 hd) := at_par hw 0 rfl
    have c1 : wr.cell? ⟨w.heap.size, 1, none⟩ = some (.int .i64 vr) := at_par hw 1 rfl
    have c2 : wr.cell? ⟨w.heap.size, 2, none⟩ = some (.slice a C.length cap) := at_par hw 2 rfl
    have HB0 : Hid (Below (w.alloc (.cells #[.int .i64 hd, .int .i64 vr, .slice a C.length cap] 26)).heap.size (w.alloc (.cells #[.int .i64 hd, .int .i64 vr, .slice a C.length cap] 26)) wr) := hw
    have HBW : Hid (Below w.heap.size w wr) := grow_on (Go.Joins.below_alloc1 w _) hw
    have hlt0 : w.heap.size < wr.heap.size := by have := hw.size; simp at this; omega
    clear hu hw
    by_cases hlt : k < C.length
    · have hlt' : (k : Int) < (C.length : Int) := by omega
      obtain ⟨b, off, ea, hb, ad, cp, hat⟩ := (HR.out.below stays_rd HBW.out).get hlt
      cases ea
      have v0 := hat.c0
      have v1 := hat.c1
      obtain ⟨zz, hzz⟩ : ∃ zz, wr.alloc (.cells #[.int .i64 (nthC C k).f, .slice ad (nthC C k).P.length cp] 96) = zz := ⟨_, rfl⟩
      have hzb : Below wr.heap.size wr zz := by rw [← hzz]; exact Go.Joins.below_alloc1 wr _
      have HBz : Hid (Below _ _ zz) := grow_on HB0.out hzb
      have hzs : wr.heap.size ≤ zz.heap.size := hzb.size
      have hbx : Blk zz wr.heap.size #[.int .i64 (nthC C k).f, .slice ad (nthC C k).P.length cp] 96 := by rw [← hzz]; exact Blk.new _ _ _
      have hne := Grown.some zz
      have x0 : ∀ x : Grown zz, x.out.cell? ⟨wr.heap.size, 0, none⟩ = some (.int .i64 (nthC C k).f) := fun x => x.cell hbx.lt (hbx.cell 0)
      have x1 : ∀ x : Grown zz, x.out.cell? ⟨wr.heap.size, 1, none⟩ = some (.slice ad (nthC C k).P.length cp) := fun x => x.cell hbx.lt (hbx.cell 1)
      have y2 := fun x : Grown zz => x.cell (Nat.lt_of_lt_of_le hlt0 hzs) ((hzb.cell (p := ⟨w.heap.size, 2, none⟩) hlt0).trans c2)
      have HC : ∀ q : Grown zz, Hid (Calls Tryz.prog 86 #[.agg #[.int .i64 (nthC C k).f, .slice ad (nthC C k).P.length cp]] q.out fun e w' => e = .returned (.bool (chainB (nthC C k).f (nthC C k).P)) ∧ Below q.out.heap.size q.out w') := fun q => implChain_any _ _ _ _ _ ((hat.reads.below hzb).below q.bel) (HF.out.2.1 _ (nthC_mem hlt)).1 (HF.out.1 _ (nthC_mem hlt)).fits
      have HP : ∀ q : Grown zz, Hid (Calls Tryz.prog 87 #[.int .i64 (nthC C k).f, .int .i64 n] q.out fun e w' => e = .returned (.int .i64 (partB (nthC C k).f n)) ∧ Below q.out.heap.size q.out w') := fun q => calls_same (Sums.implPart_any _ _ _ (HF.out.1 _ (nthC_mem hlt)).fb.1 (HF.out.1 _ (nthC_mem hlt)).fb.2 HF.out.2.2.1 HF.out.2.2.2)
      clear hat c0 c1 hbx
      cases hA : chainB (nthC C k).f (nthC C k).P with
      | false =>
        have HE : Hid (partOkB C hd vr i n = false) := part_bad hlt (okP_1 hA)
        rw [hA] at HC
        clear hA
        go_wp2
        try rw [hzz]
        refine wp_over (z := zz) (by kernel_rfl) (by kernel_rfl) (Below.refl _ _) ?_
        repeat (go_big_quiet_step (first | (go_at_call 86; exact call_over (HC _).out) | (go_at_call 87; exact call_over (HP _).out)))
        refine wpQuiet_nil ?_
        intro w2 hw2
        have HB2 : Hid (Below _ _ w2) := grow_on HBz.out (over_bel hw2)
        clear hw2 hne
        go_wp2
        go_ret
        exact ⟨retB HE.out.symm, grow_on (Go.Joins.below_alloc1 w _) HB2.out⟩
      | true =>
        rw [hA] at HC
        have HA : Hid (chainB (nthC C k).f (nthC C k).P = true) := hA
        clear hA
        cases k with
        | zero =>
          simp only [Nat.zero_mul, Nat.add_zero] at v0 v1
          by_cases hp : partB (nthC C 0).f n = i
          · have HU1 : Hid (∀ j, j < 0 + 1 → okP C i n j = true) := ok_up HU.out (okP_0 HA.out hp)
            rw [hp] at HP
            clear hp
            go_wp2
            try rw [hzz]
            refine wp_over (z := zz) (by kernel_rfl) (by kernel_rfl) (Below.refl _ _) ?_
            repeat (go_big_quiet_step (first | (go_at_call 86; exact call_over (HC _).out) | (go_at_call 87; exact call_over (HP _).out)))
            refine wpQuiet_nil ?_
            intro w2 hw2
            have HB2 : Hid (Below _ _ w2) := grow_on HBz.out (over_bel hw2)
            clear hw2 hne
            go_wp2
            go_roundw
            case rel => exact ⟨1, by go_num, by omega, HU1.out, HB2.out⟩
            case measure => simp [intOf]; omega
          · have HE : Hid (partOkB C hd vr i n = false) := part_bad hlt (okP_2 hp)
            have hpd : (partB (nthC C 0).f n != i) = true := bne_iff_ne.2 hp
            go_wp2
            try rw [hzz]
            refine wp_over (z := zz) (by kernel_rfl) (by kernel_rfl) (Below.refl _ _) ?_
            repeat (go_big_quiet_step (first | (go_at_call 86; exact call_over (HC _).out) | (go_at_call 87; exact call_over (HP _).out)))
            refine wpQuiet_nil ?_
            intro w2 hw2
            have HB2 : Hid (Below _ _ w2) := grow_on HBz.out (over_bel hw2)
            clear hw2 hne
            go_wp2
            go_ret
            exact ⟨retB HE.out.symm, grow_on (Go.Joins.below_alloc1 w _) HB2.out⟩
        | succ m =>
          have ek : ((m + 1 : Nat) : Int) = (m : Int) + 1 := by omega
          rw [ek] at hlt'
          have hm : (m : Int) < (C.length : Int) := by omega
          have hm0 : (0 : Int) < (m : Int) + 1 := by omega
          have hwm : IntKind.i64.wrap (m : Int) = (m : Int) := by rw [IntKind.wrap_i64]; omega
          obtain ⟨b1, off1, e1, hb1, ad1, cp1, hat1⟩ := (HR.out.below stays_rd HBW.out).get (i := m) (by omega)
          cases e1
          have u0 := fun x : Grown zz => x.cell (Nat.lt_of_lt_of_le hb1 hzs) ((hzb.cell (p := ⟨b, off + m * 2, none⟩) hb1).trans hat1.c0)
          clear hat1
          by_cases hp : partB (nthC C (m + 1)).f n = i
          · by_cases hq : (nthC C (m + 1)).f ≤ (nthC C m).f
            · have HE : Hid (partOkB C hd vr i n = false) := part_bad hlt (okP_3 hq)
              rw [hp] at HP
              clear hp
              rw [ek]
              go_wp2
              try rw [hzz]
              refine wp_over (z := zz) (by kernel_rfl) (by kernel_rfl) (Below.refl _ _) ?_
              repeat (go_big_quiet_step (first | (go_at_call 86; exact call_over (HC _).out) | (go_at_call 87; exact call_over (HP _).out)))
              refine wpQuiet_nil ?_
              intro w2 hw2
              have HB2 : Hid (Below _ _ w2) := grow_on HBz.out (over_bel hw2)
              clear hw2 hne
              go_wp2
              go_ret
              exact ⟨retB HE.out.symm, grow_on (Go.Joins.below_alloc1 w _) HB2.out⟩
            · have HU1 : Hid (∀ j, j < m + 1 + 1 → okP C i n j = true) := ok_up HU.out (okP_s HA.out hp hq)
              rw [hp] at HP
              clear hp
              have hqd : decide ((nthC C (m + 1)).f ≤ (nthC C m).f) = false := decide_eq_false hq
              rw [ek]
              go_wp2
              try rw [hzz]
              refine wp_over (z := zz) (by kernel_rfl) (by kernel_rfl) (Below.refl _ _) ?_
              repeat (go_big_quiet_step (first | (go_at_call 86; exact call_over (HC _).out) | (go_at_call 87; exact call_over (HP _).out)))
              refine wpQuiet_nil ?_
              intro w2 hw2
              have HB2 : Hid (Below _ _ w2) := grow_on HBz.out (over_bel hw2)
              clear hw2 hne
              go_wp2
              go_roundw
              case rel => exact ⟨m + 1 + 1, by go_num, by omega, HU1.out, HB2.out⟩
              case measure => simp [intOf]; omega
          · have HE : Hid (partOkB C hd vr i n = false) := part_bad hlt (okP_2 hp)
            have hpd : (partB (nthC C (m + 1)).f n != i) = true := bne_iff_ne.2 hp
            by_cases hq : (nthC C (m + 1)).f ≤ (nthC C m).f
            · rw [ek]
              go_wp2
              try rw [hzz]
              refine wp_over (z := zz) (by kernel_rfl) (by kernel_rfl) (Below.refl _ _) ?_
              repeat (go_big_quiet_step (first | (go_at_call 86; exact call_over (HC _).out) | (go_at_call 87; exact call_over (HP _).out)))
              refine wpQuiet_nil ?_
              intro w2 hw2
              have HB2 : Hid (Below _ _ w2) := grow_on HBz.out (over_bel hw2)
              clear hw2 hne
              go_wp2
              go_ret
              exact ⟨retB HE.out.symm, grow_on (Go.Joins.below_alloc1 w _) HB2.out⟩
            · have hqd : decide ((nthC C (m + 1)).f ≤ (nthC C m).f) = false := decide_eq_false hq
              rw [ek]
              go_wp2
              try rw [hzz]
              refine wp_over (z := zz) (by kernel_rfl) (by kernel_rfl) (Below.refl _ _) ?_
              repeat (go_big_quiet_step (first | (go_at_call 86; exact call_over (HC _).out) | (go_at_call 87; exact call_over (HP _).out)))
              refine wpQuiet_nil ?_
              intro w2 hw2
              have HB2 : Hid (Below _ _ w2) := grow_on HBz.out (over_bel hw2)
              clear hw2 hne
              go_wp2
              go_ret
              exact ⟨retB HE.out.symm, grow_on (Go.Joins.below_alloc1 w _) HB2.out⟩
    · have hge : ¬ (k : Int) < (C.length : Int) := by omega
      have HE : Hid (partOkB C hd vr i n = (Names.inB hd (-1) 4 && decide (vr ≥ 0))) := part_good fun j hj => HU.out j (by omega)
      by_cases h1 : -1 ≤ hd
      · by_cases h2 : hd ≤ 4
        · have HI : Hid (Names.inB hd (-1) 4 = true) := by show _ = _; unfold Names.inB; simp [h1, h2]
          go_wp2
          go_ret
          exact ⟨retB (by rw [HE.out, HI.out]; rfl), HBW.out⟩
        · have HI : Hid (Names.inB hd (-1) 4 = false) := by show _ = _; unfold Names.inB; simp [h1, h2]
          go_wp2
          go_ret
          exact ⟨retB (by rw [HE.out, HI.out]; rfl), HBW.out⟩
      · have HI : Hid (Names.inB hd (-1) 4 = false) := by show _ = _; unfold Names.inB; simp [h1]
        go_wp2
        go_ret
        exact ⟨retB (by rw [HE.out, HI.out]; rfl), HBW.out⟩
end Go.Proofs.YtooninmicfcfoaaGreat.PrtO
