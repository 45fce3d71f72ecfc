/-
  PROVED: over two parts in memory spec.SamePart and impl.SamePart answer alike, as a plain function on lists of chains says; nothing that was there is changed.
-/
import Derived.Test.YtooninmicfcfoaaGreatQPrtO
set_option linter.unusedVariables false
namespace Go.Proofs.YtooninmicfcfoaaGreat.PrtS
open Go.RowKit
open Labs LabS Alms AlmS AlmM Over Blk App Rws ChnI ChnC ChnP ChnS ChnT ChnK Chs Prt PrtO
open StrB (retB)
open Alm (at_par)

def sameY (x y : PCh) : Bool := sameCB x.f x.P y.f y.P
def sameYs (C D : List PCh) : Bool := decide (C.length = D.length) && (List.range C.length).all fun i => sameY (nthC C i) (nthC D i)
theorem sameY_self (x : PCh) : sameY x x = true := by unfold sameY; rw [sameC_y rfl]; exact same_refl _
theorem sameYs_refl (C : List PCh) : sameYs C C = true := by simp [sameYs, sameY_self]
theorem sameYs_len {C D : List PCh} (h : C.length ≠ D.length) : sameYs C D = false := by simp [sameYs, h]
theorem sameYs_bad {C D : List PCh} {k : Nat} (hk : k < C.length) (h : sameY (nthC C k) (nthC D k) = false) : sameYs C D = false := by
  unfold sameYs
  rw [Bool.and_eq_false_iff]
  right
  rw [List.all_eq_false]
  exact ⟨k, by simpa using hk, by simp [h]⟩
theorem sameYs_good {C D : List PCh} (hl : C.length = D.length) (h : ∀ k, k < C.length → sameY (nthC C k) (nthC D k) = true) : sameYs C D = true := by
  unfold sameYs
  rw [Bool.and_eq_true]
  exact ⟨by simp [hl], by rw [List.all_eq_true]; intro k hk; exact h k (by simpa using hk)⟩
def samePB (hd vr : Int) (C : List PCh) (hd' vr' : Int) (D : List PCh) : Bool := decide (hd = hd') && (decide (vr = vr') && sameYs C D)
theorem sameP_1 {hd vr hd' vr' : Int} {C D : List PCh} (h : hd ≠ hd') : samePB hd vr C hd' vr' D = false := by simp [samePB, h]
theorem sameP_2 {hd vr hd' vr' : Int} {C D : List PCh} (h : vr ≠ vr') : samePB hd vr C hd' vr' D = false := by simp [samePB, h]
theorem sameP_y {hd vr : Int} {C D : List PCh} : samePB hd vr C hd vr D = sameYs C D := by simp [samePB]

set_option maxHeartbeats 1600000 in
theorem equalFC_any (a a' : Option Addr) (cap cap' : Nat) (C D : List PCh) (w : World) (hr : RdG RdA w a C) (hr' : RdG RdA w a' D) (hl : C.length ≤ 1048576) (hl' : D.length ≤ 1048576) (hs : Small C) (hs' : Small D) :
    Calls Tryz.prog 82 #[.slice a C.length cap, .slice a' D.length cap', .func (.func 83) #[] #[]] w fun e w' => e = .returned (.bool (sameYs C D)) ∧ Below w.heap.size w w' := by
  have HR : Hid (RdG RdA w a C ∧ RdG RdA w a' D ∧ Small C ∧ Small D) := ⟨hr, hr', hs, hs'⟩
  clear hr hr' hs hs'
  by_cases hlen : C.length = D.length
  · have HL : Hid (C.length = D.length) := hlen
    rw [← hlen]
    clear hlen hl'
    go_enter Tryz.func82, Tryz.ntmps82
    go_wp2
    go_loopw [17] (fun i w' => ∃ k : Nat, i = .int .i64 k ∧ k ≤ C.length ∧ (∀ j, j < k → sameY (nthC C j) (nthC D j) = true) ∧ Below w.heap.size w w') (fun i _ => C.length - (intOf i).toNat)
    case atStart => exact ⟨0, rfl, Nat.zero_le _, fun j h => by omega, Below.refl _ _⟩
    case round =>
      obtain ⟨k, rfl, hk, hu, hw0⟩ := hrel
      have HU : Hid (∀ j, j < k → sameY (nthC C j) (nthC D j) = true) := hu
      have HB : Hid (Below w.heap.size w wr) := hw0
      clear hw0 hu
      by_cases hlt : k < C.length
      · have hlt' : (k : Int) < (C.length : Int) := by omega
        have hltQ : k < D.length := by rw [← HL.out]; exact hlt
        obtain ⟨b, off, rfl, hb, ad, cp, hat⟩ := (HR.out.1.below stays_rd HB.out).get hlt
        obtain ⟨b', off', rfl, hb', ad', cp', hat'⟩ := (HR.out.2.1.below stays_rd HB.out).get hltQ
        have x0 := hat.c0
        have x1 := hat.c1
        generalize hO : Obj.cells #[.int .i64 (nthC C k).f, .slice ad (nthC C k).P.length cp] 96 = Ob
        have hba := Go.Joins.below_alloc1 wr Ob
        have y0 := (hba.cell (p := ⟨b', off' + k * 2, none⟩) hb').trans hat'.c0
        have y1 := (hba.cell (p := ⟨b', off' + k * 2 + 1, none⟩) hb').trans hat'.c1
        subst hO
        clear hba
        have HC : Hid (∀ x, Below wr.heap.size wr x → Calls Tryz.prog 83 #[.agg #[.int .i64 (nthC C k).f, .slice ad (nthC C k).P.length cp], .agg #[.int .i64 (nthC D k).f, .slice ad' (nthC D k).P.length cp']] x fun e w' => e = .returned (.bool (sameY (nthC C k) (nthC D k))) ∧ Below x.heap.size x w') := fun x hx => implSameC_any _ _ ad ad' cp cp' _ _ x (hat.reads.below hx) (hat'.reads.below hx) (HR.out.2.2.1 _ (nthC_mem hlt)).1 (HR.out.2.2.2 _ (nthC_mem hltQ)).1 (len_m (HR.out.2.2.1 _ (nthC_mem hlt)).2) (len_m (HR.out.2.2.2 _ (nthC_mem hltQ)).2)
        clear hat hat' hltQ
        cases hx : sameY (nthC C k) (nthC D k) with
        | true =>
          rw [hx] at HC
          have HU1 : Hid (∀ j, j < k + 1 → sameY (nthC C j) (nthC D j) = true) := fun j hj => by
            by_cases e : j = k
            · subst e; exact hx
            · exact HU.out j (by omega)
          clear hx
          go_wp2_with fail
          refine (HC.out _ (Go.Joins.below_alloc2 wr _ _)).mono ?_
          rintro e w2 ⟨rfl, hb2⟩
          have HB2 : Hid (Below w.heap.size w w2) := grow_on HB.out (grow_on (Go.Joins.below_alloc2 wr _ _) hb2)
          clear hb2 x0 x1 y0 y1 HC
          go_wp2
          go_roundw
          case rel => exact ⟨k + 1, by go_num, by omega, HU1.out, HB2.out⟩
          case measure => simp [intOf]; omega
        | false =>
          rw [hx] at HC
          have HE : Hid (sameYs C D = false) := sameYs_bad hlt hx
          clear hx
          go_wp2_with fail
          refine (HC.out _ (Go.Joins.below_alloc2 wr _ _)).mono ?_
          rintro e w2 ⟨rfl, hb2⟩
          have HB2 : Hid (Below w.heap.size w w2) := grow_on HB.out (grow_on (Go.Joins.below_alloc2 wr _ _) hb2)
          clear hb2 x0 x1 y0 y1 HC
          go_wp2
          go_ret
          exact ⟨retB HE.out.symm, HB2.out⟩
      · have hge : ¬ (k : Int) < (C.length : Int) := by omega
        have HE : Hid (sameYs C D = true) := sameYs_good HL.out fun j hj => HU.out j (by omega)
        go_wp2
        go_ret
        exact ⟨retB HE.out.symm, HB.out⟩
  · have HE : Hid (sameYs C D = false) := sameYs_len hlen
    have hne : ¬ (C.length : Int) = (D.length : Int) := by omega
    go_enter Tryz.func82, Tryz.ntmps82
    go_wp2
    go_ret
    exact ⟨retB HE.out.symm, Below.refl _ _⟩

set_option maxHeartbeats 800000 in
theorem implSameP_any (hd vr hd' vr' : Int) (a a' : Option Addr) (cap cap' : Nat) (C D : List PCh) (w : World) (hr : RdG RdA w a C) (hr' : RdG RdA w a' D) (hl : C.length ≤ 1048576) (hl' : D.length ≤ 1048576) (hs : Small C) (hs' : Small D) :
    Calls Tryz.prog 19 #[.agg #[.int .i64 hd, .int .i64 vr, .slice a C.length cap], .agg #[.int .i64 hd', .int .i64 vr', .slice a' D.length cap']] w fun e w' => e = .returned (.bool (samePB hd vr C hd' vr' D)) ∧ Below w.heap.size w w' := by
  have HR : Hid (RdG RdA w a C ∧ RdG RdA w a' D ∧ Small C ∧ Small D) := ⟨hr, hr', hs, hs'⟩
  clear hr hr' hs hs'
  by_cases h1 : hd = hd'
  · by_cases h2 : vr = vr'
    · subst h1 h2
      have HE : Hid (samePB hd vr C hd vr D = sameYs C D) := sameP_y
      go_enter Tryz.func19, Tryz.ntmps19
      go_wp2_with fail
      refine (equalFC_any a a' cap cap' C D _ (HR.out.1.below stays_rd (Go.Joins.below_alloc2 w _ _)) (HR.out.2.1.below stays_rd (Go.Joins.below_alloc2 w _ _)) hl hl' HR.out.2.2.1 HR.out.2.2.2).mono ?_
      rintro e w2 ⟨rfl, hb⟩
      have HB : Hid (Below w.heap.size w w2) := grow_on (Go.Joins.below_alloc2 w _ _) hb
      clear hb
      go_wp2
      go_ret
      exact ⟨retB HE.out.symm, HB.out⟩
    · have HE : Hid (samePB hd vr C hd' vr' D = false) := sameP_2 h2
      subst h1
      go_enter Tryz.func19, Tryz.ntmps19
      go_wp2
      go_ret
      exact ⟨retB HE.out.symm, Go.Joins.below_alloc2 w _ _⟩
  · have HE : Hid (samePB hd vr C hd' vr' D = false) := sameP_1 h1
    go_enter Tryz.func19, Tryz.ntmps19
    go_wp2
    go_ret
    exact ⟨retB HE.out.symm, Go.Joins.below_alloc2 w _ _⟩

set_option maxRecDepth 100000 in
set_option maxHeartbeats 1600000 in
theorem specSameP_any (hd vr hd' vr' : Int) (a a' : Option Addr) (cap cap' : Nat) (C D : List PCh) (w : World) (hr : RdG RdA w a C) (hr' : RdG RdA w a' D) (hl : C.length ≤ 1048576) (hl' : D.length ≤ 1048576) (hs : Small C) (hs' : Small D) :
    Calls Tryz.prog 24 #[.agg #[.int .i64 hd, .int .i64 vr, .slice a C.length cap], .agg #[.int .i64 hd', .int .i64 vr', .slice a' D.length cap']] w fun e w' => e = .returned (.bool (samePB hd vr C hd' vr' D)) ∧ Below w.heap.size w w' := by
  have HR : Hid (RdG RdA w a C ∧ RdG RdA w a' D ∧ Small C ∧ Small D) := ⟨hr, hr', hs, hs'⟩
  clear hr hr' hs hs'
  by_cases h1 : hd = hd'
  · by_cases h2 : vr = vr'
    · subst h1 h2
      have HE : Hid (samePB hd vr C hd vr D = sameYs C D) := sameP_y
      by_cases hlen : C.length = D.length
      · have HL : Hid (C.length = D.length) := hlen
        rw [← hlen]
        clear hlen hl'
        go_enter Tryz.func24, Tryz.ntmps24
        go_wp2
        obtain ⟨W0, hW0⟩ : ∃ W0, (w.alloc (.cells #[.int .i64 hd, .int .i64 vr, .slice a C.length cap] 26)).alloc (.cells #[.int .i64 hd, .int .i64 vr, .slice a' C.length cap'] 26) = W0 := ⟨_, rfl⟩
        have HW0 : Hid (Below w.heap.size w W0 ∧ Blk W0 w.heap.size #[.int .i64 hd, .int .i64 vr, .slice a C.length cap] 26 ∧ Blk W0 (w.heap.size + 1) #[.int .i64 hd, .int .i64 vr, .slice a' C.length cap'] 26) := by
          rw [← hW0]
          exact ⟨Go.Joins.below_alloc2 w _ _, (Blk.new _ _ _).alloc _, Blk.new_at (by simp)⟩
        try rw [hW0]
        clear hW0
        go_loopw [5] (fun i w' => ∃ k : Nat, i = .int .i64 k ∧ k ≤ C.length ∧ (∀ j, j < k → sameY (nthC C j) (nthC D j) = true) ∧ Below W0.heap.size W0 w') (fun i _ => C.length - (intOf i).toNat)
        case atStart => exact ⟨0, rfl, Nat.zero_le _, fun j h => by omega, Below.refl _ _⟩
        case round =>
          obtain ⟨k, rfl, hk, hu, hw0⟩ := hrel
          have HU : Hid (∀ j, j < k → sameY (nthC C j) (nthC D j) = true) := hu
          have HB0 : Hid (Below W0.heap.size W0 wr) := hw0
          have HB : Hid (Below w.heap.size w wr) := grow_on HW0.out.1 hw0
          have hp := HW0.out.2.1.grow hw0
          have hq := HW0.out.2.2.grow hw0
          have cp2 : wr.cell? ⟨w.heap.size, 2, none⟩ = some (.slice a C.length cap) := hp.cell 2
          have cq2 : wr.cell? ⟨w.heap.size + 1, 2, none⟩ = some (.slice a' C.length cap') := hq.cell 2
          have lp := hp.lt
          have lq := hq.lt
          clear hw0 hu hp hq
          by_cases hlt : k < C.length
          · have hlt' : (k : Int) < (C.length : Int) := by omega
            have hltQ : k < D.length := by rw [← HL.out]; exact hlt
            obtain ⟨b, off, ea, hb, ad, cp, hat⟩ := (HR.out.1.below stays_rd HB.out).get hlt
            obtain ⟨b', off', ea', hb', ad', cp', hat'⟩ := (HR.out.2.1.below stays_rd HB.out).get hltQ
            cases ea
            cases ea'
            have hne := Grown.some wr
            have x0 := fun x : Grown wr => x.cell hb hat.c0
            have x1 := fun x : Grown wr => x.cell hb hat.c1
            have y0 := fun x : Grown wr => x.cell hb' hat'.c0
            have y1 := fun x : Grown wr => x.cell hb' hat'.c1
            have z0 := fun x : Grown wr => x.cell lp cp2
            have z1 := fun x : Grown wr => x.cell lq cq2
            have HC : ∀ x : Grown wr, Hid (Calls Tryz.prog 91 #[.agg #[.int .i64 (nthC C k).f, .slice ad (nthC C k).P.length cp], .agg #[.int .i64 (nthC D k).f, .slice ad' (nthC D k).P.length cp']] x.out fun e w' => e = .returned (.bool (sameY (nthC C k) (nthC D k))) ∧ Below x.out.heap.size x.out w') := fun x => specSameC_any _ _ ad ad' cp cp' _ _ x.out (hat.reads.below x.bel) (hat'.reads.below x.bel) (HR.out.2.2.1 _ (nthC_mem hlt)).1 (HR.out.2.2.2 _ (nthC_mem hltQ)).1 (len_m (HR.out.2.2.1 _ (nthC_mem hlt)).2) (len_m (HR.out.2.2.2 _ (nthC_mem hltQ)).2)
            clear hat hat' hltQ
            cases hx : sameY (nthC C k) (nthC D k) with
            | true =>
              rw [hx] at HC
              have HU1 : Hid (∀ j, j < k + 1 → sameY (nthC C j) (nthC D j) = true) := fun j hj => by
                by_cases e : j = k
                · subst e; exact hx
                · exact HU.out j (by omega)
              clear hx
              go_wp2
              refine wp_over (z := wr) (by kernel_rfl) (by kernel_rfl) (Below.refl _ _) ?_
              repeat (go_big_quiet_step (first | (go_at_call 91; exact call_over (HC _).out)))
              refine wpQuiet_nil ?_
              intro w2 hw2
              have HB2 : Hid (Below W0.heap.size W0 w2) := grow_on HB0.out (over_bel hw2)
              clear hw2 hne x0 x1 y0 y1 z0 z1 HC
              go_wp2
              go_roundw
              case rel => exact ⟨k + 1, by go_num, by omega, HU1.out, HB2.out⟩
              case measure => simp [intOf]; omega
            | false =>
              rw [hx] at HC
              have HE1 : Hid (sameYs C D = false) := sameYs_bad hlt hx
              clear hx
              go_wp2
              refine wp_over (z := wr) (by kernel_rfl) (by kernel_rfl) (Below.refl _ _) ?_
              repeat (go_big_quiet_step (first | (go_at_call 91; exact call_over (HC _).out)))
              refine wpQuiet_nil ?_
              intro w2 hw2
              have HB2 : Hid (Below w.heap.size w w2) := grow_on HB.out (over_bel hw2)
              clear hw2 hne x0 x1 y0 y1 z0 z1 HC
              go_wp2
              go_ret
              exact ⟨retB (by rw [HE.out, HE1.out]), HB2.out⟩
          · have hge : ¬ (k : Int) < (C.length : Int) := by omega
            have HE1 : Hid (sameYs C D = true) := sameYs_good HL.out fun j hj => HU.out j (by omega)
            go_wp2
            go_ret
            exact ⟨retB (by rw [HE.out, HE1.out]), HB.out⟩
      · have HE1 : Hid (sameYs C D = false) := sameYs_len hlen
        have hne : ¬ (C.length : Int) = (D.length : Int) := by omega
        go_enter Tryz.func24, Tryz.ntmps24
        go_wp2
        go_ret
        exact ⟨retB (by rw [HE.out, HE1.out]), Go.Joins.below_alloc2 w _ _⟩
    · have HE : Hid (samePB hd vr C hd' vr' D = false) := sameP_2 h2
      subst h1
      go_enter Tryz.func24, Tryz.ntmps24
      go_wp2
      go_ret
      exact ⟨retB HE.out.symm, Go.Joins.below_alloc2 w _ _⟩
  · have HE : Hid (samePB hd vr C hd' vr' D = false) := sameP_1 h1
    go_enter Tryz.func24, Tryz.ntmps24
    go_wp2
    go_ret
    exact ⟨retB HE.out.symm, Go.Joins.below_alloc2 w _ _⟩
end Go.Proofs.YtooninmicfcfoaaGreat.PrtS
