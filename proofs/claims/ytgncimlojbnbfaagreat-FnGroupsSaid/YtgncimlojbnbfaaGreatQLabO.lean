/-
  PROVED: over a slice of labels in memory spec.SetOk and impl.SetOk answer alike, as a plain function on lists says; nothing that was there is changed.
-/
import Derived.Test.YtgncimlojbnbfaaGreatQLabS
import Derived.Test.YtgncimlojbnbfaaGreatQOver
set_option linter.unusedVariables false
namespace Go.Proofs.YtgncimlojbnbfaaGreat.LabO
open Go.RowKit
open Labs LabS
open Over
open StrB (lessB retB drew_more)

def okAt (l : List Lab) (i : Nat) : Bool := labB (nth l i) && (decide (i = 0) || lessB (nth l (i - 1)).1 (nth l i).1)
def setB (l : List Lab) : Bool := decide (l.length ≤ 4) && (List.range l.length).all (okAt l)
theorem set_bad {l : List Lab} {k : Nat} (hk : k < l.length) (h : okAt l k = false) : setB l = false := by
  unfold setB
  rw [Bool.and_eq_false_iff]
  right
  rw [List.all_eq_false]
  exact ⟨k, List.mem_range.2 hk, by rw [h]; simp⟩
theorem set_good {l : List Lab} (h : ∀ j, j < l.length → okAt l j = true) : setB l = decide (l.length ≤ 4) := by
  unfold setB
  rw [List.all_eq_true.2 fun i hi => h i (List.mem_range.1 hi), Bool.and_true]
theorem set_long {l : List Lab} (h : 4 < l.length) : setB l = false := by
  unfold setB
  rw [decide_eq_false (by omega), Bool.false_and]
theorem ok_no {l : List Lab} {k : Nat} (h : labB (nth l k) = false) : okAt l k = false := by unfold okAt; rw [h]; rfl
theorem ok_first {l : List Lab} (h : labB (nth l 0) = true) : okAt l 0 = true := by unfold okAt; rw [h]; rfl
theorem ok_next {l : List Lab} {j : Nat} (h : labB (nth l (j + 1)) = true) : okAt l (j + 1) = lessB (nth l j).1 (nth l (j + 1)).1 := by
  unfold okAt; rw [h]; simp
theorem ok_up {l : List Lab} {k : Nat} (hj : ∀ j, j < k → okAt l j = true) (he : okAt l k = true) : ∀ j, j < k + 1 → okAt l j = true := fun j h => by
  by_cases e : j = k
  · subst e; exact he
  · exact hj j (by omega)

def Fits (l : List Lab) : Prop := ∀ i, i < l.length → (nth l i).1.size ≤ maxLen ∧ (nth l i).2.size ≤ maxLen

set_option maxHeartbeats 800000 in
theorem specSet_any (a : Option Addr) (cap : Nat) (l : List Lab) (w : World) (hr : Reads w a l) (hl : l.length ≤ maxLen) (hz : Fits l) :
    Calls Tryz.prog 82 #[.slice a l.length cap] w fun e w' => e = .returned (.bool (setB l)) ∧ Below w.heap.size w w' := by
  unfold maxLen at hl
  have HR : Hid (Reads w a l) := hr
  have HF : Hid (Fits l) := hz
  clear hr hz
  go_enter Tryz.func82, Tryz.ntmps82
  go_wp2
  go_loopw [3] (fun i w' => ∃ k : Nat, i = .int .i64 k ∧ k ≤ l.length ∧ (∀ j, j < k → okAt l j = true) ∧ Below w.heap.size w w') (fun i _ => l.length - (intOf i).toNat)
  case atStart => exact ⟨0, rfl, Nat.zero_le _, fun j h => by omega, Below.refl _ _⟩
  case round =>
    obtain ⟨k, rfl, hk, hu, hw0⟩ := hrel
    have HU : Hid (∀ j, j < k → okAt l j = true) := hu
    have HB : Hid (Below w.heap.size w wr) := hw0
    have HR1 : Hid (Reads wr a l) := HR.out.below hw0
    clear hw0 hu
    by_cases hlt : k < l.length
    · have hlt' : (k : Int) < (l.length : Int) := by omega
      obtain ⟨b, off, rfl, hb, hc⟩ := HR1.out.get hlt
      obtain ⟨h0, h1⟩ := hc k hlt
      have HS : Hid ((nth l k).1.size ≤ maxLen ∧ (nth l k).2.size ≤ maxLen) := HF.out k hlt
      cases hp : labB (nth l k) with
      | false =>
        have HN : Hid (setB l = false) := set_bad hlt (ok_no hp)
        have HC : ∀ w, Hid (Calls Tryz.prog 107 #[.agg #[.string (nth l k).1, .string (nth l k).2]] w fun e w' => e = .returned (.bool false) ∧ Below w.heap.size w w') := fun w => (specLab_any (nth l k) w HS.out.1 HS.out.2).mono fun e w' h => ⟨h.1.trans (retB hp), h.2⟩
        have hne := Grown.some wr
        have x0 := fun x : Grown wr => x.cell hb h0
        have x1 := fun x : Grown wr => x.cell hb h1
        clear hp hc h0 h1
        go_wp2
        refine wp_over (z := wr) (by kernel_rfl) (by kernel_rfl) (Below.refl _ _) ?_
        repeat (go_big_quiet_step (first | (go_at_call 107; exact call_over (HC _).out)))
        refine wpQuiet_nil ?_
        intro w2 hw2
        have hb2 := over_bel hw2
        clear hw2 hne
        go_wp2
        go_ret
        exact ⟨retB HN.out.symm, HB.out.trans (hb2.mono HB.out.size)⟩
      | true =>
        have HC : ∀ w, Hid (Calls Tryz.prog 107 #[.agg #[.string (nth l k).1, .string (nth l k).2]] w fun e w' => e = .returned (.bool true) ∧ Below w.heap.size w w') := fun w => (specLab_any (nth l k) w HS.out.1 HS.out.2).mono fun e w' h => ⟨h.1.trans (retB hp), h.2⟩
        have hne := Grown.some wr
        have x0 := fun x : Grown wr => x.cell hb h0
        have x1 := fun x : Grown wr => x.cell hb h1
        cases k with
        | zero =>
          have HU1 : Hid (∀ j, j < 0 + 1 → okAt l j = true) := ok_up HU.out (ok_first hp)
          clear hp hc h0 h1
          simp only [Nat.zero_mul, Nat.add_zero] at x0 x1
          go_wp2
          refine wp_over (z := wr) (by kernel_rfl) (by kernel_rfl) (Below.refl _ _) ?_
          repeat (go_big_quiet_step (first | (go_at_call 107; exact call_over (HC _).out)))
          refine wpQuiet_nil ?_
          intro w2 hw2
          have hb2 := over_bel hw2
          clear hw2 hne
          go_wp2
          go_roundw
          case rel => exact ⟨1, by go_num, by omega, HU1.out, HB.out.trans (hb2.mono HB.out.size)⟩
          case measure => simp [intOf]; omega
        | succ j =>
          have ek : ((j + 1 : Nat) : Int) = (j : Int) + 1 := by omega
          rw [ek] at hlt'
          have hj : (j : Int) < (l.length : Int) := by omega
          have hj0 : (0 : Int) < (j : Int) + 1 := by omega
          obtain ⟨h2, h3⟩ := hc j (by omega)
          have x2 := fun x : Grown wr => x.cell hb h2
          have x3 := fun x : Grown wr => x.cell hb h3
          have hw : IntKind.i64.wrap (j : Int) = (j : Int) := by rw [IntKind.wrap_i64]; omega
          cases hq : lessB (nth l j).1 (nth l (j + 1)).1 with
          | true =>
            have HU1 : Hid (∀ i, i < j + 1 + 1 → okAt l i = true) := ok_up HU.out ((ok_next hp).trans hq)
            clear hp hc h0 h1 h2 h3
            rw [ek]
            go_wp2
            refine wp_over (z := wr) (by kernel_rfl) (by kernel_rfl) (Below.refl _ _) ?_
            repeat (go_big_quiet_step (first | (go_at_call 107; exact call_over (HC _).out) | (go_at_call 101; exact call_still (StrB.specLess_any _ _ _))))
            refine wpQuiet_nil ?_
            intro w2 hw2
            have hb2 := over_bel hw2
            clear hw2 hne
            go_wp2
            go_roundw
            case rel => exact ⟨j + 1 + 1, by go_num, by omega, HU1.out, HB.out.trans (hb2.mono HB.out.size)⟩
            case measure => simp [intOf]; omega
          | false =>
            have HN : Hid (setB l = false) := set_bad hlt ((ok_next hp).trans hq)
            clear hp hc h0 h1 h2 h3
            rw [ek]
            go_wp2
            refine wp_over (z := wr) (by kernel_rfl) (by kernel_rfl) (Below.refl _ _) ?_
            repeat (go_big_quiet_step (first | (go_at_call 107; exact call_over (HC _).out) | (go_at_call 101; exact call_still (StrB.specLess_any _ _ _))))
            refine wpQuiet_nil ?_
            intro w2 hw2
            have hb2 := over_bel hw2
            clear hw2 hne
            go_wp2
            go_ret
            exact ⟨retB HN.out.symm, HB.out.trans (hb2.mono HB.out.size)⟩
    · have hge : ¬ (k : Int) < (l.length : Int) := by omega
      have HS : Hid (setB l = decide (l.length ≤ 4)) := set_good fun j hj => HU.out j (by omega)
      go_wp2
      go_ret
      exact ⟨retB (HS.out.trans (decide_eq_decide.2 (by omega))).symm, HB.out⟩

set_option maxHeartbeats 800000 in
theorem implSet_any (a : Option Addr) (cap : Nat) (l : List Lab) (w : World) (hr : Reads w a l) (hl : l.length ≤ maxLen) (hz : Fits l) :
    Calls Tryz.prog 78 #[.slice a l.length cap] w fun e w' => e = .returned (.bool (setB l)) ∧ Below w.heap.size w w' := by
  unfold maxLen at hl
  have HR : Hid (Reads w a l) := hr
  have HF : Hid (Fits l) := hz
  clear hr hz
  by_cases h4 : 4 < l.length
  · have h4' : (4 : Int) < (l.length : Int) := by omega
    have HN : Hid (setB l = false) := set_long h4
    go_enter Tryz.func78, Tryz.ntmps78
    go_wp2
    go_ret
    exact ⟨retB HN.out.symm, Below.refl _ _⟩
  have h4' : ¬ (4 : Int) < (l.length : Int) := by omega
  go_enter Tryz.func78, Tryz.ntmps78
  go_wp2
  go_loopw [10] (fun i w' => ∃ k : Nat, i = .int .i64 k ∧ k ≤ l.length ∧ (∀ j, j < k → okAt l j = true) ∧ Below w.heap.size w w') (fun i _ => l.length - (intOf i).toNat)
  case atStart => exact ⟨0, rfl, Nat.zero_le _, fun j h => by omega, Below.refl _ _⟩
  case round =>
    obtain ⟨k, rfl, hk, hu, hw0⟩ := hrel
    have HU : Hid (∀ j, j < k → okAt l j = true) := hu
    have HB : Hid (Below w.heap.size w wr) := hw0
    have HR1 : Hid (Reads wr a l) := HR.out.below hw0
    clear hw0 hu
    by_cases hlt : k < l.length
    · have hlt' : (k : Int) < (l.length : Int) := by omega
      obtain ⟨b, off, rfl, hb, hc⟩ := HR1.out.get hlt
      obtain ⟨h0, h1⟩ := hc k hlt
      have HS : Hid ((nth l k).1.size ≤ maxLen ∧ (nth l k).2.size ≤ maxLen) := HF.out k hlt
      cases hp : labB (nth l k) with
      | false =>
        have HN : Hid (setB l = false) := set_bad hlt (ok_no hp)
        have HC : ∀ w, Hid (Calls Tryz.prog 103 #[.agg #[.string (nth l k).1, .string (nth l k).2]] w fun e w' => e = .returned (.bool false) ∧ Below w.heap.size w w') := fun w => (implLab_any (nth l k) w HS.out.1 HS.out.2).mono fun e w' h => ⟨h.1.trans (retB hp), h.2⟩
        clear hp hc
        go_wp2
        generalize hz : wr.alloc _ = wz
        have HB1 : Hid (Below w.heap.size w wz) := by rw [← hz]; exact HB.out.alloc HB.out.size _
        have hne := Grown.some wz
        have kb : b < wz.heap.size := by rw [← hz]; simp; omega
        have kr : wr.heap.size < wz.heap.size := by rw [← hz]; simp
        have x0 := fun x : Grown wz => x.cell (p := ⟨wr.heap.size, 0, none⟩) (v := .string (nth l k).1) kr (by rw [← hz]; simp)
        have x1 := fun x : Grown wz => x.cell (p := ⟨wr.heap.size, 1, none⟩) (v := .string (nth l k).2) kr (by rw [← hz]; simp)
        clear hz h0 h1
        refine wp_over (z := wz) (by kernel_rfl) (by kernel_rfl) (Below.refl _ _) ?_
        repeat (go_big_quiet_step (first | (go_at_call 103; exact call_over (HC _).out)))
        refine wpQuiet_nil ?_
        intro w2 hw2
        have hb2 := over_bel hw2
        clear hw2 hne
        go_wp2
        go_ret
        exact ⟨retB HN.out.symm, HB1.out.trans (hb2.mono HB1.out.size)⟩
      | true =>
        have HC : ∀ w, Hid (Calls Tryz.prog 103 #[.agg #[.string (nth l k).1, .string (nth l k).2]] w fun e w' => e = .returned (.bool true) ∧ Below w.heap.size w w') := fun w => (implLab_any (nth l k) w HS.out.1 HS.out.2).mono fun e w' h => ⟨h.1.trans (retB hp), h.2⟩
        by_cases hk0 : k = 0
        · have HU1 : Hid (∀ j, j < k + 1 → okAt l j = true) := ok_up HU.out (by subst hk0; exact ok_first hp)
          have hd : decide (0 < k) = false := decide_eq_false (by omega)
          clear hp hc hk0
          go_wp2
          generalize hz : wr.alloc _ = wz
          have HB1 : Hid (Below w.heap.size w wz) := by rw [← hz]; exact HB.out.alloc HB.out.size _
          have hne := Grown.some wz
          have kb : b < wz.heap.size := by rw [← hz]; simp; omega
          have kr : wr.heap.size < wz.heap.size := by rw [← hz]; simp
          have x0 := fun x : Grown wz => x.cell (p := ⟨wr.heap.size, 0, none⟩) (v := .string (nth l k).1) kr (by rw [← hz]; simp)
          have x1 := fun x : Grown wz => x.cell (p := ⟨wr.heap.size, 1, none⟩) (v := .string (nth l k).2) kr (by rw [← hz]; simp)
          clear hz h0 h1
          refine wp_over (z := wz) (by kernel_rfl) (by kernel_rfl) (Below.refl _ _) ?_
          repeat (go_big_quiet_step (first | (go_at_call 103; exact call_over (HC _).out)))
          refine wpQuiet_nil ?_
          intro w2 hw2
          have hb2 := over_bel hw2
          clear hw2 hne
          go_wp2
          go_roundw
          case rel => exact ⟨k + 1, by go_num, by omega, HU1.out, HB1.out.trans (hb2.mono HB1.out.size)⟩
          case measure => simp [intOf]; omega
        · obtain ⟨j, rfl⟩ : ∃ j, k = j + 1 := ⟨k - 1, by omega⟩
          have ek : ((j + 1 : Nat) : Int) = (j : Int) + 1 := by omega
          rw [ek] at hlt'
          have hj : (j : Int) < (l.length : Int) := by omega
          have hj0 : (0 : Int) < (j : Int) + 1 := by omega
          obtain ⟨h2, h3⟩ := hc j (by omega)
          have hw : IntKind.i64.wrap (j : Int) = (j : Int) := by rw [IntKind.wrap_i64]; omega
          cases hq : lessB (nth l j).1 (nth l (j + 1)).1 with
          | true =>
            have HU1 : Hid (∀ i, i < j + 1 + 1 → okAt l i = true) := ok_up HU.out ((ok_next hp).trans hq)
            have HL : ∀ w, Hid (Calls Tryz.prog 104 #[.agg #[.string (nth l j).1, .string (nth l j).2], .agg #[.string (nth l (j + 1)).1, .string (nth l (j + 1)).2]] w fun e w' => e = .returned (.bool true) ∧ Below w.heap.size w w') := fun w => (nameLess_any (nth l j) (nth l (j + 1)) w).mono fun e w' h => ⟨h.1.trans (retB hq), h.2⟩
            clear hp hc hq
            rw [ek]
            go_wp2
            generalize hz : wr.alloc _ = wz
            have HB1 : Hid (Below w.heap.size w wz) := by rw [← hz]; exact HB.out.alloc HB.out.size _
            have hne := Grown.some wz
            have kb : b < wz.heap.size := by rw [← hz]; simp; omega
            have kr : wr.heap.size < wz.heap.size := by rw [← hz]; simp
            have x0 := fun x : Grown wz => x.cell (p := ⟨wr.heap.size, 0, none⟩) (v := .string (nth l (j + 1)).1) kr (by rw [← hz]; simp)
            have x1 := fun x : Grown wz => x.cell (p := ⟨wr.heap.size, 1, none⟩) (v := .string (nth l (j + 1)).2) kr (by rw [← hz]; simp)
            have x2 := fun x : Grown wz => x.cell (p := ⟨b, off + j * 2, none⟩) (v := .string (nth l j).1) kb (by rw [← hz, World.cell?_alloc_lt _ _ _ hb]; exact h2)
            have x3 := fun x : Grown wz => x.cell (p := ⟨b, off + j * 2 + 1, none⟩) (v := .string (nth l j).2) kb (by rw [← hz, World.cell?_alloc_lt _ _ _ hb]; exact h3)
            clear hz h0 h1 h2 h3
            refine wp_over (z := wz) (by kernel_rfl) (by kernel_rfl) (Below.refl _ _) ?_
            repeat (go_big_quiet_step (first | (go_at_call 103; exact call_over (HC _).out) | (go_at_call 104; exact call_over (HL _).out)))
            refine wpQuiet_nil ?_
            intro w2 hw2
            have hb2 := over_bel hw2
            clear hw2 hne
            go_wp2
            go_roundw
            case rel => exact ⟨j + 1 + 1, by go_num, by omega, HU1.out, HB1.out.trans (hb2.mono HB1.out.size)⟩
            case measure => simp [intOf]; omega
          | false =>
            have HN : Hid (setB l = false) := set_bad hlt ((ok_next hp).trans hq)
            have HL : ∀ w, Hid (Calls Tryz.prog 104 #[.agg #[.string (nth l j).1, .string (nth l j).2], .agg #[.string (nth l (j + 1)).1, .string (nth l (j + 1)).2]] w fun e w' => e = .returned (.bool false) ∧ Below w.heap.size w w') := fun w => (nameLess_any (nth l j) (nth l (j + 1)) w).mono fun e w' h => ⟨h.1.trans (retB hq), h.2⟩
            clear hp hc hq
            rw [ek]
            go_wp2
            generalize hz : wr.alloc _ = wz
            have HB1 : Hid (Below w.heap.size w wz) := by rw [← hz]; exact HB.out.alloc HB.out.size _
            have hne := Grown.some wz
            have kb : b < wz.heap.size := by rw [← hz]; simp; omega
            have kr : wr.heap.size < wz.heap.size := by rw [← hz]; simp
            have x0 := fun x : Grown wz => x.cell (p := ⟨wr.heap.size, 0, none⟩) (v := .string (nth l (j + 1)).1) kr (by rw [← hz]; simp)
            have x1 := fun x : Grown wz => x.cell (p := ⟨wr.heap.size, 1, none⟩) (v := .string (nth l (j + 1)).2) kr (by rw [← hz]; simp)
            have x2 := fun x : Grown wz => x.cell (p := ⟨b, off + j * 2, none⟩) (v := .string (nth l j).1) kb (by rw [← hz, World.cell?_alloc_lt _ _ _ hb]; exact h2)
            have x3 := fun x : Grown wz => x.cell (p := ⟨b, off + j * 2 + 1, none⟩) (v := .string (nth l j).2) kb (by rw [← hz, World.cell?_alloc_lt _ _ _ hb]; exact h3)
            clear hz h0 h1 h2 h3
            refine wp_over (z := wz) (by kernel_rfl) (by kernel_rfl) (Below.refl _ _) ?_
            repeat (go_big_quiet_step (first | (go_at_call 103; exact call_over (HC _).out) | (go_at_call 104; exact call_over (HL _).out)))
            refine wpQuiet_nil ?_
            intro w2 hw2
            have hb2 := over_bel hw2
            clear hw2 hne
            go_wp2
            go_ret
            exact ⟨retB HN.out.symm, HB1.out.trans (hb2.mono HB1.out.size)⟩
    · have hge : ¬ (k : Int) < (l.length : Int) := by omega
      have HS : Hid (setB l = true) := (set_good fun j hj => HU.out j (by omega)).trans (decide_eq_true (by omega))
      go_wp2
      go_ret
      exact ⟨retB HS.out.symm, HB.out⟩
end Go.Proofs.YtgncimlojbnbfaaGreat.LabO
