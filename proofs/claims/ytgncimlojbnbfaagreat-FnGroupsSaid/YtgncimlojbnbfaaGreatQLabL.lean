/-
  PROVED: over two slices of labels in memory spec.SetLess and impl.SetLess answer alike, as a plain function on lists says; nothing that was there is changed.
-/
import Derived.Test.YtgncimlojbnbfaaGreatQLabS
import Derived.Deep.RegionHeld3
set_option linter.unusedVariables false
namespace Go.Proofs.YtgncimlojbnbfaaGreat.LabL
open Go.RowKit
open Labs LabS
open StrB (lessB retB drew_more specLess_any implLess_any)

theorem bel_drewN {B : Nat} {a w : World} (h : Below B a w) (n : Nat) : Below B a (w.drewN n) := ⟨h.os, h.tape, h.output, h.size, h.block⟩
theorem grow_on {z a b : World} (h : Below z.heap.size z a) (k : Below a.heap.size a b) : Below z.heap.size z b := h.trans (k.mono h.size)
def slB : List Lab → List Lab → Bool
  | [], m => decide (0 < m.length)
  | _ :: _, [] => false
  | x :: l, y :: m => if x = y then slB l m else llB x y
theorem sl_cut : ∀ {k : Nat} {l m : List Lab}, k ≤ l.length → k ≤ m.length → (∀ j, j < k → nth l j = nth m j) → slB l m = slB (l.drop k) (m.drop k)
  | 0, _, _, _, _, _ => rfl
  | k + 1, [], m, h, _, _ => by simp at h
  | k + 1, _ :: _, [], _, h, _ => by simp at h
  | k + 1, x :: l, y :: m, h1, h2, hj => by
    have h0 : x = y := hj 0 (by omega)
    rw [slB, if_pos h0]
    exact sl_cut (by simpa using h1) (by simpa using h2) fun j h => hj (j + 1) (by omega)
theorem sl_at {k : Nat} {l m : List Lab} (h1 : k < l.length) (h2 : k < m.length) (hj : ∀ j, j < k → nth l j = nth m j) (hne : nth l k ≠ nth m k) : slB l m = llB (nth l k) (nth m k) := by
  rw [sl_cut (Nat.le_of_lt h1) (Nat.le_of_lt h2) hj, List.drop_eq_getElem_cons h1, List.drop_eq_getElem_cons h2, slB, if_neg (by rwa [← nth_eq h1, ← nth_eq h2]), nth_eq h1, nth_eq h2]
theorem sl_end {k : Nat} {l m : List Lab} (h1 : k ≤ l.length) (h2 : k ≤ m.length) (he : k = l.length ∨ k = m.length) (hj : ∀ j, j < k → nth l j = nth m j) : slB l m = decide (l.length < m.length) := by
  rw [sl_cut h1 h2 hj]
  rcases he with rfl | rfl
  · rw [List.drop_length, slB, List.length_drop]; exact decide_eq_decide.2 (by omega)
  · rw [List.drop_length]
    cases h : l.drop m.length with
    | nil => rw [slB]; exact decide_eq_decide.2 (by have := congrArg List.length h; simp at this; simp; omega)
    | cons x t => rw [slB]; exact (decide_eq_false (by omega)).symm

theorem sl_name {k : Nat} {l m : List Lab} (h1 : k < l.length) (h2 : k < m.length) (hj : ∀ j, j < k → nth l j = nth m j) (hne : (nth l k).1 ≠ (nth m k).1) : slB l m = lessB (nth l k).1 (nth m k).1 := by
  rw [sl_at h1 h2 hj fun e => hne (by rw [e]), llB_ne hne]
theorem sl_val {k : Nat} {l m : List Lab} (h1 : k < l.length) (h2 : k < m.length) (hj : ∀ j, j < k → nth l j = nth m j) (h : (nth l k).1 = (nth m k).1) (hne : (nth l k).2 ≠ (nth m k).2) : slB l m = lessB (nth l k).2 (nth m k).2 := by
  rw [sl_at h1 h2 hj fun e => hne (by rw [e]), llB_eq h]
theorem up_one {k : Nat} {l m : List Lab} (hj : ∀ j, j < k → nth l j = nth m j) (he : nth l k = nth m k) : ∀ j, j < k + 1 → nth l j = nth m j := fun j h => by
  by_cases e : j = k
  · subst e; exact he
  · exact hj j (by omega)

set_option maxHeartbeats 800000 in
theorem specLessS_any (a a' : Option Addr) (cap cap' : Nat) (l m : List Lab) (w : World) (hr : Reads w a l) (hr' : Reads w a' m) (hl : l.length ≤ maxLen) (hm : m.length ≤ maxLen) :
    Calls Tryz.prog 66 #[.slice a l.length cap, .slice a' m.length cap'] w fun e w' => e = .returned (.bool (slB l m)) ∧ ∃ n, w' = w.drewN n := by
  unfold maxLen at hl hm
  have HR : Hid (Reads w a l) := hr
  have HR' : Hid (Reads w a' m) := hr'
  clear hr hr'
  go_enter Tryz.func66, Tryz.ntmps66
  go_wp2
  go_loopw [5] (fun i w' => ∃ k : Nat, i = .int .i64 k ∧ k ≤ l.length ∧ k ≤ m.length ∧ (∀ j, j < k → nth l j = nth m j) ∧ ∃ n, w' = w.drewN n) (fun i _ => l.length - (intOf i).toNat)
  case atStart => exact ⟨0, rfl, Nat.zero_le _, Nat.zero_le _, fun j h => by omega, 0, rfl⟩
  case round =>
    obtain ⟨k, rfl, hk, hk', hu, hw0⟩ := hrel
    have HU : Hid (∀ j, j < k → nth l j = nth m j) := hu
    have HW : Hid (∃ n, wr = w.drewN n) := hw0
    have HR1 : Hid (Reads wr a l) := HR.out.drew hw0
    have HR2 : Hid (Reads wr a' m) := HR'.out.drew hw0
    clear hw0 hu
    by_cases hlt : k < l.length
    · have hlt' : (k : Int) < (l.length : Int) := by omega
      by_cases hlu : k < m.length
      · have hlu' : (k : Int) < (m.length : Int) := by omega
        obtain ⟨b, off, rfl, hb, hc⟩ := HR1.out.get hlt
        obtain ⟨b', off', rfl, hb', hc'⟩ := HR2.out.get (i := k) (by omega)
        obtain ⟨h0, h1⟩ := hc k hlt
        obtain ⟨h2, h3⟩ := hc' k (by omega)
        clear hc hc'
        by_cases hn : (nth l k).1 = (nth m k).1
        · by_cases hv : (nth l k).2 = (nth m k).2
          · have HU1 : Hid (∀ j, j < k + 1 → nth l j = nth m j) := up_one HU.out (Prod.ext hn hv)
            have d1 := beqS_yes hn
            have d2 := beqS_yes hv
            clear hn hv
            go_wp2
            go_quiet (fail)
            go_wp2
            go_quiet (fail)
            go_wp2
            go_roundw
            case rel => exact ⟨k + 1, by go_num, by omega, by omega, HU1.out, drew_more HW.out _⟩
            case measure => simp [intOf]; omega
          · have HS : Hid (slB l m = lessB (nth l k).2 (nth m k).2) := sl_val hlt hlu HU.out hn hv
            have d1 := beqS_yes hn
            have d2 := beqS_no hv
            clear hn hv
            go_wp2
            go_quiet (fail)
            go_wp2
            go_quiet (fail)
            go_wp2
            generalize hz : (wr.drewN _).drewN _ = wz
            have HZ : Hid (∃ n, wz = w.drewN n) := by rw [← hz]; exact drew_more (drew_more HW.out _) _
            have k0 : wz.cell? ⟨b, off + k * 2, none⟩ = some (.string (nth l k).1) := by rw [← hz]; exact h0
            have k1 : wz.cell? ⟨b, off + k * 2 + 1, none⟩ = some (.string (nth l k).2) := by rw [← hz]; exact h1
            have k2 : wz.cell? ⟨b', off' + k * 2, none⟩ = some (.string (nth m k).1) := by rw [← hz]; exact h2
            have k3 : wz.cell? ⟨b', off' + k * 2 + 1, none⟩ = some (.string (nth m k).2) := by rw [← hz]; exact h3
            clear hz h0 h1 h2 h3
            go_quiet ((go_at_call 101; exact Calls.quiet_of_same (specLess_any _ _ _)))
            go_wp2
            go_ret
            exact ⟨retB HS.out.symm, drew_more HZ.out _⟩
        · have HS : Hid (slB l m = lessB (nth l k).1 (nth m k).1) := sl_name hlt hlu HU.out hn
          have d1 := beqS_no hn
          clear hn
          go_wp2
          go_quiet (fail)
          go_wp2
          generalize hz : wr.drewN _ = wz
          have HZ : Hid (∃ n, wz = w.drewN n) := by rw [← hz]; exact drew_more HW.out _
          have k0 : wz.cell? ⟨b, off + k * 2, none⟩ = some (.string (nth l k).1) := by rw [← hz]; exact h0
          have k1 : wz.cell? ⟨b, off + k * 2 + 1, none⟩ = some (.string (nth l k).2) := by rw [← hz]; exact h1
          have k2 : wz.cell? ⟨b', off' + k * 2, none⟩ = some (.string (nth m k).1) := by rw [← hz]; exact h2
          have k3 : wz.cell? ⟨b', off' + k * 2 + 1, none⟩ = some (.string (nth m k).2) := by rw [← hz]; exact h3
          clear hz h0 h1 h2 h3
          go_quiet ((go_at_call 101; exact Calls.quiet_of_same (specLess_any _ _ _)))
          go_wp2
          go_ret
          exact ⟨retB HS.out.symm, drew_more HZ.out _⟩
      · have hge : ¬ (k : Int) < (m.length : Int) := by omega
        have HS : Hid (slB l m = decide (l.length < m.length)) := sl_end hk hk' (.inr (by omega)) HU.out
        go_wp2
        go_ret
        exact ⟨retB HS.out.symm, HW.out⟩
    · have hge : ¬ (k : Int) < (l.length : Int) := by omega
      have HS : Hid (slB l m = decide (l.length < m.length)) := sl_end hk hk' (.inl (by omega)) HU.out
      go_wp2
      go_ret
      exact ⟨retB HS.out.symm, HW.out⟩

set_option maxHeartbeats 800000 in
theorem implLessS_any (a a' : Option Addr) (cap cap' : Nat) (l m : List Lab) (w : World) (hr : Reads w a l) (hr' : Reads w a' m) (hl : l.length ≤ maxLen) (hm : m.length ≤ maxLen) :
    Calls Tryz.prog 96 #[.slice a l.length cap, .slice a' m.length cap'] w fun e w' => e = .returned (.bool (slB l m)) ∧ Below w.heap.size w w' := by
  unfold maxLen at hl hm
  have HR : Hid (Reads w a l) := hr
  have HR' : Hid (Reads w a' m) := hr'
  clear hr hr'
  go_enter Tryz.func96, Tryz.ntmps96
  go_wp2
  go_loopw [9] (fun i w' => ∃ k : Nat, i = .int .i64 k ∧ k ≤ l.length ∧ k ≤ m.length ∧ (∀ j, j < k → nth l j = nth m j) ∧ Below w.heap.size w w') (fun i _ => l.length - (intOf i).toNat)
  case atStart => exact ⟨0, rfl, Nat.zero_le _, Nat.zero_le _, fun j h => by omega, Below.refl _ _⟩
  case round =>
    obtain ⟨k, rfl, hk, hk', hu, hw0⟩ := hrel
    have HU : Hid (∀ j, j < k → nth l j = nth m j) := hu
    have HB : Hid (Below w.heap.size w wr) := hw0
    have HB1 : ∀ o, Hid (Below w.heap.size w (wr.alloc o)) := fun o => hw0.alloc hw0.size o
    have HR1 : Hid (Reads wr a l) := HR.out.below hw0
    have HR2 : Hid (Reads wr a' m) := HR'.out.below hw0
    clear hw0 hu
    by_cases hlt : k < l.length
    · have hlt' : (k : Int) < (l.length : Int) := by omega
      obtain ⟨b, off, rfl, hb, hc⟩ := HR1.out.get hlt
      obtain ⟨h0, h1⟩ := hc k hlt
      clear hc
      by_cases hlu : k < m.length
      · have hlu' : (k : Int) < (m.length : Int) := by omega
        have hne : ¬ (k : Int) = (m.length : Int) := by omega
        obtain ⟨b', off', rfl, hb', hc'⟩ := HR2.out.get (i := k) (by omega)
        obtain ⟨h2, h3⟩ := hc' k (by omega)
        clear hc'
        by_cases he : nth l k = nth m k
        · have HU1 : Hid (∀ j, j < k + 1 → nth l j = nth m j) := up_one HU.out he
          obtain ⟨d1, d2⟩ := pair_yes he
          clear he
          go_wp2
          go_quiet (fail)
          go_wp2
          go_roundw
          case rel => exact ⟨k + 1, by go_num, by omega, by omega, HU1.out, bel_drewN (HB1 _).out _⟩
          case measure => simp [intOf]; omega
        · have HS : Hid (slB l m = llB (nth l k) (nth m k)) := sl_at hlt hlu HU.out he
          rcases pair_no he with d1 | ⟨d1, d2⟩
          · clear he
            go_wp2
            go_quiet (fail)
            go_wp2
            generalize hz : (wr.alloc (.cells #[.string (nth l k).1, .string (nth l k).2] 99)).drewN _ = wz
            have HZ : Hid (Below w.heap.size w wz) := by rw [← hz]; exact bel_drewN (HB1 _).out _
            have k2 : wz.cell? ⟨b', off' + k * 2, none⟩ = some (.string (nth m k).1) := by rw [← hz]; show (wr.alloc _).cell? _ = _; rw [World.cell?_alloc_lt _ _ _ hb']; exact h2
            have k3 : wz.cell? ⟨b', off' + k * 2 + 1, none⟩ = some (.string (nth m k).2) := by rw [← hz]; show (wr.alloc _).cell? _ = _; rw [World.cell?_alloc_lt _ _ _ hb']; exact h3
            have k4 : wz.cell? ⟨wr.heap.size, 0, none⟩ = some (.string (nth l k).1) := by rw [← hz]; show (wr.alloc _).cell? _ = _; simp
            have k5 : wz.cell? ⟨wr.heap.size, 1, none⟩ = some (.string (nth l k).2) := by rw [← hz]; show (wr.alloc _).cell? _ = _; simp
            have hsz : wr.heap.size ≤ wz.heap.size := by rw [← hz]; simp
            have hsz1 : wr.heap.size < wz.heap.size := by rw [← hz]; simp
            clear hz h0 h1 h2 h3
            have kb : b' < wz.heap.size := Nat.lt_of_lt_of_le hb' hsz
            have kr : wr.heap.size < wz.heap.size := hsz1
            have kz : Below wz.heap.size wz wz.drew := (Below.refl _ _).drew
            clear hsz hsz1
            go_region_held3 (fun w' => Below wz.heap.size wz w' ∧ w'.cell? ⟨b', off' + k * 2, none⟩ = some (.string (nth m k).1) ∧ w'.cell? ⟨b', off' + k * 2 + 1, none⟩ = some (.string (nth m k).2) ∧ w'.cell? ⟨wr.heap.size, 0, none⟩ = some (.string (nth l k).1) ∧ w'.cell? ⟨wr.heap.size, 1, none⟩ = some (.string (nth l k).2)) (first | go_keep | (go_split_ands; (have hq := grow_on (by assumption) hb2); exact ⟨hq, by rw [hq.cell kb]; exact k2, by rw [hq.cell kb]; exact k3, by rw [hq.cell kr]; exact k4, by rw [hq.cell kr]; exact k5⟩)) ((go_at_call 114; refine (labelLess_any (nth l k) (nth m k) _).mono ?_; rintro e w2 ⟨rfl, hb2⟩))
            go_wp2
            go_ret
            exact ⟨retB HS.out.symm, HZ.out.trans ((grow_on kz hb2).mono HZ.out.size)⟩
          · clear he
            go_wp2
            go_quiet (fail)
            go_wp2
            generalize hz : (wr.alloc (.cells #[.string (nth l k).1, .string (nth l k).2] 99)).drewN _ = wz
            have HZ : Hid (Below w.heap.size w wz) := by rw [← hz]; exact bel_drewN (HB1 _).out _
            have k2 : wz.cell? ⟨b', off' + k * 2, none⟩ = some (.string (nth m k).1) := by rw [← hz]; show (wr.alloc _).cell? _ = _; rw [World.cell?_alloc_lt _ _ _ hb']; exact h2
            have k3 : wz.cell? ⟨b', off' + k * 2 + 1, none⟩ = some (.string (nth m k).2) := by rw [← hz]; show (wr.alloc _).cell? _ = _; rw [World.cell?_alloc_lt _ _ _ hb']; exact h3
            have k4 : wz.cell? ⟨wr.heap.size, 0, none⟩ = some (.string (nth l k).1) := by rw [← hz]; show (wr.alloc _).cell? _ = _; simp
            have k5 : wz.cell? ⟨wr.heap.size, 1, none⟩ = some (.string (nth l k).2) := by rw [← hz]; show (wr.alloc _).cell? _ = _; simp
            have hsz : wr.heap.size ≤ wz.heap.size := by rw [← hz]; simp
            have hsz1 : wr.heap.size < wz.heap.size := by rw [← hz]; simp
            clear hz h0 h1 h2 h3
            have kb : b' < wz.heap.size := Nat.lt_of_lt_of_le hb' hsz
            have kr : wr.heap.size < wz.heap.size := hsz1
            have kz : Below wz.heap.size wz wz.drew := (Below.refl _ _).drew
            clear hsz hsz1
            go_region_held3 (fun w' => Below wz.heap.size wz w' ∧ w'.cell? ⟨b', off' + k * 2, none⟩ = some (.string (nth m k).1) ∧ w'.cell? ⟨b', off' + k * 2 + 1, none⟩ = some (.string (nth m k).2) ∧ w'.cell? ⟨wr.heap.size, 0, none⟩ = some (.string (nth l k).1) ∧ w'.cell? ⟨wr.heap.size, 1, none⟩ = some (.string (nth l k).2)) (first | go_keep | (go_split_ands; (have hq := grow_on (by assumption) hb2); exact ⟨hq, by rw [hq.cell kb]; exact k2, by rw [hq.cell kb]; exact k3, by rw [hq.cell kr]; exact k4, by rw [hq.cell kr]; exact k5⟩)) ((go_at_call 114; refine (labelLess_any (nth l k) (nth m k) _).mono ?_; rintro e w2 ⟨rfl, hb2⟩))
            go_wp2
            go_ret
            exact ⟨retB HS.out.symm, HZ.out.trans ((grow_on kz hb2).mono HZ.out.size)⟩
      · obtain rfl : k = m.length := by omega
        have HS : Hid (slB l m = false) := (sl_end hk hk' (.inr (by omega)) HU.out).trans (decide_eq_false (by omega))
        go_wp2
        go_ret
        exact ⟨retB HS.out.symm, (HB1 _).out⟩
    · have hge : ¬ (k : Int) < (l.length : Int) := by omega
      have HS : Hid (slB l m = decide (l.length < m.length)) := sl_end hk hk' (.inl (by omega)) HU.out
      go_wp2
      go_ret
      exact ⟨retB HS.out.symm, HB.out⟩
end Go.Proofs.YtgncimlojbnbfaaGreat.LabL
