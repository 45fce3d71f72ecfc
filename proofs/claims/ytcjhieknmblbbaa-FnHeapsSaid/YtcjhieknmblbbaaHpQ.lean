/-
  PROVED: laws.sameHeap tells whether two slices of timers hold the same; nothing that was there is changed.
-/
import Derived.Test.YtcjhieknmblbbaaTmO
namespace Go.Proofs.Ytcjhieknmblbbaa.HpQ
open Go.RowKit
open Go.Proofs.Ytcjhieknmblbbaa.Hp Go.Proofs.Ytcjhieknmblbbaa.Tms Go.Proofs.Ytcjhieknmblbbaa.TmO Go.Proofs.Ytcjhieknmblbbaa.Over Go.Proofs.Ytcjhieknmblbbaa.Blk
set_option linter.unusedVariables false
set_option maxHeartbeats 800000 in
theorem sameHeap_any (a a' : Option Addr) (cap cap' : Nat) (l m : List Tm) (w : World) (hr : RdT w a l) (hr' : RdT w a' m) (hl : l.length ≤ maxLen) (hm : m.length ≤ maxLen) :
    Calls Try.prog 17 #[.slice a l.length cap, .slice a' m.length cap'] w fun e w' => e = .returned (.bool (decide (l = m))) ∧ Below w.heap.size w w' := by
  unfold maxLen at hl hm
  have HR : Hid (RdT w a l) := hr
  have HR' : Hid (RdT w a' m) := hr'
  clear hr hr'
  by_cases hlen : l.length = m.length
  · have hlen' : ((l.length : Int) != (m.length : Int)) = false := by simp; omega
    have HLN : Hid (l.length = m.length) := hlen
    obtain ⟨n, hn⟩ : ∃ n, l.length = n := ⟨_, rfl⟩
    have hmn : m.length = n := by omega
    have HL : Hid (l.length = n ∧ m.length = n) := ⟨hn, hmn⟩
    rw [hn, hmn] at hlen' 
    rw [hn] at hl
    rw [hn, hmn]
    clear hlen hn hmn hm
    go_enter Try.func17, Try.ntmps17
    go_wp2
    go_loopw [5] (fun i w' => ∃ k : Nat, i = .int .i64 k ∧ k ≤ n ∧ (∀ j, j < k → nthT l j = nthT m j) ∧ Below w.heap.size w w') (fun i _ => n - (intOf i).toNat)
    case atStart => exact ⟨0, rfl, Nat.zero_le _, fun j h => by omega, Below.refl _ _⟩
    case round =>
      obtain ⟨k, rfl, hk, hu, hw0⟩ := hrel
      have HU : Hid (∀ j, j < k → nthT l j = nthT m j) := hu
      have HB : Hid (Below w.heap.size w wr) := hw0
      have HR1 : Hid (RdT wr a l) := HR.out.below hw0
      have HR2 : Hid (RdT wr a' m) := HR'.out.below hw0
      clear hw0 hu
      by_cases hlt : k < n
      · have hlt' : (k : Int) < (n : Int) := by omega
        obtain ⟨b, off, rfl, hb, hc⟩ := HR1.out.get (i := k) (by rw [HL.out.1]; exact hlt)
        obtain ⟨b', off', rfl, hb', hc'⟩ := HR2.out.get (i := k) (by rw [HL.out.2]; exact hlt)
        obtain ⟨h0, h1⟩ := hc k (by rw [HL.out.1]; exact hlt)
        obtain ⟨h2, h3⟩ := hc' k (by rw [HL.out.2]; exact hlt)
        have hne := Grown.some wr
        have x0 := fun x : Grown wr => x.cell hb h0
        have x1 := fun x : Grown wr => x.cell hb h1
        have x2 := fun x : Grown wr => x.cell hb' h2
        have x3 := fun x : Grown wr => x.cell hb' h3
        clear hc hc' h0 h1 h2 h3
        by_cases he : nthT l k = nthT m k
        · have HU1 : Hid (∀ j, j < k + 1 → nthT l j = nthT m j) := fun j hj => by
            by_cases e : j = k
            · subst e; exact he
            · exact HU.out j (by omega)
          have e1 : ((nthT l k).1 == (nthT m k).1) = true := by rw [he]; simp
          have e2 : ((nthT l k).2 == (nthT m k).2) = true := by rw [he]; simp
          clear he
          go_wp2
          refine wp_over (z := wr) (by kernel_rfl) (by kernel_rfl) (Below.refl _ _) ?_
          repeat (go_big_quiet_step (fail))
          refine wpQuiet_nil ?_
          intro w2 hw2
          have hb2 := over_bel hw2
          clear hw2 hne
          go_wp2
          go_roundw
          case rel => exact ⟨k + 1, by go_num, by omega, HU1.out, HB.out.trans (hb2.mono HB.out.size)⟩
          case measure => simp [intOf]; omega
        · have HN : Hid (decide (l = m) = false) := decide_eq_false fun e => he (by rw [e])
          by_cases f1 : (nthT l k).1 = (nthT m k).1
          · have f2 : (nthT l k).2 ≠ (nthT m k).2 := fun e => he (Prod.ext f1 e)
            have e1 : ((nthT l k).1 == (nthT m k).1) = true := by simpa using f1
            have e2 : ((nthT l k).2 == (nthT m k).2) = false := by simpa using f2
            clear he f1 f2
            go_wp2
            refine wp_over (z := wr) (by kernel_rfl) (by kernel_rfl) (Below.refl _ _) ?_
            repeat (go_big_quiet_step (fail))
            refine wpQuiet_nil ?_
            intro w2 hw2
            have hb2 := over_bel hw2
            clear hw2 hne
            go_wp2
            go_ret
            exact ⟨retB HN.out.symm, HB.out.trans (hb2.mono HB.out.size)⟩
          · have e1 : ((nthT l k).1 == (nthT m k).1) = false := by simpa using f1
            clear he f1
            cases e2 : ((nthT l k).2 == (nthT m k).2) with
            | true =>
              go_wp2
              refine wp_over (z := wr) (by kernel_rfl) (by kernel_rfl) (Below.refl _ _) ?_
              repeat (go_big_quiet_step (fail))
              refine wpQuiet_nil ?_
              intro w2 hw2
              have hb2 := over_bel hw2
              clear hw2 hne
              go_wp2
              go_ret
              exact ⟨retB HN.out.symm, HB.out.trans (hb2.mono HB.out.size)⟩
            | false =>
              go_wp2
              refine wp_over (z := wr) (by kernel_rfl) (by kernel_rfl) (Below.refl _ _) ?_
              repeat (go_big_quiet_step (fail))
              refine wpQuiet_nil ?_
              intro w2 hw2
              have hb2 := over_bel hw2
              clear hw2 hne
              go_wp2
              go_ret
              exact ⟨retB HN.out.symm, HB.out.trans (hb2.mono HB.out.size)⟩
      · have hge : ¬ (k : Int) < (n : Int) := by omega
        have HY : Hid (decide (l = m) = true) := decide_eq_true (ext_nth (by rw [HL.out.1, HL.out.2]) fun j hj => HU.out j (by rw [HL.out.1] at hj; omega))
        go_wp2
        go_ret
        exact ⟨retB HY.out.symm, HB.out⟩
  · have hlen' : ((l.length : Int) != (m.length : Int)) = true := by simp; omega
    have HN : Hid (decide (l = m) = false) := decide_eq_false fun e => hlen (by rw [e])
    clear hlen
    go_enter Try.func17, Try.ntmps17
    go_wp2
    go_ret
    exact ⟨retB HN.out.symm, Below.refl _ _⟩
end Go.Proofs.Ytcjhieknmblbbaa.HpQ
