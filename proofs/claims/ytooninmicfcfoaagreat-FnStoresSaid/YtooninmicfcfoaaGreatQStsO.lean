/-
  PROVED: over a slice of parts in memory spec.StoreOk and impl.StoreOk answer alike, as a plain function says; nothing that was there is changed.
-/
import Derived.Test.YtooninmicfcfoaaGreatQSts
import Derived.Test.YtooninmicfcfoaaGreatQPrtO
set_option linter.unusedVariables false
namespace Go.Proofs.YtooninmicfcfoaaGreat.StsO
open Go.RowKit
open Labs LabS Alms Rws Over Blk Chs Prt PrtO Sts
open StrB (retB)

def okS (S : List PPt) (k : Nat) : Bool := partOkB (nthT S k).C (nthT S k).hd (nthT S k).vr (k : Int) (S.length : Int)
def storeB (S : List PPt) : Bool := (List.range S.length).all (okS S) && Names.inB (S.length : Int) 1 3
theorem store_bad {S : List PPt} {k : Nat} (hk : k < S.length) (h : okS S k = false) : storeB S = false := by
  have : (List.range S.length).all (okS S) = false := by
    rw [List.all_eq_false]
    exact ⟨k, List.mem_range.2 hk, by rw [h]; simp⟩
  simp [storeB, this]
theorem store_good {S : List PPt} (h : ∀ k, k < S.length → okS S k = true) : storeB S = Names.inB (S.length : Int) 1 3 := by
  have : (List.range S.length).all (okS S) = true := by
    rw [List.all_eq_true]
    exact fun k hk => h k (List.mem_range.1 hk)
  simp [storeB, this]
theorem store_len {S : List PPt} (h : Names.inB (S.length : Int) 1 3 = false) : storeB S = false := by simp [storeB, h]
theorem up_ok {S : List PPt} {k : Nat} (h : ∀ j, j < k → okS S j = true) (hk : okS S k = true) : ∀ j, j < k + 1 → okS S j = true := fun j hj => by
  by_cases e : j = k
  · subst e; exact hk
  · exact h j (by omega)
theorem in_not {n : Nat} (h : n < 1 ∨ 3 < n) : Names.inB (n : Int) 1 3 = false := by unfold Names.inB; simp; omega
theorem in_yes {n : Nat} (h : ¬ (n < 1 ∨ 3 < n)) : Names.inB (n : Int) 1 3 = true := by unfold Names.inB; simp; omega

set_option maxHeartbeats 1600000 in
theorem specStore_any (a : Option Addr) (cap : Nat) (S : List PPt) (w : World) (hr : RdS RdA w a S) (hl : S.length ≤ 1048576) (hz : FitsT S) (hs : sumT S ≤ 1048576) :
    Calls Tryz.prog 45 #[.slice a S.length cap] w fun e w' => e = .returned (.bool (storeB S)) ∧ Below w.heap.size w w' := by
  have HR : Hid (RdS RdA w a S ∧ FitsT S ∧ sumT S ≤ 1048576) := ⟨hr, hz, hs⟩
  clear hr hz hs
  go_enter Tryz.func45, Tryz.ntmps45
  go_wp2
  go_loopw [3] (fun i w' => ∃ k : Nat, i = .int .i64 k ∧ k ≤ S.length ∧ (∀ j, j < k → okS S j = true) ∧ Below w.heap.size w w') (fun i _ => S.length - (intOf i).toNat)
  case atStart => exact ⟨0, rfl, Nat.zero_le _, fun j hj => by omega, Below.refl _ _⟩
  case round =>
    obtain ⟨k, rfl, hk, hu, hw0⟩ := hrel
    have HB : Hid (Below w.heap.size w wr ∧ ∀ j, j < k → okS S j = true) := ⟨hw0, hu⟩
    clear hw0 hu
    by_cases hlt : k < S.length
    · have hlt' : (k : Int) < (S.length : Int) := by omega
      obtain ⟨b, off, rfl, hb, ad, cp, hat⟩ := (HR.out.1.below stays_rd HB.out.1).get hlt
      have h2 := hat.c0
      have h3 := hat.c1
      have h4 := hat.c2
      have hsm := sumT_nth hlt
      have HC : Hid (Calls Tryz.prog 23 #[.agg #[.int .i64 (nthT S k).hd, .int .i64 (nthT S k).vr, .slice ad (nthT S k).C.length cp], .int .i64 k, .int .i64 S.length] wr fun e w' => e = .returned (.bool (okS S k)) ∧ Below wr.heap.size wr w') := specPartOk_any _ _ _ _ ad cp _ wr hat.reads (by have := HR.out.2.2; omega) (HR.out.2.1 _ (nthT_mem hlt)).fits (small_of (by have := HR.out.2.2; omega)) ⟨by omega, by omega⟩
      clear hat hsm
      go_wp2_with fail
      refine HC.out.mono ?_
      rintro e w1 ⟨rfl, hb1⟩
      have HB1 : Hid (Below w.heap.size w w1) := grow_on HB.out.1 hb1
      clear hb1 h2 h3 h4 HC
      cases hq : okS S k with
      | true =>
        have HU : Hid (∀ j, j < k + 1 → okS S j = true) := up_ok HB.out.2 hq
        clear hq
        go_wp2
        go_roundw
        case rel => exact ⟨k + 1, by go_num, by omega, HU.out, HB1.out⟩
        case measure => simp [intOf]; omega
      | false =>
        have HU : Hid (storeB S = false) := store_bad hlt hq
        clear hq
        go_wp2
        go_ret
        exact ⟨retB HU.out.symm, HB1.out⟩
    · have hge : ¬ (k : Int) < (S.length : Int) := by omega
      have HE : Hid (storeB S = Names.inB (S.length : Int) 1 3) := store_good fun j hj => HB.out.2 j (by omega)
      go_wp2_with fail
      refine (Names.l1In_any _ 1 3 _).mono ?_
      rintro e w2 ⟨rfl, rfl⟩
      go_wp2
      go_ret
      exact ⟨retB HE.out.symm, HB.out.1⟩
set_option maxHeartbeats 1600000 in
theorem implStore_any (a : Option Addr) (cap : Nat) (S : List PPt) (w : World) (hr : RdS RdA w a S) (hl : S.length ≤ 1048576) (hz : FitsT S) (hs : sumT S ≤ 1048576) :
    Calls Tryz.prog 33 #[.slice a S.length cap] w fun e w' => e = .returned (.bool (storeB S)) ∧ Below w.heap.size w w' := by
  have HR : Hid (RdS RdA w a S ∧ FitsT S ∧ sumT S ≤ 1048576) := ⟨hr, hz, hs⟩
  clear hr hz hs
  by_cases h1 : S.length < 1
  · have HE : Hid (storeB S = false) := store_len (in_not (.inl h1))
    have h1' : (S.length : Int) < 1 := by omega
    go_enter Tryz.func33, Tryz.ntmps33
    go_wp2
    go_ret
    exact ⟨retB HE.out.symm, Below.refl _ _⟩
  have h1' : ¬ (S.length : Int) < 1 := by omega
  by_cases h3 : 3 < S.length
  · have HE : Hid (storeB S = false) := store_len (in_not (.inr h3))
    have h3' : (3 : Int) < (S.length : Int) := by omega
    go_enter Tryz.func33, Tryz.ntmps33
    go_wp2
    go_ret
    exact ⟨retB HE.out.symm, Below.refl _ _⟩
  have h3' : ¬ (3 : Int) < (S.length : Int) := by omega
  go_enter Tryz.func33, Tryz.ntmps33
  go_wp2
  go_loopw [15] (fun i w' => ∃ k : Nat, i = .int .i64 k ∧ k ≤ S.length ∧ (∀ j, j < k → okS S j = true) ∧ Below w.heap.size w w') (fun i _ => S.length - (intOf i).toNat)
  case atStart => exact ⟨0, rfl, Nat.zero_le _, fun j hj => by omega, Below.refl _ _⟩
  case round =>
    obtain ⟨k, rfl, hk, hu, hw0⟩ := hrel
    have HB : Hid (Below w.heap.size w wr ∧ ∀ j, j < k → okS S j = true) := ⟨hw0, hu⟩
    clear hw0 hu
    by_cases hlt : k < S.length
    · have hlt' : (k : Int) < (S.length : Int) := by omega
      obtain ⟨b, off, rfl, hb, ad, cp, hat⟩ := (HR.out.1.below stays_rd HB.out.1).get hlt
      have h2 := hat.c0
      have h3 := hat.c1
      have h4 := hat.c2
      have hsm := sumT_nth hlt
      have HC : Hid (∀ z, Below wr.heap.size wr z → Calls Tryz.prog 22 #[.agg #[.int .i64 (nthT S k).hd, .int .i64 (nthT S k).vr, .slice ad (nthT S k).C.length cp], .int .i64 k, .int .i64 S.length] z fun e w' => e = .returned (.bool (okS S k)) ∧ Below z.heap.size z w') := fun z hz => implPartOk_any _ _ _ _ ad cp _ z (hat.reads.below stays_rd hz) (by have := HR.out.2.2; omega) (HR.out.2.1 _ (nthT_mem hlt)).fits (small_of (by have := HR.out.2.2; omega)) ⟨by omega, by omega⟩
      clear hat hsm
      go_wp2_with fail
      refine (HC.out _ (Go.Joins.below_alloc1 wr _)).mono ?_
      rintro e w1 ⟨rfl, hb1⟩
      have HB1 : Hid (Below w.heap.size w w1) := grow_on (grow_on HB.out.1 (Go.Joins.below_alloc1 wr _)) hb1
      clear hb1 h2 h3 h4 HC
      cases hq : okS S k with
      | true =>
        have HU : Hid (∀ j, j < k + 1 → okS S j = true) := up_ok HB.out.2 hq
        clear hq
        go_wp2
        go_roundw
        case rel => exact ⟨k + 1, by go_num, by omega, HU.out, HB1.out⟩
        case measure => simp [intOf]; omega
      | false =>
        have HU : Hid (storeB S = false) := store_bad hlt hq
        clear hq
        go_wp2
        go_ret
        exact ⟨retB HU.out.symm, HB1.out⟩
    · have hge : ¬ (k : Int) < (S.length : Int) := by omega
      have HE : Hid (storeB S = true) := (store_good fun j hj => HB.out.2 j (by omega)).trans (in_yes (by omega))
      go_wp2
      go_ret
      exact ⟨retB HE.out.symm, HB.out.1⟩
end Go.Proofs.YtooninmicfcfoaaGreat.StsO
