/-
  PROVED: spec.MemberOf answers the number of the first group that has an alarm of these labels; nothing that was there is changed.
-/
import Derived.Test.YtgncimlojbnbfabGpD
namespace Go.Proofs.Ytgncimlojbnbfab.GpMe
open Go.RowKit
open Go.Proofs.Ytgncimlojbnbfab.Labs Go.Proofs.Ytgncimlojbnbfab.LabS Go.Proofs.Ytgncimlojbnbfab.Alms Go.Proofs.Ytgncimlojbnbfab.Over Go.Proofs.Ytgncimlojbnbfab.Blk Go.Proofs.Ytgncimlojbnbfab.App Go.Proofs.Ytgncimlojbnbfab.ChnI Go.Proofs.Ytgncimlojbnbfab.ChnC Go.Proofs.Ytgncimlojbnbfab.Gps Go.Proofs.Ytgncimlojbnbfab.GpD
set_option linter.unusedVariables false
def SmQ (U : List PGr) : Prop := ∀ x ∈ U, x.P.length ≤ 1048576 ∧ LenM x.P
set_option maxHeartbeats 3200000 in
theorem specMem_any (a sa : Option Addr) (cap sc : Nat) (U : List PGr) (s : List Lab) (w : World) (hr : RdGs GA w a U) (hk : Reads w sa s) (hl : U.length ≤ 1048576) (hsl : s.length ≤ maxLen) (hz : SmQ U) :
    Calls Try.prog 6 #[.slice a U.length cap, .slice sa s.length sc] w fun e w' => e = .returned (.int .i64 (memG U s)) ∧ Below w.heap.size w w' := by
  have HR : Hid (RdGs GA w a U ∧ Reads w sa s ∧ s.length ≤ maxLen ∧ SmQ U) := ⟨hr, hk, hsl, hz⟩
  clear hr hk hsl hz
  go_enter Try.func6, Try.ntmps6
  go_wp2
  go_loopw [5] (fun i w' => ∃ k : Nat, i = .int .i64 k ∧ k ≤ U.length ∧ (∀ j, j < k → hasL s (nthG U j) = false) ∧ Below w.heap.size w w') (fun i _ => U.length - (intOf i).toNat)
  case atStart => exact ⟨0, rfl, Nat.zero_le _, fun j h => by omega, Below.refl _ _⟩
  case round =>
    obtain ⟨k, rfl, hk, hu, hw0⟩ := hrel
    have HU : Hid (∀ j, j < k → hasL s (nthG U j) = false) := hu
    have HB : Hid (Below w.heap.size w wr) := hw0
    generalize wr = z at *
    clear hu hw0
    by_cases hlt : k < U.length
    · have hlt' : (k : Int) < (U.length : Int) := by omega
      obtain ⟨b, off, rfl, hbz, ka, kc, ad, cp, hat⟩ := (HR.out.1.below stays_ga HB.out).get hlt
      have HA : Hid (AtG GA z b off k (nthG U k) ka kc ad cp) := hat
      have HSQ : Hid ((nthG U k).P.length ≤ 1048576 ∧ LenM (nthG U k).P) := HR.out.2.2.2 _ (nthG_mem hlt)
      have hPl := HSQ.out.1
      clear hat
      go_wp2
      go_loopw [6] (fun i w' => ∃ j : Nat, i = .int .i64 j ∧ j ≤ (nthG U k).P.length ∧ (∀ q, q < j → (nthP (nthG U k).P q).l ≠ s) ∧ Below z.heap.size z w') (fun i _ => (nthG U k).P.length - (intOf i).toNat)
      case atStart => exact ⟨0, rfl, Nat.zero_le _, fun q hq => by omega, Below.refl _ _⟩
      case round =>
        obtain ⟨j, rfl, hj, hq, hbj⟩ := hrel
        have HQ : Hid (∀ q, q < j → (nthP (nthG U k).P q).l ≠ s) := hq
        have HBJ : Hid (Below z.heap.size z wr) := hbj
        have c4 : wr.cell? ⟨b, off + k * 5 + 4, none⟩ = some (.slice ad (nthG U k).P.length cp) := (hbj.cell (p := ⟨b, off + k * 5 + 4, none⟩) hbz).trans HA.out.c4
        have c0 : wr.cell? ⟨b, off + k * 5, none⟩ = some (.int .i64 (nthG U k).n) := (hbj.cell (p := ⟨b, off + k * 5, none⟩) hbz).trans HA.out.c0
        clear hq hbj
        by_cases hjl : j < (nthG U k).P.length
        · have hjl' : (j : Int) < ((nthG U k).P.length : Int) := by omega
          obtain ⟨b2, off2, rfl, hb2, la, lc, hat2⟩ := (HA.out.reads.2.below HBJ.out).get hjl
          have d0 := hat2.c0
          have HC : Hid (Calls Try.prog 14 #[.slice la (nthP (nthG U k).P j).l.length lc, .slice sa s.length sc] wr fun e w' => e = .returned (.bool (decide ((nthP (nthG U k).P j).l = s))) ∧ Below wr.heap.size wr w') := calls_drew (specSame_any la sa lc sc (nthP (nthG U k).P j).l s wr hat2.reads (HR.out.2.1.below (grow_on HB.out HBJ.out)) (by have := HSQ.out.2 j hjl; unfold maxLen; omega) HR.out.2.2.1)
          clear hat2
          cases hd : decide ((nthP (nthG U k).P j).l = s) with
          | true =>
            rw [hd] at HC
            have HE : Hid (memG U s = (nthG U k).n) := memG_at hlt HU.out (hasL_yes hjl (of_decide_eq_true hd))
            clear hd
            go_wp2_with fail
            refine HC.out.mono ?_
            rintro e w2 ⟨rfl, hb⟩
            have HB2 : Hid (Below z.heap.size z w2) := grow_on HBJ.out hb
            have e0 : w2.cell? ⟨b, off + k * 5, none⟩ = some (.int .i64 (nthG U k).n) := (HB2.out.cell (p := ⟨b, off + k * 5, none⟩) hbz).trans HA.out.c0
            clear hb c4 c0 d0 HC
            go_wp2
            go_ret
            exact ⟨retN HE.out.symm, grow_on HB.out HB2.out⟩
          | false =>
            rw [hd] at HC
            have HQ1 : Hid (∀ q, q < j + 1 → (nthP (nthG U k).P q).l ≠ s) := fun q hq => by
              by_cases e : q = j
              · rw [e]; exact of_decide_eq_false hd
              · exact HQ.out q (by omega)
            clear hd
            go_wp2_with fail
            refine HC.out.mono ?_
            rintro e w2 ⟨rfl, hb⟩
            have HB2 : Hid (Below z.heap.size z w2) := grow_on HBJ.out hb
            clear hb c4 c0 d0 HC
            go_wp2
            go_roundw
            case rel => exact ⟨j + 1, by go_num, by omega, HQ1.out, HB2.out⟩
            case measure => simp [intOf]; omega
        · have hje : ¬ (j : Int) < ((nthG U k).P.length : Int) := by omega
          have HU1 : Hid (∀ i, i < k + 1 → hasL s (nthG U i) = false) := fun i hi => by
            by_cases e : i = k
            · rw [e]; exact hasL_no fun q hq => HQ.out q (by omega)
            · exact HU.out i (by omega)
          go_wp2
          go_roundw
          case rel => exact ⟨k + 1, by go_num, by omega, HU1.out, grow_on HB.out HBJ.out⟩
          case measure => simp [intOf]; omega
    · have hge : ¬ (k : Int) < (U.length : Int) := by omega
      have HE : Hid (memG U s = -1) := memG_end fun j hj => HU.out j (by omega)
      go_wp2
      go_ret
      exact ⟨retN HE.out.symm, HB.out⟩
end Go.Proofs.Ytgncimlojbnbfab.GpMe
