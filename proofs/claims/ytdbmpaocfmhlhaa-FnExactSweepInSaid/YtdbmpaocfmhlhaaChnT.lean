/-
  PROVED: over two chains in memory spec.SameChain and impl.SameChain answer alike, as a plain function on lists says; spec.l4All and spec.l6Copy give the same alarms in memory of their own; nothing that was there is changed.
-/
import Derived.Test.YtdbmpaocfmhlhaaChnS
import Derived.Test.YtdbmpaocfmhlhaaChnD
namespace Go.Proofs.Ytdbmpaocfmhlhaa.ChnT
open Go.RowKit
open Go.Proofs.Ytdbmpaocfmhlhaa.Labs Go.Proofs.Ytdbmpaocfmhlhaa.LabS Go.Proofs.Ytdbmpaocfmhlhaa.Alms Go.Proofs.Ytdbmpaocfmhlhaa.AlmS Go.Proofs.Ytdbmpaocfmhlhaa.AlmM Go.Proofs.Ytdbmpaocfmhlhaa.Over Go.Proofs.Ytdbmpaocfmhlhaa.Blk Go.Proofs.Ytdbmpaocfmhlhaa.App Go.Proofs.Ytdbmpaocfmhlhaa.Rws Go.Proofs.Ytdbmpaocfmhlhaa.ChnI Go.Proofs.Ytdbmpaocfmhlhaa.ChnC Go.Proofs.Ytdbmpaocfmhlhaa.ChnP Go.Proofs.Ytdbmpaocfmhlhaa.ChnD Go.Proofs.Ytdbmpaocfmhlhaa.ChnS
open Go.Proofs.Ytdbmpaocfmhlhaa.StrB (retB)
open Go.Proofs.Ytdbmpaocfmhlhaa.Alm (at_par)
set_option linter.unusedVariables false

set_option maxHeartbeats 1600000 in
theorem equalF_any (a a' : Option Addr) (cap cap' : Nat) (P Q : List PAl) (w : World) (hr : RdA w a P) (hr' : RdA w a' Q) (hl : P.length ≤ 1048576) (hl' : Q.length ≤ 1048576) (hs : LenP P) (hs' : LenP Q) :
    Calls Try.prog 76 #[.slice a P.length cap, .slice a' Q.length cap', .func (.func 77) #[] #[]] w fun e w' => e = .returned (.bool (sameLB P Q)) ∧ Below w.heap.size w w' := by
  have HR : Hid (RdA w a P ∧ RdA w a' Q ∧ LenP P ∧ LenP Q) := ⟨hr, hr', hs, hs'⟩
  clear hr hr' hs hs'
  by_cases hlen : P.length = Q.length
  · have HL : Hid (P.length = Q.length) := hlen
    rw [← hlen]
    clear hlen hl'
    go_enter Try.func76, Try.ntmps76
    go_wp2
    go_loopw [17] (fun i w' => ∃ k : Nat, i = .int .i64 k ∧ k ≤ P.length ∧ (∀ j, j < k → sameX (nthP P j) (nthP Q j) = true) ∧ Below w.heap.size w w') (fun i _ => P.length - (intOf i).toNat)
    case atStart => exact ⟨0, rfl, Nat.zero_le _, fun j h => by omega, Below.refl _ _⟩
    case round =>
      obtain ⟨k, rfl, hk, hu, hw0⟩ := hrel
      have HU : Hid (∀ j, j < k → sameX (nthP P j) (nthP Q j) = true) := hu
      have HB : Hid (Below w.heap.size w wr) := hw0
      clear hw0 hu
      by_cases hlt : k < P.length
      · have hlt' : (k : Int) < (P.length : Int) := by omega
        have hltQ : k < Q.length := by rw [← HL.out]; exact hlt
        obtain ⟨b, off, rfl, hb, ad, cp, hat⟩ := (HR.out.1.below HB.out).get hlt
        obtain ⟨b', off', rfl, hb', ad', cp', hat'⟩ := (HR.out.2.1.below HB.out).get hltQ
        have x0 := hat.c0
        have x1 := hat.c1
        have x2 := hat.c2
        have x3 := hat.c3
        generalize hO : Obj.cells #[.slice ad (nthP P k).l.length cp, .int .i64 (nthP P k).s, .int .i64 (nthP P k).e, .string (nthP P k).n] 38 = Ob
        have hba := Go.Joins.below_alloc1 wr Ob
        have y0 := (hba.cell (p := ⟨b', off' + k * 4, none⟩) hb').trans hat'.c0
        have y1 := (hba.cell (p := ⟨b', off' + k * 4 + 1, none⟩) hb').trans hat'.c1
        have y2 := (hba.cell (p := ⟨b', off' + k * 4 + 2, none⟩) hb').trans hat'.c2
        have y3 := (hba.cell (p := ⟨b', off' + k * 4 + 3, none⟩) hb').trans hat'.c3
        subst hO
        clear hba
        have HC : Hid (∀ x, Below wr.heap.size wr x → Calls Try.prog 77 #[.agg #[.slice ad (nthP P k).l.length cp, .int .i64 (nthP P k).s, .int .i64 (nthP P k).e, .string (nthP P k).n], .agg #[.slice ad' (nthP Q k).l.length cp', .int .i64 (nthP Q k).s, .int .i64 (nthP Q k).e, .string (nthP Q k).n]] x fun e w' => e = .returned (.bool (sameX (nthP P k) (nthP Q k))) ∧ Below x.heap.size x w') := fun x hx => implSameA_any ad ad' cp cp' _ _ _ _ _ _ _ _ x (hat.reads.below hx) (hat'.reads.below hx) (HR.out.2.2.1 k hlt) (HR.out.2.2.2 k hltQ)
        clear hat hat' hltQ
        cases hx : sameX (nthP P k) (nthP Q k) with
        | true =>
          rw [hx] at HC
          have HU1 : Hid (∀ j, j < k + 1 → sameX (nthP P j) (nthP Q j) = true) := fun j hj => by
            by_cases e : j = k
            · subst e; exact hx
            · exact HU.out j (by omega)
          clear hx
          go_wp2_with fail
          refine (HC.out _ (Go.Joins.below_alloc2 wr _ _)).mono ?_
          rintro e w2 ⟨rfl, hb2⟩
          have HB2 : Hid (Below w.heap.size w w2) := grow_on HB.out (grow_on (Go.Joins.below_alloc2 wr _ _) hb2)
          clear hb2 x0 x1 x2 x3 y0 y1 y2 y3 HC
          go_wp2
          go_roundw
          case rel => exact ⟨k + 1, by go_num, by omega, HU1.out, HB2.out⟩
          case measure => simp [intOf]; omega
        | false =>
          rw [hx] at HC
          have HE : Hid (sameLB P Q = false) := same_bad hlt hx
          clear hx
          go_wp2_with fail
          refine (HC.out _ (Go.Joins.below_alloc2 wr _ _)).mono ?_
          rintro e w2 ⟨rfl, hb2⟩
          have HB2 : Hid (Below w.heap.size w w2) := grow_on HB.out (grow_on (Go.Joins.below_alloc2 wr _ _) hb2)
          clear hb2 x0 x1 x2 x3 y0 y1 y2 y3 HC
          go_wp2
          go_ret
          exact ⟨retB HE.out.symm, HB2.out⟩
      · have hge : ¬ (k : Int) < (P.length : Int) := by omega
        have HE : Hid (sameLB P Q = true) := same_good HL.out fun j hj => HU.out j (by omega)
        go_wp2
        go_ret
        exact ⟨retB HE.out.symm, HB.out⟩
  · have HE : Hid (sameLB P Q = false) := same_len hlen
    have hne : ¬ (P.length : Int) = (Q.length : Int) := by omega
    go_enter Try.func76, Try.ntmps76
    go_wp2
    go_ret
    exact ⟨retB HE.out.symm, Below.refl _ _⟩

/-- whether two chains are the same -/
def sameCB (f : Int) (P : List PAl) (f' : Int) (Q : List PAl) : Bool := decide (f = f') && sameLB P Q
theorem sameC_y {f f' : Int} {P Q : List PAl} (h : f = f') : sameCB f P f' Q = sameLB P Q := by simp [sameCB, h]
theorem sameC_n {f f' : Int} {P Q : List PAl} (h : f ≠ f') : sameCB f P f' Q = false := by simp [sameCB, h]
set_option maxHeartbeats 800000 in
theorem specSameC_any (f f' : Int) (a a' : Option Addr) (cap cap' : Nat) (P Q : List PAl) (w : World) (hr : RdA w a P) (hr' : RdA w a' Q) (hl : P.length ≤ 1048576) (hl' : Q.length ≤ 1048576) (hs : LenP P) (hs' : LenP Q) :
    Calls Try.prog 43 #[.agg #[.int .i64 f, .slice a P.length cap], .agg #[.int .i64 f', .slice a' Q.length cap']] w fun e w' => e = .returned (.bool (sameCB f P f' Q)) ∧ Below w.heap.size w w' := by
  have HR : Hid (RdA w a P ∧ RdA w a' Q ∧ LenP P ∧ LenP Q) := ⟨hr, hr', hs, hs'⟩
  clear hr hr' hs hs'
  by_cases hf : f = f'
  · have HE : Hid (sameCB f P f' Q = sameLB P Q) := sameC_y hf
    subst hf
    go_enter Try.func43, Try.ntmps43
    go_wp2_with fail
    refine (l4Same_any a a' cap cap' P Q _ (HR.out.1.below (Go.Joins.below_alloc2 w _ _)) (HR.out.2.1.below (Go.Joins.below_alloc2 w _ _)) hl hl' HR.out.2.2.1 HR.out.2.2.2).mono ?_
    rintro e w2 ⟨rfl, hb⟩
    have HB : Hid (Below w.heap.size w w2) := grow_on (Go.Joins.below_alloc2 w _ _) hb
    clear hb
    go_wp2
    go_ret
    exact ⟨retB HE.out.symm, HB.out⟩
  · have HE : Hid (sameCB f P f' Q = false) := sameC_n hf
    go_enter Try.func43, Try.ntmps43
    go_wp2
    go_ret
    exact ⟨retB HE.out.symm, Go.Joins.below_alloc2 w _ _⟩
set_option maxHeartbeats 800000 in
theorem implSameC_any (f f' : Int) (a a' : Option Addr) (cap cap' : Nat) (P Q : List PAl) (w : World) (hr : RdA w a P) (hr' : RdA w a' Q) (hl : P.length ≤ 1048576) (hl' : Q.length ≤ 1048576) (hs : LenP P) (hs' : LenP Q) :
    Calls Try.prog 45 #[.agg #[.int .i64 f, .slice a P.length cap], .agg #[.int .i64 f', .slice a' Q.length cap']] w fun e w' => e = .returned (.bool (sameCB f P f' Q)) ∧ Below w.heap.size w w' := by
  have HR : Hid (RdA w a P ∧ RdA w a' Q ∧ LenP P ∧ LenP Q) := ⟨hr, hr', hs, hs'⟩
  clear hr hr' hs hs'
  by_cases hf : f = f'
  · have HE : Hid (sameCB f P f' Q = sameLB P Q) := sameC_y hf
    subst hf
    go_enter Try.func45, Try.ntmps45
    go_wp2_with fail
    refine (equalF_any a a' cap cap' P Q _ (HR.out.1.below (Go.Joins.below_alloc2 w _ _)) (HR.out.2.1.below (Go.Joins.below_alloc2 w _ _)) hl hl' HR.out.2.2.1 HR.out.2.2.2).mono ?_
    rintro e w2 ⟨rfl, hb⟩
    have HB : Hid (Below w.heap.size w w2) := grow_on (Go.Joins.below_alloc2 w _ _) hb
    clear hb
    go_wp2
    go_ret
    exact ⟨retB HE.out.symm, HB.out⟩
  · have HE : Hid (sameCB f P f' Q = false) := sameC_n hf
    go_enter Try.func45, Try.ntmps45
    go_wp2
    go_ret
    exact ⟨retB HE.out.symm, Go.Joins.below_alloc2 w _ _⟩

set_option maxHeartbeats 1600000 in
theorem l4All_any (a : Option Addr) (cap : Nat) (P : List PAl) (w : World) (hr : RdN w a P) (hl : P.length ≤ 1048576) (hs : LenM P) :
    Calls Try.prog 105 #[.slice a P.length cap] w fun e w' => (∃ M c rs, e = .returned (.slice (some ⟨M, 0, none⟩) rs.length c) ∧ AB w.heap.size w' M c rs ∧ pals rs = P) ∧ Below w.heap.size w w' := by
  have HR : Hid (RdN w a P ∧ LenM P) := ⟨hr, hs⟩
  clear hr hs
  obtain ⟨i0, hi, hz0, hz1, hz2⟩ := info_parts infoA
  go_enter Try.func105, Try.ntmps105
  go_wp2
  go_loopw [3, 4] (fun v i w' => ∃ (k M c : Nat) (rs : List ARow), i = .int .i64 k ∧ k ≤ P.length ∧ v = .slice (some ⟨M, 0, none⟩) rs.length c ∧ AB w.heap.size w' M c rs ∧ pals rs = P.take k ∧ Below w.heap.size w w') (fun _ i _ => P.length - (intOf i).toNat)
  case atStart => exact ⟨0, w.heap.size, 0, [], rfl, Nat.zero_le _, rfl, AB.nil (Blk.new _ _ _) (Nat.le_refl _), rfl, Go.Joins.below_alloc1 w _⟩
  case round =>
    obtain ⟨k, M, c, rs, rfl, hk, rfl, hab, hp, hb⟩ := hrel
    have HAB : Hid (AB w.heap.size wr M c rs) := hab
    have HP : Hid (pals rs = P.take k) := hp
    have HB : Hid (Below w.heap.size w wr) := hb
    have HRl : Hid (rs.length = k) := by show _ = _; rw [← pals_len, hp]; simp; omega
    have hrl : rs.length ≤ 1048576 := by have := HRl.out; omega
    clear hab hp hb
    by_cases hlt : k < P.length
    · have hlt' : (k : Int) < (P.length : Int) := by omega
      obtain ⟨b, off, rfl, hb, g, o, cp, hat⟩ := (HR.out.1.below HB.out).get hlt
      have h2 := hat.c0
      have h3 := hat.c1
      have h4 := hat.c2
      have h5 := hat.c3
      have HC : Hid (Calls Try.prog 50 #[.agg #[.slice (some ⟨g, o, none⟩) (nthP P k).l.length cp, .int .i64 (nthP P k).s, .int .i64 (nthP P k).e, .string (nthP P k).n]] wr fun r w' => (∃ Mx c, r = .returned (.agg #[.slice (some ⟨Mx, 0, none⟩) (nthP P k).l.length c, .int .i64 (nthP P k).s, .int .i64 (nthP P k).e, .string (nthP P k).n]) ∧ LabR.Own wr w' Mx (nthP P k).l) ∧ Below wr.heap.size wr w') := copyS_any _ _ _ _ _ _ _ wr hat.reads (HR.out.2 k hlt)
      clear hat
      go_wp2_with fail
      refine HC.out.mono ?_
      rintro e w1 ⟨⟨Mx, cx, rfl, hO⟩, hb1⟩
      have HAB1 : Hid (AB w.heap.size w1 M c rs) := HAB.out.grow hb1
      have HO : Hid (OwnA w.heap.size w1 (Mx, cx, nthP P k) ∧ wr.heap.size ≤ Mx) := ⟨(own_of_copy hO (HR.out.2 k hlt)).down HB.out.size, hO.1⟩
      have HB1 : Hid (Below w.heap.size w w1) := grow_on HB.out hb1
      have HU : Hid (∀ o1 o2, Below w1.heap.size w1 ((w1.alloc o1).alloc o2)) := fun o1 o2 => Go.Joins.below_alloc2 w1 o1 o2
      obtain ⟨xs, hox, hxl, hxs⟩ := HAB1.out.own
      have HOX : Hid (∀ o1 o2, ((w1.alloc o1).alloc o2).ownsRow w.heap.size 38 4 (.slice (some ⟨M, 0, none⟩) rs.length c) rs.length xs) := fun o1 o2 => own_grow hox (Go.Joins.below_alloc2 w1 o1 o2)
      have HXS : Hid (xs.length = rs.length * 4 ∧ ∀ i, i < rs.length → Four (fun k => xs[k]?) i (nthA rs i)) := ⟨hxl, hxs⟩
      clear hb1 hO h2 h3 h4 h5 HC hox hxl hxs
      go_wp2_with (at_builtin; refine wpList_append_own_at _ rfl _ _ 55 rfl w.heap.size 38 i0 (.agg #[.slice none 0 0, .int .i64 0, .int .i64 0, .string ByteArray.empty]) 4 56 Try.underlying55 hi hz0 hz1 hz2 rfl (by decide) _ _ _ rfl (HOX.out _ _) ⟨w1.heap.size + 1, 0, none⟩ 1 1 (rowV (Mx, cx, nthP P k)) rfl rfl ?c1 (row_one _) ?c3 ?c4 ?c5 ?_)
      case c1 => exact blk_news (Blk.new_at (by simp))
      case c3 => unfold maxLen; omega
      case c4 => omega
      case c5 => have := HB1.out.size; simp; omega
      intro v' w2 hown hg hnil hat
      obtain ⟨M3, c3, rfl, hAB3⟩ := (HAB1.out.grow (HU.out _ _)).app (HO.out.1.grow (HU.out _ _)) (fun y hy => by have := (HAB.out.rows y hy).lt; have := HO.out.2; show y.1 ≠ Mx; omega) HXS.out.1 HXS.out.2 hown hg
      have HAB3 : Hid (AB w.heap.size w2 M3 c3 (rs ++ [(Mx, cx, nthP P k)])) := hAB3
      have HB3 : Hid (Below w.heap.size w w2) := (grow_on HB1.out (HU.out _ _)).grown hg (by have := HB1.out.size; simp; omega) (fun k e => by have h : M = k := Option.some.inj e; have := HAB.out.at'; omega)
      have HP3 : Hid (pals (rs ++ [(Mx, cx, nthP P k)]) = P.take (k + 1)) := by show _ = _; rw [pals_app, HP.out, takeP_up hlt]
      have HL3 : Hid ((rs ++ [(Mx, cx, nthP P k)]).length = rs.length + 1) := by show _ = _; simp
      clear hown hg hnil hat hAB3
      go_wp2
      go_roundw
      case rel => exact ⟨k + 1, M3, c3, _, by go_num, by omega, by rw [HL3.out], HAB3.out, HP3.out, HB3.out⟩
      case measure => simp [intOf]; omega
    · have hge : ¬ (k : Int) < (P.length : Int) := by omega
      have HF : Hid (pals rs = P) := by show _ = _; rw [HP.out]; exact List.take_of_length_le (by omega)
      go_wp2
      go_ret
      exact ⟨⟨M, c, rs, rfl, HAB.out, HF.out⟩, HB.out⟩
end Go.Proofs.Ytdbmpaocfmhlhaa.ChnT
