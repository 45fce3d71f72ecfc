/-
  PROVED: over a slice of parts in memory spec.AllAlarms and impl.AllAlarms give all their alarms, sorted by their labels as the plain lists say, in memory of their own; nothing that was there is changed.
-/
import Derived.Test.YtcopckbpflmmeabSts
import Derived.Test.YtcopckbpflmmeabL8S
import Derived.Test.YtcopckbpflmmeabStwG
namespace Go.Proofs.Ytcopckbpflmmeab.StsA
open Go.RowKit
open Go.Proofs.Ytcopckbpflmmeab.Labs Go.Proofs.Ytcopckbpflmmeab.LabS Go.Proofs.Ytcopckbpflmmeab.Alms Go.Proofs.Ytcopckbpflmmeab.AlmS Go.Proofs.Ytcopckbpflmmeab.AlmM Go.Proofs.Ytcopckbpflmmeab.Over Go.Proofs.Ytcopckbpflmmeab.Blk Go.Proofs.Ytcopckbpflmmeab.App Go.Proofs.Ytcopckbpflmmeab.Rws Go.Proofs.Ytcopckbpflmmeab.ChnI Go.Proofs.Ytcopckbpflmmeab.ChnC Go.Proofs.Ytcopckbpflmmeab.PrtA Go.Proofs.Ytcopckbpflmmeab.Stb Go.Proofs.Ytcopckbpflmmeab.SrtP
open Go.Proofs.Ytcopckbpflmmeab.LabL (slB)
set_option linter.unusedVariables false
open Go.Proofs.Ytcopckbpflmmeab.ChnK Go.Proofs.Ytcopckbpflmmeab.Chs Go.Proofs.Ytcopckbpflmmeab.Prt Go.Proofs.Ytcopckbpflmmeab.PrtM Go.Proofs.Ytcopckbpflmmeab.Sts
/-- all alarms of the parts, one behind the other -/
def allT : List PPt → List PAl
  | [] => []
  | x :: S => allC x.C ++ allT S
theorem allT_app (p q : List PPt) : allT (p ++ q) = allT p ++ allT q := by
  induction p with
  | nil => rfl
  | cons x p ih => rw [List.cons_append, allT, ih, allT, List.append_assoc]
theorem allT_up {S : List PPt} {k : Nat} (h : k < S.length) : allT (S.take (k + 1)) = allT (S.take k) ++ allC (nthT S k).C := by rw [takeT_up h, allT_app]; simp [allT]
theorem allT_sum (S : List PPt) : (allT S).length + sumL (allT S) ≤ sumT S := by
  induction S with
  | nil => simp [allT, sumL]
  | cons x S ih => have := allC_sum x.C; rw [allT, sumT, sum_app, List.length_append]; omega
theorem allT_le (S : List PPt) (k : Nat) : (allT (S.take k)).length + sumL (allT (S.take k)) ≤ sumT S := Nat.le_trans (allT_sum _) (sumT_le S k)
theorem allT_mem {S : List PPt} {x : PAl} (h : x ∈ allT S) : ∃ p ∈ S, x ∈ allC p.C := by
  induction S with
  | nil => simp [allT] at h
  | cons y S ih =>
    rw [allT] at h
    rcases List.mem_append.1 h with h | h
    · exact ⟨y, by simp, h⟩
    · obtain ⟨c, hc, hx⟩ := ih h
      exact ⟨c, by simp [hc], hx⟩
theorem lenM_ab {lo : Nat} {w : World} {M c : Nat} {rs : List ARow} (h : AB lo w M c rs) : LenM (pals rs) := fun i hi => by
  rw [pals_len] at hi
  rw [pals_nth hi]; exact (h.rows _ (nthA_mem hi)).2.1
theorem sort_ab {lo : Nat} {w : World} {M c cap : Nat} {rs : List ARow} (h : AB lo w M c rs) (hl : rs.length ≤ 1048576) :
    Calls Try.prog 45 #[.slice (some ⟨M, 0, none⟩) rs.length cap] w fun e w' => (∃ M c rs', e = .returned (.slice (some ⟨M, 0, none⟩) rs'.length c) ∧ AB w.heap.size w' M c rs' ∧ pals rs' = sortP (pals rs)) ∧ Below w.heap.size w w' := by
  have := L8S.l8Sort_any (some ⟨M, 0, none⟩) cap (pals rs) w h.rd (by rw [pals_len]; exact hl) (lenM_ab h)
  rwa [pals_len] at this
set_option maxRecDepth 100000 in
set_option maxHeartbeats 1600000 in
theorem specAllS_any (a : Option Addr) (cap : Nat) (S : List PPt) (w : World) (hr : RdS RdN w a S) (hl : S.length ≤ 1048576) (hs : sumT S ≤ 1048576) :
    Calls Try.prog 25 #[.slice a S.length cap] w fun e w' => (∃ M c rs, e = .returned (.slice (some ⟨M, 0, none⟩) rs.length c) ∧ AB w.heap.size w' M c rs ∧ pals rs = sortP (allT S)) ∧ Below w.heap.size w w' := by
  have HR : Hid (RdS RdN w a S ∧ sumT S ≤ 1048576) := ⟨hr, hs⟩
  clear hr hs
  obtain ⟨i0, hi, hz0, hz1, hz2⟩ := info_parts infoA
  go_enter Try.func25, Try.ntmps25
  go_wp2
  go_loopw [3, 4] (fun v i w' => ∃ (k M c : Nat) (rs : List ARow), i = .int .i64 k ∧ k ≤ S.length ∧ v = .slice (some ⟨M, 0, none⟩) rs.length c ∧ AB w.heap.size w' M c rs ∧ pals rs = allT (S.take k) ∧ Below w.heap.size w w') (fun _ i _ => S.length - (intOf i).toNat)
  case atStart => exact ⟨0, w.heap.size, 0, [], rfl, Nat.zero_le _, rfl, AB.nil (Blk.new _ _ _) (Nat.le_refl _), rfl, Go.Joins.below_alloc1 w _⟩
  case round =>
    obtain ⟨k, M, c, rs, rfl, hk, rfl, hab, hp, hb⟩ := hrel
    have HAB : Hid (AB w.heap.size wr M c rs) := hab
    have HP : Hid (pals rs = allT (S.take k)) := hp
    have HB : Hid (Below w.heap.size w wr) := hb
    have hrl : rs.length ≤ 1048576 := by rw [← pals_len, hp]; have := allT_le S k; have := HR.out.2; omega
    clear hab hp hb
    by_cases hlt : k < S.length
    · have hlt' : (k : Int) < (S.length : Int) := by omega
      obtain ⟨b, off, ea, hb, ad, cp, hat⟩ := (HR.out.1.below stays_rn HB.out).get hlt
      cases ea
      have h2 := hat.c0
      have h3 := hat.c1
      have h4 := hat.c2
      have HRD : Hid (RdG RdN wr ad (nthT S k).C) := hat.reads
      have HSk : Hid ((nthT S k).C.length ≤ 1048576 ∧ SmallA (nthT S k).C ∧ sumC (nthT S k).C ≤ 1048576) := by have h0 := sumT_nth hlt; have h1 := HR.out.2; exact ⟨by omega, small_of (by omega), by omega⟩
      have HU : Hid (allT (S.take (k + 1)) = allT (S.take k) ++ allC (nthT S k).C ∧ (allT (S.take (k + 1))).length ≤ 1048576) := ⟨allT_up hlt, by have := allT_le S (k + 1); have := HR.out.2; omega⟩
      clear hat
      go_wp2_with fail
      refine (specAll_any _ _ ad cp (nthT S k).C wr HRD.out HSk.out.1 HSk.out.2.1 HSk.out.2.2).mono ?_
      rintro e w1 ⟨⟨Mx, cx, qs, rfl, hq, hpq⟩, hb1⟩
      have HAB1 : Hid (AB w.heap.size w1 M c rs) := HAB.out.grow hb1
      have HQ1 : Hid (AB wr.heap.size w1 Mx cx qs ∧ pals qs = allC (nthT S k).C) := ⟨hq.down (by first | exact Nat.le_refl _ | simp), hpq⟩
      have HB1 : Hid (Below w.heap.size w w1) := grow_on HB.out hb1
      have hql : rs.length + qs.length ≤ 1048576 := by
        have h1 := HU.out
        rw [h1.1, ← HP.out, ← hpq, List.length_append, pals_len, pals_len] at h1
        omega
      obtain ⟨xs, hox, hxl, hxs⟩ := HAB1.out.own
      have HOX : Hid (w1.ownsRow w.heap.size 68 4 (.slice (some ⟨M, 0, none⟩) rs.length c) rs.length xs) := hox
      have HXS : Hid (xs.length = rs.length * 4 ∧ ∀ i, i < rs.length → Four (fun k => xs[k]?) i (nthA rs i)) := ⟨hxl, hxs⟩
      clear hb1 hq hpq h2 h3 h4 hox hxl hxs
      go_wp2_with (at_builtin; refine wpList_append_own_at _ rfl _ _ 29 rfl w.heap.size 68 i0 (.agg #[.slice none 0 0, .int .i64 0, .int .i64 0, .string ByteArray.empty]) 4 56 Try.underlying29 hi hz0 hz1 hz2 rfl (by decide) _ _ _ rfl HOX.out ⟨Mx, 0, none⟩ qs.length _ (flatA qs) rfl (flatA_len qs) ?c1 (flatA_one _) ?c3 ?c4 ?c5 ?_)
      case c1 => exact flatA_news HQ1.out.1
      case c3 => unfold maxLen; omega
      case c4 => omega
      case c5 => exact HB1.out.size
      intro v' w2 hown hg hnil hat
      obtain ⟨M3, c3, rfl, hAB3⟩ := AB.appAll HAB1.out (fun x hx => (HQ1.out.1.rows x hx).down HB.out.size) HQ1.out.1.ne (fun y hy x hx => by have := (HAB.out.rows y hy).lt; have := (HQ1.out.1.rows x hx).1; omega) HXS.out.1 HXS.out.2 hown hg (fun e => by rw [e] at hat; simp [Value.ownBlock] at hat)
      have HAB3 : Hid (AB w.heap.size w2 M3 c3 (rs ++ qs)) := hAB3
      have HB3 : Hid (Below w.heap.size w w2) := HB1.out.grown hg HB1.out.size (fun k e => by have h : M = k := Option.some.inj e; have := HAB.out.at'; omega)
      have HP3 : Hid (pals (rs ++ qs) = allT (S.take (k + 1))) := by show _ = _; rw [pals_two, HP.out, HQ1.out.2, HU.out.1]
      have HL3 : Hid ((rs ++ qs).length = rs.length + qs.length) := by show _ = _; simp
      clear hown hg hnil hat hAB3
      go_wp2
      go_roundw
      case rel => exact ⟨k + 1, M3, c3, _, by go_num, by omega, by rw [HL3.out], HAB3.out, HP3.out, HB3.out⟩
      case measure => simp [intOf]; omega
    have hge : ¬ (k : Int) < (S.length : Int) := by omega
    have HF : Hid (pals rs = allT S) := by show _ = _; rw [HP.out]; congr 1; exact List.take_of_length_le (by omega)
    go_wp2_with fail
    refine (sort_ab HAB.out hrl).mono ?_
    rintro e w1 ⟨⟨N, cN, rs', rfl, h1, h2⟩, hb1⟩
    have HE : Hid (AB w.heap.size w1 N cN rs' ∧ pals rs' = sortP (allT S) ∧ Below w.heap.size w w1) := ⟨h1.down HB.out.size, by rw [h2, HF.out], grow_on HB.out hb1⟩
    clear h1 h2 hb1
    go_wp2
    go_ret
    exact ⟨⟨N, cN, rs', rfl, HE.out.1, HE.out.2.1⟩, HE.out.2.2⟩
set_option maxRecDepth 100000 in
set_option maxHeartbeats 1600000 in
theorem implAllS_any (a : Option Addr) (cap : Nat) (S : List PPt) (w : World) (hr : RdS RdA w a S) (hl : S.length ≤ 1048576) (hs : sumT S ≤ 1048576) :
    Calls Try.prog 27 #[.slice a S.length cap] w fun e w' => (∃ M c rs, e = .returned (.slice (some ⟨M, 0, none⟩) rs.length c) ∧ AB w.heap.size w' M c rs ∧ pals rs = sortP (allT S)) ∧ Below w.heap.size w w' := by
  have HR : Hid (RdS RdA w a S ∧ sumT S ≤ 1048576) := ⟨hr, hs⟩
  clear hr hs
  obtain ⟨i0, hi, hz0, hz1, hz2⟩ := info_parts infoA
  go_enter Try.func27, Try.ntmps27
  go_wp2
  go_loopw [3, 9] (fun v i w' => ∃ (k M c : Nat) (rs : List ARow), i = .int .i64 k ∧ k ≤ S.length ∧ v = .slice (some ⟨M, 0, none⟩) rs.length c ∧ AB w.heap.size w' M c rs ∧ pals rs = allT (S.take k) ∧ Below w.heap.size w w') (fun _ i _ => S.length - (intOf i).toNat)
  case atStart => exact ⟨0, w.heap.size, 0, [], rfl, Nat.zero_le _, rfl, AB.nil (Blk.new _ _ _) (Nat.le_refl _), rfl, Go.Joins.below_alloc1 w _⟩
  case round =>
    obtain ⟨k, M, c, rs, rfl, hk, rfl, hab, hp, hb⟩ := hrel
    have HAB : Hid (AB w.heap.size wr M c rs) := hab
    have HP : Hid (pals rs = allT (S.take k)) := hp
    have HB : Hid (Below w.heap.size w wr) := hb
    have hrl : rs.length ≤ 1048576 := by rw [← pals_len, hp]; have := allT_le S k; have := HR.out.2; omega
    clear hab hp hb
    by_cases hlt : k < S.length
    · have hlt' : (k : Int) < (S.length : Int) := by omega
      obtain ⟨b, off, ea, hb, ad, cp, hat⟩ := (HR.out.1.below stays_rd HB.out).get hlt
      cases ea
      have h2 := hat.c0
      have h3 := hat.c1
      have h4 := hat.c2
      have HRD : Hid (RdG RdA wr ad (nthT S k).C) := hat.reads
      have HSk : Hid ((nthT S k).C.length ≤ 1048576 ∧ SmallA (nthT S k).C ∧ sumC (nthT S k).C ≤ 1048576) := by have h0 := sumT_nth hlt; have h1 := HR.out.2; exact ⟨by omega, small_of (by omega), by omega⟩
      have HU : Hid (allT (S.take (k + 1)) = allT (S.take k) ++ allC (nthT S k).C ∧ (allT (S.take (k + 1))).length ≤ 1048576) := ⟨allT_up hlt, by have := allT_le S (k + 1); have := HR.out.2; omega⟩
      clear hat
      go_wp2_with fail
      refine (implAll_any _ _ ad cp (nthT S k).C _ (HRD.out.below stays_rd (Go.Joins.below_alloc1 wr _)) HSk.out.1 HSk.out.2.1 HSk.out.2.2).mono ?_
      rintro e w1 ⟨⟨Mx, cx, qs, rfl, hq, hpq⟩, hb1⟩
      replace hb1 := grow_on (Go.Joins.below_alloc1 wr _) hb1
      have HAB1 : Hid (AB w.heap.size w1 M c rs) := HAB.out.grow hb1
      have HQ1 : Hid (AB wr.heap.size w1 Mx cx qs ∧ pals qs = allC (nthT S k).C) := ⟨hq.down (by first | exact Nat.le_refl _ | simp), hpq⟩
      have HB1 : Hid (Below w.heap.size w w1) := grow_on HB.out hb1
      have hql : rs.length + qs.length ≤ 1048576 := by
        have h1 := HU.out
        rw [h1.1, ← HP.out, ← hpq, List.length_append, pals_len, pals_len] at h1
        omega
      obtain ⟨xs, hox, hxl, hxs⟩ := HAB1.out.own
      have HOX : Hid (w1.ownsRow w.heap.size 68 4 (.slice (some ⟨M, 0, none⟩) rs.length c) rs.length xs) := hox
      have HXS : Hid (xs.length = rs.length * 4 ∧ ∀ i, i < rs.length → Four (fun k => xs[k]?) i (nthA rs i)) := ⟨hxl, hxs⟩
      clear hb1 hq hpq h2 h3 h4 hox hxl hxs
      go_wp2_with (at_builtin; refine wpList_append_own_at _ rfl _ _ 29 rfl w.heap.size 68 i0 (.agg #[.slice none 0 0, .int .i64 0, .int .i64 0, .string ByteArray.empty]) 4 56 Try.underlying29 hi hz0 hz1 hz2 rfl (by decide) _ _ _ rfl HOX.out ⟨Mx, 0, none⟩ qs.length _ (flatA qs) rfl (flatA_len qs) ?c1 (flatA_one _) ?c3 ?c4 ?c5 ?_)
      case c1 => exact flatA_news HQ1.out.1
      case c3 => unfold maxLen; omega
      case c4 => omega
      case c5 => exact HB1.out.size
      intro v' w2 hown hg hnil hat
      obtain ⟨M3, c3, rfl, hAB3⟩ := AB.appAll HAB1.out (fun x hx => (HQ1.out.1.rows x hx).down HB.out.size) HQ1.out.1.ne (fun y hy x hx => by have := (HAB.out.rows y hy).lt; have := (HQ1.out.1.rows x hx).1; omega) HXS.out.1 HXS.out.2 hown hg (fun e => by rw [e] at hat; simp [Value.ownBlock] at hat)
      have HAB3 : Hid (AB w.heap.size w2 M3 c3 (rs ++ qs)) := hAB3
      have HB3 : Hid (Below w.heap.size w w2) := HB1.out.grown hg HB1.out.size (fun k e => by have h : M = k := Option.some.inj e; have := HAB.out.at'; omega)
      have HP3 : Hid (pals (rs ++ qs) = allT (S.take (k + 1))) := by show _ = _; rw [pals_two, HP.out, HQ1.out.2, HU.out.1]
      have HL3 : Hid ((rs ++ qs).length = rs.length + qs.length) := by show _ = _; simp
      clear hown hg hnil hat hAB3
      go_wp2
      go_roundw
      case rel => exact ⟨k + 1, M3, c3, _, by go_num, by omega, by rw [HL3.out], HAB3.out, HP3.out, HB3.out⟩
      case measure => simp [intOf]; omega
    have hge : ¬ (k : Int) < (S.length : Int) := by omega
    have HF : Hid (pals rs = allT S) := by show _ = _; rw [HP.out]; congr 1; exact List.take_of_length_le (by omega)
    go_wp2_with fail
    refine (StwG.sorted_any M c w.heap.size rs wr HAB.out hrl).mono ?_
    rintro e w1 ⟨⟨N, rs', rfl, h1, h2, h3⟩, hb1⟩
    have HE : Hid (AB w.heap.size w1 N rs'.length rs' ∧ pals rs' = sortP (allT S) ∧ Below w.heap.size w w1) := ⟨h1, by rw [← HF.out]; exact sort_one h2, grow_on HB.out hb1⟩
    clear h1 h2 h3 hb1
    go_wp2
    go_ret
    exact ⟨⟨N, rs'.length, rs', rfl, HE.out.1, HE.out.2.1⟩, HE.out.2.2⟩
end Go.Proofs.Ytcopckbpflmmeab.StsA
