/-
  PROVED: spec.l4All gives the same alarms in memory of its own; nothing that was there is changed.
-/
import Derived.Test.YtgncimlojbnbfaaLst
namespace Go.Proofs.Ytgncimlojbnbfaa.ChnT
open Go.RowKit
open Go.Proofs.Ytgncimlojbnbfaa.Labs Go.Proofs.Ytgncimlojbnbfaa.LabS Go.Proofs.Ytgncimlojbnbfaa.Alms Go.Proofs.Ytgncimlojbnbfaa.AlmM Go.Proofs.Ytgncimlojbnbfaa.Over Go.Proofs.Ytgncimlojbnbfaa.Blk Go.Proofs.Ytgncimlojbnbfaa.App Go.Proofs.Ytgncimlojbnbfaa.Rws
open Go.Proofs.Ytgncimlojbnbfaa.AlmS Go.Proofs.Ytgncimlojbnbfaa.ChnI Go.Proofs.Ytgncimlojbnbfaa.ChnC Go.Proofs.Ytgncimlojbnbfaa.ChnP
open Go.Proofs.Ytgncimlojbnbfaa.StrB (retB)
open Go.Proofs.Ytgncimlojbnbfaa.Alm (at_par)
set_option linter.unusedVariables false
set_option maxHeartbeats 1600000 in
theorem l4All_any (a : Option Addr) (cap : Nat) (P : List PAl) (w : World) (hr : RdN w a P) (hl : P.length ≤ 1048576) (hs : LenM P) :
    Calls Try.prog 78 #[.slice a P.length cap] w fun e w' => (∃ M c rs, e = .returned (.slice (some ⟨M, 0, none⟩) rs.length c) ∧ AB w.heap.size w' M c rs ∧ pals rs = P) ∧ Below w.heap.size w w' := by
  have HR : Hid (RdN w a P ∧ LenM P) := ⟨hr, hs⟩
  clear hr hs
  obtain ⟨i0, hi, hz0, hz1, hz2⟩ := info_parts infoA
  go_enter Try.func78, Try.ntmps78
  go_wp2
  go_loopw [3, 4] (fun v i w' => ∃ (k M c : Nat) (rs : List ARow), i = .int .i64 k ∧ k ≤ P.length ∧ v = .slice (some ⟨M, 0, none⟩) rs.length c ∧ AB w.heap.size w' M c rs ∧ pals rs = P.take k ∧ Below w.heap.size w w') (fun _ i _ => P.length - (intOf i).toNat)
  case atStart => exact ⟨0, w.heap.size, 0, [], rfl, Nat.zero_le _, rfl, AB.nil (Blk.new _ _ _) (Nat.le_refl _), rfl, Go.Joins.below_alloc1 w _⟩
  case round =>
    obtain ⟨k, M, c, rs, rfl, hk, rfl, hab, hp, hb⟩ := hrel
    have HAB : Hid (AB w.heap.size wr M c rs) := hab
    have HP : Hid (pals rs = P.take k) := hp
    have HB : Hid (Below w.heap.size w wr) := hb
    have HRl : Hid (rs.length = k) := by show _ = _; rw [← pals_len, hp]; simp; omega
    have hrl : rs.length ≤ 1048576 := by have := HRl.out; omega
    clear hab hp hb
    by_cases hlt : k < P.length
    · have hlt' : (k : Int) < (P.length : Int) := by omega
      obtain ⟨b, off, rfl, hb, g, o, cp, hat⟩ := (HR.out.1.below HB.out).get hlt
      have h2 := hat.c0
      have h3 := hat.c1
      have h4 := hat.c2
      have h5 := hat.c3
      have HC : Hid (Calls Try.prog 53 #[.agg #[.slice (some ⟨g, o, none⟩) (nthP P k).l.length cp, .int .i64 (nthP P k).s, .int .i64 (nthP P k).e, .string (nthP P k).n]] wr fun r w' => (∃ Mx c, r = .returned (.agg #[.slice (some ⟨Mx, 0, none⟩) (nthP P k).l.length c, .int .i64 (nthP P k).s, .int .i64 (nthP P k).e, .string (nthP P k).n]) ∧ LabR.Own wr w' Mx (nthP P k).l) ∧ Below wr.heap.size wr w') := copyS_any _ _ _ _ _ _ _ wr hat.reads (HR.out.2 k hlt)
      clear hat
      go_wp2_with fail
      refine HC.out.mono ?_
      rintro e w1 ⟨⟨Mx, cx, rfl, hO⟩, hb1⟩
      have HAB1 : Hid (AB w.heap.size w1 M c rs) := HAB.out.grow hb1
      have HO : Hid (OwnA w.heap.size w1 (Mx, cx, nthP P k) ∧ wr.heap.size ≤ Mx) := ⟨(own_of_copy hO (HR.out.2 k hlt)).down HB.out.size, hO.1⟩
      have HB1 : Hid (Below w.heap.size w w1) := grow_on HB.out hb1
      have HU : Hid (∀ o1 o2, Below w1.heap.size w1 ((w1.alloc o1).alloc o2)) := fun o1 o2 => Go.Joins.below_alloc2 w1 o1 o2
      obtain ⟨xs, hox, hxl, hxs⟩ := HAB1.out.own
      have HOX : Hid (∀ o1 o2, ((w1.alloc o1).alloc o2).ownsRow w.heap.size 48 4 (.slice (some ⟨M, 0, none⟩) rs.length c) rs.length xs) := fun o1 o2 => own_grow hox (Go.Joins.below_alloc2 w1 o1 o2)
      have HXS : Hid (xs.length = rs.length * 4 ∧ ∀ i, i < rs.length → Four (fun k => xs[k]?) i (nthA rs i)) := ⟨hxl, hxs⟩
      clear hb1 hO h2 h3 h4 h5 HC hox hxl hxs
      go_wp2_with (at_builtin; refine wpList_append_own_at _ rfl _ _ 53 rfl w.heap.size 48 i0 (.agg #[.slice none 0 0, .int .i64 0, .int .i64 0, .string ByteArray.empty]) 4 56 Try.underlying53 hi hz0 hz1 hz2 rfl (by decide) _ _ _ rfl (HOX.out _ _) ⟨w1.heap.size + 1, 0, none⟩ 1 1 (rowV (Mx, cx, nthP P k)) rfl rfl ?c1 (row_one _) ?c3 ?c4 ?c5 ?_)
      case c1 => exact blk_news (Blk.new_at (by simp))
      case c3 => unfold maxLen; omega
      case c4 => omega
      case c5 => have := HB1.out.size; simp; omega
      intro v' w2 hown hg hnil hat
      obtain ⟨M3, c3, rfl, hAB3⟩ := (HAB1.out.grow (HU.out _ _)).app (HO.out.1.grow (HU.out _ _)) (fun y hy => by have := (HAB.out.rows y hy).lt; have := HO.out.2; show y.1 ≠ Mx; omega) HXS.out.1 HXS.out.2 hown hg
      have HAB3 : Hid (AB w.heap.size w2 M3 c3 (rs ++ [(Mx, cx, nthP P k)])) := hAB3
      have HB3 : Hid (Below w.heap.size w w2) := (grow_on HB1.out (HU.out _ _)).grown hg (by have := HB1.out.size; simp; omega) (fun k e => by have h : M = k := Option.some.inj e; have := HAB.out.at'; omega)
      have HP3 : Hid (pals (rs ++ [(Mx, cx, nthP P k)]) = P.take (k + 1)) := by show _ = _; rw [pals_app, HP.out, takeP_up hlt]
      have HL3 : Hid ((rs ++ [(Mx, cx, nthP P k)]).length = rs.length + 1) := by show _ = _; simp
      clear hown hg hnil hat hAB3
      go_wp2
      go_roundw
      case rel => exact ⟨k + 1, M3, c3, _, by go_num, by omega, by rw [HL3.out], HAB3.out, HP3.out, HB3.out⟩
      case measure => simp [intOf]; omega
    · have hge : ¬ (k : Int) < (P.length : Int) := by omega
      have HF : Hid (pals rs = P) := by show _ = _; rw [HP.out]; exact List.take_of_length_le (by omega)
      go_wp2
      go_ret
      exact ⟨⟨M, c, rs, rfl, HAB.out, HF.out⟩, HB.out⟩
end Go.Proofs.Ytgncimlojbnbfaa.ChnT
