/-
  PROVED: the method laid of impl.shelf gives copies of the chains that are in its map, in the order of its slots, in memory of their own; nothing that was there is changed.
-/
import Derived.Test.YtooninmicfcfoaaGreatQPrtH
set_option linter.unusedVariables false
namespace Go.Proofs.YtooninmicfcfoaaGreat.PrtL
open Go.RowKit
open Labs LabS Alms AlmM Over Blk App Rws ChnI ChnC ChnP ChnK Chs Prt PrtH Mps

def nthK (ks : List (Int × Int)) (i : Nat) : Int × Int := ks.getD i (0, 0)
def nthV (vs : List (Option PCh)) (i : Nat) : Option PCh := vs.getD i none
theorem nthV_eq {vs : List (Option PCh)} {i : Nat} (h : i < vs.length) : nthV vs i = vs[i] := by unfold nthV; simp [h]
theorem nthK_eq {ks : List (Int × Int)} {i : Nat} (h : i < ks.length) : nthK ks i = ks[i] := by unfold nthK; simp [h]
def SlotL (w : World) (M : Nat) (ks : List (Int × Int)) : Prop := ∃ cs : Array Value, Blk w M cs 94 ∧ ks.length * 2 ≤ cs.size ∧ ∀ i, i < ks.length → cs[i * 2]? = some (.int .i64 (nthK ks i).1) ∧ cs[i * 2 + 1]? = some (.int .i64 (nthK ks i).2)
theorem SlotL.grow {w w' : World} {M : Nat} {ks : List (Int × Int)} (h : SlotL w M ks) (hb : Below w.heap.size w w') : SlotL w' M ks := by
  obtain ⟨cs, h1, h2⟩ := h
  exact ⟨cs, h1.grow hb, h2⟩
def Ent (w : World) (o : Option Value) (v : Option PCh) : Prop :=
  match v with
  | none => o = none
  | some x => ∃ ad cp, o = some (.agg #[.int .i64 x.f, .slice ad x.P.length cp]) ∧ RdA w ad x.P
theorem Ent.grow {w w' : World} {o : Option Value} {v : Option PCh} (h : Ent w o v) (hb : Below w.heap.size w w') : Ent w' o v := by
  cases v with
  | none => exact h
  | some x =>
    obtain ⟨ad, cp, h1, h2⟩ := h
    exact ⟨ad, cp, h1, h2.below hb⟩
def laidTo (vs : List (Option PCh)) (k : Nat) : List PCh := (vs.take k).filterMap id
theorem laid_no {vs : List (Option PCh)} {k : Nat} (h : k < vs.length) (hv : nthV vs k = none) : laidTo vs (k + 1) = laidTo vs k := by
  unfold laidTo
  rw [List.take_succ_eq_append_getElem h, List.filterMap_append, ← nthV_eq h, hv]
  simp
theorem laid_yes {vs : List (Option PCh)} {k : Nat} {x : PCh} (h : k < vs.length) (hv : nthV vs k = some x) : laidTo vs (k + 1) = laidTo vs k ++ [x] := by
  unfold laidTo
  rw [List.take_succ_eq_append_getElem h, List.filterMap_append, ← nthV_eq h, hv]
  simp
theorem laid_le (vs : List (Option PCh)) (k : Nat) : (laidTo vs k).length ≤ k := by
  unfold laidTo
  exact Nat.le_trans (List.length_filterMap_le _ _) (by simp; omega)
set_option maxRecDepth 100000 in
set_option maxHeartbeats 2000000 in
theorem laid_any (Mm Ms c : Nat) (g : Int × Int → Option Value) (ks : List (Int × Int)) (vs : List (Option PCh)) (w : World) (hm : MapG TwoK w Mm g) (hs : SlotL w Ms ks) (hlen : vs.length = ks.length) (he : ∀ i, i < ks.length → Ent w (g (nthK ks i)) (nthV vs i)) (hl : ks.length ≤ 1048577) (hsm : ∀ i x, i < ks.length → nthV vs i = some x → x.P.length ≤ 1048576 ∧ LenM x.P) :
    Calls Tryz.prog 68 #[.agg #[.map (some Mm), .slice (some ⟨Ms, 0, none⟩) ks.length c]] w fun e w' => (∃ M c cs, e = .returned (.slice (some ⟨M, 0, none⟩) cs.length c) ∧ CB w.heap.size w' M c cs ∧ chs cs = laidTo vs ks.length) ∧ Below w.heap.size w w' := by
  have HR : Hid (MapG TwoK w Mm g ∧ SlotL w Ms ks ∧ (∀ i, i < ks.length → Ent w (g (nthK ks i)) (nthV vs i)) ∧ vs.length = ks.length ∧ ∀ i x, i < ks.length → nthV vs i = some x → x.P.length ≤ 1048576 ∧ LenM x.P) := ⟨hm, hs, he, hlen, hsm⟩
  clear hm hs he hlen hsm
  obtain ⟨i0, hi, hz0, hz1, hz2⟩ := info_parts infoC
  go_enter Tryz.func68, Tryz.ntmps68
  go_wp2
  obtain ⟨W0, hW0⟩ : ∃ W0, (w.alloc (.cells #[.map (some Mm), .slice (some ⟨Ms, 0, none⟩) ks.length c] 90)).alloc (.cells #[] 96) = W0 := ⟨_, rfl⟩
  have HW0 : Hid (Below w.heap.size w W0 ∧ Blk W0 w.heap.size #[.map (some Mm), .slice (some ⟨Ms, 0, none⟩) ks.length c] 90 ∧ CB (w.heap.size + 1) W0 (w.heap.size + 1) 0 []) := by
    rw [← hW0]
    exact ⟨Go.Joins.below_alloc2 w _ _, (Blk.new _ _ _).alloc _, CB.nil (Blk.new_at (by simp)) (Nat.le_refl _)⟩
  try rw [hW0]
  clear hW0
  go_loopw [3, 12] (fun v i w' => ∃ (k M c' : Nat) (cs : List CRow), i = .int .i64 k ∧ k ≤ ks.length ∧ v = .slice (some ⟨M, 0, none⟩) cs.length c' ∧ CB (w.heap.size + 1) w' M c' cs ∧ chs cs = laidTo vs k ∧ Blk w' w.heap.size #[.map (some Mm), .slice (some ⟨Ms, 0, none⟩) ks.length c] 90 ∧ Below w.heap.size w w') (fun _ i _ => ks.length - (intOf i).toNat)
  case atStart => exact ⟨0, w.heap.size + 1, 0, [], rfl, Nat.zero_le _, rfl, HW0.out.2.2, rfl, HW0.out.2.1, HW0.out.1⟩
  case round =>
    obtain ⟨k, M, c', cs, rfl, hk, rfl, hab, hp, hpt, hb⟩ := hrel
    have HAB : Hid (CB (w.heap.size + 1) wr M c' cs) := hab
    have HP : Hid (chs cs = laidTo vs k) := hp
    have HB : Hid (Below w.heap.size w wr) := hb
    have HPT : Hid (Blk wr w.heap.size #[.map (some Mm), .slice (some ⟨Ms, 0, none⟩) ks.length c] 90) := hpt
    have hrl : cs.length ≤ 1048577 := by have h1 := laid_le vs k; rw [← hp, chs_len] at h1; omega
    clear hab hp hb hpt
    by_cases hlt : k < ks.length
    · have hlt' : (k : Int) < (ks.length : Int) := by omega
      obtain ⟨sc, hs1, hs2, hs3⟩ := HR.out.2.1.grow HB.out
      obtain ⟨k0, k1⟩ := hs3 k hlt
      have x0 : wr.cell? ⟨Ms, k * 2, none⟩ = some (.int .i64 (nthK ks k).1) := (hs1.cell _).trans k0
      have x1 : wr.cell? ⟨Ms, k * 2 + 1, none⟩ = some (.int .i64 (nthK ks k).2) := (hs1.cell _).trans k1
      have HMr : Hid (MapG TwoK wr Mm g) := HR.out.1.grow HB.out
      have HEr : Hid (Ent wr (g (nthK ks k)) (nthV vs k)) := (HR.out.2.2.1 k hlt).grow HB.out
      clear hs1 hs2 hs3 k0 k1 sc
      obtain ⟨W1, hW1⟩ : ∃ W1, wr.alloc (.cells #[.int .i64 (nthK ks k).1, .int .i64 (nthK ks k).2] 94) = W1 := ⟨_, rfl⟩
      have H1 : Hid (Below wr.heap.size wr W1 ∧ Blk W1 wr.heap.size #[.int .i64 (nthK ks k).1, .int .i64 (nthK ks k).2] 94) := by
        rw [← hW1]
        exact ⟨Go.Joins.below_alloc1 wr _, Blk.new _ _ _⟩
      have HM1 : Hid (MapG TwoK W1 Mm g) := HMr.out.grow H1.out.1
      have y0 : W1.cell? ⟨wr.heap.size, 0, none⟩ = some (.int .i64 (nthK ks k).1) := H1.out.2.cell 0
      have y1 : W1.cell? ⟨wr.heap.size, 1, none⟩ = some (.int .i64 (nthK ks k).2) := H1.out.2.cell 1
      have p0 : W1.cell? ⟨w.heap.size, 0, none⟩ = some (.map (some Mm)) := (HPT.out.grow H1.out.1).cell 0
      cases hv : nthV vs k with
      | none =>
        have HG : Hid (g (nthK ks k) = none) := by have h := HEr.out; rw [hv] at h; exact h
        have HL : Hid (laidTo vs (k + 1) = laidTo vs k) := laid_no (by rw [HR.out.2.2.2.1]; exact hlt) hv
        clear hv
        go_wp2_with (at_lookup; refine wp_lookup _ rfl _ _ 87 true rfl 94 96 TwoK asked_slot Tryz.underlying87 (zeroC _) Mm g rfl HM1.out (nthK ks k) rfl (.tuple #[.agg #[.int .i64 0, .slice none 0 0], .bool false]) (by rw [HG.out]; rfl) ?_)
        clear hW1
        go_wp2
        go_roundw
        case rel => exact ⟨k + 1, M, c', cs, by go_num, by omega, rfl, (HAB.out.grow H1.out.1).grow (Go.Joins.below_alloc1 W1 _), by rw [HL.out]; exact HP.out, (HPT.out.grow H1.out.1).alloc _, grow_on (grow_on HB.out H1.out.1) (Go.Joins.below_alloc1 W1 _)⟩
        case measure => simp [intOf]; omega
      | some x =>
        obtain ⟨ad, cp, hg, hrd⟩ : ∃ ad cp, g (nthK ks k) = some (.agg #[.int .i64 x.f, .slice ad x.P.length cp]) ∧ RdA wr ad x.P := by have h := HEr.out; rw [hv] at h; exact h
        have HG : Hid (g (nthK ks k) = some (.agg #[.int .i64 x.f, .slice ad x.P.length cp]) ∧ RdA wr ad x.P ∧ x.P.length ≤ 1048576 ∧ LenM x.P) := ⟨hg, hrd, HR.out.2.2.2.2 k x hlt hv⟩
        have HL : Hid (laidTo vs (k + 1) = laidTo vs k ++ [x]) := laid_yes (by rw [HR.out.2.2.2.1]; exact hlt) hv
        clear hv hg hrd
        go_wp2_with (at_lookup; refine wp_lookup _ rfl _ _ 87 true rfl 94 96 TwoK asked_slot Tryz.underlying87 (zeroC _) Mm g rfl HM1.out (nthK ks k) rfl (.tuple #[.agg #[.int .i64 x.f, .slice ad x.P.length cp], .bool true]) (by rw [HG.out.1]; rfl) ?_)
        clear hW1 y0 y1 p0 x0 x1
        go_wp2_with fail
        refine (implCopy_any x.f ad cp x.P _ ((HG.out.2.1.below H1.out.1).below (Go.Joins.below_alloc1 W1 _)) HG.out.2.2.1 HG.out.2.2.2).mono ?_
        rintro e w2 ⟨⟨Mx, qs, rfl, hab, hpq⟩, hb2⟩
        have HB2 : Hid (Below wr.heap.size wr w2) := grow_on (grow_on H1.out.1 (Go.Joins.below_alloc1 W1 _)) hb2
        have HQl : Hid (x.P.length = qs.length) := by show _ = _; rw [← pals_len, hpq]
        have HQ : Hid (AB (wr.heap.size + 1) w2 Mx x.P.length qs ∧ pals qs = x.P) := ⟨hab.down (by have h1 := H1.out.2.lt; simp; omega), hpq⟩
        have HAB2 : Hid (CB (w.heap.size + 1) w2 M c' cs) := HAB.out.grow HB2.out
        have HPT2 : Hid (Blk w2 w.heap.size _ _) := HPT.out.grow HB2.out
        have hwz : w.heap.size + 1 ≤ wr.heap.size := HPT.out.lt
        have HXB : Hid (AB (w.heap.size + 1) w2 (⟨x.f, Mx, x.P.length, qs⟩ : CRow).M (⟨x.f, Mx, x.P.length, qs⟩ : CRow).c (⟨x.f, Mx, x.P.length, qs⟩ : CRow).rs) := HQ.out.1.down (by omega)
        have HFr := HAB.out.rows.fresh (x := ⟨x.f, Mx, x.P.length, qs⟩) HQ.out.1 (Nat.le_succ _)
        have HFR : Hid (∀ y ∈ cs, ∀ k, blks y.M y.rs k → ¬ blks (⟨x.f, Mx, x.P.length, qs⟩ : CRow).M (⟨x.f, Mx, x.P.length, qs⟩ : CRow).rs k) := HFr
        obtain ⟨xs, hox, hxl, hxs⟩ := HAB2.out.own
        have HOX : Hid (∀ o, (w2.alloc o).ownsRow (w.heap.size + 1) 96 2 (.slice (some ⟨M, 0, none⟩) cs.length c') cs.length xs) := fun o => own_grow hox (Go.Joins.below_alloc1 w2 o)
        have HXS : Hid (xs.length = cs.length * 2 ∧ ∀ i, i < cs.length → Cel (fun k => xs[k]?) i (nthR cs i)) := ⟨hxl, hxs⟩
        have HU : Hid (∀ o, Below w2.heap.size w2 (w2.alloc o)) := fun o => Go.Joins.below_alloc1 w2 o
        have HNW : Hid (∀ j u, (rowC ⟨x.f, Mx, x.P.length, qs⟩)[j]? = some u → (w2.alloc (.cells #[.int .i64 x.f, .slice (some ⟨Mx, 0, none⟩) x.P.length x.P.length] 96)).cell? ((⟨w2.heap.size, 0, none⟩ : Addr).add j) = some u) := by
          have e : rowC ⟨x.f, Mx, x.P.length, qs⟩ = (#[.int .i64 x.f, .slice (some ⟨Mx, 0, none⟩) x.P.length x.P.length] : Array Value).toList := by unfold rowC; rw [HQl.out]
          rw [e]
          exact blk_news (Blk.new _ _ _)
        clear hb2 hab hpq hox hxl hxs HFr
        go_wp2_with (at_builtin; refine wpList_append_own_at _ rfl _ _ 24 rfl (w.heap.size + 1) 96 i0 (.agg #[.int .i64 0, .slice none 0 0]) 2 32 Tryz.underlying24 hi hz0 hz1 hz2 rfl (by decide) _ _ _ rfl (HOX.out _) ⟨w2.heap.size, 0, none⟩ 1 1 (rowC ⟨x.f, Mx, x.P.length, qs⟩) rfl rfl HNW.out (rowC_one _) ?c3 ?c4 ?c5 ?_)
        case c3 => unfold maxLen; omega
        case c4 => omega
        case c5 => have := HPT2.out.lt; simp; omega
        intro v' w3 hown hg hnil hat
        obtain ⟨M3, c3, rfl, hAB3⟩ := (HAB2.out.grow (HU.out _)).app (x := ⟨x.f, Mx, x.P.length, qs⟩) (HXB.out.grow (HU.out _)) HFR.out HXS.out.1 HXS.out.2 hown hg
        have HAB3 : Hid (CB (w.heap.size + 1) w3 M3 c3 (cs ++ [⟨x.f, Mx, x.P.length, qs⟩])) := hAB3
        have HB3 : Hid (Below w.heap.size w w3) := (grow_on (grow_on HB.out HB2.out) (HU.out _)).grown hg (by have h1 := HPT2.out.lt; simp; omega) (fun k e => by have h : M = k := Option.some.inj e; have := HAB.out.at'; omega)
        have HPT3 : Hid (Blk w3 w.heap.size _ _) := blk_far (HPT2.out.grow (HU.out _)) hg (fun e => by have h : w.heap.size = M := Option.some.inj e; have := HAB.out.at'; omega)
        have HP3 : Hid (chs (cs ++ [⟨x.f, Mx, x.P.length, qs⟩]) = laidTo vs (k + 1)) := by
          show _ = _
          rw [chs_app, HP.out, HL.out]
          congr 2
          unfold CRow.ch
          rw [HQ.out.2]
        have HL3 : Hid ((cs ++ [(⟨x.f, Mx, x.P.length, qs⟩ : CRow)]).length = cs.length + 1) := by show _ = _; simp
        clear hown hg hnil hat hAB3
        go_wp2
        go_roundw
        case rel => exact ⟨k + 1, M3, c3, _, by go_num, by omega, by rw [HL3.out], HAB3.out, HP3.out, HPT3.out, HB3.out⟩
        case measure => simp [intOf]; omega
    · have hge : ¬ (k : Int) < (ks.length : Int) := by omega
      have HF : Hid (chs cs = laidTo vs ks.length) := by
        show _ = _
        rw [HP.out]
        congr 1
        omega
      go_wp2
      go_ret
      exact ⟨⟨M, c', cs, rfl, HAB.out.down (by omega), HF.out⟩, HB.out⟩
end Go.Proofs.YtooninmicfcfoaaGreat.PrtL
