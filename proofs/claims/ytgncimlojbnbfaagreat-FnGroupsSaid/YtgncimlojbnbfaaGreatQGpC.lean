/-
  PROVED: spec.l12Copy gives the same groups in memory of their own; nothing that was there is changed.
-/
import Derived.Test.YtgncimlojbnbfaaGreatQGpD
import Derived.Test.YtgncimlojbnbfaaGreatQGrpC
set_option linter.unusedVariables false
namespace Go.Proofs.YtgncimlojbnbfaaGreat.GpC
open Go.RowKit
open Labs LabS Alms AlmS AlmM Over Blk App Rws ChnI ChnC ChnK Chs Grp GrpC Gps GpD
open ChnP (own_grow)
def SmG (x : PGr) : Prop := x.key.length ≤ 1048576 ∧ x.P.length ≤ 1048576 ∧ LenM x.P
def SmallG (U : List PGr) : Prop := ∀ x ∈ U, SmG x
theorem GsB.put {lo : Nat} {w : World} {M c k : Nat} {us : List GRow} {x : GRow} (h : GsB lo w M c us) (hk : k < us.length) (hx : GB lo w x.K x.key x.M x.o x.rs) (hne : ∀ y ∈ us, ∀ q, y.blks q → ¬ x.blks q) : GsB lo (put5W w M k x) M c (us.set k x) := by
  obtain ⟨cur, h1, h2, h3⟩ := h.outer
  have hc := h.cap
  have hm := put5W_moved (k := k) (x := x) h1
  refine ⟨h.at', by rw [List.length_set]; exact hc, ⟨put5C cur k x, put5W_blk h1, by rw [put5_size]; exact h2, fun i hi => ?_⟩, ⟨fun y hy => ?_, ?_⟩⟩
  · rw [List.length_set] at hi
    by_cases e : i = k
    · subst e
      have : nthR (us.set i x) i = x := by rw [nthR_eq (by simpa using hi)]; simp
      rw [this]
      exact put5_at (by omega)
    · have : nthR (us.set k x) i = nthR us i := by rw [nthR_eq (by simpa using hi), nthR_eq hi, List.getElem_set_ne (by omega)]
      rw [this]
      exact (h3 i hi).congr fun j hj => put5_ne (by omega)
  · rcases List.mem_or_eq_of_mem_set hy with hy | rfl
    · exact gb_moved (h.rows.rows y hy) hm
    · exact gb_moved hx hm
  · have hp := h.rows.ne
    rw [List.pairwise_iff_getElem] at hp ⊢
    intro i j hi hj hij
    rw [List.length_set] at hi hj
    rw [List.getElem_set, List.getElem_set]
    by_cases e : k = i
    · rw [if_pos e, if_neg (by omega)]
      exact fun q h1 h2 => hne _ (List.getElem_mem _) q h2 h1
    · rw [if_neg e]
      by_cases e2 : k = j
      · rw [if_pos e2]; exact hne _ (List.getElem_mem _)
      · rw [if_neg e2]; exact hp i j hi hj hij
theorem grs_set (us : List GRow) (k : Nat) (x : GRow) : grs (us.set k x) = (grs us).set k x.gr := by simp [grs, List.map_set]
theorem caps_set {us : List GRow} {k : Nat} {x : GRow} (h : CapsG us) (hx : x.rs.length ≤ x.c ∧ x.c ≤ maxLen) : CapsG (us.set k x) := fun y hy => by
  rcases List.mem_or_eq_of_mem_set hy with hy | rfl
  · exact h y hy
  · exact hx
theorem caps_app {us vs : List GRow} (h : CapsG us) (hv : CapsG vs) : CapsG (us ++ vs) := fun y hy => by
  rcases List.mem_append.1 hy with hy | hy
  · exact h y hy
  · exact hv y hy
theorem caps_one {x : GRow} (h : x.rs.length ≤ x.c ∧ x.c ≤ maxLen) : CapsG [x] := fun y hy => by rw [List.mem_singleton.1 hy]; exact h
theorem caps_nil : CapsG [] := fun y hy => by simp at hy
theorem row_news {w : World} {N : Nat} {x : GRow} (h : Blk w N #[.int .i64 x.n, .slice (some ⟨x.K, 0, none⟩) x.key.length x.kd, .int .i64 x.b, .int .i64 x.t, .slice (some ⟨x.M, x.o, none⟩) x.rs.length x.c] 53) : ∀ j u, (rowG x)[j]? = some u → w.cell? ((⟨N, 0, none⟩ : Addr).add j) = some u := blk_news h
set_option maxRecDepth 100000 in
set_option maxHeartbeats 3200000 in
theorem l12Copy_any (a : Option Addr) (cap : Nat) (U : List PGr) (w : World) (hr : RdGs GN w a U) (hl : U.length ≤ 1048576) (hs : SmallG U) :
    Calls Tryz.prog 34 #[.slice a U.length cap] w fun e w' => (∃ M c us, e = .returned (.slice (some ⟨M, 0, none⟩) us.length c) ∧ GsB w.heap.size w' M c us ∧ grs us = U ∧ CapsG us) ∧ Below w.heap.size w w' := by
  have HR : Hid (RdGs GN w a U ∧ SmallG U) := ⟨hr, hs⟩
  clear hr hs
  obtain ⟨i0, hi, hz0, hz1, hz2⟩ := info_parts infoG
  go_enter Tryz.func34, Tryz.ntmps34
  go_wp2
  go_loopw [3, 4] (fun v i w' => ∃ (k M c : Nat) (us : List GRow), i = .int .i64 k ∧ k ≤ U.length ∧ v = .slice (some ⟨M, 0, none⟩) us.length c ∧ GsB w.heap.size w' M c us ∧ grs us = U.take k ∧ CapsG us ∧ Below w.heap.size w w') (fun _ i _ => U.length - (intOf i).toNat)
  case atStart => exact ⟨0, w.heap.size, 0, [], rfl, Nat.zero_le _, rfl, GsB.nil (Blk.new _ _ _) (Nat.le_refl _), rfl, caps_nil, (Below.refl _ _).alloc (Nat.le_refl _) _⟩
  case round =>
    obtain ⟨k, M, c, us, rfl, hk, rfl, hg, hp, hcp, hb⟩ := hrel
    have HG : Hid (GsB w.heap.size wr M c us ∧ CapsG us) := ⟨hg, hcp⟩
    have HP : Hid (grs us = U.take k) := hp
    have HB : Hid (Below w.heap.size w wr) := hb
    have hul : us.length ≤ U.length := by have := congrArg List.length hp; rw [grs_len, List.length_take] at this; omega
    clear hg hp hcp hb
    by_cases hlt : k < U.length
    · have hlt' : (k : Int) < (U.length : Int) := by omega
      obtain ⟨b, off, rfl, hb, ka, kc, ad, cp, hat⟩ := (HR.out.1.below stays_gn HB.out).get hlt
      obtain ⟨⟨gk, ok, rfl⟩, ⟨gl, ol, rfl⟩, _, hrk, hra⟩ := hat.reads
      have h2 := hat.c0
      have h3 := hat.c1
      have h4 := hat.c2
      have h5 := hat.c3
      have h6 := hat.c4
      have hsm := HR.out.2 _ (nthG_mem hlt)
      have HC : Hid (Calls Tryz.prog 64 #[.agg #[.int .i64 (nthG U k).n, .slice (some ⟨gk, ok, none⟩) (nthG U k).key.length kc, .int .i64 (nthG U k).b, .int .i64 (nthG U k).t, .slice (some ⟨gl, ol, none⟩) (nthG U k).P.length cp]] wr fun r w' => (∃ K kd M c rs, r = .returned (.agg #[.int .i64 (nthG U k).n, .slice (some ⟨K, 0, none⟩) (nthG U k).key.length kd, .int .i64 (nthG U k).b, .int .i64 (nthG U k).t, .slice (some ⟨M, 0, none⟩) rs.length c]) ∧ GB wr.heap.size w' K (nthG U k).key M 0 rs ∧ AB wr.heap.size w' M c rs ∧ pals rs = (nthG U k).P) ∧ Below wr.heap.size wr w') := l11Copy_any _ _ _ gk ok kc _ _ cp _ wr hrk hsm.1 hra hsm.2.1 hsm.2.2
      clear hat hrk hra hsm
      go_wp2_with fail
      refine HC.out.mono ?_
      rintro e w1 ⟨⟨K1, kd1, M1, c1, rs1, rfl, hgb, hab, hp1⟩, hb1⟩
      obtain ⟨x, hx⟩ : ∃ x : GRow, x = ⟨(nthG U k).n, K1, kd1, (nthG U k).key, (nthG U k).b, (nthG U k).t, M1, 0, c1, rs1⟩ := ⟨_, rfl⟩
      have HXR : Hid (GB wr.heap.size w1 x.K x.key x.M x.o x.rs ∧ (x.rs.length ≤ x.c ∧ x.c ≤ maxLen) ∧ x.gr = nthG U k) := by rw [hx]; exact ⟨hgb, hab.cap, by unfold GRow.gr; rw [hp1]⟩
      have e0 : (nthG U k).n = x.n := by rw [hx]
      have e1 : K1 = x.K := by rw [hx]
      have e2 : kd1 = x.kd := by rw [hx]
      have e3 : (nthG U k).key = x.key := by rw [hx]
      have e4 : (nthG U k).b = x.b := by rw [hx]
      have e5 : (nthG U k).t = x.t := by rw [hx]
      have e6 : M1 = x.M := by rw [hx]
      have e7 : c1 = x.c := by rw [hx]
      have e8 : rs1 = x.rs := by rw [hx]
      have e9 : (0 : Nat) = x.o := by rw [hx]
      have HO0 : Hid (x.o = 0) := e9.symm
      rw [e0, e1, e2, e3, e4, e5, e6, e7, e8]
      clear hx e0 e1 e2 e3 e4 e5 e6 e7 e8 e9 hgb hab hp1 HC h2 h3 h4 h5 h6
      have HB1 : Hid (Below w.heap.size w w1) := grow_on HB.out hb1
      have HG1 : Hid (GsB w.heap.size w1 M c us) := HG.out.1.grow hb1
      have HNE : Hid (∀ y ∈ us, ∀ z ∈ [x], ∀ q, y.blks q → ¬ z.blks q) := HG.out.1.rows.fresh (RowsG.one HXR.out.1) (Nat.le_refl _)
      have HLO : Hid (w.heap.size ≤ wr.heap.size) := HB.out.size
      obtain ⟨xs, hox, hxl, hxs⟩ := HG1.out.own
      have HOX : Hid (∀ o1 o2, ((w1.alloc o1).alloc o2).ownsRow w.heap.size 53 5 (.slice (some ⟨M, 0, none⟩) us.length c) us.length xs) := fun o1 o2 => own_grow hox (Go.Joins.below_alloc2 w1 o1 o2)
      have HXS : Hid (xs.length = us.length * 5 ∧ ∀ i, i < us.length → Cel5 (fun k => xs[k]?) i (nthR us i)) := ⟨hxl, hxs⟩
      clear hb1 hox hxl hxs
      have hxo := HO0.out
      go_wp2_with (at_builtin; refine wpList_append_own_at _ rfl _ _ 24 rfl w.heap.size 53 i0 (.agg #[.int .i64 0, .slice none 0 0, .int .i64 0, .int .i64 0, .slice none 0 0]) 5 72 Tryz.underlying24 hi hz0 hz1 hz2 rfl (by decide) _ _ _ rfl (HOX.out _ _) ⟨w1.heap.size + 1, 0, none⟩ 1 1 (rowG x) rfl rfl ?c1 (rowG_one _) ?c3 ?c4 ?c5 ?_)
      case c1 => exact row_news (by rw [hxo]; exact Blk.new_at (by simp))
      case c3 => unfold maxLen; omega
      case c4 => omega
      case c5 => have := HB1.out.size; simp; omega
      intro v' w3 hown hg hnil _
      have hU := Go.Joins.below_alloc2 w1 (.cells #[.int .i64 x.n, .slice (some ⟨x.K, 0, none⟩) x.key.length x.kd, .int .i64 x.b, .int .i64 x.t, .slice (some ⟨x.M, 0, none⟩) x.rs.length x.c] 53) (.cells #[.int .i64 x.n, .slice (some ⟨x.K, 0, none⟩) x.key.length x.kd, .int .i64 x.b, .int .i64 x.t, .slice (some ⟨x.M, 0, none⟩) x.rs.length x.c] 53)
      obtain ⟨M3, c3, e3, hG3⟩ := (HG1.out.grow hU).app (vs := [x]) (ys := rowG x) ((RowsG.one (HXR.out.1.grow hU)).down HLO.out) HNE.out HXS.out.1 HXS.out.2 rfl (row_cel x) (.inl (by simp)) hown hg
      subst e3
      have HG3 : Hid (GsB w.heap.size w3 M3 c3 (us ++ [x])) := hG3
      have HB3 : Hid (Below w.heap.size w w3) := (grow_on HB1.out hU).grown hg (by have := HB1.out.size; simp; omega) (fun q e => by have h : M = q := Option.some.inj e; have := HG.out.1.at'; omega)
      have HP3 : Hid (grs (us ++ [x]) = U.take (k + 1)) := by
        unfold Hid
        rw [grs_app, HP.out, takeG_up hlt, ← HXR.out.2.2]; rfl
      have HL3 : Hid ((us ++ [x]).length = us.length + 1) := by show _ = _; simp
      clear hown hg hnil hG3 hU
      go_wp2
      go_roundw
      case rel => exact ⟨k + 1, M3, c3, us ++ [x], by go_num, by omega, by rw [HL3.out]; rfl, HG3.out, HP3.out, caps_app HG.out.2 (caps_one HXR.out.2.1), HB3.out⟩
      case measure => simp [intOf]; omega
    · have hge : ¬ (k : Int) < (U.length : Int) := by omega
      have HE : Hid (grs us = U) := by unfold Hid; rw [HP.out, List.take_of_length_le (by omega)]
      go_wp2
      go_ret
      exact ⟨⟨M, ⟨c, us, rfl, HG.out.1, HE.out, HG.out.2⟩⟩, HB.out⟩
theorem GsB.cells {lo : Nat} {w : World} {M c : Nat} {us : List GRow} (h : GsB lo w M c us) : ∃ ys : List Value, ys.length = us.length * 5 ∧ (∀ i, i < us.length → Cel5 (fun k => ys[k]?) i (nthR us i)) ∧ (∀ v ∈ ys, v.oneCell' = true) ∧ ∀ j u, ys[j]? = some u → w.cell? ((⟨M, 0, none⟩ : Addr).add j) = some u := by
  obtain ⟨cur, h1, h2, h3⟩ := h.outer
  have hc := h.cap
  have hlen : (cur.toList.take (us.length * 5)).length = us.length * 5 := by simp; omega
  have hat : ∀ j, j < us.length * 5 → (cur.toList.take (us.length * 5))[j]? = cur[j]? := fun j hj => by
    rw [List.getElem?_take_of_lt hj]; simp
  refine ⟨cur.toList.take (us.length * 5), hlen, fun i hi => (h3 i hi).congr fun k hk => hat _ (by omega), fun v hv => ?_, fun j u hj => ?_⟩
  · obtain ⟨j, hj, e⟩ := List.getElem_of_mem hv
    rw [hlen] at hj
    have e2 : cur[j]? = some v := by rw [← hat j hj, List.getElem?_eq_getElem (by rw [hlen]; exact hj), e]
    obtain ⟨i, r, hi, hr, ej⟩ : ∃ i r, i < us.length ∧ r < 5 ∧ j = i * 5 + r := ⟨j / 5, j % 5, by omega, Nat.mod_lt _ (by omega), by omega⟩
    obtain ⟨a0, a1, a2, a3, a4⟩ := h3 i hi
    subst ej
    match r, hr with
    | 0, _ => rw [show i * 5 + 0 = i * 5 by omega] at e2; have := Option.some.inj (e2.symm.trans a0); rw [this]; rfl
    | 1, _ => have := Option.some.inj (e2.symm.trans a1); rw [this]; rfl
    | 2, _ => have := Option.some.inj (e2.symm.trans a2); rw [this]; rfl
    | 3, _ => have := Option.some.inj (e2.symm.trans a3); rw [this]; rfl
    | 4, _ => have := Option.some.inj (e2.symm.trans a4); rw [this]; rfl
  · have hlt : j < us.length * 5 := by
      have := (List.getElem?_eq_some_iff.1 hj).1
      rwa [hlen] at this
    have ea : (⟨M, 0, none⟩ : Addr).add j = ⟨M, j, none⟩ := by by_cases h : j = 0 <;> simp [Addr.add, h]
    rw [ea, h1.cell, ← hat j hlt]; exact hj
theorem rdgs_take {R : How} {w : World} {b off : Nat} {U : List PGr} (k : Nat) (h : RdGs R w (some ⟨b, off, none⟩) U) : RdGs R w (some ⟨b, off, none⟩) (U.take k) := by
  rcases h with h | ⟨b', off', e, hb, hc⟩
  · exact .inl (by rw [h]; simp)
  · cases e
    refine .inr ⟨b, off, rfl, hb, fun i hi => ?_⟩
    simp at hi
    have e2 : nthG (U.take k) i = nthG U i := by rw [nthG_eq (by simp; omega), nthG_eq (by omega)]; simp
    rw [e2]; exact hc i (by omega)
theorem rdgs_drop {R : How} {w : World} {b off : Nat} {U : List PGr} (k : Nat) (h : RdGs R w (some ⟨b, off, none⟩) U) : RdGs R w (some ⟨b, off + k * 5, none⟩) (U.drop k) := by
  rcases h with h | ⟨b', off', e, hb, hc⟩
  · exact .inl (by rw [h]; simp)
  · cases e
    refine .inr ⟨b, off + k * 5, rfl, hb, fun i hi => ?_⟩
    simp at hi
    have e2 : nthG (U.drop k) i = nthG U (k + i) := by rw [nthG_eq (by simp; omega), nthG_eq (by omega)]; simp
    rw [e2]
    obtain ⟨ka, kc, ad, cap, h⟩ := hc (k + i) (by omega)
    have e3 : off + (k + i) * 5 = off + k * 5 + i * 5 := by omega
    exact ⟨ka, kc, ad, cap, by have := h.c0; rwa [e3] at this, by have := h.c1; rwa [e3] at this, by have := h.c2; rwa [e3] at this, by have := h.c3; rwa [e3] at this, by have := h.c4; rwa [e3] at this, h.reads⟩
theorem small_take {U : List PGr} (k : Nat) (h : SmallG U) : SmallG (U.take k) := fun x hx => h x (List.mem_of_mem_take hx)
theorem small_drop {U : List PGr} (k : Nat) (h : SmallG U) : SmallG (U.drop k) := fun x hx => h x (List.mem_of_mem_drop hx)
theorem l12_take {w : World} {b off cap k : Nat} {U : List PGr} (hr : RdGs GN w (some ⟨b, off, none⟩) U) (hk : k ≤ U.length) (hl : U.length ≤ 1048576) (hs : SmallG U) :
    Calls Tryz.prog 34 #[.slice (some ⟨b, off, none⟩) k cap] w fun e w' => (∃ M c us, e = .returned (.slice (some ⟨M, 0, none⟩) us.length c) ∧ GsB w.heap.size w' M c us ∧ grs us = U.take k ∧ CapsG us) ∧ Below w.heap.size w w' := by
  have h := l12Copy_any (some ⟨b, off, none⟩) cap (U.take k) w (rdgs_take k hr) (by simp; omega) (small_take k hs)
  rw [List.length_take, Nat.min_eq_left hk] at h
  exact h
theorem l12_drop {w : World} {b off cap k : Nat} {U : List PGr} (hr : RdGs GN w (some ⟨b, off, none⟩) U) (hc : U.length ≤ cap) (hk : k ≤ U.length) (hl : U.length ≤ 1048576) (hs : SmallG U) :
    Calls Tryz.prog 34 #[.slice (if cap = k then some (⟨b, off, none⟩ : Addr) else some (⟨b, off + k * 5, none⟩ : Addr)) (U.length - k) (cap - k)] w fun e w' => (∃ M c us, e = .returned (.slice (some ⟨M, 0, none⟩) us.length c) ∧ GsB w.heap.size w' M c us ∧ grs us = U.drop k ∧ CapsG us) ∧ Below w.heap.size w w' := by
  have hd : RdGs GN w (if cap = k then some (⟨b, off, none⟩ : Addr) else some (⟨b, off + k * 5, none⟩ : Addr)) (U.drop k) := by
    split
    · exact .inl (List.drop_eq_nil_of_le (by omega))
    · exact rdgs_drop k hr
  have h := l12Copy_any _ (cap - k) (U.drop k) w hd (by simp; omega) (small_drop k hs)
  rw [List.length_drop] at h
  exact h
end Go.Proofs.YtgncimlojbnbfaaGreat.GpC
