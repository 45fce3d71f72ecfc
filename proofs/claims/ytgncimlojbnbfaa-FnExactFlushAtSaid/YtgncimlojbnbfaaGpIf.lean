/-
  PROVED: impl.FlushAt answers the groups with the one of the number sent, or without it where nothing of it is left, and the batch that is sent, in memory of their own; nothing that was there is changed.
-/
import Derived.Test.YtgncimlojbnbfaaGpF
import Derived.Test.YtgncimlojbnbfaaGpM
import Derived.Test.YtgncimlojbnbfaaGpIt
import Derived.Test.YtgncimlojbnbfaaGpIj
namespace Go.Proofs.Ytgncimlojbnbfaa.GpIf
open Go.RowKit
open Go.Proofs.Ytgncimlojbnbfaa.Labs Go.Proofs.Ytgncimlojbnbfaa.LabS Go.Proofs.Ytgncimlojbnbfaa.Alms Go.Proofs.Ytgncimlojbnbfaa.AlmM Go.Proofs.Ytgncimlojbnbfaa.Over Go.Proofs.Ytgncimlojbnbfaa.Blk Go.Proofs.Ytgncimlojbnbfaa.App Go.Proofs.Ytgncimlojbnbfaa.Rws Go.Proofs.Ytgncimlojbnbfaa.ChnI Go.Proofs.Ytgncimlojbnbfaa.ChnC Go.Proofs.Ytgncimlojbnbfaa.ChnK Go.Proofs.Ytgncimlojbnbfaa.Chs Go.Proofs.Ytgncimlojbnbfaa.Grp Go.Proofs.Ytgncimlojbnbfaa.Gps Go.Proofs.Ytgncimlojbnbfaa.GpD Go.Proofs.Ytgncimlojbnbfaa.GpC Go.Proofs.Ytgncimlojbnbfaa.GpF Go.Proofs.Ytgncimlojbnbfaa.GpM Go.Proofs.Ytgncimlojbnbfaa.Mps Go.Proofs.Ytgncimlojbnbfaa.Mpr Go.Proofs.Ytgncimlojbnbfaa.GpSt Go.Proofs.Ytgncimlojbnbfaa.GpLd Go.Proofs.Ytgncimlojbnbfaa.GpIj
set_option linter.unusedVariables false
theorem GsB.far {lo : Nat} {w : World} {M c : Nat} {us : List GRow} (h : GsB lo w M c us) {N : Nat} {cs : Array Value} {T : TypeId} (hN : Blk w N cs T) (hA : T ≠ 48) (hL : T ≠ 73) (hne : N ≠ M) (i : Nat) (v : Value) : GsB lo (w.setCell ⟨N, i, none⟩ v) M c us := by
  obtain ⟨cur, c1, c2⟩ := h.outer
  exact ⟨h.at', h.cap, ⟨cur, c1.set_other (p := ⟨N, i, none⟩) hne v, c2⟩, h.rows.moved (Moved.set hN hA hL i v)⟩
theorem moved_map {ι : Type} {enc : ι → Value} {w w' : World} {b : Nat} {g : ι → Option Value} (hm : MapG enc w b g) (hg : w.grownBy w' (some b)) : Moved w w' := ⟨fun h => blk_map h hm hg, fun h => blk_map h hm hg⟩
theorem lenM_left {P : List PAl} {now : Int} (h : LenM P) : LenM (leftTo P now P.length) := GrpI.lenM_left h P.length
theorem drop_mem {V : List PGr} {k : Nat} (hk : k < V.length) (i : Int) : (updF (standF V) (k : Int) none i).isSome = true ↔ i ∈ (placesL V.length).eraseIdx k := by
  have hp := places_lt V.length
  have hkk : (placesL V.length)[k]? = some (k : Int) := by unfold placesL; simp [hk]
  rw [List.mem_eraseIdx_iff_getElem?]
  by_cases e : i = (k : Int)
  · subst e
    rw [updF_at]
    constructor
    · intro h; cases h
    · rintro ⟨j, hj, hjk⟩
      have h1 : (placesL V.length)[j]? = some (j : Int) := by
        have hjl : j < V.length := by
          have := (List.getElem?_eq_some_iff.1 hjk).1
          unfold placesL at this
          simpa using this
        unfold placesL; simp [hjl]
      rw [h1] at hjk
      have := Option.some.inj hjk
      omega
  · rw [updF_no e, places_mem]
    constructor
    · intro h
      obtain ⟨j, hj⟩ := List.getElem?_of_mem h
      refine ⟨j, fun e2 => ?_, hj⟩
      subst e2
      rw [hkk] at hj
      exact e (Option.some.inj hj).symm
    · rintro ⟨j, _, hj⟩
      exact List.mem_of_getElem? hj
theorem drop_map {V : List PGr} {k : Nat} (hk : k < V.length) : ((placesL V.length).eraseIdx k).map (updF (standF V) (k : Int) none) = (V.take k ++ V.drop (k + 1)).map some := by
  have h1 : ((placesL V.length).eraseIdx k).map (updF (standF V) (k : Int) none) = ((placesL V.length).eraseIdx k).map (standF V) := by
    refine List.map_congr_left fun i hi => ?_
    have h2 := (drop_mem hk i).2 hi
    by_cases e : i = (k : Int)
    · subst e; rw [updF_at] at h2; cases h2
    · exact updF_no e
  have h3 : ((placesL V.length).eraseIdx k).map (standF V) = ((placesL V.length).map (standF V)).eraseIdx k := by rw [List.eraseIdx_eq_take_drop_succ, List.eraseIdx_eq_take_drop_succ, List.map_append, List.map_take, List.map_drop]
  rw [h1, h3, places_map, List.eraseIdx_eq_take_drop_succ, List.map_append, List.map_take, List.map_drop]
theorem laidD_any (M n k : Nat) (g : Int → Option Value) (V : List PGr) (w : World) (hk : k < V.length) (hS : Stood GK w M n g (updF (standF V) (k : Int) none)) (hn : n ≤ 2000000) (hs : SmallG V) (hl : V.length ≤ 2000000) :
    Calls Try.prog 57 #[.map (some M)] w fun e w' => (∃ M', e = .returned (.slice (some ⟨M', 0, none⟩) (V.take k ++ V.drop (k + 1)).length (V.take k ++ V.drop (k + 1)).length) ∧ ∃ us, GsB w.heap.size w' M' (V.take k ++ V.drop (k + 1)).length us ∧ grs us = V.take k ++ V.drop (k + 1)) ∧ Below w.heap.size w w' :=
  laid_any M n g _ ((placesL V.length).eraseIdx k) (V.take k ++ V.drop (k + 1)) w hS hn ((places_lt _).sublist (List.eraseIdx_sublist _ _)) (drop_mem hk) (drop_map hk) (fun x hx => by
    rcases List.mem_append.1 hx with hx | hx
    · exact hs x (List.mem_of_mem_take hx)
    · exact hs x (List.mem_of_mem_drop hx)) (by simp; omega)
set_option maxRecDepth 100000 in
set_option maxHeartbeats 6400000 in
theorem implFlushA_any (a : Option Addr) (cap : Nat) (U : List PGr) (n now : Int) (w : World) (hr : RdGs GN w a U) (hl : U.length ≤ 1048576) (hcap : U.length ≤ cap ∧ cap ≤ maxLen) (hs : SmallG U) :
    Calls Try.prog 33 #[.slice a U.length cap, .int .i64 n, .int .i64 now] w fun e w' => ((ofI (numIs n) U = -1 ∧ ∃ M c us, e = .returned (.tuple #[.slice (some ⟨M, 0, none⟩) us.length c, .agg #[.int .i64 0, .slice none 0 0, .int .i64 0, .slice none 0 0], .bool false]) ∧ GsB w.heap.size w' M c us ∧ grs us = U) ∨ (∃ k : Nat, ofI (numIs n) U = (k : Int) ∧ k < U.length ∧ ∃ M c us K2 kd2 M2 o2 c2 rs2, e = .returned (.tuple #[.slice (some ⟨M, 0, none⟩) us.length c, .agg #[.int .i64 (nthG U k).n, .slice (some ⟨K2, 0, none⟩) (nthG U k).key.length kd2, .int .i64 now, .slice (some ⟨M2, o2, none⟩) rs2.length c2], .bool true]) ∧ GsB w.heap.size w' M c us ∧ grs us = flushG U k now ∧ GB w.heap.size w' K2 (nthG U k).key M2 o2 rs2 ∧ pals rs2 = (nthG U k).P ∧ ∀ q, blksG M us q → ¬ gblks K2 M2 rs2 q)) ∧ Below w.heap.size w w' := by
  have HR : Hid (RdGs GN w a U ∧ SmallG U) := ⟨hr, hs⟩
  clear hr hs hcap
  generalize hW0 : w.alloc (.cells #[.int .i64 0, .slice none 0 0, .int .i64 0, .slice none 0 0] 55) = W0
  have HB0 : Hid (Below w.heap.size w W0) := by rw [← hW0]; exact Go.Joins.below_alloc1 w _
  have BR0 : Hid (Blk W0 w.heap.size #[.int .i64 0, .slice none 0 0, .int .i64 0, .slice none 0 0] 55) := by rw [← hW0]; exact Blk.new _ _ _
  have HZ0 : Hid (W0.heap.size = w.heap.size + 1) := by show _ = _; rw [← hW0]; simp
  go_enter Try.func33, Try.ntmps33
  go_upto_region 1 with fail
  try rw [hW0]
  clear hW0
  go_wp2_with fail
  refine (stand_any a cap U W0 (HR.out.1.below stays_gn HB0.out) hl).mono ?_
  rintro e z1 ⟨⟨M, rfl, hM, n1, g1, hn1, hS1⟩, hb1⟩
  have HS1 : Hid (Stood GN z1 M n1 g1 (standF U) ∧ n1 ≤ U.length) := ⟨hS1, hn1⟩
  have HM : Hid (w.heap.size + 1 ≤ M) := by have h := HZ0.out; show _ ≤ _; omega
  have HB1 : Hid (Below w.heap.size w z1) := grow_on HB0.out hb1
  have BR1 : Hid (Blk z1 w.heap.size #[.int .i64 0, .slice none 0 0, .int .i64 0, .slice none 0 0] 55) := BR0.out.grow hb1
  clear hM hn1 hS1 hb1 BR0 HB0 HZ0
  go_wp2_with fail
  refine (GpIt.implAt_any a cap U n _ ((HR.out.1.below stays_gn HB1.out).rd) hl).mono ?_
  rintro e z ⟨rfl, hb2⟩
  have HSz : Hid (Stood GN z M n1 g1 (standF U) ∧ n1 ≤ U.length) := ⟨HS1.out.1.grow stays_gn hb2, HS1.out.2⟩
  have HB : Hid (Below w.heap.size w z) := grow_on HB1.out hb2
  have BR : Hid (Blk z w.heap.size #[.int .i64 0, .slice none 0 0, .int .i64 0, .slice none 0 0] 55) := BR1.out.grow hb2
  have hnlen : n1 ≤ U.length := HS1.out.2
  clear hb2 HS1 HB1 BR1
  rcases ofI_cases (numIs n) U with ⟨he, _⟩ | ⟨k, he, hkl, _, _⟩
  ·
    have HE : Hid (ofI (numIs n) U = -1) := he
    have HLD : Hid (Calls Try.prog 57 #[.map (some M)] z fun e w' => (∃ M', e = .returned (.slice (some ⟨M', 0, none⟩) U.length U.length) ∧ ∃ us, GsB z.heap.size w' M' U.length us ∧ grs us = U) ∧ Below z.heap.size z w') := laidV_any M n1 g1 U z (HSz.out.1.gk) (by omega) HR.out.2 (by omega)
    rw [he]
    clear he
    go_wp2_with fail
    refine HLD.out.mono ?_
    rintro e w5 ⟨⟨M', rfl, us, hgs, hgr⟩, hb⟩
    have HF : Hid (GsB z.heap.size w5 M' U.length us ∧ grs us = U ∧ us.length = U.length) := ⟨hgs, hgr, by rw [← hgr, grs_len]⟩
    have HB5 : Hid (Below w.heap.size w w5) := grow_on HB.out hb
    have BR5 : Hid (Blk w5 w.heap.size #[.int .i64 0, .slice none 0 0, .int .i64 0, .slice none 0 0] 55) := BR.out.grow hb
    have HLZ : Hid (w.heap.size < z.heap.size) := BR.out.lt
    clear hgs hgr hb HB BR HLD HSz
    have r0 := BR5.out.cell 0
    have fr0 := BR5.out.frozen 0
    have r1 := BR5.out.cell 1
    have fr1 := BR5.out.frozen 1
    have r2 := BR5.out.cell 2
    have fr2 := BR5.out.frozen 2
    have r3 := BR5.out.cell 3
    have fr3 := BR5.out.frozen 3
    simp at r0 r1 r2 r3
    go_wp2
    have hR : Blk _ w.heap.size #[.int .i64 0, .slice none 0 0, .int .i64 0, .slice none 0 0] 55 := ((((BR5.out.set 0 (.int .i64 0)).set 1 (.slice none 0 0)).set 2 (.int .i64 0)).set 3 (.slice none 0 0))
    have s0 := hR.cell 0
    have s1 := hR.cell 1
    have s2 := hR.cell 2
    have s3 := hR.cell 3
    have hne : w.heap.size ≠ M' := by have := HF.out.1.at'; have := HLZ.out; omega
    refine bodyPost_ret (v := .tuple #[.slice (some ⟨M', 0, none⟩) U.length U.length, .agg #[.int .i64 0, .slice none 0 0, .int .i64 0, .slice none 0 0], .bool false]) (by simp [results, Try.results33, go_sem, s0, s1, s2, s3]) rfl ?_
    exact ⟨.inl ⟨HE.out, M', U.length, us, by rw [HF.out.2.2], ((GsB.far (GsB.far (GsB.far (GsB.far HF.out.1 BR5.out (by decide) (by decide) hne 0 (.int .i64 0)) (BR5.out.set 0 (.int .i64 0)) (by decide) (by decide) hne 1 (.slice none 0 0)) ((BR5.out.set 0 (.int .i64 0)).set 1 (.slice none 0 0)) (by decide) (by decide) hne 2 (.int .i64 0)) (((BR5.out.set 0 (.int .i64 0)).set 1 (.slice none 0 0)).set 2 (.int .i64 0)) (by decide) (by decide) hne 3 (.slice none 0 0))).down (by have := HLZ.out; omega), HF.out.2.1⟩, (set_low (set_low (set_low (set_low HB5.out (M := w.heap.size) (Nat.le_refl _) 0 (.int .i64 0)) (M := w.heap.size) (Nat.le_refl _) 1 (.slice none 0 0)) (M := w.heap.size) (Nat.le_refl _) 2 (.int .i64 0)) (M := w.heap.size) (Nat.le_refl _) 3 (.slice none 0 0))⟩
  ·
    have HE : Hid (ofI (numIs n) U = (k : Int) ∧ k < U.length) := ⟨he, hkl⟩
    have hk0 : ¬ (k : Int) < 0 := by omega
    rw [he]
    clear he
    obtain ⟨v, hgv, ka, kc, ad, cp, rfl, ⟨gk, ok, rfl⟩, ⟨ga, oa, rfl⟩, hcp, hrk, hra⟩ := HSz.out.1.ent (k : Int) (nthG U k) (by rw [standF_nat, nthG_eq hkl]; exact List.getElem?_eq_getElem hkl)
    have HGV : Hid (g1 (k : Int) = some (.agg #[.int .i64 (nthG U k).n, .slice (some ⟨gk, ok, none⟩) (nthG U k).key.length kc, .int .i64 (nthG U k).b, .int .i64 (nthG U k).t, .slice (some ⟨ga, oa, none⟩) (nthG U k).P.length cp])) := hgv
    have HSM : Hid (SmG (nthG U k)) := HR.out.2 _ (nthG_mem hkl)
    have HRD : Hid (Reads z (some ⟨gk, ok, none⟩) (nthG U k).key ∧ RdN z (some ⟨ga, oa, none⟩) (nthG U k).P) := ⟨hrk, hra⟩
    clear hgv hcp hrk hra
    go_wp2_with (at_lookup; refine wp_lookup _ rfl _ _ 83 false rfl 3 67 IntK (asked_int Try.underlying3) Try.underlying83 (zeroG _) M _ rfl HSz.out.1.map (k : Int) rfl (.agg #[.int .i64 (nthG U k).n, .slice (some ⟨gk, ok, none⟩) (nthG U k).key.length kc, .int .i64 (nthG U k).b, .int .i64 (nthG U k).t, .slice (some ⟨ga, oa, none⟩) (nthG U k).P.length cp]) (by rw [HGV.out]; rfl) ?_)
    refine (GrpI.implFlush_any (nthG U k).n (nthG U k).b (nthG U k).t gk ok kc (nthG U k).key (some ⟨ga, oa, none⟩) cp (nthG U k).P now _ HRD.out.1 HSM.out.1 HRD.out.2 HSM.out.2.1 HSM.out.2.2).mono ?_
    rintro e w4 ⟨⟨Ke, kd, M1, o1, c1, rs1, K2, kd2, M2, o2, c2, rs2, rfl, hG1, hP1, hG2, hP2, hne12⟩, hb4⟩
    have HF1 : Hid (GB z.heap.size w4 Ke (nthG U k).key M1 o1 rs1 ∧ pals rs1 = leftTo (nthG U k).P now (nthG U k).P.length) := ⟨hG1, hP1⟩
    have HF2 : Hid (GB z.heap.size w4 K2 (nthG U k).key M2 o2 rs2 ∧ pals rs2 = (nthG U k).P) := ⟨hG2, hP2⟩
    have HS4 : Hid (Stood GK w4 M n1 g1 (standF U)) := (HSz.out.1.gk).grow stays_gk hb4
    have HB4 : Hid (Below w.heap.size w w4) := grow_on HB.out hb4
    have BR4 : Hid (Blk w4 w.heap.size #[.int .i64 0, .slice none 0 0, .int .i64 0, .slice none 0 0] 55) := BR.out.grow hb4
    have HLZ : Hid (w.heap.size < z.heap.size ∧ z.heap.size ≤ w4.heap.size) := ⟨BR.out.lt, hb4.size⟩
    clear hG1 hP1 hG2 hP2 hne12 hb4 HB BR HRD HGV HSz
    go_upto_region 5 with fail
    generalize hW5 : (w4.alloc (.cells #[.int .i64 (nthG U k).n, .slice (some ⟨Ke, 0, none⟩) (nthG U k).key.length kd, .int .i64 (nthG U k).b, .int .i64 now, .slice (some ⟨M1, o1, none⟩) rs1.length c1] 67)).alloc (.cells #[.int .i64 (nthG U k).n, .slice (some ⟨K2, 0, none⟩) (nthG U k).key.length kd2, .int .i64 now, .slice (some ⟨M2, o2, none⟩) rs2.length c2] 55) = W5 at *
    have hb5 : Below w4.heap.size w4 W5 := by rw [← hW5]; exact Go.Joins.below_alloc2 w4 _ _
    have BX5 : Hid (Blk W5 w4.heap.size #[.int .i64 (nthG U k).n, .slice (some ⟨Ke, 0, none⟩) (nthG U k).key.length kd, .int .i64 (nthG U k).b, .int .i64 now, .slice (some ⟨M1, o1, none⟩) rs1.length c1] 67) := by rw [← hW5]; exact (Blk.new _ _ _).alloc _
    have BB5 : Hid (Blk W5 (w4.heap.size + 1) #[.int .i64 (nthG U k).n, .slice (some ⟨K2, 0, none⟩) (nthG U k).key.length kd2, .int .i64 now, .slice (some ⟨M2, o2, none⟩) rs2.length c2] 55) := by rw [← hW5]; exact Blk.new_at (by simp)
    have HS5 : Hid (Stood GK W5 M n1 g1 (standF U)) := HS4.out.grow stays_gk hb5
    have HB5 : Hid (Below w.heap.size w W5) := grow_on HB4.out hb5
    have BR5 : Hid (Blk W5 w.heap.size #[.int .i64 0, .slice none 0 0, .int .i64 0, .slice none 0 0] 55) := BR4.out.grow hb5
    have HG1 : Hid (GB z.heap.size W5 Ke (nthG U k).key M1 o1 rs1) := HF1.out.1.grow hb5
    have HG2 : Hid (GB z.heap.size W5 K2 (nthG U k).key M2 o2 rs2) := HF2.out.1.grow hb5
    clear hb5 hW5 HS4 HB4 BR4
    have x0 := BX5.out.cell 0
    have fx0 := BX5.out.frozen 0
    have x1 := BX5.out.cell 1
    have fx1 := BX5.out.frozen 1
    have x2 := BX5.out.cell 2
    have fx2 := BX5.out.frozen 2
    have x3 := BX5.out.cell 3
    have fx3 := BX5.out.frozen 3
    have x4 := BX5.out.cell 4
    have fx4 := BX5.out.frozen 4
    simp at x0 x1 x2 x3 x4
    go_wp2_with (at_mapUpdate; refine wp_updateN _ rfl _ _ _ 83 rfl 3 67 IntK (asked_int Try.underlying3) Try.underlying83 M n1 _ rfl HS5.out.map HS5.out.num (k : Int) (.agg #[.int .i64 (nthG U k).n, .slice (some ⟨Ke, 0, none⟩) (nthG U k).key.length kd, .int .i64 (nthG U k).b, .int .i64 now, .slice (some ⟨M1, o1, none⟩) rs1.length c1]) rfl rfl ?_)
    intro w6 n6 hm6 hn6 hle6 hg6 hs6
    have HS6 : Hid (Stood GK w6 M n6 (updG g1 (k : Int) (some (.agg #[.int .i64 (nthG U k).n, .slice (some ⟨Ke, 0, none⟩) (nthG U k).key.length kd, .int .i64 (nthG U k).b, .int .i64 now, .slice (some ⟨M1, o1, none⟩) rs1.length c1]))) (standF (U.set k (sentG now (nthG U k))))) := by
      rw [← standF_set hkl]
      exact HS5.out.put up_gk hm6 hn6 hg6 ⟨some ⟨Ke, 0, none⟩, kd, some ⟨M1, o1, none⟩, c1, by simp only [sentG]; rw [← HF1.out.2, pals_len], ⟨Ke, 0, rfl⟩, HG1.out.key.rd, by simp only [sentG]; rw [← HF1.out.2]; exact HG1.out.row.rd.rd⟩
    have hmv := moved_map HS5.out.map hg6
    have HB6 : Hid (Below w.heap.size w w6) := HB5.out.grown hg6 HB5.out.size (fun j e => by have e : M = j := Option.some.inj e; have := HM.out; omega)
    have BX6 : Hid (Blk w6 w4.heap.size #[.int .i64 (nthG U k).n, .slice (some ⟨Ke, 0, none⟩) (nthG U k).key.length kd, .int .i64 (nthG U k).b, .int .i64 now, .slice (some ⟨M1, o1, none⟩) rs1.length c1] 67) := blk_map BX5.out HS5.out.map hg6
    have BB6 : Hid (Blk w6 (w4.heap.size + 1) #[.int .i64 (nthG U k).n, .slice (some ⟨K2, 0, none⟩) (nthG U k).key.length kd2, .int .i64 now, .slice (some ⟨M2, o2, none⟩) rs2.length c2] 55) := blk_map BB5.out HS5.out.map hg6
    have BR6 : Hid (Blk w6 w.heap.size #[.int .i64 0, .slice none 0 0, .int .i64 0, .slice none 0 0] 55) := blk_map BR5.out HS5.out.map hg6
    have HG6 : Hid (GB z.heap.size w6 K2 (nthG U k).key M2 o2 rs2) := gb_moved HG2.out hmv
    have HL1 : Hid (rs1.length = (leftTo (nthG U k).P now (nthG U k).P.length).length) := by unfold Hid; rw [← HF1.out.2, pals_len]
    clear hm6 hn6 hg6 hs6 hmv x0 fx0 x1 fx1 x2 fx2 x3 fx3 x4 fx4 HS5 HB5 BX5 BB5 BR5 HG1 HG2
    have x4 := BX6.out.cell 4
    simp at x4
    have hn6b : n6 ≤ 2000000 := by omega
    have HSMS : Hid (SmallG (U.set k (sentG now (nthG U k)))) := GpIj.small_set HR.out.2 ⟨HSM.out.1, Nat.le_trans (GrpF.left_le (Nat.le_refl _)) HSM.out.2.1, lenM_left HSM.out.2.2⟩
    by_cases h0 : rs1.length = 0
    ·
      have HFL : Hid (flushG U k now = U.take k ++ U.drop (k + 1)) := flush_none (by rw [← HL1.out]; exact h0)
      rw [h0]  at x4
      have h00 : ((rs1.length : Int) == 0) = true := by rw [h0]; rfl
      go_wp2_with (at_delete; refine wp_deleteN _ rfl _ _ 83 3 rfl 67 IntK (asked_int Try.underlying3) Try.underlying83 M n6 _ rfl HS6.out.map HS6.out.num (k : Int) rfl ?_)
      intro w7 n7 hm7 hn7 hle7 hg7 hs7
      have h6 := HS6.out
      rw [h0] at h6
      have HS7 : Hid (Stood GK w7 M n7 (updG (updG g1 (k : Int) (some (.agg #[.int .i64 (nthG U k).n, .slice (some ⟨Ke, 0, none⟩) (nthG U k).key.length kd, .int .i64 (nthG U k).b, .int .i64 now, .slice (some ⟨M1, o1, none⟩) 0 c1]))) (k : Int) none) (updF (standF U) (k : Int) none)) := by
        have h := h6.drop up_gk hm7 hn7 hg7
        rw [← standF_set hkl, updF_twice] at h
        exact h
      have hmv := moved_map HS6.out.map hg7
      have HBz : Hid (Below w.heap.size w w7) := HB6.out.grown hg7 HB6.out.size (fun j e => by have e : M = j := Option.some.inj e; have := HM.out; omega)
      have BB : Hid (Blk w7 (w4.heap.size + 1) #[.int .i64 (nthG U k).n, .slice (some ⟨K2, 0, none⟩) (nthG U k).key.length kd2, .int .i64 now, .slice (some ⟨M2, o2, none⟩) rs2.length c2] 55) := blk_map BB6.out HS6.out.map hg7
      have BR : Hid (Blk w7 w.heap.size #[.int .i64 0, .slice none 0 0, .int .i64 0, .slice none 0 0] 55) := blk_map BR6.out HS6.out.map hg7
      have HGz : Hid (GB z.heap.size w7 K2 (nthG U k).key M2 o2 rs2) := gb_moved HG6.out hmv
      have HLD : Hid (Calls Try.prog 57 #[.map (some M)] w7.drew fun e w' => (∃ M', e = .returned (.slice (some ⟨M', 0, none⟩) (U.take k ++ U.drop (k + 1)).length (U.take k ++ U.drop (k + 1)).length) ∧ ∃ us, GsB w7.heap.size w' M' (U.take k ++ U.drop (k + 1)).length us ∧ grs us = U.take k ++ U.drop (k + 1)) ∧ Below w7.heap.size w7.drew w') := laidD_any M n7 k _ U w7.drew hkl (HS7.out.grow stays_gk (Below.refl _ _).drew) (by omega) HR.out.2 (by omega)
      clear h6 hm7 hn7 hg7 hs7 hmv x4 HB6 BX6 BB6 BR6 HG6 HS6 HS7
      go_upto_region 8 with fail
      have HS : Hid (∀ w', Blk w' (w4.heap.size + 1) #[.int .i64 (nthG U k).n, .slice (some ⟨K2, 0, none⟩) (nthG U k).key.length kd2, .int .i64 now, .slice (some ⟨M2, o2, none⟩) rs2.length c2] 55 → w'.cell? ⟨w4.heap.size + 1, 0, none⟩ = some (.int .i64 (nthG U k).n) ∧ w'.cell? ⟨w4.heap.size + 1, 1, none⟩ = some (.slice (some ⟨K2, 0, none⟩) (nthG U k).key.length kd2) ∧ w'.cell? ⟨w4.heap.size + 1, 2, none⟩ = some (.int .i64 now) ∧ w'.cell? ⟨w4.heap.size + 1, 3, none⟩ = some (.slice (some ⟨M2, o2, none⟩) rs2.length c2)) := fun w' h => ⟨h.cell 0, h.cell 1, h.cell 2, h.cell 3⟩
      refine wp_region_held_drew (S := fun w' => w'.cell? ⟨w4.heap.size + 1, 0, none⟩ = some (.int .i64 (nthG U k).n) ∧ w'.cell? ⟨w4.heap.size + 1, 1, none⟩ = some (.slice (some ⟨K2, 0, none⟩) (nthG U k).key.length kd2) ∧ w'.cell? ⟨w4.heap.size + 1, 2, none⟩ = some (.int .i64 now) ∧ w'.cell? ⟨w4.heap.size + 1, 3, none⟩ = some (.slice (some ⟨M2, o2, none⟩) rs2.length c2)) (by kernel_rfl) (HS.out _ (BB.out.grow (Below.refl w7.heap.size w7).drew)) (fun hHeld => ?_)
      refine wpAnyH_take (i := 0) (oi := { dst := some 40, op := Op.move (Operand.tmp 9), type := 83, pos := "l12_groups.go:89", after := #[], guard := none }) (v := ?vfa0) rfl (by kernel_rfl) (by kernel_rfl) (by kernel_rfl) (fun _ _ _ h => h) (Or.inl ⟨by rfl, ?hyfa0⟩) hHeld ?_
      case hyfa0 => (intro w hSw; (try dsimp only at hSw); go_simp <;> with_reducible rfl)
      try simp only [Act.put, List.setIfInBounds_toArray, List.set_cons_zero, List.set_cons_succ]
      refine wpAnyH_take (i := 2) (oi := { dst := some 42, op := Op.load 55 (Operand.tmp 12), type := 55, pos := "l12_groups.go:89", after := #[{ on := 3, ground := Ground.gcOnly Departure.lateStores }], guard := none }) (v := ?vfa2) rfl (by kernel_rfl) (by kernel_rfl) (by kernel_rfl) (fun _ _ _ h => h) (Or.inl ⟨by rfl, ?hyfa2⟩) hHeld ?_
      case hyfa2 => (intro w hSw; (try dsimp only at hSw); go_simp <;> with_reducible rfl)
      try simp only [Act.put, List.setIfInBounds_toArray, List.set_cons_zero, List.set_cons_succ]
      refine wpAnyH_ready (rs := [1]) (by kernel_rfl) (by simp) ?_
      refine AllReadyH.cons (o := { dst := some 41, op := Op.call { callee := Callee.value (Operand.func 57), args := #[Operand.tmp 40], argTypes := #[83] }, type := 27, pos := "l12_groups.go:89", after := #[{ on := 0, ground := Ground.data }], guard := none }) rfl (fun K hK => ?_) AllReadyH.nil
      go_simp
      refine (HLD.out).mono ?_
      rintro r wyfa1 ⟨⟨M', rfl, us, hgs, hgr⟩, hb9⟩
      have Z9 : Hid (Below w7.heap.size w7 wyfa1) := grow_on (Below.refl w7.heap.size w7).drew hb9
      have HF : Hid (GsB w7.heap.size wyfa1 M' (U.take k ++ U.drop (k + 1)).length us ∧ grs us = U.take k ++ U.drop (k + 1) ∧ us.length = (U.take k ++ U.drop (k + 1)).length) := ⟨hgs, hgr, by rw [← hgr, grs_len]⟩
      have BR9 : Hid (Blk wyfa1 w.heap.size #[.int .i64 0, .slice none 0 0, .int .i64 0, .slice none 0 0] 55) := BR.out.grow Z9.out
      have BB9 : Hid (Blk wyfa1 (w4.heap.size + 1) #[.int .i64 (nthG U k).n, .slice (some ⟨K2, 0, none⟩) (nthG U k).key.length kd2, .int .i64 now, .slice (some ⟨M2, o2, none⟩) rs2.length c2] 55) := BB.out.grow Z9.out
      have HG9 : Hid (GB z.heap.size wyfa1 K2 (nthG U k).key M2 o2 rs2) := HGz.out.grow Z9.out
      have HB9 : Hid (Below w.heap.size w wyfa1) := grow_on HBz.out Z9.out
      have HLW : Hid (w4.heap.size + 1 < w7.heap.size) := BB.out.lt
      have HRN : Hid (∀ q, gblks K2 M2 rs2 q → q < w7.heap.size) := fun q hq => (HGz.out.rng q hq).2
      clear hgs hgr hb9 HLD
      clear hHeld
      refine hK.out _ _ (HS.out _ BB9.out) (fun hHeld => ?_)
      clear hK K
      try simp only [Act.put, List.setIfInBounds_toArray, List.set_cons_zero, List.set_cons_succ]
      refine wpAnyH_take (i := 3) (oi := { dst := some 6, op := Op.assign (Operand.tmp 41), type := 27, pos := "l12_groups.go:89", after := #[{ on := 1, ground := Ground.data }, { on := 1, ground := Ground.chain }, { on := 0, ground := Ground.phase }, { on := 1, ground := Ground.phase }, { on := 2, ground := Ground.textOnly Departure.lateStores }], guard := none }) (v := ?vfa3) rfl (by kernel_rfl) (by kernel_rfl) (by kernel_rfl) (fun _ _ _ h => h) (Or.inl ⟨by rfl, ?hyfa3⟩) hHeld ?_
      case hyfa3 => (intro w hSw; (try dsimp only at hSw); go_simp <;> with_reducible rfl)
      try simp only [Act.put, List.setIfInBounds_toArray, List.set_cons_zero, List.set_cons_succ]
      refine wpAnyH_ready (rs := [4]) (by kernel_rfl) (by simp) ?_
      refine AllReadyH.cons (o := { dst := none, op := Op.store 55 (Operand.tmp 7) (Operand.tmp 42), type := 0, pos := "l12_groups.go:89", after := #[{ on := 2, ground := Ground.data }, { on := 3, ground := Ground.chain }, { on := 0, ground := Ground.phase }, { on := 1, ground := Ground.phase }, { on := 2, ground := Ground.phase }, { on := 3, ground := Ground.phase }], guard := none }) rfl (fun K hK => ?_) AllReadyH.nil
      have r0 := BR9.out.cell 0
      have fr0 := BR9.out.frozen 0
      have r1 := BR9.out.cell 1
      have fr1 := BR9.out.frozen 1
      have r2 := BR9.out.cell 2
      have fr2 := BR9.out.frozen 2
      have r3 := BR9.out.cell 3
      have fr3 := BR9.out.frozen 3
      simp at r0 r1 r2 r3
      go_simp
      clear hHeld
      refine hK.out _ _ (HS.out _ ((((BB9.out.set_other (p := ⟨w.heap.size, 0, none⟩) (by have := HLZ.out; show w.heap.size ≠ w4.heap.size + 1; omega) (.int .i64 (nthG U k).n)).set_other (p := ⟨w.heap.size, 1, none⟩) (by have := HLZ.out; show w.heap.size ≠ w4.heap.size + 1; omega) (.slice (some ⟨K2, 0, none⟩) (nthG U k).key.length kd2)).set_other (p := ⟨w.heap.size, 2, none⟩) (by have := HLZ.out; show w.heap.size ≠ w4.heap.size + 1; omega) (.int .i64 now)).set_other (p := ⟨w.heap.size, 3, none⟩) (by have := HLZ.out; show w.heap.size ≠ w4.heap.size + 1; omega) (.slice (some ⟨M2, o2, none⟩) rs2.length c2))) (fun hHeld => ?_)
      clear hK K
      try simp only [Act.put, List.setIfInBounds_toArray, List.set_cons_zero, List.set_cons_succ]
      refine wpAnyH_take (i := 5) (oi := { dst := some 8, op := Op.assign (Operand.const (Value.bool true)), type := 4, pos := "l12_groups.go:89", after := #[{ on := 4, ground := Ground.chain }, { on := 0, ground := Ground.phase }, { on := 1, ground := Ground.phase }, { on := 2, ground := Ground.phase }, { on := 3, ground := Ground.phase }, { on := 4, ground := Ground.phase }], guard := none }) (v := ?vfa5) rfl (by kernel_rfl) (by kernel_rfl) (by kernel_rfl) (fun _ _ _ h => h) (Or.inl ⟨by rfl, ?hyfa5⟩) hHeld ?_
      case hyfa5 => (intro w hSw; (try dsimp only at hSw); go_simp <;> with_reducible rfl)
      try simp only [Act.put, List.setIfInBounds_toArray, List.set_cons_zero, List.set_cons_succ]
      clear r0 fr0 r1 fr1 r2 fr2 r3 fr3
      refine wpAnyH_done (by kernel_rfl) ?_ _
      clear hHeld HS
      go_wp2_with fail
      have hR : Blk _ w.heap.size #[.int .i64 (nthG U k).n, .slice (some ⟨K2, 0, none⟩) (nthG U k).key.length kd2, .int .i64 now, .slice (some ⟨M2, o2, none⟩) rs2.length c2] 55 := ((((BR9.out.set 0 (.int .i64 (nthG U k).n)).set 1 (.slice (some ⟨K2, 0, none⟩) (nthG U k).key.length kd2)).set 2 (.int .i64 now)).set 3 (.slice (some ⟨M2, o2, none⟩) rs2.length c2))
      have s0 := hR.cell 0
      have s1 := hR.cell 1
      have s2 := hR.cell 2
      have s3 := hR.cell 3
      have hne : w.heap.size ≠ M' := by have := HF.out.1.at'; have := HLZ.out; have := HLW.out; omega
      refine bodyPost_ret (v := .tuple #[.slice (some ⟨M', 0, none⟩) (U.take k ++ U.drop (k + 1)).length (U.take k ++ U.drop (k + 1)).length, .agg #[.int .i64 (nthG U k).n, .slice (some ⟨K2, 0, none⟩) (nthG U k).key.length kd2, .int .i64 now, .slice (some ⟨M2, o2, none⟩) rs2.length c2], .bool true]) (by simp [results, Try.results33, go_sem, s0, s1, s2, s3]) rfl ?_
      have hgs := (GsB.far (GsB.far (GsB.far (GsB.far HF.out.1 BR9.out (by decide) (by decide) hne 0 (.int .i64 (nthG U k).n)) (BR9.out.set 0 (.int .i64 (nthG U k).n)) (by decide) (by decide) hne 1 (.slice (some ⟨K2, 0, none⟩) (nthG U k).key.length kd2)) ((BR9.out.set 0 (.int .i64 (nthG U k).n)).set 1 (.slice (some ⟨K2, 0, none⟩) (nthG U k).key.length kd2)) (by decide) (by decide) hne 2 (.int .i64 now)) (((BR9.out.set 0 (.int .i64 (nthG U k).n)).set 1 (.slice (some ⟨K2, 0, none⟩) (nthG U k).key.length kd2)).set 2 (.int .i64 now)) (by decide) (by decide) hne 3 (.slice (some ⟨M2, o2, none⟩) rs2.length c2))
      refine ⟨.inr ⟨k, HE.out.1, HE.out.2, M', (U.take k ++ U.drop (k + 1)).length, us, K2, kd2, M2, o2, c2, rs2, by rw [HF.out.2.2], hgs.down (by have := HLZ.out; have := HLW.out; omega), ?_, ((gb_moved (gb_moved (gb_moved (gb_moved HG9.out (Moved.set BR9.out (by decide) (by decide) 0 (.int .i64 (nthG U k).n))) (Moved.set (BR9.out.set 0 (.int .i64 (nthG U k).n)) (by decide) (by decide) 1 (.slice (some ⟨K2, 0, none⟩) (nthG U k).key.length kd2))) (Moved.set ((BR9.out.set 0 (.int .i64 (nthG U k).n)).set 1 (.slice (some ⟨K2, 0, none⟩) (nthG U k).key.length kd2)) (by decide) (by decide) 2 (.int .i64 now))) (Moved.set (((BR9.out.set 0 (.int .i64 (nthG U k).n)).set 1 (.slice (some ⟨K2, 0, none⟩) (nthG U k).key.length kd2)).set 2 (.int .i64 now)) (by decide) (by decide) 3 (.slice (some ⟨M2, o2, none⟩) rs2.length c2)))).down (by have := HLZ.out; omega), HF2.out.2, fun q h1 h2 => ?_⟩, (set_low (set_low (set_low (set_low HB9.out (M := w.heap.size) (Nat.le_refl _) 0 (.int .i64 (nthG U k).n)) (M := w.heap.size) (Nat.le_refl _) 1 (.slice (some ⟨K2, 0, none⟩) (nthG U k).key.length kd2)) (M := w.heap.size) (Nat.le_refl _) 2 (.int .i64 now)) (M := w.heap.size) (Nat.le_refl _) 3 (.slice (some ⟨M2, o2, none⟩) rs2.length c2))⟩
      · rw [HF.out.2.1]; exact HFL.out.symm
      · have h3 := blksG_low HF.out.1 q h1
        have h4 := HRN.out q h2
        omega
    ·
      have HFL : Hid (flushG U k now = U.set k (sentG now (nthG U k))) := flush_some (by rw [← HL1.out]; exact h0)
      have h00 : ((rs1.length : Int) == 0) = false := by simpa using h0
      have h01 : ¬ (rs1.length : Int) = 0 := by omega
      have HBz : Hid (Below w.heap.size w w6) := HB6.out
      have BB : Hid (Blk w6 (w4.heap.size + 1) #[.int .i64 (nthG U k).n, .slice (some ⟨K2, 0, none⟩) (nthG U k).key.length kd2, .int .i64 now, .slice (some ⟨M2, o2, none⟩) rs2.length c2] 55) := BB6.out
      have BR : Hid (Blk w6 w.heap.size #[.int .i64 0, .slice none 0 0, .int .i64 0, .slice none 0 0] 55) := BR6.out
      have HGz : Hid (GB z.heap.size w6 K2 (nthG U k).key M2 o2 rs2) := HG6.out
      have HLD : Hid (Calls Try.prog 57 #[.map (some M)] w6.drew fun e w' => (∃ M', e = .returned (.slice (some ⟨M', 0, none⟩) (U.set k (sentG now (nthG U k))).length (U.set k (sentG now (nthG U k))).length) ∧ ∃ us, GsB w6.heap.size w' M' (U.set k (sentG now (nthG U k))).length us ∧ grs us = U.set k (sentG now (nthG U k))) ∧ Below w6.heap.size w6.drew w') := laidV_any M n6 _ (U.set k (sentG now (nthG U k))) w6.drew (HS6.out.grow stays_gk (Below.refl _ _).drew) hn6b HSMS.out (by simp; omega)
      clear HB6 BX6 BB6 BR6 HG6 HS6
      go_upto_region 8 with fail
      have HS : Hid (∀ w', Blk w' (w4.heap.size + 1) #[.int .i64 (nthG U k).n, .slice (some ⟨K2, 0, none⟩) (nthG U k).key.length kd2, .int .i64 now, .slice (some ⟨M2, o2, none⟩) rs2.length c2] 55 → w'.cell? ⟨w4.heap.size + 1, 0, none⟩ = some (.int .i64 (nthG U k).n) ∧ w'.cell? ⟨w4.heap.size + 1, 1, none⟩ = some (.slice (some ⟨K2, 0, none⟩) (nthG U k).key.length kd2) ∧ w'.cell? ⟨w4.heap.size + 1, 2, none⟩ = some (.int .i64 now) ∧ w'.cell? ⟨w4.heap.size + 1, 3, none⟩ = some (.slice (some ⟨M2, o2, none⟩) rs2.length c2)) := fun w' h => ⟨h.cell 0, h.cell 1, h.cell 2, h.cell 3⟩
      refine wp_region_held_drew (S := fun w' => w'.cell? ⟨w4.heap.size + 1, 0, none⟩ = some (.int .i64 (nthG U k).n) ∧ w'.cell? ⟨w4.heap.size + 1, 1, none⟩ = some (.slice (some ⟨K2, 0, none⟩) (nthG U k).key.length kd2) ∧ w'.cell? ⟨w4.heap.size + 1, 2, none⟩ = some (.int .i64 now) ∧ w'.cell? ⟨w4.heap.size + 1, 3, none⟩ = some (.slice (some ⟨M2, o2, none⟩) rs2.length c2)) (by kernel_rfl) (HS.out _ (BB.out.grow (Below.refl w6.heap.size w6).drew)) (fun hHeld => ?_)
      refine wpAnyH_take (i := 0) (oi := { dst := some 40, op := Op.move (Operand.tmp 9), type := 83, pos := "l12_groups.go:89", after := #[], guard := none }) (v := ?vfb0) rfl (by kernel_rfl) (by kernel_rfl) (by kernel_rfl) (fun _ _ _ h => h) (Or.inl ⟨by rfl, ?hyfb0⟩) hHeld ?_
      case hyfb0 => (intro w hSw; (try dsimp only at hSw); go_simp <;> with_reducible rfl)
      try simp only [Act.put, List.setIfInBounds_toArray, List.set_cons_zero, List.set_cons_succ]
      refine wpAnyH_take (i := 2) (oi := { dst := some 42, op := Op.load 55 (Operand.tmp 12), type := 55, pos := "l12_groups.go:89", after := #[{ on := 3, ground := Ground.gcOnly Departure.lateStores }], guard := none }) (v := ?vfb2) rfl (by kernel_rfl) (by kernel_rfl) (by kernel_rfl) (fun _ _ _ h => h) (Or.inl ⟨by rfl, ?hyfb2⟩) hHeld ?_
      case hyfb2 => (intro w hSw; (try dsimp only at hSw); go_simp <;> with_reducible rfl)
      try simp only [Act.put, List.setIfInBounds_toArray, List.set_cons_zero, List.set_cons_succ]
      refine wpAnyH_ready (rs := [1]) (by kernel_rfl) (by simp) ?_
      refine AllReadyH.cons (o := { dst := some 41, op := Op.call { callee := Callee.value (Operand.func 57), args := #[Operand.tmp 40], argTypes := #[83] }, type := 27, pos := "l12_groups.go:89", after := #[{ on := 0, ground := Ground.data }], guard := none }) rfl (fun K hK => ?_) AllReadyH.nil
      go_simp
      refine (HLD.out).mono ?_
      rintro r wyfb1 ⟨⟨M', rfl, us, hgs, hgr⟩, hb9⟩
      have Z9 : Hid (Below w6.heap.size w6 wyfb1) := grow_on (Below.refl w6.heap.size w6).drew hb9
      have HF : Hid (GsB w6.heap.size wyfb1 M' (U.set k (sentG now (nthG U k))).length us ∧ grs us = U.set k (sentG now (nthG U k)) ∧ us.length = (U.set k (sentG now (nthG U k))).length) := ⟨hgs, hgr, by rw [← hgr, grs_len]⟩
      have BR9 : Hid (Blk wyfb1 w.heap.size #[.int .i64 0, .slice none 0 0, .int .i64 0, .slice none 0 0] 55) := BR.out.grow Z9.out
      have BB9 : Hid (Blk wyfb1 (w4.heap.size + 1) #[.int .i64 (nthG U k).n, .slice (some ⟨K2, 0, none⟩) (nthG U k).key.length kd2, .int .i64 now, .slice (some ⟨M2, o2, none⟩) rs2.length c2] 55) := BB.out.grow Z9.out
      have HG9 : Hid (GB z.heap.size wyfb1 K2 (nthG U k).key M2 o2 rs2) := HGz.out.grow Z9.out
      have HB9 : Hid (Below w.heap.size w wyfb1) := grow_on HBz.out Z9.out
      have HLW : Hid (w4.heap.size + 1 < w6.heap.size) := BB.out.lt
      have HRN : Hid (∀ q, gblks K2 M2 rs2 q → q < w6.heap.size) := fun q hq => (HGz.out.rng q hq).2
      clear hgs hgr hb9 HLD
      clear hHeld
      refine hK.out _ _ (HS.out _ BB9.out) (fun hHeld => ?_)
      clear hK K
      try simp only [Act.put, List.setIfInBounds_toArray, List.set_cons_zero, List.set_cons_succ]
      refine wpAnyH_take (i := 3) (oi := { dst := some 6, op := Op.assign (Operand.tmp 41), type := 27, pos := "l12_groups.go:89", after := #[{ on := 1, ground := Ground.data }, { on := 1, ground := Ground.chain }, { on := 0, ground := Ground.phase }, { on := 1, ground := Ground.phase }, { on := 2, ground := Ground.textOnly Departure.lateStores }], guard := none }) (v := ?vfb3) rfl (by kernel_rfl) (by kernel_rfl) (by kernel_rfl) (fun _ _ _ h => h) (Or.inl ⟨by rfl, ?hyfb3⟩) hHeld ?_
      case hyfb3 => (intro w hSw; (try dsimp only at hSw); go_simp <;> with_reducible rfl)
      try simp only [Act.put, List.setIfInBounds_toArray, List.set_cons_zero, List.set_cons_succ]
      refine wpAnyH_ready (rs := [4]) (by kernel_rfl) (by simp) ?_
      refine AllReadyH.cons (o := { dst := none, op := Op.store 55 (Operand.tmp 7) (Operand.tmp 42), type := 0, pos := "l12_groups.go:89", after := #[{ on := 2, ground := Ground.data }, { on := 3, ground := Ground.chain }, { on := 0, ground := Ground.phase }, { on := 1, ground := Ground.phase }, { on := 2, ground := Ground.phase }, { on := 3, ground := Ground.phase }], guard := none }) rfl (fun K hK => ?_) AllReadyH.nil
      have r0 := BR9.out.cell 0
      have fr0 := BR9.out.frozen 0
      have r1 := BR9.out.cell 1
      have fr1 := BR9.out.frozen 1
      have r2 := BR9.out.cell 2
      have fr2 := BR9.out.frozen 2
      have r3 := BR9.out.cell 3
      have fr3 := BR9.out.frozen 3
      simp at r0 r1 r2 r3
      go_simp
      clear hHeld
      refine hK.out _ _ (HS.out _ ((((BB9.out.set_other (p := ⟨w.heap.size, 0, none⟩) (by have := HLZ.out; show w.heap.size ≠ w4.heap.size + 1; omega) (.int .i64 (nthG U k).n)).set_other (p := ⟨w.heap.size, 1, none⟩) (by have := HLZ.out; show w.heap.size ≠ w4.heap.size + 1; omega) (.slice (some ⟨K2, 0, none⟩) (nthG U k).key.length kd2)).set_other (p := ⟨w.heap.size, 2, none⟩) (by have := HLZ.out; show w.heap.size ≠ w4.heap.size + 1; omega) (.int .i64 now)).set_other (p := ⟨w.heap.size, 3, none⟩) (by have := HLZ.out; show w.heap.size ≠ w4.heap.size + 1; omega) (.slice (some ⟨M2, o2, none⟩) rs2.length c2))) (fun hHeld => ?_)
      clear hK K
      try simp only [Act.put, List.setIfInBounds_toArray, List.set_cons_zero, List.set_cons_succ]
      refine wpAnyH_take (i := 5) (oi := { dst := some 8, op := Op.assign (Operand.const (Value.bool true)), type := 4, pos := "l12_groups.go:89", after := #[{ on := 4, ground := Ground.chain }, { on := 0, ground := Ground.phase }, { on := 1, ground := Ground.phase }, { on := 2, ground := Ground.phase }, { on := 3, ground := Ground.phase }, { on := 4, ground := Ground.phase }], guard := none }) (v := ?vfb5) rfl (by kernel_rfl) (by kernel_rfl) (by kernel_rfl) (fun _ _ _ h => h) (Or.inl ⟨by rfl, ?hyfb5⟩) hHeld ?_
      case hyfb5 => (intro w hSw; (try dsimp only at hSw); go_simp <;> with_reducible rfl)
      try simp only [Act.put, List.setIfInBounds_toArray, List.set_cons_zero, List.set_cons_succ]
      clear r0 fr0 r1 fr1 r2 fr2 r3 fr3
      refine wpAnyH_done (by kernel_rfl) ?_ _
      clear hHeld HS
      go_wp2_with fail
      have hR : Blk _ w.heap.size #[.int .i64 (nthG U k).n, .slice (some ⟨K2, 0, none⟩) (nthG U k).key.length kd2, .int .i64 now, .slice (some ⟨M2, o2, none⟩) rs2.length c2] 55 := ((((BR9.out.set 0 (.int .i64 (nthG U k).n)).set 1 (.slice (some ⟨K2, 0, none⟩) (nthG U k).key.length kd2)).set 2 (.int .i64 now)).set 3 (.slice (some ⟨M2, o2, none⟩) rs2.length c2))
      have s0 := hR.cell 0
      have s1 := hR.cell 1
      have s2 := hR.cell 2
      have s3 := hR.cell 3
      have hne : w.heap.size ≠ M' := by have := HF.out.1.at'; have := HLZ.out; have := HLW.out; omega
      refine bodyPost_ret (v := .tuple #[.slice (some ⟨M', 0, none⟩) (U.set k (sentG now (nthG U k))).length (U.set k (sentG now (nthG U k))).length, .agg #[.int .i64 (nthG U k).n, .slice (some ⟨K2, 0, none⟩) (nthG U k).key.length kd2, .int .i64 now, .slice (some ⟨M2, o2, none⟩) rs2.length c2], .bool true]) (by simp [results, Try.results33, go_sem, s0, s1, s2, s3]) rfl ?_
      have hgs := (GsB.far (GsB.far (GsB.far (GsB.far HF.out.1 BR9.out (by decide) (by decide) hne 0 (.int .i64 (nthG U k).n)) (BR9.out.set 0 (.int .i64 (nthG U k).n)) (by decide) (by decide) hne 1 (.slice (some ⟨K2, 0, none⟩) (nthG U k).key.length kd2)) ((BR9.out.set 0 (.int .i64 (nthG U k).n)).set 1 (.slice (some ⟨K2, 0, none⟩) (nthG U k).key.length kd2)) (by decide) (by decide) hne 2 (.int .i64 now)) (((BR9.out.set 0 (.int .i64 (nthG U k).n)).set 1 (.slice (some ⟨K2, 0, none⟩) (nthG U k).key.length kd2)).set 2 (.int .i64 now)) (by decide) (by decide) hne 3 (.slice (some ⟨M2, o2, none⟩) rs2.length c2))
      refine ⟨.inr ⟨k, HE.out.1, HE.out.2, M', (U.set k (sentG now (nthG U k))).length, us, K2, kd2, M2, o2, c2, rs2, by rw [HF.out.2.2], hgs.down (by have := HLZ.out; have := HLW.out; omega), ?_, ((gb_moved (gb_moved (gb_moved (gb_moved HG9.out (Moved.set BR9.out (by decide) (by decide) 0 (.int .i64 (nthG U k).n))) (Moved.set (BR9.out.set 0 (.int .i64 (nthG U k).n)) (by decide) (by decide) 1 (.slice (some ⟨K2, 0, none⟩) (nthG U k).key.length kd2))) (Moved.set ((BR9.out.set 0 (.int .i64 (nthG U k).n)).set 1 (.slice (some ⟨K2, 0, none⟩) (nthG U k).key.length kd2)) (by decide) (by decide) 2 (.int .i64 now))) (Moved.set (((BR9.out.set 0 (.int .i64 (nthG U k).n)).set 1 (.slice (some ⟨K2, 0, none⟩) (nthG U k).key.length kd2)).set 2 (.int .i64 now)) (by decide) (by decide) 3 (.slice (some ⟨M2, o2, none⟩) rs2.length c2)))).down (by have := HLZ.out; omega), HF2.out.2, fun q h1 h2 => ?_⟩, (set_low (set_low (set_low (set_low HB9.out (M := w.heap.size) (Nat.le_refl _) 0 (.int .i64 (nthG U k).n)) (M := w.heap.size) (Nat.le_refl _) 1 (.slice (some ⟨K2, 0, none⟩) (nthG U k).key.length kd2)) (M := w.heap.size) (Nat.le_refl _) 2 (.int .i64 now)) (M := w.heap.size) (Nat.le_refl _) 3 (.slice (some ⟨M2, o2, none⟩) rs2.length c2))⟩
      · rw [HF.out.2.1]; exact HFL.out.symm
      · have h3 := blksG_low HF.out.1 q h1
        have h4 := HRN.out q h2
        omega
end Go.Proofs.Ytgncimlojbnbfaa.GpIf
