/-
  PROVED: impl.copiedGroup gives a group in memory of its own, and laid gives the groups that stand in a map in the order of their places, whatever order the map is gone through in; nothing that was there is changed.
-/
import Derived.Test.YtgncimlojbnbfaaGpSt
import Derived.Test.YtgncimlojbnbfaaShelf
import Derived.Sort.OwnSortedInts
namespace Go.Proofs.Ytgncimlojbnbfaa.GpLd
open Go.RowKit
open Go.Proofs.Ytgncimlojbnbfaa.Labs Go.Proofs.Ytgncimlojbnbfaa.LabS Go.Proofs.Ytgncimlojbnbfaa.Alms Go.Proofs.Ytgncimlojbnbfaa.AlmM Go.Proofs.Ytgncimlojbnbfaa.Over Go.Proofs.Ytgncimlojbnbfaa.Blk Go.Proofs.Ytgncimlojbnbfaa.App Go.Proofs.Ytgncimlojbnbfaa.Rws Go.Proofs.Ytgncimlojbnbfaa.ChnI Go.Proofs.Ytgncimlojbnbfaa.ChnC Go.Proofs.Ytgncimlojbnbfaa.ChnK Go.Proofs.Ytgncimlojbnbfaa.Chs Go.Proofs.Ytgncimlojbnbfaa.Grp Go.Proofs.Ytgncimlojbnbfaa.GrpL Go.Proofs.Ytgncimlojbnbfaa.GrpI Go.Proofs.Ytgncimlojbnbfaa.Gps Go.Proofs.Ytgncimlojbnbfaa.GpC Go.Proofs.Ytgncimlojbnbfaa.Mps Go.Proofs.Ytgncimlojbnbfaa.Mpr Go.Proofs.Ytgncimlojbnbfaa.GpSt
set_option linter.unusedVariables false
set_option maxHeartbeats 3200000 in
theorem copiedG_any (x : PGr) (gk ok kd : Nat) (ad : Option Addr) (cp : Nat) (w : World) (hk : Reads w (some ⟨gk, ok, none⟩) x.key) (hr : RdA w ad x.P) (hs : SmG x) :
    Calls Try.prog 83 #[.agg #[.int .i64 x.n, .slice (some ⟨gk, ok, none⟩) x.key.length kd, .int .i64 x.b, .int .i64 x.t, .slice ad x.P.length cp]] w fun e w' => (∃ Ke M rs, e = .returned (.agg #[.int .i64 x.n, .slice (some ⟨Ke, 0, none⟩) x.key.length x.key.length, .int .i64 x.b, .int .i64 x.t, .slice (some ⟨M, 0, none⟩) rs.length rs.length]) ∧ GB w.heap.size w' Ke x.key M 0 rs ∧ pals rs = x.P) ∧ Below w.heap.size w w' := by
  have HK : Hid (Reads w (some ⟨gk, ok, none⟩) x.key ∧ RdA w ad x.P ∧ SmG x) := ⟨hk, hr, hs⟩
  clear hk hr hs
  generalize hW0 : ((w.alloc (.cells #[.int .i64 x.n, .slice (some ⟨gk, ok, none⟩) x.key.length kd, .int .i64 x.b, .int .i64 x.t, .slice ad x.P.length cp] 67)).alloc (.cells #[.int .i64 0, .slice none 0 0, .int .i64 0, .int .i64 0, .slice none 0 0] 67)).alloc (.cells #[.slice ad x.P.length cp] 53) = W0
  have HB0 : Hid (Below w.heap.size w W0) := by rw [← hW0]; exact Alm.below3 w _ _ _
  have HZ : Hid (W0.heap.size = w.heap.size + 3) := by show _ = _; rw [← hW0]; simp
  have BR0 : Hid (Blk W0 (w.heap.size + 1) #[.int .i64 0, .slice none 0 0, .int .i64 0, .int .i64 0, .slice none 0 0] 67) := by rw [← hW0]; exact (Blk.new_at (by simp)).alloc _
  have NP : Hid (Blk W0 (w.heap.size + 1 + 1) #[.slice ad x.P.length cp] 53) := by rw [← hW0]; exact Blk.new_at (by simp)
  have HP : Hid (Pcs W0 (some ⟨w.heap.size + 1 + 1, 0, none⟩) [(ad, cp, x.P)]) := by
    refine ⟨.inr ⟨w.heap.size + 1 + 1, 0, rfl, NP.out.lt, fun i hi => ?_⟩, fun y hy => ?_⟩
    · have : i = 0 := by simpa using hi
      subst this
      have h := NP.out.cell 0
      simp at h
      rw [h]; simp [nthQ, pcV]
    · rw [List.mem_singleton.1 hy]
      exact ⟨HK.out.2.1.below HB0.out, HK.out.2.2.2.2⟩
  have HC : Hid (Calls Try.prog 81 #[.agg #[.int .i64 x.n, .slice (some ⟨gk, ok, none⟩) x.key.length kd, .int .i64 x.b, .int .i64 x.t, .slice ad x.P.length cp], .slice (some ⟨w.heap.size + 1 + 1, 0, none⟩) 1 1] W0 fun e w' => (∃ Ke M rs, e = .returned (.agg #[.int .i64 x.n, .slice (some ⟨Ke, 0, none⟩) x.key.length x.key.length, .int .i64 x.b, .int .i64 x.t, .slice (some ⟨M, 0, none⟩) rs.length rs.length]) ∧ GB W0.heap.size w' Ke x.key M 0 rs ∧ AB W0.heap.size w' M rs.length rs ∧ pals rs = upto [((ad, cp, x.P) : Pc)] 1) ∧ Below W0.heap.size W0 w') :=
    withA_any x.n x.b x.t gk ok kd x.key ad x.P.length cp (some ⟨w.heap.size + 1 + 1, 0, none⟩) 1 [(ad, cp, x.P)] W0 (HK.out.1.below HB0.out) HK.out.2.2.1 HP.out (by show 1 ≤ 1000; omega) (by show (upto [((ad, cp, x.P) : Pc)] 1).length ≤ 3000000; rw [upto_one]; have := HK.out.2.2.2.1; show x.P.length ≤ 3000000; omega) (fun y hy => by rw [List.mem_singleton.1 hy]; exact HK.out.2.2.2.1)
  rw [upto_one] at HC
  clear NP HP
  go_enter Try.func83, Try.ntmps83
  go_wp2_with fail
  try rw [hW0]
  clear hW0
  refine HC.out.mono ?_
  rintro e w1 ⟨⟨Ke, M, rs, rfl, hG, hA, hP⟩, hb⟩
  have HG : Hid (GA w.heap.size w1 Ke x.key M rs ∧ pals rs = x.P) := ⟨⟨hG.key.down HB0.out.size, hA.down HB0.out.size, hG.ne⟩, hP⟩
  have BR : Hid (Blk w1 (w.heap.size + 1) #[.int .i64 0, .slice none 0 0, .int .i64 0, .int .i64 0, .slice none 0 0] 67) := BR0.out.grow hb
  have HB : Hid (Below w.heap.size w w1) := grow_on HB0.out hb
  clear hG hA hP hb HC BR0
  have r0 := BR.out.cell 0
  have fr0 := BR.out.frozen 0
  have r1 := BR.out.cell 1
  have fr1 := BR.out.frozen 1
  have r2 := BR.out.cell 2
  have fr2 := BR.out.frozen 2
  have r3 := BR.out.cell 3
  have fr3 := BR.out.frozen 3
  have r4 := BR.out.cell 4
  have fr4 := BR.out.frozen 4
  simp at r0 r1 r2 r3 r4
  go_wp2
  have hs := (((((BR.out).set 0 (.int .i64 x.n)).set 1 (.slice (some ⟨Ke, 0, none⟩) x.key.length x.key.length)).set 2 (.int .i64 x.b)).set 3 (.int .i64 x.t)).set 4 (.slice (some ⟨M, 0, none⟩) rs.length rs.length)
  have s0 := hs.cell 0
  have s1 := hs.cell 1
  have s2 := hs.cell 2
  have s3 := hs.cell 3
  have s4 := hs.cell 4
  refine bodyPost_ret (v := .agg #[.int .i64 x.n, .slice (some ⟨Ke, 0, none⟩) x.key.length x.key.length, .int .i64 x.b, .int .i64 x.t, .slice (some ⟨M, 0, none⟩) rs.length rs.length]) (by simp [results, Try.results83, go_sem, s0, s1, s2, s3, s4]) rfl ?_
  have hga := ((((HG.out.1.set BR.out (by decide) (by decide) 0 (.int .i64 x.n)).set (BR.out.set 0 (.int .i64 x.n)) (by decide) (by decide) 1 (.slice (some ⟨Ke, 0, none⟩) x.key.length x.key.length)).set ((BR.out.set 0 (.int .i64 x.n)).set 1 (.slice (some ⟨Ke, 0, none⟩) x.key.length x.key.length)) (by decide) (by decide) 2 (.int .i64 x.b)).set (((BR.out.set 0 (.int .i64 x.n)).set 1 (.slice (some ⟨Ke, 0, none⟩) x.key.length x.key.length)).set 2 (.int .i64 x.b)) (by decide) (by decide) 3 (.int .i64 x.t)).set ((((BR.out.set 0 (.int .i64 x.n)).set 1 (.slice (some ⟨Ke, 0, none⟩) x.key.length x.key.length)).set 2 (.int .i64 x.b)).set 3 (.int .i64 x.t)) (by decide) (by decide) 4 (.slice (some ⟨M, 0, none⟩) rs.length rs.length)
  exact ⟨⟨Ke, M, rs, rfl, hga.gb, HG.out.2⟩, set_low (set_low (set_low (set_low (set_low HB.out (M := w.heap.size + 1) (by omega) 0 _) (M := w.heap.size + 1) (by omega) 1 _) (M := w.heap.size + 1) (by omega) 2 _) (M := w.heap.size + 1) (by omega) 3 _) (M := w.heap.size + 1) (by omega) 4 _⟩
theorem infoInt : (Try.prog.info? 3).map (fun i => (i.zero, i.size, i.bytes)) = some (some (.int .i64 0), 1, 8) := by kernel_rfl
theorem FillG.gs' {lo : Nat} {w : World} {M : Nat} {U : List PGr} {cur : Array Value} {us : List GRow} (h : FillG lo w M U U.length cur us) (hlo : lo ≤ M) (hl : U.length ≤ 2000000) : GsB lo w M U.length us ∧ grs us = U :=
  ⟨⟨hlo, ⟨by rw [h.len]; exact Nat.le_refl _, by unfold maxLen; omega⟩, ⟨cur, h.blk, h.size, fun i hi => h.cell i (by rw [← h.len]; exact hi)⟩, h.rows⟩, by rw [h.gr]; exact List.take_length⟩
theorem row_ne {ι : Type} {enc : ι → Value} {w : World} {b r n : Nat} {g : ι → Option Value} {done : List ι} {base : Nat} {e : TypeId} {size : Nat} {v : Value} {m : Nat} {xs : List Value} (h : w.ownsRow base e size v m xs) (hr : Rng enc w b r n g done) : v.ownBlock ≠ some r := by
  rcases h.2 with ⟨rfl, _⟩ | ⟨g1, c1, cur, rfl, _, hb, _⟩
  · simp [Value.ownBlock]
  · intro e1
    have e1 : g1 = r := Option.some.inj e1
    obtain ⟨es, clock, since, seen, c0, _, _, _, hr, _⟩ := hr
    rw [e1, hr] at hb
    cases hb
theorem zeroG (w : World) : (zeroValue 67).run Try.prog w = .ok (.agg #[.int .i64 0, .slice none 0 0, .int .i64 0, .int .i64 0, .slice none 0 0]) w := by kernel_rfl
theorem map_at {L : List Int} {U : List PGr} {F : Int → Option PGr} (h : L.map F = U.map some) {i : Nat} (hi : i < U.length) : ∃ p, L[i]? = some p ∧ F p = some (nthG U i) := by
  have h1 := congrArg (fun l : List (Option PGr) => l[i]?) h
  simp only [List.getElem?_map, List.getElem?_eq_getElem hi] at h1
  cases hp : L[i]? with
  | none => rw [hp] at h1; cases h1
  | some p => rw [hp] at h1; exact ⟨p, rfl, by rw [nthG_eq hi]; exact Option.some.inj h1⟩
set_option maxRecDepth 100000 in
set_option maxHeartbeats 6400000 in
theorem laid_any (M n : Nat) (g : Int → Option Value) (F : Int → Option PGr) (L : List Int) (U : List PGr) (w : World) (hS : Stood GK w M n g F) (hn : n ≤ 2000000) (hL : L.Pairwise (· < ·)) (hF : ∀ i, (F i).isSome = true ↔ i ∈ L) (hU : L.map F = U.map some) (hs : SmallG U) (hl : U.length ≤ 2000000) :
    Calls Try.prog 57 #[.map (some M)] w fun e w' => (∃ M', e = .returned (.slice (some ⟨M', 0, none⟩) U.length U.length) ∧ ∃ us, GsB w.heap.size w' M' U.length us ∧ grs us = U) ∧ Below w.heap.size w w' := by
  have HS : Hid (Stood GK w M n g F) := hS
  have HL : Hid (L.Pairwise (· < ·) ∧ (∀ i, (F i).isSome = true ↔ i ∈ L) ∧ L.map F = U.map some ∧ SmallG U) := ⟨hL, hF, hU, hs⟩
  have HLU : Hid (L.length = U.length) := by
    have h := congrArg List.length hU
    rw [List.length_map, List.length_map] at h
    exact h
  have HM : Hid (M < w.heap.size) := hS.map.lt
  obtain ⟨i0, hi, hz0, hz1, hz2⟩ := info_parts infoInt
  clear hS hL hF hU hs
  go_enter Try.func57, Try.ntmps57
  go_wp2_with (first
    | (at_len; refine wp_len _ rfl _ 83 rfl 3 67 Try.underlying83 M n rfl HS.out.num ?_)
    | (at_make; refine wpList_make_own _ rfl _ _ 103 rfl w.heap.size 3 i0 (.int .i64 0) 1 Try.underlying103 hi hz0 hz1 _ _ _ n rfl rfl rfl (by rw [hz2]; omega) (by unfold maxLen; omega) (Nat.le_refl _) ?_; intro w1 hrow1 hg1)
    | (at_range; refine wp_range _ rfl _ 83 rfl 3 67 Try.underlying83 IntK M n g rfl (HS.out.map.far hg1 (by simp)) (HS.out.num.far hg1 (by simp)) ?_; intro w0 hrg0 hg0 hs0))
  go_frame
  go_loopw [3] (fun v wr => ∃ (done : List Int) (gb c : Nat), v = .slice (some ⟨gb, 0, none⟩) done.length c ∧ Rng IntK wr M w1.heap.size n g done ∧ wr.ownsRow w.heap.size 3 1 (.slice (some ⟨gb, 0, none⟩) done.length c) done.length (done.map (Value.int .i64)) ∧ Below w.heap.size w wr) (fun v _ => n - lenV v)
  case atStart =>
    exact ⟨[], _, _, rfl, hrg0, hrow1.kept hg0 (Or.inr (by simp [Value.ownBlock])), ((Below.refl _ _).grown hg1 (Nat.le_refl _) (fun j hj => by cases hj)).grown hg0 hg1.size (fun j hj => by cases hj)⟩
  case round =>
    obtain ⟨done, gb, c, rfl, hrg, hrow, hnx⟩ := hrel
    have HG : Hid (Rng IntK wr M w1.heap.size n g done) := hrg
    have HW : Hid (wr.ownsRow w.heap.size 3 1 (.slice (some ⟨gb, 0, none⟩) done.length c) done.length (done.map (Value.int .i64)) ∧ Below w.heap.size w wr) := ⟨hrow, hnx⟩
    have HB1 : Hid (w.heap.size ≤ w1.heap.size ∧ done.length ≤ n) := ⟨hg1.size, hrg.le (asked_int Try.underlying3)⟩
    have hdn := HB1.out.2
    clear hrg hrow hnx hrow1 hg1 hrg0 hg0 hs0
    go_wp2_with (at_next; refine wp_next _ rfl _ rfl 3 IntK (asked_int Try.underlying3) M w1.heap.size n g done rfl HG.out ?_ ?_)
    · intro hall
      have hmem : ∀ i, i ∈ done ↔ i ∈ L := fun i => by
        rw [← HL.out.2.1 i]
        constructor
        · intro hi
          have h1 := HG.out.has i hi
          cases hF : F i with
          | none => rw [HS.out.non i hF] at h1; cases h1
          | some x => rfl
        · intro hi
          obtain ⟨x, hx⟩ := Option.isSome_iff_exists.1 hi
          obtain ⟨v, hv, _⟩ := HS.out.ent i x hx
          exact hall i (by rw [hv]; rfl)
      have hsort := sort_keys HG.out.nodup HL.out.1 hmem
      have hdl : done.length = U.length := by
        have h1 := congrArg List.length hsort
        rw [List.length_mergeSort] at h1
        rw [h1]; exact HLU.out
      have HSO : Hid (Calls Try.prog 82 #[.slice (some ⟨gb, 0, none⟩) U.length c] wr fun e w' => e = .returned (.tuple #[]) ∧ w'.ownsRow w.heap.size 3 1 (.slice (some ⟨gb, 0, none⟩) U.length c) U.length (L.map (Value.int .i64)) ∧ Below w.heap.size w w') := by
        rcases HW.out.1.2 with ⟨e, _⟩ | ⟨g3, c3, cur3, e3, hb3, hgb3, h1, h2, h3, h4⟩
        · cases e
        · have e4 : gb = g3 ∧ c = c3 := by
            injection e3 with a1 a2 a3
            injection a1 with a1
            injection a1 with a1
            exact ⟨a1, a3⟩
          obtain ⟨rfl, rfl⟩ := e4
          have hH := Go.holds_of_blockI hgb3 (by simpa using h4)
          have hc := Try.slices_Sort_int gb 0 c done wr hH (Array.getElem?_eq_some_iff.1 hgb3).1 (by omega)
          rw [← hdl]
          refine hc.mono ?_
          rintro e w' ⟨rfl, nn, os, rfl⟩
          rw [hsort]
          exact ⟨rfl, Go.ownsRow_sortedI (by rw [HLU.out, hdl]) hb3 hgb3 h1 h2 h3, HW.out.2.grown (Go.grownBy_sortedI _) HW.out.2.size (fun j hj => by cases hj; exact hb3)⟩
      clear hall hmem hsort HW HG HB1 hdn hi hz0 hz1 hz2 i0
      rw [hdl]
      clear hdl
      have hmk := make_k (P := Try.prog) 27 67 (.agg #[.int .i64 0, .slice none 0 0, .int .i64 0, .int .i64 0, .slice none 0 0]) 5 72 Try.underlying27 infoG .i64 .i64 U.length (by omega) (by omega)
      go_wp2_with fail
      refine HSO.out.mono ?_
      rintro e w4 ⟨rfl, hrow4, hb4⟩
      have HR4 : Hid (w4.ownsRow w.heap.size 3 1 (.slice (some ⟨gb, 0, none⟩) U.length c) U.length (L.map (Value.int .i64))) := hrow4
      have HB4 : Hid (Below w.heap.size w w4) := hb4
      clear hrow4 hb4 HSO
      go_wp2
      clear hmk
      go_loopw [28] (fun i w' => ∃ (k : Nat) (cur : Array Value) (us : List GRow), k ≤ U.length ∧ i = .int .i64 k ∧ FillG w.heap.size w' w4.heap.size U k cur us ∧ Below w4.heap.size w4 w') (fun i _ => U.length - (intOf i).toNat)
      case atStart => exact ⟨0, _, [], Nat.zero_le _, rfl, ⟨Blk.new _ _ _, by simp [size_madeCells], rfl, rfl, fun i h => by omega, RowsG.nil _ _, fun x hx => by simp at hx⟩, (Below.refl _ _).alloc (Nat.le_refl _) _⟩
      case round =>
        obtain ⟨k, cur, us, hk, rfl, hC, hw0⟩ := hrel
        have HB : Hid (Below w4.heap.size w4 wr) := hw0
        have HC : Hid (FillG w.heap.size wr w4.heap.size U k cur us) := hC
        clear hC hw0
        by_cases hlt : k < U.length
        · have hlt' : (k : Int) < (U.length : Int) := by omega
          obtain ⟨p, hp, hFp⟩ := map_at HL.out.2.2.1 hlt
          have ho : wr.cell? ⟨gb, k, none⟩ = some (.int .i64 p) := by
            have h1 := HR4.out.cellAt k (by omega)
            rw [List.getElem?_map, hp] at h1
            exact (HB.out.cell (p := ⟨gb, k, none⟩) (HR4.out.lt gb rfl).2).trans h1
          obtain ⟨v, hgv, ka, kd, ad, cp, rfl, ⟨gk, ok, rfl⟩, hrk, hra⟩ := HS.out.ent p _ hFp
          have HGV : Hid (g p = some (.agg #[.int .i64 (nthG U k).n, .slice (some ⟨gk, ok, none⟩) (nthG U k).key.length kd, .int .i64 (nthG U k).b, .int .i64 (nthG U k).t, .slice ad (nthG U k).P.length cp])) := hgv
          have HRK : Hid (Reads w (some ⟨gk, ok, none⟩) (nthG U k).key ∧ RdA w ad (nthG U k).P ∧ SmG (nthG U k)) := ⟨hrk, hra, HL.out.2.2.2 _ (nthG_mem hlt)⟩
          have HWW : Hid (Below w.heap.size w wr) := grow_on HB4.out HB.out
          clear hgv hrk hra hp hFp
          go_wp2_with (at_lookup; refine wp_lookup _ rfl _ _ 83 false rfl 3 67 IntK (asked_int Try.underlying3) Try.underlying83 (zeroG _) M g rfl (HS.out.map.grow HWW.out) p rfl (.agg #[.int .i64 (nthG U k).n, .slice (some ⟨gk, ok, none⟩) (nthG U k).key.length kd, .int .i64 (nthG U k).b, .int .i64 (nthG U k).t, .slice ad (nthG U k).P.length cp]) (by rw [HGV.out]; rfl) ?_)
          refine (copiedG_any (nthG U k) gk ok kd ad cp _ (HRK.out.1.below HWW.out) (HRK.out.2.1.below HWW.out) HRK.out.2.2).mono ?_
          rintro e w5 ⟨⟨K1, M1, rs, rfl, hgb, hp⟩, hb1⟩
          have HB1 : Hid (Below w4.heap.size w4 w5) := grow_on HB.out hb1
          have hC1 : FillG w.heap.size w5 w4.heap.size U k cur us := HC.out.grow hb1
          have hro : RowsG wr.heap.size w5 [⟨(nthG U k).n, K1, (nthG U k).key.length, (nthG U k).key, (nthG U k).b, (nthG U k).t, M1, 0, rs.length, rs⟩] := RowsG.one (x := ⟨(nthG U k).n, K1, (nthG U k).key.length, (nthG U k).key, (nthG U k).b, (nthG U k).t, M1, 0, rs.length, rs⟩) hgb
          have hcap : rs.length ≤ rs.length ∧ rs.length ≤ maxLen := ⟨Nat.le_refl _, by have h1 : rs.length = (nthG U k).P.length := by { rw [← hp, pals_len] }; have h2 := HRK.out.2.2.2.1; unfold maxLen; omega⟩
          have HN := hC1.next hlt (hro.down HWW.out.size) (by unfold GRow.gr; rw [hp]) hcap (HC.out.rows.fresh hro (Nat.le_refl _))
          unfold put5W put5C at HN
          have HC2 : Hid _ := HN
          obtain ⟨v0, v1, v2, v3, v4, c0, c1, c2, c3, c4⟩ := five_cells hC1.blk k (by rw [hC1.size]; omega)
          have f0 := hC1.blk.frozen (k * 5)
          have f1 := hC1.blk.frozen (k * 5 + 1)
          have f2 := hC1.blk.frozen (k * 5 + 2)
          have f3 := hC1.blk.frozen (k * 5 + 3)
          have f4 := hC1.blk.frozen (k * 5 + 4)
          clear hb1 ho hC1 HN hgb hp hro hcap
          go_wp2
          go_roundw
          case rel => exact ⟨k + 1, _, _, by omega, by go_num, HC2.out, ((((HB1.out.setCell (Nat.le_refl _) _).setCell (Nat.le_refl _) _).setCell (Nat.le_refl _) _).setCell (Nat.le_refl _) _).setCell (Nat.le_refl _) _⟩
          case measure => simp [intOf]; omega
        · have hge : ¬ (k : Int) < (U.length : Int) := by omega
          have HE : Hid (k = U.length) := by show k = U.length; omega
          go_wp2
          go_ret
          have hF := HC.out
          rw [HE.out] at hF
          exact ⟨⟨_, rfl, us, FillG.gs' hF HB4.out.size hl⟩, grow_on HB4.out HB.out⟩
    · intro x vx w2 hgx hnx hrg2 hg2 hs2 hen
      have hrow2 : w2.ownsRow w.heap.size 3 1 (.slice (some ⟨gb, 0, none⟩) done.length c) done.length (done.map (Value.int .i64)) := HW.out.1.kept hg2 (Or.inr (row_ne HW.out.1 HG.out))
      have hlen2 := hrg2.le (asked_int (P := Try.prog) Try.underlying3)
      rw [List.length_append] at hlen2
      have HLN : Hid (done.length + 1 ≤ n) := hlen2
      clear hs2 hlen2
      simp only [IntK] at hen ⊢
      go_wp2_with (at_builtin; refine wpList_append_own _ rfl _ _ 103 rfl w.heap.size 3 i0 (.int .i64 0) 1 8 Try.underlying103 hi hz0 hz1 hz2 rfl (by decide) _ _ _ rfl (hrow2.alloc _) ⟨w2.heap.size, 0, none⟩ 1 1 [Value.int .i64 x] rfl rfl (cell_one_new _ _ _) (by simp [Value.oneCell']) (by unfold maxLen at *; omega) (by omega) (by have := HW.out.2.size; have := hg2.size; simp; omega) ?_; intro v' w3 hown' hg3 hnil3; go_frame)
      have hlo : w.heap.size ≤ gb := (HW.out.1.lt gb rfl).1
      have hrg3 := (hrg2.alloc (.cells #[Value.int .i64 x] 3)).kept hg3 (fun e => by have e : M = gb := Option.some.inj e; have := HM.out; omega) (Ne.symm (row_ne hrow2 hrg2))
      have hbel : Below w.heap.size w w3 := ((HW.out.2.grown hg2 HW.out.2.size (fun j hj => by cases hj; exact HB1.out.1)).alloc (by have := HW.out.2.size; have := hg2.size; omega) _).grown hg3 (by have := HW.out.2.size; have := hg2.size; simp; omega) (fun j hj => (hrow2.lt j hj).1)
      rcases hown'.2 with ⟨e, _⟩ | ⟨g3, c3, cur3, rfl, hb3, hgb3, hc3⟩
      · have := (hnil3.1 e).2
        omega
      go_roundw
      case rel =>
        exact ⟨done ++ [x], g3, c3, by simp, hrg3, by simpa using hown', hbel⟩
      case measure =>
        simp [lenV]
        have := HLN.out
        omega
end Go.Proofs.Ytgncimlojbnbfaa.GpLd
