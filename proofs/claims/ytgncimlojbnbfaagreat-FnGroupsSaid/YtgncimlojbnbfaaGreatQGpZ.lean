/-
  PROVED: impl.copiedGroup gives a group in memory of its own, and laid gives the groups that stand in a map in the order of their places, whatever order the map is gone through in; nothing that was there is changed.
  PROVED: slices.IndexFunc over groups with the questions that impl.GroupOf and impl.GroupAt ask: the place of the first that is so; nothing that was there is changed.
  PROVED: impl.GroupOf answers the place of the first group of a key; nothing that was there is changed.
  PROVED: impl.JoinAll answers the groups with the alarm in the one of its key, or in a new one behind them, in memory of their own, and whether it is new; nothing that was there is changed.
  PROVED: impl.GroupAt answers the place of the first group of a number; nothing that was there is changed.
  PROVED: impl.FlushAt answers the groups with the one of the number sent, or without it where nothing of it is left, and the batch that is sent, in memory of their own; nothing that was there is changed.
  PROVED: FlushAt's contracts parted by whether the number is there; eqBatch, markBatch and heldBatch at the batch of none.
  PROVED: spec.GroupsOk answers as a plain function on groups says; nothing that was there is changed.
  PROVED: impl.GroupsOk answers as a plain function on groups says; nothing that was there is changed.
  PROVED: spec.MemberOf answers the number of the first group that has an alarm of these labels; nothing that was there is changed.
  PROVED: impl.MemberOf answers the number of the first group that has an alarm of these labels; nothing that was there is changed.
  PROVED: the contract of spec.l12Draw: groups as they come of joining alarms, in memory of their own; nothing that was there is changed but the cursor.
  PROVED: the contract of spec.l12Any: groups, right or bent, in memory of their own; nothing that was there is changed but the cursor.
  PROVED: the contracts of the draws of chapter 12: groups, right or bent, and what comes beside them, in new memory.
  PROVED: the functions of chapter 12 over drawn groups, as the drawn law calls them; plain facts on who joins which group, and which groups stay.
-/
import Derived.Test.YtgncimlojbnbfaaGreatQGpSt
import Derived.Test.YtgncimlojbnbfaaGreatQShelf
import Derived.Sort.OwnSortedInts
import Derived.Test.YtgncimlojbnbfaaGreatQGpD
import Derived.Test.YtgncimlojbnbfaaGreatQGpOf
import Derived.Test.YtgncimlojbnbfaaGreatQTk
import Derived.Test.YtgncimlojbnbfaaGreatQGpX
import Derived.Test.YtgncimlojbnbfaaGreatQGrpIn
import Derived.Test.YtgncimlojbnbfaaGreatQGpF
import Derived.Test.YtgncimlojbnbfaaGreatQGpM
import Derived.Test.YtgncimlojbnbfaaGreatQGrpH
import Derived.Test.YtgncimlojbnbfaaGreatQGrpY
import Derived.Test.YtgncimlojbnbfaaGreatQGrpE
set_option linter.unusedVariables false
namespace Go.Proofs.YtgncimlojbnbfaaGreat.GpLd
open Go.RowKit
open Labs LabS Alms AlmM Over Blk App Rws ChnI ChnC ChnK Chs Grp GrpL GrpI Gps GpC Mps Mpr GpSt
set_option maxHeartbeats 3200000 in
theorem copiedG_any (x : PGr) (gk ok kd : Nat) (ad : Option Addr) (cp : Nat) (w : World) (hk : Reads w (some ⟨gk, ok, none⟩) x.key) (hr : RdA w ad x.P) (hs : SmG x) :
    Calls Tryz.prog 63 #[.agg #[.int .i64 x.n, .slice (some ⟨gk, ok, none⟩) x.key.length kd, .int .i64 x.b, .int .i64 x.t, .slice ad x.P.length cp]] w fun e w' => (∃ Ke M rs, e = .returned (.agg #[.int .i64 x.n, .slice (some ⟨Ke, 0, none⟩) x.key.length x.key.length, .int .i64 x.b, .int .i64 x.t, .slice (some ⟨M, 0, none⟩) rs.length rs.length]) ∧ GB w.heap.size w' Ke x.key M 0 rs ∧ pals rs = x.P) ∧ Below w.heap.size w w' := by
  have HK : Hid (Reads w (some ⟨gk, ok, none⟩) x.key ∧ RdA w ad x.P ∧ SmG x) := ⟨hk, hr, hs⟩
  clear hk hr hs
  generalize hW0 : ((w.alloc (.cells #[.int .i64 x.n, .slice (some ⟨gk, ok, none⟩) x.key.length kd, .int .i64 x.b, .int .i64 x.t, .slice ad x.P.length cp] 53)).alloc (.cells #[.int .i64 0, .slice none 0 0, .int .i64 0, .int .i64 0, .slice none 0 0] 53)).alloc (.cells #[.slice ad x.P.length cp] 35) = W0
  have HB0 : Hid (Below w.heap.size w W0) := by rw [← hW0]; exact Alm.below3 w _ _ _
  have HZ : Hid (W0.heap.size = w.heap.size + 3) := by show _ = _; rw [← hW0]; simp
  have BR0 : Hid (Blk W0 (w.heap.size + 1) #[.int .i64 0, .slice none 0 0, .int .i64 0, .int .i64 0, .slice none 0 0] 53) := by rw [← hW0]; exact (Blk.new_at (by simp)).alloc _
  have NP : Hid (Blk W0 (w.heap.size + 1 + 1) #[.slice ad x.P.length cp] 35) := by rw [← hW0]; exact Blk.new_at (by simp)
  have HP : Hid (Pcs W0 (some ⟨w.heap.size + 1 + 1, 0, none⟩) [(ad, cp, x.P)]) := by
    refine ⟨.inr ⟨w.heap.size + 1 + 1, 0, rfl, NP.out.lt, fun i hi => ?_⟩, fun y hy => ?_⟩
    · have : i = 0 := by simpa using hi
      subst this
      have h := NP.out.cell 0
      simp at h
      rw [h]; simp [nthQ, pcV]
    · rw [List.mem_singleton.1 hy]
      exact ⟨HK.out.2.1.below HB0.out, HK.out.2.2.2.2⟩
  have HC : Hid (Calls Tryz.prog 61 #[.agg #[.int .i64 x.n, .slice (some ⟨gk, ok, none⟩) x.key.length kd, .int .i64 x.b, .int .i64 x.t, .slice ad x.P.length cp], .slice (some ⟨w.heap.size + 1 + 1, 0, none⟩) 1 1] W0 fun e w' => (∃ Ke M rs, e = .returned (.agg #[.int .i64 x.n, .slice (some ⟨Ke, 0, none⟩) x.key.length x.key.length, .int .i64 x.b, .int .i64 x.t, .slice (some ⟨M, 0, none⟩) rs.length rs.length]) ∧ GB W0.heap.size w' Ke x.key M 0 rs ∧ AB W0.heap.size w' M rs.length rs ∧ pals rs = upto [((ad, cp, x.P) : Pc)] 1) ∧ Below W0.heap.size W0 w') :=
    withA_any x.n x.b x.t gk ok kd x.key ad x.P.length cp (some ⟨w.heap.size + 1 + 1, 0, none⟩) 1 [(ad, cp, x.P)] W0 (HK.out.1.below HB0.out) HK.out.2.2.1 HP.out (by show 1 ≤ 1000; omega) (by show (upto [((ad, cp, x.P) : Pc)] 1).length ≤ 3000000; rw [upto_one]; have := HK.out.2.2.2.1; show x.P.length ≤ 3000000; omega) (fun y hy => by rw [List.mem_singleton.1 hy]; exact HK.out.2.2.2.1)
  rw [upto_one] at HC
  clear NP HP
  go_enter Tryz.func63, Tryz.ntmps63
  go_wp2_with fail
  try rw [hW0]
  clear hW0
  refine HC.out.mono ?_
  rintro e w1 ⟨⟨Ke, M, rs, rfl, hG, hA, hP⟩, hb⟩
  have HG : Hid (GA w.heap.size w1 Ke x.key M rs ∧ pals rs = x.P) := ⟨⟨hG.key.down HB0.out.size, hA.down HB0.out.size, hG.ne⟩, hP⟩
  have BR : Hid (Blk w1 (w.heap.size + 1) #[.int .i64 0, .slice none 0 0, .int .i64 0, .int .i64 0, .slice none 0 0] 53) := BR0.out.grow hb
  have HB : Hid (Below w.heap.size w w1) := grow_on HB0.out hb
  clear hG hA hP hb HC BR0
  have r0 := BR.out.cell 0
  have fr0 := BR.out.frozen 0
  have r1 := BR.out.cell 1
  have fr1 := BR.out.frozen 1
  have r2 := BR.out.cell 2
  have fr2 := BR.out.frozen 2
  have r3 := BR.out.cell 3
  have fr3 := BR.out.frozen 3
  have r4 := BR.out.cell 4
  have fr4 := BR.out.frozen 4
  simp at r0 r1 r2 r3 r4
  go_wp2
  have hs := (((((BR.out).set 0 (.int .i64 x.n)).set 1 (.slice (some ⟨Ke, 0, none⟩) x.key.length x.key.length)).set 2 (.int .i64 x.b)).set 3 (.int .i64 x.t)).set 4 (.slice (some ⟨M, 0, none⟩) rs.length rs.length)
  have s0 := hs.cell 0
  have s1 := hs.cell 1
  have s2 := hs.cell 2
  have s3 := hs.cell 3
  have s4 := hs.cell 4
  refine bodyPost_ret (v := .agg #[.int .i64 x.n, .slice (some ⟨Ke, 0, none⟩) x.key.length x.key.length, .int .i64 x.b, .int .i64 x.t, .slice (some ⟨M, 0, none⟩) rs.length rs.length]) (by simp [results, Tryz.results63, go_sem, s0, s1, s2, s3, s4]) rfl ?_
  have hga := ((((HG.out.1.set BR.out (by decide) (by decide) 0 (.int .i64 x.n)).set (BR.out.set 0 (.int .i64 x.n)) (by decide) (by decide) 1 (.slice (some ⟨Ke, 0, none⟩) x.key.length x.key.length)).set ((BR.out.set 0 (.int .i64 x.n)).set 1 (.slice (some ⟨Ke, 0, none⟩) x.key.length x.key.length)) (by decide) (by decide) 2 (.int .i64 x.b)).set (((BR.out.set 0 (.int .i64 x.n)).set 1 (.slice (some ⟨Ke, 0, none⟩) x.key.length x.key.length)).set 2 (.int .i64 x.b)) (by decide) (by decide) 3 (.int .i64 x.t)).set ((((BR.out.set 0 (.int .i64 x.n)).set 1 (.slice (some ⟨Ke, 0, none⟩) x.key.length x.key.length)).set 2 (.int .i64 x.b)).set 3 (.int .i64 x.t)) (by decide) (by decide) 4 (.slice (some ⟨M, 0, none⟩) rs.length rs.length)
  exact ⟨⟨Ke, M, rs, rfl, hga.gb, HG.out.2⟩, set_low (set_low (set_low (set_low (set_low HB.out (M := w.heap.size + 1) (by omega) 0 _) (M := w.heap.size + 1) (by omega) 1 _) (M := w.heap.size + 1) (by omega) 2 _) (M := w.heap.size + 1) (by omega) 3 _) (M := w.heap.size + 1) (by omega) 4 _⟩
theorem infoInt : (Tryz.prog.info? 3).map (fun i => (i.zero, i.size, i.bytes)) = some (some (.int .i64 0), 1, 8) := by kernel_rfl
theorem FillG.gs' {lo : Nat} {w : World} {M : Nat} {U : List PGr} {cur : Array Value} {us : List GRow} (h : FillG lo w M U U.length cur us) (hlo : lo ≤ M) (hl : U.length ≤ 2000000) : GsB lo w M U.length us ∧ grs us = U :=
  ⟨⟨hlo, ⟨by rw [h.len]; exact Nat.le_refl _, by unfold maxLen; omega⟩, ⟨cur, h.blk, h.size, fun i hi => h.cell i (by rw [← h.len]; exact hi)⟩, h.rows⟩, by rw [h.gr]; exact List.take_length⟩
theorem row_ne {ι : Type} {enc : ι → Value} {w : World} {b r n : Nat} {g : ι → Option Value} {done : List ι} {base : Nat} {e : TypeId} {size : Nat} {v : Value} {m : Nat} {xs : List Value} (h : w.ownsRow base e size v m xs) (hr : Rng enc w b r n g done) : v.ownBlock ≠ some r := by
  rcases h.2 with ⟨rfl, _⟩ | ⟨g1, c1, cur, rfl, _, hb, _⟩
  · simp [Value.ownBlock]
  · intro e1
    have e1 : g1 = r := Option.some.inj e1
    obtain ⟨es, clock, since, seen, c0, _, _, _, hr, _⟩ := hr
    rw [e1, hr] at hb
    cases hb
theorem zeroG (w : World) : (zeroValue 53).run Tryz.prog w = .ok (.agg #[.int .i64 0, .slice none 0 0, .int .i64 0, .int .i64 0, .slice none 0 0]) w := by kernel_rfl
theorem map_at {L : List Int} {U : List PGr} {F : Int → Option PGr} (h : L.map F = U.map some) {i : Nat} (hi : i < U.length) : ∃ p, L[i]? = some p ∧ F p = some (nthG U i) := by
  have h1 := congrArg (fun l : List (Option PGr) => l[i]?) h
  simp only [List.getElem?_map, List.getElem?_eq_getElem hi] at h1
  cases hp : L[i]? with
  | none => rw [hp] at h1; cases h1
  | some p => rw [hp] at h1; exact ⟨p, rfl, by rw [nthG_eq hi]; exact Option.some.inj h1⟩
set_option maxRecDepth 100000 in
set_option maxHeartbeats 6400000 in
theorem laid_any (M n : Nat) (g : Int → Option Value) (F : Int → Option PGr) (L : List Int) (U : List PGr) (w : World) (hS : Stood GK w M n g F) (hn : n ≤ 2000000) (hL : L.Pairwise (· < ·)) (hF : ∀ i, (F i).isSome = true ↔ i ∈ L) (hU : L.map F = U.map some) (hs : SmallG U) (hl : U.length ≤ 2000000) :
    Calls Tryz.prog 33 #[.map (some M)] w fun e w' => (∃ M', e = .returned (.slice (some ⟨M', 0, none⟩) U.length U.length) ∧ ∃ us, GsB w.heap.size w' M' U.length us ∧ grs us = U) ∧ Below w.heap.size w w' := by
  have HS : Hid (Stood GK w M n g F) := hS
  have HL : Hid (L.Pairwise (· < ·) ∧ (∀ i, (F i).isSome = true ↔ i ∈ L) ∧ L.map F = U.map some ∧ SmallG U) := ⟨hL, hF, hU, hs⟩
  have HLU : Hid (L.length = U.length) := by
    have h := congrArg List.length hU
    rw [List.length_map, List.length_map] at h
    exact h
  have HM : Hid (M < w.heap.size) := hS.map.lt
  obtain ⟨i0, hi, hz0, hz1, hz2⟩ := info_parts infoInt
  clear hS hL hF hU hs
  go_enter Tryz.func33, Tryz.ntmps33
  go_wp2_with (first
    | (at_len; refine wp_len _ rfl _ 61 rfl 3 53 Tryz.underlying61 M n rfl HS.out.num ?_)
    | (at_make; refine wpList_make_own _ rfl _ _ 86 rfl w.heap.size 3 i0 (.int .i64 0) 1 Tryz.underlying86 hi hz0 hz1 _ _ _ n rfl rfl rfl (by rw [hz2]; omega) (by unfold maxLen; omega) (Nat.le_refl _) ?_; intro w1 hrow1 hg1)
    | (at_range; refine wp_range _ rfl _ 61 rfl 3 53 Tryz.underlying61 IntK M n g rfl (HS.out.map.far hg1 (by simp)) (HS.out.num.far hg1 (by simp)) ?_; intro w0 hrg0 hg0 hs0))
  go_frame
  go_loopw [3] (fun v wr => ∃ (done : List Int) (gb c : Nat), v = .slice (some ⟨gb, 0, none⟩) done.length c ∧ Rng IntK wr M w1.heap.size n g done ∧ wr.ownsRow w.heap.size 3 1 (.slice (some ⟨gb, 0, none⟩) done.length c) done.length (done.map (Value.int .i64)) ∧ Below w.heap.size w wr) (fun v _ => n - lenV v)
  case atStart =>
    exact ⟨[], _, _, rfl, hrg0, hrow1.kept hg0 (Or.inr (by simp [Value.ownBlock])), ((Below.refl _ _).grown hg1 (Nat.le_refl _) (fun j hj => by cases hj)).grown hg0 hg1.size (fun j hj => by cases hj)⟩
  case round =>
    obtain ⟨done, gb, c, rfl, hrg, hrow, hnx⟩ := hrel
    have HG : Hid (Rng IntK wr M w1.heap.size n g done) := hrg
    have HW : Hid (wr.ownsRow w.heap.size 3 1 (.slice (some ⟨gb, 0, none⟩) done.length c) done.length (done.map (Value.int .i64)) ∧ Below w.heap.size w wr) := ⟨hrow, hnx⟩
    have HB1 : Hid (w.heap.size ≤ w1.heap.size ∧ done.length ≤ n) := ⟨hg1.size, hrg.le (asked_int Tryz.underlying3)⟩
    have hdn := HB1.out.2
    clear hrg hrow hnx hrow1 hg1 hrg0 hg0 hs0
    go_wp2_with (at_next; refine wp_next _ rfl _ rfl 3 IntK (asked_int Tryz.underlying3) M w1.heap.size n g done rfl HG.out ?_ ?_)
    · intro hall
      have hmem : ∀ i, i ∈ done ↔ i ∈ L := fun i => by
        rw [← HL.out.2.1 i]
        constructor
        · intro hi
          have h1 := HG.out.has i hi
          cases hF : F i with
          | none => rw [HS.out.non i hF] at h1; cases h1
          | some x => rfl
        · intro hi
          obtain ⟨x, hx⟩ := Option.isSome_iff_exists.1 hi
          obtain ⟨v, hv, _⟩ := HS.out.ent i x hx
          exact hall i (by rw [hv]; rfl)
      have hsort := sort_keys HG.out.nodup HL.out.1 hmem
      have hdl : done.length = U.length := by
        have h1 := congrArg List.length hsort
        rw [List.length_mergeSort] at h1
        rw [h1]; exact HLU.out
      have HSO : Hid (Calls Tryz.prog 62 #[.slice (some ⟨gb, 0, none⟩) U.length c] wr fun e w' => e = .returned (.tuple #[]) ∧ w'.ownsRow w.heap.size 3 1 (.slice (some ⟨gb, 0, none⟩) U.length c) U.length (L.map (Value.int .i64)) ∧ Below w.heap.size w w') := by
        rcases HW.out.1.2 with ⟨e, _⟩ | ⟨g3, c3, cur3, e3, hb3, hgb3, h1, h2, h3, h4⟩
        · cases e
        · have e4 : gb = g3 ∧ c = c3 := by
            injection e3 with a1 a2 a3
            injection a1 with a1
            injection a1 with a1
            exact ⟨a1, a3⟩
          obtain ⟨rfl, rfl⟩ := e4
          have hH := Go.holds_of_blockI hgb3 (by simpa using h4)
          have hc := Tryz.slices_Sort_int gb 0 c done wr hH (Array.getElem?_eq_some_iff.1 hgb3).1 (by omega)
          rw [← hdl]
          refine hc.mono ?_
          rintro e w' ⟨rfl, nn, os, rfl⟩
          rw [hsort]
          exact ⟨rfl, Go.ownsRow_sortedI (by rw [HLU.out, hdl]) hb3 hgb3 h1 h2 h3, HW.out.2.grown (Go.grownBy_sortedI _) HW.out.2.size (fun j hj => by cases hj; exact hb3)⟩
      clear hall hmem hsort HW HG HB1 hdn hi hz0 hz1 hz2 i0
      rw [hdl]
      clear hdl
      have hmk := make_k (P := Tryz.prog) 24 53 (.agg #[.int .i64 0, .slice none 0 0, .int .i64 0, .int .i64 0, .slice none 0 0]) 5 72 Tryz.underlying24 infoG .i64 .i64 U.length (by omega) (by omega)
      go_wp2_with fail
      refine HSO.out.mono ?_
      rintro e w4 ⟨rfl, hrow4, hb4⟩
      have HR4 : Hid (w4.ownsRow w.heap.size 3 1 (.slice (some ⟨gb, 0, none⟩) U.length c) U.length (L.map (Value.int .i64))) := hrow4
      have HB4 : Hid (Below w.heap.size w w4) := hb4
      clear hrow4 hb4 HSO
      go_wp2
      clear hmk
      go_loopw [28] (fun i w' => ∃ (k : Nat) (cur : Array Value) (us : List GRow), k ≤ U.length ∧ i = .int .i64 k ∧ FillG w.heap.size w' w4.heap.size U k cur us ∧ Below w4.heap.size w4 w') (fun i _ => U.length - (intOf i).toNat)
      case atStart => exact ⟨0, _, [], Nat.zero_le _, rfl, ⟨Blk.new _ _ _, by simp [size_madeCells], rfl, rfl, fun i h => by omega, RowsG.nil _ _, fun x hx => by simp at hx⟩, (Below.refl _ _).alloc (Nat.le_refl _) _⟩
      case round =>
        obtain ⟨k, cur, us, hk, rfl, hC, hw0⟩ := hrel
        have HB : Hid (Below w4.heap.size w4 wr) := hw0
        have HC : Hid (FillG w.heap.size wr w4.heap.size U k cur us) := hC
        clear hC hw0
        by_cases hlt : k < U.length
        · have hlt' : (k : Int) < (U.length : Int) := by omega
          obtain ⟨p, hp, hFp⟩ := map_at HL.out.2.2.1 hlt
          have ho : wr.cell? ⟨gb, k, none⟩ = some (.int .i64 p) := by
            have h1 := HR4.out.cellAt k (by omega)
            rw [List.getElem?_map, hp] at h1
            exact (HB.out.cell (p := ⟨gb, k, none⟩) (HR4.out.lt gb rfl).2).trans h1
          obtain ⟨v, hgv, ka, kd, ad, cp, rfl, ⟨gk, ok, rfl⟩, hrk, hra⟩ := HS.out.ent p _ hFp
          have HGV : Hid (g p = some (.agg #[.int .i64 (nthG U k).n, .slice (some ⟨gk, ok, none⟩) (nthG U k).key.length kd, .int .i64 (nthG U k).b, .int .i64 (nthG U k).t, .slice ad (nthG U k).P.length cp])) := hgv
          have HRK : Hid (Reads w (some ⟨gk, ok, none⟩) (nthG U k).key ∧ RdA w ad (nthG U k).P ∧ SmG (nthG U k)) := ⟨hrk, hra, HL.out.2.2.2 _ (nthG_mem hlt)⟩
          have HWW : Hid (Below w.heap.size w wr) := grow_on HB4.out HB.out
          clear hgv hrk hra hp hFp
          go_wp2_with (at_lookup; refine wp_lookup _ rfl _ _ 61 false rfl 3 53 IntK (asked_int Tryz.underlying3) Tryz.underlying61 (zeroG _) M g rfl (HS.out.map.grow HWW.out) p rfl (.agg #[.int .i64 (nthG U k).n, .slice (some ⟨gk, ok, none⟩) (nthG U k).key.length kd, .int .i64 (nthG U k).b, .int .i64 (nthG U k).t, .slice ad (nthG U k).P.length cp]) (by rw [HGV.out]; rfl) ?_)
          refine (copiedG_any (nthG U k) gk ok kd ad cp _ (HRK.out.1.below HWW.out) (HRK.out.2.1.below HWW.out) HRK.out.2.2).mono ?_
          rintro e w5 ⟨⟨K1, M1, rs, rfl, hgb, hp⟩, hb1⟩
          have HB1 : Hid (Below w4.heap.size w4 w5) := grow_on HB.out hb1
          have hC1 : FillG w.heap.size w5 w4.heap.size U k cur us := HC.out.grow hb1
          have hro : RowsG wr.heap.size w5 [⟨(nthG U k).n, K1, (nthG U k).key.length, (nthG U k).key, (nthG U k).b, (nthG U k).t, M1, 0, rs.length, rs⟩] := RowsG.one (x := ⟨(nthG U k).n, K1, (nthG U k).key.length, (nthG U k).key, (nthG U k).b, (nthG U k).t, M1, 0, rs.length, rs⟩) hgb
          have hcap : rs.length ≤ rs.length ∧ rs.length ≤ maxLen := ⟨Nat.le_refl _, by have h1 : rs.length = (nthG U k).P.length := by { rw [← hp, pals_len] }; have h2 := HRK.out.2.2.2.1; unfold maxLen; omega⟩
          have HN := hC1.next hlt (hro.down HWW.out.size) (by unfold GRow.gr; rw [hp]) hcap (HC.out.rows.fresh hro (Nat.le_refl _))
          unfold put5W put5C at HN
          have HC2 : Hid _ := HN
          obtain ⟨v0, v1, v2, v3, v4, c0, c1, c2, c3, c4⟩ := five_cells hC1.blk k (by rw [hC1.size]; omega)
          have f0 := hC1.blk.frozen (k * 5)
          have f1 := hC1.blk.frozen (k * 5 + 1)
          have f2 := hC1.blk.frozen (k * 5 + 2)
          have f3 := hC1.blk.frozen (k * 5 + 3)
          have f4 := hC1.blk.frozen (k * 5 + 4)
          clear hb1 ho hC1 HN hgb hp hro hcap
          go_wp2
          go_roundw
          case rel => exact ⟨k + 1, _, _, by omega, by go_num, HC2.out, ((((HB1.out.setCell (Nat.le_refl _) _).setCell (Nat.le_refl _) _).setCell (Nat.le_refl _) _).setCell (Nat.le_refl _) _).setCell (Nat.le_refl _) _⟩
          case measure => simp [intOf]; omega
        · have hge : ¬ (k : Int) < (U.length : Int) := by omega
          have HE : Hid (k = U.length) := by show k = U.length; omega
          go_wp2
          go_ret
          have hF := HC.out
          rw [HE.out] at hF
          exact ⟨⟨_, rfl, us, FillG.gs' hF HB4.out.size hl⟩, grow_on HB4.out HB.out⟩
    · intro x vx w2 hgx hnx hrg2 hg2 hs2 hen
      have hrow2 : w2.ownsRow w.heap.size 3 1 (.slice (some ⟨gb, 0, none⟩) done.length c) done.length (done.map (Value.int .i64)) := HW.out.1.kept hg2 (Or.inr (row_ne HW.out.1 HG.out))
      have hlen2 := hrg2.le (asked_int (P := Tryz.prog) Tryz.underlying3)
      rw [List.length_append] at hlen2
      have HLN : Hid (done.length + 1 ≤ n) := hlen2
      clear hs2 hlen2
      simp only [IntK] at hen ⊢
      go_wp2_with (at_builtin; refine wpList_append_own _ rfl _ _ 86 rfl w.heap.size 3 i0 (.int .i64 0) 1 8 Tryz.underlying86 hi hz0 hz1 hz2 rfl (by decide) _ _ _ rfl (hrow2.alloc _) ⟨w2.heap.size, 0, none⟩ 1 1 [Value.int .i64 x] rfl rfl (cell_one_new _ _ _) (by simp [Value.oneCell']) (by unfold maxLen at *; omega) (by omega) (by have := HW.out.2.size; have := hg2.size; simp; omega) ?_; intro v' w3 hown' hg3 hnil3; go_frame)
      have hlo : w.heap.size ≤ gb := (HW.out.1.lt gb rfl).1
      have hrg3 := (hrg2.alloc (.cells #[Value.int .i64 x] 3)).kept hg3 (fun e => by have e : M = gb := Option.some.inj e; have := HM.out; omega) (Ne.symm (row_ne hrow2 hrg2))
      have hbel : Below w.heap.size w w3 := ((HW.out.2.grown hg2 HW.out.2.size (fun j hj => by cases hj; exact HB1.out.1)).alloc (by have := HW.out.2.size; have := hg2.size; omega) _).grown hg3 (by have := HW.out.2.size; have := hg2.size; simp; omega) (fun j hj => (hrow2.lt j hj).1)
      rcases hown'.2 with ⟨e, _⟩ | ⟨g3, c3, cur3, rfl, hb3, hgb3, hc3⟩
      · have := (hnil3.1 e).2
        omega
      go_roundw
      case rel =>
        exact ⟨done ++ [x], g3, c3, by simp, hrg3, by simpa using hown', hbel⟩
      case measure =>
        simp [lenV]
        have := HLN.out
        omega
end Go.Proofs.YtgncimlojbnbfaaGreat.GpLd
namespace Go.Proofs.YtgncimlojbnbfaaGreat.GpIx
open Go.RowKit
open Labs LabS Alms Over Blk App Gps GpD
theorem closK_any (b0 : Nat) (kx ad ka : Option Addr) (kd cp kc : Nat) (x : PGr) (key : List Lab) (w : World) (hc : w.cell? ⟨b0, 0, none⟩ = some (.slice ka key.length kc)) (hx : Reads w kx x.key) (hr : Reads w ka key) (h1 : x.key.length ≤ maxLen) (h2 : key.length ≤ maxLen) :
    Calls Tryz.prog 51 #[.agg #[.int .i64 x.n, .slice kx x.key.length kd, .int .i64 x.b, .int .i64 x.t, .slice ad x.P.length cp], .pointer (some ⟨b0, 0, none⟩)] w fun e w' => e = .returned (.bool (keyIs key x)) ∧ Below w.heap.size w w' := by
  have hb0 : b0 < w.heap.size := World.block_lt_of_cell? w _ hc
  have hc1 : ∀ o, (w.alloc o).cell? ⟨b0, 0, none⟩ = some (.slice ka key.length kc) := fun o => by
    rw [World.cell?_alloc_lt _ _ _ hb0]; exact hc
  have HR : Hid (Reads w kx x.key ∧ Reads w ka key ∧ x.key.length ≤ maxLen ∧ key.length ≤ maxLen) := ⟨hx, hr, h1, h2⟩
  clear hc hx hr h1 h2
  go_enter Tryz.func51, Tryz.ntmps51
  go_wp2_with fail
  refine (calls_drew (implSame_any _ _ _ _ _ _ _ (HR.out.1.below (Go.Joins.below_alloc1 w _)) (HR.out.2.1.below (Go.Joins.below_alloc1 w _)) HR.out.2.2.1 HR.out.2.2.2)).mono ?_
  rintro e w1 ⟨rfl, hb1⟩
  have HB1 : Hid (Below w.heap.size w w1) := grow_on (Go.Joins.below_alloc1 w _) hb1
  clear hb1
  go_wp2
  go_ret
  exact ⟨rfl, HB1.out⟩
theorem closN_any (b0 : Nat) (kx ad : Option Addr) (kd cp : Nat) (x : PGr) (n : Int) (w : World) (hc : w.cell? ⟨b0, 0, none⟩ = some (.int .i64 n)) :
    Calls Tryz.prog 52 #[.agg #[.int .i64 x.n, .slice kx x.key.length kd, .int .i64 x.b, .int .i64 x.t, .slice ad x.P.length cp], .pointer (some ⟨b0, 0, none⟩)] w fun e w' => e = .returned (.bool (numIs n x)) ∧ Below w.heap.size w w' := by
  have hb0 : b0 < w.heap.size := World.block_lt_of_cell? w _ hc
  have hc1 : ∀ o, (w.alloc o).cell? ⟨b0, 0, none⟩ = some (.int .i64 n) := fun o => by
    rw [World.cell?_alloc_lt _ _ _ hb0]; exact hc
  clear hc
  go_enter Tryz.func52, Tryz.ntmps52
  go_wp2
  go_ret
  exact ⟨by unfold numIs; congr 2, Go.Joins.below_alloc1 w _⟩
set_option maxHeartbeats 1600000 in
theorem indexK_any (b0 : Nat) (a : Option Addr) (cap : Nat) (U : List PGr) (w : World) (hr : RdGs GA w a U) (hl : U.length ≤ 1048576) (ka : Option Addr) (kc : Nat) (key : List Lab) (hc : w.cell? ⟨b0, 0, none⟩ = some (.slice ka key.length kc)) (hkr : Reads w ka key) (hkl : key.length ≤ maxLen) (hz : ∀ x ∈ U, x.key.length ≤ maxLen) :
    Calls Tryz.prog 50 #[.slice a U.length cap, .func (.func 51) #[] #[.pointer (some ⟨b0, 0, none⟩)]] w fun e w' => e = .returned (.int .i64 (ofI (keyIs key) U)) ∧ Below w.heap.size w w' := by
  have hb0 : b0 < w.heap.size := World.block_lt_of_cell? w _ hc
  have HR : Hid (RdGs GA w a U) := hr
  have HK : Hid (w.cell? ⟨b0, 0, none⟩ = some (.slice ka key.length kc) ∧ Reads w ka key ∧ key.length ≤ maxLen ∧ ∀ x ∈ U, x.key.length ≤ maxLen) := ⟨hc, hkr, hkl, hz⟩; clear hr hc hkr hkl hz
  go_enter Tryz.func50, Tryz.ntmps50
  go_wp2
  go_loopw [8] (fun i w' => ∃ k : Nat, i = .int .i64 k ∧ k ≤ U.length ∧ (∀ j, j < k → keyIs key (nthG U j) = false) ∧ Below w.heap.size w w') (fun i _ => U.length - (intOf i).toNat)
  case atStart => exact ⟨0, rfl, Nat.zero_le _, fun j h => by omega, Below.refl _ _⟩
  case round =>
    obtain ⟨k, rfl, hk, hu, hw⟩ := hrel
    have HU : Hid (∀ j, j < k → keyIs key (nthG U j) = false) := hu
    have HB : Hid (Below w.heap.size w wr) := hw
    clear hu hw
    by_cases hlt : k < U.length
    · have hlt' : (k : Int) < (U.length : Int) := by omega
      obtain ⟨b, off, rfl, hb, kx, kd, ad, cp, hat⟩ := (HR.out.below stays_ga HB.out).get hlt
      have x0 := hat.c0
      have x1 := hat.c1
      have x2 := hat.c2
      have x3 := hat.c3
      have x4 := hat.c4
      have HC1 : Hid (Calls Tryz.prog 51 #[.agg #[.int .i64 (nthG U k).n, .slice kx (nthG U k).key.length kd, .int .i64 (nthG U k).b, .int .i64 (nthG U k).t, .slice ad (nthG U k).P.length cp], .pointer (some ⟨b0, 0, none⟩)] wr fun e w' => e = .returned (.bool (keyIs key (nthG U k))) ∧ Below wr.heap.size wr w') := closK_any b0 kx ad ka kd cp kc (nthG U k) key wr ((HB.out.cell (p := ⟨b0, 0, none⟩) hb0).trans HK.out.1) hat.reads.1 (HK.out.2.1.below HB.out) (HK.out.2.2.2 _ (nthG_mem hlt)) HK.out.2.2.1
      clear hat
      cases he : keyIs key (nthG U k) with
      | true =>
        rw [he] at HC1
        have HE : Hid (ofI (keyIs key) U = k) := ofI_at hlt HU.out he
        clear he
        go_wp2_with fail
        refine HC1.out.mono ?_
        rintro e w1 ⟨rfl, hb1⟩
        have HB1 : Hid (Below w.heap.size w w1) := grow_on HB.out hb1
        clear hb1 x0 x1 x2 x3 x4 HC1
        go_wp2
        go_ret
        exact ⟨retN HE.out.symm, HB1.out⟩
      | false =>
        rw [he] at HC1
        have HU1 : Hid (∀ j, j < k + 1 → keyIs key (nthG U j) = false) := fun j hj => by
          by_cases e : j = k
          · subst e; exact he
          · exact HU.out j (by omega)
        clear he
        go_wp2_with fail
        refine HC1.out.mono ?_
        rintro e w1 ⟨rfl, hb1⟩
        have HB1 : Hid (Below w.heap.size w w1) := grow_on HB.out hb1
        clear hb1 x0 x1 x2 x3 x4 HC1
        go_wp2
        go_roundw
        case rel => exact ⟨k + 1, by go_num, by omega, HU1.out, HB1.out⟩
        case measure => simp [intOf]; omega
    · have hge : ¬ (k : Int) < (U.length : Int) := by omega
      have HE : Hid (ofI (keyIs key) U = -1) := ofI_end fun j hj => HU.out j (by omega)
      go_wp2
      go_ret
      exact ⟨retN HE.out.symm, HB.out⟩
set_option maxHeartbeats 1600000 in
theorem indexN_any (b0 : Nat) (a : Option Addr) (cap : Nat) (U : List PGr) (w : World) (hr : RdGs GA w a U) (hl : U.length ≤ 1048576) (n : Int) (hc : w.cell? ⟨b0, 0, none⟩ = some (.int .i64 n)) :
    Calls Tryz.prog 50 #[.slice a U.length cap, .func (.func 52) #[] #[.pointer (some ⟨b0, 0, none⟩)]] w fun e w' => e = .returned (.int .i64 (ofI (numIs n) U)) ∧ Below w.heap.size w w' := by
  have hb0 : b0 < w.heap.size := World.block_lt_of_cell? w _ hc
  have HR : Hid (RdGs GA w a U) := hr
  have HK : Hid (w.cell? ⟨b0, 0, none⟩ = some (.int .i64 n)) := hc; clear hr hc
  go_enter Tryz.func50, Tryz.ntmps50
  go_wp2
  go_loopw [8] (fun i w' => ∃ k : Nat, i = .int .i64 k ∧ k ≤ U.length ∧ (∀ j, j < k → numIs n (nthG U j) = false) ∧ Below w.heap.size w w') (fun i _ => U.length - (intOf i).toNat)
  case atStart => exact ⟨0, rfl, Nat.zero_le _, fun j h => by omega, Below.refl _ _⟩
  case round =>
    obtain ⟨k, rfl, hk, hu, hw⟩ := hrel
    have HU : Hid (∀ j, j < k → numIs n (nthG U j) = false) := hu
    have HB : Hid (Below w.heap.size w wr) := hw
    clear hu hw
    by_cases hlt : k < U.length
    · have hlt' : (k : Int) < (U.length : Int) := by omega
      obtain ⟨b, off, rfl, hb, kx, kd, ad, cp, hat⟩ := (HR.out.below stays_ga HB.out).get hlt
      have x0 := hat.c0
      have x1 := hat.c1
      have x2 := hat.c2
      have x3 := hat.c3
      have x4 := hat.c4
      have HC1 : Hid (Calls Tryz.prog 52 #[.agg #[.int .i64 (nthG U k).n, .slice kx (nthG U k).key.length kd, .int .i64 (nthG U k).b, .int .i64 (nthG U k).t, .slice ad (nthG U k).P.length cp], .pointer (some ⟨b0, 0, none⟩)] wr fun e w' => e = .returned (.bool (numIs n (nthG U k))) ∧ Below wr.heap.size wr w') := closN_any b0 kx ad kd cp (nthG U k) n wr ((HB.out.cell (p := ⟨b0, 0, none⟩) hb0).trans HK.out)
      clear hat
      cases he : numIs n (nthG U k) with
      | true =>
        rw [he] at HC1
        have HE : Hid (ofI (numIs n) U = k) := ofI_at hlt HU.out he
        clear he
        go_wp2_with fail
        refine HC1.out.mono ?_
        rintro e w1 ⟨rfl, hb1⟩
        have HB1 : Hid (Below w.heap.size w w1) := grow_on HB.out hb1
        clear hb1 x0 x1 x2 x3 x4 HC1
        go_wp2
        go_ret
        exact ⟨retN HE.out.symm, HB1.out⟩
      | false =>
        rw [he] at HC1
        have HU1 : Hid (∀ j, j < k + 1 → numIs n (nthG U j) = false) := fun j hj => by
          by_cases e : j = k
          · subst e; exact he
          · exact HU.out j (by omega)
        clear he
        go_wp2_with fail
        refine HC1.out.mono ?_
        rintro e w1 ⟨rfl, hb1⟩
        have HB1 : Hid (Below w.heap.size w w1) := grow_on HB.out hb1
        clear hb1 x0 x1 x2 x3 x4 HC1
        go_wp2
        go_roundw
        case rel => exact ⟨k + 1, by go_num, by omega, HU1.out, HB1.out⟩
        case measure => simp [intOf]; omega
    · have hge : ¬ (k : Int) < (U.length : Int) := by omega
      have HE : Hid (ofI (numIs n) U = -1) := ofI_end fun j hj => HU.out j (by omega)
      go_wp2
      go_ret
      exact ⟨retN HE.out.symm, HB.out⟩
end Go.Proofs.YtgncimlojbnbfaaGreat.GpIx
namespace Go.Proofs.YtgncimlojbnbfaaGreat.GpIo
open Go.RowKit
open Labs LabS Alms Over Blk App Gps GpD
theorem implOf_any (a ka : Option Addr) (cap kc : Nat) (U : List PGr) (key : List Lab) (w : World) (hr : RdGs GA w a U) (hk : Reads w ka key) (hl : U.length ≤ 1048576) (hkl : key.length ≤ maxLen) (hz : ∀ x ∈ U, x.key.length ≤ maxLen) :
    Calls Tryz.prog 19 #[.slice a U.length cap, .slice ka key.length kc] w fun e w' => e = .returned (.int .i64 (ofI (keyIs key) U)) ∧ Below w.heap.size w w' := by
  have HC : ∀ T, Hid (Calls Tryz.prog 50 #[.slice a U.length cap, .func (.func 51) #[] #[.pointer (some ⟨w.heap.size, 0, none⟩)]] (w.alloc (.cells #[.slice ka key.length kc] T)) fun e w' => e = .returned (.int .i64 (ofI (keyIs key) U)) ∧ Below (w.alloc (.cells #[.slice ka key.length kc] T)).heap.size (w.alloc (.cells #[.slice ka key.length kc] T)) w') := fun T =>
    GpIx.indexK_any w.heap.size a cap U _ (hr.below stays_ga (Go.Joins.below_alloc1 w _)) hl ka kc key (by simp) (hk.below (Go.Joins.below_alloc1 w _)) hkl hz
  clear hr hk hz
  go_enter Tryz.func19, Tryz.ntmps19
  go_wp2_with fail
  refine (HC _).out.mono ?_
  rintro e w1 ⟨rfl, hb1⟩
  have HB : Hid (Below w.heap.size w w1) := grow_on (Go.Joins.below_alloc1 w _) hb1
  clear hb1 HC
  go_wp2
  go_ret
  exact ⟨rfl, HB.out⟩
end Go.Proofs.YtgncimlojbnbfaaGreat.GpIo
namespace Go.Proofs.YtgncimlojbnbfaaGreat.GpIj
open Go.RowKit
open Labs LabS Alms Over Blk Rws ChnC Grp GrpJ Gps GpD GpC GpJ Mps Mpr GpSt GpLd
open Pro (RdS own_reads projB)
def placesL (n : Nat) : List Int := (List.range n).map Int.ofNat
theorem places_lt (n : Nat) : (placesL n).Pairwise (· < ·) := by
  unfold placesL
  rw [List.pairwise_map]
  exact (List.pairwise_lt_range).imp fun h => by simpa using h
theorem places_mem (V : List PGr) (i : Int) : (standF V i).isSome = true ↔ i ∈ placesL V.length := by
  unfold placesL standF
  constructor
  · intro h
    split at h
    · have h1 : i.toNat < V.length := by
        by_cases e : i.toNat < V.length
        · exact e
        · rw [List.getElem?_eq_none (by omega)] at h; cases h
      exact List.mem_map.2 ⟨i.toNat, List.mem_range.2 h1, by simp; omega⟩
    · cases h
  · intro h
    obtain ⟨k, hk, rfl⟩ := List.mem_map.1 h
    have hk := List.mem_range.1 hk
    simp [hk]
theorem places_map (V : List PGr) : (placesL V.length).map (standF V) = V.map some := by
  unfold placesL
  rw [List.map_map]
  apply List.ext_getElem?
  intro i
  rw [List.getElem?_map, List.getElem?_map]
  by_cases h : i < V.length
  · rw [List.getElem?_range h, List.getElem?_eq_getElem h]
    simp [standF_nat, h]
  · rw [List.getElem?_eq_none (by simp; omega), List.getElem?_eq_none (by omega)]
    rfl
theorem laidV_any (M n : Nat) (g : Int → Option Value) (V : List PGr) (w : World) (hS : Stood GK w M n g (standF V)) (hn : n ≤ 2000000) (hs : SmallG V) (hl : V.length ≤ 2000000) :
    Calls Tryz.prog 33 #[.map (some M)] w fun e w' => (∃ M', e = .returned (.slice (some ⟨M', 0, none⟩) V.length V.length) ∧ ∃ us, GsB w.heap.size w' M' V.length us ∧ grs us = V) ∧ Below w.heap.size w w' :=
  laid_any M n g (standF V) (placesL V.length) V w hS hn (places_lt _) (places_mem V) (places_map V) hs hl
theorem small_set {U : List PGr} {k : Nat} {y : PGr} (h : SmallG U) (hy : SmG y) : SmallG (U.set k y) := fun x hx => by
  rcases List.mem_or_eq_of_mem_set hx with hx | rfl
  · exact h x hx
  · exact hy
theorem small_app {U : List PGr} {y : PGr} (h : SmallG U) (hy : SmG y) : SmallG (U ++ [y]) := fun x hx => by
  rcases List.mem_append.1 hx with hx | hx
  · exact h x hx
  · rw [List.mem_singleton.1 hx]; exact hy
theorem lenM_join {P : List PAl} {x : PAl} (h : LenM P) (hx : x.l.length ≤ 1048576) : LenM (joinG P x) := by
  have hm : ∀ (Q : List PAl), LenM Q ↔ ∀ y ∈ Q, y.l.length ≤ 1048576 := fun Q => by
    constructor
    · intro h y hy
      obtain ⟨i, hi, rfl⟩ := List.getElem_of_mem hy
      have := h i hi
      rwa [nthP_eq hi] at this
    · intro h i hi
      rw [nthP_eq hi]; exact h _ (List.getElem_mem _)
  rw [hm] at h ⊢
  intro y hy
  unfold joinG at hy
  split at hy
  · rcases List.mem_or_eq_of_mem_set hy with hy | rfl
    · exact h y hy
    · exact hx
  · rcases List.mem_append.1 hy with hy | hy
    · exact h y (List.mem_of_mem_take hy)
    · rcases List.mem_cons.1 hy with rfl | hy
      · exact hx
      · exact h y (List.mem_of_mem_drop hy)
set_option maxRecDepth 100000 in
set_option maxHeartbeats 6400000 in
theorem implJoinA_any (a ba : Option Addr) (cap bc : Nat) (U : List PGr) (by' : List ByteArray) (gx ox cx : Nat) (x : PAl) (n now : Int) (w : World) (hr : RdGs GN w a U) (hl : U.length ≤ 1048576) (hcap : U.length ≤ cap ∧ cap ≤ maxLen) (hs : SmallG U) (hx : Reads w (some ⟨gx, ox, none⟩) x.l) (hxl : x.l.length ≤ 1048576) (hb : RdS w ba by') (hbl : by'.length ≤ maxLen) (hjl : ∀ y ∈ U, (joinG y.P x).length ≤ 1048576) :
    Calls Tryz.prog 6 #[.slice a U.length cap, .agg #[.slice (some ⟨gx, ox, none⟩) x.l.length cx, .int .i64 x.s, .int .i64 x.e, .string x.n], .slice ba by'.length bc, .int .i64 n, .int .i64 now] w fun e w' => (∃ M c us, e = .returned (.tuple #[.slice (some ⟨M, 0, none⟩) us.length c, .bool (newJ U x by')]) ∧ GsB w.heap.size w' M c us ∧ grs us = joinAllG U x by' n now) ∧ Below w.heap.size w w' := by
  have HR : Hid (RdGs GN w a U ∧ SmallG U ∧ ∀ y ∈ U, (joinG y.P x).length ≤ 1048576) := ⟨hr, hs, hjl⟩
  have HX : Hid (Reads w (some ⟨gx, ox, none⟩) x.l ∧ x.l.length ≤ 1048576) := ⟨hx, hxl⟩
  have HY : Hid (RdS w ba by' ∧ by'.length ≤ maxLen) := ⟨hb, hbl⟩
  have HPL : Hid ((projB x.l by').length ≤ 1048576) := by have h1 := Pro.proj_len x.l by'; show _ ≤ _; omega
  clear hr hs hx hxl hb hbl hjl hcap
  generalize hW0 : w.alloc (.cells #[.slice (some ⟨gx, ox, none⟩) x.l.length cx, .int .i64 x.s, .int .i64 x.e, .string x.n] 27) = W0
  have HB0 : Hid (Below w.heap.size w W0) := by rw [← hW0]; exact Go.Joins.below_alloc1 w _
  have BX0 : Hid (Blk W0 w.heap.size #[.slice (some ⟨gx, ox, none⟩) x.l.length cx, .int .i64 x.s, .int .i64 x.e, .string x.n] 27) := by rw [← hW0]; exact Blk.new _ _ _
  have HZ0 : Hid (W0.heap.size = w.heap.size + 1) := by show _ = _; rw [← hW0]; simp
  have HST : Hid (∀ y, Below W0.heap.size W0 y → Calls Tryz.prog 31 #[.slice a U.length cap] y fun e w' => (∃ M, e = .returned (.map (some M)) ∧ y.heap.size ≤ M ∧ ∃ n g, n ≤ U.length ∧ Stood GN w' M n g (standF U)) ∧ Below y.heap.size y w') := fun y hy => stand_any a cap U y (HR.out.1.below stays_gn (grow_on HB0.out hy)) hl
  have HKO : Hid (∀ y, Below W0.heap.size W0 y → Calls Tryz.prog 25 #[.agg #[.slice (some ⟨gx, ox, none⟩) x.l.length cx, .int .i64 x.s, .int .i64 x.e, .string x.n], .slice ba by'.length bc] y fun e w' => (∃ K kd, e = .returned (.slice (some ⟨K, 0, none⟩) (projB x.l by').length kd) ∧ LabR.Own y w' K (projB x.l by')) ∧ Below y.heap.size y w') := fun y hy => Pro.implKey_any _ _ _ _ x.l x.s x.e x.n by' y (HX.out.1.below (grow_on HB0.out hy)) (HY.out.1.below (grow_on HB0.out hy)) HX.out.2 HY.out.2
  go_enter Tryz.func6, Tryz.ntmps6
  go_upto_region 1 with fail
  try rw [hW0]
  clear hW0
  have HS : Hid (∀ w', Below W0.heap.size W0 w' → w'.cell? ⟨w.heap.size, 0, none⟩ = some (.slice (some ⟨gx, ox, none⟩) x.l.length cx) ∧ w'.cell? ⟨w.heap.size, 1, none⟩ = some (.int .i64 x.s) ∧ w'.cell? ⟨w.heap.size, 2, none⟩ = some (.int .i64 x.e) ∧ w'.cell? ⟨w.heap.size, 3, none⟩ = some (.string x.n)) := fun w' h => ⟨(BX0.out.grow h).cell 0, (BX0.out.grow h).cell 1, (BX0.out.grow h).cell 2, (BX0.out.grow h).cell 3⟩
  refine wp_region_held_drew (S := fun w' => w'.cell? ⟨w.heap.size, 0, none⟩ = some (.slice (some ⟨gx, ox, none⟩) x.l.length cx) ∧ w'.cell? ⟨w.heap.size, 1, none⟩ = some (.int .i64 x.s) ∧ w'.cell? ⟨w.heap.size, 2, none⟩ = some (.int .i64 x.e) ∧ w'.cell? ⟨w.heap.size, 3, none⟩ = some (.string x.n)) (by kernel_rfl) (HS.out _ (Below.refl W0.heap.size W0).drew) (fun hHeld => ?_)
  refine tk 0 ⟨some 16, .move (.tmp 0), 24, "l12_groups.go:68", #[], none⟩ hHeld ?_
  try go_frame
  refine tk 2 ⟨some 18, .load 27 (.tmp 6), 27, "l12_groups.go:68", #[], none⟩ hHeld ?_
  try go_frame
  refine tk 3 ⟨some 19, .move (.tmp 2), 28, "l12_groups.go:68", #[], none⟩ hHeld ?_
  try go_frame
  refine rd1 1 ⟨some 17, .call { callee := .value (.func 31), args := #[.tmp 16], argTypes := #[24] }, 61, "l12_groups.go:68", #[⟨0, .data⟩], none⟩ (fun K hK => ?_)
  go_simp
  refine (HST.out _ (Below.refl W0.heap.size W0).drew).mono ?_
  rintro r wyja1 ⟨⟨M, rfl, hM, n1, g1, hn1, hS1⟩, hb1⟩
  have Z1 : Hid (Below W0.heap.size W0 wyja1) := grow_on (Below.refl W0.heap.size W0).drew hb1
  have HS1 : Hid (Stood GN wyja1 M n1 g1 (standF U) ∧ n1 ≤ U.length) := ⟨hS1, hn1⟩
  have HM : Hid (W0.heap.size ≤ M) := hM
  clear hb1 hM hn1 hS1
  clear hHeld
  refine hK.out _ _ (HS.out _ Z1.out) (fun hHeld => ?_)
  clear hK K
  try go_frame
  refine rd1 4 ⟨some 20, .call { callee := .value (.func 25), args := #[.tmp 18, .tmp 19], argTypes := #[27, 28] }, 25, "l12_groups.go:68", #[⟨2, .data⟩, ⟨3, .data⟩, ⟨1, .chain⟩], none⟩ (fun K hK => ?_)
  go_simp
  refine (HKO.out _ Z1.out).mono ?_
  rintro r wyja4 ⟨⟨Kq, kd, rfl, ho⟩, hb2⟩
  have Z2 : Hid (Below W0.heap.size W0 wyja4) := grow_on Z1.out hb2
  have HS2 : Hid (Stood GN wyja4 M n1 g1 (standF U) ∧ n1 ≤ U.length) := ⟨HS1.out.1.grow stays_gn hb2, HS1.out.2⟩
  have HO2 : Hid (Reads wyja4 (some ⟨Kq, 0, none⟩) (projB x.l by')) := own_reads ho
  clear hb2 ho HS1 Z1
  clear hHeld
  refine hK.out _ _ (HS.out _ Z2.out) (fun hHeld => ?_)
  clear hK K
  try go_frame
  refine tk 5 ⟨some 12, .assign (.tmp 17), 61, "l12_groups.go:68", #[⟨1, .data⟩, ⟨4, .chain⟩, ⟨0, .phase⟩, ⟨1, .phase⟩, ⟨2, .textOnly .lateStores⟩, ⟨3, .textOnly .lateStores⟩, ⟨4, .textOnly .lateStoresUnsure⟩], none⟩ hHeld ?_
  try go_frame
  refine tk 6 ⟨some 13, .assign (.tmp 20), 25, "l12_groups.go:68", #[⟨4, .data⟩, ⟨5, .chain⟩, ⟨0, .phase⟩, ⟨1, .phase⟩, ⟨2, .phase⟩, ⟨3, .phase⟩, ⟨4, .phase⟩, ⟨5, .phase⟩], none⟩ hHeld ?_
  try go_frame
  refine wpAnyH_done (by kernel_rfl) ?_ _
  clear hHeld HS HST HKO
  have HB2 : Hid (Below w.heap.size w wyja4) := grow_on HB0.out Z2.out
  have BX2 : Hid (Blk wyja4 w.heap.size #[.slice (some ⟨gx, ox, none⟩) x.l.length cx, .int .i64 x.s, .int .i64 x.e, .string x.n] 27) := BX0.out.grow Z2.out
  have HM2 : Hid (w.heap.size + 1 ≤ M) := by have h1 := HM.out; rw [HZ0.out] at h1; exact h1
  clear Z2 HB0 BX0 HM HZ0
  generalize wyja4 = z2 at *
  go_wp2_with fail
  refine (GpIo.implOf_any a (some ⟨Kq, 0, none⟩) cap kd U (projB x.l by') _ ((HR.out.1.below stays_gn HB2.out).rd) HO2.out hl (by have := HPL.out; unfold maxLen; omega) (fun y hy => by have := (HR.out.2.1 y hy).1; unfold maxLen; omega)).mono ?_
  rintro e z ⟨rfl, hb3⟩
  have HSz : Hid (Stood GN z M n1 g1 (standF U) ∧ n1 ≤ U.length) := ⟨HS2.out.1.grow stays_gn hb3, HS2.out.2⟩
  have HOz : Hid (Reads z (some ⟨Kq, 0, none⟩) (projB x.l by')) := HO2.out.below hb3
  have HB : Hid (Below w.heap.size w z) := grow_on HB2.out hb3
  have BX : Hid (Blk z w.heap.size #[.slice (some ⟨gx, ox, none⟩) x.l.length cx, .int .i64 x.s, .int .i64 x.e, .string x.n] 27) := BX2.out.grow hb3
  clear hb3 HS2 HO2 HB2 BX2
  have hnlen : n1 ≤ U.length := HSz.out.2
  rcases ofI_cases (keyIs (projB x.l by')) U with ⟨he, _⟩ | ⟨k, he, _, _, _⟩
  ·
    obtain ⟨hj1, hj2⟩ := joinA_miss (n := n) (now := now) he
    have HJ : Hid (joinAllG U x by' n now = U ++ [⟨n, (projB x.l by'), now, -1, [x]⟩] ∧ newJ U x by' = true) := ⟨hj1, hj2⟩
    rw [he]
    clear hj1 hj2 he
    go_wp2_with (at_mapUpdate; refine wp_updateN _ rfl _ _ _ 61 rfl 3 53 IntK (asked_int Tryz.underlying3) Tryz.underlying61 M n1 (g1) rfl HSz.out.1.map HSz.out.1.num (U.length : Int) (.agg #[.int .i64 n, .slice (some ⟨Kq, 0, none⟩) (projB x.l by').length kd, .int .i64 now, .int .i64 (-1), .slice none 0 0]) rfl rfl ?_)
    intro w3 n3 hm3 hn3 hle3 hg3 hs3
    have HS3 : Hid (Stood GK w3 M n3 (updG g1 (U.length : Int) (some (.agg #[.int .i64 n, .slice (some ⟨Kq, 0, none⟩) (projB x.l by').length kd, .int .i64 now, .int .i64 (-1), .slice none 0 0]))) (updF (standF U) (U.length : Int) (some ⟨n, (projB x.l by'), now, -1, []⟩))) := (HSz.out.1.gk).put up_gk hm3 hn3 hg3 ⟨some ⟨Kq, 0, none⟩, kd, none, 0, rfl, ⟨Kq, 0, rfl⟩, HOz.out, .inl rfl⟩
    have hup := Up.map HSz.out.1.map hg3
    have HO3 : Hid (Reads w3 (some ⟨Kq, 0, none⟩) (projB x.l by')) := Reads.up HOz.out hup
    have HB3 : Hid (Below w.heap.size w w3) := HB.out.grown hg3 HB.out.size (fun j e => by have e : M = j := Option.some.inj e; have := HM2.out; omega)
    have BX3 : Hid (Blk w3 w.heap.size #[.slice (some ⟨gx, ox, none⟩) x.l.length cx, .int .i64 x.s, .int .i64 x.e, .string x.n] 27) := blk_map BX.out HSz.out.1.map hg3
    have x0 := BX3.out.cell 0
    have x1 := BX3.out.cell 1
    have x2 := BX3.out.cell 2
    have x3 := BX3.out.cell 3
    simp at x0 x1 x2 x3
    clear hm3 hn3 hg3 hs3 hup HOz HB BX
    go_wp2_with (at_lookup; refine wp_lookup _ rfl _ _ 61 false rfl 3 53 IntK (asked_int Tryz.underlying3) Tryz.underlying61 (zeroG _) M _ rfl HS3.out.map (U.length : Int) rfl (.agg #[.int .i64 n, .slice (some ⟨Kq, 0, none⟩) (projB x.l by').length kd, .int .i64 now, .int .i64 (-1), .slice none 0 0]) (by rw [upd_at]; rfl) ?_)
    refine (GrpIn.implJoin_nil n now (-1) Kq 0 kd (projB x.l by') gx ox cx x _ HO3.out HPL.out (HX.out.1.below HB3.out) HX.out.2).mono ?_
    rintro e w4 ⟨⟨Ke, ke, M1, o1, c1, rs, rfl, hG, hP⟩, hb4⟩
    have HS4 : Hid (Stood GK w4 M n3 (updG g1 (U.length : Int) (some (.agg #[.int .i64 n, .slice (some ⟨Kq, 0, none⟩) (projB x.l by').length kd, .int .i64 now, .int .i64 (-1), .slice none 0 0]))) (updF (standF U) (U.length : Int) (some ⟨n, (projB x.l by'), now, -1, []⟩))) := HS3.out.grow stays_gk hb4
    have HG4 : Hid (GB w3.heap.size w4 Ke (projB x.l by') M1 o1 rs ∧ pals rs = [x]) := ⟨hG, hP⟩
    have HB4 : Hid (Below w.heap.size w w4) := grow_on HB3.out hb4
    clear hG hP hb4 x0 x1 x2 x3 HS3 HB3 HO3 BX3
    go_wp2_with (at_mapUpdate; refine wp_updateN _ rfl _ _ _ 61 rfl 3 53 IntK (asked_int Tryz.underlying3) Tryz.underlying61 M n3 (_) rfl HS4.out.map HS4.out.num (U.length : Int) (.agg #[.int .i64 n, .slice (some ⟨Ke, 0, none⟩) (projB x.l by').length ke, .int .i64 now, .int .i64 (-1), .slice (some ⟨M1, o1, none⟩) rs.length c1]) rfl rfl ?_)
    intro w5 n5 hm5 hn5 hle5 hg5 hs5
    have HS5 : Hid (Stood GK w5 M n5 (updG (updG g1 (U.length : Int) (some (.agg #[.int .i64 n, .slice (some ⟨Kq, 0, none⟩) (projB x.l by').length kd, .int .i64 now, .int .i64 (-1), .slice none 0 0]))) (U.length : Int) (some (.agg #[.int .i64 n, .slice (some ⟨Ke, 0, none⟩) (projB x.l by').length ke, .int .i64 now, .int .i64 (-1), .slice (some ⟨M1, o1, none⟩) rs.length c1]))) (standF (joinAllG U x by' n now))) := by
      rw [HJ.out.1]
      rw [← standF_app, ← updF_twice (standF U) (U.length : Int) (some ⟨n, (projB x.l by'), now, -1, []⟩)]
      exact HS4.out.put up_gk hm5 hn5 hg5 ⟨some ⟨Ke, 0, none⟩, ke, some ⟨M1, o1, none⟩, c1, by rw [← HG4.out.2, pals_len], ⟨Ke, 0, rfl⟩, HG4.out.1.key.rd, by rw [← HG4.out.2]; exact HG4.out.1.row.rd.rd⟩
    have HB5 : Hid (Below w.heap.size w w5) := HB4.out.grown hg5 HB4.out.size (fun j e => by have e : M = j := Option.some.inj e; have := HM2.out; omega)
    have hn5b : n5 ≤ 2000000 := by omega
    have HLD : Hid (Calls Tryz.prog 33 #[.map (some M)] w5 fun e w' => (∃ M', e = .returned (.slice (some ⟨M', 0, none⟩) (joinAllG U x by' n now).length (joinAllG U x by' n now).length) ∧ ∃ us, GsB w5.heap.size w' M' (joinAllG U x by' n now).length us ∧ grs us = joinAllG U x by' n now) ∧ Below w5.heap.size w5 w') := laidV_any M n5 _ (joinAllG U x by' n now) w5 HS5.out hn5b (by rw [HJ.out.1]; exact small_app HR.out.2.1 ⟨HPL.out, by show 1 ≤ 1048576; omega, GrpI.lenM_one HX.out.2⟩) (by rw [HJ.out.1]; simp; omega)
    clear hm5 hn5 hg5 hs5 HS4 HG4 HB4
    go_wp2_with fail
    refine HLD.out.mono ?_
    rintro e w6 ⟨⟨M', rfl, us, hgs, hgr⟩, hb6⟩
    have HF : Hid (GsB w.heap.size w6 M' (joinAllG U x by' n now).length us ∧ grs us = joinAllG U x by' n now ∧ Below w.heap.size w w6) := ⟨hgs.down HB5.out.size, hgr, grow_on HB5.out hb6⟩
    clear hgs hgr hb6 HLD
    go_wp2
    go_ret2
    have hul : us.length = (joinAllG U x by' n now).length := by rw [← HF.out.2.1, grs_len]
    exact ⟨⟨M', (joinAllG U x by' n now).length, us, by rw [hul, HJ.out.2]; rfl, HF.out.1, HF.out.2.1⟩, HF.out.2.2⟩
  ·
    obtain ⟨hkl, hj1, hj2⟩ := joinA_hit (n := n) (now := now) he
    have HJ : Hid (joinAllG U x by' n now = U.set k (putG x (nthG U k)) ∧ newJ U x by' = false) := ⟨hj1, hj2⟩
    rw [he]
    have hk0 : ¬ (k : Int) < 0 := by omega
    clear hj1 hj2 he
    obtain ⟨v, hgv, ka, kc, ad, cp, rfl, ⟨gk, ok, rfl⟩, ⟨ga, oa, rfl⟩, hcp, hrk, hra⟩ := HSz.out.1.ent (k : Int) (nthG U k) (by rw [standF_nat, nthG_eq hkl]; exact List.getElem?_eq_getElem hkl)
    have HGV : Hid (g1 (k : Int) = some (.agg #[.int .i64 (nthG U k).n, .slice (some ⟨gk, ok, none⟩) (nthG U k).key.length kc, .int .i64 (nthG U k).b, .int .i64 (nthG U k).t, .slice (some ⟨ga, oa, none⟩) (nthG U k).P.length cp])) := hgv
    have HSM : Hid (SmG (nthG U k) ∧ (joinG (nthG U k).P x).length ≤ 1048576) := ⟨HR.out.2.1 _ (nthG_mem hkl), HR.out.2.2 _ (nthG_mem hkl)⟩
    have HRD : Hid (Reads z (some ⟨gk, ok, none⟩) (nthG U k).key ∧ RdN z (some ⟨ga, oa, none⟩) (nthG U k).P ∧ ((nthG U k).P.length ≤ cp ∧ cp ≤ maxLen)) := ⟨hrk, hra, hcp⟩
    have x0 := BX.out.cell 0
    have x1 := BX.out.cell 1
    have x2 := BX.out.cell 2
    have x3 := BX.out.cell 3
    simp at x0 x1 x2 x3
    clear hgv hcp hrk hra
    go_wp2_with (at_lookup; refine wp_lookup _ rfl _ _ 61 false rfl 3 53 IntK (asked_int Tryz.underlying3) Tryz.underlying61 (zeroG _) M _ rfl HSz.out.1.map (k : Int) rfl (.agg #[.int .i64 (nthG U k).n, .slice (some ⟨gk, ok, none⟩) (nthG U k).key.length kc, .int .i64 (nthG U k).b, .int .i64 (nthG U k).t, .slice (some ⟨ga, oa, none⟩) (nthG U k).P.length cp]) (by rw [HGV.out]; rfl) ?_)
    refine (GrpI.implJoin_any (nthG U k).n (nthG U k).b (nthG U k).t gk ok kc (nthG U k).key ga oa cp (nthG U k).P gx ox cx x _ HRD.out.1 HSM.out.1.1 HRD.out.2.1 HSM.out.1.2.1 HSM.out.1.2.2 HRD.out.2.2 (HX.out.1.below HB.out) HX.out.2).mono ?_
    rintro e w4 ⟨⟨Ke, ke, M1, o1, c1, rs, rfl, hG, hP⟩, hb4⟩
    have HS4 : Hid (Stood GK w4 M n1 g1 (standF U)) := (HSz.out.1.gk).grow stays_gk hb4
    have HG4 : Hid (GB z.heap.size w4 Ke (nthG U k).key M1 o1 rs ∧ pals rs = joinG (nthG U k).P x) := ⟨hG, hP⟩
    have HB4 : Hid (Below w.heap.size w w4) := grow_on HB.out hb4
    clear hG hP hb4 x0 x1 x2 x3 HB HOz BX HRD HGV
    go_wp2_with (at_mapUpdate; refine wp_updateN _ rfl _ _ _ 61 rfl 3 53 IntK (asked_int Tryz.underlying3) Tryz.underlying61 M n1 (_) rfl HS4.out.map HS4.out.num (k : Int) (.agg #[.int .i64 (nthG U k).n, .slice (some ⟨Ke, 0, none⟩) (nthG U k).key.length ke, .int .i64 (nthG U k).b, .int .i64 (nthG U k).t, .slice (some ⟨M1, o1, none⟩) rs.length c1]) rfl rfl ?_)
    intro w5 n5 hm5 hn5 hle5 hg5 hs5
    have HS5 : Hid (Stood GK w5 M n5 (updG (g1) (k : Int) (some (.agg #[.int .i64 (nthG U k).n, .slice (some ⟨Ke, 0, none⟩) (nthG U k).key.length ke, .int .i64 (nthG U k).b, .int .i64 (nthG U k).t, .slice (some ⟨M1, o1, none⟩) rs.length c1]))) (standF (joinAllG U x by' n now))) := by
      rw [HJ.out.1]
      rw [← standF_set hkl]
      exact HS4.out.put up_gk hm5 hn5 hg5 ⟨some ⟨Ke, 0, none⟩, ke, some ⟨M1, o1, none⟩, c1, by simp only [putG]; rw [← HG4.out.2, pals_len], ⟨Ke, 0, rfl⟩, HG4.out.1.key.rd, by simp only [putG]; rw [← HG4.out.2]; exact HG4.out.1.row.rd.rd⟩
    have HB5 : Hid (Below w.heap.size w w5) := HB4.out.grown hg5 HB4.out.size (fun j e => by have e : M = j := Option.some.inj e; have := HM2.out; omega)
    have hn5b : n5 ≤ 2000000 := by omega
    have HLD : Hid (Calls Tryz.prog 33 #[.map (some M)] w5 fun e w' => (∃ M', e = .returned (.slice (some ⟨M', 0, none⟩) (joinAllG U x by' n now).length (joinAllG U x by' n now).length) ∧ ∃ us, GsB w5.heap.size w' M' (joinAllG U x by' n now).length us ∧ grs us = joinAllG U x by' n now) ∧ Below w5.heap.size w5 w') := laidV_any M n5 _ (joinAllG U x by' n now) w5 HS5.out hn5b (by rw [HJ.out.1]; exact small_set HR.out.2.1 ⟨HSM.out.1.1, HSM.out.2, lenM_join HSM.out.1.2.2 HX.out.2⟩) (by rw [HJ.out.1]; simp; omega)
    clear hm5 hn5 hg5 hs5 HS4 HG4 HB4
    go_wp2_with fail
    refine HLD.out.mono ?_
    rintro e w6 ⟨⟨M', rfl, us, hgs, hgr⟩, hb6⟩
    have HF : Hid (GsB w.heap.size w6 M' (joinAllG U x by' n now).length us ∧ grs us = joinAllG U x by' n now ∧ Below w.heap.size w w6) := ⟨hgs.down HB5.out.size, hgr, grow_on HB5.out hb6⟩
    clear hgs hgr hb6 HLD
    go_wp2
    go_ret2
    have hul : us.length = (joinAllG U x by' n now).length := by rw [← HF.out.2.1, grs_len]
    exact ⟨⟨M', (joinAllG U x by' n now).length, us, by rw [hul, HJ.out.2]; rfl, HF.out.1, HF.out.2.1⟩, HF.out.2.2⟩
end Go.Proofs.YtgncimlojbnbfaaGreat.GpIj
namespace Go.Proofs.YtgncimlojbnbfaaGreat.GpIt
open Go.RowKit
open Labs LabS Alms Over Blk App Gps GpD
theorem implAt_any (a : Option Addr) (cap : Nat) (U : List PGr) (n : Int) (w : World) (hr : RdGs GA w a U) (hl : U.length ≤ 1048576) :
    Calls Tryz.prog 21 #[.slice a U.length cap, .int .i64 n] w fun e w' => e = .returned (.int .i64 (ofI (numIs n) U)) ∧ Below w.heap.size w w' := by
  have HC : ∀ T, Hid (Calls Tryz.prog 50 #[.slice a U.length cap, .func (.func 52) #[] #[.pointer (some ⟨w.heap.size, 0, none⟩)]] (w.alloc (.cells #[.int .i64 n] T)) fun e w' => e = .returned (.int .i64 (ofI (numIs n) U)) ∧ Below (w.alloc (.cells #[.int .i64 n] T)).heap.size (w.alloc (.cells #[.int .i64 n] T)) w') := fun T =>
    GpIx.indexN_any w.heap.size a cap U _ (hr.below stays_ga (Go.Joins.below_alloc1 w _)) hl n (by simp)
  clear hr
  go_enter Tryz.func21, Tryz.ntmps21
  go_wp2_with fail
  refine (HC _).out.mono ?_
  rintro e w1 ⟨rfl, hb1⟩
  have HB : Hid (Below w.heap.size w w1) := grow_on (Go.Joins.below_alloc1 w _) hb1
  clear hb1 HC
  go_wp2
  go_ret
  exact ⟨rfl, HB.out⟩
end Go.Proofs.YtgncimlojbnbfaaGreat.GpIt
namespace Go.Proofs.YtgncimlojbnbfaaGreat.GpIf
open Go.RowKit
open Labs LabS Alms AlmM Over Blk App Rws ChnI ChnC ChnK Chs Grp Gps GpD GpC GpF GpM Mps Mpr GpSt GpLd GpIj
theorem GsB.far {lo : Nat} {w : World} {M c : Nat} {us : List GRow} (h : GsB lo w M c us) {N : Nat} {cs : Array Value} {T : TypeId} (hN : Blk w N cs T) (hA : T ≠ 27) (hL : T ≠ 99) (hne : N ≠ M) (i : Nat) (v : Value) : GsB lo (w.setCell ⟨N, i, none⟩ v) M c us := by
  obtain ⟨cur, c1, c2⟩ := h.outer
  exact ⟨h.at', h.cap, ⟨cur, c1.set_other (p := ⟨N, i, none⟩) hne v, c2⟩, h.rows.moved (Moved.set hN hA hL i v)⟩
theorem moved_map {ι : Type} {enc : ι → Value} {w w' : World} {b : Nat} {g : ι → Option Value} (hm : MapG enc w b g) (hg : w.grownBy w' (some b)) : Moved w w' := ⟨fun h => blk_map h hm hg, fun h => blk_map h hm hg⟩
theorem lenM_left {P : List PAl} {now : Int} (h : LenM P) : LenM (leftTo P now P.length) := GrpI.lenM_left h P.length
theorem drop_mem {V : List PGr} {k : Nat} (hk : k < V.length) (i : Int) : (updF (standF V) (k : Int) none i).isSome = true ↔ i ∈ (placesL V.length).eraseIdx k := by
  have hp := places_lt V.length
  have hkk : (placesL V.length)[k]? = some (k : Int) := by unfold placesL; simp [hk]
  rw [List.mem_eraseIdx_iff_getElem?]
  by_cases e : i = (k : Int)
  · subst e
    rw [updF_at]
    constructor
    · intro h; cases h
    · rintro ⟨j, hj, hjk⟩
      have h1 : (placesL V.length)[j]? = some (j : Int) := by
        have hjl : j < V.length := by
          have := (List.getElem?_eq_some_iff.1 hjk).1
          unfold placesL at this
          simpa using this
        unfold placesL; simp [hjl]
      rw [h1] at hjk
      have := Option.some.inj hjk
      omega
  · rw [updF_no e, places_mem]
    constructor
    · intro h
      obtain ⟨j, hj⟩ := List.getElem?_of_mem h
      refine ⟨j, fun e2 => ?_, hj⟩
      subst e2
      rw [hkk] at hj
      exact e (Option.some.inj hj).symm
    · rintro ⟨j, _, hj⟩
      exact List.mem_of_getElem? hj
theorem drop_map {V : List PGr} {k : Nat} (hk : k < V.length) : ((placesL V.length).eraseIdx k).map (updF (standF V) (k : Int) none) = (V.take k ++ V.drop (k + 1)).map some := by
  have h1 : ((placesL V.length).eraseIdx k).map (updF (standF V) (k : Int) none) = ((placesL V.length).eraseIdx k).map (standF V) := by
    refine List.map_congr_left fun i hi => ?_
    have h2 := (drop_mem hk i).2 hi
    by_cases e : i = (k : Int)
    · subst e; rw [updF_at] at h2; cases h2
    · exact updF_no e
  have h3 : ((placesL V.length).eraseIdx k).map (standF V) = ((placesL V.length).map (standF V)).eraseIdx k := by rw [List.eraseIdx_eq_take_drop_succ, List.eraseIdx_eq_take_drop_succ, List.map_append, List.map_take, List.map_drop]
  rw [h1, h3, places_map, List.eraseIdx_eq_take_drop_succ, List.map_append, List.map_take, List.map_drop]
theorem laidD_any (M n k : Nat) (g : Int → Option Value) (V : List PGr) (w : World) (hk : k < V.length) (hS : Stood GK w M n g (updF (standF V) (k : Int) none)) (hn : n ≤ 2000000) (hs : SmallG V) (hl : V.length ≤ 2000000) :
    Calls Tryz.prog 33 #[.map (some M)] w fun e w' => (∃ M', e = .returned (.slice (some ⟨M', 0, none⟩) (V.take k ++ V.drop (k + 1)).length (V.take k ++ V.drop (k + 1)).length) ∧ ∃ us, GsB w.heap.size w' M' (V.take k ++ V.drop (k + 1)).length us ∧ grs us = V.take k ++ V.drop (k + 1)) ∧ Below w.heap.size w w' :=
  laid_any M n g _ ((placesL V.length).eraseIdx k) (V.take k ++ V.drop (k + 1)) w hS hn ((places_lt _).sublist (List.eraseIdx_sublist _ _)) (drop_mem hk) (drop_map hk) (fun x hx => by
    rcases List.mem_append.1 hx with hx | hx
    · exact hs x (List.mem_of_mem_take hx)
    · exact hs x (List.mem_of_mem_drop hx)) (by simp; omega)
set_option maxRecDepth 100000 in
set_option maxHeartbeats 6400000 in
theorem implFlushA_any (a : Option Addr) (cap : Nat) (U : List PGr) (n now : Int) (w : World) (hr : RdGs GN w a U) (hl : U.length ≤ 1048576) (hcap : U.length ≤ cap ∧ cap ≤ maxLen) (hs : SmallG U) :
    Calls Tryz.prog 9 #[.slice a U.length cap, .int .i64 n, .int .i64 now] w fun e w' => ((ofI (numIs n) U = -1 ∧ ∃ M c us, e = .returned (.tuple #[.slice (some ⟨M, 0, none⟩) us.length c, .agg #[.int .i64 0, .slice none 0 0, .int .i64 0, .slice none 0 0], .bool false]) ∧ GsB w.heap.size w' M c us ∧ grs us = U) ∨ (∃ k : Nat, ofI (numIs n) U = (k : Int) ∧ k < U.length ∧ ∃ M c us K2 kd2 M2 o2 c2 rs2, e = .returned (.tuple #[.slice (some ⟨M, 0, none⟩) us.length c, .agg #[.int .i64 (nthG U k).n, .slice (some ⟨K2, 0, none⟩) (nthG U k).key.length kd2, .int .i64 now, .slice (some ⟨M2, o2, none⟩) rs2.length c2], .bool true]) ∧ GsB w.heap.size w' M c us ∧ grs us = flushG U k now ∧ GB w.heap.size w' K2 (nthG U k).key M2 o2 rs2 ∧ pals rs2 = (nthG U k).P ∧ ∀ q, blksG M us q → ¬ gblks K2 M2 rs2 q)) ∧ Below w.heap.size w w' := by
  have HR : Hid (RdGs GN w a U ∧ SmallG U) := ⟨hr, hs⟩
  clear hr hs hcap
  generalize hW0 : w.alloc (.cells #[.int .i64 0, .slice none 0 0, .int .i64 0, .slice none 0 0] 37) = W0
  have HB0 : Hid (Below w.heap.size w W0) := by rw [← hW0]; exact Go.Joins.below_alloc1 w _
  have BR0 : Hid (Blk W0 w.heap.size #[.int .i64 0, .slice none 0 0, .int .i64 0, .slice none 0 0] 37) := by rw [← hW0]; exact Blk.new _ _ _
  have HZ0 : Hid (W0.heap.size = w.heap.size + 1) := by show _ = _; rw [← hW0]; simp
  go_enter Tryz.func9, Tryz.ntmps9
  go_upto_region 1 with fail
  try rw [hW0]
  clear hW0
  go_wp2_with fail
  refine (stand_any a cap U W0 (HR.out.1.below stays_gn HB0.out) hl).mono ?_
  rintro e z1 ⟨⟨M, rfl, hM, n1, g1, hn1, hS1⟩, hb1⟩
  have HS1 : Hid (Stood GN z1 M n1 g1 (standF U) ∧ n1 ≤ U.length) := ⟨hS1, hn1⟩
  have HM : Hid (w.heap.size + 1 ≤ M) := by have h := HZ0.out; show _ ≤ _; omega
  have HB1 : Hid (Below w.heap.size w z1) := grow_on HB0.out hb1
  have BR1 : Hid (Blk z1 w.heap.size #[.int .i64 0, .slice none 0 0, .int .i64 0, .slice none 0 0] 37) := BR0.out.grow hb1
  clear hM hn1 hS1 hb1 BR0 HB0 HZ0
  go_wp2_with fail
  refine (GpIt.implAt_any a cap U n _ ((HR.out.1.below stays_gn HB1.out).rd) hl).mono ?_
  rintro e z ⟨rfl, hb2⟩
  have HSz : Hid (Stood GN z M n1 g1 (standF U) ∧ n1 ≤ U.length) := ⟨HS1.out.1.grow stays_gn hb2, HS1.out.2⟩
  have HB : Hid (Below w.heap.size w z) := grow_on HB1.out hb2
  have BR : Hid (Blk z w.heap.size #[.int .i64 0, .slice none 0 0, .int .i64 0, .slice none 0 0] 37) := BR1.out.grow hb2
  have hnlen : n1 ≤ U.length := HS1.out.2
  clear hb2 HS1 HB1 BR1
  rcases ofI_cases (numIs n) U with ⟨he, _⟩ | ⟨k, he, hkl, _, _⟩
  ·
    have HE : Hid (ofI (numIs n) U = -1) := he
    have HLD : Hid (Calls Tryz.prog 33 #[.map (some M)] z fun e w' => (∃ M', e = .returned (.slice (some ⟨M', 0, none⟩) U.length U.length) ∧ ∃ us, GsB z.heap.size w' M' U.length us ∧ grs us = U) ∧ Below z.heap.size z w') := laidV_any M n1 g1 U z (HSz.out.1.gk) (by omega) HR.out.2 (by omega)
    rw [he]
    clear he
    go_wp2_with fail
    refine HLD.out.mono ?_
    rintro e w5 ⟨⟨M', rfl, us, hgs, hgr⟩, hb⟩
    have HF : Hid (GsB z.heap.size w5 M' U.length us ∧ grs us = U ∧ us.length = U.length) := ⟨hgs, hgr, by rw [← hgr, grs_len]⟩
    have HB5 : Hid (Below w.heap.size w w5) := grow_on HB.out hb
    have BR5 : Hid (Blk w5 w.heap.size #[.int .i64 0, .slice none 0 0, .int .i64 0, .slice none 0 0] 37) := BR.out.grow hb
    have HLZ : Hid (w.heap.size < z.heap.size) := BR.out.lt
    clear hgs hgr hb HB BR HLD HSz
    have r0 := BR5.out.cell 0
    have fr0 := BR5.out.frozen 0
    have r1 := BR5.out.cell 1
    have fr1 := BR5.out.frozen 1
    have r2 := BR5.out.cell 2
    have fr2 := BR5.out.frozen 2
    have r3 := BR5.out.cell 3
    have fr3 := BR5.out.frozen 3
    simp at r0 r1 r2 r3
    go_wp2
    have hR : Blk _ w.heap.size #[.int .i64 0, .slice none 0 0, .int .i64 0, .slice none 0 0] 37 := ((((BR5.out.set 0 (.int .i64 0)).set 1 (.slice none 0 0)).set 2 (.int .i64 0)).set 3 (.slice none 0 0))
    have s0 := hR.cell 0
    have s1 := hR.cell 1
    have s2 := hR.cell 2
    have s3 := hR.cell 3
    have hne : w.heap.size ≠ M' := by have := HF.out.1.at'; have := HLZ.out; omega
    refine bodyPost_ret (v := .tuple #[.slice (some ⟨M', 0, none⟩) U.length U.length, .agg #[.int .i64 0, .slice none 0 0, .int .i64 0, .slice none 0 0], .bool false]) (by simp [results, Tryz.results9, go_sem, s0, s1, s2, s3]) rfl ?_
    exact ⟨.inl ⟨HE.out, M', U.length, us, by rw [HF.out.2.2], ((GsB.far (GsB.far (GsB.far (GsB.far HF.out.1 BR5.out (by decide) (by decide) hne 0 (.int .i64 0)) (BR5.out.set 0 (.int .i64 0)) (by decide) (by decide) hne 1 (.slice none 0 0)) ((BR5.out.set 0 (.int .i64 0)).set 1 (.slice none 0 0)) (by decide) (by decide) hne 2 (.int .i64 0)) (((BR5.out.set 0 (.int .i64 0)).set 1 (.slice none 0 0)).set 2 (.int .i64 0)) (by decide) (by decide) hne 3 (.slice none 0 0))).down (by have := HLZ.out; omega), HF.out.2.1⟩, (set_low (set_low (set_low (set_low HB5.out (M := w.heap.size) (Nat.le_refl _) 0 (.int .i64 0)) (M := w.heap.size) (Nat.le_refl _) 1 (.slice none 0 0)) (M := w.heap.size) (Nat.le_refl _) 2 (.int .i64 0)) (M := w.heap.size) (Nat.le_refl _) 3 (.slice none 0 0))⟩
  ·
    have HE : Hid (ofI (numIs n) U = (k : Int) ∧ k < U.length) := ⟨he, hkl⟩
    have hk0 : ¬ (k : Int) < 0 := by omega
    rw [he]
    clear he
    obtain ⟨v, hgv, ka, kc, ad, cp, rfl, ⟨gk, ok, rfl⟩, ⟨ga, oa, rfl⟩, hcp, hrk, hra⟩ := HSz.out.1.ent (k : Int) (nthG U k) (by rw [standF_nat, nthG_eq hkl]; exact List.getElem?_eq_getElem hkl)
    have HGV : Hid (g1 (k : Int) = some (.agg #[.int .i64 (nthG U k).n, .slice (some ⟨gk, ok, none⟩) (nthG U k).key.length kc, .int .i64 (nthG U k).b, .int .i64 (nthG U k).t, .slice (some ⟨ga, oa, none⟩) (nthG U k).P.length cp])) := hgv
    have HSM : Hid (SmG (nthG U k)) := HR.out.2 _ (nthG_mem hkl)
    have HRD : Hid (Reads z (some ⟨gk, ok, none⟩) (nthG U k).key ∧ RdN z (some ⟨ga, oa, none⟩) (nthG U k).P) := ⟨hrk, hra⟩
    clear hgv hcp hrk hra
    go_wp2_with (at_lookup; refine wp_lookup _ rfl _ _ 61 false rfl 3 53 IntK (asked_int Tryz.underlying3) Tryz.underlying61 (zeroG _) M _ rfl HSz.out.1.map (k : Int) rfl (.agg #[.int .i64 (nthG U k).n, .slice (some ⟨gk, ok, none⟩) (nthG U k).key.length kc, .int .i64 (nthG U k).b, .int .i64 (nthG U k).t, .slice (some ⟨ga, oa, none⟩) (nthG U k).P.length cp]) (by rw [HGV.out]; rfl) ?_)
    refine (GrpI.implFlush_any (nthG U k).n (nthG U k).b (nthG U k).t gk ok kc (nthG U k).key (some ⟨ga, oa, none⟩) cp (nthG U k).P now _ HRD.out.1 HSM.out.1 HRD.out.2 HSM.out.2.1 HSM.out.2.2).mono ?_
    rintro e w4 ⟨⟨Ke, kd, M1, o1, c1, rs1, K2, kd2, M2, o2, c2, rs2, rfl, hG1, hP1, hG2, hP2, hne12⟩, hb4⟩
    have HF1 : Hid (GB z.heap.size w4 Ke (nthG U k).key M1 o1 rs1 ∧ pals rs1 = leftTo (nthG U k).P now (nthG U k).P.length) := ⟨hG1, hP1⟩
    have HF2 : Hid (GB z.heap.size w4 K2 (nthG U k).key M2 o2 rs2 ∧ pals rs2 = (nthG U k).P) := ⟨hG2, hP2⟩
    have HS4 : Hid (Stood GK w4 M n1 g1 (standF U)) := (HSz.out.1.gk).grow stays_gk hb4
    have HB4 : Hid (Below w.heap.size w w4) := grow_on HB.out hb4
    have BR4 : Hid (Blk w4 w.heap.size #[.int .i64 0, .slice none 0 0, .int .i64 0, .slice none 0 0] 37) := BR.out.grow hb4
    have HLZ : Hid (w.heap.size < z.heap.size ∧ z.heap.size ≤ w4.heap.size) := ⟨BR.out.lt, hb4.size⟩
    clear hG1 hP1 hG2 hP2 hne12 hb4 HB BR HRD HGV HSz
    go_upto_region 5 with fail
    generalize hW5 : (w4.alloc (.cells #[.int .i64 (nthG U k).n, .slice (some ⟨Ke, 0, none⟩) (nthG U k).key.length kd, .int .i64 (nthG U k).b, .int .i64 now, .slice (some ⟨M1, o1, none⟩) rs1.length c1] 53)).alloc (.cells #[.int .i64 (nthG U k).n, .slice (some ⟨K2, 0, none⟩) (nthG U k).key.length kd2, .int .i64 now, .slice (some ⟨M2, o2, none⟩) rs2.length c2] 37) = W5 at *
    have hb5 : Below w4.heap.size w4 W5 := by rw [← hW5]; exact Go.Joins.below_alloc2 w4 _ _
    have BX5 : Hid (Blk W5 w4.heap.size #[.int .i64 (nthG U k).n, .slice (some ⟨Ke, 0, none⟩) (nthG U k).key.length kd, .int .i64 (nthG U k).b, .int .i64 now, .slice (some ⟨M1, o1, none⟩) rs1.length c1] 53) := by rw [← hW5]; exact (Blk.new _ _ _).alloc _
    have BB5 : Hid (Blk W5 (w4.heap.size + 1) #[.int .i64 (nthG U k).n, .slice (some ⟨K2, 0, none⟩) (nthG U k).key.length kd2, .int .i64 now, .slice (some ⟨M2, o2, none⟩) rs2.length c2] 37) := by rw [← hW5]; exact Blk.new_at (by simp)
    have HS5 : Hid (Stood GK W5 M n1 g1 (standF U)) := HS4.out.grow stays_gk hb5
    have HB5 : Hid (Below w.heap.size w W5) := grow_on HB4.out hb5
    have BR5 : Hid (Blk W5 w.heap.size #[.int .i64 0, .slice none 0 0, .int .i64 0, .slice none 0 0] 37) := BR4.out.grow hb5
    have HG1 : Hid (GB z.heap.size W5 Ke (nthG U k).key M1 o1 rs1) := HF1.out.1.grow hb5
    have HG2 : Hid (GB z.heap.size W5 K2 (nthG U k).key M2 o2 rs2) := HF2.out.1.grow hb5
    clear hb5 hW5 HS4 HB4 BR4
    have x0 := BX5.out.cell 0
    have fx0 := BX5.out.frozen 0
    have x1 := BX5.out.cell 1
    have fx1 := BX5.out.frozen 1
    have x2 := BX5.out.cell 2
    have fx2 := BX5.out.frozen 2
    have x3 := BX5.out.cell 3
    have fx3 := BX5.out.frozen 3
    have x4 := BX5.out.cell 4
    have fx4 := BX5.out.frozen 4
    simp at x0 x1 x2 x3 x4
    go_wp2_with (at_mapUpdate; refine wp_updateN _ rfl _ _ _ 61 rfl 3 53 IntK (asked_int Tryz.underlying3) Tryz.underlying61 M n1 _ rfl HS5.out.map HS5.out.num (k : Int) (.agg #[.int .i64 (nthG U k).n, .slice (some ⟨Ke, 0, none⟩) (nthG U k).key.length kd, .int .i64 (nthG U k).b, .int .i64 now, .slice (some ⟨M1, o1, none⟩) rs1.length c1]) rfl rfl ?_)
    intro w6 n6 hm6 hn6 hle6 hg6 hs6
    have HS6 : Hid (Stood GK w6 M n6 (updG g1 (k : Int) (some (.agg #[.int .i64 (nthG U k).n, .slice (some ⟨Ke, 0, none⟩) (nthG U k).key.length kd, .int .i64 (nthG U k).b, .int .i64 now, .slice (some ⟨M1, o1, none⟩) rs1.length c1]))) (standF (U.set k (sentG now (nthG U k))))) := by
      rw [← standF_set hkl]
      exact HS5.out.put up_gk hm6 hn6 hg6 ⟨some ⟨Ke, 0, none⟩, kd, some ⟨M1, o1, none⟩, c1, by simp only [sentG]; rw [← HF1.out.2, pals_len], ⟨Ke, 0, rfl⟩, HG1.out.key.rd, by simp only [sentG]; rw [← HF1.out.2]; exact HG1.out.row.rd.rd⟩
    have hmv := moved_map HS5.out.map hg6
    have HB6 : Hid (Below w.heap.size w w6) := HB5.out.grown hg6 HB5.out.size (fun j e => by have e : M = j := Option.some.inj e; have := HM.out; omega)
    have BX6 : Hid (Blk w6 w4.heap.size #[.int .i64 (nthG U k).n, .slice (some ⟨Ke, 0, none⟩) (nthG U k).key.length kd, .int .i64 (nthG U k).b, .int .i64 now, .slice (some ⟨M1, o1, none⟩) rs1.length c1] 53) := blk_map BX5.out HS5.out.map hg6
    have BB6 : Hid (Blk w6 (w4.heap.size + 1) #[.int .i64 (nthG U k).n, .slice (some ⟨K2, 0, none⟩) (nthG U k).key.length kd2, .int .i64 now, .slice (some ⟨M2, o2, none⟩) rs2.length c2] 37) := blk_map BB5.out HS5.out.map hg6
    have BR6 : Hid (Blk w6 w.heap.size #[.int .i64 0, .slice none 0 0, .int .i64 0, .slice none 0 0] 37) := blk_map BR5.out HS5.out.map hg6
    have HG6 : Hid (GB z.heap.size w6 K2 (nthG U k).key M2 o2 rs2) := gb_moved HG2.out hmv
    have HL1 : Hid (rs1.length = (leftTo (nthG U k).P now (nthG U k).P.length).length) := by unfold Hid; rw [← HF1.out.2, pals_len]
    clear hm6 hn6 hg6 hs6 hmv x0 fx0 x1 fx1 x2 fx2 x3 fx3 x4 fx4 HS5 HB5 BX5 BB5 BR5 HG1 HG2
    have x4 := BX6.out.cell 4
    simp at x4
    have hn6b : n6 ≤ 2000000 := by omega
    have HSMS : Hid (SmallG (U.set k (sentG now (nthG U k)))) := GpIj.small_set HR.out.2 ⟨HSM.out.1, Nat.le_trans (GrpF.left_le (Nat.le_refl _)) HSM.out.2.1, lenM_left HSM.out.2.2⟩
    by_cases h0 : rs1.length = 0
    ·
      have HFL : Hid (flushG U k now = U.take k ++ U.drop (k + 1)) := flush_none (by rw [← HL1.out]; exact h0)
      rw [h0]  at x4
      have h00 : ((rs1.length : Int) == 0) = true := by rw [h0]; rfl
      go_wp2_with (at_delete; refine wp_deleteN _ rfl _ _ 61 3 rfl 53 IntK (asked_int Tryz.underlying3) Tryz.underlying61 M n6 _ rfl HS6.out.map HS6.out.num (k : Int) rfl ?_)
      intro w7 n7 hm7 hn7 hle7 hg7 hs7
      have h6 := HS6.out
      rw [h0] at h6
      have HS7 : Hid (Stood GK w7 M n7 (updG (updG g1 (k : Int) (some (.agg #[.int .i64 (nthG U k).n, .slice (some ⟨Ke, 0, none⟩) (nthG U k).key.length kd, .int .i64 (nthG U k).b, .int .i64 now, .slice (some ⟨M1, o1, none⟩) 0 c1]))) (k : Int) none) (updF (standF U) (k : Int) none)) := by
        have h := h6.drop up_gk hm7 hn7 hg7
        rw [← standF_set hkl, updF_twice] at h
        exact h
      have hmv := moved_map HS6.out.map hg7
      have HBz : Hid (Below w.heap.size w w7) := HB6.out.grown hg7 HB6.out.size (fun j e => by have e : M = j := Option.some.inj e; have := HM.out; omega)
      have BB : Hid (Blk w7 (w4.heap.size + 1) #[.int .i64 (nthG U k).n, .slice (some ⟨K2, 0, none⟩) (nthG U k).key.length kd2, .int .i64 now, .slice (some ⟨M2, o2, none⟩) rs2.length c2] 37) := blk_map BB6.out HS6.out.map hg7
      have BR : Hid (Blk w7 w.heap.size #[.int .i64 0, .slice none 0 0, .int .i64 0, .slice none 0 0] 37) := blk_map BR6.out HS6.out.map hg7
      have HGz : Hid (GB z.heap.size w7 K2 (nthG U k).key M2 o2 rs2) := gb_moved HG6.out hmv
      have HLD : Hid (Calls Tryz.prog 33 #[.map (some M)] w7.drew fun e w' => (∃ M', e = .returned (.slice (some ⟨M', 0, none⟩) (U.take k ++ U.drop (k + 1)).length (U.take k ++ U.drop (k + 1)).length) ∧ ∃ us, GsB w7.heap.size w' M' (U.take k ++ U.drop (k + 1)).length us ∧ grs us = U.take k ++ U.drop (k + 1)) ∧ Below w7.heap.size w7.drew w') := laidD_any M n7 k _ U w7.drew hkl (HS7.out.grow stays_gk (Below.refl _ _).drew) (by omega) HR.out.2 (by omega)
      clear h6 hm7 hn7 hg7 hs7 hmv x4 HB6 BX6 BB6 BR6 HG6 HS6 HS7
      go_upto_region 8 with fail
      have HS : Hid (∀ w', Blk w' (w4.heap.size + 1) #[.int .i64 (nthG U k).n, .slice (some ⟨K2, 0, none⟩) (nthG U k).key.length kd2, .int .i64 now, .slice (some ⟨M2, o2, none⟩) rs2.length c2] 37 → w'.cell? ⟨w4.heap.size + 1, 0, none⟩ = some (.int .i64 (nthG U k).n) ∧ w'.cell? ⟨w4.heap.size + 1, 1, none⟩ = some (.slice (some ⟨K2, 0, none⟩) (nthG U k).key.length kd2) ∧ w'.cell? ⟨w4.heap.size + 1, 2, none⟩ = some (.int .i64 now) ∧ w'.cell? ⟨w4.heap.size + 1, 3, none⟩ = some (.slice (some ⟨M2, o2, none⟩) rs2.length c2)) := fun w' h => ⟨h.cell 0, h.cell 1, h.cell 2, h.cell 3⟩
      refine wp_region_held_drew (S := fun w' => w'.cell? ⟨w4.heap.size + 1, 0, none⟩ = some (.int .i64 (nthG U k).n) ∧ w'.cell? ⟨w4.heap.size + 1, 1, none⟩ = some (.slice (some ⟨K2, 0, none⟩) (nthG U k).key.length kd2) ∧ w'.cell? ⟨w4.heap.size + 1, 2, none⟩ = some (.int .i64 now) ∧ w'.cell? ⟨w4.heap.size + 1, 3, none⟩ = some (.slice (some ⟨M2, o2, none⟩) rs2.length c2)) (by kernel_rfl) (HS.out _ (BB.out.grow (Below.refl w7.heap.size w7).drew)) (fun hHeld => ?_)
      refine tk 0 ⟨some 40, .move (.tmp 9), 61, "l12_groups.go:89", #[], none⟩ hHeld ?_
      try go_frame
      refine tk 2 ⟨some 42, .load 37 (.tmp 12), 37, "l12_groups.go:89", #[⟨3, .gcOnly .lateStores⟩], none⟩ hHeld ?_
      try go_frame
      refine rd1 1 ⟨some 41, .call { callee := .value (.func 33), args := #[.tmp 40], argTypes := #[61] }, 24, "l12_groups.go:89", #[⟨0, .data⟩], none⟩ (fun K hK => ?_)
      go_simp
      refine (HLD.out).mono ?_
      rintro r wyfa1 ⟨⟨M', rfl, us, hgs, hgr⟩, hb9⟩
      have Z9 : Hid (Below w7.heap.size w7 wyfa1) := grow_on (Below.refl w7.heap.size w7).drew hb9
      have HF : Hid (GsB w7.heap.size wyfa1 M' (U.take k ++ U.drop (k + 1)).length us ∧ grs us = U.take k ++ U.drop (k + 1) ∧ us.length = (U.take k ++ U.drop (k + 1)).length) := ⟨hgs, hgr, by rw [← hgr, grs_len]⟩
      have BR9 : Hid (Blk wyfa1 w.heap.size #[.int .i64 0, .slice none 0 0, .int .i64 0, .slice none 0 0] 37) := BR.out.grow Z9.out
      have BB9 : Hid (Blk wyfa1 (w4.heap.size + 1) #[.int .i64 (nthG U k).n, .slice (some ⟨K2, 0, none⟩) (nthG U k).key.length kd2, .int .i64 now, .slice (some ⟨M2, o2, none⟩) rs2.length c2] 37) := BB.out.grow Z9.out
      have HG9 : Hid (GB z.heap.size wyfa1 K2 (nthG U k).key M2 o2 rs2) := HGz.out.grow Z9.out
      have HB9 : Hid (Below w.heap.size w wyfa1) := grow_on HBz.out Z9.out
      have HLW : Hid (w4.heap.size + 1 < w7.heap.size) := BB.out.lt
      have HRN : Hid (∀ q, gblks K2 M2 rs2 q → q < w7.heap.size) := fun q hq => (HGz.out.rng q hq).2
      clear hgs hgr hb9 HLD
      clear hHeld
      refine hK.out _ _ (HS.out _ BB9.out) (fun hHeld => ?_)
      clear hK K
      try go_frame
      refine tk 3 ⟨some 6, .assign (.tmp 41), 24, "l12_groups.go:89", #[⟨1, .data⟩, ⟨1, .chain⟩, ⟨0, .phase⟩, ⟨1, .phase⟩, ⟨2, .textOnly .lateStores⟩], none⟩ hHeld ?_
      try go_frame
      refine rd1 4 ⟨none, .store 37 (.tmp 7) (.tmp 42), 0, "l12_groups.go:89", #[⟨2, .data⟩, ⟨3, .chain⟩, ⟨0, .phase⟩, ⟨1, .phase⟩, ⟨2, .phase⟩, ⟨3, .phase⟩], none⟩ (fun K hK => ?_)
      have r0 := BR9.out.cell 0
      have fr0 := BR9.out.frozen 0
      have r1 := BR9.out.cell 1
      have fr1 := BR9.out.frozen 1
      have r2 := BR9.out.cell 2
      have fr2 := BR9.out.frozen 2
      have r3 := BR9.out.cell 3
      have fr3 := BR9.out.frozen 3
      simp at r0 r1 r2 r3
      go_simp
      clear hHeld
      refine hK.out _ _ (HS.out _ ((((BB9.out.set_other (p := ⟨w.heap.size, 0, none⟩) (by have := HLZ.out; show w.heap.size ≠ w4.heap.size + 1; omega) (.int .i64 (nthG U k).n)).set_other (p := ⟨w.heap.size, 1, none⟩) (by have := HLZ.out; show w.heap.size ≠ w4.heap.size + 1; omega) (.slice (some ⟨K2, 0, none⟩) (nthG U k).key.length kd2)).set_other (p := ⟨w.heap.size, 2, none⟩) (by have := HLZ.out; show w.heap.size ≠ w4.heap.size + 1; omega) (.int .i64 now)).set_other (p := ⟨w.heap.size, 3, none⟩) (by have := HLZ.out; show w.heap.size ≠ w4.heap.size + 1; omega) (.slice (some ⟨M2, o2, none⟩) rs2.length c2))) (fun hHeld => ?_)
      clear hK K
      try go_frame
      refine tk 5 ⟨some 8, .assign (.const (.bool true)), 4, "l12_groups.go:89", #[⟨4, .chain⟩, ⟨0, .phase⟩, ⟨1, .phase⟩, ⟨2, .phase⟩, ⟨3, .phase⟩, ⟨4, .phase⟩], none⟩ hHeld ?_
      try go_frame
      clear r0 fr0 r1 fr1 r2 fr2 r3 fr3
      refine wpAnyH_done (by kernel_rfl) ?_ _
      clear hHeld HS
      go_wp2_with fail
      have hR : Blk _ w.heap.size #[.int .i64 (nthG U k).n, .slice (some ⟨K2, 0, none⟩) (nthG U k).key.length kd2, .int .i64 now, .slice (some ⟨M2, o2, none⟩) rs2.length c2] 37 := ((((BR9.out.set 0 (.int .i64 (nthG U k).n)).set 1 (.slice (some ⟨K2, 0, none⟩) (nthG U k).key.length kd2)).set 2 (.int .i64 now)).set 3 (.slice (some ⟨M2, o2, none⟩) rs2.length c2))
      have s0 := hR.cell 0
      have s1 := hR.cell 1
      have s2 := hR.cell 2
      have s3 := hR.cell 3
      have hne : w.heap.size ≠ M' := by have := HF.out.1.at'; have := HLZ.out; have := HLW.out; omega
      refine bodyPost_ret (v := .tuple #[.slice (some ⟨M', 0, none⟩) (U.take k ++ U.drop (k + 1)).length (U.take k ++ U.drop (k + 1)).length, .agg #[.int .i64 (nthG U k).n, .slice (some ⟨K2, 0, none⟩) (nthG U k).key.length kd2, .int .i64 now, .slice (some ⟨M2, o2, none⟩) rs2.length c2], .bool true]) (by simp [results, Tryz.results9, go_sem, s0, s1, s2, s3]) rfl ?_
      have hgs := (GsB.far (GsB.far (GsB.far (GsB.far HF.out.1 BR9.out (by decide) (by decide) hne 0 (.int .i64 (nthG U k).n)) (BR9.out.set 0 (.int .i64 (nthG U k).n)) (by decide) (by decide) hne 1 (.slice (some ⟨K2, 0, none⟩) (nthG U k).key.length kd2)) ((BR9.out.set 0 (.int .i64 (nthG U k).n)).set 1 (.slice (some ⟨K2, 0, none⟩) (nthG U k).key.length kd2)) (by decide) (by decide) hne 2 (.int .i64 now)) (((BR9.out.set 0 (.int .i64 (nthG U k).n)).set 1 (.slice (some ⟨K2, 0, none⟩) (nthG U k).key.length kd2)).set 2 (.int .i64 now)) (by decide) (by decide) hne 3 (.slice (some ⟨M2, o2, none⟩) rs2.length c2))
      refine ⟨.inr ⟨k, HE.out.1, HE.out.2, M', (U.take k ++ U.drop (k + 1)).length, us, K2, kd2, M2, o2, c2, rs2, by rw [HF.out.2.2], hgs.down (by have := HLZ.out; have := HLW.out; omega), ?_, ((gb_moved (gb_moved (gb_moved (gb_moved HG9.out (Moved.set BR9.out (by decide) (by decide) 0 (.int .i64 (nthG U k).n))) (Moved.set (BR9.out.set 0 (.int .i64 (nthG U k).n)) (by decide) (by decide) 1 (.slice (some ⟨K2, 0, none⟩) (nthG U k).key.length kd2))) (Moved.set ((BR9.out.set 0 (.int .i64 (nthG U k).n)).set 1 (.slice (some ⟨K2, 0, none⟩) (nthG U k).key.length kd2)) (by decide) (by decide) 2 (.int .i64 now))) (Moved.set (((BR9.out.set 0 (.int .i64 (nthG U k).n)).set 1 (.slice (some ⟨K2, 0, none⟩) (nthG U k).key.length kd2)).set 2 (.int .i64 now)) (by decide) (by decide) 3 (.slice (some ⟨M2, o2, none⟩) rs2.length c2)))).down (by have := HLZ.out; omega), HF2.out.2, fun q h1 h2 => ?_⟩, (set_low (set_low (set_low (set_low HB9.out (M := w.heap.size) (Nat.le_refl _) 0 (.int .i64 (nthG U k).n)) (M := w.heap.size) (Nat.le_refl _) 1 (.slice (some ⟨K2, 0, none⟩) (nthG U k).key.length kd2)) (M := w.heap.size) (Nat.le_refl _) 2 (.int .i64 now)) (M := w.heap.size) (Nat.le_refl _) 3 (.slice (some ⟨M2, o2, none⟩) rs2.length c2))⟩
      · rw [HF.out.2.1]; exact HFL.out.symm
      · have h3 := blksG_low HF.out.1 q h1
        have h4 := HRN.out q h2
        omega
    ·
      have HFL : Hid (flushG U k now = U.set k (sentG now (nthG U k))) := flush_some (by rw [← HL1.out]; exact h0)
      have h00 : ((rs1.length : Int) == 0) = false := by simpa using h0
      have h01 : ¬ (rs1.length : Int) = 0 := by omega
      have HBz : Hid (Below w.heap.size w w6) := HB6.out
      have BB : Hid (Blk w6 (w4.heap.size + 1) #[.int .i64 (nthG U k).n, .slice (some ⟨K2, 0, none⟩) (nthG U k).key.length kd2, .int .i64 now, .slice (some ⟨M2, o2, none⟩) rs2.length c2] 37) := BB6.out
      have BR : Hid (Blk w6 w.heap.size #[.int .i64 0, .slice none 0 0, .int .i64 0, .slice none 0 0] 37) := BR6.out
      have HGz : Hid (GB z.heap.size w6 K2 (nthG U k).key M2 o2 rs2) := HG6.out
      have HLD : Hid (Calls Tryz.prog 33 #[.map (some M)] w6.drew fun e w' => (∃ M', e = .returned (.slice (some ⟨M', 0, none⟩) (U.set k (sentG now (nthG U k))).length (U.set k (sentG now (nthG U k))).length) ∧ ∃ us, GsB w6.heap.size w' M' (U.set k (sentG now (nthG U k))).length us ∧ grs us = U.set k (sentG now (nthG U k))) ∧ Below w6.heap.size w6.drew w') := laidV_any M n6 _ (U.set k (sentG now (nthG U k))) w6.drew (HS6.out.grow stays_gk (Below.refl _ _).drew) hn6b HSMS.out (by simp; omega)
      clear HB6 BX6 BB6 BR6 HG6 HS6
      go_upto_region 8 with fail
      have HS : Hid (∀ w', Blk w' (w4.heap.size + 1) #[.int .i64 (nthG U k).n, .slice (some ⟨K2, 0, none⟩) (nthG U k).key.length kd2, .int .i64 now, .slice (some ⟨M2, o2, none⟩) rs2.length c2] 37 → w'.cell? ⟨w4.heap.size + 1, 0, none⟩ = some (.int .i64 (nthG U k).n) ∧ w'.cell? ⟨w4.heap.size + 1, 1, none⟩ = some (.slice (some ⟨K2, 0, none⟩) (nthG U k).key.length kd2) ∧ w'.cell? ⟨w4.heap.size + 1, 2, none⟩ = some (.int .i64 now) ∧ w'.cell? ⟨w4.heap.size + 1, 3, none⟩ = some (.slice (some ⟨M2, o2, none⟩) rs2.length c2)) := fun w' h => ⟨h.cell 0, h.cell 1, h.cell 2, h.cell 3⟩
      refine wp_region_held_drew (S := fun w' => w'.cell? ⟨w4.heap.size + 1, 0, none⟩ = some (.int .i64 (nthG U k).n) ∧ w'.cell? ⟨w4.heap.size + 1, 1, none⟩ = some (.slice (some ⟨K2, 0, none⟩) (nthG U k).key.length kd2) ∧ w'.cell? ⟨w4.heap.size + 1, 2, none⟩ = some (.int .i64 now) ∧ w'.cell? ⟨w4.heap.size + 1, 3, none⟩ = some (.slice (some ⟨M2, o2, none⟩) rs2.length c2)) (by kernel_rfl) (HS.out _ (BB.out.grow (Below.refl w6.heap.size w6).drew)) (fun hHeld => ?_)
      refine tk 0 ⟨some 40, .move (.tmp 9), 61, "l12_groups.go:89", #[], none⟩ hHeld ?_
      try go_frame
      refine tk 2 ⟨some 42, .load 37 (.tmp 12), 37, "l12_groups.go:89", #[⟨3, .gcOnly .lateStores⟩], none⟩ hHeld ?_
      try go_frame
      refine rd1 1 ⟨some 41, .call { callee := .value (.func 33), args := #[.tmp 40], argTypes := #[61] }, 24, "l12_groups.go:89", #[⟨0, .data⟩], none⟩ (fun K hK => ?_)
      go_simp
      refine (HLD.out).mono ?_
      rintro r wyfb1 ⟨⟨M', rfl, us, hgs, hgr⟩, hb9⟩
      have Z9 : Hid (Below w6.heap.size w6 wyfb1) := grow_on (Below.refl w6.heap.size w6).drew hb9
      have HF : Hid (GsB w6.heap.size wyfb1 M' (U.set k (sentG now (nthG U k))).length us ∧ grs us = U.set k (sentG now (nthG U k)) ∧ us.length = (U.set k (sentG now (nthG U k))).length) := ⟨hgs, hgr, by rw [← hgr, grs_len]⟩
      have BR9 : Hid (Blk wyfb1 w.heap.size #[.int .i64 0, .slice none 0 0, .int .i64 0, .slice none 0 0] 37) := BR.out.grow Z9.out
      have BB9 : Hid (Blk wyfb1 (w4.heap.size + 1) #[.int .i64 (nthG U k).n, .slice (some ⟨K2, 0, none⟩) (nthG U k).key.length kd2, .int .i64 now, .slice (some ⟨M2, o2, none⟩) rs2.length c2] 37) := BB.out.grow Z9.out
      have HG9 : Hid (GB z.heap.size wyfb1 K2 (nthG U k).key M2 o2 rs2) := HGz.out.grow Z9.out
      have HB9 : Hid (Below w.heap.size w wyfb1) := grow_on HBz.out Z9.out
      have HLW : Hid (w4.heap.size + 1 < w6.heap.size) := BB.out.lt
      have HRN : Hid (∀ q, gblks K2 M2 rs2 q → q < w6.heap.size) := fun q hq => (HGz.out.rng q hq).2
      clear hgs hgr hb9 HLD
      clear hHeld
      refine hK.out _ _ (HS.out _ BB9.out) (fun hHeld => ?_)
      clear hK K
      try go_frame
      refine tk 3 ⟨some 6, .assign (.tmp 41), 24, "l12_groups.go:89", #[⟨1, .data⟩, ⟨1, .chain⟩, ⟨0, .phase⟩, ⟨1, .phase⟩, ⟨2, .textOnly .lateStores⟩], none⟩ hHeld ?_
      try go_frame
      refine rd1 4 ⟨none, .store 37 (.tmp 7) (.tmp 42), 0, "l12_groups.go:89", #[⟨2, .data⟩, ⟨3, .chain⟩, ⟨0, .phase⟩, ⟨1, .phase⟩, ⟨2, .phase⟩, ⟨3, .phase⟩], none⟩ (fun K hK => ?_)
      have r0 := BR9.out.cell 0
      have fr0 := BR9.out.frozen 0
      have r1 := BR9.out.cell 1
      have fr1 := BR9.out.frozen 1
      have r2 := BR9.out.cell 2
      have fr2 := BR9.out.frozen 2
      have r3 := BR9.out.cell 3
      have fr3 := BR9.out.frozen 3
      simp at r0 r1 r2 r3
      go_simp
      clear hHeld
      refine hK.out _ _ (HS.out _ ((((BB9.out.set_other (p := ⟨w.heap.size, 0, none⟩) (by have := HLZ.out; show w.heap.size ≠ w4.heap.size + 1; omega) (.int .i64 (nthG U k).n)).set_other (p := ⟨w.heap.size, 1, none⟩) (by have := HLZ.out; show w.heap.size ≠ w4.heap.size + 1; omega) (.slice (some ⟨K2, 0, none⟩) (nthG U k).key.length kd2)).set_other (p := ⟨w.heap.size, 2, none⟩) (by have := HLZ.out; show w.heap.size ≠ w4.heap.size + 1; omega) (.int .i64 now)).set_other (p := ⟨w.heap.size, 3, none⟩) (by have := HLZ.out; show w.heap.size ≠ w4.heap.size + 1; omega) (.slice (some ⟨M2, o2, none⟩) rs2.length c2))) (fun hHeld => ?_)
      clear hK K
      try go_frame
      refine tk 5 ⟨some 8, .assign (.const (.bool true)), 4, "l12_groups.go:89", #[⟨4, .chain⟩, ⟨0, .phase⟩, ⟨1, .phase⟩, ⟨2, .phase⟩, ⟨3, .phase⟩, ⟨4, .phase⟩], none⟩ hHeld ?_
      try go_frame
      clear r0 fr0 r1 fr1 r2 fr2 r3 fr3
      refine wpAnyH_done (by kernel_rfl) ?_ _
      clear hHeld HS
      go_wp2_with fail
      have hR : Blk _ w.heap.size #[.int .i64 (nthG U k).n, .slice (some ⟨K2, 0, none⟩) (nthG U k).key.length kd2, .int .i64 now, .slice (some ⟨M2, o2, none⟩) rs2.length c2] 37 := ((((BR9.out.set 0 (.int .i64 (nthG U k).n)).set 1 (.slice (some ⟨K2, 0, none⟩) (nthG U k).key.length kd2)).set 2 (.int .i64 now)).set 3 (.slice (some ⟨M2, o2, none⟩) rs2.length c2))
      have s0 := hR.cell 0
      have s1 := hR.cell 1
      have s2 := hR.cell 2
      have s3 := hR.cell 3
      have hne : w.heap.size ≠ M' := by have := HF.out.1.at'; have := HLZ.out; have := HLW.out; omega
      refine bodyPost_ret (v := .tuple #[.slice (some ⟨M', 0, none⟩) (U.set k (sentG now (nthG U k))).length (U.set k (sentG now (nthG U k))).length, .agg #[.int .i64 (nthG U k).n, .slice (some ⟨K2, 0, none⟩) (nthG U k).key.length kd2, .int .i64 now, .slice (some ⟨M2, o2, none⟩) rs2.length c2], .bool true]) (by simp [results, Tryz.results9, go_sem, s0, s1, s2, s3]) rfl ?_
      have hgs := (GsB.far (GsB.far (GsB.far (GsB.far HF.out.1 BR9.out (by decide) (by decide) hne 0 (.int .i64 (nthG U k).n)) (BR9.out.set 0 (.int .i64 (nthG U k).n)) (by decide) (by decide) hne 1 (.slice (some ⟨K2, 0, none⟩) (nthG U k).key.length kd2)) ((BR9.out.set 0 (.int .i64 (nthG U k).n)).set 1 (.slice (some ⟨K2, 0, none⟩) (nthG U k).key.length kd2)) (by decide) (by decide) hne 2 (.int .i64 now)) (((BR9.out.set 0 (.int .i64 (nthG U k).n)).set 1 (.slice (some ⟨K2, 0, none⟩) (nthG U k).key.length kd2)).set 2 (.int .i64 now)) (by decide) (by decide) hne 3 (.slice (some ⟨M2, o2, none⟩) rs2.length c2))
      refine ⟨.inr ⟨k, HE.out.1, HE.out.2, M', (U.set k (sentG now (nthG U k))).length, us, K2, kd2, M2, o2, c2, rs2, by rw [HF.out.2.2], hgs.down (by have := HLZ.out; have := HLW.out; omega), ?_, ((gb_moved (gb_moved (gb_moved (gb_moved HG9.out (Moved.set BR9.out (by decide) (by decide) 0 (.int .i64 (nthG U k).n))) (Moved.set (BR9.out.set 0 (.int .i64 (nthG U k).n)) (by decide) (by decide) 1 (.slice (some ⟨K2, 0, none⟩) (nthG U k).key.length kd2))) (Moved.set ((BR9.out.set 0 (.int .i64 (nthG U k).n)).set 1 (.slice (some ⟨K2, 0, none⟩) (nthG U k).key.length kd2)) (by decide) (by decide) 2 (.int .i64 now))) (Moved.set (((BR9.out.set 0 (.int .i64 (nthG U k).n)).set 1 (.slice (some ⟨K2, 0, none⟩) (nthG U k).key.length kd2)).set 2 (.int .i64 now)) (by decide) (by decide) 3 (.slice (some ⟨M2, o2, none⟩) rs2.length c2)))).down (by have := HLZ.out; omega), HF2.out.2, fun q h1 h2 => ?_⟩, (set_low (set_low (set_low (set_low HB9.out (M := w.heap.size) (Nat.le_refl _) 0 (.int .i64 (nthG U k).n)) (M := w.heap.size) (Nat.le_refl _) 1 (.slice (some ⟨K2, 0, none⟩) (nthG U k).key.length kd2)) (M := w.heap.size) (Nat.le_refl _) 2 (.int .i64 now)) (M := w.heap.size) (Nat.le_refl _) 3 (.slice (some ⟨M2, o2, none⟩) rs2.length c2))⟩
      · rw [HF.out.2.1]; exact HFL.out.symm
      · have h3 := blksG_low HF.out.1 q h1
        have h4 := HRN.out q h2
        omega
end Go.Proofs.YtgncimlojbnbfaaGreat.GpIf
namespace Go.Proofs.YtgncimlojbnbfaaGreat.GpY
open Go.RowKit
open Labs LabS Alms Over Blk Rws Grp Gps GpD GpC GpF GpM GpIf
theorem specF_none (a : Option Addr) (cap : Nat) (U : List PGr) (n now : Int) (w : World) (hr : RdGs GN w a U) (hl : U.length ≤ 1048576) (hcap : U.length ≤ cap ∧ cap ≤ maxLen) (hs : SmallG U) (he : ofI (numIs n) U = -1) :
    Calls Tryz.prog 10 #[.slice a U.length cap, .int .i64 n, .int .i64 now] w fun e w' => (∃ M c us, e = .returned (.tuple #[.slice (some ⟨M, 0, none⟩) us.length c, .agg #[.int .i64 0, .slice none 0 0, .int .i64 0, .slice none 0 0], .bool false]) ∧ GsB w.heap.size w' M c us ∧ grs us = U) ∧ Below w.heap.size w w' :=
  (specFlushA_any a cap U n now w hr hl hcap hs).mono fun e w' ⟨hd, hb⟩ => by
    rcases hd with ⟨_, M, c, us, h1, h2, _, h3⟩ | ⟨k, hk, _⟩
    · exact ⟨⟨M, c, us, h1, h2, h3⟩, hb⟩
    · rw [he] at hk; omega
theorem specF_some (a : Option Addr) (cap : Nat) (U : List PGr) (n now : Int) (k : Nat) (w : World) (hr : RdGs GN w a U) (hl : U.length ≤ 1048576) (hcap : U.length ≤ cap ∧ cap ≤ maxLen) (hs : SmallG U) (he : ofI (numIs n) U = (k : Int)) :
    Calls Tryz.prog 10 #[.slice a U.length cap, .int .i64 n, .int .i64 now] w fun e w' => (∃ M c us K2 kd2 M2 o2 c2 rs2, e = .returned (.tuple #[.slice (some ⟨M, 0, none⟩) us.length c, .agg #[.int .i64 (nthG U k).n, .slice (some ⟨K2, 0, none⟩) (nthG U k).key.length kd2, .int .i64 now, .slice (some ⟨M2, o2, none⟩) rs2.length c2], .bool true]) ∧ GsB w.heap.size w' M c us ∧ grs us = flushG U k now ∧ GB w.heap.size w' K2 (nthG U k).key M2 o2 rs2 ∧ pals rs2 = (nthG U k).P) ∧ Below w.heap.size w w' :=
  (specFlushA_any a cap U n now w hr hl hcap hs).mono fun e w' ⟨hd, hb⟩ => by
    rcases hd with ⟨h, _⟩ | ⟨k', hk, _, M, c, us, K2, kd2, M2, c2, rs2, h1, h2⟩
    · rw [he] at h; omega
    · have e2 : k' = k := by rw [he] at hk; omega
      subst e2
      exact ⟨⟨M, c, us, K2, kd2, M2, 0, c2, rs2, h1, h2.gs, h2.gr, h2.bt, h2.bp⟩, hb⟩
theorem implF_none (a : Option Addr) (cap : Nat) (U : List PGr) (n now : Int) (w : World) (hr : RdGs GN w a U) (hl : U.length ≤ 1048576) (hcap : U.length ≤ cap ∧ cap ≤ maxLen) (hs : SmallG U) (he : ofI (numIs n) U = -1) :
    Calls Tryz.prog 9 #[.slice a U.length cap, .int .i64 n, .int .i64 now] w fun e w' => (∃ M c us, e = .returned (.tuple #[.slice (some ⟨M, 0, none⟩) us.length c, .agg #[.int .i64 0, .slice none 0 0, .int .i64 0, .slice none 0 0], .bool false]) ∧ GsB w.heap.size w' M c us ∧ grs us = U) ∧ Below w.heap.size w w' :=
  (implFlushA_any a cap U n now w hr hl hcap hs).mono fun e w' ⟨hd, hb⟩ => by
    rcases hd with ⟨_, M, c, us, h1, h2, h3⟩ | ⟨k, hk, _⟩
    · exact ⟨⟨M, c, us, h1, h2, h3⟩, hb⟩
    · rw [he] at hk; omega
theorem implF_some (a : Option Addr) (cap : Nat) (U : List PGr) (n now : Int) (k : Nat) (w : World) (hr : RdGs GN w a U) (hl : U.length ≤ 1048576) (hcap : U.length ≤ cap ∧ cap ≤ maxLen) (hs : SmallG U) (he : ofI (numIs n) U = (k : Int)) :
    Calls Tryz.prog 9 #[.slice a U.length cap, .int .i64 n, .int .i64 now] w fun e w' => (∃ M c us K2 kd2 M2 o2 c2 rs2, e = .returned (.tuple #[.slice (some ⟨M, 0, none⟩) us.length c, .agg #[.int .i64 (nthG U k).n, .slice (some ⟨K2, 0, none⟩) (nthG U k).key.length kd2, .int .i64 now, .slice (some ⟨M2, o2, none⟩) rs2.length c2], .bool true]) ∧ GsB w.heap.size w' M c us ∧ grs us = flushG U k now ∧ GB w.heap.size w' K2 (nthG U k).key M2 o2 rs2 ∧ pals rs2 = (nthG U k).P ∧ ∀ q, blksG M us q → ¬ gblks K2 M2 rs2 q) ∧ Below w.heap.size w w' :=
  (implFlushA_any a cap U n now w hr hl hcap hs).mono fun e w' ⟨hd, hb⟩ => by
    rcases hd with ⟨h, _⟩ | ⟨k', hk, _, M, c, us, K2, kd2, M2, o2, c2, rs2, h1, h2, h3, h4, h5, h6⟩
    · rw [he] at h; omega
    · have e2 : k' = k := by rw [he] at hk; omega
      subst e2
      exact ⟨⟨M, c, us, K2, kd2, M2, o2, c2, rs2, h1, h2, h3, h4, h5, h6⟩, hb⟩
end Go.Proofs.YtgncimlojbnbfaaGreat.GpY
namespace Go.Proofs.YtgncimlojbnbfaaGreat.GpG
open Go.RowKit
open Labs LabS Alms AlmS Over Blk App ChnI ChnC Grp GrpG Gps GpD
open StrB (retB)
open Pro (RdS)
def oneOk (by' : List ByteArray) (x : PGr) : Bool := groupB x.n x.key x.b x.t x.P by'
def upOk (U : List PGr) (i : Nat) : Bool := decide (i = 0) || decide ((nthG U (i - 1)).n < (nthG U i).n)
def keyOk (U : List PGr) (i : Nat) : Bool := (List.range i).all fun q => !decide ((nthG U q).key = (nthG U i).key)
def okG (U : List PGr) (by' : List ByteArray) (i : Nat) : Bool := oneOk by' (nthG U i) && (upOk U i && keyOk U i)
def groupsB (U : List PGr) (by' : List ByteArray) : Bool := (List.range U.length).all (okG U by') && decide (U.length ≤ 12)
theorem groups_bad {U : List PGr} {by' : List ByteArray} {k : Nat} (hk : k < U.length) (h : okG U by' k = false) : groupsB U by' = false := by
  have : (List.range U.length).all (okG U by') = false := by
    rw [List.all_eq_false]
    exact ⟨k, List.mem_range.2 hk, by simp [h]⟩
  unfold groupsB; rw [this]; rfl
theorem groups_all {U : List PGr} {by' : List ByteArray} (h : ∀ j, j < U.length → okG U by' j = true) : groupsB U by' = decide (U.length ≤ 12) := by
  have : (List.range U.length).all (okG U by') = true := List.all_eq_true.2 fun j hj => h j (List.mem_range.1 hj)
  unfold groupsB; rw [this]; rfl
theorem keyOk_bad {U : List PGr} {k j : Nat} (hj : j < k) (h : (nthG U j).key = (nthG U k).key) : keyOk U k = false := by
  unfold keyOk
  rw [List.all_eq_false]
  exact ⟨j, List.mem_range.2 hj, by simp [h]⟩
theorem keyOk_good {U : List PGr} {k : Nat} (h : ∀ q, q < k → (nthG U q).key ≠ (nthG U k).key) : keyOk U k = true := by
  unfold keyOk
  rw [List.all_eq_true]
  exact fun q hq => by simp [h q (List.mem_range.1 hq)]
def SmP (U : List PGr) : Prop := ∀ x ∈ U, x.P.length ≤ 1048576 ∧ LenM x.P
set_option maxRecDepth 100000 in
set_option maxHeartbeats 6400000 in
theorem specGroups_any (a ba : Option Addr) (cap bc : Nat) (U : List PGr) (by' : List ByteArray) (w : World) (hr : RdGs GA w a U) (hl : U.length ≤ 1048576) (hz : FitsG U) (hs : SmP U) (hb : RdS w ba by') (hbl : by'.length ≤ maxLen) :
    Calls Tryz.prog 18 #[.slice a U.length cap, .slice ba by'.length bc] w fun e w' => e = .returned (.bool (groupsB U by')) ∧ Below w.heap.size w w' := by
  have HR : Hid (RdGs GA w a U ∧ FitsG U ∧ SmP U) := ⟨hr, hz, hs⟩
  have HY : Hid (RdS w ba by' ∧ by'.length ≤ maxLen) := ⟨hb, hbl⟩
  clear hr hz hs hb hbl
  go_enter Tryz.func18, Tryz.ntmps18
  go_wp2
  go_loopw [5] (fun i w' => ∃ k : Nat, i = .int .i64 k ∧ k ≤ U.length ∧ (∀ j, j < k → okG U by' j = true) ∧ Below w.heap.size w w') (fun i _ => U.length - (intOf i).toNat)
  case atStart => exact ⟨0, rfl, Nat.zero_le _, fun j hj => by omega, Below.refl _ _⟩
  case round =>
    obtain ⟨k, rfl, hk, hu, hw0⟩ := hrel
    have HU : Hid (∀ j, j < k → okG U by' j = true) := hu
    have HB : Hid (Below w.heap.size w wr) := hw0
    generalize wr = z at *
    clear hu hw0
    by_cases hlt : k < U.length
    · have hlt' : (k : Int) < (U.length : Int) := by omega
      obtain ⟨b, off, rfl, hbz, ka, kc, ad, cp, hat⟩ := (HR.out.1.below stays_ga HB.out).get hlt
      have HA : Hid (AtG GA z b off k (nthG U k) ka kc ad cp) := hat
      have HF : Hid (FitG (nthG U k)) := HR.out.2.1 _ (nthG_mem hlt)
      have HSP : Hid ((nthG U k).P.length ≤ 1048576 ∧ LenM (nthG U k).P) := HR.out.2.2 _ (nthG_mem hlt)
      have HRR : Hid (∀ y, Below z.heap.size z y → ∀ j, j < U.length → ∃ ka kc ad cp, AtG GA y b off j (nthG U j) ka kc ad cp) := fun y hy j hj => by
        obtain ⟨b', off', e, _, ka, kc, ad, cp, h⟩ := (HR.out.1.below stays_ga (grow_on HB.out hy)).get hj
        cases e
        exact ⟨ka, kc, ad, cp, h⟩
      have HOK : Hid (∀ y, Below z.heap.size z y → Calls Tryz.prog 48 #[.agg #[.int .i64 (nthG U k).n, .slice ka (nthG U k).key.length kc, .int .i64 (nthG U k).b, .int .i64 (nthG U k).t, .slice ad (nthG U k).P.length cp], .slice ba by'.length bc] y fun e w' => e = .returned (.bool (oneOk by' (nthG U k))) ∧ Below y.heap.size y w') := fun y hy => specGroup_any (nthG U k).n (nthG U k).b (nthG U k).t ka kc (nthG U k).key ad cp (nthG U k).P ba bc by' y (HA.out.reads.1.below hy) HF.out.klen HF.out.kfit (HA.out.reads.2.below hy) HSP.out.1 HF.out.fits HSP.out.2 (HY.out.1.below (grow_on HB.out hy)) HY.out.2
      clear hat
      cases hg1 : oneOk by' (nthG U k) with
      | false =>
        have HE : Hid (groupsB U by' = false) := groups_bad hlt (by unfold okG; rw [hg1]; rfl)
        go_upto_region 4 with fail
        have HS : Hid (∀ w', Below z.heap.size z w' → w'.cell? ⟨b, off + k * 5, none⟩ = some (.int .i64 (nthG U k).n) ∧ w'.cell? ⟨b, off + k * 5 + 1, none⟩ = some (.slice ka (nthG U k).key.length kc) ∧ w'.cell? ⟨b, off + k * 5 + 2, none⟩ = some (.int .i64 (nthG U k).b) ∧ w'.cell? ⟨b, off + k * 5 + 3, none⟩ = some (.int .i64 (nthG U k).t) ∧ w'.cell? ⟨b, off + k * 5 + 4, none⟩ = some (.slice ad (nthG U k).P.length cp)) := fun w' h => ⟨(h.cell (p := ⟨b, off + k * 5, none⟩) hbz).trans HA.out.c0, (h.cell (p := ⟨b, off + k * 5 + 1, none⟩) hbz).trans HA.out.c1, (h.cell (p := ⟨b, off + k * 5 + 2, none⟩) hbz).trans HA.out.c2, (h.cell (p := ⟨b, off + k * 5 + 3, none⟩) hbz).trans HA.out.c3, (h.cell (p := ⟨b, off + k * 5 + 4, none⟩) hbz).trans HA.out.c4⟩
        refine wp_region_held_drew (S := fun w' => w'.cell? ⟨b, off + k * 5, none⟩ = some (.int .i64 (nthG U k).n) ∧ w'.cell? ⟨b, off + k * 5 + 1, none⟩ = some (.slice ka (nthG U k).key.length kc) ∧ w'.cell? ⟨b, off + k * 5 + 2, none⟩ = some (.int .i64 (nthG U k).b) ∧ w'.cell? ⟨b, off + k * 5 + 3, none⟩ = some (.int .i64 (nthG U k).t) ∧ w'.cell? ⟨b, off + k * 5 + 4, none⟩ = some (.slice ad (nthG U k).P.length cp)) (by kernel_rfl) (HS.out _ (Below.refl z.heap.size z).drew) (fun hHeld => ?_)
        refine tk 0 ⟨some 13, .move (.tmp 0), 24, "l12_groups.go:7", #[], none⟩ hHeld ?_
        try go_frame
        refine tk 1 ⟨some 14, .move (.tmp 5), 3, "l12_groups.go:7", #[], none⟩ hHeld ?_
        try go_frame
        refine tk 2 ⟨some 15, .indexAddr 24 (.tmp 13) (.tmp 14), 0, "l12_groups.go:7", #[⟨0, .data⟩, ⟨1, .data⟩], none⟩ hHeld ?_
        try go_frame
        refine tk 3 ⟨some 16, .load 53 (.tmp 15), 53, "l12_groups.go:7", #[⟨2, .data⟩], none⟩ hHeld ?_
        try go_frame
        refine tk 4 ⟨some 17, .move (.tmp 1), 28, "l12_groups.go:7", #[], none⟩ hHeld ?_
        try go_frame
        refine rd1 5 ⟨some 18, .call { callee := .value (.func 48), args := #[.tmp 16, .tmp 17], argTypes := #[53, 28] }, 4, "l12_groups.go:7", #[⟨3, .data⟩, ⟨4, .data⟩], none⟩ (fun K hK => ?_)
        go_simp
        refine (HOK.out _ (Below.refl z.heap.size z).drew).mono ?_
        rintro r wyq1x5 ⟨rfl, hb1⟩
        have Z1 : Hid (Below z.heap.size z wyq1x5) := grow_on (Below.refl z.heap.size z).drew hb1
        clear hb1
        try rw [hg1]
        clear hHeld
        refine hK.out _ _ (HS.out _ Z1.out) (fun hHeld => ?_)
        clear hK K
        try go_frame
        refine tk 6 ⟨some 19, .unOp .not 4 (.tmp 18), 4, "l12_groups.go:7", #[⟨5, .data⟩], none⟩ hHeld ?_
        try go_frame
        refine tk 7 ⟨some 20, .move (.tmp 19), 4, "l12_groups.go:7", #[⟨6, .data⟩, ⟨5, .chain⟩], none⟩ hHeld ?_
        try go_frame
        refine sk 8 ⟨some 21, .move (.tmp 5), 3, "l12_groups.go:7", #[⟨7, .guard⟩], some (7, false)⟩ hHeld ?_
        try go_frame
        refine sk 9 ⟨some 22, .binOp .gtr 3 (.tmp 21) (.const (.int .i64 0)) 3, 4, "l12_groups.go:7", #[⟨8, .data⟩, ⟨7, .guard⟩], some (7, false)⟩ hHeld ?_
        try go_frame
        refine sk 10 ⟨some 23, .move (.tmp 22), 4, "l12_groups.go:7", #[⟨9, .data⟩, ⟨7, .chain⟩, ⟨7, .guard⟩], some (7, false)⟩ hHeld ?_
        try go_frame
        refine sk 11 ⟨some 24, .move (.tmp 0), 24, "l12_groups.go:7", #[⟨10, .guard⟩], some (10, true)⟩ hHeld ?_
        try go_frame
        refine sk 12 ⟨some 25, .move (.tmp 5), 3, "l12_groups.go:7", #[⟨10, .guard⟩], some (10, true)⟩ hHeld ?_
        try go_frame
        refine sk 13 ⟨some 26, .binOp .sub 3 (.tmp 25) (.const (.int .i64 1)) 3, 3, "l12_groups.go:7", #[⟨12, .data⟩, ⟨10, .guard⟩], some (10, true)⟩ hHeld ?_
        try go_frame
        refine sk 14 ⟨some 27, .indexAddr 24 (.tmp 24) (.tmp 26), 0, "l12_groups.go:7", #[⟨11, .data⟩, ⟨13, .data⟩, ⟨10, .guard⟩], some (10, true)⟩ hHeld ?_
        try go_frame
        refine sk 15 ⟨some 28, .fieldAddr 53 (.tmp 27) 0, 0, "l12_groups.go:7", #[⟨14, .data⟩, ⟨10, .guard⟩], some (10, true)⟩ hHeld ?_
        try go_frame
        refine sk 16 ⟨some 29, .load 3 (.tmp 28), 3, "l12_groups.go:7", #[⟨15, .data⟩, ⟨10, .guard⟩], some (10, true)⟩ hHeld ?_
        try go_frame
        refine sk 17 ⟨some 30, .move (.tmp 0), 24, "l12_groups.go:7", #[⟨10, .guard⟩], some (10, true)⟩ hHeld ?_
        try go_frame
        refine sk 18 ⟨some 31, .move (.tmp 5), 3, "l12_groups.go:7", #[⟨10, .guard⟩], some (10, true)⟩ hHeld ?_
        try go_frame
        refine sk 19 ⟨some 32, .indexAddr 24 (.tmp 30) (.tmp 31), 0, "l12_groups.go:7", #[⟨17, .data⟩, ⟨18, .data⟩, ⟨10, .guard⟩], some (10, true)⟩ hHeld ?_
        try go_frame
        refine sk 20 ⟨some 33, .fieldAddr 53 (.tmp 32) 0, 0, "l12_groups.go:7", #[⟨19, .data⟩, ⟨10, .guard⟩], some (10, true)⟩ hHeld ?_
        try go_frame
        refine sk 21 ⟨some 34, .load 3 (.tmp 33), 3, "l12_groups.go:7", #[⟨20, .data⟩, ⟨10, .guard⟩], some (10, true)⟩ hHeld ?_
        try go_frame
        refine sk 22 ⟨some 35, .binOp .geq 3 (.tmp 29) (.tmp 34) 3, 4, "l12_groups.go:7", #[⟨16, .data⟩, ⟨21, .data⟩, ⟨10, .guard⟩], some (10, true)⟩ hHeld ?_
        try go_frame
        refine sk 23 ⟨some 36, .pick (.tmp 23) (.tmp 35) (.const (.bool false)), 4, "l12_groups.go:7", #[⟨10, .data⟩, ⟨22, .data⟩, ⟨7, .guard⟩], some (7, false)⟩ hHeld ?_
        try go_frame
        refine tk 24 ⟨some 37, .pick (.tmp 20) (.const (.bool true)) (.tmp 36), 4, "l12_groups.go:7", #[⟨7, .data⟩, ⟨23, .data⟩], none⟩ hHeld ?_
        try go_frame
        refine wpAnyH_done (by kernel_rfl) ?_ _
        clear hHeld HS
        go_wp2
        go_ret
        exact ⟨retB HE.out.symm, grow_on HB.out Z1.out⟩
      | true =>
        by_cases k0 : k = 0
        ·
          have K0 : Hid (k = 0) := k0
          have bk : decide (0 < k) = false := decide_eq_false (by omega)
          clear k0
          go_upto_region 4 with fail
          have HS : Hid (∀ w', Below z.heap.size z w' → w'.cell? ⟨b, off + k * 5, none⟩ = some (.int .i64 (nthG U k).n) ∧ w'.cell? ⟨b, off + k * 5 + 1, none⟩ = some (.slice ka (nthG U k).key.length kc) ∧ w'.cell? ⟨b, off + k * 5 + 2, none⟩ = some (.int .i64 (nthG U k).b) ∧ w'.cell? ⟨b, off + k * 5 + 3, none⟩ = some (.int .i64 (nthG U k).t) ∧ w'.cell? ⟨b, off + k * 5 + 4, none⟩ = some (.slice ad (nthG U k).P.length cp)) := fun w' h => ⟨(h.cell (p := ⟨b, off + k * 5, none⟩) hbz).trans HA.out.c0, (h.cell (p := ⟨b, off + k * 5 + 1, none⟩) hbz).trans HA.out.c1, (h.cell (p := ⟨b, off + k * 5 + 2, none⟩) hbz).trans HA.out.c2, (h.cell (p := ⟨b, off + k * 5 + 3, none⟩) hbz).trans HA.out.c3, (h.cell (p := ⟨b, off + k * 5 + 4, none⟩) hbz).trans HA.out.c4⟩
          refine wp_region_held_drew (S := fun w' => w'.cell? ⟨b, off + k * 5, none⟩ = some (.int .i64 (nthG U k).n) ∧ w'.cell? ⟨b, off + k * 5 + 1, none⟩ = some (.slice ka (nthG U k).key.length kc) ∧ w'.cell? ⟨b, off + k * 5 + 2, none⟩ = some (.int .i64 (nthG U k).b) ∧ w'.cell? ⟨b, off + k * 5 + 3, none⟩ = some (.int .i64 (nthG U k).t) ∧ w'.cell? ⟨b, off + k * 5 + 4, none⟩ = some (.slice ad (nthG U k).P.length cp)) (by kernel_rfl) (HS.out _ (Below.refl z.heap.size z).drew) (fun hHeld => ?_)
          refine tk 0 ⟨some 13, .move (.tmp 0), 24, "l12_groups.go:7", #[], none⟩ hHeld ?_
          try go_frame
          refine tk 1 ⟨some 14, .move (.tmp 5), 3, "l12_groups.go:7", #[], none⟩ hHeld ?_
          try go_frame
          refine tk 2 ⟨some 15, .indexAddr 24 (.tmp 13) (.tmp 14), 0, "l12_groups.go:7", #[⟨0, .data⟩, ⟨1, .data⟩], none⟩ hHeld ?_
          try go_frame
          refine tk 3 ⟨some 16, .load 53 (.tmp 15), 53, "l12_groups.go:7", #[⟨2, .data⟩], none⟩ hHeld ?_
          try go_frame
          refine tk 4 ⟨some 17, .move (.tmp 1), 28, "l12_groups.go:7", #[], none⟩ hHeld ?_
          try go_frame
          refine rd1 5 ⟨some 18, .call { callee := .value (.func 48), args := #[.tmp 16, .tmp 17], argTypes := #[53, 28] }, 4, "l12_groups.go:7", #[⟨3, .data⟩, ⟨4, .data⟩], none⟩ (fun K hK => ?_)
          go_simp
          refine (HOK.out _ (Below.refl z.heap.size z).drew).mono ?_
          rintro r wyq2x5 ⟨rfl, hb1⟩
          have Z1 : Hid (Below z.heap.size z wyq2x5) := grow_on (Below.refl z.heap.size z).drew hb1
          clear hb1
          try rw [hg1]
          clear hHeld
          refine hK.out _ _ (HS.out _ Z1.out) (fun hHeld => ?_)
          clear hK K
          try go_frame
          refine tk 6 ⟨some 19, .unOp .not 4 (.tmp 18), 4, "l12_groups.go:7", #[⟨5, .data⟩], none⟩ hHeld ?_
          try go_frame
          refine tk 7 ⟨some 20, .move (.tmp 19), 4, "l12_groups.go:7", #[⟨6, .data⟩, ⟨5, .chain⟩], none⟩ hHeld ?_
          try go_frame
          refine tk 8 ⟨some 21, .move (.tmp 5), 3, "l12_groups.go:7", #[⟨7, .guard⟩], some (7, false)⟩ hHeld ?_
          try go_frame
          refine tk 9 ⟨some 22, .binOp .gtr 3 (.tmp 21) (.const (.int .i64 0)) 3, 4, "l12_groups.go:7", #[⟨8, .data⟩, ⟨7, .guard⟩], some (7, false)⟩ hHeld ?_
          try go_frame
          refine tk 10 ⟨some 23, .move (.tmp 22), 4, "l12_groups.go:7", #[⟨9, .data⟩, ⟨7, .chain⟩, ⟨7, .guard⟩], some (7, false)⟩ hHeld ?_
          try go_frame
          refine sk 11 ⟨some 24, .move (.tmp 0), 24, "l12_groups.go:7", #[⟨10, .guard⟩], some (10, true)⟩ hHeld ?_
          try go_frame
          refine sk 12 ⟨some 25, .move (.tmp 5), 3, "l12_groups.go:7", #[⟨10, .guard⟩], some (10, true)⟩ hHeld ?_
          try go_frame
          refine sk 13 ⟨some 26, .binOp .sub 3 (.tmp 25) (.const (.int .i64 1)) 3, 3, "l12_groups.go:7", #[⟨12, .data⟩, ⟨10, .guard⟩], some (10, true)⟩ hHeld ?_
          try go_frame
          refine sk 14 ⟨some 27, .indexAddr 24 (.tmp 24) (.tmp 26), 0, "l12_groups.go:7", #[⟨11, .data⟩, ⟨13, .data⟩, ⟨10, .guard⟩], some (10, true)⟩ hHeld ?_
          try go_frame
          refine sk 15 ⟨some 28, .fieldAddr 53 (.tmp 27) 0, 0, "l12_groups.go:7", #[⟨14, .data⟩, ⟨10, .guard⟩], some (10, true)⟩ hHeld ?_
          try go_frame
          refine sk 16 ⟨some 29, .load 3 (.tmp 28), 3, "l12_groups.go:7", #[⟨15, .data⟩, ⟨10, .guard⟩], some (10, true)⟩ hHeld ?_
          try go_frame
          refine sk 17 ⟨some 30, .move (.tmp 0), 24, "l12_groups.go:7", #[⟨10, .guard⟩], some (10, true)⟩ hHeld ?_
          try go_frame
          refine sk 18 ⟨some 31, .move (.tmp 5), 3, "l12_groups.go:7", #[⟨10, .guard⟩], some (10, true)⟩ hHeld ?_
          try go_frame
          refine sk 19 ⟨some 32, .indexAddr 24 (.tmp 30) (.tmp 31), 0, "l12_groups.go:7", #[⟨17, .data⟩, ⟨18, .data⟩, ⟨10, .guard⟩], some (10, true)⟩ hHeld ?_
          try go_frame
          refine sk 20 ⟨some 33, .fieldAddr 53 (.tmp 32) 0, 0, "l12_groups.go:7", #[⟨19, .data⟩, ⟨10, .guard⟩], some (10, true)⟩ hHeld ?_
          try go_frame
          refine sk 21 ⟨some 34, .load 3 (.tmp 33), 3, "l12_groups.go:7", #[⟨20, .data⟩, ⟨10, .guard⟩], some (10, true)⟩ hHeld ?_
          try go_frame
          refine sk 22 ⟨some 35, .binOp .geq 3 (.tmp 29) (.tmp 34) 3, 4, "l12_groups.go:7", #[⟨16, .data⟩, ⟨21, .data⟩, ⟨10, .guard⟩], some (10, true)⟩ hHeld ?_
          try go_frame
          refine tk 23 ⟨some 36, .pick (.tmp 23) (.tmp 35) (.const (.bool false)), 4, "l12_groups.go:7", #[⟨10, .data⟩, ⟨22, .data⟩, ⟨7, .guard⟩], some (7, false)⟩ hHeld ?_
          try go_frame
          refine tk 24 ⟨some 37, .pick (.tmp 20) (.const (.bool true)) (.tmp 36), 4, "l12_groups.go:7", #[⟨7, .data⟩, ⟨23, .data⟩], none⟩ hHeld ?_
          try go_frame
          refine wpAnyH_done (by kernel_rfl) ?_ _
          clear hHeld HS
          have HUP : Hid (upOk U k = true) := by unfold Hid upOk; rw [decide_eq_true K0.out]; rfl
          have HG1 : Hid (oneOk by' (nthG U k) = true) := hg1
          have HZ1 : Hid (Below z.heap.size z _) := Z1.out
          clear hg1 HOK HF HSP
          go_wp2
          go_loopw [6] (fun i w' => ∃ j : Nat, i = .int .i64 j ∧ j ≤ k ∧ (∀ q, q < j → (nthG U q).key ≠ (nthG U k).key) ∧ Below z.heap.size z w') (fun i _ => k - (intOf i).toNat)
          case atStart => exact ⟨0, rfl, Nat.zero_le _, fun q hq => by omega, HZ1.out⟩
          case round =>
            obtain ⟨j, rfl, hj, hq, hbj⟩ := hrel
            have HQ : Hid (∀ q, q < j → (nthG U q).key ≠ (nthG U k).key) := hq
            have HBJ : Hid (Below z.heap.size z wr) := hbj
            clear hq hbj
            by_cases hjk : j < k
            ·
              have hjk' : (j : Int) < (k : Int) := by omega
              have hjU : j < U.length := by omega
              have hjU' : (j : Int) < (U.length : Int) := by omega
              obtain ⟨ja, jc, jd, jp, hatj⟩ := HRR.out wr HBJ.out j hjU
              have hbr : b < wr.heap.size := Nat.lt_of_lt_of_le hbz HBJ.out.size
              have c1 := hatj.c1
              have d1 : wr.cell? ⟨b, off + k * 5 + 1, none⟩ = some (.slice ka (nthG U k).key.length kc) := (HBJ.out.cell (p := ⟨b, off + k * 5 + 1, none⟩) hbz).trans HA.out.c1
              have HSS : Hid (∀ y, Below wr.heap.size wr y → Calls Tryz.prog 49 #[.slice ja (nthG U j).key.length jc, .slice ka (nthG U k).key.length kc] y fun e w' => e = .returned (.bool (decide ((nthG U j).key = (nthG U k).key))) ∧ Below y.heap.size y w') := fun y hy => calls_drew (specSame_any ja ka jc kc (nthG U j).key (nthG U k).key y (hatj.reads.1.below hy) (HA.out.reads.1.below (grow_on HBJ.out hy)) (HR.out.2.1 _ (nthG_mem hjU)).klen (HR.out.2.1 _ (nthG_mem hlt)).klen)
              have HS9 : Hid (∀ w', Below wr.heap.size wr w' → w'.cell? ⟨b, off + j * 5 + 1, none⟩ = some (.slice ja (nthG U j).key.length jc) ∧ w'.cell? ⟨b, off + k * 5 + 1, none⟩ = some (.slice ka (nthG U k).key.length kc)) := fun w' h => ⟨(h.cell (p := ⟨b, off + j * 5 + 1, none⟩) hbr).trans c1, (h.cell (p := ⟨b, off + k * 5 + 1, none⟩) hbr).trans d1⟩
              clear hatj c1 d1
              cases hd : decide ((nthG U j).key = (nthG U k).key) with
              | true =>
                have HE : Hid (groupsB U by' = false) := groups_bad hlt (by unfold okG; rw [keyOk_bad hjk (of_decide_eq_true hd)]; simp)
                go_upto_region 9 with fail
                refine wp_region_held_drew (S := fun w' => w'.cell? ⟨b, off + j * 5 + 1, none⟩ = some (.slice ja (nthG U j).key.length jc) ∧ w'.cell? ⟨b, off + k * 5 + 1, none⟩ = some (.slice ka (nthG U k).key.length kc)) (by kernel_rfl) (HS9.out _ (Below.refl wr.heap.size wr).drew) (fun hHeld => ?_)
                refine tk 0 ⟨some 43, .move (.tmp 0), 24, "l12_groups.go:11", #[], none⟩ hHeld ?_
                try go_frame
                refine tk 1 ⟨some 44, .move (.tmp 6), 3, "l12_groups.go:11", #[], none⟩ hHeld ?_
                try go_frame
                refine tk 2 ⟨some 45, .indexAddr 24 (.tmp 43) (.tmp 44), 0, "l12_groups.go:11", #[⟨0, .data⟩, ⟨1, .data⟩], none⟩ hHeld ?_
                try go_frame
                refine tk 3 ⟨some 46, .fieldAddr 53 (.tmp 45) 1, 0, "l12_groups.go:11", #[⟨2, .data⟩], none⟩ hHeld ?_
                try go_frame
                refine tk 4 ⟨some 47, .load 25 (.tmp 46), 25, "l12_groups.go:11", #[⟨3, .data⟩], none⟩ hHeld ?_
                try go_frame
                refine tk 5 ⟨some 48, .move (.tmp 0), 24, "l12_groups.go:11", #[], none⟩ hHeld ?_
                try go_frame
                refine tk 6 ⟨some 49, .move (.tmp 5), 3, "l12_groups.go:11", #[], none⟩ hHeld ?_
                try go_frame
                refine tk 7 ⟨some 50, .indexAddr 24 (.tmp 48) (.tmp 49), 0, "l12_groups.go:11", #[⟨5, .data⟩, ⟨6, .data⟩], none⟩ hHeld ?_
                try go_frame
                refine tk 8 ⟨some 51, .fieldAddr 53 (.tmp 50) 1, 0, "l12_groups.go:11", #[⟨7, .data⟩], none⟩ hHeld ?_
                try go_frame
                refine tk 9 ⟨some 52, .load 25 (.tmp 51), 25, "l12_groups.go:11", #[⟨8, .data⟩], none⟩ hHeld ?_
                try go_frame
                refine rd1 10 ⟨some 53, .call { callee := .value (.func 49), args := #[.tmp 47, .tmp 52], argTypes := #[25, 25] }, 4, "l12_groups.go:11", #[⟨4, .data⟩, ⟨9, .data⟩], none⟩ (fun K hK => ?_)
                go_simp
                refine (HSS.out _ (Below.refl wr.heap.size wr).drew).mono ?_
                rintro r wyq3xa10 ⟨rfl, hb2⟩
                have Z2 : Hid (Below wr.heap.size wr wyq3xa10) := grow_on (Below.refl wr.heap.size wr).drew hb2
                clear hb2
                try rw [hd]
                clear hHeld
                refine hK.out _ _ (HS9.out _ Z2.out) (fun hHeld => ?_)
                clear hK K
                try go_frame
                refine wpAnyH_done (by kernel_rfl) ?_ _
                clear hHeld HS9 HSS
                go_wp2
                go_ret
                exact ⟨retB HE.out.symm, grow_on HB.out (grow_on HBJ.out Z2.out)⟩
              | false =>
                have HQ1 : Hid (∀ q, q < j + 1 → (nthG U q).key ≠ (nthG U k).key) := fun q hq => by
                  by_cases e : q = j
                  · rw [e]; exact of_decide_eq_false hd
                  · exact HQ.out q (by omega)
                go_upto_region 9 with fail
                refine wp_region_held_drew (S := fun w' => w'.cell? ⟨b, off + j * 5 + 1, none⟩ = some (.slice ja (nthG U j).key.length jc) ∧ w'.cell? ⟨b, off + k * 5 + 1, none⟩ = some (.slice ka (nthG U k).key.length kc)) (by kernel_rfl) (HS9.out _ (Below.refl wr.heap.size wr).drew) (fun hHeld => ?_)
                refine tk 0 ⟨some 43, .move (.tmp 0), 24, "l12_groups.go:11", #[], none⟩ hHeld ?_
                try go_frame
                refine tk 1 ⟨some 44, .move (.tmp 6), 3, "l12_groups.go:11", #[], none⟩ hHeld ?_
                try go_frame
                refine tk 2 ⟨some 45, .indexAddr 24 (.tmp 43) (.tmp 44), 0, "l12_groups.go:11", #[⟨0, .data⟩, ⟨1, .data⟩], none⟩ hHeld ?_
                try go_frame
                refine tk 3 ⟨some 46, .fieldAddr 53 (.tmp 45) 1, 0, "l12_groups.go:11", #[⟨2, .data⟩], none⟩ hHeld ?_
                try go_frame
                refine tk 4 ⟨some 47, .load 25 (.tmp 46), 25, "l12_groups.go:11", #[⟨3, .data⟩], none⟩ hHeld ?_
                try go_frame
                refine tk 5 ⟨some 48, .move (.tmp 0), 24, "l12_groups.go:11", #[], none⟩ hHeld ?_
                try go_frame
                refine tk 6 ⟨some 49, .move (.tmp 5), 3, "l12_groups.go:11", #[], none⟩ hHeld ?_
                try go_frame
                refine tk 7 ⟨some 50, .indexAddr 24 (.tmp 48) (.tmp 49), 0, "l12_groups.go:11", #[⟨5, .data⟩, ⟨6, .data⟩], none⟩ hHeld ?_
                try go_frame
                refine tk 8 ⟨some 51, .fieldAddr 53 (.tmp 50) 1, 0, "l12_groups.go:11", #[⟨7, .data⟩], none⟩ hHeld ?_
                try go_frame
                refine tk 9 ⟨some 52, .load 25 (.tmp 51), 25, "l12_groups.go:11", #[⟨8, .data⟩], none⟩ hHeld ?_
                try go_frame
                refine rd1 10 ⟨some 53, .call { callee := .value (.func 49), args := #[.tmp 47, .tmp 52], argTypes := #[25, 25] }, 4, "l12_groups.go:11", #[⟨4, .data⟩, ⟨9, .data⟩], none⟩ (fun K hK => ?_)
                go_simp
                refine (HSS.out _ (Below.refl wr.heap.size wr).drew).mono ?_
                rintro r wyq3xb10 ⟨rfl, hb2⟩
                have Z2 : Hid (Below wr.heap.size wr wyq3xb10) := grow_on (Below.refl wr.heap.size wr).drew hb2
                clear hb2
                try rw [hd]
                clear hHeld
                refine hK.out _ _ (HS9.out _ Z2.out) (fun hHeld => ?_)
                clear hK K
                try go_frame
                refine wpAnyH_done (by kernel_rfl) ?_ _
                clear hHeld HS9 HSS
                go_wp2
                go_roundw
                case rel => exact ⟨j + 1, by go_num, by omega, HQ1.out, grow_on HBJ.out Z2.out⟩
                case measure => simp [intOf]; omega
            · have hje : ¬ (j : Int) < (k : Int) := by omega
              have HU1 : Hid (∀ i, i < k + 1 → okG U by' i = true) := fun i hi => by
                by_cases e : i = k
                · rw [e]; unfold okG; rw [HG1.out, HUP.out, keyOk_good (fun q hq => HQ.out q (by omega))]; rfl
                · exact HU.out i (by omega)
              go_wp2
              go_roundw
              case rel => exact ⟨k + 1, by go_num, by omega, HU1.out, grow_on HB.out HBJ.out⟩
              case measure => simp [intOf]; omega
        · have hk0 : (0 : Int) < (k : Int) := by omega
          have bk : decide (0 < k) = true := decide_eq_true (by omega)
          obtain ⟨m, hm⟩ : ∃ m, k = m + 1 := ⟨k - 1, by omega⟩
          have em : (k : Int) - 1 = (m : Int) := by omega
          have hml : m < U.length := by omega
          have hml' : (m : Int) < (U.length : Int) := by omega
          have hwm : IntKind.i64.wrap (m : Int) = (m : Int) := by rw [IntKind.wrap_i64]; omega
          have hmk : k - 1 = m := by omega
          obtain ⟨_, _, _, _, hatm⟩ := HRR.out z (Below.refl _ _) m hml
          have hmc := hatm.c0
          clear hatm hm
          by_cases hup : (nthG U m).n < (nthG U k).n
          ·
            have hge : decide ((nthG U m).n ≥ (nthG U k).n) = false := decide_eq_false (by omega)
            have hge2 : decide ((nthG U k).n ≤ (nthG U m).n) = false := decide_eq_false (by omega)
            have hng : ¬ (nthG U k).n ≤ (nthG U m).n := by omega
            have HU0 : Hid (upOk U k = true) := by unfold Hid upOk; rw [hmk, decide_eq_true hup]; simp
            clear hmk k0 hup
            go_upto_region 4 with fail
            have HS : Hid (∀ w', Below z.heap.size z w' → w'.cell? ⟨b, off + k * 5, none⟩ = some (.int .i64 (nthG U k).n) ∧ w'.cell? ⟨b, off + k * 5 + 1, none⟩ = some (.slice ka (nthG U k).key.length kc) ∧ w'.cell? ⟨b, off + k * 5 + 2, none⟩ = some (.int .i64 (nthG U k).b) ∧ w'.cell? ⟨b, off + k * 5 + 3, none⟩ = some (.int .i64 (nthG U k).t) ∧ w'.cell? ⟨b, off + k * 5 + 4, none⟩ = some (.slice ad (nthG U k).P.length cp) ∧ w'.cell? ⟨b, off + m * 5, none⟩ = some (.int .i64 (nthG U m).n)) := fun w' h => ⟨(h.cell (p := ⟨b, off + k * 5, none⟩) hbz).trans HA.out.c0, (h.cell (p := ⟨b, off + k * 5 + 1, none⟩) hbz).trans HA.out.c1, (h.cell (p := ⟨b, off + k * 5 + 2, none⟩) hbz).trans HA.out.c2, (h.cell (p := ⟨b, off + k * 5 + 3, none⟩) hbz).trans HA.out.c3, (h.cell (p := ⟨b, off + k * 5 + 4, none⟩) hbz).trans HA.out.c4, (h.cell (p := ⟨b, off + m * 5, none⟩) hbz).trans hmc⟩
            refine wp_region_held_drew (S := fun w' => w'.cell? ⟨b, off + k * 5, none⟩ = some (.int .i64 (nthG U k).n) ∧ w'.cell? ⟨b, off + k * 5 + 1, none⟩ = some (.slice ka (nthG U k).key.length kc) ∧ w'.cell? ⟨b, off + k * 5 + 2, none⟩ = some (.int .i64 (nthG U k).b) ∧ w'.cell? ⟨b, off + k * 5 + 3, none⟩ = some (.int .i64 (nthG U k).t) ∧ w'.cell? ⟨b, off + k * 5 + 4, none⟩ = some (.slice ad (nthG U k).P.length cp) ∧ w'.cell? ⟨b, off + m * 5, none⟩ = some (.int .i64 (nthG U m).n)) (by kernel_rfl) (HS.out _ (Below.refl z.heap.size z).drew) (fun hHeld => ?_)
            refine tk 0 ⟨some 13, .move (.tmp 0), 24, "l12_groups.go:7", #[], none⟩ hHeld ?_
            try go_frame
            refine tk 1 ⟨some 14, .move (.tmp 5), 3, "l12_groups.go:7", #[], none⟩ hHeld ?_
            try go_frame
            refine tk 2 ⟨some 15, .indexAddr 24 (.tmp 13) (.tmp 14), 0, "l12_groups.go:7", #[⟨0, .data⟩, ⟨1, .data⟩], none⟩ hHeld ?_
            try go_frame
            refine tk 3 ⟨some 16, .load 53 (.tmp 15), 53, "l12_groups.go:7", #[⟨2, .data⟩], none⟩ hHeld ?_
            try go_frame
            refine tk 4 ⟨some 17, .move (.tmp 1), 28, "l12_groups.go:7", #[], none⟩ hHeld ?_
            try go_frame
            refine rd1 5 ⟨some 18, .call { callee := .value (.func 48), args := #[.tmp 16, .tmp 17], argTypes := #[53, 28] }, 4, "l12_groups.go:7", #[⟨3, .data⟩, ⟨4, .data⟩], none⟩ (fun K hK => ?_)
            go_simp
            refine (HOK.out _ (Below.refl z.heap.size z).drew).mono ?_
            rintro r wyq4x5 ⟨rfl, hb1⟩
            have Z1 : Hid (Below z.heap.size z wyq4x5) := grow_on (Below.refl z.heap.size z).drew hb1
            clear hb1
            try rw [hg1]
            clear hHeld
            refine hK.out _ _ (HS.out _ Z1.out) (fun hHeld => ?_)
            clear hK K
            try go_frame
            refine tk 6 ⟨some 19, .unOp .not 4 (.tmp 18), 4, "l12_groups.go:7", #[⟨5, .data⟩], none⟩ hHeld ?_
            try go_frame
            refine tk 7 ⟨some 20, .move (.tmp 19), 4, "l12_groups.go:7", #[⟨6, .data⟩, ⟨5, .chain⟩], none⟩ hHeld ?_
            try go_frame
            refine tk 8 ⟨some 21, .move (.tmp 5), 3, "l12_groups.go:7", #[⟨7, .guard⟩], some (7, false)⟩ hHeld ?_
            try go_frame
            refine tk 9 ⟨some 22, .binOp .gtr 3 (.tmp 21) (.const (.int .i64 0)) 3, 4, "l12_groups.go:7", #[⟨8, .data⟩, ⟨7, .guard⟩], some (7, false)⟩ hHeld ?_
            try go_frame
            refine tk 10 ⟨some 23, .move (.tmp 22), 4, "l12_groups.go:7", #[⟨9, .data⟩, ⟨7, .chain⟩, ⟨7, .guard⟩], some (7, false)⟩ hHeld ?_
            try go_frame
            refine tk 11 ⟨some 24, .move (.tmp 0), 24, "l12_groups.go:7", #[⟨10, .guard⟩], some (10, true)⟩ hHeld ?_
            try go_frame
            refine tk 12 ⟨some 25, .move (.tmp 5), 3, "l12_groups.go:7", #[⟨10, .guard⟩], some (10, true)⟩ hHeld ?_
            try go_frame
            refine tk 13 ⟨some 26, .binOp .sub 3 (.tmp 25) (.const (.int .i64 1)) 3, 3, "l12_groups.go:7", #[⟨12, .data⟩, ⟨10, .guard⟩], some (10, true)⟩ hHeld ?_
            try go_frame
            refine tk 14 ⟨some 27, .indexAddr 24 (.tmp 24) (.tmp 26), 0, "l12_groups.go:7", #[⟨11, .data⟩, ⟨13, .data⟩, ⟨10, .guard⟩], some (10, true)⟩ hHeld ?_
            try go_frame
            refine tk 15 ⟨some 28, .fieldAddr 53 (.tmp 27) 0, 0, "l12_groups.go:7", #[⟨14, .data⟩, ⟨10, .guard⟩], some (10, true)⟩ hHeld ?_
            try go_frame
            refine tk 16 ⟨some 29, .load 3 (.tmp 28), 3, "l12_groups.go:7", #[⟨15, .data⟩, ⟨10, .guard⟩], some (10, true)⟩ hHeld ?_
            try go_frame
            refine tk 17 ⟨some 30, .move (.tmp 0), 24, "l12_groups.go:7", #[⟨10, .guard⟩], some (10, true)⟩ hHeld ?_
            try go_frame
            refine tk 18 ⟨some 31, .move (.tmp 5), 3, "l12_groups.go:7", #[⟨10, .guard⟩], some (10, true)⟩ hHeld ?_
            try go_frame
            refine tk 19 ⟨some 32, .indexAddr 24 (.tmp 30) (.tmp 31), 0, "l12_groups.go:7", #[⟨17, .data⟩, ⟨18, .data⟩, ⟨10, .guard⟩], some (10, true)⟩ hHeld ?_
            try go_frame
            refine tk 20 ⟨some 33, .fieldAddr 53 (.tmp 32) 0, 0, "l12_groups.go:7", #[⟨19, .data⟩, ⟨10, .guard⟩], some (10, true)⟩ hHeld ?_
            try go_frame
            refine tk 21 ⟨some 34, .load 3 (.tmp 33), 3, "l12_groups.go:7", #[⟨20, .data⟩, ⟨10, .guard⟩], some (10, true)⟩ hHeld ?_
            try go_frame
            refine tk 22 ⟨some 35, .binOp .geq 3 (.tmp 29) (.tmp 34) 3, 4, "l12_groups.go:7", #[⟨16, .data⟩, ⟨21, .data⟩, ⟨10, .guard⟩], some (10, true)⟩ hHeld ?_
            try go_frame
            refine tk 23 ⟨some 36, .pick (.tmp 23) (.tmp 35) (.const (.bool false)), 4, "l12_groups.go:7", #[⟨10, .data⟩, ⟨22, .data⟩, ⟨7, .guard⟩], some (7, false)⟩ hHeld ?_
            try go_frame
            refine tk 24 ⟨some 37, .pick (.tmp 20) (.const (.bool true)) (.tmp 36), 4, "l12_groups.go:7", #[⟨7, .data⟩, ⟨23, .data⟩], none⟩ hHeld ?_
            try go_frame
            refine wpAnyH_done (by kernel_rfl) ?_ _
            clear hHeld HS
            have HUP : Hid (upOk U k = true) := HU0.out
            have HG1 : Hid (oneOk by' (nthG U k) = true) := hg1
            have HZ1 : Hid (Below z.heap.size z _) := Z1.out
            clear hg1 HOK HF HSP
            go_wp2
            go_loopw [6] (fun i w' => ∃ j : Nat, i = .int .i64 j ∧ j ≤ k ∧ (∀ q, q < j → (nthG U q).key ≠ (nthG U k).key) ∧ Below z.heap.size z w') (fun i _ => k - (intOf i).toNat)
            case atStart => exact ⟨0, rfl, Nat.zero_le _, fun q hq => by omega, HZ1.out⟩
            case round =>
              obtain ⟨j, rfl, hj, hq, hbj⟩ := hrel
              have HQ : Hid (∀ q, q < j → (nthG U q).key ≠ (nthG U k).key) := hq
              have HBJ : Hid (Below z.heap.size z wr) := hbj
              clear hq hbj
              by_cases hjk : j < k
              ·
                have hjk' : (j : Int) < (k : Int) := by omega
                have hjU : j < U.length := by omega
                have hjU' : (j : Int) < (U.length : Int) := by omega
                obtain ⟨ja, jc, jd, jp, hatj⟩ := HRR.out wr HBJ.out j hjU
                have hbr : b < wr.heap.size := Nat.lt_of_lt_of_le hbz HBJ.out.size
                have c1 := hatj.c1
                have d1 : wr.cell? ⟨b, off + k * 5 + 1, none⟩ = some (.slice ka (nthG U k).key.length kc) := (HBJ.out.cell (p := ⟨b, off + k * 5 + 1, none⟩) hbz).trans HA.out.c1
                have HSS : Hid (∀ y, Below wr.heap.size wr y → Calls Tryz.prog 49 #[.slice ja (nthG U j).key.length jc, .slice ka (nthG U k).key.length kc] y fun e w' => e = .returned (.bool (decide ((nthG U j).key = (nthG U k).key))) ∧ Below y.heap.size y w') := fun y hy => calls_drew (specSame_any ja ka jc kc (nthG U j).key (nthG U k).key y (hatj.reads.1.below hy) (HA.out.reads.1.below (grow_on HBJ.out hy)) (HR.out.2.1 _ (nthG_mem hjU)).klen (HR.out.2.1 _ (nthG_mem hlt)).klen)
                have HS9 : Hid (∀ w', Below wr.heap.size wr w' → w'.cell? ⟨b, off + j * 5 + 1, none⟩ = some (.slice ja (nthG U j).key.length jc) ∧ w'.cell? ⟨b, off + k * 5 + 1, none⟩ = some (.slice ka (nthG U k).key.length kc)) := fun w' h => ⟨(h.cell (p := ⟨b, off + j * 5 + 1, none⟩) hbr).trans c1, (h.cell (p := ⟨b, off + k * 5 + 1, none⟩) hbr).trans d1⟩
                clear hatj c1 d1
                cases hd : decide ((nthG U j).key = (nthG U k).key) with
                | true =>
                  have HE : Hid (groupsB U by' = false) := groups_bad hlt (by unfold okG; rw [keyOk_bad hjk (of_decide_eq_true hd)]; simp)
                  go_upto_region 9 with fail
                  refine wp_region_held_drew (S := fun w' => w'.cell? ⟨b, off + j * 5 + 1, none⟩ = some (.slice ja (nthG U j).key.length jc) ∧ w'.cell? ⟨b, off + k * 5 + 1, none⟩ = some (.slice ka (nthG U k).key.length kc)) (by kernel_rfl) (HS9.out _ (Below.refl wr.heap.size wr).drew) (fun hHeld => ?_)
                  refine tk 0 ⟨some 43, .move (.tmp 0), 24, "l12_groups.go:11", #[], none⟩ hHeld ?_
                  try go_frame
                  refine tk 1 ⟨some 44, .move (.tmp 6), 3, "l12_groups.go:11", #[], none⟩ hHeld ?_
                  try go_frame
                  refine tk 2 ⟨some 45, .indexAddr 24 (.tmp 43) (.tmp 44), 0, "l12_groups.go:11", #[⟨0, .data⟩, ⟨1, .data⟩], none⟩ hHeld ?_
                  try go_frame
                  refine tk 3 ⟨some 46, .fieldAddr 53 (.tmp 45) 1, 0, "l12_groups.go:11", #[⟨2, .data⟩], none⟩ hHeld ?_
                  try go_frame
                  refine tk 4 ⟨some 47, .load 25 (.tmp 46), 25, "l12_groups.go:11", #[⟨3, .data⟩], none⟩ hHeld ?_
                  try go_frame
                  refine tk 5 ⟨some 48, .move (.tmp 0), 24, "l12_groups.go:11", #[], none⟩ hHeld ?_
                  try go_frame
                  refine tk 6 ⟨some 49, .move (.tmp 5), 3, "l12_groups.go:11", #[], none⟩ hHeld ?_
                  try go_frame
                  refine tk 7 ⟨some 50, .indexAddr 24 (.tmp 48) (.tmp 49), 0, "l12_groups.go:11", #[⟨5, .data⟩, ⟨6, .data⟩], none⟩ hHeld ?_
                  try go_frame
                  refine tk 8 ⟨some 51, .fieldAddr 53 (.tmp 50) 1, 0, "l12_groups.go:11", #[⟨7, .data⟩], none⟩ hHeld ?_
                  try go_frame
                  refine tk 9 ⟨some 52, .load 25 (.tmp 51), 25, "l12_groups.go:11", #[⟨8, .data⟩], none⟩ hHeld ?_
                  try go_frame
                  refine rd1 10 ⟨some 53, .call { callee := .value (.func 49), args := #[.tmp 47, .tmp 52], argTypes := #[25, 25] }, 4, "l12_groups.go:11", #[⟨4, .data⟩, ⟨9, .data⟩], none⟩ (fun K hK => ?_)
                  go_simp
                  refine (HSS.out _ (Below.refl wr.heap.size wr).drew).mono ?_
                  rintro r wyq5xa10 ⟨rfl, hb2⟩
                  have Z2 : Hid (Below wr.heap.size wr wyq5xa10) := grow_on (Below.refl wr.heap.size wr).drew hb2
                  clear hb2
                  try rw [hd]
                  clear hHeld
                  refine hK.out _ _ (HS9.out _ Z2.out) (fun hHeld => ?_)
                  clear hK K
                  try go_frame
                  refine wpAnyH_done (by kernel_rfl) ?_ _
                  clear hHeld HS9 HSS
                  go_wp2
                  go_ret
                  exact ⟨retB HE.out.symm, grow_on HB.out (grow_on HBJ.out Z2.out)⟩
                | false =>
                  have HQ1 : Hid (∀ q, q < j + 1 → (nthG U q).key ≠ (nthG U k).key) := fun q hq => by
                    by_cases e : q = j
                    · rw [e]; exact of_decide_eq_false hd
                    · exact HQ.out q (by omega)
                  go_upto_region 9 with fail
                  refine wp_region_held_drew (S := fun w' => w'.cell? ⟨b, off + j * 5 + 1, none⟩ = some (.slice ja (nthG U j).key.length jc) ∧ w'.cell? ⟨b, off + k * 5 + 1, none⟩ = some (.slice ka (nthG U k).key.length kc)) (by kernel_rfl) (HS9.out _ (Below.refl wr.heap.size wr).drew) (fun hHeld => ?_)
                  refine tk 0 ⟨some 43, .move (.tmp 0), 24, "l12_groups.go:11", #[], none⟩ hHeld ?_
                  try go_frame
                  refine tk 1 ⟨some 44, .move (.tmp 6), 3, "l12_groups.go:11", #[], none⟩ hHeld ?_
                  try go_frame
                  refine tk 2 ⟨some 45, .indexAddr 24 (.tmp 43) (.tmp 44), 0, "l12_groups.go:11", #[⟨0, .data⟩, ⟨1, .data⟩], none⟩ hHeld ?_
                  try go_frame
                  refine tk 3 ⟨some 46, .fieldAddr 53 (.tmp 45) 1, 0, "l12_groups.go:11", #[⟨2, .data⟩], none⟩ hHeld ?_
                  try go_frame
                  refine tk 4 ⟨some 47, .load 25 (.tmp 46), 25, "l12_groups.go:11", #[⟨3, .data⟩], none⟩ hHeld ?_
                  try go_frame
                  refine tk 5 ⟨some 48, .move (.tmp 0), 24, "l12_groups.go:11", #[], none⟩ hHeld ?_
                  try go_frame
                  refine tk 6 ⟨some 49, .move (.tmp 5), 3, "l12_groups.go:11", #[], none⟩ hHeld ?_
                  try go_frame
                  refine tk 7 ⟨some 50, .indexAddr 24 (.tmp 48) (.tmp 49), 0, "l12_groups.go:11", #[⟨5, .data⟩, ⟨6, .data⟩], none⟩ hHeld ?_
                  try go_frame
                  refine tk 8 ⟨some 51, .fieldAddr 53 (.tmp 50) 1, 0, "l12_groups.go:11", #[⟨7, .data⟩], none⟩ hHeld ?_
                  try go_frame
                  refine tk 9 ⟨some 52, .load 25 (.tmp 51), 25, "l12_groups.go:11", #[⟨8, .data⟩], none⟩ hHeld ?_
                  try go_frame
                  refine rd1 10 ⟨some 53, .call { callee := .value (.func 49), args := #[.tmp 47, .tmp 52], argTypes := #[25, 25] }, 4, "l12_groups.go:11", #[⟨4, .data⟩, ⟨9, .data⟩], none⟩ (fun K hK => ?_)
                  go_simp
                  refine (HSS.out _ (Below.refl wr.heap.size wr).drew).mono ?_
                  rintro r wyq5xb10 ⟨rfl, hb2⟩
                  have Z2 : Hid (Below wr.heap.size wr wyq5xb10) := grow_on (Below.refl wr.heap.size wr).drew hb2
                  clear hb2
                  try rw [hd]
                  clear hHeld
                  refine hK.out _ _ (HS9.out _ Z2.out) (fun hHeld => ?_)
                  clear hK K
                  try go_frame
                  refine wpAnyH_done (by kernel_rfl) ?_ _
                  clear hHeld HS9 HSS
                  go_wp2
                  go_roundw
                  case rel => exact ⟨j + 1, by go_num, by omega, HQ1.out, grow_on HBJ.out Z2.out⟩
                  case measure => simp [intOf]; omega
              · have hje : ¬ (j : Int) < (k : Int) := by omega
                have HU1 : Hid (∀ i, i < k + 1 → okG U by' i = true) := fun i hi => by
                  by_cases e : i = k
                  · rw [e]; unfold okG; rw [HG1.out, HUP.out, keyOk_good (fun q hq => HQ.out q (by omega))]; rfl
                  · exact HU.out i (by omega)
                go_wp2
                go_roundw
                case rel => exact ⟨k + 1, by go_num, by omega, HU1.out, grow_on HB.out HBJ.out⟩
                case measure => simp [intOf]; omega
          ·
            have hge : (nthG U k).n ≤ (nthG U m).n := by omega
            have hge2 : decide ((nthG U k).n ≤ (nthG U m).n) = true := decide_eq_true hge
            have HE : Hid (groupsB U by' = false) := groups_bad hlt (by unfold okG upOk; rw [hmk, decide_eq_false hup, decide_eq_false k0]; simp)
            clear hmk k0 hup
            go_upto_region 4 with fail
            have HS : Hid (∀ w', Below z.heap.size z w' → w'.cell? ⟨b, off + k * 5, none⟩ = some (.int .i64 (nthG U k).n) ∧ w'.cell? ⟨b, off + k * 5 + 1, none⟩ = some (.slice ka (nthG U k).key.length kc) ∧ w'.cell? ⟨b, off + k * 5 + 2, none⟩ = some (.int .i64 (nthG U k).b) ∧ w'.cell? ⟨b, off + k * 5 + 3, none⟩ = some (.int .i64 (nthG U k).t) ∧ w'.cell? ⟨b, off + k * 5 + 4, none⟩ = some (.slice ad (nthG U k).P.length cp) ∧ w'.cell? ⟨b, off + m * 5, none⟩ = some (.int .i64 (nthG U m).n)) := fun w' h => ⟨(h.cell (p := ⟨b, off + k * 5, none⟩) hbz).trans HA.out.c0, (h.cell (p := ⟨b, off + k * 5 + 1, none⟩) hbz).trans HA.out.c1, (h.cell (p := ⟨b, off + k * 5 + 2, none⟩) hbz).trans HA.out.c2, (h.cell (p := ⟨b, off + k * 5 + 3, none⟩) hbz).trans HA.out.c3, (h.cell (p := ⟨b, off + k * 5 + 4, none⟩) hbz).trans HA.out.c4, (h.cell (p := ⟨b, off + m * 5, none⟩) hbz).trans hmc⟩
            refine wp_region_held_drew (S := fun w' => w'.cell? ⟨b, off + k * 5, none⟩ = some (.int .i64 (nthG U k).n) ∧ w'.cell? ⟨b, off + k * 5 + 1, none⟩ = some (.slice ka (nthG U k).key.length kc) ∧ w'.cell? ⟨b, off + k * 5 + 2, none⟩ = some (.int .i64 (nthG U k).b) ∧ w'.cell? ⟨b, off + k * 5 + 3, none⟩ = some (.int .i64 (nthG U k).t) ∧ w'.cell? ⟨b, off + k * 5 + 4, none⟩ = some (.slice ad (nthG U k).P.length cp) ∧ w'.cell? ⟨b, off + m * 5, none⟩ = some (.int .i64 (nthG U m).n)) (by kernel_rfl) (HS.out _ (Below.refl z.heap.size z).drew) (fun hHeld => ?_)
            refine tk 0 ⟨some 13, .move (.tmp 0), 24, "l12_groups.go:7", #[], none⟩ hHeld ?_
            try go_frame
            refine tk 1 ⟨some 14, .move (.tmp 5), 3, "l12_groups.go:7", #[], none⟩ hHeld ?_
            try go_frame
            refine tk 2 ⟨some 15, .indexAddr 24 (.tmp 13) (.tmp 14), 0, "l12_groups.go:7", #[⟨0, .data⟩, ⟨1, .data⟩], none⟩ hHeld ?_
            try go_frame
            refine tk 3 ⟨some 16, .load 53 (.tmp 15), 53, "l12_groups.go:7", #[⟨2, .data⟩], none⟩ hHeld ?_
            try go_frame
            refine tk 4 ⟨some 17, .move (.tmp 1), 28, "l12_groups.go:7", #[], none⟩ hHeld ?_
            try go_frame
            refine rd1 5 ⟨some 18, .call { callee := .value (.func 48), args := #[.tmp 16, .tmp 17], argTypes := #[53, 28] }, 4, "l12_groups.go:7", #[⟨3, .data⟩, ⟨4, .data⟩], none⟩ (fun K hK => ?_)
            go_simp
            refine (HOK.out _ (Below.refl z.heap.size z).drew).mono ?_
            rintro r wyq6x5 ⟨rfl, hb1⟩
            have Z1 : Hid (Below z.heap.size z wyq6x5) := grow_on (Below.refl z.heap.size z).drew hb1
            clear hb1
            try rw [hg1]
            clear hHeld
            refine hK.out _ _ (HS.out _ Z1.out) (fun hHeld => ?_)
            clear hK K
            try go_frame
            refine tk 6 ⟨some 19, .unOp .not 4 (.tmp 18), 4, "l12_groups.go:7", #[⟨5, .data⟩], none⟩ hHeld ?_
            try go_frame
            refine tk 7 ⟨some 20, .move (.tmp 19), 4, "l12_groups.go:7", #[⟨6, .data⟩, ⟨5, .chain⟩], none⟩ hHeld ?_
            try go_frame
            refine tk 8 ⟨some 21, .move (.tmp 5), 3, "l12_groups.go:7", #[⟨7, .guard⟩], some (7, false)⟩ hHeld ?_
            try go_frame
            refine tk 9 ⟨some 22, .binOp .gtr 3 (.tmp 21) (.const (.int .i64 0)) 3, 4, "l12_groups.go:7", #[⟨8, .data⟩, ⟨7, .guard⟩], some (7, false)⟩ hHeld ?_
            try go_frame
            refine tk 10 ⟨some 23, .move (.tmp 22), 4, "l12_groups.go:7", #[⟨9, .data⟩, ⟨7, .chain⟩, ⟨7, .guard⟩], some (7, false)⟩ hHeld ?_
            try go_frame
            refine tk 11 ⟨some 24, .move (.tmp 0), 24, "l12_groups.go:7", #[⟨10, .guard⟩], some (10, true)⟩ hHeld ?_
            try go_frame
            refine tk 12 ⟨some 25, .move (.tmp 5), 3, "l12_groups.go:7", #[⟨10, .guard⟩], some (10, true)⟩ hHeld ?_
            try go_frame
            refine tk 13 ⟨some 26, .binOp .sub 3 (.tmp 25) (.const (.int .i64 1)) 3, 3, "l12_groups.go:7", #[⟨12, .data⟩, ⟨10, .guard⟩], some (10, true)⟩ hHeld ?_
            try go_frame
            refine tk 14 ⟨some 27, .indexAddr 24 (.tmp 24) (.tmp 26), 0, "l12_groups.go:7", #[⟨11, .data⟩, ⟨13, .data⟩, ⟨10, .guard⟩], some (10, true)⟩ hHeld ?_
            try go_frame
            refine tk 15 ⟨some 28, .fieldAddr 53 (.tmp 27) 0, 0, "l12_groups.go:7", #[⟨14, .data⟩, ⟨10, .guard⟩], some (10, true)⟩ hHeld ?_
            try go_frame
            refine tk 16 ⟨some 29, .load 3 (.tmp 28), 3, "l12_groups.go:7", #[⟨15, .data⟩, ⟨10, .guard⟩], some (10, true)⟩ hHeld ?_
            try go_frame
            refine tk 17 ⟨some 30, .move (.tmp 0), 24, "l12_groups.go:7", #[⟨10, .guard⟩], some (10, true)⟩ hHeld ?_
            try go_frame
            refine tk 18 ⟨some 31, .move (.tmp 5), 3, "l12_groups.go:7", #[⟨10, .guard⟩], some (10, true)⟩ hHeld ?_
            try go_frame
            refine tk 19 ⟨some 32, .indexAddr 24 (.tmp 30) (.tmp 31), 0, "l12_groups.go:7", #[⟨17, .data⟩, ⟨18, .data⟩, ⟨10, .guard⟩], some (10, true)⟩ hHeld ?_
            try go_frame
            refine tk 20 ⟨some 33, .fieldAddr 53 (.tmp 32) 0, 0, "l12_groups.go:7", #[⟨19, .data⟩, ⟨10, .guard⟩], some (10, true)⟩ hHeld ?_
            try go_frame
            refine tk 21 ⟨some 34, .load 3 (.tmp 33), 3, "l12_groups.go:7", #[⟨20, .data⟩, ⟨10, .guard⟩], some (10, true)⟩ hHeld ?_
            try go_frame
            refine tk 22 ⟨some 35, .binOp .geq 3 (.tmp 29) (.tmp 34) 3, 4, "l12_groups.go:7", #[⟨16, .data⟩, ⟨21, .data⟩, ⟨10, .guard⟩], some (10, true)⟩ hHeld ?_
            try go_frame
            refine tk 23 ⟨some 36, .pick (.tmp 23) (.tmp 35) (.const (.bool false)), 4, "l12_groups.go:7", #[⟨10, .data⟩, ⟨22, .data⟩, ⟨7, .guard⟩], some (7, false)⟩ hHeld ?_
            try go_frame
            refine tk 24 ⟨some 37, .pick (.tmp 20) (.const (.bool true)) (.tmp 36), 4, "l12_groups.go:7", #[⟨7, .data⟩, ⟨23, .data⟩], none⟩ hHeld ?_
            try go_frame
            refine wpAnyH_done (by kernel_rfl) ?_ _
            clear hHeld HS
            go_wp2
            go_ret
            exact ⟨retB HE.out.symm, grow_on HB.out Z1.out⟩
    · have hge : ¬ (k : Int) < (U.length : Int) := by omega
      have HE : Hid (groupsB U by' = decide (U.length ≤ 12)) := groups_all fun j hj => HU.out j (by omega)
      by_cases h12 : U.length ≤ 12
      · have h12' : (U.length : Int) ≤ 12 := by omega
        replace HE : Hid (groupsB U by' = true) := by unfold Hid; rw [HE.out, decide_eq_true h12]
        go_wp2
        go_ret
        exact ⟨retB HE.out.symm, HB.out⟩
      · have h12' : ¬ (U.length : Int) ≤ 12 := by omega
        replace HE : Hid (groupsB U by' = false) := by unfold Hid; rw [HE.out, decide_eq_false h12]
        go_wp2
        go_ret
        exact ⟨retB HE.out.symm, HB.out⟩
end Go.Proofs.YtgncimlojbnbfaaGreat.GpG
namespace Go.Proofs.YtgncimlojbnbfaaGreat.GpIa
open Go.RowKit
open Labs LabS Alms AlmS Over Blk App ChnI ChnC Grp GrpG Gps GpD
open StrB (retB)
open Pro (RdS)
open GpG
theorem first_here {U : List PGr} {k : Nat} (hk : k < U.length) (h : keyOk U k = true) : ofI (keyIs (nthG U k).key) U = (k : Int) := by
  refine ofI_at hk (fun j hj => ?_) (decide_eq_true rfl)
  unfold keyOk at h
  have := (List.all_eq_true.1 h) j (List.mem_range.2 hj)
  simpa [keyIs] using this
theorem first_other {U : List PGr} {k : Nat} (hk : k < U.length) (h : keyOk U k = false) : ofI (keyIs (nthG U k).key) U ≠ (k : Int) := by
  unfold keyOk at h
  rw [List.all_eq_false] at h
  obtain ⟨j, hj, hd⟩ := h
  have hjk := List.mem_range.1 hj
  have he : (nthG U j).key = (nthG U k).key := by simpa using hd
  rcases ofI_cases (keyIs (nthG U k).key) U with ⟨h1, _⟩ | ⟨i, h1, h2, h3, h4⟩
  · omega
  · intro e
    have : i = k := by omega
    subst this
    have := h4 j hjk
    rw [keyIs, decide_eq_true he] at this
    cases this
set_option maxRecDepth 100000 in
set_option maxHeartbeats 6400000 in
theorem implGroups_any (a ba : Option Addr) (cap bc : Nat) (U : List PGr) (by' : List ByteArray) (w : World) (hr : RdGs GA w a U) (hl : U.length ≤ 1048576) (hz : FitsG U) (hs : SmP U) (hb : RdS w ba by') (hbl : by'.length ≤ maxLen) :
    Calls Tryz.prog 17 #[.slice a U.length cap, .slice ba by'.length bc] w fun e w' => e = .returned (.bool (groupsB U by')) ∧ Below w.heap.size w w' := by
  have HR : Hid (RdGs GA w a U ∧ FitsG U ∧ SmP U) := ⟨hr, hz, hs⟩
  have HY : Hid (RdS w ba by' ∧ by'.length ≤ maxLen) := ⟨hb, hbl⟩
  clear hr hz hs hb hbl
  go_enter Tryz.func17, Tryz.ntmps17
  by_cases h12 : (12 : Int) < (U.length : Int)
  · have HE : Hid (groupsB U by' = false) := by unfold Hid groupsB; rw [decide_eq_false (show ¬ U.length ≤ 12 by omega)]; simp
    go_wp2
    go_ret
    exact ⟨retB HE.out.symm, Below.refl _ _⟩
  have H12 : Hid (U.length ≤ 12) := by unfold Hid; omega
  go_wp2
  go_loopw [12] (fun i w' => ∃ k : Nat, i = .int .i64 k ∧ k ≤ U.length ∧ (∀ j, j < k → okG U by' j = true) ∧ Below w.heap.size w w') (fun i _ => U.length - (intOf i).toNat)
  case atStart => exact ⟨0, rfl, Nat.zero_le _, fun j hj => by omega, Below.refl _ _⟩
  case round =>
    obtain ⟨k, rfl, hk, hu, hw0⟩ := hrel
    have HU : Hid (∀ j, j < k → okG U by' j = true) := hu
    have HB : Hid (Below w.heap.size w wr) := hw0
    generalize wr = z at *
    clear hu hw0
    by_cases hlt : k < U.length
    · have hlt' : (k : Int) < (U.length : Int) := by omega
      obtain ⟨b, off, rfl, hbz, ka, kc, ad, cp, hat⟩ := (HR.out.1.below stays_ga HB.out).get hlt
      have x0 := hat.c0
      have x1 := hat.c1
      have x2 := hat.c2
      have x3 := hat.c3
      have x4 := hat.c4
      have HA : Hid (AtG GA z b off k (nthG U k) ka kc ad cp) := hat
      have HF : Hid (FitG (nthG U k)) := HR.out.2.1 _ (nthG_mem hlt)
      have HSP : Hid ((nthG U k).P.length ≤ 1048576 ∧ LenM (nthG U k).P) := HR.out.2.2 _ (nthG_mem hlt)
      have HRR : Hid (∀ y, Below z.heap.size z y → ∀ j, j < U.length → ∃ ka kc ad cp, AtG GA y b off j (nthG U j) ka kc ad cp) := fun y hy j hj => by
        obtain ⟨b', off', e, _, ka, kc, ad, cp, h⟩ := (HR.out.1.below stays_ga (grow_on HB.out hy)).get hj
        cases e
        exact ⟨ka, kc, ad, cp, h⟩
      have HOK : Hid (∀ y, Below z.heap.size z y → Calls Tryz.prog 47 #[.agg #[.int .i64 (nthG U k).n, .slice ka (nthG U k).key.length kc, .int .i64 (nthG U k).b, .int .i64 (nthG U k).t, .slice ad (nthG U k).P.length cp], .slice ba by'.length bc] y fun e w' => e = .returned (.bool (oneOk by' (nthG U k))) ∧ Below y.heap.size y w') := fun y hy => Go.Proofs.YtgncimlojbnbfaaGreat.GrpI.implGroup_any (nthG U k).n (nthG U k).b (nthG U k).t ka kc (nthG U k).key ad cp (nthG U k).P ba bc by' y (HA.out.reads.1.below hy) HF.out.klen HF.out.kfit (HA.out.reads.2.below hy) HSP.out.1 HF.out.fits HSP.out.2 (HY.out.1.below (grow_on HB.out hy)) HY.out.2
      have HOF : Hid (∀ y, Below z.heap.size z y → Calls Tryz.prog 19 #[.slice (some ⟨b, off, none⟩) U.length cap, .slice ka (nthG U k).key.length kc] y fun e w' => e = .returned (.int .i64 (ofI (keyIs (nthG U k).key) U)) ∧ Below y.heap.size y w') := fun y hy => GpIo.implOf_any (some ⟨b, off, none⟩) ka cap kc U (nthG U k).key y (HR.out.1.below stays_ga (grow_on HB.out hy)) (HA.out.reads.1.below hy) hl HF.out.klen (fun x hx => (HR.out.2.1 x hx).klen)
      generalize hW1 : z.alloc (.cells #[.int .i64 (nthG U k).n, .slice ka (nthG U k).key.length kc, .int .i64 (nthG U k).b, .int .i64 (nthG U k).t, .slice ad (nthG U k).P.length cp] 53) = W1
      have HZ1 : Hid (Below z.heap.size z W1) := by rw [← hW1]; exact Go.Joins.below_alloc1 z _
      have BG : Hid (Blk W1 z.heap.size #[.int .i64 (nthG U k).n, .slice ka (nthG U k).key.length kc, .int .i64 (nthG U k).b, .int .i64 (nthG U k).t, .slice ad (nthG U k).P.length cp] 53) := by rw [← hW1]; exact Blk.new _ _ _
      clear hat
      cases hg1 : oneOk by' (nthG U k) with
      | false =>
        have HE : Hid (groupsB U by' = false) := groups_bad hlt (by unfold okG; rw [hg1]; rfl)
        go_upto_region 6 with fail
        try rw [hW1]
        clear hW1 x0 x1 x2 x3 x4
        have HS : Hid (∀ w', Below W1.heap.size W1 w' → w'.cell? ⟨z.heap.size, 0, none⟩ = some (.int .i64 (nthG U k).n) ∧ w'.cell? ⟨z.heap.size, 1, none⟩ = some (.slice ka (nthG U k).key.length kc) ∧ w'.cell? ⟨z.heap.size, 2, none⟩ = some (.int .i64 (nthG U k).b) ∧ w'.cell? ⟨z.heap.size, 3, none⟩ = some (.int .i64 (nthG U k).t) ∧ w'.cell? ⟨z.heap.size, 4, none⟩ = some (.slice ad (nthG U k).P.length cp)) := fun w' h => ⟨(BG.out.grow h).cell 0, (BG.out.grow h).cell 1, (BG.out.grow h).cell 2, (BG.out.grow h).cell 3, (BG.out.grow h).cell 4⟩
        refine wp_region_held_drew (S := fun w' => w'.cell? ⟨z.heap.size, 0, none⟩ = some (.int .i64 (nthG U k).n) ∧ w'.cell? ⟨z.heap.size, 1, none⟩ = some (.slice ka (nthG U k).key.length kc) ∧ w'.cell? ⟨z.heap.size, 2, none⟩ = some (.int .i64 (nthG U k).b) ∧ w'.cell? ⟨z.heap.size, 3, none⟩ = some (.int .i64 (nthG U k).t) ∧ w'.cell? ⟨z.heap.size, 4, none⟩ = some (.slice ad (nthG U k).P.length cp)) (by kernel_rfl) (HS.out _ (Below.refl W1.heap.size W1).drew) (fun hHeld => ?_)
        refine tk 0 ⟨some 17, .load 53 (.tmp 6), 53, "l12_groups.go:44", #[], none⟩ hHeld ?_
        try go_frame
        refine tk 1 ⟨some 18, .move (.tmp 1), 28, "l12_groups.go:44", #[], none⟩ hHeld ?_
        try go_frame
        refine rd1 2 ⟨some 19, .call { callee := .value (.func 47), args := #[.tmp 17, .tmp 18], argTypes := #[53, 28] }, 4, "l12_groups.go:44", #[⟨0, .data⟩, ⟨1, .data⟩], none⟩ (fun K hK => ?_)
        go_simp
        refine (HOK.out _ (grow_on HZ1.out (Below.refl W1.heap.size W1).drew)).mono ?_
        rintro r wyq1x2 ⟨rfl, hb1⟩
        have Z1 : Hid (Below W1.heap.size W1 wyq1x2) := grow_on (Below.refl W1.heap.size W1).drew hb1
        clear hb1
        try rw [hg1]
        clear hHeld
        refine hK.out _ _ (HS.out _ Z1.out) (fun hHeld => ?_)
        clear hK K
        try go_frame
        refine tk 3 ⟨some 20, .unOp .not 4 (.tmp 19), 4, "l12_groups.go:44", #[⟨2, .data⟩], none⟩ hHeld ?_
        try go_frame
        refine tk 4 ⟨some 21, .move (.tmp 20), 4, "l12_groups.go:44", #[⟨3, .data⟩, ⟨2, .chain⟩], none⟩ hHeld ?_
        try go_frame
        refine sk 5 ⟨some 22, .move (.tmp 5), 3, "l12_groups.go:44", #[⟨4, .guard⟩], some (4, false)⟩ hHeld ?_
        try go_frame
        refine sk 6 ⟨some 23, .binOp .gtr 3 (.tmp 22) (.const (.int .i64 0)) 3, 4, "l12_groups.go:44", #[⟨5, .data⟩, ⟨4, .guard⟩], some (4, false)⟩ hHeld ?_
        try go_frame
        refine sk 7 ⟨some 24, .move (.tmp 23), 4, "l12_groups.go:44", #[⟨6, .data⟩, ⟨4, .chain⟩, ⟨4, .guard⟩], some (4, false)⟩ hHeld ?_
        try go_frame
        refine sk 8 ⟨some 25, .move (.tmp 0), 24, "l12_groups.go:44", #[⟨7, .guard⟩], some (7, true)⟩ hHeld ?_
        try go_frame
        refine sk 9 ⟨some 26, .move (.tmp 5), 3, "l12_groups.go:44", #[⟨7, .guard⟩], some (7, true)⟩ hHeld ?_
        try go_frame
        refine sk 10 ⟨some 27, .binOp .sub 3 (.tmp 26) (.const (.int .i64 1)) 3, 3, "l12_groups.go:44", #[⟨9, .data⟩, ⟨7, .guard⟩], some (7, true)⟩ hHeld ?_
        try go_frame
        refine sk 11 ⟨some 28, .indexAddr 24 (.tmp 25) (.tmp 27), 0, "l12_groups.go:44", #[⟨8, .data⟩, ⟨10, .data⟩, ⟨7, .guard⟩], some (7, true)⟩ hHeld ?_
        try go_frame
        refine sk 12 ⟨some 29, .fieldAddr 53 (.tmp 28) 0, 0, "l12_groups.go:44", #[⟨11, .data⟩, ⟨7, .guard⟩], some (7, true)⟩ hHeld ?_
        try go_frame
        refine sk 13 ⟨some 30, .load 3 (.tmp 29), 3, "l12_groups.go:44", #[⟨12, .data⟩, ⟨7, .guard⟩], some (7, true)⟩ hHeld ?_
        try go_frame
        refine sk 14 ⟨some 31, .fieldAddr 53 (.tmp 6) 0, 0, "l12_groups.go:44", #[⟨7, .guard⟩], some (7, true)⟩ hHeld ?_
        try go_frame
        refine sk 15 ⟨some 32, .load 3 (.tmp 31), 3, "l12_groups.go:44", #[⟨14, .data⟩, ⟨7, .guard⟩], some (7, true)⟩ hHeld ?_
        try go_frame
        refine sk 16 ⟨some 33, .binOp .geq 3 (.tmp 30) (.tmp 32) 3, 4, "l12_groups.go:44", #[⟨13, .data⟩, ⟨15, .data⟩, ⟨7, .guard⟩], some (7, true)⟩ hHeld ?_
        try go_frame
        refine sk 17 ⟨some 34, .pick (.tmp 24) (.tmp 33) (.const (.bool false)), 4, "l12_groups.go:44", #[⟨7, .data⟩, ⟨16, .data⟩, ⟨4, .guard⟩], some (4, false)⟩ hHeld ?_
        try go_frame
        refine tk 18 ⟨some 35, .pick (.tmp 21) (.const (.bool true)) (.tmp 34), 4, "l12_groups.go:44", #[⟨4, .data⟩, ⟨17, .data⟩], none⟩ hHeld ?_
        try go_frame
        refine wpAnyH_done (by kernel_rfl) ?_ _
        clear hHeld HS
        go_wp2
        go_ret
        exact ⟨retB HE.out.symm, grow_on HB.out (grow_on HZ1.out Z1.out)⟩
      | true =>
        by_cases k0 : k = 0
        ·
          have K0 : Hid (k = 0) := k0
          have bk : decide (0 < k) = false := decide_eq_false (by omega)
          clear k0
          go_upto_region 6 with fail
          try rw [hW1]
          clear hW1 x0 x1 x2 x3 x4
          have HS : Hid (∀ w', Below W1.heap.size W1 w' → w'.cell? ⟨z.heap.size, 0, none⟩ = some (.int .i64 (nthG U k).n) ∧ w'.cell? ⟨z.heap.size, 1, none⟩ = some (.slice ka (nthG U k).key.length kc) ∧ w'.cell? ⟨z.heap.size, 2, none⟩ = some (.int .i64 (nthG U k).b) ∧ w'.cell? ⟨z.heap.size, 3, none⟩ = some (.int .i64 (nthG U k).t) ∧ w'.cell? ⟨z.heap.size, 4, none⟩ = some (.slice ad (nthG U k).P.length cp)) := fun w' h => ⟨(BG.out.grow h).cell 0, (BG.out.grow h).cell 1, (BG.out.grow h).cell 2, (BG.out.grow h).cell 3, (BG.out.grow h).cell 4⟩
          refine wp_region_held_drew (S := fun w' => w'.cell? ⟨z.heap.size, 0, none⟩ = some (.int .i64 (nthG U k).n) ∧ w'.cell? ⟨z.heap.size, 1, none⟩ = some (.slice ka (nthG U k).key.length kc) ∧ w'.cell? ⟨z.heap.size, 2, none⟩ = some (.int .i64 (nthG U k).b) ∧ w'.cell? ⟨z.heap.size, 3, none⟩ = some (.int .i64 (nthG U k).t) ∧ w'.cell? ⟨z.heap.size, 4, none⟩ = some (.slice ad (nthG U k).P.length cp)) (by kernel_rfl) (HS.out _ (Below.refl W1.heap.size W1).drew) (fun hHeld => ?_)
          refine tk 0 ⟨some 17, .load 53 (.tmp 6), 53, "l12_groups.go:44", #[], none⟩ hHeld ?_
          try go_frame
          refine tk 1 ⟨some 18, .move (.tmp 1), 28, "l12_groups.go:44", #[], none⟩ hHeld ?_
          try go_frame
          refine rd1 2 ⟨some 19, .call { callee := .value (.func 47), args := #[.tmp 17, .tmp 18], argTypes := #[53, 28] }, 4, "l12_groups.go:44", #[⟨0, .data⟩, ⟨1, .data⟩], none⟩ (fun K hK => ?_)
          go_simp
          refine (HOK.out _ (grow_on HZ1.out (Below.refl W1.heap.size W1).drew)).mono ?_
          rintro r wyq2x2 ⟨rfl, hb1⟩
          have Z1 : Hid (Below W1.heap.size W1 wyq2x2) := grow_on (Below.refl W1.heap.size W1).drew hb1
          clear hb1
          try rw [hg1]
          clear hHeld
          refine hK.out _ _ (HS.out _ Z1.out) (fun hHeld => ?_)
          clear hK K
          try go_frame
          refine tk 3 ⟨some 20, .unOp .not 4 (.tmp 19), 4, "l12_groups.go:44", #[⟨2, .data⟩], none⟩ hHeld ?_
          try go_frame
          refine tk 4 ⟨some 21, .move (.tmp 20), 4, "l12_groups.go:44", #[⟨3, .data⟩, ⟨2, .chain⟩], none⟩ hHeld ?_
          try go_frame
          refine tk 5 ⟨some 22, .move (.tmp 5), 3, "l12_groups.go:44", #[⟨4, .guard⟩], some (4, false)⟩ hHeld ?_
          try go_frame
          refine tk 6 ⟨some 23, .binOp .gtr 3 (.tmp 22) (.const (.int .i64 0)) 3, 4, "l12_groups.go:44", #[⟨5, .data⟩, ⟨4, .guard⟩], some (4, false)⟩ hHeld ?_
          try go_frame
          refine tk 7 ⟨some 24, .move (.tmp 23), 4, "l12_groups.go:44", #[⟨6, .data⟩, ⟨4, .chain⟩, ⟨4, .guard⟩], some (4, false)⟩ hHeld ?_
          try go_frame
          refine sk 8 ⟨some 25, .move (.tmp 0), 24, "l12_groups.go:44", #[⟨7, .guard⟩], some (7, true)⟩ hHeld ?_
          try go_frame
          refine sk 9 ⟨some 26, .move (.tmp 5), 3, "l12_groups.go:44", #[⟨7, .guard⟩], some (7, true)⟩ hHeld ?_
          try go_frame
          refine sk 10 ⟨some 27, .binOp .sub 3 (.tmp 26) (.const (.int .i64 1)) 3, 3, "l12_groups.go:44", #[⟨9, .data⟩, ⟨7, .guard⟩], some (7, true)⟩ hHeld ?_
          try go_frame
          refine sk 11 ⟨some 28, .indexAddr 24 (.tmp 25) (.tmp 27), 0, "l12_groups.go:44", #[⟨8, .data⟩, ⟨10, .data⟩, ⟨7, .guard⟩], some (7, true)⟩ hHeld ?_
          try go_frame
          refine sk 12 ⟨some 29, .fieldAddr 53 (.tmp 28) 0, 0, "l12_groups.go:44", #[⟨11, .data⟩, ⟨7, .guard⟩], some (7, true)⟩ hHeld ?_
          try go_frame
          refine sk 13 ⟨some 30, .load 3 (.tmp 29), 3, "l12_groups.go:44", #[⟨12, .data⟩, ⟨7, .guard⟩], some (7, true)⟩ hHeld ?_
          try go_frame
          refine sk 14 ⟨some 31, .fieldAddr 53 (.tmp 6) 0, 0, "l12_groups.go:44", #[⟨7, .guard⟩], some (7, true)⟩ hHeld ?_
          try go_frame
          refine sk 15 ⟨some 32, .load 3 (.tmp 31), 3, "l12_groups.go:44", #[⟨14, .data⟩, ⟨7, .guard⟩], some (7, true)⟩ hHeld ?_
          try go_frame
          refine sk 16 ⟨some 33, .binOp .geq 3 (.tmp 30) (.tmp 32) 3, 4, "l12_groups.go:44", #[⟨13, .data⟩, ⟨15, .data⟩, ⟨7, .guard⟩], some (7, true)⟩ hHeld ?_
          try go_frame
          refine tk 17 ⟨some 34, .pick (.tmp 24) (.tmp 33) (.const (.bool false)), 4, "l12_groups.go:44", #[⟨7, .data⟩, ⟨16, .data⟩, ⟨4, .guard⟩], some (4, false)⟩ hHeld ?_
          try go_frame
          refine tk 18 ⟨some 35, .pick (.tmp 21) (.const (.bool true)) (.tmp 34), 4, "l12_groups.go:44", #[⟨4, .data⟩, ⟨17, .data⟩], none⟩ hHeld ?_
          try go_frame
          refine wpAnyH_done (by kernel_rfl) ?_ _
          clear hHeld HS
          have HUP : Hid (upOk U k = true) := by unfold Hid upOk; rw [decide_eq_true K0.out]; rfl
          have HG1 : Hid (oneOk by' (nthG U k) = true) := hg1
          have HZ2 : Hid (Below z.heap.size z _) := grow_on HZ1.out Z1.out
          have BG2 := BG.out.grow Z1.out
          have g1 := BG2.cell 1
          simp at g1
          clear hg1 HOK HSP BG2
          cases hd : keyOk U k with
          | true =>
            have e1 := first_here hlt hd
            have HQ : Hid (ofI (keyIs (nthG U k).key) U = (k : Int)) := e1
            have HD : Hid (keyOk U k = true) := hd
            have en : ((k : Int) != (k : Int)) = false := by simp
            clear e1 hd
            go_wp2_with fail
            refine (HOF.out _ HZ2.out).mono ?_
            rintro e w3 ⟨rfl, hb3⟩
            have HZ3 : Hid (Below z.heap.size z w3) := grow_on HZ2.out hb3
            rw [HQ.out]
            have HU1 : Hid (∀ i, i < k + 1 → okG U by' i = true) := fun i hi => by
              by_cases e : i = k
              · rw [e]; unfold okG; rw [HG1.out, HUP.out, HD.out]; rfl
              · exact HU.out i (by omega)
            clear hb3 g1 HOF
            go_wp2
            go_roundw
            case rel => exact ⟨k + 1, by go_num, by omega, HU1.out, grow_on HB.out HZ3.out⟩
            case measure => simp [intOf]; omega
          | false =>
            have e1 := first_other hlt hd
            have HE : Hid (groupsB U by' = false) := groups_bad hlt (by unfold okG; rw [hd]; simp)
            generalize hq : ofI (keyIs (nthG U k).key) U = q at *
            have en : (q != (k : Int)) = true := by simpa using e1
            clear e1 hd hq
            go_wp2_with fail
            refine (HOF.out _ HZ2.out).mono ?_
            rintro e w3 ⟨rfl, hb3⟩
            have HZ3 : Hid (Below z.heap.size z w3) := grow_on HZ2.out hb3
            clear hb3 g1 HOF
            go_wp2
            go_ret
            exact ⟨retB HE.out.symm, grow_on HB.out HZ3.out⟩
        · have hk0 : (0 : Int) < (k : Int) := by omega
          have bk : decide (0 < k) = true := decide_eq_true (by omega)
          obtain ⟨m, hm⟩ : ∃ m, k = m + 1 := ⟨k - 1, by omega⟩
          have em : (k : Int) - 1 = (m : Int) := by omega
          have hml : m < U.length := by omega
          have hml' : (m : Int) < (U.length : Int) := by omega
          have hwm : IntKind.i64.wrap (m : Int) = (m : Int) := by rw [IntKind.wrap_i64]; omega
          have hmk : k - 1 = m := by omega
          obtain ⟨_, _, _, _, hatm⟩ := HRR.out z (Below.refl _ _) m hml
          have hmc := hatm.c0
          clear hatm hm
          by_cases hup : (nthG U m).n < (nthG U k).n
          ·
            have hge : decide ((nthG U m).n ≥ (nthG U k).n) = false := decide_eq_false (by omega)
            have hge2 : decide ((nthG U k).n ≤ (nthG U m).n) = false := decide_eq_false (by omega)
            have hng : ¬ (nthG U k).n ≤ (nthG U m).n := by omega
            have HU0 : Hid (upOk U k = true) := by unfold Hid upOk; rw [hmk, decide_eq_true hup]; simp
            clear hmk k0 hup
            go_upto_region 6 with fail
            try rw [hW1]
            clear hW1 x0 x1 x2 x3 x4
            have HS : Hid (∀ w', Below W1.heap.size W1 w' → w'.cell? ⟨z.heap.size, 0, none⟩ = some (.int .i64 (nthG U k).n) ∧ w'.cell? ⟨z.heap.size, 1, none⟩ = some (.slice ka (nthG U k).key.length kc) ∧ w'.cell? ⟨z.heap.size, 2, none⟩ = some (.int .i64 (nthG U k).b) ∧ w'.cell? ⟨z.heap.size, 3, none⟩ = some (.int .i64 (nthG U k).t) ∧ w'.cell? ⟨z.heap.size, 4, none⟩ = some (.slice ad (nthG U k).P.length cp) ∧ w'.cell? ⟨b, off + m * 5, none⟩ = some (.int .i64 (nthG U m).n)) := fun w' h => ⟨(BG.out.grow h).cell 0, (BG.out.grow h).cell 1, (BG.out.grow h).cell 2, (BG.out.grow h).cell 3, (BG.out.grow h).cell 4, ((grow_on HZ1.out h).cell (p := ⟨b, off + m * 5, none⟩) hbz).trans hmc⟩
            refine wp_region_held_drew (S := fun w' => w'.cell? ⟨z.heap.size, 0, none⟩ = some (.int .i64 (nthG U k).n) ∧ w'.cell? ⟨z.heap.size, 1, none⟩ = some (.slice ka (nthG U k).key.length kc) ∧ w'.cell? ⟨z.heap.size, 2, none⟩ = some (.int .i64 (nthG U k).b) ∧ w'.cell? ⟨z.heap.size, 3, none⟩ = some (.int .i64 (nthG U k).t) ∧ w'.cell? ⟨z.heap.size, 4, none⟩ = some (.slice ad (nthG U k).P.length cp) ∧ w'.cell? ⟨b, off + m * 5, none⟩ = some (.int .i64 (nthG U m).n)) (by kernel_rfl) (HS.out _ (Below.refl W1.heap.size W1).drew) (fun hHeld => ?_)
            refine tk 0 ⟨some 17, .load 53 (.tmp 6), 53, "l12_groups.go:44", #[], none⟩ hHeld ?_
            try go_frame
            refine tk 1 ⟨some 18, .move (.tmp 1), 28, "l12_groups.go:44", #[], none⟩ hHeld ?_
            try go_frame
            refine rd1 2 ⟨some 19, .call { callee := .value (.func 47), args := #[.tmp 17, .tmp 18], argTypes := #[53, 28] }, 4, "l12_groups.go:44", #[⟨0, .data⟩, ⟨1, .data⟩], none⟩ (fun K hK => ?_)
            go_simp
            refine (HOK.out _ (grow_on HZ1.out (Below.refl W1.heap.size W1).drew)).mono ?_
            rintro r wyq3x2 ⟨rfl, hb1⟩
            have Z1 : Hid (Below W1.heap.size W1 wyq3x2) := grow_on (Below.refl W1.heap.size W1).drew hb1
            clear hb1
            try rw [hg1]
            clear hHeld
            refine hK.out _ _ (HS.out _ Z1.out) (fun hHeld => ?_)
            clear hK K
            try go_frame
            refine tk 3 ⟨some 20, .unOp .not 4 (.tmp 19), 4, "l12_groups.go:44", #[⟨2, .data⟩], none⟩ hHeld ?_
            try go_frame
            refine tk 4 ⟨some 21, .move (.tmp 20), 4, "l12_groups.go:44", #[⟨3, .data⟩, ⟨2, .chain⟩], none⟩ hHeld ?_
            try go_frame
            refine tk 5 ⟨some 22, .move (.tmp 5), 3, "l12_groups.go:44", #[⟨4, .guard⟩], some (4, false)⟩ hHeld ?_
            try go_frame
            refine tk 6 ⟨some 23, .binOp .gtr 3 (.tmp 22) (.const (.int .i64 0)) 3, 4, "l12_groups.go:44", #[⟨5, .data⟩, ⟨4, .guard⟩], some (4, false)⟩ hHeld ?_
            try go_frame
            refine tk 7 ⟨some 24, .move (.tmp 23), 4, "l12_groups.go:44", #[⟨6, .data⟩, ⟨4, .chain⟩, ⟨4, .guard⟩], some (4, false)⟩ hHeld ?_
            try go_frame
            refine tk 8 ⟨some 25, .move (.tmp 0), 24, "l12_groups.go:44", #[⟨7, .guard⟩], some (7, true)⟩ hHeld ?_
            try go_frame
            refine tk 9 ⟨some 26, .move (.tmp 5), 3, "l12_groups.go:44", #[⟨7, .guard⟩], some (7, true)⟩ hHeld ?_
            try go_frame
            refine tk 10 ⟨some 27, .binOp .sub 3 (.tmp 26) (.const (.int .i64 1)) 3, 3, "l12_groups.go:44", #[⟨9, .data⟩, ⟨7, .guard⟩], some (7, true)⟩ hHeld ?_
            try go_frame
            refine tk 11 ⟨some 28, .indexAddr 24 (.tmp 25) (.tmp 27), 0, "l12_groups.go:44", #[⟨8, .data⟩, ⟨10, .data⟩, ⟨7, .guard⟩], some (7, true)⟩ hHeld ?_
            try go_frame
            refine tk 12 ⟨some 29, .fieldAddr 53 (.tmp 28) 0, 0, "l12_groups.go:44", #[⟨11, .data⟩, ⟨7, .guard⟩], some (7, true)⟩ hHeld ?_
            try go_frame
            refine tk 13 ⟨some 30, .load 3 (.tmp 29), 3, "l12_groups.go:44", #[⟨12, .data⟩, ⟨7, .guard⟩], some (7, true)⟩ hHeld ?_
            try go_frame
            refine tk 14 ⟨some 31, .fieldAddr 53 (.tmp 6) 0, 0, "l12_groups.go:44", #[⟨7, .guard⟩], some (7, true)⟩ hHeld ?_
            try go_frame
            refine tk 15 ⟨some 32, .load 3 (.tmp 31), 3, "l12_groups.go:44", #[⟨14, .data⟩, ⟨7, .guard⟩], some (7, true)⟩ hHeld ?_
            try go_frame
            refine tk 16 ⟨some 33, .binOp .geq 3 (.tmp 30) (.tmp 32) 3, 4, "l12_groups.go:44", #[⟨13, .data⟩, ⟨15, .data⟩, ⟨7, .guard⟩], some (7, true)⟩ hHeld ?_
            try go_frame
            refine tk 17 ⟨some 34, .pick (.tmp 24) (.tmp 33) (.const (.bool false)), 4, "l12_groups.go:44", #[⟨7, .data⟩, ⟨16, .data⟩, ⟨4, .guard⟩], some (4, false)⟩ hHeld ?_
            try go_frame
            refine tk 18 ⟨some 35, .pick (.tmp 21) (.const (.bool true)) (.tmp 34), 4, "l12_groups.go:44", #[⟨4, .data⟩, ⟨17, .data⟩], none⟩ hHeld ?_
            try go_frame
            refine wpAnyH_done (by kernel_rfl) ?_ _
            clear hHeld HS
            have HUP : Hid (upOk U k = true) := HU0.out
            have HG1 : Hid (oneOk by' (nthG U k) = true) := hg1
            have HZ2 : Hid (Below z.heap.size z _) := grow_on HZ1.out Z1.out
            have BG2 := BG.out.grow Z1.out
            have g1 := BG2.cell 1
            simp at g1
            clear hg1 HOK HSP BG2
            cases hd : keyOk U k with
            | true =>
              have e1 := first_here hlt hd
              have HQ : Hid (ofI (keyIs (nthG U k).key) U = (k : Int)) := e1
              have HD : Hid (keyOk U k = true) := hd
              have en : ((k : Int) != (k : Int)) = false := by simp
              clear e1 hd
              go_wp2_with fail
              refine (HOF.out _ HZ2.out).mono ?_
              rintro e w3 ⟨rfl, hb3⟩
              have HZ3 : Hid (Below z.heap.size z w3) := grow_on HZ2.out hb3
              rw [HQ.out]
              have HU1 : Hid (∀ i, i < k + 1 → okG U by' i = true) := fun i hi => by
                by_cases e : i = k
                · rw [e]; unfold okG; rw [HG1.out, HUP.out, HD.out]; rfl
                · exact HU.out i (by omega)
              clear hb3 g1 HOF
              go_wp2
              go_roundw
              case rel => exact ⟨k + 1, by go_num, by omega, HU1.out, grow_on HB.out HZ3.out⟩
              case measure => simp [intOf]; omega
            | false =>
              have e1 := first_other hlt hd
              have HE : Hid (groupsB U by' = false) := groups_bad hlt (by unfold okG; rw [hd]; simp)
              generalize hq : ofI (keyIs (nthG U k).key) U = q at *
              have en : (q != (k : Int)) = true := by simpa using e1
              clear e1 hd hq
              go_wp2_with fail
              refine (HOF.out _ HZ2.out).mono ?_
              rintro e w3 ⟨rfl, hb3⟩
              have HZ3 : Hid (Below z.heap.size z w3) := grow_on HZ2.out hb3
              clear hb3 g1 HOF
              go_wp2
              go_ret
              exact ⟨retB HE.out.symm, grow_on HB.out HZ3.out⟩
          ·
            have hge : (nthG U k).n ≤ (nthG U m).n := by omega
            have hge2 : decide ((nthG U k).n ≤ (nthG U m).n) = true := decide_eq_true hge
            have HE : Hid (groupsB U by' = false) := groups_bad hlt (by unfold okG upOk; rw [hmk, decide_eq_false hup, decide_eq_false k0]; simp)
            clear hmk k0 hup
            go_upto_region 6 with fail
            try rw [hW1]
            clear hW1 x0 x1 x2 x3 x4
            have HS : Hid (∀ w', Below W1.heap.size W1 w' → w'.cell? ⟨z.heap.size, 0, none⟩ = some (.int .i64 (nthG U k).n) ∧ w'.cell? ⟨z.heap.size, 1, none⟩ = some (.slice ka (nthG U k).key.length kc) ∧ w'.cell? ⟨z.heap.size, 2, none⟩ = some (.int .i64 (nthG U k).b) ∧ w'.cell? ⟨z.heap.size, 3, none⟩ = some (.int .i64 (nthG U k).t) ∧ w'.cell? ⟨z.heap.size, 4, none⟩ = some (.slice ad (nthG U k).P.length cp) ∧ w'.cell? ⟨b, off + m * 5, none⟩ = some (.int .i64 (nthG U m).n)) := fun w' h => ⟨(BG.out.grow h).cell 0, (BG.out.grow h).cell 1, (BG.out.grow h).cell 2, (BG.out.grow h).cell 3, (BG.out.grow h).cell 4, ((grow_on HZ1.out h).cell (p := ⟨b, off + m * 5, none⟩) hbz).trans hmc⟩
            refine wp_region_held_drew (S := fun w' => w'.cell? ⟨z.heap.size, 0, none⟩ = some (.int .i64 (nthG U k).n) ∧ w'.cell? ⟨z.heap.size, 1, none⟩ = some (.slice ka (nthG U k).key.length kc) ∧ w'.cell? ⟨z.heap.size, 2, none⟩ = some (.int .i64 (nthG U k).b) ∧ w'.cell? ⟨z.heap.size, 3, none⟩ = some (.int .i64 (nthG U k).t) ∧ w'.cell? ⟨z.heap.size, 4, none⟩ = some (.slice ad (nthG U k).P.length cp) ∧ w'.cell? ⟨b, off + m * 5, none⟩ = some (.int .i64 (nthG U m).n)) (by kernel_rfl) (HS.out _ (Below.refl W1.heap.size W1).drew) (fun hHeld => ?_)
            refine tk 0 ⟨some 17, .load 53 (.tmp 6), 53, "l12_groups.go:44", #[], none⟩ hHeld ?_
            try go_frame
            refine tk 1 ⟨some 18, .move (.tmp 1), 28, "l12_groups.go:44", #[], none⟩ hHeld ?_
            try go_frame
            refine rd1 2 ⟨some 19, .call { callee := .value (.func 47), args := #[.tmp 17, .tmp 18], argTypes := #[53, 28] }, 4, "l12_groups.go:44", #[⟨0, .data⟩, ⟨1, .data⟩], none⟩ (fun K hK => ?_)
            go_simp
            refine (HOK.out _ (grow_on HZ1.out (Below.refl W1.heap.size W1).drew)).mono ?_
            rintro r wyq4x2 ⟨rfl, hb1⟩
            have Z1 : Hid (Below W1.heap.size W1 wyq4x2) := grow_on (Below.refl W1.heap.size W1).drew hb1
            clear hb1
            try rw [hg1]
            clear hHeld
            refine hK.out _ _ (HS.out _ Z1.out) (fun hHeld => ?_)
            clear hK K
            try go_frame
            refine tk 3 ⟨some 20, .unOp .not 4 (.tmp 19), 4, "l12_groups.go:44", #[⟨2, .data⟩], none⟩ hHeld ?_
            try go_frame
            refine tk 4 ⟨some 21, .move (.tmp 20), 4, "l12_groups.go:44", #[⟨3, .data⟩, ⟨2, .chain⟩], none⟩ hHeld ?_
            try go_frame
            refine tk 5 ⟨some 22, .move (.tmp 5), 3, "l12_groups.go:44", #[⟨4, .guard⟩], some (4, false)⟩ hHeld ?_
            try go_frame
            refine tk 6 ⟨some 23, .binOp .gtr 3 (.tmp 22) (.const (.int .i64 0)) 3, 4, "l12_groups.go:44", #[⟨5, .data⟩, ⟨4, .guard⟩], some (4, false)⟩ hHeld ?_
            try go_frame
            refine tk 7 ⟨some 24, .move (.tmp 23), 4, "l12_groups.go:44", #[⟨6, .data⟩, ⟨4, .chain⟩, ⟨4, .guard⟩], some (4, false)⟩ hHeld ?_
            try go_frame
            refine tk 8 ⟨some 25, .move (.tmp 0), 24, "l12_groups.go:44", #[⟨7, .guard⟩], some (7, true)⟩ hHeld ?_
            try go_frame
            refine tk 9 ⟨some 26, .move (.tmp 5), 3, "l12_groups.go:44", #[⟨7, .guard⟩], some (7, true)⟩ hHeld ?_
            try go_frame
            refine tk 10 ⟨some 27, .binOp .sub 3 (.tmp 26) (.const (.int .i64 1)) 3, 3, "l12_groups.go:44", #[⟨9, .data⟩, ⟨7, .guard⟩], some (7, true)⟩ hHeld ?_
            try go_frame
            refine tk 11 ⟨some 28, .indexAddr 24 (.tmp 25) (.tmp 27), 0, "l12_groups.go:44", #[⟨8, .data⟩, ⟨10, .data⟩, ⟨7, .guard⟩], some (7, true)⟩ hHeld ?_
            try go_frame
            refine tk 12 ⟨some 29, .fieldAddr 53 (.tmp 28) 0, 0, "l12_groups.go:44", #[⟨11, .data⟩, ⟨7, .guard⟩], some (7, true)⟩ hHeld ?_
            try go_frame
            refine tk 13 ⟨some 30, .load 3 (.tmp 29), 3, "l12_groups.go:44", #[⟨12, .data⟩, ⟨7, .guard⟩], some (7, true)⟩ hHeld ?_
            try go_frame
            refine tk 14 ⟨some 31, .fieldAddr 53 (.tmp 6) 0, 0, "l12_groups.go:44", #[⟨7, .guard⟩], some (7, true)⟩ hHeld ?_
            try go_frame
            refine tk 15 ⟨some 32, .load 3 (.tmp 31), 3, "l12_groups.go:44", #[⟨14, .data⟩, ⟨7, .guard⟩], some (7, true)⟩ hHeld ?_
            try go_frame
            refine tk 16 ⟨some 33, .binOp .geq 3 (.tmp 30) (.tmp 32) 3, 4, "l12_groups.go:44", #[⟨13, .data⟩, ⟨15, .data⟩, ⟨7, .guard⟩], some (7, true)⟩ hHeld ?_
            try go_frame
            refine tk 17 ⟨some 34, .pick (.tmp 24) (.tmp 33) (.const (.bool false)), 4, "l12_groups.go:44", #[⟨7, .data⟩, ⟨16, .data⟩, ⟨4, .guard⟩], some (4, false)⟩ hHeld ?_
            try go_frame
            refine tk 18 ⟨some 35, .pick (.tmp 21) (.const (.bool true)) (.tmp 34), 4, "l12_groups.go:44", #[⟨4, .data⟩, ⟨17, .data⟩], none⟩ hHeld ?_
            try go_frame
            refine wpAnyH_done (by kernel_rfl) ?_ _
            clear hHeld HS
            go_wp2
            go_ret
            exact ⟨retB HE.out.symm, grow_on HB.out (grow_on HZ1.out Z1.out)⟩
    · have hge : ¬ (k : Int) < (U.length : Int) := by omega
      have HE : Hid (groupsB U by' = true) := by
        unfold Hid
        rw [groups_all fun j hj => HU.out j (by omega), decide_eq_true H12.out]
      go_wp2
      go_ret
      exact ⟨retB HE.out.symm, HB.out⟩
end Go.Proofs.YtgncimlojbnbfaaGreat.GpIa
namespace Go.Proofs.YtgncimlojbnbfaaGreat.GpMe
open Go.RowKit
open Labs LabS Alms Over Blk App ChnI ChnC Gps GpD
def SmQ (U : List PGr) : Prop := ∀ x ∈ U, x.P.length ≤ 1048576 ∧ LenM x.P
set_option maxHeartbeats 3200000 in
theorem specMem_any (a sa : Option Addr) (cap sc : Nat) (U : List PGr) (s : List Lab) (w : World) (hr : RdGs GA w a U) (hk : Reads w sa s) (hl : U.length ≤ 1048576) (hsl : s.length ≤ maxLen) (hz : SmQ U) :
    Calls Tryz.prog 24 #[.slice a U.length cap, .slice sa s.length sc] w fun e w' => e = .returned (.int .i64 (memG U s)) ∧ Below w.heap.size w w' := by
  have HR : Hid (RdGs GA w a U ∧ Reads w sa s ∧ s.length ≤ maxLen ∧ SmQ U) := ⟨hr, hk, hsl, hz⟩
  clear hr hk hsl hz
  go_enter Tryz.func24, Tryz.ntmps24
  go_wp2
  go_loopw [5] (fun i w' => ∃ k : Nat, i = .int .i64 k ∧ k ≤ U.length ∧ (∀ j, j < k → hasL s (nthG U j) = false) ∧ Below w.heap.size w w') (fun i _ => U.length - (intOf i).toNat)
  case atStart => exact ⟨0, rfl, Nat.zero_le _, fun j h => by omega, Below.refl _ _⟩
  case round =>
    obtain ⟨k, rfl, hk, hu, hw0⟩ := hrel
    have HU : Hid (∀ j, j < k → hasL s (nthG U j) = false) := hu
    have HB : Hid (Below w.heap.size w wr) := hw0
    generalize wr = z at *
    clear hu hw0
    by_cases hlt : k < U.length
    · have hlt' : (k : Int) < (U.length : Int) := by omega
      obtain ⟨b, off, rfl, hbz, ka, kc, ad, cp, hat⟩ := (HR.out.1.below stays_ga HB.out).get hlt
      have HA : Hid (AtG GA z b off k (nthG U k) ka kc ad cp) := hat
      have HSQ : Hid ((nthG U k).P.length ≤ 1048576 ∧ LenM (nthG U k).P) := HR.out.2.2.2 _ (nthG_mem hlt)
      have hPl := HSQ.out.1
      clear hat
      go_wp2
      go_loopw [6] (fun i w' => ∃ j : Nat, i = .int .i64 j ∧ j ≤ (nthG U k).P.length ∧ (∀ q, q < j → (nthP (nthG U k).P q).l ≠ s) ∧ Below z.heap.size z w') (fun i _ => (nthG U k).P.length - (intOf i).toNat)
      case atStart => exact ⟨0, rfl, Nat.zero_le _, fun q hq => by omega, Below.refl _ _⟩
      case round =>
        obtain ⟨j, rfl, hj, hq, hbj⟩ := hrel
        have HQ : Hid (∀ q, q < j → (nthP (nthG U k).P q).l ≠ s) := hq
        have HBJ : Hid (Below z.heap.size z wr) := hbj
        have c4 : wr.cell? ⟨b, off + k * 5 + 4, none⟩ = some (.slice ad (nthG U k).P.length cp) := (hbj.cell (p := ⟨b, off + k * 5 + 4, none⟩) hbz).trans HA.out.c4
        have c0 : wr.cell? ⟨b, off + k * 5, none⟩ = some (.int .i64 (nthG U k).n) := (hbj.cell (p := ⟨b, off + k * 5, none⟩) hbz).trans HA.out.c0
        clear hq hbj
        by_cases hjl : j < (nthG U k).P.length
        · have hjl' : (j : Int) < ((nthG U k).P.length : Int) := by omega
          obtain ⟨b2, off2, rfl, hb2, la, lc, hat2⟩ := (HA.out.reads.2.below HBJ.out).get hjl
          have d0 := hat2.c0
          have HC : Hid (Calls Tryz.prog 49 #[.slice la (nthP (nthG U k).P j).l.length lc, .slice sa s.length sc] wr fun e w' => e = .returned (.bool (decide ((nthP (nthG U k).P j).l = s))) ∧ Below wr.heap.size wr w') := calls_drew (specSame_any la sa lc sc (nthP (nthG U k).P j).l s wr hat2.reads (HR.out.2.1.below (grow_on HB.out HBJ.out)) (by have := HSQ.out.2 j hjl; unfold maxLen; omega) HR.out.2.2.1)
          clear hat2
          cases hd : decide ((nthP (nthG U k).P j).l = s) with
          | true =>
            rw [hd] at HC
            have HE : Hid (memG U s = (nthG U k).n) := memG_at hlt HU.out (hasL_yes hjl (of_decide_eq_true hd))
            clear hd
            go_wp2_with fail
            refine HC.out.mono ?_
            rintro e w2 ⟨rfl, hb⟩
            have HB2 : Hid (Below z.heap.size z w2) := grow_on HBJ.out hb
            have e0 : w2.cell? ⟨b, off + k * 5, none⟩ = some (.int .i64 (nthG U k).n) := (HB2.out.cell (p := ⟨b, off + k * 5, none⟩) hbz).trans HA.out.c0
            clear hb c4 c0 d0 HC
            go_wp2
            go_ret
            exact ⟨retN HE.out.symm, grow_on HB.out HB2.out⟩
          | false =>
            rw [hd] at HC
            have HQ1 : Hid (∀ q, q < j + 1 → (nthP (nthG U k).P q).l ≠ s) := fun q hq => by
              by_cases e : q = j
              · rw [e]; exact of_decide_eq_false hd
              · exact HQ.out q (by omega)
            clear hd
            go_wp2_with fail
            refine HC.out.mono ?_
            rintro e w2 ⟨rfl, hb⟩
            have HB2 : Hid (Below z.heap.size z w2) := grow_on HBJ.out hb
            clear hb c4 c0 d0 HC
            go_wp2
            go_roundw
            case rel => exact ⟨j + 1, by go_num, by omega, HQ1.out, HB2.out⟩
            case measure => simp [intOf]; omega
        · have hje : ¬ (j : Int) < ((nthG U k).P.length : Int) := by omega
          have HU1 : Hid (∀ i, i < k + 1 → hasL s (nthG U i) = false) := fun i hi => by
            by_cases e : i = k
            · rw [e]; exact hasL_no fun q hq => HQ.out q (by omega)
            · exact HU.out i (by omega)
          go_wp2
          go_roundw
          case rel => exact ⟨k + 1, by go_num, by omega, HU1.out, grow_on HB.out HBJ.out⟩
          case measure => simp [intOf]; omega
    · have hge : ¬ (k : Int) < (U.length : Int) := by omega
      have HE : Hid (memG U s = -1) := memG_end fun j hj => HU.out j (by omega)
      go_wp2
      go_ret
      exact ⟨retN HE.out.symm, HB.out⟩
end Go.Proofs.YtgncimlojbnbfaaGreat.GpMe
namespace Go.Proofs.YtgncimlojbnbfaaGreat.GpIm
open Go.RowKit
open Labs LabS Alms Over Blk App ChnI ChnC Gps GpD
open GpMe
open StrB (retB)
def eqP (l : List Lab) (y : PAl) : Bool := decide (y.l = l)
def aheadA (p : PAl → Bool) (P : List PAl) : Nat := P.findIdx p
theorem find_at {p : PAl → Bool} {P : List PAl} {k : Nat} (hk : k < P.length) (hj : ∀ j, j < k → p (nthP P j) = false) (h : p (nthP P k) = true) : aheadA p P = k := by
  unfold aheadA
  rw [List.findIdx_eq hk]
  refine ⟨by rw [nthP_eq hk] at h; exact h, fun j hj' => ?_⟩
  have := hj j hj'
  rwa [nthP_eq (by omega)] at this
theorem find_end {p : PAl → Bool} {P : List PAl} (hj : ∀ j, j < P.length → p (nthP P j) = false) : aheadA p P = P.length := by
  unfold aheadA
  rw [List.findIdx_eq_length]
  intro y hy
  obtain ⟨j, hj', rfl⟩ := List.getElem_of_mem hy
  have := hj j hj'
  rwa [nthP_eq hj'] at this
theorem closM_any (b0 : Nat) (ad ga : Option Addr) (cp cx : Nat) (y : PAl) (l : List Lab) (w : World) (hc : w.cell? ⟨b0, 0, none⟩ = some (.slice ga l.length cx)) (hx : Reads w ad y.l) (hr : Reads w ga l) (h1 : y.l.length ≤ maxLen) (h2 : l.length ≤ maxLen) :
    Calls Tryz.prog 85 #[.agg #[.slice ad y.l.length cp, .int .i64 y.s, .int .i64 y.e, .string y.n], .pointer (some ⟨b0, 0, none⟩)] w fun e w' => e = .returned (.bool (eqP l y)) ∧ Below w.heap.size w w' := by
  have hb0 : b0 < w.heap.size := World.block_lt_of_cell? w _ hc
  have hc1 : ∀ o, (w.alloc o).cell? ⟨b0, 0, none⟩ = some (.slice ga l.length cx) := fun o => by
    rw [World.cell?_alloc_lt _ _ _ hb0]; exact hc
  have HR : Hid (Reads w ad y.l ∧ Reads w ga l ∧ y.l.length ≤ maxLen ∧ l.length ≤ maxLen) := ⟨hx, hr, h1, h2⟩
  clear hc hx hr h1 h2
  go_enter Tryz.func85, Tryz.ntmps85
  go_wp2_with fail
  refine (calls_drew (implSame_any _ _ _ _ _ _ _ (HR.out.1.below (Go.Joins.below_alloc1 w _)) (HR.out.2.1.below (Go.Joins.below_alloc1 w _)) HR.out.2.2.1 HR.out.2.2.2)).mono ?_
  rintro e w1 ⟨rfl, hb1⟩
  have HB1 : Hid (Below w.heap.size w w1) := grow_on (Go.Joins.below_alloc1 w _) hb1
  clear hb1
  go_wp2
  go_ret
  exact ⟨rfl, HB1.out⟩
set_option maxHeartbeats 1600000 in
theorem indexM_any (b0 : Nat) (a ga : Option Addr) (cap cx : Nat) (P : List PAl) (l : List Lab) (w : World) (hr : RdA w a P) (hc : w.cell? ⟨b0, 0, none⟩ = some (.slice ga l.length cx)) (hl : Reads w ga l) (hll : l.length ≤ maxLen) (hP : P.length ≤ 1048576) (hs : LenP P) :
    Calls Tryz.prog 108 #[.slice a P.length cap, .func (.func 85) #[] #[.pointer (some ⟨b0, 0, none⟩)]] w fun e w' => (∃ x : Int, e = .returned (.int .i64 x) ∧ ((x = -1 ∧ aheadA (eqP l) P = P.length) ∨ (x = (aheadA (eqP l) P : Int) ∧ aheadA (eqP l) P < P.length))) ∧ Below w.heap.size w w' := by
  have HR : Hid (RdA w a P ∧ w.cell? ⟨b0, 0, none⟩ = some (.slice ga l.length cx) ∧ Reads w ga l ∧ l.length ≤ maxLen ∧ LenP P) := ⟨hr, hc, hl, hll, hs⟩
  have hb0 : b0 < w.heap.size := World.block_lt_of_cell? w _ hc
  clear hr hc hl hll hs
  go_enter Tryz.func108, Tryz.ntmps108
  go_wp2
  go_loopw [8] (fun i w' => ∃ k : Nat, i = .int .i64 k ∧ k ≤ P.length ∧ (∀ j, j < k → eqP l (nthP P j) = false) ∧ Below w.heap.size w w') (fun i _ => P.length - (intOf i).toNat)
  case atStart => exact ⟨0, rfl, Nat.zero_le _, fun j h => by omega, Below.refl _ _⟩
  case round =>
    obtain ⟨k, rfl, hk, hu, hw⟩ := hrel
    have HU : Hid (∀ j, j < k → eqP l (nthP P j) = false) := hu
    have HB : Hid (Below w.heap.size w wr) := hw
    clear hu hw
    by_cases hlt : k < P.length
    · have hlt' : (k : Int) < (P.length : Int) := by omega
      obtain ⟨b, off, rfl, hb, ad, cp, hat⟩ := (HR.out.1.below HB.out).get hlt
      have x0 := hat.c0
      have x1 := hat.c1
      have x2 := hat.c2
      have x3 := hat.c3
      have HC1 : Hid (Calls Tryz.prog 85 #[.agg #[.slice ad (nthP P k).l.length cp, .int .i64 (nthP P k).s, .int .i64 (nthP P k).e, .string (nthP P k).n], .pointer (some ⟨b0, 0, none⟩)] wr fun e w' => e = .returned (.bool (eqP l (nthP P k))) ∧ Below wr.heap.size wr w') := closM_any b0 ad ga cp cx (nthP P k) l wr ((HB.out.cell (p := ⟨b0, 0, none⟩) hb0).trans HR.out.2.1) hat.reads (HR.out.2.2.1.below HB.out) (HR.out.2.2.2.2 k hlt) HR.out.2.2.2.1
      clear hat
      cases he : eqP l (nthP P k) with
      | true =>
        rw [he] at HC1
        have HE : Hid (aheadA (eqP l) P = k) := find_at hlt HU.out he
        clear he
        go_wp2_with fail
        refine HC1.out.mono ?_
        rintro e w1 ⟨rfl, hb1⟩
        have HB1 : Hid (Below w.heap.size w w1) := grow_on HB.out hb1
        clear hb1 x0 x1 x2 x3 HC1
        go_wp2
        go_ret
        refine ⟨⟨(k : Int), rfl, .inr ?_⟩, HB1.out⟩
        rw [HE.out]
        exact ⟨rfl, hlt⟩
      | false =>
        rw [he] at HC1
        have HU1 : Hid (∀ j, j < k + 1 → eqP l (nthP P j) = false) := fun j hj => by
          by_cases e : j = k
          · subst e; exact he
          · exact HU.out j (by omega)
        clear he
        go_wp2_with fail
        refine HC1.out.mono ?_
        rintro e w1 ⟨rfl, hb1⟩
        have HB1 : Hid (Below w.heap.size w w1) := grow_on HB.out hb1
        clear hb1 x0 x1 x2 x3 HC1
        go_wp2
        go_roundw
        case rel => exact ⟨k + 1, by go_num, by omega, HU1.out, HB1.out⟩
        case measure => simp [intOf]; omega
    · have hge : ¬ (k : Int) < (P.length : Int) := by omega
      have HE : Hid (aheadA (eqP l) P = P.length) := find_end fun j hj => HU.out j (by omega)
      go_wp2
      go_ret
      exact ⟨⟨-1, rfl, .inl ⟨rfl, HE.out⟩⟩, HB.out⟩
theorem containsM_any (b0 : Nat) (a ga : Option Addr) (cap cx : Nat) (P : List PAl) (l : List Lab) (w : World) (hr : RdA w a P) (hc : w.cell? ⟨b0, 0, none⟩ = some (.slice ga l.length cx)) (hl : Reads w ga l) (hll : l.length ≤ maxLen) (hP : P.length ≤ 1048576) (hs : LenP P) :
    Calls Tryz.prog 84 #[.slice a P.length cap, .func (.func 85) #[] #[.pointer (some ⟨b0, 0, none⟩)]] w fun e w' => e = .returned (.bool (decide (aheadA (eqP l) P < P.length))) ∧ Below w.heap.size w w' := by
  have HC1 : Hid (Calls Tryz.prog 108 #[.slice a P.length cap, .func (.func 85) #[] #[.pointer (some ⟨b0, 0, none⟩)]] w fun e w' => (∃ x : Int, e = .returned (.int .i64 x) ∧ ((x = -1 ∧ aheadA (eqP l) P = P.length) ∨ (x = (aheadA (eqP l) P : Int) ∧ aheadA (eqP l) P < P.length))) ∧ Below w.heap.size w w') := indexM_any b0 a ga cap cx P l w hr hc hl hll hP hs
  clear hr hc hl hll hs
  go_enter Tryz.func84, Tryz.ntmps84
  go_wp2_with fail
  refine HC1.out.mono ?_
  rintro e w1 ⟨⟨x, rfl, hx⟩, hb1⟩
  have HB : Hid (Below w.heap.size w w1) := hb1
  clear hb1 HC1
  rcases hx with ⟨rfl, hx⟩ | ⟨hx0, hx⟩
  · have HN : Hid (decide (aheadA (eqP l) P < P.length) = false) := decide_eq_false (by omega)
    clear hx
    go_wp2
    go_ret
    exact ⟨retB HN.out.symm, HB.out⟩
  · have HN : Hid (decide (aheadA (eqP l) P < P.length) = true) := decide_eq_true hx
    have h0 : (0 : Int) ≤ x := by omega
    clear hx hx0
    go_wp2
    go_ret
    exact ⟨retB HN.out.symm, HB.out⟩
theorem hasL_eq (s : List Lab) (x : PGr) : hasL s x = decide (aheadA (eqP s) x.P < x.P.length) := by
  by_cases h : aheadA (eqP s) x.P < x.P.length
  · rw [decide_eq_true h]
    have h2 := List.findIdx_getElem (w := h) (xs := x.P) (p := eqP s)
    refine hasL_yes h ?_
    rw [nthP_eq h]
    exact of_decide_eq_true h2
  · rw [decide_eq_false h]
    refine hasL_no fun j hj e => h ?_
    refine Nat.lt_of_le_of_lt ?_ hj
    refine Nat.le_of_not_lt fun hlt => ?_
    have h3 := List.not_of_lt_findIdx (xs := x.P) (p := eqP s) (i := j) hlt
    rw [← nthP_eq hj] at h3
    exact absurd (decide_eq_true e) (by unfold eqP at h3; rw [h3]; simp)
set_option maxHeartbeats 1600000 in
theorem hasMember_any (ka ad sa : Option Addr) (kd cp sc : Nat) (x : PGr) (s : List Lab) (w : World) (hr : RdA w ad x.P) (hk : Reads w sa s) (hsl : s.length ≤ maxLen) (hP : x.P.length ≤ 1048576) (hs : LenP x.P) :
    Calls Tryz.prog 53 #[.agg #[.int .i64 x.n, .slice ka x.key.length kd, .int .i64 x.b, .int .i64 x.t, .slice ad x.P.length cp], .slice sa s.length sc] w fun e w' => e = .returned (.bool (hasL s x)) ∧ Below w.heap.size w w' := by
  have HC : Hid (∀ y c0, Below w.heap.size w y → y.cell? ⟨c0, 0, none⟩ = some (.slice sa s.length sc) → Calls Tryz.prog 84 #[.slice ad x.P.length cp, .func (.func 85) #[] #[.pointer (some ⟨c0, 0, none⟩)]] y fun e w' => e = .returned (.bool (hasL s x)) ∧ Below y.heap.size y w') := fun y c0 hy hc => by
    rw [hasL_eq]
    exact containsM_any c0 ad sa cp sc x.P s y (hr.below hy) hc (hk.below hy) hsl hP hs
  clear hr hk hs
  go_enter Tryz.func53, Tryz.ntmps53
  go_wp2_with fail
  refine (HC.out _ _ (Go.Joins.below_alloc2 w _ _) (by simp)).mono ?_
  rintro e w1 ⟨rfl, hb1⟩
  have HB : Hid (Below w.heap.size w w1) := grow_on (Go.Joins.below_alloc2 w _ _) hb1
  clear hb1 HC
  go_wp2
  go_ret
  exact ⟨rfl, HB.out⟩
set_option maxHeartbeats 3200000 in
theorem implMem_any (a sa : Option Addr) (cap sc : Nat) (U : List PGr) (s : List Lab) (w : World) (hr : RdGs GA w a U) (hk : Reads w sa s) (hl : U.length ≤ 1048576) (hsl : s.length ≤ maxLen) (hz : SmQ U) :
    Calls Tryz.prog 23 #[.slice a U.length cap, .slice sa s.length sc] w fun e w' => e = .returned (.int .i64 (memG U s)) ∧ Below w.heap.size w w' := by
  have HR : Hid (RdGs GA w a U ∧ Reads w sa s ∧ s.length ≤ maxLen ∧ SmQ U) := ⟨hr, hk, hsl, hz⟩
  clear hr hk hsl hz
  go_enter Tryz.func23, Tryz.ntmps23
  go_wp2
  go_loopw [9] (fun i w' => ∃ k : Nat, i = .int .i64 k ∧ k ≤ U.length ∧ (∀ j, j < k → hasL s (nthG U j) = false) ∧ Below w.heap.size w w') (fun i _ => U.length - (intOf i).toNat)
  case atStart => exact ⟨0, rfl, Nat.zero_le _, fun j h => by omega, Below.refl _ _⟩
  case round =>
    obtain ⟨k, rfl, hk, hu, hw0⟩ := hrel
    have HU : Hid (∀ j, j < k → hasL s (nthG U j) = false) := hu
    have HB : Hid (Below w.heap.size w wr) := hw0
    clear hu hw0
    by_cases hlt : k < U.length
    · have hlt' : (k : Int) < (U.length : Int) := by omega
      obtain ⟨b, off, rfl, hb, ka, kc, ad, cp, hat⟩ := (HR.out.1.below stays_ga HB.out).get hlt
      have x0 := hat.c0
      have x1 := hat.c1
      have x2 := hat.c2
      have x3 := hat.c3
      have x4 := hat.c4
      have HC : Hid (∀ y, Below wr.heap.size wr y → Calls Tryz.prog 53 #[.agg #[.int .i64 (nthG U k).n, .slice ka (nthG U k).key.length kc, .int .i64 (nthG U k).b, .int .i64 (nthG U k).t, .slice ad (nthG U k).P.length cp], .slice sa s.length sc] y fun e w' => e = .returned (.bool (hasL s (nthG U k))) ∧ Below y.heap.size y w') := fun y hy => hasMember_any ka ad sa kc cp sc (nthG U k) s y (hat.reads.2.below hy) (HR.out.2.1.below (grow_on HB.out hy)) HR.out.2.2.1 (HR.out.2.2.2 _ (nthG_mem hlt)).1 (fun i hi => by have := (HR.out.2.2.2 _ (nthG_mem hlt)).2 i hi; unfold maxLen; omega)
      clear hat
      cases he : hasL s (nthG U k) with
      | true =>
        rw [he] at HC
        have HE : Hid (memG U s = (nthG U k).n) := memG_at hlt HU.out he
        clear he
        go_wp2_with fail
        refine (HC.out _ (Go.Joins.below_alloc1 wr _)).mono ?_
        rintro e w1 ⟨rfl, hb1⟩
        have BG : Hid (Blk w1 wr.heap.size #[.int .i64 (nthG U k).n, .slice ka (nthG U k).key.length kc, .int .i64 (nthG U k).b, .int .i64 (nthG U k).t, .slice ad (nthG U k).P.length cp] 53) := (Blk.new _ _ _).grow hb1
        have g0 := BG.out.cell 0
        simp at g0
        have HB1 : Hid (Below w.heap.size w w1) := grow_on HB.out (grow_on (Go.Joins.below_alloc1 wr _) hb1)
        clear hb1 x0 x1 x2 x3 x4 HC
        go_wp2
        go_ret
        exact ⟨retN HE.out.symm, HB1.out⟩
      | false =>
        rw [he] at HC
        have HU1 : Hid (∀ j, j < k + 1 → hasL s (nthG U j) = false) := fun j hj => by
          by_cases e : j = k
          · subst e; exact he
          · exact HU.out j (by omega)
        clear he
        go_wp2_with fail
        refine (HC.out _ (Go.Joins.below_alloc1 wr _)).mono ?_
        rintro e w1 ⟨rfl, hb1⟩
        have HB1 : Hid (Below w.heap.size w w1) := grow_on HB.out (grow_on (Go.Joins.below_alloc1 wr _) hb1)
        clear hb1 x0 x1 x2 x3 x4 HC
        go_wp2
        go_roundw
        case rel => exact ⟨k + 1, by go_num, by omega, HU1.out, HB1.out⟩
        case measure => simp [intOf]; omega
    · have hge : ¬ (k : Int) < (U.length : Int) := by omega
      have HE : Hid (memG U s = -1) := memG_end fun j hj => HU.out j (by omega)
      go_wp2
      go_ret
      exact ⟨retN HE.out.symm, HB.out⟩
end Go.Proofs.YtgncimlojbnbfaaGreat.GpIm
namespace Go.Proofs.YtgncimlojbnbfaaGreat.GpW
open Go.RowKit
open Draw
open Labs LabS Over Blk App DrawL DrawT Alms AlmM DrawA DrawB Rws ChnI ChnC ChnP ChnK DrawC Grp GrpJ GrpW GrpX Chs Gps GpD GpC GpJ
open LabT (Held held_reads Fits)
open Pro (projB RdS)

def FineG (k : Nat) (x : PGr) : Prop := (I64 x.n ∧ I64 x.b ∧ I64 x.t) ∧ KeyF x.key ∧ Fines x.P ∧ x.P.length ≤ k
def FinesG (k : Nat) (U : List PGr) : Prop := ∀ x ∈ U, FineG k x
theorem FinesG.up {k m : Nat} {U : List PGr} (h : FinesG k U) (hkm : k ≤ m) : FinesG m U := fun x hx => by
  obtain ⟨h1, h2, h3, h4⟩ := h x hx
  exact ⟨h1, h2, h3, by omega⟩
theorem fines_lenM {P : List PAl} (h : Fines P) : LenM P := fun i hi => by
  have h1 := h _ (DrawC.nthP_mem hi)
  have h2 := h1.2
  omega
theorem FinesG.small {k : Nat} {U : List PGr} (h : FinesG k U) (hk : k ≤ 1000) : SmallG U := fun x hx => by
  obtain ⟨_, h2, h3, h4⟩ := h x hx
  exact ⟨by have := h2.2; omega, by omega, fines_lenM h3⟩
theorem keyF_proj {l : List Lab} {by' : List ByteArray} (h : Fits l) (hl : l.length ≤ 8) : KeyF (projB l by') := ⟨fits_proj h, by have := Pro.proj_len l by'; omega⟩
theorem fines_joinA {k : Nat} {U : List PGr} {x : PAl} {by' : List ByteArray} {n now : Int} (h : FinesG k U) (hx : Fine x) (hn : I64 n) (hw : I64 now) : FinesG (k + 1) (joinAllG U x by' n now) := fun y hy => by
  unfold joinAllG at hy
  split at hy
  · rename_i hk
    rcases List.mem_or_eq_of_mem_set hy with h1 | h1
    · exact h.up (Nat.le_succ k) y h1
    · rw [h1]
      obtain ⟨h2, h3, h4, h5⟩ := h _ (nthG_mem hk)
      exact ⟨h2, h3, fines_join h4 hx, by have := join_len (nthG U (posJ U x by')).P x; show (joinG _ x).length ≤ _; omega⟩
  · rcases List.mem_append.1 hy with h1 | h1
    · exact h.up (Nat.le_succ k) y h1
    · rw [List.mem_singleton.1 h1]
      refine ⟨⟨hn, hw, ⟨by show (-9223372036854775808 : Int) ≤ -1; omega, by show (-1 : Int) ≤ _; omega⟩⟩, keyF_proj (fun i hi => hx.1.fits i hi) hx.2, fun z hz => ?_, by simp⟩
      rw [List.mem_singleton.1 hz]; exact hx
theorem joinA_len (U : List PGr) (x : PAl) (by' : List ByteArray) (n now : Int) : (joinAllG U x by' n now).length ≤ U.length + 1 := by
  unfold joinAllG
  split
  · simp
  · simp
theorem gsb_kept {c lo : Nat} {w w' : World} {M cp : Nat} {us : List GRow} (h : GsB lo w M cp us) (hk : Kept c w w') (hc : c < lo) : GsB lo w' M cp us := by
  obtain ⟨cur, h1, h2⟩ := h.outer
  have ho : Only (fun q => q = c) w w' := ⟨hk.os, hk.tape, hk.output, hk.size, fun k hk' hn => hk.block k hk' (fun e => hn e)⟩
  exact ⟨h.at', h.cap, ⟨cur, blk_kept h1 hk (by have := h.at'; omega), h2⟩, ⟨fun x hx => (h.rows.rows x hx).only ho fun k hk e => by have := (h.rows.rng hx k hk).1; omega, h.rows.ne⟩⟩
structure QSt (w : World) (c : Nat) (W : World) (M cp : Nat) (us : List GRow) : Prop where
  cur : Cur W c
  kept : Kept c w W
  clt : c < w.heap.size
  row : GsB w.heap.size W M cp us
  caps : CapsG us
theorem QSt.keep {w : World} {c : Nat} {W W' : World} {M cp : Nat} {us : List GRow} (h : QSt w c W M cp us) (hc : Cur W' c) (hk : Kept c W W') : QSt w c W' M cp us :=
  ⟨hc, h.kept.trans hk, h.clt, gsb_kept h.row hk h.clt, h.caps⟩
theorem QSt.grow {w : World} {c : Nat} {W W' : World} {M cp : Nat} {us : List GRow} (h : QSt w c W M cp us) (hb : Below W.heap.size W W') : QSt w c W' M cp us := h.keep (cur_bel h.cur hb) (kept_bel hb)
theorem joinAR (M cp gb capb gx cx : Nat) (us : List GRow) (by' : List ByteArray) (x : PAl) (n now : Int) (w : World) (hr : RdGs GN w (some ⟨M, 0, none⟩) (grs us)) (hl : us.length ≤ 1048576) (hs : SmallG (grs us)) (hx : Reads w (some ⟨gx, 0, none⟩) x.l) (hxl : x.l.length ≤ 1048576) (hb : RdS w (some ⟨gb, 0, none⟩) by') (hbl : by'.length ≤ maxLen) :
    Calls Tryz.prog 7 #[.slice (some ⟨M, 0, none⟩) us.length cp, .agg #[.slice (some ⟨gx, 0, none⟩) x.l.length cx, .int .i64 x.s, .int .i64 x.e, .string x.n], .slice (some ⟨gb, 0, none⟩) by'.length capb, .int .i64 n, .int .i64 now] w fun e w' => (∃ M c vs, e = .returned (.tuple #[.slice (some ⟨M, 0, none⟩) vs.length c, .bool (newJ (grs us) x by')]) ∧ GsB w.heap.size w' M c vs ∧ grs vs = joinAllG (grs us) x by' n now ∧ CapsG vs) ∧ Below w.heap.size w w' := by
  have h := specJoinA_any (some ⟨M, 0, none⟩) (some ⟨gb, 0, none⟩) cp capb (grs us) by' gx 0 cx x n now w hr (by rw [grs_len]; exact hl) hs hx hxl hb hbl
  rw [grs_len] at h
  exact h

set_option maxRecDepth 100000 in
set_option maxHeartbeats 6400000 in
theorem l12Draw_any (c gb capb : Nat) (by' : List ByteArray) (w : World) (hc : Cur w c) (hb : ByK w gb by') (hgb : gb ≠ c ∧ gb < w.heap.size) (hbl : by'.length ≤ maxLen) :
    Calls Tryz.prog 55 #[.pointer (some ⟨c, 0, none⟩), .slice (some ⟨gb, 0, none⟩) by'.length capb] w fun r w' => ∃ (M cp : Nat) (us : List GRow), r = .returned (.slice (some ⟨M, 0, none⟩) us.length cp) ∧ QSt w c w' M cp us ∧ FinesG 6 (grs us) ∧ us.length ≤ 6 := by
  have HC : Hid (Cur w c) := hc
  have HL : Hid (c < w.heap.size) := hc.lt
  have HB : Hid (ByK w gb by' ∧ (gb ≠ c ∧ gb < w.heap.size) ∧ by'.length ≤ maxLen) := ⟨hb, hgb, hbl⟩
  clear hc hb hgb hbl
  go_enter Tryz.func55, Tryz.ntmps55
  go_wp2_with fail
  refine (below_any c 7 _ (HC.out.alloc _) (by decide) (by decide)).mono ?_
  rintro r w1 ⟨⟨z, rfl, hz0, hz1⟩, hc1, hk1⟩
  have HQ : Hid (QSt w c w1 w.heap.size 0 []) := by
    have hE : QSt w c (w.alloc (.cells #[] 53)) w.heap.size 0 [] := ⟨HC.out.alloc _, (Kept.refl c w).alloc _, HL.out, GsB.nil (Blk.new _ _ _) (Nat.le_refl _), caps_nil⟩
    exact hE.keep hc1 hk1
  obtain ⟨j0, rfl⟩ : ∃ j : Nat, z = (j : Int) := ⟨z.toNat, by omega⟩
  clear hc1 hk1 HC
  go_wp2
  go_loopw [5, 6, 7] (fun l n i w' => ∃ (k j M cp : Nat) (us : List GRow) (nn : Int), l = .slice (some ⟨M, 0, none⟩) us.length cp ∧ n = .int .i64 nn ∧ i = .int .i64 (j : Int) ∧ k + j ≤ 6 ∧ 0 ≤ nn ∧ nn ≤ 2 * (k : Int) ∧ us.length ≤ k ∧ QSt w c w' M cp us ∧ FinesG k (grs us)) (fun _ _ i _ => (intOf i).toNat)
  case atStart => exact ⟨0, j0, w.heap.size, 0, [], 0, rfl, rfl, rfl, by omega, by omega, by omega, Nat.le_refl _, HQ.out, fun x hx => by simp [grs] at hx⟩
  case round =>
    obtain ⟨k, j, M, cp, us, nn, rfl, rfl, rfl, hkj, hn0, hn1, hul, hq, hf⟩ := hrel
    have HQ1 : Hid (QSt w c wr M cp us ∧ FinesG k (grs us)) := ⟨hq, hf⟩
    have HUL : Hid (us.length ≤ k ∧ k + j ≤ 6) := ⟨hul, hkj⟩
    clear hq hf HQ
    by_cases hlt : 0 < j
    · have hlt' : (0 : Int) < (j : Int) := by omega
      go_wp2_with fail
      refine (l4Draw_any c _ HQ1.out.1.cur).mono ?_
      rintro r w2 ⟨g, ca, p, s, e, t, rfl, hst, hp, hs, he, hn⟩
      obtain ⟨x, hx⟩ : ∃ x : ARow, x = (g, ca, ⟨p, s, e, t⟩) := ⟨_, rfl⟩
      have HQ2 : Hid (QSt w c w2 M cp us) := HQ1.out.1.keep hst.cur hst.kept
      have HX : Hid (OwnA w.heap.size w2 x ∧ Fine x.2.2) := by
        refine ⟨?_, ?_⟩
        · rw [hx]; exact (own_lst hst hp).down HQ1.out.1.kept.size
        · rw [hx]; exact fine_of hp hst.fit hs he hn
      obtain ⟨E1, E2, E3, E4, E5, E6⟩ : g = x.1 ∧ ca = x.2.1 ∧ p = x.2.2.l ∧ s = x.2.2.s ∧ e = x.2.2.e ∧ t = x.2.2.n := by rw [hx]; exact ⟨rfl, rfl, rfl, rfl, rfl, rfl⟩
      clear hst hp hs he hn
      subst E1 E2 E3 E4 E5 E6
      clear hx
      go_wp2_with fail
      refine (below_any c 6 _ HQ2.out.cur (by decide) (by decide)).mono ?_
      rintro r w3 ⟨⟨now, rfl, hb0, hb1⟩, hc3, hk3⟩
      have HQ3 : Hid (QSt w c w3 M cp us) := HQ2.out.keep hc3 hk3
      have HX3 : Hid (OwnA w.heap.size w3 x ∧ Fine x.2.2) := ⟨own_kept HX.out.1 hk3 HL.out, HX.out.2⟩
      have HB3 : Hid (RdS w3 (some ⟨gb, 0, none⟩) by') := (HB.out.1.keep HQ3.out.kept HB.out.2.1.1).rd
      have HW3 : Hid (0 ≤ now ∧ now < 6) := ⟨hb0, hb1⟩
      clear hc3 hk3 HQ2 HX hb0 hb1
      go_wp2_with fail
      refine (joinAR M cp gb capb x.1 x.2.1 us by' x.2.2 nn now _ (HQ3.out.row.rn HQ3.out.caps) (by have := HUL.out; omega) (HQ1.out.2.small (by have := HUL.out; omega)) HX3.out.1.reads (by have := HX3.out.2.2; omega) HB3.out HB.out.2.2).mono ?_
      rintro r w4 ⟨⟨M4, c4, vs, rfl, hg4, hp4, hcp4⟩, hb4⟩
      have HQ4 : Hid (QSt w c w4 M4 c4 vs) := by
        have h := HQ3.out.grow hb4
        exact ⟨h.cur, h.kept, h.clt, hg4.down HQ3.out.kept.size, hcp4⟩
      have HF4 : Hid (FinesG (k + 1) (grs vs) ∧ vs.length ≤ k + 1) := by
        have h1 := joinA_len (grs us) x.2.2 by' nn now
        have h2 := congrArg List.length hp4
        rw [grs_len] at h1 h2
        refine ⟨?_, by have := HUL.out; omega⟩
        rw [hp4]
        exact fines_joinA HQ1.out.2 HX3.out.2 ⟨by omega, by have := HUL.out; omega⟩ ⟨by have := HW3.out; omega, by have := HW3.out; omega⟩
      clear hg4 hp4 hcp4 hb4 HQ3 HX3 HB3 HQ1
      cases hnew : newJ (grs us) x.2.2 by' with
      | false =>
        go_wp2
        go_roundw
        case rel => exact ⟨k + 1, j - 1, M4, c4, vs, nn, rfl, rfl, by go_num, by have := HUL.out; omega, hn0, by omega, HF4.out.2, HQ4.out, HF4.out.1⟩
        case measure => simp [intOf]; omega
      | true =>
        go_wp2_with fail
        refine (below_any c 2 _ HQ4.out.cur (by decide) (by decide)).mono ?_
        rintro r w5 ⟨⟨d, rfl, hd0, hd1⟩, hc5, hk5⟩
        have HQ5 : Hid (QSt w c w5 M4 c4 vs) := HQ4.out.keep hc5 hk5
        clear hc5 hk5 HQ4
        have hk6 : (k : Int) ≤ 6 := by have := HUL.out; omega
        go_wp2
        go_roundw
        case rel => exact ⟨k + 1, j - 1, M4, c4, vs, nn + 1 + d, rfl, by go_num, by go_num, by have := HUL.out; omega, by omega, by omega, HF4.out.2, HQ5.out, HF4.out.1⟩
        case measure => simp [intOf]; omega
    · have hge : ¬ (0 : Int) < (j : Int) := by omega
      have e0 : j = 0 := by omega
      subst e0
      go_wp2
      go_ret
      exact ⟨M, cp, us, rfl, HQ1.out.1, HQ1.out.2.up (by have := HUL.out; omega), by have := HUL.out; omega⟩
end Go.Proofs.YtgncimlojbnbfaaGreat.GpW
namespace Go.Proofs.YtgncimlojbnbfaaGreat.GpV
open Go.RowKit
open Draw
open Labs LabS Over Blk App DrawL DrawT Alms AlmM DrawA DrawB Rws ChnI ChnC ChnP ChnK DrawC Grp GrpJ GrpW GrpX Chs Gps GpD GpC GpJ GpW
open LabT (Held held_reads Fits)

structure Nw (w2 W : World) (y : GRow) : Prop where
  gb : GB (w2.heap.size + 1) W y.K y.key y.M y.o y.rs
  cap : y.rs.length ≤ y.c ∧ y.c ≤ maxLen
  fine : FineG 9 y.gr
  off : y.o = 0
theorem nw_of {w2 W : World} {c : Nat} {n b t : Int} {K kc M cap : Nat} {key : List Lab} {rs : List ARow} (h : DG w2 c W K M cap key rs) (hn : NumA n b t) (hk : KeyF key) (hl : rs.length ≤ 9) : Nw w2 W ⟨n, K, kc, key, b, t, M, 0, cap, rs⟩ :=
  ⟨⟨h.key, ChnK.AB.ao h.row, h.ne⟩, h.row.cap, ⟨⟨⟨by have := hn.1; show (-9223372036854775808 : Int) ≤ n; omega, by have := hn.1; show n ≤ 9223372036854775807; omega⟩, hn.2.1, hn.2.2⟩, hk, h.fine, by show (pals rs).length ≤ 9; rw [Rws.pals_len]; exact hl⟩, rfl⟩
theorem Nw.grow {w2 W W' : World} {y : GRow} (h : Nw w2 W y) (hb : Below W.heap.size W W') : Nw w2 W' y := ⟨h.gb.grow hb, h.cap, h.fine, h.off⟩
theorem fines_app9 {us : List GRow} {y : GRow} {k : Nat} (h : FinesG k (grs us)) (hk : k ≤ 9) (hy : FineG 9 y.gr) : FinesG 9 (grs (us ++ [y])) := fun x hx => by
  rw [grs_app] at hx
  rcases List.mem_append.1 hx with hx | hx
  · exact h.up hk x hx
  · rw [List.mem_singleton.1 hx]; exact hy
theorem fines_set9 {us : List GRow} {y : GRow} {k i : Nat} (h : FinesG k (grs us)) (hk : k ≤ 9) (hy : FineG 9 y.gr) : FinesG 9 (grs (us.set i y)) := fun x hx => by
  rw [grs_set] at hx
  rcases List.mem_or_eq_of_mem_set hx with hx | hx
  · exact h.up hk x hx
  · rw [hx]; exact hy

set_option maxRecDepth 100000 in
set_option maxHeartbeats 6400000 in
theorem l12Any_any (c gb capb : Nat) (by' : List ByteArray) (w : World) (hc : Cur w c) (hb : ByK w gb by') (hgb : gb ≠ c ∧ gb < w.heap.size) (hbl : by'.length ≤ maxLen) :
    Calls Tryz.prog 28 #[.pointer (some ⟨c, 0, none⟩), .slice (some ⟨gb, 0, none⟩) by'.length capb] w fun r w' => ∃ (M cp : Nat) (us : List GRow), r = .returned (.slice (some ⟨M, 0, none⟩) us.length cp) ∧ QSt w c w' M cp us ∧ FinesG 9 (grs us) ∧ us.length ≤ 7 := by
  have HL : Hid (c < w.heap.size) := hc.lt
  have HC : Hid (Cur w c) := hc
  have HB : Hid (ByK w gb by' ∧ (gb ≠ c ∧ gb < w.heap.size) ∧ by'.length ≤ maxLen) := ⟨hb, hgb, hbl⟩
  clear hc hb hgb hbl
  obtain ⟨i0, hi, hz0, hz1, hz2⟩ := info_parts infoG
  go_enter Tryz.func28, Tryz.ntmps28
  go_wp2_with fail
  refine (l12Draw_any c gb capb by' _ HC.out HB.out.1 HB.out.2.1 HB.out.2.2).mono ?_
  rintro r w1 ⟨M, cp, us, rfl, hq, hf, hl⟩
  have HQ1 : Hid (QSt w c w1 M cp us) := hq
  have HF : Hid (FinesG 6 (grs us) ∧ us.length ≤ 6) := ⟨hf, hl⟩
  clear hq hf hl HC
  go_wp2_with fail
  refine (below_any c 8 _ HQ1.out.cur (by decide) (by decide)).mono ?_
  rintro r w2 ⟨⟨z, rfl, hz0', hz1'⟩, hc2, hk2⟩
  have HQ2 : Hid (QSt w c w2 M cp us) := HQ1.out.keep hc2 hk2
  have HB2 : Hid (ByK w2 gb by' ∧ (gb ≠ c ∧ gb < w2.heap.size)) := ⟨HB.out.1.keep HQ2.out.kept HB.out.2.1.1, HB.out.2.1.1, Nat.lt_of_lt_of_le HB.out.2.1.2 HQ2.out.kept.size⟩
  have HLO : Hid (w.heap.size ≤ w2.heap.size) := HQ2.out.kept.size
  have HBL : Hid (by'.length ≤ maxLen) := HB.out.2.2
  clear hc2 hk2 HQ1 HB
  by_cases e0 : z = 0
  · subst e0
    go_wp2_with fail
    refine (l11Any_any c gb capb by' _ HQ2.out.cur HB2.out.1 HB2.out.2 HBL.out).mono ?_
    rintro r w3 ⟨n, b, t, K, kc, M3, cap3, key, rs, rfl, hd, hn, hk, h9⟩
    obtain ⟨y, hy⟩ : ∃ y : GRow, y = ⟨n, K, kc, key, b, t, M3, 0, cap3, rs⟩ := ⟨_, rfl⟩
    have HY : Hid (Nw w2 w3 y) := by show Nw w2 w3 y; rw [hy]; exact nw_of hd hn hk h9
    have HRW : Hid (rowG y = [.int .i64 n, .slice (some ⟨K, 0, none⟩) key.length kc, .int .i64 b, .int .i64 t, .slice (some ⟨M3, 0, none⟩) rs.length cap3]) := by show _ = _; rw [hy]; rfl
    have HQ3 : Hid (QSt w c w3 M cp us) := HQ2.out.keep hd.cur hd.kept
    have HNE : Hid (∀ u ∈ us, ∀ v ∈ [y], ∀ q, u.blks q → ¬ v.blks q) := fun u hu v hv q h1 h2 => by
      rw [List.mem_singleton.1 hv] at h2
      have e1 := (HQ2.out.row.rows.rng hu q h1).2
      have e2 := (HY.out.gb.rng q h2).1
      omega
    obtain ⟨xs, hox, hxl, hxs⟩ := HQ3.out.row.own
    have hul : us.length ≤ 6 := HF.out.2
    have HOX : Hid (∀ o, (w3.alloc o).ownsRow w.heap.size 53 5 (.slice (some ⟨M, 0, none⟩) us.length cp) us.length xs) := fun o => own_grow hox (Go.Joins.below_alloc1 w3 o)
    have HXS : Hid (xs.length = us.length * 5 ∧ ∀ i, i < us.length → Cel5 (fun k => xs[k]?) i (nthR us i)) := ⟨hxl, hxs⟩
    clear hox hxl hxs hy hd hn hk h9 HQ2 HB2
    go_wp2_with (at_builtin; refine wpList_append_own_at _ rfl _ _ 24 rfl w.heap.size 53 i0 (.agg #[.int .i64 0, .slice none 0 0, .int .i64 0, .int .i64 0, .slice none 0 0]) 5 72 Tryz.underlying24 hi hz0 hz1 hz2 rfl (by decide) _ _ _ rfl (HOX.out _) ⟨w3.heap.size, 0, none⟩ 1 1 (rowG y) rfl (by rw [HRW.out]; rfl) ?c1 (rowG_one _) ?c3 ?c4 ?c5 ?_)
    case c1 => rw [HRW.out]; exact blk_news (Blk.new _ _ _)
    case c3 => unfold maxLen; omega
    case c4 => omega
    case c5 => have := HQ3.out.kept.size; simp; omega
    intro v' w5 hown hg hnil _
    have hbb := Go.Joins.below_alloc1 w3 (.cells #[.int .i64 n, .slice (some ⟨K, 0, none⟩) key.length kc, .int .i64 b, .int .i64 t, .slice (some ⟨M3, 0, none⟩) rs.length cap3] 53)
    obtain ⟨M5, c5, e5, hG5⟩ := (HQ3.out.row.grow hbb).app (vs := [y]) (ys := rowG y) ((RowsG.one (HY.out.gb.grow hbb)).down (by have := HLO.out; omega)) HNE.out HXS.out.1 HXS.out.2 rfl (row_cel y) (.inl (by simp)) hown hg
    subst e5
    have HQ5 : Hid (QSt w c w5 M5 c5 (us ++ [y])) := by
      have h := HQ3.out.grow hbb
      have hM : ∀ q, some M = some q → w.heap.size ≤ q := fun q e => by rw [← Option.some.inj e]; exact h.row.at'
      exact ⟨h.cur.grown hg (fun q e => by have := hM q e; have := HL.out; omega), kept_grown (B := 0) h.kept hg hM, HL.out, hG5, caps_app h.caps (caps_one HY.out.cap)⟩
    have HL5 : Hid ((us ++ [y]).length = us.length + 1) := by show _ = _; simp
    clear hown hg hnil hG5 hbb
    go_wp2
    go_ret
    exact ⟨M5, c5, us ++ [y], by rw [HL5.out]; rfl, HQ5.out, fines_app9 HF.out.1 (by omega) HY.out.fine, by rw [HL5.out]; omega⟩
  have d0 : (z == 0) = false := by simpa using e0
  by_cases e1 : z = 1
  · subst e1
    by_cases hlt : 0 < us.length
    · have hlt' : (0 : Int) < (us.length : Int) := by omega
      go_wp2_with fail
      refine (l11Any_any c gb capb by' _ HQ2.out.cur HB2.out.1 HB2.out.2 HBL.out).mono ?_
      rintro r w3 ⟨n, b, t, K, kc, M3, cap3, key, rs, rfl, hd, hn, hk, h9⟩
      obtain ⟨y, hy⟩ : ∃ y : GRow, y = ⟨n, K, kc, key, b, t, M3, 0, cap3, rs⟩ := ⟨_, rfl⟩
      have HY : Hid (Nw w2 w3 y) := by show Nw w2 w3 y; rw [hy]; exact nw_of hd hn hk h9
      have HYD : Hid (y = ⟨n, K, kc, key, b, t, M3, 0, cap3, rs⟩) := hy
      have HQ3 : Hid (QSt w c w3 M cp us) := HQ2.out.keep hd.cur hd.kept
      have HNE : Hid (∀ u ∈ us, ∀ q, u.blks q → ¬ y.blks q) := fun u hu q h1 h2 => by
        have e1 := (HQ2.out.row.rows.rng hu q h1).2
        have e2 := (HY.out.gb.rng q h2).1
        omega
      clear hy hd hn hk h9 HQ2 HB2
      go_upto_region 8 with fail
      have hbb := Go.Joins.below_alloc1 w3 (.cells #[.int .i64 n, .slice (some ⟨K, 0, none⟩) key.length kc, .int .i64 b, .int .i64 t, .slice (some ⟨M3, 0, none⟩) rs.length cap3] 53)
      have BX : Blk (w3.alloc (.cells #[.int .i64 n, .slice (some ⟨K, 0, none⟩) key.length kc, .int .i64 b, .int .i64 t, .slice (some ⟨M3, 0, none⟩) rs.length cap3] 53)) w3.heap.size #[.int .i64 n, .slice (some ⟨K, 0, none⟩) key.length kc, .int .i64 b, .int .i64 t, .slice (some ⟨M3, 0, none⟩) rs.length cap3] 53 := Blk.new _ _ _
      have HQ4 : Hid (QSt w c (w3.alloc (.cells #[.int .i64 n, .slice (some ⟨K, 0, none⟩) key.length kc, .int .i64 b, .int .i64 t, .slice (some ⟨M3, 0, none⟩) rs.length cap3] 53)) M cp us) := HQ3.out.grow hbb
      have HY4 : Hid (Nw w2 (w3.alloc (.cells #[.int .i64 n, .slice (some ⟨K, 0, none⟩) key.length kc, .int .i64 b, .int .i64 t, .slice (some ⟨M3, 0, none⟩) rs.length cap3] 53)) y) := HY.out.grow hbb
      clear hbb HQ3 HY
      generalize w3.alloc (.cells #[.int .i64 n, .slice (some ⟨K, 0, none⟩) key.length kc, .int .i64 b, .int .i64 t, .slice (some ⟨M3, 0, none⟩) rs.length cap3] 53) = W4 at *
      generalize w3.heap.size = X at *
      obtain ⟨cur, hc1, hc2, _⟩ := HQ4.out.row.outer
      have hcap := HQ4.out.row.cap
      obtain ⟨v0, v1, v2, v3, v4, q0, q1, q2, q3, q4⟩ := five_cells hc1 0 (by omega)
      have f0 := hc1.frozen (0 * 5)
      have f1 := hc1.frozen (0 * 5 + 1)
      have f2 := hc1.frozen (0 * 5 + 2)
      have f3 := hc1.frozen (0 * 5 + 3)
      have f4 := hc1.frozen (0 * 5 + 4)
      simp only [Nat.zero_mul, Nat.zero_add] at q0 q1 q2 q3 q4 f0 f1 f2 f3 f4
      have n0 := BX.cell 0
      have n1 := BX.cell 1
      have n2 := BX.cell 2
      have n3 := BX.cell 3
      have n4 := BX.cell 4
      simp at n0 n1 n2 n3 n4
      have hg := GsB.put HQ4.out.row hlt (HY4.out.gb.down (by have := HLO.out; omega)) HNE.out
      have hm := put5W_moved (k := 0) (x := y) hc1
      have e5 : put5W W4 M 0 y = ((((W4.setCell ⟨M, 0, none⟩ (.int .i64 n)).setCell ⟨M, 1, none⟩ (.slice (some ⟨K, 0, none⟩) key.length kc)).setCell ⟨M, 2, none⟩ (.int .i64 b)).setCell ⟨M, 3, none⟩ (.int .i64 t)).setCell ⟨M, 4, none⟩ (.slice (some ⟨M3, 0, none⟩) rs.length cap3) := by
        rw [HYD.out]; rfl
      rw [e5] at hg
      have hat := HQ4.out.row.at'
      have HQ5 : Hid (QSt w c (((((W4.setCell ⟨M, 0, none⟩ (.int .i64 n)).setCell ⟨M, 1, none⟩ (.slice (some ⟨K, 0, none⟩) key.length kc)).setCell ⟨M, 2, none⟩ (.int .i64 b)).setCell ⟨M, 3, none⟩ (.int .i64 t)).setCell ⟨M, 4, none⟩ (.slice (some ⟨M3, 0, none⟩) rs.length cap3)) M cp (us.set 0 y)) := by
        have h := HQ4.out
        have h0 := HL.out
        exact ⟨cur_set (cur_set (cur_set (cur_set (cur_set h.cur (by omega) _ _) (by omega) _ _) (by omega) _ _) (by omega) _ _) (by omega) _ _, DrawC.kept_set (DrawC.kept_set (DrawC.kept_set (DrawC.kept_set (DrawC.kept_set h.kept (by omega) _ _) (by omega) _ _) (by omega) _ _) (by omega) _ _) (by omega) _ _, h0, hg, caps_set h.caps HY4.out.cap⟩
      have HL5 : Hid ((us.set 0 y).length = us.length) := List.length_set
      clear hc1 hc2 hcap hg hm e5 hat BX HNE HQ4
      go_wp2
      go_ret
      exact ⟨M, cp, us.set 0 y, by rw [HL5.out]; rfl, HQ5.out, fines_set9 HF.out.1 (by omega) HY4.out.fine, by rw [HL5.out]; have := HF.out.2; omega⟩
    · have hge : ¬ (0 : Int) < (us.length : Int) := by omega
      go_wp2
      go_ret
      exact ⟨M, cp, us, rfl, HQ2.out, HF.out.1.up (by omega), by have := HF.out.2; omega⟩
  have d1 : (z == 1) = false := by simpa using e1
  go_wp2
  go_ret
  exact ⟨M, cp, us, rfl, HQ2.out, HF.out.1.up (by omega), by have := HF.out.2; omega⟩
end Go.Proofs.YtgncimlojbnbfaaGreat.GpV
namespace Go.Proofs.YtgncimlojbnbfaaGreat.GpU
open Go.RowKit
open Draw
open Labs LabS Over Blk App DrawL DrawT Alms AlmM DrawA DrawB Rws ChnI ChnC ChnP ChnK DrawC Grp GrpJ GrpW GrpX GrpY Chs Gps GpD GpC GpJ GpW GpV
open LabT (Held held_reads Fits infoL)
open LabR (flat flat_len flat_one)
open Pro (projB RdS)

structure QDo (w : World) (c : Nat) (wr : World) (g cap : Nat) (q : List Lab) : Prop where
  own : OwnA w.heap.size wr (g, cap, ⟨q, 0, 0, ByteArray.empty⟩)
  cur : Cur wr c
  kept : Kept c w wr
  fits : LabT.Fits q
  few : q.length ≤ 8
theorem qdo_of {w w1 wr : World} {c g cap : Nat} {p : List Lab} (hk : Kept c w w1) (h : LSt w1 c wr (.slice (some ⟨g, 0, none⟩) p.length cap) p) (hp : p.length ≤ 8) : QDo w c wr g cap p :=
  ⟨(own_lst h hp).down hk.size, h.cur, hk.trans h.kept, small_fits h.fit, hp⟩
theorem ao_kept {c lo : Nat} {w w' : World} {M o : Nat} {rs : List ARow} (h : AO lo w M o rs) (hk : Kept c w w') (hc : c < lo) : AO lo w' M o rs :=
  ao_only (S := fun q => q = c) h ⟨hk.os, hk.tape, hk.output, hk.size, fun k hk' hn => hk.block k hk' (fun e => hn e)⟩ (fun k hb e => by have := aoblks_low h k hb; omega)
set_option maxRecDepth 100000 in
set_option maxHeartbeats 1600000 in
theorem l7LabelsO_any (c M o cap lo : Nat) (rs : List ARow) (w : World) (hc : Cur w c) (hab : AO lo w M o rs) (hlo : c < lo) (hf : Fines (pals rs)) (hr : rs.length ≤ 1000) :
    Calls Tryz.prog 41 #[.pointer (some ⟨c, 0, none⟩), .slice (some ⟨M, o, none⟩) rs.length cap] w fun r w' => ∃ (g cg : Nat) (q : List Lab), r = .returned (.slice (some ⟨g, 0, none⟩) q.length cg) ∧ QDo w c w' g cg q := by
  have HC : Hid (Cur w c) := hc
  have HA : Hid (AO lo w M o rs ∧ c < lo ∧ Fines (pals rs)) := ⟨hab, hlo, hf⟩
  clear hc hab hlo hf
  obtain ⟨i0, hi, hz0, hz1, hz2⟩ := info_parts infoL
  by_cases hr0 : 0 < rs.length
  · have hr0' : (rs.length : Int) > 0 := by omega
    go_enter Tryz.func41, Tryz.ntmps41
    go_wp2_with fail
    refine (once_any c 3 _ HC.out (by decide) (by decide)).mono ?_
    rintro r w1 ⟨⟨b, rfl⟩, hc1, hk1⟩
    have HC1 : Hid (Cur w1 c ∧ Kept c w w1) := ⟨hc1, hk1⟩
    clear hc1 hk1
    cases b with
    | true =>
      go_wp2_with fail
      refine (l2Draw_any c _ HC1.out.1).mono ?_
      rintro r w2 ⟨v, rfl, p, hst, hp1, hp2⟩
      obtain ⟨g, cg, rfl⟩ := hst.lies
      have HQ : Hid (QDo w c w2 g cg p) := qdo_of HC1.out.2 hst (by omega)
      clear hst
      go_wp2
      go_ret
      exact ⟨g, cg, p, rfl, HQ.out⟩
    | false =>
      go_wp2_with fail
      refine (below_any c (rs.length : Int) _ (HC1.out.1.alloc _) (by omega) (by omega)).mono ?_
      rintro r w2 ⟨⟨z, rfl, hz0', hz1'⟩, hc2, hk2⟩
      obtain ⟨k, rfl⟩ := Int.eq_ofNat_of_zero_le hz0'
      have hkl : k < rs.length := by omega
      have hA2 : AO lo w2 M o rs := ao_kept ((ao_kept HA.out.1 HC1.out.2 HA.out.2.1).grow (Go.Joins.below_alloc1 w1 _)) hk2 HA.out.2.1
      have HE : Hid (Blk w2 w1.heap.size #[] 99) := blk_kept (Blk.new w1 _ _) hk2 (by have := HC1.out.1.lt; omega)
      have HK2 : Hid (Cur w2 c ∧ Kept c w w2 ∧ w.heap.size ≤ w1.heap.size ∧ c < w.heap.size ∧ w1.heap.size < w2.heap.size) := ⟨hc2, (HC1.out.2.alloc _).trans hk2, HC1.out.2.size, HC.out.lt, HE.out.lt⟩
      obtain ⟨cu, hcu, hcs, h4⟩ := hA2.outer
      have h40 := h4 k hkl
      unfold Four at h40
      have y0 : w2.cell? ⟨M, o + k * 4, none⟩ = some (.slice (some ⟨(nthA rs k).1, 0, none⟩) (nthA rs k).2.2.l.length (nthA rs k).2.1) := (hcu.cell _).trans h40.1
      have hfk : Fine (nthA rs k).2.2 := by rw [← pals_nth hkl]; exact HA.out.2.2 _ (nthP_mem (by rw [pals_len]; exact hkl))
      have HFk : Hid (Fine (nthA rs k).2.2) := hfk
      have h8 : (nthA rs k).2.2.l.length ≤ 8 := hfk.2
      have HRd : Hid (Reads w2 (some ⟨(nthA rs k).1, 0, none⟩) (nthA rs k).2.2.l) := (hA2.rows _ (nthA_mem hkl)).reads
      have hk' : (k : Int) < (rs.length : Int) := by omega
      clear hz0' hz1' hc2 hk2 hA2 hcu hcs h4 h40 hfk
      go_wp2_with (at_builtin; refine wpList_append_own_at _ rfl _ _ 25 rfl w.heap.size 99 i0 (.agg #[.string ByteArray.empty, .string ByteArray.empty]) 2 32 Tryz.underlying25 hi hz0 hz1 hz2 rfl (by decide) _ _ _ rfl (own_empty HE.out HK2.out.2.2.1) ⟨(nthA rs k).1, 0, none⟩ (nthA rs k).2.2.l.length (nthA rs k).2.1 (flat (nthA rs k).2.2.l) rfl (flat_len _) (src_of HRd.out) (flat_one _) ?c3 ?c4 ?c5 ?_)
      case c3 => unfold maxLen; omega
      case c4 => omega
      case c5 => have := HK2.out; omega
      intro v' w3 hown hg hnil hat
      try rw [Nat.zero_add] at hown
      try rw [List.nil_append] at hown
      obtain ⟨Ml, cl, hv⟩ : ∃ g' c', v' = .slice (some ⟨g', 0, none⟩) (nthA rs k).2.2.l.length c' := by
        rcases hown.2 with ⟨e, _⟩ | ⟨g', c', cur, e, _⟩
        · exact absurd e hnil
        · exact ⟨g', c', e⟩
      subst hv
      have HQ : Hid (QDo w c w3 Ml cl (nthA rs k).2.2.l) := by
        obtain ⟨h1, cs, h2, h3, h5⟩ := own_row hown
        exact ⟨⟨h1, by show (nthA rs k).2.2.l.length ≤ _; omega, cs, h2, h3, h5⟩, HK2.out.1.grown hg (fun q hq => by cases hq; have := HK2.out; show c < w1.heap.size; omega), kept_grown (B := 0) HK2.out.2.1 hg (fun q hq => by cases hq; exact HK2.out.2.2.1), HFk.out.1.fits, HFk.out.2⟩
      clear hown hg hnil hat
      go_wp2
      go_ret
      exact ⟨Ml, cl, (nthA rs k).2.2.l, rfl, HQ.out⟩
  · have hr0' : ¬ (rs.length : Int) > 0 := by omega
    go_enter Tryz.func41, Tryz.ntmps41
    go_wp2_with fail
    refine (l2Draw_any c _ HC.out).mono ?_
    rintro r w2 ⟨v, rfl, p, hst, hp1, hp2⟩
    obtain ⟨g, cg, rfl⟩ := hst.lies
    have HQ : Hid (QDo w c w2 g cg p) := qdo_of (Kept.refl c w) hst (by omega)
    clear hst
    go_wp2
    go_ret
    exact ⟨g, cg, p, rfl, HQ.out⟩

structure RGs (w : World) (M cp : Nat) (U : List PGr) : Prop where
  rn : RdGs GN w (some ⟨M, 0, none⟩) U
  fine : FinesG 9 U
  len : U.length ≤ 7
  cap : U.length ≤ cp ∧ cp ≤ maxLen
theorem RGs.below {w w' : World} {M cp : Nat} {U : List PGr} (h : RGs w M cp U) (hb : Below w.heap.size w w') : RGs w' M cp U := ⟨h.rn.below stays_gn hb, h.fine, h.len, h.cap⟩
def DLs (w : World) (g : Nat) (q : List Lab) : Prop := Reads w (some ⟨g, 0, none⟩) q ∧ KeyF q
theorem DLs.below {w w' : World} {g : Nat} {q : List Lab} (h : DLs w g q) (hb : Below w.heap.size w w') : DLs w' g q := ⟨h.1.below hb, h.2⟩
structure TSt (w : World) (c : Nat) (W : World) (M cp : Nat) (us : List GRow) (gb : Nat) (by' : List ByteArray) : Prop where
  cur : Cur W c
  low : Below w.heap.size w W
  at' : w.heap.size ≤ c
  row : GsB (c + 1) W M cp us
  caps : CapsG us
  fine : FinesG 9 (grs us)
  len : us.length ≤ 7
  names : ByK W gb by'
  ngb : c < gb
  few : by'.length ≤ 2
theorem TSt.keep {w : World} {c : Nat} {W W' : World} {M cp : Nat} {us : List GRow} {gb : Nat} {by' : List ByteArray} (h : TSt w c W M cp us gb by') (hc : Cur W' c) (hk : Kept c W W') : TSt w c W' M cp us gb by' :=
  ⟨hc, h.low.trans (hk.below h.at' h.low.size), h.at', gsb_kept h.row hk (Nat.lt_succ_self c), h.caps, h.fine, h.len, h.names.keep hk (Nat.ne_of_gt h.ngb), h.ngb, h.few⟩
theorem TSt.grow {w : World} {c : Nat} {W W' : World} {M cp : Nat} {us : List GRow} {gb : Nat} {by' : List ByteArray} (h : TSt w c W M cp us gb by') (hb : Below W.heap.size W W') : TSt w c W' M cp us gb by' := h.keep (cur_bel h.cur hb) (kept_bel hb)
theorem TSt.rgs {w : World} {c : Nat} {W : World} {M cp : Nat} {us : List GRow} {gb : Nat} {by' : List ByteArray} (h : TSt w c W M cp us gb by') : RGs W M cp (grs us) := ⟨h.row.rn h.caps, h.fine, by rw [grs_len]; exact h.len, by rw [grs_len]; exact h.row.cap⟩
theorem gs_high {lo : Nat} {w : World} {M cp : Nat} {us : List GRow} (h : GsB lo w M cp us) : M < w.heap.size ∧ ∀ x ∈ us, ∀ k, x.blks k → k < w.heap.size := ⟨h.lt, fun x hx k hk => (h.rows.rng hx k hk).2⟩
theorem TSt.side {w : World} {c N : Nat} {V W W' : World} {M cp : Nat} {us : List GRow} {gb : Nat} {by' : List ByteArray} (h0 : TSt w c V M cp us gb by') (h : TSt w c W M cp us gb by') (hg : W.grownBy W' (some N)) (hN : V.heap.size ≤ N) : TSt w c W' M cp us gb by' := by
  have h1 := gs_high h0.row
  have h2 := h0.cur.lt
  have h3 : gb < V.heap.size := by obtain ⟨cs, hb, _⟩ := h0.names; exact hb.lt
  have h4 := h0.at'
  have ho : Only (fun q => q = N) W W' := ⟨hg.os, hg.tape, hg.output, hg.size, fun k hk hn => hg.block k hk (fun e => hn (Option.some.inj e))⟩
  obtain ⟨cur, hc1, hc2⟩ := h.row.outer
  obtain ⟨cs, hb, hbs⟩ := h.names
  refine ⟨h.cur.grown hg (fun q e => by have := Option.some.inj e; omega), h.low.grown hg (h.low.size) (fun q e => by have := Option.some.inj e; have := h0.low.size; omega), h.at', ⟨h.row.at', h.row.cap, ⟨cur, ho.blk hc1 (by have := h1.1; omega), hc2⟩, ⟨fun x hx => (h.row.rows.rows x hx).only ho fun k hk e => by have := h1.2 x hx k hk; omega, h.row.rows.ne⟩⟩, h.caps, h.fine, h.len, ⟨cs, ho.blk hb (by omega), hbs⟩, h.ngb, h.few⟩
structure TSr (w : World) (c : Nat) (W : World) (M cp : Nat) (us : List GRow) (gb : Nat) (by' : List ByteArray) : Prop where
  low : Below w.heap.size w W
  row : GsB (c + 1) W M cp us
  names : ByK W gb by'
  ngb : c < gb
theorem TSr.put {w : World} {c : Nat} {W : World} {M cp : Nat} {us : List GRow} {gb : Nat} {by' : List ByteArray} (h : TSr w c W M cp us gb by') (hlt : w.heap.size < c) (i : Nat) (v : Value) : TSr w c (W.setCell ⟨w.heap.size, i, none⟩ v) M cp us gb by' := by
  have ho : Only (fun q => q = w.heap.size) W (W.setCell ⟨w.heap.size, i, none⟩ v) := (Only.refl (fun q => q = w.heap.size) W).set (M := w.heap.size) rfl i v
  obtain ⟨cur, hc1, hc2⟩ := h.row.outer
  have h1 := h.row.at'
  have h2 := h.ngb
  exact ⟨GrpY.set_low h.low (Nat.le_refl _) _ _, ⟨h1, h.row.cap, ⟨cur, ho.blk hc1 (by omega), hc2⟩, ⟨fun x hx => (h.row.rows.rows x hx).only ho fun k hk e => by have := (h.row.rows.rng hx k hk).1; omega, h.row.rows.ne⟩⟩, h.names.set (by omega) _ _, h2⟩
theorem nth_o {us : List GRow} {k : Nat} (h : FinesG 9 (grs us)) (hk : k < us.length) : FineG 9 (nthG (grs us) k) := h _ (nthG_mem (by rw [grs_len]; exact hk))

def RDa (r : Ending) (w' : World) : Prop := ∃ (M cp : Nat) (U : List PGr) (gb gc : Nat) (by' : List ByteArray), r = .returned (.tuple #[.slice (some ⟨M, 0, none⟩) U.length cp, .slice (some ⟨gb, 0, none⟩) by'.length gc]) ∧ RGs w' M cp U ∧ RdS w' (some ⟨gb, 0, none⟩) by' ∧ by'.length ≤ 2
def RDl (r : Ending) (w' : World) : Prop := ∃ (M cp : Nat) (U : List PGr) (g cg : Nat) (q : List Lab), r = .returned (.tuple #[.slice (some ⟨M, 0, none⟩) U.length cp, .slice (some ⟨g, 0, none⟩) q.length cg]) ∧ RGs w' M cp U ∧ DLs w' g q
def RDn (r : Ending) (w' : World) : Prop := ∃ (M cp : Nat) (U : List PGr) (n : Int), r = .returned (.tuple #[.slice (some ⟨M, 0, none⟩) U.length cp, .int .i64 n]) ∧ RGs w' M cp U ∧ I64 n
def RDf (r : Ending) (w' : World) : Prop := ∃ (M cp : Nat) (U : List PGr) (n now : Int), r = .returned (.tuple #[.slice (some ⟨M, 0, none⟩) U.length cp, .int .i64 n, .int .i64 now]) ∧ RGs w' M cp U ∧ I64 n ∧ (0 ≤ now ∧ now ≤ 39)
def RDj (r : Ending) (w' : World) : Prop := ∃ (M cp : Nat) (U : List PGr) (gx cx : Nat) (x : PAl) (gb gc : Nat) (by' : List ByteArray) (now : Int), r = .returned (.tuple #[.slice (some ⟨M, 0, none⟩) U.length cp, .agg #[.slice (some ⟨gx, 0, none⟩) x.l.length cx, .int .i64 x.s, .int .i64 x.e, .string x.n], .slice (some ⟨gb, 0, none⟩) by'.length gc, .int .i64 20, .int .i64 now]) ∧ RGs w' M cp U ∧ DAl w' gx x ∧ (RdS w' (some ⟨gb, 0, none⟩) by' ∧ by'.length ≤ 2) ∧ (0 ≤ now ∧ now ≤ 8)

set_option maxRecDepth 100000 in
set_option maxHeartbeats 6400000 in
theorem drawGroupsOk_any (b0 : Option Addr) (len cap0 : Nat) (w : World) (hl : len ≤ maxLen) (hb : Bytes w b0 len w.heap.size) :
    Calls Tryz.prog 11 #[.slice b0 len cap0] w fun r w' => RDa r w' ∧ Below w.heap.size w w' := by
  have HB : Hid (Bytes w b0 len w.heap.size) := hb
  have HL : Hid (len ≤ maxLen) := hl
  clear hb hl
  go_enter Tryz.func11, Tryz.ntmps11
  go_wp2_with fail
  refine (new_any b0 len cap0 _ HL.out HB.out).mono ?_
  rintro r w1 ⟨rfl, hc1, hb1⟩
  have HC1 : Hid (Cur w1 w.heap.size) := hc1
  have HB1 : Hid (Below w.heap.size w w1) := hb1
  clear hc1 hb1 HB HL
  go_wp2_with fail
  refine (DrawK.l5By_any w.heap.size _ HC1.out).mono ?_
  rintro r w2 ⟨v, rfl, by', hs, h2⟩
  obtain ⟨gb, gc, rfl, hby, hg1, hg2⟩ := byk_of hs
  have HC2 : Hid (Cur w2 w.heap.size) := hs.cur
  have HB2 : Hid (Below w.heap.size w w2) := HB1.out.trans (hs.kept.below (by omega) HB1.out.size)
  have HGB : Hid (w.heap.size < gb) := by have := HC1.out.lt; show w.heap.size < gb; omega
  have HY2 : Hid (ByK w2 gb by' ∧ (gb ≠ w.heap.size ∧ gb < w2.heap.size) ∧ by'.length ≤ 2) := ⟨hby, ⟨by have := HC1.out.lt; omega, hg2⟩, h2⟩
  clear hs h2 hby hg1 hg2 HB1 HC1
  go_wp2_with fail
  refine (l12Any_any w.heap.size gb gc by' _ HC2.out HY2.out.1 HY2.out.2.1 (by have := HY2.out.2.2; unfold maxLen; omega)).mono ?_
  rintro r w3 ⟨M, cp, us, rfl, hq, hf, hl⟩
  have T3 : Hid (TSt w w.heap.size w3 M cp us gb by') := ⟨hq.cur, HB2.out.trans (hq.kept.below (by omega) HB2.out.size), by omega, hq.row.down (by have := HC2.out.lt; omega), hq.caps, hf, hl, HY2.out.1.keep hq.kept HY2.out.2.1.1, HGB.out, HY2.out.2.2⟩
  have HLEN : Hid ((grs us).length = us.length) := grs_len us
  clear hq hf hl HC2 HB2 HY2
  go_wp2
  refine bodyPost_ret (v := .tuple #[.slice (some ⟨M, 0, none⟩) us.length cp, .slice (some ⟨gb, 0, none⟩) by'.length gc]) (by simp [results, Tryz.results11, go_sem]) rfl ?_
  exact ⟨⟨M, cp, grs us, gb, gc, by', by rw [HLEN.out], T3.out.rgs, T3.out.names.rd, T3.out.few⟩, T3.out.low⟩
set_option maxRecDepth 100000 in
set_option maxHeartbeats 6400000 in
theorem drawGroupAt_any (b0 : Option Addr) (len cap0 : Nat) (w : World) (hl : len ≤ maxLen) (hb : Bytes w b0 len w.heap.size) :
    Calls Tryz.prog 13 #[.slice b0 len cap0] w fun r w' => RDn r w' ∧ Below w.heap.size w w' := by
  have HB : Hid (Bytes w b0 len w.heap.size) := hb
  have HL : Hid (len ≤ maxLen) := hl
  clear hb hl
  go_enter Tryz.func13, Tryz.ntmps13
  go_wp2_with fail
  refine (new_any b0 len cap0 _ HL.out HB.out).mono ?_
  rintro r w1 ⟨rfl, hc1, hb1⟩
  have HC1 : Hid (Cur w1 w.heap.size) := hc1
  have HB1 : Hid (Below w.heap.size w w1) := hb1
  clear hc1 hb1 HB HL
  go_wp2_with fail
  refine (DrawK.l5By_any w.heap.size _ HC1.out).mono ?_
  rintro r w2 ⟨v, rfl, by', hs, h2⟩
  obtain ⟨gb, gc, rfl, hby, hg1, hg2⟩ := byk_of hs
  have HC2 : Hid (Cur w2 w.heap.size) := hs.cur
  have HB2 : Hid (Below w.heap.size w w2) := HB1.out.trans (hs.kept.below (by omega) HB1.out.size)
  have HGB : Hid (w.heap.size < gb) := by have := HC1.out.lt; show w.heap.size < gb; omega
  have HY2 : Hid (ByK w2 gb by' ∧ (gb ≠ w.heap.size ∧ gb < w2.heap.size) ∧ by'.length ≤ 2) := ⟨hby, ⟨by have := HC1.out.lt; omega, hg2⟩, h2⟩
  clear hs h2 hby hg1 hg2 HB1 HC1
  go_wp2_with fail
  refine (l12Any_any w.heap.size gb gc by' _ HC2.out HY2.out.1 HY2.out.2.1 (by have := HY2.out.2.2; unfold maxLen; omega)).mono ?_
  rintro r w3 ⟨M, cp, us, rfl, hq, hf, hl⟩
  have T3 : Hid (TSt w w.heap.size w3 M cp us gb by') := ⟨hq.cur, HB2.out.trans (hq.kept.below (by omega) HB2.out.size), by omega, hq.row.down (by have := HC2.out.lt; omega), hq.caps, hf, hl, HY2.out.1.keep hq.kept HY2.out.2.1.1, HGB.out, HY2.out.2.2⟩
  have HLEN : Hid ((grs us).length = us.length) := grs_len us
  clear hq hf hl HC2 HB2 HY2
  go_wp2_with fail
  refine (below_any w.heap.size 6 _ T3.out.cur (by decide) (by decide)).mono ?_
  rintro r w4 ⟨⟨z, rfl, z0, z1⟩, hc, hk⟩
  have T4 : Hid (TSt w w.heap.size w4 M cp us gb by') := T3.out.keep hc hk
  clear hc hk T3
  go_wp2
  have hw : IntKind.i64.wrap (z - 1) = z - 1 := by rw [IntKind.wrap_i64]; omega
  try rw [hw]
  refine bodyPost_ret (v := .tuple #[.slice (some ⟨M, 0, none⟩) us.length cp, .int .i64 (z - 1)]) (by simp [results, Tryz.results13, go_sem]) rfl ?_
  exact ⟨⟨M, cp, grs us, z - 1, by rw [HLEN.out], T4.out.rgs, ⟨by omega, by omega⟩⟩, T4.out.low⟩
set_option maxRecDepth 100000 in
set_option maxHeartbeats 6400000 in
theorem drawFlushAt_any (b0 : Option Addr) (len cap0 : Nat) (w : World) (hl : len ≤ maxLen) (hb : Bytes w b0 len w.heap.size) :
    Calls Tryz.prog 8 #[.slice b0 len cap0] w fun r w' => RDf r w' ∧ Below w.heap.size w w' := by
  have HB : Hid (Bytes w b0 len w.heap.size) := hb
  have HL : Hid (len ≤ maxLen) := hl
  clear hb hl
  go_enter Tryz.func8, Tryz.ntmps8
  go_wp2_with fail
  refine (new_any b0 len cap0 _ HL.out HB.out).mono ?_
  rintro r w1 ⟨rfl, hc1, hb1⟩
  have HC1 : Hid (Cur w1 w.heap.size) := hc1
  have HB1 : Hid (Below w.heap.size w w1) := hb1
  clear hc1 hb1 HB HL
  go_wp2_with fail
  refine (DrawK.l5By_any w.heap.size _ HC1.out).mono ?_
  rintro r w2 ⟨v, rfl, by', hs, h2⟩
  obtain ⟨gb, gc, rfl, hby, hg1, hg2⟩ := byk_of hs
  have HC2 : Hid (Cur w2 w.heap.size) := hs.cur
  have HB2 : Hid (Below w.heap.size w w2) := HB1.out.trans (hs.kept.below (by omega) HB1.out.size)
  have HGB : Hid (w.heap.size < gb) := by have := HC1.out.lt; show w.heap.size < gb; omega
  have HY2 : Hid (ByK w2 gb by' ∧ (gb ≠ w.heap.size ∧ gb < w2.heap.size) ∧ by'.length ≤ 2) := ⟨hby, ⟨by have := HC1.out.lt; omega, hg2⟩, h2⟩
  clear hs h2 hby hg1 hg2 HB1 HC1
  go_wp2_with fail
  refine (l12Any_any w.heap.size gb gc by' _ HC2.out HY2.out.1 HY2.out.2.1 (by have := HY2.out.2.2; unfold maxLen; omega)).mono ?_
  rintro r w3 ⟨M, cp, us, rfl, hq, hf, hl⟩
  have T3 : Hid (TSt w w.heap.size w3 M cp us gb by') := ⟨hq.cur, HB2.out.trans (hq.kept.below (by omega) HB2.out.size), by omega, hq.row.down (by have := HC2.out.lt; omega), hq.caps, hf, hl, HY2.out.1.keep hq.kept HY2.out.2.1.1, HGB.out, HY2.out.2.2⟩
  have HLEN : Hid ((grs us).length = us.length) := grs_len us
  clear hq hf hl HC2 HB2 HY2
  go_wp2_with fail
  refine (below_any w.heap.size 6 _ T3.out.cur (by decide) (by decide)).mono ?_
  rintro r w4 ⟨⟨z, rfl, z0, z1⟩, hc, hk⟩
  have T4 : Hid (TSt w w.heap.size w4 M cp us gb by') := T3.out.keep hc hk
  clear hc hk T3
  have hw : IntKind.i64.wrap (z - 1) = z - 1 := by rw [IntKind.wrap_i64]; omega
  by_cases hlt : 0 < us.length
  ·
    have hlt' : (us.length : Int) > 0 := by omega
    have h7 : us.length ≤ 7 := T4.out.len
    go_wp2_with fail
    refine (once_any w.heap.size 3 _ T4.out.cur (by decide) (by decide)).mono ?_
    rintro r w5 ⟨⟨b, rfl⟩, hc, hk⟩
    have T5 : Hid (TSt w w.heap.size w5 M cp us gb by') := T4.out.keep hc hk
    clear hc hk T4
    cases b with
    | true =>
      go_wp2_with fail
      refine (below_any w.heap.size 40 _ T5.out.cur (by decide) (by decide)).mono ?_
      rintro r w6 ⟨⟨now, rfl, now0, now1⟩, hc, hk⟩
      have T6 : Hid (TSt w w.heap.size w6 M cp us gb by') := T5.out.keep hc hk
      clear hc hk
      go_wp2
      refine bodyPost_ret (v := .tuple #[.slice (some ⟨M, 0, none⟩) us.length cp, .int .i64 (z - 1), .int .i64 now]) (by simp [results, Tryz.results8, go_sem]) rfl ?_
      exact ⟨⟨M, cp, grs us, (z - 1), now, by rw [HLEN.out], T6.out.rgs, ⟨by omega, by omega⟩, ⟨now0, by omega⟩⟩, T6.out.low⟩
    | false =>
      go_wp2_with fail
      refine (below_any w.heap.size (us.length : Int) _ T5.out.cur (by omega) (by omega)).mono ?_
      rintro r w6 ⟨⟨y, rfl, y0, y1⟩, hc, hk⟩
      have T6 : Hid (TSt w w.heap.size w6 M cp us gb by') := T5.out.keep hc hk
      obtain ⟨k, rfl⟩ := Int.eq_ofNat_of_zero_le y0
      have hkl : k < us.length := by omega
      have hk' : (k : Int) < (us.length : Int) := by omega
      obtain ⟨bb, off, ee, hbb, ka, kc, ad, cpa, hat⟩ := (T6.out.row.rn T6.out.caps).get (i := k) (by rw [HLEN.out]; exact hkl)
      cases ee
      have HF : Hid (FineG 9 (nthG (grs us) k)) := nth_o T6.out.fine hkl
      have g0 : w6.cell? ⟨M, k * 5, none⟩ = some (.int .i64 (nthG (grs us) k).n) := by have := hat.c0; rwa [Nat.zero_add] at this
      have g1 : w6.cell? ⟨M, k * 5 + 1, none⟩ = some (.slice ka (nthG (grs us) k).key.length kc) := by have := hat.c1; rwa [Nat.zero_add] at this
      clear hc hk T5 hat g1 y0 y1
      go_wp2_with fail
      refine (below_any w.heap.size 40 _ T6.out.cur (by decide) (by decide)).mono ?_
      rintro r w7 ⟨⟨now, rfl, now0, now1⟩, hc, hk⟩
      have T7 : Hid (TSt w w.heap.size w7 M cp us gb by') := T6.out.keep hc hk
      clear hc hk
      go_wp2
      refine bodyPost_ret (v := .tuple #[.slice (some ⟨M, 0, none⟩) us.length cp, .int .i64 (nthG (grs us) k).n, .int .i64 now]) (by simp [results, Tryz.results8, go_sem]) rfl ?_
      exact ⟨⟨M, cp, grs us, (nthG (grs us) k).n, now, by rw [HLEN.out], T7.out.rgs, HF.out.1.1, ⟨now0, by omega⟩⟩, T7.out.low⟩
  ·
    have hlt' : ¬ (us.length : Int) > 0 := by omega
    go_wp2_with fail
    refine (below_any w.heap.size 40 _ T4.out.cur (by decide) (by decide)).mono ?_
    rintro r w5 ⟨⟨now, rfl, now0, now1⟩, hc, hk⟩
    have T5 : Hid (TSt w w.heap.size w5 M cp us gb by') := T4.out.keep hc hk
    clear hc hk
    go_wp2
    refine bodyPost_ret (v := .tuple #[.slice (some ⟨M, 0, none⟩) us.length cp, .int .i64 (z - 1), .int .i64 now]) (by simp [results, Tryz.results8, go_sem]) rfl ?_
    exact ⟨⟨M, cp, grs us, (z - 1), now, by rw [HLEN.out], T5.out.rgs, ⟨by omega, by omega⟩, ⟨now0, by omega⟩⟩, T5.out.low⟩
set_option maxRecDepth 100000 in
set_option maxHeartbeats 6400000 in
theorem drawMemberOf_any (b0 : Option Addr) (len cap0 : Nat) (w : World) (hl : len ≤ maxLen) (hb : Bytes w b0 len w.heap.size) :
    Calls Tryz.prog 14 #[.slice b0 len cap0] w fun r w' => RDl r w' ∧ Below w.heap.size w w' := by
  have HB : Hid (Bytes w b0 len w.heap.size) := hb
  have HL : Hid (len ≤ maxLen) := hl
  clear hb hl
  go_enter Tryz.func14, Tryz.ntmps14
  go_wp2_with fail
  refine (new_any b0 len cap0 _ HL.out HB.out).mono ?_
  rintro r w1 ⟨rfl, hc1, hb1⟩
  have HC1 : Hid (Cur w1 w.heap.size) := hc1
  have HB1 : Hid (Below w.heap.size w w1) := hb1
  clear hc1 hb1 HB HL
  go_wp2_with fail
  refine (DrawK.l5By_any w.heap.size _ HC1.out).mono ?_
  rintro r w2 ⟨v, rfl, by', hs, h2⟩
  obtain ⟨gb, gc, rfl, hby, hg1, hg2⟩ := byk_of hs
  have HC2 : Hid (Cur w2 w.heap.size) := hs.cur
  have HB2 : Hid (Below w.heap.size w w2) := HB1.out.trans (hs.kept.below (by omega) HB1.out.size)
  have HGB : Hid (w.heap.size < gb) := by have := HC1.out.lt; show w.heap.size < gb; omega
  have HY2 : Hid (ByK w2 gb by' ∧ (gb ≠ w.heap.size ∧ gb < w2.heap.size) ∧ by'.length ≤ 2) := ⟨hby, ⟨by have := HC1.out.lt; omega, hg2⟩, h2⟩
  clear hs h2 hby hg1 hg2 HB1 HC1
  go_wp2_with fail
  refine (l12Any_any w.heap.size gb gc by' _ HC2.out HY2.out.1 HY2.out.2.1 (by have := HY2.out.2.2; unfold maxLen; omega)).mono ?_
  rintro r w3 ⟨M, cp, us, rfl, hq, hf, hl⟩
  have T3 : Hid (TSt w w.heap.size w3 M cp us gb by') := ⟨hq.cur, HB2.out.trans (hq.kept.below (by omega) HB2.out.size), by omega, hq.row.down (by have := HC2.out.lt; omega), hq.caps, hf, hl, HY2.out.1.keep hq.kept HY2.out.2.1.1, HGB.out, HY2.out.2.2⟩
  have HLEN : Hid ((grs us).length = us.length) := grs_len us
  clear hq hf hl HC2 HB2 HY2
  by_cases hlt : 0 < us.length
  ·
    have hlt' : (us.length : Int) > 0 := by omega
    have h7 : us.length ≤ 7 := T3.out.len
    go_wp2_with fail
    refine (below_any w.heap.size (us.length : Int) _ T3.out.cur (by omega) (by omega)).mono ?_
    rintro r w4 ⟨⟨y, rfl, y0, y1⟩, hc, hk⟩
    have T4 : Hid (TSt w w.heap.size w4 M cp us gb by') := T3.out.keep hc hk
    obtain ⟨k, rfl⟩ := Int.eq_ofNat_of_zero_le y0
    have hkl : k < us.length := by omega
    have hk' : (k : Int) < (us.length : Int) := by omega
    obtain ⟨cu, hcu, hcs, h5⟩ := T4.out.row.outer
    have g4 : w4.cell? ⟨M, k * 5 + 4, none⟩ = some (.slice (some ⟨(nthR us k).M, (nthR us k).o, none⟩) (nthR us k).rs.length (nthR us k).c) := (hcu.cell _).trans (h5 k hkl).e4
    have HA : Hid (AO (w.heap.size + 1) w4 (nthR us k).M (nthR us k).o (nthR us k).rs) := (T4.out.row.rows.rows _ (nthR_mem hkl)).row
    have HF : Hid (FineG 9 (nthG (grs us) k)) := nth_o T4.out.fine hkl
    have HG : Hid ((nthG (grs us) k).P = pals (nthR us k).rs) := by show _ = _; rw [grs_nth hkl]; rfl
    have HFP : Hid (Fines (pals (nthR us k).rs) ∧ (nthR us k).rs.length ≤ 9) := by
      have h := HF.out.2.2
      rw [HG.out, Rws.pals_len] at h
      exact h
    clear hc hk hcu hcs h5 y0 y1 T3
    go_wp2_with fail
    refine (l7LabelsO_any w.heap.size _ _ _ (w.heap.size + 1) (nthR us k).rs _ T4.out.cur HA.out (Nat.lt_succ_self _) HFP.out.1 (by have := HFP.out.2; omega)).mono ?_
    rintro r w5 ⟨g, cg, q, rfl, hq⟩
    have T5 : Hid (TSt w w.heap.size w5 M cp us gb by') := T4.out.keep hq.cur hq.kept
    have HD : Hid (DLs w5 g q) := ⟨hq.own.reads, hq.fits, hq.few⟩
    clear hq g4
    go_wp2
    refine bodyPost_ret (v := .tuple #[.slice (some ⟨M, 0, none⟩) us.length cp, .slice (some ⟨g, 0, none⟩) q.length cg]) (by simp [results, Tryz.results14, go_sem]) rfl ?_
    exact ⟨⟨M, cp, grs us, g, cg, q, by rw [HLEN.out], T5.out.rgs, HD.out⟩, T5.out.low⟩
  ·
    have hlt' : ¬ (us.length : Int) > 0 := by omega
    go_wp2_with fail
    refine (l2Draw_any w.heap.size _ T3.out.cur).mono ?_
    rintro r w4 ⟨v, rfl, p, hst, hp1, hp2⟩
    obtain ⟨g, cg, rfl⟩ := hst.lies
    have HQ : Hid (QDo w3 w.heap.size w4 g cg p) := qdo_of (Kept.refl _ w3) hst (by omega)
    have T4 : Hid (TSt w w.heap.size w4 M cp us gb by') := T3.out.keep HQ.out.cur HQ.out.kept
    have HD : Hid (DLs w4 g p) := ⟨HQ.out.own.reads, HQ.out.fits, HQ.out.few⟩
    clear hst HQ
    go_wp2
    refine bodyPost_ret (v := .tuple #[.slice (some ⟨M, 0, none⟩) us.length cp, .slice (some ⟨g, 0, none⟩) p.length cg]) (by simp [results, Tryz.results14, go_sem]) rfl ?_
    exact ⟨⟨M, cp, grs us, g, cg, p, by rw [HLEN.out], T4.out.rgs, HD.out⟩, T4.out.low⟩
set_option maxRecDepth 100000 in
set_option maxHeartbeats 6400000 in
theorem drawGroupOf_any (b0 : Option Addr) (len cap0 : Nat) (w : World) (hl : len ≤ maxLen) (hb : Bytes w b0 len w.heap.size) :
    Calls Tryz.prog 12 #[.slice b0 len cap0] w fun r w' => RDl r w' ∧ Below w.heap.size w w' := by
  have HB : Hid (Bytes w b0 len w.heap.size) := hb
  have HL : Hid (len ≤ maxLen) := hl
  clear hb hl
  go_enter Tryz.func12, Tryz.ntmps12
  go_wp2_with fail
  refine (new_any b0 len cap0 _ HL.out HB.out).mono ?_
  rintro r w1 ⟨rfl, hc1, hb1⟩
  have HC1 : Hid (Cur w1 w.heap.size) := hc1
  have HB1 : Hid (Below w.heap.size w w1) := hb1
  clear hc1 hb1 HB HL
  go_wp2_with fail
  refine (DrawK.l5By_any w.heap.size _ HC1.out).mono ?_
  rintro r w2 ⟨v, rfl, by', hs, h2⟩
  obtain ⟨gb, gc, rfl, hby, hg1, hg2⟩ := byk_of hs
  have HC2 : Hid (Cur w2 w.heap.size) := hs.cur
  have HB2 : Hid (Below w.heap.size w w2) := HB1.out.trans (hs.kept.below (by omega) HB1.out.size)
  have HGB : Hid (w.heap.size < gb) := by have := HC1.out.lt; show w.heap.size < gb; omega
  have HY2 : Hid (ByK w2 gb by' ∧ (gb ≠ w.heap.size ∧ gb < w2.heap.size) ∧ by'.length ≤ 2) := ⟨hby, ⟨by have := HC1.out.lt; omega, hg2⟩, h2⟩
  clear hs h2 hby hg1 hg2 HB1 HC1
  go_wp2_with fail
  refine (l12Any_any w.heap.size gb gc by' _ HC2.out HY2.out.1 HY2.out.2.1 (by have := HY2.out.2.2; unfold maxLen; omega)).mono ?_
  rintro r w3 ⟨M, cp, us, rfl, hq, hf, hl⟩
  have T3 : Hid (TSt w w.heap.size w3 M cp us gb by') := ⟨hq.cur, HB2.out.trans (hq.kept.below (by omega) HB2.out.size), by omega, hq.row.down (by have := HC2.out.lt; omega), hq.caps, hf, hl, HY2.out.1.keep hq.kept HY2.out.2.1.1, HGB.out, HY2.out.2.2⟩
  have HLEN : Hid ((grs us).length = us.length) := grs_len us
  clear hq hf hl HC2 HB2 HY2
  obtain ⟨i0, hi, hz0, hz1, hz2⟩ := info_parts infoL
  by_cases hlt : 0 < us.length
  ·
    have hlt' : (us.length : Int) > 0 := by omega
    have h7 : us.length ≤ 7 := T3.out.len
    go_wp2_with fail
    refine (once_any w.heap.size 2 _ T3.out.cur (by decide) (by decide)).mono ?_
    rintro r w4 ⟨⟨b, rfl⟩, hc, hk⟩
    have T4 : Hid (TSt w w.heap.size w4 M cp us gb by') := T3.out.keep hc hk
    clear hc hk T3
    cases b with
    | true =>
      go_wp2_with fail
      refine (below_any w.heap.size (us.length : Int) _ (T4.out.cur.alloc _) (by omega) (by omega)).mono ?_
      rintro r w5 ⟨⟨y, rfl, y0, y1⟩, hc, hk⟩
      have T5 : Hid (TSt w w.heap.size w5 M cp us gb by') := (T4.out.grow (Go.Joins.below_alloc1 w4 _)).keep hc hk
      obtain ⟨k, rfl⟩ := Int.eq_ofNat_of_zero_le y0
      have hkl : k < us.length := by omega
      have hk' : (k : Int) < (us.length : Int) := by omega
      obtain ⟨bb, off, ee, hbb, ka, kc, ad, cpa, hat⟩ := (T5.out.row.rn T5.out.caps).get (i := k) (by rw [HLEN.out]; exact hkl)
      cases ee
      have HF : Hid (FineG 9 (nthG (grs us) k)) := nth_o T5.out.fine hkl
      have g0 : w5.cell? ⟨M, k * 5, none⟩ = some (.int .i64 (nthG (grs us) k).n) := by have := hat.c0; rwa [Nat.zero_add] at this
      have g1 : w5.cell? ⟨M, k * 5 + 1, none⟩ = some (.slice ka (nthG (grs us) k).key.length kc) := by have := hat.c1; rwa [Nat.zero_add] at this
      have HE : Hid (Blk w5 w4.heap.size #[] 99) := blk_kept (Blk.new w4 _ _) hk (by have := T4.out.cur.lt; omega)
      obtain ⟨⟨gk, ok, rfl⟩, _, _, hrk, _⟩ := hat.reads
      have HR : Hid (Reads w5 (some ⟨gk, ok, none⟩) (nthG (grs us) k).key) := hrk
      have h8 : (nthG (grs us) k).key.length ≤ 8 := HF.out.2.1.2
      have HS4 : Hid (w.heap.size ≤ w4.heap.size ∧ w4.heap.size < w5.heap.size) := ⟨T4.out.low.size, HE.out.lt⟩
      clear hc hk hat g0 y0 y1 hrk
      go_wp2_with (at_builtin; refine wpList_append_own_at _ rfl _ _ 25 rfl w.heap.size 99 i0 (.agg #[.string ByteArray.empty, .string ByteArray.empty]) 2 32 Tryz.underlying25 hi hz0 hz1 hz2 rfl (by decide) _ _ _ rfl (own_empty HE.out HS4.out.1) ⟨gk, ok, none⟩ (nthG (grs us) k).key.length kc (flat (nthG (grs us) k).key) rfl (flat_len _) (src_of HR.out) (flat_one _) ?c3 ?c4 ?c5 ?_)
      case c3 => unfold maxLen; omega
      case c4 => omega
      case c5 => have := HS4.out; omega
      intro v' w6 hown hg hnil hat
      try rw [Nat.zero_add] at hown
      try rw [List.nil_append] at hown
      obtain ⟨Ml, cl, hv⟩ : ∃ g' c', v' = .slice (some ⟨g', 0, none⟩) (nthG (grs us) k).key.length c' := by
        rcases hown.2 with ⟨e, _⟩ | ⟨g', c', cur, e, _⟩
        · exact absurd e hnil
        · exact ⟨g', c', e⟩
      subst hv
      have T6 : Hid (TSt w w.heap.size w6 M cp us gb by') := TSt.side T4.out T5.out hg (Nat.le_refl _)
      have HD : Hid (DLs w6 Ml (nthG (grs us) k).key) := by
        obtain ⟨h1, cs, h2, h3, h5⟩ := own_row hown
        have ho : OwnA w.heap.size w6 (Ml, cl, ⟨(nthG (grs us) k).key, 0, 0, ByteArray.empty⟩) := ⟨h1, by show (nthG (grs us) k).key.length ≤ _; omega, cs, h2, h3, h5⟩
        exact ⟨ho.reads, HF.out.2.1⟩
      clear hown hg hnil hat g1
      go_wp2
      refine bodyPost_ret (v := .tuple #[.slice (some ⟨M, 0, none⟩) us.length cp, .slice (some ⟨Ml, 0, none⟩) (nthG (grs us) k).key.length cl]) (by simp [results, Tryz.results12, go_sem]) rfl ?_
      exact ⟨⟨M, cp, grs us, Ml, cl, (nthG (grs us) k).key, by rw [HLEN.out], T6.out.rgs, HD.out⟩, T6.out.low⟩
    | false =>
      go_wp2_with fail
      refine (l4Draw_any w.heap.size _ T4.out.cur).mono ?_
      rintro r w5 ⟨g, ca, p, s, e, t, rfl, hst, hp, hs, he, hn⟩
      have HX : Hid (OwnA w4.heap.size w5 (g, ca, ⟨p, s, e, t⟩) ∧ Fine ⟨p, s, e, t⟩) := ⟨own_lst hst hp, fine_of hp hst.fit hs he hn⟩
      have T5 : Hid (TSt w w.heap.size w5 M cp us gb by') := T4.out.keep hst.cur hst.kept
      have H8 : p.length ≤ 8 := hp
      clear hst hp hs he hn
      go_wp2_with fail
      refine (Pro.specKey_any _ _ _ _ p s e t by' _ HX.out.1.reads T5.out.names.rd (by omega) (by have := T5.out.few; unfold maxLen; omega)).mono ?_
      rintro r w6 ⟨⟨K, kc, rfl, hO⟩, hb⟩
      have T6 : Hid (TSt w w.heap.size w6 M cp us gb by') := T5.out.grow hb
      have HD : Hid (DLs w6 K (projB p by')) := ⟨Pro.own_reads hO, keyF_proj (fun i hi => HX.out.2.1.fits i hi) H8⟩
      clear hO hb HX
      go_wp2
      refine bodyPost_ret (v := .tuple #[.slice (some ⟨M, 0, none⟩) us.length cp, .slice (some ⟨K, 0, none⟩) (projB p by').length kc]) (by simp [results, Tryz.results12, go_sem]) rfl ?_
      exact ⟨⟨M, cp, grs us, K, kc, projB p by', by rw [HLEN.out], T6.out.rgs, HD.out⟩, T6.out.low⟩
  ·
    have hlt' : ¬ (us.length : Int) > 0 := by omega
    go_wp2_with fail
    refine (l4Draw_any w.heap.size _ T3.out.cur).mono ?_
    rintro r w4 ⟨g, ca, p, s, e, t, rfl, hst, hp, hs, he, hn⟩
    have HX : Hid (OwnA w3.heap.size w4 (g, ca, ⟨p, s, e, t⟩) ∧ Fine ⟨p, s, e, t⟩) := ⟨own_lst hst hp, fine_of hp hst.fit hs he hn⟩
    have T4 : Hid (TSt w w.heap.size w4 M cp us gb by') := T3.out.keep hst.cur hst.kept
    have H8 : p.length ≤ 8 := hp
    clear hst hp hs he hn
    go_wp2_with fail
    refine (Pro.specKey_any _ _ _ _ p s e t by' _ HX.out.1.reads T4.out.names.rd (by omega) (by have := T4.out.few; unfold maxLen; omega)).mono ?_
    rintro r w5 ⟨⟨K, kc, rfl, hO⟩, hb⟩
    have T5 : Hid (TSt w w.heap.size w5 M cp us gb by') := T4.out.grow hb
    have HD : Hid (DLs w5 K (projB p by')) := ⟨Pro.own_reads hO, keyF_proj (fun i hi => HX.out.2.1.fits i hi) H8⟩
    clear hO hb HX
    go_wp2
    refine bodyPost_ret (v := .tuple #[.slice (some ⟨M, 0, none⟩) us.length cp, .slice (some ⟨K, 0, none⟩) (projB p by').length kc]) (by simp [results, Tryz.results12, go_sem]) rfl ?_
    exact ⟨⟨M, cp, grs us, K, kc, projB p by', by rw [HLEN.out], T5.out.rgs, HD.out⟩, T5.out.low⟩
set_option maxRecDepth 100000 in
set_option maxHeartbeats 6400000 in
theorem drawJoinAll_any (b0 : Option Addr) (len cap0 : Nat) (w : World) (hl : len ≤ maxLen) (hb : Bytes w b0 len w.heap.size) :
    Calls Tryz.prog 5 #[.slice b0 len cap0] w fun r w' => RDj r w' ∧ Below w.heap.size w w' := by
  have HB : Hid (Bytes w b0 len w.heap.size) := hb
  have HL : Hid (len ≤ maxLen) := hl
  clear hb hl
  go_enter Tryz.func5, Tryz.ntmps5
  go_wp2_with fail
  refine (new_any b0 len cap0 _ HL.out (LawB.bytes_up HB.out (Go.Joins.below_alloc1 w _))).mono ?_
  rintro r w1 ⟨rfl, hc1, hb1⟩
  have HC1 : Hid (Cur w1 (w.heap.size + 1)) := by simp at hc1; exact hc1
  have R1 : Hid (Blk w1 w.heap.size #[.slice none 0 0, .int .i64 0, .int .i64 0, .string ⟨#[]⟩] 27) := (Blk.new _ _ _).grow hb1
  have HB1 : Hid (Below w.heap.size w w1) := grow_on (Go.Joins.below_alloc1 w _) hb1
  clear hc1 hb1 HB HL
  go_wp2_with fail
  refine (DrawK.l5By_any (w.heap.size + 1) _ HC1.out).mono ?_
  rintro r w2 ⟨v, rfl, by', hs, h2⟩
  obtain ⟨gb, gc, rfl, hby, hg1, hg2⟩ := byk_of hs
  have HC2 : Hid (Cur w2 (w.heap.size + 1)) := hs.cur
  have HB2 : Hid (Below w.heap.size w w2) := HB1.out.trans (hs.kept.below (by omega) HB1.out.size)
  have HGB : Hid ((w.heap.size + 1) < gb) := by have := HC1.out.lt; show (w.heap.size + 1) < gb; omega
  have HY2 : Hid (ByK w2 gb by' ∧ (gb ≠ (w.heap.size + 1) ∧ gb < w2.heap.size) ∧ by'.length ≤ 2) := ⟨hby, ⟨by have := HC1.out.lt; omega, hg2⟩, h2⟩
  have R2 : Hid (Blk w2 w.heap.size #[.slice none 0 0, .int .i64 0, .int .i64 0, .string ⟨#[]⟩] 27) := blk_kept R1.out hs.kept (by omega)
  clear R1
  clear hs h2 hby hg1 hg2 HB1 HC1
  go_wp2_with fail
  refine (l12Any_any (w.heap.size + 1) gb gc by' _ HC2.out HY2.out.1 HY2.out.2.1 (by have := HY2.out.2.2; unfold maxLen; omega)).mono ?_
  rintro r w3 ⟨M, cp, us, rfl, hq, hf, hl⟩
  have T3 : Hid (TSt w (w.heap.size + 1) w3 M cp us gb by') := ⟨hq.cur, HB2.out.trans (hq.kept.below (by omega) HB2.out.size), by omega, hq.row.down (by have := HC2.out.lt; omega), hq.caps, hf, hl, HY2.out.1.keep hq.kept HY2.out.2.1.1, HGB.out, HY2.out.2.2⟩
  have HLEN : Hid ((grs us).length = us.length) := grs_len us
  have R3 : Hid (Blk w3 w.heap.size #[.slice none 0 0, .int .i64 0, .int .i64 0, .string ⟨#[]⟩] 27) := blk_kept R2.out hq.kept (by omega)
  clear R2
  clear hq hf hl HC2 HB2 HY2
  go_wp2_with fail
  refine (l4Draw_any (w.heap.size + 1) _ T3.out.cur).mono ?_
  rintro r w4 ⟨g, ca, p, s, e, t, rfl, hst, hp, hs, he, hn⟩
  obtain ⟨x, hx⟩ : ∃ x : ARow, x = (g, ca, ⟨p, s, e, t⟩) := ⟨_, rfl⟩
  have HX : Hid (OwnA w3.heap.size w4 x ∧ Fine x.2.2) := by
    refine ⟨?_, ?_⟩
    · rw [hx]; exact own_lst hst hp
    · rw [hx]; exact fine_of hp hst.fit hs he hn
  have T4 : Hid (TSt w (w.heap.size + 1) w4 M cp us gb by') := T3.out.keep hst.cur hst.kept
  have R4 : Hid (Blk w4 w.heap.size #[.slice none 0 0, .int .i64 0, .int .i64 0, .string ⟨#[]⟩] 27) := blk_kept R3.out hst.kept (by omega)
  obtain ⟨E1, E2, E3, E4, E5, E6⟩ : g = x.1 ∧ ca = x.2.1 ∧ p = x.2.2.l ∧ s = x.2.2.s ∧ e = x.2.2.e ∧ t = x.2.2.n := by rw [hx]; exact ⟨rfl, rfl, rfl, rfl, rfl, rfl⟩
  have HW3 : Hid ((w.heap.size + 1) < w3.heap.size) := T3.out.cur.lt
  clear hst hp hs he hn R3 T3
  subst E1 E2 E3 E4 E5 E6
  clear hx
  go_upto_region 5 with fail
  have hbb := Go.Joins.below_alloc1 w4 (.cells #[.slice (some ⟨x.1, 0, none⟩) x.2.2.l.length x.2.1, .int .i64 x.2.2.s, .int .i64 x.2.2.e, .string x.2.2.n] 27)
  have T5 : Hid (TSt w (w.heap.size + 1) (w4.alloc (.cells #[.slice (some ⟨x.1, 0, none⟩) x.2.2.l.length x.2.1, .int .i64 x.2.2.s, .int .i64 x.2.2.e, .string x.2.2.n] 27)) M cp us gb by') := T4.out.grow hbb
  have R5 : Hid (Blk (w4.alloc (.cells #[.slice (some ⟨x.1, 0, none⟩) x.2.2.l.length x.2.1, .int .i64 x.2.2.s, .int .i64 x.2.2.e, .string x.2.2.n] 27)) w.heap.size #[.slice none 0 0, .int .i64 0, .int .i64 0, .string ⟨#[]⟩] 27) := R4.out.grow hbb
  have HX5 : Hid (OwnA ((w.heap.size + 1) + 1) (w4.alloc (.cells #[.slice (some ⟨x.1, 0, none⟩) x.2.2.l.length x.2.1, .int .i64 x.2.2.s, .int .i64 x.2.2.e, .string x.2.2.n] 27)) x ∧ Fine x.2.2) := ⟨(HX.out.1.grow hbb).down (by have := HW3.out; omega), HX.out.2⟩
  have BX5 : Hid (Blk (w4.alloc (.cells #[.slice (some ⟨x.1, 0, none⟩) x.2.2.l.length x.2.1, .int .i64 x.2.2.s, .int .i64 x.2.2.e, .string x.2.2.n] 27)) w4.heap.size #[.slice (some ⟨x.1, 0, none⟩) x.2.2.l.length x.2.1, .int .i64 x.2.2.s, .int .i64 x.2.2.e, .string x.2.2.n] 27) := Blk.new _ _ _
  have UX : Hid ((w.heap.size + 1) < w4.heap.size) := T4.out.cur.lt
  clear hbb HX R4 T4
  generalize w4.alloc (.cells #[.slice (some ⟨x.1, 0, none⟩) x.2.2.l.length x.2.1, .int .i64 x.2.2.s, .int .i64 x.2.2.e, .string x.2.2.n] 27) = w5 at *
  generalize w4.heap.size = X at *
  have HS : Hid (∀ w', Blk w' X #[.slice (some ⟨x.1, 0, none⟩) x.2.2.l.length x.2.1, .int .i64 x.2.2.s, .int .i64 x.2.2.e, .string x.2.2.n] 27 → w'.cell? ⟨X, 0, none⟩ = some (.slice (some ⟨x.1, 0, none⟩) x.2.2.l.length x.2.1) ∧ w'.cell? ⟨X, 1, none⟩ = some (.int .i64 x.2.2.s) ∧ w'.cell? ⟨X, 2, none⟩ = some (.int .i64 x.2.2.e) ∧ w'.cell? ⟨X, 3, none⟩ = some (.string x.2.2.n)) := fun w' h => ⟨h.cell 0, h.cell 1, h.cell 2, h.cell 3⟩
  refine wp_region_held_drew (S := fun w' => w'.cell? ⟨X, 0, none⟩ = some (.slice (some ⟨x.1, 0, none⟩) x.2.2.l.length x.2.1) ∧ w'.cell? ⟨X, 1, none⟩ = some (.int .i64 x.2.2.s) ∧ w'.cell? ⟨X, 2, none⟩ = some (.int .i64 x.2.2.e) ∧ w'.cell? ⟨X, 3, none⟩ = some (.string x.2.2.n)) (by kernel_rfl) (HS.out _ BX5.out.drew) (fun hHeld => ?_)
  refine tk 0 ⟨some 20, .move (.tmp 9), 24, "l12_groups.go:136", #[], none⟩ hHeld ?_
  try go_frame
  refine tk 1 ⟨some 21, .load 27 (.tmp 10), 27, "l12_groups.go:136", #[⟨5, .gcOnly .lateStores⟩], none⟩ hHeld ?_
  try go_frame
  refine tk 2 ⟨some 22, .move (.tmp 8), 28, "l12_groups.go:136", #[⟨6, .gcOnly .lateStores⟩], none⟩ hHeld ?_
  try go_frame
  refine tk 3 ⟨some 23, .move (.tmp 7), 54, "l12_groups.go:136", #[], none⟩ hHeld ?_
  try go_frame
  have T6 : Hid (TSt w (w.heap.size + 1) w5.drew M cp us gb by') := T5.out.keep (Cur.drewN T5.out.cur 1) (kept_bel (Below.refl _ _).drew)
  have R6 : Hid (Blk w5.drew w.heap.size #[.slice none 0 0, .int .i64 0, .int .i64 0, .string ⟨#[]⟩] 27) := R5.out.drew
  have BX6 : Hid (Blk w5.drew X #[.slice (some ⟨x.1, 0, none⟩) x.2.2.l.length x.2.1, .int .i64 x.2.2.s, .int .i64 x.2.2.e, .string x.2.2.n] 27) := BX5.out.drew
  have HX6 : Hid (OwnA ((w.heap.size + 1) + 1) w5.drew x ∧ Fine x.2.2) := ⟨own_kept HX5.out.1 (kept_bel (c := (w.heap.size + 1)) (Below.refl _ _).drew) (Nat.lt_succ_self _), HX5.out.2⟩
  refine rd1 4 ⟨some 24, .call { callee := .value (.func 30), args := #[.tmp 23, .const (.int .i64 9)], argTypes := #[54, 3] }, 3, "l12_groups.go:136", #[⟨3, .data⟩], none⟩ (fun K hK => ?_)
  go_simp
  refine (below_any (w.heap.size + 1) 9 _ T6.out.cur (by decide) (by decide)).mono ?_
  rintro r w7 ⟨⟨now, rfl, h0, h1⟩, hc, hk⟩
  have HN : Hid (0 ≤ now ∧ now ≤ 8) := ⟨h0, by omega⟩
  have T7 : Hid (TSt w (w.heap.size + 1) w7 M cp us gb by') := T6.out.keep hc hk
  have R7 : Hid (Blk w7 w.heap.size #[.slice none 0 0, .int .i64 0, .int .i64 0, .string ⟨#[]⟩] 27) := blk_kept R6.out hk (by omega)
  have BX7 : Hid (Blk w7 X #[.slice (some ⟨x.1, 0, none⟩) x.2.2.l.length x.2.1, .int .i64 x.2.2.s, .int .i64 x.2.2.e, .string x.2.2.n] 27) := blk_kept BX6.out hk (by have := UX.out; omega)
  have HX7 : Hid (OwnA ((w.heap.size + 1) + 1) w7 x ∧ Fine x.2.2) := ⟨own_kept HX6.out.1 hk (Nat.lt_succ_self _), HX6.out.2⟩
  clear h0 h1 hc hk
  try dsimp only
  clear hHeld
  refine hK.out _ _ (HS.out _ BX7.out) (fun hHeld => ?_)
  clear hK K
  try go_frame
  refine rd1 5 ⟨some 2, .assign (.tmp 20), 24, "l12_groups.go:136", #[⟨0, .data⟩, ⟨4, .chain⟩, ⟨0, .phase⟩, ⟨1, .textOnly .lateStores⟩, ⟨2, .textOnly .lateStores⟩, ⟨3, .textOnly .lateStores⟩, ⟨4, .textOnly .lateStoresUnsure⟩], none⟩ (fun K hK => ?_)
  go_simp
  clear hHeld
  refine hK.out _ _ (HS.out _ BX7.out) (fun hHeld => ?_)
  clear hK K
  try go_frame
  have hneX : w.heap.size ≠ X := by have := UX.out; omega
  have r0 := R7.out.cell 0
  have fr0 := R7.out.frozen 0
  have r1 := R7.out.cell 1
  have fr1 := R7.out.frozen 1
  have r2 := R7.out.cell 2
  have fr2 := R7.out.frozen 2
  have r3 := R7.out.cell 3
  have fr3 := R7.out.frozen 3
  simp at r0 r1 r2 r3
  refine rd1 6 ⟨none, .store 27 (.tmp 3) (.tmp 21), 0, "l12_groups.go:136", #[⟨1, .data⟩, ⟨5, .chain⟩, ⟨0, .phase⟩, ⟨1, .phase⟩, ⟨2, .textOnly .lateStores⟩, ⟨3, .textOnly .lateStores⟩, ⟨4, .textOnly .lateStoresUnsure⟩, ⟨5, .phase⟩], none⟩ (fun K hK => ?_)
  go_simp
  clear hHeld
  refine hK.out _ _ (HS.out _ ((((BX7.out.set_other (p := ⟨w.heap.size, 0, none⟩) hneX _).set_other (p := ⟨w.heap.size, 1, none⟩) hneX _).set_other (p := ⟨w.heap.size, 2, none⟩) hneX _).set_other (p := ⟨w.heap.size, 3, none⟩) hneX _)) (fun hHeld => ?_)
  clear hK K
  try go_frame
  refine rd1 7 ⟨some 4, .assign (.tmp 22), 28, "l12_groups.go:136", #[⟨2, .data⟩, ⟨6, .chain⟩, ⟨0, .phase⟩, ⟨1, .phase⟩, ⟨2, .phase⟩, ⟨3, .textOnly .lateStores⟩, ⟨4, .textOnly .lateStoresUnsure⟩, ⟨5, .phase⟩, ⟨6, .phase⟩], none⟩ (fun K hK => ?_)
  go_simp
  clear hHeld
  refine hK.out _ _ (HS.out _ ((((BX7.out.set_other (p := ⟨w.heap.size, 0, none⟩) hneX _).set_other (p := ⟨w.heap.size, 1, none⟩) hneX _).set_other (p := ⟨w.heap.size, 2, none⟩) hneX _).set_other (p := ⟨w.heap.size, 3, none⟩) hneX _)) (fun hHeld => ?_)
  clear hK K
  try go_frame
  refine rd1 8 ⟨some 5, .assign (.const (.int .i64 20)), 3, "l12_groups.go:136", #[⟨7, .chain⟩, ⟨0, .phase⟩, ⟨1, .phase⟩, ⟨2, .phase⟩, ⟨3, .textOnly .lateStores⟩, ⟨4, .textOnly .lateStoresUnsure⟩, ⟨5, .phase⟩, ⟨6, .phase⟩, ⟨7, .phase⟩], none⟩ (fun K hK => ?_)
  go_simp
  clear hHeld
  refine hK.out _ _ (HS.out _ ((((BX7.out.set_other (p := ⟨w.heap.size, 0, none⟩) hneX _).set_other (p := ⟨w.heap.size, 1, none⟩) hneX _).set_other (p := ⟨w.heap.size, 2, none⟩) hneX _).set_other (p := ⟨w.heap.size, 3, none⟩) hneX _)) (fun hHeld => ?_)
  clear hK K
  try go_frame
  refine rd1 9 ⟨some 6, .assign (.tmp 24), 3, "l12_groups.go:136", #[⟨4, .data⟩, ⟨8, .chain⟩, ⟨0, .phase⟩, ⟨1, .phase⟩, ⟨2, .phase⟩, ⟨3, .phase⟩, ⟨4, .phase⟩, ⟨5, .phase⟩, ⟨6, .phase⟩, ⟨7, .phase⟩, ⟨8, .phase⟩], none⟩ (fun K hK => ?_)
  go_simp
  clear hHeld
  refine hK.out _ _ (HS.out _ ((((BX7.out.set_other (p := ⟨w.heap.size, 0, none⟩) hneX _).set_other (p := ⟨w.heap.size, 1, none⟩) hneX _).set_other (p := ⟨w.heap.size, 2, none⟩) hneX _).set_other (p := ⟨w.heap.size, 3, none⟩) hneX _)) (fun hHeld => ?_)
  clear hK K
  try go_frame
  refine wpAnyH_done (by kernel_rfl) ?_ _
  go_wp2
  have hR : Blk ((((w7.setCell ⟨w.heap.size, 0, none⟩ (.slice (some ⟨x.1, 0, none⟩) x.2.2.l.length x.2.1)).setCell ⟨w.heap.size, 1, none⟩ (.int .i64 x.2.2.s)).setCell ⟨w.heap.size, 2, none⟩ (.int .i64 x.2.2.e)).setCell ⟨w.heap.size, 3, none⟩ (.string x.2.2.n)) w.heap.size #[.slice (some ⟨x.1, 0, none⟩) x.2.2.l.length x.2.1, .int .i64 x.2.2.s, .int .i64 x.2.2.e, .string x.2.2.n] 27 := ((((R7.out.set 0 _).set 1 _).set 2 _).set 3 _)
  have z0 := hR.cell 0
  have z1 := hR.cell 1
  have z2 := hR.cell 2
  have z3 := hR.cell 3
  refine bodyPost_ret (v := .tuple #[.slice (some ⟨M, 0, none⟩) us.length cp, .agg #[.slice (some ⟨x.1, 0, none⟩) x.2.2.l.length x.2.1, .int .i64 x.2.2.s, .int .i64 x.2.2.e, .string x.2.2.n], .slice (some ⟨gb, 0, none⟩) by'.length gc, .int .i64 20, .int .i64 now]) (by simp [results, Tryz.results5, go_sem, z0, z1, z2, z3]) rfl ?_
  have T8 : Hid (TSr w (w.heap.size + 1) ((((w7.setCell ⟨w.heap.size, 0, none⟩ (.slice (some ⟨x.1, 0, none⟩) x.2.2.l.length x.2.1)).setCell ⟨w.heap.size, 1, none⟩ (.int .i64 x.2.2.s)).setCell ⟨w.heap.size, 2, none⟩ (.int .i64 x.2.2.e)).setCell ⟨w.heap.size, 3, none⟩ (.string x.2.2.n)) M cp us gb by') := (((((TSr.mk T7.out.low T7.out.row T7.out.names T7.out.ngb).put (Nat.lt_succ_self _) 0 _).put (Nat.lt_succ_self _) 1 _).put (Nat.lt_succ_self _) 2 _).put (Nat.lt_succ_self _) 3 _)
  have HX8 : Hid (OwnA ((w.heap.size + 1) + 1) ((((w7.setCell ⟨w.heap.size, 0, none⟩ (.slice (some ⟨x.1, 0, none⟩) x.2.2.l.length x.2.1)).setCell ⟨w.heap.size, 1, none⟩ (.int .i64 x.2.2.s)).setCell ⟨w.heap.size, 2, none⟩ (.int .i64 x.2.2.e)).setCell ⟨w.heap.size, 3, none⟩ (.string x.2.2.n)) x) := (own_under (own_under (own_under (own_under HX7.out.1 (by omega) 0 _) (by omega) 1 _) (by omega) 2 _) (by omega) 3 _)
  exact ⟨⟨M, cp, grs us, x.1, x.2.1, x.2.2, gb, gc, by', now, by rw [HLEN.out], ⟨T8.out.row.rn T7.out.caps, T7.out.fine, by rw [HLEN.out]; exact T7.out.len, by rw [HLEN.out]; exact T7.out.row.cap⟩, ⟨HX8.out.reads, HX7.out.2⟩, ⟨T8.out.names.rd, T7.out.few⟩, HN.out⟩, T8.out.low⟩
end Go.Proofs.YtgncimlojbnbfaaGreat.GpU
namespace Go.Proofs.YtgncimlojbnbfaaGreat.GpZ
open Go.RowKit
open Labs LabS Alms AlmM Over Blk DrawA Rws ChnI ChnC ChnP ChnK ChnS DrawC Grp GrpO GrpJ GrpF GrpW GrpY Gps GpD GpC GpJ GpF GpM GpY GpW GpU
open StrB (retB)
open Pro (projB RdS)

theorem finesP {P : List PAl} (h : Fines P) : LenP P := ChnP.len_m h.lens
theorem same_g {n b t : Int} {key : List Lab} {P : List PAl} : sameG n b t key P n b t key P = true := by unfold sameG; simp [same_refl]
theorem same_b {n b : Int} {key : List Lab} {P : List PAl} : GrpO.sameB n b key P n b key P = true := by unfold GrpO.sameB; simp [same_refl]
theorem retT {M : Option Addr} {m m' c : Nat} {b b' : Bool} (h : m = m') (h2 : b = b') : Ending.returned (.tuple #[.slice M m c, .bool b]) = .returned (.tuple #[.slice M m' c, .bool b']) := by rw [h, h2]
theorem FinesG.fits {k : Nat} {U : List PGr} (h : FinesG k U) (hk : k ≤ 1000) : FitsG U := fun x hx => by
  obtain ⟨_, h2, h3, h4⟩ := h x hx
  exact ⟨by have := h2.2; unfold maxLen; omega, h2.1, by unfold maxLen; omega, fun i hi => (h3 _ (nthP_mem hi)).1⟩
theorem FinesG.smP {k : Nat} {U : List PGr} (h : FinesG k U) (hk : k ≤ 1000) : ∀ x ∈ U, x.P.length ≤ 1048576 ∧ LenM x.P := fun x hx => (h.small hk x hx).2
theorem FinesG.keys {k : Nat} {U : List PGr} (h : FinesG k U) : ∀ x ∈ U, x.key.length ≤ maxLen := fun x hx => by have := (h x hx).2.1.2; unfold maxLen; omega
theorem join_two (U : List PGr) (x : PAl) (by' : List ByteArray) (n now : Int) :
    (newJ U x by' = true ∧ ofI (keyIs (projB x.l by')) U = -1 ∧ ofI (keyIs (projB x.l by')) (joinAllG U x by' n now) = (U.length : Int) ∧ (joinAllG U x by' n now).length = U.length + 1 ∧ nthG (joinAllG U x by' n now) U.length = ⟨n, projB x.l by', now, -1, [x]⟩) ∨
    (newJ U x by' = false ∧ ∃ k : Nat, ofI (keyIs (projB x.l by')) U = (k : Int) ∧ ofI (keyIs (projB x.l by')) (joinAllG U x by' n now) = (k : Int) ∧ k < (joinAllG U x by' n now).length ∧ (joinAllG U x by' n now).length = U.length) := by
  rcases ofI_cases (keyIs (projB x.l by')) U with ⟨he, hj⟩ | ⟨k, he, hk, ht, hj⟩
  · obtain ⟨h1, h2⟩ := joinA_miss (n := n) (now := now) he
    refine .inl ⟨h2, he, ?_, by rw [h1]; simp, ?_⟩
    · rw [h1]
      refine ofI_at (by simp) (fun j hj' => ?_) ?_
      · have e : nthG (U ++ [⟨n, projB x.l by', now, -1, [x]⟩]) j = nthG U j := by rw [nthG_eq (by simp; omega), nthG_eq hj', List.getElem_append_left hj']
        rw [e]; exact hj j hj'
      · have e : nthG (U ++ [⟨n, projB x.l by', now, -1, [x]⟩]) U.length = ⟨n, projB x.l by', now, -1, [x]⟩ := by rw [nthG_eq (by simp)]; simp
        rw [e]; unfold keyIs; simp
    · rw [h1, nthG_eq (by simp)]; simp
  · obtain ⟨h0, h1, h2⟩ := joinA_hit (n := n) (now := now) he
    refine .inr ⟨h2, k, he, ?_, by rw [h1]; simpa using hk, by rw [h1]; simp⟩
    rw [h1]
    refine ofI_at (by simpa using hk) (fun j hj' => ?_) ?_
    · have e : nthG (U.set k (putG x (nthG U k))) j = nthG U j := by rw [nthG_eq (by simp; omega), nthG_eq (U := U) (i := j) (by omega), List.getElem_set_ne (by omega)]
      rw [e]; exact hj j hj'
    · have e : nthG (U.set k (putG x (nthG U k))) k = putG x (nthG U k) := by rw [nthG_eq (by simpa using hk)]; simp
      rw [e]; exact ht
def FlR (U : List PGr) (n now : Int) (V : List PGr) (nB : Int) (keyB : List Lab) (tB : Int) (PB : List PAl) (hit : Bool) : Prop :=
  (ofI (numIs n) U = -1 ∧ hit = false ∧ V = U ∧ nB = 0 ∧ keyB = [] ∧ tB = 0 ∧ PB = []) ∨ (∃ k : Nat, ofI (numIs n) U = (k : Int) ∧ k < U.length ∧ hit = true ∧ V = flushG U k now ∧ nB = (nthG U k).n ∧ keyB = (nthG U k).key ∧ now = tB ∧ PB = (nthG U k).P)
theorem flr_ex (U : List PGr) (n now : Int) : ∃ V nB keyB tB PB hit, FlR U n now V nB keyB tB PB hit := by
  rcases ofI_cases (numIs n) U with ⟨he, _⟩ | ⟨k, he, hk, _, _⟩
  · exact ⟨U, 0, [], 0, [], false, .inl ⟨he, rfl, rfl, rfl, rfl, rfl, rfl⟩⟩
  · exact ⟨_, _, _, _, _, _, .inr ⟨k, he, hk, rfl, rfl, rfl, rfl, rfl, rfl⟩⟩
theorem left_fines {P : List PAl} {now : Int} (h : Fines P) : Fines (leftTo P now P.length) ∧ (leftTo P now P.length).length ≤ P.length :=
  ⟨fun y hy => h y (List.mem_of_mem_take (List.mem_filter.1 hy).1), GrpF.left_le (P := P) (now := now) (Nat.le_refl P.length)⟩
theorem flr_facts {U : List PGr} {n now : Int} {V : List PGr} {nB : Int} {keyB : List Lab} {tB : Int} {PB : List PAl} {hit : Bool} (h : FlR U n now V nB keyB tB PB hit) (hf : FinesG 9 U) (hl : U.length ≤ 7) (hn : I64 now) :
    FinesG 9 V ∧ V.length ≤ 7 ∧ keyB.length ≤ 8 ∧ Fines PB ∧ PB.length ≤ 9 ∧ (hit = false → V = U) ∧ (hit = true → nB = n ∧ tB = now ∧ (V.length = U.length ∨ V.length + 1 = U.length)) := by
  rcases h with ⟨_, rfl, rfl, rfl, rfl, rfl, rfl⟩ | ⟨k, he, hk, rfl, rfl, rfl, rfl, rfl, rfl⟩
  · exact ⟨hf, hl, by simp, fines_nil, by simp, fun _ => rfl, fun e => by cases e⟩
  · have hg := hf _ (nthG_mem hk)
    have hnn : (nthG U k).n = n := by
      rcases ofI_cases (numIs n) U with ⟨he2, _⟩ | ⟨k2, he2, _, ht, _⟩
      · rw [he] at he2; omega
      · have e : k2 = k := by rw [he] at he2; omega
        subst e
        simpa [numIs] using ht
    by_cases h0 : (leftTo (nthG U k).P now (nthG U k).P.length).length = 0
    · rw [flush_none h0]
      have hlen : (U.take k ++ U.drop (k + 1)).length + 1 = U.length := by simp; omega
      refine ⟨fun y hy => ?_, by omega, hg.2.1.2, hg.2.2.1, hg.2.2.2, fun e => (by cases e), fun _ => ⟨hnn, rfl, .inr hlen⟩⟩
      rcases List.mem_append.1 hy with hy | hy
      · exact hf y (List.mem_of_mem_take hy)
      · exact hf y (List.mem_of_mem_drop hy)
    · rw [flush_some h0]
      have hlen : (U.set k (sentG now (nthG U k))).length = U.length := List.length_set
      refine ⟨fun y hy => ?_, by omega, hg.2.1.2, hg.2.2.1, hg.2.2.2, fun e => (by cases e), fun _ => ⟨hnn, rfl, .inl hlen⟩⟩
      rcases List.mem_or_eq_of_mem_set hy with hy | hy
      · exact hf y hy
      · rw [hy]
        have h1 := left_fines (now := now) hg.2.2.1
        have h2 := hg.2.2.2
        exact ⟨⟨hg.1.1, hg.1.2.1, hn⟩, hg.2.1, h1.1, by have := h1.2; show (leftTo _ _ _).length ≤ 9; omega⟩
theorem len_grs {us : List GRow} {V : List PGr} (h : grs us = V) : us.length = V.length := by rw [← h, grs_len]
theorem retF {M ka a2 : Option Addr} {m m' c kk cc l l' q q' : Nat} {n t : Int} {b : Bool} (h : m = m') (h2 : l = l') (h3 : q = q') : Ending.returned (.tuple #[.slice M m c, .agg #[.int .i64 n, .slice ka l kk, .int .i64 t, .slice a2 q cc], .bool b]) = .returned (.tuple #[.slice M m' c, .agg #[.int .i64 n, .slice ka l' kk, .int .i64 t, .slice a2 q' cc], .bool b]) := by rw [h, h2, h3]
theorem implFlushZ {M cp : Nat} {U : List PGr} {n now : Int} {V : List PGr} {nB : Int} {keyB : List Lab} {tB : Int} {PB : List PAl} {hit : Bool} {w : World} (h : RGs w M cp U) (hR : FlR U n now V nB keyB tB PB hit) :
    Calls Tryz.prog 9 #[.slice (some ⟨M, 0, none⟩) U.length cp, .int .i64 n, .int .i64 now] w fun e w' => (∃ Mz cz ka kk a2 cc, e = .returned (.tuple #[.slice (some ⟨Mz, 0, none⟩) V.length cz, .agg #[.int .i64 nB, .slice ka keyB.length kk, .int .i64 tB, .slice a2 PB.length cc], .bool hit]) ∧ RdGs GA w' (some ⟨Mz, 0, none⟩) V ∧ Reads w' ka keyB ∧ RdA w' a2 PB) ∧ Below w.heap.size w w' := by
  have hl : U.length ≤ 1048576 := by have := h.len; omega
  rcases hR with ⟨he, rfl, rfl, rfl, rfl, rfl, rfl⟩ | ⟨k, he, hk, rfl, rfl, rfl, rfl, rfl, rfl⟩
  · refine (implF_none _ cp _ n now w h.rn hl h.cap (h.fine.small (by omega)) he).mono ?_
    rintro e w' ⟨⟨Mz, cz, us, rfl, hg, hp⟩, hb⟩
    exact ⟨⟨Mz, cz, none, 0, none, 0, retF (len_grs hp) rfl rfl, by rw [← hp]; exact hg.rd, .inl rfl, .inl rfl⟩, hb⟩
  · refine (implF_some _ cp U n _ k w h.rn hl h.cap (h.fine.small (by omega)) he).mono ?_
    rintro e w' ⟨⟨Mz, cz, us, K2, kd2, M2, o2, c2, rs2, rfl, hg, hp, hr⟩, hb⟩
    refine ⟨⟨Mz, cz, _, kd2, _, c2, retF (len_grs hp) rfl ?_, by rw [← hp]; exact hg.rd, hr.1.key.rd, ?_⟩, hb⟩
    · first | rw [← hr.2.1, pals_len] | rw [← hr.2, pals_len]
    · first | (rw [← hr.2.1]; exact hr.1.row.rd.rd) | (rw [← hr.2]; exact hr.1.row.rd.rd)
theorem specFlushZ {M cp : Nat} {U : List PGr} {n now : Int} {V : List PGr} {nB : Int} {keyB : List Lab} {tB : Int} {PB : List PAl} {hit : Bool} {w : World} (h : RGs w M cp U) (hR : FlR U n now V nB keyB tB PB hit) :
    Calls Tryz.prog 10 #[.slice (some ⟨M, 0, none⟩) U.length cp, .int .i64 n, .int .i64 now] w fun e w' => (∃ Mz cz ka kk a2 cc, e = .returned (.tuple #[.slice (some ⟨Mz, 0, none⟩) V.length cz, .agg #[.int .i64 nB, .slice ka keyB.length kk, .int .i64 tB, .slice a2 PB.length cc], .bool hit]) ∧ RdGs GA w' (some ⟨Mz, 0, none⟩) V ∧ Reads w' ka keyB ∧ RdA w' a2 PB) ∧ Below w.heap.size w w' := by
  have hl : U.length ≤ 1048576 := by have := h.len; omega
  rcases hR with ⟨he, rfl, rfl, rfl, rfl, rfl, rfl⟩ | ⟨k, he, hk, rfl, rfl, rfl, rfl, rfl, rfl⟩
  · refine (specF_none _ cp _ n now w h.rn hl h.cap (h.fine.small (by omega)) he).mono ?_
    rintro e w' ⟨⟨Mz, cz, us, rfl, hg, hp⟩, hb⟩
    exact ⟨⟨Mz, cz, none, 0, none, 0, retF (len_grs hp) rfl rfl, by rw [← hp]; exact hg.rd, .inl rfl, .inl rfl⟩, hb⟩
  · refine (specF_some _ cp U n _ k w h.rn hl h.cap (h.fine.small (by omega)) he).mono ?_
    rintro e w' ⟨⟨Mz, cz, us, K2, kd2, M2, o2, c2, rs2, rfl, hg, hp, hr⟩, hb⟩
    refine ⟨⟨Mz, cz, _, kd2, _, c2, retF (len_grs hp) rfl ?_, by rw [← hp]; exact hg.rd, hr.1.key.rd, ?_⟩, hb⟩
    · first | rw [← hr.2.1, pals_len] | rw [← hr.2, pals_len]
    · first | (rw [← hr.2.1]; exact hr.1.row.rd.rd) | (rw [← hr.2]; exact hr.1.row.rd.rd)
theorem implJoinZ {M cp gx cx gb gc : Nat} {U V : List PGr} {by' : List ByteArray} {x : PAl} {n now : Int} {w : World} (h : RGs w M cp U) (hx : DAl w gx x) (hb : RdS w (some ⟨gb, 0, none⟩) by') (h2 : by'.length ≤ 2) (hV : joinAllG U x by' n now = V) :
    Calls Tryz.prog 6 #[.slice (some ⟨M, 0, none⟩) U.length cp, .agg #[.slice (some ⟨gx, 0, none⟩) x.l.length cx, .int .i64 x.s, .int .i64 x.e, .string x.n], .slice (some ⟨gb, 0, none⟩) by'.length gc, .int .i64 n, .int .i64 now] w fun e w' => (∃ Mz cz, e = .returned (.tuple #[.slice (some ⟨Mz, 0, none⟩) V.length cz, .bool (newJ U x by')]) ∧ RdGs GA w' (some ⟨Mz, 0, none⟩) V) ∧ Below w.heap.size w w' := by
  subst hV
  refine (GpIj.implJoinA_any (some ⟨M, 0, none⟩) (some ⟨gb, 0, none⟩) cp gc U by' gx 0 cx x n now w h.rn (by have := h.len; omega) h.cap (h.fine.small (by omega)) hx.1 (by have := hx.2.2; omega) hb (by unfold maxLen; omega) (fun y hy => by have h1 := GrpJ.join_len y.P x; have h2 := (h.fine y hy).2.2.2; omega)).mono ?_
  rintro e w' ⟨⟨Mz, cz, us, rfl, hg, hp⟩, hb⟩
  exact ⟨⟨Mz, cz, retT (len_grs hp) rfl, by rw [← hp]; exact hg.rd⟩, hb⟩
theorem specJoinZ {M cp gx cx gb gc : Nat} {U V : List PGr} {by' : List ByteArray} {x : PAl} {n now : Int} {w : World} (h : RGs w M cp U) (hx : DAl w gx x) (hb : RdS w (some ⟨gb, 0, none⟩) by') (h2 : by'.length ≤ 2) (hV : joinAllG U x by' n now = V) :
    Calls Tryz.prog 7 #[.slice (some ⟨M, 0, none⟩) U.length cp, .agg #[.slice (some ⟨gx, 0, none⟩) x.l.length cx, .int .i64 x.s, .int .i64 x.e, .string x.n], .slice (some ⟨gb, 0, none⟩) by'.length gc, .int .i64 n, .int .i64 now] w fun e w' => (∃ Mz cz, e = .returned (.tuple #[.slice (some ⟨Mz, 0, none⟩) V.length cz, .bool (newJ U x by')]) ∧ RdGs GA w' (some ⟨Mz, 0, none⟩) V) ∧ Below w.heap.size w w' := by
  subst hV
  refine (specJoinA_any (some ⟨M, 0, none⟩) (some ⟨gb, 0, none⟩) cp gc U by' gx 0 cx x n now w h.rn (by have := h.len; omega) (h.fine.small (by omega)) hx.1 (by have := hx.2.2; omega) hb (by unfold maxLen; omega)).mono ?_
  rintro e w' ⟨⟨Mz, cz, us, rfl, hg, ⟨hp, _⟩⟩, hb⟩
  exact ⟨⟨Mz, cz, retT (len_grs hp) rfl, by rw [← hp]; exact hg.rd⟩, hb⟩
theorem sameGZ {n b t : Int} {ka ka' : Option Addr} {kc kc' c c' : Nat} {a a' : Option Addr} {key : List Lab} {P : List PAl} {w : World} (hk : Reads w ka key) (hk' : Reads w ka' key) (hkl : key.length ≤ maxLen) (h : RdA w a P) (h' : RdA w a' P) (hl : P.length ≤ 1048576) (hs : LenP P) :
    Calls Tryz.prog 43 #[.agg #[.int .i64 n, .slice ka key.length kc, .int .i64 b, .int .i64 t, .slice a P.length c], .agg #[.int .i64 n, .slice ka' key.length kc', .int .i64 b, .int .i64 t, .slice a' P.length c']] w fun e w' => e = .returned (.bool true) ∧ Below w.heap.size w w' :=
  (GrpI.implSameG_any n b t n b t ka ka' kc kc' key key a a' c c' P P w hk hk' hkl hkl h h' hl hl hs hs).mono fun e w' h => ⟨h.1.trans (retB same_g), h.2⟩
theorem sameBZ {n b : Int} {ka ka' : Option Addr} {kc kc' c c' : Nat} {a a' : Option Addr} {key : List Lab} {P : List PAl} {w : World} (hk : Reads w ka key) (hk' : Reads w ka' key) (hkl : key.length ≤ maxLen) (h : RdA w a P) (h' : RdA w a' P) (hl : P.length ≤ 1048576) (hs : LenP P) :
    Calls Tryz.prog 16 #[.agg #[.int .i64 n, .slice ka key.length kc, .int .i64 b, .slice a P.length c], .agg #[.int .i64 n, .slice ka' key.length kc', .int .i64 b, .slice a' P.length c']] w fun e w' => e = .returned (.bool true) ∧ Below w.heap.size w w' :=
  (GrpI.implSameB_any n b n b ka ka' kc kc' key key a a' c c' P P w hk hk' hkl hkl h h' hl hl hs hs).mono fun e w' h => ⟨h.1.trans (retB same_b), h.2⟩
set_option maxHeartbeats 1600000 in
theorem sameGs_any (a a' : Option Addr) (cap cap' k0 : Nat) (U : List PGr) (w : World) (hr : RdGs GA w a U) (hr' : RdGs GA w a' U) (hl : U.length ≤ 1048576) (hf : FinesG k0 U) (hk0 : k0 ≤ 1000) :
    Calls Tryz.prog 15 #[.slice a U.length cap, .slice a' U.length cap'] w fun e w' => e = .returned (.bool true) ∧ Below w.heap.size w w' := by
  have HR : Hid (RdGs GA w a U ∧ RdGs GA w a' U ∧ FinesG k0 U) := ⟨hr, hr', hf⟩
  clear hr hr' hf
  go_enter Tryz.func15, Tryz.ntmps15
  go_wp2
  go_loopw [5] (fun i w' => ∃ k : Nat, i = .int .i64 k ∧ k ≤ U.length ∧ Below w.heap.size w w') (fun i _ => U.length - (intOf i).toNat)
  case atStart => exact ⟨0, rfl, Nat.zero_le _, Below.refl _ _⟩
  case round =>
    obtain ⟨k, rfl, hk, hw0⟩ := hrel
    have HB : Hid (Below w.heap.size w wr) := hw0
    clear hw0
    by_cases hlt : k < U.length
    · have hlt' : (k : Int) < (U.length : Int) := by omega
      obtain ⟨b, off, rfl, hb, ka, kc, ad, cp, hat⟩ := (HR.out.1.below stays_ga HB.out).get hlt
      obtain ⟨b', off', rfl, hb', ka', kc', ad', cp', hat'⟩ := (HR.out.2.1.below stays_ga HB.out).get hlt
      have hne := Grown.some wr
      have x0 := fun x : Grown wr => x.cell hb hat.c0
      have x1 := fun x : Grown wr => x.cell hb hat.c1
      have x2 := fun x : Grown wr => x.cell hb hat.c2
      have x3 := fun x : Grown wr => x.cell hb hat.c3
      have x4 := fun x : Grown wr => x.cell hb hat.c4
      have y0 := fun x : Grown wr => x.cell hb' hat'.c0
      have y1 := fun x : Grown wr => x.cell hb' hat'.c1
      have y2 := fun x : Grown wr => x.cell hb' hat'.c2
      have y3 := fun x : Grown wr => x.cell hb' hat'.c3
      have y4 := fun x : Grown wr => x.cell hb' hat'.c4
      have hfk := HR.out.2.2 _ (nthG_mem hlt)
      have HC : ∀ q : Grown wr, Hid (Calls Tryz.prog 43 #[.agg #[.int .i64 (nthG U k).n, .slice ka (nthG U k).key.length kc, .int .i64 (nthG U k).b, .int .i64 (nthG U k).t, .slice ad (nthG U k).P.length cp], .agg #[.int .i64 (nthG U k).n, .slice ka' (nthG U k).key.length kc', .int .i64 (nthG U k).b, .int .i64 (nthG U k).t, .slice ad' (nthG U k).P.length cp']] q.out fun e w' => e = .returned (.bool true) ∧ Below q.out.heap.size q.out w') := fun q => sameGZ (hat.reads.1.below q.bel) (hat'.reads.1.below q.bel) (by have := hfk.2.1.2; unfold maxLen; omega) (hat.reads.2.below q.bel) (hat'.reads.2.below q.bel) (by have := hfk.2.2.2; omega) (finesP hfk.2.2.1)
      clear hat hat' hfk
      go_wp2
      refine wp_over (z := wr) (by kernel_rfl) (by kernel_rfl) (Below.refl _ _) ?_
      repeat (go_big_quiet_step (first | (go_at_call 43; exact call_over (HC _).out)))
      refine wpQuiet_nil ?_
      intro w2 hw2
      have HB2 : Hid (Below w.heap.size w w2) := grow_on HB.out (over_bel hw2)
      clear hw2 hne x0 x1 x2 x3 x4 y0 y1 y2 y3 y4 HC
      go_wp2
      go_roundw
      case rel => exact ⟨k + 1, by go_num, by omega, HB2.out⟩
      case measure => simp [intOf]; omega
    · have hge : ¬ (k : Int) < (U.length : Int) := by omega
      go_wp2
      go_ret
      exact ⟨rfl, HB.out⟩
end Go.Proofs.YtgncimlojbnbfaaGreat.GpZ
