/-
  PROVED: impl.JoinAll answers the groups with the alarm in the one of its key, or in a new one behind them, in memory of their own, and whether it is new; nothing that was there is changed.
-/
import Derived.Test.YtgncimlojbnbfaaGpJ
import Derived.Test.YtgncimlojbnbfaaGpIo
import Derived.Test.YtgncimlojbnbfaaGpLd
import Derived.Test.YtgncimlojbnbfaaGrpIn
namespace Go.Proofs.Ytgncimlojbnbfaa.GpIj
open Go.RowKit
open Go.Proofs.Ytgncimlojbnbfaa.Labs Go.Proofs.Ytgncimlojbnbfaa.LabS Go.Proofs.Ytgncimlojbnbfaa.Alms Go.Proofs.Ytgncimlojbnbfaa.Over Go.Proofs.Ytgncimlojbnbfaa.Blk Go.Proofs.Ytgncimlojbnbfaa.Rws Go.Proofs.Ytgncimlojbnbfaa.ChnC Go.Proofs.Ytgncimlojbnbfaa.Grp Go.Proofs.Ytgncimlojbnbfaa.GrpJ Go.Proofs.Ytgncimlojbnbfaa.Gps Go.Proofs.Ytgncimlojbnbfaa.GpD Go.Proofs.Ytgncimlojbnbfaa.GpC Go.Proofs.Ytgncimlojbnbfaa.GpJ Go.Proofs.Ytgncimlojbnbfaa.Mps Go.Proofs.Ytgncimlojbnbfaa.Mpr Go.Proofs.Ytgncimlojbnbfaa.GpSt Go.Proofs.Ytgncimlojbnbfaa.GpLd
open Go.Proofs.Ytgncimlojbnbfaa.Pro (RdS own_reads projB)
set_option linter.unusedVariables false
/-- the places of groups, in order -/
def placesL (n : Nat) : List Int := (List.range n).map Int.ofNat
theorem places_lt (n : Nat) : (placesL n).Pairwise (· < ·) := by
  unfold placesL
  rw [List.pairwise_map]
  exact (List.pairwise_lt_range).imp fun h => by simpa using h
theorem places_mem (V : List PGr) (i : Int) : (standF V i).isSome = true ↔ i ∈ placesL V.length := by
  unfold placesL standF
  constructor
  · intro h
    split at h
    · have h1 : i.toNat < V.length := by
        by_cases e : i.toNat < V.length
        · exact e
        · rw [List.getElem?_eq_none (by omega)] at h; cases h
      exact List.mem_map.2 ⟨i.toNat, List.mem_range.2 h1, by simp; omega⟩
    · cases h
  · intro h
    obtain ⟨k, hk, rfl⟩ := List.mem_map.1 h
    have hk := List.mem_range.1 hk
    simp [hk]
theorem places_map (V : List PGr) : (placesL V.length).map (standF V) = V.map some := by
  unfold placesL
  rw [List.map_map]
  apply List.ext_getElem?
  intro i
  rw [List.getElem?_map, List.getElem?_map]
  by_cases h : i < V.length
  · rw [List.getElem?_range h, List.getElem?_eq_getElem h]
    simp [standF_nat, h]
  · rw [List.getElem?_eq_none (by simp; omega), List.getElem?_eq_none (by omega)]
    rfl
theorem laidV_any (M n : Nat) (g : Int → Option Value) (V : List PGr) (w : World) (hS : Stood GK w M n g (standF V)) (hn : n ≤ 2000000) (hs : SmallG V) (hl : V.length ≤ 2000000) :
    Calls Try.prog 57 #[.map (some M)] w fun e w' => (∃ M', e = .returned (.slice (some ⟨M', 0, none⟩) V.length V.length) ∧ ∃ us, GsB w.heap.size w' M' V.length us ∧ grs us = V) ∧ Below w.heap.size w w' :=
  laid_any M n g (standF V) (placesL V.length) V w hS hn (places_lt _) (places_mem V) (places_map V) hs hl
theorem small_set {U : List PGr} {k : Nat} {y : PGr} (h : SmallG U) (hy : SmG y) : SmallG (U.set k y) := fun x hx => by
  rcases List.mem_or_eq_of_mem_set hx with hx | rfl
  · exact h x hx
  · exact hy
theorem small_app {U : List PGr} {y : PGr} (h : SmallG U) (hy : SmG y) : SmallG (U ++ [y]) := fun x hx => by
  rcases List.mem_append.1 hx with hx | hx
  · exact h x hx
  · rw [List.mem_singleton.1 hx]; exact hy
theorem lenM_join {P : List PAl} {x : PAl} (h : LenM P) (hx : x.l.length ≤ 1048576) : LenM (joinG P x) := by
  have hm : ∀ (Q : List PAl), LenM Q ↔ ∀ y ∈ Q, y.l.length ≤ 1048576 := fun Q => by
    constructor
    · intro h y hy
      obtain ⟨i, hi, rfl⟩ := List.getElem_of_mem hy
      have := h i hi
      rwa [nthP_eq hi] at this
    · intro h i hi
      rw [nthP_eq hi]; exact h _ (List.getElem_mem _)
  rw [hm] at h ⊢
  intro y hy
  unfold joinG at hy
  split at hy
  · rcases List.mem_or_eq_of_mem_set hy with hy | rfl
    · exact h y hy
    · exact hx
  · rcases List.mem_append.1 hy with hy | hy
    · exact h y (List.mem_of_mem_take hy)
    · rcases List.mem_cons.1 hy with rfl | hy
      · exact hx
      · exact h y (List.mem_of_mem_drop hy)
set_option maxRecDepth 100000 in
set_option maxHeartbeats 6400000 in
theorem implJoinA_any (a ba : Option Addr) (cap bc : Nat) (U : List PGr) (by' : List ByteArray) (gx ox cx : Nat) (x : PAl) (n now : Int) (w : World) (hr : RdGs GN w a U) (hl : U.length ≤ 1048576) (hcap : U.length ≤ cap ∧ cap ≤ maxLen) (hs : SmallG U) (hx : Reads w (some ⟨gx, ox, none⟩) x.l) (hxl : x.l.length ≤ 1048576) (hb : RdS w ba by') (hbl : by'.length ≤ maxLen) (hjl : ∀ y ∈ U, (joinG y.P x).length ≤ 1048576) :
    Calls Try.prog 26 #[.slice a U.length cap, .agg #[.slice (some ⟨gx, ox, none⟩) x.l.length cx, .int .i64 x.s, .int .i64 x.e, .string x.n], .slice ba by'.length bc, .int .i64 n, .int .i64 now] w fun e w' => (∃ M c us, e = .returned (.tuple #[.slice (some ⟨M, 0, none⟩) us.length c, .bool (newJ U x by')]) ∧ GsB w.heap.size w' M c us ∧ grs us = joinAllG U x by' n now) ∧ Below w.heap.size w w' := by
  have HR : Hid (RdGs GN w a U ∧ SmallG U ∧ ∀ y ∈ U, (joinG y.P x).length ≤ 1048576) := ⟨hr, hs, hjl⟩
  have HX : Hid (Reads w (some ⟨gx, ox, none⟩) x.l ∧ x.l.length ≤ 1048576) := ⟨hx, hxl⟩
  have HY : Hid (RdS w ba by' ∧ by'.length ≤ maxLen) := ⟨hb, hbl⟩
  have HPL : Hid ((projB x.l by').length ≤ 1048576) := by have h1 := Pro.proj_len x.l by'; show _ ≤ _; omega
  clear hr hs hx hxl hb hbl hjl hcap
  generalize hW0 : w.alloc (.cells #[.slice (some ⟨gx, ox, none⟩) x.l.length cx, .int .i64 x.s, .int .i64 x.e, .string x.n] 48) = W0
  have HB0 : Hid (Below w.heap.size w W0) := by rw [← hW0]; exact Go.Joins.below_alloc1 w _
  have BX0 : Hid (Blk W0 w.heap.size #[.slice (some ⟨gx, ox, none⟩) x.l.length cx, .int .i64 x.s, .int .i64 x.e, .string x.n] 48) := by rw [← hW0]; exact Blk.new _ _ _
  have HZ0 : Hid (W0.heap.size = w.heap.size + 1) := by show _ = _; rw [← hW0]; simp
  have HST : Hid (∀ y, Below W0.heap.size W0 y → Calls Try.prog 54 #[.slice a U.length cap] y fun e w' => (∃ M, e = .returned (.map (some M)) ∧ y.heap.size ≤ M ∧ ∃ n g, n ≤ U.length ∧ Stood GN w' M n g (standF U)) ∧ Below y.heap.size y w') := fun y hy => stand_any a cap U y (HR.out.1.below stays_gn (grow_on HB0.out hy)) hl
  have HKO : Hid (∀ y, Below W0.heap.size W0 y → Calls Try.prog 55 #[.agg #[.slice (some ⟨gx, ox, none⟩) x.l.length cx, .int .i64 x.s, .int .i64 x.e, .string x.n], .slice ba by'.length bc] y fun e w' => (∃ K kd, e = .returned (.slice (some ⟨K, 0, none⟩) (projB x.l by').length kd) ∧ LabR.Own y w' K (projB x.l by')) ∧ Below y.heap.size y w') := fun y hy => Pro.implKey_any _ _ _ _ x.l x.s x.e x.n by' y (HX.out.1.below (grow_on HB0.out hy)) (HY.out.1.below (grow_on HB0.out hy)) HX.out.2 HY.out.2
  go_enter Try.func26, Try.ntmps26
  go_upto_region 1 with fail
  try rw [hW0]
  clear hW0
  have HS : Hid (∀ w', Below W0.heap.size W0 w' → w'.cell? ⟨w.heap.size, 0, none⟩ = some (.slice (some ⟨gx, ox, none⟩) x.l.length cx) ∧ w'.cell? ⟨w.heap.size, 1, none⟩ = some (.int .i64 x.s) ∧ w'.cell? ⟨w.heap.size, 2, none⟩ = some (.int .i64 x.e) ∧ w'.cell? ⟨w.heap.size, 3, none⟩ = some (.string x.n)) := fun w' h => ⟨(BX0.out.grow h).cell 0, (BX0.out.grow h).cell 1, (BX0.out.grow h).cell 2, (BX0.out.grow h).cell 3⟩
  refine wp_region_held_drew (S := fun w' => w'.cell? ⟨w.heap.size, 0, none⟩ = some (.slice (some ⟨gx, ox, none⟩) x.l.length cx) ∧ w'.cell? ⟨w.heap.size, 1, none⟩ = some (.int .i64 x.s) ∧ w'.cell? ⟨w.heap.size, 2, none⟩ = some (.int .i64 x.e) ∧ w'.cell? ⟨w.heap.size, 3, none⟩ = some (.string x.n)) (by kernel_rfl) (HS.out _ (Below.refl W0.heap.size W0).drew) (fun hHeld => ?_)
  refine wpAnyH_take (i := 0) (oi := { dst := some 16, op := Op.move (Operand.tmp 0), type := 27, pos := "l12_groups.go:68", after := #[], guard := none }) (v := ?vja0) rfl (by kernel_rfl) (by kernel_rfl) (by kernel_rfl) (fun _ _ _ h => h) (Or.inl ⟨by rfl, ?hyja0⟩) hHeld ?_
  case hyja0 => (intro w hSw; (try dsimp only at hSw); go_simp <;> with_reducible rfl)
  try simp only [Act.put, List.setIfInBounds_toArray, List.set_cons_zero, List.set_cons_succ]
  refine wpAnyH_take (i := 2) (oi := { dst := some 18, op := Op.load 48 (Operand.tmp 6), type := 48, pos := "l12_groups.go:68", after := #[], guard := none }) (v := ?vja2) rfl (by kernel_rfl) (by kernel_rfl) (by kernel_rfl) (fun _ _ _ h => h) (Or.inl ⟨by rfl, ?hyja2⟩) hHeld ?_
  case hyja2 => (intro w hSw; (try dsimp only at hSw); go_simp <;> with_reducible rfl)
  try simp only [Act.put, List.setIfInBounds_toArray, List.set_cons_zero, List.set_cons_succ]
  refine wpAnyH_take (i := 3) (oi := { dst := some 19, op := Op.move (Operand.tmp 2), type := 23, pos := "l12_groups.go:68", after := #[], guard := none }) (v := ?vja3) rfl (by kernel_rfl) (by kernel_rfl) (by kernel_rfl) (fun _ _ _ h => h) (Or.inl ⟨by rfl, ?hyja3⟩) hHeld ?_
  case hyja3 => (intro w hSw; (try dsimp only at hSw); go_simp <;> with_reducible rfl)
  try simp only [Act.put, List.setIfInBounds_toArray, List.set_cons_zero, List.set_cons_succ]
  refine wpAnyH_ready (rs := [1]) (by kernel_rfl) (by simp) ?_
  refine AllReadyH.cons (o := { dst := some 17, op := Op.call { callee := Callee.value (Operand.func 54), args := #[Operand.tmp 16], argTypes := #[27] }, type := 83, pos := "l12_groups.go:68", after := #[{ on := 0, ground := Ground.data }], guard := none }) rfl (fun K hK => ?_) AllReadyH.nil
  go_simp
  refine (HST.out _ (Below.refl W0.heap.size W0).drew).mono ?_
  rintro r wyja1 ⟨⟨M, rfl, hM, n1, g1, hn1, hS1⟩, hb1⟩
  have Z1 : Hid (Below W0.heap.size W0 wyja1) := grow_on (Below.refl W0.heap.size W0).drew hb1
  have HS1 : Hid (Stood GN wyja1 M n1 g1 (standF U) ∧ n1 ≤ U.length) := ⟨hS1, hn1⟩
  have HM : Hid (W0.heap.size ≤ M) := hM
  clear hb1 hM hn1 hS1
  clear hHeld
  refine hK.out _ _ (HS.out _ Z1.out) (fun hHeld => ?_)
  clear hK K
  try simp only [Act.put, List.setIfInBounds_toArray, List.set_cons_zero, List.set_cons_succ]
  refine wpAnyH_ready (rs := [4]) (by kernel_rfl) (by simp) ?_
  refine AllReadyH.cons (o := { dst := some 20, op := Op.call { callee := Callee.value (Operand.func 55), args := #[Operand.tmp 18, Operand.tmp 19], argTypes := #[48, 23] }, type := 36, pos := "l12_groups.go:68", after := #[{ on := 2, ground := Ground.data }, { on := 3, ground := Ground.data }, { on := 1, ground := Ground.chain }], guard := none }) rfl (fun K hK => ?_) AllReadyH.nil
  go_simp
  refine (HKO.out _ Z1.out).mono ?_
  rintro r wyja4 ⟨⟨Kq, kd, rfl, ho⟩, hb2⟩
  have Z2 : Hid (Below W0.heap.size W0 wyja4) := grow_on Z1.out hb2
  have HS2 : Hid (Stood GN wyja4 M n1 g1 (standF U) ∧ n1 ≤ U.length) := ⟨HS1.out.1.grow stays_gn hb2, HS1.out.2⟩
  have HO2 : Hid (Reads wyja4 (some ⟨Kq, 0, none⟩) (projB x.l by')) := own_reads ho
  clear hb2 ho HS1 Z1
  clear hHeld
  refine hK.out _ _ (HS.out _ Z2.out) (fun hHeld => ?_)
  clear hK K
  try simp only [Act.put, List.setIfInBounds_toArray, List.set_cons_zero, List.set_cons_succ]
  refine wpAnyH_take (i := 5) (oi := { dst := some 12, op := Op.assign (Operand.tmp 17), type := 83, pos := "l12_groups.go:68", after := #[{ on := 1, ground := Ground.data }, { on := 4, ground := Ground.chain }, { on := 0, ground := Ground.phase }, { on := 1, ground := Ground.phase }, { on := 2, ground := Ground.textOnly Departure.lateStores }, { on := 3, ground := Ground.textOnly Departure.lateStores }, { on := 4, ground := Ground.textOnly Departure.lateStoresUnsure }], guard := none }) (v := ?vja5) rfl (by kernel_rfl) (by kernel_rfl) (by kernel_rfl) (fun _ _ _ h => h) (Or.inl ⟨by rfl, ?hyja5⟩) hHeld ?_
  case hyja5 => (intro w hSw; (try dsimp only at hSw); go_simp <;> with_reducible rfl)
  try simp only [Act.put, List.setIfInBounds_toArray, List.set_cons_zero, List.set_cons_succ]
  refine wpAnyH_take (i := 6) (oi := { dst := some 13, op := Op.assign (Operand.tmp 20), type := 36, pos := "l12_groups.go:68", after := #[{ on := 4, ground := Ground.data }, { on := 5, ground := Ground.chain }, { on := 0, ground := Ground.phase }, { on := 1, ground := Ground.phase }, { on := 2, ground := Ground.phase }, { on := 3, ground := Ground.phase }, { on := 4, ground := Ground.phase }, { on := 5, ground := Ground.phase }], guard := none }) (v := ?vja6) rfl (by kernel_rfl) (by kernel_rfl) (by kernel_rfl) (fun _ _ _ h => h) (Or.inl ⟨by rfl, ?hyja6⟩) hHeld ?_
  case hyja6 => (intro w hSw; (try dsimp only at hSw); go_simp <;> with_reducible rfl)
  try simp only [Act.put, List.setIfInBounds_toArray, List.set_cons_zero, List.set_cons_succ]
  refine wpAnyH_done (by kernel_rfl) ?_ _
  clear hHeld HS HST HKO
  have HB2 : Hid (Below w.heap.size w wyja4) := grow_on HB0.out Z2.out
  have BX2 : Hid (Blk wyja4 w.heap.size #[.slice (some ⟨gx, ox, none⟩) x.l.length cx, .int .i64 x.s, .int .i64 x.e, .string x.n] 48) := BX0.out.grow Z2.out
  have HM2 : Hid (w.heap.size + 1 ≤ M) := by have h1 := HM.out; rw [HZ0.out] at h1; exact h1
  clear Z2 HB0 BX0 HM HZ0
  generalize wyja4 = z2 at *
  go_wp2_with fail
  refine (GpIo.implOf_any a (some ⟨Kq, 0, none⟩) cap kd U (projB x.l by') _ ((HR.out.1.below stays_gn HB2.out).rd) HO2.out hl (by have := HPL.out; unfold maxLen; omega) (fun y hy => by have := (HR.out.2.1 y hy).1; unfold maxLen; omega)).mono ?_
  rintro e z ⟨rfl, hb3⟩
  have HSz : Hid (Stood GN z M n1 g1 (standF U) ∧ n1 ≤ U.length) := ⟨HS2.out.1.grow stays_gn hb3, HS2.out.2⟩
  have HOz : Hid (Reads z (some ⟨Kq, 0, none⟩) (projB x.l by')) := HO2.out.below hb3
  have HB : Hid (Below w.heap.size w z) := grow_on HB2.out hb3
  have BX : Hid (Blk z w.heap.size #[.slice (some ⟨gx, ox, none⟩) x.l.length cx, .int .i64 x.s, .int .i64 x.e, .string x.n] 48) := BX2.out.grow hb3
  clear hb3 HS2 HO2 HB2 BX2
  have hnlen : n1 ≤ U.length := HSz.out.2
  rcases ofI_cases (keyIs (projB x.l by')) U with ⟨he, _⟩ | ⟨k, he, _, _, _⟩
  ·
    obtain ⟨hj1, hj2⟩ := joinA_miss (n := n) (now := now) he
    have HJ : Hid (joinAllG U x by' n now = U ++ [⟨n, (projB x.l by'), now, -1, [x]⟩] ∧ newJ U x by' = true) := ⟨hj1, hj2⟩
    rw [he]
    clear hj1 hj2 he
    go_wp2_with (at_mapUpdate; refine wp_updateN _ rfl _ _ _ 83 rfl 3 67 IntK (asked_int Try.underlying3) Try.underlying83 M n1 (g1) rfl HSz.out.1.map HSz.out.1.num (U.length : Int) (.agg #[.int .i64 n, .slice (some ⟨Kq, 0, none⟩) (projB x.l by').length kd, .int .i64 now, .int .i64 (-1), .slice none 0 0]) rfl rfl ?_)
    intro w3 n3 hm3 hn3 hle3 hg3 hs3
    have HS3 : Hid (Stood GK w3 M n3 (updG g1 (U.length : Int) (some (.agg #[.int .i64 n, .slice (some ⟨Kq, 0, none⟩) (projB x.l by').length kd, .int .i64 now, .int .i64 (-1), .slice none 0 0]))) (updF (standF U) (U.length : Int) (some ⟨n, (projB x.l by'), now, -1, []⟩))) := (HSz.out.1.gk).put up_gk hm3 hn3 hg3 ⟨some ⟨Kq, 0, none⟩, kd, none, 0, rfl, ⟨Kq, 0, rfl⟩, HOz.out, .inl rfl⟩
    have hup := Up.map HSz.out.1.map hg3
    have HO3 : Hid (Reads w3 (some ⟨Kq, 0, none⟩) (projB x.l by')) := Reads.up HOz.out hup
    have HB3 : Hid (Below w.heap.size w w3) := HB.out.grown hg3 HB.out.size (fun j e => by have e : M = j := Option.some.inj e; have := HM2.out; omega)
    have BX3 : Hid (Blk w3 w.heap.size #[.slice (some ⟨gx, ox, none⟩) x.l.length cx, .int .i64 x.s, .int .i64 x.e, .string x.n] 48) := blk_map BX.out HSz.out.1.map hg3
    have x0 := BX3.out.cell 0
    have x1 := BX3.out.cell 1
    have x2 := BX3.out.cell 2
    have x3 := BX3.out.cell 3
    simp at x0 x1 x2 x3
    clear hm3 hn3 hg3 hs3 hup HOz HB BX
    go_wp2_with (at_lookup; refine wp_lookup _ rfl _ _ 83 false rfl 3 67 IntK (asked_int Try.underlying3) Try.underlying83 (zeroG _) M _ rfl HS3.out.map (U.length : Int) rfl (.agg #[.int .i64 n, .slice (some ⟨Kq, 0, none⟩) (projB x.l by').length kd, .int .i64 now, .int .i64 (-1), .slice none 0 0]) (by rw [upd_at]; rfl) ?_)
    refine (GrpIn.implJoin_nil n now (-1) Kq 0 kd (projB x.l by') gx ox cx x _ HO3.out HPL.out (HX.out.1.below HB3.out) HX.out.2).mono ?_
    rintro e w4 ⟨⟨Ke, ke, M1, o1, c1, rs, rfl, hG, hP⟩, hb4⟩
    have HS4 : Hid (Stood GK w4 M n3 (updG g1 (U.length : Int) (some (.agg #[.int .i64 n, .slice (some ⟨Kq, 0, none⟩) (projB x.l by').length kd, .int .i64 now, .int .i64 (-1), .slice none 0 0]))) (updF (standF U) (U.length : Int) (some ⟨n, (projB x.l by'), now, -1, []⟩))) := HS3.out.grow stays_gk hb4
    have HG4 : Hid (GB w3.heap.size w4 Ke (projB x.l by') M1 o1 rs ∧ pals rs = [x]) := ⟨hG, hP⟩
    have HB4 : Hid (Below w.heap.size w w4) := grow_on HB3.out hb4
    clear hG hP hb4 x0 x1 x2 x3 HS3 HB3 HO3 BX3
    go_wp2_with (at_mapUpdate; refine wp_updateN _ rfl _ _ _ 83 rfl 3 67 IntK (asked_int Try.underlying3) Try.underlying83 M n3 (_) rfl HS4.out.map HS4.out.num (U.length : Int) (.agg #[.int .i64 n, .slice (some ⟨Ke, 0, none⟩) (projB x.l by').length ke, .int .i64 now, .int .i64 (-1), .slice (some ⟨M1, o1, none⟩) rs.length c1]) rfl rfl ?_)
    intro w5 n5 hm5 hn5 hle5 hg5 hs5
    have HS5 : Hid (Stood GK w5 M n5 (updG (updG g1 (U.length : Int) (some (.agg #[.int .i64 n, .slice (some ⟨Kq, 0, none⟩) (projB x.l by').length kd, .int .i64 now, .int .i64 (-1), .slice none 0 0]))) (U.length : Int) (some (.agg #[.int .i64 n, .slice (some ⟨Ke, 0, none⟩) (projB x.l by').length ke, .int .i64 now, .int .i64 (-1), .slice (some ⟨M1, o1, none⟩) rs.length c1]))) (standF (joinAllG U x by' n now))) := by
      rw [HJ.out.1]
      rw [← standF_app, ← updF_twice (standF U) (U.length : Int) (some ⟨n, (projB x.l by'), now, -1, []⟩)]
      exact HS4.out.put up_gk hm5 hn5 hg5 ⟨some ⟨Ke, 0, none⟩, ke, some ⟨M1, o1, none⟩, c1, by rw [← HG4.out.2, pals_len], ⟨Ke, 0, rfl⟩, HG4.out.1.key.rd, by rw [← HG4.out.2]; exact HG4.out.1.row.rd.rd⟩
    have HB5 : Hid (Below w.heap.size w w5) := HB4.out.grown hg5 HB4.out.size (fun j e => by have e : M = j := Option.some.inj e; have := HM2.out; omega)
    have hn5b : n5 ≤ 2000000 := by omega
    have HLD : Hid (Calls Try.prog 57 #[.map (some M)] w5 fun e w' => (∃ M', e = .returned (.slice (some ⟨M', 0, none⟩) (joinAllG U x by' n now).length (joinAllG U x by' n now).length) ∧ ∃ us, GsB w5.heap.size w' M' (joinAllG U x by' n now).length us ∧ grs us = joinAllG U x by' n now) ∧ Below w5.heap.size w5 w') := laidV_any M n5 _ (joinAllG U x by' n now) w5 HS5.out hn5b (by rw [HJ.out.1]; exact small_app HR.out.2.1 ⟨HPL.out, by show 1 ≤ 1048576; omega, GrpI.lenM_one HX.out.2⟩) (by rw [HJ.out.1]; simp; omega)
    clear hm5 hn5 hg5 hs5 HS4 HG4 HB4
    go_wp2_with fail
    refine HLD.out.mono ?_
    rintro e w6 ⟨⟨M', rfl, us, hgs, hgr⟩, hb6⟩
    have HF : Hid (GsB w.heap.size w6 M' (joinAllG U x by' n now).length us ∧ grs us = joinAllG U x by' n now ∧ Below w.heap.size w w6) := ⟨hgs.down HB5.out.size, hgr, grow_on HB5.out hb6⟩
    clear hgs hgr hb6 HLD
    go_wp2
    go_ret2
    have hul : us.length = (joinAllG U x by' n now).length := by rw [← HF.out.2.1, grs_len]
    exact ⟨⟨M', (joinAllG U x by' n now).length, us, by rw [hul, HJ.out.2]; rfl, HF.out.1, HF.out.2.1⟩, HF.out.2.2⟩
  ·
    obtain ⟨hkl, hj1, hj2⟩ := joinA_hit (n := n) (now := now) he
    have HJ : Hid (joinAllG U x by' n now = U.set k (putG x (nthG U k)) ∧ newJ U x by' = false) := ⟨hj1, hj2⟩
    rw [he]
    have hk0 : ¬ (k : Int) < 0 := by omega
    clear hj1 hj2 he
    obtain ⟨v, hgv, ka, kc, ad, cp, rfl, ⟨gk, ok, rfl⟩, ⟨ga, oa, rfl⟩, hcp, hrk, hra⟩ := HSz.out.1.ent (k : Int) (nthG U k) (by rw [standF_nat, nthG_eq hkl]; exact List.getElem?_eq_getElem hkl)
    have HGV : Hid (g1 (k : Int) = some (.agg #[.int .i64 (nthG U k).n, .slice (some ⟨gk, ok, none⟩) (nthG U k).key.length kc, .int .i64 (nthG U k).b, .int .i64 (nthG U k).t, .slice (some ⟨ga, oa, none⟩) (nthG U k).P.length cp])) := hgv
    have HSM : Hid (SmG (nthG U k) ∧ (joinG (nthG U k).P x).length ≤ 1048576) := ⟨HR.out.2.1 _ (nthG_mem hkl), HR.out.2.2 _ (nthG_mem hkl)⟩
    have HRD : Hid (Reads z (some ⟨gk, ok, none⟩) (nthG U k).key ∧ RdN z (some ⟨ga, oa, none⟩) (nthG U k).P ∧ ((nthG U k).P.length ≤ cp ∧ cp ≤ maxLen)) := ⟨hrk, hra, hcp⟩
    have x0 := BX.out.cell 0
    have x1 := BX.out.cell 1
    have x2 := BX.out.cell 2
    have x3 := BX.out.cell 3
    simp at x0 x1 x2 x3
    clear hgv hcp hrk hra
    go_wp2_with (at_lookup; refine wp_lookup _ rfl _ _ 83 false rfl 3 67 IntK (asked_int Try.underlying3) Try.underlying83 (zeroG _) M _ rfl HSz.out.1.map (k : Int) rfl (.agg #[.int .i64 (nthG U k).n, .slice (some ⟨gk, ok, none⟩) (nthG U k).key.length kc, .int .i64 (nthG U k).b, .int .i64 (nthG U k).t, .slice (some ⟨ga, oa, none⟩) (nthG U k).P.length cp]) (by rw [HGV.out]; rfl) ?_)
    refine (GrpI.implJoin_any (nthG U k).n (nthG U k).b (nthG U k).t gk ok kc (nthG U k).key ga oa cp (nthG U k).P gx ox cx x _ HRD.out.1 HSM.out.1.1 HRD.out.2.1 HSM.out.1.2.1 HSM.out.1.2.2 HRD.out.2.2 (HX.out.1.below HB.out) HX.out.2).mono ?_
    rintro e w4 ⟨⟨Ke, ke, M1, o1, c1, rs, rfl, hG, hP⟩, hb4⟩
    have HS4 : Hid (Stood GK w4 M n1 g1 (standF U)) := (HSz.out.1.gk).grow stays_gk hb4
    have HG4 : Hid (GB z.heap.size w4 Ke (nthG U k).key M1 o1 rs ∧ pals rs = joinG (nthG U k).P x) := ⟨hG, hP⟩
    have HB4 : Hid (Below w.heap.size w w4) := grow_on HB.out hb4
    clear hG hP hb4 x0 x1 x2 x3 HB HOz BX HRD HGV
    go_wp2_with (at_mapUpdate; refine wp_updateN _ rfl _ _ _ 83 rfl 3 67 IntK (asked_int Try.underlying3) Try.underlying83 M n1 (_) rfl HS4.out.map HS4.out.num (k : Int) (.agg #[.int .i64 (nthG U k).n, .slice (some ⟨Ke, 0, none⟩) (nthG U k).key.length ke, .int .i64 (nthG U k).b, .int .i64 (nthG U k).t, .slice (some ⟨M1, o1, none⟩) rs.length c1]) rfl rfl ?_)
    intro w5 n5 hm5 hn5 hle5 hg5 hs5
    have HS5 : Hid (Stood GK w5 M n5 (updG (g1) (k : Int) (some (.agg #[.int .i64 (nthG U k).n, .slice (some ⟨Ke, 0, none⟩) (nthG U k).key.length ke, .int .i64 (nthG U k).b, .int .i64 (nthG U k).t, .slice (some ⟨M1, o1, none⟩) rs.length c1]))) (standF (joinAllG U x by' n now))) := by
      rw [HJ.out.1]
      rw [← standF_set hkl]
      exact HS4.out.put up_gk hm5 hn5 hg5 ⟨some ⟨Ke, 0, none⟩, ke, some ⟨M1, o1, none⟩, c1, by simp only [putG]; rw [← HG4.out.2, pals_len], ⟨Ke, 0, rfl⟩, HG4.out.1.key.rd, by simp only [putG]; rw [← HG4.out.2]; exact HG4.out.1.row.rd.rd⟩
    have HB5 : Hid (Below w.heap.size w w5) := HB4.out.grown hg5 HB4.out.size (fun j e => by have e : M = j := Option.some.inj e; have := HM2.out; omega)
    have hn5b : n5 ≤ 2000000 := by omega
    have HLD : Hid (Calls Try.prog 57 #[.map (some M)] w5 fun e w' => (∃ M', e = .returned (.slice (some ⟨M', 0, none⟩) (joinAllG U x by' n now).length (joinAllG U x by' n now).length) ∧ ∃ us, GsB w5.heap.size w' M' (joinAllG U x by' n now).length us ∧ grs us = joinAllG U x by' n now) ∧ Below w5.heap.size w5 w') := laidV_any M n5 _ (joinAllG U x by' n now) w5 HS5.out hn5b (by rw [HJ.out.1]; exact small_set HR.out.2.1 ⟨HSM.out.1.1, HSM.out.2, lenM_join HSM.out.1.2.2 HX.out.2⟩) (by rw [HJ.out.1]; simp; omega)
    clear hm5 hn5 hg5 hs5 HS4 HG4 HB4
    go_wp2_with fail
    refine HLD.out.mono ?_
    rintro e w6 ⟨⟨M', rfl, us, hgs, hgr⟩, hb6⟩
    have HF : Hid (GsB w.heap.size w6 M' (joinAllG U x by' n now).length us ∧ grs us = joinAllG U x by' n now ∧ Below w.heap.size w w6) := ⟨hgs.down HB5.out.size, hgr, grow_on HB5.out hb6⟩
    clear hgs hgr hb6 HLD
    go_wp2
    go_ret2
    have hul : us.length = (joinAllG U x by' n now).length := by rw [← HF.out.2.1, grs_len]
    exact ⟨⟨M', (joinAllG U x by' n now).length, us, by rw [hul, HJ.out.2]; rfl, HF.out.1, HF.out.2.1⟩, HF.out.2.2⟩
end Go.Proofs.Ytgncimlojbnbfaa.GpIj
