/-
  PROVED: impl.stand lays groups in a map of its own, each under its place, and impl.copiedGroup gives a group in memory of its own; nothing that was there is changed.
-/
import Derived.Test.YtgncimlojbnbfaaGpC
import Derived.Test.YtgncimlojbnbfaaMpr
import Derived.Test.YtgncimlojbnbfaaGrpI
namespace Go.Proofs.Ytgncimlojbnbfaa.GpSt
open Go.RowKit
open Go.Proofs.Ytgncimlojbnbfaa.Labs Go.Proofs.Ytgncimlojbnbfaa.LabS Go.Proofs.Ytgncimlojbnbfaa.Alms Go.Proofs.Ytgncimlojbnbfaa.AlmM Go.Proofs.Ytgncimlojbnbfaa.Over Go.Proofs.Ytgncimlojbnbfaa.Blk Go.Proofs.Ytgncimlojbnbfaa.App Go.Proofs.Ytgncimlojbnbfaa.Rws Go.Proofs.Ytgncimlojbnbfaa.ChnI Go.Proofs.Ytgncimlojbnbfaa.ChnC Go.Proofs.Ytgncimlojbnbfaa.ChnK Go.Proofs.Ytgncimlojbnbfaa.Chs Go.Proofs.Ytgncimlojbnbfaa.Grp Go.Proofs.Ytgncimlojbnbfaa.GrpL Go.Proofs.Ytgncimlojbnbfaa.GrpI Go.Proofs.Ytgncimlojbnbfaa.Gps Go.Proofs.Ytgncimlojbnbfaa.GpC Go.Proofs.Ytgncimlojbnbfaa.Mps Go.Proofs.Ytgncimlojbnbfaa.Mpr
set_option linter.unusedVariables false
/-- every cell stays as it was -/
def Up (w w' : World) : Prop := w.heap.size ≤ w'.heap.size ∧ ∀ p v, w.cell? p = some v → w'.cell? p = some v
theorem Up.of {w w' : World} (h : Below w.heap.size w w') : Up w w' := ⟨h.size, fun p v hv => (h.cell (World.block_lt_of_cell? w _ hv)).trans hv⟩
theorem Up.map {ι : Type} {enc : ι → Value} {w w' : World} {b : Nat} {g : ι → Option Value} (hm : MapG enc w b g) (hg : w.grownBy w' (some b)) : Up w w' := by
  refine ⟨hg.size, fun p v hv => ?_⟩
  have hlt := World.block_lt_of_cell? w _ hv
  obtain ⟨es, clock, hb, _⟩ := hm
  have hne : some p.block ≠ some b := fun e => by
    have e : p.block = b := Option.some.inj e
    simp [World.cell?, e, hb] at hv
  have h := hg.block p.block hlt hne
  rw [← hv]
  simp only [World.cell?, h]
theorem Reads.up {w w' : World} {a : Option Addr} {l : List Lab} (h : Reads w a l) (hu : Up w w') : Reads w' a l := by
  rcases h with h | ⟨b, off, rfl, hlt, hc⟩
  · exact .inl h
  · exact .inr ⟨b, off, rfl, Nat.lt_of_lt_of_le hlt hu.1, fun i hi => ⟨hu.2 _ _ (hc i hi).1, hu.2 _ _ (hc i hi).2⟩⟩
theorem RdA.up {w w' : World} {a : Option Addr} {P : List PAl} (h : RdA w a P) (hu : Up w w') : RdA w' a P := by
  rcases h with h | ⟨b, off, rfl, hlt, hc⟩
  · exact .inl h
  · exact .inr ⟨b, off, rfl, Nat.lt_of_lt_of_le hlt hu.1, fun i hi => by
      obtain ⟨ad, cap, h⟩ := hc i hi
      exact ⟨ad, cap, hu.2 _ _ h.c0, hu.2 _ _ h.c1, hu.2 _ _ h.c2, hu.2 _ _ h.c3, Reads.up h.reads hu⟩⟩
theorem RdN.up {w w' : World} {a : Option Addr} {P : List PAl} (h : RdN w a P) (hu : Up w w') : RdN w' a P := by
  rcases h with h | ⟨b, off, rfl, hlt, hc⟩
  · exact .inl h
  · exact .inr ⟨b, off, rfl, Nat.lt_of_lt_of_le hlt hu.1, fun i hi => by
      obtain ⟨g, o, cap, h⟩ := hc i hi
      exact ⟨g, o, cap, hu.2 _ _ h.c0, hu.2 _ _ h.c1, hu.2 _ _ h.c2, hu.2 _ _ h.c3, Reads.up h.reads hu⟩⟩
/-- how the key and the alarms of a group in the map are read -/
def GK (w : World) (ka : Option Addr) (key : List Lab) (a : Option Addr) (cap : Nat) (P : List PAl) : Prop := (∃ g o, ka = some ⟨g, o, none⟩) ∧ Reads w ka key ∧ RdA w a P
theorem gk_of {w : World} {ka : Option Addr} {key : List Lab} {a : Option Addr} {cap : Nat} {P : List PAl} (h : GN w ka key a cap P) : GK w ka key a cap P := ⟨h.1, h.2.2.2.1, h.2.2.2.2.rd⟩
theorem stays_gk : StaysG GK := fun _ _ _ _ _ _ _ h hb => ⟨h.1, h.2.1.below hb, h.2.2.below hb⟩
def UpG (R : How) : Prop := ∀ w w' ka key a cap P, R w ka key a cap P → Up w w' → R w' ka key a cap P
theorem up_gk : UpG GK := fun _ _ _ _ _ _ _ h hu => ⟨h.1, Reads.up h.2.1 hu, RdA.up h.2.2 hu⟩
theorem up_gn : UpG GN := fun _ _ _ _ _ _ _ h hu => ⟨h.1, h.2.1, h.2.2.1, Reads.up h.2.2.2.1 hu, RdN.up h.2.2.2.2 hu⟩
/-- a value of the map is this group -/
def Ent (R : How) (w : World) (v : Value) (x : PGr) : Prop := ∃ ka kd ad cp, v = .agg #[.int .i64 x.n, .slice ka x.key.length kd, .int .i64 x.b, .int .i64 x.t, .slice ad x.P.length cp] ∧ R w ka x.key ad cp x.P
theorem Ent.below {R : How} (hR : StaysG R) {w w' : World} {v : Value} {x : PGr} (h : Ent R w v x) (hb : Below w.heap.size w w') : Ent R w' v x := by
  obtain ⟨ka, kd, ad, cp, e, h⟩ := h
  exact ⟨ka, kd, ad, cp, e, hR _ _ _ _ _ _ _ h hb⟩
theorem Ent.gk {w : World} {v : Value} {x : PGr} (h : Ent GN w v x) : Ent GK w v x := by
  obtain ⟨ka, kd, ad, cp, e, h⟩ := h
  exact ⟨ka, kd, ad, cp, e, gk_of h⟩
theorem Ent.up {R : How} (hR : UpG R) {w w' : World} {v : Value} {x : PGr} (h : Ent R w v x) (hu : Up w w') : Ent R w' v x := by
  obtain ⟨ka, kd, ad, cp, e, h⟩ := h
  exact ⟨ka, kd, ad, cp, e, hR _ _ _ _ _ _ _ h hu⟩
def updF (F : Int → Option PGr) (i : Int) (v : Option PGr) : Int → Option PGr := fun j => if j = i then v else F j
theorem updF_at (F : Int → Option PGr) (i : Int) (v : Option PGr) : updF F i v i = v := if_pos rfl
theorem updF_no {F : Int → Option PGr} {i j : Int} {v : Option PGr} (h : j ≠ i) : updF F i v j = F j := if_neg h
/-- groups stand in the map, each under its place -/
structure Stood (R : How) (w : World) (M n : Nat) (g : Int → Option Value) (F : Int → Option PGr) : Prop where
  map : MapG IntK w M g
  num : MapN w M n
  non : ∀ i, F i = Option.none → g i = Option.none
  ent : ∀ i x, F i = some x → ∃ v, g i = some v ∧ Ent R w v x
theorem Stood.grow {R : How} (hR : StaysG R) {w w' : World} {M n : Nat} {g : Int → Option Value} {F : Int → Option PGr} (h : Stood R w M n g F) (hb : Below w.heap.size w w') : Stood R w' M n g F :=
  ⟨h.map.grow hb, h.num.grow hb, h.non, fun i x hx => by obtain ⟨v, h1, h2⟩ := h.ent i x hx; exact ⟨v, h1, h2.below hR hb⟩⟩
theorem Stood.gk {w : World} {M n : Nat} {g : Int → Option Value} {F : Int → Option PGr} (h : Stood GN w M n g F) : Stood GK w M n g F :=
  ⟨h.map, h.num, h.non, fun i x hx => by obtain ⟨v, h1, h2⟩ := h.ent i x hx; exact ⟨v, h1, h2.gk⟩⟩
theorem Stood.put {R : How} (hR : UpG R) {w w' : World} {M n n' : Nat} {g : Int → Option Value} {F : Int → Option PGr} {i : Int} {v : Value} {x : PGr} (h : Stood R w M n g F) (hm : MapG IntK w' M (updG g i (some v))) (hn : MapN w' M n') (hg : w.grownBy w' (some M)) (hv : Ent R w v x) : Stood R w' M n' (updG g i (some v)) (updF F i (some x)) := by
  have hu := Up.map h.map hg
  refine ⟨hm, hn, fun j hj => ?_, fun j y hy => ?_⟩
  · by_cases e : j = i
    · subst e; rw [updF_at] at hj; cases hj
    · rw [updF_no e] at hj; rw [upd_no e]; exact h.non j hj
  · by_cases e : j = i
    · subst e; rw [updF_at] at hy; cases hy; exact ⟨v, upd_at _ _ _, hv.up hR hu⟩
    · rw [updF_no e] at hy
      obtain ⟨u, h1, h2⟩ := h.ent j y hy
      exact ⟨u, by rw [upd_no e]; exact h1, h2.up hR hu⟩
theorem Stood.drop {R : How} (hR : UpG R) {w w' : World} {M n n' : Nat} {g : Int → Option Value} {F : Int → Option PGr} {i : Int} (h : Stood R w M n g F) (hm : MapG IntK w' M (updG g i none)) (hn : MapN w' M n') (hg : w.grownBy w' (some M)) : Stood R w' M n' (updG g i none) (updF F i Option.none) := by
  have hu := Up.map h.map hg
  refine ⟨hm, hn, fun j hj => ?_, fun j y hy => ?_⟩
  · by_cases e : j = i
    · subst e; exact upd_at _ _ _
    · rw [updF_no e] at hj; rw [upd_no e]; exact h.non j hj
  · by_cases e : j = i
    · subst e; rw [updF_at] at hy; cases hy
    · rw [updF_no e] at hy
      obtain ⟨u, h1, h2⟩ := h.ent j y hy
      exact ⟨u, by rw [upd_no e]; exact h1, h2.up hR hu⟩
/-- each under its place -/
def standF (U : List PGr) (i : Int) : Option PGr := if 0 ≤ i then U[i.toNat]? else none
theorem standF_nat (U : List PGr) (k : Nat) : standF U (k : Int) = U[k]? := by unfold standF; rw [if_pos (by omega)]; rfl
theorem standF_ext {F : Int → Option PGr} {U : List PGr} (h0 : ∀ i, i < 0 → F i = none) (h : ∀ k : Nat, F (k : Int) = U[k]?) : F = standF U := by
  funext i
  by_cases e : i < 0
  · rw [h0 i e]; unfold standF; rw [if_neg (by omega)]
  · obtain ⟨k, rfl⟩ : ∃ k : Nat, i = (k : Int) := ⟨i.toNat, by omega⟩
    rw [h k, standF_nat]
theorem standF_neg (U : List PGr) {i : Int} (h : i < 0) : standF U i = none := by unfold standF; rw [if_neg (by omega)]
theorem standF_nil : standF [] = fun _ => none := by funext i; unfold standF; split <;> simp
theorem standF_up {U : List PGr} {k : Nat} (h : k < U.length) : updF (standF (U.take k)) (k : Int) (some (nthG U k)) = standF (U.take (k + 1)) := by
  refine standF_ext (fun i hi => ?_) fun j => ?_
  · rw [updF_no (by omega)]; exact standF_neg _ hi
  · by_cases e : j = k
    · subst e; rw [updF_at, nthG_eq h, List.getElem?_take_of_lt (by omega), List.getElem?_eq_getElem h]
    · rw [updF_no (by omega), standF_nat, List.getElem?_take, List.getElem?_take]
      by_cases h2 : j < k
      · rw [if_pos h2, if_pos (by omega)]
      · rw [if_neg h2, if_neg (by omega)]
theorem standF_set {U : List PGr} {k : Nat} (h : k < U.length) (y : PGr) : updF (standF U) (k : Int) (some y) = standF (U.set k y) := by
  refine standF_ext (fun i hi => ?_) fun j => ?_
  · rw [updF_no (by omega)]; exact standF_neg _ hi
  · by_cases e : j = k
    · subst e; rw [updF_at, List.getElem?_set_self h]
    · rw [updF_no (by omega), standF_nat, List.getElem?_set_ne (Ne.symm e)]
theorem standF_app (U : List PGr) (y : PGr) : updF (standF U) (U.length : Int) (some y) = standF (U ++ [y]) := by
  refine standF_ext (fun i hi => ?_) fun j => ?_
  · rw [updF_no (by omega)]; exact standF_neg _ hi
  · by_cases e : j = U.length
    · subst e; rw [updF_at]; simp
    · rw [updF_no (by omega), standF_nat]
      by_cases h2 : j < U.length
      · rw [List.getElem?_append_left h2]
      · rw [List.getElem?_eq_none (by omega), List.getElem?_eq_none (by simp; omega)]
theorem updF_twice (F : Int → Option PGr) (i : Int) (u v : Option PGr) : updF (updF F i u) i v = updF F i v := by
  funext j
  by_cases e : j = i
  · subst e; rw [updF_at, updF_at]
  · rw [updF_no e, updF_no e, updF_no e]
theorem mkMapS (w : World) (k : Int) : (Instr.makeMap 83 (some (.int .i64 k))).run Try.prog w = .ok (.map (some w.heap.size)) (w.alloc (.map #[] 0)) := by
  kernel_rfl
theorem Stood.fresh (R : How) (w : World) : Stood R (w.alloc (.map #[] 0)) w.heap.size 0 (fun _ => Option.none) (standF []) :=
  ⟨MapG.new w, MapN.new w, fun i hi => rfl, fun i x hx => by rw [standF_nil] at hx; cases hx⟩
set_option maxHeartbeats 3200000 in
theorem stand_any (a : Option Addr) (cap : Nat) (U : List PGr) (w : World) (hr : RdGs GN w a U) (hl : U.length ≤ 1048576) :
    Calls Try.prog 54 #[.slice a U.length cap] w fun e w' => (∃ M, e = .returned (.map (some M)) ∧ w.heap.size ≤ M ∧ ∃ n g, n ≤ U.length ∧ Stood GN w' M n g (standF U)) ∧ Below w.heap.size w w' := by
  have HR : Hid (RdGs GN w a U) := hr
  have hmm := mkMapS
  clear hr
  go_enter Try.func54, Try.ntmps54
  go_wp2
  clear hmm
  go_loopw [11] (fun i w' => ∃ (k n : Nat) (g : Int → Option Value), i = .int .i64 k ∧ k ≤ U.length ∧ n ≤ k ∧ Stood GN w' w.heap.size n g (standF (U.take k)) ∧ Below w.heap.size w w') (fun i _ => U.length - (intOf i).toNat)
  case atStart => exact ⟨0, 0, _, rfl, Nat.zero_le _, Nat.le_refl _, Stood.fresh GN w, Go.Joins.below_alloc1 w _⟩
  case round =>
    obtain ⟨k, n, g, rfl, hk, hn, hS, hB⟩ := hrel
    have HS : Hid (Stood GN wr w.heap.size n g (standF (U.take k)) ∧ n ≤ k) := ⟨hS, hn⟩
    have HB : Hid (Below w.heap.size w wr) := hB
    clear hS hB hn
    by_cases hlt : k < U.length
    · have hlt' : (k : Int) < (U.length : Int) := by omega
      obtain ⟨b, off, rfl, hb, ka, kc, ad, cp, hat⟩ := (HR.out.below stays_gn HB.out).get hlt
      have x0 := hat.c0
      have x1 := hat.c1
      have x2 := hat.c2
      have x3 := hat.c3
      have x4 := hat.c4
      have HA : Hid (GN wr ka (nthG U k).key ad cp (nthG U k).P) := hat.reads
      clear hat
      go_wp2_with (at_mapUpdate; refine wp_updateN _ rfl _ _ _ 83 rfl 3 67 IntK (asked_int Try.underlying3) Try.underlying83 w.heap.size n g rfl (HS.out.1.map.alloc _) (HS.out.1.num.alloc _) (k : Int) (.agg #[.int .i64 (nthG U k).n, .slice ka (nthG U k).key.length kc, .int .i64 (nthG U k).b, .int .i64 (nthG U k).t, .slice ad (nthG U k).P.length cp]) rfl rfl ?_)
      intro w3 n3 hm3 hn3 hle3 hg3 hs3
      have hB1 := Go.Joins.below_alloc1 wr (.cells #[.int .i64 (nthG U k).n, .slice ka (nthG U k).key.length kc, .int .i64 (nthG U k).b, .int .i64 (nthG U k).t, .slice ad (nthG U k).P.length cp] 67)
      have hw3 : Below w.heap.size w w3 := (grow_on HB.out hB1).grown hg3 (by have := HB.out.size; have := hB1.size; omega) (fun j e => by have h : w.heap.size = j := Option.some.inj e; omega)
      have HW3 : Hid (Below w.heap.size w w3 ∧ n3 ≤ k + 1) := ⟨hw3, by have := HS.out.2; omega⟩
      have HS3 : Hid (Stood GN w3 w.heap.size n3 (updG g (k : Int) (some (.agg #[.int .i64 (nthG U k).n, .slice ka (nthG U k).key.length kc, .int .i64 (nthG U k).b, .int .i64 (nthG U k).t, .slice ad (nthG U k).P.length cp]))) (standF (U.take (k + 1)))) := by
        rw [← standF_up hlt]
        exact (HS.out.1.grow stays_gn hB1).put up_gn hm3 hn3 hg3 ⟨ka, kc, ad, cp, rfl, stays_gn _ _ _ _ _ _ _ HA.out hB1⟩
      clear hm3 hn3 hle3 hg3 hs3 hB1 hw3 x0 x1 x2 x3 x4
      go_wp2
      go_roundw
      case rel => exact ⟨k + 1, n3, _, by go_num, by omega, HW3.out.2, HS3.out, HW3.out.1⟩
      case measure => simp [intOf]; omega
    · have hge : ¬ (k : Int) < (U.length : Int) := by omega
      have hkk : k = U.length := by omega
      have HF : Hid (Stood GN wr w.heap.size n g (standF U) ∧ n ≤ U.length) := by
        have h := HS.out
        rw [hkk, List.take_length] at h
        exact h
      clear hkk
      go_wp2
      go_ret
      have hR := HF.out
      exact ⟨⟨_, rfl, Nat.le_refl _, n, hR.2, g, hR.1⟩, HB.out⟩
end Go.Proofs.Ytgncimlojbnbfaa.GpSt
