/-
  PROVED: impl.withSlot puts a slot ahead of the first of a greater number; what the slots and the chains come to when an alarm is put in.
-/
import Derived.Test.YtcopckbpflmmeaaPrtQ
import Derived.Test.YtcopckbpflmmeaaPrtC
import Derived.Test.YtcopckbpflmmeaaPrtI
import Derived.Deep.RegionHeld3
namespace Go.Proofs.Ytcopckbpflmmeaa.PrtR
open Go.RowKit
open Go.Proofs.Ytcopckbpflmmeaa.Labs Go.Proofs.Ytcopckbpflmmeaa.LabS Go.Proofs.Ytcopckbpflmmeaa.Alms Go.Proofs.Ytcopckbpflmmeaa.AlmM Go.Proofs.Ytcopckbpflmmeaa.Over Go.Proofs.Ytcopckbpflmmeaa.Blk Go.Proofs.Ytcopckbpflmmeaa.App Go.Proofs.Ytcopckbpflmmeaa.Rws Go.Proofs.Ytcopckbpflmmeaa.ChnI Go.Proofs.Ytcopckbpflmmeaa.ChnC Go.Proofs.Ytcopckbpflmmeaa.ChnP Go.Proofs.Ytcopckbpflmmeaa.ChnK Go.Proofs.Ytcopckbpflmmeaa.Chs Go.Proofs.Ytcopckbpflmmeaa.Prt Go.Proofs.Ytcopckbpflmmeaa.PrtO Go.Proofs.Ytcopckbpflmmeaa.PrtF Go.Proofs.Ytcopckbpflmmeaa.PrtC Go.Proofs.Ytcopckbpflmmeaa.PrtH Go.Proofs.Ytcopckbpflmmeaa.PrtL Go.Proofs.Ytcopckbpflmmeaa.PrtN Go.Proofs.Ytcopckbpflmmeaa.PrtQ Go.Proofs.Ytcopckbpflmmeaa.Mps
open Go.Proofs.Ytcopckbpflmmeaa.PrtI (shG_first shG_miss cntF_zero)
open Go.Proofs.Ytcopckbpflmmeaa.Fing (fingerB)
set_option linter.unusedVariables false

theorem moved_map {ι : Type} {enc : ι → Value} {w w' : World} {b : Nat} {g : ι → Option Value} (hm : MapG enc w b g) (hg : w.grownBy w' (some b)) : Moved w w' := ⟨fun h => blk_map h hm hg, fun h => blk_map h hm hg⟩
set_option maxHeartbeats 800000 in
theorem withSlot_any (Ms : Nat) (ks : List (Int × Int)) (x : Int × Int) (sc : Array Value) (w : World) (hS : Blk w Ms sc 113) (hsc : sc.toList = flatK ks) (hl : ks.length ≤ 1048576) :
    Calls Try.prog 81 #[.slice (some ⟨Ms, 0, none⟩) ks.length ks.length, .agg #[.int .i64 x.1, .int .i64 x.2]] w fun e w' => (∃ M c, e = .returned (.slice (some ⟨M, 0, none⟩) (ks.length + 1) c) ∧ SlotL w' M (ks.take (gtO ks x.1 ks.length) ++ x :: ks.drop (gtO ks x.1 ks.length))) ∧ Below w.heap.size w w' := by
  have HR : Hid (Blk w Ms sc 113 ∧ sc.toList = flatK ks) := ⟨hS, hsc⟩
  clear hS hsc
  go_enter Try.func81, Try.ntmps81
  go_wp2_with fail
  obtain ⟨W0, hW0⟩ : ∃ W0, w.alloc (.cells #[.int .i64 x.1, .int .i64 x.2] 113) = W0 := ⟨_, rfl⟩
  have H0 : Hid (Below w.heap.size w W0 ∧ Blk W0 w.heap.size #[.int .i64 x.1, .int .i64 x.2] 113) := by rw [← hW0]; exact ⟨Go.Joins.below_alloc1 w _, Blk.new _ _ _⟩
  try rw [hW0]
  clear hW0
  refine (indexS_any Ms ks.length w.heap.size ks x.1 W0 (slot_of (r := []) (HR.out.1.grow H0.out.1) (by rw [HR.out.2]; simp)) (H0.out.2.cell 0) hl).mono ?_
  rintro e w2 ⟨⟨y, rfl, hy⟩, hb2⟩
  have HB2 : Hid (Below W0.heap.size W0 w2) := hb2
  have HY : Hid ((y = -1 ∧ gtO ks x.1 ks.length = ks.length) ∨ (y = (gtO ks x.1 ks.length : Int) ∧ gtO ks x.1 ks.length < ks.length)) := hy
  have q0 : w2.cell? ⟨w.heap.size, 0, none⟩ = some (.int .i64 x.1) := (H0.out.2.grow hb2).cell 0
  have q1 : w2.cell? ⟨w.heap.size, 1, none⟩ = some (.int .i64 x.2) := (H0.out.2.grow hb2).cell 1
  have HI : Hid (∀ i : Nat, i ≤ ks.length → Calls Try.prog 115 #[.slice (some ⟨Ms, 0, none⟩) ks.length ks.length, .int .i64 i, .slice (some ⟨w2.heap.size, 0, none⟩) 1 1] (w2.alloc (.cells #[.int .i64 x.1, .int .i64 x.2] 113)) fun e w' => (∃ M c, e = .returned (.slice (some ⟨M, 0, none⟩) (ks.length + 1) c) ∧ SlotL w' M (ks.take i ++ x :: ks.drop i)) ∧ Below w2.heap.size w2 w') := fun i hi => (insertS_any Ms w2.heap.size ks x i sc _ (((HR.out.1.grow H0.out.1).grow HB2.out).alloc _) HR.out.2 (Blk.new _ _ _) hi hl).mono fun e w' h => ⟨h.1, grow_on (Go.Joins.below_alloc1 w2 _) h.2⟩
  clear hb2 hy
  rcases HY.out with ⟨hy1, hy2⟩ | ⟨hy1, hy2⟩
  · have HG : Hid (gtO ks x.1 ks.length = ks.length) := hy2
    subst hy1
    clear hy2
    go_wp2_with fail
    refine (HI.out ks.length (Nat.le_refl _)).mono ?_
    rintro e w3 ⟨⟨M, c, rfl, hs⟩, hb3⟩
    have H3 : Hid (SlotL w3 M (ks.take (gtO ks x.1 ks.length) ++ x :: ks.drop (gtO ks x.1 ks.length)) ∧ Below w.heap.size w w3) := ⟨by rw [HG.out]; exact hs, grow_on (grow_on H0.out.1 HB2.out) hb3⟩
    clear hs hb3
    go_wp2
    go_ret
    exact ⟨⟨M, c, rfl, H3.out.1⟩, H3.out.2⟩
  · have HG : Hid (y = (gtO ks x.1 ks.length : Int) ∧ gtO ks x.1 ks.length < ks.length) := ⟨hy1, hy2⟩
    subst hy1
    have hge : ¬ (gtO ks x.1 ks.length : Int) < 0 := by omega
    clear hy2
    go_wp2_with fail
    refine (HI.out _ (Nat.le_of_lt HG.out.2)).mono ?_
    rintro e w3 ⟨⟨M, c, rfl, hs⟩, hb3⟩
    have H3 : Hid (SlotL w3 M (ks.take (gtO ks x.1 ks.length) ++ x :: ks.drop (gtO ks x.1 ks.length)) ∧ Below w.heap.size w w3) := ⟨hs, grow_on (grow_on H0.out.1 HB2.out) hb3⟩
    clear hs hb3
    go_wp2
    go_ret
    exact ⟨⟨M, c, rfl, H3.out.1⟩, H3.out.2⟩

def keysC (C : List PCh) : List (Int × Int) := (List.range C.length).map (keyC C)
theorem keys_len (C : List PCh) : (keysC C).length = C.length := by simp [keysC]
theorem keys_nth {C : List PCh} {i : Nat} (h : i < C.length) : nthK (keysC C) i = keyC C i := by rw [nthK_eq (by rw [keys_len]; exact h)]; simp [keysC]
theorem slots_flat {w : World} {M : Nat} {C : List PCh} {cs : Array Value} (h : SlotsK w M C C.length cs) : cs.toList = flatK (keysC C) := by
  have hs := h.size
  apply List.ext_getElem?
  intro j
  by_cases hj : j < C.length * 2
  · obtain ⟨i, r, hi, hr, e⟩ : ∃ i r, i < C.length ∧ r < 2 ∧ j = i * 2 + r := ⟨j / 2, j % 2, by omega, Nat.mod_lt _ (by omega), by omega⟩
    obtain ⟨a0, a1⟩ := h.cell i hi
    obtain ⟨b0, b1⟩ := flatK_get (keysC C) i (by rw [keys_len]; exact hi)
    rw [keys_nth hi] at b0 b1
    subst e
    have hc : ∀ k : Nat, cs.toList[k]? = cs[k]? := fun k => by simp
    match r, hr with
    | 0, _ => rw [hc]; exact a0.trans b0.symm
    | 1, _ => rw [hc]; exact a1.trans b1.symm
  · rw [List.getElem?_eq_none (by rw [Array.length_toList, hs]; omega), List.getElem?_eq_none (by rw [flatK_len, keys_len]; omega)]
theorem gt_pos {C : List PCh} {f : Int} (h : ∀ j, j < C.length → (nthC C j).f ≠ f) : ∀ {k : Nat}, k ≤ C.length → gtO (keysC C) f k = posTo C f k
  | 0, _ => rfl
  | k + 1, hk => by
    have ih := gt_pos h (k := k) (by omega)
    have hne := h k (by omega)
    rw [gtO, posTo, ih, keys_nth (by omega)]
    have e : (keyC C k).1 = (nthC C k).f := rfl
    rw [e]
    by_cases q : posTo C f k = k
    · by_cases q2 : (nthC C k).f < f
      · rw [if_pos ⟨q, by omega⟩, if_pos ⟨q, q2⟩]
      · rw [if_neg (fun x => by have := x.2; omega), if_neg (fun x => q2 x.2)]
    · rw [if_neg (fun x => q x.1), if_neg (fun x => q x.1)]
theorem gt_posB {C : List PCh} {f : Int} (h : ∀ j, j < C.length → (nthC C j).f ≠ f) : gtO (keysC C) f (keysC C).length = posB C f := by rw [keys_len]; exact gt_pos h (Nat.le_refl _)
theorem laid_somes (l : List PCh) : laidTo (l.map some) (l.map some).length = l := by
  unfold laidTo
  rw [List.take_length]
  induction l with
  | nil => rfl
  | cons x l ih => simp
theorem somes_nth {l : List PCh} {i : Nat} (h : i < l.length) : nthV (l.map some) i = some (nthC l i) := by rw [nthV_eq (by simpa using h), nthC_eq h]; simp
theorem ent_other {W0 u : World} {C : List PCh} {ad : Nat → Option Addr} {cp : Nat → Nat} {i : Nat} (hr : RdA W0 (ad i) (nthC C i).P) (hb : Below W0.heap.size W0 u) {o : Option Value} (ho : o = some (chV (nthC C i) (ad i) (cp i))) : Ent u o (some (nthC C i)) := ⟨ad i, cp i, ho, hr.below hb⟩
theorem put_small {P : List PAl} {x : PAl} (h : P.length + 1 ≤ 1048576) (hs : LenM P) (hx : x.l.length ≤ 1048576) : (putL P x).length ≤ 1048576 ∧ LenM (putL P x) := by
  refine ⟨by have := (put_sum P x).2; omega, fun j hj => ?_⟩
  have hm : nthP (putL P x) j ∈ putL P x := by rw [nthP_eq hj]; exact List.getElem_mem _
  generalize nthP (putL P x) j = y at hm ⊢
  have hin : y ∈ P → y.l.length ≤ 1048576 := fun hm => by
    obtain ⟨q, hq, e⟩ := List.getElem_of_mem hm
    have := hs q hq
    rw [nthP_eq hq, e] at this
    exact this
  rcases idxTo_cases P x.l P.length with hq | ⟨k, h0, h1, h2⟩
  · rw [(put_miss hq).1] at hm
    rcases List.mem_append.1 hm with hm | hm
    · exact hin hm
    · rw [List.mem_singleton.1 hm]; exact hx
  · rw [(put_hit h2 h1 h0).1] at hm
    rcases List.mem_or_eq_of_mem_set hm with hm | hm
    · exact hin hm
    · rw [hm]; exact hx
theorem bel_alloc {z w : World} (h : Below z.heap.size z w) (o : Obj) : Below z.heap.size z (w.alloc o) := h.alloc h.size o
/-- what the chain that is put into, and all others, come to -/
structure Plan (C : List PCh) (x : PAl) (C' : List PCh) (ks : List (Int × Int)) (Fc : Int) (Pc : List PAl) : Prop where
  len : ks.length = C'.length
  all : C' = putC C x
  new : isNew Pc x.l = newC C x
  here : ∀ i, i < C'.length → nthK ks i = ((fingerB x.l : Int), 0) → nthC C' i = ⟨Fc, putL Pc x⟩
  lens : ∀ i, i < C'.length → (nthC C' i).P.length ≤ 1048576 ∧ LenM (nthC C' i).P
/-- every other slot's chain is as it was -/
def Others (C : List PCh) (x : PAl) (ks : List (Int × Int)) : Prop := ∀ i, i < ks.length → nthK ks i ≠ ((fingerB x.l : Int), 0) → ∃ j, j < C.length ∧ nthK ks i = keyC C j ∧ nthC (putC C x) i = nthC C j
theorem nthC_mem' {C : List PCh} {i : Nat} (h : i < C.length) : nthC C i ∈ C := by rw [nthC_eq h]; exact List.getElem_mem _
theorem ins_get {α : Type} (l : List α) (p i : Nat) (y : α) (hp : p ≤ l.length) : (l.take p ++ y :: l.drop p)[i]? = if i < p then l[i]? else if i = p then some y else l[i - 1]? := by
  have hl : (l.take p).length = p := by rw [List.length_take]; omega
  by_cases h : i < p
  · rw [if_pos h, List.getElem?_append_left (by omega), List.getElem?_take]; rw [if_pos h]
  · rw [if_neg h, List.getElem?_append_right (by omega), hl]
    by_cases e : i = p
    · rw [if_pos e, e, Nat.sub_self]; rfl
    · rw [if_neg e]
      obtain ⟨d, hd⟩ : ∃ d, i - p = d + 1 := ⟨i - p - 1, by omega⟩
      rw [hd, List.getElem?_cons_succ, List.getElem?_drop]
      congr 1; omega
theorem plan_some {C : List PCh} {x : PAl} {k : Nat} (h0 : atO C (fingerB x.l) = some k) (hk : k < C.length) (h3 : (nthC C k).f = fingerB x.l) (h4 : ∀ j, j < k → (nthC C j).f ≠ fingerB x.l) (hs : Small C) (hx : x.l.length ≤ 1048576) (hc : (nthC C k).P.length + 1 ≤ 1048576) :
    Plan C x (putC C x) (keysC C) (nthC C k).f (nthC C k).P ∧ Others C x (keysC C) := by
  obtain ⟨e1, e2⟩ := put_some h0
  have ek : keyC C k = ((fingerB x.l : Int), 0) := by unfold keyC; rw [h3, cntF_zero h4]; rfl
  have hln : (putC C x).length = C.length := by rw [e1, List.length_set]
  have hget : ∀ i, i < C.length → nthC (putC C x) i = if i = k then ⟨(nthC C k).f, putL (nthC C k).P x⟩ else nthC C i := fun i hi => by
    rw [e1, nthC_eq (by rw [List.length_set]; exact hi), List.getElem_set, nthC_eq hi]
    by_cases q : i = k
    · rw [if_pos q.symm, if_pos q]
    · rw [if_neg (fun e => q e.symm), if_neg q]
  refine ⟨⟨by rw [keys_len, hln], rfl, e2.symm, fun i hi he => ?_, fun i hi => ?_⟩, fun i hi he => ?_⟩
  · rw [hln] at hi
    rw [keys_nth hi, ← ek] at he
    rw [hget i hi, if_pos (keyC_inj he)]
  · rw [hln] at hi
    rw [hget i hi]
    by_cases q : i = k
    · rw [if_pos q]; exact put_small hc (hs _ (nthC_mem' hk)).2 hx
    · rw [if_neg q]; exact hs _ (nthC_mem' hi)
  · rw [keys_len] at hi
    rw [keys_nth hi] at he ⊢
    refine ⟨i, hi, rfl, ?_⟩
    rw [hget i hi, if_neg fun q => he (by rw [q, ek])]
theorem plan_none {C : List PCh} {x : PAl} (h0 : atO C (fingerB x.l) = none) (h2 : ∀ j, j < C.length → (nthC C j).f ≠ fingerB x.l) (hs : Small C) (hx : x.l.length ≤ 1048576) {ks : List (Int × Int)} (hks : ks = (keysC C).take (posB C (fingerB x.l)) ++ ((fingerB x.l : Int), 0) :: (keysC C).drop (posB C (fingerB x.l))) :
    Plan C x (putC C x) ks (fingerB x.l) [] ∧ Others C x ks := by
  obtain ⟨e1, e2⟩ := put_none h0
  have hp := pos_le C (fingerB x.l)
  generalize hq : posB C (fingerB x.l) = p at *
  have hln : (putC C x).length = C.length + 1 := by rw [e1]; simp; omega
  have hkl : ks.length = C.length + 1 := by rw [hks]; simp [keys_len]; omega
  have hgk : ∀ i, i < C.length + 1 → nthK ks i = if i < p then keyC C i else if i = p then ((fingerB x.l : Int), 0) else keyC C (i - 1) := fun i hi => by
    have h := ins_get (keysC C) p i ((fingerB x.l : Int), 0) (by rw [keys_len]; exact hp)
    rw [← hks, List.getElem?_eq_getElem (by omega)] at h
    rw [nthK_eq (by omega)]
    by_cases q : i < p
    · rw [if_pos q] at h ⊢
      rw [List.getElem?_eq_getElem (by rw [keys_len]; omega)] at h
      rw [← keys_nth (by omega), nthK_eq (by rw [keys_len]; omega)]; exact Option.some.inj h
    · rw [if_neg q] at h ⊢
      by_cases q2 : i = p
      · rw [if_pos q2] at h ⊢; exact Option.some.inj h
      · rw [if_neg q2] at h ⊢
        rw [List.getElem?_eq_getElem (by rw [keys_len]; omega)] at h
        rw [← keys_nth (by omega), nthK_eq (by rw [keys_len]; omega)]; exact Option.some.inj h
  have hgc : ∀ i, i < C.length + 1 → nthC (putC C x) i = if i < p then nthC C i else if i = p then ⟨fingerB x.l, [x]⟩ else nthC C (i - 1) := fun i hi => by
    have h := ins_get C p i (⟨fingerB x.l, [x]⟩ : PCh) hp
    rw [← e1, List.getElem?_eq_getElem (by omega)] at h
    rw [nthC_eq (by omega)]
    by_cases q : i < p
    · rw [if_pos q] at h ⊢
      rw [List.getElem?_eq_getElem (by omega)] at h
      rw [nthC_eq (by omega)]; exact Option.some.inj h
    · rw [if_neg q] at h ⊢
      by_cases q2 : i = p
      · rw [if_pos q2] at h ⊢; exact Option.some.inj h
      · rw [if_neg q2] at h ⊢
        rw [List.getElem?_eq_getElem (by omega)] at h
        rw [nthC_eq (by omega)]; exact Option.some.inj h
  have hput : putL [] x = [x] := (put_miss (P := []) (a := x) (fun j hj => absurd hj (by simp))).1
  have hnew : isNew [] x.l = true := (put_miss (P := []) (a := x) (fun j hj => absurd hj (by simp))).2
  have hk2 : ∀ j, j < C.length → keyC C j ≠ ((fingerB x.l : Int), 0) := fun j hj e => h2 j hj (congrArg Prod.fst e)
  refine ⟨⟨by omega, rfl, by rw [hnew, e2], fun i hi he => ?_, fun i hi => ?_⟩, fun i hi he => ?_⟩
  · rw [hln] at hi
    rw [hgk i hi] at he
    rw [hgc i hi, hput]
    by_cases q : i < p
    · rw [if_pos q] at he; exact absurd he (hk2 i (by omega))
    · rw [if_neg q] at he ⊢
      by_cases q2 : i = p
      · rw [if_pos q2]
      · rw [if_neg q2] at he; exact absurd he (hk2 (i - 1) (by omega))
  · rw [hln] at hi
    rw [hgc i hi]
    by_cases q : i < p
    · rw [if_pos q]; exact hs _ (nthC_mem' (by omega))
    · rw [if_neg q]
      by_cases q2 : i = p
      · rw [if_pos q2, ← hput]; exact put_small (P := []) (by simp) (fun j hj => absurd hj (by simp)) hx
      · rw [if_neg q2]; exact hs _ (nthC_mem' (by omega))
  · rw [hkl] at hi
    rw [hgk i hi] at he ⊢
    rw [hgc i hi]
    by_cases q : i < p
    · rw [if_pos q, if_pos q]; exact ⟨i, by omega, rfl, rfl⟩
    · rw [if_neg q] at he
      rw [if_neg q, if_neg q]
      by_cases q2 : i = p
      · rw [if_pos q2] at he; exact absurd rfl he
      · rw [if_neg q2, if_neg q2]; exact ⟨i - 1, by omega, rfl, rfl⟩
theorem slot_kept {w w' : World} {M : Nat} {ks : List (Int × Int)} (h : SlotL w M ks) (hb : ∀ {cs : Array Value}, Blk w M cs 113 → Blk w' M cs 113) : SlotL w' M ks := by
  obtain ⟨cs, h1, h2⟩ := h
  exact ⟨cs, hb h1, h2⟩
end Go.Proofs.Ytcopckbpflmmeaa.PrtR
