/-
  PROVED: impl.withSlot gives the slots with one more, ahead of the first of a greater number, in memory of their own where there was no room; nothing that was there is changed.
-/
import Derived.Test.YtooninmicfcfoaaGreatQPrtL
import Derived.Lib.AppendZerosOnto
import Derived.Laws.CopyRow
import Derived.Deep.RegionLaw
set_option linter.unusedVariables false
namespace Go.Proofs.YtooninmicfcfoaaGreat.PrtN
open Go.RowKit
open Labs LabS Alms Over Blk App Chs Prt PrtH PrtL Mps

theorem run_copy_sub {P : Program} (w : World) (dT sT ty elem : TypeId) (k g o dn dc : Nat) (ad : Addr) (sn sc m : Nat) (cur : Array Value) (t : TypeId) (cs : List Value)
    (hu : P.underlying dT = some (.slice elem)) (hs : (P.info? elem).map (·.size) = some k) (hg : Blk w g cur t) (hm : Nat.min sn dn = m) (hcs : cs.length = m * k) (hfit : o + cs.length ≤ cur.size)
    (hsrc : ∀ j v, cs[j]? = some v → w.cell? (ad.add j) = some v) (h1 : ∀ v ∈ cs, v.oneCell' = true) :
    (Builtin.copy_ #[dT, sT] ty #[.slice (some ⟨g, o, none⟩) dn dc, .slice (some ad) sn sc]).run P w = .ok (goInt m) (w.setRow g (cur.toList.take o ++ cs ++ cur.toList.drop (o + cs.length)).toArray) := by
  have hg' : w.heap[g]? = some (.cells cur t (0, 0)) := hg
  have hst := run_storeCells_at P g o t cs 0 cur w hg' (by omega) h1
  simp only [Nat.add_zero] at hst
  have hfc : (Builtin.firstCells k m (.slice (some ad) sn sc)).run P w = .ok cs.toArray w := run_firstCells_some (P := P) (w := w) _ _ _ _ _ _ hcs hsrc
  cases hq : P.info? elem with
  | none => simp [hq] at hs
  | some i =>
    have hi : i.size = k := by simpa [hq] using hs
    simp [Builtin.copy_, run_underlying hu, Builtin.lenOf, sizeOf, typeInfo, hq, hi, hm, hfc, hst]
theorem step_copy {P : Program} {ops : Array Oper} {o : Oper} {a : Act} {w : World} {K : Act → World → Prop} {Q : Exit → Act → World → Prop} {E : Prop} (hg : o.guard = none) (d x : Operand) (dT sT : TypeId)
    (hop : o.op = .call { callee := .builtin .copy, args := #[d, x], argTypes := #[dT, sT] }) (v u : Value) (hd : a.eval d = v) (hx : a.eval x = u) {v' : Value} {w' : World}
    (hr : (Builtin.copy_ #[dT, sT] o.type #[v, u]).run P w = .ok v' w') (hK : K (a.put o.dst v') w') : if Region.wanted o (yielded ops a.tmps) = true then Oper.wp P o a w K Q else E := by
  have hw : Region.wanted o (yielded ops a.tmps) = true := by simp [Region.wanted, hg]
  rw [if_pos hw]
  unfold Oper.wp
  simp [execOp, hop, resolve, invoke, builtin, hd, hx, hr, Result.andThen]
  exact hK
def flatK : List (Int × Int) → List Value
  | [] => []
  | x :: ks => .int .i64 x.1 :: .int .i64 x.2 :: flatK ks
theorem flatK_len : ∀ ks : List (Int × Int), (flatK ks).length = ks.length * 2
  | [] => rfl
  | x :: ks => by simp [flatK, flatK_len ks]; omega
theorem flatK_app : ∀ (p q : List (Int × Int)), flatK (p ++ q) = flatK p ++ flatK q
  | [], q => rfl
  | x :: p, q => by simp [flatK, flatK_app p q]
theorem flatK_one : ∀ (ks : List (Int × Int)), ∀ v ∈ flatK ks, v.oneCell' = true
  | [], v, hv => by simp [flatK] at hv
  | x :: ks, v, hv => by
    simp only [flatK, List.mem_cons] at hv
    rcases hv with rfl | rfl | hv
    · rfl
    · rfl
    · exact flatK_one ks v hv
theorem flatK_get : ∀ (ks : List (Int × Int)) (i : Nat), i < ks.length → (flatK ks)[i * 2]? = some (.int .i64 (nthK ks i).1) ∧ (flatK ks)[i * 2 + 1]? = some (.int .i64 (nthK ks i).2)
  | [], i, h => by simp at h
  | x :: ks, 0, h => by simp [flatK, nthK]
  | x :: ks, i + 1, h => by
    have ih := flatK_get ks i (by simpa using h)
    have e1 : (i + 1) * 2 = i * 2 + 2 := by omega
    have e2 : (i + 1) * 2 + 1 = i * 2 + 1 + 2 := by omega
    have e3 : nthK (x :: ks) (i + 1) = nthK ks i := by simp [nthK]
    rw [e1, show i * 2 + 2 + 1 = i * 2 + 1 + 2 by omega, e3]
    simpa [flatK] using ih
theorem flatK_take (ks : List (Int × Int)) {i : Nat} (h : i ≤ ks.length) : flatK (ks.take i) = (flatK ks).take (i * 2) := by
  have e := flatK_app (ks.take i) (ks.drop i)
  rw [List.take_append_drop] at e
  have hl : (flatK (ks.take i)).length = i * 2 := by rw [flatK_len, List.length_take]; omega
  rw [e, ← hl, List.take_left]
theorem flatK_drop (ks : List (Int × Int)) {i : Nat} (h : i ≤ ks.length) : flatK (ks.drop i) = (flatK ks).drop (i * 2) := by
  have e := flatK_app (ks.take i) (ks.drop i)
  rw [List.take_append_drop] at e
  have hl : (flatK (ks.take i)).length = i * 2 := by rw [flatK_len, List.length_take]; omega
  rw [e, ← hl, List.drop_left]
theorem slot_of {w : World} {M : Nat} {cs : Array Value} {ks : List (Int × Int)} {r : List Value} (h : Blk w M cs 94) (e : cs.toList = flatK ks ++ r) : SlotL w M ks := by
  have hl := flatK_len ks
  have hat : ∀ j, j < ks.length * 2 → cs[j]? = (flatK ks)[j]? := fun j hj => by
    have : cs[j]? = cs.toList[j]? := by simp
    rw [this, e, List.getElem?_append_left (by omega)]
  refine ⟨cs, h, ?_, fun i hi => ?_⟩
  · have := congrArg List.length e
    simp at this
    omega
  · obtain ⟨h0, h1⟩ := flatK_get ks i hi
    exact ⟨(hat _ (by omega)).trans h0, (hat _ (by omega)).trans h1⟩
def gtO (ks : List (Int × Int)) (f : Int) : Nat → Nat
  | 0 => 0
  | k + 1 => if gtO ks f k = k ∧ (nthK ks k).1 ≤ f then k + 1 else gtO ks f k
theorem gt_all {ks : List (Int × Int)} {f : Int} : ∀ {k : Nat}, (∀ j, j < k → (nthK ks j).1 ≤ f) → gtO ks f k = k
  | 0, _ => rfl
  | k + 1, h => by rw [gtO, gt_all (fun j hj => h j (by omega)), if_pos ⟨rfl, h k (by omega)⟩]
theorem gt_at {ks : List (Int × Int)} {f : Int} {i : Nat} (h : ∀ j, j < i → (nthK ks j).1 ≤ f) (hi : f < (nthK ks i).1) : ∀ {k : Nat}, i < k → gtO ks f k = i
  | 0, q => by omega
  | k + 1, q => by
    by_cases e : i = k
    · subst e
      rw [gtO, gt_all h, if_neg (fun x => by have := x.2; omega)]
    · have := gt_at h hi (k := k) (by omega)
      rw [gtO, this, if_neg (fun x => by omega)]
theorem clos_any (b0 : Nat) (x y f : Int) (w : World) (hc : w.cell? ⟨b0, 0, none⟩ = some (.int .i64 f)) :
    Calls Tryz.prog 123 #[.agg #[.int .i64 x, .int .i64 y], .pointer (some ⟨b0, 0, none⟩)] w fun e w' => e = .returned (.bool (decide (f < x))) ∧ Below w.heap.size w w' := by
  have hb : b0 < w.heap.size := World.block_lt_of_cell? w _ hc
  have hc1 : (w.alloc (.cells #[.int .i64 x, .int .i64 y] 94)).cell? ⟨b0, 0, none⟩ = some (.int .i64 f) := ((Go.Joins.below_alloc1 w _).cell (p := ⟨b0, 0, none⟩) hb).trans hc
  go_enter Tryz.func123, Tryz.ntmps123
  go_wp2
  go_ret
  exact ⟨by simp, Go.Joins.below_alloc1 w _⟩
set_option maxHeartbeats 800000 in
theorem indexS_any (Ms c b0 : Nat) (ks : List (Int × Int)) (f : Int) (w : World) (hs : SlotL w Ms ks) (hc : w.cell? ⟨b0, 0, none⟩ = some (.int .i64 f)) (hl : ks.length ≤ 1048576) :
    Calls Tryz.prog 161 #[.slice (some ⟨Ms, 0, none⟩) ks.length c, .func (.func 123) #[] #[.pointer (some ⟨b0, 0, none⟩)]] w fun e w' => (∃ x : Int, e = .returned (.int .i64 x) ∧ ((x = -1 ∧ gtO ks f ks.length = ks.length) ∨ (x = (gtO ks f ks.length : Int) ∧ gtO ks f ks.length < ks.length))) ∧ Below w.heap.size w w' := by
  have HR : Hid (SlotL w Ms ks ∧ w.cell? ⟨b0, 0, none⟩ = some (.int .i64 f)) := ⟨hs, hc⟩
  have hb0 : b0 < w.heap.size := World.block_lt_of_cell? w _ hc
  clear hs hc
  go_enter Tryz.func161, Tryz.ntmps161
  go_wp2
  go_loopw [8] (fun i w' => ∃ k : Nat, i = .int .i64 k ∧ k ≤ ks.length ∧ (∀ j, j < k → (nthK ks j).1 ≤ f) ∧ Below w.heap.size w w') (fun i _ => ks.length - (intOf i).toNat)
  case atStart => exact ⟨0, rfl, Nat.zero_le _, fun j h => by omega, Below.refl _ _⟩
  case round =>
    obtain ⟨k, rfl, hk, hu, hw⟩ := hrel
    have HU : Hid (∀ j, j < k → (nthK ks j).1 ≤ f) := hu
    have HB : Hid (Below w.heap.size w wr) := hw
    clear hu hw
    by_cases hlt : k < ks.length
    · have hlt' : (k : Int) < (ks.length : Int) := by omega
      obtain ⟨sc, hs1, hs2, hs3⟩ := HR.out.1.grow HB.out
      obtain ⟨k0, k1⟩ := hs3 k hlt
      have x0 : wr.cell? ⟨Ms, k * 2, none⟩ = some (.int .i64 (nthK ks k).1) := (hs1.cell _).trans k0
      have x1 : wr.cell? ⟨Ms, k * 2 + 1, none⟩ = some (.int .i64 (nthK ks k).2) := (hs1.cell _).trans k1
      have HC1 : Hid (Calls Tryz.prog 123 #[.agg #[.int .i64 (nthK ks k).1, .int .i64 (nthK ks k).2], .pointer (some ⟨b0, 0, none⟩)] wr fun e w' => e = .returned (.bool (decide (f < (nthK ks k).1))) ∧ Below wr.heap.size wr w') := clos_any b0 _ _ f wr ((HB.out.cell (p := ⟨b0, 0, none⟩) hb0).trans HR.out.2)
      clear hs1 hs2 hs3 k0 k1 sc
      by_cases he : f < (nthK ks k).1
      · have HY : Hid (gtO ks f ks.length = k) := gt_at HU.out he hlt
        have hd : decide (f < (nthK ks k).1) = true := decide_eq_true he
        clear he
        go_wp2_with fail
        refine HC1.out.mono ?_
        rintro e w1 ⟨rfl, hb1⟩
        have HB1 : Hid (Below w.heap.size w w1) := grow_on HB.out hb1
        clear hb1
        go_wp2
        go_ret
        exact ⟨⟨_, rfl, .inr ⟨by rw [HY.out], by rw [HY.out]; exact hlt⟩⟩, HB1.out⟩
      · have HU1 : Hid (∀ j, j < k + 1 → (nthK ks j).1 ≤ f) := fun j hj => by
          by_cases e : j = k
          · subst e; omega
          · exact HU.out j (by omega)
        have hd : decide (f < (nthK ks k).1) = false := decide_eq_false he
        clear he
        go_wp2_with fail
        refine HC1.out.mono ?_
        rintro e w1 ⟨rfl, hb1⟩
        have HB1 : Hid (Below w.heap.size w w1) := grow_on HB.out hb1
        clear hb1
        go_wp2
        go_roundw
        case rel => exact ⟨k + 1, by go_num, by omega, HU1.out, HB1.out⟩
        case measure => simp [intOf]; omega
    · have hge : ¬ (k : Int) < (ks.length : Int) := by omega
      have HY : Hid (gtO ks f ks.length = ks.length) := gt_all fun j hj => HU.out j (by omega)
      go_wp2
      go_ret
      exact ⟨⟨_, rfl, .inl ⟨rfl, HY.out⟩⟩, HB.out⟩
end Go.Proofs.YtooninmicfcfoaaGreat.PrtN
