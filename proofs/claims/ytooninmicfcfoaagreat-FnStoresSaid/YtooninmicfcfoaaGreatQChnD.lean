/-
  PROVED: over a chain and an alarm in memory impl.PutChain answers as a plain function on lists says, in memory of its own; nothing that was there is changed.
  PROVED: over a chain in memory impl.DropOver answers as two plain functions on lists say, in memory of its own; nothing that was there is changed.
-/
import Derived.Test.YtooninmicfcfoaaGreatQChnC
set_option linter.unusedVariables false
namespace Go.Proofs.YtooninmicfcfoaaGreat.ChnP
open Go.RowKit
open Labs LabS Alms AlmM Over Blk App Rws ChnI ChnC

theorem chain_alarm {w : World} {a b : Nat} {cs ds : Array Value} (h : Blk w a cs 96) (k : Blk w b ds 29) : a ≠ b := fun e => by
  subst e
  unfold Blk at h k
  rw [h] at k
  injection k with k
  injection k with _ k
  exact absurd k (by decide)
theorem chain_label {w : World} {a b : Nat} {cs ds : Array Value} (h : Blk w a cs 96) (k : Blk w b ds 127) : a ≠ b := fun e => by
  subst e
  exact blkC_ne h k
theorem ab_set2 {lo : Nat} {w : World} {M c N : Nat} {rs : List ARow} {cs : Array Value} (h : AB lo w M c rs) (hN : Blk w N cs 96) (v0 v1 : Value) : AB lo ((w.setCell ⟨N, 0, none⟩ v0).setCell ⟨N, 1, none⟩ v1) M c rs :=
  ab_moved h (fun k => (k.set_other (chain_alarm hN k) _).set_other (chain_alarm hN k) _) (fun k => (k.set_other (chain_label hN k) _).set_other (chain_label hN k) _)
theorem ab_set1 {lo : Nat} {w : World} {M c N : Nat} {rs : List ARow} {cs : Array Value} (h : AB lo w M c rs) (hN : Blk w N cs 96) (i : Nat) (v : Value) : AB lo (w.setCell ⟨N, i, none⟩ v) M c rs :=
  ab_moved h (fun k => k.set_other (chain_alarm hN k) _) (fun k => k.set_other (chain_label hN k) _)
theorem retC {M n n' c : Nat} {f : Int} {b b' : Bool} (h : n = n') (hb : b = b') : Ending.returned (.tuple #[.agg #[.int .i64 f, .slice (some ⟨M, 0, none⟩) n c], .bool b]) = .returned (.tuple #[.agg #[.int .i64 f, .slice (some ⟨M, 0, none⟩) n' c], .bool b']) := by rw [h, hb]
set_option maxRecDepth 100000 in
set_option maxHeartbeats 2000000 in
theorem implPut_any (f : Int) (a : Option Addr) (cap : Nat) (P : List PAl) (g o cap' : Nat) (x : PAl) (w : World) (hr : RdA w a P) (hx : Reads w (some ⟨g, o, none⟩) x.l) (hl : P.length ≤ 1048576) (hs : LenM P) (hxl : x.l.length ≤ 1048576) :
    Calls Tryz.prog 67 #[.agg #[.int .i64 f, .slice a P.length cap], .agg #[.slice (some ⟨g, o, none⟩) x.l.length cap', .int .i64 x.s, .int .i64 x.e, .string x.n]] w fun e w' => (∃ M c rs, e = .returned (.tuple #[.agg #[.int .i64 f, .slice (some ⟨M, 0, none⟩) rs.length c], .bool (isNew P x.l)]) ∧ AB w.heap.size w' M c rs ∧ pals rs = putL P x) ∧ Below w.heap.size w w' := by
  have HR : Hid (RdA w a P ∧ Reads w (some ⟨g, o, none⟩) x.l) := ⟨hr, hx⟩
  have HS : Hid (LenM P ∧ x.l.length ≤ 1048576) := ⟨hs, hxl⟩
  clear hr hx hs hxl
  obtain ⟨i0, hi, hz0, hz1, hz2⟩ := info_parts infoA
  go_enter Tryz.func67, Tryz.ntmps67
  go_wp2_with fail
  refine (implCopy_any f a cap P _ (HR.out.1.below (Alm.below3 w _ _ _)) hl HS.out.1).mono ?_
  rintro e w1 ⟨⟨M, rs, rfl, hAB, hP⟩, hb⟩
  have C1 : Hid (Blk w1 w.heap.size #[.int .i64 f, .slice a P.length cap] 96) := (((Blk.new _ _ _).alloc _).alloc _).grow hb
  have A1 : Hid (Blk w1 (w.heap.size + 1) #[.slice (some ⟨g, o, none⟩) x.l.length cap', .int .i64 x.s, .int .i64 x.e, .string x.n] 29) := ((Blk.new_at (by simp)).alloc _).grow hb
  have R1 : Hid (Blk w1 (w.heap.size + 1 + 1) #[.int .i64 0, .slice none 0 0] 96) := (Blk.new_at (by simp)).grow hb
  have HB1 : Hid (Below w.heap.size w w1) := grow_on (Alm.below3 w _ _ _) hb
  have HAB1 : Hid (AB w.heap.size w1 M P.length rs) := hAB.down (by simp; omega)
  have HM : Hid (w.heap.size + 3 ≤ M) := by have := hAB.at'; simp at this; exact this
  have HP : Hid (pals rs = P) := hP
  have HRl : Hid (rs.length = P.length) := by show _ = _; rw [← pals_len, hP]
  clear hb hAB hP
  generalize hDo : Obj.cells #[.int .i64 f, .slice (some ⟨M, 0, none⟩) P.length P.length] 96 = Do
  have cC0 : (w1.alloc Do).cell? ⟨w.heap.size, 0, none⟩ = some (.int .i64 f) := (C1.out.alloc _).cell 0
  have cC1 : (w1.alloc Do).cell? ⟨w.heap.size, 1, none⟩ = some (.slice a P.length cap) := (C1.out.alloc _).cell 1
  have cA0 : (w1.alloc Do).cell? ⟨w.heap.size + 1, 0, none⟩ = some (.slice (some ⟨g, o, none⟩) x.l.length cap') := (A1.out.alloc _).cell 0
  subst hDo
  rcases idx_cases P x.l with ⟨hq, hm⟩ | ⟨k, hq, hk, he, hj⟩
  · have HN : Hid (true = isNew P x.l) := (put_miss hm).2.symm
    have HPP : Hid (∀ M c, pals (rs ++ [(M, c, x)]) = putL P x) := fun M c => by rw [pals_app, HP.out, (put_miss hm).1]
    clear hm
    have HI : Hid (∀ y, Below w1.heap.size w1 y → Calls Tryz.prog 74 #[.agg #[.int .i64 f, .slice a P.length cap], .slice (some ⟨g, o, none⟩) x.l.length cap'] y fun e w' => e = .returned (.int .i64 (-1)) ∧ Below y.heap.size y w') := fun y hy => (implIn_any f a _ cap _ P x.l y (HR.out.1.below (grow_on HB1.out hy)) (HR.out.2.below (grow_on HB1.out hy)) hl (len_m HS.out.1) (by have := HS.out.2; unfold maxLen; omega)).mono fun e w' h => ⟨h.1.trans (ChnI.retI hq), h.2⟩
    go_wp2_with fail
    refine (HI.out _ (Go.Joins.below_alloc1 w1 _)).mono ?_
    rintro e w2 ⟨rfl, hb⟩
    clear cC0 cC1 cA0 HI hq
    have D2 : Hid (Blk w2 w1.heap.size #[.int .i64 f, .slice (some ⟨M, 0, none⟩) P.length P.length] 96) := (Blk.new _ _ _).grow hb
    have hb' := grow_on (Go.Joins.below_alloc1 w1 _) hb
    have C2 : Hid (Blk w2 w.heap.size #[.int .i64 f, .slice a P.length cap] 96) := C1.out.grow hb'
    have A2 : Hid (Blk w2 (w.heap.size + 1) #[.slice (some ⟨g, o, none⟩) x.l.length cap', .int .i64 x.s, .int .i64 x.e, .string x.n] 29) := A1.out.grow hb'
    have R2 : Hid (Blk w2 (w.heap.size + 1 + 1) #[.int .i64 0, .slice none 0 0] 96) := R1.out.grow hb'
    have HB2 : Hid (Below w.heap.size w w2) := grow_on HB1.out hb'
    have HAB2 : Hid (AB w.heap.size w2 M P.length rs) := HAB1.out.grow hb'
    have HW : Hid (w.heap.size + 3 ≤ w1.heap.size ∧ w1.heap.size < w2.heap.size) := ⟨by have := R1.out.lt; omega, D2.out.lt⟩
    clear hb hb' C1 A1 R1
    obtain ⟨xs, hox, hxl, hxs⟩ := HAB2.out.own
    have HXS : Hid (xs.length = rs.length * 4 ∧ ∀ i, i < rs.length → Four (fun k => xs[k]?) i (nthA rs i)) := ⟨hxl, hxs⟩
    have HOX : Hid (w2.ownsRow w.heap.size 29 4 (.slice (some ⟨M, 0, none⟩) P.length P.length) P.length xs) := by have := hox; rwa [HRl.out] at this
    clear hox hxl hxs
    have cA0 : w2.cell? ⟨w.heap.size + 1, 0, none⟩ = some (.slice (some ⟨g, o, none⟩) x.l.length cap') := A2.out.cell 0
    have HC : Hid (∀ y, Below w2.heap.size w2 y → Calls Tryz.prog 75 #[.agg #[.slice (some ⟨g, o, none⟩) x.l.length cap', .int .i64 x.s, .int .i64 x.e, .string x.n]] y fun r w' => (∃ Mx c, r = .returned (.agg #[.slice (some ⟨Mx, 0, none⟩) x.l.length c, .int .i64 x.s, .int .i64 x.e, .string x.n]) ∧ LabR.Own y w' Mx x.l) ∧ Below y.heap.size y w') := fun y hy => copyI_any _ _ _ _ _ _ y (HR.out.2.below (grow_on HB2.out hy)) HS.out.2
    clear cA0
    go_wp2
    have HSS0 : Hid (∀ w', Blk w' w1.heap.size #[.int .i64 f, .slice (some ⟨M, 0, none⟩) P.length P.length] 96 → Blk w' (w.heap.size + 1) #[.slice (some ⟨g, o, none⟩) x.l.length cap', .int .i64 x.s, .int .i64 x.e, .string x.n] 29 → w'.cell? ⟨w1.heap.size, 0, none⟩ = some (.int .i64 f) ∧ w'.cell? ⟨w1.heap.size, 1, none⟩ = some (.slice (some ⟨M, 0, none⟩) P.length P.length) ∧ w'.cell? ⟨w.heap.size + 1, 0, none⟩ = some (.slice (some ⟨g, o, none⟩) x.l.length cap') ∧ w'.cell? ⟨w.heap.size + 1, 1, none⟩ = some (.int .i64 x.s) ∧ w'.cell? ⟨w.heap.size + 1, 2, none⟩ = some (.int .i64 x.e) ∧ w'.cell? ⟨w.heap.size + 1, 3, none⟩ = some (.string x.n)) := fun w' h k => ⟨h.cell 0, h.cell 1, k.cell 0, k.cell 1, k.cell 2, k.cell 3⟩
    have HSA : Hid (∀ w', Blk w' (w.heap.size + 1) #[.slice (some ⟨g, o, none⟩) x.l.length cap', .int .i64 x.s, .int .i64 x.e, .string x.n] 29 → w'.cell? ⟨w.heap.size + 1, 0, none⟩ = some (.slice (some ⟨g, o, none⟩) x.l.length cap') ∧ w'.cell? ⟨w.heap.size + 1, 1, none⟩ = some (.int .i64 x.s) ∧ w'.cell? ⟨w.heap.size + 1, 2, none⟩ = some (.int .i64 x.e) ∧ w'.cell? ⟨w.heap.size + 1, 3, none⟩ = some (.string x.n)) := fun w' k => ⟨k.cell 0, k.cell 1, k.cell 2, k.cell 3⟩
    clear HSS0
    have hPl : (P.length : Int) = (rs.length : Int) := by have := HRl.out; omega
    refine wp_region_held_drew (S := fun w' => w'.cell? ⟨w.heap.size + 1, 0, none⟩ = some (.slice (some ⟨g, o, none⟩) x.l.length cap') ∧ w'.cell? ⟨w.heap.size + 1, 1, none⟩ = some (.int .i64 x.s) ∧ w'.cell? ⟨w.heap.size + 1, 2, none⟩ = some (.int .i64 x.e) ∧ w'.cell? ⟨w.heap.size + 1, 3, none⟩ = some (.string x.n)) (by kernel_rfl) (HSA.out _ A2.out.drew) (fun hHeld => ?_)
    refine wpAnyH_take (i := 0) (oi := { dst := some 28, op := Op.fieldAddr 96 (Operand.tmp 6) 1, type := 0, pos := "l06_chain.go:53", after := #[], guard := none }) (v := ?vp1) rfl (by kernel_rfl) (by kernel_rfl) (by kernel_rfl) (fun _ _ _ h => h) (Or.inl ⟨by rfl, ?hyp1⟩) hHeld ?_
    case hyp1 => (intro w hSw; (try dsimp only at hSw); go_simp <;> with_reducible rfl)
    try simp only [Act.put, List.setIfInBounds_toArray, List.set_cons_zero, List.set_cons_succ]
    refine wpAnyH_take (i := 2) (oi := { dst := some 30, op := Op.load 29 (Operand.tmp 3), type := 29, pos := "l06_chain.go:53", after := #[], guard := none }) (v := ?vp2) rfl (by kernel_rfl) (by kernel_rfl) (by kernel_rfl) (fun _ _ _ h => h) (Or.inl ⟨by rfl, ?hyp2⟩) hHeld ?_
    case hyp2 => (intro w hSw; (try dsimp only at hSw); go_simp <;> with_reducible rfl)
    try simp only [Act.put, List.setIfInBounds_toArray, List.set_cons_zero, List.set_cons_succ]
    refine wpAnyH_ready (rs := [1, 3]) (by kernel_rfl) (by simp) ?_
    refine AllReadyH.cons (o := { dst := some 29, op := Op.load 40 (Operand.tmp 28), type := 40, pos := "l06_chain.go:53", after := #[{ on := 0, ground := Ground.data }], guard := none }) rfl (fun K hK => ?_) ?_
    ·
      have cD1 : w2.drew.cell? ⟨w1.heap.size, 1, none⟩ = some (.slice (some ⟨M, 0, none⟩) P.length P.length) := (D2.out.drew).cell 1
      go_simp
      clear cD1
      clear hHeld
      refine hK.out _ _ (HSA.out _ (A2.out.drew)) (fun hHeld => ?_)
      clear hK K
      try simp only [Act.put, List.setIfInBounds_toArray, List.set_cons_zero, List.set_cons_succ]
      refine wpAnyH_ready (rs := [3]) (by kernel_rfl) (by simp) ?_
      refine AllReadyH.cons (o := { dst := some 31, op := Op.call { callee := Callee.value (Operand.func 75), args := #[Operand.tmp 30], argTypes := #[29] }, type := 29, pos := "l06_chain.go:53", after := #[{ on := 2, ground := Ground.data }], guard := none }) rfl (fun K hK => ?_) AllReadyH.nil
      go_simp
      refine (HC.out _ (Below.refl _ _).drew).mono ?_
      rintro r wyc ⟨⟨Mx, cx, rfl, hO⟩, hy⟩
      have HZ : Hid (Below w2.heap.size w2 wyc) := grow_on (Below.refl _ _).drew hy
      have HO : Hid (OwnA w.heap.size wyc (Mx, cx, x) ∧ w2.heap.size ≤ Mx) := ⟨(own_of_copy hO HS.out.2).down (by have := HW.out; show w.heap.size ≤ w2.drew.heap.size; simp; omega), hO.1⟩
      clear hy hO
      clear hHeld
      refine hK.out _ _ (HSA.out _ (A2.out.grow HZ.out)) (fun hHeld => ?_)
      clear hK K
      try simp only [Act.put, List.setIfInBounds_toArray, List.set_cons_zero, List.set_cons_succ]
      refine wpAnyH_ready (rs := [4]) (by kernel_rfl) (by simp) ?_
      refine AllReadyH.cons (o := { dst := some 32, op := Op.buildSlice 40 1 #[(0, Operand.tmp 31)], type := 40, pos := "l06_chain.go:53", after := #[{ on := 3, ground := Ground.data }], guard := none }) rfl (fun K hK => ?_) AllReadyH.nil
      go_simp
      clear hHeld
      refine hK.out _ _ (HSA.out _ ((A2.out.grow HZ.out).alloc _)) (fun hHeld => ?_)
      clear hK K
      try simp only [Act.put, List.setIfInBounds_toArray, List.set_cons_zero, List.set_cons_succ]
      refine wpAnyH_ready (rs := [5]) (by kernel_rfl) (by simp) ?_
      refine AllReadyH.cons (o := { dst := some 33, op := Op.call { callee := Callee.builtin Builtin.append, args := #[Operand.tmp 29, Operand.tmp 32], argTypes := #[40, 40] }, type := 40, pos := "l06_chain.go:53", after := #[{ on := 1, ground := Ground.data }, { on := 4, ground := Ground.data }, { on := 3, ground := Ground.chain }], guard := none }) rfl (fun K hK => ?_) AllReadyH.nil
      have HU : Hid (Below w2.heap.size w2 (wyc.alloc (.cells #[.slice (some ⟨Mx, 0, none⟩) x.l.length cx, .int .i64 x.s, .int .i64 x.e, .string x.n] 29))) := grow_on HZ.out (Go.Joins.below_alloc1 wyc _)
      refine step_app rfl _ _ 40 rfl 29 i0 (.agg #[.slice none 0 0, .int .i64 0, .int .i64 0, .string ByteArray.empty]) 4 56 Tryz.underlying40 hi hz0 hz1 hz2 rfl (by decide) w (grow_on HB2.out HU.out) (.slice (some ⟨M, 0, none⟩) P.length P.length) P.length xs rfl (own_grow HOX.out HU.out) ⟨wyc.heap.size, 0, none⟩ 1 1 (rowV (Mx, cx, x)) rfl rfl (blk_news (Blk.new _ _ _)) (row_one _) ?q1c ?q1d ?_
      case q1c => unfold maxLen; omega
      case q1d => omega
      intro v' wya hown hbel hg hat
      obtain ⟨M3, c3, rfl, hAB3⟩ := (HAB2.out.grow HU.out).app (HO.out.1.grow (Go.Joins.below_alloc1 wyc (.cells #[.slice (some ⟨Mx, 0, none⟩) x.l.length cx, .int .i64 x.s, .int .i64 x.e, .string x.n] 29))) (fun y hy => by have := (HAB2.out.rows y hy).lt; have := HO.out.2; show y.1 ≠ Mx; omega) HXS.out.1 HXS.out.2 (by rw [HRl.out]; exact hown) hg
      have A3 : Hid (Blk wya (w.heap.size + 1) #[.slice (some ⟨g, o, none⟩) x.l.length cap', .int .i64 x.s, .int .i64 x.e, .string x.n] 29) := blk_far (A2.out.grow HU.out) hg (fun e => by have := HM.out; have h : w.heap.size + 1 = M := Option.some.inj e; omega)
      have D3' : Hid (Blk wya w1.heap.size #[.int .i64 f, .slice (some ⟨M, 0, none⟩) P.length P.length] 96) := blk_far (D2.out.grow HU.out) hg (fun e => by obtain ⟨cu, hcu, _⟩ := (HAB2.out.grow HU.out).outer; exact chain_alarm (D2.out.grow HU.out) hcu (Option.some.inj e))
      have R3' : Hid (Blk wya (w.heap.size + 1 + 1) #[.int .i64 0, .slice none 0 0] 96) := blk_far (R2.out.grow HU.out) hg (fun e => by have := HM.out; have h : w.heap.size + 1 + 1 = M := Option.some.inj e; omega)
      have HAB3' : Hid (AB w.heap.size wya M3 c3 (rs ++ [(Mx, cx, x)])) := hAB3
      have HB3' : Hid (Below w.heap.size w wya) := hbel
      clear hown hbel hg hat hAB3
      rw [HRl.out]
      clear hHeld
      refine hK.out _ _ (HSA.out _ A3.out) (fun hHeld => ?_)
      clear hK K
      try simp only [Act.put, List.setIfInBounds_toArray, List.set_cons_zero, List.set_cons_succ]
      refine wpAnyH_take (i := 6) (oi := { dst := some 34, op := Op.fieldAddr 96 (Operand.tmp 6) 1, type := 0, pos := "l06_chain.go:53", after := #[{ on := 0, ground := Ground.phase }, { on := 1, ground := Ground.phase }, { on := 2, ground := Ground.phase }, { on := 3, ground := Ground.phase }, { on := 4, ground := Ground.phase }, { on := 5, ground := Ground.phase }], guard := none }) (v := ?vp7) rfl (by kernel_rfl) (by kernel_rfl) (by kernel_rfl) (fun _ _ _ h => h) (Or.inl ⟨by rfl, ?hyp7⟩) hHeld ?_
      case hyp7 => (intro w hSw; (try dsimp only at hSw); go_simp <;> with_reducible rfl)
      try simp only [Act.put, List.setIfInBounds_toArray, List.set_cons_zero, List.set_cons_succ]
      refine wpAnyH_ready (rs := [7]) (by kernel_rfl) (by simp) ?_
      refine AllReadyH.cons (o := { dst := none, op := Op.store 40 (Operand.tmp 34) (Operand.tmp 33), type := 0, pos := "l06_chain.go:53", after := #[{ on := 6, ground := Ground.data }, { on := 5, ground := Ground.data }, { on := 5, ground := Ground.chain }, { on := 0, ground := Ground.phase }, { on := 1, ground := Ground.phase }, { on := 2, ground := Ground.phase }, { on := 3, ground := Ground.phase }, { on := 4, ground := Ground.phase }, { on := 5, ground := Ground.phase }], guard := none }) rfl (fun K hK => ?_) AllReadyH.nil
      have cD1 : wya.cell? ⟨w1.heap.size, 1, none⟩ = some (.slice (some ⟨M, 0, none⟩) P.length P.length) := D3'.out.cell 1
      have fD1 := D3'.out.frozen 1
      go_simp
      clear cD1 fD1 hHeld
      have hne : w1.heap.size ≠ w.heap.size + 1 := by have := HW.out; omega
      refine hK.out _ _ (HSA.out _ (A3.out.set_other hne _)) (fun hHeld => ?_)
      clear hK K
      try simp only [Act.put, List.setIfInBounds_toArray, List.set_cons_zero, List.set_cons_succ]
      refine wpAnyH_done (by kernel_rfl) ?_ _
      have D3 : Hid (Blk (wya.setCell ⟨w1.heap.size, 1, none⟩ (.slice (some ⟨M3, 0, none⟩) (P.length + 1) c3)) w1.heap.size #[.int .i64 f, .slice (some ⟨M3, 0, none⟩) (P.length + 1) c3] 96) := D3'.out.set 1 _
      have R3 : Hid (Blk (wya.setCell ⟨w1.heap.size, 1, none⟩ (.slice (some ⟨M3, 0, none⟩) (P.length + 1) c3)) (w.heap.size + 1 + 1) #[.int .i64 0, .slice none 0 0] 96) := R3'.out.set_other (by have := HW.out; show w1.heap.size ≠ w.heap.size + 1 + 1; omega) _
      have HAB3 : Hid (AB w.heap.size (wya.setCell ⟨w1.heap.size, 1, none⟩ (.slice (some ⟨M3, 0, none⟩) (P.length + 1) c3)) M3 c3 (rs ++ [(Mx, cx, x)])) := ab_set1 HAB3'.out D3'.out _ _
      have HB3 : Hid (Below w.heap.size w (wya.setCell ⟨w1.heap.size, 1, none⟩ (.slice (some ⟨M3, 0, none⟩) (P.length + 1) c3))) := set_low HB3'.out (by have := HW.out; omega) _ _
      clear D3' R3' HAB3' HB3' A3 hHeld hne
      generalize wya.setCell ⟨w1.heap.size, 1, none⟩ (.slice (some ⟨M3, 0, none⟩) (P.length + 1) c3) = W3 at *
      have c0 : W3.cell? ⟨w1.heap.size, 0, none⟩ = some (.int .i64 f) := D3.out.cell 0
      have c1 : W3.cell? ⟨w1.heap.size, 1, none⟩ = some (.slice (some ⟨M3, 0, none⟩) (P.length + 1) c3) := D3.out.cell 1
      have r0 : W3.cell? ⟨w.heap.size + 1 + 1, 0, none⟩ = some (.int .i64 0) := R3.out.cell 0
      have r1 : W3.cell? ⟨w.heap.size + 1 + 1, 1, none⟩ = some (.slice none 0 0) := R3.out.cell 1
      have f0 := R3.out.frozen 0
      have f1 := R3.out.frozen 1
      go_wp2
      have hs : Blk ((W3.setCell ⟨w.heap.size + 1 + 1, 0, none⟩ (.int .i64 f)).setCell ⟨w.heap.size + 1 + 1, 1, none⟩ (.slice (some ⟨M3, 0, none⟩) (P.length + 1) c3)) (w.heap.size + 1 + 1) #[.int .i64 f, .slice (some ⟨M3, 0, none⟩) (P.length + 1) c3] 96 := (R3.out.set 0 _).set 1 _
      have s0 := hs.cell 0
      have s1 := hs.cell 1
      refine bodyPost_ret (v := .tuple #[.agg #[.int .i64 f, .slice (some ⟨M3, 0, none⟩) (P.length + 1) c3], .bool true]) (by simp [results, Tryz.results67, go_sem, s0, s1]) rfl ?_
      exact ⟨⟨M3, c3, rs ++ [(Mx, cx, x)], retC (by simp [HRl.out]) HN.out, (ab_set2 HAB3.out R3.out _ _).down (by omega), HPP.out _ _⟩, set2 HB3.out (by omega) _ _⟩
    refine AllReadyH.cons (o := { dst := some 31, op := Op.call { callee := Callee.value (Operand.func 75), args := #[Operand.tmp 30], argTypes := #[29] }, type := 29, pos := "l06_chain.go:53", after := #[{ on := 2, ground := Ground.data }], guard := none }) rfl (fun K hK => ?_) AllReadyH.nil
    go_simp
    refine (HC.out _ (Below.refl _ _).drew).mono ?_
    rintro r wyc ⟨⟨Mx, cx, rfl, hO⟩, hy⟩
    have HZ : Hid (Below w2.heap.size w2 wyc) := grow_on (Below.refl _ _).drew hy
    have HO : Hid (OwnA w.heap.size wyc (Mx, cx, x) ∧ w2.heap.size ≤ Mx) := ⟨(own_of_copy hO HS.out.2).down (by have := HW.out; show w.heap.size ≤ w2.drew.heap.size; simp; omega), hO.1⟩
    clear hy hO
    clear hHeld
    refine hK.out _ _ (HSA.out _ (A2.out.grow HZ.out)) (fun hHeld => ?_)
    clear hK K
    try simp only [Act.put, List.setIfInBounds_toArray, List.set_cons_zero, List.set_cons_succ]
    refine wpAnyH_ready (rs := [1, 4]) (by kernel_rfl) (by simp) ?_
    refine AllReadyH.cons (o := { dst := some 29, op := Op.load 40 (Operand.tmp 28), type := 40, pos := "l06_chain.go:53", after := #[{ on := 0, ground := Ground.data }], guard := none }) rfl (fun K hK => ?_) ?_
    ·
      have cD1 : wyc.cell? ⟨w1.heap.size, 1, none⟩ = some (.slice (some ⟨M, 0, none⟩) P.length P.length) := (D2.out.grow HZ.out).cell 1
      go_simp
      clear cD1
      clear hHeld
      refine hK.out _ _ (HSA.out _ (A2.out.grow HZ.out)) (fun hHeld => ?_)
      clear hK K
      try simp only [Act.put, List.setIfInBounds_toArray, List.set_cons_zero, List.set_cons_succ]
      refine wpAnyH_ready (rs := [4]) (by kernel_rfl) (by simp) ?_
      refine AllReadyH.cons (o := { dst := some 32, op := Op.buildSlice 40 1 #[(0, Operand.tmp 31)], type := 40, pos := "l06_chain.go:53", after := #[{ on := 3, ground := Ground.data }], guard := none }) rfl (fun K hK => ?_) AllReadyH.nil
      go_simp
      clear hHeld
      refine hK.out _ _ (HSA.out _ ((A2.out.grow HZ.out).alloc _)) (fun hHeld => ?_)
      clear hK K
      try simp only [Act.put, List.setIfInBounds_toArray, List.set_cons_zero, List.set_cons_succ]
      refine wpAnyH_ready (rs := [5]) (by kernel_rfl) (by simp) ?_
      refine AllReadyH.cons (o := { dst := some 33, op := Op.call { callee := Callee.builtin Builtin.append, args := #[Operand.tmp 29, Operand.tmp 32], argTypes := #[40, 40] }, type := 40, pos := "l06_chain.go:53", after := #[{ on := 1, ground := Ground.data }, { on := 4, ground := Ground.data }, { on := 3, ground := Ground.chain }], guard := none }) rfl (fun K hK => ?_) AllReadyH.nil
      have HU : Hid (Below w2.heap.size w2 (wyc.alloc (.cells #[.slice (some ⟨Mx, 0, none⟩) x.l.length cx, .int .i64 x.s, .int .i64 x.e, .string x.n] 29))) := grow_on HZ.out (Go.Joins.below_alloc1 wyc _)
      refine step_app rfl _ _ 40 rfl 29 i0 (.agg #[.slice none 0 0, .int .i64 0, .int .i64 0, .string ByteArray.empty]) 4 56 Tryz.underlying40 hi hz0 hz1 hz2 rfl (by decide) w (grow_on HB2.out HU.out) (.slice (some ⟨M, 0, none⟩) P.length P.length) P.length xs rfl (own_grow HOX.out HU.out) ⟨wyc.heap.size, 0, none⟩ 1 1 (rowV (Mx, cx, x)) rfl rfl (blk_news (Blk.new _ _ _)) (row_one _) ?q2c ?q2d ?_
      case q2c => unfold maxLen; omega
      case q2d => omega
      intro v' wya hown hbel hg hat
      obtain ⟨M3, c3, rfl, hAB3⟩ := (HAB2.out.grow HU.out).app (HO.out.1.grow (Go.Joins.below_alloc1 wyc (.cells #[.slice (some ⟨Mx, 0, none⟩) x.l.length cx, .int .i64 x.s, .int .i64 x.e, .string x.n] 29))) (fun y hy => by have := (HAB2.out.rows y hy).lt; have := HO.out.2; show y.1 ≠ Mx; omega) HXS.out.1 HXS.out.2 (by rw [HRl.out]; exact hown) hg
      have A3 : Hid (Blk wya (w.heap.size + 1) #[.slice (some ⟨g, o, none⟩) x.l.length cap', .int .i64 x.s, .int .i64 x.e, .string x.n] 29) := blk_far (A2.out.grow HU.out) hg (fun e => by have := HM.out; have h : w.heap.size + 1 = M := Option.some.inj e; omega)
      have D3' : Hid (Blk wya w1.heap.size #[.int .i64 f, .slice (some ⟨M, 0, none⟩) P.length P.length] 96) := blk_far (D2.out.grow HU.out) hg (fun e => by obtain ⟨cu, hcu, _⟩ := (HAB2.out.grow HU.out).outer; exact chain_alarm (D2.out.grow HU.out) hcu (Option.some.inj e))
      have R3' : Hid (Blk wya (w.heap.size + 1 + 1) #[.int .i64 0, .slice none 0 0] 96) := blk_far (R2.out.grow HU.out) hg (fun e => by have := HM.out; have h : w.heap.size + 1 + 1 = M := Option.some.inj e; omega)
      have HAB3' : Hid (AB w.heap.size wya M3 c3 (rs ++ [(Mx, cx, x)])) := hAB3
      have HB3' : Hid (Below w.heap.size w wya) := hbel
      clear hown hbel hg hat hAB3
      rw [HRl.out]
      clear hHeld
      refine hK.out _ _ (HSA.out _ A3.out) (fun hHeld => ?_)
      clear hK K
      try simp only [Act.put, List.setIfInBounds_toArray, List.set_cons_zero, List.set_cons_succ]
      refine wpAnyH_take (i := 6) (oi := { dst := some 34, op := Op.fieldAddr 96 (Operand.tmp 6) 1, type := 0, pos := "l06_chain.go:53", after := #[{ on := 0, ground := Ground.phase }, { on := 1, ground := Ground.phase }, { on := 2, ground := Ground.phase }, { on := 3, ground := Ground.phase }, { on := 4, ground := Ground.phase }, { on := 5, ground := Ground.phase }], guard := none }) (v := ?vp13) rfl (by kernel_rfl) (by kernel_rfl) (by kernel_rfl) (fun _ _ _ h => h) (Or.inl ⟨by rfl, ?hyp13⟩) hHeld ?_
      case hyp13 => (intro w hSw; (try dsimp only at hSw); go_simp <;> with_reducible rfl)
      try simp only [Act.put, List.setIfInBounds_toArray, List.set_cons_zero, List.set_cons_succ]
      refine wpAnyH_ready (rs := [7]) (by kernel_rfl) (by simp) ?_
      refine AllReadyH.cons (o := { dst := none, op := Op.store 40 (Operand.tmp 34) (Operand.tmp 33), type := 0, pos := "l06_chain.go:53", after := #[{ on := 6, ground := Ground.data }, { on := 5, ground := Ground.data }, { on := 5, ground := Ground.chain }, { on := 0, ground := Ground.phase }, { on := 1, ground := Ground.phase }, { on := 2, ground := Ground.phase }, { on := 3, ground := Ground.phase }, { on := 4, ground := Ground.phase }, { on := 5, ground := Ground.phase }], guard := none }) rfl (fun K hK => ?_) AllReadyH.nil
      have cD1 : wya.cell? ⟨w1.heap.size, 1, none⟩ = some (.slice (some ⟨M, 0, none⟩) P.length P.length) := D3'.out.cell 1
      have fD1 := D3'.out.frozen 1
      go_simp
      clear cD1 fD1 hHeld
      have hne : w1.heap.size ≠ w.heap.size + 1 := by have := HW.out; omega
      refine hK.out _ _ (HSA.out _ (A3.out.set_other hne _)) (fun hHeld => ?_)
      clear hK K
      try simp only [Act.put, List.setIfInBounds_toArray, List.set_cons_zero, List.set_cons_succ]
      refine wpAnyH_done (by kernel_rfl) ?_ _
      have D3 : Hid (Blk (wya.setCell ⟨w1.heap.size, 1, none⟩ (.slice (some ⟨M3, 0, none⟩) (P.length + 1) c3)) w1.heap.size #[.int .i64 f, .slice (some ⟨M3, 0, none⟩) (P.length + 1) c3] 96) := D3'.out.set 1 _
      have R3 : Hid (Blk (wya.setCell ⟨w1.heap.size, 1, none⟩ (.slice (some ⟨M3, 0, none⟩) (P.length + 1) c3)) (w.heap.size + 1 + 1) #[.int .i64 0, .slice none 0 0] 96) := R3'.out.set_other (by have := HW.out; show w1.heap.size ≠ w.heap.size + 1 + 1; omega) _
      have HAB3 : Hid (AB w.heap.size (wya.setCell ⟨w1.heap.size, 1, none⟩ (.slice (some ⟨M3, 0, none⟩) (P.length + 1) c3)) M3 c3 (rs ++ [(Mx, cx, x)])) := ab_set1 HAB3'.out D3'.out _ _
      have HB3 : Hid (Below w.heap.size w (wya.setCell ⟨w1.heap.size, 1, none⟩ (.slice (some ⟨M3, 0, none⟩) (P.length + 1) c3))) := set_low HB3'.out (by have := HW.out; omega) _ _
      clear D3' R3' HAB3' HB3' A3 hHeld hne
      generalize wya.setCell ⟨w1.heap.size, 1, none⟩ (.slice (some ⟨M3, 0, none⟩) (P.length + 1) c3) = W3 at *
      have c0 : W3.cell? ⟨w1.heap.size, 0, none⟩ = some (.int .i64 f) := D3.out.cell 0
      have c1 : W3.cell? ⟨w1.heap.size, 1, none⟩ = some (.slice (some ⟨M3, 0, none⟩) (P.length + 1) c3) := D3.out.cell 1
      have r0 : W3.cell? ⟨w.heap.size + 1 + 1, 0, none⟩ = some (.int .i64 0) := R3.out.cell 0
      have r1 : W3.cell? ⟨w.heap.size + 1 + 1, 1, none⟩ = some (.slice none 0 0) := R3.out.cell 1
      have f0 := R3.out.frozen 0
      have f1 := R3.out.frozen 1
      go_wp2
      have hs : Blk ((W3.setCell ⟨w.heap.size + 1 + 1, 0, none⟩ (.int .i64 f)).setCell ⟨w.heap.size + 1 + 1, 1, none⟩ (.slice (some ⟨M3, 0, none⟩) (P.length + 1) c3)) (w.heap.size + 1 + 1) #[.int .i64 f, .slice (some ⟨M3, 0, none⟩) (P.length + 1) c3] 96 := (R3.out.set 0 _).set 1 _
      have s0 := hs.cell 0
      have s1 := hs.cell 1
      refine bodyPost_ret (v := .tuple #[.agg #[.int .i64 f, .slice (some ⟨M3, 0, none⟩) (P.length + 1) c3], .bool true]) (by simp [results, Tryz.results67, go_sem, s0, s1]) rfl ?_
      exact ⟨⟨M3, c3, rs ++ [(Mx, cx, x)], retC (by simp [HRl.out]) HN.out, (ab_set2 HAB3.out R3.out _ _).down (by omega), HPP.out _ _⟩, set2 HB3.out (by omega) _ _⟩
    refine AllReadyH.cons (o := { dst := some 32, op := Op.buildSlice 40 1 #[(0, Operand.tmp 31)], type := 40, pos := "l06_chain.go:53", after := #[{ on := 3, ground := Ground.data }], guard := none }) rfl (fun K hK => ?_) AllReadyH.nil
    go_simp
    clear hHeld
    refine hK.out _ _ (HSA.out _ ((A2.out.grow HZ.out).alloc _)) (fun hHeld => ?_)
    clear hK K
    try simp only [Act.put, List.setIfInBounds_toArray, List.set_cons_zero, List.set_cons_succ]
    refine wpAnyH_ready (rs := [1]) (by kernel_rfl) (by simp) ?_
    refine AllReadyH.cons (o := { dst := some 29, op := Op.load 40 (Operand.tmp 28), type := 40, pos := "l06_chain.go:53", after := #[{ on := 0, ground := Ground.data }], guard := none }) rfl (fun K hK => ?_) AllReadyH.nil
    have cD1 : (wyc.alloc (.cells #[.slice (some ⟨Mx, 0, none⟩) x.l.length cx, .int .i64 x.s, .int .i64 x.e, .string x.n] 29)).cell? ⟨w1.heap.size, 1, none⟩ = some (.slice (some ⟨M, 0, none⟩) P.length P.length) := ((D2.out.grow HZ.out).alloc _).cell 1
    go_simp
    clear cD1
    clear hHeld
    refine hK.out _ _ (HSA.out _ ((A2.out.grow HZ.out).alloc _)) (fun hHeld => ?_)
    clear hK K
    try simp only [Act.put, List.setIfInBounds_toArray, List.set_cons_zero, List.set_cons_succ]
    refine wpAnyH_ready (rs := [5]) (by kernel_rfl) (by simp) ?_
    refine AllReadyH.cons (o := { dst := some 33, op := Op.call { callee := Callee.builtin Builtin.append, args := #[Operand.tmp 29, Operand.tmp 32], argTypes := #[40, 40] }, type := 40, pos := "l06_chain.go:53", after := #[{ on := 1, ground := Ground.data }, { on := 4, ground := Ground.data }, { on := 3, ground := Ground.chain }], guard := none }) rfl (fun K hK => ?_) AllReadyH.nil
    have HU : Hid (Below w2.heap.size w2 (wyc.alloc (.cells #[.slice (some ⟨Mx, 0, none⟩) x.l.length cx, .int .i64 x.s, .int .i64 x.e, .string x.n] 29))) := grow_on HZ.out (Go.Joins.below_alloc1 wyc _)
    refine step_app rfl _ _ 40 rfl 29 i0 (.agg #[.slice none 0 0, .int .i64 0, .int .i64 0, .string ByteArray.empty]) 4 56 Tryz.underlying40 hi hz0 hz1 hz2 rfl (by decide) w (grow_on HB2.out HU.out) (.slice (some ⟨M, 0, none⟩) P.length P.length) P.length xs rfl (own_grow HOX.out HU.out) ⟨wyc.heap.size, 0, none⟩ 1 1 (rowV (Mx, cx, x)) rfl rfl (blk_news (Blk.new _ _ _)) (row_one _) ?q3c ?q3d ?_
    case q3c => unfold maxLen; omega
    case q3d => omega
    intro v' wya hown hbel hg hat
    obtain ⟨M3, c3, rfl, hAB3⟩ := (HAB2.out.grow HU.out).app (HO.out.1.grow (Go.Joins.below_alloc1 wyc (.cells #[.slice (some ⟨Mx, 0, none⟩) x.l.length cx, .int .i64 x.s, .int .i64 x.e, .string x.n] 29))) (fun y hy => by have := (HAB2.out.rows y hy).lt; have := HO.out.2; show y.1 ≠ Mx; omega) HXS.out.1 HXS.out.2 (by rw [HRl.out]; exact hown) hg
    have A3 : Hid (Blk wya (w.heap.size + 1) #[.slice (some ⟨g, o, none⟩) x.l.length cap', .int .i64 x.s, .int .i64 x.e, .string x.n] 29) := blk_far (A2.out.grow HU.out) hg (fun e => by have := HM.out; have h : w.heap.size + 1 = M := Option.some.inj e; omega)
    have D3' : Hid (Blk wya w1.heap.size #[.int .i64 f, .slice (some ⟨M, 0, none⟩) P.length P.length] 96) := blk_far (D2.out.grow HU.out) hg (fun e => by obtain ⟨cu, hcu, _⟩ := (HAB2.out.grow HU.out).outer; exact chain_alarm (D2.out.grow HU.out) hcu (Option.some.inj e))
    have R3' : Hid (Blk wya (w.heap.size + 1 + 1) #[.int .i64 0, .slice none 0 0] 96) := blk_far (R2.out.grow HU.out) hg (fun e => by have := HM.out; have h : w.heap.size + 1 + 1 = M := Option.some.inj e; omega)
    have HAB3' : Hid (AB w.heap.size wya M3 c3 (rs ++ [(Mx, cx, x)])) := hAB3
    have HB3' : Hid (Below w.heap.size w wya) := hbel
    clear hown hbel hg hat hAB3
    rw [HRl.out]
    clear hHeld
    refine hK.out _ _ (HSA.out _ A3.out) (fun hHeld => ?_)
    clear hK K
    try simp only [Act.put, List.setIfInBounds_toArray, List.set_cons_zero, List.set_cons_succ]
    refine wpAnyH_take (i := 6) (oi := { dst := some 34, op := Op.fieldAddr 96 (Operand.tmp 6) 1, type := 0, pos := "l06_chain.go:53", after := #[{ on := 0, ground := Ground.phase }, { on := 1, ground := Ground.phase }, { on := 2, ground := Ground.phase }, { on := 3, ground := Ground.phase }, { on := 4, ground := Ground.phase }, { on := 5, ground := Ground.phase }], guard := none }) (v := ?vp18) rfl (by kernel_rfl) (by kernel_rfl) (by kernel_rfl) (fun _ _ _ h => h) (Or.inl ⟨by rfl, ?hyp18⟩) hHeld ?_
    case hyp18 => (intro w hSw; (try dsimp only at hSw); go_simp <;> with_reducible rfl)
    try simp only [Act.put, List.setIfInBounds_toArray, List.set_cons_zero, List.set_cons_succ]
    refine wpAnyH_ready (rs := [7]) (by kernel_rfl) (by simp) ?_
    refine AllReadyH.cons (o := { dst := none, op := Op.store 40 (Operand.tmp 34) (Operand.tmp 33), type := 0, pos := "l06_chain.go:53", after := #[{ on := 6, ground := Ground.data }, { on := 5, ground := Ground.data }, { on := 5, ground := Ground.chain }, { on := 0, ground := Ground.phase }, { on := 1, ground := Ground.phase }, { on := 2, ground := Ground.phase }, { on := 3, ground := Ground.phase }, { on := 4, ground := Ground.phase }, { on := 5, ground := Ground.phase }], guard := none }) rfl (fun K hK => ?_) AllReadyH.nil
    have cD1 : wya.cell? ⟨w1.heap.size, 1, none⟩ = some (.slice (some ⟨M, 0, none⟩) P.length P.length) := D3'.out.cell 1
    have fD1 := D3'.out.frozen 1
    go_simp
    clear cD1 fD1 hHeld
    have hne : w1.heap.size ≠ w.heap.size + 1 := by have := HW.out; omega
    refine hK.out _ _ (HSA.out _ (A3.out.set_other hne _)) (fun hHeld => ?_)
    clear hK K
    try simp only [Act.put, List.setIfInBounds_toArray, List.set_cons_zero, List.set_cons_succ]
    refine wpAnyH_done (by kernel_rfl) ?_ _
    have D3 : Hid (Blk (wya.setCell ⟨w1.heap.size, 1, none⟩ (.slice (some ⟨M3, 0, none⟩) (P.length + 1) c3)) w1.heap.size #[.int .i64 f, .slice (some ⟨M3, 0, none⟩) (P.length + 1) c3] 96) := D3'.out.set 1 _
    have R3 : Hid (Blk (wya.setCell ⟨w1.heap.size, 1, none⟩ (.slice (some ⟨M3, 0, none⟩) (P.length + 1) c3)) (w.heap.size + 1 + 1) #[.int .i64 0, .slice none 0 0] 96) := R3'.out.set_other (by have := HW.out; show w1.heap.size ≠ w.heap.size + 1 + 1; omega) _
    have HAB3 : Hid (AB w.heap.size (wya.setCell ⟨w1.heap.size, 1, none⟩ (.slice (some ⟨M3, 0, none⟩) (P.length + 1) c3)) M3 c3 (rs ++ [(Mx, cx, x)])) := ab_set1 HAB3'.out D3'.out _ _
    have HB3 : Hid (Below w.heap.size w (wya.setCell ⟨w1.heap.size, 1, none⟩ (.slice (some ⟨M3, 0, none⟩) (P.length + 1) c3))) := set_low HB3'.out (by have := HW.out; omega) _ _
    clear D3' R3' HAB3' HB3' A3 hHeld hne
    generalize wya.setCell ⟨w1.heap.size, 1, none⟩ (.slice (some ⟨M3, 0, none⟩) (P.length + 1) c3) = W3 at *
    have c0 : W3.cell? ⟨w1.heap.size, 0, none⟩ = some (.int .i64 f) := D3.out.cell 0
    have c1 : W3.cell? ⟨w1.heap.size, 1, none⟩ = some (.slice (some ⟨M3, 0, none⟩) (P.length + 1) c3) := D3.out.cell 1
    have r0 : W3.cell? ⟨w.heap.size + 1 + 1, 0, none⟩ = some (.int .i64 0) := R3.out.cell 0
    have r1 : W3.cell? ⟨w.heap.size + 1 + 1, 1, none⟩ = some (.slice none 0 0) := R3.out.cell 1
    have f0 := R3.out.frozen 0
    have f1 := R3.out.frozen 1
    go_wp2
    have hs : Blk ((W3.setCell ⟨w.heap.size + 1 + 1, 0, none⟩ (.int .i64 f)).setCell ⟨w.heap.size + 1 + 1, 1, none⟩ (.slice (some ⟨M3, 0, none⟩) (P.length + 1) c3)) (w.heap.size + 1 + 1) #[.int .i64 f, .slice (some ⟨M3, 0, none⟩) (P.length + 1) c3] 96 := (R3.out.set 0 _).set 1 _
    have s0 := hs.cell 0
    have s1 := hs.cell 1
    refine bodyPost_ret (v := .tuple #[.agg #[.int .i64 f, .slice (some ⟨M3, 0, none⟩) (P.length + 1) c3], .bool true]) (by simp [results, Tryz.results67, go_sem, s0, s1]) rfl ?_
    exact ⟨⟨M3, c3, rs ++ [(Mx, cx, x)], retC (by simp [HRl.out]) HN.out, (ab_set2 HAB3.out R3.out _ _).down (by omega), HPP.out _ _⟩, set2 HB3.out (by omega) _ _⟩
  · have HN : Hid (false = isNew P x.l) := (put_hit hj he hk).2.symm
    have HPP : Hid (∀ M c, pals (putA rs k (M, c, mergeX (nthP P k) x)) = putL P x) := fun M c => by rw [pals_put, HP.out, (put_hit hj he hk).1]
    clear hj he
    have HI : Hid (∀ y, Below w1.heap.size w1 y → Calls Tryz.prog 74 #[.agg #[.int .i64 f, .slice a P.length cap], .slice (some ⟨g, o, none⟩) x.l.length cap'] y fun e w' => e = .returned (.int .i64 (k)) ∧ Below y.heap.size y w') := fun y hy => (implIn_any f a _ cap _ P x.l y (HR.out.1.below (grow_on HB1.out hy)) (HR.out.2.below (grow_on HB1.out hy)) hl (len_m HS.out.1) (by have := HS.out.2; unfold maxLen; omega)).mono fun e w' h => ⟨h.1.trans (ChnI.retI hq), h.2⟩
    go_wp2_with fail
    refine (HI.out _ (Go.Joins.below_alloc1 w1 _)).mono ?_
    rintro e w2 ⟨rfl, hb⟩
    clear cC0 cC1 cA0 HI hq
    have D2 : Hid (Blk w2 w1.heap.size #[.int .i64 f, .slice (some ⟨M, 0, none⟩) P.length P.length] 96) := (Blk.new _ _ _).grow hb
    have hb' := grow_on (Go.Joins.below_alloc1 w1 _) hb
    have C2 : Hid (Blk w2 w.heap.size #[.int .i64 f, .slice a P.length cap] 96) := C1.out.grow hb'
    have A2 : Hid (Blk w2 (w.heap.size + 1) #[.slice (some ⟨g, o, none⟩) x.l.length cap', .int .i64 x.s, .int .i64 x.e, .string x.n] 29) := A1.out.grow hb'
    have R2 : Hid (Blk w2 (w.heap.size + 1 + 1) #[.int .i64 0, .slice none 0 0] 96) := R1.out.grow hb'
    have HB2 : Hid (Below w.heap.size w w2) := grow_on HB1.out hb'
    have HAB2 : Hid (AB w.heap.size w2 M P.length rs) := HAB1.out.grow hb'
    have HW : Hid (w.heap.size + 3 ≤ w1.heap.size ∧ w1.heap.size < w2.heap.size) := ⟨by have := R1.out.lt; omega, D2.out.lt⟩
    clear hb hb' C1 A1 R1
    obtain ⟨b, off, rfl, hb, ad, cp, hat⟩ := HR.out.1.get hk
    have b0 := hat.c0
    have b1 := hat.c1
    have b2 := hat.c2
    have b3 := hat.c3
    have HBB : Hid (b < w.heap.size) := hb
    have hk0 : ¬ (k : Int) < 0 := by omega
    have hk1 : (k : Int) < (P.length : Int) := by omega
    have hk2 : (0 : Int) ≤ (k : Int) := by omega
    have HC : Hid (∀ y, Below w2.heap.size w2 y → Calls Tryz.prog 25 #[.agg #[.slice ad (nthP P k).l.length cp, .int .i64 (nthP P k).s, .int .i64 (nthP P k).e, .string (nthP P k).n], .agg #[.slice (some ⟨g, o, none⟩) x.l.length cap', .int .i64 x.s, .int .i64 x.e, .string x.n]] y fun r w' => (∃ Mx c, r = .returned (.agg #[.slice (some ⟨Mx, 0, none⟩) x.l.length c, .int .i64 (startB (nthP P k).s (nthP P k).e x.s x.e), .int .i64 x.e, .string x.n]) ∧ LabR.Own y w' Mx x.l) ∧ Below y.heap.size y w') := fun y hy => implMerge_any _ _ _ _ _ _ _ _ _ _ _ _ _ y (HR.out.2.below (grow_on HB2.out hy)) HS.out.2
    go_wp2
    have HSB : Hid (∀ w', Blk w' w1.heap.size #[.int .i64 f, .slice (some ⟨M, 0, none⟩) P.length P.length] 96 → Blk w' w.heap.size #[.int .i64 f, .slice (some ⟨b, off, none⟩) P.length cap] 96 → Below w.heap.size w w' → Blk w' (w.heap.size + 1) #[.slice (some ⟨g, o, none⟩) x.l.length cap', .int .i64 x.s, .int .i64 x.e, .string x.n] 29 → w'.cell? ⟨w1.heap.size, 1, none⟩ = some (.slice (some ⟨M, 0, none⟩) P.length P.length) ∧ w'.cell? ⟨w.heap.size, 1, none⟩ = some (.slice (some ⟨b, off, none⟩) P.length cap) ∧ w'.cell? ⟨b, off + k * 4, none⟩ = some (.slice ad (nthP P k).l.length cp) ∧ w'.cell? ⟨b, off + k * 4 + 1, none⟩ = some (.int .i64 (nthP P k).s) ∧ w'.cell? ⟨b, off + k * 4 + 2, none⟩ = some (.int .i64 (nthP P k).e) ∧ w'.cell? ⟨b, off + k * 4 + 3, none⟩ = some (.string (nthP P k).n) ∧ w'.cell? ⟨w.heap.size + 1, 0, none⟩ = some (.slice (some ⟨g, o, none⟩) x.l.length cap') ∧ w'.cell? ⟨w.heap.size + 1, 1, none⟩ = some (.int .i64 x.s) ∧ w'.cell? ⟨w.heap.size + 1, 2, none⟩ = some (.int .i64 x.e) ∧ w'.cell? ⟨w.heap.size + 1, 3, none⟩ = some (.string x.n)) := fun w' h q hw k => ⟨h.cell 1, q.cell 1, (hw.cell hb).trans b0, (hw.cell hb).trans b1, (hw.cell hb).trans b2, (hw.cell hb).trans b3, k.cell 0, k.cell 1, k.cell 2, k.cell 3⟩
    clear hat b0 b1 b2 b3 hb
    refine wp_region_held_drew (S := fun w' => w'.cell? ⟨w1.heap.size, 1, none⟩ = some (.slice (some ⟨M, 0, none⟩) P.length P.length) ∧ w'.cell? ⟨w.heap.size, 1, none⟩ = some (.slice (some ⟨b, off, none⟩) P.length cap) ∧ w'.cell? ⟨b, off + k * 4, none⟩ = some (.slice ad (nthP P k).l.length cp) ∧ w'.cell? ⟨b, off + k * 4 + 1, none⟩ = some (.int .i64 (nthP P k).s) ∧ w'.cell? ⟨b, off + k * 4 + 2, none⟩ = some (.int .i64 (nthP P k).e) ∧ w'.cell? ⟨b, off + k * 4 + 3, none⟩ = some (.string (nthP P k).n) ∧ w'.cell? ⟨w.heap.size + 1, 0, none⟩ = some (.slice (some ⟨g, o, none⟩) x.l.length cap') ∧ w'.cell? ⟨w.heap.size + 1, 1, none⟩ = some (.int .i64 x.s) ∧ w'.cell? ⟨w.heap.size + 1, 2, none⟩ = some (.int .i64 x.e) ∧ w'.cell? ⟨w.heap.size + 1, 3, none⟩ = some (.string x.n)) (by kernel_rfl) (HSB.out _ D2.out.drew C2.out.drew HB2.out.drew A2.out.drew) (fun hHeld => ?_)
    refine wpAnyH_take (i := 0) (oi := { dst := some 16, op := Op.fieldAddr 96 (Operand.tmp 6) 1, type := 0, pos := "l06_chain.go:50", after := #[], guard := none }) (v := ?vh0) rfl (by kernel_rfl) (by kernel_rfl) (by kernel_rfl) (fun _ _ _ h => h) (Or.inl ⟨by rfl, ?hyh0⟩) hHeld ?_
    case hyh0 => (intro w hSw; (try dsimp only at hSw); go_simp <;> with_reducible rfl)
    try simp only [Act.put, List.setIfInBounds_toArray, List.set_cons_zero, List.set_cons_succ]
    refine wpAnyH_take (i := 1) (oi := { dst := some 17, op := Op.load 40 (Operand.tmp 16), type := 40, pos := "l06_chain.go:50", after := #[{ on := 0, ground := Ground.data }], guard := none }) (v := ?vh1) rfl (by kernel_rfl) (by kernel_rfl) (by kernel_rfl) (fun _ _ _ h => h) (Or.inl ⟨by rfl, ?hyh1⟩) hHeld ?_
    case hyh1 => (intro w hSw; (try dsimp only at hSw); go_simp <;> with_reducible rfl)
    try simp only [Act.put, List.setIfInBounds_toArray, List.set_cons_zero, List.set_cons_succ]
    refine wpAnyH_take (i := 2) (oi := { dst := some 18, op := Op.move (Operand.tmp 7), type := 3, pos := "l06_chain.go:50", after := #[], guard := none }) (v := ?vh2) rfl (by kernel_rfl) (by kernel_rfl) (by kernel_rfl) (fun _ _ _ h => h) (Or.inl ⟨by rfl, ?hyh2⟩) hHeld ?_
    case hyh2 => (intro w hSw; (try dsimp only at hSw); go_simp <;> with_reducible rfl)
    try simp only [Act.put, List.setIfInBounds_toArray, List.set_cons_zero, List.set_cons_succ]
    refine wpAnyH_take (i := 3) (oi := { dst := some 19, op := Op.fieldAddr 96 (Operand.tmp 2) 1, type := 0, pos := "l06_chain.go:50", after := #[], guard := none }) (v := ?vh3) rfl (by kernel_rfl) (by kernel_rfl) (by kernel_rfl) (fun _ _ _ h => h) (Or.inl ⟨by rfl, ?hyh3⟩) hHeld ?_
    case hyh3 => (intro w hSw; (try dsimp only at hSw); go_simp <;> with_reducible rfl)
    try simp only [Act.put, List.setIfInBounds_toArray, List.set_cons_zero, List.set_cons_succ]
    refine wpAnyH_take (i := 4) (oi := { dst := some 20, op := Op.load 40 (Operand.tmp 19), type := 40, pos := "l06_chain.go:50", after := #[{ on := 3, ground := Ground.data }], guard := none }) (v := ?vh4) rfl (by kernel_rfl) (by kernel_rfl) (by kernel_rfl) (fun _ _ _ h => h) (Or.inl ⟨by rfl, ?hyh4⟩) hHeld ?_
    case hyh4 => (intro w hSw; (try dsimp only at hSw); go_simp <;> with_reducible rfl)
    try simp only [Act.put, List.setIfInBounds_toArray, List.set_cons_zero, List.set_cons_succ]
    refine wpAnyH_take (i := 5) (oi := { dst := some 21, op := Op.move (Operand.tmp 7), type := 3, pos := "l06_chain.go:50", after := #[], guard := none }) (v := ?vh5) rfl (by kernel_rfl) (by kernel_rfl) (by kernel_rfl) (fun _ _ _ h => h) (Or.inl ⟨by rfl, ?hyh5⟩) hHeld ?_
    case hyh5 => (intro w hSw; (try dsimp only at hSw); go_simp <;> with_reducible rfl)
    try simp only [Act.put, List.setIfInBounds_toArray, List.set_cons_zero, List.set_cons_succ]
    refine wpAnyH_take (i := 6) (oi := { dst := some 22, op := Op.indexAddr 40 (Operand.tmp 20) (Operand.tmp 21), type := 0, pos := "l06_chain.go:50", after := #[{ on := 4, ground := Ground.data }, { on := 5, ground := Ground.data }], guard := none }) (v := ?vh6) rfl (by kernel_rfl) (by kernel_rfl) (by kernel_rfl) (fun _ _ _ h => h) (Or.inl ⟨by rfl, ?hyh6⟩) hHeld ?_
    case hyh6 => (intro w hSw; (try dsimp only at hSw); go_simp <;> with_reducible rfl)
    try simp only [Act.put, List.setIfInBounds_toArray, List.set_cons_zero, List.set_cons_succ]
    refine wpAnyH_take (i := 7) (oi := { dst := some 23, op := Op.load 29 (Operand.tmp 22), type := 29, pos := "l06_chain.go:50", after := #[{ on := 6, ground := Ground.data }], guard := none }) (v := ?vh7) rfl (by kernel_rfl) (by kernel_rfl) (by kernel_rfl) (fun _ _ _ h => h) (Or.inl ⟨by rfl, ?hyh7⟩) hHeld ?_
    case hyh7 => (intro w hSw; (try dsimp only at hSw); go_simp <;> with_reducible rfl)
    try simp only [Act.put, List.setIfInBounds_toArray, List.set_cons_zero, List.set_cons_succ]
    refine wpAnyH_take (i := 8) (oi := { dst := some 24, op := Op.load 29 (Operand.tmp 3), type := 29, pos := "l06_chain.go:50", after := #[], guard := none }) (v := ?vh8) rfl (by kernel_rfl) (by kernel_rfl) (by kernel_rfl) (fun _ _ _ h => h) (Or.inl ⟨by rfl, ?hyh8⟩) hHeld ?_
    case hyh8 => (intro w hSw; (try dsimp only at hSw); go_simp <;> with_reducible rfl)
    try simp only [Act.put, List.setIfInBounds_toArray, List.set_cons_zero, List.set_cons_succ]
    refine wpAnyH_ready (rs := [9]) (by kernel_rfl) (by simp) ?_
    refine AllReadyH.cons (o := { dst := some 25, op := Op.call { callee := Callee.value (Operand.func 25), args := #[Operand.tmp 23, Operand.tmp 24], argTypes := #[29, 29] }, type := 29, pos := "l06_chain.go:50", after := #[{ on := 7, ground := Ground.data }, { on := 8, ground := Ground.data }], guard := none }) rfl (fun K hK => ?_) AllReadyH.nil
    go_simp
    refine (HC.out _ (Below.refl _ _).drew).mono ?_
    rintro r wyh9 ⟨⟨Mx, cx, rfl, hO⟩, hy⟩
    have hz : Below w2.heap.size w2 wyh9 := grow_on (Below.refl _ _).drew hy
    have HZ : Hid (Below w2.heap.size w2 wyh9) := hz
    have HO : Hid (OwnA w.heap.size wyh9 (Mx, cx, mergeX (nthP P k) x) ∧ w2.heap.size ≤ Mx) := ⟨(own_of_copy (x := mergeX (nthP P k) x) hO HS.out.2).down (by have := HW.out; show w.heap.size ≤ w2.drew.heap.size; simp; omega), hO.1⟩
    have hab := HAB2.out.grow hz
    obtain ⟨cs, h2, hcs, _⟩ := hab.outer
    obtain ⟨v0, p0⟩ : ∃ v, wyh9.cell? ⟨M, k * 4, none⟩ = some v := ⟨cs[k * 4]'(by omega), by rw [h2.cell]; simp⟩
    obtain ⟨v1, p1⟩ : ∃ v, wyh9.cell? ⟨M, k * 4 + 1, none⟩ = some v := ⟨cs[k * 4 + 1]'(by omega), by rw [h2.cell]; simp⟩
    obtain ⟨v2, p2⟩ : ∃ v, wyh9.cell? ⟨M, k * 4 + 2, none⟩ = some v := ⟨cs[k * 4 + 2]'(by omega), by rw [h2.cell]; simp⟩
    obtain ⟨v3, p3⟩ : ∃ v, wyh9.cell? ⟨M, k * 4 + 3, none⟩ = some v := ⟨cs[k * 4 + 3]'(by omega), by rw [h2.cell]; simp⟩
    have f0 := h2.frozen (k * 4)
    have f1 := h2.frozen (k * 4 + 1)
    have f2 := h2.frozen (k * 4 + 2)
    have f3 := h2.frozen (k * 4 + 3)
    have hMD : M ≠ w1.heap.size := fun e => chain_alarm (D2.out.grow hz) h2 e.symm
    clear hy hz hO hab h2 hcs
    clear hHeld
    refine hK.out _ _ (HSB.out _ (D2.out.grow HZ.out) (C2.out.grow HZ.out) (grow_on HB2.out HZ.out) (A2.out.grow HZ.out)) (fun hHeld => ?_)
    clear hK K
    try simp only [Act.put, List.setIfInBounds_toArray, List.set_cons_zero, List.set_cons_succ]
    refine wpAnyH_take (i := 10) (oi := { dst := some 26, op := Op.indexAddr 40 (Operand.tmp 17) (Operand.tmp 18), type := 0, pos := "l06_chain.go:50", after := #[{ on := 1, ground := Ground.data }, { on := 2, ground := Ground.data }, { on := 0, ground := Ground.phase }, { on := 1, ground := Ground.phase }, { on := 2, ground := Ground.phase }, { on := 3, ground := Ground.phase }, { on := 4, ground := Ground.phase }, { on := 5, ground := Ground.phase }, { on := 6, ground := Ground.phase }, { on := 7, ground := Ground.phase }, { on := 8, ground := Ground.phase }, { on := 9, ground := Ground.phase }], guard := none }) (v := ?vh10) rfl (by kernel_rfl) (by kernel_rfl) (by kernel_rfl) (fun _ _ _ h => h) (Or.inl ⟨by rfl, ?hyh10⟩) hHeld ?_
    case hyh10 => (intro w hSw; (try dsimp only at hSw); go_simp <;> with_reducible rfl)
    try simp only [Act.put, List.setIfInBounds_toArray, List.set_cons_zero, List.set_cons_succ]
    have hMC : M ≠ w.heap.size := by have := HM.out; omega
    have hMA : M ≠ w.heap.size + 1 := by have := HM.out; omega
    have hMR : M ≠ w.heap.size + 1 + 1 := by have := HM.out; omega
    have hMw : w.heap.size ≤ M := by have := HM.out; omega
    refine wpAnyH_ready (rs := [11]) (by kernel_rfl) (by simp) ?_
    refine AllReadyH.cons (o := { dst := none, op := Op.store 29 (Operand.tmp 26) (Operand.tmp 25), type := 0, pos := "l06_chain.go:50", after := #[{ on := 10, ground := Ground.data }, { on := 9, ground := Ground.data }, { on := 9, ground := Ground.chain }, { on := 0, ground := Ground.phase }, { on := 1, ground := Ground.phase }, { on := 2, ground := Ground.phase }, { on := 3, ground := Ground.phase }, { on := 4, ground := Ground.phase }, { on := 5, ground := Ground.phase }, { on := 6, ground := Ground.phase }, { on := 7, ground := Ground.phase }, { on := 8, ground := Ground.phase }, { on := 9, ground := Ground.phase }], guard := none }) rfl (fun K hK => ?_) AllReadyH.nil
    go_simp
    clear hHeld
    refine hK.out _ _ (HSB.out (put4W wyh9 M k (Mx, cx, mergeX (nthP P k) x)) (put4W_other (D2.out.grow HZ.out) hMD) (put4W_other (C2.out.grow HZ.out) hMC) (put4W_low (grow_on HB2.out HZ.out) hMw) (put4W_other (A2.out.grow HZ.out) hMA)) (fun hHeld => ?_)
    clear hK K
    try simp only [Act.put, List.setIfInBounds_toArray, List.set_cons_zero, List.set_cons_succ]
    refine wpAnyH_done (by kernel_rfl) ?_ _
    obtain ⟨W3, hW3⟩ : ∃ W3, put4W wyh9 M k (Mx, cx, mergeX (nthP P k) x) = W3 := ⟨_, rfl⟩
    obtain ⟨M3, hM3⟩ : ∃ M3, M3 = M := ⟨_, rfl⟩
    obtain ⟨c3, hc3⟩ : ∃ c3, c3 = P.length := ⟨_, rfl⟩
    have D3 : Hid (Blk W3 w1.heap.size #[.int .i64 f, .slice (some ⟨M3, 0, none⟩) P.length c3] 96) := by rw [← hW3, hM3, hc3]; exact put4W_other (D2.out.grow HZ.out) hMD
    have R3 : Hid (Blk W3 (w.heap.size + 1 + 1) #[.int .i64 0, .slice none 0 0] 96) := by rw [← hW3]; exact put4W_other (R2.out.grow HZ.out) hMR
    have HAB3 : Hid (AB w.heap.size W3 M3 c3 (putA rs k (Mx, cx, mergeX (nthP P k) x))) := by
      rw [← hW3, hM3, hc3]
      exact (HAB2.out.grow HZ.out).put (by rw [HRl.out]; exact hk) HO.out.1 (fun y hy => by have := (HAB2.out.rows y hy).lt; have := HO.out.2; show y.1 ≠ Mx; omega)
    have HB3 : Hid (Below w.heap.size w W3) := by rw [← hW3]; exact put4W_low (grow_on HB2.out HZ.out) hMw
    simp only [put4W, mergeX] at hW3
    rw [hW3]
    clear hW3 hM3 hc3 p0 p1 p2 p3 f0 f1 f2 f3 hHeld hMD hMC hMA hMR hMw
    have c0 : W3.cell? ⟨w1.heap.size, 0, none⟩ = some (.int .i64 f) := D3.out.cell 0
    have c1 : W3.cell? ⟨w1.heap.size, 1, none⟩ = some (.slice (some ⟨M3, 0, none⟩) (P.length) c3) := D3.out.cell 1
    have r0 : W3.cell? ⟨w.heap.size + 1 + 1, 0, none⟩ = some (.int .i64 0) := R3.out.cell 0
    have r1 : W3.cell? ⟨w.heap.size + 1 + 1, 1, none⟩ = some (.slice none 0 0) := R3.out.cell 1
    have f0 := R3.out.frozen 0
    have f1 := R3.out.frozen 1
    go_wp2
    have hs : Blk ((W3.setCell ⟨w.heap.size + 1 + 1, 0, none⟩ (.int .i64 f)).setCell ⟨w.heap.size + 1 + 1, 1, none⟩ (.slice (some ⟨M3, 0, none⟩) (P.length) c3)) (w.heap.size + 1 + 1) #[.int .i64 f, .slice (some ⟨M3, 0, none⟩) (P.length) c3] 96 := (R3.out.set 0 _).set 1 _
    have s0 := hs.cell 0
    have s1 := hs.cell 1
    refine bodyPost_ret (v := .tuple #[.agg #[.int .i64 f, .slice (some ⟨M3, 0, none⟩) (P.length) c3], .bool false]) (by simp [results, Tryz.results67, go_sem, s0, s1]) rfl ?_
    exact ⟨⟨M3, c3, putA rs k (Mx, cx, mergeX (nthP P k) x), retC (by rw [putA_len]; exact HRl.out.symm) HN.out, (ab_set2 HAB3.out R3.out _ _).down (by omega), HPP.out _ _⟩, set2 HB3.out (by omega) _ _⟩
end Go.Proofs.YtooninmicfcfoaaGreat.ChnP
namespace Go.Proofs.YtooninmicfcfoaaGreat.ChnD
open Go.RowKit
open Labs LabS Alms AlmS AlmM Over Blk Rnd Plc Lop App Rws ChnI ChnC ChnP
attribute [local go_sem] Oper.semAt_some

end Go.Proofs.YtooninmicfcfoaaGreat.ChnD
