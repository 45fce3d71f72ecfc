/-
  PROVED: impl.copiedChain gives a chain of the same alarms in memory of its own, each alarm's labels in a block of their own; nothing that was there is changed.
  PROVED: over a chain and an alarm in memory impl.PutChain answers as a plain function on lists says, in memory of its own; nothing that was there is changed.
  PROVED: over a chain in memory impl.DropOver answers as two plain functions on lists say, in memory of its own; nothing that was there is changed.
-/
import Derived.Test.YtooninmicfcfoaaGreatQChnI
import Derived.Deep.DeepCutAuto
import Derived.Deep.RegionHeld3
set_option linter.unusedVariables false
namespace Go.Proofs.YtooninmicfcfoaaGreat.ChnC
open Go.RowKit
open Labs LabS Alms AlmM Over Blk Rnd Plc Lop App Rws ChnI
attribute [local go_sem] Oper.semAt_some

theorem blkC_ne {w : World} {a : Nat} {cs ds : Array Value} (h : Blk w a cs 96) (k : Blk w a ds 127) : False := by
  unfold Blk at h k
  rw [h] at k
  injection k with k
  injection k with _ k
  exact absurd k (by decide)
theorem blkC_al {w : World} {a : Nat} {cs ds : Array Value} (h : Blk w a cs 96) (k : Blk w a ds 29) : False := by
  unfold Blk at h k
  rw [h] at k
  injection k with k
  injection k with _ k
  exact absurd k (by decide)
set_option maxRecDepth 100000 in
set_option maxHeartbeats 2000000 in
theorem implCopy_any (f : Int) (a : Option Addr) (cap : Nat) (P : List PAl) (w : World) (hr : RdA w a P) (hl : P.length ≤ 1048576) (hs : LenM P) :
    Calls Tryz.prog 94 #[.agg #[.int .i64 f, .slice a P.length cap]] w fun e w' => (∃ M rs, e = .returned (.agg #[.int .i64 f, .slice (some ⟨M, 0, none⟩) P.length P.length]) ∧ AB w.heap.size w' M P.length rs ∧ pals rs = P) ∧ Below w.heap.size w w' := by
  have HR : Hid (RdA w a P) := hr
  have HS : Hid (LenM P) := hs
  clear hr hs
  go_enter Tryz.func94, Tryz.ntmps94
  go_upto_region 1 with fail
  generalize hz : (w.alloc (.cells #[.int .i64 f, .slice a P.length cap] 96)).alloc (.cells #[.int .i64 0, .slice none 0 0] 96) = W
  have HX : Hid (Blk W w.heap.size #[.int .i64 f, .slice a P.length cap] 96) := by rw [← hz]; exact (Blk.new _ _ _).alloc _
  have HY : Hid (Blk W (w.heap.size + 1) #[.int .i64 0, .slice none 0 0] 96) := by rw [← hz]; exact Blk.new_at (by simp)
  have HB : Hid (Below w.heap.size w W) := by rw [← hz]; exact Go.Joins.below_alloc2 w _ _
  have HZ : Hid (w.heap.size + 2 = W.heap.size) := by unfold Hid; rw [← hz]; simp
  clear hz
  have HC : Hid (∀ y, Below W.heap.size W y → Calls Tryz.prog 138 #[.slice a P.length cap] y fun e w' => (∃ M rs, e = .returned (.slice (some ⟨M, 0, none⟩) P.length P.length) ∧ AB y.heap.size w' M P.length rs ∧ pals rs = P) ∧ Below y.heap.size y w') := fun y hy => implCopies_any a cap P y (HR.out.below (grow_on HB.out hy)) hl HS.out
  have HK : Hid (∀ w', Blk w' w.heap.size #[.int .i64 f, .slice a P.length cap] 96 → w'.cell? ⟨w.heap.size, 0, none⟩ = some (.int .i64 f) ∧ w'.cell? ⟨w.heap.size, 1, none⟩ = some (.slice a P.length cap)) := fun w' h => ⟨h.cell 0, h.cell 1⟩
  refine wp_region_held_drew (S := fun w' => w'.cell? ⟨w.heap.size, 0, none⟩ = some (.int .i64 f) ∧ w'.cell? ⟨w.heap.size, 1, none⟩ = some (.slice a P.length cap)) (by kernel_rfl) (HK.out _ HX.out.drew) (fun hHeld => ?_)
  refine wpAnyH_take (i := 0) (oi := { dst := some 3, op := Op.fieldAddr 96 (Operand.tmp 1) 0, type := 0, pos := "l06_chain.go:59", after := #[], guard := none }) (v := ?vq0) rfl (by kernel_rfl) (by kernel_rfl) (by kernel_rfl) (fun _ _ _ h => h) (Or.inl ⟨by rfl, ?hyq0⟩) hHeld ?_
  case hyq0 => (intro w hSw; (try dsimp only at hSw); go_simp <;> with_reducible rfl)
  try simp only [Act.put, List.setIfInBounds_toArray, List.set_cons_zero, List.set_cons_succ]
  refine wpAnyH_take (i := 1) (oi := { dst := some 4, op := Op.load 3 (Operand.tmp 3), type := 3, pos := "l06_chain.go:59", after := #[{ on := 0, ground := Ground.data }], guard := none }) (v := ?vq1) rfl (by kernel_rfl) (by kernel_rfl) (by kernel_rfl) (fun _ _ _ h => h) (Or.inl ⟨by rfl, ?hyq1⟩) hHeld ?_
  case hyq1 => (intro w hSw; (try dsimp only at hSw); go_simp <;> with_reducible rfl)
  try simp only [Act.put, List.setIfInBounds_toArray, List.set_cons_zero, List.set_cons_succ]
  refine wpAnyH_take (i := 2) (oi := { dst := some 5, op := Op.fieldAddr 96 (Operand.tmp 1) 1, type := 0, pos := "l06_chain.go:59", after := #[], guard := none }) (v := ?vq2) rfl (by kernel_rfl) (by kernel_rfl) (by kernel_rfl) (fun _ _ _ h => h) (Or.inl ⟨by rfl, ?hyq2⟩) hHeld ?_
  case hyq2 => (intro w hSw; (try dsimp only at hSw); go_simp <;> with_reducible rfl)
  try simp only [Act.put, List.setIfInBounds_toArray, List.set_cons_zero, List.set_cons_succ]
  refine wpAnyH_take (i := 3) (oi := { dst := some 6, op := Op.load 40 (Operand.tmp 5), type := 40, pos := "l06_chain.go:59", after := #[{ on := 2, ground := Ground.data }], guard := none }) (v := ?vq3) rfl (by kernel_rfl) (by kernel_rfl) (by kernel_rfl) (fun _ _ _ h => h) (Or.inl ⟨by rfl, ?hyq3⟩) hHeld ?_
  case hyq3 => (intro w hSw; (try dsimp only at hSw); go_simp <;> with_reducible rfl)
  try simp only [Act.put, List.setIfInBounds_toArray, List.set_cons_zero, List.set_cons_succ]
  refine wpAnyH_ready (rs := [4]) (by kernel_rfl) (by simp) ?_
  refine AllReadyH.cons (o := { dst := some 7, op := Op.call { callee := Callee.value (Operand.func 138), args := #[Operand.tmp 6], argTypes := #[40] }, type := 40, pos := "l06_chain.go:59", after := #[{ on := 3, ground := Ground.data }], guard := none }) rfl (fun K hK => ?_) AllReadyH.nil
  go_simp
  refine (HC.out _ (Below.refl _ _).drew).mono ?_
  rintro r wyq4 ⟨⟨M, rs, rfl, hab, hp⟩, hy⟩
  have HZ2 : Hid (Below W.heap.size W wyq4) := grow_on (Below.refl _ _).drew hy
  have HAB : Hid (AB w.heap.size wyq4 M P.length rs ∧ pals rs = P) := ⟨hab.down (by have := HZ.out; show w.heap.size ≤ W.drew.heap.size; simp; omega), hp⟩
  have hY := HY.out.grow HZ2.out
  have p0 : wyq4.cell? ⟨(w.heap.size + 1), 0, none⟩ = some (.int .i64 0) := hY.cell 0
  have p1 : wyq4.cell? ⟨(w.heap.size + 1), 1, none⟩ = some (.slice none 0 0) := hY.cell 1
  have f0 := hY.frozen 0
  have f1 := hY.frozen 1
  have HY4 : Hid (Blk wyq4 (w.heap.size + 1) #[.int .i64 0, .slice none 0 0] 96) := hY
  clear hab hp hy hY
  clear hHeld
  refine hK.out _ _ (HK.out _ (HX.out.grow HZ2.out)) (fun hHeld => ?_)
  clear hK K
  try simp only [Act.put, List.setIfInBounds_toArray, List.set_cons_zero, List.set_cons_succ]
  refine wpAnyH_take (i := 5) (oi := { dst := some 8, op := Op.build 96 #[(0, Operand.tmp 4), (1, Operand.tmp 7)], type := 96, pos := "l06_chain.go:59", after := #[{ on := 1, ground := Ground.data }, { on := 4, ground := Ground.data }], guard := none }) (v := ?vq5) rfl (by kernel_rfl) (by kernel_rfl) (by kernel_rfl) (fun _ _ _ h => h) (Or.inl ⟨by rfl, ?hyq5⟩) hHeld ?_
  case hyq5 => (intro w hSw; (try dsimp only at hSw); go_simp <;> with_reducible rfl)
  try simp only [Act.put, List.setIfInBounds_toArray, List.set_cons_zero, List.set_cons_succ]
  refine wpAnyH_ready (rs := [6]) (by kernel_rfl) (by simp) ?_
  refine AllReadyH.cons (o := { dst := none, op := Op.store 96 (Operand.tmp 2) (Operand.tmp 8), type := 0, pos := "l06_chain.go:59", after := #[{ on := 5, ground := Ground.data }, { on := 4, ground := Ground.chain }, { on := 0, ground := Ground.phase }, { on := 1, ground := Ground.phase }, { on := 2, ground := Ground.phase }, { on := 3, ground := Ground.phase }, { on := 4, ground := Ground.phase }, { on := 5, ground := Ground.phase }], guard := none }) rfl (fun K hK => ?_) AllReadyH.nil
  go_simp
  clear hHeld
  refine hK.out _ _ (HK.out ((wyq4.setCell ⟨(w.heap.size + 1), 0, none⟩ (.int .i64 f)).setCell ⟨(w.heap.size + 1), 1, none⟩ (.slice (some ⟨M, 0, none⟩) P.length P.length)) (((HX.out.grow HZ2.out).set_other (show (w.heap.size + 1) ≠ w.heap.size by omega) _).set_other (show (w.heap.size + 1) ≠ w.heap.size by omega) _)) (fun hHeld => ?_)
  clear hK K
  try simp only [Act.put, List.setIfInBounds_toArray, List.set_cons_zero, List.set_cons_succ]
  refine wpAnyH_done (by kernel_rfl) ?_ _
  have hs : Blk ((wyq4.setCell ⟨(w.heap.size + 1), 0, none⟩ (.int .i64 f)).setCell ⟨(w.heap.size + 1), 1, none⟩ (.slice (some ⟨M, 0, none⟩) P.length P.length)) (w.heap.size + 1) #[.int .i64 f, .slice (some ⟨M, 0, none⟩) P.length P.length] 96 := (HY4.out.set 0 _).set 1 _
  have s0 := hs.cell 0
  have s1 := hs.cell 1
  go_wp2_with fail
  refine bodyPost_ret (v := .agg #[.int .i64 f, .slice (some ⟨M, 0, none⟩) P.length P.length]) (by simp [results, Tryz.results94, go_sem, s0, s1]) rfl ?_
  refine ⟨⟨M, rs, rfl, Go.Proofs.YtooninmicfcfoaaGreat.ChnP.ab_moved HAB.out.1 (fun {cs} k1 => ?_) (fun {k} {cs} k1 => ?_), HAB.out.2⟩, Go.Proofs.YtooninmicfcfoaaGreat.ChnP.set2 (grow_on HB.out HZ2.out) (by omega) _ _⟩
  · have hne : (w.heap.size + 1) ≠ M := fun e => by subst e; exact blkC_al HY4.out k1
    exact (k1.set_other hne _).set_other hne _
  · have hne : (w.heap.size + 1) ≠ k := fun e => by subst e; exact blkC_ne HY4.out k1
    exact (k1.set_other hne _).set_other hne _
end Go.Proofs.YtooninmicfcfoaaGreat.ChnC
namespace Go.Proofs.YtooninmicfcfoaaGreat.ChnP
open Go.RowKit
open Labs LabS Alms AlmM Over Blk App Rws ChnI ChnC

theorem chain_alarm {w : World} {a b : Nat} {cs ds : Array Value} (h : Blk w a cs 96) (k : Blk w b ds 29) : a ≠ b := fun e => by
  subst e
  unfold Blk at h k
  rw [h] at k
  injection k with k
  injection k with _ k
  exact absurd k (by decide)
theorem chain_label {w : World} {a b : Nat} {cs ds : Array Value} (h : Blk w a cs 96) (k : Blk w b ds 127) : a ≠ b := fun e => by
  subst e
  exact blkC_ne h k
theorem ab_set2 {lo : Nat} {w : World} {M c N : Nat} {rs : List ARow} {cs : Array Value} (h : AB lo w M c rs) (hN : Blk w N cs 96) (v0 v1 : Value) : AB lo ((w.setCell ⟨N, 0, none⟩ v0).setCell ⟨N, 1, none⟩ v1) M c rs :=
  ab_moved h (fun k => (k.set_other (chain_alarm hN k) _).set_other (chain_alarm hN k) _) (fun k => (k.set_other (chain_label hN k) _).set_other (chain_label hN k) _)
theorem ab_set1 {lo : Nat} {w : World} {M c N : Nat} {rs : List ARow} {cs : Array Value} (h : AB lo w M c rs) (hN : Blk w N cs 96) (i : Nat) (v : Value) : AB lo (w.setCell ⟨N, i, none⟩ v) M c rs :=
  ab_moved h (fun k => k.set_other (chain_alarm hN k) _) (fun k => k.set_other (chain_label hN k) _)
theorem retC {M n n' c : Nat} {f : Int} {b b' : Bool} (h : n = n') (hb : b = b') : Ending.returned (.tuple #[.agg #[.int .i64 f, .slice (some ⟨M, 0, none⟩) n c], .bool b]) = .returned (.tuple #[.agg #[.int .i64 f, .slice (some ⟨M, 0, none⟩) n' c], .bool b']) := by rw [h, hb]
set_option maxRecDepth 100000 in
set_option maxHeartbeats 2000000 in
theorem implPut_any (f : Int) (a : Option Addr) (cap : Nat) (P : List PAl) (g o cap' : Nat) (x : PAl) (w : World) (hr : RdA w a P) (hx : Reads w (some ⟨g, o, none⟩) x.l) (hl : P.length ≤ 1048576) (hs : LenM P) (hxl : x.l.length ≤ 1048576) :
    Calls Tryz.prog 67 #[.agg #[.int .i64 f, .slice a P.length cap], .agg #[.slice (some ⟨g, o, none⟩) x.l.length cap', .int .i64 x.s, .int .i64 x.e, .string x.n]] w fun e w' => (∃ M c rs, e = .returned (.tuple #[.agg #[.int .i64 f, .slice (some ⟨M, 0, none⟩) rs.length c], .bool (isNew P x.l)]) ∧ AB w.heap.size w' M c rs ∧ pals rs = putL P x) ∧ Below w.heap.size w w' := by
  have HR : Hid (RdA w a P ∧ Reads w (some ⟨g, o, none⟩) x.l) := ⟨hr, hx⟩
  have HS : Hid (LenM P ∧ x.l.length ≤ 1048576) := ⟨hs, hxl⟩
  clear hr hx hs hxl
  obtain ⟨i0, hi, hz0, hz1, hz2⟩ := info_parts infoA
  go_enter Tryz.func67, Tryz.ntmps67
  go_wp2_with fail
  refine (implCopy_any f a cap P _ (HR.out.1.below (Alm.below3 w _ _ _)) hl HS.out.1).mono ?_
  rintro e w1 ⟨⟨M, rs, rfl, hAB, hP⟩, hb⟩
  have C1 : Hid (Blk w1 w.heap.size #[.int .i64 f, .slice a P.length cap] 96) := (((Blk.new _ _ _).alloc _).alloc _).grow hb
  have A1 : Hid (Blk w1 (w.heap.size + 1) #[.slice (some ⟨g, o, none⟩) x.l.length cap', .int .i64 x.s, .int .i64 x.e, .string x.n] 29) := ((Blk.new_at (by simp)).alloc _).grow hb
  have R1 : Hid (Blk w1 (w.heap.size + 1 + 1) #[.int .i64 0, .slice none 0 0] 96) := (Blk.new_at (by simp)).grow hb
  have HB1 : Hid (Below w.heap.size w w1) := grow_on (Alm.below3 w _ _ _) hb
  have HAB1 : Hid (AB w.heap.size w1 M P.length rs) := hAB.down (by simp; omega)
  have HM : Hid (w.heap.size + 3 ≤ M) := by have := hAB.at'; simp at this; exact this
  have HP : Hid (pals rs = P) := hP
  have HRl : Hid (rs.length = P.length) := by show _ = _; rw [← pals_len, hP]
  clear hb hAB hP
  generalize hDo : Obj.cells #[.int .i64 f, .slice (some ⟨M, 0, none⟩) P.length P.length] 96 = Do
  have cC0 : (w1.alloc Do).cell? ⟨w.heap.size, 0, none⟩ = some (.int .i64 f) := (C1.out.alloc _).cell 0
  have cC1 : (w1.alloc Do).cell? ⟨w.heap.size, 1, none⟩ = some (.slice a P.length cap) := (C1.out.alloc _).cell 1
  have cA0 : (w1.alloc Do).cell? ⟨w.heap.size + 1, 0, none⟩ = some (.slice (some ⟨g, o, none⟩) x.l.length cap') := (A1.out.alloc _).cell 0
  subst hDo
  rcases idx_cases P x.l with ⟨hq, hm⟩ | ⟨k, hq, hk, he, hj⟩
  · have HN : Hid (true = isNew P x.l) := (put_miss hm).2.symm
    have HPP : Hid (∀ M c, pals (rs ++ [(M, c, x)]) = putL P x) := fun M c => by rw [pals_app, HP.out, (put_miss hm).1]
    clear hm
    have HI : Hid (∀ y, Below w1.heap.size w1 y → Calls Tryz.prog 74 #[.agg #[.int .i64 f, .slice a P.length cap], .slice (some ⟨g, o, none⟩) x.l.length cap'] y fun e w' => e = .returned (.int .i64 (-1)) ∧ Below y.heap.size y w') := fun y hy => (implIn_any f a _ cap _ P x.l y (HR.out.1.below (grow_on HB1.out hy)) (HR.out.2.below (grow_on HB1.out hy)) hl (len_m HS.out.1) (by have := HS.out.2; unfold maxLen; omega)).mono fun e w' h => ⟨h.1.trans (ChnI.retI hq), h.2⟩
    go_wp2_with fail
    refine (HI.out _ (Go.Joins.below_alloc1 w1 _)).mono ?_
    rintro e w2 ⟨rfl, hb⟩
    clear cC0 cC1 cA0 HI hq
    have D2 : Hid (Blk w2 w1.heap.size #[.int .i64 f, .slice (some ⟨M, 0, none⟩) P.length P.length] 96) := (Blk.new _ _ _).grow hb
    have hb' := grow_on (Go.Joins.below_alloc1 w1 _) hb
    have C2 : Hid (Blk w2 w.heap.size #[.int .i64 f, .slice a P.length cap] 96) := C1.out.grow hb'
    have A2 : Hid (Blk w2 (w.heap.size + 1) #[.slice (some ⟨g, o, none⟩) x.l.length cap', .int .i64 x.s, .int .i64 x.e, .string x.n] 29) := A1.out.grow hb'
    have R2 : Hid (Blk w2 (w.heap.size + 1 + 1) #[.int .i64 0, .slice none 0 0] 96) := R1.out.grow hb'
    have HB2 : Hid (Below w.heap.size w w2) := grow_on HB1.out hb'
    have HAB2 : Hid (AB w.heap.size w2 M P.length rs) := HAB1.out.grow hb'
    have HW : Hid (w.heap.size + 3 ≤ w1.heap.size ∧ w1.heap.size < w2.heap.size) := ⟨by have := R1.out.lt; omega, D2.out.lt⟩
    clear hb hb' C1 A1 R1
    obtain ⟨xs, hox, hxl, hxs⟩ := HAB2.out.own
    have HXS : Hid (xs.length = rs.length * 4 ∧ ∀ i, i < rs.length → Four (fun k => xs[k]?) i (nthA rs i)) := ⟨hxl, hxs⟩
    have HOX : Hid (w2.ownsRow w.heap.size 29 4 (.slice (some ⟨M, 0, none⟩) P.length P.length) P.length xs) := by have := hox; rwa [HRl.out] at this
    clear hox hxl hxs
    have cA0 : w2.cell? ⟨w.heap.size + 1, 0, none⟩ = some (.slice (some ⟨g, o, none⟩) x.l.length cap') := A2.out.cell 0
    have HC : Hid (∀ y, Below w2.heap.size w2 y → Calls Tryz.prog 75 #[.agg #[.slice (some ⟨g, o, none⟩) x.l.length cap', .int .i64 x.s, .int .i64 x.e, .string x.n]] y fun r w' => (∃ Mx c, r = .returned (.agg #[.slice (some ⟨Mx, 0, none⟩) x.l.length c, .int .i64 x.s, .int .i64 x.e, .string x.n]) ∧ LabR.Own y w' Mx x.l) ∧ Below y.heap.size y w') := fun y hy => copyI_any _ _ _ _ _ _ y (HR.out.2.below (grow_on HB2.out hy)) HS.out.2
    clear cA0
    go_wp2
    have HSS0 : Hid (∀ w', Blk w' w1.heap.size #[.int .i64 f, .slice (some ⟨M, 0, none⟩) P.length P.length] 96 → Blk w' (w.heap.size + 1) #[.slice (some ⟨g, o, none⟩) x.l.length cap', .int .i64 x.s, .int .i64 x.e, .string x.n] 29 → w'.cell? ⟨w1.heap.size, 0, none⟩ = some (.int .i64 f) ∧ w'.cell? ⟨w1.heap.size, 1, none⟩ = some (.slice (some ⟨M, 0, none⟩) P.length P.length) ∧ w'.cell? ⟨w.heap.size + 1, 0, none⟩ = some (.slice (some ⟨g, o, none⟩) x.l.length cap') ∧ w'.cell? ⟨w.heap.size + 1, 1, none⟩ = some (.int .i64 x.s) ∧ w'.cell? ⟨w.heap.size + 1, 2, none⟩ = some (.int .i64 x.e) ∧ w'.cell? ⟨w.heap.size + 1, 3, none⟩ = some (.string x.n)) := fun w' h k => ⟨h.cell 0, h.cell 1, k.cell 0, k.cell 1, k.cell 2, k.cell 3⟩
    have HSA : Hid (∀ w', Blk w' (w.heap.size + 1) #[.slice (some ⟨g, o, none⟩) x.l.length cap', .int .i64 x.s, .int .i64 x.e, .string x.n] 29 → w'.cell? ⟨w.heap.size + 1, 0, none⟩ = some (.slice (some ⟨g, o, none⟩) x.l.length cap') ∧ w'.cell? ⟨w.heap.size + 1, 1, none⟩ = some (.int .i64 x.s) ∧ w'.cell? ⟨w.heap.size + 1, 2, none⟩ = some (.int .i64 x.e) ∧ w'.cell? ⟨w.heap.size + 1, 3, none⟩ = some (.string x.n)) := fun w' k => ⟨k.cell 0, k.cell 1, k.cell 2, k.cell 3⟩
    clear HSS0
    have hPl : (P.length : Int) = (rs.length : Int) := by have := HRl.out; omega
    refine wp_region_held_drew (S := fun w' => w'.cell? ⟨w.heap.size + 1, 0, none⟩ = some (.slice (some ⟨g, o, none⟩) x.l.length cap') ∧ w'.cell? ⟨w.heap.size + 1, 1, none⟩ = some (.int .i64 x.s) ∧ w'.cell? ⟨w.heap.size + 1, 2, none⟩ = some (.int .i64 x.e) ∧ w'.cell? ⟨w.heap.size + 1, 3, none⟩ = some (.string x.n)) (by kernel_rfl) (HSA.out _ A2.out.drew) (fun hHeld => ?_)
    refine wpAnyH_take (i := 0) (oi := { dst := some 28, op := Op.fieldAddr 96 (Operand.tmp 6) 1, type := 0, pos := "l06_chain.go:53", after := #[], guard := none }) (v := ?vp1) rfl (by kernel_rfl) (by kernel_rfl) (by kernel_rfl) (fun _ _ _ h => h) (Or.inl ⟨by rfl, ?hyp1⟩) hHeld ?_
    case hyp1 => (intro w hSw; (try dsimp only at hSw); go_simp <;> with_reducible rfl)
    try simp only [Act.put, List.setIfInBounds_toArray, List.set_cons_zero, List.set_cons_succ]
    refine wpAnyH_take (i := 2) (oi := { dst := some 30, op := Op.load 29 (Operand.tmp 3), type := 29, pos := "l06_chain.go:53", after := #[], guard := none }) (v := ?vp2) rfl (by kernel_rfl) (by kernel_rfl) (by kernel_rfl) (fun _ _ _ h => h) (Or.inl ⟨by rfl, ?hyp2⟩) hHeld ?_
    case hyp2 => (intro w hSw; (try dsimp only at hSw); go_simp <;> with_reducible rfl)
    try simp only [Act.put, List.setIfInBounds_toArray, List.set_cons_zero, List.set_cons_succ]
    refine wpAnyH_ready (rs := [1, 3]) (by kernel_rfl) (by simp) ?_
    refine AllReadyH.cons (o := { dst := some 29, op := Op.load 40 (Operand.tmp 28), type := 40, pos := "l06_chain.go:53", after := #[{ on := 0, ground := Ground.data }], guard := none }) rfl (fun K hK => ?_) ?_
    ·
      have cD1 : w2.drew.cell? ⟨w1.heap.size, 1, none⟩ = some (.slice (some ⟨M, 0, none⟩) P.length P.length) := (D2.out.drew).cell 1
      go_simp
      clear cD1
      clear hHeld
      refine hK.out _ _ (HSA.out _ (A2.out.drew)) (fun hHeld => ?_)
      clear hK K
      try simp only [Act.put, List.setIfInBounds_toArray, List.set_cons_zero, List.set_cons_succ]
      refine wpAnyH_ready (rs := [3]) (by kernel_rfl) (by simp) ?_
      refine AllReadyH.cons (o := { dst := some 31, op := Op.call { callee := Callee.value (Operand.func 75), args := #[Operand.tmp 30], argTypes := #[29] }, type := 29, pos := "l06_chain.go:53", after := #[{ on := 2, ground := Ground.data }], guard := none }) rfl (fun K hK => ?_) AllReadyH.nil
      go_simp
      refine (HC.out _ (Below.refl _ _).drew).mono ?_
      rintro r wyc ⟨⟨Mx, cx, rfl, hO⟩, hy⟩
      have HZ : Hid (Below w2.heap.size w2 wyc) := grow_on (Below.refl _ _).drew hy
      have HO : Hid (OwnA w.heap.size wyc (Mx, cx, x) ∧ w2.heap.size ≤ Mx) := ⟨(own_of_copy hO HS.out.2).down (by have := HW.out; show w.heap.size ≤ w2.drew.heap.size; simp; omega), hO.1⟩
      clear hy hO
      clear hHeld
      refine hK.out _ _ (HSA.out _ (A2.out.grow HZ.out)) (fun hHeld => ?_)
      clear hK K
      try simp only [Act.put, List.setIfInBounds_toArray, List.set_cons_zero, List.set_cons_succ]
      refine wpAnyH_ready (rs := [4]) (by kernel_rfl) (by simp) ?_
      refine AllReadyH.cons (o := { dst := some 32, op := Op.buildSlice 40 1 #[(0, Operand.tmp 31)], type := 40, pos := "l06_chain.go:53", after := #[{ on := 3, ground := Ground.data }], guard := none }) rfl (fun K hK => ?_) AllReadyH.nil
      go_simp
      clear hHeld
      refine hK.out _ _ (HSA.out _ ((A2.out.grow HZ.out).alloc _)) (fun hHeld => ?_)
      clear hK K
      try simp only [Act.put, List.setIfInBounds_toArray, List.set_cons_zero, List.set_cons_succ]
      refine wpAnyH_ready (rs := [5]) (by kernel_rfl) (by simp) ?_
      refine AllReadyH.cons (o := { dst := some 33, op := Op.call { callee := Callee.builtin Builtin.append, args := #[Operand.tmp 29, Operand.tmp 32], argTypes := #[40, 40] }, type := 40, pos := "l06_chain.go:53", after := #[{ on := 1, ground := Ground.data }, { on := 4, ground := Ground.data }, { on := 3, ground := Ground.chain }], guard := none }) rfl (fun K hK => ?_) AllReadyH.nil
      have HU : Hid (Below w2.heap.size w2 (wyc.alloc (.cells #[.slice (some ⟨Mx, 0, none⟩) x.l.length cx, .int .i64 x.s, .int .i64 x.e, .string x.n] 29))) := grow_on HZ.out (Go.Joins.below_alloc1 wyc _)
      refine step_app rfl _ _ 40 rfl 29 i0 (.agg #[.slice none 0 0, .int .i64 0, .int .i64 0, .string ByteArray.empty]) 4 56 Tryz.underlying40 hi hz0 hz1 hz2 rfl (by decide) w (grow_on HB2.out HU.out) (.slice (some ⟨M, 0, none⟩) P.length P.length) P.length xs rfl (own_grow HOX.out HU.out) ⟨wyc.heap.size, 0, none⟩ 1 1 (rowV (Mx, cx, x)) rfl rfl (blk_news (Blk.new _ _ _)) (row_one _) ?q1c ?q1d ?_
      case q1c => unfold maxLen; omega
      case q1d => omega
      intro v' wya hown hbel hg hat
      obtain ⟨M3, c3, rfl, hAB3⟩ := (HAB2.out.grow HU.out).app (HO.out.1.grow (Go.Joins.below_alloc1 wyc (.cells #[.slice (some ⟨Mx, 0, none⟩) x.l.length cx, .int .i64 x.s, .int .i64 x.e, .string x.n] 29))) (fun y hy => by have := (HAB2.out.rows y hy).lt; have := HO.out.2; show y.1 ≠ Mx; omega) HXS.out.1 HXS.out.2 (by rw [HRl.out]; exact hown) hg
      have A3 : Hid (Blk wya (w.heap.size + 1) #[.slice (some ⟨g, o, none⟩) x.l.length cap', .int .i64 x.s, .int .i64 x.e, .string x.n] 29) := blk_far (A2.out.grow HU.out) hg (fun e => by have := HM.out; have h : w.heap.size + 1 = M := Option.some.inj e; omega)
      have D3' : Hid (Blk wya w1.heap.size #[.int .i64 f, .slice (some ⟨M, 0, none⟩) P.length P.length] 96) := blk_far (D2.out.grow HU.out) hg (fun e => by obtain ⟨cu, hcu, _⟩ := (HAB2.out.grow HU.out).outer; exact chain_alarm (D2.out.grow HU.out) hcu (Option.some.inj e))
      have R3' : Hid (Blk wya (w.heap.size + 1 + 1) #[.int .i64 0, .slice none 0 0] 96) := blk_far (R2.out.grow HU.out) hg (fun e => by have := HM.out; have h : w.heap.size + 1 + 1 = M := Option.some.inj e; omega)
      have HAB3' : Hid (AB w.heap.size wya M3 c3 (rs ++ [(Mx, cx, x)])) := hAB3
      have HB3' : Hid (Below w.heap.size w wya) := hbel
      clear hown hbel hg hat hAB3
      rw [HRl.out]
      clear hHeld
      refine hK.out _ _ (HSA.out _ A3.out) (fun hHeld => ?_)
      clear hK K
      try simp only [Act.put, List.setIfInBounds_toArray, List.set_cons_zero, List.set_cons_succ]
      refine wpAnyH_take (i := 6) (oi := { dst := some 34, op := Op.fieldAddr 96 (Operand.tmp 6) 1, type := 0, pos := "l06_chain.go:53", after := #[{ on := 0, ground := Ground.phase }, { on := 1, ground := Ground.phase }, { on := 2, ground := Ground.phase }, { on := 3, ground := Ground.phase }, { on := 4, ground := Ground.phase }, { on := 5, ground := Ground.phase }], guard := none }) (v := ?vp7) rfl (by kernel_rfl) (by kernel_rfl) (by kernel_rfl) (fun _ _ _ h => h) (Or.inl ⟨by rfl, ?hyp7⟩) hHeld ?_
      case hyp7 => (intro w hSw; (try dsimp only at hSw); go_simp <;> with_reducible rfl)
      try simp only [Act.put, List.setIfInBounds_toArray, List.set_cons_zero, List.set_cons_succ]
      refine wpAnyH_ready (rs := [7]) (by kernel_rfl) (by simp) ?_
      refine AllReadyH.cons (o := { dst := none, op := Op.store 40 (Operand.tmp 34) (Operand.tmp 33), type := 0, pos := "l06_chain.go:53", after := #[{ on := 6, ground := Ground.data }, { on := 5, ground := Ground.data }, { on := 5, ground := Ground.chain }, { on := 0, ground := Ground.phase }, { on := 1, ground := Ground.phase }, { on := 2, ground := Ground.phase }, { on := 3, ground := Ground.phase }, { on := 4, ground := Ground.phase }, { on := 5, ground := Ground.phase }], guard := none }) rfl (fun K hK => ?_) AllReadyH.nil
      have cD1 : wya.cell? ⟨w1.heap.size, 1, none⟩ = some (.slice (some ⟨M, 0, none⟩) P.length P.length) := D3'.out.cell 1
      have fD1 := D3'.out.frozen 1
      go_simp
      clear cD1 fD1 hHeld
      have hne : w1.heap.size ≠ w.heap.size + 1 := by have := HW.out; omega
      refine hK.out _ _ (HSA.out _ (A3.out.set_other hne _)) (fun hHeld => ?_)
      clear hK K
      try simp only [Act.put, List.setIfInBounds_toArray, List.set_cons_zero, List.set_cons_succ]
      refine wpAnyH_done (by kernel_rfl) ?_ _
      have D3 : Hid (Blk (wya.setCell ⟨w1.heap.size, 1, none⟩ (.slice (some ⟨M3, 0, none⟩) (P.length + 1) c3)) w1.heap.size #[.int .i64 f, .slice (some ⟨M3, 0, none⟩) (P.length + 1) c3] 96) := D3'.out.set 1 _
      have R3 : Hid (Blk (wya.setCell ⟨w1.heap.size, 1, none⟩ (.slice (some ⟨M3, 0, none⟩) (P.length + 1) c3)) (w.heap.size + 1 + 1) #[.int .i64 0, .slice none 0 0] 96) := R3'.out.set_other (by have := HW.out; show w1.heap.size ≠ w.heap.size + 1 + 1; omega) _
      have HAB3 : Hid (AB w.heap.size (wya.setCell ⟨w1.heap.size, 1, none⟩ (.slice (some ⟨M3, 0, none⟩) (P.length + 1) c3)) M3 c3 (rs ++ [(Mx, cx, x)])) := ab_set1 HAB3'.out D3'.out _ _
      have HB3 : Hid (Below w.heap.size w (wya.setCell ⟨w1.heap.size, 1, none⟩ (.slice (some ⟨M3, 0, none⟩) (P.length + 1) c3))) := set_low HB3'.out (by have := HW.out; omega) _ _
      clear D3' R3' HAB3' HB3' A3 hHeld hne
      generalize wya.setCell ⟨w1.heap.size, 1, none⟩ (.slice (some ⟨M3, 0, none⟩) (P.length + 1) c3) = W3 at *
      have c0 : W3.cell? ⟨w1.heap.size, 0, none⟩ = some (.int .i64 f) := D3.out.cell 0
      have c1 : W3.cell? ⟨w1.heap.size, 1, none⟩ = some (.slice (some ⟨M3, 0, none⟩) (P.length + 1) c3) := D3.out.cell 1
      have r0 : W3.cell? ⟨w.heap.size + 1 + 1, 0, none⟩ = some (.int .i64 0) := R3.out.cell 0
      have r1 : W3.cell? ⟨w.heap.size + 1 + 1, 1, none⟩ = some (.slice none 0 0) := R3.out.cell 1
      have f0 := R3.out.frozen 0
      have f1 := R3.out.frozen 1
      go_wp2
      have hs : Blk ((W3.setCell ⟨w.heap.size + 1 + 1, 0, none⟩ (.int .i64 f)).setCell ⟨w.heap.size + 1 + 1, 1, none⟩ (.slice (some ⟨M3, 0, none⟩) (P.length + 1) c3)) (w.heap.size + 1 + 1) #[.int .i64 f, .slice (some ⟨M3, 0, none⟩) (P.length + 1) c3] 96 := (R3.out.set 0 _).set 1 _
      have s0 := hs.cell 0
      have s1 := hs.cell 1
      refine bodyPost_ret (v := .tuple #[.agg #[.int .i64 f, .slice (some ⟨M3, 0, none⟩) (P.length + 1) c3], .bool true]) (by simp [results, Tryz.results67, go_sem, s0, s1]) rfl ?_
      exact ⟨⟨M3, c3, rs ++ [(Mx, cx, x)], retC (by simp [HRl.out]) HN.out, (ab_set2 HAB3.out R3.out _ _).down (by omega), HPP.out _ _⟩, set2 HB3.out (by omega) _ _⟩
    refine AllReadyH.cons (o := { dst := some 31, op := Op.call { callee := Callee.value (Operand.func 75), args := #[Operand.tmp 30], argTypes := #[29] }, type := 29, pos := "l06_chain.go:53", after := #[{ on := 2, ground := Ground.data }], guard := none }) rfl (fun K hK => ?_) AllReadyH.nil
    go_simp
    refine (HC.out _ (Below.refl _ _).drew).mono ?_
    rintro r wyc ⟨⟨Mx, cx, rfl, hO⟩, hy⟩
    have HZ : Hid (Below w2.heap.size w2 wyc) := grow_on (Below.refl _ _).drew hy
    have HO : Hid (OwnA w.heap.size wyc (Mx, cx, x) ∧ w2.heap.size ≤ Mx) := ⟨(own_of_copy hO HS.out.2).down (by have := HW.out; show w.heap.size ≤ w2.drew.heap.size; simp; omega), hO.1⟩
    clear hy hO
    clear hHeld
    refine hK.out _ _ (HSA.out _ (A2.out.grow HZ.out)) (fun hHeld => ?_)
    clear hK K
    try simp only [Act.put, List.setIfInBounds_toArray, List.set_cons_zero, List.set_cons_succ]
    refine wpAnyH_ready (rs := [1, 4]) (by kernel_rfl) (by simp) ?_
    refine AllReadyH.cons (o := { dst := some 29, op := Op.load 40 (Operand.tmp 28), type := 40, pos := "l06_chain.go:53", after := #[{ on := 0, ground := Ground.data }], guard := none }) rfl (fun K hK => ?_) ?_
    ·
      have cD1 : wyc.cell? ⟨w1.heap.size, 1, none⟩ = some (.slice (some ⟨M, 0, none⟩) P.length P.length) := (D2.out.grow HZ.out).cell 1
      go_simp
      clear cD1
      clear hHeld
      refine hK.out _ _ (HSA.out _ (A2.out.grow HZ.out)) (fun hHeld => ?_)
      clear hK K
      try simp only [Act.put, List.setIfInBounds_toArray, List.set_cons_zero, List.set_cons_succ]
      refine wpAnyH_ready (rs := [4]) (by kernel_rfl) (by simp) ?_
      refine AllReadyH.cons (o := { dst := some 32, op := Op.buildSlice 40 1 #[(0, Operand.tmp 31)], type := 40, pos := "l06_chain.go:53", after := #[{ on := 3, ground := Ground.data }], guard := none }) rfl (fun K hK => ?_) AllReadyH.nil
      go_simp
      clear hHeld
      refine hK.out _ _ (HSA.out _ ((A2.out.grow HZ.out).alloc _)) (fun hHeld => ?_)
      clear hK K
      try simp only [Act.put, List.setIfInBounds_toArray, List.set_cons_zero, List.set_cons_succ]
      refine wpAnyH_ready (rs := [5]) (by kernel_rfl) (by simp) ?_
      refine AllReadyH.cons (o := { dst := some 33, op := Op.call { callee := Callee.builtin Builtin.append, args := #[Operand.tmp 29, Operand.tmp 32], argTypes := #[40, 40] }, type := 40, pos := "l06_chain.go:53", after := #[{ on := 1, ground := Ground.data }, { on := 4, ground := Ground.data }, { on := 3, ground := Ground.chain }], guard := none }) rfl (fun K hK => ?_) AllReadyH.nil
      have HU : Hid (Below w2.heap.size w2 (wyc.alloc (.cells #[.slice (some ⟨Mx, 0, none⟩) x.l.length cx, .int .i64 x.s, .int .i64 x.e, .string x.n] 29))) := grow_on HZ.out (Go.Joins.below_alloc1 wyc _)
      refine step_app rfl _ _ 40 rfl 29 i0 (.agg #[.slice none 0 0, .int .i64 0, .int .i64 0, .string ByteArray.empty]) 4 56 Tryz.underlying40 hi hz0 hz1 hz2 rfl (by decide) w (grow_on HB2.out HU.out) (.slice (some ⟨M, 0, none⟩) P.length P.length) P.length xs rfl (own_grow HOX.out HU.out) ⟨wyc.heap.size, 0, none⟩ 1 1 (rowV (Mx, cx, x)) rfl rfl (blk_news (Blk.new _ _ _)) (row_one _) ?q2c ?q2d ?_
      case q2c => unfold maxLen; omega
      case q2d => omega
      intro v' wya hown hbel hg hat
      obtain ⟨M3, c3, rfl, hAB3⟩ := (HAB2.out.grow HU.out).app (HO.out.1.grow (Go.Joins.below_alloc1 wyc (.cells #[.slice (some ⟨Mx, 0, none⟩) x.l.length cx, .int .i64 x.s, .int .i64 x.e, .string x.n] 29))) (fun y hy => by have := (HAB2.out.rows y hy).lt; have := HO.out.2; show y.1 ≠ Mx; omega) HXS.out.1 HXS.out.2 (by rw [HRl.out]; exact hown) hg
      have A3 : Hid (Blk wya (w.heap.size + 1) #[.slice (some ⟨g, o, none⟩) x.l.length cap', .int .i64 x.s, .int .i64 x.e, .string x.n] 29) := blk_far (A2.out.grow HU.out) hg (fun e => by have := HM.out; have h : w.heap.size + 1 = M := Option.some.inj e; omega)
      have D3' : Hid (Blk wya w1.heap.size #[.int .i64 f, .slice (some ⟨M, 0, none⟩) P.length P.length] 96) := blk_far (D2.out.grow HU.out) hg (fun e => by obtain ⟨cu, hcu, _⟩ := (HAB2.out.grow HU.out).outer; exact chain_alarm (D2.out.grow HU.out) hcu (Option.some.inj e))
      have R3' : Hid (Blk wya (w.heap.size + 1 + 1) #[.int .i64 0, .slice none 0 0] 96) := blk_far (R2.out.grow HU.out) hg (fun e => by have := HM.out; have h : w.heap.size + 1 + 1 = M := Option.some.inj e; omega)
      have HAB3' : Hid (AB w.heap.size wya M3 c3 (rs ++ [(Mx, cx, x)])) := hAB3
      have HB3' : Hid (Below w.heap.size w wya) := hbel
      clear hown hbel hg hat hAB3
      rw [HRl.out]
      clear hHeld
      refine hK.out _ _ (HSA.out _ A3.out) (fun hHeld => ?_)
      clear hK K
      try simp only [Act.put, List.setIfInBounds_toArray, List.set_cons_zero, List.set_cons_succ]
      refine wpAnyH_take (i := 6) (oi := { dst := some 34, op := Op.fieldAddr 96 (Operand.tmp 6) 1, type := 0, pos := "l06_chain.go:53", after := #[{ on := 0, ground := Ground.phase }, { on := 1, ground := Ground.phase }, { on := 2, ground := Ground.phase }, { on := 3, ground := Ground.phase }, { on := 4, ground := Ground.phase }, { on := 5, ground := Ground.phase }], guard := none }) (v := ?vp13) rfl (by kernel_rfl) (by kernel_rfl) (by kernel_rfl) (fun _ _ _ h => h) (Or.inl ⟨by rfl, ?hyp13⟩) hHeld ?_
      case hyp13 => (intro w hSw; (try dsimp only at hSw); go_simp <;> with_reducible rfl)
      try simp only [Act.put, List.setIfInBounds_toArray, List.set_cons_zero, List.set_cons_succ]
      refine wpAnyH_ready (rs := [7]) (by kernel_rfl) (by simp) ?_
      refine AllReadyH.cons (o := { dst := none, op := Op.store 40 (Operand.tmp 34) (Operand.tmp 33), type := 0, pos := "l06_chain.go:53", after := #[{ on := 6, ground := Ground.data }, { on := 5, ground := Ground.data }, { on := 5, ground := Ground.chain }, { on := 0, ground := Ground.phase }, { on := 1, ground := Ground.phase }, { on := 2, ground := Ground.phase }, { on := 3, ground := Ground.phase }, { on := 4, ground := Ground.phase }, { on := 5, ground := Ground.phase }], guard := none }) rfl (fun K hK => ?_) AllReadyH.nil
      have cD1 : wya.cell? ⟨w1.heap.size, 1, none⟩ = some (.slice (some ⟨M, 0, none⟩) P.length P.length) := D3'.out.cell 1
      have fD1 := D3'.out.frozen 1
      go_simp
      clear cD1 fD1 hHeld
      have hne : w1.heap.size ≠ w.heap.size + 1 := by have := HW.out; omega
      refine hK.out _ _ (HSA.out _ (A3.out.set_other hne _)) (fun hHeld => ?_)
      clear hK K
      try simp only [Act.put, List.setIfInBounds_toArray, List.set_cons_zero, List.set_cons_succ]
      refine wpAnyH_done (by kernel_rfl) ?_ _
      have D3 : Hid (Blk (wya.setCell ⟨w1.heap.size, 1, none⟩ (.slice (some ⟨M3, 0, none⟩) (P.length + 1) c3)) w1.heap.size #[.int .i64 f, .slice (some ⟨M3, 0, none⟩) (P.length + 1) c3] 96) := D3'.out.set 1 _
      have R3 : Hid (Blk (wya.setCell ⟨w1.heap.size, 1, none⟩ (.slice (some ⟨M3, 0, none⟩) (P.length + 1) c3)) (w.heap.size + 1 + 1) #[.int .i64 0, .slice none 0 0] 96) := R3'.out.set_other (by have := HW.out; show w1.heap.size ≠ w.heap.size + 1 + 1; omega) _
      have HAB3 : Hid (AB w.heap.size (wya.setCell ⟨w1.heap.size, 1, none⟩ (.slice (some ⟨M3, 0, none⟩) (P.length + 1) c3)) M3 c3 (rs ++ [(Mx, cx, x)])) := ab_set1 HAB3'.out D3'.out _ _
      have HB3 : Hid (Below w.heap.size w (wya.setCell ⟨w1.heap.size, 1, none⟩ (.slice (some ⟨M3, 0, none⟩) (P.length + 1) c3))) := set_low HB3'.out (by have := HW.out; omega) _ _
      clear D3' R3' HAB3' HB3' A3 hHeld hne
      generalize wya.setCell ⟨w1.heap.size, 1, none⟩ (.slice (some ⟨M3, 0, none⟩) (P.length + 1) c3) = W3 at *
      have c0 : W3.cell? ⟨w1.heap.size, 0, none⟩ = some (.int .i64 f) := D3.out.cell 0
      have c1 : W3.cell? ⟨w1.heap.size, 1, none⟩ = some (.slice (some ⟨M3, 0, none⟩) (P.length + 1) c3) := D3.out.cell 1
      have r0 : W3.cell? ⟨w.heap.size + 1 + 1, 0, none⟩ = some (.int .i64 0) := R3.out.cell 0
      have r1 : W3.cell? ⟨w.heap.size + 1 + 1, 1, none⟩ = some (.slice none 0 0) := R3.out.cell 1
      have f0 := R3.out.frozen 0
      have f1 := R3.out.frozen 1
      go_wp2
      have hs : Blk ((W3.setCell ⟨w.heap.size + 1 + 1, 0, none⟩ (.int .i64 f)).setCell ⟨w.heap.size + 1 + 1, 1, none⟩ (.slice (some ⟨M3, 0, none⟩) (P.length + 1) c3)) (w.heap.size + 1 + 1) #[.int .i64 f, .slice (some ⟨M3, 0, none⟩) (P.length + 1) c3] 96 := (R3.out.set 0 _).set 1 _
      have s0 := hs.cell 0
      have s1 := hs.cell 1
      refine bodyPost_ret (v := .tuple #[.agg #[.int .i64 f, .slice (some ⟨M3, 0, none⟩) (P.length + 1) c3], .bool true]) (by simp [results, Tryz.results67, go_sem, s0, s1]) rfl ?_
      exact ⟨⟨M3, c3, rs ++ [(Mx, cx, x)], retC (by simp [HRl.out]) HN.out, (ab_set2 HAB3.out R3.out _ _).down (by omega), HPP.out _ _⟩, set2 HB3.out (by omega) _ _⟩
    refine AllReadyH.cons (o := { dst := some 32, op := Op.buildSlice 40 1 #[(0, Operand.tmp 31)], type := 40, pos := "l06_chain.go:53", after := #[{ on := 3, ground := Ground.data }], guard := none }) rfl (fun K hK => ?_) AllReadyH.nil
    go_simp
    clear hHeld
    refine hK.out _ _ (HSA.out _ ((A2.out.grow HZ.out).alloc _)) (fun hHeld => ?_)
    clear hK K
    try simp only [Act.put, List.setIfInBounds_toArray, List.set_cons_zero, List.set_cons_succ]
    refine wpAnyH_ready (rs := [1]) (by kernel_rfl) (by simp) ?_
    refine AllReadyH.cons (o := { dst := some 29, op := Op.load 40 (Operand.tmp 28), type := 40, pos := "l06_chain.go:53", after := #[{ on := 0, ground := Ground.data }], guard := none }) rfl (fun K hK => ?_) AllReadyH.nil
    have cD1 : (wyc.alloc (.cells #[.slice (some ⟨Mx, 0, none⟩) x.l.length cx, .int .i64 x.s, .int .i64 x.e, .string x.n] 29)).cell? ⟨w1.heap.size, 1, none⟩ = some (.slice (some ⟨M, 0, none⟩) P.length P.length) := ((D2.out.grow HZ.out).alloc _).cell 1
    go_simp
    clear cD1
    clear hHeld
    refine hK.out _ _ (HSA.out _ ((A2.out.grow HZ.out).alloc _)) (fun hHeld => ?_)
    clear hK K
    try simp only [Act.put, List.setIfInBounds_toArray, List.set_cons_zero, List.set_cons_succ]
    refine wpAnyH_ready (rs := [5]) (by kernel_rfl) (by simp) ?_
    refine AllReadyH.cons (o := { dst := some 33, op := Op.call { callee := Callee.builtin Builtin.append, args := #[Operand.tmp 29, Operand.tmp 32], argTypes := #[40, 40] }, type := 40, pos := "l06_chain.go:53", after := #[{ on := 1, ground := Ground.data }, { on := 4, ground := Ground.data }, { on := 3, ground := Ground.chain }], guard := none }) rfl (fun K hK => ?_) AllReadyH.nil
    have HU : Hid (Below w2.heap.size w2 (wyc.alloc (.cells #[.slice (some ⟨Mx, 0, none⟩) x.l.length cx, .int .i64 x.s, .int .i64 x.e, .string x.n] 29))) := grow_on HZ.out (Go.Joins.below_alloc1 wyc _)
    refine step_app rfl _ _ 40 rfl 29 i0 (.agg #[.slice none 0 0, .int .i64 0, .int .i64 0, .string ByteArray.empty]) 4 56 Tryz.underlying40 hi hz0 hz1 hz2 rfl (by decide) w (grow_on HB2.out HU.out) (.slice (some ⟨M, 0, none⟩) P.length P.length) P.length xs rfl (own_grow HOX.out HU.out) ⟨wyc.heap.size, 0, none⟩ 1 1 (rowV (Mx, cx, x)) rfl rfl (blk_news (Blk.new _ _ _)) (row_one _) ?q3c ?q3d ?_
    case q3c => unfold maxLen; omega
    case q3d => omega
    intro v' wya hown hbel hg hat
    obtain ⟨M3, c3, rfl, hAB3⟩ := (HAB2.out.grow HU.out).app (HO.out.1.grow (Go.Joins.below_alloc1 wyc (.cells #[.slice (some ⟨Mx, 0, none⟩) x.l.length cx, .int .i64 x.s, .int .i64 x.e, .string x.n] 29))) (fun y hy => by have := (HAB2.out.rows y hy).lt; have := HO.out.2; show y.1 ≠ Mx; omega) HXS.out.1 HXS.out.2 (by rw [HRl.out]; exact hown) hg
    have A3 : Hid (Blk wya (w.heap.size + 1) #[.slice (some ⟨g, o, none⟩) x.l.length cap', .int .i64 x.s, .int .i64 x.e, .string x.n] 29) := blk_far (A2.out.grow HU.out) hg (fun e => by have := HM.out; have h : w.heap.size + 1 = M := Option.some.inj e; omega)
    have D3' : Hid (Blk wya w1.heap.size #[.int .i64 f, .slice (some ⟨M, 0, none⟩) P.length P.length] 96) := blk_far (D2.out.grow HU.out) hg (fun e => by obtain ⟨cu, hcu, _⟩ := (HAB2.out.grow HU.out).outer; exact chain_alarm (D2.out.grow HU.out) hcu (Option.some.inj e))
    have R3' : Hid (Blk wya (w.heap.size + 1 + 1) #[.int .i64 0, .slice none 0 0] 96) := blk_far (R2.out.grow HU.out) hg (fun e => by have := HM.out; have h : w.heap.size + 1 + 1 = M := Option.some.inj e; omega)
    have HAB3' : Hid (AB w.heap.size wya M3 c3 (rs ++ [(Mx, cx, x)])) := hAB3
    have HB3' : Hid (Below w.heap.size w wya) := hbel
    clear hown hbel hg hat hAB3
    rw [HRl.out]
    clear hHeld
    refine hK.out _ _ (HSA.out _ A3.out) (fun hHeld => ?_)
    clear hK K
    try simp only [Act.put, List.setIfInBounds_toArray, List.set_cons_zero, List.set_cons_succ]
    refine wpAnyH_take (i := 6) (oi := { dst := some 34, op := Op.fieldAddr 96 (Operand.tmp 6) 1, type := 0, pos := "l06_chain.go:53", after := #[{ on := 0, ground := Ground.phase }, { on := 1, ground := Ground.phase }, { on := 2, ground := Ground.phase }, { on := 3, ground := Ground.phase }, { on := 4, ground := Ground.phase }, { on := 5, ground := Ground.phase }], guard := none }) (v := ?vp18) rfl (by kernel_rfl) (by kernel_rfl) (by kernel_rfl) (fun _ _ _ h => h) (Or.inl ⟨by rfl, ?hyp18⟩) hHeld ?_
    case hyp18 => (intro w hSw; (try dsimp only at hSw); go_simp <;> with_reducible rfl)
    try simp only [Act.put, List.setIfInBounds_toArray, List.set_cons_zero, List.set_cons_succ]
    refine wpAnyH_ready (rs := [7]) (by kernel_rfl) (by simp) ?_
    refine AllReadyH.cons (o := { dst := none, op := Op.store 40 (Operand.tmp 34) (Operand.tmp 33), type := 0, pos := "l06_chain.go:53", after := #[{ on := 6, ground := Ground.data }, { on := 5, ground := Ground.data }, { on := 5, ground := Ground.chain }, { on := 0, ground := Ground.phase }, { on := 1, ground := Ground.phase }, { on := 2, ground := Ground.phase }, { on := 3, ground := Ground.phase }, { on := 4, ground := Ground.phase }, { on := 5, ground := Ground.phase }], guard := none }) rfl (fun K hK => ?_) AllReadyH.nil
    have cD1 : wya.cell? ⟨w1.heap.size, 1, none⟩ = some (.slice (some ⟨M, 0, none⟩) P.length P.length) := D3'.out.cell 1
    have fD1 := D3'.out.frozen 1
    go_simp
    clear cD1 fD1 hHeld
    have hne : w1.heap.size ≠ w.heap.size + 1 := by have := HW.out; omega
    refine hK.out _ _ (HSA.out _ (A3.out.set_other hne _)) (fun hHeld => ?_)
    clear hK K
    try simp only [Act.put, List.setIfInBounds_toArray, List.set_cons_zero, List.set_cons_succ]
    refine wpAnyH_done (by kernel_rfl) ?_ _
    have D3 : Hid (Blk (wya.setCell ⟨w1.heap.size, 1, none⟩ (.slice (some ⟨M3, 0, none⟩) (P.length + 1) c3)) w1.heap.size #[.int .i64 f, .slice (some ⟨M3, 0, none⟩) (P.length + 1) c3] 96) := D3'.out.set 1 _
    have R3 : Hid (Blk (wya.setCell ⟨w1.heap.size, 1, none⟩ (.slice (some ⟨M3, 0, none⟩) (P.length + 1) c3)) (w.heap.size + 1 + 1) #[.int .i64 0, .slice none 0 0] 96) := R3'.out.set_other (by have := HW.out; show w1.heap.size ≠ w.heap.size + 1 + 1; omega) _
    have HAB3 : Hid (AB w.heap.size (wya.setCell ⟨w1.heap.size, 1, none⟩ (.slice (some ⟨M3, 0, none⟩) (P.length + 1) c3)) M3 c3 (rs ++ [(Mx, cx, x)])) := ab_set1 HAB3'.out D3'.out _ _
    have HB3 : Hid (Below w.heap.size w (wya.setCell ⟨w1.heap.size, 1, none⟩ (.slice (some ⟨M3, 0, none⟩) (P.length + 1) c3))) := set_low HB3'.out (by have := HW.out; omega) _ _
    clear D3' R3' HAB3' HB3' A3 hHeld hne
    generalize wya.setCell ⟨w1.heap.size, 1, none⟩ (.slice (some ⟨M3, 0, none⟩) (P.length + 1) c3) = W3 at *
    have c0 : W3.cell? ⟨w1.heap.size, 0, none⟩ = some (.int .i64 f) := D3.out.cell 0
    have c1 : W3.cell? ⟨w1.heap.size, 1, none⟩ = some (.slice (some ⟨M3, 0, none⟩) (P.length + 1) c3) := D3.out.cell 1
    have r0 : W3.cell? ⟨w.heap.size + 1 + 1, 0, none⟩ = some (.int .i64 0) := R3.out.cell 0
    have r1 : W3.cell? ⟨w.heap.size + 1 + 1, 1, none⟩ = some (.slice none 0 0) := R3.out.cell 1
    have f0 := R3.out.frozen 0
    have f1 := R3.out.frozen 1
    go_wp2
    have hs : Blk ((W3.setCell ⟨w.heap.size + 1 + 1, 0, none⟩ (.int .i64 f)).setCell ⟨w.heap.size + 1 + 1, 1, none⟩ (.slice (some ⟨M3, 0, none⟩) (P.length + 1) c3)) (w.heap.size + 1 + 1) #[.int .i64 f, .slice (some ⟨M3, 0, none⟩) (P.length + 1) c3] 96 := (R3.out.set 0 _).set 1 _
    have s0 := hs.cell 0
    have s1 := hs.cell 1
    refine bodyPost_ret (v := .tuple #[.agg #[.int .i64 f, .slice (some ⟨M3, 0, none⟩) (P.length + 1) c3], .bool true]) (by simp [results, Tryz.results67, go_sem, s0, s1]) rfl ?_
    exact ⟨⟨M3, c3, rs ++ [(Mx, cx, x)], retC (by simp [HRl.out]) HN.out, (ab_set2 HAB3.out R3.out _ _).down (by omega), HPP.out _ _⟩, set2 HB3.out (by omega) _ _⟩
  · have HN : Hid (false = isNew P x.l) := (put_hit hj he hk).2.symm
    have HPP : Hid (∀ M c, pals (putA rs k (M, c, mergeX (nthP P k) x)) = putL P x) := fun M c => by rw [pals_put, HP.out, (put_hit hj he hk).1]
    clear hj he
    have HI : Hid (∀ y, Below w1.heap.size w1 y → Calls Tryz.prog 74 #[.agg #[.int .i64 f, .slice a P.length cap], .slice (some ⟨g, o, none⟩) x.l.length cap'] y fun e w' => e = .returned (.int .i64 (k)) ∧ Below y.heap.size y w') := fun y hy => (implIn_any f a _ cap _ P x.l y (HR.out.1.below (grow_on HB1.out hy)) (HR.out.2.below (grow_on HB1.out hy)) hl (len_m HS.out.1) (by have := HS.out.2; unfold maxLen; omega)).mono fun e w' h => ⟨h.1.trans (ChnI.retI hq), h.2⟩
    go_wp2_with fail
    refine (HI.out _ (Go.Joins.below_alloc1 w1 _)).mono ?_
    rintro e w2 ⟨rfl, hb⟩
    clear cC0 cC1 cA0 HI hq
    have D2 : Hid (Blk w2 w1.heap.size #[.int .i64 f, .slice (some ⟨M, 0, none⟩) P.length P.length] 96) := (Blk.new _ _ _).grow hb
    have hb' := grow_on (Go.Joins.below_alloc1 w1 _) hb
    have C2 : Hid (Blk w2 w.heap.size #[.int .i64 f, .slice a P.length cap] 96) := C1.out.grow hb'
    have A2 : Hid (Blk w2 (w.heap.size + 1) #[.slice (some ⟨g, o, none⟩) x.l.length cap', .int .i64 x.s, .int .i64 x.e, .string x.n] 29) := A1.out.grow hb'
    have R2 : Hid (Blk w2 (w.heap.size + 1 + 1) #[.int .i64 0, .slice none 0 0] 96) := R1.out.grow hb'
    have HB2 : Hid (Below w.heap.size w w2) := grow_on HB1.out hb'
    have HAB2 : Hid (AB w.heap.size w2 M P.length rs) := HAB1.out.grow hb'
    have HW : Hid (w.heap.size + 3 ≤ w1.heap.size ∧ w1.heap.size < w2.heap.size) := ⟨by have := R1.out.lt; omega, D2.out.lt⟩
    clear hb hb' C1 A1 R1
    obtain ⟨b, off, rfl, hb, ad, cp, hat⟩ := HR.out.1.get hk
    have b0 := hat.c0
    have b1 := hat.c1
    have b2 := hat.c2
    have b3 := hat.c3
    have HBB : Hid (b < w.heap.size) := hb
    have hk0 : ¬ (k : Int) < 0 := by omega
    have hk1 : (k : Int) < (P.length : Int) := by omega
    have hk2 : (0 : Int) ≤ (k : Int) := by omega
    have HC : Hid (∀ y, Below w2.heap.size w2 y → Calls Tryz.prog 25 #[.agg #[.slice ad (nthP P k).l.length cp, .int .i64 (nthP P k).s, .int .i64 (nthP P k).e, .string (nthP P k).n], .agg #[.slice (some ⟨g, o, none⟩) x.l.length cap', .int .i64 x.s, .int .i64 x.e, .string x.n]] y fun r w' => (∃ Mx c, r = .returned (.agg #[.slice (some ⟨Mx, 0, none⟩) x.l.length c, .int .i64 (startB (nthP P k).s (nthP P k).e x.s x.e), .int .i64 x.e, .string x.n]) ∧ LabR.Own y w' Mx x.l) ∧ Below y.heap.size y w') := fun y hy => implMerge_any _ _ _ _ _ _ _ _ _ _ _ _ _ y (HR.out.2.below (grow_on HB2.out hy)) HS.out.2
    go_wp2
    have HSB : Hid (∀ w', Blk w' w1.heap.size #[.int .i64 f, .slice (some ⟨M, 0, none⟩) P.length P.length] 96 → Blk w' w.heap.size #[.int .i64 f, .slice (some ⟨b, off, none⟩) P.length cap] 96 → Below w.heap.size w w' → Blk w' (w.heap.size + 1) #[.slice (some ⟨g, o, none⟩) x.l.length cap', .int .i64 x.s, .int .i64 x.e, .string x.n] 29 → w'.cell? ⟨w1.heap.size, 1, none⟩ = some (.slice (some ⟨M, 0, none⟩) P.length P.length) ∧ w'.cell? ⟨w.heap.size, 1, none⟩ = some (.slice (some ⟨b, off, none⟩) P.length cap) ∧ w'.cell? ⟨b, off + k * 4, none⟩ = some (.slice ad (nthP P k).l.length cp) ∧ w'.cell? ⟨b, off + k * 4 + 1, none⟩ = some (.int .i64 (nthP P k).s) ∧ w'.cell? ⟨b, off + k * 4 + 2, none⟩ = some (.int .i64 (nthP P k).e) ∧ w'.cell? ⟨b, off + k * 4 + 3, none⟩ = some (.string (nthP P k).n) ∧ w'.cell? ⟨w.heap.size + 1, 0, none⟩ = some (.slice (some ⟨g, o, none⟩) x.l.length cap') ∧ w'.cell? ⟨w.heap.size + 1, 1, none⟩ = some (.int .i64 x.s) ∧ w'.cell? ⟨w.heap.size + 1, 2, none⟩ = some (.int .i64 x.e) ∧ w'.cell? ⟨w.heap.size + 1, 3, none⟩ = some (.string x.n)) := fun w' h q hw k => ⟨h.cell 1, q.cell 1, (hw.cell hb).trans b0, (hw.cell hb).trans b1, (hw.cell hb).trans b2, (hw.cell hb).trans b3, k.cell 0, k.cell 1, k.cell 2, k.cell 3⟩
    clear hat b0 b1 b2 b3 hb
    refine wp_region_held_drew (S := fun w' => w'.cell? ⟨w1.heap.size, 1, none⟩ = some (.slice (some ⟨M, 0, none⟩) P.length P.length) ∧ w'.cell? ⟨w.heap.size, 1, none⟩ = some (.slice (some ⟨b, off, none⟩) P.length cap) ∧ w'.cell? ⟨b, off + k * 4, none⟩ = some (.slice ad (nthP P k).l.length cp) ∧ w'.cell? ⟨b, off + k * 4 + 1, none⟩ = some (.int .i64 (nthP P k).s) ∧ w'.cell? ⟨b, off + k * 4 + 2, none⟩ = some (.int .i64 (nthP P k).e) ∧ w'.cell? ⟨b, off + k * 4 + 3, none⟩ = some (.string (nthP P k).n) ∧ w'.cell? ⟨w.heap.size + 1, 0, none⟩ = some (.slice (some ⟨g, o, none⟩) x.l.length cap') ∧ w'.cell? ⟨w.heap.size + 1, 1, none⟩ = some (.int .i64 x.s) ∧ w'.cell? ⟨w.heap.size + 1, 2, none⟩ = some (.int .i64 x.e) ∧ w'.cell? ⟨w.heap.size + 1, 3, none⟩ = some (.string x.n)) (by kernel_rfl) (HSB.out _ D2.out.drew C2.out.drew HB2.out.drew A2.out.drew) (fun hHeld => ?_)
    refine wpAnyH_take (i := 0) (oi := { dst := some 16, op := Op.fieldAddr 96 (Operand.tmp 6) 1, type := 0, pos := "l06_chain.go:50", after := #[], guard := none }) (v := ?vh0) rfl (by kernel_rfl) (by kernel_rfl) (by kernel_rfl) (fun _ _ _ h => h) (Or.inl ⟨by rfl, ?hyh0⟩) hHeld ?_
    case hyh0 => (intro w hSw; (try dsimp only at hSw); go_simp <;> with_reducible rfl)
    try simp only [Act.put, List.setIfInBounds_toArray, List.set_cons_zero, List.set_cons_succ]
    refine wpAnyH_take (i := 1) (oi := { dst := some 17, op := Op.load 40 (Operand.tmp 16), type := 40, pos := "l06_chain.go:50", after := #[{ on := 0, ground := Ground.data }], guard := none }) (v := ?vh1) rfl (by kernel_rfl) (by kernel_rfl) (by kernel_rfl) (fun _ _ _ h => h) (Or.inl ⟨by rfl, ?hyh1⟩) hHeld ?_
    case hyh1 => (intro w hSw; (try dsimp only at hSw); go_simp <;> with_reducible rfl)
    try simp only [Act.put, List.setIfInBounds_toArray, List.set_cons_zero, List.set_cons_succ]
    refine wpAnyH_take (i := 2) (oi := { dst := some 18, op := Op.move (Operand.tmp 7), type := 3, pos := "l06_chain.go:50", after := #[], guard := none }) (v := ?vh2) rfl (by kernel_rfl) (by kernel_rfl) (by kernel_rfl) (fun _ _ _ h => h) (Or.inl ⟨by rfl, ?hyh2⟩) hHeld ?_
    case hyh2 => (intro w hSw; (try dsimp only at hSw); go_simp <;> with_reducible rfl)
    try simp only [Act.put, List.setIfInBounds_toArray, List.set_cons_zero, List.set_cons_succ]
    refine wpAnyH_take (i := 3) (oi := { dst := some 19, op := Op.fieldAddr 96 (Operand.tmp 2) 1, type := 0, pos := "l06_chain.go:50", after := #[], guard := none }) (v := ?vh3) rfl (by kernel_rfl) (by kernel_rfl) (by kernel_rfl) (fun _ _ _ h => h) (Or.inl ⟨by rfl, ?hyh3⟩) hHeld ?_
    case hyh3 => (intro w hSw; (try dsimp only at hSw); go_simp <;> with_reducible rfl)
    try simp only [Act.put, List.setIfInBounds_toArray, List.set_cons_zero, List.set_cons_succ]
    refine wpAnyH_take (i := 4) (oi := { dst := some 20, op := Op.load 40 (Operand.tmp 19), type := 40, pos := "l06_chain.go:50", after := #[{ on := 3, ground := Ground.data }], guard := none }) (v := ?vh4) rfl (by kernel_rfl) (by kernel_rfl) (by kernel_rfl) (fun _ _ _ h => h) (Or.inl ⟨by rfl, ?hyh4⟩) hHeld ?_
    case hyh4 => (intro w hSw; (try dsimp only at hSw); go_simp <;> with_reducible rfl)
    try simp only [Act.put, List.setIfInBounds_toArray, List.set_cons_zero, List.set_cons_succ]
    refine wpAnyH_take (i := 5) (oi := { dst := some 21, op := Op.move (Operand.tmp 7), type := 3, pos := "l06_chain.go:50", after := #[], guard := none }) (v := ?vh5) rfl (by kernel_rfl) (by kernel_rfl) (by kernel_rfl) (fun _ _ _ h => h) (Or.inl ⟨by rfl, ?hyh5⟩) hHeld ?_
    case hyh5 => (intro w hSw; (try dsimp only at hSw); go_simp <;> with_reducible rfl)
    try simp only [Act.put, List.setIfInBounds_toArray, List.set_cons_zero, List.set_cons_succ]
    refine wpAnyH_take (i := 6) (oi := { dst := some 22, op := Op.indexAddr 40 (Operand.tmp 20) (Operand.tmp 21), type := 0, pos := "l06_chain.go:50", after := #[{ on := 4, ground := Ground.data }, { on := 5, ground := Ground.data }], guard := none }) (v := ?vh6) rfl (by kernel_rfl) (by kernel_rfl) (by kernel_rfl) (fun _ _ _ h => h) (Or.inl ⟨by rfl, ?hyh6⟩) hHeld ?_
    case hyh6 => (intro w hSw; (try dsimp only at hSw); go_simp <;> with_reducible rfl)
    try simp only [Act.put, List.setIfInBounds_toArray, List.set_cons_zero, List.set_cons_succ]
    refine wpAnyH_take (i := 7) (oi := { dst := some 23, op := Op.load 29 (Operand.tmp 22), type := 29, pos := "l06_chain.go:50", after := #[{ on := 6, ground := Ground.data }], guard := none }) (v := ?vh7) rfl (by kernel_rfl) (by kernel_rfl) (by kernel_rfl) (fun _ _ _ h => h) (Or.inl ⟨by rfl, ?hyh7⟩) hHeld ?_
    case hyh7 => (intro w hSw; (try dsimp only at hSw); go_simp <;> with_reducible rfl)
    try simp only [Act.put, List.setIfInBounds_toArray, List.set_cons_zero, List.set_cons_succ]
    refine wpAnyH_take (i := 8) (oi := { dst := some 24, op := Op.load 29 (Operand.tmp 3), type := 29, pos := "l06_chain.go:50", after := #[], guard := none }) (v := ?vh8) rfl (by kernel_rfl) (by kernel_rfl) (by kernel_rfl) (fun _ _ _ h => h) (Or.inl ⟨by rfl, ?hyh8⟩) hHeld ?_
    case hyh8 => (intro w hSw; (try dsimp only at hSw); go_simp <;> with_reducible rfl)
    try simp only [Act.put, List.setIfInBounds_toArray, List.set_cons_zero, List.set_cons_succ]
    refine wpAnyH_ready (rs := [9]) (by kernel_rfl) (by simp) ?_
    refine AllReadyH.cons (o := { dst := some 25, op := Op.call { callee := Callee.value (Operand.func 25), args := #[Operand.tmp 23, Operand.tmp 24], argTypes := #[29, 29] }, type := 29, pos := "l06_chain.go:50", after := #[{ on := 7, ground := Ground.data }, { on := 8, ground := Ground.data }], guard := none }) rfl (fun K hK => ?_) AllReadyH.nil
    go_simp
    refine (HC.out _ (Below.refl _ _).drew).mono ?_
    rintro r wyh9 ⟨⟨Mx, cx, rfl, hO⟩, hy⟩
    have hz : Below w2.heap.size w2 wyh9 := grow_on (Below.refl _ _).drew hy
    have HZ : Hid (Below w2.heap.size w2 wyh9) := hz
    have HO : Hid (OwnA w.heap.size wyh9 (Mx, cx, mergeX (nthP P k) x) ∧ w2.heap.size ≤ Mx) := ⟨(own_of_copy (x := mergeX (nthP P k) x) hO HS.out.2).down (by have := HW.out; show w.heap.size ≤ w2.drew.heap.size; simp; omega), hO.1⟩
    have hab := HAB2.out.grow hz
    obtain ⟨cs, h2, hcs, _⟩ := hab.outer
    obtain ⟨v0, p0⟩ : ∃ v, wyh9.cell? ⟨M, k * 4, none⟩ = some v := ⟨cs[k * 4]'(by omega), by rw [h2.cell]; simp⟩
    obtain ⟨v1, p1⟩ : ∃ v, wyh9.cell? ⟨M, k * 4 + 1, none⟩ = some v := ⟨cs[k * 4 + 1]'(by omega), by rw [h2.cell]; simp⟩
    obtain ⟨v2, p2⟩ : ∃ v, wyh9.cell? ⟨M, k * 4 + 2, none⟩ = some v := ⟨cs[k * 4 + 2]'(by omega), by rw [h2.cell]; simp⟩
    obtain ⟨v3, p3⟩ : ∃ v, wyh9.cell? ⟨M, k * 4 + 3, none⟩ = some v := ⟨cs[k * 4 + 3]'(by omega), by rw [h2.cell]; simp⟩
    have f0 := h2.frozen (k * 4)
    have f1 := h2.frozen (k * 4 + 1)
    have f2 := h2.frozen (k * 4 + 2)
    have f3 := h2.frozen (k * 4 + 3)
    have hMD : M ≠ w1.heap.size := fun e => chain_alarm (D2.out.grow hz) h2 e.symm
    clear hy hz hO hab h2 hcs
    clear hHeld
    refine hK.out _ _ (HSB.out _ (D2.out.grow HZ.out) (C2.out.grow HZ.out) (grow_on HB2.out HZ.out) (A2.out.grow HZ.out)) (fun hHeld => ?_)
    clear hK K
    try simp only [Act.put, List.setIfInBounds_toArray, List.set_cons_zero, List.set_cons_succ]
    refine wpAnyH_take (i := 10) (oi := { dst := some 26, op := Op.indexAddr 40 (Operand.tmp 17) (Operand.tmp 18), type := 0, pos := "l06_chain.go:50", after := #[{ on := 1, ground := Ground.data }, { on := 2, ground := Ground.data }, { on := 0, ground := Ground.phase }, { on := 1, ground := Ground.phase }, { on := 2, ground := Ground.phase }, { on := 3, ground := Ground.phase }, { on := 4, ground := Ground.phase }, { on := 5, ground := Ground.phase }, { on := 6, ground := Ground.phase }, { on := 7, ground := Ground.phase }, { on := 8, ground := Ground.phase }, { on := 9, ground := Ground.phase }], guard := none }) (v := ?vh10) rfl (by kernel_rfl) (by kernel_rfl) (by kernel_rfl) (fun _ _ _ h => h) (Or.inl ⟨by rfl, ?hyh10⟩) hHeld ?_
    case hyh10 => (intro w hSw; (try dsimp only at hSw); go_simp <;> with_reducible rfl)
    try simp only [Act.put, List.setIfInBounds_toArray, List.set_cons_zero, List.set_cons_succ]
    have hMC : M ≠ w.heap.size := by have := HM.out; omega
    have hMA : M ≠ w.heap.size + 1 := by have := HM.out; omega
    have hMR : M ≠ w.heap.size + 1 + 1 := by have := HM.out; omega
    have hMw : w.heap.size ≤ M := by have := HM.out; omega
    refine wpAnyH_ready (rs := [11]) (by kernel_rfl) (by simp) ?_
    refine AllReadyH.cons (o := { dst := none, op := Op.store 29 (Operand.tmp 26) (Operand.tmp 25), type := 0, pos := "l06_chain.go:50", after := #[{ on := 10, ground := Ground.data }, { on := 9, ground := Ground.data }, { on := 9, ground := Ground.chain }, { on := 0, ground := Ground.phase }, { on := 1, ground := Ground.phase }, { on := 2, ground := Ground.phase }, { on := 3, ground := Ground.phase }, { on := 4, ground := Ground.phase }, { on := 5, ground := Ground.phase }, { on := 6, ground := Ground.phase }, { on := 7, ground := Ground.phase }, { on := 8, ground := Ground.phase }, { on := 9, ground := Ground.phase }], guard := none }) rfl (fun K hK => ?_) AllReadyH.nil
    go_simp
    clear hHeld
    refine hK.out _ _ (HSB.out (put4W wyh9 M k (Mx, cx, mergeX (nthP P k) x)) (put4W_other (D2.out.grow HZ.out) hMD) (put4W_other (C2.out.grow HZ.out) hMC) (put4W_low (grow_on HB2.out HZ.out) hMw) (put4W_other (A2.out.grow HZ.out) hMA)) (fun hHeld => ?_)
    clear hK K
    try simp only [Act.put, List.setIfInBounds_toArray, List.set_cons_zero, List.set_cons_succ]
    refine wpAnyH_done (by kernel_rfl) ?_ _
    obtain ⟨W3, hW3⟩ : ∃ W3, put4W wyh9 M k (Mx, cx, mergeX (nthP P k) x) = W3 := ⟨_, rfl⟩
    obtain ⟨M3, hM3⟩ : ∃ M3, M3 = M := ⟨_, rfl⟩
    obtain ⟨c3, hc3⟩ : ∃ c3, c3 = P.length := ⟨_, rfl⟩
    have D3 : Hid (Blk W3 w1.heap.size #[.int .i64 f, .slice (some ⟨M3, 0, none⟩) P.length c3] 96) := by rw [← hW3, hM3, hc3]; exact put4W_other (D2.out.grow HZ.out) hMD
    have R3 : Hid (Blk W3 (w.heap.size + 1 + 1) #[.int .i64 0, .slice none 0 0] 96) := by rw [← hW3]; exact put4W_other (R2.out.grow HZ.out) hMR
    have HAB3 : Hid (AB w.heap.size W3 M3 c3 (putA rs k (Mx, cx, mergeX (nthP P k) x))) := by
      rw [← hW3, hM3, hc3]
      exact (HAB2.out.grow HZ.out).put (by rw [HRl.out]; exact hk) HO.out.1 (fun y hy => by have := (HAB2.out.rows y hy).lt; have := HO.out.2; show y.1 ≠ Mx; omega)
    have HB3 : Hid (Below w.heap.size w W3) := by rw [← hW3]; exact put4W_low (grow_on HB2.out HZ.out) hMw
    simp only [put4W, mergeX] at hW3
    rw [hW3]
    clear hW3 hM3 hc3 p0 p1 p2 p3 f0 f1 f2 f3 hHeld hMD hMC hMA hMR hMw
    have c0 : W3.cell? ⟨w1.heap.size, 0, none⟩ = some (.int .i64 f) := D3.out.cell 0
    have c1 : W3.cell? ⟨w1.heap.size, 1, none⟩ = some (.slice (some ⟨M3, 0, none⟩) (P.length) c3) := D3.out.cell 1
    have r0 : W3.cell? ⟨w.heap.size + 1 + 1, 0, none⟩ = some (.int .i64 0) := R3.out.cell 0
    have r1 : W3.cell? ⟨w.heap.size + 1 + 1, 1, none⟩ = some (.slice none 0 0) := R3.out.cell 1
    have f0 := R3.out.frozen 0
    have f1 := R3.out.frozen 1
    go_wp2
    have hs : Blk ((W3.setCell ⟨w.heap.size + 1 + 1, 0, none⟩ (.int .i64 f)).setCell ⟨w.heap.size + 1 + 1, 1, none⟩ (.slice (some ⟨M3, 0, none⟩) (P.length) c3)) (w.heap.size + 1 + 1) #[.int .i64 f, .slice (some ⟨M3, 0, none⟩) (P.length) c3] 96 := (R3.out.set 0 _).set 1 _
    have s0 := hs.cell 0
    have s1 := hs.cell 1
    refine bodyPost_ret (v := .tuple #[.agg #[.int .i64 f, .slice (some ⟨M3, 0, none⟩) (P.length) c3], .bool false]) (by simp [results, Tryz.results67, go_sem, s0, s1]) rfl ?_
    exact ⟨⟨M3, c3, putA rs k (Mx, cx, mergeX (nthP P k) x), retC (by rw [putA_len]; exact HRl.out.symm) HN.out, (ab_set2 HAB3.out R3.out _ _).down (by omega), HPP.out _ _⟩, set2 HB3.out (by omega) _ _⟩
end Go.Proofs.YtooninmicfcfoaaGreat.ChnP
namespace Go.Proofs.YtooninmicfcfoaaGreat.ChnD
open Go.RowKit
open Labs LabS Alms AlmS AlmM Over Blk Rnd Plc Lop App Rws ChnI ChnC ChnP
attribute [local go_sem] Oper.semAt_some

structure Two (lo : Nat) (w : World) (M1 c1 : Nat) (rs1 : List ARow) (M2 c2 : Nat) (rs2 : List ARow) : Prop where
  a : AB lo w M1 c1 rs1
  b : AB lo w M2 c2 rs2
  ne : M1 ≠ M2
  far : ∀ x ∈ rs1, ∀ y ∈ rs2, x.1 ≠ y.1
theorem Two.symm {lo : Nat} {w : World} {M1 c1 : Nat} {rs1 : List ARow} {M2 c2 : Nat} {rs2 : List ARow} (h : Two lo w M1 c1 rs1 M2 c2 rs2) : Two lo w M2 c2 rs2 M1 c1 rs1 := ⟨h.b, h.a, fun e => h.ne e.symm, fun x hx y hy e => h.far y hy x hx e.symm⟩
theorem Two.grow {lo : Nat} {w w' : World} {M1 c1 : Nat} {rs1 : List ARow} {M2 c2 : Nat} {rs2 : List ARow} (h : Two lo w M1 c1 rs1 M2 c2 rs2) (hb : Below w.heap.size w w') : Two lo w' M1 c1 rs1 M2 c2 rs2 := ⟨h.a.grow hb, h.b.grow hb, h.ne, h.far⟩
theorem Two.moved {lo : Nat} {w w' : World} {M1 c1 : Nat} {rs1 : List ARow} {M2 c2 : Nat} {rs2 : List ARow} (h : Two lo w M1 c1 rs1 M2 c2 rs2) (hA : ∀ {k : Nat} {cs : Array Value}, Blk w k cs 29 → Blk w' k cs 29) (hL : ∀ {k : Nat} {cs : Array Value}, Blk w k cs 127 → Blk w' k cs 127) : Two lo w' M1 c1 rs1 M2 c2 rs2 :=
  ⟨ab_moved h.a (fun k => hA k) (fun k => hL k), ab_moved h.b (fun k => hA k) (fun k => hL k), h.ne, h.far⟩
theorem Two.app {lo : Nat} {W w' : World} {M1 c1 : Nat} {rs1 : List ARow} {M2 c2 : Nat} {rs2 : List ARow} {x : ARow} {xs : List Value} {v' : Value} (h : Two lo W M1 c1 rs1 M2 c2 rs2) (hx : OwnA lo W x) (hn1 : ∀ y ∈ rs1, y.1 ≠ x.1) (hn2 : ∀ y ∈ rs2, y.1 ≠ x.1) (hl : xs.length = rs1.length * 4) (hxs : ∀ i, i < rs1.length → Four (fun k => xs[k]?) i (nthA rs1 i))
    (hown : w'.ownsRow lo 29 4 v' (rs1.length + 1) (xs ++ rowV x)) (hg : W.grownBy w' (some M1)) (hat : v'.ownBlock = some M1 ∨ v'.ownBlock = some W.heap.size) : ∃ M' c', v' = .slice (some ⟨M', 0, none⟩) (rs1.length + 1) c' ∧ Two lo w' M' c' (rs1 ++ [x]) M2 c2 rs2 := by
  obtain ⟨M', c', e, hab⟩ := h.a.app hx hn1 hl hxs hown hg
  have hlt := h.b.lt
  obtain ⟨cu, hcu, _⟩ := h.a.outer
  refine ⟨M', c', e, hab, ab_moved h.b (fun k => blk_far k hg (fun e => h.ne (Option.some.inj e).symm)) (fun k => blk_far k hg (fun e => blkA_ne hcu k (Option.some.inj e).symm)), fun q => ?_, fun y hy z hz => ?_⟩
  · subst e
    simp only [Value.ownBlock] at hat
    rcases hat with hat | hat
    · exact h.ne ((Option.some.inj hat).symm.trans q)
    · have := Option.some.inj hat
      omega
  · rcases List.mem_append.1 hy with hy | hy
    · exact h.far y hy z hz
    · rw [List.mem_singleton.1 hy]
      exact fun e => hn2 z hz e.symm

def leftF (P : List PAl) (now : Int) (pre : List (Fin P.length)) : List PAl := (pre.map fun x => nthP P x.1).filter fun x => !overB x.e now
def goneF (P : List PAl) (now : Int) (pre : List (Fin P.length)) : List PAl := (pre.map fun x => nthP P x.1).filter fun x => overB x.e now
theorem come_all {P : List PAl} {xs : List (Fin P.length)} (h : InTurn xs) (hl : xs.length = P.length) : (xs.map fun x => nthP P x.1) = P := by
  apply List.ext_getElem
  · simpa using hl
  · intro i h1 h2
    simp only [List.getElem_map]
    rw [h i (by simpa using h1), nthP_eq h2]
theorem left_all {P : List PAl} {now : Int} {xs : List (Fin P.length)} (h : InTurn xs) (hl : xs.length = P.length) : leftF P now xs = leftTo P now P.length := by
  unfold leftF leftTo
  rw [come_all h hl, List.take_length]
theorem gone_all {P : List PAl} {now : Int} {xs : List (Fin P.length)} (h : InTurn xs) (hl : xs.length = P.length) : goneF P now xs = goneTo P now P.length := by
  unfold goneF goneTo
  rw [come_all h hl, List.take_length]
theorem left_y {P : List PAl} {now : Int} {pre : List (Fin P.length)} {x : Fin P.length} (h : overB (nthP P x.1).e now = true) : leftF P now (pre ++ [x]) = leftF P now pre ∧ goneF P now (pre ++ [x]) = goneF P now pre ++ [nthP P x.1] := by simp [leftF, goneF, h]
theorem left_n {P : List PAl} {now : Int} {pre : List (Fin P.length)} {x : Fin P.length} (h : overB (nthP P x.1).e now = false) : leftF P now (pre ++ [x]) = leftF P now pre ++ [nthP P x.1] ∧ goneF P now (pre ++ [x]) = goneF P now pre := by simp [leftF, goneF, h]
theorem left_le {P : List PAl} (now : Int) (pre : List (Fin P.length)) : (leftF P now pre).length ≤ pre.length := by unfold leftF; exact Nat.le_trans (List.length_filter_le _ _) (by simp)
theorem gone_le {P : List PAl} (now : Int) (pre : List (Fin P.length)) : (goneF P now pre).length ≤ pre.length := by unfold goneF; exact Nat.le_trans (List.length_filter_le _ _) (by simp)
theorem list_label {w : World} {a b : Nat} {cs ds : Array Value} (h : Blk w a cs 40) (k : Blk w b ds 127) : a ≠ b := fun e => by
  subst e
  unfold Blk at h k
  rw [h] at k
  injection k with k
  injection k with _ k
  exact absurd k (by decide)
theorem list_alarm {w : World} {a b : Nat} {cs ds : Array Value} (h : Blk w a cs 40) (k : Blk w b ds 29) : a ≠ b := fun e => by
  subst e
  unfold Blk at h k
  rw [h] at k
  injection k with k
  injection k with _ k
  exact absurd k (by decide)
structure Mid (w W0 : World) (f now : Int) (W : World) (M1 c1 : Nat) (rs1 : List ARow) (M2 c2 : Nat) (rs2 : List ARow) : Prop where
  two : Two w.heap.size W M1 c1 rs1 M2 c2 rs2
  low : w.heap.size + 3 ≤ M1 ∧ w.heap.size + 3 ≤ M2
  bnow : Blk W (w.heap.size + 1) #[.int .i64 now] 3
  bres : Blk W (w.heap.size + 1 + 1) #[.int .i64 0, .slice none 0 0] 96
  bleft : Blk W (w.heap.size + 1 + 1 + 1 + 1 + 1) #[.int .i64 f, .slice (some ⟨M1, 0, none⟩) rs1.length c1] 96
  bover : Blk W (w.heap.size + 1 + 1 + 1 + 1 + 1 + 1) #[.slice (some ⟨M2, 0, none⟩) rs2.length c2] 40
  below : Below w.heap.size w W
  size : W0.heap.size ≤ W.heap.size
theorem Mid.grow {w W0 : World} {f now : Int} {W W' : World} {M1 c1 : Nat} {rs1 : List ARow} {M2 c2 : Nat} {rs2 : List ARow} (h : Mid w W0 f now W M1 c1 rs1 M2 c2 rs2) (hb : Below W.heap.size W W') : Mid w W0 f now W' M1 c1 rs1 M2 c2 rs2 :=
  ⟨h.two.grow hb, h.low, h.bnow.grow hb, h.bres.grow hb, h.bleft.grow hb, h.bover.grow hb, grow_on h.below hb, Nat.le_trans h.size hb.size⟩
theorem Mid.turn {w W0 : World} {f now : Int} {W W' : World} {M1 c1 : Nat} {rs1 : List ARow} {M2 c2 : Nat} {rs2 : List ARow} (h : Mid w W0 f now W M1 c1 rs1 M2 c2 rs2) (hw : w.heap.size ≤ W0.heap.size) (ht : Turn W0.heap.size W W') : Mid w W0 f now W' M1 c1 rs1 M2 c2 rs2 :=
  ⟨h.two.moved (fun k => ht.blk k) (fun k => ht.blk k), h.low, ht.blk h.bnow, ht.blk h.bres, ht.blk h.bleft, ht.blk h.bover, ht.below (Nat.le_refl _) hw h.below, Nat.le_trans h.size ht.size⟩
theorem mid_low {M M' : Nat} {v' : Value} {W : World} {n c : Nat} {lo : Nat} (h : v'.ownBlock = some M ∨ v'.ownBlock = some W.heap.size) (e : v' = .slice (some ⟨M', 0, none⟩) n c) (hM : lo ≤ M) (hW : lo ≤ W.heap.size) : lo ≤ M' := by
  subst e
  simp only [Value.ownBlock] at h
  rcases h with h | h
  · rw [Option.some.inj h]; exact hM
  · rw [Option.some.inj h]; exact hW
set_option maxRecDepth 100000 in
set_option maxHeartbeats 2000000 in
theorem implDrop_any (f : Int) (a : Option Addr) (cap : Nat) (P : List PAl) (now : Int) (w : World) (hr : RdA w a P) (hl : P.length ≤ 1048576) (hs : LenM P) :
    Calls Tryz.prog 78 #[.agg #[.int .i64 f, .slice a P.length cap], .int .i64 now] w fun e w' => (∃ M1 c1 rs1 M2 c2 rs2, e = .returned (.tuple #[.agg #[.int .i64 f, .slice (some ⟨M1, 0, none⟩) rs1.length c1], .slice (some ⟨M2, 0, none⟩) rs2.length c2]) ∧ Two w.heap.size w' M1 c1 rs1 M2 c2 rs2 ∧ pals rs1 = leftTo P now P.length ∧ pals rs2 = goneTo P now P.length) ∧ Below w.heap.size w w' := by
  obtain ⟨b, off, ad, cp, ha, hat⟩ := pick hr
  have HA : Hid (∀ i, i < P.length → At w b off i (nthP P i) (ad i) (cp i)) := hat
  have HF : Hid (LenM P) := hs
  have HAB : Hid (P = [] ∨ (a = some ⟨b, off, none⟩ ∧ b < w.heap.size)) := ha
  clear hr hat hs ha
  obtain ⟨i0, hi, hz0, hz1, hz2⟩ := info_parts infoA
  refine (callsIn_wide (n := 2)).1 ?_
  refine callsIn_of_wp_marks Tryz.func78 rfl trivial ?_ rfl
  simp only [Tryz.ntmps78, List.size_toArray, List.length_cons, List.length_nil, Nat.reduceAdd, Nat.reduceSub, Array.replicate_succ, Array.replicate_zero, List.push_toArray, List.append_toArray, List.nil_append, List.cons_append]
  refine wpIn_wide.2 ?_
  go_wp2_with fail
  refine (places_any f a P.length cap _).mono ?_
  rintro e w1 ⟨rfl, rfl⟩
  go_wp2_with fail
  have hsz : ((((((((w.alloc (.cells #[.int .i64 f, .slice a P.length cap] 96)).alloc (.cells #[.int .i64 now] 3)).alloc (.cells #[.int .i64 0, .slice none 0 0] 96)).alloc (.cells #[] 29)).alloc (.cells #[] 29)).alloc (.cells #[.int .i64 f, .slice (some ⟨w.heap.size + 1 + 1 + 1, 0, none⟩) 0 0] 96)).alloc (.cells #[.slice (some ⟨w.heap.size + 1 + 1 + 1 + 1, 0, none⟩) 0 0] 40)).alloc (.cells #[.int .i64 f, .slice a P.length cap] 96)).heap.size = w.heap.size + 8 := by simp
  have h1 : Blk ((((((((w.alloc (.cells #[.int .i64 f, .slice a P.length cap] 96)).alloc (.cells #[.int .i64 now] 3)).alloc (.cells #[.int .i64 0, .slice none 0 0] 96)).alloc (.cells #[] 29)).alloc (.cells #[] 29)).alloc (.cells #[.int .i64 f, .slice (some ⟨w.heap.size + 1 + 1 + 1, 0, none⟩) 0 0] 96)).alloc (.cells #[.slice (some ⟨w.heap.size + 1 + 1 + 1 + 1, 0, none⟩) 0 0] 40)).alloc (.cells #[.int .i64 f, .slice a P.length cap] 96)) (w.heap.size + 1) #[.int .i64 now] 3 := ((((((Blk.new_at (by simp)).alloc _).alloc _).alloc _).alloc _).alloc _).alloc _
  have h2 : Blk ((((((((w.alloc (.cells #[.int .i64 f, .slice a P.length cap] 96)).alloc (.cells #[.int .i64 now] 3)).alloc (.cells #[.int .i64 0, .slice none 0 0] 96)).alloc (.cells #[] 29)).alloc (.cells #[] 29)).alloc (.cells #[.int .i64 f, .slice (some ⟨w.heap.size + 1 + 1 + 1, 0, none⟩) 0 0] 96)).alloc (.cells #[.slice (some ⟨w.heap.size + 1 + 1 + 1 + 1, 0, none⟩) 0 0] 40)).alloc (.cells #[.int .i64 f, .slice a P.length cap] 96)) (w.heap.size + 1 + 1) #[.int .i64 0, .slice none 0 0] 96 := (((((Blk.new_at (by simp)).alloc _).alloc _).alloc _).alloc _).alloc _
  have h3 : Blk ((((((((w.alloc (.cells #[.int .i64 f, .slice a P.length cap] 96)).alloc (.cells #[.int .i64 now] 3)).alloc (.cells #[.int .i64 0, .slice none 0 0] 96)).alloc (.cells #[] 29)).alloc (.cells #[] 29)).alloc (.cells #[.int .i64 f, .slice (some ⟨w.heap.size + 1 + 1 + 1, 0, none⟩) 0 0] 96)).alloc (.cells #[.slice (some ⟨w.heap.size + 1 + 1 + 1 + 1, 0, none⟩) 0 0] 40)).alloc (.cells #[.int .i64 f, .slice a P.length cap] 96)) (w.heap.size + 1 + 1 + 1) #[] 29 := ((((Blk.new_at (by simp)).alloc _).alloc _).alloc _).alloc _
  have h4 : Blk ((((((((w.alloc (.cells #[.int .i64 f, .slice a P.length cap] 96)).alloc (.cells #[.int .i64 now] 3)).alloc (.cells #[.int .i64 0, .slice none 0 0] 96)).alloc (.cells #[] 29)).alloc (.cells #[] 29)).alloc (.cells #[.int .i64 f, .slice (some ⟨w.heap.size + 1 + 1 + 1, 0, none⟩) 0 0] 96)).alloc (.cells #[.slice (some ⟨w.heap.size + 1 + 1 + 1 + 1, 0, none⟩) 0 0] 40)).alloc (.cells #[.int .i64 f, .slice a P.length cap] 96)) (w.heap.size + 1 + 1 + 1 + 1) #[] 29 := (((Blk.new_at (by simp)).alloc _).alloc _).alloc _
  have h5 : Blk ((((((((w.alloc (.cells #[.int .i64 f, .slice a P.length cap] 96)).alloc (.cells #[.int .i64 now] 3)).alloc (.cells #[.int .i64 0, .slice none 0 0] 96)).alloc (.cells #[] 29)).alloc (.cells #[] 29)).alloc (.cells #[.int .i64 f, .slice (some ⟨w.heap.size + 1 + 1 + 1, 0, none⟩) 0 0] 96)).alloc (.cells #[.slice (some ⟨w.heap.size + 1 + 1 + 1 + 1, 0, none⟩) 0 0] 40)).alloc (.cells #[.int .i64 f, .slice a P.length cap] 96)) (w.heap.size + 1 + 1 + 1 + 1 + 1) #[.int .i64 f, .slice (some ⟨w.heap.size + 1 + 1 + 1, 0, none⟩) 0 0] 96 := ((Blk.new_at (by simp)).alloc _).alloc _
  have h6 : Blk ((((((((w.alloc (.cells #[.int .i64 f, .slice a P.length cap] 96)).alloc (.cells #[.int .i64 now] 3)).alloc (.cells #[.int .i64 0, .slice none 0 0] 96)).alloc (.cells #[] 29)).alloc (.cells #[] 29)).alloc (.cells #[.int .i64 f, .slice (some ⟨w.heap.size + 1 + 1 + 1, 0, none⟩) 0 0] 96)).alloc (.cells #[.slice (some ⟨w.heap.size + 1 + 1 + 1 + 1, 0, none⟩) 0 0] 40)).alloc (.cells #[.int .i64 f, .slice a P.length cap] 96)) (w.heap.size + 1 + 1 + 1 + 1 + 1 + 1) #[.slice (some ⟨w.heap.size + 1 + 1 + 1 + 1, 0, none⟩) 0 0] 40 := (Blk.new_at (by simp)).alloc _
  have h7 : Blk ((((((((w.alloc (.cells #[.int .i64 f, .slice a P.length cap] 96)).alloc (.cells #[.int .i64 now] 3)).alloc (.cells #[.int .i64 0, .slice none 0 0] 96)).alloc (.cells #[] 29)).alloc (.cells #[] 29)).alloc (.cells #[.int .i64 f, .slice (some ⟨w.heap.size + 1 + 1 + 1, 0, none⟩) 0 0] 96)).alloc (.cells #[.slice (some ⟨w.heap.size + 1 + 1 + 1 + 1, 0, none⟩) 0 0] 40)).alloc (.cells #[.int .i64 f, .slice a P.length cap] 96)) (w.heap.size + 1 + 1 + 1 + 1 + 1 + 1 + 1) #[.int .i64 f, .slice a P.length cap] 96 := Blk.new_at (by simp)
  have hB0 : Below w.heap.size w ((((((((w.alloc (.cells #[.int .i64 f, .slice a P.length cap] 96)).alloc (.cells #[.int .i64 now] 3)).alloc (.cells #[.int .i64 0, .slice none 0 0] 96)).alloc (.cells #[] 29)).alloc (.cells #[] 29)).alloc (.cells #[.int .i64 f, .slice (some ⟨w.heap.size + 1 + 1 + 1, 0, none⟩) 0 0] 96)).alloc (.cells #[.slice (some ⟨w.heap.size + 1 + 1 + 1 + 1, 0, none⟩) 0 0] 40)).alloc (.cells #[.int .i64 f, .slice a P.length cap] 96)) := ((((((Alm.below3 w _ _ _).alloc (by simp; omega) _).alloc (by simp; omega) _).alloc (by simp; omega) _).alloc (by simp; omega) _)).alloc (by simp; omega) _
  generalize ((((((((w.alloc (.cells #[.int .i64 f, .slice a P.length cap] 96)).alloc (.cells #[.int .i64 now] 3)).alloc (.cells #[.int .i64 0, .slice none 0 0] 96)).alloc (.cells #[] 29)).alloc (.cells #[] 29)).alloc (.cells #[.int .i64 f, .slice (some ⟨w.heap.size + 1 + 1 + 1, 0, none⟩) 0 0] 96)).alloc (.cells #[.slice (some ⟨w.heap.size + 1 + 1 + 1 + 1, 0, none⟩) 0 0] 40)).alloc (.cells #[.int .i64 f, .slice a P.length cap] 96)) = W0 at *
  refine loop_places (B := w.heap.size + 1 + 1 + 1 + 1 + 1 + 1 + 1) (n₀ := w.heap.size) (P := P) (s := a) (cap := cap) (b := b) (off := off) (ad := ad) (cp := cp) rfl rfl (by omega) (by omega) (h7.cell 1) hl HAB.out (fun i hi => (HA.out i hi).below hB0 (by
      rcases HAB.out with e | h
      · rw [e] at hi; simp at hi
      · exact h.2))
    (fun pre W => ∃ M1 c1 rs1 M2 c2 rs2, Mid w W0 f now W M1 c1 rs1 M2 c2 rs2 ∧ pals rs1 = leftF P now pre ∧ pals rs2 = goneF P now pre)
    (fun pre W => False)
    (fun pre W W' h ht => by
      obtain ⟨M1, c1, rs1, M2, c2, rs2, hm, hp⟩ := h
      exact ⟨M1, c1, rs1, M2, c2, rs2, hm.turn (by omega) ht, hp⟩)
    (fun pre W W' h ht => h)
    (fun pre W h => by
      obtain ⟨M1, c1, rs1, M2, c2, rs2, hm, hp⟩ := h
      exact hm.size)
    ⟨w.heap.size + 1 + 1 + 1, 0, [], w.heap.size + 1 + 1 + 1 + 1, 0, [], ⟨⟨AB.nil h3 (by omega), AB.nil h4 (by omega), by omega, fun x hx => by simp at hx⟩, ⟨by omega, by omega⟩, h1, h2, h5, h6, hB0, Nat.le_refl _⟩, rfl, rfl⟩
    (fun x Nx => { tmps := #[.agg #[.int .i64 f, .slice a P.length cap], .int .i64 now, .pointer (some ⟨w.heap.size, 0, none⟩), .pointer (some ⟨w.heap.size + 1, 0, none⟩), .pointer (some ⟨w.heap.size + 1 + 1, 0, none⟩), .slice none 0 0, .pointer (some ⟨w.heap.size + 1 + 1 + 1 + 1 + 1, 0, none⟩), .pointer (some ⟨w.heap.size + 1 + 1 + 1 + 1 + 1 + 1, 0, none⟩), undef, .pointer (some ⟨Nx, 0, none⟩), .pointer (some ⟨w.heap.size, 0, none⟩), .int .i64 f, .slice (some ⟨w.heap.size + 1 + 1 + 1, 0, none⟩) 0 0, .agg #[.int .i64 f, .slice (some ⟨w.heap.size + 1 + 1 + 1, 0, none⟩) 0 0], .slice (some ⟨w.heap.size + 1 + 1 + 1 + 1, 0, none⟩) 0 0, .agg #[.int .i64 f, .slice a P.length cap], .func (.func 167) #[] #[.pointer (some ⟨w.heap.size + 1 + 1 + 1 + 1 + 1 + 1 + 1, 0, none⟩)], .int .i64 (x.1 : Int), .agg #[.slice (ad x.1) (nthP P x.1).l.length (cp x.1), .int .i64 (nthP P x.1).s, .int .i64 (nthP P x.1).e, .string (nthP P x.1).n], undef, undef, undef, undef, undef, undef, undef, undef, undef, undef, undef, undef, undef, undef, undef, undef, undef], defers := [] }) ?assign ?body ?done ?stop
  case assign =>
    intro l x W K hK
    dsimp only [enc]
    gi_wp2
    exact hK
  case body =>
    rintro l pre x Nx W hNx hx ⟨M1, c1, rs1, M2, c2, rs2, hm, hp1, hp2⟩ hlt
    have HX : Hid (Blk W Nx (alC (nthP P x.1) (ad x.1) (cp x.1)) 29) := hx
    have HM : Hid (Mid w W0 f now W M1 c1 rs1 M2 c2 rs2) := hm
    have HP : Hid (pals rs1 = leftF P now pre ∧ pals rs2 = goneF P now pre) := ⟨hp1, hp2⟩
    have HL : Hid (rs1.length ≤ 1048576 ∧ rs2.length ≤ 1048576) := by
      have h1 := left_le now pre
      have h2 := gone_le now pre
      rw [← hp1, pals_len] at h1
      rw [← hp2, pals_len] at h2
      exact ⟨by omega, by omega⟩
    have x0 : W.cell? ⟨Nx, 0, none⟩ = some (.slice (ad x.1) (nthP P x.1).l.length (cp x.1)) := hx.cell 0
    have x1 : W.cell? ⟨Nx, 1, none⟩ = some (.int .i64 (nthP P x.1).s) := hx.cell 1
    have x2 : W.cell? ⟨Nx, 2, none⟩ = some (.int .i64 (nthP P x.1).e) := hx.cell 2
    have x3 : W.cell? ⟨Nx, 3, none⟩ = some (.string (nthP P x.1).n) := hx.cell 3
    have n0 : W.cell? ⟨w.heap.size + 1, 0, none⟩ = some (.int .i64 now) := hm.bnow.cell 0
    have HC : Hid (Calls Tryz.prog 27 #[.agg #[.slice (ad x.1) (nthP P x.1).l.length (cp x.1), .int .i64 (nthP P x.1).s, .int .i64 (nthP P x.1).e, .string (nthP P x.1).n], .int .i64 now] W fun r w' => r = .returned (.bool (overB (nthP P x.1).e now)) ∧ Below W.heap.size W w') := implOver_any _ _ _ _ _ _
    clear hx hm hp1 hp2
    cases hov : overB (nthP P x.1).e now with
    | true =>
      rw [hov] at HC
      have HV : Hid (leftF P now (pre ++ [x]) = leftF P now pre ∧ goneF P now (pre ++ [x]) = goneF P now pre ++ [nthP P x.1]) := left_y hov
      clear hov
      gi_wp2_with fail
      refine ⟨trivial, rfl, (calls_in HC.out).mono ?_⟩
      rintro e w2 ⟨rfl, hb⟩
      have HB2 : Hid (Below W.heap.size W w2) := hb
      have HM2 : Hid (Mid w W0 f now w2 M1 c1 rs1 M2 c2 rs2) := HM.out.grow hb
      have HX2 : Hid (Blk w2 Nx (alC (nthP P x.1) (ad x.1) (cp x.1)) 29) := HX.out.grow hb
      have HC2 : Hid (∀ y, Below w2.heap.size w2 y → Calls Tryz.prog 75 #[.agg #[.slice (ad x.1) (nthP P x.1).l.length (cp x.1), .int .i64 (nthP P x.1).s, .int .i64 (nthP P x.1).e, .string (nthP P x.1).n]] y fun r w' => (∃ Mx c, r = .returned (.agg #[.slice (some ⟨Mx, 0, none⟩) (nthP P x.1).l.length c, .int .i64 (nthP P x.1).s, .int .i64 (nthP P x.1).e, .string (nthP P x.1).n]) ∧ LabR.Own y w' Mx (nthP P x.1).l) ∧ Below y.heap.size y w') := fun y hy => copyI_any _ _ _ _ _ _ y ((HA.out x.1 x.2).reads.below (grow_on HM2.out.below hy)) (HF.out x.1 x.2)
      obtain ⟨xs, hox, hxl, hxs⟩ := HM2.out.two.b.own
      have HXS : Hid (xs.length = rs2.length * 4 ∧ ∀ i, i < rs2.length → Four (fun k => xs[k]?) i (nthA rs2 i)) := ⟨hxl, hxs⟩
      have HOX : Hid (w2.ownsRow w.heap.size 29 4 (.slice (some ⟨M2, 0, none⟩) rs2.length c2) rs2.length xs) := hox
      clear hox hxl hxs hb x0 x1 x2 x3 n0 HC
      gi_wp2
      refine held_in (S := fun w' => True) (by kernel_rfl) (by kernel_rfl) (fun h => by obtain ⟨_, _, h⟩ := h; exact h) (trivial) (fun hHeld => ?_)
      refine wpAnyH_ready (rs := [0, 1]) (by kernel_rfl) (by simp) ?_
      refine AllReadyH.cons (o := { dst := some 22, op := Op.load 40 (Operand.tmp 7), type := 40, pos := "l06_chain.go:66", after := #[], guard := none }) rfl (fun K hK => ?_) ?_
      ·
        have cD : w2.drew.cell? ⟨w.heap.size + 1 + 1 + 1 + 1 + 1 + 1, 0, none⟩ = some (.slice (some ⟨M2, 0, none⟩) rs2.length c2) := (HM2.out.bover.drew).cell 0
        go_simp
        clear cD
        clear hHeld
        refine hK.out _ _ trivial (fun hHeld => ?_)
        clear hK K
        try simp only [Act.put, List.setIfInBounds_toArray, List.set_cons_zero, List.set_cons_succ]
        refine wpAnyH_ready (rs := [1]) (by kernel_rfl) (by simp) ?_
        refine AllReadyH.cons (o := { dst := some 23, op := Op.load 29 (Operand.tmp 9), type := 29, pos := "l06_chain.go:66", after := #[], guard := none }) rfl (fun K hK => ?_) AllReadyH.nil
        have y0 : w2.drew.cell? ⟨Nx, 0, none⟩ = some (.slice (ad x.1) (nthP P x.1).l.length (cp x.1)) := HX2.out.drew.cell 0
        have y1 : w2.drew.cell? ⟨Nx, 1, none⟩ = some (.int .i64 (nthP P x.1).s) := HX2.out.drew.cell 1
        have y2 : w2.drew.cell? ⟨Nx, 2, none⟩ = some (.int .i64 (nthP P x.1).e) := HX2.out.drew.cell 2
        have y3 : w2.drew.cell? ⟨Nx, 3, none⟩ = some (.string (nthP P x.1).n) := HX2.out.drew.cell 3
        go_simp
        clear y0 y1 y2 y3
        clear hHeld
        refine hK.out _ _ trivial (fun hHeld => ?_)
        clear hK K
        try simp only [Act.put, List.setIfInBounds_toArray, List.set_cons_zero, List.set_cons_succ]
        refine wpAnyH_ready (rs := [2]) (by kernel_rfl) (by simp) ?_
        refine AllReadyH.cons (o := { dst := some 24, op := Op.call { callee := Callee.value (Operand.func 75), args := #[Operand.tmp 23], argTypes := #[29] }, type := 29, pos := "l06_chain.go:66", after := #[{ on := 1, ground := Ground.data }], guard := none }) rfl (fun K hK => ?_) AllReadyH.nil
        go_simp
        refine (HC2.out _ (Below.refl _ _).drew).mono ?_
        rintro r wyc ⟨⟨Mx, cx, rfl, hO⟩, hy⟩
        have HZ : Hid (Below w2.heap.size w2 wyc) := grow_on (Below.refl _ _).drew hy
        have HO : Hid (OwnA w.heap.size wyc (Mx, cx, nthP P x.1) ∧ w2.heap.size ≤ Mx) := ⟨(own_of_copy hO (HF.out x.1 x.2)).down (by have := HM2.out.below.size; show w.heap.size ≤ w2.drew.heap.size; simp; omega), hO.1⟩
        clear hy hO
        clear hHeld
        refine hK.out _ _ trivial (fun hHeld => ?_)
        clear hK K
        try simp only [Act.put, List.setIfInBounds_toArray, List.set_cons_zero, List.set_cons_succ]
        refine wpAnyH_ready (rs := [3]) (by kernel_rfl) (by simp) ?_
        refine AllReadyH.cons (o := { dst := some 25, op := Op.buildSlice 40 1 #[(0, Operand.tmp 24)], type := 40, pos := "l06_chain.go:66", after := #[{ on := 2, ground := Ground.data }], guard := none }) rfl (fun K hK => ?_) AllReadyH.nil
        go_simp
        clear hHeld
        refine hK.out _ _ trivial (fun hHeld => ?_)
        clear hK K
        try simp only [Act.put, List.setIfInBounds_toArray, List.set_cons_zero, List.set_cons_succ]
        refine wpAnyH_ready (rs := [4]) (by kernel_rfl) (by simp) ?_
        refine AllReadyH.cons (o := { dst := some 26, op := Op.call { callee := Callee.builtin Builtin.append, args := #[Operand.tmp 22, Operand.tmp 25], argTypes := #[40, 40] }, type := 40, pos := "l06_chain.go:66", after := #[{ on := 0, ground := Ground.data }, { on := 3, ground := Ground.data }, { on := 2, ground := Ground.chain }], guard := none }) rfl (fun K hK => ?_) AllReadyH.nil
        have HU : Hid (Below w2.heap.size w2 (wyc.alloc (.cells #[.slice (some ⟨Mx, 0, none⟩) (nthP P x.1).l.length cx, .int .i64 (nthP P x.1).s, .int .i64 (nthP P x.1).e, .string (nthP P x.1).n] 29))) := grow_on HZ.out (Go.Joins.below_alloc1 wyc _)
        refine step_app rfl _ _ 40 rfl 29 i0 (.agg #[.slice none 0 0, .int .i64 0, .int .i64 0, .string ByteArray.empty]) 4 56 Tryz.underlying40 hi hz0 hz1 hz2 rfl (by decide) w (grow_on HM2.out.below HU.out) (.slice (some ⟨M2, 0, none⟩) rs2.length c2) rs2.length xs rfl (own_grow HOX.out HU.out) ⟨wyc.heap.size, 0, none⟩ 1 1 (rowV (Mx, cx, nthP P x.1)) rfl rfl (blk_news (Blk.new _ _ _)) (row_one _) ?q1c ?q1d ?_
        case q1c => have := HL.out; unfold maxLen; omega
        case q1d => have := HL.out; omega
        intro v' wya hown hbel hg hat
        obtain ⟨cu, hcu, _⟩ := (HM2.out.two.grow HU.out).b.outer
        have hlow : ∀ {M' n' c'}, v' = .slice (some ⟨M', 0, none⟩) n' c' → w.heap.size + 3 ≤ M' := fun e => mid_low hat e HM2.out.low.2 (by have := HM2.out.size; have := HU.out.size; omega)
        obtain ⟨M3, c3, e3, hT⟩ := (HM2.out.two.grow HU.out).symm.app (HO.out.1.grow (Go.Joins.below_alloc1 wyc (.cells #[.slice (some ⟨Mx, 0, none⟩) (nthP P x.1).l.length cx, .int .i64 (nthP P x.1).s, .int .i64 (nthP P x.1).e, .string (nthP P x.1).n] 29))) (fun y hy => by have := (HM2.out.two.b.rows y hy).lt; have := HO.out.2; show y.1 ≠ Mx; omega) (fun y hy => by have := (HM2.out.two.a.rows y hy).lt; have := HO.out.2; show y.1 ≠ Mx; omega) HXS.out.1 HXS.out.2 hown hg hat
        have HLo : Hid (w.heap.size + 3 ≤ M3) := hlow e3
        subst e3
        have HT : Hid (Two w.heap.size wya M1 c1 rs1 M3 c3 (rs2 ++ [(Mx, cx, nthP P x.1)])) := hT.symm
        have B1 : Hid (Blk wya (w.heap.size + 1) #[.int .i64 now] 3) := blk_far (HM2.out.bnow.grow HU.out) hg (fun e => by have := HM2.out.low; have h : w.heap.size + 1 = M2 := Option.some.inj e; omega)
        have B2 : Hid (Blk wya (w.heap.size + 1 + 1) #[.int .i64 0, .slice none 0 0] 96) := blk_far (HM2.out.bres.grow HU.out) hg (fun e => by have := HM2.out.low; have h : w.heap.size + 1 + 1 = M2 := Option.some.inj e; omega)
        have B5 : Hid (Blk wya (w.heap.size + 1 + 1 + 1 + 1 + 1) #[.int .i64 f, .slice (some ⟨M1, 0, none⟩) rs1.length c1] 96) := blk_far (HM2.out.bleft.grow HU.out) hg (fun e => chain_alarm (HM2.out.bleft.grow HU.out) hcu (Option.some.inj e))
        have B6 : Hid (Blk wya (w.heap.size + 1 + 1 + 1 + 1 + 1 + 1) #[.slice (some ⟨M2, 0, none⟩) rs2.length c2] 40) := blk_far (HM2.out.bover.grow HU.out) hg (fun e => list_alarm (HM2.out.bover.grow HU.out) hcu (Option.some.inj e))
        have HBA : Hid (Below w.heap.size w wya ∧ W0.heap.size ≤ wya.heap.size) := ⟨hbel, by have := HM2.out.size; have := HU.out.size; have := hg.size; omega⟩
        have HKA : Hid (KeepsFrom W0.heap.size W wya) := ((keeps_of HB2.out).trans (keeps_of HU.out)).trans ((KeepsOthers.of_grownBy hg (fun j o ej hj => by
          cases ej
          unfold Blk at hcu
          rw [hcu] at hj
          cases hj
          rfl)).from _)
        have HBW : Hid (Below w.heap.size W wya) := ((HB2.out.mono HM.out.below.size).trans (HU.out.mono HM2.out.below.size)).grown hg (by have := HM2.out.below.size; have := HU.out.size; omega) (fun k e => by have := HM2.out.low; have h : M2 = k := Option.some.inj e; omega)
        clear hown hbel hg hat hT hlow hcu
        clear hHeld
        refine hK.out _ _ trivial (fun hHeld => ?_)
        clear hK K
        try simp only [Act.put, List.setIfInBounds_toArray, List.set_cons_zero, List.set_cons_succ]
        refine wpAnyH_ready (rs := [5]) (by kernel_rfl) (by simp) ?_
        refine AllReadyH.cons (o := { dst := none, op := Op.store 40 (Operand.tmp 7) (Operand.tmp 26), type := 0, pos := "l06_chain.go:66", after := #[{ on := 4, ground := Ground.data }, { on := 4, ground := Ground.chain }, { on := 0, ground := Ground.phase }, { on := 1, ground := Ground.phase }, { on := 2, ground := Ground.phase }, { on := 3, ground := Ground.phase }, { on := 4, ground := Ground.phase }], guard := none }) rfl (fun K hK => ?_) AllReadyH.nil
        have cD : wya.cell? ⟨w.heap.size + 1 + 1 + 1 + 1 + 1 + 1, 0, none⟩ = some (.slice (some ⟨M2, 0, none⟩) rs2.length c2) := B6.out.cell 0
        have fD := B6.out.frozen 0
        go_simp
        clear cD fD
        clear hHeld
        refine hK.out _ _ trivial (fun hHeld => ?_)
        clear hK K
        try simp only [Act.put, List.setIfInBounds_toArray, List.set_cons_zero, List.set_cons_succ]
        refine wpAnyH_done (by kernel_rfl) ?_ _
        obtain ⟨W3, hW3⟩ : ∃ W3, (wya.setCell ⟨w.heap.size + 1 + 1 + 1 + 1 + 1 + 1, 0, none⟩ (.slice (some ⟨M3, 0, none⟩) (rs2.length + 1) c3)) = W3 := ⟨_, rfl⟩
        have hn5 : w.heap.size + 1 + 1 + 1 + 1 + 1 + 1 ≠ w.heap.size + 1 + 1 + 1 + 1 + 1 := by omega
        have HMid : Hid (Mid w W0 f now W3 M1 c1 rs1 M3 c3 (rs2 ++ [(Mx, cx, nthP P x.1)])) := by
          rw [← hW3]
          exact ⟨HT.out.moved (fun k => k.set_other (list_alarm B6.out k) _) (fun k => k.set_other (list_label B6.out k) _), ⟨HM2.out.low.1, HLo.out⟩, B1.out.set_other (by show w.heap.size + 1 + 1 + 1 + 1 + 1 + 1 ≠ w.heap.size + 1; omega) _, B2.out.set_other (by show w.heap.size + 1 + 1 + 1 + 1 + 1 + 1 ≠ w.heap.size + 1 + 1; omega) _, B5.out.set_other hn5 _, by have := B6.out.set 0 (.slice (some ⟨M3, 0, none⟩) (rs2.length + 1) c3); simpa using this, set_low HBA.out.1 (by omega) _ _, by rw [size_setCell]; exact HBA.out.2⟩
        have HK1 : Hid (KeepsFrom W0.heap.size W W3) := by rw [← hW3]; exact HKA.out.trans ((KeepsOthers.setCell _ _ _).from _)
        have HK2 : Hid (Below w.heap.size W W3) := by rw [← hW3]; exact set_low HBW.out (by omega) _ _
        rw [hW3]
        clear hW3 hHeld B1 B2 B5 B6 HBA HKA HBW HT
        gi_wp2
        exact ⟨HK1.out, HK2.out, M1, c1, rs1, M3, c3, rs2 ++ [(Mx, cx, nthP P x.1)], HMid.out, HP.out.1.trans HV.out.1.symm, by rw [pals_app, HP.out.2, HV.out.2]⟩
      refine AllReadyH.cons (o := { dst := some 23, op := Op.load 29 (Operand.tmp 9), type := 29, pos := "l06_chain.go:66", after := #[], guard := none }) rfl (fun K hK => ?_) AllReadyH.nil
      have y0 : w2.drew.cell? ⟨Nx, 0, none⟩ = some (.slice (ad x.1) (nthP P x.1).l.length (cp x.1)) := HX2.out.drew.cell 0
      have y1 : w2.drew.cell? ⟨Nx, 1, none⟩ = some (.int .i64 (nthP P x.1).s) := HX2.out.drew.cell 1
      have y2 : w2.drew.cell? ⟨Nx, 2, none⟩ = some (.int .i64 (nthP P x.1).e) := HX2.out.drew.cell 2
      have y3 : w2.drew.cell? ⟨Nx, 3, none⟩ = some (.string (nthP P x.1).n) := HX2.out.drew.cell 3
      go_simp
      clear y0 y1 y2 y3
      clear hHeld
      refine hK.out _ _ trivial (fun hHeld => ?_)
      clear hK K
      try simp only [Act.put, List.setIfInBounds_toArray, List.set_cons_zero, List.set_cons_succ]
      refine wpAnyH_ready (rs := [0, 2]) (by kernel_rfl) (by simp) ?_
      refine AllReadyH.cons (o := { dst := some 22, op := Op.load 40 (Operand.tmp 7), type := 40, pos := "l06_chain.go:66", after := #[], guard := none }) rfl (fun K hK => ?_) ?_
      ·
        have cD : w2.drew.cell? ⟨w.heap.size + 1 + 1 + 1 + 1 + 1 + 1, 0, none⟩ = some (.slice (some ⟨M2, 0, none⟩) rs2.length c2) := (HM2.out.bover.drew).cell 0
        go_simp
        clear cD
        clear hHeld
        refine hK.out _ _ trivial (fun hHeld => ?_)
        clear hK K
        try simp only [Act.put, List.setIfInBounds_toArray, List.set_cons_zero, List.set_cons_succ]
        refine wpAnyH_ready (rs := [2]) (by kernel_rfl) (by simp) ?_
        refine AllReadyH.cons (o := { dst := some 24, op := Op.call { callee := Callee.value (Operand.func 75), args := #[Operand.tmp 23], argTypes := #[29] }, type := 29, pos := "l06_chain.go:66", after := #[{ on := 1, ground := Ground.data }], guard := none }) rfl (fun K hK => ?_) AllReadyH.nil
        go_simp
        refine (HC2.out _ (Below.refl _ _).drew).mono ?_
        rintro r wyc ⟨⟨Mx, cx, rfl, hO⟩, hy⟩
        have HZ : Hid (Below w2.heap.size w2 wyc) := grow_on (Below.refl _ _).drew hy
        have HO : Hid (OwnA w.heap.size wyc (Mx, cx, nthP P x.1) ∧ w2.heap.size ≤ Mx) := ⟨(own_of_copy hO (HF.out x.1 x.2)).down (by have := HM2.out.below.size; show w.heap.size ≤ w2.drew.heap.size; simp; omega), hO.1⟩
        clear hy hO
        clear hHeld
        refine hK.out _ _ trivial (fun hHeld => ?_)
        clear hK K
        try simp only [Act.put, List.setIfInBounds_toArray, List.set_cons_zero, List.set_cons_succ]
        refine wpAnyH_ready (rs := [3]) (by kernel_rfl) (by simp) ?_
        refine AllReadyH.cons (o := { dst := some 25, op := Op.buildSlice 40 1 #[(0, Operand.tmp 24)], type := 40, pos := "l06_chain.go:66", after := #[{ on := 2, ground := Ground.data }], guard := none }) rfl (fun K hK => ?_) AllReadyH.nil
        go_simp
        clear hHeld
        refine hK.out _ _ trivial (fun hHeld => ?_)
        clear hK K
        try simp only [Act.put, List.setIfInBounds_toArray, List.set_cons_zero, List.set_cons_succ]
        refine wpAnyH_ready (rs := [4]) (by kernel_rfl) (by simp) ?_
        refine AllReadyH.cons (o := { dst := some 26, op := Op.call { callee := Callee.builtin Builtin.append, args := #[Operand.tmp 22, Operand.tmp 25], argTypes := #[40, 40] }, type := 40, pos := "l06_chain.go:66", after := #[{ on := 0, ground := Ground.data }, { on := 3, ground := Ground.data }, { on := 2, ground := Ground.chain }], guard := none }) rfl (fun K hK => ?_) AllReadyH.nil
        have HU : Hid (Below w2.heap.size w2 (wyc.alloc (.cells #[.slice (some ⟨Mx, 0, none⟩) (nthP P x.1).l.length cx, .int .i64 (nthP P x.1).s, .int .i64 (nthP P x.1).e, .string (nthP P x.1).n] 29))) := grow_on HZ.out (Go.Joins.below_alloc1 wyc _)
        refine step_app rfl _ _ 40 rfl 29 i0 (.agg #[.slice none 0 0, .int .i64 0, .int .i64 0, .string ByteArray.empty]) 4 56 Tryz.underlying40 hi hz0 hz1 hz2 rfl (by decide) w (grow_on HM2.out.below HU.out) (.slice (some ⟨M2, 0, none⟩) rs2.length c2) rs2.length xs rfl (own_grow HOX.out HU.out) ⟨wyc.heap.size, 0, none⟩ 1 1 (rowV (Mx, cx, nthP P x.1)) rfl rfl (blk_news (Blk.new _ _ _)) (row_one _) ?q2c ?q2d ?_
        case q2c => have := HL.out; unfold maxLen; omega
        case q2d => have := HL.out; omega
        intro v' wya hown hbel hg hat
        obtain ⟨cu, hcu, _⟩ := (HM2.out.two.grow HU.out).b.outer
        have hlow : ∀ {M' n' c'}, v' = .slice (some ⟨M', 0, none⟩) n' c' → w.heap.size + 3 ≤ M' := fun e => mid_low hat e HM2.out.low.2 (by have := HM2.out.size; have := HU.out.size; omega)
        obtain ⟨M3, c3, e3, hT⟩ := (HM2.out.two.grow HU.out).symm.app (HO.out.1.grow (Go.Joins.below_alloc1 wyc (.cells #[.slice (some ⟨Mx, 0, none⟩) (nthP P x.1).l.length cx, .int .i64 (nthP P x.1).s, .int .i64 (nthP P x.1).e, .string (nthP P x.1).n] 29))) (fun y hy => by have := (HM2.out.two.b.rows y hy).lt; have := HO.out.2; show y.1 ≠ Mx; omega) (fun y hy => by have := (HM2.out.two.a.rows y hy).lt; have := HO.out.2; show y.1 ≠ Mx; omega) HXS.out.1 HXS.out.2 hown hg hat
        have HLo : Hid (w.heap.size + 3 ≤ M3) := hlow e3
        subst e3
        have HT : Hid (Two w.heap.size wya M1 c1 rs1 M3 c3 (rs2 ++ [(Mx, cx, nthP P x.1)])) := hT.symm
        have B1 : Hid (Blk wya (w.heap.size + 1) #[.int .i64 now] 3) := blk_far (HM2.out.bnow.grow HU.out) hg (fun e => by have := HM2.out.low; have h : w.heap.size + 1 = M2 := Option.some.inj e; omega)
        have B2 : Hid (Blk wya (w.heap.size + 1 + 1) #[.int .i64 0, .slice none 0 0] 96) := blk_far (HM2.out.bres.grow HU.out) hg (fun e => by have := HM2.out.low; have h : w.heap.size + 1 + 1 = M2 := Option.some.inj e; omega)
        have B5 : Hid (Blk wya (w.heap.size + 1 + 1 + 1 + 1 + 1) #[.int .i64 f, .slice (some ⟨M1, 0, none⟩) rs1.length c1] 96) := blk_far (HM2.out.bleft.grow HU.out) hg (fun e => chain_alarm (HM2.out.bleft.grow HU.out) hcu (Option.some.inj e))
        have B6 : Hid (Blk wya (w.heap.size + 1 + 1 + 1 + 1 + 1 + 1) #[.slice (some ⟨M2, 0, none⟩) rs2.length c2] 40) := blk_far (HM2.out.bover.grow HU.out) hg (fun e => list_alarm (HM2.out.bover.grow HU.out) hcu (Option.some.inj e))
        have HBA : Hid (Below w.heap.size w wya ∧ W0.heap.size ≤ wya.heap.size) := ⟨hbel, by have := HM2.out.size; have := HU.out.size; have := hg.size; omega⟩
        have HKA : Hid (KeepsFrom W0.heap.size W wya) := ((keeps_of HB2.out).trans (keeps_of HU.out)).trans ((KeepsOthers.of_grownBy hg (fun j o ej hj => by
          cases ej
          unfold Blk at hcu
          rw [hcu] at hj
          cases hj
          rfl)).from _)
        have HBW : Hid (Below w.heap.size W wya) := ((HB2.out.mono HM.out.below.size).trans (HU.out.mono HM2.out.below.size)).grown hg (by have := HM2.out.below.size; have := HU.out.size; omega) (fun k e => by have := HM2.out.low; have h : M2 = k := Option.some.inj e; omega)
        clear hown hbel hg hat hT hlow hcu
        clear hHeld
        refine hK.out _ _ trivial (fun hHeld => ?_)
        clear hK K
        try simp only [Act.put, List.setIfInBounds_toArray, List.set_cons_zero, List.set_cons_succ]
        refine wpAnyH_ready (rs := [5]) (by kernel_rfl) (by simp) ?_
        refine AllReadyH.cons (o := { dst := none, op := Op.store 40 (Operand.tmp 7) (Operand.tmp 26), type := 0, pos := "l06_chain.go:66", after := #[{ on := 4, ground := Ground.data }, { on := 4, ground := Ground.chain }, { on := 0, ground := Ground.phase }, { on := 1, ground := Ground.phase }, { on := 2, ground := Ground.phase }, { on := 3, ground := Ground.phase }, { on := 4, ground := Ground.phase }], guard := none }) rfl (fun K hK => ?_) AllReadyH.nil
        have cD : wya.cell? ⟨w.heap.size + 1 + 1 + 1 + 1 + 1 + 1, 0, none⟩ = some (.slice (some ⟨M2, 0, none⟩) rs2.length c2) := B6.out.cell 0
        have fD := B6.out.frozen 0
        go_simp
        clear cD fD
        clear hHeld
        refine hK.out _ _ trivial (fun hHeld => ?_)
        clear hK K
        try simp only [Act.put, List.setIfInBounds_toArray, List.set_cons_zero, List.set_cons_succ]
        refine wpAnyH_done (by kernel_rfl) ?_ _
        obtain ⟨W3, hW3⟩ : ∃ W3, (wya.setCell ⟨w.heap.size + 1 + 1 + 1 + 1 + 1 + 1, 0, none⟩ (.slice (some ⟨M3, 0, none⟩) (rs2.length + 1) c3)) = W3 := ⟨_, rfl⟩
        have hn5 : w.heap.size + 1 + 1 + 1 + 1 + 1 + 1 ≠ w.heap.size + 1 + 1 + 1 + 1 + 1 := by omega
        have HMid : Hid (Mid w W0 f now W3 M1 c1 rs1 M3 c3 (rs2 ++ [(Mx, cx, nthP P x.1)])) := by
          rw [← hW3]
          exact ⟨HT.out.moved (fun k => k.set_other (list_alarm B6.out k) _) (fun k => k.set_other (list_label B6.out k) _), ⟨HM2.out.low.1, HLo.out⟩, B1.out.set_other (by show w.heap.size + 1 + 1 + 1 + 1 + 1 + 1 ≠ w.heap.size + 1; omega) _, B2.out.set_other (by show w.heap.size + 1 + 1 + 1 + 1 + 1 + 1 ≠ w.heap.size + 1 + 1; omega) _, B5.out.set_other hn5 _, by have := B6.out.set 0 (.slice (some ⟨M3, 0, none⟩) (rs2.length + 1) c3); simpa using this, set_low HBA.out.1 (by omega) _ _, by rw [size_setCell]; exact HBA.out.2⟩
        have HK1 : Hid (KeepsFrom W0.heap.size W W3) := by rw [← hW3]; exact HKA.out.trans ((KeepsOthers.setCell _ _ _).from _)
        have HK2 : Hid (Below w.heap.size W W3) := by rw [← hW3]; exact set_low HBW.out (by omega) _ _
        rw [hW3]
        clear hW3 hHeld B1 B2 B5 B6 HBA HKA HBW HT
        gi_wp2
        exact ⟨HK1.out, HK2.out, M1, c1, rs1, M3, c3, rs2 ++ [(Mx, cx, nthP P x.1)], HMid.out, HP.out.1.trans HV.out.1.symm, by rw [pals_app, HP.out.2, HV.out.2]⟩
      refine AllReadyH.cons (o := { dst := some 24, op := Op.call { callee := Callee.value (Operand.func 75), args := #[Operand.tmp 23], argTypes := #[29] }, type := 29, pos := "l06_chain.go:66", after := #[{ on := 1, ground := Ground.data }], guard := none }) rfl (fun K hK => ?_) AllReadyH.nil
      go_simp
      refine (HC2.out _ (Below.refl _ _).drew).mono ?_
      rintro r wyc ⟨⟨Mx, cx, rfl, hO⟩, hy⟩
      have HZ : Hid (Below w2.heap.size w2 wyc) := grow_on (Below.refl _ _).drew hy
      have HO : Hid (OwnA w.heap.size wyc (Mx, cx, nthP P x.1) ∧ w2.heap.size ≤ Mx) := ⟨(own_of_copy hO (HF.out x.1 x.2)).down (by have := HM2.out.below.size; show w.heap.size ≤ w2.drew.heap.size; simp; omega), hO.1⟩
      clear hy hO
      clear hHeld
      refine hK.out _ _ trivial (fun hHeld => ?_)
      clear hK K
      try simp only [Act.put, List.setIfInBounds_toArray, List.set_cons_zero, List.set_cons_succ]
      refine wpAnyH_ready (rs := [0, 3]) (by kernel_rfl) (by simp) ?_
      refine AllReadyH.cons (o := { dst := some 22, op := Op.load 40 (Operand.tmp 7), type := 40, pos := "l06_chain.go:66", after := #[], guard := none }) rfl (fun K hK => ?_) ?_
      ·
        have cD : wyc.cell? ⟨w.heap.size + 1 + 1 + 1 + 1 + 1 + 1, 0, none⟩ = some (.slice (some ⟨M2, 0, none⟩) rs2.length c2) := (HM2.out.bover.grow HZ.out).cell 0
        go_simp
        clear cD
        clear hHeld
        refine hK.out _ _ trivial (fun hHeld => ?_)
        clear hK K
        try simp only [Act.put, List.setIfInBounds_toArray, List.set_cons_zero, List.set_cons_succ]
        refine wpAnyH_ready (rs := [3]) (by kernel_rfl) (by simp) ?_
        refine AllReadyH.cons (o := { dst := some 25, op := Op.buildSlice 40 1 #[(0, Operand.tmp 24)], type := 40, pos := "l06_chain.go:66", after := #[{ on := 2, ground := Ground.data }], guard := none }) rfl (fun K hK => ?_) AllReadyH.nil
        go_simp
        clear hHeld
        refine hK.out _ _ trivial (fun hHeld => ?_)
        clear hK K
        try simp only [Act.put, List.setIfInBounds_toArray, List.set_cons_zero, List.set_cons_succ]
        refine wpAnyH_ready (rs := [4]) (by kernel_rfl) (by simp) ?_
        refine AllReadyH.cons (o := { dst := some 26, op := Op.call { callee := Callee.builtin Builtin.append, args := #[Operand.tmp 22, Operand.tmp 25], argTypes := #[40, 40] }, type := 40, pos := "l06_chain.go:66", after := #[{ on := 0, ground := Ground.data }, { on := 3, ground := Ground.data }, { on := 2, ground := Ground.chain }], guard := none }) rfl (fun K hK => ?_) AllReadyH.nil
        have HU : Hid (Below w2.heap.size w2 (wyc.alloc (.cells #[.slice (some ⟨Mx, 0, none⟩) (nthP P x.1).l.length cx, .int .i64 (nthP P x.1).s, .int .i64 (nthP P x.1).e, .string (nthP P x.1).n] 29))) := grow_on HZ.out (Go.Joins.below_alloc1 wyc _)
        refine step_app rfl _ _ 40 rfl 29 i0 (.agg #[.slice none 0 0, .int .i64 0, .int .i64 0, .string ByteArray.empty]) 4 56 Tryz.underlying40 hi hz0 hz1 hz2 rfl (by decide) w (grow_on HM2.out.below HU.out) (.slice (some ⟨M2, 0, none⟩) rs2.length c2) rs2.length xs rfl (own_grow HOX.out HU.out) ⟨wyc.heap.size, 0, none⟩ 1 1 (rowV (Mx, cx, nthP P x.1)) rfl rfl (blk_news (Blk.new _ _ _)) (row_one _) ?q3c ?q3d ?_
        case q3c => have := HL.out; unfold maxLen; omega
        case q3d => have := HL.out; omega
        intro v' wya hown hbel hg hat
        obtain ⟨cu, hcu, _⟩ := (HM2.out.two.grow HU.out).b.outer
        have hlow : ∀ {M' n' c'}, v' = .slice (some ⟨M', 0, none⟩) n' c' → w.heap.size + 3 ≤ M' := fun e => mid_low hat e HM2.out.low.2 (by have := HM2.out.size; have := HU.out.size; omega)
        obtain ⟨M3, c3, e3, hT⟩ := (HM2.out.two.grow HU.out).symm.app (HO.out.1.grow (Go.Joins.below_alloc1 wyc (.cells #[.slice (some ⟨Mx, 0, none⟩) (nthP P x.1).l.length cx, .int .i64 (nthP P x.1).s, .int .i64 (nthP P x.1).e, .string (nthP P x.1).n] 29))) (fun y hy => by have := (HM2.out.two.b.rows y hy).lt; have := HO.out.2; show y.1 ≠ Mx; omega) (fun y hy => by have := (HM2.out.two.a.rows y hy).lt; have := HO.out.2; show y.1 ≠ Mx; omega) HXS.out.1 HXS.out.2 hown hg hat
        have HLo : Hid (w.heap.size + 3 ≤ M3) := hlow e3
        subst e3
        have HT : Hid (Two w.heap.size wya M1 c1 rs1 M3 c3 (rs2 ++ [(Mx, cx, nthP P x.1)])) := hT.symm
        have B1 : Hid (Blk wya (w.heap.size + 1) #[.int .i64 now] 3) := blk_far (HM2.out.bnow.grow HU.out) hg (fun e => by have := HM2.out.low; have h : w.heap.size + 1 = M2 := Option.some.inj e; omega)
        have B2 : Hid (Blk wya (w.heap.size + 1 + 1) #[.int .i64 0, .slice none 0 0] 96) := blk_far (HM2.out.bres.grow HU.out) hg (fun e => by have := HM2.out.low; have h : w.heap.size + 1 + 1 = M2 := Option.some.inj e; omega)
        have B5 : Hid (Blk wya (w.heap.size + 1 + 1 + 1 + 1 + 1) #[.int .i64 f, .slice (some ⟨M1, 0, none⟩) rs1.length c1] 96) := blk_far (HM2.out.bleft.grow HU.out) hg (fun e => chain_alarm (HM2.out.bleft.grow HU.out) hcu (Option.some.inj e))
        have B6 : Hid (Blk wya (w.heap.size + 1 + 1 + 1 + 1 + 1 + 1) #[.slice (some ⟨M2, 0, none⟩) rs2.length c2] 40) := blk_far (HM2.out.bover.grow HU.out) hg (fun e => list_alarm (HM2.out.bover.grow HU.out) hcu (Option.some.inj e))
        have HBA : Hid (Below w.heap.size w wya ∧ W0.heap.size ≤ wya.heap.size) := ⟨hbel, by have := HM2.out.size; have := HU.out.size; have := hg.size; omega⟩
        have HKA : Hid (KeepsFrom W0.heap.size W wya) := ((keeps_of HB2.out).trans (keeps_of HU.out)).trans ((KeepsOthers.of_grownBy hg (fun j o ej hj => by
          cases ej
          unfold Blk at hcu
          rw [hcu] at hj
          cases hj
          rfl)).from _)
        have HBW : Hid (Below w.heap.size W wya) := ((HB2.out.mono HM.out.below.size).trans (HU.out.mono HM2.out.below.size)).grown hg (by have := HM2.out.below.size; have := HU.out.size; omega) (fun k e => by have := HM2.out.low; have h : M2 = k := Option.some.inj e; omega)
        clear hown hbel hg hat hT hlow hcu
        clear hHeld
        refine hK.out _ _ trivial (fun hHeld => ?_)
        clear hK K
        try simp only [Act.put, List.setIfInBounds_toArray, List.set_cons_zero, List.set_cons_succ]
        refine wpAnyH_ready (rs := [5]) (by kernel_rfl) (by simp) ?_
        refine AllReadyH.cons (o := { dst := none, op := Op.store 40 (Operand.tmp 7) (Operand.tmp 26), type := 0, pos := "l06_chain.go:66", after := #[{ on := 4, ground := Ground.data }, { on := 4, ground := Ground.chain }, { on := 0, ground := Ground.phase }, { on := 1, ground := Ground.phase }, { on := 2, ground := Ground.phase }, { on := 3, ground := Ground.phase }, { on := 4, ground := Ground.phase }], guard := none }) rfl (fun K hK => ?_) AllReadyH.nil
        have cD : wya.cell? ⟨w.heap.size + 1 + 1 + 1 + 1 + 1 + 1, 0, none⟩ = some (.slice (some ⟨M2, 0, none⟩) rs2.length c2) := B6.out.cell 0
        have fD := B6.out.frozen 0
        go_simp
        clear cD fD
        clear hHeld
        refine hK.out _ _ trivial (fun hHeld => ?_)
        clear hK K
        try simp only [Act.put, List.setIfInBounds_toArray, List.set_cons_zero, List.set_cons_succ]
        refine wpAnyH_done (by kernel_rfl) ?_ _
        obtain ⟨W3, hW3⟩ : ∃ W3, (wya.setCell ⟨w.heap.size + 1 + 1 + 1 + 1 + 1 + 1, 0, none⟩ (.slice (some ⟨M3, 0, none⟩) (rs2.length + 1) c3)) = W3 := ⟨_, rfl⟩
        have hn5 : w.heap.size + 1 + 1 + 1 + 1 + 1 + 1 ≠ w.heap.size + 1 + 1 + 1 + 1 + 1 := by omega
        have HMid : Hid (Mid w W0 f now W3 M1 c1 rs1 M3 c3 (rs2 ++ [(Mx, cx, nthP P x.1)])) := by
          rw [← hW3]
          exact ⟨HT.out.moved (fun k => k.set_other (list_alarm B6.out k) _) (fun k => k.set_other (list_label B6.out k) _), ⟨HM2.out.low.1, HLo.out⟩, B1.out.set_other (by show w.heap.size + 1 + 1 + 1 + 1 + 1 + 1 ≠ w.heap.size + 1; omega) _, B2.out.set_other (by show w.heap.size + 1 + 1 + 1 + 1 + 1 + 1 ≠ w.heap.size + 1 + 1; omega) _, B5.out.set_other hn5 _, by have := B6.out.set 0 (.slice (some ⟨M3, 0, none⟩) (rs2.length + 1) c3); simpa using this, set_low HBA.out.1 (by omega) _ _, by rw [size_setCell]; exact HBA.out.2⟩
        have HK1 : Hid (KeepsFrom W0.heap.size W W3) := by rw [← hW3]; exact HKA.out.trans ((KeepsOthers.setCell _ _ _).from _)
        have HK2 : Hid (Below w.heap.size W W3) := by rw [← hW3]; exact set_low HBW.out (by omega) _ _
        rw [hW3]
        clear hW3 hHeld B1 B2 B5 B6 HBA HKA HBW HT
        gi_wp2
        exact ⟨HK1.out, HK2.out, M1, c1, rs1, M3, c3, rs2 ++ [(Mx, cx, nthP P x.1)], HMid.out, HP.out.1.trans HV.out.1.symm, by rw [pals_app, HP.out.2, HV.out.2]⟩
      refine AllReadyH.cons (o := { dst := some 25, op := Op.buildSlice 40 1 #[(0, Operand.tmp 24)], type := 40, pos := "l06_chain.go:66", after := #[{ on := 2, ground := Ground.data }], guard := none }) rfl (fun K hK => ?_) AllReadyH.nil
      go_simp
      clear hHeld
      refine hK.out _ _ trivial (fun hHeld => ?_)
      clear hK K
      try simp only [Act.put, List.setIfInBounds_toArray, List.set_cons_zero, List.set_cons_succ]
      refine wpAnyH_ready (rs := [0]) (by kernel_rfl) (by simp) ?_
      refine AllReadyH.cons (o := { dst := some 22, op := Op.load 40 (Operand.tmp 7), type := 40, pos := "l06_chain.go:66", after := #[], guard := none }) rfl (fun K hK => ?_) AllReadyH.nil
      have cD : (wyc.alloc (.cells #[.slice (some ⟨Mx, 0, none⟩) (nthP P x.1).l.length cx, .int .i64 (nthP P x.1).s, .int .i64 (nthP P x.1).e, .string (nthP P x.1).n] 29)).cell? ⟨w.heap.size + 1 + 1 + 1 + 1 + 1 + 1, 0, none⟩ = some (.slice (some ⟨M2, 0, none⟩) rs2.length c2) := ((HM2.out.bover.grow HZ.out).alloc _).cell 0
      go_simp
      clear cD
      clear hHeld
      refine hK.out _ _ trivial (fun hHeld => ?_)
      clear hK K
      try simp only [Act.put, List.setIfInBounds_toArray, List.set_cons_zero, List.set_cons_succ]
      refine wpAnyH_ready (rs := [4]) (by kernel_rfl) (by simp) ?_
      refine AllReadyH.cons (o := { dst := some 26, op := Op.call { callee := Callee.builtin Builtin.append, args := #[Operand.tmp 22, Operand.tmp 25], argTypes := #[40, 40] }, type := 40, pos := "l06_chain.go:66", after := #[{ on := 0, ground := Ground.data }, { on := 3, ground := Ground.data }, { on := 2, ground := Ground.chain }], guard := none }) rfl (fun K hK => ?_) AllReadyH.nil
      have HU : Hid (Below w2.heap.size w2 (wyc.alloc (.cells #[.slice (some ⟨Mx, 0, none⟩) (nthP P x.1).l.length cx, .int .i64 (nthP P x.1).s, .int .i64 (nthP P x.1).e, .string (nthP P x.1).n] 29))) := grow_on HZ.out (Go.Joins.below_alloc1 wyc _)
      refine step_app rfl _ _ 40 rfl 29 i0 (.agg #[.slice none 0 0, .int .i64 0, .int .i64 0, .string ByteArray.empty]) 4 56 Tryz.underlying40 hi hz0 hz1 hz2 rfl (by decide) w (grow_on HM2.out.below HU.out) (.slice (some ⟨M2, 0, none⟩) rs2.length c2) rs2.length xs rfl (own_grow HOX.out HU.out) ⟨wyc.heap.size, 0, none⟩ 1 1 (rowV (Mx, cx, nthP P x.1)) rfl rfl (blk_news (Blk.new _ _ _)) (row_one _) ?q4c ?q4d ?_
      case q4c => have := HL.out; unfold maxLen; omega
      case q4d => have := HL.out; omega
      intro v' wya hown hbel hg hat
      obtain ⟨cu, hcu, _⟩ := (HM2.out.two.grow HU.out).b.outer
      have hlow : ∀ {M' n' c'}, v' = .slice (some ⟨M', 0, none⟩) n' c' → w.heap.size + 3 ≤ M' := fun e => mid_low hat e HM2.out.low.2 (by have := HM2.out.size; have := HU.out.size; omega)
      obtain ⟨M3, c3, e3, hT⟩ := (HM2.out.two.grow HU.out).symm.app (HO.out.1.grow (Go.Joins.below_alloc1 wyc (.cells #[.slice (some ⟨Mx, 0, none⟩) (nthP P x.1).l.length cx, .int .i64 (nthP P x.1).s, .int .i64 (nthP P x.1).e, .string (nthP P x.1).n] 29))) (fun y hy => by have := (HM2.out.two.b.rows y hy).lt; have := HO.out.2; show y.1 ≠ Mx; omega) (fun y hy => by have := (HM2.out.two.a.rows y hy).lt; have := HO.out.2; show y.1 ≠ Mx; omega) HXS.out.1 HXS.out.2 hown hg hat
      have HLo : Hid (w.heap.size + 3 ≤ M3) := hlow e3
      subst e3
      have HT : Hid (Two w.heap.size wya M1 c1 rs1 M3 c3 (rs2 ++ [(Mx, cx, nthP P x.1)])) := hT.symm
      have B1 : Hid (Blk wya (w.heap.size + 1) #[.int .i64 now] 3) := blk_far (HM2.out.bnow.grow HU.out) hg (fun e => by have := HM2.out.low; have h : w.heap.size + 1 = M2 := Option.some.inj e; omega)
      have B2 : Hid (Blk wya (w.heap.size + 1 + 1) #[.int .i64 0, .slice none 0 0] 96) := blk_far (HM2.out.bres.grow HU.out) hg (fun e => by have := HM2.out.low; have h : w.heap.size + 1 + 1 = M2 := Option.some.inj e; omega)
      have B5 : Hid (Blk wya (w.heap.size + 1 + 1 + 1 + 1 + 1) #[.int .i64 f, .slice (some ⟨M1, 0, none⟩) rs1.length c1] 96) := blk_far (HM2.out.bleft.grow HU.out) hg (fun e => chain_alarm (HM2.out.bleft.grow HU.out) hcu (Option.some.inj e))
      have B6 : Hid (Blk wya (w.heap.size + 1 + 1 + 1 + 1 + 1 + 1) #[.slice (some ⟨M2, 0, none⟩) rs2.length c2] 40) := blk_far (HM2.out.bover.grow HU.out) hg (fun e => list_alarm (HM2.out.bover.grow HU.out) hcu (Option.some.inj e))
      have HBA : Hid (Below w.heap.size w wya ∧ W0.heap.size ≤ wya.heap.size) := ⟨hbel, by have := HM2.out.size; have := HU.out.size; have := hg.size; omega⟩
      have HKA : Hid (KeepsFrom W0.heap.size W wya) := ((keeps_of HB2.out).trans (keeps_of HU.out)).trans ((KeepsOthers.of_grownBy hg (fun j o ej hj => by
        cases ej
        unfold Blk at hcu
        rw [hcu] at hj
        cases hj
        rfl)).from _)
      have HBW : Hid (Below w.heap.size W wya) := ((HB2.out.mono HM.out.below.size).trans (HU.out.mono HM2.out.below.size)).grown hg (by have := HM2.out.below.size; have := HU.out.size; omega) (fun k e => by have := HM2.out.low; have h : M2 = k := Option.some.inj e; omega)
      clear hown hbel hg hat hT hlow hcu
      clear hHeld
      refine hK.out _ _ trivial (fun hHeld => ?_)
      clear hK K
      try simp only [Act.put, List.setIfInBounds_toArray, List.set_cons_zero, List.set_cons_succ]
      refine wpAnyH_ready (rs := [5]) (by kernel_rfl) (by simp) ?_
      refine AllReadyH.cons (o := { dst := none, op := Op.store 40 (Operand.tmp 7) (Operand.tmp 26), type := 0, pos := "l06_chain.go:66", after := #[{ on := 4, ground := Ground.data }, { on := 4, ground := Ground.chain }, { on := 0, ground := Ground.phase }, { on := 1, ground := Ground.phase }, { on := 2, ground := Ground.phase }, { on := 3, ground := Ground.phase }, { on := 4, ground := Ground.phase }], guard := none }) rfl (fun K hK => ?_) AllReadyH.nil
      have cD : wya.cell? ⟨w.heap.size + 1 + 1 + 1 + 1 + 1 + 1, 0, none⟩ = some (.slice (some ⟨M2, 0, none⟩) rs2.length c2) := B6.out.cell 0
      have fD := B6.out.frozen 0
      go_simp
      clear cD fD
      clear hHeld
      refine hK.out _ _ trivial (fun hHeld => ?_)
      clear hK K
      try simp only [Act.put, List.setIfInBounds_toArray, List.set_cons_zero, List.set_cons_succ]
      refine wpAnyH_done (by kernel_rfl) ?_ _
      obtain ⟨W3, hW3⟩ : ∃ W3, (wya.setCell ⟨w.heap.size + 1 + 1 + 1 + 1 + 1 + 1, 0, none⟩ (.slice (some ⟨M3, 0, none⟩) (rs2.length + 1) c3)) = W3 := ⟨_, rfl⟩
      have hn5 : w.heap.size + 1 + 1 + 1 + 1 + 1 + 1 ≠ w.heap.size + 1 + 1 + 1 + 1 + 1 := by omega
      have HMid : Hid (Mid w W0 f now W3 M1 c1 rs1 M3 c3 (rs2 ++ [(Mx, cx, nthP P x.1)])) := by
        rw [← hW3]
        exact ⟨HT.out.moved (fun k => k.set_other (list_alarm B6.out k) _) (fun k => k.set_other (list_label B6.out k) _), ⟨HM2.out.low.1, HLo.out⟩, B1.out.set_other (by show w.heap.size + 1 + 1 + 1 + 1 + 1 + 1 ≠ w.heap.size + 1; omega) _, B2.out.set_other (by show w.heap.size + 1 + 1 + 1 + 1 + 1 + 1 ≠ w.heap.size + 1 + 1; omega) _, B5.out.set_other hn5 _, by have := B6.out.set 0 (.slice (some ⟨M3, 0, none⟩) (rs2.length + 1) c3); simpa using this, set_low HBA.out.1 (by omega) _ _, by rw [size_setCell]; exact HBA.out.2⟩
      have HK1 : Hid (KeepsFrom W0.heap.size W W3) := by rw [← hW3]; exact HKA.out.trans ((KeepsOthers.setCell _ _ _).from _)
      have HK2 : Hid (Below w.heap.size W W3) := by rw [← hW3]; exact set_low HBW.out (by omega) _ _
      rw [hW3]
      clear hW3 hHeld B1 B2 B5 B6 HBA HKA HBW HT
      gi_wp2
      exact ⟨HK1.out, HK2.out, M1, c1, rs1, M3, c3, rs2 ++ [(Mx, cx, nthP P x.1)], HMid.out, HP.out.1.trans HV.out.1.symm, by rw [pals_app, HP.out.2, HV.out.2]⟩
    | false =>
      rw [hov] at HC
      have HV : Hid (leftF P now (pre ++ [x]) = leftF P now pre ++ [nthP P x.1] ∧ goneF P now (pre ++ [x]) = goneF P now pre) := left_n hov
      clear hov
      gi_wp2_with fail
      refine ⟨trivial, rfl, (calls_in HC.out).mono ?_⟩
      rintro e w2 ⟨rfl, hb⟩
      have HB2 : Hid (Below W.heap.size W w2) := hb
      have HM2 : Hid (Mid w W0 f now w2 M1 c1 rs1 M2 c2 rs2) := HM.out.grow hb
      have HX2 : Hid (Blk w2 Nx (alC (nthP P x.1) (ad x.1) (cp x.1)) 29) := HX.out.grow hb
      have HC2 : Hid (∀ y, Below w2.heap.size w2 y → Calls Tryz.prog 75 #[.agg #[.slice (ad x.1) (nthP P x.1).l.length (cp x.1), .int .i64 (nthP P x.1).s, .int .i64 (nthP P x.1).e, .string (nthP P x.1).n]] y fun r w' => (∃ Mx c, r = .returned (.agg #[.slice (some ⟨Mx, 0, none⟩) (nthP P x.1).l.length c, .int .i64 (nthP P x.1).s, .int .i64 (nthP P x.1).e, .string (nthP P x.1).n]) ∧ LabR.Own y w' Mx (nthP P x.1).l) ∧ Below y.heap.size y w') := fun y hy => copyI_any _ _ _ _ _ _ y ((HA.out x.1 x.2).reads.below (grow_on HM2.out.below hy)) (HF.out x.1 x.2)
      obtain ⟨xs, hox, hxl, hxs⟩ := HM2.out.two.a.own
      have HXS : Hid (xs.length = rs1.length * 4 ∧ ∀ i, i < rs1.length → Four (fun k => xs[k]?) i (nthA rs1 i)) := ⟨hxl, hxs⟩
      have HOX : Hid (w2.ownsRow w.heap.size 29 4 (.slice (some ⟨M1, 0, none⟩) rs1.length c1) rs1.length xs) := hox
      clear hox hxl hxs hb x0 x1 x2 x3 n0 HC
      gi_wp2
      refine held_in (S := fun w' => True) (by kernel_rfl) (by kernel_rfl) (fun h => by obtain ⟨_, _, h⟩ := h; exact h) (trivial) (fun hHeld => ?_)
      refine wpAnyH_take (i := 0) (oi := { dst := some 27, op := Op.fieldAddr 96 (Operand.tmp 6) 1, type := 0, pos := "l06_chain.go:68", after := #[], guard := none }) (v := ?ve1) rfl (by kernel_rfl) (by kernel_rfl) (by kernel_rfl) (fun _ _ _ h => h) (Or.inl ⟨by rfl, ?hye1⟩) hHeld ?_
      case hye1 => (intro w hSw; (try dsimp only at hSw); go_simp <;> with_reducible rfl)
      try simp only [Act.put, List.setIfInBounds_toArray, List.set_cons_zero, List.set_cons_succ]
      refine wpAnyH_ready (rs := [1, 2]) (by kernel_rfl) (by simp) ?_
      refine AllReadyH.cons (o := { dst := some 28, op := Op.load 40 (Operand.tmp 27), type := 40, pos := "l06_chain.go:68", after := #[{ on := 0, ground := Ground.data }], guard := none }) rfl (fun K hK => ?_) ?_
      ·
        have cD : w2.drew.cell? ⟨w.heap.size + 1 + 1 + 1 + 1 + 1, 1, none⟩ = some (.slice (some ⟨M1, 0, none⟩) rs1.length c1) := (HM2.out.bleft.drew).cell 1
        go_simp
        clear cD
        clear hHeld
        refine hK.out _ _ trivial (fun hHeld => ?_)
        clear hK K
        try simp only [Act.put, List.setIfInBounds_toArray, List.set_cons_zero, List.set_cons_succ]
        refine wpAnyH_ready (rs := [2]) (by kernel_rfl) (by simp) ?_
        refine AllReadyH.cons (o := { dst := some 29, op := Op.load 29 (Operand.tmp 9), type := 29, pos := "l06_chain.go:68", after := #[], guard := none }) rfl (fun K hK => ?_) AllReadyH.nil
        have y0 : w2.drew.cell? ⟨Nx, 0, none⟩ = some (.slice (ad x.1) (nthP P x.1).l.length (cp x.1)) := HX2.out.drew.cell 0
        have y1 : w2.drew.cell? ⟨Nx, 1, none⟩ = some (.int .i64 (nthP P x.1).s) := HX2.out.drew.cell 1
        have y2 : w2.drew.cell? ⟨Nx, 2, none⟩ = some (.int .i64 (nthP P x.1).e) := HX2.out.drew.cell 2
        have y3 : w2.drew.cell? ⟨Nx, 3, none⟩ = some (.string (nthP P x.1).n) := HX2.out.drew.cell 3
        go_simp
        clear y0 y1 y2 y3
        clear hHeld
        refine hK.out _ _ trivial (fun hHeld => ?_)
        clear hK K
        try simp only [Act.put, List.setIfInBounds_toArray, List.set_cons_zero, List.set_cons_succ]
        refine wpAnyH_ready (rs := [3]) (by kernel_rfl) (by simp) ?_
        refine AllReadyH.cons (o := { dst := some 30, op := Op.call { callee := Callee.value (Operand.func 75), args := #[Operand.tmp 29], argTypes := #[29] }, type := 29, pos := "l06_chain.go:68", after := #[{ on := 2, ground := Ground.data }], guard := none }) rfl (fun K hK => ?_) AllReadyH.nil
        go_simp
        refine (HC2.out _ (Below.refl _ _).drew).mono ?_
        rintro r wyc ⟨⟨Mx, cx, rfl, hO⟩, hy⟩
        have HZ : Hid (Below w2.heap.size w2 wyc) := grow_on (Below.refl _ _).drew hy
        have HO : Hid (OwnA w.heap.size wyc (Mx, cx, nthP P x.1) ∧ w2.heap.size ≤ Mx) := ⟨(own_of_copy hO (HF.out x.1 x.2)).down (by have := HM2.out.below.size; show w.heap.size ≤ w2.drew.heap.size; simp; omega), hO.1⟩
        clear hy hO
        clear hHeld
        refine hK.out _ _ trivial (fun hHeld => ?_)
        clear hK K
        try simp only [Act.put, List.setIfInBounds_toArray, List.set_cons_zero, List.set_cons_succ]
        refine wpAnyH_ready (rs := [4]) (by kernel_rfl) (by simp) ?_
        refine AllReadyH.cons (o := { dst := some 31, op := Op.buildSlice 40 1 #[(0, Operand.tmp 30)], type := 40, pos := "l06_chain.go:68", after := #[{ on := 3, ground := Ground.data }], guard := none }) rfl (fun K hK => ?_) AllReadyH.nil
        go_simp
        clear hHeld
        refine hK.out _ _ trivial (fun hHeld => ?_)
        clear hK K
        try simp only [Act.put, List.setIfInBounds_toArray, List.set_cons_zero, List.set_cons_succ]
        refine wpAnyH_ready (rs := [5]) (by kernel_rfl) (by simp) ?_
        refine AllReadyH.cons (o := { dst := some 32, op := Op.call { callee := Callee.builtin Builtin.append, args := #[Operand.tmp 28, Operand.tmp 31], argTypes := #[40, 40] }, type := 40, pos := "l06_chain.go:68", after := #[{ on := 1, ground := Ground.data }, { on := 4, ground := Ground.data }, { on := 3, ground := Ground.chain }], guard := none }) rfl (fun K hK => ?_) AllReadyH.nil
        have HU : Hid (Below w2.heap.size w2 (wyc.alloc (.cells #[.slice (some ⟨Mx, 0, none⟩) (nthP P x.1).l.length cx, .int .i64 (nthP P x.1).s, .int .i64 (nthP P x.1).e, .string (nthP P x.1).n] 29))) := grow_on HZ.out (Go.Joins.below_alloc1 wyc _)
        refine step_app rfl _ _ 40 rfl 29 i0 (.agg #[.slice none 0 0, .int .i64 0, .int .i64 0, .string ByteArray.empty]) 4 56 Tryz.underlying40 hi hz0 hz1 hz2 rfl (by decide) w (grow_on HM2.out.below HU.out) (.slice (some ⟨M1, 0, none⟩) rs1.length c1) rs1.length xs rfl (own_grow HOX.out HU.out) ⟨wyc.heap.size, 0, none⟩ 1 1 (rowV (Mx, cx, nthP P x.1)) rfl rfl (blk_news (Blk.new _ _ _)) (row_one _) ?q5c ?q5d ?_
        case q5c => have := HL.out; unfold maxLen; omega
        case q5d => have := HL.out; omega
        intro v' wya hown hbel hg hat
        obtain ⟨cu, hcu, _⟩ := (HM2.out.two.grow HU.out).a.outer
        have hlow : ∀ {M' n' c'}, v' = .slice (some ⟨M', 0, none⟩) n' c' → w.heap.size + 3 ≤ M' := fun e => mid_low hat e HM2.out.low.1 (by have := HM2.out.size; have := HU.out.size; omega)
        obtain ⟨M3, c3, e3, hT⟩ := (HM2.out.two.grow HU.out).app (HO.out.1.grow (Go.Joins.below_alloc1 wyc (.cells #[.slice (some ⟨Mx, 0, none⟩) (nthP P x.1).l.length cx, .int .i64 (nthP P x.1).s, .int .i64 (nthP P x.1).e, .string (nthP P x.1).n] 29))) (fun y hy => by have := (HM2.out.two.a.rows y hy).lt; have := HO.out.2; show y.1 ≠ Mx; omega) (fun y hy => by have := (HM2.out.two.b.rows y hy).lt; have := HO.out.2; show y.1 ≠ Mx; omega) HXS.out.1 HXS.out.2 hown hg hat
        have HLo : Hid (w.heap.size + 3 ≤ M3) := hlow e3
        subst e3
        have HT : Hid (Two w.heap.size wya M3 c3 (rs1 ++ [(Mx, cx, nthP P x.1)]) M2 c2 rs2) := hT
        have B1 : Hid (Blk wya (w.heap.size + 1) #[.int .i64 now] 3) := blk_far (HM2.out.bnow.grow HU.out) hg (fun e => by have := HM2.out.low; have h : w.heap.size + 1 = M1 := Option.some.inj e; omega)
        have B2 : Hid (Blk wya (w.heap.size + 1 + 1) #[.int .i64 0, .slice none 0 0] 96) := blk_far (HM2.out.bres.grow HU.out) hg (fun e => by have := HM2.out.low; have h : w.heap.size + 1 + 1 = M1 := Option.some.inj e; omega)
        have B5 : Hid (Blk wya (w.heap.size + 1 + 1 + 1 + 1 + 1) #[.int .i64 f, .slice (some ⟨M1, 0, none⟩) rs1.length c1] 96) := blk_far (HM2.out.bleft.grow HU.out) hg (fun e => chain_alarm (HM2.out.bleft.grow HU.out) hcu (Option.some.inj e))
        have B6 : Hid (Blk wya (w.heap.size + 1 + 1 + 1 + 1 + 1 + 1) #[.slice (some ⟨M2, 0, none⟩) rs2.length c2] 40) := blk_far (HM2.out.bover.grow HU.out) hg (fun e => list_alarm (HM2.out.bover.grow HU.out) hcu (Option.some.inj e))
        have HBA : Hid (Below w.heap.size w wya ∧ W0.heap.size ≤ wya.heap.size) := ⟨hbel, by have := HM2.out.size; have := HU.out.size; have := hg.size; omega⟩
        have HKA : Hid (KeepsFrom W0.heap.size W wya) := ((keeps_of HB2.out).trans (keeps_of HU.out)).trans ((KeepsOthers.of_grownBy hg (fun j o ej hj => by
          cases ej
          unfold Blk at hcu
          rw [hcu] at hj
          cases hj
          rfl)).from _)
        have HBW : Hid (Below w.heap.size W wya) := ((HB2.out.mono HM.out.below.size).trans (HU.out.mono HM2.out.below.size)).grown hg (by have := HM2.out.below.size; have := HU.out.size; omega) (fun k e => by have := HM2.out.low; have h : M1 = k := Option.some.inj e; omega)
        clear hown hbel hg hat hT hlow hcu
        clear hHeld
        refine hK.out _ _ trivial (fun hHeld => ?_)
        clear hK K
        try simp only [Act.put, List.setIfInBounds_toArray, List.set_cons_zero, List.set_cons_succ]
        refine wpAnyH_take (i := 6) (oi := { dst := some 33, op := Op.fieldAddr 96 (Operand.tmp 6) 1, type := 0, pos := "l06_chain.go:68", after := #[{ on := 0, ground := Ground.phase }, { on := 1, ground := Ground.phase }, { on := 2, ground := Ground.phase }, { on := 3, ground := Ground.phase }, { on := 4, ground := Ground.phase }, { on := 5, ground := Ground.phase }], guard := none }) (v := ?ve7) rfl (by kernel_rfl) (by kernel_rfl) (by kernel_rfl) (fun _ _ _ h => h) (Or.inl ⟨by rfl, ?hye7⟩) hHeld ?_
        case hye7 => (intro w hSw; (try dsimp only at hSw); go_simp <;> with_reducible rfl)
        try simp only [Act.put, List.setIfInBounds_toArray, List.set_cons_zero, List.set_cons_succ]
        refine wpAnyH_ready (rs := [7]) (by kernel_rfl) (by simp) ?_
        refine AllReadyH.cons (o := { dst := none, op := Op.store 40 (Operand.tmp 33) (Operand.tmp 32), type := 0, pos := "l06_chain.go:68", after := #[{ on := 6, ground := Ground.data }, { on := 5, ground := Ground.data }, { on := 5, ground := Ground.chain }, { on := 0, ground := Ground.phase }, { on := 1, ground := Ground.phase }, { on := 2, ground := Ground.phase }, { on := 3, ground := Ground.phase }, { on := 4, ground := Ground.phase }, { on := 5, ground := Ground.phase }], guard := none }) rfl (fun K hK => ?_) AllReadyH.nil
        have cD : wya.cell? ⟨w.heap.size + 1 + 1 + 1 + 1 + 1, 1, none⟩ = some (.slice (some ⟨M1, 0, none⟩) rs1.length c1) := B5.out.cell 1
        have fD := B5.out.frozen 1
        go_simp
        clear cD fD
        clear hHeld
        refine hK.out _ _ trivial (fun hHeld => ?_)
        clear hK K
        try simp only [Act.put, List.setIfInBounds_toArray, List.set_cons_zero, List.set_cons_succ]
        refine wpAnyH_done (by kernel_rfl) ?_ _
        obtain ⟨W3, hW3⟩ : ∃ W3, (wya.setCell ⟨w.heap.size + 1 + 1 + 1 + 1 + 1, 1, none⟩ (.slice (some ⟨M3, 0, none⟩) (rs1.length + 1) c3)) = W3 := ⟨_, rfl⟩
        have hn5 : w.heap.size + 1 + 1 + 1 + 1 + 1 ≠ w.heap.size + 1 + 1 + 1 + 1 + 1 + 1 := by omega
        have HMid : Hid (Mid w W0 f now W3 M3 c3 (rs1 ++ [(Mx, cx, nthP P x.1)]) M2 c2 rs2) := by
          rw [← hW3]
          exact ⟨HT.out.moved (fun k => k.set_other (chain_alarm B5.out k) _) (fun k => k.set_other (chain_label B5.out k) _), ⟨HLo.out, HM2.out.low.2⟩, B1.out.set_other (by show w.heap.size + 1 + 1 + 1 + 1 + 1 ≠ w.heap.size + 1; omega) _, B2.out.set_other (by show w.heap.size + 1 + 1 + 1 + 1 + 1 ≠ w.heap.size + 1 + 1; omega) _, by have := B5.out.set 1 (.slice (some ⟨M3, 0, none⟩) (rs1.length + 1) c3); simpa using this, B6.out.set_other hn5 _, set_low HBA.out.1 (by omega) _ _, by rw [size_setCell]; exact HBA.out.2⟩
        have HK1 : Hid (KeepsFrom W0.heap.size W W3) := by rw [← hW3]; exact HKA.out.trans ((KeepsOthers.setCell _ _ _).from _)
        have HK2 : Hid (Below w.heap.size W W3) := by rw [← hW3]; exact set_low HBW.out (by omega) _ _
        rw [hW3]
        clear hW3 hHeld B1 B2 B5 B6 HBA HKA HBW HT
        gi_wp2
        exact ⟨HK1.out, HK2.out, M3, c3, rs1 ++ [(Mx, cx, nthP P x.1)], M2, c2, rs2, HMid.out, by rw [pals_app, HP.out.1, HV.out.1], HP.out.2.trans HV.out.2.symm⟩
      refine AllReadyH.cons (o := { dst := some 29, op := Op.load 29 (Operand.tmp 9), type := 29, pos := "l06_chain.go:68", after := #[], guard := none }) rfl (fun K hK => ?_) AllReadyH.nil
      have y0 : w2.drew.cell? ⟨Nx, 0, none⟩ = some (.slice (ad x.1) (nthP P x.1).l.length (cp x.1)) := HX2.out.drew.cell 0
      have y1 : w2.drew.cell? ⟨Nx, 1, none⟩ = some (.int .i64 (nthP P x.1).s) := HX2.out.drew.cell 1
      have y2 : w2.drew.cell? ⟨Nx, 2, none⟩ = some (.int .i64 (nthP P x.1).e) := HX2.out.drew.cell 2
      have y3 : w2.drew.cell? ⟨Nx, 3, none⟩ = some (.string (nthP P x.1).n) := HX2.out.drew.cell 3
      go_simp
      clear y0 y1 y2 y3
      clear hHeld
      refine hK.out _ _ trivial (fun hHeld => ?_)
      clear hK K
      try simp only [Act.put, List.setIfInBounds_toArray, List.set_cons_zero, List.set_cons_succ]
      refine wpAnyH_ready (rs := [1, 3]) (by kernel_rfl) (by simp) ?_
      refine AllReadyH.cons (o := { dst := some 28, op := Op.load 40 (Operand.tmp 27), type := 40, pos := "l06_chain.go:68", after := #[{ on := 0, ground := Ground.data }], guard := none }) rfl (fun K hK => ?_) ?_
      ·
        have cD : w2.drew.cell? ⟨w.heap.size + 1 + 1 + 1 + 1 + 1, 1, none⟩ = some (.slice (some ⟨M1, 0, none⟩) rs1.length c1) := (HM2.out.bleft.drew).cell 1
        go_simp
        clear cD
        clear hHeld
        refine hK.out _ _ trivial (fun hHeld => ?_)
        clear hK K
        try simp only [Act.put, List.setIfInBounds_toArray, List.set_cons_zero, List.set_cons_succ]
        refine wpAnyH_ready (rs := [3]) (by kernel_rfl) (by simp) ?_
        refine AllReadyH.cons (o := { dst := some 30, op := Op.call { callee := Callee.value (Operand.func 75), args := #[Operand.tmp 29], argTypes := #[29] }, type := 29, pos := "l06_chain.go:68", after := #[{ on := 2, ground := Ground.data }], guard := none }) rfl (fun K hK => ?_) AllReadyH.nil
        go_simp
        refine (HC2.out _ (Below.refl _ _).drew).mono ?_
        rintro r wyc ⟨⟨Mx, cx, rfl, hO⟩, hy⟩
        have HZ : Hid (Below w2.heap.size w2 wyc) := grow_on (Below.refl _ _).drew hy
        have HO : Hid (OwnA w.heap.size wyc (Mx, cx, nthP P x.1) ∧ w2.heap.size ≤ Mx) := ⟨(own_of_copy hO (HF.out x.1 x.2)).down (by have := HM2.out.below.size; show w.heap.size ≤ w2.drew.heap.size; simp; omega), hO.1⟩
        clear hy hO
        clear hHeld
        refine hK.out _ _ trivial (fun hHeld => ?_)
        clear hK K
        try simp only [Act.put, List.setIfInBounds_toArray, List.set_cons_zero, List.set_cons_succ]
        refine wpAnyH_ready (rs := [4]) (by kernel_rfl) (by simp) ?_
        refine AllReadyH.cons (o := { dst := some 31, op := Op.buildSlice 40 1 #[(0, Operand.tmp 30)], type := 40, pos := "l06_chain.go:68", after := #[{ on := 3, ground := Ground.data }], guard := none }) rfl (fun K hK => ?_) AllReadyH.nil
        go_simp
        clear hHeld
        refine hK.out _ _ trivial (fun hHeld => ?_)
        clear hK K
        try simp only [Act.put, List.setIfInBounds_toArray, List.set_cons_zero, List.set_cons_succ]
        refine wpAnyH_ready (rs := [5]) (by kernel_rfl) (by simp) ?_
        refine AllReadyH.cons (o := { dst := some 32, op := Op.call { callee := Callee.builtin Builtin.append, args := #[Operand.tmp 28, Operand.tmp 31], argTypes := #[40, 40] }, type := 40, pos := "l06_chain.go:68", after := #[{ on := 1, ground := Ground.data }, { on := 4, ground := Ground.data }, { on := 3, ground := Ground.chain }], guard := none }) rfl (fun K hK => ?_) AllReadyH.nil
        have HU : Hid (Below w2.heap.size w2 (wyc.alloc (.cells #[.slice (some ⟨Mx, 0, none⟩) (nthP P x.1).l.length cx, .int .i64 (nthP P x.1).s, .int .i64 (nthP P x.1).e, .string (nthP P x.1).n] 29))) := grow_on HZ.out (Go.Joins.below_alloc1 wyc _)
        refine step_app rfl _ _ 40 rfl 29 i0 (.agg #[.slice none 0 0, .int .i64 0, .int .i64 0, .string ByteArray.empty]) 4 56 Tryz.underlying40 hi hz0 hz1 hz2 rfl (by decide) w (grow_on HM2.out.below HU.out) (.slice (some ⟨M1, 0, none⟩) rs1.length c1) rs1.length xs rfl (own_grow HOX.out HU.out) ⟨wyc.heap.size, 0, none⟩ 1 1 (rowV (Mx, cx, nthP P x.1)) rfl rfl (blk_news (Blk.new _ _ _)) (row_one _) ?q6c ?q6d ?_
        case q6c => have := HL.out; unfold maxLen; omega
        case q6d => have := HL.out; omega
        intro v' wya hown hbel hg hat
        obtain ⟨cu, hcu, _⟩ := (HM2.out.two.grow HU.out).a.outer
        have hlow : ∀ {M' n' c'}, v' = .slice (some ⟨M', 0, none⟩) n' c' → w.heap.size + 3 ≤ M' := fun e => mid_low hat e HM2.out.low.1 (by have := HM2.out.size; have := HU.out.size; omega)
        obtain ⟨M3, c3, e3, hT⟩ := (HM2.out.two.grow HU.out).app (HO.out.1.grow (Go.Joins.below_alloc1 wyc (.cells #[.slice (some ⟨Mx, 0, none⟩) (nthP P x.1).l.length cx, .int .i64 (nthP P x.1).s, .int .i64 (nthP P x.1).e, .string (nthP P x.1).n] 29))) (fun y hy => by have := (HM2.out.two.a.rows y hy).lt; have := HO.out.2; show y.1 ≠ Mx; omega) (fun y hy => by have := (HM2.out.two.b.rows y hy).lt; have := HO.out.2; show y.1 ≠ Mx; omega) HXS.out.1 HXS.out.2 hown hg hat
        have HLo : Hid (w.heap.size + 3 ≤ M3) := hlow e3
        subst e3
        have HT : Hid (Two w.heap.size wya M3 c3 (rs1 ++ [(Mx, cx, nthP P x.1)]) M2 c2 rs2) := hT
        have B1 : Hid (Blk wya (w.heap.size + 1) #[.int .i64 now] 3) := blk_far (HM2.out.bnow.grow HU.out) hg (fun e => by have := HM2.out.low; have h : w.heap.size + 1 = M1 := Option.some.inj e; omega)
        have B2 : Hid (Blk wya (w.heap.size + 1 + 1) #[.int .i64 0, .slice none 0 0] 96) := blk_far (HM2.out.bres.grow HU.out) hg (fun e => by have := HM2.out.low; have h : w.heap.size + 1 + 1 = M1 := Option.some.inj e; omega)
        have B5 : Hid (Blk wya (w.heap.size + 1 + 1 + 1 + 1 + 1) #[.int .i64 f, .slice (some ⟨M1, 0, none⟩) rs1.length c1] 96) := blk_far (HM2.out.bleft.grow HU.out) hg (fun e => chain_alarm (HM2.out.bleft.grow HU.out) hcu (Option.some.inj e))
        have B6 : Hid (Blk wya (w.heap.size + 1 + 1 + 1 + 1 + 1 + 1) #[.slice (some ⟨M2, 0, none⟩) rs2.length c2] 40) := blk_far (HM2.out.bover.grow HU.out) hg (fun e => list_alarm (HM2.out.bover.grow HU.out) hcu (Option.some.inj e))
        have HBA : Hid (Below w.heap.size w wya ∧ W0.heap.size ≤ wya.heap.size) := ⟨hbel, by have := HM2.out.size; have := HU.out.size; have := hg.size; omega⟩
        have HKA : Hid (KeepsFrom W0.heap.size W wya) := ((keeps_of HB2.out).trans (keeps_of HU.out)).trans ((KeepsOthers.of_grownBy hg (fun j o ej hj => by
          cases ej
          unfold Blk at hcu
          rw [hcu] at hj
          cases hj
          rfl)).from _)
        have HBW : Hid (Below w.heap.size W wya) := ((HB2.out.mono HM.out.below.size).trans (HU.out.mono HM2.out.below.size)).grown hg (by have := HM2.out.below.size; have := HU.out.size; omega) (fun k e => by have := HM2.out.low; have h : M1 = k := Option.some.inj e; omega)
        clear hown hbel hg hat hT hlow hcu
        clear hHeld
        refine hK.out _ _ trivial (fun hHeld => ?_)
        clear hK K
        try simp only [Act.put, List.setIfInBounds_toArray, List.set_cons_zero, List.set_cons_succ]
        refine wpAnyH_take (i := 6) (oi := { dst := some 33, op := Op.fieldAddr 96 (Operand.tmp 6) 1, type := 0, pos := "l06_chain.go:68", after := #[{ on := 0, ground := Ground.phase }, { on := 1, ground := Ground.phase }, { on := 2, ground := Ground.phase }, { on := 3, ground := Ground.phase }, { on := 4, ground := Ground.phase }, { on := 5, ground := Ground.phase }], guard := none }) (v := ?ve14) rfl (by kernel_rfl) (by kernel_rfl) (by kernel_rfl) (fun _ _ _ h => h) (Or.inl ⟨by rfl, ?hye14⟩) hHeld ?_
        case hye14 => (intro w hSw; (try dsimp only at hSw); go_simp <;> with_reducible rfl)
        try simp only [Act.put, List.setIfInBounds_toArray, List.set_cons_zero, List.set_cons_succ]
        refine wpAnyH_ready (rs := [7]) (by kernel_rfl) (by simp) ?_
        refine AllReadyH.cons (o := { dst := none, op := Op.store 40 (Operand.tmp 33) (Operand.tmp 32), type := 0, pos := "l06_chain.go:68", after := #[{ on := 6, ground := Ground.data }, { on := 5, ground := Ground.data }, { on := 5, ground := Ground.chain }, { on := 0, ground := Ground.phase }, { on := 1, ground := Ground.phase }, { on := 2, ground := Ground.phase }, { on := 3, ground := Ground.phase }, { on := 4, ground := Ground.phase }, { on := 5, ground := Ground.phase }], guard := none }) rfl (fun K hK => ?_) AllReadyH.nil
        have cD : wya.cell? ⟨w.heap.size + 1 + 1 + 1 + 1 + 1, 1, none⟩ = some (.slice (some ⟨M1, 0, none⟩) rs1.length c1) := B5.out.cell 1
        have fD := B5.out.frozen 1
        go_simp
        clear cD fD
        clear hHeld
        refine hK.out _ _ trivial (fun hHeld => ?_)
        clear hK K
        try simp only [Act.put, List.setIfInBounds_toArray, List.set_cons_zero, List.set_cons_succ]
        refine wpAnyH_done (by kernel_rfl) ?_ _
        obtain ⟨W3, hW3⟩ : ∃ W3, (wya.setCell ⟨w.heap.size + 1 + 1 + 1 + 1 + 1, 1, none⟩ (.slice (some ⟨M3, 0, none⟩) (rs1.length + 1) c3)) = W3 := ⟨_, rfl⟩
        have hn5 : w.heap.size + 1 + 1 + 1 + 1 + 1 ≠ w.heap.size + 1 + 1 + 1 + 1 + 1 + 1 := by omega
        have HMid : Hid (Mid w W0 f now W3 M3 c3 (rs1 ++ [(Mx, cx, nthP P x.1)]) M2 c2 rs2) := by
          rw [← hW3]
          exact ⟨HT.out.moved (fun k => k.set_other (chain_alarm B5.out k) _) (fun k => k.set_other (chain_label B5.out k) _), ⟨HLo.out, HM2.out.low.2⟩, B1.out.set_other (by show w.heap.size + 1 + 1 + 1 + 1 + 1 ≠ w.heap.size + 1; omega) _, B2.out.set_other (by show w.heap.size + 1 + 1 + 1 + 1 + 1 ≠ w.heap.size + 1 + 1; omega) _, by have := B5.out.set 1 (.slice (some ⟨M3, 0, none⟩) (rs1.length + 1) c3); simpa using this, B6.out.set_other hn5 _, set_low HBA.out.1 (by omega) _ _, by rw [size_setCell]; exact HBA.out.2⟩
        have HK1 : Hid (KeepsFrom W0.heap.size W W3) := by rw [← hW3]; exact HKA.out.trans ((KeepsOthers.setCell _ _ _).from _)
        have HK2 : Hid (Below w.heap.size W W3) := by rw [← hW3]; exact set_low HBW.out (by omega) _ _
        rw [hW3]
        clear hW3 hHeld B1 B2 B5 B6 HBA HKA HBW HT
        gi_wp2
        exact ⟨HK1.out, HK2.out, M3, c3, rs1 ++ [(Mx, cx, nthP P x.1)], M2, c2, rs2, HMid.out, by rw [pals_app, HP.out.1, HV.out.1], HP.out.2.trans HV.out.2.symm⟩
      refine AllReadyH.cons (o := { dst := some 30, op := Op.call { callee := Callee.value (Operand.func 75), args := #[Operand.tmp 29], argTypes := #[29] }, type := 29, pos := "l06_chain.go:68", after := #[{ on := 2, ground := Ground.data }], guard := none }) rfl (fun K hK => ?_) AllReadyH.nil
      go_simp
      refine (HC2.out _ (Below.refl _ _).drew).mono ?_
      rintro r wyc ⟨⟨Mx, cx, rfl, hO⟩, hy⟩
      have HZ : Hid (Below w2.heap.size w2 wyc) := grow_on (Below.refl _ _).drew hy
      have HO : Hid (OwnA w.heap.size wyc (Mx, cx, nthP P x.1) ∧ w2.heap.size ≤ Mx) := ⟨(own_of_copy hO (HF.out x.1 x.2)).down (by have := HM2.out.below.size; show w.heap.size ≤ w2.drew.heap.size; simp; omega), hO.1⟩
      clear hy hO
      clear hHeld
      refine hK.out _ _ trivial (fun hHeld => ?_)
      clear hK K
      try simp only [Act.put, List.setIfInBounds_toArray, List.set_cons_zero, List.set_cons_succ]
      refine wpAnyH_ready (rs := [1, 4]) (by kernel_rfl) (by simp) ?_
      refine AllReadyH.cons (o := { dst := some 28, op := Op.load 40 (Operand.tmp 27), type := 40, pos := "l06_chain.go:68", after := #[{ on := 0, ground := Ground.data }], guard := none }) rfl (fun K hK => ?_) ?_
      ·
        have cD : wyc.cell? ⟨w.heap.size + 1 + 1 + 1 + 1 + 1, 1, none⟩ = some (.slice (some ⟨M1, 0, none⟩) rs1.length c1) := (HM2.out.bleft.grow HZ.out).cell 1
        go_simp
        clear cD
        clear hHeld
        refine hK.out _ _ trivial (fun hHeld => ?_)
        clear hK K
        try simp only [Act.put, List.setIfInBounds_toArray, List.set_cons_zero, List.set_cons_succ]
        refine wpAnyH_ready (rs := [4]) (by kernel_rfl) (by simp) ?_
        refine AllReadyH.cons (o := { dst := some 31, op := Op.buildSlice 40 1 #[(0, Operand.tmp 30)], type := 40, pos := "l06_chain.go:68", after := #[{ on := 3, ground := Ground.data }], guard := none }) rfl (fun K hK => ?_) AllReadyH.nil
        go_simp
        clear hHeld
        refine hK.out _ _ trivial (fun hHeld => ?_)
        clear hK K
        try simp only [Act.put, List.setIfInBounds_toArray, List.set_cons_zero, List.set_cons_succ]
        refine wpAnyH_ready (rs := [5]) (by kernel_rfl) (by simp) ?_
        refine AllReadyH.cons (o := { dst := some 32, op := Op.call { callee := Callee.builtin Builtin.append, args := #[Operand.tmp 28, Operand.tmp 31], argTypes := #[40, 40] }, type := 40, pos := "l06_chain.go:68", after := #[{ on := 1, ground := Ground.data }, { on := 4, ground := Ground.data }, { on := 3, ground := Ground.chain }], guard := none }) rfl (fun K hK => ?_) AllReadyH.nil
        have HU : Hid (Below w2.heap.size w2 (wyc.alloc (.cells #[.slice (some ⟨Mx, 0, none⟩) (nthP P x.1).l.length cx, .int .i64 (nthP P x.1).s, .int .i64 (nthP P x.1).e, .string (nthP P x.1).n] 29))) := grow_on HZ.out (Go.Joins.below_alloc1 wyc _)
        refine step_app rfl _ _ 40 rfl 29 i0 (.agg #[.slice none 0 0, .int .i64 0, .int .i64 0, .string ByteArray.empty]) 4 56 Tryz.underlying40 hi hz0 hz1 hz2 rfl (by decide) w (grow_on HM2.out.below HU.out) (.slice (some ⟨M1, 0, none⟩) rs1.length c1) rs1.length xs rfl (own_grow HOX.out HU.out) ⟨wyc.heap.size, 0, none⟩ 1 1 (rowV (Mx, cx, nthP P x.1)) rfl rfl (blk_news (Blk.new _ _ _)) (row_one _) ?q7c ?q7d ?_
        case q7c => have := HL.out; unfold maxLen; omega
        case q7d => have := HL.out; omega
        intro v' wya hown hbel hg hat
        obtain ⟨cu, hcu, _⟩ := (HM2.out.two.grow HU.out).a.outer
        have hlow : ∀ {M' n' c'}, v' = .slice (some ⟨M', 0, none⟩) n' c' → w.heap.size + 3 ≤ M' := fun e => mid_low hat e HM2.out.low.1 (by have := HM2.out.size; have := HU.out.size; omega)
        obtain ⟨M3, c3, e3, hT⟩ := (HM2.out.two.grow HU.out).app (HO.out.1.grow (Go.Joins.below_alloc1 wyc (.cells #[.slice (some ⟨Mx, 0, none⟩) (nthP P x.1).l.length cx, .int .i64 (nthP P x.1).s, .int .i64 (nthP P x.1).e, .string (nthP P x.1).n] 29))) (fun y hy => by have := (HM2.out.two.a.rows y hy).lt; have := HO.out.2; show y.1 ≠ Mx; omega) (fun y hy => by have := (HM2.out.two.b.rows y hy).lt; have := HO.out.2; show y.1 ≠ Mx; omega) HXS.out.1 HXS.out.2 hown hg hat
        have HLo : Hid (w.heap.size + 3 ≤ M3) := hlow e3
        subst e3
        have HT : Hid (Two w.heap.size wya M3 c3 (rs1 ++ [(Mx, cx, nthP P x.1)]) M2 c2 rs2) := hT
        have B1 : Hid (Blk wya (w.heap.size + 1) #[.int .i64 now] 3) := blk_far (HM2.out.bnow.grow HU.out) hg (fun e => by have := HM2.out.low; have h : w.heap.size + 1 = M1 := Option.some.inj e; omega)
        have B2 : Hid (Blk wya (w.heap.size + 1 + 1) #[.int .i64 0, .slice none 0 0] 96) := blk_far (HM2.out.bres.grow HU.out) hg (fun e => by have := HM2.out.low; have h : w.heap.size + 1 + 1 = M1 := Option.some.inj e; omega)
        have B5 : Hid (Blk wya (w.heap.size + 1 + 1 + 1 + 1 + 1) #[.int .i64 f, .slice (some ⟨M1, 0, none⟩) rs1.length c1] 96) := blk_far (HM2.out.bleft.grow HU.out) hg (fun e => chain_alarm (HM2.out.bleft.grow HU.out) hcu (Option.some.inj e))
        have B6 : Hid (Blk wya (w.heap.size + 1 + 1 + 1 + 1 + 1 + 1) #[.slice (some ⟨M2, 0, none⟩) rs2.length c2] 40) := blk_far (HM2.out.bover.grow HU.out) hg (fun e => list_alarm (HM2.out.bover.grow HU.out) hcu (Option.some.inj e))
        have HBA : Hid (Below w.heap.size w wya ∧ W0.heap.size ≤ wya.heap.size) := ⟨hbel, by have := HM2.out.size; have := HU.out.size; have := hg.size; omega⟩
        have HKA : Hid (KeepsFrom W0.heap.size W wya) := ((keeps_of HB2.out).trans (keeps_of HU.out)).trans ((KeepsOthers.of_grownBy hg (fun j o ej hj => by
          cases ej
          unfold Blk at hcu
          rw [hcu] at hj
          cases hj
          rfl)).from _)
        have HBW : Hid (Below w.heap.size W wya) := ((HB2.out.mono HM.out.below.size).trans (HU.out.mono HM2.out.below.size)).grown hg (by have := HM2.out.below.size; have := HU.out.size; omega) (fun k e => by have := HM2.out.low; have h : M1 = k := Option.some.inj e; omega)
        clear hown hbel hg hat hT hlow hcu
        clear hHeld
        refine hK.out _ _ trivial (fun hHeld => ?_)
        clear hK K
        try simp only [Act.put, List.setIfInBounds_toArray, List.set_cons_zero, List.set_cons_succ]
        refine wpAnyH_take (i := 6) (oi := { dst := some 33, op := Op.fieldAddr 96 (Operand.tmp 6) 1, type := 0, pos := "l06_chain.go:68", after := #[{ on := 0, ground := Ground.phase }, { on := 1, ground := Ground.phase }, { on := 2, ground := Ground.phase }, { on := 3, ground := Ground.phase }, { on := 4, ground := Ground.phase }, { on := 5, ground := Ground.phase }], guard := none }) (v := ?ve20) rfl (by kernel_rfl) (by kernel_rfl) (by kernel_rfl) (fun _ _ _ h => h) (Or.inl ⟨by rfl, ?hye20⟩) hHeld ?_
        case hye20 => (intro w hSw; (try dsimp only at hSw); go_simp <;> with_reducible rfl)
        try simp only [Act.put, List.setIfInBounds_toArray, List.set_cons_zero, List.set_cons_succ]
        refine wpAnyH_ready (rs := [7]) (by kernel_rfl) (by simp) ?_
        refine AllReadyH.cons (o := { dst := none, op := Op.store 40 (Operand.tmp 33) (Operand.tmp 32), type := 0, pos := "l06_chain.go:68", after := #[{ on := 6, ground := Ground.data }, { on := 5, ground := Ground.data }, { on := 5, ground := Ground.chain }, { on := 0, ground := Ground.phase }, { on := 1, ground := Ground.phase }, { on := 2, ground := Ground.phase }, { on := 3, ground := Ground.phase }, { on := 4, ground := Ground.phase }, { on := 5, ground := Ground.phase }], guard := none }) rfl (fun K hK => ?_) AllReadyH.nil
        have cD : wya.cell? ⟨w.heap.size + 1 + 1 + 1 + 1 + 1, 1, none⟩ = some (.slice (some ⟨M1, 0, none⟩) rs1.length c1) := B5.out.cell 1
        have fD := B5.out.frozen 1
        go_simp
        clear cD fD
        clear hHeld
        refine hK.out _ _ trivial (fun hHeld => ?_)
        clear hK K
        try simp only [Act.put, List.setIfInBounds_toArray, List.set_cons_zero, List.set_cons_succ]
        refine wpAnyH_done (by kernel_rfl) ?_ _
        obtain ⟨W3, hW3⟩ : ∃ W3, (wya.setCell ⟨w.heap.size + 1 + 1 + 1 + 1 + 1, 1, none⟩ (.slice (some ⟨M3, 0, none⟩) (rs1.length + 1) c3)) = W3 := ⟨_, rfl⟩
        have hn5 : w.heap.size + 1 + 1 + 1 + 1 + 1 ≠ w.heap.size + 1 + 1 + 1 + 1 + 1 + 1 := by omega
        have HMid : Hid (Mid w W0 f now W3 M3 c3 (rs1 ++ [(Mx, cx, nthP P x.1)]) M2 c2 rs2) := by
          rw [← hW3]
          exact ⟨HT.out.moved (fun k => k.set_other (chain_alarm B5.out k) _) (fun k => k.set_other (chain_label B5.out k) _), ⟨HLo.out, HM2.out.low.2⟩, B1.out.set_other (by show w.heap.size + 1 + 1 + 1 + 1 + 1 ≠ w.heap.size + 1; omega) _, B2.out.set_other (by show w.heap.size + 1 + 1 + 1 + 1 + 1 ≠ w.heap.size + 1 + 1; omega) _, by have := B5.out.set 1 (.slice (some ⟨M3, 0, none⟩) (rs1.length + 1) c3); simpa using this, B6.out.set_other hn5 _, set_low HBA.out.1 (by omega) _ _, by rw [size_setCell]; exact HBA.out.2⟩
        have HK1 : Hid (KeepsFrom W0.heap.size W W3) := by rw [← hW3]; exact HKA.out.trans ((KeepsOthers.setCell _ _ _).from _)
        have HK2 : Hid (Below w.heap.size W W3) := by rw [← hW3]; exact set_low HBW.out (by omega) _ _
        rw [hW3]
        clear hW3 hHeld B1 B2 B5 B6 HBA HKA HBW HT
        gi_wp2
        exact ⟨HK1.out, HK2.out, M3, c3, rs1 ++ [(Mx, cx, nthP P x.1)], M2, c2, rs2, HMid.out, by rw [pals_app, HP.out.1, HV.out.1], HP.out.2.trans HV.out.2.symm⟩
      refine AllReadyH.cons (o := { dst := some 31, op := Op.buildSlice 40 1 #[(0, Operand.tmp 30)], type := 40, pos := "l06_chain.go:68", after := #[{ on := 3, ground := Ground.data }], guard := none }) rfl (fun K hK => ?_) AllReadyH.nil
      go_simp
      clear hHeld
      refine hK.out _ _ trivial (fun hHeld => ?_)
      clear hK K
      try simp only [Act.put, List.setIfInBounds_toArray, List.set_cons_zero, List.set_cons_succ]
      refine wpAnyH_ready (rs := [1]) (by kernel_rfl) (by simp) ?_
      refine AllReadyH.cons (o := { dst := some 28, op := Op.load 40 (Operand.tmp 27), type := 40, pos := "l06_chain.go:68", after := #[{ on := 0, ground := Ground.data }], guard := none }) rfl (fun K hK => ?_) AllReadyH.nil
      have cD : (wyc.alloc (.cells #[.slice (some ⟨Mx, 0, none⟩) (nthP P x.1).l.length cx, .int .i64 (nthP P x.1).s, .int .i64 (nthP P x.1).e, .string (nthP P x.1).n] 29)).cell? ⟨w.heap.size + 1 + 1 + 1 + 1 + 1, 1, none⟩ = some (.slice (some ⟨M1, 0, none⟩) rs1.length c1) := ((HM2.out.bleft.grow HZ.out).alloc _).cell 1
      go_simp
      clear cD
      clear hHeld
      refine hK.out _ _ trivial (fun hHeld => ?_)
      clear hK K
      try simp only [Act.put, List.setIfInBounds_toArray, List.set_cons_zero, List.set_cons_succ]
      refine wpAnyH_ready (rs := [5]) (by kernel_rfl) (by simp) ?_
      refine AllReadyH.cons (o := { dst := some 32, op := Op.call { callee := Callee.builtin Builtin.append, args := #[Operand.tmp 28, Operand.tmp 31], argTypes := #[40, 40] }, type := 40, pos := "l06_chain.go:68", after := #[{ on := 1, ground := Ground.data }, { on := 4, ground := Ground.data }, { on := 3, ground := Ground.chain }], guard := none }) rfl (fun K hK => ?_) AllReadyH.nil
      have HU : Hid (Below w2.heap.size w2 (wyc.alloc (.cells #[.slice (some ⟨Mx, 0, none⟩) (nthP P x.1).l.length cx, .int .i64 (nthP P x.1).s, .int .i64 (nthP P x.1).e, .string (nthP P x.1).n] 29))) := grow_on HZ.out (Go.Joins.below_alloc1 wyc _)
      refine step_app rfl _ _ 40 rfl 29 i0 (.agg #[.slice none 0 0, .int .i64 0, .int .i64 0, .string ByteArray.empty]) 4 56 Tryz.underlying40 hi hz0 hz1 hz2 rfl (by decide) w (grow_on HM2.out.below HU.out) (.slice (some ⟨M1, 0, none⟩) rs1.length c1) rs1.length xs rfl (own_grow HOX.out HU.out) ⟨wyc.heap.size, 0, none⟩ 1 1 (rowV (Mx, cx, nthP P x.1)) rfl rfl (blk_news (Blk.new _ _ _)) (row_one _) ?q8c ?q8d ?_
      case q8c => have := HL.out; unfold maxLen; omega
      case q8d => have := HL.out; omega
      intro v' wya hown hbel hg hat
      obtain ⟨cu, hcu, _⟩ := (HM2.out.two.grow HU.out).a.outer
      have hlow : ∀ {M' n' c'}, v' = .slice (some ⟨M', 0, none⟩) n' c' → w.heap.size + 3 ≤ M' := fun e => mid_low hat e HM2.out.low.1 (by have := HM2.out.size; have := HU.out.size; omega)
      obtain ⟨M3, c3, e3, hT⟩ := (HM2.out.two.grow HU.out).app (HO.out.1.grow (Go.Joins.below_alloc1 wyc (.cells #[.slice (some ⟨Mx, 0, none⟩) (nthP P x.1).l.length cx, .int .i64 (nthP P x.1).s, .int .i64 (nthP P x.1).e, .string (nthP P x.1).n] 29))) (fun y hy => by have := (HM2.out.two.a.rows y hy).lt; have := HO.out.2; show y.1 ≠ Mx; omega) (fun y hy => by have := (HM2.out.two.b.rows y hy).lt; have := HO.out.2; show y.1 ≠ Mx; omega) HXS.out.1 HXS.out.2 hown hg hat
      have HLo : Hid (w.heap.size + 3 ≤ M3) := hlow e3
      subst e3
      have HT : Hid (Two w.heap.size wya M3 c3 (rs1 ++ [(Mx, cx, nthP P x.1)]) M2 c2 rs2) := hT
      have B1 : Hid (Blk wya (w.heap.size + 1) #[.int .i64 now] 3) := blk_far (HM2.out.bnow.grow HU.out) hg (fun e => by have := HM2.out.low; have h : w.heap.size + 1 = M1 := Option.some.inj e; omega)
      have B2 : Hid (Blk wya (w.heap.size + 1 + 1) #[.int .i64 0, .slice none 0 0] 96) := blk_far (HM2.out.bres.grow HU.out) hg (fun e => by have := HM2.out.low; have h : w.heap.size + 1 + 1 = M1 := Option.some.inj e; omega)
      have B5 : Hid (Blk wya (w.heap.size + 1 + 1 + 1 + 1 + 1) #[.int .i64 f, .slice (some ⟨M1, 0, none⟩) rs1.length c1] 96) := blk_far (HM2.out.bleft.grow HU.out) hg (fun e => chain_alarm (HM2.out.bleft.grow HU.out) hcu (Option.some.inj e))
      have B6 : Hid (Blk wya (w.heap.size + 1 + 1 + 1 + 1 + 1 + 1) #[.slice (some ⟨M2, 0, none⟩) rs2.length c2] 40) := blk_far (HM2.out.bover.grow HU.out) hg (fun e => list_alarm (HM2.out.bover.grow HU.out) hcu (Option.some.inj e))
      have HBA : Hid (Below w.heap.size w wya ∧ W0.heap.size ≤ wya.heap.size) := ⟨hbel, by have := HM2.out.size; have := HU.out.size; have := hg.size; omega⟩
      have HKA : Hid (KeepsFrom W0.heap.size W wya) := ((keeps_of HB2.out).trans (keeps_of HU.out)).trans ((KeepsOthers.of_grownBy hg (fun j o ej hj => by
        cases ej
        unfold Blk at hcu
        rw [hcu] at hj
        cases hj
        rfl)).from _)
      have HBW : Hid (Below w.heap.size W wya) := ((HB2.out.mono HM.out.below.size).trans (HU.out.mono HM2.out.below.size)).grown hg (by have := HM2.out.below.size; have := HU.out.size; omega) (fun k e => by have := HM2.out.low; have h : M1 = k := Option.some.inj e; omega)
      clear hown hbel hg hat hT hlow hcu
      clear hHeld
      refine hK.out _ _ trivial (fun hHeld => ?_)
      clear hK K
      try simp only [Act.put, List.setIfInBounds_toArray, List.set_cons_zero, List.set_cons_succ]
      refine wpAnyH_take (i := 6) (oi := { dst := some 33, op := Op.fieldAddr 96 (Operand.tmp 6) 1, type := 0, pos := "l06_chain.go:68", after := #[{ on := 0, ground := Ground.phase }, { on := 1, ground := Ground.phase }, { on := 2, ground := Ground.phase }, { on := 3, ground := Ground.phase }, { on := 4, ground := Ground.phase }, { on := 5, ground := Ground.phase }], guard := none }) (v := ?ve25) rfl (by kernel_rfl) (by kernel_rfl) (by kernel_rfl) (fun _ _ _ h => h) (Or.inl ⟨by rfl, ?hye25⟩) hHeld ?_
      case hye25 => (intro w hSw; (try dsimp only at hSw); go_simp <;> with_reducible rfl)
      try simp only [Act.put, List.setIfInBounds_toArray, List.set_cons_zero, List.set_cons_succ]
      refine wpAnyH_ready (rs := [7]) (by kernel_rfl) (by simp) ?_
      refine AllReadyH.cons (o := { dst := none, op := Op.store 40 (Operand.tmp 33) (Operand.tmp 32), type := 0, pos := "l06_chain.go:68", after := #[{ on := 6, ground := Ground.data }, { on := 5, ground := Ground.data }, { on := 5, ground := Ground.chain }, { on := 0, ground := Ground.phase }, { on := 1, ground := Ground.phase }, { on := 2, ground := Ground.phase }, { on := 3, ground := Ground.phase }, { on := 4, ground := Ground.phase }, { on := 5, ground := Ground.phase }], guard := none }) rfl (fun K hK => ?_) AllReadyH.nil
      have cD : wya.cell? ⟨w.heap.size + 1 + 1 + 1 + 1 + 1, 1, none⟩ = some (.slice (some ⟨M1, 0, none⟩) rs1.length c1) := B5.out.cell 1
      have fD := B5.out.frozen 1
      go_simp
      clear cD fD
      clear hHeld
      refine hK.out _ _ trivial (fun hHeld => ?_)
      clear hK K
      try simp only [Act.put, List.setIfInBounds_toArray, List.set_cons_zero, List.set_cons_succ]
      refine wpAnyH_done (by kernel_rfl) ?_ _
      obtain ⟨W3, hW3⟩ : ∃ W3, (wya.setCell ⟨w.heap.size + 1 + 1 + 1 + 1 + 1, 1, none⟩ (.slice (some ⟨M3, 0, none⟩) (rs1.length + 1) c3)) = W3 := ⟨_, rfl⟩
      have hn5 : w.heap.size + 1 + 1 + 1 + 1 + 1 ≠ w.heap.size + 1 + 1 + 1 + 1 + 1 + 1 := by omega
      have HMid : Hid (Mid w W0 f now W3 M3 c3 (rs1 ++ [(Mx, cx, nthP P x.1)]) M2 c2 rs2) := by
        rw [← hW3]
        exact ⟨HT.out.moved (fun k => k.set_other (chain_alarm B5.out k) _) (fun k => k.set_other (chain_label B5.out k) _), ⟨HLo.out, HM2.out.low.2⟩, B1.out.set_other (by show w.heap.size + 1 + 1 + 1 + 1 + 1 ≠ w.heap.size + 1; omega) _, B2.out.set_other (by show w.heap.size + 1 + 1 + 1 + 1 + 1 ≠ w.heap.size + 1 + 1; omega) _, by have := B5.out.set 1 (.slice (some ⟨M3, 0, none⟩) (rs1.length + 1) c3); simpa using this, B6.out.set_other hn5 _, set_low HBA.out.1 (by omega) _ _, by rw [size_setCell]; exact HBA.out.2⟩
      have HK1 : Hid (KeepsFrom W0.heap.size W W3) := by rw [← hW3]; exact HKA.out.trans ((KeepsOthers.setCell _ _ _).from _)
      have HK2 : Hid (Below w.heap.size W W3) := by rw [← hW3]; exact set_low HBW.out (by omega) _ _
      rw [hW3]
      clear hW3 hHeld B1 B2 B5 B6 HBA HKA HBW HT
      gi_wp2
      exact ⟨HK1.out, HK2.out, M3, c3, rs1 ++ [(Mx, cx, nthP P x.1)], M2, c2, rs2, HMid.out, by rw [pals_app, HP.out.1, HV.out.1], HP.out.2.trans HV.out.2.symm⟩
  case done =>
    rintro D xs W hD hlen hg ⟨M1, c1, rs1, M2, c2, rs2, hm, hp1, hp2⟩ hK
    have HM : Hid (Mid w W0 f now W M1 c1 rs1 M2 c2 rs2) := hm
    have HP : Hid (pals rs1 = leftTo P now P.length ∧ pals rs2 = goneTo P now P.length) := ⟨hp1.trans (left_all hg hlen), hp2.trans (gone_all hg hlen)⟩
    clear hm hp1 hp2
    have l0 : W.cell? ⟨w.heap.size + 1 + 1 + 1 + 1 + 1, 0, none⟩ = some (.int .i64 f) := HM.out.bleft.cell 0
    have l1 : W.cell? ⟨w.heap.size + 1 + 1 + 1 + 1 + 1, 1, none⟩ = some (.slice (some ⟨M1, 0, none⟩) rs1.length c1) := HM.out.bleft.cell 1
    have o0 : W.cell? ⟨w.heap.size + 1 + 1 + 1 + 1 + 1 + 1, 0, none⟩ = some (.slice (some ⟨M2, 0, none⟩) rs2.length c2) := HM.out.bover.cell 0
    have r0 : W.cell? ⟨w.heap.size + 1 + 1, 0, none⟩ = some (.int .i64 0) := HM.out.bres.cell 0
    have r1 : W.cell? ⟨w.heap.size + 1 + 1, 1, none⟩ = some (.slice none 0 0) := HM.out.bres.cell 1
    have f0 := HM.out.bres.frozen 0
    have f1 := HM.out.bres.frozen 1
    go_wp2
    go_region
    all_goals go_wp2
    have hs : Blk ((W.setCell ⟨w.heap.size + 1 + 1, 0, none⟩ (.int .i64 f)).setCell ⟨w.heap.size + 1 + 1, 1, none⟩ (.slice (some ⟨M1, 0, none⟩) rs1.length c1)).drew (w.heap.size + 1 + 1) #[.int .i64 f, .slice (some ⟨M1, 0, none⟩) rs1.length c1] 96 := ((HM.out.bres.set 0 _).set 1 _).drew
    have hK' : ((W.setCell ⟨w.heap.size + 1 + 1, 0, none⟩ (.int .i64 f)).setCell ⟨w.heap.size + 1 + 1, 1, none⟩ (.slice (some ⟨M1, 0, none⟩) rs1.length c1)).drew.heap[D]? = some (.deferred (some [])) := (Below.heap_setCell _ _ _ _ (by show D ≠ w.heap.size + 1 + 1; omega)).trans ((Below.heap_setCell _ _ _ _ (by show D ≠ w.heap.size + 1 + 1; omega)).trans hK)
    have ht := turn_shut (o := .deferred none) hK' hD
    have hR0 := (ht.blk hs).cell 0
    have hR1 := (ht.blk hs).cell 1
    refine ⟨by simp, .inl ⟨_, _, rfl, run_takeDeferred hK', ?_⟩⟩
    refine ⟨.tuple #[.agg #[.int .i64 f, .slice (some ⟨M1, 0, none⟩) rs1.length c1], .slice (some ⟨M2, 0, none⟩) rs2.length c2], ?_, ⟨M1, c1, rs1, M2, c2, rs2, rfl, ?_, HP.out⟩, ht.below (Nat.le_refl _) (by omega) (set_low (set_low HM.out.below (by omega) _ _) (by omega) _ _).drew⟩
    · simp [results, Tryz.results78, go_sem, hR0, hR1]
    · exact (HM.out.two.moved (fun k => ((k.set_other (chain_alarm HM.out.bres k) _).set_other (chain_alarm HM.out.bres k) _).drew) (fun k => ((k.set_other (chain_label HM.out.bres k) _).set_other (chain_label HM.out.bres k) _).drew)).moved (fun k => ht.blk k) (fun k => ht.blk k)
  case stop =>
    rintro D pre W hD hg h hK
    exact h.elim
end Go.Proofs.YtooninmicfcfoaaGreat.ChnD
