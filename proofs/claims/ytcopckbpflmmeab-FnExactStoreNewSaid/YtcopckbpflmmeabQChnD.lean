/-
  PROVED: impl.copiedChain gives a chain of the same alarms in memory of its own, each alarm's labels in a block of their own; nothing that was there is changed.
  PROVED: over a chain and an alarm in memory impl.PutChain answers as a plain function on lists says, in memory of its own; nothing that was there is changed.
  PROVED: over a chain in memory impl.DropOver answers as two plain functions on lists say, in memory of its own; nothing that was there is changed.
-/
import Derived.Test.YtcopckbpflmmeabQChnI
import Derived.Deep.DeepCutAuto
import Derived.Deep.RegionHeld3
set_option linter.unusedVariables false
namespace Go.Proofs.Ytcopckbpflmmeab.ChnC
open Go.RowKit
open Labs LabS Alms AlmM Over Blk Rnd Plc Lop App Rws ChnI
attribute [local go_sem] Oper.semAt_some

theorem blkC_ne {w : World} {a : Nat} {cs ds : Array Value} (h : Blk w a cs 52) (k : Blk w a ds 94) : False := by
  unfold Blk at h k
  rw [h] at k
  injection k with k
  injection k with _ k
  exact absurd k (by decide)
theorem blkC_al {w : World} {a : Nat} {cs ds : Array Value} (h : Blk w a cs 52) (k : Blk w a ds 68) : False := by
  unfold Blk at h k
  rw [h] at k
  injection k with k
  injection k with _ k
  exact absurd k (by decide)
set_option maxRecDepth 100000 in
set_option maxHeartbeats 2000000 in
theorem implCopy_any (f : Int) (a : Option Addr) (cap : Nat) (P : List PAl) (w : World) (hr : RdA w a P) (hl : P.length ≤ 1048576) (hs : LenM P) :
    Calls Try.prog 42 #[.agg #[.int .i64 f, .slice a P.length cap]] w fun e w' => (∃ M rs, e = .returned (.agg #[.int .i64 f, .slice (some ⟨M, 0, none⟩) P.length P.length]) ∧ AB w.heap.size w' M P.length rs ∧ pals rs = P) ∧ Below w.heap.size w w' := by
  have HR : Hid (RdA w a P) := hr
  have HS : Hid (LenM P) := hs
  clear hr hs
  go_enter Try.func42, Try.ntmps42
  go_upto_region 1 with fail
  generalize hz : (w.alloc (.cells #[.int .i64 f, .slice a P.length cap] 52)).alloc (.cells #[.int .i64 0, .slice none 0 0] 52) = W
  have HX : Hid (Blk W w.heap.size #[.int .i64 f, .slice a P.length cap] 52) := by rw [← hz]; exact (Blk.new _ _ _).alloc _
  have HY : Hid (Blk W (w.heap.size + 1) #[.int .i64 0, .slice none 0 0] 52) := by rw [← hz]; exact Blk.new_at (by simp)
  have HB : Hid (Below w.heap.size w W) := by rw [← hz]; exact Go.Joins.below_alloc2 w _ _
  have HZ : Hid (w.heap.size + 2 = W.heap.size) := by unfold Hid; rw [← hz]; simp
  clear hz
  have HC : Hid (∀ y, Below W.heap.size W y → Calls Try.prog 57 #[.slice a P.length cap] y fun e w' => (∃ M rs, e = .returned (.slice (some ⟨M, 0, none⟩) P.length P.length) ∧ AB y.heap.size w' M P.length rs ∧ pals rs = P) ∧ Below y.heap.size y w') := fun y hy => implCopies_any a cap P y (HR.out.below (grow_on HB.out hy)) hl HS.out
  have HK : Hid (∀ w', Blk w' w.heap.size #[.int .i64 f, .slice a P.length cap] 52 → w'.cell? ⟨w.heap.size, 0, none⟩ = some (.int .i64 f) ∧ w'.cell? ⟨w.heap.size, 1, none⟩ = some (.slice a P.length cap)) := fun w' h => ⟨h.cell 0, h.cell 1⟩
  refine wp_region_held_drew (S := fun w' => w'.cell? ⟨w.heap.size, 0, none⟩ = some (.int .i64 f) ∧ w'.cell? ⟨w.heap.size, 1, none⟩ = some (.slice a P.length cap)) (by kernel_rfl) (HK.out _ HX.out.drew) (fun hHeld => ?_)
  refine wpAnyH_take (i := 0) (oi := { dst := some 3, op := Op.fieldAddr 52 (Operand.tmp 1) 0, type := 0, pos := "l06_chain.go:59", after := #[], guard := none }) (v := ?vq0) rfl (by kernel_rfl) (by kernel_rfl) (by kernel_rfl) (fun _ _ _ h => h) (Or.inl ⟨by rfl, ?hyq0⟩) hHeld ?_
  case hyq0 => (intro w hSw; (try dsimp only at hSw); go_simp <;> with_reducible rfl)
  try simp only [Act.put, List.setIfInBounds_toArray, List.set_cons_zero, List.set_cons_succ]
  refine wpAnyH_take (i := 1) (oi := { dst := some 4, op := Op.load 3 (Operand.tmp 3), type := 3, pos := "l06_chain.go:59", after := #[{ on := 0, ground := Ground.data }], guard := none }) (v := ?vq1) rfl (by kernel_rfl) (by kernel_rfl) (by kernel_rfl) (fun _ _ _ h => h) (Or.inl ⟨by rfl, ?hyq1⟩) hHeld ?_
  case hyq1 => (intro w hSw; (try dsimp only at hSw); go_simp <;> with_reducible rfl)
  try simp only [Act.put, List.setIfInBounds_toArray, List.set_cons_zero, List.set_cons_succ]
  refine wpAnyH_take (i := 2) (oi := { dst := some 5, op := Op.fieldAddr 52 (Operand.tmp 1) 1, type := 0, pos := "l06_chain.go:59", after := #[], guard := none }) (v := ?vq2) rfl (by kernel_rfl) (by kernel_rfl) (by kernel_rfl) (fun _ _ _ h => h) (Or.inl ⟨by rfl, ?hyq2⟩) hHeld ?_
  case hyq2 => (intro w hSw; (try dsimp only at hSw); go_simp <;> with_reducible rfl)
  try simp only [Act.put, List.setIfInBounds_toArray, List.set_cons_zero, List.set_cons_succ]
  refine wpAnyH_take (i := 3) (oi := { dst := some 6, op := Op.load 29 (Operand.tmp 5), type := 29, pos := "l06_chain.go:59", after := #[{ on := 2, ground := Ground.data }], guard := none }) (v := ?vq3) rfl (by kernel_rfl) (by kernel_rfl) (by kernel_rfl) (fun _ _ _ h => h) (Or.inl ⟨by rfl, ?hyq3⟩) hHeld ?_
  case hyq3 => (intro w hSw; (try dsimp only at hSw); go_simp <;> with_reducible rfl)
  try simp only [Act.put, List.setIfInBounds_toArray, List.set_cons_zero, List.set_cons_succ]
  refine wpAnyH_ready (rs := [4]) (by kernel_rfl) (by simp) ?_
  refine AllReadyH.cons (o := { dst := some 7, op := Op.call { callee := Callee.value (Operand.func 57), args := #[Operand.tmp 6], argTypes := #[29] }, type := 29, pos := "l06_chain.go:59", after := #[{ on := 3, ground := Ground.data }], guard := none }) rfl (fun K hK => ?_) AllReadyH.nil
  go_simp
  refine (HC.out _ (Below.refl _ _).drew).mono ?_
  rintro r wyq4 ⟨⟨M, rs, rfl, hab, hp⟩, hy⟩
  have HZ2 : Hid (Below W.heap.size W wyq4) := grow_on (Below.refl _ _).drew hy
  have HAB : Hid (AB w.heap.size wyq4 M P.length rs ∧ pals rs = P) := ⟨hab.down (by have := HZ.out; show w.heap.size ≤ W.drew.heap.size; simp; omega), hp⟩
  have hY := HY.out.grow HZ2.out
  have p0 : wyq4.cell? ⟨(w.heap.size + 1), 0, none⟩ = some (.int .i64 0) := hY.cell 0
  have p1 : wyq4.cell? ⟨(w.heap.size + 1), 1, none⟩ = some (.slice none 0 0) := hY.cell 1
  have f0 := hY.frozen 0
  have f1 := hY.frozen 1
  have HY4 : Hid (Blk wyq4 (w.heap.size + 1) #[.int .i64 0, .slice none 0 0] 52) := hY
  clear hab hp hy hY
  clear hHeld
  refine hK.out _ _ (HK.out _ (HX.out.grow HZ2.out)) (fun hHeld => ?_)
  clear hK K
  try simp only [Act.put, List.setIfInBounds_toArray, List.set_cons_zero, List.set_cons_succ]
  refine wpAnyH_take (i := 5) (oi := { dst := some 8, op := Op.build 52 #[(0, Operand.tmp 4), (1, Operand.tmp 7)], type := 52, pos := "l06_chain.go:59", after := #[{ on := 1, ground := Ground.data }, { on := 4, ground := Ground.data }], guard := none }) (v := ?vq5) rfl (by kernel_rfl) (by kernel_rfl) (by kernel_rfl) (fun _ _ _ h => h) (Or.inl ⟨by rfl, ?hyq5⟩) hHeld ?_
  case hyq5 => (intro w hSw; (try dsimp only at hSw); go_simp <;> with_reducible rfl)
  try simp only [Act.put, List.setIfInBounds_toArray, List.set_cons_zero, List.set_cons_succ]
  refine wpAnyH_ready (rs := [6]) (by kernel_rfl) (by simp) ?_
  refine AllReadyH.cons (o := { dst := none, op := Op.store 52 (Operand.tmp 2) (Operand.tmp 8), type := 0, pos := "l06_chain.go:59", after := #[{ on := 5, ground := Ground.data }, { on := 4, ground := Ground.chain }, { on := 0, ground := Ground.phase }, { on := 1, ground := Ground.phase }, { on := 2, ground := Ground.phase }, { on := 3, ground := Ground.phase }, { on := 4, ground := Ground.phase }, { on := 5, ground := Ground.phase }], guard := none }) rfl (fun K hK => ?_) AllReadyH.nil
  go_simp
  clear hHeld
  refine hK.out _ _ (HK.out ((wyq4.setCell ⟨(w.heap.size + 1), 0, none⟩ (.int .i64 f)).setCell ⟨(w.heap.size + 1), 1, none⟩ (.slice (some ⟨M, 0, none⟩) P.length P.length)) (((HX.out.grow HZ2.out).set_other (show (w.heap.size + 1) ≠ w.heap.size by omega) _).set_other (show (w.heap.size + 1) ≠ w.heap.size by omega) _)) (fun hHeld => ?_)
  clear hK K
  try simp only [Act.put, List.setIfInBounds_toArray, List.set_cons_zero, List.set_cons_succ]
  refine wpAnyH_done (by kernel_rfl) ?_ _
  have hs : Blk ((wyq4.setCell ⟨(w.heap.size + 1), 0, none⟩ (.int .i64 f)).setCell ⟨(w.heap.size + 1), 1, none⟩ (.slice (some ⟨M, 0, none⟩) P.length P.length)) (w.heap.size + 1) #[.int .i64 f, .slice (some ⟨M, 0, none⟩) P.length P.length] 52 := (HY4.out.set 0 _).set 1 _
  have s0 := hs.cell 0
  have s1 := hs.cell 1
  go_wp2_with fail
  refine bodyPost_ret (v := .agg #[.int .i64 f, .slice (some ⟨M, 0, none⟩) P.length P.length]) (by simp [results, Try.results42, go_sem, s0, s1]) rfl ?_
  refine ⟨⟨M, rs, rfl, Go.Proofs.Ytcopckbpflmmeab.ChnP.ab_moved HAB.out.1 (fun {cs} k1 => ?_) (fun {k} {cs} k1 => ?_), HAB.out.2⟩, Go.Proofs.Ytcopckbpflmmeab.ChnP.set2 (grow_on HB.out HZ2.out) (by omega) _ _⟩
  · have hne : (w.heap.size + 1) ≠ M := fun e => by subst e; exact blkC_al HY4.out k1
    exact (k1.set_other hne _).set_other hne _
  · have hne : (w.heap.size + 1) ≠ k := fun e => by subst e; exact blkC_ne HY4.out k1
    exact (k1.set_other hne _).set_other hne _
end Go.Proofs.Ytcopckbpflmmeab.ChnC
namespace Go.Proofs.Ytcopckbpflmmeab.ChnP
open Go.RowKit
open Labs LabS Alms AlmM Over Blk App Rws ChnI ChnC

theorem chain_alarm {w : World} {a b : Nat} {cs ds : Array Value} (h : Blk w a cs 52) (k : Blk w b ds 68) : a ≠ b := fun e => by
  subst e
  unfold Blk at h k
  rw [h] at k
  injection k with k
  injection k with _ k
  exact absurd k (by decide)
theorem chain_label {w : World} {a b : Nat} {cs ds : Array Value} (h : Blk w a cs 52) (k : Blk w b ds 94) : a ≠ b := fun e => by
  subst e
  exact blkC_ne h k
theorem ab_set2 {lo : Nat} {w : World} {M c N : Nat} {rs : List ARow} {cs : Array Value} (h : AB lo w M c rs) (hN : Blk w N cs 52) (v0 v1 : Value) : AB lo ((w.setCell ⟨N, 0, none⟩ v0).setCell ⟨N, 1, none⟩ v1) M c rs :=
  ab_moved h (fun k => (k.set_other (chain_alarm hN k) _).set_other (chain_alarm hN k) _) (fun k => (k.set_other (chain_label hN k) _).set_other (chain_label hN k) _)
theorem ab_set1 {lo : Nat} {w : World} {M c N : Nat} {rs : List ARow} {cs : Array Value} (h : AB lo w M c rs) (hN : Blk w N cs 52) (i : Nat) (v : Value) : AB lo (w.setCell ⟨N, i, none⟩ v) M c rs :=
  ab_moved h (fun k => k.set_other (chain_alarm hN k) _) (fun k => k.set_other (chain_label hN k) _)
end Go.Proofs.Ytcopckbpflmmeab.ChnP
namespace Go.Proofs.Ytcopckbpflmmeab.ChnD
open Go.RowKit
open Labs LabS Alms AlmS AlmM Over Blk Rnd Plc Lop App Rws ChnI ChnC ChnP
attribute [local go_sem] Oper.semAt_some

structure Two (lo : Nat) (w : World) (M1 c1 : Nat) (rs1 : List ARow) (M2 c2 : Nat) (rs2 : List ARow) : Prop where
  a : AB lo w M1 c1 rs1
  b : AB lo w M2 c2 rs2
  ne : M1 ≠ M2
  far : ∀ x ∈ rs1, ∀ y ∈ rs2, x.1 ≠ y.1
theorem Two.symm {lo : Nat} {w : World} {M1 c1 : Nat} {rs1 : List ARow} {M2 c2 : Nat} {rs2 : List ARow} (h : Two lo w M1 c1 rs1 M2 c2 rs2) : Two lo w M2 c2 rs2 M1 c1 rs1 := ⟨h.b, h.a, fun e => h.ne e.symm, fun x hx y hy e => h.far y hy x hx e.symm⟩
theorem Two.grow {lo : Nat} {w w' : World} {M1 c1 : Nat} {rs1 : List ARow} {M2 c2 : Nat} {rs2 : List ARow} (h : Two lo w M1 c1 rs1 M2 c2 rs2) (hb : Below w.heap.size w w') : Two lo w' M1 c1 rs1 M2 c2 rs2 := ⟨h.a.grow hb, h.b.grow hb, h.ne, h.far⟩
theorem Two.down {lo lo' : Nat} {w : World} {M1 c1 : Nat} {rs1 : List ARow} {M2 c2 : Nat} {rs2 : List ARow} (h : Two lo w M1 c1 rs1 M2 c2 rs2) (hl : lo' ≤ lo) : Two lo' w M1 c1 rs1 M2 c2 rs2 := ⟨h.a.down hl, h.b.down hl, h.ne, h.far⟩
theorem Two.moved {lo : Nat} {w w' : World} {M1 c1 : Nat} {rs1 : List ARow} {M2 c2 : Nat} {rs2 : List ARow} (h : Two lo w M1 c1 rs1 M2 c2 rs2) (hA : ∀ {k : Nat} {cs : Array Value}, Blk w k cs 68 → Blk w' k cs 68) (hL : ∀ {k : Nat} {cs : Array Value}, Blk w k cs 94 → Blk w' k cs 94) : Two lo w' M1 c1 rs1 M2 c2 rs2 :=
  ⟨ab_moved h.a (fun k => hA k) (fun k => hL k), ab_moved h.b (fun k => hA k) (fun k => hL k), h.ne, h.far⟩
theorem Two.app {lo : Nat} {W w' : World} {M1 c1 : Nat} {rs1 : List ARow} {M2 c2 : Nat} {rs2 : List ARow} {x : ARow} {xs : List Value} {v' : Value} (h : Two lo W M1 c1 rs1 M2 c2 rs2) (hx : OwnA lo W x) (hn1 : ∀ y ∈ rs1, y.1 ≠ x.1) (hn2 : ∀ y ∈ rs2, y.1 ≠ x.1) (hl : xs.length = rs1.length * 4) (hxs : ∀ i, i < rs1.length → Four (fun k => xs[k]?) i (nthA rs1 i))
    (hown : w'.ownsRow lo 68 4 v' (rs1.length + 1) (xs ++ rowV x)) (hg : W.grownBy w' (some M1)) (hat : v'.ownBlock = some M1 ∨ v'.ownBlock = some W.heap.size) : ∃ M' c', v' = .slice (some ⟨M', 0, none⟩) (rs1.length + 1) c' ∧ Two lo w' M' c' (rs1 ++ [x]) M2 c2 rs2 := by
  obtain ⟨M', c', e, hab⟩ := h.a.app hx hn1 hl hxs hown hg
  have hlt := h.b.lt
  obtain ⟨cu, hcu, _⟩ := h.a.outer
  refine ⟨M', c', e, hab, ab_moved h.b (fun k => blk_far k hg (fun e => h.ne (Option.some.inj e).symm)) (fun k => blk_far k hg (fun e => blkA_ne hcu k (Option.some.inj e).symm)), fun q => ?_, fun y hy z hz => ?_⟩
  · subst e
    simp only [Value.ownBlock] at hat
    rcases hat with hat | hat
    · exact h.ne ((Option.some.inj hat).symm.trans q)
    · have := Option.some.inj hat
      omega
  · rcases List.mem_append.1 hy with hy | hy
    · exact h.far y hy z hz
    · rw [List.mem_singleton.1 hy]
      exact fun e => hn2 z hz e.symm

structure Mid (w W0 : World) (f now : Int) (W : World) (M1 c1 : Nat) (rs1 : List ARow) (M2 c2 : Nat) (rs2 : List ARow) : Prop where
  two : Two w.heap.size W M1 c1 rs1 M2 c2 rs2
  low : w.heap.size + 3 ≤ M1 ∧ w.heap.size + 3 ≤ M2
  bnow : Blk W (w.heap.size + 1) #[.int .i64 now] 3
  bres : Blk W (w.heap.size + 1 + 1) #[.int .i64 0, .slice none 0 0] 52
  bleft : Blk W (w.heap.size + 1 + 1 + 1 + 1 + 1) #[.int .i64 f, .slice (some ⟨M1, 0, none⟩) rs1.length c1] 52
  bover : Blk W (w.heap.size + 1 + 1 + 1 + 1 + 1 + 1) #[.slice (some ⟨M2, 0, none⟩) rs2.length c2] 29
  below : Below w.heap.size w W
  size : W0.heap.size ≤ W.heap.size
theorem Mid.grow {w W0 : World} {f now : Int} {W W' : World} {M1 c1 : Nat} {rs1 : List ARow} {M2 c2 : Nat} {rs2 : List ARow} (h : Mid w W0 f now W M1 c1 rs1 M2 c2 rs2) (hb : Below W.heap.size W W') : Mid w W0 f now W' M1 c1 rs1 M2 c2 rs2 :=
  ⟨h.two.grow hb, h.low, h.bnow.grow hb, h.bres.grow hb, h.bleft.grow hb, h.bover.grow hb, grow_on h.below hb, Nat.le_trans h.size hb.size⟩
theorem Mid.turn {w W0 : World} {f now : Int} {W W' : World} {M1 c1 : Nat} {rs1 : List ARow} {M2 c2 : Nat} {rs2 : List ARow} (h : Mid w W0 f now W M1 c1 rs1 M2 c2 rs2) (hw : w.heap.size ≤ W0.heap.size) (ht : Turn W0.heap.size W W') : Mid w W0 f now W' M1 c1 rs1 M2 c2 rs2 :=
  ⟨h.two.moved (fun k => ht.blk k) (fun k => ht.blk k), h.low, ht.blk h.bnow, ht.blk h.bres, ht.blk h.bleft, ht.blk h.bover, ht.below (Nat.le_refl _) hw h.below, Nat.le_trans h.size ht.size⟩
end Go.Proofs.Ytcopckbpflmmeab.ChnD
