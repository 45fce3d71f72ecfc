/-
  PROVED: spec.GroupsOk answers as a plain function on groups says; nothing that was there is changed.
-/
import Derived.Test.YtgncimlojbnbfaaGpD
import Derived.Test.YtgncimlojbnbfaaGrpG
namespace Go.Proofs.Ytgncimlojbnbfaa.GpG
open Go.RowKit
open Go.Proofs.Ytgncimlojbnbfaa.Labs Go.Proofs.Ytgncimlojbnbfaa.LabS Go.Proofs.Ytgncimlojbnbfaa.Alms Go.Proofs.Ytgncimlojbnbfaa.AlmS Go.Proofs.Ytgncimlojbnbfaa.Over Go.Proofs.Ytgncimlojbnbfaa.Blk Go.Proofs.Ytgncimlojbnbfaa.App Go.Proofs.Ytgncimlojbnbfaa.ChnI Go.Proofs.Ytgncimlojbnbfaa.ChnC Go.Proofs.Ytgncimlojbnbfaa.Grp Go.Proofs.Ytgncimlojbnbfaa.GrpG Go.Proofs.Ytgncimlojbnbfaa.Gps Go.Proofs.Ytgncimlojbnbfaa.GpD
open Go.Proofs.Ytgncimlojbnbfaa.StrB (retB)
open Go.Proofs.Ytgncimlojbnbfaa.Pro (RdS)
set_option linter.unusedVariables false
def oneOk (by' : List ByteArray) (x : PGr) : Bool := groupB x.n x.key x.b x.t x.P by'
def upOk (U : List PGr) (i : Nat) : Bool := decide (i = 0) || decide ((nthG U (i - 1)).n < (nthG U i).n)
def keyOk (U : List PGr) (i : Nat) : Bool := (List.range i).all fun q => !decide ((nthG U q).key = (nthG U i).key)
def okG (U : List PGr) (by' : List ByteArray) (i : Nat) : Bool := oneOk by' (nthG U i) && (upOk U i && keyOk U i)
/-- whether groups may be -/
def groupsB (U : List PGr) (by' : List ByteArray) : Bool := (List.range U.length).all (okG U by') && decide (U.length ≤ 12)
theorem groups_bad {U : List PGr} {by' : List ByteArray} {k : Nat} (hk : k < U.length) (h : okG U by' k = false) : groupsB U by' = false := by
  have : (List.range U.length).all (okG U by') = false := by
    rw [List.all_eq_false]
    exact ⟨k, List.mem_range.2 hk, by simp [h]⟩
  unfold groupsB; rw [this]; rfl
theorem groups_all {U : List PGr} {by' : List ByteArray} (h : ∀ j, j < U.length → okG U by' j = true) : groupsB U by' = decide (U.length ≤ 12) := by
  have : (List.range U.length).all (okG U by') = true := List.all_eq_true.2 fun j hj => h j (List.mem_range.1 hj)
  unfold groupsB; rw [this]; rfl
theorem keyOk_bad {U : List PGr} {k j : Nat} (hj : j < k) (h : (nthG U j).key = (nthG U k).key) : keyOk U k = false := by
  unfold keyOk
  rw [List.all_eq_false]
  exact ⟨j, List.mem_range.2 hj, by simp [h]⟩
theorem keyOk_good {U : List PGr} {k : Nat} (h : ∀ q, q < k → (nthG U q).key ≠ (nthG U k).key) : keyOk U k = true := by
  unfold keyOk
  rw [List.all_eq_true]
  exact fun q hq => by simp [h q (List.mem_range.1 hq)]
def SmP (U : List PGr) : Prop := ∀ x ∈ U, x.P.length ≤ 1048576 ∧ LenM x.P
set_option maxRecDepth 100000 in
set_option maxHeartbeats 6400000 in
theorem specGroups_any (a ba : Option Addr) (cap bc : Nat) (U : List PGr) (by' : List ByteArray) (w : World) (hr : RdGs GA w a U) (hl : U.length ≤ 1048576) (hz : FitsG U) (hs : SmP U) (hb : RdS w ba by') (hbl : by'.length ≤ maxLen) :
    Calls Try.prog 10 #[.slice a U.length cap, .slice ba by'.length bc] w fun e w' => e = .returned (.bool (groupsB U by')) ∧ Below w.heap.size w w' := by
  have HR : Hid (RdGs GA w a U ∧ FitsG U ∧ SmP U) := ⟨hr, hz, hs⟩
  have HY : Hid (RdS w ba by' ∧ by'.length ≤ maxLen) := ⟨hb, hbl⟩
  clear hr hz hs hb hbl
  go_enter Try.func10, Try.ntmps10
  go_wp2
  go_loopw [5] (fun i w' => ∃ k : Nat, i = .int .i64 k ∧ k ≤ U.length ∧ (∀ j, j < k → okG U by' j = true) ∧ Below w.heap.size w w') (fun i _ => U.length - (intOf i).toNat)
  case atStart => exact ⟨0, rfl, Nat.zero_le _, fun j hj => by omega, Below.refl _ _⟩
  case round =>
    obtain ⟨k, rfl, hk, hu, hw0⟩ := hrel
    have HU : Hid (∀ j, j < k → okG U by' j = true) := hu
    have HB : Hid (Below w.heap.size w wr) := hw0
    generalize wr = z at *
    clear hu hw0
    by_cases hlt : k < U.length
    · have hlt' : (k : Int) < (U.length : Int) := by omega
      obtain ⟨b, off, rfl, hbz, ka, kc, ad, cp, hat⟩ := (HR.out.1.below stays_ga HB.out).get hlt
      have HA : Hid (AtG GA z b off k (nthG U k) ka kc ad cp) := hat
      have HF : Hid (FitG (nthG U k)) := HR.out.2.1 _ (nthG_mem hlt)
      have HSP : Hid ((nthG U k).P.length ≤ 1048576 ∧ LenM (nthG U k).P) := HR.out.2.2 _ (nthG_mem hlt)
      have HRR : Hid (∀ y, Below z.heap.size z y → ∀ j, j < U.length → ∃ ka kc ad cp, AtG GA y b off j (nthG U j) ka kc ad cp) := fun y hy j hj => by
        obtain ⟨b', off', e, _, ka, kc, ad, cp, h⟩ := (HR.out.1.below stays_ga (grow_on HB.out hy)).get hj
        cases e
        exact ⟨ka, kc, ad, cp, h⟩
      have HOK : Hid (∀ y, Below z.heap.size z y → Calls Try.prog 38 #[.agg #[.int .i64 (nthG U k).n, .slice ka (nthG U k).key.length kc, .int .i64 (nthG U k).b, .int .i64 (nthG U k).t, .slice ad (nthG U k).P.length cp], .slice ba by'.length bc] y fun e w' => e = .returned (.bool (oneOk by' (nthG U k))) ∧ Below y.heap.size y w') := fun y hy => specGroup_any (nthG U k).n (nthG U k).b (nthG U k).t ka kc (nthG U k).key ad cp (nthG U k).P ba bc by' y (HA.out.reads.1.below hy) HF.out.klen HF.out.kfit (HA.out.reads.2.below hy) HSP.out.1 HF.out.fits HSP.out.2 (HY.out.1.below (grow_on HB.out hy)) HY.out.2
      clear hat
      cases hg1 : oneOk by' (nthG U k) with
      | false =>
        have HE : Hid (groupsB U by' = false) := groups_bad hlt (by unfold okG; rw [hg1]; rfl)
        go_upto_region 4 with fail
        have HS : Hid (∀ w', Below z.heap.size z w' → w'.cell? ⟨b, off + k * 5, none⟩ = some (.int .i64 (nthG U k).n) ∧ w'.cell? ⟨b, off + k * 5 + 1, none⟩ = some (.slice ka (nthG U k).key.length kc) ∧ w'.cell? ⟨b, off + k * 5 + 2, none⟩ = some (.int .i64 (nthG U k).b) ∧ w'.cell? ⟨b, off + k * 5 + 3, none⟩ = some (.int .i64 (nthG U k).t) ∧ w'.cell? ⟨b, off + k * 5 + 4, none⟩ = some (.slice ad (nthG U k).P.length cp)) := fun w' h => ⟨(h.cell (p := ⟨b, off + k * 5, none⟩) hbz).trans HA.out.c0, (h.cell (p := ⟨b, off + k * 5 + 1, none⟩) hbz).trans HA.out.c1, (h.cell (p := ⟨b, off + k * 5 + 2, none⟩) hbz).trans HA.out.c2, (h.cell (p := ⟨b, off + k * 5 + 3, none⟩) hbz).trans HA.out.c3, (h.cell (p := ⟨b, off + k * 5 + 4, none⟩) hbz).trans HA.out.c4⟩
        refine wp_region_held_drew (S := fun w' => w'.cell? ⟨b, off + k * 5, none⟩ = some (.int .i64 (nthG U k).n) ∧ w'.cell? ⟨b, off + k * 5 + 1, none⟩ = some (.slice ka (nthG U k).key.length kc) ∧ w'.cell? ⟨b, off + k * 5 + 2, none⟩ = some (.int .i64 (nthG U k).b) ∧ w'.cell? ⟨b, off + k * 5 + 3, none⟩ = some (.int .i64 (nthG U k).t) ∧ w'.cell? ⟨b, off + k * 5 + 4, none⟩ = some (.slice ad (nthG U k).P.length cp)) (by kernel_rfl) (HS.out _ (Below.refl z.heap.size z).drew) (fun hHeld => ?_)
        refine wpAnyH_take (i := 0) (oi := { dst := some 13, op := Op.move (Operand.tmp 0), type := 27, pos := "l12_groups.go:7", after := #[], guard := none }) (v := ?vq1x0) rfl (by kernel_rfl) (by kernel_rfl) (by kernel_rfl) (fun _ _ _ h => h) (Or.inl ⟨by rfl, ?hyq1x0⟩) hHeld ?_
        case hyq1x0 => (intro w hSw; (try dsimp only at hSw); go_simp <;> with_reducible rfl)
        try simp only [Act.put, List.setIfInBounds_toArray, List.set_cons_zero, List.set_cons_succ]
        refine wpAnyH_take (i := 1) (oi := { dst := some 14, op := Op.move (Operand.tmp 5), type := 3, pos := "l12_groups.go:7", after := #[], guard := none }) (v := ?vq1x1) rfl (by kernel_rfl) (by kernel_rfl) (by kernel_rfl) (fun _ _ _ h => h) (Or.inl ⟨by rfl, ?hyq1x1⟩) hHeld ?_
        case hyq1x1 => (intro w hSw; (try dsimp only at hSw); go_simp <;> with_reducible rfl)
        try simp only [Act.put, List.setIfInBounds_toArray, List.set_cons_zero, List.set_cons_succ]
        refine wpAnyH_take (i := 2) (oi := { dst := some 15, op := Op.indexAddr 27 (Operand.tmp 13) (Operand.tmp 14), type := 0, pos := "l12_groups.go:7", after := #[{ on := 0, ground := Ground.data }, { on := 1, ground := Ground.data }], guard := none }) (v := ?vq1x2) rfl (by kernel_rfl) (by kernel_rfl) (by kernel_rfl) (fun _ _ _ h => h) (Or.inl ⟨by rfl, ?hyq1x2⟩) hHeld ?_
        case hyq1x2 => (intro w hSw; (try dsimp only at hSw); go_simp <;> with_reducible rfl)
        try simp only [Act.put, List.setIfInBounds_toArray, List.set_cons_zero, List.set_cons_succ]
        refine wpAnyH_take (i := 3) (oi := { dst := some 16, op := Op.load 67 (Operand.tmp 15), type := 67, pos := "l12_groups.go:7", after := #[{ on := 2, ground := Ground.data }], guard := none }) (v := ?vq1x3) rfl (by kernel_rfl) (by kernel_rfl) (by kernel_rfl) (fun _ _ _ h => h) (Or.inl ⟨by rfl, ?hyq1x3⟩) hHeld ?_
        case hyq1x3 => (intro w hSw; (try dsimp only at hSw); go_simp <;> with_reducible rfl)
        try simp only [Act.put, List.setIfInBounds_toArray, List.set_cons_zero, List.set_cons_succ]
        refine wpAnyH_take (i := 4) (oi := { dst := some 17, op := Op.move (Operand.tmp 1), type := 23, pos := "l12_groups.go:7", after := #[], guard := none }) (v := ?vq1x4) rfl (by kernel_rfl) (by kernel_rfl) (by kernel_rfl) (fun _ _ _ h => h) (Or.inl ⟨by rfl, ?hyq1x4⟩) hHeld ?_
        case hyq1x4 => (intro w hSw; (try dsimp only at hSw); go_simp <;> with_reducible rfl)
        try simp only [Act.put, List.setIfInBounds_toArray, List.set_cons_zero, List.set_cons_succ]
        refine wpAnyH_ready (rs := [5]) (by kernel_rfl) (by simp) ?_
        refine AllReadyH.cons (o := { dst := some 18, op := Op.call { callee := Callee.value (Operand.func 38), args := #[Operand.tmp 16, Operand.tmp 17], argTypes := #[67, 23] }, type := 4, pos := "l12_groups.go:7", after := #[{ on := 3, ground := Ground.data }, { on := 4, ground := Ground.data }], guard := none }) rfl (fun K hK => ?_) AllReadyH.nil
        go_simp
        refine (HOK.out _ (Below.refl z.heap.size z).drew).mono ?_
        rintro r wyq1x5 ⟨rfl, hb1⟩
        have Z1 : Hid (Below z.heap.size z wyq1x5) := grow_on (Below.refl z.heap.size z).drew hb1
        clear hb1
        try rw [hg1]
        clear hHeld
        refine hK.out _ _ (HS.out _ Z1.out) (fun hHeld => ?_)
        clear hK K
        try simp only [Act.put, List.setIfInBounds_toArray, List.set_cons_zero, List.set_cons_succ]
        refine wpAnyH_take (i := 6) (oi := { dst := some 19, op := Op.unOp UnOp.not 4 (Operand.tmp 18), type := 4, pos := "l12_groups.go:7", after := #[{ on := 5, ground := Ground.data }], guard := none }) (v := ?vq1x6) rfl (by kernel_rfl) (by kernel_rfl) (by kernel_rfl) (fun _ _ _ h => h) (Or.inl ⟨by rfl, ?hyq1x6⟩) hHeld ?_
        case hyq1x6 => (intro w hSw; (try dsimp only at hSw); go_simp <;> with_reducible rfl)
        try simp only [Act.put, List.setIfInBounds_toArray, List.set_cons_zero, List.set_cons_succ]
        refine wpAnyH_take (i := 7) (oi := { dst := some 20, op := Op.move (Operand.tmp 19), type := 4, pos := "l12_groups.go:7", after := #[{ on := 6, ground := Ground.data }, { on := 5, ground := Ground.chain }], guard := none }) (v := ?vq1x7) rfl (by kernel_rfl) (by kernel_rfl) (by kernel_rfl) (fun _ _ _ h => h) (Or.inl ⟨by rfl, ?hyq1x7⟩) hHeld ?_
        case hyq1x7 => (intro w hSw; (try dsimp only at hSw); go_simp <;> with_reducible rfl)
        try simp only [Act.put, List.setIfInBounds_toArray, List.set_cons_zero, List.set_cons_succ]
        refine wpAnyH_take (i := 8) (oi := { dst := some 21, op := Op.move (Operand.tmp 5), type := 3, pos := "l12_groups.go:7", after := #[{ on := 7, ground := Ground.guard }], guard := some (7, false) }) (v := undef) rfl (by kernel_rfl) (by kernel_rfl) (by kernel_rfl) (fun _ _ _ h => h) (Or.inr ⟨by rfl, rfl⟩) hHeld ?_
        try simp only [Act.put, List.setIfInBounds_toArray, List.set_cons_zero, List.set_cons_succ]
        refine wpAnyH_take (i := 9) (oi := { dst := some 22, op := Op.binOp BinOp.gtr 3 (Operand.tmp 21) (Operand.const (Value.int IntKind.i64 0)) 3, type := 4, pos := "l12_groups.go:7", after := #[{ on := 8, ground := Ground.data }, { on := 7, ground := Ground.guard }], guard := some (7, false) }) (v := undef) rfl (by kernel_rfl) (by kernel_rfl) (by kernel_rfl) (fun _ _ _ h => h) (Or.inr ⟨by rfl, rfl⟩) hHeld ?_
        try simp only [Act.put, List.setIfInBounds_toArray, List.set_cons_zero, List.set_cons_succ]
        refine wpAnyH_take (i := 10) (oi := { dst := some 23, op := Op.move (Operand.tmp 22), type := 4, pos := "l12_groups.go:7", after := #[{ on := 9, ground := Ground.data }, { on := 7, ground := Ground.chain }, { on := 7, ground := Ground.guard }], guard := some (7, false) }) (v := undef) rfl (by kernel_rfl) (by kernel_rfl) (by kernel_rfl) (fun _ _ _ h => h) (Or.inr ⟨by rfl, rfl⟩) hHeld ?_
        try simp only [Act.put, List.setIfInBounds_toArray, List.set_cons_zero, List.set_cons_succ]
        refine wpAnyH_take (i := 11) (oi := { dst := some 24, op := Op.move (Operand.tmp 0), type := 27, pos := "l12_groups.go:7", after := #[{ on := 10, ground := Ground.guard }], guard := some (10, true) }) (v := undef) rfl (by kernel_rfl) (by kernel_rfl) (by kernel_rfl) (fun _ _ _ h => h) (Or.inr ⟨by rfl, rfl⟩) hHeld ?_
        try simp only [Act.put, List.setIfInBounds_toArray, List.set_cons_zero, List.set_cons_succ]
        refine wpAnyH_take (i := 12) (oi := { dst := some 25, op := Op.move (Operand.tmp 5), type := 3, pos := "l12_groups.go:7", after := #[{ on := 10, ground := Ground.guard }], guard := some (10, true) }) (v := undef) rfl (by kernel_rfl) (by kernel_rfl) (by kernel_rfl) (fun _ _ _ h => h) (Or.inr ⟨by rfl, rfl⟩) hHeld ?_
        try simp only [Act.put, List.setIfInBounds_toArray, List.set_cons_zero, List.set_cons_succ]
        refine wpAnyH_take (i := 13) (oi := { dst := some 26, op := Op.binOp BinOp.sub 3 (Operand.tmp 25) (Operand.const (Value.int IntKind.i64 1)) 3, type := 3, pos := "l12_groups.go:7", after := #[{ on := 12, ground := Ground.data }, { on := 10, ground := Ground.guard }], guard := some (10, true) }) (v := undef) rfl (by kernel_rfl) (by kernel_rfl) (by kernel_rfl) (fun _ _ _ h => h) (Or.inr ⟨by rfl, rfl⟩) hHeld ?_
        try simp only [Act.put, List.setIfInBounds_toArray, List.set_cons_zero, List.set_cons_succ]
        refine wpAnyH_take (i := 14) (oi := { dst := some 27, op := Op.indexAddr 27 (Operand.tmp 24) (Operand.tmp 26), type := 0, pos := "l12_groups.go:7", after := #[{ on := 11, ground := Ground.data }, { on := 13, ground := Ground.data }, { on := 10, ground := Ground.guard }], guard := some (10, true) }) (v := undef) rfl (by kernel_rfl) (by kernel_rfl) (by kernel_rfl) (fun _ _ _ h => h) (Or.inr ⟨by rfl, rfl⟩) hHeld ?_
        try simp only [Act.put, List.setIfInBounds_toArray, List.set_cons_zero, List.set_cons_succ]
        refine wpAnyH_take (i := 15) (oi := { dst := some 28, op := Op.fieldAddr 67 (Operand.tmp 27) 0, type := 0, pos := "l12_groups.go:7", after := #[{ on := 14, ground := Ground.data }, { on := 10, ground := Ground.guard }], guard := some (10, true) }) (v := undef) rfl (by kernel_rfl) (by kernel_rfl) (by kernel_rfl) (fun _ _ _ h => h) (Or.inr ⟨by rfl, rfl⟩) hHeld ?_
        try simp only [Act.put, List.setIfInBounds_toArray, List.set_cons_zero, List.set_cons_succ]
        refine wpAnyH_take (i := 16) (oi := { dst := some 29, op := Op.load 3 (Operand.tmp 28), type := 3, pos := "l12_groups.go:7", after := #[{ on := 15, ground := Ground.data }, { on := 10, ground := Ground.guard }], guard := some (10, true) }) (v := undef) rfl (by kernel_rfl) (by kernel_rfl) (by kernel_rfl) (fun _ _ _ h => h) (Or.inr ⟨by rfl, rfl⟩) hHeld ?_
        try simp only [Act.put, List.setIfInBounds_toArray, List.set_cons_zero, List.set_cons_succ]
        refine wpAnyH_take (i := 17) (oi := { dst := some 30, op := Op.move (Operand.tmp 0), type := 27, pos := "l12_groups.go:7", after := #[{ on := 10, ground := Ground.guard }], guard := some (10, true) }) (v := undef) rfl (by kernel_rfl) (by kernel_rfl) (by kernel_rfl) (fun _ _ _ h => h) (Or.inr ⟨by rfl, rfl⟩) hHeld ?_
        try simp only [Act.put, List.setIfInBounds_toArray, List.set_cons_zero, List.set_cons_succ]
        refine wpAnyH_take (i := 18) (oi := { dst := some 31, op := Op.move (Operand.tmp 5), type := 3, pos := "l12_groups.go:7", after := #[{ on := 10, ground := Ground.guard }], guard := some (10, true) }) (v := undef) rfl (by kernel_rfl) (by kernel_rfl) (by kernel_rfl) (fun _ _ _ h => h) (Or.inr ⟨by rfl, rfl⟩) hHeld ?_
        try simp only [Act.put, List.setIfInBounds_toArray, List.set_cons_zero, List.set_cons_succ]
        refine wpAnyH_take (i := 19) (oi := { dst := some 32, op := Op.indexAddr 27 (Operand.tmp 30) (Operand.tmp 31), type := 0, pos := "l12_groups.go:7", after := #[{ on := 17, ground := Ground.data }, { on := 18, ground := Ground.data }, { on := 10, ground := Ground.guard }], guard := some (10, true) }) (v := undef) rfl (by kernel_rfl) (by kernel_rfl) (by kernel_rfl) (fun _ _ _ h => h) (Or.inr ⟨by rfl, rfl⟩) hHeld ?_
        try simp only [Act.put, List.setIfInBounds_toArray, List.set_cons_zero, List.set_cons_succ]
        refine wpAnyH_take (i := 20) (oi := { dst := some 33, op := Op.fieldAddr 67 (Operand.tmp 32) 0, type := 0, pos := "l12_groups.go:7", after := #[{ on := 19, ground := Ground.data }, { on := 10, ground := Ground.guard }], guard := some (10, true) }) (v := undef) rfl (by kernel_rfl) (by kernel_rfl) (by kernel_rfl) (fun _ _ _ h => h) (Or.inr ⟨by rfl, rfl⟩) hHeld ?_
        try simp only [Act.put, List.setIfInBounds_toArray, List.set_cons_zero, List.set_cons_succ]
        refine wpAnyH_take (i := 21) (oi := { dst := some 34, op := Op.load 3 (Operand.tmp 33), type := 3, pos := "l12_groups.go:7", after := #[{ on := 20, ground := Ground.data }, { on := 10, ground := Ground.guard }], guard := some (10, true) }) (v := undef) rfl (by kernel_rfl) (by kernel_rfl) (by kernel_rfl) (fun _ _ _ h => h) (Or.inr ⟨by rfl, rfl⟩) hHeld ?_
        try simp only [Act.put, List.setIfInBounds_toArray, List.set_cons_zero, List.set_cons_succ]
        refine wpAnyH_take (i := 22) (oi := { dst := some 35, op := Op.binOp BinOp.geq 3 (Operand.tmp 29) (Operand.tmp 34) 3, type := 4, pos := "l12_groups.go:7", after := #[{ on := 16, ground := Ground.data }, { on := 21, ground := Ground.data }, { on := 10, ground := Ground.guard }], guard := some (10, true) }) (v := undef) rfl (by kernel_rfl) (by kernel_rfl) (by kernel_rfl) (fun _ _ _ h => h) (Or.inr ⟨by rfl, rfl⟩) hHeld ?_
        try simp only [Act.put, List.setIfInBounds_toArray, List.set_cons_zero, List.set_cons_succ]
        refine wpAnyH_take (i := 23) (oi := { dst := some 36, op := Op.pick (Operand.tmp 23) (Operand.tmp 35) (Operand.const (Value.bool false)), type := 4, pos := "l12_groups.go:7", after := #[{ on := 10, ground := Ground.data }, { on := 22, ground := Ground.data }, { on := 7, ground := Ground.guard }], guard := some (7, false) }) (v := undef) rfl (by kernel_rfl) (by kernel_rfl) (by kernel_rfl) (fun _ _ _ h => h) (Or.inr ⟨by rfl, rfl⟩) hHeld ?_
        try simp only [Act.put, List.setIfInBounds_toArray, List.set_cons_zero, List.set_cons_succ]
        refine wpAnyH_take (i := 24) (oi := { dst := some 37, op := Op.pick (Operand.tmp 20) (Operand.const (Value.bool true)) (Operand.tmp 36), type := 4, pos := "l12_groups.go:7", after := #[{ on := 7, ground := Ground.data }, { on := 23, ground := Ground.data }], guard := none }) (v := ?vq1x24) rfl (by kernel_rfl) (by kernel_rfl) (by kernel_rfl) (fun _ _ _ h => h) (Or.inl ⟨by rfl, ?hyq1x24⟩) hHeld ?_
        case hyq1x24 => (intro w hSw; (try dsimp only at hSw); go_simp <;> with_reducible rfl)
        try simp only [Act.put, List.setIfInBounds_toArray, List.set_cons_zero, List.set_cons_succ]
        refine wpAnyH_done (by kernel_rfl) ?_ _
        clear hHeld HS
        go_wp2
        go_ret
        exact ⟨retB HE.out.symm, grow_on HB.out Z1.out⟩
      | true =>
        by_cases k0 : k = 0
        ·
          have K0 : Hid (k = 0) := k0
          have bk : decide (0 < k) = false := decide_eq_false (by omega)
          clear k0
          go_upto_region 4 with fail
          have HS : Hid (∀ w', Below z.heap.size z w' → w'.cell? ⟨b, off + k * 5, none⟩ = some (.int .i64 (nthG U k).n) ∧ w'.cell? ⟨b, off + k * 5 + 1, none⟩ = some (.slice ka (nthG U k).key.length kc) ∧ w'.cell? ⟨b, off + k * 5 + 2, none⟩ = some (.int .i64 (nthG U k).b) ∧ w'.cell? ⟨b, off + k * 5 + 3, none⟩ = some (.int .i64 (nthG U k).t) ∧ w'.cell? ⟨b, off + k * 5 + 4, none⟩ = some (.slice ad (nthG U k).P.length cp)) := fun w' h => ⟨(h.cell (p := ⟨b, off + k * 5, none⟩) hbz).trans HA.out.c0, (h.cell (p := ⟨b, off + k * 5 + 1, none⟩) hbz).trans HA.out.c1, (h.cell (p := ⟨b, off + k * 5 + 2, none⟩) hbz).trans HA.out.c2, (h.cell (p := ⟨b, off + k * 5 + 3, none⟩) hbz).trans HA.out.c3, (h.cell (p := ⟨b, off + k * 5 + 4, none⟩) hbz).trans HA.out.c4⟩
          refine wp_region_held_drew (S := fun w' => w'.cell? ⟨b, off + k * 5, none⟩ = some (.int .i64 (nthG U k).n) ∧ w'.cell? ⟨b, off + k * 5 + 1, none⟩ = some (.slice ka (nthG U k).key.length kc) ∧ w'.cell? ⟨b, off + k * 5 + 2, none⟩ = some (.int .i64 (nthG U k).b) ∧ w'.cell? ⟨b, off + k * 5 + 3, none⟩ = some (.int .i64 (nthG U k).t) ∧ w'.cell? ⟨b, off + k * 5 + 4, none⟩ = some (.slice ad (nthG U k).P.length cp)) (by kernel_rfl) (HS.out _ (Below.refl z.heap.size z).drew) (fun hHeld => ?_)
          refine wpAnyH_take (i := 0) (oi := { dst := some 13, op := Op.move (Operand.tmp 0), type := 27, pos := "l12_groups.go:7", after := #[], guard := none }) (v := ?vq2x0) rfl (by kernel_rfl) (by kernel_rfl) (by kernel_rfl) (fun _ _ _ h => h) (Or.inl ⟨by rfl, ?hyq2x0⟩) hHeld ?_
          case hyq2x0 => (intro w hSw; (try dsimp only at hSw); go_simp <;> with_reducible rfl)
          try simp only [Act.put, List.setIfInBounds_toArray, List.set_cons_zero, List.set_cons_succ]
          refine wpAnyH_take (i := 1) (oi := { dst := some 14, op := Op.move (Operand.tmp 5), type := 3, pos := "l12_groups.go:7", after := #[], guard := none }) (v := ?vq2x1) rfl (by kernel_rfl) (by kernel_rfl) (by kernel_rfl) (fun _ _ _ h => h) (Or.inl ⟨by rfl, ?hyq2x1⟩) hHeld ?_
          case hyq2x1 => (intro w hSw; (try dsimp only at hSw); go_simp <;> with_reducible rfl)
          try simp only [Act.put, List.setIfInBounds_toArray, List.set_cons_zero, List.set_cons_succ]
          refine wpAnyH_take (i := 2) (oi := { dst := some 15, op := Op.indexAddr 27 (Operand.tmp 13) (Operand.tmp 14), type := 0, pos := "l12_groups.go:7", after := #[{ on := 0, ground := Ground.data }, { on := 1, ground := Ground.data }], guard := none }) (v := ?vq2x2) rfl (by kernel_rfl) (by kernel_rfl) (by kernel_rfl) (fun _ _ _ h => h) (Or.inl ⟨by rfl, ?hyq2x2⟩) hHeld ?_
          case hyq2x2 => (intro w hSw; (try dsimp only at hSw); go_simp <;> with_reducible rfl)
          try simp only [Act.put, List.setIfInBounds_toArray, List.set_cons_zero, List.set_cons_succ]
          refine wpAnyH_take (i := 3) (oi := { dst := some 16, op := Op.load 67 (Operand.tmp 15), type := 67, pos := "l12_groups.go:7", after := #[{ on := 2, ground := Ground.data }], guard := none }) (v := ?vq2x3) rfl (by kernel_rfl) (by kernel_rfl) (by kernel_rfl) (fun _ _ _ h => h) (Or.inl ⟨by rfl, ?hyq2x3⟩) hHeld ?_
          case hyq2x3 => (intro w hSw; (try dsimp only at hSw); go_simp <;> with_reducible rfl)
          try simp only [Act.put, List.setIfInBounds_toArray, List.set_cons_zero, List.set_cons_succ]
          refine wpAnyH_take (i := 4) (oi := { dst := some 17, op := Op.move (Operand.tmp 1), type := 23, pos := "l12_groups.go:7", after := #[], guard := none }) (v := ?vq2x4) rfl (by kernel_rfl) (by kernel_rfl) (by kernel_rfl) (fun _ _ _ h => h) (Or.inl ⟨by rfl, ?hyq2x4⟩) hHeld ?_
          case hyq2x4 => (intro w hSw; (try dsimp only at hSw); go_simp <;> with_reducible rfl)
          try simp only [Act.put, List.setIfInBounds_toArray, List.set_cons_zero, List.set_cons_succ]
          refine wpAnyH_ready (rs := [5]) (by kernel_rfl) (by simp) ?_
          refine AllReadyH.cons (o := { dst := some 18, op := Op.call { callee := Callee.value (Operand.func 38), args := #[Operand.tmp 16, Operand.tmp 17], argTypes := #[67, 23] }, type := 4, pos := "l12_groups.go:7", after := #[{ on := 3, ground := Ground.data }, { on := 4, ground := Ground.data }], guard := none }) rfl (fun K hK => ?_) AllReadyH.nil
          go_simp
          refine (HOK.out _ (Below.refl z.heap.size z).drew).mono ?_
          rintro r wyq2x5 ⟨rfl, hb1⟩
          have Z1 : Hid (Below z.heap.size z wyq2x5) := grow_on (Below.refl z.heap.size z).drew hb1
          clear hb1
          try rw [hg1]
          clear hHeld
          refine hK.out _ _ (HS.out _ Z1.out) (fun hHeld => ?_)
          clear hK K
          try simp only [Act.put, List.setIfInBounds_toArray, List.set_cons_zero, List.set_cons_succ]
          refine wpAnyH_take (i := 6) (oi := { dst := some 19, op := Op.unOp UnOp.not 4 (Operand.tmp 18), type := 4, pos := "l12_groups.go:7", after := #[{ on := 5, ground := Ground.data }], guard := none }) (v := ?vq2x6) rfl (by kernel_rfl) (by kernel_rfl) (by kernel_rfl) (fun _ _ _ h => h) (Or.inl ⟨by rfl, ?hyq2x6⟩) hHeld ?_
          case hyq2x6 => (intro w hSw; (try dsimp only at hSw); go_simp <;> with_reducible rfl)
          try simp only [Act.put, List.setIfInBounds_toArray, List.set_cons_zero, List.set_cons_succ]
          refine wpAnyH_take (i := 7) (oi := { dst := some 20, op := Op.move (Operand.tmp 19), type := 4, pos := "l12_groups.go:7", after := #[{ on := 6, ground := Ground.data }, { on := 5, ground := Ground.chain }], guard := none }) (v := ?vq2x7) rfl (by kernel_rfl) (by kernel_rfl) (by kernel_rfl) (fun _ _ _ h => h) (Or.inl ⟨by rfl, ?hyq2x7⟩) hHeld ?_
          case hyq2x7 => (intro w hSw; (try dsimp only at hSw); go_simp <;> with_reducible rfl)
          try simp only [Act.put, List.setIfInBounds_toArray, List.set_cons_zero, List.set_cons_succ]
          refine wpAnyH_take (i := 8) (oi := { dst := some 21, op := Op.move (Operand.tmp 5), type := 3, pos := "l12_groups.go:7", after := #[{ on := 7, ground := Ground.guard }], guard := some (7, false) }) (v := ?vq2x8) rfl (by kernel_rfl) (by kernel_rfl) (by kernel_rfl) (fun _ _ _ h => h) (Or.inl ⟨by rfl, ?hyq2x8⟩) hHeld ?_
          case hyq2x8 => (intro w hSw; (try dsimp only at hSw); go_simp <;> with_reducible rfl)
          try simp only [Act.put, List.setIfInBounds_toArray, List.set_cons_zero, List.set_cons_succ]
          refine wpAnyH_take (i := 9) (oi := { dst := some 22, op := Op.binOp BinOp.gtr 3 (Operand.tmp 21) (Operand.const (Value.int IntKind.i64 0)) 3, type := 4, pos := "l12_groups.go:7", after := #[{ on := 8, ground := Ground.data }, { on := 7, ground := Ground.guard }], guard := some (7, false) }) (v := ?vq2x9) rfl (by kernel_rfl) (by kernel_rfl) (by kernel_rfl) (fun _ _ _ h => h) (Or.inl ⟨by rfl, ?hyq2x9⟩) hHeld ?_
          case hyq2x9 => (intro w hSw; (try dsimp only at hSw); go_simp <;> with_reducible rfl)
          try simp only [Act.put, List.setIfInBounds_toArray, List.set_cons_zero, List.set_cons_succ]
          refine wpAnyH_take (i := 10) (oi := { dst := some 23, op := Op.move (Operand.tmp 22), type := 4, pos := "l12_groups.go:7", after := #[{ on := 9, ground := Ground.data }, { on := 7, ground := Ground.chain }, { on := 7, ground := Ground.guard }], guard := some (7, false) }) (v := ?vq2x10) rfl (by kernel_rfl) (by kernel_rfl) (by kernel_rfl) (fun _ _ _ h => h) (Or.inl ⟨by rfl, ?hyq2x10⟩) hHeld ?_
          case hyq2x10 => (intro w hSw; (try dsimp only at hSw); go_simp <;> with_reducible rfl)
          try simp only [Act.put, List.setIfInBounds_toArray, List.set_cons_zero, List.set_cons_succ]
          refine wpAnyH_take (i := 11) (oi := { dst := some 24, op := Op.move (Operand.tmp 0), type := 27, pos := "l12_groups.go:7", after := #[{ on := 10, ground := Ground.guard }], guard := some (10, true) }) (v := undef) rfl (by kernel_rfl) (by kernel_rfl) (by kernel_rfl) (fun _ _ _ h => h) (Or.inr ⟨by rfl, rfl⟩) hHeld ?_
          try simp only [Act.put, List.setIfInBounds_toArray, List.set_cons_zero, List.set_cons_succ]
          refine wpAnyH_take (i := 12) (oi := { dst := some 25, op := Op.move (Operand.tmp 5), type := 3, pos := "l12_groups.go:7", after := #[{ on := 10, ground := Ground.guard }], guard := some (10, true) }) (v := undef) rfl (by kernel_rfl) (by kernel_rfl) (by kernel_rfl) (fun _ _ _ h => h) (Or.inr ⟨by rfl, rfl⟩) hHeld ?_
          try simp only [Act.put, List.setIfInBounds_toArray, List.set_cons_zero, List.set_cons_succ]
          refine wpAnyH_take (i := 13) (oi := { dst := some 26, op := Op.binOp BinOp.sub 3 (Operand.tmp 25) (Operand.const (Value.int IntKind.i64 1)) 3, type := 3, pos := "l12_groups.go:7", after := #[{ on := 12, ground := Ground.data }, { on := 10, ground := Ground.guard }], guard := some (10, true) }) (v := undef) rfl (by kernel_rfl) (by kernel_rfl) (by kernel_rfl) (fun _ _ _ h => h) (Or.inr ⟨by rfl, rfl⟩) hHeld ?_
          try simp only [Act.put, List.setIfInBounds_toArray, List.set_cons_zero, List.set_cons_succ]
          refine wpAnyH_take (i := 14) (oi := { dst := some 27, op := Op.indexAddr 27 (Operand.tmp 24) (Operand.tmp 26), type := 0, pos := "l12_groups.go:7", after := #[{ on := 11, ground := Ground.data }, { on := 13, ground := Ground.data }, { on := 10, ground := Ground.guard }], guard := some (10, true) }) (v := undef) rfl (by kernel_rfl) (by kernel_rfl) (by kernel_rfl) (fun _ _ _ h => h) (Or.inr ⟨by rfl, rfl⟩) hHeld ?_
          try simp only [Act.put, List.setIfInBounds_toArray, List.set_cons_zero, List.set_cons_succ]
          refine wpAnyH_take (i := 15) (oi := { dst := some 28, op := Op.fieldAddr 67 (Operand.tmp 27) 0, type := 0, pos := "l12_groups.go:7", after := #[{ on := 14, ground := Ground.data }, { on := 10, ground := Ground.guard }], guard := some (10, true) }) (v := undef) rfl (by kernel_rfl) (by kernel_rfl) (by kernel_rfl) (fun _ _ _ h => h) (Or.inr ⟨by rfl, rfl⟩) hHeld ?_
          try simp only [Act.put, List.setIfInBounds_toArray, List.set_cons_zero, List.set_cons_succ]
          refine wpAnyH_take (i := 16) (oi := { dst := some 29, op := Op.load 3 (Operand.tmp 28), type := 3, pos := "l12_groups.go:7", after := #[{ on := 15, ground := Ground.data }, { on := 10, ground := Ground.guard }], guard := some (10, true) }) (v := undef) rfl (by kernel_rfl) (by kernel_rfl) (by kernel_rfl) (fun _ _ _ h => h) (Or.inr ⟨by rfl, rfl⟩) hHeld ?_
          try simp only [Act.put, List.setIfInBounds_toArray, List.set_cons_zero, List.set_cons_succ]
          refine wpAnyH_take (i := 17) (oi := { dst := some 30, op := Op.move (Operand.tmp 0), type := 27, pos := "l12_groups.go:7", after := #[{ on := 10, ground := Ground.guard }], guard := some (10, true) }) (v := undef) rfl (by kernel_rfl) (by kernel_rfl) (by kernel_rfl) (fun _ _ _ h => h) (Or.inr ⟨by rfl, rfl⟩) hHeld ?_
          try simp only [Act.put, List.setIfInBounds_toArray, List.set_cons_zero, List.set_cons_succ]
          refine wpAnyH_take (i := 18) (oi := { dst := some 31, op := Op.move (Operand.tmp 5), type := 3, pos := "l12_groups.go:7", after := #[{ on := 10, ground := Ground.guard }], guard := some (10, true) }) (v := undef) rfl (by kernel_rfl) (by kernel_rfl) (by kernel_rfl) (fun _ _ _ h => h) (Or.inr ⟨by rfl, rfl⟩) hHeld ?_
          try simp only [Act.put, List.setIfInBounds_toArray, List.set_cons_zero, List.set_cons_succ]
          refine wpAnyH_take (i := 19) (oi := { dst := some 32, op := Op.indexAddr 27 (Operand.tmp 30) (Operand.tmp 31), type := 0, pos := "l12_groups.go:7", after := #[{ on := 17, ground := Ground.data }, { on := 18, ground := Ground.data }, { on := 10, ground := Ground.guard }], guard := some (10, true) }) (v := undef) rfl (by kernel_rfl) (by kernel_rfl) (by kernel_rfl) (fun _ _ _ h => h) (Or.inr ⟨by rfl, rfl⟩) hHeld ?_
          try simp only [Act.put, List.setIfInBounds_toArray, List.set_cons_zero, List.set_cons_succ]
          refine wpAnyH_take (i := 20) (oi := { dst := some 33, op := Op.fieldAddr 67 (Operand.tmp 32) 0, type := 0, pos := "l12_groups.go:7", after := #[{ on := 19, ground := Ground.data }, { on := 10, ground := Ground.guard }], guard := some (10, true) }) (v := undef) rfl (by kernel_rfl) (by kernel_rfl) (by kernel_rfl) (fun _ _ _ h => h) (Or.inr ⟨by rfl, rfl⟩) hHeld ?_
          try simp only [Act.put, List.setIfInBounds_toArray, List.set_cons_zero, List.set_cons_succ]
          refine wpAnyH_take (i := 21) (oi := { dst := some 34, op := Op.load 3 (Operand.tmp 33), type := 3, pos := "l12_groups.go:7", after := #[{ on := 20, ground := Ground.data }, { on := 10, ground := Ground.guard }], guard := some (10, true) }) (v := undef) rfl (by kernel_rfl) (by kernel_rfl) (by kernel_rfl) (fun _ _ _ h => h) (Or.inr ⟨by rfl, rfl⟩) hHeld ?_
          try simp only [Act.put, List.setIfInBounds_toArray, List.set_cons_zero, List.set_cons_succ]
          refine wpAnyH_take (i := 22) (oi := { dst := some 35, op := Op.binOp BinOp.geq 3 (Operand.tmp 29) (Operand.tmp 34) 3, type := 4, pos := "l12_groups.go:7", after := #[{ on := 16, ground := Ground.data }, { on := 21, ground := Ground.data }, { on := 10, ground := Ground.guard }], guard := some (10, true) }) (v := undef) rfl (by kernel_rfl) (by kernel_rfl) (by kernel_rfl) (fun _ _ _ h => h) (Or.inr ⟨by rfl, rfl⟩) hHeld ?_
          try simp only [Act.put, List.setIfInBounds_toArray, List.set_cons_zero, List.set_cons_succ]
          refine wpAnyH_take (i := 23) (oi := { dst := some 36, op := Op.pick (Operand.tmp 23) (Operand.tmp 35) (Operand.const (Value.bool false)), type := 4, pos := "l12_groups.go:7", after := #[{ on := 10, ground := Ground.data }, { on := 22, ground := Ground.data }, { on := 7, ground := Ground.guard }], guard := some (7, false) }) (v := ?vq2x23) rfl (by kernel_rfl) (by kernel_rfl) (by kernel_rfl) (fun _ _ _ h => h) (Or.inl ⟨by rfl, ?hyq2x23⟩) hHeld ?_
          case hyq2x23 => (intro w hSw; (try dsimp only at hSw); go_simp <;> with_reducible rfl)
          try simp only [Act.put, List.setIfInBounds_toArray, List.set_cons_zero, List.set_cons_succ]
          refine wpAnyH_take (i := 24) (oi := { dst := some 37, op := Op.pick (Operand.tmp 20) (Operand.const (Value.bool true)) (Operand.tmp 36), type := 4, pos := "l12_groups.go:7", after := #[{ on := 7, ground := Ground.data }, { on := 23, ground := Ground.data }], guard := none }) (v := ?vq2x24) rfl (by kernel_rfl) (by kernel_rfl) (by kernel_rfl) (fun _ _ _ h => h) (Or.inl ⟨by rfl, ?hyq2x24⟩) hHeld ?_
          case hyq2x24 => (intro w hSw; (try dsimp only at hSw); go_simp <;> with_reducible rfl)
          try simp only [Act.put, List.setIfInBounds_toArray, List.set_cons_zero, List.set_cons_succ]
          refine wpAnyH_done (by kernel_rfl) ?_ _
          clear hHeld HS
          have HUP : Hid (upOk U k = true) := by unfold Hid upOk; rw [decide_eq_true K0.out]; rfl
          have HG1 : Hid (oneOk by' (nthG U k) = true) := hg1
          have HZ1 : Hid (Below z.heap.size z _) := Z1.out
          clear hg1 HOK HF HSP
          go_wp2
          go_loopw [6] (fun i w' => ∃ j : Nat, i = .int .i64 j ∧ j ≤ k ∧ (∀ q, q < j → (nthG U q).key ≠ (nthG U k).key) ∧ Below z.heap.size z w') (fun i _ => k - (intOf i).toNat)
          case atStart => exact ⟨0, rfl, Nat.zero_le _, fun q hq => by omega, HZ1.out⟩
          case round =>
            obtain ⟨j, rfl, hj, hq, hbj⟩ := hrel
            have HQ : Hid (∀ q, q < j → (nthG U q).key ≠ (nthG U k).key) := hq
            have HBJ : Hid (Below z.heap.size z wr) := hbj
            clear hq hbj
            by_cases hjk : j < k
            ·
              have hjk' : (j : Int) < (k : Int) := by omega
              have hjU : j < U.length := by omega
              have hjU' : (j : Int) < (U.length : Int) := by omega
              obtain ⟨ja, jc, jd, jp, hatj⟩ := HRR.out wr HBJ.out j hjU
              have hbr : b < wr.heap.size := Nat.lt_of_lt_of_le hbz HBJ.out.size
              have c1 := hatj.c1
              have d1 : wr.cell? ⟨b, off + k * 5 + 1, none⟩ = some (.slice ka (nthG U k).key.length kc) := (HBJ.out.cell (p := ⟨b, off + k * 5 + 1, none⟩) hbz).trans HA.out.c1
              have HSS : Hid (∀ y, Below wr.heap.size wr y → Calls Try.prog 39 #[.slice ja (nthG U j).key.length jc, .slice ka (nthG U k).key.length kc] y fun e w' => e = .returned (.bool (decide ((nthG U j).key = (nthG U k).key))) ∧ Below y.heap.size y w') := fun y hy => calls_drew (specSame_any ja ka jc kc (nthG U j).key (nthG U k).key y (hatj.reads.1.below hy) (HA.out.reads.1.below (grow_on HBJ.out hy)) (HR.out.2.1 _ (nthG_mem hjU)).klen (HR.out.2.1 _ (nthG_mem hlt)).klen)
              have HS9 : Hid (∀ w', Below wr.heap.size wr w' → w'.cell? ⟨b, off + j * 5 + 1, none⟩ = some (.slice ja (nthG U j).key.length jc) ∧ w'.cell? ⟨b, off + k * 5 + 1, none⟩ = some (.slice ka (nthG U k).key.length kc)) := fun w' h => ⟨(h.cell (p := ⟨b, off + j * 5 + 1, none⟩) hbr).trans c1, (h.cell (p := ⟨b, off + k * 5 + 1, none⟩) hbr).trans d1⟩
              clear hatj c1 d1
              cases hd : decide ((nthG U j).key = (nthG U k).key) with
              | true =>
                have HE : Hid (groupsB U by' = false) := groups_bad hlt (by unfold okG; rw [keyOk_bad hjk (of_decide_eq_true hd)]; simp)
                go_upto_region 9 with fail
                refine wp_region_held_drew (S := fun w' => w'.cell? ⟨b, off + j * 5 + 1, none⟩ = some (.slice ja (nthG U j).key.length jc) ∧ w'.cell? ⟨b, off + k * 5 + 1, none⟩ = some (.slice ka (nthG U k).key.length kc)) (by kernel_rfl) (HS9.out _ (Below.refl wr.heap.size wr).drew) (fun hHeld => ?_)
                refine wpAnyH_take (i := 0) (oi := { dst := some 43, op := Op.move (Operand.tmp 0), type := 27, pos := "l12_groups.go:11", after := #[], guard := none }) (v := ?vq3xa0) rfl (by kernel_rfl) (by kernel_rfl) (by kernel_rfl) (fun _ _ _ h => h) (Or.inl ⟨by rfl, ?hyq3xa0⟩) hHeld ?_
                case hyq3xa0 => (intro w hSw; (try dsimp only at hSw); go_simp <;> with_reducible rfl)
                try simp only [Act.put, List.setIfInBounds_toArray, List.set_cons_zero, List.set_cons_succ]
                refine wpAnyH_take (i := 1) (oi := { dst := some 44, op := Op.move (Operand.tmp 6), type := 3, pos := "l12_groups.go:11", after := #[], guard := none }) (v := ?vq3xa1) rfl (by kernel_rfl) (by kernel_rfl) (by kernel_rfl) (fun _ _ _ h => h) (Or.inl ⟨by rfl, ?hyq3xa1⟩) hHeld ?_
                case hyq3xa1 => (intro w hSw; (try dsimp only at hSw); go_simp <;> with_reducible rfl)
                try simp only [Act.put, List.setIfInBounds_toArray, List.set_cons_zero, List.set_cons_succ]
                refine wpAnyH_take (i := 2) (oi := { dst := some 45, op := Op.indexAddr 27 (Operand.tmp 43) (Operand.tmp 44), type := 0, pos := "l12_groups.go:11", after := #[{ on := 0, ground := Ground.data }, { on := 1, ground := Ground.data }], guard := none }) (v := ?vq3xa2) rfl (by kernel_rfl) (by kernel_rfl) (by kernel_rfl) (fun _ _ _ h => h) (Or.inl ⟨by rfl, ?hyq3xa2⟩) hHeld ?_
                case hyq3xa2 => (intro w hSw; (try dsimp only at hSw); go_simp <;> with_reducible rfl)
                try simp only [Act.put, List.setIfInBounds_toArray, List.set_cons_zero, List.set_cons_succ]
                refine wpAnyH_take (i := 3) (oi := { dst := some 46, op := Op.fieldAddr 67 (Operand.tmp 45) 1, type := 0, pos := "l12_groups.go:11", after := #[{ on := 2, ground := Ground.data }], guard := none }) (v := ?vq3xa3) rfl (by kernel_rfl) (by kernel_rfl) (by kernel_rfl) (fun _ _ _ h => h) (Or.inl ⟨by rfl, ?hyq3xa3⟩) hHeld ?_
                case hyq3xa3 => (intro w hSw; (try dsimp only at hSw); go_simp <;> with_reducible rfl)
                try simp only [Act.put, List.setIfInBounds_toArray, List.set_cons_zero, List.set_cons_succ]
                refine wpAnyH_take (i := 4) (oi := { dst := some 47, op := Op.load 36 (Operand.tmp 46), type := 36, pos := "l12_groups.go:11", after := #[{ on := 3, ground := Ground.data }], guard := none }) (v := ?vq3xa4) rfl (by kernel_rfl) (by kernel_rfl) (by kernel_rfl) (fun _ _ _ h => h) (Or.inl ⟨by rfl, ?hyq3xa4⟩) hHeld ?_
                case hyq3xa4 => (intro w hSw; (try dsimp only at hSw); go_simp <;> with_reducible rfl)
                try simp only [Act.put, List.setIfInBounds_toArray, List.set_cons_zero, List.set_cons_succ]
                refine wpAnyH_take (i := 5) (oi := { dst := some 48, op := Op.move (Operand.tmp 0), type := 27, pos := "l12_groups.go:11", after := #[], guard := none }) (v := ?vq3xa5) rfl (by kernel_rfl) (by kernel_rfl) (by kernel_rfl) (fun _ _ _ h => h) (Or.inl ⟨by rfl, ?hyq3xa5⟩) hHeld ?_
                case hyq3xa5 => (intro w hSw; (try dsimp only at hSw); go_simp <;> with_reducible rfl)
                try simp only [Act.put, List.setIfInBounds_toArray, List.set_cons_zero, List.set_cons_succ]
                refine wpAnyH_take (i := 6) (oi := { dst := some 49, op := Op.move (Operand.tmp 5), type := 3, pos := "l12_groups.go:11", after := #[], guard := none }) (v := ?vq3xa6) rfl (by kernel_rfl) (by kernel_rfl) (by kernel_rfl) (fun _ _ _ h => h) (Or.inl ⟨by rfl, ?hyq3xa6⟩) hHeld ?_
                case hyq3xa6 => (intro w hSw; (try dsimp only at hSw); go_simp <;> with_reducible rfl)
                try simp only [Act.put, List.setIfInBounds_toArray, List.set_cons_zero, List.set_cons_succ]
                refine wpAnyH_take (i := 7) (oi := { dst := some 50, op := Op.indexAddr 27 (Operand.tmp 48) (Operand.tmp 49), type := 0, pos := "l12_groups.go:11", after := #[{ on := 5, ground := Ground.data }, { on := 6, ground := Ground.data }], guard := none }) (v := ?vq3xa7) rfl (by kernel_rfl) (by kernel_rfl) (by kernel_rfl) (fun _ _ _ h => h) (Or.inl ⟨by rfl, ?hyq3xa7⟩) hHeld ?_
                case hyq3xa7 => (intro w hSw; (try dsimp only at hSw); go_simp <;> with_reducible rfl)
                try simp only [Act.put, List.setIfInBounds_toArray, List.set_cons_zero, List.set_cons_succ]
                refine wpAnyH_take (i := 8) (oi := { dst := some 51, op := Op.fieldAddr 67 (Operand.tmp 50) 1, type := 0, pos := "l12_groups.go:11", after := #[{ on := 7, ground := Ground.data }], guard := none }) (v := ?vq3xa8) rfl (by kernel_rfl) (by kernel_rfl) (by kernel_rfl) (fun _ _ _ h => h) (Or.inl ⟨by rfl, ?hyq3xa8⟩) hHeld ?_
                case hyq3xa8 => (intro w hSw; (try dsimp only at hSw); go_simp <;> with_reducible rfl)
                try simp only [Act.put, List.setIfInBounds_toArray, List.set_cons_zero, List.set_cons_succ]
                refine wpAnyH_take (i := 9) (oi := { dst := some 52, op := Op.load 36 (Operand.tmp 51), type := 36, pos := "l12_groups.go:11", after := #[{ on := 8, ground := Ground.data }], guard := none }) (v := ?vq3xa9) rfl (by kernel_rfl) (by kernel_rfl) (by kernel_rfl) (fun _ _ _ h => h) (Or.inl ⟨by rfl, ?hyq3xa9⟩) hHeld ?_
                case hyq3xa9 => (intro w hSw; (try dsimp only at hSw); go_simp <;> with_reducible rfl)
                try simp only [Act.put, List.setIfInBounds_toArray, List.set_cons_zero, List.set_cons_succ]
                refine wpAnyH_ready (rs := [10]) (by kernel_rfl) (by simp) ?_
                refine AllReadyH.cons (o := { dst := some 53, op := Op.call { callee := Callee.value (Operand.func 39), args := #[Operand.tmp 47, Operand.tmp 52], argTypes := #[36, 36] }, type := 4, pos := "l12_groups.go:11", after := #[{ on := 4, ground := Ground.data }, { on := 9, ground := Ground.data }], guard := none }) rfl (fun K hK => ?_) AllReadyH.nil
                go_simp
                refine (HSS.out _ (Below.refl wr.heap.size wr).drew).mono ?_
                rintro r wyq3xa10 ⟨rfl, hb2⟩
                have Z2 : Hid (Below wr.heap.size wr wyq3xa10) := grow_on (Below.refl wr.heap.size wr).drew hb2
                clear hb2
                try rw [hd]
                clear hHeld
                refine hK.out _ _ (HS9.out _ Z2.out) (fun hHeld => ?_)
                clear hK K
                try simp only [Act.put, List.setIfInBounds_toArray, List.set_cons_zero, List.set_cons_succ]
                refine wpAnyH_done (by kernel_rfl) ?_ _
                clear hHeld HS9 HSS
                go_wp2
                go_ret
                exact ⟨retB HE.out.symm, grow_on HB.out (grow_on HBJ.out Z2.out)⟩
              | false =>
                have HQ1 : Hid (∀ q, q < j + 1 → (nthG U q).key ≠ (nthG U k).key) := fun q hq => by
                  by_cases e : q = j
                  · rw [e]; exact of_decide_eq_false hd
                  · exact HQ.out q (by omega)
                go_upto_region 9 with fail
                refine wp_region_held_drew (S := fun w' => w'.cell? ⟨b, off + j * 5 + 1, none⟩ = some (.slice ja (nthG U j).key.length jc) ∧ w'.cell? ⟨b, off + k * 5 + 1, none⟩ = some (.slice ka (nthG U k).key.length kc)) (by kernel_rfl) (HS9.out _ (Below.refl wr.heap.size wr).drew) (fun hHeld => ?_)
                refine wpAnyH_take (i := 0) (oi := { dst := some 43, op := Op.move (Operand.tmp 0), type := 27, pos := "l12_groups.go:11", after := #[], guard := none }) (v := ?vq3xb0) rfl (by kernel_rfl) (by kernel_rfl) (by kernel_rfl) (fun _ _ _ h => h) (Or.inl ⟨by rfl, ?hyq3xb0⟩) hHeld ?_
                case hyq3xb0 => (intro w hSw; (try dsimp only at hSw); go_simp <;> with_reducible rfl)
                try simp only [Act.put, List.setIfInBounds_toArray, List.set_cons_zero, List.set_cons_succ]
                refine wpAnyH_take (i := 1) (oi := { dst := some 44, op := Op.move (Operand.tmp 6), type := 3, pos := "l12_groups.go:11", after := #[], guard := none }) (v := ?vq3xb1) rfl (by kernel_rfl) (by kernel_rfl) (by kernel_rfl) (fun _ _ _ h => h) (Or.inl ⟨by rfl, ?hyq3xb1⟩) hHeld ?_
                case hyq3xb1 => (intro w hSw; (try dsimp only at hSw); go_simp <;> with_reducible rfl)
                try simp only [Act.put, List.setIfInBounds_toArray, List.set_cons_zero, List.set_cons_succ]
                refine wpAnyH_take (i := 2) (oi := { dst := some 45, op := Op.indexAddr 27 (Operand.tmp 43) (Operand.tmp 44), type := 0, pos := "l12_groups.go:11", after := #[{ on := 0, ground := Ground.data }, { on := 1, ground := Ground.data }], guard := none }) (v := ?vq3xb2) rfl (by kernel_rfl) (by kernel_rfl) (by kernel_rfl) (fun _ _ _ h => h) (Or.inl ⟨by rfl, ?hyq3xb2⟩) hHeld ?_
                case hyq3xb2 => (intro w hSw; (try dsimp only at hSw); go_simp <;> with_reducible rfl)
                try simp only [Act.put, List.setIfInBounds_toArray, List.set_cons_zero, List.set_cons_succ]
                refine wpAnyH_take (i := 3) (oi := { dst := some 46, op := Op.fieldAddr 67 (Operand.tmp 45) 1, type := 0, pos := "l12_groups.go:11", after := #[{ on := 2, ground := Ground.data }], guard := none }) (v := ?vq3xb3) rfl (by kernel_rfl) (by kernel_rfl) (by kernel_rfl) (fun _ _ _ h => h) (Or.inl ⟨by rfl, ?hyq3xb3⟩) hHeld ?_
                case hyq3xb3 => (intro w hSw; (try dsimp only at hSw); go_simp <;> with_reducible rfl)
                try simp only [Act.put, List.setIfInBounds_toArray, List.set_cons_zero, List.set_cons_succ]
                refine wpAnyH_take (i := 4) (oi := { dst := some 47, op := Op.load 36 (Operand.tmp 46), type := 36, pos := "l12_groups.go:11", after := #[{ on := 3, ground := Ground.data }], guard := none }) (v := ?vq3xb4) rfl (by kernel_rfl) (by kernel_rfl) (by kernel_rfl) (fun _ _ _ h => h) (Or.inl ⟨by rfl, ?hyq3xb4⟩) hHeld ?_
                case hyq3xb4 => (intro w hSw; (try dsimp only at hSw); go_simp <;> with_reducible rfl)
                try simp only [Act.put, List.setIfInBounds_toArray, List.set_cons_zero, List.set_cons_succ]
                refine wpAnyH_take (i := 5) (oi := { dst := some 48, op := Op.move (Operand.tmp 0), type := 27, pos := "l12_groups.go:11", after := #[], guard := none }) (v := ?vq3xb5) rfl (by kernel_rfl) (by kernel_rfl) (by kernel_rfl) (fun _ _ _ h => h) (Or.inl ⟨by rfl, ?hyq3xb5⟩) hHeld ?_
                case hyq3xb5 => (intro w hSw; (try dsimp only at hSw); go_simp <;> with_reducible rfl)
                try simp only [Act.put, List.setIfInBounds_toArray, List.set_cons_zero, List.set_cons_succ]
                refine wpAnyH_take (i := 6) (oi := { dst := some 49, op := Op.move (Operand.tmp 5), type := 3, pos := "l12_groups.go:11", after := #[], guard := none }) (v := ?vq3xb6) rfl (by kernel_rfl) (by kernel_rfl) (by kernel_rfl) (fun _ _ _ h => h) (Or.inl ⟨by rfl, ?hyq3xb6⟩) hHeld ?_
                case hyq3xb6 => (intro w hSw; (try dsimp only at hSw); go_simp <;> with_reducible rfl)
                try simp only [Act.put, List.setIfInBounds_toArray, List.set_cons_zero, List.set_cons_succ]
                refine wpAnyH_take (i := 7) (oi := { dst := some 50, op := Op.indexAddr 27 (Operand.tmp 48) (Operand.tmp 49), type := 0, pos := "l12_groups.go:11", after := #[{ on := 5, ground := Ground.data }, { on := 6, ground := Ground.data }], guard := none }) (v := ?vq3xb7) rfl (by kernel_rfl) (by kernel_rfl) (by kernel_rfl) (fun _ _ _ h => h) (Or.inl ⟨by rfl, ?hyq3xb7⟩) hHeld ?_
                case hyq3xb7 => (intro w hSw; (try dsimp only at hSw); go_simp <;> with_reducible rfl)
                try simp only [Act.put, List.setIfInBounds_toArray, List.set_cons_zero, List.set_cons_succ]
                refine wpAnyH_take (i := 8) (oi := { dst := some 51, op := Op.fieldAddr 67 (Operand.tmp 50) 1, type := 0, pos := "l12_groups.go:11", after := #[{ on := 7, ground := Ground.data }], guard := none }) (v := ?vq3xb8) rfl (by kernel_rfl) (by kernel_rfl) (by kernel_rfl) (fun _ _ _ h => h) (Or.inl ⟨by rfl, ?hyq3xb8⟩) hHeld ?_
                case hyq3xb8 => (intro w hSw; (try dsimp only at hSw); go_simp <;> with_reducible rfl)
                try simp only [Act.put, List.setIfInBounds_toArray, List.set_cons_zero, List.set_cons_succ]
                refine wpAnyH_take (i := 9) (oi := { dst := some 52, op := Op.load 36 (Operand.tmp 51), type := 36, pos := "l12_groups.go:11", after := #[{ on := 8, ground := Ground.data }], guard := none }) (v := ?vq3xb9) rfl (by kernel_rfl) (by kernel_rfl) (by kernel_rfl) (fun _ _ _ h => h) (Or.inl ⟨by rfl, ?hyq3xb9⟩) hHeld ?_
                case hyq3xb9 => (intro w hSw; (try dsimp only at hSw); go_simp <;> with_reducible rfl)
                try simp only [Act.put, List.setIfInBounds_toArray, List.set_cons_zero, List.set_cons_succ]
                refine wpAnyH_ready (rs := [10]) (by kernel_rfl) (by simp) ?_
                refine AllReadyH.cons (o := { dst := some 53, op := Op.call { callee := Callee.value (Operand.func 39), args := #[Operand.tmp 47, Operand.tmp 52], argTypes := #[36, 36] }, type := 4, pos := "l12_groups.go:11", after := #[{ on := 4, ground := Ground.data }, { on := 9, ground := Ground.data }], guard := none }) rfl (fun K hK => ?_) AllReadyH.nil
                go_simp
                refine (HSS.out _ (Below.refl wr.heap.size wr).drew).mono ?_
                rintro r wyq3xb10 ⟨rfl, hb2⟩
                have Z2 : Hid (Below wr.heap.size wr wyq3xb10) := grow_on (Below.refl wr.heap.size wr).drew hb2
                clear hb2
                try rw [hd]
                clear hHeld
                refine hK.out _ _ (HS9.out _ Z2.out) (fun hHeld => ?_)
                clear hK K
                try simp only [Act.put, List.setIfInBounds_toArray, List.set_cons_zero, List.set_cons_succ]
                refine wpAnyH_done (by kernel_rfl) ?_ _
                clear hHeld HS9 HSS
                go_wp2
                go_roundw
                case rel => exact ⟨j + 1, by go_num, by omega, HQ1.out, grow_on HBJ.out Z2.out⟩
                case measure => simp [intOf]; omega
            · have hje : ¬ (j : Int) < (k : Int) := by omega
              have HU1 : Hid (∀ i, i < k + 1 → okG U by' i = true) := fun i hi => by
                by_cases e : i = k
                · rw [e]; unfold okG; rw [HG1.out, HUP.out, keyOk_good (fun q hq => HQ.out q (by omega))]; rfl
                · exact HU.out i (by omega)
              go_wp2
              go_roundw
              case rel => exact ⟨k + 1, by go_num, by omega, HU1.out, grow_on HB.out HBJ.out⟩
              case measure => simp [intOf]; omega
        · have hk0 : (0 : Int) < (k : Int) := by omega
          have bk : decide (0 < k) = true := decide_eq_true (by omega)
          obtain ⟨m, hm⟩ : ∃ m, k = m + 1 := ⟨k - 1, by omega⟩
          have em : (k : Int) - 1 = (m : Int) := by omega
          have hml : m < U.length := by omega
          have hml' : (m : Int) < (U.length : Int) := by omega
          have hwm : IntKind.i64.wrap (m : Int) = (m : Int) := by rw [IntKind.wrap_i64]; omega
          have hmk : k - 1 = m := by omega
          obtain ⟨_, _, _, _, hatm⟩ := HRR.out z (Below.refl _ _) m hml
          have hmc := hatm.c0
          clear hatm hm
          by_cases hup : (nthG U m).n < (nthG U k).n
          ·
            have hge : decide ((nthG U m).n ≥ (nthG U k).n) = false := decide_eq_false (by omega)
            have hge2 : decide ((nthG U k).n ≤ (nthG U m).n) = false := decide_eq_false (by omega)
            have hng : ¬ (nthG U k).n ≤ (nthG U m).n := by omega
            have HU0 : Hid (upOk U k = true) := by unfold Hid upOk; rw [hmk, decide_eq_true hup]; simp
            clear hmk k0 hup
            go_upto_region 4 with fail
            have HS : Hid (∀ w', Below z.heap.size z w' → w'.cell? ⟨b, off + k * 5, none⟩ = some (.int .i64 (nthG U k).n) ∧ w'.cell? ⟨b, off + k * 5 + 1, none⟩ = some (.slice ka (nthG U k).key.length kc) ∧ w'.cell? ⟨b, off + k * 5 + 2, none⟩ = some (.int .i64 (nthG U k).b) ∧ w'.cell? ⟨b, off + k * 5 + 3, none⟩ = some (.int .i64 (nthG U k).t) ∧ w'.cell? ⟨b, off + k * 5 + 4, none⟩ = some (.slice ad (nthG U k).P.length cp) ∧ w'.cell? ⟨b, off + m * 5, none⟩ = some (.int .i64 (nthG U m).n)) := fun w' h => ⟨(h.cell (p := ⟨b, off + k * 5, none⟩) hbz).trans HA.out.c0, (h.cell (p := ⟨b, off + k * 5 + 1, none⟩) hbz).trans HA.out.c1, (h.cell (p := ⟨b, off + k * 5 + 2, none⟩) hbz).trans HA.out.c2, (h.cell (p := ⟨b, off + k * 5 + 3, none⟩) hbz).trans HA.out.c3, (h.cell (p := ⟨b, off + k * 5 + 4, none⟩) hbz).trans HA.out.c4, (h.cell (p := ⟨b, off + m * 5, none⟩) hbz).trans hmc⟩
            refine wp_region_held_drew (S := fun w' => w'.cell? ⟨b, off + k * 5, none⟩ = some (.int .i64 (nthG U k).n) ∧ w'.cell? ⟨b, off + k * 5 + 1, none⟩ = some (.slice ka (nthG U k).key.length kc) ∧ w'.cell? ⟨b, off + k * 5 + 2, none⟩ = some (.int .i64 (nthG U k).b) ∧ w'.cell? ⟨b, off + k * 5 + 3, none⟩ = some (.int .i64 (nthG U k).t) ∧ w'.cell? ⟨b, off + k * 5 + 4, none⟩ = some (.slice ad (nthG U k).P.length cp) ∧ w'.cell? ⟨b, off + m * 5, none⟩ = some (.int .i64 (nthG U m).n)) (by kernel_rfl) (HS.out _ (Below.refl z.heap.size z).drew) (fun hHeld => ?_)
            refine wpAnyH_take (i := 0) (oi := { dst := some 13, op := Op.move (Operand.tmp 0), type := 27, pos := "l12_groups.go:7", after := #[], guard := none }) (v := ?vq4x0) rfl (by kernel_rfl) (by kernel_rfl) (by kernel_rfl) (fun _ _ _ h => h) (Or.inl ⟨by rfl, ?hyq4x0⟩) hHeld ?_
            case hyq4x0 => (intro w hSw; (try dsimp only at hSw); go_simp <;> with_reducible rfl)
            try simp only [Act.put, List.setIfInBounds_toArray, List.set_cons_zero, List.set_cons_succ]
            refine wpAnyH_take (i := 1) (oi := { dst := some 14, op := Op.move (Operand.tmp 5), type := 3, pos := "l12_groups.go:7", after := #[], guard := none }) (v := ?vq4x1) rfl (by kernel_rfl) (by kernel_rfl) (by kernel_rfl) (fun _ _ _ h => h) (Or.inl ⟨by rfl, ?hyq4x1⟩) hHeld ?_
            case hyq4x1 => (intro w hSw; (try dsimp only at hSw); go_simp <;> with_reducible rfl)
            try simp only [Act.put, List.setIfInBounds_toArray, List.set_cons_zero, List.set_cons_succ]
            refine wpAnyH_take (i := 2) (oi := { dst := some 15, op := Op.indexAddr 27 (Operand.tmp 13) (Operand.tmp 14), type := 0, pos := "l12_groups.go:7", after := #[{ on := 0, ground := Ground.data }, { on := 1, ground := Ground.data }], guard := none }) (v := ?vq4x2) rfl (by kernel_rfl) (by kernel_rfl) (by kernel_rfl) (fun _ _ _ h => h) (Or.inl ⟨by rfl, ?hyq4x2⟩) hHeld ?_
            case hyq4x2 => (intro w hSw; (try dsimp only at hSw); go_simp <;> with_reducible rfl)
            try simp only [Act.put, List.setIfInBounds_toArray, List.set_cons_zero, List.set_cons_succ]
            refine wpAnyH_take (i := 3) (oi := { dst := some 16, op := Op.load 67 (Operand.tmp 15), type := 67, pos := "l12_groups.go:7", after := #[{ on := 2, ground := Ground.data }], guard := none }) (v := ?vq4x3) rfl (by kernel_rfl) (by kernel_rfl) (by kernel_rfl) (fun _ _ _ h => h) (Or.inl ⟨by rfl, ?hyq4x3⟩) hHeld ?_
            case hyq4x3 => (intro w hSw; (try dsimp only at hSw); go_simp <;> with_reducible rfl)
            try simp only [Act.put, List.setIfInBounds_toArray, List.set_cons_zero, List.set_cons_succ]
            refine wpAnyH_take (i := 4) (oi := { dst := some 17, op := Op.move (Operand.tmp 1), type := 23, pos := "l12_groups.go:7", after := #[], guard := none }) (v := ?vq4x4) rfl (by kernel_rfl) (by kernel_rfl) (by kernel_rfl) (fun _ _ _ h => h) (Or.inl ⟨by rfl, ?hyq4x4⟩) hHeld ?_
            case hyq4x4 => (intro w hSw; (try dsimp only at hSw); go_simp <;> with_reducible rfl)
            try simp only [Act.put, List.setIfInBounds_toArray, List.set_cons_zero, List.set_cons_succ]
            refine wpAnyH_ready (rs := [5]) (by kernel_rfl) (by simp) ?_
            refine AllReadyH.cons (o := { dst := some 18, op := Op.call { callee := Callee.value (Operand.func 38), args := #[Operand.tmp 16, Operand.tmp 17], argTypes := #[67, 23] }, type := 4, pos := "l12_groups.go:7", after := #[{ on := 3, ground := Ground.data }, { on := 4, ground := Ground.data }], guard := none }) rfl (fun K hK => ?_) AllReadyH.nil
            go_simp
            refine (HOK.out _ (Below.refl z.heap.size z).drew).mono ?_
            rintro r wyq4x5 ⟨rfl, hb1⟩
            have Z1 : Hid (Below z.heap.size z wyq4x5) := grow_on (Below.refl z.heap.size z).drew hb1
            clear hb1
            try rw [hg1]
            clear hHeld
            refine hK.out _ _ (HS.out _ Z1.out) (fun hHeld => ?_)
            clear hK K
            try simp only [Act.put, List.setIfInBounds_toArray, List.set_cons_zero, List.set_cons_succ]
            refine wpAnyH_take (i := 6) (oi := { dst := some 19, op := Op.unOp UnOp.not 4 (Operand.tmp 18), type := 4, pos := "l12_groups.go:7", after := #[{ on := 5, ground := Ground.data }], guard := none }) (v := ?vq4x6) rfl (by kernel_rfl) (by kernel_rfl) (by kernel_rfl) (fun _ _ _ h => h) (Or.inl ⟨by rfl, ?hyq4x6⟩) hHeld ?_
            case hyq4x6 => (intro w hSw; (try dsimp only at hSw); go_simp <;> with_reducible rfl)
            try simp only [Act.put, List.setIfInBounds_toArray, List.set_cons_zero, List.set_cons_succ]
            refine wpAnyH_take (i := 7) (oi := { dst := some 20, op := Op.move (Operand.tmp 19), type := 4, pos := "l12_groups.go:7", after := #[{ on := 6, ground := Ground.data }, { on := 5, ground := Ground.chain }], guard := none }) (v := ?vq4x7) rfl (by kernel_rfl) (by kernel_rfl) (by kernel_rfl) (fun _ _ _ h => h) (Or.inl ⟨by rfl, ?hyq4x7⟩) hHeld ?_
            case hyq4x7 => (intro w hSw; (try dsimp only at hSw); go_simp <;> with_reducible rfl)
            try simp only [Act.put, List.setIfInBounds_toArray, List.set_cons_zero, List.set_cons_succ]
            refine wpAnyH_take (i := 8) (oi := { dst := some 21, op := Op.move (Operand.tmp 5), type := 3, pos := "l12_groups.go:7", after := #[{ on := 7, ground := Ground.guard }], guard := some (7, false) }) (v := ?vq4x8) rfl (by kernel_rfl) (by kernel_rfl) (by kernel_rfl) (fun _ _ _ h => h) (Or.inl ⟨by rfl, ?hyq4x8⟩) hHeld ?_
            case hyq4x8 => (intro w hSw; (try dsimp only at hSw); go_simp <;> with_reducible rfl)
            try simp only [Act.put, List.setIfInBounds_toArray, List.set_cons_zero, List.set_cons_succ]
            refine wpAnyH_take (i := 9) (oi := { dst := some 22, op := Op.binOp BinOp.gtr 3 (Operand.tmp 21) (Operand.const (Value.int IntKind.i64 0)) 3, type := 4, pos := "l12_groups.go:7", after := #[{ on := 8, ground := Ground.data }, { on := 7, ground := Ground.guard }], guard := some (7, false) }) (v := ?vq4x9) rfl (by kernel_rfl) (by kernel_rfl) (by kernel_rfl) (fun _ _ _ h => h) (Or.inl ⟨by rfl, ?hyq4x9⟩) hHeld ?_
            case hyq4x9 => (intro w hSw; (try dsimp only at hSw); go_simp <;> with_reducible rfl)
            try simp only [Act.put, List.setIfInBounds_toArray, List.set_cons_zero, List.set_cons_succ]
            refine wpAnyH_take (i := 10) (oi := { dst := some 23, op := Op.move (Operand.tmp 22), type := 4, pos := "l12_groups.go:7", after := #[{ on := 9, ground := Ground.data }, { on := 7, ground := Ground.chain }, { on := 7, ground := Ground.guard }], guard := some (7, false) }) (v := ?vq4x10) rfl (by kernel_rfl) (by kernel_rfl) (by kernel_rfl) (fun _ _ _ h => h) (Or.inl ⟨by rfl, ?hyq4x10⟩) hHeld ?_
            case hyq4x10 => (intro w hSw; (try dsimp only at hSw); go_simp <;> with_reducible rfl)
            try simp only [Act.put, List.setIfInBounds_toArray, List.set_cons_zero, List.set_cons_succ]
            refine wpAnyH_take (i := 11) (oi := { dst := some 24, op := Op.move (Operand.tmp 0), type := 27, pos := "l12_groups.go:7", after := #[{ on := 10, ground := Ground.guard }], guard := some (10, true) }) (v := ?vq4x11) rfl (by kernel_rfl) (by kernel_rfl) (by kernel_rfl) (fun _ _ _ h => h) (Or.inl ⟨by rfl, ?hyq4x11⟩) hHeld ?_
            case hyq4x11 => (intro w hSw; (try dsimp only at hSw); go_simp <;> with_reducible rfl)
            try simp only [Act.put, List.setIfInBounds_toArray, List.set_cons_zero, List.set_cons_succ]
            refine wpAnyH_take (i := 12) (oi := { dst := some 25, op := Op.move (Operand.tmp 5), type := 3, pos := "l12_groups.go:7", after := #[{ on := 10, ground := Ground.guard }], guard := some (10, true) }) (v := ?vq4x12) rfl (by kernel_rfl) (by kernel_rfl) (by kernel_rfl) (fun _ _ _ h => h) (Or.inl ⟨by rfl, ?hyq4x12⟩) hHeld ?_
            case hyq4x12 => (intro w hSw; (try dsimp only at hSw); go_simp <;> with_reducible rfl)
            try simp only [Act.put, List.setIfInBounds_toArray, List.set_cons_zero, List.set_cons_succ]
            refine wpAnyH_take (i := 13) (oi := { dst := some 26, op := Op.binOp BinOp.sub 3 (Operand.tmp 25) (Operand.const (Value.int IntKind.i64 1)) 3, type := 3, pos := "l12_groups.go:7", after := #[{ on := 12, ground := Ground.data }, { on := 10, ground := Ground.guard }], guard := some (10, true) }) (v := ?vq4x13) rfl (by kernel_rfl) (by kernel_rfl) (by kernel_rfl) (fun _ _ _ h => h) (Or.inl ⟨by rfl, ?hyq4x13⟩) hHeld ?_
            case hyq4x13 => (intro w hSw; (try dsimp only at hSw); go_simp <;> with_reducible rfl)
            try simp only [Act.put, List.setIfInBounds_toArray, List.set_cons_zero, List.set_cons_succ]
            refine wpAnyH_take (i := 14) (oi := { dst := some 27, op := Op.indexAddr 27 (Operand.tmp 24) (Operand.tmp 26), type := 0, pos := "l12_groups.go:7", after := #[{ on := 11, ground := Ground.data }, { on := 13, ground := Ground.data }, { on := 10, ground := Ground.guard }], guard := some (10, true) }) (v := ?vq4x14) rfl (by kernel_rfl) (by kernel_rfl) (by kernel_rfl) (fun _ _ _ h => h) (Or.inl ⟨by rfl, ?hyq4x14⟩) hHeld ?_
            case hyq4x14 => (intro w hSw; (try dsimp only at hSw); go_simp <;> with_reducible rfl)
            try simp only [Act.put, List.setIfInBounds_toArray, List.set_cons_zero, List.set_cons_succ]
            refine wpAnyH_take (i := 15) (oi := { dst := some 28, op := Op.fieldAddr 67 (Operand.tmp 27) 0, type := 0, pos := "l12_groups.go:7", after := #[{ on := 14, ground := Ground.data }, { on := 10, ground := Ground.guard }], guard := some (10, true) }) (v := ?vq4x15) rfl (by kernel_rfl) (by kernel_rfl) (by kernel_rfl) (fun _ _ _ h => h) (Or.inl ⟨by rfl, ?hyq4x15⟩) hHeld ?_
            case hyq4x15 => (intro w hSw; (try dsimp only at hSw); go_simp <;> with_reducible rfl)
            try simp only [Act.put, List.setIfInBounds_toArray, List.set_cons_zero, List.set_cons_succ]
            refine wpAnyH_take (i := 16) (oi := { dst := some 29, op := Op.load 3 (Operand.tmp 28), type := 3, pos := "l12_groups.go:7", after := #[{ on := 15, ground := Ground.data }, { on := 10, ground := Ground.guard }], guard := some (10, true) }) (v := ?vq4x16) rfl (by kernel_rfl) (by kernel_rfl) (by kernel_rfl) (fun _ _ _ h => h) (Or.inl ⟨by rfl, ?hyq4x16⟩) hHeld ?_
            case hyq4x16 => (intro w hSw; (try dsimp only at hSw); go_simp <;> with_reducible rfl)
            try simp only [Act.put, List.setIfInBounds_toArray, List.set_cons_zero, List.set_cons_succ]
            refine wpAnyH_take (i := 17) (oi := { dst := some 30, op := Op.move (Operand.tmp 0), type := 27, pos := "l12_groups.go:7", after := #[{ on := 10, ground := Ground.guard }], guard := some (10, true) }) (v := ?vq4x17) rfl (by kernel_rfl) (by kernel_rfl) (by kernel_rfl) (fun _ _ _ h => h) (Or.inl ⟨by rfl, ?hyq4x17⟩) hHeld ?_
            case hyq4x17 => (intro w hSw; (try dsimp only at hSw); go_simp <;> with_reducible rfl)
            try simp only [Act.put, List.setIfInBounds_toArray, List.set_cons_zero, List.set_cons_succ]
            refine wpAnyH_take (i := 18) (oi := { dst := some 31, op := Op.move (Operand.tmp 5), type := 3, pos := "l12_groups.go:7", after := #[{ on := 10, ground := Ground.guard }], guard := some (10, true) }) (v := ?vq4x18) rfl (by kernel_rfl) (by kernel_rfl) (by kernel_rfl) (fun _ _ _ h => h) (Or.inl ⟨by rfl, ?hyq4x18⟩) hHeld ?_
            case hyq4x18 => (intro w hSw; (try dsimp only at hSw); go_simp <;> with_reducible rfl)
            try simp only [Act.put, List.setIfInBounds_toArray, List.set_cons_zero, List.set_cons_succ]
            refine wpAnyH_take (i := 19) (oi := { dst := some 32, op := Op.indexAddr 27 (Operand.tmp 30) (Operand.tmp 31), type := 0, pos := "l12_groups.go:7", after := #[{ on := 17, ground := Ground.data }, { on := 18, ground := Ground.data }, { on := 10, ground := Ground.guard }], guard := some (10, true) }) (v := ?vq4x19) rfl (by kernel_rfl) (by kernel_rfl) (by kernel_rfl) (fun _ _ _ h => h) (Or.inl ⟨by rfl, ?hyq4x19⟩) hHeld ?_
            case hyq4x19 => (intro w hSw; (try dsimp only at hSw); go_simp <;> with_reducible rfl)
            try simp only [Act.put, List.setIfInBounds_toArray, List.set_cons_zero, List.set_cons_succ]
            refine wpAnyH_take (i := 20) (oi := { dst := some 33, op := Op.fieldAddr 67 (Operand.tmp 32) 0, type := 0, pos := "l12_groups.go:7", after := #[{ on := 19, ground := Ground.data }, { on := 10, ground := Ground.guard }], guard := some (10, true) }) (v := ?vq4x20) rfl (by kernel_rfl) (by kernel_rfl) (by kernel_rfl) (fun _ _ _ h => h) (Or.inl ⟨by rfl, ?hyq4x20⟩) hHeld ?_
            case hyq4x20 => (intro w hSw; (try dsimp only at hSw); go_simp <;> with_reducible rfl)
            try simp only [Act.put, List.setIfInBounds_toArray, List.set_cons_zero, List.set_cons_succ]
            refine wpAnyH_take (i := 21) (oi := { dst := some 34, op := Op.load 3 (Operand.tmp 33), type := 3, pos := "l12_groups.go:7", after := #[{ on := 20, ground := Ground.data }, { on := 10, ground := Ground.guard }], guard := some (10, true) }) (v := ?vq4x21) rfl (by kernel_rfl) (by kernel_rfl) (by kernel_rfl) (fun _ _ _ h => h) (Or.inl ⟨by rfl, ?hyq4x21⟩) hHeld ?_
            case hyq4x21 => (intro w hSw; (try dsimp only at hSw); go_simp <;> with_reducible rfl)
            try simp only [Act.put, List.setIfInBounds_toArray, List.set_cons_zero, List.set_cons_succ]
            refine wpAnyH_take (i := 22) (oi := { dst := some 35, op := Op.binOp BinOp.geq 3 (Operand.tmp 29) (Operand.tmp 34) 3, type := 4, pos := "l12_groups.go:7", after := #[{ on := 16, ground := Ground.data }, { on := 21, ground := Ground.data }, { on := 10, ground := Ground.guard }], guard := some (10, true) }) (v := ?vq4x22) rfl (by kernel_rfl) (by kernel_rfl) (by kernel_rfl) (fun _ _ _ h => h) (Or.inl ⟨by rfl, ?hyq4x22⟩) hHeld ?_
            case hyq4x22 => (intro w hSw; (try dsimp only at hSw); go_simp <;> with_reducible rfl)
            try simp only [Act.put, List.setIfInBounds_toArray, List.set_cons_zero, List.set_cons_succ]
            refine wpAnyH_take (i := 23) (oi := { dst := some 36, op := Op.pick (Operand.tmp 23) (Operand.tmp 35) (Operand.const (Value.bool false)), type := 4, pos := "l12_groups.go:7", after := #[{ on := 10, ground := Ground.data }, { on := 22, ground := Ground.data }, { on := 7, ground := Ground.guard }], guard := some (7, false) }) (v := ?vq4x23) rfl (by kernel_rfl) (by kernel_rfl) (by kernel_rfl) (fun _ _ _ h => h) (Or.inl ⟨by rfl, ?hyq4x23⟩) hHeld ?_
            case hyq4x23 => (intro w hSw; (try dsimp only at hSw); go_simp <;> with_reducible rfl)
            try simp only [Act.put, List.setIfInBounds_toArray, List.set_cons_zero, List.set_cons_succ]
            refine wpAnyH_take (i := 24) (oi := { dst := some 37, op := Op.pick (Operand.tmp 20) (Operand.const (Value.bool true)) (Operand.tmp 36), type := 4, pos := "l12_groups.go:7", after := #[{ on := 7, ground := Ground.data }, { on := 23, ground := Ground.data }], guard := none }) (v := ?vq4x24) rfl (by kernel_rfl) (by kernel_rfl) (by kernel_rfl) (fun _ _ _ h => h) (Or.inl ⟨by rfl, ?hyq4x24⟩) hHeld ?_
            case hyq4x24 => (intro w hSw; (try dsimp only at hSw); go_simp <;> with_reducible rfl)
            try simp only [Act.put, List.setIfInBounds_toArray, List.set_cons_zero, List.set_cons_succ]
            refine wpAnyH_done (by kernel_rfl) ?_ _
            clear hHeld HS
            have HUP : Hid (upOk U k = true) := HU0.out
            have HG1 : Hid (oneOk by' (nthG U k) = true) := hg1
            have HZ1 : Hid (Below z.heap.size z _) := Z1.out
            clear hg1 HOK HF HSP
            go_wp2
            go_loopw [6] (fun i w' => ∃ j : Nat, i = .int .i64 j ∧ j ≤ k ∧ (∀ q, q < j → (nthG U q).key ≠ (nthG U k).key) ∧ Below z.heap.size z w') (fun i _ => k - (intOf i).toNat)
            case atStart => exact ⟨0, rfl, Nat.zero_le _, fun q hq => by omega, HZ1.out⟩
            case round =>
              obtain ⟨j, rfl, hj, hq, hbj⟩ := hrel
              have HQ : Hid (∀ q, q < j → (nthG U q).key ≠ (nthG U k).key) := hq
              have HBJ : Hid (Below z.heap.size z wr) := hbj
              clear hq hbj
              by_cases hjk : j < k
              ·
                have hjk' : (j : Int) < (k : Int) := by omega
                have hjU : j < U.length := by omega
                have hjU' : (j : Int) < (U.length : Int) := by omega
                obtain ⟨ja, jc, jd, jp, hatj⟩ := HRR.out wr HBJ.out j hjU
                have hbr : b < wr.heap.size := Nat.lt_of_lt_of_le hbz HBJ.out.size
                have c1 := hatj.c1
                have d1 : wr.cell? ⟨b, off + k * 5 + 1, none⟩ = some (.slice ka (nthG U k).key.length kc) := (HBJ.out.cell (p := ⟨b, off + k * 5 + 1, none⟩) hbz).trans HA.out.c1
                have HSS : Hid (∀ y, Below wr.heap.size wr y → Calls Try.prog 39 #[.slice ja (nthG U j).key.length jc, .slice ka (nthG U k).key.length kc] y fun e w' => e = .returned (.bool (decide ((nthG U j).key = (nthG U k).key))) ∧ Below y.heap.size y w') := fun y hy => calls_drew (specSame_any ja ka jc kc (nthG U j).key (nthG U k).key y (hatj.reads.1.below hy) (HA.out.reads.1.below (grow_on HBJ.out hy)) (HR.out.2.1 _ (nthG_mem hjU)).klen (HR.out.2.1 _ (nthG_mem hlt)).klen)
                have HS9 : Hid (∀ w', Below wr.heap.size wr w' → w'.cell? ⟨b, off + j * 5 + 1, none⟩ = some (.slice ja (nthG U j).key.length jc) ∧ w'.cell? ⟨b, off + k * 5 + 1, none⟩ = some (.slice ka (nthG U k).key.length kc)) := fun w' h => ⟨(h.cell (p := ⟨b, off + j * 5 + 1, none⟩) hbr).trans c1, (h.cell (p := ⟨b, off + k * 5 + 1, none⟩) hbr).trans d1⟩
                clear hatj c1 d1
                cases hd : decide ((nthG U j).key = (nthG U k).key) with
                | true =>
                  have HE : Hid (groupsB U by' = false) := groups_bad hlt (by unfold okG; rw [keyOk_bad hjk (of_decide_eq_true hd)]; simp)
                  go_upto_region 9 with fail
                  refine wp_region_held_drew (S := fun w' => w'.cell? ⟨b, off + j * 5 + 1, none⟩ = some (.slice ja (nthG U j).key.length jc) ∧ w'.cell? ⟨b, off + k * 5 + 1, none⟩ = some (.slice ka (nthG U k).key.length kc)) (by kernel_rfl) (HS9.out _ (Below.refl wr.heap.size wr).drew) (fun hHeld => ?_)
                  refine wpAnyH_take (i := 0) (oi := { dst := some 43, op := Op.move (Operand.tmp 0), type := 27, pos := "l12_groups.go:11", after := #[], guard := none }) (v := ?vq5xa0) rfl (by kernel_rfl) (by kernel_rfl) (by kernel_rfl) (fun _ _ _ h => h) (Or.inl ⟨by rfl, ?hyq5xa0⟩) hHeld ?_
                  case hyq5xa0 => (intro w hSw; (try dsimp only at hSw); go_simp <;> with_reducible rfl)
                  try simp only [Act.put, List.setIfInBounds_toArray, List.set_cons_zero, List.set_cons_succ]
                  refine wpAnyH_take (i := 1) (oi := { dst := some 44, op := Op.move (Operand.tmp 6), type := 3, pos := "l12_groups.go:11", after := #[], guard := none }) (v := ?vq5xa1) rfl (by kernel_rfl) (by kernel_rfl) (by kernel_rfl) (fun _ _ _ h => h) (Or.inl ⟨by rfl, ?hyq5xa1⟩) hHeld ?_
                  case hyq5xa1 => (intro w hSw; (try dsimp only at hSw); go_simp <;> with_reducible rfl)
                  try simp only [Act.put, List.setIfInBounds_toArray, List.set_cons_zero, List.set_cons_succ]
                  refine wpAnyH_take (i := 2) (oi := { dst := some 45, op := Op.indexAddr 27 (Operand.tmp 43) (Operand.tmp 44), type := 0, pos := "l12_groups.go:11", after := #[{ on := 0, ground := Ground.data }, { on := 1, ground := Ground.data }], guard := none }) (v := ?vq5xa2) rfl (by kernel_rfl) (by kernel_rfl) (by kernel_rfl) (fun _ _ _ h => h) (Or.inl ⟨by rfl, ?hyq5xa2⟩) hHeld ?_
                  case hyq5xa2 => (intro w hSw; (try dsimp only at hSw); go_simp <;> with_reducible rfl)
                  try simp only [Act.put, List.setIfInBounds_toArray, List.set_cons_zero, List.set_cons_succ]
                  refine wpAnyH_take (i := 3) (oi := { dst := some 46, op := Op.fieldAddr 67 (Operand.tmp 45) 1, type := 0, pos := "l12_groups.go:11", after := #[{ on := 2, ground := Ground.data }], guard := none }) (v := ?vq5xa3) rfl (by kernel_rfl) (by kernel_rfl) (by kernel_rfl) (fun _ _ _ h => h) (Or.inl ⟨by rfl, ?hyq5xa3⟩) hHeld ?_
                  case hyq5xa3 => (intro w hSw; (try dsimp only at hSw); go_simp <;> with_reducible rfl)
                  try simp only [Act.put, List.setIfInBounds_toArray, List.set_cons_zero, List.set_cons_succ]
                  refine wpAnyH_take (i := 4) (oi := { dst := some 47, op := Op.load 36 (Operand.tmp 46), type := 36, pos := "l12_groups.go:11", after := #[{ on := 3, ground := Ground.data }], guard := none }) (v := ?vq5xa4) rfl (by kernel_rfl) (by kernel_rfl) (by kernel_rfl) (fun _ _ _ h => h) (Or.inl ⟨by rfl, ?hyq5xa4⟩) hHeld ?_
                  case hyq5xa4 => (intro w hSw; (try dsimp only at hSw); go_simp <;> with_reducible rfl)
                  try simp only [Act.put, List.setIfInBounds_toArray, List.set_cons_zero, List.set_cons_succ]
                  refine wpAnyH_take (i := 5) (oi := { dst := some 48, op := Op.move (Operand.tmp 0), type := 27, pos := "l12_groups.go:11", after := #[], guard := none }) (v := ?vq5xa5) rfl (by kernel_rfl) (by kernel_rfl) (by kernel_rfl) (fun _ _ _ h => h) (Or.inl ⟨by rfl, ?hyq5xa5⟩) hHeld ?_
                  case hyq5xa5 => (intro w hSw; (try dsimp only at hSw); go_simp <;> with_reducible rfl)
                  try simp only [Act.put, List.setIfInBounds_toArray, List.set_cons_zero, List.set_cons_succ]
                  refine wpAnyH_take (i := 6) (oi := { dst := some 49, op := Op.move (Operand.tmp 5), type := 3, pos := "l12_groups.go:11", after := #[], guard := none }) (v := ?vq5xa6) rfl (by kernel_rfl) (by kernel_rfl) (by kernel_rfl) (fun _ _ _ h => h) (Or.inl ⟨by rfl, ?hyq5xa6⟩) hHeld ?_
                  case hyq5xa6 => (intro w hSw; (try dsimp only at hSw); go_simp <;> with_reducible rfl)
                  try simp only [Act.put, List.setIfInBounds_toArray, List.set_cons_zero, List.set_cons_succ]
                  refine wpAnyH_take (i := 7) (oi := { dst := some 50, op := Op.indexAddr 27 (Operand.tmp 48) (Operand.tmp 49), type := 0, pos := "l12_groups.go:11", after := #[{ on := 5, ground := Ground.data }, { on := 6, ground := Ground.data }], guard := none }) (v := ?vq5xa7) rfl (by kernel_rfl) (by kernel_rfl) (by kernel_rfl) (fun _ _ _ h => h) (Or.inl ⟨by rfl, ?hyq5xa7⟩) hHeld ?_
                  case hyq5xa7 => (intro w hSw; (try dsimp only at hSw); go_simp <;> with_reducible rfl)
                  try simp only [Act.put, List.setIfInBounds_toArray, List.set_cons_zero, List.set_cons_succ]
                  refine wpAnyH_take (i := 8) (oi := { dst := some 51, op := Op.fieldAddr 67 (Operand.tmp 50) 1, type := 0, pos := "l12_groups.go:11", after := #[{ on := 7, ground := Ground.data }], guard := none }) (v := ?vq5xa8) rfl (by kernel_rfl) (by kernel_rfl) (by kernel_rfl) (fun _ _ _ h => h) (Or.inl ⟨by rfl, ?hyq5xa8⟩) hHeld ?_
                  case hyq5xa8 => (intro w hSw; (try dsimp only at hSw); go_simp <;> with_reducible rfl)
                  try simp only [Act.put, List.setIfInBounds_toArray, List.set_cons_zero, List.set_cons_succ]
                  refine wpAnyH_take (i := 9) (oi := { dst := some 52, op := Op.load 36 (Operand.tmp 51), type := 36, pos := "l12_groups.go:11", after := #[{ on := 8, ground := Ground.data }], guard := none }) (v := ?vq5xa9) rfl (by kernel_rfl) (by kernel_rfl) (by kernel_rfl) (fun _ _ _ h => h) (Or.inl ⟨by rfl, ?hyq5xa9⟩) hHeld ?_
                  case hyq5xa9 => (intro w hSw; (try dsimp only at hSw); go_simp <;> with_reducible rfl)
                  try simp only [Act.put, List.setIfInBounds_toArray, List.set_cons_zero, List.set_cons_succ]
                  refine wpAnyH_ready (rs := [10]) (by kernel_rfl) (by simp) ?_
                  refine AllReadyH.cons (o := { dst := some 53, op := Op.call { callee := Callee.value (Operand.func 39), args := #[Operand.tmp 47, Operand.tmp 52], argTypes := #[36, 36] }, type := 4, pos := "l12_groups.go:11", after := #[{ on := 4, ground := Ground.data }, { on := 9, ground := Ground.data }], guard := none }) rfl (fun K hK => ?_) AllReadyH.nil
                  go_simp
                  refine (HSS.out _ (Below.refl wr.heap.size wr).drew).mono ?_
                  rintro r wyq5xa10 ⟨rfl, hb2⟩
                  have Z2 : Hid (Below wr.heap.size wr wyq5xa10) := grow_on (Below.refl wr.heap.size wr).drew hb2
                  clear hb2
                  try rw [hd]
                  clear hHeld
                  refine hK.out _ _ (HS9.out _ Z2.out) (fun hHeld => ?_)
                  clear hK K
                  try simp only [Act.put, List.setIfInBounds_toArray, List.set_cons_zero, List.set_cons_succ]
                  refine wpAnyH_done (by kernel_rfl) ?_ _
                  clear hHeld HS9 HSS
                  go_wp2
                  go_ret
                  exact ⟨retB HE.out.symm, grow_on HB.out (grow_on HBJ.out Z2.out)⟩
                | false =>
                  have HQ1 : Hid (∀ q, q < j + 1 → (nthG U q).key ≠ (nthG U k).key) := fun q hq => by
                    by_cases e : q = j
                    · rw [e]; exact of_decide_eq_false hd
                    · exact HQ.out q (by omega)
                  go_upto_region 9 with fail
                  refine wp_region_held_drew (S := fun w' => w'.cell? ⟨b, off + j * 5 + 1, none⟩ = some (.slice ja (nthG U j).key.length jc) ∧ w'.cell? ⟨b, off + k * 5 + 1, none⟩ = some (.slice ka (nthG U k).key.length kc)) (by kernel_rfl) (HS9.out _ (Below.refl wr.heap.size wr).drew) (fun hHeld => ?_)
                  refine wpAnyH_take (i := 0) (oi := { dst := some 43, op := Op.move (Operand.tmp 0), type := 27, pos := "l12_groups.go:11", after := #[], guard := none }) (v := ?vq5xb0) rfl (by kernel_rfl) (by kernel_rfl) (by kernel_rfl) (fun _ _ _ h => h) (Or.inl ⟨by rfl, ?hyq5xb0⟩) hHeld ?_
                  case hyq5xb0 => (intro w hSw; (try dsimp only at hSw); go_simp <;> with_reducible rfl)
                  try simp only [Act.put, List.setIfInBounds_toArray, List.set_cons_zero, List.set_cons_succ]
                  refine wpAnyH_take (i := 1) (oi := { dst := some 44, op := Op.move (Operand.tmp 6), type := 3, pos := "l12_groups.go:11", after := #[], guard := none }) (v := ?vq5xb1) rfl (by kernel_rfl) (by kernel_rfl) (by kernel_rfl) (fun _ _ _ h => h) (Or.inl ⟨by rfl, ?hyq5xb1⟩) hHeld ?_
                  case hyq5xb1 => (intro w hSw; (try dsimp only at hSw); go_simp <;> with_reducible rfl)
                  try simp only [Act.put, List.setIfInBounds_toArray, List.set_cons_zero, List.set_cons_succ]
                  refine wpAnyH_take (i := 2) (oi := { dst := some 45, op := Op.indexAddr 27 (Operand.tmp 43) (Operand.tmp 44), type := 0, pos := "l12_groups.go:11", after := #[{ on := 0, ground := Ground.data }, { on := 1, ground := Ground.data }], guard := none }) (v := ?vq5xb2) rfl (by kernel_rfl) (by kernel_rfl) (by kernel_rfl) (fun _ _ _ h => h) (Or.inl ⟨by rfl, ?hyq5xb2⟩) hHeld ?_
                  case hyq5xb2 => (intro w hSw; (try dsimp only at hSw); go_simp <;> with_reducible rfl)
                  try simp only [Act.put, List.setIfInBounds_toArray, List.set_cons_zero, List.set_cons_succ]
                  refine wpAnyH_take (i := 3) (oi := { dst := some 46, op := Op.fieldAddr 67 (Operand.tmp 45) 1, type := 0, pos := "l12_groups.go:11", after := #[{ on := 2, ground := Ground.data }], guard := none }) (v := ?vq5xb3) rfl (by kernel_rfl) (by kernel_rfl) (by kernel_rfl) (fun _ _ _ h => h) (Or.inl ⟨by rfl, ?hyq5xb3⟩) hHeld ?_
                  case hyq5xb3 => (intro w hSw; (try dsimp only at hSw); go_simp <;> with_reducible rfl)
                  try simp only [Act.put, List.setIfInBounds_toArray, List.set_cons_zero, List.set_cons_succ]
                  refine wpAnyH_take (i := 4) (oi := { dst := some 47, op := Op.load 36 (Operand.tmp 46), type := 36, pos := "l12_groups.go:11", after := #[{ on := 3, ground := Ground.data }], guard := none }) (v := ?vq5xb4) rfl (by kernel_rfl) (by kernel_rfl) (by kernel_rfl) (fun _ _ _ h => h) (Or.inl ⟨by rfl, ?hyq5xb4⟩) hHeld ?_
                  case hyq5xb4 => (intro w hSw; (try dsimp only at hSw); go_simp <;> with_reducible rfl)
                  try simp only [Act.put, List.setIfInBounds_toArray, List.set_cons_zero, List.set_cons_succ]
                  refine wpAnyH_take (i := 5) (oi := { dst := some 48, op := Op.move (Operand.tmp 0), type := 27, pos := "l12_groups.go:11", after := #[], guard := none }) (v := ?vq5xb5) rfl (by kernel_rfl) (by kernel_rfl) (by kernel_rfl) (fun _ _ _ h => h) (Or.inl ⟨by rfl, ?hyq5xb5⟩) hHeld ?_
                  case hyq5xb5 => (intro w hSw; (try dsimp only at hSw); go_simp <;> with_reducible rfl)
                  try simp only [Act.put, List.setIfInBounds_toArray, List.set_cons_zero, List.set_cons_succ]
                  refine wpAnyH_take (i := 6) (oi := { dst := some 49, op := Op.move (Operand.tmp 5), type := 3, pos := "l12_groups.go:11", after := #[], guard := none }) (v := ?vq5xb6) rfl (by kernel_rfl) (by kernel_rfl) (by kernel_rfl) (fun _ _ _ h => h) (Or.inl ⟨by rfl, ?hyq5xb6⟩) hHeld ?_
                  case hyq5xb6 => (intro w hSw; (try dsimp only at hSw); go_simp <;> with_reducible rfl)
                  try simp only [Act.put, List.setIfInBounds_toArray, List.set_cons_zero, List.set_cons_succ]
                  refine wpAnyH_take (i := 7) (oi := { dst := some 50, op := Op.indexAddr 27 (Operand.tmp 48) (Operand.tmp 49), type := 0, pos := "l12_groups.go:11", after := #[{ on := 5, ground := Ground.data }, { on := 6, ground := Ground.data }], guard := none }) (v := ?vq5xb7) rfl (by kernel_rfl) (by kernel_rfl) (by kernel_rfl) (fun _ _ _ h => h) (Or.inl ⟨by rfl, ?hyq5xb7⟩) hHeld ?_
                  case hyq5xb7 => (intro w hSw; (try dsimp only at hSw); go_simp <;> with_reducible rfl)
                  try simp only [Act.put, List.setIfInBounds_toArray, List.set_cons_zero, List.set_cons_succ]
                  refine wpAnyH_take (i := 8) (oi := { dst := some 51, op := Op.fieldAddr 67 (Operand.tmp 50) 1, type := 0, pos := "l12_groups.go:11", after := #[{ on := 7, ground := Ground.data }], guard := none }) (v := ?vq5xb8) rfl (by kernel_rfl) (by kernel_rfl) (by kernel_rfl) (fun _ _ _ h => h) (Or.inl ⟨by rfl, ?hyq5xb8⟩) hHeld ?_
                  case hyq5xb8 => (intro w hSw; (try dsimp only at hSw); go_simp <;> with_reducible rfl)
                  try simp only [Act.put, List.setIfInBounds_toArray, List.set_cons_zero, List.set_cons_succ]
                  refine wpAnyH_take (i := 9) (oi := { dst := some 52, op := Op.load 36 (Operand.tmp 51), type := 36, pos := "l12_groups.go:11", after := #[{ on := 8, ground := Ground.data }], guard := none }) (v := ?vq5xb9) rfl (by kernel_rfl) (by kernel_rfl) (by kernel_rfl) (fun _ _ _ h => h) (Or.inl ⟨by rfl, ?hyq5xb9⟩) hHeld ?_
                  case hyq5xb9 => (intro w hSw; (try dsimp only at hSw); go_simp <;> with_reducible rfl)
                  try simp only [Act.put, List.setIfInBounds_toArray, List.set_cons_zero, List.set_cons_succ]
                  refine wpAnyH_ready (rs := [10]) (by kernel_rfl) (by simp) ?_
                  refine AllReadyH.cons (o := { dst := some 53, op := Op.call { callee := Callee.value (Operand.func 39), args := #[Operand.tmp 47, Operand.tmp 52], argTypes := #[36, 36] }, type := 4, pos := "l12_groups.go:11", after := #[{ on := 4, ground := Ground.data }, { on := 9, ground := Ground.data }], guard := none }) rfl (fun K hK => ?_) AllReadyH.nil
                  go_simp
                  refine (HSS.out _ (Below.refl wr.heap.size wr).drew).mono ?_
                  rintro r wyq5xb10 ⟨rfl, hb2⟩
                  have Z2 : Hid (Below wr.heap.size wr wyq5xb10) := grow_on (Below.refl wr.heap.size wr).drew hb2
                  clear hb2
                  try rw [hd]
                  clear hHeld
                  refine hK.out _ _ (HS9.out _ Z2.out) (fun hHeld => ?_)
                  clear hK K
                  try simp only [Act.put, List.setIfInBounds_toArray, List.set_cons_zero, List.set_cons_succ]
                  refine wpAnyH_done (by kernel_rfl) ?_ _
                  clear hHeld HS9 HSS
                  go_wp2
                  go_roundw
                  case rel => exact ⟨j + 1, by go_num, by omega, HQ1.out, grow_on HBJ.out Z2.out⟩
                  case measure => simp [intOf]; omega
              · have hje : ¬ (j : Int) < (k : Int) := by omega
                have HU1 : Hid (∀ i, i < k + 1 → okG U by' i = true) := fun i hi => by
                  by_cases e : i = k
                  · rw [e]; unfold okG; rw [HG1.out, HUP.out, keyOk_good (fun q hq => HQ.out q (by omega))]; rfl
                  · exact HU.out i (by omega)
                go_wp2
                go_roundw
                case rel => exact ⟨k + 1, by go_num, by omega, HU1.out, grow_on HB.out HBJ.out⟩
                case measure => simp [intOf]; omega
          ·
            have hge : (nthG U k).n ≤ (nthG U m).n := by omega
            have hge2 : decide ((nthG U k).n ≤ (nthG U m).n) = true := decide_eq_true hge
            have HE : Hid (groupsB U by' = false) := groups_bad hlt (by unfold okG upOk; rw [hmk, decide_eq_false hup, decide_eq_false k0]; simp)
            clear hmk k0 hup
            go_upto_region 4 with fail
            have HS : Hid (∀ w', Below z.heap.size z w' → w'.cell? ⟨b, off + k * 5, none⟩ = some (.int .i64 (nthG U k).n) ∧ w'.cell? ⟨b, off + k * 5 + 1, none⟩ = some (.slice ka (nthG U k).key.length kc) ∧ w'.cell? ⟨b, off + k * 5 + 2, none⟩ = some (.int .i64 (nthG U k).b) ∧ w'.cell? ⟨b, off + k * 5 + 3, none⟩ = some (.int .i64 (nthG U k).t) ∧ w'.cell? ⟨b, off + k * 5 + 4, none⟩ = some (.slice ad (nthG U k).P.length cp) ∧ w'.cell? ⟨b, off + m * 5, none⟩ = some (.int .i64 (nthG U m).n)) := fun w' h => ⟨(h.cell (p := ⟨b, off + k * 5, none⟩) hbz).trans HA.out.c0, (h.cell (p := ⟨b, off + k * 5 + 1, none⟩) hbz).trans HA.out.c1, (h.cell (p := ⟨b, off + k * 5 + 2, none⟩) hbz).trans HA.out.c2, (h.cell (p := ⟨b, off + k * 5 + 3, none⟩) hbz).trans HA.out.c3, (h.cell (p := ⟨b, off + k * 5 + 4, none⟩) hbz).trans HA.out.c4, (h.cell (p := ⟨b, off + m * 5, none⟩) hbz).trans hmc⟩
            refine wp_region_held_drew (S := fun w' => w'.cell? ⟨b, off + k * 5, none⟩ = some (.int .i64 (nthG U k).n) ∧ w'.cell? ⟨b, off + k * 5 + 1, none⟩ = some (.slice ka (nthG U k).key.length kc) ∧ w'.cell? ⟨b, off + k * 5 + 2, none⟩ = some (.int .i64 (nthG U k).b) ∧ w'.cell? ⟨b, off + k * 5 + 3, none⟩ = some (.int .i64 (nthG U k).t) ∧ w'.cell? ⟨b, off + k * 5 + 4, none⟩ = some (.slice ad (nthG U k).P.length cp) ∧ w'.cell? ⟨b, off + m * 5, none⟩ = some (.int .i64 (nthG U m).n)) (by kernel_rfl) (HS.out _ (Below.refl z.heap.size z).drew) (fun hHeld => ?_)
            refine wpAnyH_take (i := 0) (oi := { dst := some 13, op := Op.move (Operand.tmp 0), type := 27, pos := "l12_groups.go:7", after := #[], guard := none }) (v := ?vq6x0) rfl (by kernel_rfl) (by kernel_rfl) (by kernel_rfl) (fun _ _ _ h => h) (Or.inl ⟨by rfl, ?hyq6x0⟩) hHeld ?_
            case hyq6x0 => (intro w hSw; (try dsimp only at hSw); go_simp <;> with_reducible rfl)
            try simp only [Act.put, List.setIfInBounds_toArray, List.set_cons_zero, List.set_cons_succ]
            refine wpAnyH_take (i := 1) (oi := { dst := some 14, op := Op.move (Operand.tmp 5), type := 3, pos := "l12_groups.go:7", after := #[], guard := none }) (v := ?vq6x1) rfl (by kernel_rfl) (by kernel_rfl) (by kernel_rfl) (fun _ _ _ h => h) (Or.inl ⟨by rfl, ?hyq6x1⟩) hHeld ?_
            case hyq6x1 => (intro w hSw; (try dsimp only at hSw); go_simp <;> with_reducible rfl)
            try simp only [Act.put, List.setIfInBounds_toArray, List.set_cons_zero, List.set_cons_succ]
            refine wpAnyH_take (i := 2) (oi := { dst := some 15, op := Op.indexAddr 27 (Operand.tmp 13) (Operand.tmp 14), type := 0, pos := "l12_groups.go:7", after := #[{ on := 0, ground := Ground.data }, { on := 1, ground := Ground.data }], guard := none }) (v := ?vq6x2) rfl (by kernel_rfl) (by kernel_rfl) (by kernel_rfl) (fun _ _ _ h => h) (Or.inl ⟨by rfl, ?hyq6x2⟩) hHeld ?_
            case hyq6x2 => (intro w hSw; (try dsimp only at hSw); go_simp <;> with_reducible rfl)
            try simp only [Act.put, List.setIfInBounds_toArray, List.set_cons_zero, List.set_cons_succ]
            refine wpAnyH_take (i := 3) (oi := { dst := some 16, op := Op.load 67 (Operand.tmp 15), type := 67, pos := "l12_groups.go:7", after := #[{ on := 2, ground := Ground.data }], guard := none }) (v := ?vq6x3) rfl (by kernel_rfl) (by kernel_rfl) (by kernel_rfl) (fun _ _ _ h => h) (Or.inl ⟨by rfl, ?hyq6x3⟩) hHeld ?_
            case hyq6x3 => (intro w hSw; (try dsimp only at hSw); go_simp <;> with_reducible rfl)
            try simp only [Act.put, List.setIfInBounds_toArray, List.set_cons_zero, List.set_cons_succ]
            refine wpAnyH_take (i := 4) (oi := { dst := some 17, op := Op.move (Operand.tmp 1), type := 23, pos := "l12_groups.go:7", after := #[], guard := none }) (v := ?vq6x4) rfl (by kernel_rfl) (by kernel_rfl) (by kernel_rfl) (fun _ _ _ h => h) (Or.inl ⟨by rfl, ?hyq6x4⟩) hHeld ?_
            case hyq6x4 => (intro w hSw; (try dsimp only at hSw); go_simp <;> with_reducible rfl)
            try simp only [Act.put, List.setIfInBounds_toArray, List.set_cons_zero, List.set_cons_succ]
            refine wpAnyH_ready (rs := [5]) (by kernel_rfl) (by simp) ?_
            refine AllReadyH.cons (o := { dst := some 18, op := Op.call { callee := Callee.value (Operand.func 38), args := #[Operand.tmp 16, Operand.tmp 17], argTypes := #[67, 23] }, type := 4, pos := "l12_groups.go:7", after := #[{ on := 3, ground := Ground.data }, { on := 4, ground := Ground.data }], guard := none }) rfl (fun K hK => ?_) AllReadyH.nil
            go_simp
            refine (HOK.out _ (Below.refl z.heap.size z).drew).mono ?_
            rintro r wyq6x5 ⟨rfl, hb1⟩
            have Z1 : Hid (Below z.heap.size z wyq6x5) := grow_on (Below.refl z.heap.size z).drew hb1
            clear hb1
            try rw [hg1]
            clear hHeld
            refine hK.out _ _ (HS.out _ Z1.out) (fun hHeld => ?_)
            clear hK K
            try simp only [Act.put, List.setIfInBounds_toArray, List.set_cons_zero, List.set_cons_succ]
            refine wpAnyH_take (i := 6) (oi := { dst := some 19, op := Op.unOp UnOp.not 4 (Operand.tmp 18), type := 4, pos := "l12_groups.go:7", after := #[{ on := 5, ground := Ground.data }], guard := none }) (v := ?vq6x6) rfl (by kernel_rfl) (by kernel_rfl) (by kernel_rfl) (fun _ _ _ h => h) (Or.inl ⟨by rfl, ?hyq6x6⟩) hHeld ?_
            case hyq6x6 => (intro w hSw; (try dsimp only at hSw); go_simp <;> with_reducible rfl)
            try simp only [Act.put, List.setIfInBounds_toArray, List.set_cons_zero, List.set_cons_succ]
            refine wpAnyH_take (i := 7) (oi := { dst := some 20, op := Op.move (Operand.tmp 19), type := 4, pos := "l12_groups.go:7", after := #[{ on := 6, ground := Ground.data }, { on := 5, ground := Ground.chain }], guard := none }) (v := ?vq6x7) rfl (by kernel_rfl) (by kernel_rfl) (by kernel_rfl) (fun _ _ _ h => h) (Or.inl ⟨by rfl, ?hyq6x7⟩) hHeld ?_
            case hyq6x7 => (intro w hSw; (try dsimp only at hSw); go_simp <;> with_reducible rfl)
            try simp only [Act.put, List.setIfInBounds_toArray, List.set_cons_zero, List.set_cons_succ]
            refine wpAnyH_take (i := 8) (oi := { dst := some 21, op := Op.move (Operand.tmp 5), type := 3, pos := "l12_groups.go:7", after := #[{ on := 7, ground := Ground.guard }], guard := some (7, false) }) (v := ?vq6x8) rfl (by kernel_rfl) (by kernel_rfl) (by kernel_rfl) (fun _ _ _ h => h) (Or.inl ⟨by rfl, ?hyq6x8⟩) hHeld ?_
            case hyq6x8 => (intro w hSw; (try dsimp only at hSw); go_simp <;> with_reducible rfl)
            try simp only [Act.put, List.setIfInBounds_toArray, List.set_cons_zero, List.set_cons_succ]
            refine wpAnyH_take (i := 9) (oi := { dst := some 22, op := Op.binOp BinOp.gtr 3 (Operand.tmp 21) (Operand.const (Value.int IntKind.i64 0)) 3, type := 4, pos := "l12_groups.go:7", after := #[{ on := 8, ground := Ground.data }, { on := 7, ground := Ground.guard }], guard := some (7, false) }) (v := ?vq6x9) rfl (by kernel_rfl) (by kernel_rfl) (by kernel_rfl) (fun _ _ _ h => h) (Or.inl ⟨by rfl, ?hyq6x9⟩) hHeld ?_
            case hyq6x9 => (intro w hSw; (try dsimp only at hSw); go_simp <;> with_reducible rfl)
            try simp only [Act.put, List.setIfInBounds_toArray, List.set_cons_zero, List.set_cons_succ]
            refine wpAnyH_take (i := 10) (oi := { dst := some 23, op := Op.move (Operand.tmp 22), type := 4, pos := "l12_groups.go:7", after := #[{ on := 9, ground := Ground.data }, { on := 7, ground := Ground.chain }, { on := 7, ground := Ground.guard }], guard := some (7, false) }) (v := ?vq6x10) rfl (by kernel_rfl) (by kernel_rfl) (by kernel_rfl) (fun _ _ _ h => h) (Or.inl ⟨by rfl, ?hyq6x10⟩) hHeld ?_
            case hyq6x10 => (intro w hSw; (try dsimp only at hSw); go_simp <;> with_reducible rfl)
            try simp only [Act.put, List.setIfInBounds_toArray, List.set_cons_zero, List.set_cons_succ]
            refine wpAnyH_take (i := 11) (oi := { dst := some 24, op := Op.move (Operand.tmp 0), type := 27, pos := "l12_groups.go:7", after := #[{ on := 10, ground := Ground.guard }], guard := some (10, true) }) (v := ?vq6x11) rfl (by kernel_rfl) (by kernel_rfl) (by kernel_rfl) (fun _ _ _ h => h) (Or.inl ⟨by rfl, ?hyq6x11⟩) hHeld ?_
            case hyq6x11 => (intro w hSw; (try dsimp only at hSw); go_simp <;> with_reducible rfl)
            try simp only [Act.put, List.setIfInBounds_toArray, List.set_cons_zero, List.set_cons_succ]
            refine wpAnyH_take (i := 12) (oi := { dst := some 25, op := Op.move (Operand.tmp 5), type := 3, pos := "l12_groups.go:7", after := #[{ on := 10, ground := Ground.guard }], guard := some (10, true) }) (v := ?vq6x12) rfl (by kernel_rfl) (by kernel_rfl) (by kernel_rfl) (fun _ _ _ h => h) (Or.inl ⟨by rfl, ?hyq6x12⟩) hHeld ?_
            case hyq6x12 => (intro w hSw; (try dsimp only at hSw); go_simp <;> with_reducible rfl)
            try simp only [Act.put, List.setIfInBounds_toArray, List.set_cons_zero, List.set_cons_succ]
            refine wpAnyH_take (i := 13) (oi := { dst := some 26, op := Op.binOp BinOp.sub 3 (Operand.tmp 25) (Operand.const (Value.int IntKind.i64 1)) 3, type := 3, pos := "l12_groups.go:7", after := #[{ on := 12, ground := Ground.data }, { on := 10, ground := Ground.guard }], guard := some (10, true) }) (v := ?vq6x13) rfl (by kernel_rfl) (by kernel_rfl) (by kernel_rfl) (fun _ _ _ h => h) (Or.inl ⟨by rfl, ?hyq6x13⟩) hHeld ?_
            case hyq6x13 => (intro w hSw; (try dsimp only at hSw); go_simp <;> with_reducible rfl)
            try simp only [Act.put, List.setIfInBounds_toArray, List.set_cons_zero, List.set_cons_succ]
            refine wpAnyH_take (i := 14) (oi := { dst := some 27, op := Op.indexAddr 27 (Operand.tmp 24) (Operand.tmp 26), type := 0, pos := "l12_groups.go:7", after := #[{ on := 11, ground := Ground.data }, { on := 13, ground := Ground.data }, { on := 10, ground := Ground.guard }], guard := some (10, true) }) (v := ?vq6x14) rfl (by kernel_rfl) (by kernel_rfl) (by kernel_rfl) (fun _ _ _ h => h) (Or.inl ⟨by rfl, ?hyq6x14⟩) hHeld ?_
            case hyq6x14 => (intro w hSw; (try dsimp only at hSw); go_simp <;> with_reducible rfl)
            try simp only [Act.put, List.setIfInBounds_toArray, List.set_cons_zero, List.set_cons_succ]
            refine wpAnyH_take (i := 15) (oi := { dst := some 28, op := Op.fieldAddr 67 (Operand.tmp 27) 0, type := 0, pos := "l12_groups.go:7", after := #[{ on := 14, ground := Ground.data }, { on := 10, ground := Ground.guard }], guard := some (10, true) }) (v := ?vq6x15) rfl (by kernel_rfl) (by kernel_rfl) (by kernel_rfl) (fun _ _ _ h => h) (Or.inl ⟨by rfl, ?hyq6x15⟩) hHeld ?_
            case hyq6x15 => (intro w hSw; (try dsimp only at hSw); go_simp <;> with_reducible rfl)
            try simp only [Act.put, List.setIfInBounds_toArray, List.set_cons_zero, List.set_cons_succ]
            refine wpAnyH_take (i := 16) (oi := { dst := some 29, op := Op.load 3 (Operand.tmp 28), type := 3, pos := "l12_groups.go:7", after := #[{ on := 15, ground := Ground.data }, { on := 10, ground := Ground.guard }], guard := some (10, true) }) (v := ?vq6x16) rfl (by kernel_rfl) (by kernel_rfl) (by kernel_rfl) (fun _ _ _ h => h) (Or.inl ⟨by rfl, ?hyq6x16⟩) hHeld ?_
            case hyq6x16 => (intro w hSw; (try dsimp only at hSw); go_simp <;> with_reducible rfl)
            try simp only [Act.put, List.setIfInBounds_toArray, List.set_cons_zero, List.set_cons_succ]
            refine wpAnyH_take (i := 17) (oi := { dst := some 30, op := Op.move (Operand.tmp 0), type := 27, pos := "l12_groups.go:7", after := #[{ on := 10, ground := Ground.guard }], guard := some (10, true) }) (v := ?vq6x17) rfl (by kernel_rfl) (by kernel_rfl) (by kernel_rfl) (fun _ _ _ h => h) (Or.inl ⟨by rfl, ?hyq6x17⟩) hHeld ?_
            case hyq6x17 => (intro w hSw; (try dsimp only at hSw); go_simp <;> with_reducible rfl)
            try simp only [Act.put, List.setIfInBounds_toArray, List.set_cons_zero, List.set_cons_succ]
            refine wpAnyH_take (i := 18) (oi := { dst := some 31, op := Op.move (Operand.tmp 5), type := 3, pos := "l12_groups.go:7", after := #[{ on := 10, ground := Ground.guard }], guard := some (10, true) }) (v := ?vq6x18) rfl (by kernel_rfl) (by kernel_rfl) (by kernel_rfl) (fun _ _ _ h => h) (Or.inl ⟨by rfl, ?hyq6x18⟩) hHeld ?_
            case hyq6x18 => (intro w hSw; (try dsimp only at hSw); go_simp <;> with_reducible rfl)
            try simp only [Act.put, List.setIfInBounds_toArray, List.set_cons_zero, List.set_cons_succ]
            refine wpAnyH_take (i := 19) (oi := { dst := some 32, op := Op.indexAddr 27 (Operand.tmp 30) (Operand.tmp 31), type := 0, pos := "l12_groups.go:7", after := #[{ on := 17, ground := Ground.data }, { on := 18, ground := Ground.data }, { on := 10, ground := Ground.guard }], guard := some (10, true) }) (v := ?vq6x19) rfl (by kernel_rfl) (by kernel_rfl) (by kernel_rfl) (fun _ _ _ h => h) (Or.inl ⟨by rfl, ?hyq6x19⟩) hHeld ?_
            case hyq6x19 => (intro w hSw; (try dsimp only at hSw); go_simp <;> with_reducible rfl)
            try simp only [Act.put, List.setIfInBounds_toArray, List.set_cons_zero, List.set_cons_succ]
            refine wpAnyH_take (i := 20) (oi := { dst := some 33, op := Op.fieldAddr 67 (Operand.tmp 32) 0, type := 0, pos := "l12_groups.go:7", after := #[{ on := 19, ground := Ground.data }, { on := 10, ground := Ground.guard }], guard := some (10, true) }) (v := ?vq6x20) rfl (by kernel_rfl) (by kernel_rfl) (by kernel_rfl) (fun _ _ _ h => h) (Or.inl ⟨by rfl, ?hyq6x20⟩) hHeld ?_
            case hyq6x20 => (intro w hSw; (try dsimp only at hSw); go_simp <;> with_reducible rfl)
            try simp only [Act.put, List.setIfInBounds_toArray, List.set_cons_zero, List.set_cons_succ]
            refine wpAnyH_take (i := 21) (oi := { dst := some 34, op := Op.load 3 (Operand.tmp 33), type := 3, pos := "l12_groups.go:7", after := #[{ on := 20, ground := Ground.data }, { on := 10, ground := Ground.guard }], guard := some (10, true) }) (v := ?vq6x21) rfl (by kernel_rfl) (by kernel_rfl) (by kernel_rfl) (fun _ _ _ h => h) (Or.inl ⟨by rfl, ?hyq6x21⟩) hHeld ?_
            case hyq6x21 => (intro w hSw; (try dsimp only at hSw); go_simp <;> with_reducible rfl)
            try simp only [Act.put, List.setIfInBounds_toArray, List.set_cons_zero, List.set_cons_succ]
            refine wpAnyH_take (i := 22) (oi := { dst := some 35, op := Op.binOp BinOp.geq 3 (Operand.tmp 29) (Operand.tmp 34) 3, type := 4, pos := "l12_groups.go:7", after := #[{ on := 16, ground := Ground.data }, { on := 21, ground := Ground.data }, { on := 10, ground := Ground.guard }], guard := some (10, true) }) (v := ?vq6x22) rfl (by kernel_rfl) (by kernel_rfl) (by kernel_rfl) (fun _ _ _ h => h) (Or.inl ⟨by rfl, ?hyq6x22⟩) hHeld ?_
            case hyq6x22 => (intro w hSw; (try dsimp only at hSw); go_simp <;> with_reducible rfl)
            try simp only [Act.put, List.setIfInBounds_toArray, List.set_cons_zero, List.set_cons_succ]
            refine wpAnyH_take (i := 23) (oi := { dst := some 36, op := Op.pick (Operand.tmp 23) (Operand.tmp 35) (Operand.const (Value.bool false)), type := 4, pos := "l12_groups.go:7", after := #[{ on := 10, ground := Ground.data }, { on := 22, ground := Ground.data }, { on := 7, ground := Ground.guard }], guard := some (7, false) }) (v := ?vq6x23) rfl (by kernel_rfl) (by kernel_rfl) (by kernel_rfl) (fun _ _ _ h => h) (Or.inl ⟨by rfl, ?hyq6x23⟩) hHeld ?_
            case hyq6x23 => (intro w hSw; (try dsimp only at hSw); go_simp <;> with_reducible rfl)
            try simp only [Act.put, List.setIfInBounds_toArray, List.set_cons_zero, List.set_cons_succ]
            refine wpAnyH_take (i := 24) (oi := { dst := some 37, op := Op.pick (Operand.tmp 20) (Operand.const (Value.bool true)) (Operand.tmp 36), type := 4, pos := "l12_groups.go:7", after := #[{ on := 7, ground := Ground.data }, { on := 23, ground := Ground.data }], guard := none }) (v := ?vq6x24) rfl (by kernel_rfl) (by kernel_rfl) (by kernel_rfl) (fun _ _ _ h => h) (Or.inl ⟨by rfl, ?hyq6x24⟩) hHeld ?_
            case hyq6x24 => (intro w hSw; (try dsimp only at hSw); go_simp <;> with_reducible rfl)
            try simp only [Act.put, List.setIfInBounds_toArray, List.set_cons_zero, List.set_cons_succ]
            refine wpAnyH_done (by kernel_rfl) ?_ _
            clear hHeld HS
            go_wp2
            go_ret
            exact ⟨retB HE.out.symm, grow_on HB.out Z1.out⟩
    · have hge : ¬ (k : Int) < (U.length : Int) := by omega
      have HE : Hid (groupsB U by' = decide (U.length ≤ 12)) := groups_all fun j hj => HU.out j (by omega)
      by_cases h12 : U.length ≤ 12
      · have h12' : (U.length : Int) ≤ 12 := by omega
        replace HE : Hid (groupsB U by' = true) := by unfold Hid; rw [HE.out, decide_eq_true h12]
        go_wp2
        go_ret
        exact ⟨retB HE.out.symm, HB.out⟩
      · have h12' : ¬ (U.length : Int) ≤ 12 := by omega
        replace HE : Hid (groupsB U by' = false) := by unfold Hid; rw [HE.out, decide_eq_false h12]
        go_wp2
        go_ret
        exact ⟨retB HE.out.symm, HB.out⟩
end Go.Proofs.Ytgncimlojbnbfaa.GpG
