/-
  PROVED: impl.GroupsOk answers as a plain function on groups says; nothing that was there is changed.
-/
import Derived.Test.YtgncimlojbnbfaaGpG
import Derived.Test.YtgncimlojbnbfaaGpIo
import Derived.Test.YtgncimlojbnbfaaGrpH
namespace Go.Proofs.Ytgncimlojbnbfaa.GpIa
open Go.RowKit
open Go.Proofs.Ytgncimlojbnbfaa.Labs Go.Proofs.Ytgncimlojbnbfaa.LabS Go.Proofs.Ytgncimlojbnbfaa.Alms Go.Proofs.Ytgncimlojbnbfaa.AlmS Go.Proofs.Ytgncimlojbnbfaa.Over Go.Proofs.Ytgncimlojbnbfaa.Blk Go.Proofs.Ytgncimlojbnbfaa.App Go.Proofs.Ytgncimlojbnbfaa.ChnI Go.Proofs.Ytgncimlojbnbfaa.ChnC Go.Proofs.Ytgncimlojbnbfaa.Grp Go.Proofs.Ytgncimlojbnbfaa.GrpG Go.Proofs.Ytgncimlojbnbfaa.Gps Go.Proofs.Ytgncimlojbnbfaa.GpD
open Go.Proofs.Ytgncimlojbnbfaa.StrB (retB)
open Go.Proofs.Ytgncimlojbnbfaa.Pro (RdS)
open Go.Proofs.Ytgncimlojbnbfaa.GpG
set_option linter.unusedVariables false
theorem first_here {U : List PGr} {k : Nat} (hk : k < U.length) (h : keyOk U k = true) : ofI (keyIs (nthG U k).key) U = (k : Int) := by
  refine ofI_at hk (fun j hj => ?_) (decide_eq_true rfl)
  unfold keyOk at h
  have := (List.all_eq_true.1 h) j (List.mem_range.2 hj)
  simpa [keyIs] using this
theorem first_other {U : List PGr} {k : Nat} (hk : k < U.length) (h : keyOk U k = false) : ofI (keyIs (nthG U k).key) U ≠ (k : Int) := by
  unfold keyOk at h
  rw [List.all_eq_false] at h
  obtain ⟨j, hj, hd⟩ := h
  have hjk := List.mem_range.1 hj
  have he : (nthG U j).key = (nthG U k).key := by simpa using hd
  rcases ofI_cases (keyIs (nthG U k).key) U with ⟨h1, _⟩ | ⟨i, h1, h2, h3, h4⟩
  · omega
  · intro e
    have : i = k := by omega
    subst this
    have := h4 j hjk
    rw [keyIs, decide_eq_true he] at this
    cases this
set_option maxRecDepth 100000 in
set_option maxHeartbeats 6400000 in
theorem implGroups_any (a ba : Option Addr) (cap bc : Nat) (U : List PGr) (by' : List ByteArray) (w : World) (hr : RdGs GA w a U) (hl : U.length ≤ 1048576) (hz : FitsG U) (hs : SmP U) (hb : RdS w ba by') (hbl : by'.length ≤ maxLen) :
    Calls Try.prog 13 #[.slice a U.length cap, .slice ba by'.length bc] w fun e w' => e = .returned (.bool (groupsB U by')) ∧ Below w.heap.size w w' := by
  have HR : Hid (RdGs GA w a U ∧ FitsG U ∧ SmP U) := ⟨hr, hz, hs⟩
  have HY : Hid (RdS w ba by' ∧ by'.length ≤ maxLen) := ⟨hb, hbl⟩
  clear hr hz hs hb hbl
  go_enter Try.func13, Try.ntmps13
  by_cases h12 : (12 : Int) < (U.length : Int)
  · have HE : Hid (groupsB U by' = false) := by unfold Hid groupsB; rw [decide_eq_false (show ¬ U.length ≤ 12 by omega)]; simp
    go_wp2
    go_ret
    exact ⟨retB HE.out.symm, Below.refl _ _⟩
  have H12 : Hid (U.length ≤ 12) := by unfold Hid; omega
  go_wp2
  go_loopw [12] (fun i w' => ∃ k : Nat, i = .int .i64 k ∧ k ≤ U.length ∧ (∀ j, j < k → okG U by' j = true) ∧ Below w.heap.size w w') (fun i _ => U.length - (intOf i).toNat)
  case atStart => exact ⟨0, rfl, Nat.zero_le _, fun j hj => by omega, Below.refl _ _⟩
  case round =>
    obtain ⟨k, rfl, hk, hu, hw0⟩ := hrel
    have HU : Hid (∀ j, j < k → okG U by' j = true) := hu
    have HB : Hid (Below w.heap.size w wr) := hw0
    generalize wr = z at *
    clear hu hw0
    by_cases hlt : k < U.length
    · have hlt' : (k : Int) < (U.length : Int) := by omega
      obtain ⟨b, off, rfl, hbz, ka, kc, ad, cp, hat⟩ := (HR.out.1.below stays_ga HB.out).get hlt
      have x0 := hat.c0
      have x1 := hat.c1
      have x2 := hat.c2
      have x3 := hat.c3
      have x4 := hat.c4
      have HA : Hid (AtG GA z b off k (nthG U k) ka kc ad cp) := hat
      have HF : Hid (FitG (nthG U k)) := HR.out.2.1 _ (nthG_mem hlt)
      have HSP : Hid ((nthG U k).P.length ≤ 1048576 ∧ LenM (nthG U k).P) := HR.out.2.2 _ (nthG_mem hlt)
      have HRR : Hid (∀ y, Below z.heap.size z y → ∀ j, j < U.length → ∃ ka kc ad cp, AtG GA y b off j (nthG U j) ka kc ad cp) := fun y hy j hj => by
        obtain ⟨b', off', e, _, ka, kc, ad, cp, h⟩ := (HR.out.1.below stays_ga (grow_on HB.out hy)).get hj
        cases e
        exact ⟨ka, kc, ad, cp, h⟩
      have HOK : Hid (∀ y, Below z.heap.size z y → Calls Try.prog 41 #[.agg #[.int .i64 (nthG U k).n, .slice ka (nthG U k).key.length kc, .int .i64 (nthG U k).b, .int .i64 (nthG U k).t, .slice ad (nthG U k).P.length cp], .slice ba by'.length bc] y fun e w' => e = .returned (.bool (oneOk by' (nthG U k))) ∧ Below y.heap.size y w') := fun y hy => Go.Proofs.Ytgncimlojbnbfaa.GrpI.implGroup_any (nthG U k).n (nthG U k).b (nthG U k).t ka kc (nthG U k).key ad cp (nthG U k).P ba bc by' y (HA.out.reads.1.below hy) HF.out.klen HF.out.kfit (HA.out.reads.2.below hy) HSP.out.1 HF.out.fits HSP.out.2 (HY.out.1.below (grow_on HB.out hy)) HY.out.2
      have HOF : Hid (∀ y, Below z.heap.size z y → Calls Try.prog 19 #[.slice (some ⟨b, off, none⟩) U.length cap, .slice ka (nthG U k).key.length kc] y fun e w' => e = .returned (.int .i64 (ofI (keyIs (nthG U k).key) U)) ∧ Below y.heap.size y w') := fun y hy => GpIo.implOf_any (some ⟨b, off, none⟩) ka cap kc U (nthG U k).key y (HR.out.1.below stays_ga (grow_on HB.out hy)) (HA.out.reads.1.below hy) hl HF.out.klen (fun x hx => (HR.out.2.1 x hx).klen)
      generalize hW1 : z.alloc (.cells #[.int .i64 (nthG U k).n, .slice ka (nthG U k).key.length kc, .int .i64 (nthG U k).b, .int .i64 (nthG U k).t, .slice ad (nthG U k).P.length cp] 67) = W1
      have HZ1 : Hid (Below z.heap.size z W1) := by rw [← hW1]; exact Go.Joins.below_alloc1 z _
      have BG : Hid (Blk W1 z.heap.size #[.int .i64 (nthG U k).n, .slice ka (nthG U k).key.length kc, .int .i64 (nthG U k).b, .int .i64 (nthG U k).t, .slice ad (nthG U k).P.length cp] 67) := by rw [← hW1]; exact Blk.new _ _ _
      clear hat
      cases hg1 : oneOk by' (nthG U k) with
      | false =>
        have HE : Hid (groupsB U by' = false) := groups_bad hlt (by unfold okG; rw [hg1]; rfl)
        go_upto_region 6 with fail
        try rw [hW1]
        clear hW1 x0 x1 x2 x3 x4
        have HS : Hid (∀ w', Below W1.heap.size W1 w' → w'.cell? ⟨z.heap.size, 0, none⟩ = some (.int .i64 (nthG U k).n) ∧ w'.cell? ⟨z.heap.size, 1, none⟩ = some (.slice ka (nthG U k).key.length kc) ∧ w'.cell? ⟨z.heap.size, 2, none⟩ = some (.int .i64 (nthG U k).b) ∧ w'.cell? ⟨z.heap.size, 3, none⟩ = some (.int .i64 (nthG U k).t) ∧ w'.cell? ⟨z.heap.size, 4, none⟩ = some (.slice ad (nthG U k).P.length cp)) := fun w' h => ⟨(BG.out.grow h).cell 0, (BG.out.grow h).cell 1, (BG.out.grow h).cell 2, (BG.out.grow h).cell 3, (BG.out.grow h).cell 4⟩
        refine wp_region_held_drew (S := fun w' => w'.cell? ⟨z.heap.size, 0, none⟩ = some (.int .i64 (nthG U k).n) ∧ w'.cell? ⟨z.heap.size, 1, none⟩ = some (.slice ka (nthG U k).key.length kc) ∧ w'.cell? ⟨z.heap.size, 2, none⟩ = some (.int .i64 (nthG U k).b) ∧ w'.cell? ⟨z.heap.size, 3, none⟩ = some (.int .i64 (nthG U k).t) ∧ w'.cell? ⟨z.heap.size, 4, none⟩ = some (.slice ad (nthG U k).P.length cp)) (by kernel_rfl) (HS.out _ (Below.refl W1.heap.size W1).drew) (fun hHeld => ?_)
        refine wpAnyH_take (i := 0) (oi := { dst := some 17, op := Op.load 67 (Operand.tmp 6), type := 67, pos := "l12_groups.go:44", after := #[], guard := none }) (v := ?vq1x0) rfl (by kernel_rfl) (by kernel_rfl) (by kernel_rfl) (fun _ _ _ h => h) (Or.inl ⟨by rfl, ?hyq1x0⟩) hHeld ?_
        case hyq1x0 => (intro w hSw; (try dsimp only at hSw); go_simp <;> with_reducible rfl)
        try simp only [Act.put, List.setIfInBounds_toArray, List.set_cons_zero, List.set_cons_succ]
        refine wpAnyH_take (i := 1) (oi := { dst := some 18, op := Op.move (Operand.tmp 1), type := 23, pos := "l12_groups.go:44", after := #[], guard := none }) (v := ?vq1x1) rfl (by kernel_rfl) (by kernel_rfl) (by kernel_rfl) (fun _ _ _ h => h) (Or.inl ⟨by rfl, ?hyq1x1⟩) hHeld ?_
        case hyq1x1 => (intro w hSw; (try dsimp only at hSw); go_simp <;> with_reducible rfl)
        try simp only [Act.put, List.setIfInBounds_toArray, List.set_cons_zero, List.set_cons_succ]
        refine wpAnyH_ready (rs := [2]) (by kernel_rfl) (by simp) ?_
        refine AllReadyH.cons (o := { dst := some 19, op := Op.call { callee := Callee.value (Operand.func 41), args := #[Operand.tmp 17, Operand.tmp 18], argTypes := #[67, 23] }, type := 4, pos := "l12_groups.go:44", after := #[{ on := 0, ground := Ground.data }, { on := 1, ground := Ground.data }], guard := none }) rfl (fun K hK => ?_) AllReadyH.nil
        go_simp
        refine (HOK.out _ (grow_on HZ1.out (Below.refl W1.heap.size W1).drew)).mono ?_
        rintro r wyq1x2 ⟨rfl, hb1⟩
        have Z1 : Hid (Below W1.heap.size W1 wyq1x2) := grow_on (Below.refl W1.heap.size W1).drew hb1
        clear hb1
        try rw [hg1]
        clear hHeld
        refine hK.out _ _ (HS.out _ Z1.out) (fun hHeld => ?_)
        clear hK K
        try simp only [Act.put, List.setIfInBounds_toArray, List.set_cons_zero, List.set_cons_succ]
        refine wpAnyH_take (i := 3) (oi := { dst := some 20, op := Op.unOp UnOp.not 4 (Operand.tmp 19), type := 4, pos := "l12_groups.go:44", after := #[{ on := 2, ground := Ground.data }], guard := none }) (v := ?vq1x3) rfl (by kernel_rfl) (by kernel_rfl) (by kernel_rfl) (fun _ _ _ h => h) (Or.inl ⟨by rfl, ?hyq1x3⟩) hHeld ?_
        case hyq1x3 => (intro w hSw; (try dsimp only at hSw); go_simp <;> with_reducible rfl)
        try simp only [Act.put, List.setIfInBounds_toArray, List.set_cons_zero, List.set_cons_succ]
        refine wpAnyH_take (i := 4) (oi := { dst := some 21, op := Op.move (Operand.tmp 20), type := 4, pos := "l12_groups.go:44", after := #[{ on := 3, ground := Ground.data }, { on := 2, ground := Ground.chain }], guard := none }) (v := ?vq1x4) rfl (by kernel_rfl) (by kernel_rfl) (by kernel_rfl) (fun _ _ _ h => h) (Or.inl ⟨by rfl, ?hyq1x4⟩) hHeld ?_
        case hyq1x4 => (intro w hSw; (try dsimp only at hSw); go_simp <;> with_reducible rfl)
        try simp only [Act.put, List.setIfInBounds_toArray, List.set_cons_zero, List.set_cons_succ]
        refine wpAnyH_take (i := 5) (oi := { dst := some 22, op := Op.move (Operand.tmp 5), type := 3, pos := "l12_groups.go:44", after := #[{ on := 4, ground := Ground.guard }], guard := some (4, false) }) (v := undef) rfl (by kernel_rfl) (by kernel_rfl) (by kernel_rfl) (fun _ _ _ h => h) (Or.inr ⟨by rfl, rfl⟩) hHeld ?_
        try simp only [Act.put, List.setIfInBounds_toArray, List.set_cons_zero, List.set_cons_succ]
        refine wpAnyH_take (i := 6) (oi := { dst := some 23, op := Op.binOp BinOp.gtr 3 (Operand.tmp 22) (Operand.const (Value.int IntKind.i64 0)) 3, type := 4, pos := "l12_groups.go:44", after := #[{ on := 5, ground := Ground.data }, { on := 4, ground := Ground.guard }], guard := some (4, false) }) (v := undef) rfl (by kernel_rfl) (by kernel_rfl) (by kernel_rfl) (fun _ _ _ h => h) (Or.inr ⟨by rfl, rfl⟩) hHeld ?_
        try simp only [Act.put, List.setIfInBounds_toArray, List.set_cons_zero, List.set_cons_succ]
        refine wpAnyH_take (i := 7) (oi := { dst := some 24, op := Op.move (Operand.tmp 23), type := 4, pos := "l12_groups.go:44", after := #[{ on := 6, ground := Ground.data }, { on := 4, ground := Ground.chain }, { on := 4, ground := Ground.guard }], guard := some (4, false) }) (v := undef) rfl (by kernel_rfl) (by kernel_rfl) (by kernel_rfl) (fun _ _ _ h => h) (Or.inr ⟨by rfl, rfl⟩) hHeld ?_
        try simp only [Act.put, List.setIfInBounds_toArray, List.set_cons_zero, List.set_cons_succ]
        refine wpAnyH_take (i := 8) (oi := { dst := some 25, op := Op.move (Operand.tmp 0), type := 27, pos := "l12_groups.go:44", after := #[{ on := 7, ground := Ground.guard }], guard := some (7, true) }) (v := undef) rfl (by kernel_rfl) (by kernel_rfl) (by kernel_rfl) (fun _ _ _ h => h) (Or.inr ⟨by rfl, rfl⟩) hHeld ?_
        try simp only [Act.put, List.setIfInBounds_toArray, List.set_cons_zero, List.set_cons_succ]
        refine wpAnyH_take (i := 9) (oi := { dst := some 26, op := Op.move (Operand.tmp 5), type := 3, pos := "l12_groups.go:44", after := #[{ on := 7, ground := Ground.guard }], guard := some (7, true) }) (v := undef) rfl (by kernel_rfl) (by kernel_rfl) (by kernel_rfl) (fun _ _ _ h => h) (Or.inr ⟨by rfl, rfl⟩) hHeld ?_
        try simp only [Act.put, List.setIfInBounds_toArray, List.set_cons_zero, List.set_cons_succ]
        refine wpAnyH_take (i := 10) (oi := { dst := some 27, op := Op.binOp BinOp.sub 3 (Operand.tmp 26) (Operand.const (Value.int IntKind.i64 1)) 3, type := 3, pos := "l12_groups.go:44", after := #[{ on := 9, ground := Ground.data }, { on := 7, ground := Ground.guard }], guard := some (7, true) }) (v := undef) rfl (by kernel_rfl) (by kernel_rfl) (by kernel_rfl) (fun _ _ _ h => h) (Or.inr ⟨by rfl, rfl⟩) hHeld ?_
        try simp only [Act.put, List.setIfInBounds_toArray, List.set_cons_zero, List.set_cons_succ]
        refine wpAnyH_take (i := 11) (oi := { dst := some 28, op := Op.indexAddr 27 (Operand.tmp 25) (Operand.tmp 27), type := 0, pos := "l12_groups.go:44", after := #[{ on := 8, ground := Ground.data }, { on := 10, ground := Ground.data }, { on := 7, ground := Ground.guard }], guard := some (7, true) }) (v := undef) rfl (by kernel_rfl) (by kernel_rfl) (by kernel_rfl) (fun _ _ _ h => h) (Or.inr ⟨by rfl, rfl⟩) hHeld ?_
        try simp only [Act.put, List.setIfInBounds_toArray, List.set_cons_zero, List.set_cons_succ]
        refine wpAnyH_take (i := 12) (oi := { dst := some 29, op := Op.fieldAddr 67 (Operand.tmp 28) 0, type := 0, pos := "l12_groups.go:44", after := #[{ on := 11, ground := Ground.data }, { on := 7, ground := Ground.guard }], guard := some (7, true) }) (v := undef) rfl (by kernel_rfl) (by kernel_rfl) (by kernel_rfl) (fun _ _ _ h => h) (Or.inr ⟨by rfl, rfl⟩) hHeld ?_
        try simp only [Act.put, List.setIfInBounds_toArray, List.set_cons_zero, List.set_cons_succ]
        refine wpAnyH_take (i := 13) (oi := { dst := some 30, op := Op.load 3 (Operand.tmp 29), type := 3, pos := "l12_groups.go:44", after := #[{ on := 12, ground := Ground.data }, { on := 7, ground := Ground.guard }], guard := some (7, true) }) (v := undef) rfl (by kernel_rfl) (by kernel_rfl) (by kernel_rfl) (fun _ _ _ h => h) (Or.inr ⟨by rfl, rfl⟩) hHeld ?_
        try simp only [Act.put, List.setIfInBounds_toArray, List.set_cons_zero, List.set_cons_succ]
        refine wpAnyH_take (i := 14) (oi := { dst := some 31, op := Op.fieldAddr 67 (Operand.tmp 6) 0, type := 0, pos := "l12_groups.go:44", after := #[{ on := 7, ground := Ground.guard }], guard := some (7, true) }) (v := undef) rfl (by kernel_rfl) (by kernel_rfl) (by kernel_rfl) (fun _ _ _ h => h) (Or.inr ⟨by rfl, rfl⟩) hHeld ?_
        try simp only [Act.put, List.setIfInBounds_toArray, List.set_cons_zero, List.set_cons_succ]
        refine wpAnyH_take (i := 15) (oi := { dst := some 32, op := Op.load 3 (Operand.tmp 31), type := 3, pos := "l12_groups.go:44", after := #[{ on := 14, ground := Ground.data }, { on := 7, ground := Ground.guard }], guard := some (7, true) }) (v := undef) rfl (by kernel_rfl) (by kernel_rfl) (by kernel_rfl) (fun _ _ _ h => h) (Or.inr ⟨by rfl, rfl⟩) hHeld ?_
        try simp only [Act.put, List.setIfInBounds_toArray, List.set_cons_zero, List.set_cons_succ]
        refine wpAnyH_take (i := 16) (oi := { dst := some 33, op := Op.binOp BinOp.geq 3 (Operand.tmp 30) (Operand.tmp 32) 3, type := 4, pos := "l12_groups.go:44", after := #[{ on := 13, ground := Ground.data }, { on := 15, ground := Ground.data }, { on := 7, ground := Ground.guard }], guard := some (7, true) }) (v := undef) rfl (by kernel_rfl) (by kernel_rfl) (by kernel_rfl) (fun _ _ _ h => h) (Or.inr ⟨by rfl, rfl⟩) hHeld ?_
        try simp only [Act.put, List.setIfInBounds_toArray, List.set_cons_zero, List.set_cons_succ]
        refine wpAnyH_take (i := 17) (oi := { dst := some 34, op := Op.pick (Operand.tmp 24) (Operand.tmp 33) (Operand.const (Value.bool false)), type := 4, pos := "l12_groups.go:44", after := #[{ on := 7, ground := Ground.data }, { on := 16, ground := Ground.data }, { on := 4, ground := Ground.guard }], guard := some (4, false) }) (v := undef) rfl (by kernel_rfl) (by kernel_rfl) (by kernel_rfl) (fun _ _ _ h => h) (Or.inr ⟨by rfl, rfl⟩) hHeld ?_
        try simp only [Act.put, List.setIfInBounds_toArray, List.set_cons_zero, List.set_cons_succ]
        refine wpAnyH_take (i := 18) (oi := { dst := some 35, op := Op.pick (Operand.tmp 21) (Operand.const (Value.bool true)) (Operand.tmp 34), type := 4, pos := "l12_groups.go:44", after := #[{ on := 4, ground := Ground.data }, { on := 17, ground := Ground.data }], guard := none }) (v := ?vq1x18) rfl (by kernel_rfl) (by kernel_rfl) (by kernel_rfl) (fun _ _ _ h => h) (Or.inl ⟨by rfl, ?hyq1x18⟩) hHeld ?_
        case hyq1x18 => (intro w hSw; (try dsimp only at hSw); go_simp <;> with_reducible rfl)
        try simp only [Act.put, List.setIfInBounds_toArray, List.set_cons_zero, List.set_cons_succ]
        refine wpAnyH_done (by kernel_rfl) ?_ _
        clear hHeld HS
        go_wp2
        go_ret
        exact ⟨retB HE.out.symm, grow_on HB.out (grow_on HZ1.out Z1.out)⟩
      | true =>
        by_cases k0 : k = 0
        ·
          have K0 : Hid (k = 0) := k0
          have bk : decide (0 < k) = false := decide_eq_false (by omega)
          clear k0
          go_upto_region 6 with fail
          try rw [hW1]
          clear hW1 x0 x1 x2 x3 x4
          have HS : Hid (∀ w', Below W1.heap.size W1 w' → w'.cell? ⟨z.heap.size, 0, none⟩ = some (.int .i64 (nthG U k).n) ∧ w'.cell? ⟨z.heap.size, 1, none⟩ = some (.slice ka (nthG U k).key.length kc) ∧ w'.cell? ⟨z.heap.size, 2, none⟩ = some (.int .i64 (nthG U k).b) ∧ w'.cell? ⟨z.heap.size, 3, none⟩ = some (.int .i64 (nthG U k).t) ∧ w'.cell? ⟨z.heap.size, 4, none⟩ = some (.slice ad (nthG U k).P.length cp)) := fun w' h => ⟨(BG.out.grow h).cell 0, (BG.out.grow h).cell 1, (BG.out.grow h).cell 2, (BG.out.grow h).cell 3, (BG.out.grow h).cell 4⟩
          refine wp_region_held_drew (S := fun w' => w'.cell? ⟨z.heap.size, 0, none⟩ = some (.int .i64 (nthG U k).n) ∧ w'.cell? ⟨z.heap.size, 1, none⟩ = some (.slice ka (nthG U k).key.length kc) ∧ w'.cell? ⟨z.heap.size, 2, none⟩ = some (.int .i64 (nthG U k).b) ∧ w'.cell? ⟨z.heap.size, 3, none⟩ = some (.int .i64 (nthG U k).t) ∧ w'.cell? ⟨z.heap.size, 4, none⟩ = some (.slice ad (nthG U k).P.length cp)) (by kernel_rfl) (HS.out _ (Below.refl W1.heap.size W1).drew) (fun hHeld => ?_)
          refine wpAnyH_take (i := 0) (oi := { dst := some 17, op := Op.load 67 (Operand.tmp 6), type := 67, pos := "l12_groups.go:44", after := #[], guard := none }) (v := ?vq2x0) rfl (by kernel_rfl) (by kernel_rfl) (by kernel_rfl) (fun _ _ _ h => h) (Or.inl ⟨by rfl, ?hyq2x0⟩) hHeld ?_
          case hyq2x0 => (intro w hSw; (try dsimp only at hSw); go_simp <;> with_reducible rfl)
          try simp only [Act.put, List.setIfInBounds_toArray, List.set_cons_zero, List.set_cons_succ]
          refine wpAnyH_take (i := 1) (oi := { dst := some 18, op := Op.move (Operand.tmp 1), type := 23, pos := "l12_groups.go:44", after := #[], guard := none }) (v := ?vq2x1) rfl (by kernel_rfl) (by kernel_rfl) (by kernel_rfl) (fun _ _ _ h => h) (Or.inl ⟨by rfl, ?hyq2x1⟩) hHeld ?_
          case hyq2x1 => (intro w hSw; (try dsimp only at hSw); go_simp <;> with_reducible rfl)
          try simp only [Act.put, List.setIfInBounds_toArray, List.set_cons_zero, List.set_cons_succ]
          refine wpAnyH_ready (rs := [2]) (by kernel_rfl) (by simp) ?_
          refine AllReadyH.cons (o := { dst := some 19, op := Op.call { callee := Callee.value (Operand.func 41), args := #[Operand.tmp 17, Operand.tmp 18], argTypes := #[67, 23] }, type := 4, pos := "l12_groups.go:44", after := #[{ on := 0, ground := Ground.data }, { on := 1, ground := Ground.data }], guard := none }) rfl (fun K hK => ?_) AllReadyH.nil
          go_simp
          refine (HOK.out _ (grow_on HZ1.out (Below.refl W1.heap.size W1).drew)).mono ?_
          rintro r wyq2x2 ⟨rfl, hb1⟩
          have Z1 : Hid (Below W1.heap.size W1 wyq2x2) := grow_on (Below.refl W1.heap.size W1).drew hb1
          clear hb1
          try rw [hg1]
          clear hHeld
          refine hK.out _ _ (HS.out _ Z1.out) (fun hHeld => ?_)
          clear hK K
          try simp only [Act.put, List.setIfInBounds_toArray, List.set_cons_zero, List.set_cons_succ]
          refine wpAnyH_take (i := 3) (oi := { dst := some 20, op := Op.unOp UnOp.not 4 (Operand.tmp 19), type := 4, pos := "l12_groups.go:44", after := #[{ on := 2, ground := Ground.data }], guard := none }) (v := ?vq2x3) rfl (by kernel_rfl) (by kernel_rfl) (by kernel_rfl) (fun _ _ _ h => h) (Or.inl ⟨by rfl, ?hyq2x3⟩) hHeld ?_
          case hyq2x3 => (intro w hSw; (try dsimp only at hSw); go_simp <;> with_reducible rfl)
          try simp only [Act.put, List.setIfInBounds_toArray, List.set_cons_zero, List.set_cons_succ]
          refine wpAnyH_take (i := 4) (oi := { dst := some 21, op := Op.move (Operand.tmp 20), type := 4, pos := "l12_groups.go:44", after := #[{ on := 3, ground := Ground.data }, { on := 2, ground := Ground.chain }], guard := none }) (v := ?vq2x4) rfl (by kernel_rfl) (by kernel_rfl) (by kernel_rfl) (fun _ _ _ h => h) (Or.inl ⟨by rfl, ?hyq2x4⟩) hHeld ?_
          case hyq2x4 => (intro w hSw; (try dsimp only at hSw); go_simp <;> with_reducible rfl)
          try simp only [Act.put, List.setIfInBounds_toArray, List.set_cons_zero, List.set_cons_succ]
          refine wpAnyH_take (i := 5) (oi := { dst := some 22, op := Op.move (Operand.tmp 5), type := 3, pos := "l12_groups.go:44", after := #[{ on := 4, ground := Ground.guard }], guard := some (4, false) }) (v := ?vq2x5) rfl (by kernel_rfl) (by kernel_rfl) (by kernel_rfl) (fun _ _ _ h => h) (Or.inl ⟨by rfl, ?hyq2x5⟩) hHeld ?_
          case hyq2x5 => (intro w hSw; (try dsimp only at hSw); go_simp <;> with_reducible rfl)
          try simp only [Act.put, List.setIfInBounds_toArray, List.set_cons_zero, List.set_cons_succ]
          refine wpAnyH_take (i := 6) (oi := { dst := some 23, op := Op.binOp BinOp.gtr 3 (Operand.tmp 22) (Operand.const (Value.int IntKind.i64 0)) 3, type := 4, pos := "l12_groups.go:44", after := #[{ on := 5, ground := Ground.data }, { on := 4, ground := Ground.guard }], guard := some (4, false) }) (v := ?vq2x6) rfl (by kernel_rfl) (by kernel_rfl) (by kernel_rfl) (fun _ _ _ h => h) (Or.inl ⟨by rfl, ?hyq2x6⟩) hHeld ?_
          case hyq2x6 => (intro w hSw; (try dsimp only at hSw); go_simp <;> with_reducible rfl)
          try simp only [Act.put, List.setIfInBounds_toArray, List.set_cons_zero, List.set_cons_succ]
          refine wpAnyH_take (i := 7) (oi := { dst := some 24, op := Op.move (Operand.tmp 23), type := 4, pos := "l12_groups.go:44", after := #[{ on := 6, ground := Ground.data }, { on := 4, ground := Ground.chain }, { on := 4, ground := Ground.guard }], guard := some (4, false) }) (v := ?vq2x7) rfl (by kernel_rfl) (by kernel_rfl) (by kernel_rfl) (fun _ _ _ h => h) (Or.inl ⟨by rfl, ?hyq2x7⟩) hHeld ?_
          case hyq2x7 => (intro w hSw; (try dsimp only at hSw); go_simp <;> with_reducible rfl)
          try simp only [Act.put, List.setIfInBounds_toArray, List.set_cons_zero, List.set_cons_succ]
          refine wpAnyH_take (i := 8) (oi := { dst := some 25, op := Op.move (Operand.tmp 0), type := 27, pos := "l12_groups.go:44", after := #[{ on := 7, ground := Ground.guard }], guard := some (7, true) }) (v := undef) rfl (by kernel_rfl) (by kernel_rfl) (by kernel_rfl) (fun _ _ _ h => h) (Or.inr ⟨by rfl, rfl⟩) hHeld ?_
          try simp only [Act.put, List.setIfInBounds_toArray, List.set_cons_zero, List.set_cons_succ]
          refine wpAnyH_take (i := 9) (oi := { dst := some 26, op := Op.move (Operand.tmp 5), type := 3, pos := "l12_groups.go:44", after := #[{ on := 7, ground := Ground.guard }], guard := some (7, true) }) (v := undef) rfl (by kernel_rfl) (by kernel_rfl) (by kernel_rfl) (fun _ _ _ h => h) (Or.inr ⟨by rfl, rfl⟩) hHeld ?_
          try simp only [Act.put, List.setIfInBounds_toArray, List.set_cons_zero, List.set_cons_succ]
          refine wpAnyH_take (i := 10) (oi := { dst := some 27, op := Op.binOp BinOp.sub 3 (Operand.tmp 26) (Operand.const (Value.int IntKind.i64 1)) 3, type := 3, pos := "l12_groups.go:44", after := #[{ on := 9, ground := Ground.data }, { on := 7, ground := Ground.guard }], guard := some (7, true) }) (v := undef) rfl (by kernel_rfl) (by kernel_rfl) (by kernel_rfl) (fun _ _ _ h => h) (Or.inr ⟨by rfl, rfl⟩) hHeld ?_
          try simp only [Act.put, List.setIfInBounds_toArray, List.set_cons_zero, List.set_cons_succ]
          refine wpAnyH_take (i := 11) (oi := { dst := some 28, op := Op.indexAddr 27 (Operand.tmp 25) (Operand.tmp 27), type := 0, pos := "l12_groups.go:44", after := #[{ on := 8, ground := Ground.data }, { on := 10, ground := Ground.data }, { on := 7, ground := Ground.guard }], guard := some (7, true) }) (v := undef) rfl (by kernel_rfl) (by kernel_rfl) (by kernel_rfl) (fun _ _ _ h => h) (Or.inr ⟨by rfl, rfl⟩) hHeld ?_
          try simp only [Act.put, List.setIfInBounds_toArray, List.set_cons_zero, List.set_cons_succ]
          refine wpAnyH_take (i := 12) (oi := { dst := some 29, op := Op.fieldAddr 67 (Operand.tmp 28) 0, type := 0, pos := "l12_groups.go:44", after := #[{ on := 11, ground := Ground.data }, { on := 7, ground := Ground.guard }], guard := some (7, true) }) (v := undef) rfl (by kernel_rfl) (by kernel_rfl) (by kernel_rfl) (fun _ _ _ h => h) (Or.inr ⟨by rfl, rfl⟩) hHeld ?_
          try simp only [Act.put, List.setIfInBounds_toArray, List.set_cons_zero, List.set_cons_succ]
          refine wpAnyH_take (i := 13) (oi := { dst := some 30, op := Op.load 3 (Operand.tmp 29), type := 3, pos := "l12_groups.go:44", after := #[{ on := 12, ground := Ground.data }, { on := 7, ground := Ground.guard }], guard := some (7, true) }) (v := undef) rfl (by kernel_rfl) (by kernel_rfl) (by kernel_rfl) (fun _ _ _ h => h) (Or.inr ⟨by rfl, rfl⟩) hHeld ?_
          try simp only [Act.put, List.setIfInBounds_toArray, List.set_cons_zero, List.set_cons_succ]
          refine wpAnyH_take (i := 14) (oi := { dst := some 31, op := Op.fieldAddr 67 (Operand.tmp 6) 0, type := 0, pos := "l12_groups.go:44", after := #[{ on := 7, ground := Ground.guard }], guard := some (7, true) }) (v := undef) rfl (by kernel_rfl) (by kernel_rfl) (by kernel_rfl) (fun _ _ _ h => h) (Or.inr ⟨by rfl, rfl⟩) hHeld ?_
          try simp only [Act.put, List.setIfInBounds_toArray, List.set_cons_zero, List.set_cons_succ]
          refine wpAnyH_take (i := 15) (oi := { dst := some 32, op := Op.load 3 (Operand.tmp 31), type := 3, pos := "l12_groups.go:44", after := #[{ on := 14, ground := Ground.data }, { on := 7, ground := Ground.guard }], guard := some (7, true) }) (v := undef) rfl (by kernel_rfl) (by kernel_rfl) (by kernel_rfl) (fun _ _ _ h => h) (Or.inr ⟨by rfl, rfl⟩) hHeld ?_
          try simp only [Act.put, List.setIfInBounds_toArray, List.set_cons_zero, List.set_cons_succ]
          refine wpAnyH_take (i := 16) (oi := { dst := some 33, op := Op.binOp BinOp.geq 3 (Operand.tmp 30) (Operand.tmp 32) 3, type := 4, pos := "l12_groups.go:44", after := #[{ on := 13, ground := Ground.data }, { on := 15, ground := Ground.data }, { on := 7, ground := Ground.guard }], guard := some (7, true) }) (v := undef) rfl (by kernel_rfl) (by kernel_rfl) (by kernel_rfl) (fun _ _ _ h => h) (Or.inr ⟨by rfl, rfl⟩) hHeld ?_
          try simp only [Act.put, List.setIfInBounds_toArray, List.set_cons_zero, List.set_cons_succ]
          refine wpAnyH_take (i := 17) (oi := { dst := some 34, op := Op.pick (Operand.tmp 24) (Operand.tmp 33) (Operand.const (Value.bool false)), type := 4, pos := "l12_groups.go:44", after := #[{ on := 7, ground := Ground.data }, { on := 16, ground := Ground.data }, { on := 4, ground := Ground.guard }], guard := some (4, false) }) (v := ?vq2x17) rfl (by kernel_rfl) (by kernel_rfl) (by kernel_rfl) (fun _ _ _ h => h) (Or.inl ⟨by rfl, ?hyq2x17⟩) hHeld ?_
          case hyq2x17 => (intro w hSw; (try dsimp only at hSw); go_simp <;> with_reducible rfl)
          try simp only [Act.put, List.setIfInBounds_toArray, List.set_cons_zero, List.set_cons_succ]
          refine wpAnyH_take (i := 18) (oi := { dst := some 35, op := Op.pick (Operand.tmp 21) (Operand.const (Value.bool true)) (Operand.tmp 34), type := 4, pos := "l12_groups.go:44", after := #[{ on := 4, ground := Ground.data }, { on := 17, ground := Ground.data }], guard := none }) (v := ?vq2x18) rfl (by kernel_rfl) (by kernel_rfl) (by kernel_rfl) (fun _ _ _ h => h) (Or.inl ⟨by rfl, ?hyq2x18⟩) hHeld ?_
          case hyq2x18 => (intro w hSw; (try dsimp only at hSw); go_simp <;> with_reducible rfl)
          try simp only [Act.put, List.setIfInBounds_toArray, List.set_cons_zero, List.set_cons_succ]
          refine wpAnyH_done (by kernel_rfl) ?_ _
          clear hHeld HS
          have HUP : Hid (upOk U k = true) := by unfold Hid upOk; rw [decide_eq_true K0.out]; rfl
          have HG1 : Hid (oneOk by' (nthG U k) = true) := hg1
          have HZ2 : Hid (Below z.heap.size z _) := grow_on HZ1.out Z1.out
          have BG2 := BG.out.grow Z1.out
          have g1 := BG2.cell 1
          simp at g1
          clear hg1 HOK HSP BG2
          cases hd : keyOk U k with
          | true =>
            have e1 := first_here hlt hd
            have HQ : Hid (ofI (keyIs (nthG U k).key) U = (k : Int)) := e1
            have HD : Hid (keyOk U k = true) := hd
            have en : ((k : Int) != (k : Int)) = false := by simp
            clear e1 hd
            go_wp2_with fail
            refine (HOF.out _ HZ2.out).mono ?_
            rintro e w3 ⟨rfl, hb3⟩
            have HZ3 : Hid (Below z.heap.size z w3) := grow_on HZ2.out hb3
            rw [HQ.out]
            have HU1 : Hid (∀ i, i < k + 1 → okG U by' i = true) := fun i hi => by
              by_cases e : i = k
              · rw [e]; unfold okG; rw [HG1.out, HUP.out, HD.out]; rfl
              · exact HU.out i (by omega)
            clear hb3 g1 HOF
            go_wp2
            go_roundw
            case rel => exact ⟨k + 1, by go_num, by omega, HU1.out, grow_on HB.out HZ3.out⟩
            case measure => simp [intOf]; omega
          | false =>
            have e1 := first_other hlt hd
            have HE : Hid (groupsB U by' = false) := groups_bad hlt (by unfold okG; rw [hd]; simp)
            generalize hq : ofI (keyIs (nthG U k).key) U = q at *
            have en : (q != (k : Int)) = true := by simpa using e1
            clear e1 hd hq
            go_wp2_with fail
            refine (HOF.out _ HZ2.out).mono ?_
            rintro e w3 ⟨rfl, hb3⟩
            have HZ3 : Hid (Below z.heap.size z w3) := grow_on HZ2.out hb3
            clear hb3 g1 HOF
            go_wp2
            go_ret
            exact ⟨retB HE.out.symm, grow_on HB.out HZ3.out⟩
        · have hk0 : (0 : Int) < (k : Int) := by omega
          have bk : decide (0 < k) = true := decide_eq_true (by omega)
          obtain ⟨m, hm⟩ : ∃ m, k = m + 1 := ⟨k - 1, by omega⟩
          have em : (k : Int) - 1 = (m : Int) := by omega
          have hml : m < U.length := by omega
          have hml' : (m : Int) < (U.length : Int) := by omega
          have hwm : IntKind.i64.wrap (m : Int) = (m : Int) := by rw [IntKind.wrap_i64]; omega
          have hmk : k - 1 = m := by omega
          obtain ⟨_, _, _, _, hatm⟩ := HRR.out z (Below.refl _ _) m hml
          have hmc := hatm.c0
          clear hatm hm
          by_cases hup : (nthG U m).n < (nthG U k).n
          ·
            have hge : decide ((nthG U m).n ≥ (nthG U k).n) = false := decide_eq_false (by omega)
            have hge2 : decide ((nthG U k).n ≤ (nthG U m).n) = false := decide_eq_false (by omega)
            have hng : ¬ (nthG U k).n ≤ (nthG U m).n := by omega
            have HU0 : Hid (upOk U k = true) := by unfold Hid upOk; rw [hmk, decide_eq_true hup]; simp
            clear hmk k0 hup
            go_upto_region 6 with fail
            try rw [hW1]
            clear hW1 x0 x1 x2 x3 x4
            have HS : Hid (∀ w', Below W1.heap.size W1 w' → w'.cell? ⟨z.heap.size, 0, none⟩ = some (.int .i64 (nthG U k).n) ∧ w'.cell? ⟨z.heap.size, 1, none⟩ = some (.slice ka (nthG U k).key.length kc) ∧ w'.cell? ⟨z.heap.size, 2, none⟩ = some (.int .i64 (nthG U k).b) ∧ w'.cell? ⟨z.heap.size, 3, none⟩ = some (.int .i64 (nthG U k).t) ∧ w'.cell? ⟨z.heap.size, 4, none⟩ = some (.slice ad (nthG U k).P.length cp) ∧ w'.cell? ⟨b, off + m * 5, none⟩ = some (.int .i64 (nthG U m).n)) := fun w' h => ⟨(BG.out.grow h).cell 0, (BG.out.grow h).cell 1, (BG.out.grow h).cell 2, (BG.out.grow h).cell 3, (BG.out.grow h).cell 4, ((grow_on HZ1.out h).cell (p := ⟨b, off + m * 5, none⟩) hbz).trans hmc⟩
            refine wp_region_held_drew (S := fun w' => w'.cell? ⟨z.heap.size, 0, none⟩ = some (.int .i64 (nthG U k).n) ∧ w'.cell? ⟨z.heap.size, 1, none⟩ = some (.slice ka (nthG U k).key.length kc) ∧ w'.cell? ⟨z.heap.size, 2, none⟩ = some (.int .i64 (nthG U k).b) ∧ w'.cell? ⟨z.heap.size, 3, none⟩ = some (.int .i64 (nthG U k).t) ∧ w'.cell? ⟨z.heap.size, 4, none⟩ = some (.slice ad (nthG U k).P.length cp) ∧ w'.cell? ⟨b, off + m * 5, none⟩ = some (.int .i64 (nthG U m).n)) (by kernel_rfl) (HS.out _ (Below.refl W1.heap.size W1).drew) (fun hHeld => ?_)
            refine wpAnyH_take (i := 0) (oi := { dst := some 17, op := Op.load 67 (Operand.tmp 6), type := 67, pos := "l12_groups.go:44", after := #[], guard := none }) (v := ?vq3x0) rfl (by kernel_rfl) (by kernel_rfl) (by kernel_rfl) (fun _ _ _ h => h) (Or.inl ⟨by rfl, ?hyq3x0⟩) hHeld ?_
            case hyq3x0 => (intro w hSw; (try dsimp only at hSw); go_simp <;> with_reducible rfl)
            try simp only [Act.put, List.setIfInBounds_toArray, List.set_cons_zero, List.set_cons_succ]
            refine wpAnyH_take (i := 1) (oi := { dst := some 18, op := Op.move (Operand.tmp 1), type := 23, pos := "l12_groups.go:44", after := #[], guard := none }) (v := ?vq3x1) rfl (by kernel_rfl) (by kernel_rfl) (by kernel_rfl) (fun _ _ _ h => h) (Or.inl ⟨by rfl, ?hyq3x1⟩) hHeld ?_
            case hyq3x1 => (intro w hSw; (try dsimp only at hSw); go_simp <;> with_reducible rfl)
            try simp only [Act.put, List.setIfInBounds_toArray, List.set_cons_zero, List.set_cons_succ]
            refine wpAnyH_ready (rs := [2]) (by kernel_rfl) (by simp) ?_
            refine AllReadyH.cons (o := { dst := some 19, op := Op.call { callee := Callee.value (Operand.func 41), args := #[Operand.tmp 17, Operand.tmp 18], argTypes := #[67, 23] }, type := 4, pos := "l12_groups.go:44", after := #[{ on := 0, ground := Ground.data }, { on := 1, ground := Ground.data }], guard := none }) rfl (fun K hK => ?_) AllReadyH.nil
            go_simp
            refine (HOK.out _ (grow_on HZ1.out (Below.refl W1.heap.size W1).drew)).mono ?_
            rintro r wyq3x2 ⟨rfl, hb1⟩
            have Z1 : Hid (Below W1.heap.size W1 wyq3x2) := grow_on (Below.refl W1.heap.size W1).drew hb1
            clear hb1
            try rw [hg1]
            clear hHeld
            refine hK.out _ _ (HS.out _ Z1.out) (fun hHeld => ?_)
            clear hK K
            try simp only [Act.put, List.setIfInBounds_toArray, List.set_cons_zero, List.set_cons_succ]
            refine wpAnyH_take (i := 3) (oi := { dst := some 20, op := Op.unOp UnOp.not 4 (Operand.tmp 19), type := 4, pos := "l12_groups.go:44", after := #[{ on := 2, ground := Ground.data }], guard := none }) (v := ?vq3x3) rfl (by kernel_rfl) (by kernel_rfl) (by kernel_rfl) (fun _ _ _ h => h) (Or.inl ⟨by rfl, ?hyq3x3⟩) hHeld ?_
            case hyq3x3 => (intro w hSw; (try dsimp only at hSw); go_simp <;> with_reducible rfl)
            try simp only [Act.put, List.setIfInBounds_toArray, List.set_cons_zero, List.set_cons_succ]
            refine wpAnyH_take (i := 4) (oi := { dst := some 21, op := Op.move (Operand.tmp 20), type := 4, pos := "l12_groups.go:44", after := #[{ on := 3, ground := Ground.data }, { on := 2, ground := Ground.chain }], guard := none }) (v := ?vq3x4) rfl (by kernel_rfl) (by kernel_rfl) (by kernel_rfl) (fun _ _ _ h => h) (Or.inl ⟨by rfl, ?hyq3x4⟩) hHeld ?_
            case hyq3x4 => (intro w hSw; (try dsimp only at hSw); go_simp <;> with_reducible rfl)
            try simp only [Act.put, List.setIfInBounds_toArray, List.set_cons_zero, List.set_cons_succ]
            refine wpAnyH_take (i := 5) (oi := { dst := some 22, op := Op.move (Operand.tmp 5), type := 3, pos := "l12_groups.go:44", after := #[{ on := 4, ground := Ground.guard }], guard := some (4, false) }) (v := ?vq3x5) rfl (by kernel_rfl) (by kernel_rfl) (by kernel_rfl) (fun _ _ _ h => h) (Or.inl ⟨by rfl, ?hyq3x5⟩) hHeld ?_
            case hyq3x5 => (intro w hSw; (try dsimp only at hSw); go_simp <;> with_reducible rfl)
            try simp only [Act.put, List.setIfInBounds_toArray, List.set_cons_zero, List.set_cons_succ]
            refine wpAnyH_take (i := 6) (oi := { dst := some 23, op := Op.binOp BinOp.gtr 3 (Operand.tmp 22) (Operand.const (Value.int IntKind.i64 0)) 3, type := 4, pos := "l12_groups.go:44", after := #[{ on := 5, ground := Ground.data }, { on := 4, ground := Ground.guard }], guard := some (4, false) }) (v := ?vq3x6) rfl (by kernel_rfl) (by kernel_rfl) (by kernel_rfl) (fun _ _ _ h => h) (Or.inl ⟨by rfl, ?hyq3x6⟩) hHeld ?_
            case hyq3x6 => (intro w hSw; (try dsimp only at hSw); go_simp <;> with_reducible rfl)
            try simp only [Act.put, List.setIfInBounds_toArray, List.set_cons_zero, List.set_cons_succ]
            refine wpAnyH_take (i := 7) (oi := { dst := some 24, op := Op.move (Operand.tmp 23), type := 4, pos := "l12_groups.go:44", after := #[{ on := 6, ground := Ground.data }, { on := 4, ground := Ground.chain }, { on := 4, ground := Ground.guard }], guard := some (4, false) }) (v := ?vq3x7) rfl (by kernel_rfl) (by kernel_rfl) (by kernel_rfl) (fun _ _ _ h => h) (Or.inl ⟨by rfl, ?hyq3x7⟩) hHeld ?_
            case hyq3x7 => (intro w hSw; (try dsimp only at hSw); go_simp <;> with_reducible rfl)
            try simp only [Act.put, List.setIfInBounds_toArray, List.set_cons_zero, List.set_cons_succ]
            refine wpAnyH_take (i := 8) (oi := { dst := some 25, op := Op.move (Operand.tmp 0), type := 27, pos := "l12_groups.go:44", after := #[{ on := 7, ground := Ground.guard }], guard := some (7, true) }) (v := ?vq3x8) rfl (by kernel_rfl) (by kernel_rfl) (by kernel_rfl) (fun _ _ _ h => h) (Or.inl ⟨by rfl, ?hyq3x8⟩) hHeld ?_
            case hyq3x8 => (intro w hSw; (try dsimp only at hSw); go_simp <;> with_reducible rfl)
            try simp only [Act.put, List.setIfInBounds_toArray, List.set_cons_zero, List.set_cons_succ]
            refine wpAnyH_take (i := 9) (oi := { dst := some 26, op := Op.move (Operand.tmp 5), type := 3, pos := "l12_groups.go:44", after := #[{ on := 7, ground := Ground.guard }], guard := some (7, true) }) (v := ?vq3x9) rfl (by kernel_rfl) (by kernel_rfl) (by kernel_rfl) (fun _ _ _ h => h) (Or.inl ⟨by rfl, ?hyq3x9⟩) hHeld ?_
            case hyq3x9 => (intro w hSw; (try dsimp only at hSw); go_simp <;> with_reducible rfl)
            try simp only [Act.put, List.setIfInBounds_toArray, List.set_cons_zero, List.set_cons_succ]
            refine wpAnyH_take (i := 10) (oi := { dst := some 27, op := Op.binOp BinOp.sub 3 (Operand.tmp 26) (Operand.const (Value.int IntKind.i64 1)) 3, type := 3, pos := "l12_groups.go:44", after := #[{ on := 9, ground := Ground.data }, { on := 7, ground := Ground.guard }], guard := some (7, true) }) (v := ?vq3x10) rfl (by kernel_rfl) (by kernel_rfl) (by kernel_rfl) (fun _ _ _ h => h) (Or.inl ⟨by rfl, ?hyq3x10⟩) hHeld ?_
            case hyq3x10 => (intro w hSw; (try dsimp only at hSw); go_simp <;> with_reducible rfl)
            try simp only [Act.put, List.setIfInBounds_toArray, List.set_cons_zero, List.set_cons_succ]
            refine wpAnyH_take (i := 11) (oi := { dst := some 28, op := Op.indexAddr 27 (Operand.tmp 25) (Operand.tmp 27), type := 0, pos := "l12_groups.go:44", after := #[{ on := 8, ground := Ground.data }, { on := 10, ground := Ground.data }, { on := 7, ground := Ground.guard }], guard := some (7, true) }) (v := ?vq3x11) rfl (by kernel_rfl) (by kernel_rfl) (by kernel_rfl) (fun _ _ _ h => h) (Or.inl ⟨by rfl, ?hyq3x11⟩) hHeld ?_
            case hyq3x11 => (intro w hSw; (try dsimp only at hSw); go_simp <;> with_reducible rfl)
            try simp only [Act.put, List.setIfInBounds_toArray, List.set_cons_zero, List.set_cons_succ]
            refine wpAnyH_take (i := 12) (oi := { dst := some 29, op := Op.fieldAddr 67 (Operand.tmp 28) 0, type := 0, pos := "l12_groups.go:44", after := #[{ on := 11, ground := Ground.data }, { on := 7, ground := Ground.guard }], guard := some (7, true) }) (v := ?vq3x12) rfl (by kernel_rfl) (by kernel_rfl) (by kernel_rfl) (fun _ _ _ h => h) (Or.inl ⟨by rfl, ?hyq3x12⟩) hHeld ?_
            case hyq3x12 => (intro w hSw; (try dsimp only at hSw); go_simp <;> with_reducible rfl)
            try simp only [Act.put, List.setIfInBounds_toArray, List.set_cons_zero, List.set_cons_succ]
            refine wpAnyH_take (i := 13) (oi := { dst := some 30, op := Op.load 3 (Operand.tmp 29), type := 3, pos := "l12_groups.go:44", after := #[{ on := 12, ground := Ground.data }, { on := 7, ground := Ground.guard }], guard := some (7, true) }) (v := ?vq3x13) rfl (by kernel_rfl) (by kernel_rfl) (by kernel_rfl) (fun _ _ _ h => h) (Or.inl ⟨by rfl, ?hyq3x13⟩) hHeld ?_
            case hyq3x13 => (intro w hSw; (try dsimp only at hSw); go_simp <;> with_reducible rfl)
            try simp only [Act.put, List.setIfInBounds_toArray, List.set_cons_zero, List.set_cons_succ]
            refine wpAnyH_take (i := 14) (oi := { dst := some 31, op := Op.fieldAddr 67 (Operand.tmp 6) 0, type := 0, pos := "l12_groups.go:44", after := #[{ on := 7, ground := Ground.guard }], guard := some (7, true) }) (v := ?vq3x14) rfl (by kernel_rfl) (by kernel_rfl) (by kernel_rfl) (fun _ _ _ h => h) (Or.inl ⟨by rfl, ?hyq3x14⟩) hHeld ?_
            case hyq3x14 => (intro w hSw; (try dsimp only at hSw); go_simp <;> with_reducible rfl)
            try simp only [Act.put, List.setIfInBounds_toArray, List.set_cons_zero, List.set_cons_succ]
            refine wpAnyH_take (i := 15) (oi := { dst := some 32, op := Op.load 3 (Operand.tmp 31), type := 3, pos := "l12_groups.go:44", after := #[{ on := 14, ground := Ground.data }, { on := 7, ground := Ground.guard }], guard := some (7, true) }) (v := ?vq3x15) rfl (by kernel_rfl) (by kernel_rfl) (by kernel_rfl) (fun _ _ _ h => h) (Or.inl ⟨by rfl, ?hyq3x15⟩) hHeld ?_
            case hyq3x15 => (intro w hSw; (try dsimp only at hSw); go_simp <;> with_reducible rfl)
            try simp only [Act.put, List.setIfInBounds_toArray, List.set_cons_zero, List.set_cons_succ]
            refine wpAnyH_take (i := 16) (oi := { dst := some 33, op := Op.binOp BinOp.geq 3 (Operand.tmp 30) (Operand.tmp 32) 3, type := 4, pos := "l12_groups.go:44", after := #[{ on := 13, ground := Ground.data }, { on := 15, ground := Ground.data }, { on := 7, ground := Ground.guard }], guard := some (7, true) }) (v := ?vq3x16) rfl (by kernel_rfl) (by kernel_rfl) (by kernel_rfl) (fun _ _ _ h => h) (Or.inl ⟨by rfl, ?hyq3x16⟩) hHeld ?_
            case hyq3x16 => (intro w hSw; (try dsimp only at hSw); go_simp <;> with_reducible rfl)
            try simp only [Act.put, List.setIfInBounds_toArray, List.set_cons_zero, List.set_cons_succ]
            refine wpAnyH_take (i := 17) (oi := { dst := some 34, op := Op.pick (Operand.tmp 24) (Operand.tmp 33) (Operand.const (Value.bool false)), type := 4, pos := "l12_groups.go:44", after := #[{ on := 7, ground := Ground.data }, { on := 16, ground := Ground.data }, { on := 4, ground := Ground.guard }], guard := some (4, false) }) (v := ?vq3x17) rfl (by kernel_rfl) (by kernel_rfl) (by kernel_rfl) (fun _ _ _ h => h) (Or.inl ⟨by rfl, ?hyq3x17⟩) hHeld ?_
            case hyq3x17 => (intro w hSw; (try dsimp only at hSw); go_simp <;> with_reducible rfl)
            try simp only [Act.put, List.setIfInBounds_toArray, List.set_cons_zero, List.set_cons_succ]
            refine wpAnyH_take (i := 18) (oi := { dst := some 35, op := Op.pick (Operand.tmp 21) (Operand.const (Value.bool true)) (Operand.tmp 34), type := 4, pos := "l12_groups.go:44", after := #[{ on := 4, ground := Ground.data }, { on := 17, ground := Ground.data }], guard := none }) (v := ?vq3x18) rfl (by kernel_rfl) (by kernel_rfl) (by kernel_rfl) (fun _ _ _ h => h) (Or.inl ⟨by rfl, ?hyq3x18⟩) hHeld ?_
            case hyq3x18 => (intro w hSw; (try dsimp only at hSw); go_simp <;> with_reducible rfl)
            try simp only [Act.put, List.setIfInBounds_toArray, List.set_cons_zero, List.set_cons_succ]
            refine wpAnyH_done (by kernel_rfl) ?_ _
            clear hHeld HS
            have HUP : Hid (upOk U k = true) := HU0.out
            have HG1 : Hid (oneOk by' (nthG U k) = true) := hg1
            have HZ2 : Hid (Below z.heap.size z _) := grow_on HZ1.out Z1.out
            have BG2 := BG.out.grow Z1.out
            have g1 := BG2.cell 1
            simp at g1
            clear hg1 HOK HSP BG2
            cases hd : keyOk U k with
            | true =>
              have e1 := first_here hlt hd
              have HQ : Hid (ofI (keyIs (nthG U k).key) U = (k : Int)) := e1
              have HD : Hid (keyOk U k = true) := hd
              have en : ((k : Int) != (k : Int)) = false := by simp
              clear e1 hd
              go_wp2_with fail
              refine (HOF.out _ HZ2.out).mono ?_
              rintro e w3 ⟨rfl, hb3⟩
              have HZ3 : Hid (Below z.heap.size z w3) := grow_on HZ2.out hb3
              rw [HQ.out]
              have HU1 : Hid (∀ i, i < k + 1 → okG U by' i = true) := fun i hi => by
                by_cases e : i = k
                · rw [e]; unfold okG; rw [HG1.out, HUP.out, HD.out]; rfl
                · exact HU.out i (by omega)
              clear hb3 g1 HOF
              go_wp2
              go_roundw
              case rel => exact ⟨k + 1, by go_num, by omega, HU1.out, grow_on HB.out HZ3.out⟩
              case measure => simp [intOf]; omega
            | false =>
              have e1 := first_other hlt hd
              have HE : Hid (groupsB U by' = false) := groups_bad hlt (by unfold okG; rw [hd]; simp)
              generalize hq : ofI (keyIs (nthG U k).key) U = q at *
              have en : (q != (k : Int)) = true := by simpa using e1
              clear e1 hd hq
              go_wp2_with fail
              refine (HOF.out _ HZ2.out).mono ?_
              rintro e w3 ⟨rfl, hb3⟩
              have HZ3 : Hid (Below z.heap.size z w3) := grow_on HZ2.out hb3
              clear hb3 g1 HOF
              go_wp2
              go_ret
              exact ⟨retB HE.out.symm, grow_on HB.out HZ3.out⟩
          ·
            have hge : (nthG U k).n ≤ (nthG U m).n := by omega
            have hge2 : decide ((nthG U k).n ≤ (nthG U m).n) = true := decide_eq_true hge
            have HE : Hid (groupsB U by' = false) := groups_bad hlt (by unfold okG upOk; rw [hmk, decide_eq_false hup, decide_eq_false k0]; simp)
            clear hmk k0 hup
            go_upto_region 6 with fail
            try rw [hW1]
            clear hW1 x0 x1 x2 x3 x4
            have HS : Hid (∀ w', Below W1.heap.size W1 w' → w'.cell? ⟨z.heap.size, 0, none⟩ = some (.int .i64 (nthG U k).n) ∧ w'.cell? ⟨z.heap.size, 1, none⟩ = some (.slice ka (nthG U k).key.length kc) ∧ w'.cell? ⟨z.heap.size, 2, none⟩ = some (.int .i64 (nthG U k).b) ∧ w'.cell? ⟨z.heap.size, 3, none⟩ = some (.int .i64 (nthG U k).t) ∧ w'.cell? ⟨z.heap.size, 4, none⟩ = some (.slice ad (nthG U k).P.length cp) ∧ w'.cell? ⟨b, off + m * 5, none⟩ = some (.int .i64 (nthG U m).n)) := fun w' h => ⟨(BG.out.grow h).cell 0, (BG.out.grow h).cell 1, (BG.out.grow h).cell 2, (BG.out.grow h).cell 3, (BG.out.grow h).cell 4, ((grow_on HZ1.out h).cell (p := ⟨b, off + m * 5, none⟩) hbz).trans hmc⟩
            refine wp_region_held_drew (S := fun w' => w'.cell? ⟨z.heap.size, 0, none⟩ = some (.int .i64 (nthG U k).n) ∧ w'.cell? ⟨z.heap.size, 1, none⟩ = some (.slice ka (nthG U k).key.length kc) ∧ w'.cell? ⟨z.heap.size, 2, none⟩ = some (.int .i64 (nthG U k).b) ∧ w'.cell? ⟨z.heap.size, 3, none⟩ = some (.int .i64 (nthG U k).t) ∧ w'.cell? ⟨z.heap.size, 4, none⟩ = some (.slice ad (nthG U k).P.length cp) ∧ w'.cell? ⟨b, off + m * 5, none⟩ = some (.int .i64 (nthG U m).n)) (by kernel_rfl) (HS.out _ (Below.refl W1.heap.size W1).drew) (fun hHeld => ?_)
            refine wpAnyH_take (i := 0) (oi := { dst := some 17, op := Op.load 67 (Operand.tmp 6), type := 67, pos := "l12_groups.go:44", after := #[], guard := none }) (v := ?vq4x0) rfl (by kernel_rfl) (by kernel_rfl) (by kernel_rfl) (fun _ _ _ h => h) (Or.inl ⟨by rfl, ?hyq4x0⟩) hHeld ?_
            case hyq4x0 => (intro w hSw; (try dsimp only at hSw); go_simp <;> with_reducible rfl)
            try simp only [Act.put, List.setIfInBounds_toArray, List.set_cons_zero, List.set_cons_succ]
            refine wpAnyH_take (i := 1) (oi := { dst := some 18, op := Op.move (Operand.tmp 1), type := 23, pos := "l12_groups.go:44", after := #[], guard := none }) (v := ?vq4x1) rfl (by kernel_rfl) (by kernel_rfl) (by kernel_rfl) (fun _ _ _ h => h) (Or.inl ⟨by rfl, ?hyq4x1⟩) hHeld ?_
            case hyq4x1 => (intro w hSw; (try dsimp only at hSw); go_simp <;> with_reducible rfl)
            try simp only [Act.put, List.setIfInBounds_toArray, List.set_cons_zero, List.set_cons_succ]
            refine wpAnyH_ready (rs := [2]) (by kernel_rfl) (by simp) ?_
            refine AllReadyH.cons (o := { dst := some 19, op := Op.call { callee := Callee.value (Operand.func 41), args := #[Operand.tmp 17, Operand.tmp 18], argTypes := #[67, 23] }, type := 4, pos := "l12_groups.go:44", after := #[{ on := 0, ground := Ground.data }, { on := 1, ground := Ground.data }], guard := none }) rfl (fun K hK => ?_) AllReadyH.nil
            go_simp
            refine (HOK.out _ (grow_on HZ1.out (Below.refl W1.heap.size W1).drew)).mono ?_
            rintro r wyq4x2 ⟨rfl, hb1⟩
            have Z1 : Hid (Below W1.heap.size W1 wyq4x2) := grow_on (Below.refl W1.heap.size W1).drew hb1
            clear hb1
            try rw [hg1]
            clear hHeld
            refine hK.out _ _ (HS.out _ Z1.out) (fun hHeld => ?_)
            clear hK K
            try simp only [Act.put, List.setIfInBounds_toArray, List.set_cons_zero, List.set_cons_succ]
            refine wpAnyH_take (i := 3) (oi := { dst := some 20, op := Op.unOp UnOp.not 4 (Operand.tmp 19), type := 4, pos := "l12_groups.go:44", after := #[{ on := 2, ground := Ground.data }], guard := none }) (v := ?vq4x3) rfl (by kernel_rfl) (by kernel_rfl) (by kernel_rfl) (fun _ _ _ h => h) (Or.inl ⟨by rfl, ?hyq4x3⟩) hHeld ?_
            case hyq4x3 => (intro w hSw; (try dsimp only at hSw); go_simp <;> with_reducible rfl)
            try simp only [Act.put, List.setIfInBounds_toArray, List.set_cons_zero, List.set_cons_succ]
            refine wpAnyH_take (i := 4) (oi := { dst := some 21, op := Op.move (Operand.tmp 20), type := 4, pos := "l12_groups.go:44", after := #[{ on := 3, ground := Ground.data }, { on := 2, ground := Ground.chain }], guard := none }) (v := ?vq4x4) rfl (by kernel_rfl) (by kernel_rfl) (by kernel_rfl) (fun _ _ _ h => h) (Or.inl ⟨by rfl, ?hyq4x4⟩) hHeld ?_
            case hyq4x4 => (intro w hSw; (try dsimp only at hSw); go_simp <;> with_reducible rfl)
            try simp only [Act.put, List.setIfInBounds_toArray, List.set_cons_zero, List.set_cons_succ]
            refine wpAnyH_take (i := 5) (oi := { dst := some 22, op := Op.move (Operand.tmp 5), type := 3, pos := "l12_groups.go:44", after := #[{ on := 4, ground := Ground.guard }], guard := some (4, false) }) (v := ?vq4x5) rfl (by kernel_rfl) (by kernel_rfl) (by kernel_rfl) (fun _ _ _ h => h) (Or.inl ⟨by rfl, ?hyq4x5⟩) hHeld ?_
            case hyq4x5 => (intro w hSw; (try dsimp only at hSw); go_simp <;> with_reducible rfl)
            try simp only [Act.put, List.setIfInBounds_toArray, List.set_cons_zero, List.set_cons_succ]
            refine wpAnyH_take (i := 6) (oi := { dst := some 23, op := Op.binOp BinOp.gtr 3 (Operand.tmp 22) (Operand.const (Value.int IntKind.i64 0)) 3, type := 4, pos := "l12_groups.go:44", after := #[{ on := 5, ground := Ground.data }, { on := 4, ground := Ground.guard }], guard := some (4, false) }) (v := ?vq4x6) rfl (by kernel_rfl) (by kernel_rfl) (by kernel_rfl) (fun _ _ _ h => h) (Or.inl ⟨by rfl, ?hyq4x6⟩) hHeld ?_
            case hyq4x6 => (intro w hSw; (try dsimp only at hSw); go_simp <;> with_reducible rfl)
            try simp only [Act.put, List.setIfInBounds_toArray, List.set_cons_zero, List.set_cons_succ]
            refine wpAnyH_take (i := 7) (oi := { dst := some 24, op := Op.move (Operand.tmp 23), type := 4, pos := "l12_groups.go:44", after := #[{ on := 6, ground := Ground.data }, { on := 4, ground := Ground.chain }, { on := 4, ground := Ground.guard }], guard := some (4, false) }) (v := ?vq4x7) rfl (by kernel_rfl) (by kernel_rfl) (by kernel_rfl) (fun _ _ _ h => h) (Or.inl ⟨by rfl, ?hyq4x7⟩) hHeld ?_
            case hyq4x7 => (intro w hSw; (try dsimp only at hSw); go_simp <;> with_reducible rfl)
            try simp only [Act.put, List.setIfInBounds_toArray, List.set_cons_zero, List.set_cons_succ]
            refine wpAnyH_take (i := 8) (oi := { dst := some 25, op := Op.move (Operand.tmp 0), type := 27, pos := "l12_groups.go:44", after := #[{ on := 7, ground := Ground.guard }], guard := some (7, true) }) (v := ?vq4x8) rfl (by kernel_rfl) (by kernel_rfl) (by kernel_rfl) (fun _ _ _ h => h) (Or.inl ⟨by rfl, ?hyq4x8⟩) hHeld ?_
            case hyq4x8 => (intro w hSw; (try dsimp only at hSw); go_simp <;> with_reducible rfl)
            try simp only [Act.put, List.setIfInBounds_toArray, List.set_cons_zero, List.set_cons_succ]
            refine wpAnyH_take (i := 9) (oi := { dst := some 26, op := Op.move (Operand.tmp 5), type := 3, pos := "l12_groups.go:44", after := #[{ on := 7, ground := Ground.guard }], guard := some (7, true) }) (v := ?vq4x9) rfl (by kernel_rfl) (by kernel_rfl) (by kernel_rfl) (fun _ _ _ h => h) (Or.inl ⟨by rfl, ?hyq4x9⟩) hHeld ?_
            case hyq4x9 => (intro w hSw; (try dsimp only at hSw); go_simp <;> with_reducible rfl)
            try simp only [Act.put, List.setIfInBounds_toArray, List.set_cons_zero, List.set_cons_succ]
            refine wpAnyH_take (i := 10) (oi := { dst := some 27, op := Op.binOp BinOp.sub 3 (Operand.tmp 26) (Operand.const (Value.int IntKind.i64 1)) 3, type := 3, pos := "l12_groups.go:44", after := #[{ on := 9, ground := Ground.data }, { on := 7, ground := Ground.guard }], guard := some (7, true) }) (v := ?vq4x10) rfl (by kernel_rfl) (by kernel_rfl) (by kernel_rfl) (fun _ _ _ h => h) (Or.inl ⟨by rfl, ?hyq4x10⟩) hHeld ?_
            case hyq4x10 => (intro w hSw; (try dsimp only at hSw); go_simp <;> with_reducible rfl)
            try simp only [Act.put, List.setIfInBounds_toArray, List.set_cons_zero, List.set_cons_succ]
            refine wpAnyH_take (i := 11) (oi := { dst := some 28, op := Op.indexAddr 27 (Operand.tmp 25) (Operand.tmp 27), type := 0, pos := "l12_groups.go:44", after := #[{ on := 8, ground := Ground.data }, { on := 10, ground := Ground.data }, { on := 7, ground := Ground.guard }], guard := some (7, true) }) (v := ?vq4x11) rfl (by kernel_rfl) (by kernel_rfl) (by kernel_rfl) (fun _ _ _ h => h) (Or.inl ⟨by rfl, ?hyq4x11⟩) hHeld ?_
            case hyq4x11 => (intro w hSw; (try dsimp only at hSw); go_simp <;> with_reducible rfl)
            try simp only [Act.put, List.setIfInBounds_toArray, List.set_cons_zero, List.set_cons_succ]
            refine wpAnyH_take (i := 12) (oi := { dst := some 29, op := Op.fieldAddr 67 (Operand.tmp 28) 0, type := 0, pos := "l12_groups.go:44", after := #[{ on := 11, ground := Ground.data }, { on := 7, ground := Ground.guard }], guard := some (7, true) }) (v := ?vq4x12) rfl (by kernel_rfl) (by kernel_rfl) (by kernel_rfl) (fun _ _ _ h => h) (Or.inl ⟨by rfl, ?hyq4x12⟩) hHeld ?_
            case hyq4x12 => (intro w hSw; (try dsimp only at hSw); go_simp <;> with_reducible rfl)
            try simp only [Act.put, List.setIfInBounds_toArray, List.set_cons_zero, List.set_cons_succ]
            refine wpAnyH_take (i := 13) (oi := { dst := some 30, op := Op.load 3 (Operand.tmp 29), type := 3, pos := "l12_groups.go:44", after := #[{ on := 12, ground := Ground.data }, { on := 7, ground := Ground.guard }], guard := some (7, true) }) (v := ?vq4x13) rfl (by kernel_rfl) (by kernel_rfl) (by kernel_rfl) (fun _ _ _ h => h) (Or.inl ⟨by rfl, ?hyq4x13⟩) hHeld ?_
            case hyq4x13 => (intro w hSw; (try dsimp only at hSw); go_simp <;> with_reducible rfl)
            try simp only [Act.put, List.setIfInBounds_toArray, List.set_cons_zero, List.set_cons_succ]
            refine wpAnyH_take (i := 14) (oi := { dst := some 31, op := Op.fieldAddr 67 (Operand.tmp 6) 0, type := 0, pos := "l12_groups.go:44", after := #[{ on := 7, ground := Ground.guard }], guard := some (7, true) }) (v := ?vq4x14) rfl (by kernel_rfl) (by kernel_rfl) (by kernel_rfl) (fun _ _ _ h => h) (Or.inl ⟨by rfl, ?hyq4x14⟩) hHeld ?_
            case hyq4x14 => (intro w hSw; (try dsimp only at hSw); go_simp <;> with_reducible rfl)
            try simp only [Act.put, List.setIfInBounds_toArray, List.set_cons_zero, List.set_cons_succ]
            refine wpAnyH_take (i := 15) (oi := { dst := some 32, op := Op.load 3 (Operand.tmp 31), type := 3, pos := "l12_groups.go:44", after := #[{ on := 14, ground := Ground.data }, { on := 7, ground := Ground.guard }], guard := some (7, true) }) (v := ?vq4x15) rfl (by kernel_rfl) (by kernel_rfl) (by kernel_rfl) (fun _ _ _ h => h) (Or.inl ⟨by rfl, ?hyq4x15⟩) hHeld ?_
            case hyq4x15 => (intro w hSw; (try dsimp only at hSw); go_simp <;> with_reducible rfl)
            try simp only [Act.put, List.setIfInBounds_toArray, List.set_cons_zero, List.set_cons_succ]
            refine wpAnyH_take (i := 16) (oi := { dst := some 33, op := Op.binOp BinOp.geq 3 (Operand.tmp 30) (Operand.tmp 32) 3, type := 4, pos := "l12_groups.go:44", after := #[{ on := 13, ground := Ground.data }, { on := 15, ground := Ground.data }, { on := 7, ground := Ground.guard }], guard := some (7, true) }) (v := ?vq4x16) rfl (by kernel_rfl) (by kernel_rfl) (by kernel_rfl) (fun _ _ _ h => h) (Or.inl ⟨by rfl, ?hyq4x16⟩) hHeld ?_
            case hyq4x16 => (intro w hSw; (try dsimp only at hSw); go_simp <;> with_reducible rfl)
            try simp only [Act.put, List.setIfInBounds_toArray, List.set_cons_zero, List.set_cons_succ]
            refine wpAnyH_take (i := 17) (oi := { dst := some 34, op := Op.pick (Operand.tmp 24) (Operand.tmp 33) (Operand.const (Value.bool false)), type := 4, pos := "l12_groups.go:44", after := #[{ on := 7, ground := Ground.data }, { on := 16, ground := Ground.data }, { on := 4, ground := Ground.guard }], guard := some (4, false) }) (v := ?vq4x17) rfl (by kernel_rfl) (by kernel_rfl) (by kernel_rfl) (fun _ _ _ h => h) (Or.inl ⟨by rfl, ?hyq4x17⟩) hHeld ?_
            case hyq4x17 => (intro w hSw; (try dsimp only at hSw); go_simp <;> with_reducible rfl)
            try simp only [Act.put, List.setIfInBounds_toArray, List.set_cons_zero, List.set_cons_succ]
            refine wpAnyH_take (i := 18) (oi := { dst := some 35, op := Op.pick (Operand.tmp 21) (Operand.const (Value.bool true)) (Operand.tmp 34), type := 4, pos := "l12_groups.go:44", after := #[{ on := 4, ground := Ground.data }, { on := 17, ground := Ground.data }], guard := none }) (v := ?vq4x18) rfl (by kernel_rfl) (by kernel_rfl) (by kernel_rfl) (fun _ _ _ h => h) (Or.inl ⟨by rfl, ?hyq4x18⟩) hHeld ?_
            case hyq4x18 => (intro w hSw; (try dsimp only at hSw); go_simp <;> with_reducible rfl)
            try simp only [Act.put, List.setIfInBounds_toArray, List.set_cons_zero, List.set_cons_succ]
            refine wpAnyH_done (by kernel_rfl) ?_ _
            clear hHeld HS
            go_wp2
            go_ret
            exact ⟨retB HE.out.symm, grow_on HB.out (grow_on HZ1.out Z1.out)⟩
    · have hge : ¬ (k : Int) < (U.length : Int) := by omega
      have HE : Hid (groupsB U by' = true) := by
        unfold Hid
        rw [groups_all fun j hj => HU.out j (by omega), decide_eq_true H12.out]
      go_wp2
      go_ret
      exact ⟨retB HE.out.symm, HB.out⟩
end Go.Proofs.Ytgncimlojbnbfaa.GpIa
