/-
  PROVED: impl.GroupOk answers as a plain function on numbers and lists says; nothing that was there is changed.
-/
import Derived.Test.YtgncimlojbnbfaaGrpG
import Derived.Deep.RegionHeld3
namespace Go.Proofs.Ytgncimlojbnbfaa.GrpI
open Go.RowKit
open Go.Proofs.Ytgncimlojbnbfaa.Names (inB inB_true inB_false)
open Go.Proofs.Ytgncimlojbnbfaa.Labs Go.Proofs.Ytgncimlojbnbfaa.LabS Go.Proofs.Ytgncimlojbnbfaa.Alms Go.Proofs.Ytgncimlojbnbfaa.AlmS Go.Proofs.Ytgncimlojbnbfaa.AlmM Go.Proofs.Ytgncimlojbnbfaa.Over Go.Proofs.Ytgncimlojbnbfaa.Blk Go.Proofs.Ytgncimlojbnbfaa.App Go.Proofs.Ytgncimlojbnbfaa.Rws Go.Proofs.Ytgncimlojbnbfaa.ChnI Go.Proofs.Ytgncimlojbnbfaa.ChnC Go.Proofs.Ytgncimlojbnbfaa.ChnK Go.Proofs.Ytgncimlojbnbfaa.Grp Go.Proofs.Ytgncimlojbnbfaa.GrpG
open Go.Proofs.Ytgncimlojbnbfaa.StrB (retB)
open Go.Proofs.Ytgncimlojbnbfaa.LabL (slB implLessS_any)
open Go.Proofs.Ytgncimlojbnbfaa.Pro (projB RdS own_reads)
open Go.Proofs.Ytgncimlojbnbfaa.LabO (setB)
set_option linter.unusedVariables false
def timesB (b t : Int) : Bool := inB b 0 99999 && (decide (t = -1) || inB t b 99999)
def memB (key : List Lab) (P : List PAl) (by' : List ByteArray) : Bool := (List.range P.length).all (grAt key P by')
theorem group_eq (n : Int) (key : List Lab) (b t : Int) (P : List PAl) (by' : List ByteArray) : groupB n key b t P by' = (decide (0 ≤ n) && (setB key && (timesB b t && (decide (0 < P.length) && memB key P by')))) := by
  unfold groupB timesB memB
  cases (List.range P.length).all (grAt key P by') <;> cases decide (0 ≤ n) <;> cases setB key <;> cases inB b 0 99999 <;> cases (decide (t = -1) || inB t b 99999) <;> cases decide (0 < P.length) <;> rfl
theorem mem_bad {key : List Lab} {P : List PAl} {by' : List ByteArray} {k : Nat} (hk : k < P.length) (h : grAt key P by' k = false) : memB key P by' = false := by
  unfold memB
  rw [List.all_eq_false]
  exact ⟨k, List.mem_range.2 hk, by simp [h]⟩
theorem mem_good {key : List Lab} {P : List PAl} {by' : List ByteArray} (h : ∀ j, j < P.length → grAt key P by' j = true) : memB key P by' = true := by
  unfold memB
  rw [List.all_eq_true]
  exact fun j hj => h j (List.mem_range.1 hj)
theorem sendOk_any (n b t : Int) (v u : Value) (w : World) (hv : ∃ a k c, v = .slice a k c) (hu : ∃ a k c, u = .slice a k c) :
    Calls Try.prog 73 #[.agg #[.int .i64 n, v, .int .i64 b, .int .i64 t, u]] w fun e w' => e = .returned (.bool (timesB b t)) ∧ Below w.heap.size w w' := by
  obtain ⟨a1, k1, c1, rfl⟩ := hv
  obtain ⟨a2, k2, c2, rfl⟩ := hu
  by_cases h0 : b < 0
  · have HE : Hid (timesB b t = false) := by unfold Hid timesB; rw [inB_false (by omega)]; rfl
    go_enter Try.func73, Try.ntmps73
    go_wp2
    go_ret
    exact ⟨retB HE.out.symm, Go.Joins.below_alloc1 w _⟩
  by_cases h1 : 99999 < b
  · have HE : Hid (timesB b t = false) := by unfold Hid timesB; rw [inB_false (by omega)]; rfl
    go_enter Try.func73, Try.ntmps73
    go_wp2
    go_ret
    exact ⟨retB HE.out.symm, Go.Joins.below_alloc1 w _⟩
  by_cases h2 : t = -1
  · have HE : Hid (timesB b t = true) := by unfold Hid timesB; rw [inB_true (by omega) (by omega), decide_eq_true h2]; rfl
    subst h2
    go_enter Try.func73, Try.ntmps73
    go_wp2
    go_ret
    exact ⟨retB HE.out.symm, Go.Joins.below_alloc1 w _⟩
  have d2 : (t == -1) = false := by simpa using h2
  by_cases h3 : b ≤ t
  · by_cases h4 : t ≤ 99999
    · have HE : Hid (timesB b t = true) := by unfold Hid timesB; rw [inB_true (by omega) (by omega), inB_true h3 h4]; simp
      go_enter Try.func73, Try.ntmps73
      go_wp2
      go_ret
      exact ⟨retB HE.out.symm, Go.Joins.below_alloc1 w _⟩
    · have HE : Hid (timesB b t = false) := by unfold Hid timesB; rw [inB_false (x := t) (by omega), decide_eq_false h2]; simp
      go_enter Try.func73, Try.ntmps73
      go_wp2
      go_ret
      exact ⟨retB HE.out.symm, Go.Joins.below_alloc1 w _⟩
  · have HE : Hid (timesB b t = false) := by unfold Hid timesB; rw [inB_false (x := t) (by omega), decide_eq_false h2]; simp
    go_enter Try.func73, Try.ntmps73
    go_wp2
    go_ret
    exact ⟨retB HE.out.symm, Go.Joins.below_alloc1 w _⟩
set_option maxRecDepth 100000 in
set_option maxHeartbeats 6400000 in
theorem members_any (n b t : Int) (ka : Option Addr) (kc : Nat) (key : List Lab) (a : Option Addr) (cap : Nat) (P : List PAl) (ba : Option Addr) (bc : Nat) (by' : List ByteArray) (w : World) (hk : Reads w ka key) (hkl : key.length ≤ maxLen) (hr : RdA w a P) (hl : P.length ≤ 1048576) (hz : FitsP P) (hs : LenM P) (hb : RdS w ba by') (hbl : by'.length ≤ maxLen) :
    Calls Try.prog 74 #[.agg #[.int .i64 n, .slice ka key.length kc, .int .i64 b, .int .i64 t, .slice a P.length cap], .slice ba by'.length bc] w fun e w' => e = .returned (.bool (memB key P by')) ∧ Below w.heap.size w w' := by
  have HK : Hid (Reads w ka key ∧ key.length ≤ maxLen) := ⟨hk, hkl⟩
  have HR : Hid (RdA w a P ∧ FitsP P ∧ LenM P) := ⟨hr, hz, hs⟩
  have HY : Hid (RdS w ba by' ∧ by'.length ≤ maxLen) := ⟨hb, hbl⟩
  clear hk hkl hr hz hs hb hbl
  generalize hW0 : w.alloc (.cells #[.int .i64 n, .slice ka key.length kc, .int .i64 b, .int .i64 t, .slice a P.length cap] 67) = W0
  have HB0 : Hid (Below w.heap.size w W0) := by rw [← hW0]; exact Go.Joins.below_alloc1 w _
  have BP0 : Hid (Blk W0 w.heap.size #[.int .i64 n, .slice ka key.length kc, .int .i64 b, .int .i64 t, .slice a P.length cap] 67) := by rw [← hW0]; exact Blk.new _ _ _
  have p4 := BP0.out.cell 4
  simp at p4
  go_enter Try.func74, Try.ntmps74
  go_upto_region 1 with fail
  try rw [hW0]
  clear hW0
  go_upto_region 2 with fail
  clear p4
  go_loopw [10] (fun i w' => ∃ k : Nat, i = .int .i64 k ∧ k ≤ P.length ∧ (∀ j, j < k → grAt key P by' j = true) ∧ Below W0.heap.size W0 w') (fun i _ => P.length - (intOf i).toNat)
  case atStart => exact ⟨0, rfl, Nat.zero_le _, fun j hj => by omega, Below.refl _ _⟩
  case round =>
    obtain ⟨k, rfl, hk, hu, hw0⟩ := hrel
    have HU : Hid (∀ j, j < k → grAt key P by' j = true) := hu
    have BP : Hid (Blk wr w.heap.size #[.int .i64 n, .slice ka key.length kc, .int .i64 b, .int .i64 t, .slice a P.length cap] 67) := BP0.out.grow hw0
    have HBr : Hid (Below W0.heap.size W0 wr) := hw0
    have HBw : Hid (Below w.heap.size w wr) := grow_on HB0.out hw0
    clear hu hw0
    by_cases hlt : k < P.length
    · have hlt' : (k : Int) < (P.length : Int) := by omega
      obtain ⟨bb, off, rfl, hbb, ad, cp, hat⟩ := (HR.out.1.below HBw.out).get hlt
      have HA : Hid (At wr bb off k (nthP P k) ad cp) := hat
      have x0 := hat.c0
      have x1 := hat.c1
      have x2 := hat.c2
      have x3 := hat.c3
      generalize hw5 : wr.alloc (.cells #[.slice ad (nthP P k).l.length cp, .int .i64 (nthP P k).s, .int .i64 (nthP P k).e, .string (nthP P k).n] 48) = W5
      have HB5 : Hid (Below wr.heap.size wr W5) := by rw [← hw5]; exact Go.Joins.below_alloc1 wr _
      have BX : Hid (Blk W5 wr.heap.size #[.slice ad (nthP P k).l.length cp, .int .i64 (nthP P k).s, .int .i64 (nthP P k).e, .string (nthP P k).n] 48) := by rw [← hw5]; exact Blk.new _ _ _
      have HOK : Hid (∀ y, Below W5.heap.size W5 y → Calls Try.prog 96 #[.agg #[.slice ad (nthP P k).l.length cp, .int .i64 (nthP P k).s, .int .i64 (nthP P k).e, .string (nthP P k).n]] y fun e w' => e = .returned (.bool (okX (nthP P k))) ∧ Below y.heap.size y w') := fun y hy => implAlarm_any _ _ _ _ _ _ y ((HR.out.2.1 k hlt).al (hat.reads.below (grow_on HB5.out hy)))
      have HKE : Hid (∀ y, Below W5.heap.size W5 y → Calls Try.prog 55 #[.agg #[.slice ad (nthP P k).l.length cp, .int .i64 (nthP P k).s, .int .i64 (nthP P k).e, .string (nthP P k).n], .slice ba by'.length bc] y fun e w' => (∃ M c, e = .returned (.slice (some ⟨M, 0, none⟩) (projB (nthP P k).l by').length c) ∧ LabR.Own y w' M (projB (nthP P k).l by')) ∧ Below y.heap.size y w') := fun y hy => Pro.implKey_any _ _ _ _ _ _ _ _ _ y (hat.reads.below (grow_on HB5.out hy)) (HY.out.1.below (grow_on HBw.out (grow_on HB5.out hy))) (HR.out.2.2 k hlt) HY.out.2
      have HPL : Hid ((projB (nthP P k).l by').length ≤ maxLen) := by have h1 := Pro.proj_len (nthP P k).l by'; have h2 := HR.out.2.2 k hlt; unfold maxLen; show _ ≤ _; omega
      have HBX : Hid (Below w.heap.size w W5) := grow_on HBw.out HB5.out
      have BG : Hid (Blk W5 w.heap.size #[.int .i64 n, .slice ka key.length kc, .int .i64 b, .int .i64 t, .slice (some ⟨bb, off, none⟩) P.length cap] 67) := BP.out.grow HB5.out
      clear hat
      have hp4 : wr.cell? ⟨w.heap.size, 4, none⟩ = some (.slice (some ⟨bb, off, none⟩) P.length cap) := BP.out.cell 4
      go_upto_region 4 with fail
      try rw [hw5]
      clear hw5 x0 x1 x2 x3 hp4
      cases hA : okX (nthP P k) with
      | false =>
        have HE : Hid (memB key P by' = false) := mem_bad hlt (by unfold grAt; rw [hA]; rfl)
        have HS : Hid (∀ w', Below W5.heap.size W5 w' → w'.cell? ⟨wr.heap.size, 0, none⟩ = some (.slice ad (nthP P k).l.length cp) ∧ w'.cell? ⟨wr.heap.size, 1, none⟩ = some (.int .i64 (nthP P k).s) ∧ w'.cell? ⟨wr.heap.size, 2, none⟩ = some (.int .i64 (nthP P k).e) ∧ w'.cell? ⟨wr.heap.size, 3, none⟩ = some (.string (nthP P k).n) ∧ w'.cell? ⟨w.heap.size, 1, none⟩ = some (.slice ka key.length kc) ∧ w'.cell? ⟨w.heap.size, 4, none⟩ = some (.slice (some ⟨bb, off, none⟩) P.length cap)) := fun w' h => ⟨(BX.out.grow h).cell 0, (BX.out.grow h).cell 1, (BX.out.grow h).cell 2, (BX.out.grow h).cell 3, (BG.out.grow h).cell 1, (BG.out.grow h).cell 4⟩
        refine wp_region_held_drew (S := fun w' => w'.cell? ⟨wr.heap.size, 0, none⟩ = some (.slice ad (nthP P k).l.length cp) ∧ w'.cell? ⟨wr.heap.size, 1, none⟩ = some (.int .i64 (nthP P k).s) ∧ w'.cell? ⟨wr.heap.size, 2, none⟩ = some (.int .i64 (nthP P k).e) ∧ w'.cell? ⟨wr.heap.size, 3, none⟩ = some (.string (nthP P k).n) ∧ w'.cell? ⟨w.heap.size, 1, none⟩ = some (.slice ka key.length kc) ∧ w'.cell? ⟨w.heap.size, 4, none⟩ = some (.slice (some ⟨bb, off, none⟩) P.length cap)) (by kernel_rfl) (HS.out _ (Below.refl W5.heap.size W5).drew) (fun hHeld => ?_)
        refine wpAnyH_take (i := 0) (oi := { dst := some 15, op := Op.load 48 (Operand.tmp 6), type := 48, pos := "l11_group.go:35", after := #[], guard := none }) (v := ?vm1x0) rfl (by kernel_rfl) (by kernel_rfl) (by kernel_rfl) (fun _ _ _ h => h) (Or.inl ⟨by rfl, ?hym1x0⟩) hHeld ?_
        case hym1x0 => (intro w hSw; (try dsimp only at hSw); go_simp <;> with_reducible rfl)
        try simp only [Act.put, List.setIfInBounds_toArray, List.set_cons_zero, List.set_cons_succ]
        refine wpAnyH_ready (rs := [1]) (by kernel_rfl) (by simp) ?_
        refine AllReadyH.cons (o := { dst := some 16, op := Op.call { callee := Callee.value (Operand.func 96), args := #[Operand.tmp 15], argTypes := #[48] }, type := 4, pos := "l11_group.go:35", after := #[{ on := 0, ground := Ground.data }], guard := none }) rfl (fun K hK => ?_) AllReadyH.nil
        go_simp
        refine (HOK.out _ (Below.refl W5.heap.size W5).drew).mono ?_
        rintro r wym1x1 ⟨rfl, hb1⟩
        have Z1 : Hid (Below W5.heap.size W5 wym1x1) := grow_on (Below.refl W5.heap.size W5).drew hb1
        clear hb1
        try rw [hA]
        clear hHeld
        refine hK.out _ _ (HS.out _ Z1.out) (fun hHeld => ?_)
        clear hK K
        try simp only [Act.put, List.setIfInBounds_toArray, List.set_cons_zero, List.set_cons_succ]
        refine wpAnyH_take (i := 2) (oi := { dst := some 17, op := Op.unOp UnOp.not 4 (Operand.tmp 16), type := 4, pos := "l11_group.go:35", after := #[{ on := 1, ground := Ground.data }], guard := none }) (v := ?vm1x2) rfl (by kernel_rfl) (by kernel_rfl) (by kernel_rfl) (fun _ _ _ h => h) (Or.inl ⟨by rfl, ?hym1x2⟩) hHeld ?_
        case hym1x2 => (intro w hSw; (try dsimp only at hSw); go_simp <;> with_reducible rfl)
        try simp only [Act.put, List.setIfInBounds_toArray, List.set_cons_zero, List.set_cons_succ]
        refine wpAnyH_take (i := 3) (oi := { dst := some 18, op := Op.move (Operand.tmp 17), type := 4, pos := "l11_group.go:35", after := #[{ on := 2, ground := Ground.data }, { on := 1, ground := Ground.chain }], guard := none }) (v := ?vm1x3) rfl (by kernel_rfl) (by kernel_rfl) (by kernel_rfl) (fun _ _ _ h => h) (Or.inl ⟨by rfl, ?hym1x3⟩) hHeld ?_
        case hym1x3 => (intro w hSw; (try dsimp only at hSw); go_simp <;> with_reducible rfl)
        try simp only [Act.put, List.setIfInBounds_toArray, List.set_cons_zero, List.set_cons_succ]
        refine wpAnyH_take (i := 4) (oi := { dst := some 19, op := Op.load 48 (Operand.tmp 6), type := 48, pos := "l11_group.go:35", after := #[{ on := 3, ground := Ground.guard }], guard := some (3, false) }) (v := undef) rfl (by kernel_rfl) (by kernel_rfl) (by kernel_rfl) (fun _ _ _ h => h) (Or.inr ⟨by rfl, rfl⟩) hHeld ?_
        try simp only [Act.put, List.setIfInBounds_toArray, List.set_cons_zero, List.set_cons_succ]
        refine wpAnyH_take (i := 5) (oi := { dst := some 20, op := Op.move (Operand.tmp 1), type := 23, pos := "l11_group.go:35", after := #[{ on := 3, ground := Ground.guard }], guard := some (3, false) }) (v := undef) rfl (by kernel_rfl) (by kernel_rfl) (by kernel_rfl) (fun _ _ _ h => h) (Or.inr ⟨by rfl, rfl⟩) hHeld ?_
        try simp only [Act.put, List.setIfInBounds_toArray, List.set_cons_zero, List.set_cons_succ]
        refine wpAnyH_take (i := 6) (oi := { dst := some 21, op := Op.call { callee := Callee.value (Operand.func 55), args := #[Operand.tmp 19, Operand.tmp 20], argTypes := #[48, 23] }, type := 36, pos := "l11_group.go:35", after := #[{ on := 4, ground := Ground.data }, { on := 5, ground := Ground.data }, { on := 3, ground := Ground.chain }, { on := 3, ground := Ground.guard }], guard := some (3, false) }) (v := undef) rfl (by kernel_rfl) (by kernel_rfl) (by kernel_rfl) (fun _ _ _ h => h) (Or.inr ⟨by rfl, rfl⟩) hHeld ?_
        try simp only [Act.put, List.setIfInBounds_toArray, List.set_cons_zero, List.set_cons_succ]
        refine wpAnyH_take (i := 7) (oi := { dst := some 22, op := Op.fieldAddr 67 (Operand.tmp 2) 1, type := 0, pos := "l11_group.go:35", after := #[{ on := 3, ground := Ground.guard }], guard := some (3, false) }) (v := undef) rfl (by kernel_rfl) (by kernel_rfl) (by kernel_rfl) (fun _ _ _ h => h) (Or.inr ⟨by rfl, rfl⟩) hHeld ?_
        try simp only [Act.put, List.setIfInBounds_toArray, List.set_cons_zero, List.set_cons_succ]
        refine wpAnyH_take (i := 8) (oi := { dst := some 23, op := Op.load 36 (Operand.tmp 22), type := 36, pos := "l11_group.go:35", after := #[{ on := 7, ground := Ground.data }, { on := 3, ground := Ground.guard }], guard := some (3, false) }) (v := undef) rfl (by kernel_rfl) (by kernel_rfl) (by kernel_rfl) (fun _ _ _ h => h) (Or.inr ⟨by rfl, rfl⟩) hHeld ?_
        try simp only [Act.put, List.setIfInBounds_toArray, List.set_cons_zero, List.set_cons_succ]
        refine wpAnyH_take (i := 9) (oi := { dst := some 24, op := Op.call { callee := Callee.value (Operand.func 47), args := #[Operand.tmp 21, Operand.tmp 23], argTypes := #[36, 36] }, type := 4, pos := "l11_group.go:35", after := #[{ on := 6, ground := Ground.data }, { on := 8, ground := Ground.data }, { on := 6, ground := Ground.chain }, { on := 3, ground := Ground.guard }], guard := some (3, false) }) (v := undef) rfl (by kernel_rfl) (by kernel_rfl) (by kernel_rfl) (fun _ _ _ h => h) (Or.inr ⟨by rfl, rfl⟩) hHeld ?_
        try simp only [Act.put, List.setIfInBounds_toArray, List.set_cons_zero, List.set_cons_succ]
        refine wpAnyH_take (i := 10) (oi := { dst := some 25, op := Op.unOp UnOp.not 4 (Operand.tmp 24), type := 4, pos := "l11_group.go:35", after := #[{ on := 9, ground := Ground.data }, { on := 3, ground := Ground.guard }], guard := some (3, false) }) (v := undef) rfl (by kernel_rfl) (by kernel_rfl) (by kernel_rfl) (fun _ _ _ h => h) (Or.inr ⟨by rfl, rfl⟩) hHeld ?_
        try simp only [Act.put, List.setIfInBounds_toArray, List.set_cons_zero, List.set_cons_succ]
        refine wpAnyH_take (i := 11) (oi := { dst := some 26, op := Op.pick (Operand.tmp 18) (Operand.const (Value.bool true)) (Operand.tmp 25), type := 4, pos := "l11_group.go:35", after := #[{ on := 3, ground := Ground.data }, { on := 10, ground := Ground.data }], guard := none }) (v := ?vm1x11) rfl (by kernel_rfl) (by kernel_rfl) (by kernel_rfl) (fun _ _ _ h => h) (Or.inl ⟨by rfl, ?hym1x11⟩) hHeld ?_
        case hym1x11 => (intro w hSw; (try dsimp only at hSw); go_simp <;> with_reducible rfl)
        try simp only [Act.put, List.setIfInBounds_toArray, List.set_cons_zero, List.set_cons_succ]
        refine wpAnyH_done (by kernel_rfl) ?_ _
        clear hHeld HS
        go_wp2
        go_ret
        exact ⟨retB HE.out.symm, grow_on HBX.out Z1.out⟩
      | true =>
        cases hSm : decide (projB (nthP P k).l by' = key) with
        | false =>
          have HE : Hid (memB key P by' = false) := mem_bad hlt (by unfold grAt; rw [hA, hSm]; simp)
          have HS : Hid (∀ w', Below W5.heap.size W5 w' → w'.cell? ⟨wr.heap.size, 0, none⟩ = some (.slice ad (nthP P k).l.length cp) ∧ w'.cell? ⟨wr.heap.size, 1, none⟩ = some (.int .i64 (nthP P k).s) ∧ w'.cell? ⟨wr.heap.size, 2, none⟩ = some (.int .i64 (nthP P k).e) ∧ w'.cell? ⟨wr.heap.size, 3, none⟩ = some (.string (nthP P k).n) ∧ w'.cell? ⟨w.heap.size, 1, none⟩ = some (.slice ka key.length kc) ∧ w'.cell? ⟨w.heap.size, 4, none⟩ = some (.slice (some ⟨bb, off, none⟩) P.length cap)) := fun w' h => ⟨(BX.out.grow h).cell 0, (BX.out.grow h).cell 1, (BX.out.grow h).cell 2, (BX.out.grow h).cell 3, (BG.out.grow h).cell 1, (BG.out.grow h).cell 4⟩
          refine wp_region_held_drew (S := fun w' => w'.cell? ⟨wr.heap.size, 0, none⟩ = some (.slice ad (nthP P k).l.length cp) ∧ w'.cell? ⟨wr.heap.size, 1, none⟩ = some (.int .i64 (nthP P k).s) ∧ w'.cell? ⟨wr.heap.size, 2, none⟩ = some (.int .i64 (nthP P k).e) ∧ w'.cell? ⟨wr.heap.size, 3, none⟩ = some (.string (nthP P k).n) ∧ w'.cell? ⟨w.heap.size, 1, none⟩ = some (.slice ka key.length kc) ∧ w'.cell? ⟨w.heap.size, 4, none⟩ = some (.slice (some ⟨bb, off, none⟩) P.length cap)) (by kernel_rfl) (HS.out _ (Below.refl W5.heap.size W5).drew) (fun hHeld => ?_)
          refine wpAnyH_take (i := 0) (oi := { dst := some 15, op := Op.load 48 (Operand.tmp 6), type := 48, pos := "l11_group.go:35", after := #[], guard := none }) (v := ?vm2x0) rfl (by kernel_rfl) (by kernel_rfl) (by kernel_rfl) (fun _ _ _ h => h) (Or.inl ⟨by rfl, ?hym2x0⟩) hHeld ?_
          case hym2x0 => (intro w hSw; (try dsimp only at hSw); go_simp <;> with_reducible rfl)
          try simp only [Act.put, List.setIfInBounds_toArray, List.set_cons_zero, List.set_cons_succ]
          refine wpAnyH_ready (rs := [1]) (by kernel_rfl) (by simp) ?_
          refine AllReadyH.cons (o := { dst := some 16, op := Op.call { callee := Callee.value (Operand.func 96), args := #[Operand.tmp 15], argTypes := #[48] }, type := 4, pos := "l11_group.go:35", after := #[{ on := 0, ground := Ground.data }], guard := none }) rfl (fun K hK => ?_) AllReadyH.nil
          go_simp
          refine (HOK.out _ (Below.refl W5.heap.size W5).drew).mono ?_
          rintro r wym2x1 ⟨rfl, hb1⟩
          have Z1 : Hid (Below W5.heap.size W5 wym2x1) := grow_on (Below.refl W5.heap.size W5).drew hb1
          clear hb1
          try rw [hA]
          clear hHeld
          refine hK.out _ _ (HS.out _ Z1.out) (fun hHeld => ?_)
          clear hK K
          try simp only [Act.put, List.setIfInBounds_toArray, List.set_cons_zero, List.set_cons_succ]
          refine wpAnyH_take (i := 2) (oi := { dst := some 17, op := Op.unOp UnOp.not 4 (Operand.tmp 16), type := 4, pos := "l11_group.go:35", after := #[{ on := 1, ground := Ground.data }], guard := none }) (v := ?vm2x2) rfl (by kernel_rfl) (by kernel_rfl) (by kernel_rfl) (fun _ _ _ h => h) (Or.inl ⟨by rfl, ?hym2x2⟩) hHeld ?_
          case hym2x2 => (intro w hSw; (try dsimp only at hSw); go_simp <;> with_reducible rfl)
          try simp only [Act.put, List.setIfInBounds_toArray, List.set_cons_zero, List.set_cons_succ]
          refine wpAnyH_take (i := 3) (oi := { dst := some 18, op := Op.move (Operand.tmp 17), type := 4, pos := "l11_group.go:35", after := #[{ on := 2, ground := Ground.data }, { on := 1, ground := Ground.chain }], guard := none }) (v := ?vm2x3) rfl (by kernel_rfl) (by kernel_rfl) (by kernel_rfl) (fun _ _ _ h => h) (Or.inl ⟨by rfl, ?hym2x3⟩) hHeld ?_
          case hym2x3 => (intro w hSw; (try dsimp only at hSw); go_simp <;> with_reducible rfl)
          try simp only [Act.put, List.setIfInBounds_toArray, List.set_cons_zero, List.set_cons_succ]
          refine wpAnyH_take (i := 4) (oi := { dst := some 19, op := Op.load 48 (Operand.tmp 6), type := 48, pos := "l11_group.go:35", after := #[{ on := 3, ground := Ground.guard }], guard := some (3, false) }) (v := ?vm2x4) rfl (by kernel_rfl) (by kernel_rfl) (by kernel_rfl) (fun _ _ _ h => h) (Or.inl ⟨by rfl, ?hym2x4⟩) hHeld ?_
          case hym2x4 => (intro w hSw; (try dsimp only at hSw); go_simp <;> with_reducible rfl)
          try simp only [Act.put, List.setIfInBounds_toArray, List.set_cons_zero, List.set_cons_succ]
          refine wpAnyH_take (i := 5) (oi := { dst := some 20, op := Op.move (Operand.tmp 1), type := 23, pos := "l11_group.go:35", after := #[{ on := 3, ground := Ground.guard }], guard := some (3, false) }) (v := ?vm2x5) rfl (by kernel_rfl) (by kernel_rfl) (by kernel_rfl) (fun _ _ _ h => h) (Or.inl ⟨by rfl, ?hym2x5⟩) hHeld ?_
          case hym2x5 => (intro w hSw; (try dsimp only at hSw); go_simp <;> with_reducible rfl)
          try simp only [Act.put, List.setIfInBounds_toArray, List.set_cons_zero, List.set_cons_succ]
          refine wpAnyH_take (i := 7) (oi := { dst := some 22, op := Op.fieldAddr 67 (Operand.tmp 2) 1, type := 0, pos := "l11_group.go:35", after := #[{ on := 3, ground := Ground.guard }], guard := some (3, false) }) (v := ?vm2x7) rfl (by kernel_rfl) (by kernel_rfl) (by kernel_rfl) (fun _ _ _ h => h) (Or.inl ⟨by rfl, ?hym2x7⟩) hHeld ?_
          case hym2x7 => (intro w hSw; (try dsimp only at hSw); go_simp <;> with_reducible rfl)
          try simp only [Act.put, List.setIfInBounds_toArray, List.set_cons_zero, List.set_cons_succ]
          refine wpAnyH_take (i := 8) (oi := { dst := some 23, op := Op.load 36 (Operand.tmp 22), type := 36, pos := "l11_group.go:35", after := #[{ on := 7, ground := Ground.data }, { on := 3, ground := Ground.guard }], guard := some (3, false) }) (v := ?vm2x8) rfl (by kernel_rfl) (by kernel_rfl) (by kernel_rfl) (fun _ _ _ h => h) (Or.inl ⟨by rfl, ?hym2x8⟩) hHeld ?_
          case hym2x8 => (intro w hSw; (try dsimp only at hSw); go_simp <;> with_reducible rfl)
          try simp only [Act.put, List.setIfInBounds_toArray, List.set_cons_zero, List.set_cons_succ]
          refine wpAnyH_ready (rs := [6]) (by kernel_rfl) (by simp) ?_
          refine AllReadyH.cons (o := { dst := some 21, op := Op.call { callee := Callee.value (Operand.func 55), args := #[Operand.tmp 19, Operand.tmp 20], argTypes := #[48, 23] }, type := 36, pos := "l11_group.go:35", after := #[{ on := 4, ground := Ground.data }, { on := 5, ground := Ground.data }, { on := 3, ground := Ground.chain }, { on := 3, ground := Ground.guard }], guard := some (3, false) }) rfl (fun K hK => ?_) AllReadyH.nil
          go_simp
          refine (HKE.out _ Z1.out).mono ?_
          rintro r wym2x6 ⟨⟨MK, ck, rfl, hOK⟩, hb3⟩
          have Z3 : Hid (Below W5.heap.size W5 wym2x6) := grow_on Z1.out hb3
          have HO3 : Hid (Reads wym2x6 (some ⟨MK, 0, none⟩) (projB (nthP P k).l by')) := own_reads hOK
          clear hb3 hOK
          clear hHeld
          refine hK.out _ _ (HS.out _ Z3.out) (fun hHeld => ?_)
          clear hK K
          try simp only [Act.put, List.setIfInBounds_toArray, List.set_cons_zero, List.set_cons_succ]
          refine wpAnyH_ready (rs := [9]) (by kernel_rfl) (by simp) ?_
          refine AllReadyH.cons (o := { dst := some 24, op := Op.call { callee := Callee.value (Operand.func 47), args := #[Operand.tmp 21, Operand.tmp 23], argTypes := #[36, 36] }, type := 4, pos := "l11_group.go:35", after := #[{ on := 6, ground := Ground.data }, { on := 8, ground := Ground.data }, { on := 6, ground := Ground.chain }, { on := 3, ground := Ground.guard }], guard := some (3, false) }) rfl (fun K hK => ?_) AllReadyH.nil
          go_simp
          refine (calls_drew (implSame_any _ _ _ _ (projB (nthP P k).l by') key _ HO3.out (HK.out.1.below (grow_on HBX.out Z3.out)) HPL.out HK.out.2)).mono ?_
          rintro r wym2x9 ⟨rfl, hb4⟩
          have Z4 : Hid (Below W5.heap.size W5 wym2x9) := grow_on Z3.out hb4
          clear hb4
          try rw [hSm]
          clear hHeld
          refine hK.out _ _ (HS.out _ Z4.out) (fun hHeld => ?_)
          clear hK K
          try simp only [Act.put, List.setIfInBounds_toArray, List.set_cons_zero, List.set_cons_succ]
          refine wpAnyH_take (i := 10) (oi := { dst := some 25, op := Op.unOp UnOp.not 4 (Operand.tmp 24), type := 4, pos := "l11_group.go:35", after := #[{ on := 9, ground := Ground.data }, { on := 3, ground := Ground.guard }], guard := some (3, false) }) (v := ?vm2x10) rfl (by kernel_rfl) (by kernel_rfl) (by kernel_rfl) (fun _ _ _ h => h) (Or.inl ⟨by rfl, ?hym2x10⟩) hHeld ?_
          case hym2x10 => (intro w hSw; (try dsimp only at hSw); go_simp <;> with_reducible rfl)
          try simp only [Act.put, List.setIfInBounds_toArray, List.set_cons_zero, List.set_cons_succ]
          refine wpAnyH_take (i := 11) (oi := { dst := some 26, op := Op.pick (Operand.tmp 18) (Operand.const (Value.bool true)) (Operand.tmp 25), type := 4, pos := "l11_group.go:35", after := #[{ on := 3, ground := Ground.data }, { on := 10, ground := Ground.data }], guard := none }) (v := ?vm2x11) rfl (by kernel_rfl) (by kernel_rfl) (by kernel_rfl) (fun _ _ _ h => h) (Or.inl ⟨by rfl, ?hym2x11⟩) hHeld ?_
          case hym2x11 => (intro w hSw; (try dsimp only at hSw); go_simp <;> with_reducible rfl)
          try simp only [Act.put, List.setIfInBounds_toArray, List.set_cons_zero, List.set_cons_succ]
          refine wpAnyH_done (by kernel_rfl) ?_ _
          clear hHeld HS
          go_wp2
          go_ret
          exact ⟨retB HE.out.symm, grow_on HBX.out Z4.out⟩
        | true =>
          by_cases hk0 : k = 0
          ·
            have HG : Hid (grAt key P by' k = true) := by unfold Hid grAt; rw [hA, hSm, decide_eq_true hk0]; rfl
            have HU1 : Hid (∀ j, j < k + 1 → grAt key P by' j = true) := fun j hj => by
              by_cases e : j = k
              · rw [e]; exact HG.out
              · exact HU.out j (by omega)
            have hk0' : ¬ (0 : Int) < (k : Int) := by omega
            have bk : decide (0 < k) = false := decide_eq_false (by omega)
            clear hk0
            have HS : Hid (∀ w', Below W5.heap.size W5 w' → w'.cell? ⟨wr.heap.size, 0, none⟩ = some (.slice ad (nthP P k).l.length cp) ∧ w'.cell? ⟨wr.heap.size, 1, none⟩ = some (.int .i64 (nthP P k).s) ∧ w'.cell? ⟨wr.heap.size, 2, none⟩ = some (.int .i64 (nthP P k).e) ∧ w'.cell? ⟨wr.heap.size, 3, none⟩ = some (.string (nthP P k).n) ∧ w'.cell? ⟨w.heap.size, 1, none⟩ = some (.slice ka key.length kc) ∧ w'.cell? ⟨w.heap.size, 4, none⟩ = some (.slice (some ⟨bb, off, none⟩) P.length cap)) := fun w' h => ⟨(BX.out.grow h).cell 0, (BX.out.grow h).cell 1, (BX.out.grow h).cell 2, (BX.out.grow h).cell 3, (BG.out.grow h).cell 1, (BG.out.grow h).cell 4⟩
            refine wp_region_held_drew (S := fun w' => w'.cell? ⟨wr.heap.size, 0, none⟩ = some (.slice ad (nthP P k).l.length cp) ∧ w'.cell? ⟨wr.heap.size, 1, none⟩ = some (.int .i64 (nthP P k).s) ∧ w'.cell? ⟨wr.heap.size, 2, none⟩ = some (.int .i64 (nthP P k).e) ∧ w'.cell? ⟨wr.heap.size, 3, none⟩ = some (.string (nthP P k).n) ∧ w'.cell? ⟨w.heap.size, 1, none⟩ = some (.slice ka key.length kc) ∧ w'.cell? ⟨w.heap.size, 4, none⟩ = some (.slice (some ⟨bb, off, none⟩) P.length cap)) (by kernel_rfl) (HS.out _ (Below.refl W5.heap.size W5).drew) (fun hHeld => ?_)
            refine wpAnyH_take (i := 0) (oi := { dst := some 15, op := Op.load 48 (Operand.tmp 6), type := 48, pos := "l11_group.go:35", after := #[], guard := none }) (v := ?vm3x0) rfl (by kernel_rfl) (by kernel_rfl) (by kernel_rfl) (fun _ _ _ h => h) (Or.inl ⟨by rfl, ?hym3x0⟩) hHeld ?_
            case hym3x0 => (intro w hSw; (try dsimp only at hSw); go_simp <;> with_reducible rfl)
            try simp only [Act.put, List.setIfInBounds_toArray, List.set_cons_zero, List.set_cons_succ]
            refine wpAnyH_ready (rs := [1]) (by kernel_rfl) (by simp) ?_
            refine AllReadyH.cons (o := { dst := some 16, op := Op.call { callee := Callee.value (Operand.func 96), args := #[Operand.tmp 15], argTypes := #[48] }, type := 4, pos := "l11_group.go:35", after := #[{ on := 0, ground := Ground.data }], guard := none }) rfl (fun K hK => ?_) AllReadyH.nil
            go_simp
            refine (HOK.out _ (Below.refl W5.heap.size W5).drew).mono ?_
            rintro r wym3x1 ⟨rfl, hb1⟩
            have Z1 : Hid (Below W5.heap.size W5 wym3x1) := grow_on (Below.refl W5.heap.size W5).drew hb1
            clear hb1
            try rw [hA]
            clear hHeld
            refine hK.out _ _ (HS.out _ Z1.out) (fun hHeld => ?_)
            clear hK K
            try simp only [Act.put, List.setIfInBounds_toArray, List.set_cons_zero, List.set_cons_succ]
            refine wpAnyH_take (i := 2) (oi := { dst := some 17, op := Op.unOp UnOp.not 4 (Operand.tmp 16), type := 4, pos := "l11_group.go:35", after := #[{ on := 1, ground := Ground.data }], guard := none }) (v := ?vm3x2) rfl (by kernel_rfl) (by kernel_rfl) (by kernel_rfl) (fun _ _ _ h => h) (Or.inl ⟨by rfl, ?hym3x2⟩) hHeld ?_
            case hym3x2 => (intro w hSw; (try dsimp only at hSw); go_simp <;> with_reducible rfl)
            try simp only [Act.put, List.setIfInBounds_toArray, List.set_cons_zero, List.set_cons_succ]
            refine wpAnyH_take (i := 3) (oi := { dst := some 18, op := Op.move (Operand.tmp 17), type := 4, pos := "l11_group.go:35", after := #[{ on := 2, ground := Ground.data }, { on := 1, ground := Ground.chain }], guard := none }) (v := ?vm3x3) rfl (by kernel_rfl) (by kernel_rfl) (by kernel_rfl) (fun _ _ _ h => h) (Or.inl ⟨by rfl, ?hym3x3⟩) hHeld ?_
            case hym3x3 => (intro w hSw; (try dsimp only at hSw); go_simp <;> with_reducible rfl)
            try simp only [Act.put, List.setIfInBounds_toArray, List.set_cons_zero, List.set_cons_succ]
            refine wpAnyH_take (i := 4) (oi := { dst := some 19, op := Op.load 48 (Operand.tmp 6), type := 48, pos := "l11_group.go:35", after := #[{ on := 3, ground := Ground.guard }], guard := some (3, false) }) (v := ?vm3x4) rfl (by kernel_rfl) (by kernel_rfl) (by kernel_rfl) (fun _ _ _ h => h) (Or.inl ⟨by rfl, ?hym3x4⟩) hHeld ?_
            case hym3x4 => (intro w hSw; (try dsimp only at hSw); go_simp <;> with_reducible rfl)
            try simp only [Act.put, List.setIfInBounds_toArray, List.set_cons_zero, List.set_cons_succ]
            refine wpAnyH_take (i := 5) (oi := { dst := some 20, op := Op.move (Operand.tmp 1), type := 23, pos := "l11_group.go:35", after := #[{ on := 3, ground := Ground.guard }], guard := some (3, false) }) (v := ?vm3x5) rfl (by kernel_rfl) (by kernel_rfl) (by kernel_rfl) (fun _ _ _ h => h) (Or.inl ⟨by rfl, ?hym3x5⟩) hHeld ?_
            case hym3x5 => (intro w hSw; (try dsimp only at hSw); go_simp <;> with_reducible rfl)
            try simp only [Act.put, List.setIfInBounds_toArray, List.set_cons_zero, List.set_cons_succ]
            refine wpAnyH_take (i := 7) (oi := { dst := some 22, op := Op.fieldAddr 67 (Operand.tmp 2) 1, type := 0, pos := "l11_group.go:35", after := #[{ on := 3, ground := Ground.guard }], guard := some (3, false) }) (v := ?vm3x7) rfl (by kernel_rfl) (by kernel_rfl) (by kernel_rfl) (fun _ _ _ h => h) (Or.inl ⟨by rfl, ?hym3x7⟩) hHeld ?_
            case hym3x7 => (intro w hSw; (try dsimp only at hSw); go_simp <;> with_reducible rfl)
            try simp only [Act.put, List.setIfInBounds_toArray, List.set_cons_zero, List.set_cons_succ]
            refine wpAnyH_take (i := 8) (oi := { dst := some 23, op := Op.load 36 (Operand.tmp 22), type := 36, pos := "l11_group.go:35", after := #[{ on := 7, ground := Ground.data }, { on := 3, ground := Ground.guard }], guard := some (3, false) }) (v := ?vm3x8) rfl (by kernel_rfl) (by kernel_rfl) (by kernel_rfl) (fun _ _ _ h => h) (Or.inl ⟨by rfl, ?hym3x8⟩) hHeld ?_
            case hym3x8 => (intro w hSw; (try dsimp only at hSw); go_simp <;> with_reducible rfl)
            try simp only [Act.put, List.setIfInBounds_toArray, List.set_cons_zero, List.set_cons_succ]
            refine wpAnyH_ready (rs := [6]) (by kernel_rfl) (by simp) ?_
            refine AllReadyH.cons (o := { dst := some 21, op := Op.call { callee := Callee.value (Operand.func 55), args := #[Operand.tmp 19, Operand.tmp 20], argTypes := #[48, 23] }, type := 36, pos := "l11_group.go:35", after := #[{ on := 4, ground := Ground.data }, { on := 5, ground := Ground.data }, { on := 3, ground := Ground.chain }, { on := 3, ground := Ground.guard }], guard := some (3, false) }) rfl (fun K hK => ?_) AllReadyH.nil
            go_simp
            refine (HKE.out _ Z1.out).mono ?_
            rintro r wym3x6 ⟨⟨MK, ck, rfl, hOK⟩, hb3⟩
            have Z3 : Hid (Below W5.heap.size W5 wym3x6) := grow_on Z1.out hb3
            have HO3 : Hid (Reads wym3x6 (some ⟨MK, 0, none⟩) (projB (nthP P k).l by')) := own_reads hOK
            clear hb3 hOK
            clear hHeld
            refine hK.out _ _ (HS.out _ Z3.out) (fun hHeld => ?_)
            clear hK K
            try simp only [Act.put, List.setIfInBounds_toArray, List.set_cons_zero, List.set_cons_succ]
            refine wpAnyH_ready (rs := [9]) (by kernel_rfl) (by simp) ?_
            refine AllReadyH.cons (o := { dst := some 24, op := Op.call { callee := Callee.value (Operand.func 47), args := #[Operand.tmp 21, Operand.tmp 23], argTypes := #[36, 36] }, type := 4, pos := "l11_group.go:35", after := #[{ on := 6, ground := Ground.data }, { on := 8, ground := Ground.data }, { on := 6, ground := Ground.chain }, { on := 3, ground := Ground.guard }], guard := some (3, false) }) rfl (fun K hK => ?_) AllReadyH.nil
            go_simp
            refine (calls_drew (implSame_any _ _ _ _ (projB (nthP P k).l by') key _ HO3.out (HK.out.1.below (grow_on HBX.out Z3.out)) HPL.out HK.out.2)).mono ?_
            rintro r wym3x9 ⟨rfl, hb4⟩
            have Z4 : Hid (Below W5.heap.size W5 wym3x9) := grow_on Z3.out hb4
            clear hb4
            try rw [hSm]
            clear hHeld
            refine hK.out _ _ (HS.out _ Z4.out) (fun hHeld => ?_)
            clear hK K
            try simp only [Act.put, List.setIfInBounds_toArray, List.set_cons_zero, List.set_cons_succ]
            refine wpAnyH_take (i := 10) (oi := { dst := some 25, op := Op.unOp UnOp.not 4 (Operand.tmp 24), type := 4, pos := "l11_group.go:35", after := #[{ on := 9, ground := Ground.data }, { on := 3, ground := Ground.guard }], guard := some (3, false) }) (v := ?vm3x10) rfl (by kernel_rfl) (by kernel_rfl) (by kernel_rfl) (fun _ _ _ h => h) (Or.inl ⟨by rfl, ?hym3x10⟩) hHeld ?_
            case hym3x10 => (intro w hSw; (try dsimp only at hSw); go_simp <;> with_reducible rfl)
            try simp only [Act.put, List.setIfInBounds_toArray, List.set_cons_zero, List.set_cons_succ]
            refine wpAnyH_take (i := 11) (oi := { dst := some 26, op := Op.pick (Operand.tmp 18) (Operand.const (Value.bool true)) (Operand.tmp 25), type := 4, pos := "l11_group.go:35", after := #[{ on := 3, ground := Ground.data }, { on := 10, ground := Ground.data }], guard := none }) (v := ?vm3x11) rfl (by kernel_rfl) (by kernel_rfl) (by kernel_rfl) (fun _ _ _ h => h) (Or.inl ⟨by rfl, ?hym3x11⟩) hHeld ?_
            case hym3x11 => (intro w hSw; (try dsimp only at hSw); go_simp <;> with_reducible rfl)
            try simp only [Act.put, List.setIfInBounds_toArray, List.set_cons_zero, List.set_cons_succ]
            refine wpAnyH_done (by kernel_rfl) ?_ _
            clear hHeld HS
            go_upto_region 6 with fail
            have HS : Hid (∀ w', Below W5.heap.size W5 w' → w'.cell? ⟨wr.heap.size, 0, none⟩ = some (.slice ad (nthP P k).l.length cp) ∧ w'.cell? ⟨wr.heap.size, 1, none⟩ = some (.int .i64 (nthP P k).s) ∧ w'.cell? ⟨wr.heap.size, 2, none⟩ = some (.int .i64 (nthP P k).e) ∧ w'.cell? ⟨wr.heap.size, 3, none⟩ = some (.string (nthP P k).n) ∧ w'.cell? ⟨w.heap.size, 1, none⟩ = some (.slice ka key.length kc) ∧ w'.cell? ⟨w.heap.size, 4, none⟩ = some (.slice (some ⟨bb, off, none⟩) P.length cap)) := fun w' h => ⟨(BX.out.grow h).cell 0, (BX.out.grow h).cell 1, (BX.out.grow h).cell 2, (BX.out.grow h).cell 3, (BG.out.grow h).cell 1, (BG.out.grow h).cell 4⟩
            refine wp_region_held_drew (S := fun w' => w'.cell? ⟨wr.heap.size, 0, none⟩ = some (.slice ad (nthP P k).l.length cp) ∧ w'.cell? ⟨wr.heap.size, 1, none⟩ = some (.int .i64 (nthP P k).s) ∧ w'.cell? ⟨wr.heap.size, 2, none⟩ = some (.int .i64 (nthP P k).e) ∧ w'.cell? ⟨wr.heap.size, 3, none⟩ = some (.string (nthP P k).n) ∧ w'.cell? ⟨w.heap.size, 1, none⟩ = some (.slice ka key.length kc) ∧ w'.cell? ⟨w.heap.size, 4, none⟩ = some (.slice (some ⟨bb, off, none⟩) P.length cap)) (by kernel_rfl) (HS.out _ (grow_on Z4.out (Below.refl _ _).drew)) (fun hHeld => ?_)
            refine wpAnyH_take (i := 0) (oi := { dst := some 27, op := Op.move (Operand.tmp 5), type := 3, pos := "l11_group.go:39", after := #[], guard := none }) (v := ?vm4x0) rfl (by kernel_rfl) (by kernel_rfl) (by kernel_rfl) (fun _ _ _ h => h) (Or.inl ⟨by rfl, ?hym4x0⟩) hHeld ?_
            case hym4x0 => (intro w hSw; (try dsimp only at hSw); go_simp <;> with_reducible rfl)
            try simp only [Act.put, List.setIfInBounds_toArray, List.set_cons_zero, List.set_cons_succ]
            refine wpAnyH_take (i := 1) (oi := { dst := some 28, op := Op.binOp BinOp.gtr 3 (Operand.tmp 27) (Operand.const (Value.int IntKind.i64 0)) 3, type := 4, pos := "l11_group.go:39", after := #[{ on := 0, ground := Ground.data }], guard := none }) (v := ?vm4x1) rfl (by kernel_rfl) (by kernel_rfl) (by kernel_rfl) (fun _ _ _ h => h) (Or.inl ⟨by rfl, ?hym4x1⟩) hHeld ?_
            case hym4x1 => (intro w hSw; (try dsimp only at hSw); go_simp <;> with_reducible rfl)
            try simp only [Act.put, List.setIfInBounds_toArray, List.set_cons_zero, List.set_cons_succ]
            refine wpAnyH_take (i := 2) (oi := { dst := some 29, op := Op.move (Operand.tmp 28), type := 4, pos := "l11_group.go:39", after := #[{ on := 1, ground := Ground.data }], guard := none }) (v := ?vm4x2) rfl (by kernel_rfl) (by kernel_rfl) (by kernel_rfl) (fun _ _ _ h => h) (Or.inl ⟨by rfl, ?hym4x2⟩) hHeld ?_
            case hym4x2 => (intro w hSw; (try dsimp only at hSw); go_simp <;> with_reducible rfl)
            try simp only [Act.put, List.setIfInBounds_toArray, List.set_cons_zero, List.set_cons_succ]
            refine wpAnyH_take (i := 3) (oi := { dst := some 30, op := Op.fieldAddr 67 (Operand.tmp 2) 4, type := 0, pos := "l11_group.go:39", after := #[{ on := 2, ground := Ground.guard }], guard := some (2, true) }) (v := undef) rfl (by kernel_rfl) (by kernel_rfl) (by kernel_rfl) (fun _ _ _ h => h) (Or.inr ⟨by rfl, rfl⟩) hHeld ?_
            try simp only [Act.put, List.setIfInBounds_toArray, List.set_cons_zero, List.set_cons_succ]
            refine wpAnyH_take (i := 4) (oi := { dst := some 31, op := Op.load 53 (Operand.tmp 30), type := 53, pos := "l11_group.go:39", after := #[{ on := 3, ground := Ground.data }, { on := 2, ground := Ground.guard }], guard := some (2, true) }) (v := undef) rfl (by kernel_rfl) (by kernel_rfl) (by kernel_rfl) (fun _ _ _ h => h) (Or.inr ⟨by rfl, rfl⟩) hHeld ?_
            try simp only [Act.put, List.setIfInBounds_toArray, List.set_cons_zero, List.set_cons_succ]
            refine wpAnyH_take (i := 5) (oi := { dst := some 32, op := Op.move (Operand.tmp 5), type := 3, pos := "l11_group.go:39", after := #[{ on := 2, ground := Ground.guard }], guard := some (2, true) }) (v := undef) rfl (by kernel_rfl) (by kernel_rfl) (by kernel_rfl) (fun _ _ _ h => h) (Or.inr ⟨by rfl, rfl⟩) hHeld ?_
            try simp only [Act.put, List.setIfInBounds_toArray, List.set_cons_zero, List.set_cons_succ]
            refine wpAnyH_take (i := 6) (oi := { dst := some 33, op := Op.binOp BinOp.sub 3 (Operand.tmp 32) (Operand.const (Value.int IntKind.i64 1)) 3, type := 3, pos := "l11_group.go:39", after := #[{ on := 5, ground := Ground.data }, { on := 2, ground := Ground.guard }], guard := some (2, true) }) (v := undef) rfl (by kernel_rfl) (by kernel_rfl) (by kernel_rfl) (fun _ _ _ h => h) (Or.inr ⟨by rfl, rfl⟩) hHeld ?_
            try simp only [Act.put, List.setIfInBounds_toArray, List.set_cons_zero, List.set_cons_succ]
            refine wpAnyH_take (i := 7) (oi := { dst := some 34, op := Op.indexAddr 53 (Operand.tmp 31) (Operand.tmp 33), type := 0, pos := "l11_group.go:39", after := #[{ on := 4, ground := Ground.data }, { on := 6, ground := Ground.data }, { on := 2, ground := Ground.guard }], guard := some (2, true) }) (v := undef) rfl (by kernel_rfl) (by kernel_rfl) (by kernel_rfl) (fun _ _ _ h => h) (Or.inr ⟨by rfl, rfl⟩) hHeld ?_
            try simp only [Act.put, List.setIfInBounds_toArray, List.set_cons_zero, List.set_cons_succ]
            refine wpAnyH_take (i := 8) (oi := { dst := some 35, op := Op.fieldAddr 48 (Operand.tmp 34) 0, type := 0, pos := "l11_group.go:39", after := #[{ on := 7, ground := Ground.data }, { on := 2, ground := Ground.guard }], guard := some (2, true) }) (v := undef) rfl (by kernel_rfl) (by kernel_rfl) (by kernel_rfl) (fun _ _ _ h => h) (Or.inr ⟨by rfl, rfl⟩) hHeld ?_
            try simp only [Act.put, List.setIfInBounds_toArray, List.set_cons_zero, List.set_cons_succ]
            refine wpAnyH_take (i := 9) (oi := { dst := some 36, op := Op.load 36 (Operand.tmp 35), type := 36, pos := "l11_group.go:39", after := #[{ on := 8, ground := Ground.data }, { on := 2, ground := Ground.guard }], guard := some (2, true) }) (v := undef) rfl (by kernel_rfl) (by kernel_rfl) (by kernel_rfl) (fun _ _ _ h => h) (Or.inr ⟨by rfl, rfl⟩) hHeld ?_
            try simp only [Act.put, List.setIfInBounds_toArray, List.set_cons_zero, List.set_cons_succ]
            refine wpAnyH_take (i := 10) (oi := { dst := some 37, op := Op.fieldAddr 48 (Operand.tmp 6) 0, type := 0, pos := "l11_group.go:39", after := #[{ on := 2, ground := Ground.guard }], guard := some (2, true) }) (v := undef) rfl (by kernel_rfl) (by kernel_rfl) (by kernel_rfl) (fun _ _ _ h => h) (Or.inr ⟨by rfl, rfl⟩) hHeld ?_
            try simp only [Act.put, List.setIfInBounds_toArray, List.set_cons_zero, List.set_cons_succ]
            refine wpAnyH_take (i := 11) (oi := { dst := some 38, op := Op.load 36 (Operand.tmp 37), type := 36, pos := "l11_group.go:39", after := #[{ on := 10, ground := Ground.data }, { on := 2, ground := Ground.guard }], guard := some (2, true) }) (v := undef) rfl (by kernel_rfl) (by kernel_rfl) (by kernel_rfl) (fun _ _ _ h => h) (Or.inr ⟨by rfl, rfl⟩) hHeld ?_
            try simp only [Act.put, List.setIfInBounds_toArray, List.set_cons_zero, List.set_cons_succ]
            refine wpAnyH_take (i := 12) (oi := { dst := some 39, op := Op.call { callee := Callee.value (Operand.func 97), args := #[Operand.tmp 36, Operand.tmp 38], argTypes := #[36, 36] }, type := 4, pos := "l11_group.go:39", after := #[{ on := 9, ground := Ground.data }, { on := 11, ground := Ground.data }, { on := 2, ground := Ground.chain }, { on := 2, ground := Ground.guard }], guard := some (2, true) }) (v := undef) rfl (by kernel_rfl) (by kernel_rfl) (by kernel_rfl) (fun _ _ _ h => h) (Or.inr ⟨by rfl, rfl⟩) hHeld ?_
            try simp only [Act.put, List.setIfInBounds_toArray, List.set_cons_zero, List.set_cons_succ]
            refine wpAnyH_take (i := 13) (oi := { dst := some 40, op := Op.unOp UnOp.not 4 (Operand.tmp 39), type := 4, pos := "l11_group.go:39", after := #[{ on := 12, ground := Ground.data }, { on := 2, ground := Ground.guard }], guard := some (2, true) }) (v := undef) rfl (by kernel_rfl) (by kernel_rfl) (by kernel_rfl) (fun _ _ _ h => h) (Or.inr ⟨by rfl, rfl⟩) hHeld ?_
            try simp only [Act.put, List.setIfInBounds_toArray, List.set_cons_zero, List.set_cons_succ]
            refine wpAnyH_take (i := 14) (oi := { dst := some 41, op := Op.pick (Operand.tmp 29) (Operand.tmp 40) (Operand.const (Value.bool false)), type := 4, pos := "l11_group.go:39", after := #[{ on := 2, ground := Ground.data }, { on := 13, ground := Ground.data }], guard := none }) (v := ?vm4x14) rfl (by kernel_rfl) (by kernel_rfl) (by kernel_rfl) (fun _ _ _ h => h) (Or.inl ⟨by rfl, ?hym4x14⟩) hHeld ?_
            case hym4x14 => (intro w hSw; (try dsimp only at hSw); go_simp <;> with_reducible rfl)
            try simp only [Act.put, List.setIfInBounds_toArray, List.set_cons_zero, List.set_cons_succ]
            refine wpAnyH_done (by kernel_rfl) ?_ _
            clear hHeld HS
            have Z9 : Hid (Below W5.heap.size W5 _) := grow_on Z4.out (Below.refl _ _).drew
            go_wp2
            go_roundw
            case rel => exact ⟨k + 1, by go_num, by omega, HU1.out, grow_on HBr.out (grow_on HB5.out Z9.out)⟩
            case measure => simp [intOf]; omega
          · have hk0' : (0 : Int) < (k : Int) := by omega
            have bk : decide (0 < k) = true := decide_eq_true (by omega)
            obtain ⟨m, hm⟩ : ∃ m, k = m + 1 := ⟨k - 1, by omega⟩
            have em : (k : Int) - 1 = (m : Int) := by omega
            have hml : m < P.length := by omega
            have hml' : (m : Int) < (P.length : Int) := by omega
            have hwm : IntKind.i64.wrap (m : Int) = (m : Int) := by rw [IntKind.wrap_i64]; omega
            have hmk : k - 1 = m := by omega
            obtain ⟨bb2, off2, e2, _, ad2, cp2, hat2⟩ := (HR.out.1.below HBw.out).get hml
            cases e2
            have HA2 : Hid (At wr bb off m (nthP P m) ad2 cp2) := hat2
            have HLE : Hid (∀ y, Below W5.heap.size W5 y → Calls Try.prog 97 #[.slice ad2 (nthP P m).l.length cp2, .slice ad (nthP P k).l.length cp] y fun e w' => e = .returned (.bool (slB (nthP P m).l (nthP P k).l)) ∧ Below y.heap.size y w') := fun y hy => implLessS_any _ _ _ _ _ _ y (hat2.reads.below (grow_on HB5.out hy)) (HA.out.reads.below (grow_on HB5.out hy)) (by have := HR.out.2.2 m hml; unfold maxLen; omega) (by have := HR.out.2.2 k hlt; unfold maxLen; omega)
            clear hat2 hm
            cases hLs : slB (nthP P m).l (nthP P k).l with
            | false =>
              have HE : Hid (memB key P by' = false) := mem_bad hlt (by unfold grAt; rw [hA, hmk, hLs, decide_eq_false hk0]; rfl)
              clear hmk hk0
              have HS : Hid (∀ w', Below W5.heap.size W5 w' → w'.cell? ⟨wr.heap.size, 0, none⟩ = some (.slice ad (nthP P k).l.length cp) ∧ w'.cell? ⟨wr.heap.size, 1, none⟩ = some (.int .i64 (nthP P k).s) ∧ w'.cell? ⟨wr.heap.size, 2, none⟩ = some (.int .i64 (nthP P k).e) ∧ w'.cell? ⟨wr.heap.size, 3, none⟩ = some (.string (nthP P k).n) ∧ w'.cell? ⟨w.heap.size, 1, none⟩ = some (.slice ka key.length kc) ∧ w'.cell? ⟨w.heap.size, 4, none⟩ = some (.slice (some ⟨bb, off, none⟩) P.length cap)) := fun w' h => ⟨(BX.out.grow h).cell 0, (BX.out.grow h).cell 1, (BX.out.grow h).cell 2, (BX.out.grow h).cell 3, (BG.out.grow h).cell 1, (BG.out.grow h).cell 4⟩
              refine wp_region_held_drew (S := fun w' => w'.cell? ⟨wr.heap.size, 0, none⟩ = some (.slice ad (nthP P k).l.length cp) ∧ w'.cell? ⟨wr.heap.size, 1, none⟩ = some (.int .i64 (nthP P k).s) ∧ w'.cell? ⟨wr.heap.size, 2, none⟩ = some (.int .i64 (nthP P k).e) ∧ w'.cell? ⟨wr.heap.size, 3, none⟩ = some (.string (nthP P k).n) ∧ w'.cell? ⟨w.heap.size, 1, none⟩ = some (.slice ka key.length kc) ∧ w'.cell? ⟨w.heap.size, 4, none⟩ = some (.slice (some ⟨bb, off, none⟩) P.length cap)) (by kernel_rfl) (HS.out _ (Below.refl W5.heap.size W5).drew) (fun hHeld => ?_)
              refine wpAnyH_take (i := 0) (oi := { dst := some 15, op := Op.load 48 (Operand.tmp 6), type := 48, pos := "l11_group.go:35", after := #[], guard := none }) (v := ?vm5x0) rfl (by kernel_rfl) (by kernel_rfl) (by kernel_rfl) (fun _ _ _ h => h) (Or.inl ⟨by rfl, ?hym5x0⟩) hHeld ?_
              case hym5x0 => (intro w hSw; (try dsimp only at hSw); go_simp <;> with_reducible rfl)
              try simp only [Act.put, List.setIfInBounds_toArray, List.set_cons_zero, List.set_cons_succ]
              refine wpAnyH_ready (rs := [1]) (by kernel_rfl) (by simp) ?_
              refine AllReadyH.cons (o := { dst := some 16, op := Op.call { callee := Callee.value (Operand.func 96), args := #[Operand.tmp 15], argTypes := #[48] }, type := 4, pos := "l11_group.go:35", after := #[{ on := 0, ground := Ground.data }], guard := none }) rfl (fun K hK => ?_) AllReadyH.nil
              go_simp
              refine (HOK.out _ (Below.refl W5.heap.size W5).drew).mono ?_
              rintro r wym5x1 ⟨rfl, hb1⟩
              have Z1 : Hid (Below W5.heap.size W5 wym5x1) := grow_on (Below.refl W5.heap.size W5).drew hb1
              clear hb1
              try rw [hA]
              clear hHeld
              refine hK.out _ _ (HS.out _ Z1.out) (fun hHeld => ?_)
              clear hK K
              try simp only [Act.put, List.setIfInBounds_toArray, List.set_cons_zero, List.set_cons_succ]
              refine wpAnyH_take (i := 2) (oi := { dst := some 17, op := Op.unOp UnOp.not 4 (Operand.tmp 16), type := 4, pos := "l11_group.go:35", after := #[{ on := 1, ground := Ground.data }], guard := none }) (v := ?vm5x2) rfl (by kernel_rfl) (by kernel_rfl) (by kernel_rfl) (fun _ _ _ h => h) (Or.inl ⟨by rfl, ?hym5x2⟩) hHeld ?_
              case hym5x2 => (intro w hSw; (try dsimp only at hSw); go_simp <;> with_reducible rfl)
              try simp only [Act.put, List.setIfInBounds_toArray, List.set_cons_zero, List.set_cons_succ]
              refine wpAnyH_take (i := 3) (oi := { dst := some 18, op := Op.move (Operand.tmp 17), type := 4, pos := "l11_group.go:35", after := #[{ on := 2, ground := Ground.data }, { on := 1, ground := Ground.chain }], guard := none }) (v := ?vm5x3) rfl (by kernel_rfl) (by kernel_rfl) (by kernel_rfl) (fun _ _ _ h => h) (Or.inl ⟨by rfl, ?hym5x3⟩) hHeld ?_
              case hym5x3 => (intro w hSw; (try dsimp only at hSw); go_simp <;> with_reducible rfl)
              try simp only [Act.put, List.setIfInBounds_toArray, List.set_cons_zero, List.set_cons_succ]
              refine wpAnyH_take (i := 4) (oi := { dst := some 19, op := Op.load 48 (Operand.tmp 6), type := 48, pos := "l11_group.go:35", after := #[{ on := 3, ground := Ground.guard }], guard := some (3, false) }) (v := ?vm5x4) rfl (by kernel_rfl) (by kernel_rfl) (by kernel_rfl) (fun _ _ _ h => h) (Or.inl ⟨by rfl, ?hym5x4⟩) hHeld ?_
              case hym5x4 => (intro w hSw; (try dsimp only at hSw); go_simp <;> with_reducible rfl)
              try simp only [Act.put, List.setIfInBounds_toArray, List.set_cons_zero, List.set_cons_succ]
              refine wpAnyH_take (i := 5) (oi := { dst := some 20, op := Op.move (Operand.tmp 1), type := 23, pos := "l11_group.go:35", after := #[{ on := 3, ground := Ground.guard }], guard := some (3, false) }) (v := ?vm5x5) rfl (by kernel_rfl) (by kernel_rfl) (by kernel_rfl) (fun _ _ _ h => h) (Or.inl ⟨by rfl, ?hym5x5⟩) hHeld ?_
              case hym5x5 => (intro w hSw; (try dsimp only at hSw); go_simp <;> with_reducible rfl)
              try simp only [Act.put, List.setIfInBounds_toArray, List.set_cons_zero, List.set_cons_succ]
              refine wpAnyH_take (i := 7) (oi := { dst := some 22, op := Op.fieldAddr 67 (Operand.tmp 2) 1, type := 0, pos := "l11_group.go:35", after := #[{ on := 3, ground := Ground.guard }], guard := some (3, false) }) (v := ?vm5x7) rfl (by kernel_rfl) (by kernel_rfl) (by kernel_rfl) (fun _ _ _ h => h) (Or.inl ⟨by rfl, ?hym5x7⟩) hHeld ?_
              case hym5x7 => (intro w hSw; (try dsimp only at hSw); go_simp <;> with_reducible rfl)
              try simp only [Act.put, List.setIfInBounds_toArray, List.set_cons_zero, List.set_cons_succ]
              refine wpAnyH_take (i := 8) (oi := { dst := some 23, op := Op.load 36 (Operand.tmp 22), type := 36, pos := "l11_group.go:35", after := #[{ on := 7, ground := Ground.data }, { on := 3, ground := Ground.guard }], guard := some (3, false) }) (v := ?vm5x8) rfl (by kernel_rfl) (by kernel_rfl) (by kernel_rfl) (fun _ _ _ h => h) (Or.inl ⟨by rfl, ?hym5x8⟩) hHeld ?_
              case hym5x8 => (intro w hSw; (try dsimp only at hSw); go_simp <;> with_reducible rfl)
              try simp only [Act.put, List.setIfInBounds_toArray, List.set_cons_zero, List.set_cons_succ]
              refine wpAnyH_ready (rs := [6]) (by kernel_rfl) (by simp) ?_
              refine AllReadyH.cons (o := { dst := some 21, op := Op.call { callee := Callee.value (Operand.func 55), args := #[Operand.tmp 19, Operand.tmp 20], argTypes := #[48, 23] }, type := 36, pos := "l11_group.go:35", after := #[{ on := 4, ground := Ground.data }, { on := 5, ground := Ground.data }, { on := 3, ground := Ground.chain }, { on := 3, ground := Ground.guard }], guard := some (3, false) }) rfl (fun K hK => ?_) AllReadyH.nil
              go_simp
              refine (HKE.out _ Z1.out).mono ?_
              rintro r wym5x6 ⟨⟨MK, ck, rfl, hOK⟩, hb3⟩
              have Z3 : Hid (Below W5.heap.size W5 wym5x6) := grow_on Z1.out hb3
              have HO3 : Hid (Reads wym5x6 (some ⟨MK, 0, none⟩) (projB (nthP P k).l by')) := own_reads hOK
              clear hb3 hOK
              clear hHeld
              refine hK.out _ _ (HS.out _ Z3.out) (fun hHeld => ?_)
              clear hK K
              try simp only [Act.put, List.setIfInBounds_toArray, List.set_cons_zero, List.set_cons_succ]
              refine wpAnyH_ready (rs := [9]) (by kernel_rfl) (by simp) ?_
              refine AllReadyH.cons (o := { dst := some 24, op := Op.call { callee := Callee.value (Operand.func 47), args := #[Operand.tmp 21, Operand.tmp 23], argTypes := #[36, 36] }, type := 4, pos := "l11_group.go:35", after := #[{ on := 6, ground := Ground.data }, { on := 8, ground := Ground.data }, { on := 6, ground := Ground.chain }, { on := 3, ground := Ground.guard }], guard := some (3, false) }) rfl (fun K hK => ?_) AllReadyH.nil
              go_simp
              refine (calls_drew (implSame_any _ _ _ _ (projB (nthP P k).l by') key _ HO3.out (HK.out.1.below (grow_on HBX.out Z3.out)) HPL.out HK.out.2)).mono ?_
              rintro r wym5x9 ⟨rfl, hb4⟩
              have Z4 : Hid (Below W5.heap.size W5 wym5x9) := grow_on Z3.out hb4
              clear hb4
              try rw [hSm]
              clear hHeld
              refine hK.out _ _ (HS.out _ Z4.out) (fun hHeld => ?_)
              clear hK K
              try simp only [Act.put, List.setIfInBounds_toArray, List.set_cons_zero, List.set_cons_succ]
              refine wpAnyH_take (i := 10) (oi := { dst := some 25, op := Op.unOp UnOp.not 4 (Operand.tmp 24), type := 4, pos := "l11_group.go:35", after := #[{ on := 9, ground := Ground.data }, { on := 3, ground := Ground.guard }], guard := some (3, false) }) (v := ?vm5x10) rfl (by kernel_rfl) (by kernel_rfl) (by kernel_rfl) (fun _ _ _ h => h) (Or.inl ⟨by rfl, ?hym5x10⟩) hHeld ?_
              case hym5x10 => (intro w hSw; (try dsimp only at hSw); go_simp <;> with_reducible rfl)
              try simp only [Act.put, List.setIfInBounds_toArray, List.set_cons_zero, List.set_cons_succ]
              refine wpAnyH_take (i := 11) (oi := { dst := some 26, op := Op.pick (Operand.tmp 18) (Operand.const (Value.bool true)) (Operand.tmp 25), type := 4, pos := "l11_group.go:35", after := #[{ on := 3, ground := Ground.data }, { on := 10, ground := Ground.data }], guard := none }) (v := ?vm5x11) rfl (by kernel_rfl) (by kernel_rfl) (by kernel_rfl) (fun _ _ _ h => h) (Or.inl ⟨by rfl, ?hym5x11⟩) hHeld ?_
              case hym5x11 => (intro w hSw; (try dsimp only at hSw); go_simp <;> with_reducible rfl)
              try simp only [Act.put, List.setIfInBounds_toArray, List.set_cons_zero, List.set_cons_succ]
              refine wpAnyH_done (by kernel_rfl) ?_ _
              clear hHeld HS
              go_upto_region 6 with fail
              have HS : Hid (∀ w', Below W5.heap.size W5 w' → w'.cell? ⟨wr.heap.size, 0, none⟩ = some (.slice ad (nthP P k).l.length cp) ∧ w'.cell? ⟨wr.heap.size, 1, none⟩ = some (.int .i64 (nthP P k).s) ∧ w'.cell? ⟨wr.heap.size, 2, none⟩ = some (.int .i64 (nthP P k).e) ∧ w'.cell? ⟨wr.heap.size, 3, none⟩ = some (.string (nthP P k).n) ∧ w'.cell? ⟨w.heap.size, 1, none⟩ = some (.slice ka key.length kc) ∧ w'.cell? ⟨w.heap.size, 4, none⟩ = some (.slice (some ⟨bb, off, none⟩) P.length cap) ∧ w'.cell? ⟨bb, off + m * 4, none⟩ = some (.slice ad2 (nthP P m).l.length cp2)) := fun w' h => ⟨(BX.out.grow h).cell 0, (BX.out.grow h).cell 1, (BX.out.grow h).cell 2, (BX.out.grow h).cell 3, (BG.out.grow h).cell 1, (BG.out.grow h).cell 4, ((grow_on HB5.out h).cell (p := ⟨bb, off + m * 4, none⟩) hbb).trans HA2.out.c0⟩
              refine wp_region_held_drew (S := fun w' => w'.cell? ⟨wr.heap.size, 0, none⟩ = some (.slice ad (nthP P k).l.length cp) ∧ w'.cell? ⟨wr.heap.size, 1, none⟩ = some (.int .i64 (nthP P k).s) ∧ w'.cell? ⟨wr.heap.size, 2, none⟩ = some (.int .i64 (nthP P k).e) ∧ w'.cell? ⟨wr.heap.size, 3, none⟩ = some (.string (nthP P k).n) ∧ w'.cell? ⟨w.heap.size, 1, none⟩ = some (.slice ka key.length kc) ∧ w'.cell? ⟨w.heap.size, 4, none⟩ = some (.slice (some ⟨bb, off, none⟩) P.length cap) ∧ w'.cell? ⟨bb, off + m * 4, none⟩ = some (.slice ad2 (nthP P m).l.length cp2)) (by kernel_rfl) (HS.out _ (grow_on Z4.out (Below.refl _ _).drew)) (fun hHeld => ?_)
              refine wpAnyH_take (i := 0) (oi := { dst := some 27, op := Op.move (Operand.tmp 5), type := 3, pos := "l11_group.go:39", after := #[], guard := none }) (v := ?vm6x0) rfl (by kernel_rfl) (by kernel_rfl) (by kernel_rfl) (fun _ _ _ h => h) (Or.inl ⟨by rfl, ?hym6x0⟩) hHeld ?_
              case hym6x0 => (intro w hSw; (try dsimp only at hSw); go_simp <;> with_reducible rfl)
              try simp only [Act.put, List.setIfInBounds_toArray, List.set_cons_zero, List.set_cons_succ]
              refine wpAnyH_take (i := 1) (oi := { dst := some 28, op := Op.binOp BinOp.gtr 3 (Operand.tmp 27) (Operand.const (Value.int IntKind.i64 0)) 3, type := 4, pos := "l11_group.go:39", after := #[{ on := 0, ground := Ground.data }], guard := none }) (v := ?vm6x1) rfl (by kernel_rfl) (by kernel_rfl) (by kernel_rfl) (fun _ _ _ h => h) (Or.inl ⟨by rfl, ?hym6x1⟩) hHeld ?_
              case hym6x1 => (intro w hSw; (try dsimp only at hSw); go_simp <;> with_reducible rfl)
              try simp only [Act.put, List.setIfInBounds_toArray, List.set_cons_zero, List.set_cons_succ]
              refine wpAnyH_take (i := 2) (oi := { dst := some 29, op := Op.move (Operand.tmp 28), type := 4, pos := "l11_group.go:39", after := #[{ on := 1, ground := Ground.data }], guard := none }) (v := ?vm6x2) rfl (by kernel_rfl) (by kernel_rfl) (by kernel_rfl) (fun _ _ _ h => h) (Or.inl ⟨by rfl, ?hym6x2⟩) hHeld ?_
              case hym6x2 => (intro w hSw; (try dsimp only at hSw); go_simp <;> with_reducible rfl)
              try simp only [Act.put, List.setIfInBounds_toArray, List.set_cons_zero, List.set_cons_succ]
              refine wpAnyH_take (i := 3) (oi := { dst := some 30, op := Op.fieldAddr 67 (Operand.tmp 2) 4, type := 0, pos := "l11_group.go:39", after := #[{ on := 2, ground := Ground.guard }], guard := some (2, true) }) (v := ?vm6x3) rfl (by kernel_rfl) (by kernel_rfl) (by kernel_rfl) (fun _ _ _ h => h) (Or.inl ⟨by rfl, ?hym6x3⟩) hHeld ?_
              case hym6x3 => (intro w hSw; (try dsimp only at hSw); go_simp <;> with_reducible rfl)
              try simp only [Act.put, List.setIfInBounds_toArray, List.set_cons_zero, List.set_cons_succ]
              refine wpAnyH_take (i := 4) (oi := { dst := some 31, op := Op.load 53 (Operand.tmp 30), type := 53, pos := "l11_group.go:39", after := #[{ on := 3, ground := Ground.data }, { on := 2, ground := Ground.guard }], guard := some (2, true) }) (v := ?vm6x4) rfl (by kernel_rfl) (by kernel_rfl) (by kernel_rfl) (fun _ _ _ h => h) (Or.inl ⟨by rfl, ?hym6x4⟩) hHeld ?_
              case hym6x4 => (intro w hSw; (try dsimp only at hSw); go_simp <;> with_reducible rfl)
              try simp only [Act.put, List.setIfInBounds_toArray, List.set_cons_zero, List.set_cons_succ]
              refine wpAnyH_take (i := 5) (oi := { dst := some 32, op := Op.move (Operand.tmp 5), type := 3, pos := "l11_group.go:39", after := #[{ on := 2, ground := Ground.guard }], guard := some (2, true) }) (v := ?vm6x5) rfl (by kernel_rfl) (by kernel_rfl) (by kernel_rfl) (fun _ _ _ h => h) (Or.inl ⟨by rfl, ?hym6x5⟩) hHeld ?_
              case hym6x5 => (intro w hSw; (try dsimp only at hSw); go_simp <;> with_reducible rfl)
              try simp only [Act.put, List.setIfInBounds_toArray, List.set_cons_zero, List.set_cons_succ]
              refine wpAnyH_take (i := 6) (oi := { dst := some 33, op := Op.binOp BinOp.sub 3 (Operand.tmp 32) (Operand.const (Value.int IntKind.i64 1)) 3, type := 3, pos := "l11_group.go:39", after := #[{ on := 5, ground := Ground.data }, { on := 2, ground := Ground.guard }], guard := some (2, true) }) (v := ?vm6x6) rfl (by kernel_rfl) (by kernel_rfl) (by kernel_rfl) (fun _ _ _ h => h) (Or.inl ⟨by rfl, ?hym6x6⟩) hHeld ?_
              case hym6x6 => (intro w hSw; (try dsimp only at hSw); go_simp <;> with_reducible rfl)
              try simp only [Act.put, List.setIfInBounds_toArray, List.set_cons_zero, List.set_cons_succ]
              refine wpAnyH_take (i := 7) (oi := { dst := some 34, op := Op.indexAddr 53 (Operand.tmp 31) (Operand.tmp 33), type := 0, pos := "l11_group.go:39", after := #[{ on := 4, ground := Ground.data }, { on := 6, ground := Ground.data }, { on := 2, ground := Ground.guard }], guard := some (2, true) }) (v := ?vm6x7) rfl (by kernel_rfl) (by kernel_rfl) (by kernel_rfl) (fun _ _ _ h => h) (Or.inl ⟨by rfl, ?hym6x7⟩) hHeld ?_
              case hym6x7 => (intro w hSw; (try dsimp only at hSw); go_simp <;> with_reducible rfl)
              try simp only [Act.put, List.setIfInBounds_toArray, List.set_cons_zero, List.set_cons_succ]
              refine wpAnyH_take (i := 8) (oi := { dst := some 35, op := Op.fieldAddr 48 (Operand.tmp 34) 0, type := 0, pos := "l11_group.go:39", after := #[{ on := 7, ground := Ground.data }, { on := 2, ground := Ground.guard }], guard := some (2, true) }) (v := ?vm6x8) rfl (by kernel_rfl) (by kernel_rfl) (by kernel_rfl) (fun _ _ _ h => h) (Or.inl ⟨by rfl, ?hym6x8⟩) hHeld ?_
              case hym6x8 => (intro w hSw; (try dsimp only at hSw); go_simp <;> with_reducible rfl)
              try simp only [Act.put, List.setIfInBounds_toArray, List.set_cons_zero, List.set_cons_succ]
              refine wpAnyH_take (i := 9) (oi := { dst := some 36, op := Op.load 36 (Operand.tmp 35), type := 36, pos := "l11_group.go:39", after := #[{ on := 8, ground := Ground.data }, { on := 2, ground := Ground.guard }], guard := some (2, true) }) (v := ?vm6x9) rfl (by kernel_rfl) (by kernel_rfl) (by kernel_rfl) (fun _ _ _ h => h) (Or.inl ⟨by rfl, ?hym6x9⟩) hHeld ?_
              case hym6x9 => (intro w hSw; (try dsimp only at hSw); go_simp <;> with_reducible rfl)
              try simp only [Act.put, List.setIfInBounds_toArray, List.set_cons_zero, List.set_cons_succ]
              refine wpAnyH_take (i := 10) (oi := { dst := some 37, op := Op.fieldAddr 48 (Operand.tmp 6) 0, type := 0, pos := "l11_group.go:39", after := #[{ on := 2, ground := Ground.guard }], guard := some (2, true) }) (v := ?vm6x10) rfl (by kernel_rfl) (by kernel_rfl) (by kernel_rfl) (fun _ _ _ h => h) (Or.inl ⟨by rfl, ?hym6x10⟩) hHeld ?_
              case hym6x10 => (intro w hSw; (try dsimp only at hSw); go_simp <;> with_reducible rfl)
              try simp only [Act.put, List.setIfInBounds_toArray, List.set_cons_zero, List.set_cons_succ]
              refine wpAnyH_take (i := 11) (oi := { dst := some 38, op := Op.load 36 (Operand.tmp 37), type := 36, pos := "l11_group.go:39", after := #[{ on := 10, ground := Ground.data }, { on := 2, ground := Ground.guard }], guard := some (2, true) }) (v := ?vm6x11) rfl (by kernel_rfl) (by kernel_rfl) (by kernel_rfl) (fun _ _ _ h => h) (Or.inl ⟨by rfl, ?hym6x11⟩) hHeld ?_
              case hym6x11 => (intro w hSw; (try dsimp only at hSw); go_simp <;> with_reducible rfl)
              try simp only [Act.put, List.setIfInBounds_toArray, List.set_cons_zero, List.set_cons_succ]
              refine wpAnyH_ready (rs := [12]) (by kernel_rfl) (by simp) ?_
              refine AllReadyH.cons (o := { dst := some 39, op := Op.call { callee := Callee.value (Operand.func 97), args := #[Operand.tmp 36, Operand.tmp 38], argTypes := #[36, 36] }, type := 4, pos := "l11_group.go:39", after := #[{ on := 9, ground := Ground.data }, { on := 11, ground := Ground.data }, { on := 2, ground := Ground.chain }, { on := 2, ground := Ground.guard }], guard := some (2, true) }) rfl (fun K hK => ?_) AllReadyH.nil
              go_simp
              refine (HLE.out _ (grow_on Z4.out (Below.refl _ _).drew)).mono ?_
              rintro r wym6x12 ⟨rfl, hb5⟩
              have Z5 : Hid (Below W5.heap.size W5 wym6x12) := grow_on (grow_on Z4.out (Below.refl _ _).drew) hb5
              clear hb5
              try rw [hLs]
              clear hHeld
              refine hK.out _ _ (HS.out _ Z5.out) (fun hHeld => ?_)
              clear hK K
              try simp only [Act.put, List.setIfInBounds_toArray, List.set_cons_zero, List.set_cons_succ]
              refine wpAnyH_take (i := 13) (oi := { dst := some 40, op := Op.unOp UnOp.not 4 (Operand.tmp 39), type := 4, pos := "l11_group.go:39", after := #[{ on := 12, ground := Ground.data }, { on := 2, ground := Ground.guard }], guard := some (2, true) }) (v := ?vm6x13) rfl (by kernel_rfl) (by kernel_rfl) (by kernel_rfl) (fun _ _ _ h => h) (Or.inl ⟨by rfl, ?hym6x13⟩) hHeld ?_
              case hym6x13 => (intro w hSw; (try dsimp only at hSw); go_simp <;> with_reducible rfl)
              try simp only [Act.put, List.setIfInBounds_toArray, List.set_cons_zero, List.set_cons_succ]
              refine wpAnyH_take (i := 14) (oi := { dst := some 41, op := Op.pick (Operand.tmp 29) (Operand.tmp 40) (Operand.const (Value.bool false)), type := 4, pos := "l11_group.go:39", after := #[{ on := 2, ground := Ground.data }, { on := 13, ground := Ground.data }], guard := none }) (v := ?vm6x14) rfl (by kernel_rfl) (by kernel_rfl) (by kernel_rfl) (fun _ _ _ h => h) (Or.inl ⟨by rfl, ?hym6x14⟩) hHeld ?_
              case hym6x14 => (intro w hSw; (try dsimp only at hSw); go_simp <;> with_reducible rfl)
              try simp only [Act.put, List.setIfInBounds_toArray, List.set_cons_zero, List.set_cons_succ]
              refine wpAnyH_done (by kernel_rfl) ?_ _
              clear hHeld HS
              go_wp2
              go_ret
              exact ⟨retB HE.out.symm, grow_on HBX.out Z5.out⟩
            | true =>
              have HG : Hid (grAt key P by' k = true) := by unfold Hid grAt; rw [hA, hSm, hmk, hLs]; simp
              have HU1 : Hid (∀ j, j < k + 1 → grAt key P by' j = true) := fun j hj => by
                by_cases e : j = k
                · rw [e]; exact HG.out
                · exact HU.out j (by omega)
              clear hmk hk0
              have HS : Hid (∀ w', Below W5.heap.size W5 w' → w'.cell? ⟨wr.heap.size, 0, none⟩ = some (.slice ad (nthP P k).l.length cp) ∧ w'.cell? ⟨wr.heap.size, 1, none⟩ = some (.int .i64 (nthP P k).s) ∧ w'.cell? ⟨wr.heap.size, 2, none⟩ = some (.int .i64 (nthP P k).e) ∧ w'.cell? ⟨wr.heap.size, 3, none⟩ = some (.string (nthP P k).n) ∧ w'.cell? ⟨w.heap.size, 1, none⟩ = some (.slice ka key.length kc) ∧ w'.cell? ⟨w.heap.size, 4, none⟩ = some (.slice (some ⟨bb, off, none⟩) P.length cap)) := fun w' h => ⟨(BX.out.grow h).cell 0, (BX.out.grow h).cell 1, (BX.out.grow h).cell 2, (BX.out.grow h).cell 3, (BG.out.grow h).cell 1, (BG.out.grow h).cell 4⟩
              refine wp_region_held_drew (S := fun w' => w'.cell? ⟨wr.heap.size, 0, none⟩ = some (.slice ad (nthP P k).l.length cp) ∧ w'.cell? ⟨wr.heap.size, 1, none⟩ = some (.int .i64 (nthP P k).s) ∧ w'.cell? ⟨wr.heap.size, 2, none⟩ = some (.int .i64 (nthP P k).e) ∧ w'.cell? ⟨wr.heap.size, 3, none⟩ = some (.string (nthP P k).n) ∧ w'.cell? ⟨w.heap.size, 1, none⟩ = some (.slice ka key.length kc) ∧ w'.cell? ⟨w.heap.size, 4, none⟩ = some (.slice (some ⟨bb, off, none⟩) P.length cap)) (by kernel_rfl) (HS.out _ (Below.refl W5.heap.size W5).drew) (fun hHeld => ?_)
              refine wpAnyH_take (i := 0) (oi := { dst := some 15, op := Op.load 48 (Operand.tmp 6), type := 48, pos := "l11_group.go:35", after := #[], guard := none }) (v := ?vm7x0) rfl (by kernel_rfl) (by kernel_rfl) (by kernel_rfl) (fun _ _ _ h => h) (Or.inl ⟨by rfl, ?hym7x0⟩) hHeld ?_
              case hym7x0 => (intro w hSw; (try dsimp only at hSw); go_simp <;> with_reducible rfl)
              try simp only [Act.put, List.setIfInBounds_toArray, List.set_cons_zero, List.set_cons_succ]
              refine wpAnyH_ready (rs := [1]) (by kernel_rfl) (by simp) ?_
              refine AllReadyH.cons (o := { dst := some 16, op := Op.call { callee := Callee.value (Operand.func 96), args := #[Operand.tmp 15], argTypes := #[48] }, type := 4, pos := "l11_group.go:35", after := #[{ on := 0, ground := Ground.data }], guard := none }) rfl (fun K hK => ?_) AllReadyH.nil
              go_simp
              refine (HOK.out _ (Below.refl W5.heap.size W5).drew).mono ?_
              rintro r wym7x1 ⟨rfl, hb1⟩
              have Z1 : Hid (Below W5.heap.size W5 wym7x1) := grow_on (Below.refl W5.heap.size W5).drew hb1
              clear hb1
              try rw [hA]
              clear hHeld
              refine hK.out _ _ (HS.out _ Z1.out) (fun hHeld => ?_)
              clear hK K
              try simp only [Act.put, List.setIfInBounds_toArray, List.set_cons_zero, List.set_cons_succ]
              refine wpAnyH_take (i := 2) (oi := { dst := some 17, op := Op.unOp UnOp.not 4 (Operand.tmp 16), type := 4, pos := "l11_group.go:35", after := #[{ on := 1, ground := Ground.data }], guard := none }) (v := ?vm7x2) rfl (by kernel_rfl) (by kernel_rfl) (by kernel_rfl) (fun _ _ _ h => h) (Or.inl ⟨by rfl, ?hym7x2⟩) hHeld ?_
              case hym7x2 => (intro w hSw; (try dsimp only at hSw); go_simp <;> with_reducible rfl)
              try simp only [Act.put, List.setIfInBounds_toArray, List.set_cons_zero, List.set_cons_succ]
              refine wpAnyH_take (i := 3) (oi := { dst := some 18, op := Op.move (Operand.tmp 17), type := 4, pos := "l11_group.go:35", after := #[{ on := 2, ground := Ground.data }, { on := 1, ground := Ground.chain }], guard := none }) (v := ?vm7x3) rfl (by kernel_rfl) (by kernel_rfl) (by kernel_rfl) (fun _ _ _ h => h) (Or.inl ⟨by rfl, ?hym7x3⟩) hHeld ?_
              case hym7x3 => (intro w hSw; (try dsimp only at hSw); go_simp <;> with_reducible rfl)
              try simp only [Act.put, List.setIfInBounds_toArray, List.set_cons_zero, List.set_cons_succ]
              refine wpAnyH_take (i := 4) (oi := { dst := some 19, op := Op.load 48 (Operand.tmp 6), type := 48, pos := "l11_group.go:35", after := #[{ on := 3, ground := Ground.guard }], guard := some (3, false) }) (v := ?vm7x4) rfl (by kernel_rfl) (by kernel_rfl) (by kernel_rfl) (fun _ _ _ h => h) (Or.inl ⟨by rfl, ?hym7x4⟩) hHeld ?_
              case hym7x4 => (intro w hSw; (try dsimp only at hSw); go_simp <;> with_reducible rfl)
              try simp only [Act.put, List.setIfInBounds_toArray, List.set_cons_zero, List.set_cons_succ]
              refine wpAnyH_take (i := 5) (oi := { dst := some 20, op := Op.move (Operand.tmp 1), type := 23, pos := "l11_group.go:35", after := #[{ on := 3, ground := Ground.guard }], guard := some (3, false) }) (v := ?vm7x5) rfl (by kernel_rfl) (by kernel_rfl) (by kernel_rfl) (fun _ _ _ h => h) (Or.inl ⟨by rfl, ?hym7x5⟩) hHeld ?_
              case hym7x5 => (intro w hSw; (try dsimp only at hSw); go_simp <;> with_reducible rfl)
              try simp only [Act.put, List.setIfInBounds_toArray, List.set_cons_zero, List.set_cons_succ]
              refine wpAnyH_take (i := 7) (oi := { dst := some 22, op := Op.fieldAddr 67 (Operand.tmp 2) 1, type := 0, pos := "l11_group.go:35", after := #[{ on := 3, ground := Ground.guard }], guard := some (3, false) }) (v := ?vm7x7) rfl (by kernel_rfl) (by kernel_rfl) (by kernel_rfl) (fun _ _ _ h => h) (Or.inl ⟨by rfl, ?hym7x7⟩) hHeld ?_
              case hym7x7 => (intro w hSw; (try dsimp only at hSw); go_simp <;> with_reducible rfl)
              try simp only [Act.put, List.setIfInBounds_toArray, List.set_cons_zero, List.set_cons_succ]
              refine wpAnyH_take (i := 8) (oi := { dst := some 23, op := Op.load 36 (Operand.tmp 22), type := 36, pos := "l11_group.go:35", after := #[{ on := 7, ground := Ground.data }, { on := 3, ground := Ground.guard }], guard := some (3, false) }) (v := ?vm7x8) rfl (by kernel_rfl) (by kernel_rfl) (by kernel_rfl) (fun _ _ _ h => h) (Or.inl ⟨by rfl, ?hym7x8⟩) hHeld ?_
              case hym7x8 => (intro w hSw; (try dsimp only at hSw); go_simp <;> with_reducible rfl)
              try simp only [Act.put, List.setIfInBounds_toArray, List.set_cons_zero, List.set_cons_succ]
              refine wpAnyH_ready (rs := [6]) (by kernel_rfl) (by simp) ?_
              refine AllReadyH.cons (o := { dst := some 21, op := Op.call { callee := Callee.value (Operand.func 55), args := #[Operand.tmp 19, Operand.tmp 20], argTypes := #[48, 23] }, type := 36, pos := "l11_group.go:35", after := #[{ on := 4, ground := Ground.data }, { on := 5, ground := Ground.data }, { on := 3, ground := Ground.chain }, { on := 3, ground := Ground.guard }], guard := some (3, false) }) rfl (fun K hK => ?_) AllReadyH.nil
              go_simp
              refine (HKE.out _ Z1.out).mono ?_
              rintro r wym7x6 ⟨⟨MK, ck, rfl, hOK⟩, hb3⟩
              have Z3 : Hid (Below W5.heap.size W5 wym7x6) := grow_on Z1.out hb3
              have HO3 : Hid (Reads wym7x6 (some ⟨MK, 0, none⟩) (projB (nthP P k).l by')) := own_reads hOK
              clear hb3 hOK
              clear hHeld
              refine hK.out _ _ (HS.out _ Z3.out) (fun hHeld => ?_)
              clear hK K
              try simp only [Act.put, List.setIfInBounds_toArray, List.set_cons_zero, List.set_cons_succ]
              refine wpAnyH_ready (rs := [9]) (by kernel_rfl) (by simp) ?_
              refine AllReadyH.cons (o := { dst := some 24, op := Op.call { callee := Callee.value (Operand.func 47), args := #[Operand.tmp 21, Operand.tmp 23], argTypes := #[36, 36] }, type := 4, pos := "l11_group.go:35", after := #[{ on := 6, ground := Ground.data }, { on := 8, ground := Ground.data }, { on := 6, ground := Ground.chain }, { on := 3, ground := Ground.guard }], guard := some (3, false) }) rfl (fun K hK => ?_) AllReadyH.nil
              go_simp
              refine (calls_drew (implSame_any _ _ _ _ (projB (nthP P k).l by') key _ HO3.out (HK.out.1.below (grow_on HBX.out Z3.out)) HPL.out HK.out.2)).mono ?_
              rintro r wym7x9 ⟨rfl, hb4⟩
              have Z4 : Hid (Below W5.heap.size W5 wym7x9) := grow_on Z3.out hb4
              clear hb4
              try rw [hSm]
              clear hHeld
              refine hK.out _ _ (HS.out _ Z4.out) (fun hHeld => ?_)
              clear hK K
              try simp only [Act.put, List.setIfInBounds_toArray, List.set_cons_zero, List.set_cons_succ]
              refine wpAnyH_take (i := 10) (oi := { dst := some 25, op := Op.unOp UnOp.not 4 (Operand.tmp 24), type := 4, pos := "l11_group.go:35", after := #[{ on := 9, ground := Ground.data }, { on := 3, ground := Ground.guard }], guard := some (3, false) }) (v := ?vm7x10) rfl (by kernel_rfl) (by kernel_rfl) (by kernel_rfl) (fun _ _ _ h => h) (Or.inl ⟨by rfl, ?hym7x10⟩) hHeld ?_
              case hym7x10 => (intro w hSw; (try dsimp only at hSw); go_simp <;> with_reducible rfl)
              try simp only [Act.put, List.setIfInBounds_toArray, List.set_cons_zero, List.set_cons_succ]
              refine wpAnyH_take (i := 11) (oi := { dst := some 26, op := Op.pick (Operand.tmp 18) (Operand.const (Value.bool true)) (Operand.tmp 25), type := 4, pos := "l11_group.go:35", after := #[{ on := 3, ground := Ground.data }, { on := 10, ground := Ground.data }], guard := none }) (v := ?vm7x11) rfl (by kernel_rfl) (by kernel_rfl) (by kernel_rfl) (fun _ _ _ h => h) (Or.inl ⟨by rfl, ?hym7x11⟩) hHeld ?_
              case hym7x11 => (intro w hSw; (try dsimp only at hSw); go_simp <;> with_reducible rfl)
              try simp only [Act.put, List.setIfInBounds_toArray, List.set_cons_zero, List.set_cons_succ]
              refine wpAnyH_done (by kernel_rfl) ?_ _
              clear hHeld HS
              go_upto_region 6 with fail
              have HS : Hid (∀ w', Below W5.heap.size W5 w' → w'.cell? ⟨wr.heap.size, 0, none⟩ = some (.slice ad (nthP P k).l.length cp) ∧ w'.cell? ⟨wr.heap.size, 1, none⟩ = some (.int .i64 (nthP P k).s) ∧ w'.cell? ⟨wr.heap.size, 2, none⟩ = some (.int .i64 (nthP P k).e) ∧ w'.cell? ⟨wr.heap.size, 3, none⟩ = some (.string (nthP P k).n) ∧ w'.cell? ⟨w.heap.size, 1, none⟩ = some (.slice ka key.length kc) ∧ w'.cell? ⟨w.heap.size, 4, none⟩ = some (.slice (some ⟨bb, off, none⟩) P.length cap) ∧ w'.cell? ⟨bb, off + m * 4, none⟩ = some (.slice ad2 (nthP P m).l.length cp2)) := fun w' h => ⟨(BX.out.grow h).cell 0, (BX.out.grow h).cell 1, (BX.out.grow h).cell 2, (BX.out.grow h).cell 3, (BG.out.grow h).cell 1, (BG.out.grow h).cell 4, ((grow_on HB5.out h).cell (p := ⟨bb, off + m * 4, none⟩) hbb).trans HA2.out.c0⟩
              refine wp_region_held_drew (S := fun w' => w'.cell? ⟨wr.heap.size, 0, none⟩ = some (.slice ad (nthP P k).l.length cp) ∧ w'.cell? ⟨wr.heap.size, 1, none⟩ = some (.int .i64 (nthP P k).s) ∧ w'.cell? ⟨wr.heap.size, 2, none⟩ = some (.int .i64 (nthP P k).e) ∧ w'.cell? ⟨wr.heap.size, 3, none⟩ = some (.string (nthP P k).n) ∧ w'.cell? ⟨w.heap.size, 1, none⟩ = some (.slice ka key.length kc) ∧ w'.cell? ⟨w.heap.size, 4, none⟩ = some (.slice (some ⟨bb, off, none⟩) P.length cap) ∧ w'.cell? ⟨bb, off + m * 4, none⟩ = some (.slice ad2 (nthP P m).l.length cp2)) (by kernel_rfl) (HS.out _ (grow_on Z4.out (Below.refl _ _).drew)) (fun hHeld => ?_)
              refine wpAnyH_take (i := 0) (oi := { dst := some 27, op := Op.move (Operand.tmp 5), type := 3, pos := "l11_group.go:39", after := #[], guard := none }) (v := ?vm8x0) rfl (by kernel_rfl) (by kernel_rfl) (by kernel_rfl) (fun _ _ _ h => h) (Or.inl ⟨by rfl, ?hym8x0⟩) hHeld ?_
              case hym8x0 => (intro w hSw; (try dsimp only at hSw); go_simp <;> with_reducible rfl)
              try simp only [Act.put, List.setIfInBounds_toArray, List.set_cons_zero, List.set_cons_succ]
              refine wpAnyH_take (i := 1) (oi := { dst := some 28, op := Op.binOp BinOp.gtr 3 (Operand.tmp 27) (Operand.const (Value.int IntKind.i64 0)) 3, type := 4, pos := "l11_group.go:39", after := #[{ on := 0, ground := Ground.data }], guard := none }) (v := ?vm8x1) rfl (by kernel_rfl) (by kernel_rfl) (by kernel_rfl) (fun _ _ _ h => h) (Or.inl ⟨by rfl, ?hym8x1⟩) hHeld ?_
              case hym8x1 => (intro w hSw; (try dsimp only at hSw); go_simp <;> with_reducible rfl)
              try simp only [Act.put, List.setIfInBounds_toArray, List.set_cons_zero, List.set_cons_succ]
              refine wpAnyH_take (i := 2) (oi := { dst := some 29, op := Op.move (Operand.tmp 28), type := 4, pos := "l11_group.go:39", after := #[{ on := 1, ground := Ground.data }], guard := none }) (v := ?vm8x2) rfl (by kernel_rfl) (by kernel_rfl) (by kernel_rfl) (fun _ _ _ h => h) (Or.inl ⟨by rfl, ?hym8x2⟩) hHeld ?_
              case hym8x2 => (intro w hSw; (try dsimp only at hSw); go_simp <;> with_reducible rfl)
              try simp only [Act.put, List.setIfInBounds_toArray, List.set_cons_zero, List.set_cons_succ]
              refine wpAnyH_take (i := 3) (oi := { dst := some 30, op := Op.fieldAddr 67 (Operand.tmp 2) 4, type := 0, pos := "l11_group.go:39", after := #[{ on := 2, ground := Ground.guard }], guard := some (2, true) }) (v := ?vm8x3) rfl (by kernel_rfl) (by kernel_rfl) (by kernel_rfl) (fun _ _ _ h => h) (Or.inl ⟨by rfl, ?hym8x3⟩) hHeld ?_
              case hym8x3 => (intro w hSw; (try dsimp only at hSw); go_simp <;> with_reducible rfl)
              try simp only [Act.put, List.setIfInBounds_toArray, List.set_cons_zero, List.set_cons_succ]
              refine wpAnyH_take (i := 4) (oi := { dst := some 31, op := Op.load 53 (Operand.tmp 30), type := 53, pos := "l11_group.go:39", after := #[{ on := 3, ground := Ground.data }, { on := 2, ground := Ground.guard }], guard := some (2, true) }) (v := ?vm8x4) rfl (by kernel_rfl) (by kernel_rfl) (by kernel_rfl) (fun _ _ _ h => h) (Or.inl ⟨by rfl, ?hym8x4⟩) hHeld ?_
              case hym8x4 => (intro w hSw; (try dsimp only at hSw); go_simp <;> with_reducible rfl)
              try simp only [Act.put, List.setIfInBounds_toArray, List.set_cons_zero, List.set_cons_succ]
              refine wpAnyH_take (i := 5) (oi := { dst := some 32, op := Op.move (Operand.tmp 5), type := 3, pos := "l11_group.go:39", after := #[{ on := 2, ground := Ground.guard }], guard := some (2, true) }) (v := ?vm8x5) rfl (by kernel_rfl) (by kernel_rfl) (by kernel_rfl) (fun _ _ _ h => h) (Or.inl ⟨by rfl, ?hym8x5⟩) hHeld ?_
              case hym8x5 => (intro w hSw; (try dsimp only at hSw); go_simp <;> with_reducible rfl)
              try simp only [Act.put, List.setIfInBounds_toArray, List.set_cons_zero, List.set_cons_succ]
              refine wpAnyH_take (i := 6) (oi := { dst := some 33, op := Op.binOp BinOp.sub 3 (Operand.tmp 32) (Operand.const (Value.int IntKind.i64 1)) 3, type := 3, pos := "l11_group.go:39", after := #[{ on := 5, ground := Ground.data }, { on := 2, ground := Ground.guard }], guard := some (2, true) }) (v := ?vm8x6) rfl (by kernel_rfl) (by kernel_rfl) (by kernel_rfl) (fun _ _ _ h => h) (Or.inl ⟨by rfl, ?hym8x6⟩) hHeld ?_
              case hym8x6 => (intro w hSw; (try dsimp only at hSw); go_simp <;> with_reducible rfl)
              try simp only [Act.put, List.setIfInBounds_toArray, List.set_cons_zero, List.set_cons_succ]
              refine wpAnyH_take (i := 7) (oi := { dst := some 34, op := Op.indexAddr 53 (Operand.tmp 31) (Operand.tmp 33), type := 0, pos := "l11_group.go:39", after := #[{ on := 4, ground := Ground.data }, { on := 6, ground := Ground.data }, { on := 2, ground := Ground.guard }], guard := some (2, true) }) (v := ?vm8x7) rfl (by kernel_rfl) (by kernel_rfl) (by kernel_rfl) (fun _ _ _ h => h) (Or.inl ⟨by rfl, ?hym8x7⟩) hHeld ?_
              case hym8x7 => (intro w hSw; (try dsimp only at hSw); go_simp <;> with_reducible rfl)
              try simp only [Act.put, List.setIfInBounds_toArray, List.set_cons_zero, List.set_cons_succ]
              refine wpAnyH_take (i := 8) (oi := { dst := some 35, op := Op.fieldAddr 48 (Operand.tmp 34) 0, type := 0, pos := "l11_group.go:39", after := #[{ on := 7, ground := Ground.data }, { on := 2, ground := Ground.guard }], guard := some (2, true) }) (v := ?vm8x8) rfl (by kernel_rfl) (by kernel_rfl) (by kernel_rfl) (fun _ _ _ h => h) (Or.inl ⟨by rfl, ?hym8x8⟩) hHeld ?_
              case hym8x8 => (intro w hSw; (try dsimp only at hSw); go_simp <;> with_reducible rfl)
              try simp only [Act.put, List.setIfInBounds_toArray, List.set_cons_zero, List.set_cons_succ]
              refine wpAnyH_take (i := 9) (oi := { dst := some 36, op := Op.load 36 (Operand.tmp 35), type := 36, pos := "l11_group.go:39", after := #[{ on := 8, ground := Ground.data }, { on := 2, ground := Ground.guard }], guard := some (2, true) }) (v := ?vm8x9) rfl (by kernel_rfl) (by kernel_rfl) (by kernel_rfl) (fun _ _ _ h => h) (Or.inl ⟨by rfl, ?hym8x9⟩) hHeld ?_
              case hym8x9 => (intro w hSw; (try dsimp only at hSw); go_simp <;> with_reducible rfl)
              try simp only [Act.put, List.setIfInBounds_toArray, List.set_cons_zero, List.set_cons_succ]
              refine wpAnyH_take (i := 10) (oi := { dst := some 37, op := Op.fieldAddr 48 (Operand.tmp 6) 0, type := 0, pos := "l11_group.go:39", after := #[{ on := 2, ground := Ground.guard }], guard := some (2, true) }) (v := ?vm8x10) rfl (by kernel_rfl) (by kernel_rfl) (by kernel_rfl) (fun _ _ _ h => h) (Or.inl ⟨by rfl, ?hym8x10⟩) hHeld ?_
              case hym8x10 => (intro w hSw; (try dsimp only at hSw); go_simp <;> with_reducible rfl)
              try simp only [Act.put, List.setIfInBounds_toArray, List.set_cons_zero, List.set_cons_succ]
              refine wpAnyH_take (i := 11) (oi := { dst := some 38, op := Op.load 36 (Operand.tmp 37), type := 36, pos := "l11_group.go:39", after := #[{ on := 10, ground := Ground.data }, { on := 2, ground := Ground.guard }], guard := some (2, true) }) (v := ?vm8x11) rfl (by kernel_rfl) (by kernel_rfl) (by kernel_rfl) (fun _ _ _ h => h) (Or.inl ⟨by rfl, ?hym8x11⟩) hHeld ?_
              case hym8x11 => (intro w hSw; (try dsimp only at hSw); go_simp <;> with_reducible rfl)
              try simp only [Act.put, List.setIfInBounds_toArray, List.set_cons_zero, List.set_cons_succ]
              refine wpAnyH_ready (rs := [12]) (by kernel_rfl) (by simp) ?_
              refine AllReadyH.cons (o := { dst := some 39, op := Op.call { callee := Callee.value (Operand.func 97), args := #[Operand.tmp 36, Operand.tmp 38], argTypes := #[36, 36] }, type := 4, pos := "l11_group.go:39", after := #[{ on := 9, ground := Ground.data }, { on := 11, ground := Ground.data }, { on := 2, ground := Ground.chain }, { on := 2, ground := Ground.guard }], guard := some (2, true) }) rfl (fun K hK => ?_) AllReadyH.nil
              go_simp
              refine (HLE.out _ (grow_on Z4.out (Below.refl _ _).drew)).mono ?_
              rintro r wym8x12 ⟨rfl, hb5⟩
              have Z5 : Hid (Below W5.heap.size W5 wym8x12) := grow_on (grow_on Z4.out (Below.refl _ _).drew) hb5
              clear hb5
              try rw [hLs]
              clear hHeld
              refine hK.out _ _ (HS.out _ Z5.out) (fun hHeld => ?_)
              clear hK K
              try simp only [Act.put, List.setIfInBounds_toArray, List.set_cons_zero, List.set_cons_succ]
              refine wpAnyH_take (i := 13) (oi := { dst := some 40, op := Op.unOp UnOp.not 4 (Operand.tmp 39), type := 4, pos := "l11_group.go:39", after := #[{ on := 12, ground := Ground.data }, { on := 2, ground := Ground.guard }], guard := some (2, true) }) (v := ?vm8x13) rfl (by kernel_rfl) (by kernel_rfl) (by kernel_rfl) (fun _ _ _ h => h) (Or.inl ⟨by rfl, ?hym8x13⟩) hHeld ?_
              case hym8x13 => (intro w hSw; (try dsimp only at hSw); go_simp <;> with_reducible rfl)
              try simp only [Act.put, List.setIfInBounds_toArray, List.set_cons_zero, List.set_cons_succ]
              refine wpAnyH_take (i := 14) (oi := { dst := some 41, op := Op.pick (Operand.tmp 29) (Operand.tmp 40) (Operand.const (Value.bool false)), type := 4, pos := "l11_group.go:39", after := #[{ on := 2, ground := Ground.data }, { on := 13, ground := Ground.data }], guard := none }) (v := ?vm8x14) rfl (by kernel_rfl) (by kernel_rfl) (by kernel_rfl) (fun _ _ _ h => h) (Or.inl ⟨by rfl, ?hym8x14⟩) hHeld ?_
              case hym8x14 => (intro w hSw; (try dsimp only at hSw); go_simp <;> with_reducible rfl)
              try simp only [Act.put, List.setIfInBounds_toArray, List.set_cons_zero, List.set_cons_succ]
              refine wpAnyH_done (by kernel_rfl) ?_ _
              clear hHeld HS
              go_wp2
              go_roundw
              case rel => exact ⟨k + 1, by go_num, by omega, HU1.out, grow_on HBr.out (grow_on HB5.out Z5.out)⟩
              case measure => simp [intOf]; omega
    · have hge : ¬ (k : Int) < (P.length : Int) := by omega
      have HE : Hid (memB key P by' = true) := mem_good fun j hj => HU.out j (by omega)
      go_wp2
      go_ret
      exact ⟨retB HE.out.symm, HBw.out⟩
set_option maxHeartbeats 1600000 in
theorem implGroup_any (n b t : Int) (ka : Option Addr) (kc : Nat) (key : List Lab) (a : Option Addr) (cap : Nat) (P : List PAl) (ba : Option Addr) (bc : Nat) (by' : List ByteArray) (w : World) (hk : Reads w ka key) (hkl : key.length ≤ maxLen) (hkz : LabO.Fits key) (hr : RdA w a P) (hl : P.length ≤ 1048576) (hz : FitsP P) (hs : LenM P) (hb : RdS w ba by') (hbl : by'.length ≤ maxLen) :
    Calls Try.prog 41 #[.agg #[.int .i64 n, .slice ka key.length kc, .int .i64 b, .int .i64 t, .slice a P.length cap], .slice ba by'.length bc] w fun e w' => e = .returned (.bool (groupB n key b t P by')) ∧ Below w.heap.size w w' := by
  have HS : Hid (∀ y, Below w.heap.size w y → Calls Try.prog 72 #[.slice ka key.length kc] y fun e w' => e = .returned (.bool (setB key)) ∧ Below y.heap.size y w') := fun y hy => LabO.implSet_any ka kc key y (hk.below hy) hkl hkz
  have HT : Hid (∀ y, Calls Try.prog 73 #[.agg #[.int .i64 n, .slice ka key.length kc, .int .i64 b, .int .i64 t, .slice a P.length cap]] y fun e w' => e = .returned (.bool (timesB b t)) ∧ Below y.heap.size y w') := fun y => sendOk_any n b t _ _ y ⟨_, _, _, rfl⟩ ⟨_, _, _, rfl⟩
  have HM : Hid (∀ y, Below w.heap.size w y → Calls Try.prog 74 #[.agg #[.int .i64 n, .slice ka key.length kc, .int .i64 b, .int .i64 t, .slice a P.length cap], .slice ba by'.length bc] y fun e w' => e = .returned (.bool (memB key P by')) ∧ Below y.heap.size y w') := fun y hy => members_any n b t ka kc key a cap P ba bc by' y (hk.below hy) hkl (hr.below hy) hl hz hs (hb.below hy) hbl
  have HG : Hid (groupB n key b t P by' = (decide (0 ≤ n) && (setB key && (timesB b t && (decide (0 < P.length) && memB key P by'))))) := group_eq _ _ _ _ _ _
  clear hk hkl hkz hr hz hs hb hbl
  by_cases h0 : 0 ≤ n
  · go_enter Try.func41, Try.ntmps41
    go_wp2_with fail
    refine (HS.out _ (Go.Joins.below_alloc1 w _)).mono ?_
    rintro e w1 ⟨rfl, hb⟩
    have HB1 : Hid (Below w.heap.size w w1) := grow_on (Go.Joins.below_alloc1 w _) hb
    have BP1 : Hid (Blk w1 w.heap.size #[.int .i64 n, .slice ka key.length kc, .int .i64 b, .int .i64 t, .slice a P.length cap] 67) := (Blk.new _ _ _).grow hb
    clear hb
    cases h1 : setB key with
    | false =>
      have HE : Hid (groupB n key b t P by' = false) := by unfold Hid; rw [HG.out, h1]; simp
      clear h1
      go_wp2
      go_ret
      exact ⟨retB HE.out.symm, HB1.out⟩
    | true =>
      have p0 := BP1.out.cell 0
      have p1 := BP1.out.cell 1
      have p2 := BP1.out.cell 2
      have p3 := BP1.out.cell 3
      have p4 := BP1.out.cell 4
      simp at p0 p1 p2 p3 p4
      go_wp2_with fail
      refine (HT.out _).mono ?_
      rintro e w2 ⟨rfl, hb⟩
      have HB2 : Hid (Below w.heap.size w w2) := grow_on HB1.out hb
      have BP2 : Hid (Blk w2 w.heap.size #[.int .i64 n, .slice ka key.length kc, .int .i64 b, .int .i64 t, .slice a P.length cap] 67) := BP1.out.grow hb
      clear hb BP1 p0 p1 p2 p3 p4
      cases h2 : timesB b t with
      | false =>
        have HE : Hid (groupB n key b t P by' = false) := by unfold Hid; rw [HG.out, h2]; simp
        clear h2
        go_wp2
        go_ret
        exact ⟨retB HE.out.symm, HB2.out⟩
      | true =>
        have p0 := BP2.out.cell 0
        have p1 := BP2.out.cell 1
        have p2 := BP2.out.cell 2
        have p3 := BP2.out.cell 3
        have p4 := BP2.out.cell 4
        simp at p0 p1 p2 p3 p4
        by_cases h3 : 0 < P.length
        · have h3' : (0 : Int) < (P.length : Int) := by omega
          have HE : Hid (groupB n key b t P by' = memB key P by') := by unfold Hid; rw [HG.out, h1, h2, decide_eq_true h0, decide_eq_true h3]; rfl
          clear h1 h2
          go_wp2_with fail
          refine (HM.out _ HB2.out).mono ?_
          rintro e w3 ⟨rfl, hb⟩
          have HB3 : Hid (Below w.heap.size w w3) := grow_on HB2.out hb
          clear hb BP2 p0 p1 p2 p3 p4
          go_wp2
          go_ret
          exact ⟨retB HE.out.symm, HB3.out⟩
        · have h3' : ¬ (0 : Int) < (P.length : Int) := by omega
          have HE : Hid (groupB n key b t P by' = false) := by unfold Hid; rw [HG.out, decide_eq_false h3]; simp
          clear h1 h2
          go_wp2
          go_ret
          exact ⟨retB HE.out.symm, HB2.out⟩
  · have HE : Hid (groupB n key b t P by' = false) := by unfold Hid; rw [HG.out, decide_eq_false h0]; rfl
    go_enter Try.func41, Try.ntmps41
    go_wp2
    go_ret
    exact ⟨retB HE.out.symm, Go.Joins.below_alloc1 w _⟩
end Go.Proofs.Ytgncimlojbnbfaa.GrpI
