/-
  PROVED: spec.GroupOk answers as a plain function on numbers and lists says; nothing that was there is changed.
-/
import Derived.Test.YtgncimlojbnbfaaGrp
import Derived.Test.YtgncimlojbnbfaaPro
import Derived.Test.YtgncimlojbnbfaaLabL
import Derived.Deep.RegionHeld3
namespace Go.Proofs.Ytgncimlojbnbfaa.GrpG
open Go.RowKit
open Go.Proofs.Ytgncimlojbnbfaa.Names (inB l1In_any)
open Go.Proofs.Ytgncimlojbnbfaa.Labs Go.Proofs.Ytgncimlojbnbfaa.LabS Go.Proofs.Ytgncimlojbnbfaa.Alms Go.Proofs.Ytgncimlojbnbfaa.AlmS Go.Proofs.Ytgncimlojbnbfaa.AlmM Go.Proofs.Ytgncimlojbnbfaa.Over Go.Proofs.Ytgncimlojbnbfaa.Blk Go.Proofs.Ytgncimlojbnbfaa.App Go.Proofs.Ytgncimlojbnbfaa.Rws Go.Proofs.Ytgncimlojbnbfaa.ChnI Go.Proofs.Ytgncimlojbnbfaa.ChnC Go.Proofs.Ytgncimlojbnbfaa.ChnK Go.Proofs.Ytgncimlojbnbfaa.Grp
open Go.Proofs.Ytgncimlojbnbfaa.StrB (retB)
open Go.Proofs.Ytgncimlojbnbfaa.LabL (slB)
open Go.Proofs.Ytgncimlojbnbfaa.Pro (projB RdS own_reads)
open Go.Proofs.Ytgncimlojbnbfaa.LabO (setB)
set_option linter.unusedVariables false
def okX (x : PAl) : Bool := alarmB x.l x.s x.e x.n
/-- right at the place i -/
def grAt (key : List Lab) (P : List PAl) (by' : List ByteArray) (i : Nat) : Bool := okX (nthP P i) && ((decide (i = 0) || slB (nthP P (i - 1)).l (nthP P i).l) && decide (projB (nthP P i).l by' = key))
def groupB (n : Int) (key : List Lab) (b t : Int) (P : List PAl) (by' : List ByteArray) : Bool := (List.range P.length).all (grAt key P by') && (decide (0 ≤ n) && (setB key && (inB b 0 99999 && ((decide (t = -1) || inB t b 99999) && decide (0 < P.length)))))
theorem group_bad {n b t : Int} {key : List Lab} {P : List PAl} {by' : List ByteArray} {k : Nat} (hk : k < P.length) (h : grAt key P by' k = false) : groupB n key b t P by' = false := by
  have : (List.range P.length).all (grAt key P by') = false := by
    rw [← Bool.not_eq_true]
    intro e
    have := List.all_eq_true.1 e k (List.mem_range.2 hk)
    rw [h] at this; cases this
  unfold groupB; rw [this]; rfl
theorem group_all {n b t : Int} {key : List Lab} {P : List PAl} {by' : List ByteArray} (h : ∀ j, j < P.length → grAt key P by' j = true) : groupB n key b t P by' = (decide (0 ≤ n) && (setB key && (inB b 0 99999 && ((decide (t = -1) || inB t b 99999) && decide (0 < P.length))))) := by
  have : (List.range P.length).all (grAt key P by') = true := List.all_eq_true.2 fun j hj => h j (List.mem_range.1 hj)
  unfold groupB; rw [this]; rfl
set_option maxRecDepth 100000 in
set_option maxHeartbeats 6400000 in
theorem specGroup_any (n b t : Int) (ka : Option Addr) (kc : Nat) (key : List Lab) (a : Option Addr) (cap : Nat) (P : List PAl) (ba : Option Addr) (bc : Nat) (by' : List ByteArray) (w : World) (hk : Reads w ka key) (hkl : key.length ≤ maxLen) (hkz : LabO.Fits key) (hr : RdA w a P) (hl : P.length ≤ 1048576) (hz : FitsP P) (hs : LenM P) (hb : RdS w ba by') (hbl : by'.length ≤ maxLen) :
    Calls Try.prog 38 #[.agg #[.int .i64 n, .slice ka key.length kc, .int .i64 b, .int .i64 t, .slice a P.length cap], .slice ba by'.length bc] w fun e w' => e = .returned (.bool (groupB n key b t P by')) ∧ Below w.heap.size w w' := by
  have HK : Hid (Reads w ka key ∧ key.length ≤ maxLen ∧ LabO.Fits key) := ⟨hk, hkl, hkz⟩
  have HR : Hid (RdA w a P ∧ FitsP P ∧ LenM P) := ⟨hr, hz, hs⟩
  have HY : Hid (RdS w ba by' ∧ by'.length ≤ maxLen) := ⟨hb, hbl⟩
  clear hk hkl hkz hr hz hs hb hbl
  generalize hW0 : w.alloc (.cells #[.int .i64 n, .slice ka key.length kc, .int .i64 b, .int .i64 t, .slice a P.length cap] 67) = W0
  have HB0 : Hid (Below w.heap.size w W0) := by rw [← hW0]; exact Go.Joins.below_alloc1 w _
  have BP0 : Hid (Blk W0 w.heap.size #[.int .i64 n, .slice ka key.length kc, .int .i64 b, .int .i64 t, .slice a P.length cap] 67) := by rw [← hW0]; exact Blk.new _ _ _
  go_enter Try.func38, Try.ntmps38
  go_upto_region 1 with fail
  try rw [hW0]
  clear hW0
  go_upto_region 2 with fail
  go_loopw [5] (fun i w' => ∃ k : Nat, i = .int .i64 k ∧ k ≤ P.length ∧ (∀ j, j < k → grAt key P by' j = true) ∧ Below W0.heap.size W0 w') (fun i _ => P.length - (intOf i).toNat)
  case atStart => exact ⟨0, rfl, Nat.zero_le _, fun j hj => by omega, Below.refl _ _⟩
  case round =>
    obtain ⟨k, rfl, hk, hu, hbr⟩ := hrel
    have HU : Hid (∀ j, j < k → grAt key P by' j = true) := hu
    have BP : Hid (Blk wr w.heap.size #[.int .i64 n, .slice ka key.length kc, .int .i64 b, .int .i64 t, .slice a P.length cap] 67) := BP0.out.grow hbr
    have HBr : Hid (Below W0.heap.size W0 wr) := hbr
    have HBw : Hid (Below w.heap.size w wr) := grow_on HB0.out hbr
    have hp4 := BP.out.cell 4
    simp at hp4
    clear hu hbr
    by_cases hlt : k < P.length
    · have hlt' : (k : Int) < (P.length : Int) := by omega
      obtain ⟨bb, off, rfl, hbb, ad, cp, hat⟩ := (HR.out.1.below HBw.out).get hlt
      have HA : Hid (At wr bb off k (nthP P k) ad cp) := hat
      have HOK : Hid (∀ y, Below wr.heap.size wr y → Calls Try.prog 67 #[.agg #[.slice ad (nthP P k).l.length cp, .int .i64 (nthP P k).s, .int .i64 (nthP P k).e, .string (nthP P k).n]] y fun e w' => e = .returned (.bool (okX (nthP P k))) ∧ Below y.heap.size y w') := fun y hy => specAlarm_any _ _ _ _ _ _ y ((HR.out.2.1 k hlt).al (hat.reads.below hy))
      have HKE : Hid (∀ y, Below wr.heap.size wr y → Calls Try.prog 51 #[.agg #[.slice ad (nthP P k).l.length cp, .int .i64 (nthP P k).s, .int .i64 (nthP P k).e, .string (nthP P k).n], .slice ba by'.length bc] y fun e w' => (∃ M c, e = .returned (.slice (some ⟨M, 0, none⟩) (projB (nthP P k).l by').length c) ∧ LabR.Own y w' M (projB (nthP P k).l by')) ∧ Below y.heap.size y w') := fun y hy => Pro.specKey_any _ _ _ _ _ _ _ _ _ y (hat.reads.below hy) (HY.out.1.below (grow_on HBw.out hy)) (HR.out.2.2 k hlt) HY.out.2
      have HPL : Hid ((projB (nthP P k).l by').length ≤ maxLen) := by have h1 := Pro.proj_len (nthP P k).l by'; have h2 := HR.out.2.2 k hlt; unfold maxLen; show _ ≤ _; omega
      clear hat
      cases hA : okX (nthP P k) with
      | false =>
        have HE : Hid (groupB n key b t P by' = false) := group_bad hlt (by unfold grAt; rw [hA]; rfl)
        have HS : Hid (∀ w', Below wr.heap.size wr w' → w'.cell? ⟨w.heap.size, 1, none⟩ = some (.slice ka key.length kc) ∧ w'.cell? ⟨w.heap.size, 4, none⟩ = some (.slice (some ⟨bb, off, none⟩) P.length cap) ∧ w'.cell? ⟨bb, off + k * 4, none⟩ = some (.slice ad (nthP P k).l.length cp) ∧ w'.cell? ⟨bb, off + k * 4 + 1, none⟩ = some (.int .i64 (nthP P k).s) ∧ w'.cell? ⟨bb, off + k * 4 + 2, none⟩ = some (.int .i64 (nthP P k).e) ∧ w'.cell? ⟨bb, off + k * 4 + 3, none⟩ = some (.string (nthP P k).n)) := fun w' h => ⟨(BP.out.grow h).cell 1, (BP.out.grow h).cell 4, (h.cell (p := ⟨bb, off + k * 4, none⟩) hbb).trans HA.out.c0, (h.cell (p := ⟨bb, off + k * 4 + 1, none⟩) hbb).trans HA.out.c1, (h.cell (p := ⟨bb, off + k * 4 + 2, none⟩) hbb).trans HA.out.c2, (h.cell (p := ⟨bb, off + k * 4 + 3, none⟩) hbb).trans HA.out.c3⟩
        go_upto_region 4 with fail
        refine wp_region_held_drew (S := fun w' => w'.cell? ⟨w.heap.size, 1, none⟩ = some (.slice ka key.length kc) ∧ w'.cell? ⟨w.heap.size, 4, none⟩ = some (.slice (some ⟨bb, off, none⟩) P.length cap) ∧ w'.cell? ⟨bb, off + k * 4, none⟩ = some (.slice ad (nthP P k).l.length cp) ∧ w'.cell? ⟨bb, off + k * 4 + 1, none⟩ = some (.int .i64 (nthP P k).s) ∧ w'.cell? ⟨bb, off + k * 4 + 2, none⟩ = some (.int .i64 (nthP P k).e) ∧ w'.cell? ⟨bb, off + k * 4 + 3, none⟩ = some (.string (nthP P k).n)) (by kernel_rfl) (HS.out _ (Below.refl wr.heap.size wr).drew) (fun hHeld => ?_)
        refine wpAnyH_take (i := 0) (oi := { dst := some 13, op := Op.fieldAddr 67 (Operand.tmp 2) 4, type := 0, pos := "l11_group.go:7", after := #[], guard := none }) (v := ?vg1x0) rfl (by kernel_rfl) (by kernel_rfl) (by kernel_rfl) (fun _ _ _ h => h) (Or.inl ⟨by rfl, ?hyg1x0⟩) hHeld ?_
        case hyg1x0 => (intro w hSw; (try dsimp only at hSw); go_simp <;> with_reducible rfl)
        try simp only [Act.put, List.setIfInBounds_toArray, List.set_cons_zero, List.set_cons_succ]
        refine wpAnyH_take (i := 1) (oi := { dst := some 14, op := Op.load 53 (Operand.tmp 13), type := 53, pos := "l11_group.go:7", after := #[{ on := 0, ground := Ground.data }], guard := none }) (v := ?vg1x1) rfl (by kernel_rfl) (by kernel_rfl) (by kernel_rfl) (fun _ _ _ h => h) (Or.inl ⟨by rfl, ?hyg1x1⟩) hHeld ?_
        case hyg1x1 => (intro w hSw; (try dsimp only at hSw); go_simp <;> with_reducible rfl)
        try simp only [Act.put, List.setIfInBounds_toArray, List.set_cons_zero, List.set_cons_succ]
        refine wpAnyH_take (i := 2) (oi := { dst := some 15, op := Op.move (Operand.tmp 5), type := 3, pos := "l11_group.go:7", after := #[], guard := none }) (v := ?vg1x2) rfl (by kernel_rfl) (by kernel_rfl) (by kernel_rfl) (fun _ _ _ h => h) (Or.inl ⟨by rfl, ?hyg1x2⟩) hHeld ?_
        case hyg1x2 => (intro w hSw; (try dsimp only at hSw); go_simp <;> with_reducible rfl)
        try simp only [Act.put, List.setIfInBounds_toArray, List.set_cons_zero, List.set_cons_succ]
        refine wpAnyH_take (i := 3) (oi := { dst := some 16, op := Op.indexAddr 53 (Operand.tmp 14) (Operand.tmp 15), type := 0, pos := "l11_group.go:7", after := #[{ on := 1, ground := Ground.data }, { on := 2, ground := Ground.data }], guard := none }) (v := ?vg1x3) rfl (by kernel_rfl) (by kernel_rfl) (by kernel_rfl) (fun _ _ _ h => h) (Or.inl ⟨by rfl, ?hyg1x3⟩) hHeld ?_
        case hyg1x3 => (intro w hSw; (try dsimp only at hSw); go_simp <;> with_reducible rfl)
        try simp only [Act.put, List.setIfInBounds_toArray, List.set_cons_zero, List.set_cons_succ]
        refine wpAnyH_take (i := 4) (oi := { dst := some 17, op := Op.load 48 (Operand.tmp 16), type := 48, pos := "l11_group.go:7", after := #[{ on := 3, ground := Ground.data }], guard := none }) (v := ?vg1x4) rfl (by kernel_rfl) (by kernel_rfl) (by kernel_rfl) (fun _ _ _ h => h) (Or.inl ⟨by rfl, ?hyg1x4⟩) hHeld ?_
        case hyg1x4 => (intro w hSw; (try dsimp only at hSw); go_simp <;> with_reducible rfl)
        try simp only [Act.put, List.setIfInBounds_toArray, List.set_cons_zero, List.set_cons_succ]
        refine wpAnyH_ready (rs := [5]) (by kernel_rfl) (by simp) ?_
        refine AllReadyH.cons (o := { dst := some 18, op := Op.call { callee := Callee.value (Operand.func 67), args := #[Operand.tmp 17], argTypes := #[48] }, type := 4, pos := "l11_group.go:7", after := #[{ on := 4, ground := Ground.data }], guard := none }) rfl (fun K hK => ?_) AllReadyH.nil
        go_simp
        refine (HOK.out _ (Below.refl wr.heap.size wr).drew).mono ?_
        rintro r wyg1x5 ⟨rfl, hb1⟩
        have Z1 : Hid (Below wr.heap.size wr wyg1x5) := grow_on (Below.refl wr.heap.size wr).drew hb1
        clear hb1
        try rw [hA]
        clear hHeld
        refine hK.out _ _ (HS.out _ Z1.out) (fun hHeld => ?_)
        clear hK K
        try simp only [Act.put, List.setIfInBounds_toArray, List.set_cons_zero, List.set_cons_succ]
        refine wpAnyH_take (i := 6) (oi := { dst := some 19, op := Op.unOp UnOp.not 4 (Operand.tmp 18), type := 4, pos := "l11_group.go:7", after := #[{ on := 5, ground := Ground.data }], guard := none }) (v := ?vg1x6) rfl (by kernel_rfl) (by kernel_rfl) (by kernel_rfl) (fun _ _ _ h => h) (Or.inl ⟨by rfl, ?hyg1x6⟩) hHeld ?_
        case hyg1x6 => (intro w hSw; (try dsimp only at hSw); go_simp <;> with_reducible rfl)
        try simp only [Act.put, List.setIfInBounds_toArray, List.set_cons_zero, List.set_cons_succ]
        refine wpAnyH_take (i := 7) (oi := { dst := some 20, op := Op.move (Operand.tmp 19), type := 4, pos := "l11_group.go:7", after := #[{ on := 6, ground := Ground.data }, { on := 5, ground := Ground.chain }], guard := none }) (v := ?vg1x7) rfl (by kernel_rfl) (by kernel_rfl) (by kernel_rfl) (fun _ _ _ h => h) (Or.inl ⟨by rfl, ?hyg1x7⟩) hHeld ?_
        case hyg1x7 => (intro w hSw; (try dsimp only at hSw); go_simp <;> with_reducible rfl)
        try simp only [Act.put, List.setIfInBounds_toArray, List.set_cons_zero, List.set_cons_succ]
        refine wpAnyH_take (i := 8) (oi := { dst := some 21, op := Op.move (Operand.tmp 5), type := 3, pos := "l11_group.go:7", after := #[{ on := 7, ground := Ground.guard }], guard := some (7, false) }) (v := undef) rfl (by kernel_rfl) (by kernel_rfl) (by kernel_rfl) (fun _ _ _ h => h) (Or.inr ⟨by rfl, rfl⟩) hHeld ?_
        try simp only [Act.put, List.setIfInBounds_toArray, List.set_cons_zero, List.set_cons_succ]
        refine wpAnyH_take (i := 9) (oi := { dst := some 22, op := Op.binOp BinOp.gtr 3 (Operand.tmp 21) (Operand.const (Value.int IntKind.i64 0)) 3, type := 4, pos := "l11_group.go:7", after := #[{ on := 8, ground := Ground.data }, { on := 7, ground := Ground.guard }], guard := some (7, false) }) (v := undef) rfl (by kernel_rfl) (by kernel_rfl) (by kernel_rfl) (fun _ _ _ h => h) (Or.inr ⟨by rfl, rfl⟩) hHeld ?_
        try simp only [Act.put, List.setIfInBounds_toArray, List.set_cons_zero, List.set_cons_succ]
        refine wpAnyH_take (i := 10) (oi := { dst := some 23, op := Op.move (Operand.tmp 22), type := 4, pos := "l11_group.go:7", after := #[{ on := 9, ground := Ground.data }, { on := 7, ground := Ground.chain }, { on := 7, ground := Ground.guard }], guard := some (7, false) }) (v := undef) rfl (by kernel_rfl) (by kernel_rfl) (by kernel_rfl) (fun _ _ _ h => h) (Or.inr ⟨by rfl, rfl⟩) hHeld ?_
        try simp only [Act.put, List.setIfInBounds_toArray, List.set_cons_zero, List.set_cons_succ]
        refine wpAnyH_take (i := 11) (oi := { dst := some 24, op := Op.fieldAddr 67 (Operand.tmp 2) 4, type := 0, pos := "l11_group.go:7", after := #[{ on := 10, ground := Ground.guard }], guard := some (10, true) }) (v := undef) rfl (by kernel_rfl) (by kernel_rfl) (by kernel_rfl) (fun _ _ _ h => h) (Or.inr ⟨by rfl, rfl⟩) hHeld ?_
        try simp only [Act.put, List.setIfInBounds_toArray, List.set_cons_zero, List.set_cons_succ]
        refine wpAnyH_take (i := 12) (oi := { dst := some 25, op := Op.load 53 (Operand.tmp 24), type := 53, pos := "l11_group.go:7", after := #[{ on := 11, ground := Ground.data }, { on := 10, ground := Ground.guard }], guard := some (10, true) }) (v := undef) rfl (by kernel_rfl) (by kernel_rfl) (by kernel_rfl) (fun _ _ _ h => h) (Or.inr ⟨by rfl, rfl⟩) hHeld ?_
        try simp only [Act.put, List.setIfInBounds_toArray, List.set_cons_zero, List.set_cons_succ]
        refine wpAnyH_take (i := 13) (oi := { dst := some 26, op := Op.move (Operand.tmp 5), type := 3, pos := "l11_group.go:7", after := #[{ on := 10, ground := Ground.guard }], guard := some (10, true) }) (v := undef) rfl (by kernel_rfl) (by kernel_rfl) (by kernel_rfl) (fun _ _ _ h => h) (Or.inr ⟨by rfl, rfl⟩) hHeld ?_
        try simp only [Act.put, List.setIfInBounds_toArray, List.set_cons_zero, List.set_cons_succ]
        refine wpAnyH_take (i := 14) (oi := { dst := some 27, op := Op.binOp BinOp.sub 3 (Operand.tmp 26) (Operand.const (Value.int IntKind.i64 1)) 3, type := 3, pos := "l11_group.go:7", after := #[{ on := 13, ground := Ground.data }, { on := 10, ground := Ground.guard }], guard := some (10, true) }) (v := undef) rfl (by kernel_rfl) (by kernel_rfl) (by kernel_rfl) (fun _ _ _ h => h) (Or.inr ⟨by rfl, rfl⟩) hHeld ?_
        try simp only [Act.put, List.setIfInBounds_toArray, List.set_cons_zero, List.set_cons_succ]
        refine wpAnyH_take (i := 15) (oi := { dst := some 28, op := Op.indexAddr 53 (Operand.tmp 25) (Operand.tmp 27), type := 0, pos := "l11_group.go:7", after := #[{ on := 12, ground := Ground.data }, { on := 14, ground := Ground.data }, { on := 10, ground := Ground.guard }], guard := some (10, true) }) (v := undef) rfl (by kernel_rfl) (by kernel_rfl) (by kernel_rfl) (fun _ _ _ h => h) (Or.inr ⟨by rfl, rfl⟩) hHeld ?_
        try simp only [Act.put, List.setIfInBounds_toArray, List.set_cons_zero, List.set_cons_succ]
        refine wpAnyH_take (i := 16) (oi := { dst := some 29, op := Op.fieldAddr 48 (Operand.tmp 28) 0, type := 0, pos := "l11_group.go:7", after := #[{ on := 15, ground := Ground.data }, { on := 10, ground := Ground.guard }], guard := some (10, true) }) (v := undef) rfl (by kernel_rfl) (by kernel_rfl) (by kernel_rfl) (fun _ _ _ h => h) (Or.inr ⟨by rfl, rfl⟩) hHeld ?_
        try simp only [Act.put, List.setIfInBounds_toArray, List.set_cons_zero, List.set_cons_succ]
        refine wpAnyH_take (i := 17) (oi := { dst := some 30, op := Op.load 36 (Operand.tmp 29), type := 36, pos := "l11_group.go:7", after := #[{ on := 16, ground := Ground.data }, { on := 10, ground := Ground.guard }], guard := some (10, true) }) (v := undef) rfl (by kernel_rfl) (by kernel_rfl) (by kernel_rfl) (fun _ _ _ h => h) (Or.inr ⟨by rfl, rfl⟩) hHeld ?_
        try simp only [Act.put, List.setIfInBounds_toArray, List.set_cons_zero, List.set_cons_succ]
        refine wpAnyH_take (i := 18) (oi := { dst := some 31, op := Op.fieldAddr 67 (Operand.tmp 2) 4, type := 0, pos := "l11_group.go:7", after := #[{ on := 10, ground := Ground.guard }], guard := some (10, true) }) (v := undef) rfl (by kernel_rfl) (by kernel_rfl) (by kernel_rfl) (fun _ _ _ h => h) (Or.inr ⟨by rfl, rfl⟩) hHeld ?_
        try simp only [Act.put, List.setIfInBounds_toArray, List.set_cons_zero, List.set_cons_succ]
        refine wpAnyH_take (i := 19) (oi := { dst := some 32, op := Op.load 53 (Operand.tmp 31), type := 53, pos := "l11_group.go:7", after := #[{ on := 18, ground := Ground.data }, { on := 10, ground := Ground.guard }], guard := some (10, true) }) (v := undef) rfl (by kernel_rfl) (by kernel_rfl) (by kernel_rfl) (fun _ _ _ h => h) (Or.inr ⟨by rfl, rfl⟩) hHeld ?_
        try simp only [Act.put, List.setIfInBounds_toArray, List.set_cons_zero, List.set_cons_succ]
        refine wpAnyH_take (i := 20) (oi := { dst := some 33, op := Op.move (Operand.tmp 5), type := 3, pos := "l11_group.go:7", after := #[{ on := 10, ground := Ground.guard }], guard := some (10, true) }) (v := undef) rfl (by kernel_rfl) (by kernel_rfl) (by kernel_rfl) (fun _ _ _ h => h) (Or.inr ⟨by rfl, rfl⟩) hHeld ?_
        try simp only [Act.put, List.setIfInBounds_toArray, List.set_cons_zero, List.set_cons_succ]
        refine wpAnyH_take (i := 21) (oi := { dst := some 34, op := Op.indexAddr 53 (Operand.tmp 32) (Operand.tmp 33), type := 0, pos := "l11_group.go:7", after := #[{ on := 19, ground := Ground.data }, { on := 20, ground := Ground.data }, { on := 10, ground := Ground.guard }], guard := some (10, true) }) (v := undef) rfl (by kernel_rfl) (by kernel_rfl) (by kernel_rfl) (fun _ _ _ h => h) (Or.inr ⟨by rfl, rfl⟩) hHeld ?_
        try simp only [Act.put, List.setIfInBounds_toArray, List.set_cons_zero, List.set_cons_succ]
        refine wpAnyH_take (i := 22) (oi := { dst := some 35, op := Op.fieldAddr 48 (Operand.tmp 34) 0, type := 0, pos := "l11_group.go:7", after := #[{ on := 21, ground := Ground.data }, { on := 10, ground := Ground.guard }], guard := some (10, true) }) (v := undef) rfl (by kernel_rfl) (by kernel_rfl) (by kernel_rfl) (fun _ _ _ h => h) (Or.inr ⟨by rfl, rfl⟩) hHeld ?_
        try simp only [Act.put, List.setIfInBounds_toArray, List.set_cons_zero, List.set_cons_succ]
        refine wpAnyH_take (i := 23) (oi := { dst := some 36, op := Op.load 36 (Operand.tmp 35), type := 36, pos := "l11_group.go:7", after := #[{ on := 22, ground := Ground.data }, { on := 10, ground := Ground.guard }], guard := some (10, true) }) (v := undef) rfl (by kernel_rfl) (by kernel_rfl) (by kernel_rfl) (fun _ _ _ h => h) (Or.inr ⟨by rfl, rfl⟩) hHeld ?_
        try simp only [Act.put, List.setIfInBounds_toArray, List.set_cons_zero, List.set_cons_succ]
        refine wpAnyH_take (i := 24) (oi := { dst := some 37, op := Op.call { callee := Callee.value (Operand.func 68), args := #[Operand.tmp 30, Operand.tmp 36], argTypes := #[36, 36] }, type := 4, pos := "l11_group.go:7", after := #[{ on := 17, ground := Ground.data }, { on := 23, ground := Ground.data }, { on := 10, ground := Ground.chain }, { on := 10, ground := Ground.guard }], guard := some (10, true) }) (v := undef) rfl (by kernel_rfl) (by kernel_rfl) (by kernel_rfl) (fun _ _ _ h => h) (Or.inr ⟨by rfl, rfl⟩) hHeld ?_
        try simp only [Act.put, List.setIfInBounds_toArray, List.set_cons_zero, List.set_cons_succ]
        refine wpAnyH_take (i := 25) (oi := { dst := some 38, op := Op.unOp UnOp.not 4 (Operand.tmp 37), type := 4, pos := "l11_group.go:7", after := #[{ on := 24, ground := Ground.data }, { on := 10, ground := Ground.guard }], guard := some (10, true) }) (v := undef) rfl (by kernel_rfl) (by kernel_rfl) (by kernel_rfl) (fun _ _ _ h => h) (Or.inr ⟨by rfl, rfl⟩) hHeld ?_
        try simp only [Act.put, List.setIfInBounds_toArray, List.set_cons_zero, List.set_cons_succ]
        refine wpAnyH_take (i := 26) (oi := { dst := some 39, op := Op.pick (Operand.tmp 23) (Operand.tmp 38) (Operand.const (Value.bool false)), type := 4, pos := "l11_group.go:7", after := #[{ on := 10, ground := Ground.data }, { on := 25, ground := Ground.data }, { on := 7, ground := Ground.guard }], guard := some (7, false) }) (v := undef) rfl (by kernel_rfl) (by kernel_rfl) (by kernel_rfl) (fun _ _ _ h => h) (Or.inr ⟨by rfl, rfl⟩) hHeld ?_
        try simp only [Act.put, List.setIfInBounds_toArray, List.set_cons_zero, List.set_cons_succ]
        refine wpAnyH_take (i := 27) (oi := { dst := some 40, op := Op.pick (Operand.tmp 20) (Operand.const (Value.bool true)) (Operand.tmp 39), type := 4, pos := "l11_group.go:7", after := #[{ on := 7, ground := Ground.data }, { on := 26, ground := Ground.data }], guard := none }) (v := ?vg1x27) rfl (by kernel_rfl) (by kernel_rfl) (by kernel_rfl) (fun _ _ _ h => h) (Or.inl ⟨by rfl, ?hyg1x27⟩) hHeld ?_
        case hyg1x27 => (intro w hSw; (try dsimp only at hSw); go_simp <;> with_reducible rfl)
        try simp only [Act.put, List.setIfInBounds_toArray, List.set_cons_zero, List.set_cons_succ]
        refine wpAnyH_take (i := 28) (oi := { dst := some 41, op := Op.move (Operand.tmp 40), type := 4, pos := "l11_group.go:7", after := #[{ on := 27, ground := Ground.data }, { on := 24, ground := Ground.chain }], guard := none }) (v := ?vg1x28) rfl (by kernel_rfl) (by kernel_rfl) (by kernel_rfl) (fun _ _ _ h => h) (Or.inl ⟨by rfl, ?hyg1x28⟩) hHeld ?_
        case hyg1x28 => (intro w hSw; (try dsimp only at hSw); go_simp <;> with_reducible rfl)
        try simp only [Act.put, List.setIfInBounds_toArray, List.set_cons_zero, List.set_cons_succ]
        refine wpAnyH_take (i := 29) (oi := { dst := some 42, op := Op.fieldAddr 67 (Operand.tmp 2) 4, type := 0, pos := "l11_group.go:7", after := #[{ on := 28, ground := Ground.guard }], guard := some (28, false) }) (v := undef) rfl (by kernel_rfl) (by kernel_rfl) (by kernel_rfl) (fun _ _ _ h => h) (Or.inr ⟨by rfl, rfl⟩) hHeld ?_
        try simp only [Act.put, List.setIfInBounds_toArray, List.set_cons_zero, List.set_cons_succ]
        refine wpAnyH_take (i := 30) (oi := { dst := some 43, op := Op.load 53 (Operand.tmp 42), type := 53, pos := "l11_group.go:7", after := #[{ on := 29, ground := Ground.data }, { on := 28, ground := Ground.guard }], guard := some (28, false) }) (v := undef) rfl (by kernel_rfl) (by kernel_rfl) (by kernel_rfl) (fun _ _ _ h => h) (Or.inr ⟨by rfl, rfl⟩) hHeld ?_
        try simp only [Act.put, List.setIfInBounds_toArray, List.set_cons_zero, List.set_cons_succ]
        refine wpAnyH_take (i := 31) (oi := { dst := some 44, op := Op.move (Operand.tmp 5), type := 3, pos := "l11_group.go:7", after := #[{ on := 28, ground := Ground.guard }], guard := some (28, false) }) (v := undef) rfl (by kernel_rfl) (by kernel_rfl) (by kernel_rfl) (fun _ _ _ h => h) (Or.inr ⟨by rfl, rfl⟩) hHeld ?_
        try simp only [Act.put, List.setIfInBounds_toArray, List.set_cons_zero, List.set_cons_succ]
        refine wpAnyH_take (i := 32) (oi := { dst := some 45, op := Op.indexAddr 53 (Operand.tmp 43) (Operand.tmp 44), type := 0, pos := "l11_group.go:7", after := #[{ on := 30, ground := Ground.data }, { on := 31, ground := Ground.data }, { on := 28, ground := Ground.guard }], guard := some (28, false) }) (v := undef) rfl (by kernel_rfl) (by kernel_rfl) (by kernel_rfl) (fun _ _ _ h => h) (Or.inr ⟨by rfl, rfl⟩) hHeld ?_
        try simp only [Act.put, List.setIfInBounds_toArray, List.set_cons_zero, List.set_cons_succ]
        refine wpAnyH_take (i := 33) (oi := { dst := some 46, op := Op.load 48 (Operand.tmp 45), type := 48, pos := "l11_group.go:7", after := #[{ on := 32, ground := Ground.data }, { on := 28, ground := Ground.guard }], guard := some (28, false) }) (v := undef) rfl (by kernel_rfl) (by kernel_rfl) (by kernel_rfl) (fun _ _ _ h => h) (Or.inr ⟨by rfl, rfl⟩) hHeld ?_
        try simp only [Act.put, List.setIfInBounds_toArray, List.set_cons_zero, List.set_cons_succ]
        refine wpAnyH_take (i := 34) (oi := { dst := some 47, op := Op.move (Operand.tmp 1), type := 23, pos := "l11_group.go:7", after := #[{ on := 28, ground := Ground.guard }], guard := some (28, false) }) (v := undef) rfl (by kernel_rfl) (by kernel_rfl) (by kernel_rfl) (fun _ _ _ h => h) (Or.inr ⟨by rfl, rfl⟩) hHeld ?_
        try simp only [Act.put, List.setIfInBounds_toArray, List.set_cons_zero, List.set_cons_succ]
        refine wpAnyH_take (i := 35) (oi := { dst := some 48, op := Op.call { callee := Callee.value (Operand.func 51), args := #[Operand.tmp 46, Operand.tmp 47], argTypes := #[48, 23] }, type := 36, pos := "l11_group.go:7", after := #[{ on := 33, ground := Ground.data }, { on := 34, ground := Ground.data }, { on := 28, ground := Ground.chain }, { on := 28, ground := Ground.guard }], guard := some (28, false) }) (v := undef) rfl (by kernel_rfl) (by kernel_rfl) (by kernel_rfl) (fun _ _ _ h => h) (Or.inr ⟨by rfl, rfl⟩) hHeld ?_
        try simp only [Act.put, List.setIfInBounds_toArray, List.set_cons_zero, List.set_cons_succ]
        refine wpAnyH_take (i := 36) (oi := { dst := some 49, op := Op.fieldAddr 67 (Operand.tmp 2) 1, type := 0, pos := "l11_group.go:7", after := #[{ on := 28, ground := Ground.guard }], guard := some (28, false) }) (v := undef) rfl (by kernel_rfl) (by kernel_rfl) (by kernel_rfl) (fun _ _ _ h => h) (Or.inr ⟨by rfl, rfl⟩) hHeld ?_
        try simp only [Act.put, List.setIfInBounds_toArray, List.set_cons_zero, List.set_cons_succ]
        refine wpAnyH_take (i := 37) (oi := { dst := some 50, op := Op.load 36 (Operand.tmp 49), type := 36, pos := "l11_group.go:7", after := #[{ on := 36, ground := Ground.data }, { on := 28, ground := Ground.guard }], guard := some (28, false) }) (v := undef) rfl (by kernel_rfl) (by kernel_rfl) (by kernel_rfl) (fun _ _ _ h => h) (Or.inr ⟨by rfl, rfl⟩) hHeld ?_
        try simp only [Act.put, List.setIfInBounds_toArray, List.set_cons_zero, List.set_cons_succ]
        refine wpAnyH_take (i := 38) (oi := { dst := some 51, op := Op.call { callee := Callee.value (Operand.func 39), args := #[Operand.tmp 48, Operand.tmp 50], argTypes := #[36, 36] }, type := 4, pos := "l11_group.go:7", after := #[{ on := 35, ground := Ground.data }, { on := 37, ground := Ground.data }, { on := 35, ground := Ground.chain }, { on := 28, ground := Ground.guard }], guard := some (28, false) }) (v := undef) rfl (by kernel_rfl) (by kernel_rfl) (by kernel_rfl) (fun _ _ _ h => h) (Or.inr ⟨by rfl, rfl⟩) hHeld ?_
        try simp only [Act.put, List.setIfInBounds_toArray, List.set_cons_zero, List.set_cons_succ]
        refine wpAnyH_take (i := 39) (oi := { dst := some 52, op := Op.unOp UnOp.not 4 (Operand.tmp 51), type := 4, pos := "l11_group.go:7", after := #[{ on := 38, ground := Ground.data }, { on := 28, ground := Ground.guard }], guard := some (28, false) }) (v := undef) rfl (by kernel_rfl) (by kernel_rfl) (by kernel_rfl) (fun _ _ _ h => h) (Or.inr ⟨by rfl, rfl⟩) hHeld ?_
        try simp only [Act.put, List.setIfInBounds_toArray, List.set_cons_zero, List.set_cons_succ]
        refine wpAnyH_take (i := 40) (oi := { dst := some 53, op := Op.pick (Operand.tmp 41) (Operand.const (Value.bool true)) (Operand.tmp 52), type := 4, pos := "l11_group.go:7", after := #[{ on := 28, ground := Ground.data }, { on := 39, ground := Ground.data }], guard := none }) (v := ?vg1x40) rfl (by kernel_rfl) (by kernel_rfl) (by kernel_rfl) (fun _ _ _ h => h) (Or.inl ⟨by rfl, ?hyg1x40⟩) hHeld ?_
        case hyg1x40 => (intro w hSw; (try dsimp only at hSw); go_simp <;> with_reducible rfl)
        try simp only [Act.put, List.setIfInBounds_toArray, List.set_cons_zero, List.set_cons_succ]
        refine wpAnyH_done (by kernel_rfl) ?_ _
        clear hHeld
        go_wp2
        go_ret
        exact ⟨retB HE.out.symm, grow_on HBw.out Z1.out⟩
      | true =>
        by_cases k0 : k = 0
        · have K0 : Hid (k = 0) := k0
          have bk : decide (0 < k) = false := decide_eq_false (by omega)
          clear k0
          cases hSm : decide (projB (nthP P k).l by' = key) with
          | false =>
            have HE : Hid (groupB n key b t P by' = false) := group_bad hlt (by unfold grAt; rw [hA, hSm]; simp)
            have HS : Hid (∀ w', Below wr.heap.size wr w' → w'.cell? ⟨w.heap.size, 1, none⟩ = some (.slice ka key.length kc) ∧ w'.cell? ⟨w.heap.size, 4, none⟩ = some (.slice (some ⟨bb, off, none⟩) P.length cap) ∧ w'.cell? ⟨bb, off + k * 4, none⟩ = some (.slice ad (nthP P k).l.length cp) ∧ w'.cell? ⟨bb, off + k * 4 + 1, none⟩ = some (.int .i64 (nthP P k).s) ∧ w'.cell? ⟨bb, off + k * 4 + 2, none⟩ = some (.int .i64 (nthP P k).e) ∧ w'.cell? ⟨bb, off + k * 4 + 3, none⟩ = some (.string (nthP P k).n)) := fun w' h => ⟨(BP.out.grow h).cell 1, (BP.out.grow h).cell 4, (h.cell (p := ⟨bb, off + k * 4, none⟩) hbb).trans HA.out.c0, (h.cell (p := ⟨bb, off + k * 4 + 1, none⟩) hbb).trans HA.out.c1, (h.cell (p := ⟨bb, off + k * 4 + 2, none⟩) hbb).trans HA.out.c2, (h.cell (p := ⟨bb, off + k * 4 + 3, none⟩) hbb).trans HA.out.c3⟩
            go_upto_region 4 with fail
            refine wp_region_held_drew (S := fun w' => w'.cell? ⟨w.heap.size, 1, none⟩ = some (.slice ka key.length kc) ∧ w'.cell? ⟨w.heap.size, 4, none⟩ = some (.slice (some ⟨bb, off, none⟩) P.length cap) ∧ w'.cell? ⟨bb, off + k * 4, none⟩ = some (.slice ad (nthP P k).l.length cp) ∧ w'.cell? ⟨bb, off + k * 4 + 1, none⟩ = some (.int .i64 (nthP P k).s) ∧ w'.cell? ⟨bb, off + k * 4 + 2, none⟩ = some (.int .i64 (nthP P k).e) ∧ w'.cell? ⟨bb, off + k * 4 + 3, none⟩ = some (.string (nthP P k).n)) (by kernel_rfl) (HS.out _ (Below.refl wr.heap.size wr).drew) (fun hHeld => ?_)
            refine wpAnyH_take (i := 0) (oi := { dst := some 13, op := Op.fieldAddr 67 (Operand.tmp 2) 4, type := 0, pos := "l11_group.go:7", after := #[], guard := none }) (v := ?vg2x0) rfl (by kernel_rfl) (by kernel_rfl) (by kernel_rfl) (fun _ _ _ h => h) (Or.inl ⟨by rfl, ?hyg2x0⟩) hHeld ?_
            case hyg2x0 => (intro w hSw; (try dsimp only at hSw); go_simp <;> with_reducible rfl)
            try simp only [Act.put, List.setIfInBounds_toArray, List.set_cons_zero, List.set_cons_succ]
            refine wpAnyH_take (i := 1) (oi := { dst := some 14, op := Op.load 53 (Operand.tmp 13), type := 53, pos := "l11_group.go:7", after := #[{ on := 0, ground := Ground.data }], guard := none }) (v := ?vg2x1) rfl (by kernel_rfl) (by kernel_rfl) (by kernel_rfl) (fun _ _ _ h => h) (Or.inl ⟨by rfl, ?hyg2x1⟩) hHeld ?_
            case hyg2x1 => (intro w hSw; (try dsimp only at hSw); go_simp <;> with_reducible rfl)
            try simp only [Act.put, List.setIfInBounds_toArray, List.set_cons_zero, List.set_cons_succ]
            refine wpAnyH_take (i := 2) (oi := { dst := some 15, op := Op.move (Operand.tmp 5), type := 3, pos := "l11_group.go:7", after := #[], guard := none }) (v := ?vg2x2) rfl (by kernel_rfl) (by kernel_rfl) (by kernel_rfl) (fun _ _ _ h => h) (Or.inl ⟨by rfl, ?hyg2x2⟩) hHeld ?_
            case hyg2x2 => (intro w hSw; (try dsimp only at hSw); go_simp <;> with_reducible rfl)
            try simp only [Act.put, List.setIfInBounds_toArray, List.set_cons_zero, List.set_cons_succ]
            refine wpAnyH_take (i := 3) (oi := { dst := some 16, op := Op.indexAddr 53 (Operand.tmp 14) (Operand.tmp 15), type := 0, pos := "l11_group.go:7", after := #[{ on := 1, ground := Ground.data }, { on := 2, ground := Ground.data }], guard := none }) (v := ?vg2x3) rfl (by kernel_rfl) (by kernel_rfl) (by kernel_rfl) (fun _ _ _ h => h) (Or.inl ⟨by rfl, ?hyg2x3⟩) hHeld ?_
            case hyg2x3 => (intro w hSw; (try dsimp only at hSw); go_simp <;> with_reducible rfl)
            try simp only [Act.put, List.setIfInBounds_toArray, List.set_cons_zero, List.set_cons_succ]
            refine wpAnyH_take (i := 4) (oi := { dst := some 17, op := Op.load 48 (Operand.tmp 16), type := 48, pos := "l11_group.go:7", after := #[{ on := 3, ground := Ground.data }], guard := none }) (v := ?vg2x4) rfl (by kernel_rfl) (by kernel_rfl) (by kernel_rfl) (fun _ _ _ h => h) (Or.inl ⟨by rfl, ?hyg2x4⟩) hHeld ?_
            case hyg2x4 => (intro w hSw; (try dsimp only at hSw); go_simp <;> with_reducible rfl)
            try simp only [Act.put, List.setIfInBounds_toArray, List.set_cons_zero, List.set_cons_succ]
            refine wpAnyH_ready (rs := [5]) (by kernel_rfl) (by simp) ?_
            refine AllReadyH.cons (o := { dst := some 18, op := Op.call { callee := Callee.value (Operand.func 67), args := #[Operand.tmp 17], argTypes := #[48] }, type := 4, pos := "l11_group.go:7", after := #[{ on := 4, ground := Ground.data }], guard := none }) rfl (fun K hK => ?_) AllReadyH.nil
            go_simp
            refine (HOK.out _ (Below.refl wr.heap.size wr).drew).mono ?_
            rintro r wyg2x5 ⟨rfl, hb1⟩
            have Z1 : Hid (Below wr.heap.size wr wyg2x5) := grow_on (Below.refl wr.heap.size wr).drew hb1
            clear hb1
            try rw [hA]
            clear hHeld
            refine hK.out _ _ (HS.out _ Z1.out) (fun hHeld => ?_)
            clear hK K
            try simp only [Act.put, List.setIfInBounds_toArray, List.set_cons_zero, List.set_cons_succ]
            refine wpAnyH_take (i := 6) (oi := { dst := some 19, op := Op.unOp UnOp.not 4 (Operand.tmp 18), type := 4, pos := "l11_group.go:7", after := #[{ on := 5, ground := Ground.data }], guard := none }) (v := ?vg2x6) rfl (by kernel_rfl) (by kernel_rfl) (by kernel_rfl) (fun _ _ _ h => h) (Or.inl ⟨by rfl, ?hyg2x6⟩) hHeld ?_
            case hyg2x6 => (intro w hSw; (try dsimp only at hSw); go_simp <;> with_reducible rfl)
            try simp only [Act.put, List.setIfInBounds_toArray, List.set_cons_zero, List.set_cons_succ]
            refine wpAnyH_take (i := 7) (oi := { dst := some 20, op := Op.move (Operand.tmp 19), type := 4, pos := "l11_group.go:7", after := #[{ on := 6, ground := Ground.data }, { on := 5, ground := Ground.chain }], guard := none }) (v := ?vg2x7) rfl (by kernel_rfl) (by kernel_rfl) (by kernel_rfl) (fun _ _ _ h => h) (Or.inl ⟨by rfl, ?hyg2x7⟩) hHeld ?_
            case hyg2x7 => (intro w hSw; (try dsimp only at hSw); go_simp <;> with_reducible rfl)
            try simp only [Act.put, List.setIfInBounds_toArray, List.set_cons_zero, List.set_cons_succ]
            refine wpAnyH_take (i := 8) (oi := { dst := some 21, op := Op.move (Operand.tmp 5), type := 3, pos := "l11_group.go:7", after := #[{ on := 7, ground := Ground.guard }], guard := some (7, false) }) (v := ?vg2x8) rfl (by kernel_rfl) (by kernel_rfl) (by kernel_rfl) (fun _ _ _ h => h) (Or.inl ⟨by rfl, ?hyg2x8⟩) hHeld ?_
            case hyg2x8 => (intro w hSw; (try dsimp only at hSw); go_simp <;> with_reducible rfl)
            try simp only [Act.put, List.setIfInBounds_toArray, List.set_cons_zero, List.set_cons_succ]
            refine wpAnyH_take (i := 9) (oi := { dst := some 22, op := Op.binOp BinOp.gtr 3 (Operand.tmp 21) (Operand.const (Value.int IntKind.i64 0)) 3, type := 4, pos := "l11_group.go:7", after := #[{ on := 8, ground := Ground.data }, { on := 7, ground := Ground.guard }], guard := some (7, false) }) (v := ?vg2x9) rfl (by kernel_rfl) (by kernel_rfl) (by kernel_rfl) (fun _ _ _ h => h) (Or.inl ⟨by rfl, ?hyg2x9⟩) hHeld ?_
            case hyg2x9 => (intro w hSw; (try dsimp only at hSw); go_simp <;> with_reducible rfl)
            try simp only [Act.put, List.setIfInBounds_toArray, List.set_cons_zero, List.set_cons_succ]
            refine wpAnyH_take (i := 10) (oi := { dst := some 23, op := Op.move (Operand.tmp 22), type := 4, pos := "l11_group.go:7", after := #[{ on := 9, ground := Ground.data }, { on := 7, ground := Ground.chain }, { on := 7, ground := Ground.guard }], guard := some (7, false) }) (v := ?vg2x10) rfl (by kernel_rfl) (by kernel_rfl) (by kernel_rfl) (fun _ _ _ h => h) (Or.inl ⟨by rfl, ?hyg2x10⟩) hHeld ?_
            case hyg2x10 => (intro w hSw; (try dsimp only at hSw); go_simp <;> with_reducible rfl)
            try simp only [Act.put, List.setIfInBounds_toArray, List.set_cons_zero, List.set_cons_succ]
            refine wpAnyH_take (i := 11) (oi := { dst := some 24, op := Op.fieldAddr 67 (Operand.tmp 2) 4, type := 0, pos := "l11_group.go:7", after := #[{ on := 10, ground := Ground.guard }], guard := some (10, true) }) (v := undef) rfl (by kernel_rfl) (by kernel_rfl) (by kernel_rfl) (fun _ _ _ h => h) (Or.inr ⟨by rfl, rfl⟩) hHeld ?_
            try simp only [Act.put, List.setIfInBounds_toArray, List.set_cons_zero, List.set_cons_succ]
            refine wpAnyH_take (i := 12) (oi := { dst := some 25, op := Op.load 53 (Operand.tmp 24), type := 53, pos := "l11_group.go:7", after := #[{ on := 11, ground := Ground.data }, { on := 10, ground := Ground.guard }], guard := some (10, true) }) (v := undef) rfl (by kernel_rfl) (by kernel_rfl) (by kernel_rfl) (fun _ _ _ h => h) (Or.inr ⟨by rfl, rfl⟩) hHeld ?_
            try simp only [Act.put, List.setIfInBounds_toArray, List.set_cons_zero, List.set_cons_succ]
            refine wpAnyH_take (i := 13) (oi := { dst := some 26, op := Op.move (Operand.tmp 5), type := 3, pos := "l11_group.go:7", after := #[{ on := 10, ground := Ground.guard }], guard := some (10, true) }) (v := undef) rfl (by kernel_rfl) (by kernel_rfl) (by kernel_rfl) (fun _ _ _ h => h) (Or.inr ⟨by rfl, rfl⟩) hHeld ?_
            try simp only [Act.put, List.setIfInBounds_toArray, List.set_cons_zero, List.set_cons_succ]
            refine wpAnyH_take (i := 14) (oi := { dst := some 27, op := Op.binOp BinOp.sub 3 (Operand.tmp 26) (Operand.const (Value.int IntKind.i64 1)) 3, type := 3, pos := "l11_group.go:7", after := #[{ on := 13, ground := Ground.data }, { on := 10, ground := Ground.guard }], guard := some (10, true) }) (v := undef) rfl (by kernel_rfl) (by kernel_rfl) (by kernel_rfl) (fun _ _ _ h => h) (Or.inr ⟨by rfl, rfl⟩) hHeld ?_
            try simp only [Act.put, List.setIfInBounds_toArray, List.set_cons_zero, List.set_cons_succ]
            refine wpAnyH_take (i := 15) (oi := { dst := some 28, op := Op.indexAddr 53 (Operand.tmp 25) (Operand.tmp 27), type := 0, pos := "l11_group.go:7", after := #[{ on := 12, ground := Ground.data }, { on := 14, ground := Ground.data }, { on := 10, ground := Ground.guard }], guard := some (10, true) }) (v := undef) rfl (by kernel_rfl) (by kernel_rfl) (by kernel_rfl) (fun _ _ _ h => h) (Or.inr ⟨by rfl, rfl⟩) hHeld ?_
            try simp only [Act.put, List.setIfInBounds_toArray, List.set_cons_zero, List.set_cons_succ]
            refine wpAnyH_take (i := 16) (oi := { dst := some 29, op := Op.fieldAddr 48 (Operand.tmp 28) 0, type := 0, pos := "l11_group.go:7", after := #[{ on := 15, ground := Ground.data }, { on := 10, ground := Ground.guard }], guard := some (10, true) }) (v := undef) rfl (by kernel_rfl) (by kernel_rfl) (by kernel_rfl) (fun _ _ _ h => h) (Or.inr ⟨by rfl, rfl⟩) hHeld ?_
            try simp only [Act.put, List.setIfInBounds_toArray, List.set_cons_zero, List.set_cons_succ]
            refine wpAnyH_take (i := 17) (oi := { dst := some 30, op := Op.load 36 (Operand.tmp 29), type := 36, pos := "l11_group.go:7", after := #[{ on := 16, ground := Ground.data }, { on := 10, ground := Ground.guard }], guard := some (10, true) }) (v := undef) rfl (by kernel_rfl) (by kernel_rfl) (by kernel_rfl) (fun _ _ _ h => h) (Or.inr ⟨by rfl, rfl⟩) hHeld ?_
            try simp only [Act.put, List.setIfInBounds_toArray, List.set_cons_zero, List.set_cons_succ]
            refine wpAnyH_take (i := 18) (oi := { dst := some 31, op := Op.fieldAddr 67 (Operand.tmp 2) 4, type := 0, pos := "l11_group.go:7", after := #[{ on := 10, ground := Ground.guard }], guard := some (10, true) }) (v := undef) rfl (by kernel_rfl) (by kernel_rfl) (by kernel_rfl) (fun _ _ _ h => h) (Or.inr ⟨by rfl, rfl⟩) hHeld ?_
            try simp only [Act.put, List.setIfInBounds_toArray, List.set_cons_zero, List.set_cons_succ]
            refine wpAnyH_take (i := 19) (oi := { dst := some 32, op := Op.load 53 (Operand.tmp 31), type := 53, pos := "l11_group.go:7", after := #[{ on := 18, ground := Ground.data }, { on := 10, ground := Ground.guard }], guard := some (10, true) }) (v := undef) rfl (by kernel_rfl) (by kernel_rfl) (by kernel_rfl) (fun _ _ _ h => h) (Or.inr ⟨by rfl, rfl⟩) hHeld ?_
            try simp only [Act.put, List.setIfInBounds_toArray, List.set_cons_zero, List.set_cons_succ]
            refine wpAnyH_take (i := 20) (oi := { dst := some 33, op := Op.move (Operand.tmp 5), type := 3, pos := "l11_group.go:7", after := #[{ on := 10, ground := Ground.guard }], guard := some (10, true) }) (v := undef) rfl (by kernel_rfl) (by kernel_rfl) (by kernel_rfl) (fun _ _ _ h => h) (Or.inr ⟨by rfl, rfl⟩) hHeld ?_
            try simp only [Act.put, List.setIfInBounds_toArray, List.set_cons_zero, List.set_cons_succ]
            refine wpAnyH_take (i := 21) (oi := { dst := some 34, op := Op.indexAddr 53 (Operand.tmp 32) (Operand.tmp 33), type := 0, pos := "l11_group.go:7", after := #[{ on := 19, ground := Ground.data }, { on := 20, ground := Ground.data }, { on := 10, ground := Ground.guard }], guard := some (10, true) }) (v := undef) rfl (by kernel_rfl) (by kernel_rfl) (by kernel_rfl) (fun _ _ _ h => h) (Or.inr ⟨by rfl, rfl⟩) hHeld ?_
            try simp only [Act.put, List.setIfInBounds_toArray, List.set_cons_zero, List.set_cons_succ]
            refine wpAnyH_take (i := 22) (oi := { dst := some 35, op := Op.fieldAddr 48 (Operand.tmp 34) 0, type := 0, pos := "l11_group.go:7", after := #[{ on := 21, ground := Ground.data }, { on := 10, ground := Ground.guard }], guard := some (10, true) }) (v := undef) rfl (by kernel_rfl) (by kernel_rfl) (by kernel_rfl) (fun _ _ _ h => h) (Or.inr ⟨by rfl, rfl⟩) hHeld ?_
            try simp only [Act.put, List.setIfInBounds_toArray, List.set_cons_zero, List.set_cons_succ]
            refine wpAnyH_take (i := 23) (oi := { dst := some 36, op := Op.load 36 (Operand.tmp 35), type := 36, pos := "l11_group.go:7", after := #[{ on := 22, ground := Ground.data }, { on := 10, ground := Ground.guard }], guard := some (10, true) }) (v := undef) rfl (by kernel_rfl) (by kernel_rfl) (by kernel_rfl) (fun _ _ _ h => h) (Or.inr ⟨by rfl, rfl⟩) hHeld ?_
            try simp only [Act.put, List.setIfInBounds_toArray, List.set_cons_zero, List.set_cons_succ]
            refine wpAnyH_take (i := 24) (oi := { dst := some 37, op := Op.call { callee := Callee.value (Operand.func 68), args := #[Operand.tmp 30, Operand.tmp 36], argTypes := #[36, 36] }, type := 4, pos := "l11_group.go:7", after := #[{ on := 17, ground := Ground.data }, { on := 23, ground := Ground.data }, { on := 10, ground := Ground.chain }, { on := 10, ground := Ground.guard }], guard := some (10, true) }) (v := undef) rfl (by kernel_rfl) (by kernel_rfl) (by kernel_rfl) (fun _ _ _ h => h) (Or.inr ⟨by rfl, rfl⟩) hHeld ?_
            try simp only [Act.put, List.setIfInBounds_toArray, List.set_cons_zero, List.set_cons_succ]
            refine wpAnyH_take (i := 25) (oi := { dst := some 38, op := Op.unOp UnOp.not 4 (Operand.tmp 37), type := 4, pos := "l11_group.go:7", after := #[{ on := 24, ground := Ground.data }, { on := 10, ground := Ground.guard }], guard := some (10, true) }) (v := undef) rfl (by kernel_rfl) (by kernel_rfl) (by kernel_rfl) (fun _ _ _ h => h) (Or.inr ⟨by rfl, rfl⟩) hHeld ?_
            try simp only [Act.put, List.setIfInBounds_toArray, List.set_cons_zero, List.set_cons_succ]
            refine wpAnyH_take (i := 26) (oi := { dst := some 39, op := Op.pick (Operand.tmp 23) (Operand.tmp 38) (Operand.const (Value.bool false)), type := 4, pos := "l11_group.go:7", after := #[{ on := 10, ground := Ground.data }, { on := 25, ground := Ground.data }, { on := 7, ground := Ground.guard }], guard := some (7, false) }) (v := ?vg2x26) rfl (by kernel_rfl) (by kernel_rfl) (by kernel_rfl) (fun _ _ _ h => h) (Or.inl ⟨by rfl, ?hyg2x26⟩) hHeld ?_
            case hyg2x26 => (intro w hSw; (try dsimp only at hSw); go_simp <;> with_reducible rfl)
            try simp only [Act.put, List.setIfInBounds_toArray, List.set_cons_zero, List.set_cons_succ]
            refine wpAnyH_take (i := 27) (oi := { dst := some 40, op := Op.pick (Operand.tmp 20) (Operand.const (Value.bool true)) (Operand.tmp 39), type := 4, pos := "l11_group.go:7", after := #[{ on := 7, ground := Ground.data }, { on := 26, ground := Ground.data }], guard := none }) (v := ?vg2x27) rfl (by kernel_rfl) (by kernel_rfl) (by kernel_rfl) (fun _ _ _ h => h) (Or.inl ⟨by rfl, ?hyg2x27⟩) hHeld ?_
            case hyg2x27 => (intro w hSw; (try dsimp only at hSw); go_simp <;> with_reducible rfl)
            try simp only [Act.put, List.setIfInBounds_toArray, List.set_cons_zero, List.set_cons_succ]
            refine wpAnyH_take (i := 28) (oi := { dst := some 41, op := Op.move (Operand.tmp 40), type := 4, pos := "l11_group.go:7", after := #[{ on := 27, ground := Ground.data }, { on := 24, ground := Ground.chain }], guard := none }) (v := ?vg2x28) rfl (by kernel_rfl) (by kernel_rfl) (by kernel_rfl) (fun _ _ _ h => h) (Or.inl ⟨by rfl, ?hyg2x28⟩) hHeld ?_
            case hyg2x28 => (intro w hSw; (try dsimp only at hSw); go_simp <;> with_reducible rfl)
            try simp only [Act.put, List.setIfInBounds_toArray, List.set_cons_zero, List.set_cons_succ]
            refine wpAnyH_take (i := 29) (oi := { dst := some 42, op := Op.fieldAddr 67 (Operand.tmp 2) 4, type := 0, pos := "l11_group.go:7", after := #[{ on := 28, ground := Ground.guard }], guard := some (28, false) }) (v := ?vg2x29) rfl (by kernel_rfl) (by kernel_rfl) (by kernel_rfl) (fun _ _ _ h => h) (Or.inl ⟨by rfl, ?hyg2x29⟩) hHeld ?_
            case hyg2x29 => (intro w hSw; (try dsimp only at hSw); go_simp <;> with_reducible rfl)
            try simp only [Act.put, List.setIfInBounds_toArray, List.set_cons_zero, List.set_cons_succ]
            refine wpAnyH_take (i := 30) (oi := { dst := some 43, op := Op.load 53 (Operand.tmp 42), type := 53, pos := "l11_group.go:7", after := #[{ on := 29, ground := Ground.data }, { on := 28, ground := Ground.guard }], guard := some (28, false) }) (v := ?vg2x30) rfl (by kernel_rfl) (by kernel_rfl) (by kernel_rfl) (fun _ _ _ h => h) (Or.inl ⟨by rfl, ?hyg2x30⟩) hHeld ?_
            case hyg2x30 => (intro w hSw; (try dsimp only at hSw); go_simp <;> with_reducible rfl)
            try simp only [Act.put, List.setIfInBounds_toArray, List.set_cons_zero, List.set_cons_succ]
            refine wpAnyH_take (i := 31) (oi := { dst := some 44, op := Op.move (Operand.tmp 5), type := 3, pos := "l11_group.go:7", after := #[{ on := 28, ground := Ground.guard }], guard := some (28, false) }) (v := ?vg2x31) rfl (by kernel_rfl) (by kernel_rfl) (by kernel_rfl) (fun _ _ _ h => h) (Or.inl ⟨by rfl, ?hyg2x31⟩) hHeld ?_
            case hyg2x31 => (intro w hSw; (try dsimp only at hSw); go_simp <;> with_reducible rfl)
            try simp only [Act.put, List.setIfInBounds_toArray, List.set_cons_zero, List.set_cons_succ]
            refine wpAnyH_take (i := 32) (oi := { dst := some 45, op := Op.indexAddr 53 (Operand.tmp 43) (Operand.tmp 44), type := 0, pos := "l11_group.go:7", after := #[{ on := 30, ground := Ground.data }, { on := 31, ground := Ground.data }, { on := 28, ground := Ground.guard }], guard := some (28, false) }) (v := ?vg2x32) rfl (by kernel_rfl) (by kernel_rfl) (by kernel_rfl) (fun _ _ _ h => h) (Or.inl ⟨by rfl, ?hyg2x32⟩) hHeld ?_
            case hyg2x32 => (intro w hSw; (try dsimp only at hSw); go_simp <;> with_reducible rfl)
            try simp only [Act.put, List.setIfInBounds_toArray, List.set_cons_zero, List.set_cons_succ]
            refine wpAnyH_take (i := 33) (oi := { dst := some 46, op := Op.load 48 (Operand.tmp 45), type := 48, pos := "l11_group.go:7", after := #[{ on := 32, ground := Ground.data }, { on := 28, ground := Ground.guard }], guard := some (28, false) }) (v := ?vg2x33) rfl (by kernel_rfl) (by kernel_rfl) (by kernel_rfl) (fun _ _ _ h => h) (Or.inl ⟨by rfl, ?hyg2x33⟩) hHeld ?_
            case hyg2x33 => (intro w hSw; (try dsimp only at hSw); go_simp <;> with_reducible rfl)
            try simp only [Act.put, List.setIfInBounds_toArray, List.set_cons_zero, List.set_cons_succ]
            refine wpAnyH_take (i := 34) (oi := { dst := some 47, op := Op.move (Operand.tmp 1), type := 23, pos := "l11_group.go:7", after := #[{ on := 28, ground := Ground.guard }], guard := some (28, false) }) (v := ?vg2x34) rfl (by kernel_rfl) (by kernel_rfl) (by kernel_rfl) (fun _ _ _ h => h) (Or.inl ⟨by rfl, ?hyg2x34⟩) hHeld ?_
            case hyg2x34 => (intro w hSw; (try dsimp only at hSw); go_simp <;> with_reducible rfl)
            try simp only [Act.put, List.setIfInBounds_toArray, List.set_cons_zero, List.set_cons_succ]
            refine wpAnyH_take (i := 36) (oi := { dst := some 49, op := Op.fieldAddr 67 (Operand.tmp 2) 1, type := 0, pos := "l11_group.go:7", after := #[{ on := 28, ground := Ground.guard }], guard := some (28, false) }) (v := ?vg2x36) rfl (by kernel_rfl) (by kernel_rfl) (by kernel_rfl) (fun _ _ _ h => h) (Or.inl ⟨by rfl, ?hyg2x36⟩) hHeld ?_
            case hyg2x36 => (intro w hSw; (try dsimp only at hSw); go_simp <;> with_reducible rfl)
            try simp only [Act.put, List.setIfInBounds_toArray, List.set_cons_zero, List.set_cons_succ]
            refine wpAnyH_take (i := 37) (oi := { dst := some 50, op := Op.load 36 (Operand.tmp 49), type := 36, pos := "l11_group.go:7", after := #[{ on := 36, ground := Ground.data }, { on := 28, ground := Ground.guard }], guard := some (28, false) }) (v := ?vg2x37) rfl (by kernel_rfl) (by kernel_rfl) (by kernel_rfl) (fun _ _ _ h => h) (Or.inl ⟨by rfl, ?hyg2x37⟩) hHeld ?_
            case hyg2x37 => (intro w hSw; (try dsimp only at hSw); go_simp <;> with_reducible rfl)
            try simp only [Act.put, List.setIfInBounds_toArray, List.set_cons_zero, List.set_cons_succ]
            refine wpAnyH_ready (rs := [35]) (by kernel_rfl) (by simp) ?_
            refine AllReadyH.cons (o := { dst := some 48, op := Op.call { callee := Callee.value (Operand.func 51), args := #[Operand.tmp 46, Operand.tmp 47], argTypes := #[48, 23] }, type := 36, pos := "l11_group.go:7", after := #[{ on := 33, ground := Ground.data }, { on := 34, ground := Ground.data }, { on := 28, ground := Ground.chain }, { on := 28, ground := Ground.guard }], guard := some (28, false) }) rfl (fun K hK => ?_) AllReadyH.nil
            go_simp
            refine (HKE.out _ Z1.out).mono ?_
            rintro r wyg2x35 ⟨⟨MK, ck, rfl, hOK⟩, hb3⟩
            have Z3 : Hid (Below wr.heap.size wr wyg2x35) := grow_on Z1.out hb3
            have HO3 : Hid (Reads wyg2x35 (some ⟨MK, 0, none⟩) (projB (nthP P k).l by')) := own_reads hOK
            clear hb3 hOK
            clear hHeld
            refine hK.out _ _ (HS.out _ Z3.out) (fun hHeld => ?_)
            clear hK K
            try simp only [Act.put, List.setIfInBounds_toArray, List.set_cons_zero, List.set_cons_succ]
            refine wpAnyH_ready (rs := [38]) (by kernel_rfl) (by simp) ?_
            refine AllReadyH.cons (o := { dst := some 51, op := Op.call { callee := Callee.value (Operand.func 39), args := #[Operand.tmp 48, Operand.tmp 50], argTypes := #[36, 36] }, type := 4, pos := "l11_group.go:7", after := #[{ on := 35, ground := Ground.data }, { on := 37, ground := Ground.data }, { on := 35, ground := Ground.chain }, { on := 28, ground := Ground.guard }], guard := some (28, false) }) rfl (fun K hK => ?_) AllReadyH.nil
            go_simp
            refine (calls_drew (specSame_any _ _ _ _ (projB (nthP P k).l by') key _ HO3.out (HK.out.1.below (grow_on HBw.out Z3.out)) HPL.out HK.out.2.1)).mono ?_
            rintro r wyg2x38 ⟨rfl, hb4⟩
            have Z4 : Hid (Below wr.heap.size wr wyg2x38) := grow_on Z3.out hb4
            clear hb4
            try rw [hSm]
            clear hHeld
            refine hK.out _ _ (HS.out _ Z4.out) (fun hHeld => ?_)
            clear hK K
            try simp only [Act.put, List.setIfInBounds_toArray, List.set_cons_zero, List.set_cons_succ]
            refine wpAnyH_take (i := 39) (oi := { dst := some 52, op := Op.unOp UnOp.not 4 (Operand.tmp 51), type := 4, pos := "l11_group.go:7", after := #[{ on := 38, ground := Ground.data }, { on := 28, ground := Ground.guard }], guard := some (28, false) }) (v := ?vg2x39) rfl (by kernel_rfl) (by kernel_rfl) (by kernel_rfl) (fun _ _ _ h => h) (Or.inl ⟨by rfl, ?hyg2x39⟩) hHeld ?_
            case hyg2x39 => (intro w hSw; (try dsimp only at hSw); go_simp <;> with_reducible rfl)
            try simp only [Act.put, List.setIfInBounds_toArray, List.set_cons_zero, List.set_cons_succ]
            refine wpAnyH_take (i := 40) (oi := { dst := some 53, op := Op.pick (Operand.tmp 41) (Operand.const (Value.bool true)) (Operand.tmp 52), type := 4, pos := "l11_group.go:7", after := #[{ on := 28, ground := Ground.data }, { on := 39, ground := Ground.data }], guard := none }) (v := ?vg2x40) rfl (by kernel_rfl) (by kernel_rfl) (by kernel_rfl) (fun _ _ _ h => h) (Or.inl ⟨by rfl, ?hyg2x40⟩) hHeld ?_
            case hyg2x40 => (intro w hSw; (try dsimp only at hSw); go_simp <;> with_reducible rfl)
            try simp only [Act.put, List.setIfInBounds_toArray, List.set_cons_zero, List.set_cons_succ]
            refine wpAnyH_done (by kernel_rfl) ?_ _
            clear hHeld
            go_wp2
            go_ret
            exact ⟨retB HE.out.symm, grow_on HBw.out Z4.out⟩
          | true =>
            have HG : Hid (grAt key P by' k = true) := by unfold Hid grAt; rw [hA, hSm, decide_eq_true K0.out]; rfl
            have HU1 : Hid (∀ j, j < k + 1 → grAt key P by' j = true) := fun j hj => by
              by_cases e : j = k
              · rw [e]; exact HG.out
              · exact HU.out j (by omega)
            have HS : Hid (∀ w', Below wr.heap.size wr w' → w'.cell? ⟨w.heap.size, 1, none⟩ = some (.slice ka key.length kc) ∧ w'.cell? ⟨w.heap.size, 4, none⟩ = some (.slice (some ⟨bb, off, none⟩) P.length cap) ∧ w'.cell? ⟨bb, off + k * 4, none⟩ = some (.slice ad (nthP P k).l.length cp) ∧ w'.cell? ⟨bb, off + k * 4 + 1, none⟩ = some (.int .i64 (nthP P k).s) ∧ w'.cell? ⟨bb, off + k * 4 + 2, none⟩ = some (.int .i64 (nthP P k).e) ∧ w'.cell? ⟨bb, off + k * 4 + 3, none⟩ = some (.string (nthP P k).n)) := fun w' h => ⟨(BP.out.grow h).cell 1, (BP.out.grow h).cell 4, (h.cell (p := ⟨bb, off + k * 4, none⟩) hbb).trans HA.out.c0, (h.cell (p := ⟨bb, off + k * 4 + 1, none⟩) hbb).trans HA.out.c1, (h.cell (p := ⟨bb, off + k * 4 + 2, none⟩) hbb).trans HA.out.c2, (h.cell (p := ⟨bb, off + k * 4 + 3, none⟩) hbb).trans HA.out.c3⟩
            go_upto_region 4 with fail
            refine wp_region_held_drew (S := fun w' => w'.cell? ⟨w.heap.size, 1, none⟩ = some (.slice ka key.length kc) ∧ w'.cell? ⟨w.heap.size, 4, none⟩ = some (.slice (some ⟨bb, off, none⟩) P.length cap) ∧ w'.cell? ⟨bb, off + k * 4, none⟩ = some (.slice ad (nthP P k).l.length cp) ∧ w'.cell? ⟨bb, off + k * 4 + 1, none⟩ = some (.int .i64 (nthP P k).s) ∧ w'.cell? ⟨bb, off + k * 4 + 2, none⟩ = some (.int .i64 (nthP P k).e) ∧ w'.cell? ⟨bb, off + k * 4 + 3, none⟩ = some (.string (nthP P k).n)) (by kernel_rfl) (HS.out _ (Below.refl wr.heap.size wr).drew) (fun hHeld => ?_)
            refine wpAnyH_take (i := 0) (oi := { dst := some 13, op := Op.fieldAddr 67 (Operand.tmp 2) 4, type := 0, pos := "l11_group.go:7", after := #[], guard := none }) (v := ?vg3x0) rfl (by kernel_rfl) (by kernel_rfl) (by kernel_rfl) (fun _ _ _ h => h) (Or.inl ⟨by rfl, ?hyg3x0⟩) hHeld ?_
            case hyg3x0 => (intro w hSw; (try dsimp only at hSw); go_simp <;> with_reducible rfl)
            try simp only [Act.put, List.setIfInBounds_toArray, List.set_cons_zero, List.set_cons_succ]
            refine wpAnyH_take (i := 1) (oi := { dst := some 14, op := Op.load 53 (Operand.tmp 13), type := 53, pos := "l11_group.go:7", after := #[{ on := 0, ground := Ground.data }], guard := none }) (v := ?vg3x1) rfl (by kernel_rfl) (by kernel_rfl) (by kernel_rfl) (fun _ _ _ h => h) (Or.inl ⟨by rfl, ?hyg3x1⟩) hHeld ?_
            case hyg3x1 => (intro w hSw; (try dsimp only at hSw); go_simp <;> with_reducible rfl)
            try simp only [Act.put, List.setIfInBounds_toArray, List.set_cons_zero, List.set_cons_succ]
            refine wpAnyH_take (i := 2) (oi := { dst := some 15, op := Op.move (Operand.tmp 5), type := 3, pos := "l11_group.go:7", after := #[], guard := none }) (v := ?vg3x2) rfl (by kernel_rfl) (by kernel_rfl) (by kernel_rfl) (fun _ _ _ h => h) (Or.inl ⟨by rfl, ?hyg3x2⟩) hHeld ?_
            case hyg3x2 => (intro w hSw; (try dsimp only at hSw); go_simp <;> with_reducible rfl)
            try simp only [Act.put, List.setIfInBounds_toArray, List.set_cons_zero, List.set_cons_succ]
            refine wpAnyH_take (i := 3) (oi := { dst := some 16, op := Op.indexAddr 53 (Operand.tmp 14) (Operand.tmp 15), type := 0, pos := "l11_group.go:7", after := #[{ on := 1, ground := Ground.data }, { on := 2, ground := Ground.data }], guard := none }) (v := ?vg3x3) rfl (by kernel_rfl) (by kernel_rfl) (by kernel_rfl) (fun _ _ _ h => h) (Or.inl ⟨by rfl, ?hyg3x3⟩) hHeld ?_
            case hyg3x3 => (intro w hSw; (try dsimp only at hSw); go_simp <;> with_reducible rfl)
            try simp only [Act.put, List.setIfInBounds_toArray, List.set_cons_zero, List.set_cons_succ]
            refine wpAnyH_take (i := 4) (oi := { dst := some 17, op := Op.load 48 (Operand.tmp 16), type := 48, pos := "l11_group.go:7", after := #[{ on := 3, ground := Ground.data }], guard := none }) (v := ?vg3x4) rfl (by kernel_rfl) (by kernel_rfl) (by kernel_rfl) (fun _ _ _ h => h) (Or.inl ⟨by rfl, ?hyg3x4⟩) hHeld ?_
            case hyg3x4 => (intro w hSw; (try dsimp only at hSw); go_simp <;> with_reducible rfl)
            try simp only [Act.put, List.setIfInBounds_toArray, List.set_cons_zero, List.set_cons_succ]
            refine wpAnyH_ready (rs := [5]) (by kernel_rfl) (by simp) ?_
            refine AllReadyH.cons (o := { dst := some 18, op := Op.call { callee := Callee.value (Operand.func 67), args := #[Operand.tmp 17], argTypes := #[48] }, type := 4, pos := "l11_group.go:7", after := #[{ on := 4, ground := Ground.data }], guard := none }) rfl (fun K hK => ?_) AllReadyH.nil
            go_simp
            refine (HOK.out _ (Below.refl wr.heap.size wr).drew).mono ?_
            rintro r wyg3x5 ⟨rfl, hb1⟩
            have Z1 : Hid (Below wr.heap.size wr wyg3x5) := grow_on (Below.refl wr.heap.size wr).drew hb1
            clear hb1
            try rw [hA]
            clear hHeld
            refine hK.out _ _ (HS.out _ Z1.out) (fun hHeld => ?_)
            clear hK K
            try simp only [Act.put, List.setIfInBounds_toArray, List.set_cons_zero, List.set_cons_succ]
            refine wpAnyH_take (i := 6) (oi := { dst := some 19, op := Op.unOp UnOp.not 4 (Operand.tmp 18), type := 4, pos := "l11_group.go:7", after := #[{ on := 5, ground := Ground.data }], guard := none }) (v := ?vg3x6) rfl (by kernel_rfl) (by kernel_rfl) (by kernel_rfl) (fun _ _ _ h => h) (Or.inl ⟨by rfl, ?hyg3x6⟩) hHeld ?_
            case hyg3x6 => (intro w hSw; (try dsimp only at hSw); go_simp <;> with_reducible rfl)
            try simp only [Act.put, List.setIfInBounds_toArray, List.set_cons_zero, List.set_cons_succ]
            refine wpAnyH_take (i := 7) (oi := { dst := some 20, op := Op.move (Operand.tmp 19), type := 4, pos := "l11_group.go:7", after := #[{ on := 6, ground := Ground.data }, { on := 5, ground := Ground.chain }], guard := none }) (v := ?vg3x7) rfl (by kernel_rfl) (by kernel_rfl) (by kernel_rfl) (fun _ _ _ h => h) (Or.inl ⟨by rfl, ?hyg3x7⟩) hHeld ?_
            case hyg3x7 => (intro w hSw; (try dsimp only at hSw); go_simp <;> with_reducible rfl)
            try simp only [Act.put, List.setIfInBounds_toArray, List.set_cons_zero, List.set_cons_succ]
            refine wpAnyH_take (i := 8) (oi := { dst := some 21, op := Op.move (Operand.tmp 5), type := 3, pos := "l11_group.go:7", after := #[{ on := 7, ground := Ground.guard }], guard := some (7, false) }) (v := ?vg3x8) rfl (by kernel_rfl) (by kernel_rfl) (by kernel_rfl) (fun _ _ _ h => h) (Or.inl ⟨by rfl, ?hyg3x8⟩) hHeld ?_
            case hyg3x8 => (intro w hSw; (try dsimp only at hSw); go_simp <;> with_reducible rfl)
            try simp only [Act.put, List.setIfInBounds_toArray, List.set_cons_zero, List.set_cons_succ]
            refine wpAnyH_take (i := 9) (oi := { dst := some 22, op := Op.binOp BinOp.gtr 3 (Operand.tmp 21) (Operand.const (Value.int IntKind.i64 0)) 3, type := 4, pos := "l11_group.go:7", after := #[{ on := 8, ground := Ground.data }, { on := 7, ground := Ground.guard }], guard := some (7, false) }) (v := ?vg3x9) rfl (by kernel_rfl) (by kernel_rfl) (by kernel_rfl) (fun _ _ _ h => h) (Or.inl ⟨by rfl, ?hyg3x9⟩) hHeld ?_
            case hyg3x9 => (intro w hSw; (try dsimp only at hSw); go_simp <;> with_reducible rfl)
            try simp only [Act.put, List.setIfInBounds_toArray, List.set_cons_zero, List.set_cons_succ]
            refine wpAnyH_take (i := 10) (oi := { dst := some 23, op := Op.move (Operand.tmp 22), type := 4, pos := "l11_group.go:7", after := #[{ on := 9, ground := Ground.data }, { on := 7, ground := Ground.chain }, { on := 7, ground := Ground.guard }], guard := some (7, false) }) (v := ?vg3x10) rfl (by kernel_rfl) (by kernel_rfl) (by kernel_rfl) (fun _ _ _ h => h) (Or.inl ⟨by rfl, ?hyg3x10⟩) hHeld ?_
            case hyg3x10 => (intro w hSw; (try dsimp only at hSw); go_simp <;> with_reducible rfl)
            try simp only [Act.put, List.setIfInBounds_toArray, List.set_cons_zero, List.set_cons_succ]
            refine wpAnyH_take (i := 11) (oi := { dst := some 24, op := Op.fieldAddr 67 (Operand.tmp 2) 4, type := 0, pos := "l11_group.go:7", after := #[{ on := 10, ground := Ground.guard }], guard := some (10, true) }) (v := undef) rfl (by kernel_rfl) (by kernel_rfl) (by kernel_rfl) (fun _ _ _ h => h) (Or.inr ⟨by rfl, rfl⟩) hHeld ?_
            try simp only [Act.put, List.setIfInBounds_toArray, List.set_cons_zero, List.set_cons_succ]
            refine wpAnyH_take (i := 12) (oi := { dst := some 25, op := Op.load 53 (Operand.tmp 24), type := 53, pos := "l11_group.go:7", after := #[{ on := 11, ground := Ground.data }, { on := 10, ground := Ground.guard }], guard := some (10, true) }) (v := undef) rfl (by kernel_rfl) (by kernel_rfl) (by kernel_rfl) (fun _ _ _ h => h) (Or.inr ⟨by rfl, rfl⟩) hHeld ?_
            try simp only [Act.put, List.setIfInBounds_toArray, List.set_cons_zero, List.set_cons_succ]
            refine wpAnyH_take (i := 13) (oi := { dst := some 26, op := Op.move (Operand.tmp 5), type := 3, pos := "l11_group.go:7", after := #[{ on := 10, ground := Ground.guard }], guard := some (10, true) }) (v := undef) rfl (by kernel_rfl) (by kernel_rfl) (by kernel_rfl) (fun _ _ _ h => h) (Or.inr ⟨by rfl, rfl⟩) hHeld ?_
            try simp only [Act.put, List.setIfInBounds_toArray, List.set_cons_zero, List.set_cons_succ]
            refine wpAnyH_take (i := 14) (oi := { dst := some 27, op := Op.binOp BinOp.sub 3 (Operand.tmp 26) (Operand.const (Value.int IntKind.i64 1)) 3, type := 3, pos := "l11_group.go:7", after := #[{ on := 13, ground := Ground.data }, { on := 10, ground := Ground.guard }], guard := some (10, true) }) (v := undef) rfl (by kernel_rfl) (by kernel_rfl) (by kernel_rfl) (fun _ _ _ h => h) (Or.inr ⟨by rfl, rfl⟩) hHeld ?_
            try simp only [Act.put, List.setIfInBounds_toArray, List.set_cons_zero, List.set_cons_succ]
            refine wpAnyH_take (i := 15) (oi := { dst := some 28, op := Op.indexAddr 53 (Operand.tmp 25) (Operand.tmp 27), type := 0, pos := "l11_group.go:7", after := #[{ on := 12, ground := Ground.data }, { on := 14, ground := Ground.data }, { on := 10, ground := Ground.guard }], guard := some (10, true) }) (v := undef) rfl (by kernel_rfl) (by kernel_rfl) (by kernel_rfl) (fun _ _ _ h => h) (Or.inr ⟨by rfl, rfl⟩) hHeld ?_
            try simp only [Act.put, List.setIfInBounds_toArray, List.set_cons_zero, List.set_cons_succ]
            refine wpAnyH_take (i := 16) (oi := { dst := some 29, op := Op.fieldAddr 48 (Operand.tmp 28) 0, type := 0, pos := "l11_group.go:7", after := #[{ on := 15, ground := Ground.data }, { on := 10, ground := Ground.guard }], guard := some (10, true) }) (v := undef) rfl (by kernel_rfl) (by kernel_rfl) (by kernel_rfl) (fun _ _ _ h => h) (Or.inr ⟨by rfl, rfl⟩) hHeld ?_
            try simp only [Act.put, List.setIfInBounds_toArray, List.set_cons_zero, List.set_cons_succ]
            refine wpAnyH_take (i := 17) (oi := { dst := some 30, op := Op.load 36 (Operand.tmp 29), type := 36, pos := "l11_group.go:7", after := #[{ on := 16, ground := Ground.data }, { on := 10, ground := Ground.guard }], guard := some (10, true) }) (v := undef) rfl (by kernel_rfl) (by kernel_rfl) (by kernel_rfl) (fun _ _ _ h => h) (Or.inr ⟨by rfl, rfl⟩) hHeld ?_
            try simp only [Act.put, List.setIfInBounds_toArray, List.set_cons_zero, List.set_cons_succ]
            refine wpAnyH_take (i := 18) (oi := { dst := some 31, op := Op.fieldAddr 67 (Operand.tmp 2) 4, type := 0, pos := "l11_group.go:7", after := #[{ on := 10, ground := Ground.guard }], guard := some (10, true) }) (v := undef) rfl (by kernel_rfl) (by kernel_rfl) (by kernel_rfl) (fun _ _ _ h => h) (Or.inr ⟨by rfl, rfl⟩) hHeld ?_
            try simp only [Act.put, List.setIfInBounds_toArray, List.set_cons_zero, List.set_cons_succ]
            refine wpAnyH_take (i := 19) (oi := { dst := some 32, op := Op.load 53 (Operand.tmp 31), type := 53, pos := "l11_group.go:7", after := #[{ on := 18, ground := Ground.data }, { on := 10, ground := Ground.guard }], guard := some (10, true) }) (v := undef) rfl (by kernel_rfl) (by kernel_rfl) (by kernel_rfl) (fun _ _ _ h => h) (Or.inr ⟨by rfl, rfl⟩) hHeld ?_
            try simp only [Act.put, List.setIfInBounds_toArray, List.set_cons_zero, List.set_cons_succ]
            refine wpAnyH_take (i := 20) (oi := { dst := some 33, op := Op.move (Operand.tmp 5), type := 3, pos := "l11_group.go:7", after := #[{ on := 10, ground := Ground.guard }], guard := some (10, true) }) (v := undef) rfl (by kernel_rfl) (by kernel_rfl) (by kernel_rfl) (fun _ _ _ h => h) (Or.inr ⟨by rfl, rfl⟩) hHeld ?_
            try simp only [Act.put, List.setIfInBounds_toArray, List.set_cons_zero, List.set_cons_succ]
            refine wpAnyH_take (i := 21) (oi := { dst := some 34, op := Op.indexAddr 53 (Operand.tmp 32) (Operand.tmp 33), type := 0, pos := "l11_group.go:7", after := #[{ on := 19, ground := Ground.data }, { on := 20, ground := Ground.data }, { on := 10, ground := Ground.guard }], guard := some (10, true) }) (v := undef) rfl (by kernel_rfl) (by kernel_rfl) (by kernel_rfl) (fun _ _ _ h => h) (Or.inr ⟨by rfl, rfl⟩) hHeld ?_
            try simp only [Act.put, List.setIfInBounds_toArray, List.set_cons_zero, List.set_cons_succ]
            refine wpAnyH_take (i := 22) (oi := { dst := some 35, op := Op.fieldAddr 48 (Operand.tmp 34) 0, type := 0, pos := "l11_group.go:7", after := #[{ on := 21, ground := Ground.data }, { on := 10, ground := Ground.guard }], guard := some (10, true) }) (v := undef) rfl (by kernel_rfl) (by kernel_rfl) (by kernel_rfl) (fun _ _ _ h => h) (Or.inr ⟨by rfl, rfl⟩) hHeld ?_
            try simp only [Act.put, List.setIfInBounds_toArray, List.set_cons_zero, List.set_cons_succ]
            refine wpAnyH_take (i := 23) (oi := { dst := some 36, op := Op.load 36 (Operand.tmp 35), type := 36, pos := "l11_group.go:7", after := #[{ on := 22, ground := Ground.data }, { on := 10, ground := Ground.guard }], guard := some (10, true) }) (v := undef) rfl (by kernel_rfl) (by kernel_rfl) (by kernel_rfl) (fun _ _ _ h => h) (Or.inr ⟨by rfl, rfl⟩) hHeld ?_
            try simp only [Act.put, List.setIfInBounds_toArray, List.set_cons_zero, List.set_cons_succ]
            refine wpAnyH_take (i := 24) (oi := { dst := some 37, op := Op.call { callee := Callee.value (Operand.func 68), args := #[Operand.tmp 30, Operand.tmp 36], argTypes := #[36, 36] }, type := 4, pos := "l11_group.go:7", after := #[{ on := 17, ground := Ground.data }, { on := 23, ground := Ground.data }, { on := 10, ground := Ground.chain }, { on := 10, ground := Ground.guard }], guard := some (10, true) }) (v := undef) rfl (by kernel_rfl) (by kernel_rfl) (by kernel_rfl) (fun _ _ _ h => h) (Or.inr ⟨by rfl, rfl⟩) hHeld ?_
            try simp only [Act.put, List.setIfInBounds_toArray, List.set_cons_zero, List.set_cons_succ]
            refine wpAnyH_take (i := 25) (oi := { dst := some 38, op := Op.unOp UnOp.not 4 (Operand.tmp 37), type := 4, pos := "l11_group.go:7", after := #[{ on := 24, ground := Ground.data }, { on := 10, ground := Ground.guard }], guard := some (10, true) }) (v := undef) rfl (by kernel_rfl) (by kernel_rfl) (by kernel_rfl) (fun _ _ _ h => h) (Or.inr ⟨by rfl, rfl⟩) hHeld ?_
            try simp only [Act.put, List.setIfInBounds_toArray, List.set_cons_zero, List.set_cons_succ]
            refine wpAnyH_take (i := 26) (oi := { dst := some 39, op := Op.pick (Operand.tmp 23) (Operand.tmp 38) (Operand.const (Value.bool false)), type := 4, pos := "l11_group.go:7", after := #[{ on := 10, ground := Ground.data }, { on := 25, ground := Ground.data }, { on := 7, ground := Ground.guard }], guard := some (7, false) }) (v := ?vg3x26) rfl (by kernel_rfl) (by kernel_rfl) (by kernel_rfl) (fun _ _ _ h => h) (Or.inl ⟨by rfl, ?hyg3x26⟩) hHeld ?_
            case hyg3x26 => (intro w hSw; (try dsimp only at hSw); go_simp <;> with_reducible rfl)
            try simp only [Act.put, List.setIfInBounds_toArray, List.set_cons_zero, List.set_cons_succ]
            refine wpAnyH_take (i := 27) (oi := { dst := some 40, op := Op.pick (Operand.tmp 20) (Operand.const (Value.bool true)) (Operand.tmp 39), type := 4, pos := "l11_group.go:7", after := #[{ on := 7, ground := Ground.data }, { on := 26, ground := Ground.data }], guard := none }) (v := ?vg3x27) rfl (by kernel_rfl) (by kernel_rfl) (by kernel_rfl) (fun _ _ _ h => h) (Or.inl ⟨by rfl, ?hyg3x27⟩) hHeld ?_
            case hyg3x27 => (intro w hSw; (try dsimp only at hSw); go_simp <;> with_reducible rfl)
            try simp only [Act.put, List.setIfInBounds_toArray, List.set_cons_zero, List.set_cons_succ]
            refine wpAnyH_take (i := 28) (oi := { dst := some 41, op := Op.move (Operand.tmp 40), type := 4, pos := "l11_group.go:7", after := #[{ on := 27, ground := Ground.data }, { on := 24, ground := Ground.chain }], guard := none }) (v := ?vg3x28) rfl (by kernel_rfl) (by kernel_rfl) (by kernel_rfl) (fun _ _ _ h => h) (Or.inl ⟨by rfl, ?hyg3x28⟩) hHeld ?_
            case hyg3x28 => (intro w hSw; (try dsimp only at hSw); go_simp <;> with_reducible rfl)
            try simp only [Act.put, List.setIfInBounds_toArray, List.set_cons_zero, List.set_cons_succ]
            refine wpAnyH_take (i := 29) (oi := { dst := some 42, op := Op.fieldAddr 67 (Operand.tmp 2) 4, type := 0, pos := "l11_group.go:7", after := #[{ on := 28, ground := Ground.guard }], guard := some (28, false) }) (v := ?vg3x29) rfl (by kernel_rfl) (by kernel_rfl) (by kernel_rfl) (fun _ _ _ h => h) (Or.inl ⟨by rfl, ?hyg3x29⟩) hHeld ?_
            case hyg3x29 => (intro w hSw; (try dsimp only at hSw); go_simp <;> with_reducible rfl)
            try simp only [Act.put, List.setIfInBounds_toArray, List.set_cons_zero, List.set_cons_succ]
            refine wpAnyH_take (i := 30) (oi := { dst := some 43, op := Op.load 53 (Operand.tmp 42), type := 53, pos := "l11_group.go:7", after := #[{ on := 29, ground := Ground.data }, { on := 28, ground := Ground.guard }], guard := some (28, false) }) (v := ?vg3x30) rfl (by kernel_rfl) (by kernel_rfl) (by kernel_rfl) (fun _ _ _ h => h) (Or.inl ⟨by rfl, ?hyg3x30⟩) hHeld ?_
            case hyg3x30 => (intro w hSw; (try dsimp only at hSw); go_simp <;> with_reducible rfl)
            try simp only [Act.put, List.setIfInBounds_toArray, List.set_cons_zero, List.set_cons_succ]
            refine wpAnyH_take (i := 31) (oi := { dst := some 44, op := Op.move (Operand.tmp 5), type := 3, pos := "l11_group.go:7", after := #[{ on := 28, ground := Ground.guard }], guard := some (28, false) }) (v := ?vg3x31) rfl (by kernel_rfl) (by kernel_rfl) (by kernel_rfl) (fun _ _ _ h => h) (Or.inl ⟨by rfl, ?hyg3x31⟩) hHeld ?_
            case hyg3x31 => (intro w hSw; (try dsimp only at hSw); go_simp <;> with_reducible rfl)
            try simp only [Act.put, List.setIfInBounds_toArray, List.set_cons_zero, List.set_cons_succ]
            refine wpAnyH_take (i := 32) (oi := { dst := some 45, op := Op.indexAddr 53 (Operand.tmp 43) (Operand.tmp 44), type := 0, pos := "l11_group.go:7", after := #[{ on := 30, ground := Ground.data }, { on := 31, ground := Ground.data }, { on := 28, ground := Ground.guard }], guard := some (28, false) }) (v := ?vg3x32) rfl (by kernel_rfl) (by kernel_rfl) (by kernel_rfl) (fun _ _ _ h => h) (Or.inl ⟨by rfl, ?hyg3x32⟩) hHeld ?_
            case hyg3x32 => (intro w hSw; (try dsimp only at hSw); go_simp <;> with_reducible rfl)
            try simp only [Act.put, List.setIfInBounds_toArray, List.set_cons_zero, List.set_cons_succ]
            refine wpAnyH_take (i := 33) (oi := { dst := some 46, op := Op.load 48 (Operand.tmp 45), type := 48, pos := "l11_group.go:7", after := #[{ on := 32, ground := Ground.data }, { on := 28, ground := Ground.guard }], guard := some (28, false) }) (v := ?vg3x33) rfl (by kernel_rfl) (by kernel_rfl) (by kernel_rfl) (fun _ _ _ h => h) (Or.inl ⟨by rfl, ?hyg3x33⟩) hHeld ?_
            case hyg3x33 => (intro w hSw; (try dsimp only at hSw); go_simp <;> with_reducible rfl)
            try simp only [Act.put, List.setIfInBounds_toArray, List.set_cons_zero, List.set_cons_succ]
            refine wpAnyH_take (i := 34) (oi := { dst := some 47, op := Op.move (Operand.tmp 1), type := 23, pos := "l11_group.go:7", after := #[{ on := 28, ground := Ground.guard }], guard := some (28, false) }) (v := ?vg3x34) rfl (by kernel_rfl) (by kernel_rfl) (by kernel_rfl) (fun _ _ _ h => h) (Or.inl ⟨by rfl, ?hyg3x34⟩) hHeld ?_
            case hyg3x34 => (intro w hSw; (try dsimp only at hSw); go_simp <;> with_reducible rfl)
            try simp only [Act.put, List.setIfInBounds_toArray, List.set_cons_zero, List.set_cons_succ]
            refine wpAnyH_take (i := 36) (oi := { dst := some 49, op := Op.fieldAddr 67 (Operand.tmp 2) 1, type := 0, pos := "l11_group.go:7", after := #[{ on := 28, ground := Ground.guard }], guard := some (28, false) }) (v := ?vg3x36) rfl (by kernel_rfl) (by kernel_rfl) (by kernel_rfl) (fun _ _ _ h => h) (Or.inl ⟨by rfl, ?hyg3x36⟩) hHeld ?_
            case hyg3x36 => (intro w hSw; (try dsimp only at hSw); go_simp <;> with_reducible rfl)
            try simp only [Act.put, List.setIfInBounds_toArray, List.set_cons_zero, List.set_cons_succ]
            refine wpAnyH_take (i := 37) (oi := { dst := some 50, op := Op.load 36 (Operand.tmp 49), type := 36, pos := "l11_group.go:7", after := #[{ on := 36, ground := Ground.data }, { on := 28, ground := Ground.guard }], guard := some (28, false) }) (v := ?vg3x37) rfl (by kernel_rfl) (by kernel_rfl) (by kernel_rfl) (fun _ _ _ h => h) (Or.inl ⟨by rfl, ?hyg3x37⟩) hHeld ?_
            case hyg3x37 => (intro w hSw; (try dsimp only at hSw); go_simp <;> with_reducible rfl)
            try simp only [Act.put, List.setIfInBounds_toArray, List.set_cons_zero, List.set_cons_succ]
            refine wpAnyH_ready (rs := [35]) (by kernel_rfl) (by simp) ?_
            refine AllReadyH.cons (o := { dst := some 48, op := Op.call { callee := Callee.value (Operand.func 51), args := #[Operand.tmp 46, Operand.tmp 47], argTypes := #[48, 23] }, type := 36, pos := "l11_group.go:7", after := #[{ on := 33, ground := Ground.data }, { on := 34, ground := Ground.data }, { on := 28, ground := Ground.chain }, { on := 28, ground := Ground.guard }], guard := some (28, false) }) rfl (fun K hK => ?_) AllReadyH.nil
            go_simp
            refine (HKE.out _ Z1.out).mono ?_
            rintro r wyg3x35 ⟨⟨MK, ck, rfl, hOK⟩, hb3⟩
            have Z3 : Hid (Below wr.heap.size wr wyg3x35) := grow_on Z1.out hb3
            have HO3 : Hid (Reads wyg3x35 (some ⟨MK, 0, none⟩) (projB (nthP P k).l by')) := own_reads hOK
            clear hb3 hOK
            clear hHeld
            refine hK.out _ _ (HS.out _ Z3.out) (fun hHeld => ?_)
            clear hK K
            try simp only [Act.put, List.setIfInBounds_toArray, List.set_cons_zero, List.set_cons_succ]
            refine wpAnyH_ready (rs := [38]) (by kernel_rfl) (by simp) ?_
            refine AllReadyH.cons (o := { dst := some 51, op := Op.call { callee := Callee.value (Operand.func 39), args := #[Operand.tmp 48, Operand.tmp 50], argTypes := #[36, 36] }, type := 4, pos := "l11_group.go:7", after := #[{ on := 35, ground := Ground.data }, { on := 37, ground := Ground.data }, { on := 35, ground := Ground.chain }, { on := 28, ground := Ground.guard }], guard := some (28, false) }) rfl (fun K hK => ?_) AllReadyH.nil
            go_simp
            refine (calls_drew (specSame_any _ _ _ _ (projB (nthP P k).l by') key _ HO3.out (HK.out.1.below (grow_on HBw.out Z3.out)) HPL.out HK.out.2.1)).mono ?_
            rintro r wyg3x38 ⟨rfl, hb4⟩
            have Z4 : Hid (Below wr.heap.size wr wyg3x38) := grow_on Z3.out hb4
            clear hb4
            try rw [hSm]
            clear hHeld
            refine hK.out _ _ (HS.out _ Z4.out) (fun hHeld => ?_)
            clear hK K
            try simp only [Act.put, List.setIfInBounds_toArray, List.set_cons_zero, List.set_cons_succ]
            refine wpAnyH_take (i := 39) (oi := { dst := some 52, op := Op.unOp UnOp.not 4 (Operand.tmp 51), type := 4, pos := "l11_group.go:7", after := #[{ on := 38, ground := Ground.data }, { on := 28, ground := Ground.guard }], guard := some (28, false) }) (v := ?vg3x39) rfl (by kernel_rfl) (by kernel_rfl) (by kernel_rfl) (fun _ _ _ h => h) (Or.inl ⟨by rfl, ?hyg3x39⟩) hHeld ?_
            case hyg3x39 => (intro w hSw; (try dsimp only at hSw); go_simp <;> with_reducible rfl)
            try simp only [Act.put, List.setIfInBounds_toArray, List.set_cons_zero, List.set_cons_succ]
            refine wpAnyH_take (i := 40) (oi := { dst := some 53, op := Op.pick (Operand.tmp 41) (Operand.const (Value.bool true)) (Operand.tmp 52), type := 4, pos := "l11_group.go:7", after := #[{ on := 28, ground := Ground.data }, { on := 39, ground := Ground.data }], guard := none }) (v := ?vg3x40) rfl (by kernel_rfl) (by kernel_rfl) (by kernel_rfl) (fun _ _ _ h => h) (Or.inl ⟨by rfl, ?hyg3x40⟩) hHeld ?_
            case hyg3x40 => (intro w hSw; (try dsimp only at hSw); go_simp <;> with_reducible rfl)
            try simp only [Act.put, List.setIfInBounds_toArray, List.set_cons_zero, List.set_cons_succ]
            refine wpAnyH_done (by kernel_rfl) ?_ _
            clear hHeld
            go_wp2
            go_roundw
            case rel => exact ⟨k + 1, by go_num, by omega, HU1.out, grow_on HBr.out Z4.out⟩
            case measure => simp [intOf]; omega
        · have hk0 : (0 : Int) < (k : Int) := by omega
          have bk : decide (0 < k) = true := decide_eq_true (by omega)
          obtain ⟨m, hm⟩ : ∃ m, k = m + 1 := ⟨k - 1, by omega⟩
          have em : (k : Int) - 1 = (m : Int) := by omega
          have hml : m < P.length := by omega
          have hml' : (m : Int) < (P.length : Int) := by omega
          have hwm : IntKind.i64.wrap (m : Int) = (m : Int) := by rw [IntKind.wrap_i64]; omega
          have hmk : k - 1 = m := by omega
          obtain ⟨bb2, off2, e2, _, ad2, cp2, hat2⟩ := (HR.out.1.below HBw.out).get hml
          cases e2
          have HA2 : Hid (At wr bb off m (nthP P m) ad2 cp2) := hat2
          have HLE : Hid (∀ y, Below wr.heap.size wr y → Calls Try.prog 68 #[.slice ad2 (nthP P m).l.length cp2, .slice ad (nthP P k).l.length cp] y fun e w' => e = .returned (.bool (slB (nthP P m).l (nthP P k).l)) ∧ Below y.heap.size y w') := fun y hy => calls_drew (LabL.specLessS_any _ _ _ _ _ _ y (hat2.reads.below hy) (HA.out.reads.below hy) (by have := HR.out.2.2 m hml; unfold maxLen; omega) (by have := HR.out.2.2 k hlt; unfold maxLen; omega))
          clear hat2 hm
          cases hLs : slB (nthP P m).l (nthP P k).l with
          | false =>
            have HE : Hid (groupB n key b t P by' = false) := group_bad hlt (by unfold grAt; rw [hA, hmk, hLs, decide_eq_false k0]; rfl)
            clear hmk k0
            have HS : Hid (∀ w', Below wr.heap.size wr w' → w'.cell? ⟨w.heap.size, 1, none⟩ = some (.slice ka key.length kc) ∧ w'.cell? ⟨w.heap.size, 4, none⟩ = some (.slice (some ⟨bb, off, none⟩) P.length cap) ∧ w'.cell? ⟨bb, off + k * 4, none⟩ = some (.slice ad (nthP P k).l.length cp) ∧ w'.cell? ⟨bb, off + k * 4 + 1, none⟩ = some (.int .i64 (nthP P k).s) ∧ w'.cell? ⟨bb, off + k * 4 + 2, none⟩ = some (.int .i64 (nthP P k).e) ∧ w'.cell? ⟨bb, off + k * 4 + 3, none⟩ = some (.string (nthP P k).n) ∧ w'.cell? ⟨bb, off + m * 4, none⟩ = some (.slice ad2 (nthP P m).l.length cp2)) := fun w' h => ⟨(BP.out.grow h).cell 1, (BP.out.grow h).cell 4, (h.cell (p := ⟨bb, off + k * 4, none⟩) hbb).trans HA.out.c0, (h.cell (p := ⟨bb, off + k * 4 + 1, none⟩) hbb).trans HA.out.c1, (h.cell (p := ⟨bb, off + k * 4 + 2, none⟩) hbb).trans HA.out.c2, (h.cell (p := ⟨bb, off + k * 4 + 3, none⟩) hbb).trans HA.out.c3, (h.cell (p := ⟨bb, off + m * 4, none⟩) hbb).trans HA2.out.c0⟩
            go_upto_region 4 with fail
            refine wp_region_held_drew (S := fun w' => w'.cell? ⟨w.heap.size, 1, none⟩ = some (.slice ka key.length kc) ∧ w'.cell? ⟨w.heap.size, 4, none⟩ = some (.slice (some ⟨bb, off, none⟩) P.length cap) ∧ w'.cell? ⟨bb, off + k * 4, none⟩ = some (.slice ad (nthP P k).l.length cp) ∧ w'.cell? ⟨bb, off + k * 4 + 1, none⟩ = some (.int .i64 (nthP P k).s) ∧ w'.cell? ⟨bb, off + k * 4 + 2, none⟩ = some (.int .i64 (nthP P k).e) ∧ w'.cell? ⟨bb, off + k * 4 + 3, none⟩ = some (.string (nthP P k).n) ∧ w'.cell? ⟨bb, off + m * 4, none⟩ = some (.slice ad2 (nthP P m).l.length cp2)) (by kernel_rfl) (HS.out _ (Below.refl wr.heap.size wr).drew) (fun hHeld => ?_)
            refine wpAnyH_take (i := 0) (oi := { dst := some 13, op := Op.fieldAddr 67 (Operand.tmp 2) 4, type := 0, pos := "l11_group.go:7", after := #[], guard := none }) (v := ?vg4x0) rfl (by kernel_rfl) (by kernel_rfl) (by kernel_rfl) (fun _ _ _ h => h) (Or.inl ⟨by rfl, ?hyg4x0⟩) hHeld ?_
            case hyg4x0 => (intro w hSw; (try dsimp only at hSw); go_simp <;> with_reducible rfl)
            try simp only [Act.put, List.setIfInBounds_toArray, List.set_cons_zero, List.set_cons_succ]
            refine wpAnyH_take (i := 1) (oi := { dst := some 14, op := Op.load 53 (Operand.tmp 13), type := 53, pos := "l11_group.go:7", after := #[{ on := 0, ground := Ground.data }], guard := none }) (v := ?vg4x1) rfl (by kernel_rfl) (by kernel_rfl) (by kernel_rfl) (fun _ _ _ h => h) (Or.inl ⟨by rfl, ?hyg4x1⟩) hHeld ?_
            case hyg4x1 => (intro w hSw; (try dsimp only at hSw); go_simp <;> with_reducible rfl)
            try simp only [Act.put, List.setIfInBounds_toArray, List.set_cons_zero, List.set_cons_succ]
            refine wpAnyH_take (i := 2) (oi := { dst := some 15, op := Op.move (Operand.tmp 5), type := 3, pos := "l11_group.go:7", after := #[], guard := none }) (v := ?vg4x2) rfl (by kernel_rfl) (by kernel_rfl) (by kernel_rfl) (fun _ _ _ h => h) (Or.inl ⟨by rfl, ?hyg4x2⟩) hHeld ?_
            case hyg4x2 => (intro w hSw; (try dsimp only at hSw); go_simp <;> with_reducible rfl)
            try simp only [Act.put, List.setIfInBounds_toArray, List.set_cons_zero, List.set_cons_succ]
            refine wpAnyH_take (i := 3) (oi := { dst := some 16, op := Op.indexAddr 53 (Operand.tmp 14) (Operand.tmp 15), type := 0, pos := "l11_group.go:7", after := #[{ on := 1, ground := Ground.data }, { on := 2, ground := Ground.data }], guard := none }) (v := ?vg4x3) rfl (by kernel_rfl) (by kernel_rfl) (by kernel_rfl) (fun _ _ _ h => h) (Or.inl ⟨by rfl, ?hyg4x3⟩) hHeld ?_
            case hyg4x3 => (intro w hSw; (try dsimp only at hSw); go_simp <;> with_reducible rfl)
            try simp only [Act.put, List.setIfInBounds_toArray, List.set_cons_zero, List.set_cons_succ]
            refine wpAnyH_take (i := 4) (oi := { dst := some 17, op := Op.load 48 (Operand.tmp 16), type := 48, pos := "l11_group.go:7", after := #[{ on := 3, ground := Ground.data }], guard := none }) (v := ?vg4x4) rfl (by kernel_rfl) (by kernel_rfl) (by kernel_rfl) (fun _ _ _ h => h) (Or.inl ⟨by rfl, ?hyg4x4⟩) hHeld ?_
            case hyg4x4 => (intro w hSw; (try dsimp only at hSw); go_simp <;> with_reducible rfl)
            try simp only [Act.put, List.setIfInBounds_toArray, List.set_cons_zero, List.set_cons_succ]
            refine wpAnyH_ready (rs := [5]) (by kernel_rfl) (by simp) ?_
            refine AllReadyH.cons (o := { dst := some 18, op := Op.call { callee := Callee.value (Operand.func 67), args := #[Operand.tmp 17], argTypes := #[48] }, type := 4, pos := "l11_group.go:7", after := #[{ on := 4, ground := Ground.data }], guard := none }) rfl (fun K hK => ?_) AllReadyH.nil
            go_simp
            refine (HOK.out _ (Below.refl wr.heap.size wr).drew).mono ?_
            rintro r wyg4x5 ⟨rfl, hb1⟩
            have Z1 : Hid (Below wr.heap.size wr wyg4x5) := grow_on (Below.refl wr.heap.size wr).drew hb1
            clear hb1
            try rw [hA]
            clear hHeld
            refine hK.out _ _ (HS.out _ Z1.out) (fun hHeld => ?_)
            clear hK K
            try simp only [Act.put, List.setIfInBounds_toArray, List.set_cons_zero, List.set_cons_succ]
            refine wpAnyH_take (i := 6) (oi := { dst := some 19, op := Op.unOp UnOp.not 4 (Operand.tmp 18), type := 4, pos := "l11_group.go:7", after := #[{ on := 5, ground := Ground.data }], guard := none }) (v := ?vg4x6) rfl (by kernel_rfl) (by kernel_rfl) (by kernel_rfl) (fun _ _ _ h => h) (Or.inl ⟨by rfl, ?hyg4x6⟩) hHeld ?_
            case hyg4x6 => (intro w hSw; (try dsimp only at hSw); go_simp <;> with_reducible rfl)
            try simp only [Act.put, List.setIfInBounds_toArray, List.set_cons_zero, List.set_cons_succ]
            refine wpAnyH_take (i := 7) (oi := { dst := some 20, op := Op.move (Operand.tmp 19), type := 4, pos := "l11_group.go:7", after := #[{ on := 6, ground := Ground.data }, { on := 5, ground := Ground.chain }], guard := none }) (v := ?vg4x7) rfl (by kernel_rfl) (by kernel_rfl) (by kernel_rfl) (fun _ _ _ h => h) (Or.inl ⟨by rfl, ?hyg4x7⟩) hHeld ?_
            case hyg4x7 => (intro w hSw; (try dsimp only at hSw); go_simp <;> with_reducible rfl)
            try simp only [Act.put, List.setIfInBounds_toArray, List.set_cons_zero, List.set_cons_succ]
            refine wpAnyH_take (i := 8) (oi := { dst := some 21, op := Op.move (Operand.tmp 5), type := 3, pos := "l11_group.go:7", after := #[{ on := 7, ground := Ground.guard }], guard := some (7, false) }) (v := ?vg4x8) rfl (by kernel_rfl) (by kernel_rfl) (by kernel_rfl) (fun _ _ _ h => h) (Or.inl ⟨by rfl, ?hyg4x8⟩) hHeld ?_
            case hyg4x8 => (intro w hSw; (try dsimp only at hSw); go_simp <;> with_reducible rfl)
            try simp only [Act.put, List.setIfInBounds_toArray, List.set_cons_zero, List.set_cons_succ]
            refine wpAnyH_take (i := 9) (oi := { dst := some 22, op := Op.binOp BinOp.gtr 3 (Operand.tmp 21) (Operand.const (Value.int IntKind.i64 0)) 3, type := 4, pos := "l11_group.go:7", after := #[{ on := 8, ground := Ground.data }, { on := 7, ground := Ground.guard }], guard := some (7, false) }) (v := ?vg4x9) rfl (by kernel_rfl) (by kernel_rfl) (by kernel_rfl) (fun _ _ _ h => h) (Or.inl ⟨by rfl, ?hyg4x9⟩) hHeld ?_
            case hyg4x9 => (intro w hSw; (try dsimp only at hSw); go_simp <;> with_reducible rfl)
            try simp only [Act.put, List.setIfInBounds_toArray, List.set_cons_zero, List.set_cons_succ]
            refine wpAnyH_take (i := 10) (oi := { dst := some 23, op := Op.move (Operand.tmp 22), type := 4, pos := "l11_group.go:7", after := #[{ on := 9, ground := Ground.data }, { on := 7, ground := Ground.chain }, { on := 7, ground := Ground.guard }], guard := some (7, false) }) (v := ?vg4x10) rfl (by kernel_rfl) (by kernel_rfl) (by kernel_rfl) (fun _ _ _ h => h) (Or.inl ⟨by rfl, ?hyg4x10⟩) hHeld ?_
            case hyg4x10 => (intro w hSw; (try dsimp only at hSw); go_simp <;> with_reducible rfl)
            try simp only [Act.put, List.setIfInBounds_toArray, List.set_cons_zero, List.set_cons_succ]
            refine wpAnyH_take (i := 11) (oi := { dst := some 24, op := Op.fieldAddr 67 (Operand.tmp 2) 4, type := 0, pos := "l11_group.go:7", after := #[{ on := 10, ground := Ground.guard }], guard := some (10, true) }) (v := ?vg4x11) rfl (by kernel_rfl) (by kernel_rfl) (by kernel_rfl) (fun _ _ _ h => h) (Or.inl ⟨by rfl, ?hyg4x11⟩) hHeld ?_
            case hyg4x11 => (intro w hSw; (try dsimp only at hSw); go_simp <;> with_reducible rfl)
            try simp only [Act.put, List.setIfInBounds_toArray, List.set_cons_zero, List.set_cons_succ]
            refine wpAnyH_take (i := 12) (oi := { dst := some 25, op := Op.load 53 (Operand.tmp 24), type := 53, pos := "l11_group.go:7", after := #[{ on := 11, ground := Ground.data }, { on := 10, ground := Ground.guard }], guard := some (10, true) }) (v := ?vg4x12) rfl (by kernel_rfl) (by kernel_rfl) (by kernel_rfl) (fun _ _ _ h => h) (Or.inl ⟨by rfl, ?hyg4x12⟩) hHeld ?_
            case hyg4x12 => (intro w hSw; (try dsimp only at hSw); go_simp <;> with_reducible rfl)
            try simp only [Act.put, List.setIfInBounds_toArray, List.set_cons_zero, List.set_cons_succ]
            refine wpAnyH_take (i := 13) (oi := { dst := some 26, op := Op.move (Operand.tmp 5), type := 3, pos := "l11_group.go:7", after := #[{ on := 10, ground := Ground.guard }], guard := some (10, true) }) (v := ?vg4x13) rfl (by kernel_rfl) (by kernel_rfl) (by kernel_rfl) (fun _ _ _ h => h) (Or.inl ⟨by rfl, ?hyg4x13⟩) hHeld ?_
            case hyg4x13 => (intro w hSw; (try dsimp only at hSw); go_simp <;> with_reducible rfl)
            try simp only [Act.put, List.setIfInBounds_toArray, List.set_cons_zero, List.set_cons_succ]
            refine wpAnyH_take (i := 14) (oi := { dst := some 27, op := Op.binOp BinOp.sub 3 (Operand.tmp 26) (Operand.const (Value.int IntKind.i64 1)) 3, type := 3, pos := "l11_group.go:7", after := #[{ on := 13, ground := Ground.data }, { on := 10, ground := Ground.guard }], guard := some (10, true) }) (v := ?vg4x14) rfl (by kernel_rfl) (by kernel_rfl) (by kernel_rfl) (fun _ _ _ h => h) (Or.inl ⟨by rfl, ?hyg4x14⟩) hHeld ?_
            case hyg4x14 => (intro w hSw; (try dsimp only at hSw); go_simp <;> with_reducible rfl)
            try simp only [Act.put, List.setIfInBounds_toArray, List.set_cons_zero, List.set_cons_succ]
            refine wpAnyH_take (i := 15) (oi := { dst := some 28, op := Op.indexAddr 53 (Operand.tmp 25) (Operand.tmp 27), type := 0, pos := "l11_group.go:7", after := #[{ on := 12, ground := Ground.data }, { on := 14, ground := Ground.data }, { on := 10, ground := Ground.guard }], guard := some (10, true) }) (v := ?vg4x15) rfl (by kernel_rfl) (by kernel_rfl) (by kernel_rfl) (fun _ _ _ h => h) (Or.inl ⟨by rfl, ?hyg4x15⟩) hHeld ?_
            case hyg4x15 => (intro w hSw; (try dsimp only at hSw); go_simp <;> with_reducible rfl)
            try simp only [Act.put, List.setIfInBounds_toArray, List.set_cons_zero, List.set_cons_succ]
            refine wpAnyH_take (i := 16) (oi := { dst := some 29, op := Op.fieldAddr 48 (Operand.tmp 28) 0, type := 0, pos := "l11_group.go:7", after := #[{ on := 15, ground := Ground.data }, { on := 10, ground := Ground.guard }], guard := some (10, true) }) (v := ?vg4x16) rfl (by kernel_rfl) (by kernel_rfl) (by kernel_rfl) (fun _ _ _ h => h) (Or.inl ⟨by rfl, ?hyg4x16⟩) hHeld ?_
            case hyg4x16 => (intro w hSw; (try dsimp only at hSw); go_simp <;> with_reducible rfl)
            try simp only [Act.put, List.setIfInBounds_toArray, List.set_cons_zero, List.set_cons_succ]
            refine wpAnyH_take (i := 17) (oi := { dst := some 30, op := Op.load 36 (Operand.tmp 29), type := 36, pos := "l11_group.go:7", after := #[{ on := 16, ground := Ground.data }, { on := 10, ground := Ground.guard }], guard := some (10, true) }) (v := ?vg4x17) rfl (by kernel_rfl) (by kernel_rfl) (by kernel_rfl) (fun _ _ _ h => h) (Or.inl ⟨by rfl, ?hyg4x17⟩) hHeld ?_
            case hyg4x17 => (intro w hSw; (try dsimp only at hSw); go_simp <;> with_reducible rfl)
            try simp only [Act.put, List.setIfInBounds_toArray, List.set_cons_zero, List.set_cons_succ]
            refine wpAnyH_take (i := 18) (oi := { dst := some 31, op := Op.fieldAddr 67 (Operand.tmp 2) 4, type := 0, pos := "l11_group.go:7", after := #[{ on := 10, ground := Ground.guard }], guard := some (10, true) }) (v := ?vg4x18) rfl (by kernel_rfl) (by kernel_rfl) (by kernel_rfl) (fun _ _ _ h => h) (Or.inl ⟨by rfl, ?hyg4x18⟩) hHeld ?_
            case hyg4x18 => (intro w hSw; (try dsimp only at hSw); go_simp <;> with_reducible rfl)
            try simp only [Act.put, List.setIfInBounds_toArray, List.set_cons_zero, List.set_cons_succ]
            refine wpAnyH_take (i := 19) (oi := { dst := some 32, op := Op.load 53 (Operand.tmp 31), type := 53, pos := "l11_group.go:7", after := #[{ on := 18, ground := Ground.data }, { on := 10, ground := Ground.guard }], guard := some (10, true) }) (v := ?vg4x19) rfl (by kernel_rfl) (by kernel_rfl) (by kernel_rfl) (fun _ _ _ h => h) (Or.inl ⟨by rfl, ?hyg4x19⟩) hHeld ?_
            case hyg4x19 => (intro w hSw; (try dsimp only at hSw); go_simp <;> with_reducible rfl)
            try simp only [Act.put, List.setIfInBounds_toArray, List.set_cons_zero, List.set_cons_succ]
            refine wpAnyH_take (i := 20) (oi := { dst := some 33, op := Op.move (Operand.tmp 5), type := 3, pos := "l11_group.go:7", after := #[{ on := 10, ground := Ground.guard }], guard := some (10, true) }) (v := ?vg4x20) rfl (by kernel_rfl) (by kernel_rfl) (by kernel_rfl) (fun _ _ _ h => h) (Or.inl ⟨by rfl, ?hyg4x20⟩) hHeld ?_
            case hyg4x20 => (intro w hSw; (try dsimp only at hSw); go_simp <;> with_reducible rfl)
            try simp only [Act.put, List.setIfInBounds_toArray, List.set_cons_zero, List.set_cons_succ]
            refine wpAnyH_take (i := 21) (oi := { dst := some 34, op := Op.indexAddr 53 (Operand.tmp 32) (Operand.tmp 33), type := 0, pos := "l11_group.go:7", after := #[{ on := 19, ground := Ground.data }, { on := 20, ground := Ground.data }, { on := 10, ground := Ground.guard }], guard := some (10, true) }) (v := ?vg4x21) rfl (by kernel_rfl) (by kernel_rfl) (by kernel_rfl) (fun _ _ _ h => h) (Or.inl ⟨by rfl, ?hyg4x21⟩) hHeld ?_
            case hyg4x21 => (intro w hSw; (try dsimp only at hSw); go_simp <;> with_reducible rfl)
            try simp only [Act.put, List.setIfInBounds_toArray, List.set_cons_zero, List.set_cons_succ]
            refine wpAnyH_take (i := 22) (oi := { dst := some 35, op := Op.fieldAddr 48 (Operand.tmp 34) 0, type := 0, pos := "l11_group.go:7", after := #[{ on := 21, ground := Ground.data }, { on := 10, ground := Ground.guard }], guard := some (10, true) }) (v := ?vg4x22) rfl (by kernel_rfl) (by kernel_rfl) (by kernel_rfl) (fun _ _ _ h => h) (Or.inl ⟨by rfl, ?hyg4x22⟩) hHeld ?_
            case hyg4x22 => (intro w hSw; (try dsimp only at hSw); go_simp <;> with_reducible rfl)
            try simp only [Act.put, List.setIfInBounds_toArray, List.set_cons_zero, List.set_cons_succ]
            refine wpAnyH_take (i := 23) (oi := { dst := some 36, op := Op.load 36 (Operand.tmp 35), type := 36, pos := "l11_group.go:7", after := #[{ on := 22, ground := Ground.data }, { on := 10, ground := Ground.guard }], guard := some (10, true) }) (v := ?vg4x23) rfl (by kernel_rfl) (by kernel_rfl) (by kernel_rfl) (fun _ _ _ h => h) (Or.inl ⟨by rfl, ?hyg4x23⟩) hHeld ?_
            case hyg4x23 => (intro w hSw; (try dsimp only at hSw); go_simp <;> with_reducible rfl)
            try simp only [Act.put, List.setIfInBounds_toArray, List.set_cons_zero, List.set_cons_succ]
            refine wpAnyH_ready (rs := [24]) (by kernel_rfl) (by simp) ?_
            refine AllReadyH.cons (o := { dst := some 37, op := Op.call { callee := Callee.value (Operand.func 68), args := #[Operand.tmp 30, Operand.tmp 36], argTypes := #[36, 36] }, type := 4, pos := "l11_group.go:7", after := #[{ on := 17, ground := Ground.data }, { on := 23, ground := Ground.data }, { on := 10, ground := Ground.chain }, { on := 10, ground := Ground.guard }], guard := some (10, true) }) rfl (fun K hK => ?_) AllReadyH.nil
            go_simp
            refine (HLE.out _ Z1.out).mono ?_
            rintro r wyg4x24 ⟨rfl, hb2⟩
            have Z2 : Hid (Below wr.heap.size wr wyg4x24) := grow_on Z1.out hb2
            clear hb2
            try rw [hLs]
            clear hHeld
            refine hK.out _ _ (HS.out _ Z2.out) (fun hHeld => ?_)
            clear hK K
            try simp only [Act.put, List.setIfInBounds_toArray, List.set_cons_zero, List.set_cons_succ]
            refine wpAnyH_take (i := 25) (oi := { dst := some 38, op := Op.unOp UnOp.not 4 (Operand.tmp 37), type := 4, pos := "l11_group.go:7", after := #[{ on := 24, ground := Ground.data }, { on := 10, ground := Ground.guard }], guard := some (10, true) }) (v := ?vg4x25) rfl (by kernel_rfl) (by kernel_rfl) (by kernel_rfl) (fun _ _ _ h => h) (Or.inl ⟨by rfl, ?hyg4x25⟩) hHeld ?_
            case hyg4x25 => (intro w hSw; (try dsimp only at hSw); go_simp <;> with_reducible rfl)
            try simp only [Act.put, List.setIfInBounds_toArray, List.set_cons_zero, List.set_cons_succ]
            refine wpAnyH_take (i := 26) (oi := { dst := some 39, op := Op.pick (Operand.tmp 23) (Operand.tmp 38) (Operand.const (Value.bool false)), type := 4, pos := "l11_group.go:7", after := #[{ on := 10, ground := Ground.data }, { on := 25, ground := Ground.data }, { on := 7, ground := Ground.guard }], guard := some (7, false) }) (v := ?vg4x26) rfl (by kernel_rfl) (by kernel_rfl) (by kernel_rfl) (fun _ _ _ h => h) (Or.inl ⟨by rfl, ?hyg4x26⟩) hHeld ?_
            case hyg4x26 => (intro w hSw; (try dsimp only at hSw); go_simp <;> with_reducible rfl)
            try simp only [Act.put, List.setIfInBounds_toArray, List.set_cons_zero, List.set_cons_succ]
            refine wpAnyH_take (i := 27) (oi := { dst := some 40, op := Op.pick (Operand.tmp 20) (Operand.const (Value.bool true)) (Operand.tmp 39), type := 4, pos := "l11_group.go:7", after := #[{ on := 7, ground := Ground.data }, { on := 26, ground := Ground.data }], guard := none }) (v := ?vg4x27) rfl (by kernel_rfl) (by kernel_rfl) (by kernel_rfl) (fun _ _ _ h => h) (Or.inl ⟨by rfl, ?hyg4x27⟩) hHeld ?_
            case hyg4x27 => (intro w hSw; (try dsimp only at hSw); go_simp <;> with_reducible rfl)
            try simp only [Act.put, List.setIfInBounds_toArray, List.set_cons_zero, List.set_cons_succ]
            refine wpAnyH_take (i := 28) (oi := { dst := some 41, op := Op.move (Operand.tmp 40), type := 4, pos := "l11_group.go:7", after := #[{ on := 27, ground := Ground.data }, { on := 24, ground := Ground.chain }], guard := none }) (v := ?vg4x28) rfl (by kernel_rfl) (by kernel_rfl) (by kernel_rfl) (fun _ _ _ h => h) (Or.inl ⟨by rfl, ?hyg4x28⟩) hHeld ?_
            case hyg4x28 => (intro w hSw; (try dsimp only at hSw); go_simp <;> with_reducible rfl)
            try simp only [Act.put, List.setIfInBounds_toArray, List.set_cons_zero, List.set_cons_succ]
            refine wpAnyH_take (i := 29) (oi := { dst := some 42, op := Op.fieldAddr 67 (Operand.tmp 2) 4, type := 0, pos := "l11_group.go:7", after := #[{ on := 28, ground := Ground.guard }], guard := some (28, false) }) (v := undef) rfl (by kernel_rfl) (by kernel_rfl) (by kernel_rfl) (fun _ _ _ h => h) (Or.inr ⟨by rfl, rfl⟩) hHeld ?_
            try simp only [Act.put, List.setIfInBounds_toArray, List.set_cons_zero, List.set_cons_succ]
            refine wpAnyH_take (i := 30) (oi := { dst := some 43, op := Op.load 53 (Operand.tmp 42), type := 53, pos := "l11_group.go:7", after := #[{ on := 29, ground := Ground.data }, { on := 28, ground := Ground.guard }], guard := some (28, false) }) (v := undef) rfl (by kernel_rfl) (by kernel_rfl) (by kernel_rfl) (fun _ _ _ h => h) (Or.inr ⟨by rfl, rfl⟩) hHeld ?_
            try simp only [Act.put, List.setIfInBounds_toArray, List.set_cons_zero, List.set_cons_succ]
            refine wpAnyH_take (i := 31) (oi := { dst := some 44, op := Op.move (Operand.tmp 5), type := 3, pos := "l11_group.go:7", after := #[{ on := 28, ground := Ground.guard }], guard := some (28, false) }) (v := undef) rfl (by kernel_rfl) (by kernel_rfl) (by kernel_rfl) (fun _ _ _ h => h) (Or.inr ⟨by rfl, rfl⟩) hHeld ?_
            try simp only [Act.put, List.setIfInBounds_toArray, List.set_cons_zero, List.set_cons_succ]
            refine wpAnyH_take (i := 32) (oi := { dst := some 45, op := Op.indexAddr 53 (Operand.tmp 43) (Operand.tmp 44), type := 0, pos := "l11_group.go:7", after := #[{ on := 30, ground := Ground.data }, { on := 31, ground := Ground.data }, { on := 28, ground := Ground.guard }], guard := some (28, false) }) (v := undef) rfl (by kernel_rfl) (by kernel_rfl) (by kernel_rfl) (fun _ _ _ h => h) (Or.inr ⟨by rfl, rfl⟩) hHeld ?_
            try simp only [Act.put, List.setIfInBounds_toArray, List.set_cons_zero, List.set_cons_succ]
            refine wpAnyH_take (i := 33) (oi := { dst := some 46, op := Op.load 48 (Operand.tmp 45), type := 48, pos := "l11_group.go:7", after := #[{ on := 32, ground := Ground.data }, { on := 28, ground := Ground.guard }], guard := some (28, false) }) (v := undef) rfl (by kernel_rfl) (by kernel_rfl) (by kernel_rfl) (fun _ _ _ h => h) (Or.inr ⟨by rfl, rfl⟩) hHeld ?_
            try simp only [Act.put, List.setIfInBounds_toArray, List.set_cons_zero, List.set_cons_succ]
            refine wpAnyH_take (i := 34) (oi := { dst := some 47, op := Op.move (Operand.tmp 1), type := 23, pos := "l11_group.go:7", after := #[{ on := 28, ground := Ground.guard }], guard := some (28, false) }) (v := undef) rfl (by kernel_rfl) (by kernel_rfl) (by kernel_rfl) (fun _ _ _ h => h) (Or.inr ⟨by rfl, rfl⟩) hHeld ?_
            try simp only [Act.put, List.setIfInBounds_toArray, List.set_cons_zero, List.set_cons_succ]
            refine wpAnyH_take (i := 35) (oi := { dst := some 48, op := Op.call { callee := Callee.value (Operand.func 51), args := #[Operand.tmp 46, Operand.tmp 47], argTypes := #[48, 23] }, type := 36, pos := "l11_group.go:7", after := #[{ on := 33, ground := Ground.data }, { on := 34, ground := Ground.data }, { on := 28, ground := Ground.chain }, { on := 28, ground := Ground.guard }], guard := some (28, false) }) (v := undef) rfl (by kernel_rfl) (by kernel_rfl) (by kernel_rfl) (fun _ _ _ h => h) (Or.inr ⟨by rfl, rfl⟩) hHeld ?_
            try simp only [Act.put, List.setIfInBounds_toArray, List.set_cons_zero, List.set_cons_succ]
            refine wpAnyH_take (i := 36) (oi := { dst := some 49, op := Op.fieldAddr 67 (Operand.tmp 2) 1, type := 0, pos := "l11_group.go:7", after := #[{ on := 28, ground := Ground.guard }], guard := some (28, false) }) (v := undef) rfl (by kernel_rfl) (by kernel_rfl) (by kernel_rfl) (fun _ _ _ h => h) (Or.inr ⟨by rfl, rfl⟩) hHeld ?_
            try simp only [Act.put, List.setIfInBounds_toArray, List.set_cons_zero, List.set_cons_succ]
            refine wpAnyH_take (i := 37) (oi := { dst := some 50, op := Op.load 36 (Operand.tmp 49), type := 36, pos := "l11_group.go:7", after := #[{ on := 36, ground := Ground.data }, { on := 28, ground := Ground.guard }], guard := some (28, false) }) (v := undef) rfl (by kernel_rfl) (by kernel_rfl) (by kernel_rfl) (fun _ _ _ h => h) (Or.inr ⟨by rfl, rfl⟩) hHeld ?_
            try simp only [Act.put, List.setIfInBounds_toArray, List.set_cons_zero, List.set_cons_succ]
            refine wpAnyH_take (i := 38) (oi := { dst := some 51, op := Op.call { callee := Callee.value (Operand.func 39), args := #[Operand.tmp 48, Operand.tmp 50], argTypes := #[36, 36] }, type := 4, pos := "l11_group.go:7", after := #[{ on := 35, ground := Ground.data }, { on := 37, ground := Ground.data }, { on := 35, ground := Ground.chain }, { on := 28, ground := Ground.guard }], guard := some (28, false) }) (v := undef) rfl (by kernel_rfl) (by kernel_rfl) (by kernel_rfl) (fun _ _ _ h => h) (Or.inr ⟨by rfl, rfl⟩) hHeld ?_
            try simp only [Act.put, List.setIfInBounds_toArray, List.set_cons_zero, List.set_cons_succ]
            refine wpAnyH_take (i := 39) (oi := { dst := some 52, op := Op.unOp UnOp.not 4 (Operand.tmp 51), type := 4, pos := "l11_group.go:7", after := #[{ on := 38, ground := Ground.data }, { on := 28, ground := Ground.guard }], guard := some (28, false) }) (v := undef) rfl (by kernel_rfl) (by kernel_rfl) (by kernel_rfl) (fun _ _ _ h => h) (Or.inr ⟨by rfl, rfl⟩) hHeld ?_
            try simp only [Act.put, List.setIfInBounds_toArray, List.set_cons_zero, List.set_cons_succ]
            refine wpAnyH_take (i := 40) (oi := { dst := some 53, op := Op.pick (Operand.tmp 41) (Operand.const (Value.bool true)) (Operand.tmp 52), type := 4, pos := "l11_group.go:7", after := #[{ on := 28, ground := Ground.data }, { on := 39, ground := Ground.data }], guard := none }) (v := ?vg4x40) rfl (by kernel_rfl) (by kernel_rfl) (by kernel_rfl) (fun _ _ _ h => h) (Or.inl ⟨by rfl, ?hyg4x40⟩) hHeld ?_
            case hyg4x40 => (intro w hSw; (try dsimp only at hSw); go_simp <;> with_reducible rfl)
            try simp only [Act.put, List.setIfInBounds_toArray, List.set_cons_zero, List.set_cons_succ]
            refine wpAnyH_done (by kernel_rfl) ?_ _
            clear hHeld
            go_wp2
            go_ret
            exact ⟨retB HE.out.symm, grow_on HBw.out Z2.out⟩
          | true =>
            cases hSm : decide (projB (nthP P k).l by' = key) with
            | false =>
              have HE : Hid (groupB n key b t P by' = false) := group_bad hlt (by unfold grAt; rw [hA, hSm]; simp)
              clear hmk k0
              have HS : Hid (∀ w', Below wr.heap.size wr w' → w'.cell? ⟨w.heap.size, 1, none⟩ = some (.slice ka key.length kc) ∧ w'.cell? ⟨w.heap.size, 4, none⟩ = some (.slice (some ⟨bb, off, none⟩) P.length cap) ∧ w'.cell? ⟨bb, off + k * 4, none⟩ = some (.slice ad (nthP P k).l.length cp) ∧ w'.cell? ⟨bb, off + k * 4 + 1, none⟩ = some (.int .i64 (nthP P k).s) ∧ w'.cell? ⟨bb, off + k * 4 + 2, none⟩ = some (.int .i64 (nthP P k).e) ∧ w'.cell? ⟨bb, off + k * 4 + 3, none⟩ = some (.string (nthP P k).n) ∧ w'.cell? ⟨bb, off + m * 4, none⟩ = some (.slice ad2 (nthP P m).l.length cp2)) := fun w' h => ⟨(BP.out.grow h).cell 1, (BP.out.grow h).cell 4, (h.cell (p := ⟨bb, off + k * 4, none⟩) hbb).trans HA.out.c0, (h.cell (p := ⟨bb, off + k * 4 + 1, none⟩) hbb).trans HA.out.c1, (h.cell (p := ⟨bb, off + k * 4 + 2, none⟩) hbb).trans HA.out.c2, (h.cell (p := ⟨bb, off + k * 4 + 3, none⟩) hbb).trans HA.out.c3, (h.cell (p := ⟨bb, off + m * 4, none⟩) hbb).trans HA2.out.c0⟩
              go_upto_region 4 with fail
              refine wp_region_held_drew (S := fun w' => w'.cell? ⟨w.heap.size, 1, none⟩ = some (.slice ka key.length kc) ∧ w'.cell? ⟨w.heap.size, 4, none⟩ = some (.slice (some ⟨bb, off, none⟩) P.length cap) ∧ w'.cell? ⟨bb, off + k * 4, none⟩ = some (.slice ad (nthP P k).l.length cp) ∧ w'.cell? ⟨bb, off + k * 4 + 1, none⟩ = some (.int .i64 (nthP P k).s) ∧ w'.cell? ⟨bb, off + k * 4 + 2, none⟩ = some (.int .i64 (nthP P k).e) ∧ w'.cell? ⟨bb, off + k * 4 + 3, none⟩ = some (.string (nthP P k).n) ∧ w'.cell? ⟨bb, off + m * 4, none⟩ = some (.slice ad2 (nthP P m).l.length cp2)) (by kernel_rfl) (HS.out _ (Below.refl wr.heap.size wr).drew) (fun hHeld => ?_)
              refine wpAnyH_take (i := 0) (oi := { dst := some 13, op := Op.fieldAddr 67 (Operand.tmp 2) 4, type := 0, pos := "l11_group.go:7", after := #[], guard := none }) (v := ?vg5x0) rfl (by kernel_rfl) (by kernel_rfl) (by kernel_rfl) (fun _ _ _ h => h) (Or.inl ⟨by rfl, ?hyg5x0⟩) hHeld ?_
              case hyg5x0 => (intro w hSw; (try dsimp only at hSw); go_simp <;> with_reducible rfl)
              try simp only [Act.put, List.setIfInBounds_toArray, List.set_cons_zero, List.set_cons_succ]
              refine wpAnyH_take (i := 1) (oi := { dst := some 14, op := Op.load 53 (Operand.tmp 13), type := 53, pos := "l11_group.go:7", after := #[{ on := 0, ground := Ground.data }], guard := none }) (v := ?vg5x1) rfl (by kernel_rfl) (by kernel_rfl) (by kernel_rfl) (fun _ _ _ h => h) (Or.inl ⟨by rfl, ?hyg5x1⟩) hHeld ?_
              case hyg5x1 => (intro w hSw; (try dsimp only at hSw); go_simp <;> with_reducible rfl)
              try simp only [Act.put, List.setIfInBounds_toArray, List.set_cons_zero, List.set_cons_succ]
              refine wpAnyH_take (i := 2) (oi := { dst := some 15, op := Op.move (Operand.tmp 5), type := 3, pos := "l11_group.go:7", after := #[], guard := none }) (v := ?vg5x2) rfl (by kernel_rfl) (by kernel_rfl) (by kernel_rfl) (fun _ _ _ h => h) (Or.inl ⟨by rfl, ?hyg5x2⟩) hHeld ?_
              case hyg5x2 => (intro w hSw; (try dsimp only at hSw); go_simp <;> with_reducible rfl)
              try simp only [Act.put, List.setIfInBounds_toArray, List.set_cons_zero, List.set_cons_succ]
              refine wpAnyH_take (i := 3) (oi := { dst := some 16, op := Op.indexAddr 53 (Operand.tmp 14) (Operand.tmp 15), type := 0, pos := "l11_group.go:7", after := #[{ on := 1, ground := Ground.data }, { on := 2, ground := Ground.data }], guard := none }) (v := ?vg5x3) rfl (by kernel_rfl) (by kernel_rfl) (by kernel_rfl) (fun _ _ _ h => h) (Or.inl ⟨by rfl, ?hyg5x3⟩) hHeld ?_
              case hyg5x3 => (intro w hSw; (try dsimp only at hSw); go_simp <;> with_reducible rfl)
              try simp only [Act.put, List.setIfInBounds_toArray, List.set_cons_zero, List.set_cons_succ]
              refine wpAnyH_take (i := 4) (oi := { dst := some 17, op := Op.load 48 (Operand.tmp 16), type := 48, pos := "l11_group.go:7", after := #[{ on := 3, ground := Ground.data }], guard := none }) (v := ?vg5x4) rfl (by kernel_rfl) (by kernel_rfl) (by kernel_rfl) (fun _ _ _ h => h) (Or.inl ⟨by rfl, ?hyg5x4⟩) hHeld ?_
              case hyg5x4 => (intro w hSw; (try dsimp only at hSw); go_simp <;> with_reducible rfl)
              try simp only [Act.put, List.setIfInBounds_toArray, List.set_cons_zero, List.set_cons_succ]
              refine wpAnyH_ready (rs := [5]) (by kernel_rfl) (by simp) ?_
              refine AllReadyH.cons (o := { dst := some 18, op := Op.call { callee := Callee.value (Operand.func 67), args := #[Operand.tmp 17], argTypes := #[48] }, type := 4, pos := "l11_group.go:7", after := #[{ on := 4, ground := Ground.data }], guard := none }) rfl (fun K hK => ?_) AllReadyH.nil
              go_simp
              refine (HOK.out _ (Below.refl wr.heap.size wr).drew).mono ?_
              rintro r wyg5x5 ⟨rfl, hb1⟩
              have Z1 : Hid (Below wr.heap.size wr wyg5x5) := grow_on (Below.refl wr.heap.size wr).drew hb1
              clear hb1
              try rw [hA]
              clear hHeld
              refine hK.out _ _ (HS.out _ Z1.out) (fun hHeld => ?_)
              clear hK K
              try simp only [Act.put, List.setIfInBounds_toArray, List.set_cons_zero, List.set_cons_succ]
              refine wpAnyH_take (i := 6) (oi := { dst := some 19, op := Op.unOp UnOp.not 4 (Operand.tmp 18), type := 4, pos := "l11_group.go:7", after := #[{ on := 5, ground := Ground.data }], guard := none }) (v := ?vg5x6) rfl (by kernel_rfl) (by kernel_rfl) (by kernel_rfl) (fun _ _ _ h => h) (Or.inl ⟨by rfl, ?hyg5x6⟩) hHeld ?_
              case hyg5x6 => (intro w hSw; (try dsimp only at hSw); go_simp <;> with_reducible rfl)
              try simp only [Act.put, List.setIfInBounds_toArray, List.set_cons_zero, List.set_cons_succ]
              refine wpAnyH_take (i := 7) (oi := { dst := some 20, op := Op.move (Operand.tmp 19), type := 4, pos := "l11_group.go:7", after := #[{ on := 6, ground := Ground.data }, { on := 5, ground := Ground.chain }], guard := none }) (v := ?vg5x7) rfl (by kernel_rfl) (by kernel_rfl) (by kernel_rfl) (fun _ _ _ h => h) (Or.inl ⟨by rfl, ?hyg5x7⟩) hHeld ?_
              case hyg5x7 => (intro w hSw; (try dsimp only at hSw); go_simp <;> with_reducible rfl)
              try simp only [Act.put, List.setIfInBounds_toArray, List.set_cons_zero, List.set_cons_succ]
              refine wpAnyH_take (i := 8) (oi := { dst := some 21, op := Op.move (Operand.tmp 5), type := 3, pos := "l11_group.go:7", after := #[{ on := 7, ground := Ground.guard }], guard := some (7, false) }) (v := ?vg5x8) rfl (by kernel_rfl) (by kernel_rfl) (by kernel_rfl) (fun _ _ _ h => h) (Or.inl ⟨by rfl, ?hyg5x8⟩) hHeld ?_
              case hyg5x8 => (intro w hSw; (try dsimp only at hSw); go_simp <;> with_reducible rfl)
              try simp only [Act.put, List.setIfInBounds_toArray, List.set_cons_zero, List.set_cons_succ]
              refine wpAnyH_take (i := 9) (oi := { dst := some 22, op := Op.binOp BinOp.gtr 3 (Operand.tmp 21) (Operand.const (Value.int IntKind.i64 0)) 3, type := 4, pos := "l11_group.go:7", after := #[{ on := 8, ground := Ground.data }, { on := 7, ground := Ground.guard }], guard := some (7, false) }) (v := ?vg5x9) rfl (by kernel_rfl) (by kernel_rfl) (by kernel_rfl) (fun _ _ _ h => h) (Or.inl ⟨by rfl, ?hyg5x9⟩) hHeld ?_
              case hyg5x9 => (intro w hSw; (try dsimp only at hSw); go_simp <;> with_reducible rfl)
              try simp only [Act.put, List.setIfInBounds_toArray, List.set_cons_zero, List.set_cons_succ]
              refine wpAnyH_take (i := 10) (oi := { dst := some 23, op := Op.move (Operand.tmp 22), type := 4, pos := "l11_group.go:7", after := #[{ on := 9, ground := Ground.data }, { on := 7, ground := Ground.chain }, { on := 7, ground := Ground.guard }], guard := some (7, false) }) (v := ?vg5x10) rfl (by kernel_rfl) (by kernel_rfl) (by kernel_rfl) (fun _ _ _ h => h) (Or.inl ⟨by rfl, ?hyg5x10⟩) hHeld ?_
              case hyg5x10 => (intro w hSw; (try dsimp only at hSw); go_simp <;> with_reducible rfl)
              try simp only [Act.put, List.setIfInBounds_toArray, List.set_cons_zero, List.set_cons_succ]
              refine wpAnyH_take (i := 11) (oi := { dst := some 24, op := Op.fieldAddr 67 (Operand.tmp 2) 4, type := 0, pos := "l11_group.go:7", after := #[{ on := 10, ground := Ground.guard }], guard := some (10, true) }) (v := ?vg5x11) rfl (by kernel_rfl) (by kernel_rfl) (by kernel_rfl) (fun _ _ _ h => h) (Or.inl ⟨by rfl, ?hyg5x11⟩) hHeld ?_
              case hyg5x11 => (intro w hSw; (try dsimp only at hSw); go_simp <;> with_reducible rfl)
              try simp only [Act.put, List.setIfInBounds_toArray, List.set_cons_zero, List.set_cons_succ]
              refine wpAnyH_take (i := 12) (oi := { dst := some 25, op := Op.load 53 (Operand.tmp 24), type := 53, pos := "l11_group.go:7", after := #[{ on := 11, ground := Ground.data }, { on := 10, ground := Ground.guard }], guard := some (10, true) }) (v := ?vg5x12) rfl (by kernel_rfl) (by kernel_rfl) (by kernel_rfl) (fun _ _ _ h => h) (Or.inl ⟨by rfl, ?hyg5x12⟩) hHeld ?_
              case hyg5x12 => (intro w hSw; (try dsimp only at hSw); go_simp <;> with_reducible rfl)
              try simp only [Act.put, List.setIfInBounds_toArray, List.set_cons_zero, List.set_cons_succ]
              refine wpAnyH_take (i := 13) (oi := { dst := some 26, op := Op.move (Operand.tmp 5), type := 3, pos := "l11_group.go:7", after := #[{ on := 10, ground := Ground.guard }], guard := some (10, true) }) (v := ?vg5x13) rfl (by kernel_rfl) (by kernel_rfl) (by kernel_rfl) (fun _ _ _ h => h) (Or.inl ⟨by rfl, ?hyg5x13⟩) hHeld ?_
              case hyg5x13 => (intro w hSw; (try dsimp only at hSw); go_simp <;> with_reducible rfl)
              try simp only [Act.put, List.setIfInBounds_toArray, List.set_cons_zero, List.set_cons_succ]
              refine wpAnyH_take (i := 14) (oi := { dst := some 27, op := Op.binOp BinOp.sub 3 (Operand.tmp 26) (Operand.const (Value.int IntKind.i64 1)) 3, type := 3, pos := "l11_group.go:7", after := #[{ on := 13, ground := Ground.data }, { on := 10, ground := Ground.guard }], guard := some (10, true) }) (v := ?vg5x14) rfl (by kernel_rfl) (by kernel_rfl) (by kernel_rfl) (fun _ _ _ h => h) (Or.inl ⟨by rfl, ?hyg5x14⟩) hHeld ?_
              case hyg5x14 => (intro w hSw; (try dsimp only at hSw); go_simp <;> with_reducible rfl)
              try simp only [Act.put, List.setIfInBounds_toArray, List.set_cons_zero, List.set_cons_succ]
              refine wpAnyH_take (i := 15) (oi := { dst := some 28, op := Op.indexAddr 53 (Operand.tmp 25) (Operand.tmp 27), type := 0, pos := "l11_group.go:7", after := #[{ on := 12, ground := Ground.data }, { on := 14, ground := Ground.data }, { on := 10, ground := Ground.guard }], guard := some (10, true) }) (v := ?vg5x15) rfl (by kernel_rfl) (by kernel_rfl) (by kernel_rfl) (fun _ _ _ h => h) (Or.inl ⟨by rfl, ?hyg5x15⟩) hHeld ?_
              case hyg5x15 => (intro w hSw; (try dsimp only at hSw); go_simp <;> with_reducible rfl)
              try simp only [Act.put, List.setIfInBounds_toArray, List.set_cons_zero, List.set_cons_succ]
              refine wpAnyH_take (i := 16) (oi := { dst := some 29, op := Op.fieldAddr 48 (Operand.tmp 28) 0, type := 0, pos := "l11_group.go:7", after := #[{ on := 15, ground := Ground.data }, { on := 10, ground := Ground.guard }], guard := some (10, true) }) (v := ?vg5x16) rfl (by kernel_rfl) (by kernel_rfl) (by kernel_rfl) (fun _ _ _ h => h) (Or.inl ⟨by rfl, ?hyg5x16⟩) hHeld ?_
              case hyg5x16 => (intro w hSw; (try dsimp only at hSw); go_simp <;> with_reducible rfl)
              try simp only [Act.put, List.setIfInBounds_toArray, List.set_cons_zero, List.set_cons_succ]
              refine wpAnyH_take (i := 17) (oi := { dst := some 30, op := Op.load 36 (Operand.tmp 29), type := 36, pos := "l11_group.go:7", after := #[{ on := 16, ground := Ground.data }, { on := 10, ground := Ground.guard }], guard := some (10, true) }) (v := ?vg5x17) rfl (by kernel_rfl) (by kernel_rfl) (by kernel_rfl) (fun _ _ _ h => h) (Or.inl ⟨by rfl, ?hyg5x17⟩) hHeld ?_
              case hyg5x17 => (intro w hSw; (try dsimp only at hSw); go_simp <;> with_reducible rfl)
              try simp only [Act.put, List.setIfInBounds_toArray, List.set_cons_zero, List.set_cons_succ]
              refine wpAnyH_take (i := 18) (oi := { dst := some 31, op := Op.fieldAddr 67 (Operand.tmp 2) 4, type := 0, pos := "l11_group.go:7", after := #[{ on := 10, ground := Ground.guard }], guard := some (10, true) }) (v := ?vg5x18) rfl (by kernel_rfl) (by kernel_rfl) (by kernel_rfl) (fun _ _ _ h => h) (Or.inl ⟨by rfl, ?hyg5x18⟩) hHeld ?_
              case hyg5x18 => (intro w hSw; (try dsimp only at hSw); go_simp <;> with_reducible rfl)
              try simp only [Act.put, List.setIfInBounds_toArray, List.set_cons_zero, List.set_cons_succ]
              refine wpAnyH_take (i := 19) (oi := { dst := some 32, op := Op.load 53 (Operand.tmp 31), type := 53, pos := "l11_group.go:7", after := #[{ on := 18, ground := Ground.data }, { on := 10, ground := Ground.guard }], guard := some (10, true) }) (v := ?vg5x19) rfl (by kernel_rfl) (by kernel_rfl) (by kernel_rfl) (fun _ _ _ h => h) (Or.inl ⟨by rfl, ?hyg5x19⟩) hHeld ?_
              case hyg5x19 => (intro w hSw; (try dsimp only at hSw); go_simp <;> with_reducible rfl)
              try simp only [Act.put, List.setIfInBounds_toArray, List.set_cons_zero, List.set_cons_succ]
              refine wpAnyH_take (i := 20) (oi := { dst := some 33, op := Op.move (Operand.tmp 5), type := 3, pos := "l11_group.go:7", after := #[{ on := 10, ground := Ground.guard }], guard := some (10, true) }) (v := ?vg5x20) rfl (by kernel_rfl) (by kernel_rfl) (by kernel_rfl) (fun _ _ _ h => h) (Or.inl ⟨by rfl, ?hyg5x20⟩) hHeld ?_
              case hyg5x20 => (intro w hSw; (try dsimp only at hSw); go_simp <;> with_reducible rfl)
              try simp only [Act.put, List.setIfInBounds_toArray, List.set_cons_zero, List.set_cons_succ]
              refine wpAnyH_take (i := 21) (oi := { dst := some 34, op := Op.indexAddr 53 (Operand.tmp 32) (Operand.tmp 33), type := 0, pos := "l11_group.go:7", after := #[{ on := 19, ground := Ground.data }, { on := 20, ground := Ground.data }, { on := 10, ground := Ground.guard }], guard := some (10, true) }) (v := ?vg5x21) rfl (by kernel_rfl) (by kernel_rfl) (by kernel_rfl) (fun _ _ _ h => h) (Or.inl ⟨by rfl, ?hyg5x21⟩) hHeld ?_
              case hyg5x21 => (intro w hSw; (try dsimp only at hSw); go_simp <;> with_reducible rfl)
              try simp only [Act.put, List.setIfInBounds_toArray, List.set_cons_zero, List.set_cons_succ]
              refine wpAnyH_take (i := 22) (oi := { dst := some 35, op := Op.fieldAddr 48 (Operand.tmp 34) 0, type := 0, pos := "l11_group.go:7", after := #[{ on := 21, ground := Ground.data }, { on := 10, ground := Ground.guard }], guard := some (10, true) }) (v := ?vg5x22) rfl (by kernel_rfl) (by kernel_rfl) (by kernel_rfl) (fun _ _ _ h => h) (Or.inl ⟨by rfl, ?hyg5x22⟩) hHeld ?_
              case hyg5x22 => (intro w hSw; (try dsimp only at hSw); go_simp <;> with_reducible rfl)
              try simp only [Act.put, List.setIfInBounds_toArray, List.set_cons_zero, List.set_cons_succ]
              refine wpAnyH_take (i := 23) (oi := { dst := some 36, op := Op.load 36 (Operand.tmp 35), type := 36, pos := "l11_group.go:7", after := #[{ on := 22, ground := Ground.data }, { on := 10, ground := Ground.guard }], guard := some (10, true) }) (v := ?vg5x23) rfl (by kernel_rfl) (by kernel_rfl) (by kernel_rfl) (fun _ _ _ h => h) (Or.inl ⟨by rfl, ?hyg5x23⟩) hHeld ?_
              case hyg5x23 => (intro w hSw; (try dsimp only at hSw); go_simp <;> with_reducible rfl)
              try simp only [Act.put, List.setIfInBounds_toArray, List.set_cons_zero, List.set_cons_succ]
              refine wpAnyH_ready (rs := [24]) (by kernel_rfl) (by simp) ?_
              refine AllReadyH.cons (o := { dst := some 37, op := Op.call { callee := Callee.value (Operand.func 68), args := #[Operand.tmp 30, Operand.tmp 36], argTypes := #[36, 36] }, type := 4, pos := "l11_group.go:7", after := #[{ on := 17, ground := Ground.data }, { on := 23, ground := Ground.data }, { on := 10, ground := Ground.chain }, { on := 10, ground := Ground.guard }], guard := some (10, true) }) rfl (fun K hK => ?_) AllReadyH.nil
              go_simp
              refine (HLE.out _ Z1.out).mono ?_
              rintro r wyg5x24 ⟨rfl, hb2⟩
              have Z2 : Hid (Below wr.heap.size wr wyg5x24) := grow_on Z1.out hb2
              clear hb2
              try rw [hLs]
              clear hHeld
              refine hK.out _ _ (HS.out _ Z2.out) (fun hHeld => ?_)
              clear hK K
              try simp only [Act.put, List.setIfInBounds_toArray, List.set_cons_zero, List.set_cons_succ]
              refine wpAnyH_take (i := 25) (oi := { dst := some 38, op := Op.unOp UnOp.not 4 (Operand.tmp 37), type := 4, pos := "l11_group.go:7", after := #[{ on := 24, ground := Ground.data }, { on := 10, ground := Ground.guard }], guard := some (10, true) }) (v := ?vg5x25) rfl (by kernel_rfl) (by kernel_rfl) (by kernel_rfl) (fun _ _ _ h => h) (Or.inl ⟨by rfl, ?hyg5x25⟩) hHeld ?_
              case hyg5x25 => (intro w hSw; (try dsimp only at hSw); go_simp <;> with_reducible rfl)
              try simp only [Act.put, List.setIfInBounds_toArray, List.set_cons_zero, List.set_cons_succ]
              refine wpAnyH_take (i := 26) (oi := { dst := some 39, op := Op.pick (Operand.tmp 23) (Operand.tmp 38) (Operand.const (Value.bool false)), type := 4, pos := "l11_group.go:7", after := #[{ on := 10, ground := Ground.data }, { on := 25, ground := Ground.data }, { on := 7, ground := Ground.guard }], guard := some (7, false) }) (v := ?vg5x26) rfl (by kernel_rfl) (by kernel_rfl) (by kernel_rfl) (fun _ _ _ h => h) (Or.inl ⟨by rfl, ?hyg5x26⟩) hHeld ?_
              case hyg5x26 => (intro w hSw; (try dsimp only at hSw); go_simp <;> with_reducible rfl)
              try simp only [Act.put, List.setIfInBounds_toArray, List.set_cons_zero, List.set_cons_succ]
              refine wpAnyH_take (i := 27) (oi := { dst := some 40, op := Op.pick (Operand.tmp 20) (Operand.const (Value.bool true)) (Operand.tmp 39), type := 4, pos := "l11_group.go:7", after := #[{ on := 7, ground := Ground.data }, { on := 26, ground := Ground.data }], guard := none }) (v := ?vg5x27) rfl (by kernel_rfl) (by kernel_rfl) (by kernel_rfl) (fun _ _ _ h => h) (Or.inl ⟨by rfl, ?hyg5x27⟩) hHeld ?_
              case hyg5x27 => (intro w hSw; (try dsimp only at hSw); go_simp <;> with_reducible rfl)
              try simp only [Act.put, List.setIfInBounds_toArray, List.set_cons_zero, List.set_cons_succ]
              refine wpAnyH_take (i := 28) (oi := { dst := some 41, op := Op.move (Operand.tmp 40), type := 4, pos := "l11_group.go:7", after := #[{ on := 27, ground := Ground.data }, { on := 24, ground := Ground.chain }], guard := none }) (v := ?vg5x28) rfl (by kernel_rfl) (by kernel_rfl) (by kernel_rfl) (fun _ _ _ h => h) (Or.inl ⟨by rfl, ?hyg5x28⟩) hHeld ?_
              case hyg5x28 => (intro w hSw; (try dsimp only at hSw); go_simp <;> with_reducible rfl)
              try simp only [Act.put, List.setIfInBounds_toArray, List.set_cons_zero, List.set_cons_succ]
              refine wpAnyH_take (i := 29) (oi := { dst := some 42, op := Op.fieldAddr 67 (Operand.tmp 2) 4, type := 0, pos := "l11_group.go:7", after := #[{ on := 28, ground := Ground.guard }], guard := some (28, false) }) (v := ?vg5x29) rfl (by kernel_rfl) (by kernel_rfl) (by kernel_rfl) (fun _ _ _ h => h) (Or.inl ⟨by rfl, ?hyg5x29⟩) hHeld ?_
              case hyg5x29 => (intro w hSw; (try dsimp only at hSw); go_simp <;> with_reducible rfl)
              try simp only [Act.put, List.setIfInBounds_toArray, List.set_cons_zero, List.set_cons_succ]
              refine wpAnyH_take (i := 30) (oi := { dst := some 43, op := Op.load 53 (Operand.tmp 42), type := 53, pos := "l11_group.go:7", after := #[{ on := 29, ground := Ground.data }, { on := 28, ground := Ground.guard }], guard := some (28, false) }) (v := ?vg5x30) rfl (by kernel_rfl) (by kernel_rfl) (by kernel_rfl) (fun _ _ _ h => h) (Or.inl ⟨by rfl, ?hyg5x30⟩) hHeld ?_
              case hyg5x30 => (intro w hSw; (try dsimp only at hSw); go_simp <;> with_reducible rfl)
              try simp only [Act.put, List.setIfInBounds_toArray, List.set_cons_zero, List.set_cons_succ]
              refine wpAnyH_take (i := 31) (oi := { dst := some 44, op := Op.move (Operand.tmp 5), type := 3, pos := "l11_group.go:7", after := #[{ on := 28, ground := Ground.guard }], guard := some (28, false) }) (v := ?vg5x31) rfl (by kernel_rfl) (by kernel_rfl) (by kernel_rfl) (fun _ _ _ h => h) (Or.inl ⟨by rfl, ?hyg5x31⟩) hHeld ?_
              case hyg5x31 => (intro w hSw; (try dsimp only at hSw); go_simp <;> with_reducible rfl)
              try simp only [Act.put, List.setIfInBounds_toArray, List.set_cons_zero, List.set_cons_succ]
              refine wpAnyH_take (i := 32) (oi := { dst := some 45, op := Op.indexAddr 53 (Operand.tmp 43) (Operand.tmp 44), type := 0, pos := "l11_group.go:7", after := #[{ on := 30, ground := Ground.data }, { on := 31, ground := Ground.data }, { on := 28, ground := Ground.guard }], guard := some (28, false) }) (v := ?vg5x32) rfl (by kernel_rfl) (by kernel_rfl) (by kernel_rfl) (fun _ _ _ h => h) (Or.inl ⟨by rfl, ?hyg5x32⟩) hHeld ?_
              case hyg5x32 => (intro w hSw; (try dsimp only at hSw); go_simp <;> with_reducible rfl)
              try simp only [Act.put, List.setIfInBounds_toArray, List.set_cons_zero, List.set_cons_succ]
              refine wpAnyH_take (i := 33) (oi := { dst := some 46, op := Op.load 48 (Operand.tmp 45), type := 48, pos := "l11_group.go:7", after := #[{ on := 32, ground := Ground.data }, { on := 28, ground := Ground.guard }], guard := some (28, false) }) (v := ?vg5x33) rfl (by kernel_rfl) (by kernel_rfl) (by kernel_rfl) (fun _ _ _ h => h) (Or.inl ⟨by rfl, ?hyg5x33⟩) hHeld ?_
              case hyg5x33 => (intro w hSw; (try dsimp only at hSw); go_simp <;> with_reducible rfl)
              try simp only [Act.put, List.setIfInBounds_toArray, List.set_cons_zero, List.set_cons_succ]
              refine wpAnyH_take (i := 34) (oi := { dst := some 47, op := Op.move (Operand.tmp 1), type := 23, pos := "l11_group.go:7", after := #[{ on := 28, ground := Ground.guard }], guard := some (28, false) }) (v := ?vg5x34) rfl (by kernel_rfl) (by kernel_rfl) (by kernel_rfl) (fun _ _ _ h => h) (Or.inl ⟨by rfl, ?hyg5x34⟩) hHeld ?_
              case hyg5x34 => (intro w hSw; (try dsimp only at hSw); go_simp <;> with_reducible rfl)
              try simp only [Act.put, List.setIfInBounds_toArray, List.set_cons_zero, List.set_cons_succ]
              refine wpAnyH_take (i := 36) (oi := { dst := some 49, op := Op.fieldAddr 67 (Operand.tmp 2) 1, type := 0, pos := "l11_group.go:7", after := #[{ on := 28, ground := Ground.guard }], guard := some (28, false) }) (v := ?vg5x36) rfl (by kernel_rfl) (by kernel_rfl) (by kernel_rfl) (fun _ _ _ h => h) (Or.inl ⟨by rfl, ?hyg5x36⟩) hHeld ?_
              case hyg5x36 => (intro w hSw; (try dsimp only at hSw); go_simp <;> with_reducible rfl)
              try simp only [Act.put, List.setIfInBounds_toArray, List.set_cons_zero, List.set_cons_succ]
              refine wpAnyH_take (i := 37) (oi := { dst := some 50, op := Op.load 36 (Operand.tmp 49), type := 36, pos := "l11_group.go:7", after := #[{ on := 36, ground := Ground.data }, { on := 28, ground := Ground.guard }], guard := some (28, false) }) (v := ?vg5x37) rfl (by kernel_rfl) (by kernel_rfl) (by kernel_rfl) (fun _ _ _ h => h) (Or.inl ⟨by rfl, ?hyg5x37⟩) hHeld ?_
              case hyg5x37 => (intro w hSw; (try dsimp only at hSw); go_simp <;> with_reducible rfl)
              try simp only [Act.put, List.setIfInBounds_toArray, List.set_cons_zero, List.set_cons_succ]
              refine wpAnyH_ready (rs := [35]) (by kernel_rfl) (by simp) ?_
              refine AllReadyH.cons (o := { dst := some 48, op := Op.call { callee := Callee.value (Operand.func 51), args := #[Operand.tmp 46, Operand.tmp 47], argTypes := #[48, 23] }, type := 36, pos := "l11_group.go:7", after := #[{ on := 33, ground := Ground.data }, { on := 34, ground := Ground.data }, { on := 28, ground := Ground.chain }, { on := 28, ground := Ground.guard }], guard := some (28, false) }) rfl (fun K hK => ?_) AllReadyH.nil
              go_simp
              refine (HKE.out _ Z2.out).mono ?_
              rintro r wyg5x35 ⟨⟨MK, ck, rfl, hOK⟩, hb3⟩
              have Z3 : Hid (Below wr.heap.size wr wyg5x35) := grow_on Z2.out hb3
              have HO3 : Hid (Reads wyg5x35 (some ⟨MK, 0, none⟩) (projB (nthP P k).l by')) := own_reads hOK
              clear hb3 hOK
              clear hHeld
              refine hK.out _ _ (HS.out _ Z3.out) (fun hHeld => ?_)
              clear hK K
              try simp only [Act.put, List.setIfInBounds_toArray, List.set_cons_zero, List.set_cons_succ]
              refine wpAnyH_ready (rs := [38]) (by kernel_rfl) (by simp) ?_
              refine AllReadyH.cons (o := { dst := some 51, op := Op.call { callee := Callee.value (Operand.func 39), args := #[Operand.tmp 48, Operand.tmp 50], argTypes := #[36, 36] }, type := 4, pos := "l11_group.go:7", after := #[{ on := 35, ground := Ground.data }, { on := 37, ground := Ground.data }, { on := 35, ground := Ground.chain }, { on := 28, ground := Ground.guard }], guard := some (28, false) }) rfl (fun K hK => ?_) AllReadyH.nil
              go_simp
              refine (calls_drew (specSame_any _ _ _ _ (projB (nthP P k).l by') key _ HO3.out (HK.out.1.below (grow_on HBw.out Z3.out)) HPL.out HK.out.2.1)).mono ?_
              rintro r wyg5x38 ⟨rfl, hb4⟩
              have Z4 : Hid (Below wr.heap.size wr wyg5x38) := grow_on Z3.out hb4
              clear hb4
              try rw [hSm]
              clear hHeld
              refine hK.out _ _ (HS.out _ Z4.out) (fun hHeld => ?_)
              clear hK K
              try simp only [Act.put, List.setIfInBounds_toArray, List.set_cons_zero, List.set_cons_succ]
              refine wpAnyH_take (i := 39) (oi := { dst := some 52, op := Op.unOp UnOp.not 4 (Operand.tmp 51), type := 4, pos := "l11_group.go:7", after := #[{ on := 38, ground := Ground.data }, { on := 28, ground := Ground.guard }], guard := some (28, false) }) (v := ?vg5x39) rfl (by kernel_rfl) (by kernel_rfl) (by kernel_rfl) (fun _ _ _ h => h) (Or.inl ⟨by rfl, ?hyg5x39⟩) hHeld ?_
              case hyg5x39 => (intro w hSw; (try dsimp only at hSw); go_simp <;> with_reducible rfl)
              try simp only [Act.put, List.setIfInBounds_toArray, List.set_cons_zero, List.set_cons_succ]
              refine wpAnyH_take (i := 40) (oi := { dst := some 53, op := Op.pick (Operand.tmp 41) (Operand.const (Value.bool true)) (Operand.tmp 52), type := 4, pos := "l11_group.go:7", after := #[{ on := 28, ground := Ground.data }, { on := 39, ground := Ground.data }], guard := none }) (v := ?vg5x40) rfl (by kernel_rfl) (by kernel_rfl) (by kernel_rfl) (fun _ _ _ h => h) (Or.inl ⟨by rfl, ?hyg5x40⟩) hHeld ?_
              case hyg5x40 => (intro w hSw; (try dsimp only at hSw); go_simp <;> with_reducible rfl)
              try simp only [Act.put, List.setIfInBounds_toArray, List.set_cons_zero, List.set_cons_succ]
              refine wpAnyH_done (by kernel_rfl) ?_ _
              clear hHeld
              go_wp2
              go_ret
              exact ⟨retB HE.out.symm, grow_on HBw.out Z4.out⟩
            | true =>
              have HG : Hid (grAt key P by' k = true) := by unfold Hid grAt; rw [hA, hSm, hmk, hLs]; simp
              have HU1 : Hid (∀ j, j < k + 1 → grAt key P by' j = true) := fun j hj => by
                by_cases e : j = k
                · rw [e]; exact HG.out
                · exact HU.out j (by omega)
              clear hmk k0
              have HS : Hid (∀ w', Below wr.heap.size wr w' → w'.cell? ⟨w.heap.size, 1, none⟩ = some (.slice ka key.length kc) ∧ w'.cell? ⟨w.heap.size, 4, none⟩ = some (.slice (some ⟨bb, off, none⟩) P.length cap) ∧ w'.cell? ⟨bb, off + k * 4, none⟩ = some (.slice ad (nthP P k).l.length cp) ∧ w'.cell? ⟨bb, off + k * 4 + 1, none⟩ = some (.int .i64 (nthP P k).s) ∧ w'.cell? ⟨bb, off + k * 4 + 2, none⟩ = some (.int .i64 (nthP P k).e) ∧ w'.cell? ⟨bb, off + k * 4 + 3, none⟩ = some (.string (nthP P k).n) ∧ w'.cell? ⟨bb, off + m * 4, none⟩ = some (.slice ad2 (nthP P m).l.length cp2)) := fun w' h => ⟨(BP.out.grow h).cell 1, (BP.out.grow h).cell 4, (h.cell (p := ⟨bb, off + k * 4, none⟩) hbb).trans HA.out.c0, (h.cell (p := ⟨bb, off + k * 4 + 1, none⟩) hbb).trans HA.out.c1, (h.cell (p := ⟨bb, off + k * 4 + 2, none⟩) hbb).trans HA.out.c2, (h.cell (p := ⟨bb, off + k * 4 + 3, none⟩) hbb).trans HA.out.c3, (h.cell (p := ⟨bb, off + m * 4, none⟩) hbb).trans HA2.out.c0⟩
              go_upto_region 4 with fail
              refine wp_region_held_drew (S := fun w' => w'.cell? ⟨w.heap.size, 1, none⟩ = some (.slice ka key.length kc) ∧ w'.cell? ⟨w.heap.size, 4, none⟩ = some (.slice (some ⟨bb, off, none⟩) P.length cap) ∧ w'.cell? ⟨bb, off + k * 4, none⟩ = some (.slice ad (nthP P k).l.length cp) ∧ w'.cell? ⟨bb, off + k * 4 + 1, none⟩ = some (.int .i64 (nthP P k).s) ∧ w'.cell? ⟨bb, off + k * 4 + 2, none⟩ = some (.int .i64 (nthP P k).e) ∧ w'.cell? ⟨bb, off + k * 4 + 3, none⟩ = some (.string (nthP P k).n) ∧ w'.cell? ⟨bb, off + m * 4, none⟩ = some (.slice ad2 (nthP P m).l.length cp2)) (by kernel_rfl) (HS.out _ (Below.refl wr.heap.size wr).drew) (fun hHeld => ?_)
              refine wpAnyH_take (i := 0) (oi := { dst := some 13, op := Op.fieldAddr 67 (Operand.tmp 2) 4, type := 0, pos := "l11_group.go:7", after := #[], guard := none }) (v := ?vg6x0) rfl (by kernel_rfl) (by kernel_rfl) (by kernel_rfl) (fun _ _ _ h => h) (Or.inl ⟨by rfl, ?hyg6x0⟩) hHeld ?_
              case hyg6x0 => (intro w hSw; (try dsimp only at hSw); go_simp <;> with_reducible rfl)
              try simp only [Act.put, List.setIfInBounds_toArray, List.set_cons_zero, List.set_cons_succ]
              refine wpAnyH_take (i := 1) (oi := { dst := some 14, op := Op.load 53 (Operand.tmp 13), type := 53, pos := "l11_group.go:7", after := #[{ on := 0, ground := Ground.data }], guard := none }) (v := ?vg6x1) rfl (by kernel_rfl) (by kernel_rfl) (by kernel_rfl) (fun _ _ _ h => h) (Or.inl ⟨by rfl, ?hyg6x1⟩) hHeld ?_
              case hyg6x1 => (intro w hSw; (try dsimp only at hSw); go_simp <;> with_reducible rfl)
              try simp only [Act.put, List.setIfInBounds_toArray, List.set_cons_zero, List.set_cons_succ]
              refine wpAnyH_take (i := 2) (oi := { dst := some 15, op := Op.move (Operand.tmp 5), type := 3, pos := "l11_group.go:7", after := #[], guard := none }) (v := ?vg6x2) rfl (by kernel_rfl) (by kernel_rfl) (by kernel_rfl) (fun _ _ _ h => h) (Or.inl ⟨by rfl, ?hyg6x2⟩) hHeld ?_
              case hyg6x2 => (intro w hSw; (try dsimp only at hSw); go_simp <;> with_reducible rfl)
              try simp only [Act.put, List.setIfInBounds_toArray, List.set_cons_zero, List.set_cons_succ]
              refine wpAnyH_take (i := 3) (oi := { dst := some 16, op := Op.indexAddr 53 (Operand.tmp 14) (Operand.tmp 15), type := 0, pos := "l11_group.go:7", after := #[{ on := 1, ground := Ground.data }, { on := 2, ground := Ground.data }], guard := none }) (v := ?vg6x3) rfl (by kernel_rfl) (by kernel_rfl) (by kernel_rfl) (fun _ _ _ h => h) (Or.inl ⟨by rfl, ?hyg6x3⟩) hHeld ?_
              case hyg6x3 => (intro w hSw; (try dsimp only at hSw); go_simp <;> with_reducible rfl)
              try simp only [Act.put, List.setIfInBounds_toArray, List.set_cons_zero, List.set_cons_succ]
              refine wpAnyH_take (i := 4) (oi := { dst := some 17, op := Op.load 48 (Operand.tmp 16), type := 48, pos := "l11_group.go:7", after := #[{ on := 3, ground := Ground.data }], guard := none }) (v := ?vg6x4) rfl (by kernel_rfl) (by kernel_rfl) (by kernel_rfl) (fun _ _ _ h => h) (Or.inl ⟨by rfl, ?hyg6x4⟩) hHeld ?_
              case hyg6x4 => (intro w hSw; (try dsimp only at hSw); go_simp <;> with_reducible rfl)
              try simp only [Act.put, List.setIfInBounds_toArray, List.set_cons_zero, List.set_cons_succ]
              refine wpAnyH_ready (rs := [5]) (by kernel_rfl) (by simp) ?_
              refine AllReadyH.cons (o := { dst := some 18, op := Op.call { callee := Callee.value (Operand.func 67), args := #[Operand.tmp 17], argTypes := #[48] }, type := 4, pos := "l11_group.go:7", after := #[{ on := 4, ground := Ground.data }], guard := none }) rfl (fun K hK => ?_) AllReadyH.nil
              go_simp
              refine (HOK.out _ (Below.refl wr.heap.size wr).drew).mono ?_
              rintro r wyg6x5 ⟨rfl, hb1⟩
              have Z1 : Hid (Below wr.heap.size wr wyg6x5) := grow_on (Below.refl wr.heap.size wr).drew hb1
              clear hb1
              try rw [hA]
              clear hHeld
              refine hK.out _ _ (HS.out _ Z1.out) (fun hHeld => ?_)
              clear hK K
              try simp only [Act.put, List.setIfInBounds_toArray, List.set_cons_zero, List.set_cons_succ]
              refine wpAnyH_take (i := 6) (oi := { dst := some 19, op := Op.unOp UnOp.not 4 (Operand.tmp 18), type := 4, pos := "l11_group.go:7", after := #[{ on := 5, ground := Ground.data }], guard := none }) (v := ?vg6x6) rfl (by kernel_rfl) (by kernel_rfl) (by kernel_rfl) (fun _ _ _ h => h) (Or.inl ⟨by rfl, ?hyg6x6⟩) hHeld ?_
              case hyg6x6 => (intro w hSw; (try dsimp only at hSw); go_simp <;> with_reducible rfl)
              try simp only [Act.put, List.setIfInBounds_toArray, List.set_cons_zero, List.set_cons_succ]
              refine wpAnyH_take (i := 7) (oi := { dst := some 20, op := Op.move (Operand.tmp 19), type := 4, pos := "l11_group.go:7", after := #[{ on := 6, ground := Ground.data }, { on := 5, ground := Ground.chain }], guard := none }) (v := ?vg6x7) rfl (by kernel_rfl) (by kernel_rfl) (by kernel_rfl) (fun _ _ _ h => h) (Or.inl ⟨by rfl, ?hyg6x7⟩) hHeld ?_
              case hyg6x7 => (intro w hSw; (try dsimp only at hSw); go_simp <;> with_reducible rfl)
              try simp only [Act.put, List.setIfInBounds_toArray, List.set_cons_zero, List.set_cons_succ]
              refine wpAnyH_take (i := 8) (oi := { dst := some 21, op := Op.move (Operand.tmp 5), type := 3, pos := "l11_group.go:7", after := #[{ on := 7, ground := Ground.guard }], guard := some (7, false) }) (v := ?vg6x8) rfl (by kernel_rfl) (by kernel_rfl) (by kernel_rfl) (fun _ _ _ h => h) (Or.inl ⟨by rfl, ?hyg6x8⟩) hHeld ?_
              case hyg6x8 => (intro w hSw; (try dsimp only at hSw); go_simp <;> with_reducible rfl)
              try simp only [Act.put, List.setIfInBounds_toArray, List.set_cons_zero, List.set_cons_succ]
              refine wpAnyH_take (i := 9) (oi := { dst := some 22, op := Op.binOp BinOp.gtr 3 (Operand.tmp 21) (Operand.const (Value.int IntKind.i64 0)) 3, type := 4, pos := "l11_group.go:7", after := #[{ on := 8, ground := Ground.data }, { on := 7, ground := Ground.guard }], guard := some (7, false) }) (v := ?vg6x9) rfl (by kernel_rfl) (by kernel_rfl) (by kernel_rfl) (fun _ _ _ h => h) (Or.inl ⟨by rfl, ?hyg6x9⟩) hHeld ?_
              case hyg6x9 => (intro w hSw; (try dsimp only at hSw); go_simp <;> with_reducible rfl)
              try simp only [Act.put, List.setIfInBounds_toArray, List.set_cons_zero, List.set_cons_succ]
              refine wpAnyH_take (i := 10) (oi := { dst := some 23, op := Op.move (Operand.tmp 22), type := 4, pos := "l11_group.go:7", after := #[{ on := 9, ground := Ground.data }, { on := 7, ground := Ground.chain }, { on := 7, ground := Ground.guard }], guard := some (7, false) }) (v := ?vg6x10) rfl (by kernel_rfl) (by kernel_rfl) (by kernel_rfl) (fun _ _ _ h => h) (Or.inl ⟨by rfl, ?hyg6x10⟩) hHeld ?_
              case hyg6x10 => (intro w hSw; (try dsimp only at hSw); go_simp <;> with_reducible rfl)
              try simp only [Act.put, List.setIfInBounds_toArray, List.set_cons_zero, List.set_cons_succ]
              refine wpAnyH_take (i := 11) (oi := { dst := some 24, op := Op.fieldAddr 67 (Operand.tmp 2) 4, type := 0, pos := "l11_group.go:7", after := #[{ on := 10, ground := Ground.guard }], guard := some (10, true) }) (v := ?vg6x11) rfl (by kernel_rfl) (by kernel_rfl) (by kernel_rfl) (fun _ _ _ h => h) (Or.inl ⟨by rfl, ?hyg6x11⟩) hHeld ?_
              case hyg6x11 => (intro w hSw; (try dsimp only at hSw); go_simp <;> with_reducible rfl)
              try simp only [Act.put, List.setIfInBounds_toArray, List.set_cons_zero, List.set_cons_succ]
              refine wpAnyH_take (i := 12) (oi := { dst := some 25, op := Op.load 53 (Operand.tmp 24), type := 53, pos := "l11_group.go:7", after := #[{ on := 11, ground := Ground.data }, { on := 10, ground := Ground.guard }], guard := some (10, true) }) (v := ?vg6x12) rfl (by kernel_rfl) (by kernel_rfl) (by kernel_rfl) (fun _ _ _ h => h) (Or.inl ⟨by rfl, ?hyg6x12⟩) hHeld ?_
              case hyg6x12 => (intro w hSw; (try dsimp only at hSw); go_simp <;> with_reducible rfl)
              try simp only [Act.put, List.setIfInBounds_toArray, List.set_cons_zero, List.set_cons_succ]
              refine wpAnyH_take (i := 13) (oi := { dst := some 26, op := Op.move (Operand.tmp 5), type := 3, pos := "l11_group.go:7", after := #[{ on := 10, ground := Ground.guard }], guard := some (10, true) }) (v := ?vg6x13) rfl (by kernel_rfl) (by kernel_rfl) (by kernel_rfl) (fun _ _ _ h => h) (Or.inl ⟨by rfl, ?hyg6x13⟩) hHeld ?_
              case hyg6x13 => (intro w hSw; (try dsimp only at hSw); go_simp <;> with_reducible rfl)
              try simp only [Act.put, List.setIfInBounds_toArray, List.set_cons_zero, List.set_cons_succ]
              refine wpAnyH_take (i := 14) (oi := { dst := some 27, op := Op.binOp BinOp.sub 3 (Operand.tmp 26) (Operand.const (Value.int IntKind.i64 1)) 3, type := 3, pos := "l11_group.go:7", after := #[{ on := 13, ground := Ground.data }, { on := 10, ground := Ground.guard }], guard := some (10, true) }) (v := ?vg6x14) rfl (by kernel_rfl) (by kernel_rfl) (by kernel_rfl) (fun _ _ _ h => h) (Or.inl ⟨by rfl, ?hyg6x14⟩) hHeld ?_
              case hyg6x14 => (intro w hSw; (try dsimp only at hSw); go_simp <;> with_reducible rfl)
              try simp only [Act.put, List.setIfInBounds_toArray, List.set_cons_zero, List.set_cons_succ]
              refine wpAnyH_take (i := 15) (oi := { dst := some 28, op := Op.indexAddr 53 (Operand.tmp 25) (Operand.tmp 27), type := 0, pos := "l11_group.go:7", after := #[{ on := 12, ground := Ground.data }, { on := 14, ground := Ground.data }, { on := 10, ground := Ground.guard }], guard := some (10, true) }) (v := ?vg6x15) rfl (by kernel_rfl) (by kernel_rfl) (by kernel_rfl) (fun _ _ _ h => h) (Or.inl ⟨by rfl, ?hyg6x15⟩) hHeld ?_
              case hyg6x15 => (intro w hSw; (try dsimp only at hSw); go_simp <;> with_reducible rfl)
              try simp only [Act.put, List.setIfInBounds_toArray, List.set_cons_zero, List.set_cons_succ]
              refine wpAnyH_take (i := 16) (oi := { dst := some 29, op := Op.fieldAddr 48 (Operand.tmp 28) 0, type := 0, pos := "l11_group.go:7", after := #[{ on := 15, ground := Ground.data }, { on := 10, ground := Ground.guard }], guard := some (10, true) }) (v := ?vg6x16) rfl (by kernel_rfl) (by kernel_rfl) (by kernel_rfl) (fun _ _ _ h => h) (Or.inl ⟨by rfl, ?hyg6x16⟩) hHeld ?_
              case hyg6x16 => (intro w hSw; (try dsimp only at hSw); go_simp <;> with_reducible rfl)
              try simp only [Act.put, List.setIfInBounds_toArray, List.set_cons_zero, List.set_cons_succ]
              refine wpAnyH_take (i := 17) (oi := { dst := some 30, op := Op.load 36 (Operand.tmp 29), type := 36, pos := "l11_group.go:7", after := #[{ on := 16, ground := Ground.data }, { on := 10, ground := Ground.guard }], guard := some (10, true) }) (v := ?vg6x17) rfl (by kernel_rfl) (by kernel_rfl) (by kernel_rfl) (fun _ _ _ h => h) (Or.inl ⟨by rfl, ?hyg6x17⟩) hHeld ?_
              case hyg6x17 => (intro w hSw; (try dsimp only at hSw); go_simp <;> with_reducible rfl)
              try simp only [Act.put, List.setIfInBounds_toArray, List.set_cons_zero, List.set_cons_succ]
              refine wpAnyH_take (i := 18) (oi := { dst := some 31, op := Op.fieldAddr 67 (Operand.tmp 2) 4, type := 0, pos := "l11_group.go:7", after := #[{ on := 10, ground := Ground.guard }], guard := some (10, true) }) (v := ?vg6x18) rfl (by kernel_rfl) (by kernel_rfl) (by kernel_rfl) (fun _ _ _ h => h) (Or.inl ⟨by rfl, ?hyg6x18⟩) hHeld ?_
              case hyg6x18 => (intro w hSw; (try dsimp only at hSw); go_simp <;> with_reducible rfl)
              try simp only [Act.put, List.setIfInBounds_toArray, List.set_cons_zero, List.set_cons_succ]
              refine wpAnyH_take (i := 19) (oi := { dst := some 32, op := Op.load 53 (Operand.tmp 31), type := 53, pos := "l11_group.go:7", after := #[{ on := 18, ground := Ground.data }, { on := 10, ground := Ground.guard }], guard := some (10, true) }) (v := ?vg6x19) rfl (by kernel_rfl) (by kernel_rfl) (by kernel_rfl) (fun _ _ _ h => h) (Or.inl ⟨by rfl, ?hyg6x19⟩) hHeld ?_
              case hyg6x19 => (intro w hSw; (try dsimp only at hSw); go_simp <;> with_reducible rfl)
              try simp only [Act.put, List.setIfInBounds_toArray, List.set_cons_zero, List.set_cons_succ]
              refine wpAnyH_take (i := 20) (oi := { dst := some 33, op := Op.move (Operand.tmp 5), type := 3, pos := "l11_group.go:7", after := #[{ on := 10, ground := Ground.guard }], guard := some (10, true) }) (v := ?vg6x20) rfl (by kernel_rfl) (by kernel_rfl) (by kernel_rfl) (fun _ _ _ h => h) (Or.inl ⟨by rfl, ?hyg6x20⟩) hHeld ?_
              case hyg6x20 => (intro w hSw; (try dsimp only at hSw); go_simp <;> with_reducible rfl)
              try simp only [Act.put, List.setIfInBounds_toArray, List.set_cons_zero, List.set_cons_succ]
              refine wpAnyH_take (i := 21) (oi := { dst := some 34, op := Op.indexAddr 53 (Operand.tmp 32) (Operand.tmp 33), type := 0, pos := "l11_group.go:7", after := #[{ on := 19, ground := Ground.data }, { on := 20, ground := Ground.data }, { on := 10, ground := Ground.guard }], guard := some (10, true) }) (v := ?vg6x21) rfl (by kernel_rfl) (by kernel_rfl) (by kernel_rfl) (fun _ _ _ h => h) (Or.inl ⟨by rfl, ?hyg6x21⟩) hHeld ?_
              case hyg6x21 => (intro w hSw; (try dsimp only at hSw); go_simp <;> with_reducible rfl)
              try simp only [Act.put, List.setIfInBounds_toArray, List.set_cons_zero, List.set_cons_succ]
              refine wpAnyH_take (i := 22) (oi := { dst := some 35, op := Op.fieldAddr 48 (Operand.tmp 34) 0, type := 0, pos := "l11_group.go:7", after := #[{ on := 21, ground := Ground.data }, { on := 10, ground := Ground.guard }], guard := some (10, true) }) (v := ?vg6x22) rfl (by kernel_rfl) (by kernel_rfl) (by kernel_rfl) (fun _ _ _ h => h) (Or.inl ⟨by rfl, ?hyg6x22⟩) hHeld ?_
              case hyg6x22 => (intro w hSw; (try dsimp only at hSw); go_simp <;> with_reducible rfl)
              try simp only [Act.put, List.setIfInBounds_toArray, List.set_cons_zero, List.set_cons_succ]
              refine wpAnyH_take (i := 23) (oi := { dst := some 36, op := Op.load 36 (Operand.tmp 35), type := 36, pos := "l11_group.go:7", after := #[{ on := 22, ground := Ground.data }, { on := 10, ground := Ground.guard }], guard := some (10, true) }) (v := ?vg6x23) rfl (by kernel_rfl) (by kernel_rfl) (by kernel_rfl) (fun _ _ _ h => h) (Or.inl ⟨by rfl, ?hyg6x23⟩) hHeld ?_
              case hyg6x23 => (intro w hSw; (try dsimp only at hSw); go_simp <;> with_reducible rfl)
              try simp only [Act.put, List.setIfInBounds_toArray, List.set_cons_zero, List.set_cons_succ]
              refine wpAnyH_ready (rs := [24]) (by kernel_rfl) (by simp) ?_
              refine AllReadyH.cons (o := { dst := some 37, op := Op.call { callee := Callee.value (Operand.func 68), args := #[Operand.tmp 30, Operand.tmp 36], argTypes := #[36, 36] }, type := 4, pos := "l11_group.go:7", after := #[{ on := 17, ground := Ground.data }, { on := 23, ground := Ground.data }, { on := 10, ground := Ground.chain }, { on := 10, ground := Ground.guard }], guard := some (10, true) }) rfl (fun K hK => ?_) AllReadyH.nil
              go_simp
              refine (HLE.out _ Z1.out).mono ?_
              rintro r wyg6x24 ⟨rfl, hb2⟩
              have Z2 : Hid (Below wr.heap.size wr wyg6x24) := grow_on Z1.out hb2
              clear hb2
              try rw [hLs]
              clear hHeld
              refine hK.out _ _ (HS.out _ Z2.out) (fun hHeld => ?_)
              clear hK K
              try simp only [Act.put, List.setIfInBounds_toArray, List.set_cons_zero, List.set_cons_succ]
              refine wpAnyH_take (i := 25) (oi := { dst := some 38, op := Op.unOp UnOp.not 4 (Operand.tmp 37), type := 4, pos := "l11_group.go:7", after := #[{ on := 24, ground := Ground.data }, { on := 10, ground := Ground.guard }], guard := some (10, true) }) (v := ?vg6x25) rfl (by kernel_rfl) (by kernel_rfl) (by kernel_rfl) (fun _ _ _ h => h) (Or.inl ⟨by rfl, ?hyg6x25⟩) hHeld ?_
              case hyg6x25 => (intro w hSw; (try dsimp only at hSw); go_simp <;> with_reducible rfl)
              try simp only [Act.put, List.setIfInBounds_toArray, List.set_cons_zero, List.set_cons_succ]
              refine wpAnyH_take (i := 26) (oi := { dst := some 39, op := Op.pick (Operand.tmp 23) (Operand.tmp 38) (Operand.const (Value.bool false)), type := 4, pos := "l11_group.go:7", after := #[{ on := 10, ground := Ground.data }, { on := 25, ground := Ground.data }, { on := 7, ground := Ground.guard }], guard := some (7, false) }) (v := ?vg6x26) rfl (by kernel_rfl) (by kernel_rfl) (by kernel_rfl) (fun _ _ _ h => h) (Or.inl ⟨by rfl, ?hyg6x26⟩) hHeld ?_
              case hyg6x26 => (intro w hSw; (try dsimp only at hSw); go_simp <;> with_reducible rfl)
              try simp only [Act.put, List.setIfInBounds_toArray, List.set_cons_zero, List.set_cons_succ]
              refine wpAnyH_take (i := 27) (oi := { dst := some 40, op := Op.pick (Operand.tmp 20) (Operand.const (Value.bool true)) (Operand.tmp 39), type := 4, pos := "l11_group.go:7", after := #[{ on := 7, ground := Ground.data }, { on := 26, ground := Ground.data }], guard := none }) (v := ?vg6x27) rfl (by kernel_rfl) (by kernel_rfl) (by kernel_rfl) (fun _ _ _ h => h) (Or.inl ⟨by rfl, ?hyg6x27⟩) hHeld ?_
              case hyg6x27 => (intro w hSw; (try dsimp only at hSw); go_simp <;> with_reducible rfl)
              try simp only [Act.put, List.setIfInBounds_toArray, List.set_cons_zero, List.set_cons_succ]
              refine wpAnyH_take (i := 28) (oi := { dst := some 41, op := Op.move (Operand.tmp 40), type := 4, pos := "l11_group.go:7", after := #[{ on := 27, ground := Ground.data }, { on := 24, ground := Ground.chain }], guard := none }) (v := ?vg6x28) rfl (by kernel_rfl) (by kernel_rfl) (by kernel_rfl) (fun _ _ _ h => h) (Or.inl ⟨by rfl, ?hyg6x28⟩) hHeld ?_
              case hyg6x28 => (intro w hSw; (try dsimp only at hSw); go_simp <;> with_reducible rfl)
              try simp only [Act.put, List.setIfInBounds_toArray, List.set_cons_zero, List.set_cons_succ]
              refine wpAnyH_take (i := 29) (oi := { dst := some 42, op := Op.fieldAddr 67 (Operand.tmp 2) 4, type := 0, pos := "l11_group.go:7", after := #[{ on := 28, ground := Ground.guard }], guard := some (28, false) }) (v := ?vg6x29) rfl (by kernel_rfl) (by kernel_rfl) (by kernel_rfl) (fun _ _ _ h => h) (Or.inl ⟨by rfl, ?hyg6x29⟩) hHeld ?_
              case hyg6x29 => (intro w hSw; (try dsimp only at hSw); go_simp <;> with_reducible rfl)
              try simp only [Act.put, List.setIfInBounds_toArray, List.set_cons_zero, List.set_cons_succ]
              refine wpAnyH_take (i := 30) (oi := { dst := some 43, op := Op.load 53 (Operand.tmp 42), type := 53, pos := "l11_group.go:7", after := #[{ on := 29, ground := Ground.data }, { on := 28, ground := Ground.guard }], guard := some (28, false) }) (v := ?vg6x30) rfl (by kernel_rfl) (by kernel_rfl) (by kernel_rfl) (fun _ _ _ h => h) (Or.inl ⟨by rfl, ?hyg6x30⟩) hHeld ?_
              case hyg6x30 => (intro w hSw; (try dsimp only at hSw); go_simp <;> with_reducible rfl)
              try simp only [Act.put, List.setIfInBounds_toArray, List.set_cons_zero, List.set_cons_succ]
              refine wpAnyH_take (i := 31) (oi := { dst := some 44, op := Op.move (Operand.tmp 5), type := 3, pos := "l11_group.go:7", after := #[{ on := 28, ground := Ground.guard }], guard := some (28, false) }) (v := ?vg6x31) rfl (by kernel_rfl) (by kernel_rfl) (by kernel_rfl) (fun _ _ _ h => h) (Or.inl ⟨by rfl, ?hyg6x31⟩) hHeld ?_
              case hyg6x31 => (intro w hSw; (try dsimp only at hSw); go_simp <;> with_reducible rfl)
              try simp only [Act.put, List.setIfInBounds_toArray, List.set_cons_zero, List.set_cons_succ]
              refine wpAnyH_take (i := 32) (oi := { dst := some 45, op := Op.indexAddr 53 (Operand.tmp 43) (Operand.tmp 44), type := 0, pos := "l11_group.go:7", after := #[{ on := 30, ground := Ground.data }, { on := 31, ground := Ground.data }, { on := 28, ground := Ground.guard }], guard := some (28, false) }) (v := ?vg6x32) rfl (by kernel_rfl) (by kernel_rfl) (by kernel_rfl) (fun _ _ _ h => h) (Or.inl ⟨by rfl, ?hyg6x32⟩) hHeld ?_
              case hyg6x32 => (intro w hSw; (try dsimp only at hSw); go_simp <;> with_reducible rfl)
              try simp only [Act.put, List.setIfInBounds_toArray, List.set_cons_zero, List.set_cons_succ]
              refine wpAnyH_take (i := 33) (oi := { dst := some 46, op := Op.load 48 (Operand.tmp 45), type := 48, pos := "l11_group.go:7", after := #[{ on := 32, ground := Ground.data }, { on := 28, ground := Ground.guard }], guard := some (28, false) }) (v := ?vg6x33) rfl (by kernel_rfl) (by kernel_rfl) (by kernel_rfl) (fun _ _ _ h => h) (Or.inl ⟨by rfl, ?hyg6x33⟩) hHeld ?_
              case hyg6x33 => (intro w hSw; (try dsimp only at hSw); go_simp <;> with_reducible rfl)
              try simp only [Act.put, List.setIfInBounds_toArray, List.set_cons_zero, List.set_cons_succ]
              refine wpAnyH_take (i := 34) (oi := { dst := some 47, op := Op.move (Operand.tmp 1), type := 23, pos := "l11_group.go:7", after := #[{ on := 28, ground := Ground.guard }], guard := some (28, false) }) (v := ?vg6x34) rfl (by kernel_rfl) (by kernel_rfl) (by kernel_rfl) (fun _ _ _ h => h) (Or.inl ⟨by rfl, ?hyg6x34⟩) hHeld ?_
              case hyg6x34 => (intro w hSw; (try dsimp only at hSw); go_simp <;> with_reducible rfl)
              try simp only [Act.put, List.setIfInBounds_toArray, List.set_cons_zero, List.set_cons_succ]
              refine wpAnyH_take (i := 36) (oi := { dst := some 49, op := Op.fieldAddr 67 (Operand.tmp 2) 1, type := 0, pos := "l11_group.go:7", after := #[{ on := 28, ground := Ground.guard }], guard := some (28, false) }) (v := ?vg6x36) rfl (by kernel_rfl) (by kernel_rfl) (by kernel_rfl) (fun _ _ _ h => h) (Or.inl ⟨by rfl, ?hyg6x36⟩) hHeld ?_
              case hyg6x36 => (intro w hSw; (try dsimp only at hSw); go_simp <;> with_reducible rfl)
              try simp only [Act.put, List.setIfInBounds_toArray, List.set_cons_zero, List.set_cons_succ]
              refine wpAnyH_take (i := 37) (oi := { dst := some 50, op := Op.load 36 (Operand.tmp 49), type := 36, pos := "l11_group.go:7", after := #[{ on := 36, ground := Ground.data }, { on := 28, ground := Ground.guard }], guard := some (28, false) }) (v := ?vg6x37) rfl (by kernel_rfl) (by kernel_rfl) (by kernel_rfl) (fun _ _ _ h => h) (Or.inl ⟨by rfl, ?hyg6x37⟩) hHeld ?_
              case hyg6x37 => (intro w hSw; (try dsimp only at hSw); go_simp <;> with_reducible rfl)
              try simp only [Act.put, List.setIfInBounds_toArray, List.set_cons_zero, List.set_cons_succ]
              refine wpAnyH_ready (rs := [35]) (by kernel_rfl) (by simp) ?_
              refine AllReadyH.cons (o := { dst := some 48, op := Op.call { callee := Callee.value (Operand.func 51), args := #[Operand.tmp 46, Operand.tmp 47], argTypes := #[48, 23] }, type := 36, pos := "l11_group.go:7", after := #[{ on := 33, ground := Ground.data }, { on := 34, ground := Ground.data }, { on := 28, ground := Ground.chain }, { on := 28, ground := Ground.guard }], guard := some (28, false) }) rfl (fun K hK => ?_) AllReadyH.nil
              go_simp
              refine (HKE.out _ Z2.out).mono ?_
              rintro r wyg6x35 ⟨⟨MK, ck, rfl, hOK⟩, hb3⟩
              have Z3 : Hid (Below wr.heap.size wr wyg6x35) := grow_on Z2.out hb3
              have HO3 : Hid (Reads wyg6x35 (some ⟨MK, 0, none⟩) (projB (nthP P k).l by')) := own_reads hOK
              clear hb3 hOK
              clear hHeld
              refine hK.out _ _ (HS.out _ Z3.out) (fun hHeld => ?_)
              clear hK K
              try simp only [Act.put, List.setIfInBounds_toArray, List.set_cons_zero, List.set_cons_succ]
              refine wpAnyH_ready (rs := [38]) (by kernel_rfl) (by simp) ?_
              refine AllReadyH.cons (o := { dst := some 51, op := Op.call { callee := Callee.value (Operand.func 39), args := #[Operand.tmp 48, Operand.tmp 50], argTypes := #[36, 36] }, type := 4, pos := "l11_group.go:7", after := #[{ on := 35, ground := Ground.data }, { on := 37, ground := Ground.data }, { on := 35, ground := Ground.chain }, { on := 28, ground := Ground.guard }], guard := some (28, false) }) rfl (fun K hK => ?_) AllReadyH.nil
              go_simp
              refine (calls_drew (specSame_any _ _ _ _ (projB (nthP P k).l by') key _ HO3.out (HK.out.1.below (grow_on HBw.out Z3.out)) HPL.out HK.out.2.1)).mono ?_
              rintro r wyg6x38 ⟨rfl, hb4⟩
              have Z4 : Hid (Below wr.heap.size wr wyg6x38) := grow_on Z3.out hb4
              clear hb4
              try rw [hSm]
              clear hHeld
              refine hK.out _ _ (HS.out _ Z4.out) (fun hHeld => ?_)
              clear hK K
              try simp only [Act.put, List.setIfInBounds_toArray, List.set_cons_zero, List.set_cons_succ]
              refine wpAnyH_take (i := 39) (oi := { dst := some 52, op := Op.unOp UnOp.not 4 (Operand.tmp 51), type := 4, pos := "l11_group.go:7", after := #[{ on := 38, ground := Ground.data }, { on := 28, ground := Ground.guard }], guard := some (28, false) }) (v := ?vg6x39) rfl (by kernel_rfl) (by kernel_rfl) (by kernel_rfl) (fun _ _ _ h => h) (Or.inl ⟨by rfl, ?hyg6x39⟩) hHeld ?_
              case hyg6x39 => (intro w hSw; (try dsimp only at hSw); go_simp <;> with_reducible rfl)
              try simp only [Act.put, List.setIfInBounds_toArray, List.set_cons_zero, List.set_cons_succ]
              refine wpAnyH_take (i := 40) (oi := { dst := some 53, op := Op.pick (Operand.tmp 41) (Operand.const (Value.bool true)) (Operand.tmp 52), type := 4, pos := "l11_group.go:7", after := #[{ on := 28, ground := Ground.data }, { on := 39, ground := Ground.data }], guard := none }) (v := ?vg6x40) rfl (by kernel_rfl) (by kernel_rfl) (by kernel_rfl) (fun _ _ _ h => h) (Or.inl ⟨by rfl, ?hyg6x40⟩) hHeld ?_
              case hyg6x40 => (intro w hSw; (try dsimp only at hSw); go_simp <;> with_reducible rfl)
              try simp only [Act.put, List.setIfInBounds_toArray, List.set_cons_zero, List.set_cons_succ]
              refine wpAnyH_done (by kernel_rfl) ?_ _
              clear hHeld
              go_wp2
              go_roundw
              case rel => exact ⟨k + 1, by go_num, by omega, HU1.out, grow_on HBr.out Z4.out⟩
              case measure => simp [intOf]; omega
    · have hge : ¬ (k : Int) < (P.length : Int) := by omega
      have HE : Hid (groupB n key b t P by' = (decide (0 ≤ n) && (setB key && (inB b 0 99999 && ((decide (t = -1) || inB t b 99999) && decide (0 < P.length)))))) := group_all fun j hj => HU.out j (by omega)
      have hp0 := BP.out.cell 0
      have hp1 := BP.out.cell 1
      have hp2 := BP.out.cell 2
      have hp3 := BP.out.cell 3
      simp at hp0 hp1 hp2 hp3
      by_cases hn : 0 ≤ n
      · replace HE : Hid (groupB n key b t P by' = (setB key && (inB b 0 99999 && ((decide (t = -1) || inB t b 99999) && decide (0 < P.length))))) := by unfold Hid; rw [HE.out, decide_eq_true hn, Bool.true_and]
        have hn' : n ≥ 0 := hn
        go_wp2_with fail
        refine (LabO.specSet_any ka kc key _ (HK.out.1.below HBw.out) HK.out.2.1 HK.out.2.2).mono ?_
        rintro e w1 ⟨rfl, hb1⟩
        have HB1 : Hid (Below w.heap.size w w1) := grow_on HBw.out hb1
        have BP1 : Hid (Blk w1 w.heap.size #[.int .i64 n, .slice ka key.length kc, .int .i64 b, .int .i64 t, .slice a P.length cap] 67) := BP.out.grow hb1
        clear hb1 hp0 hp1 hp2 hp3 hp4
        have hp0 := BP1.out.cell 0
        have hp1 := BP1.out.cell 1
        have hp2 := BP1.out.cell 2
        have hp3 := BP1.out.cell 3
        have hp4 := BP1.out.cell 4
        simp at hp0 hp1 hp2 hp3 hp4
        cases hS : setB key with
        | false =>
          replace HE : Hid (groupB n key b t P by' = false) := by unfold Hid; rw [HE.out, hS]; rfl
          go_wp2
          go_ret
          exact ⟨retB HE.out.symm, HB1.out⟩
        | true =>
          replace HE : Hid (groupB n key b t P by' = (inB b 0 99999 && ((decide (t = -1) || inB t b 99999) && decide (0 < P.length)))) := by unfold Hid; rw [HE.out, hS]; rfl
          go_wp2_with fail
          refine (l1In_any b 0 99999 w1).mono ?_
          rintro e w2 ⟨rfl, rfl⟩
          cases hI : inB b 0 99999 with
          | false =>
            replace HE : Hid (groupB n key b t P by' = false) := by unfold Hid; rw [HE.out, hI]; rfl
            go_wp2
            go_ret
            exact ⟨retB HE.out.symm, HB1.out⟩
          | true =>
            replace HE : Hid (groupB n key b t P by' = ((decide (t = -1) || inB t b 99999) && decide (0 < P.length))) := by unfold Hid; rw [HE.out, hI]; rfl
            by_cases ht : t = -1
            · replace HE : Hid (groupB n key b t P by' = decide (0 < P.length)) := by unfold Hid; rw [HE.out, decide_eq_true ht]; rfl
              have ht' : (t == -1) = true := by simpa using ht
              by_cases hpl : 0 < P.length
              · replace HE : Hid (groupB n key b t P by' = true) := by unfold Hid; rw [HE.out, decide_eq_true hpl]
                have hpl' : (0 : Int) < (P.length : Int) := by omega
                go_wp2
                go_ret
                exact ⟨retB HE.out.symm, HB1.out⟩
              · replace HE : Hid (groupB n key b t P by' = false) := by unfold Hid; rw [HE.out, decide_eq_false hpl]
                have hpl' : ¬ (0 : Int) < (P.length : Int) := by omega
                go_wp2
                go_ret
                exact ⟨retB HE.out.symm, HB1.out⟩
            · replace HE : Hid (groupB n key b t P by' = (inB t b 99999 && decide (0 < P.length))) := by unfold Hid; rw [HE.out, decide_eq_false ht]; rfl
              have ht' : (t == -1) = false := by simpa using ht
              go_wp2_with fail
              refine (l1In_any t b 99999 w2).mono ?_
              rintro e w3 ⟨rfl, rfl⟩
              cases hJ : inB t b 99999 with
              | false =>
                replace HE : Hid (groupB n key b t P by' = false) := by unfold Hid; rw [HE.out, hJ]; rfl
                go_wp2
                go_ret
                exact ⟨retB HE.out.symm, HB1.out⟩
              | true =>
                replace HE : Hid (groupB n key b t P by' = decide (0 < P.length)) := by unfold Hid; rw [HE.out, hJ]; rfl
                by_cases hpl : 0 < P.length
                · replace HE : Hid (groupB n key b t P by' = true) := by unfold Hid; rw [HE.out, decide_eq_true hpl]
                  have hpl' : (0 : Int) < (P.length : Int) := by omega
                  go_wp2
                  go_ret
                  exact ⟨retB HE.out.symm, HB1.out⟩
                · replace HE : Hid (groupB n key b t P by' = false) := by unfold Hid; rw [HE.out, decide_eq_false hpl]
                  have hpl' : ¬ (0 : Int) < (P.length : Int) := by omega
                  go_wp2
                  go_ret
                  exact ⟨retB HE.out.symm, HB1.out⟩
      · replace HE : Hid (groupB n key b t P by' = false) := by unfold Hid; rw [HE.out, decide_eq_false hn]; rfl
        have hn' : ¬ n ≥ 0 := hn
        go_wp2
        go_ret
        exact ⟨retB HE.out.symm, HBw.out⟩
end Go.Proofs.Ytgncimlojbnbfaa.GrpG
