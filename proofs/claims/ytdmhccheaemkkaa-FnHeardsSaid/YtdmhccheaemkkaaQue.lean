/-
  PROVED: impl.queueOf and spec.l9Copy give what is told, in memory of its own; the queue's add, drop and take turn it as plain functions on lists say; nothing else that was there is changed.
-/
import Derived.Test.YtdmhccheaemkkaaLsA
import Derived.Test.YtdmhccheaemkkaaLsO
import Derived.Test.YtdmhccheaemkkaaHld
namespace Go.Proofs.Ytdmhccheaemkkaa.Que
open Go.RowKit
open Go.Proofs.Ytdmhccheaemkkaa.Labs Go.Proofs.Ytdmhccheaemkkaa.LabS Go.Proofs.Ytdmhccheaemkkaa.Alms Go.Proofs.Ytdmhccheaemkkaa.AlmM Go.Proofs.Ytdmhccheaemkkaa.Over Go.Proofs.Ytdmhccheaemkkaa.Blk Go.Proofs.Ytdmhccheaemkkaa.App Go.Proofs.Ytdmhccheaemkkaa.Rws Go.Proofs.Ytdmhccheaemkkaa.ChnI Go.Proofs.Ytdmhccheaemkkaa.ChnC Go.Proofs.Ytdmhccheaemkkaa.ChnT Go.Proofs.Ytdmhccheaemkkaa.ChnK Go.Proofs.Ytdmhccheaemkkaa.Chs
open Go.Proofs.Ytdmhccheaemkkaa.ChnP (set2 own_grow)
set_option linter.unusedVariables false

/-- what one has behind a telling, and whether it lags then -/
def tellB (P : List PAl) (g : Bool) (x : PAl) : List PAl × Bool := if g = true then (P, true) else if 3 ≤ P.length then ([], true) else (P ++ [x], false)
theorem tell_lag (P : List PAl) (x : PAl) : tellB P true x = (P, true) := rfl
theorem tell_full {P : List PAl} (x : PAl) (h : 3 ≤ P.length) : tellB P false x = ([], true) := by simp [tellB, h]
theorem tell_room {P : List PAl} (x : PAl) (h : ¬ 3 ≤ P.length) : tellB P false x = (P ++ [x], false) := by simp [tellB, h]
theorem len_of {rs : List ARow} {P : List PAl} (h : pals rs = P) : rs.length = P.length := by rw [← pals_len, h]
theorem Only.grown {S : Nat → Prop} {M : Nat} {w w' : World} (h : w.grownBy w' (some M)) (hM : S M) : Only S w w' :=
  ⟨h.os, h.tape, h.output, h.size, fun k hk hn => h.block k hk (fun e => hn (by rw [Option.some.inj e]; exact hM))⟩
theorem Only.imp {S T : Nat → Prop} {w w' : World} (h : Only S w w') (hi : ∀ k, S k → T k) : Only T w w' := ⟨h.os, h.tape, h.output, h.size, fun k hk hn => h.block k hk (fun hs => hn (hi k hs))⟩
theorem sub_moved {w : World} {N : Nat} {cs : Array Value} {T : TypeId} (hN : Blk w N cs T) (hA : T ≠ 29) (hL : T ≠ 102) (v0 v1 : Value) : Moved w ((w.setCell ⟨N, 0, none⟩ v0).setCell ⟨N, 1, none⟩ v1) :=
  (Moved.set hN hA hL 0 v0).trans (Moved.set (hN.set 0 v0) hA hL 1 v1)

set_option maxHeartbeats 1600000 in
theorem queueOf_any (a : Option Addr) (cap : Nat) (P : List PAl) (g : Bool) (w : World) (hr : RdA w a P) (hl : P.length ≤ 1048576) (hs : LenM P) :
    Calls Try.prog 44 #[.agg #[.slice a P.length cap, .bool g]] w fun e w' => (∃ M rs, e = .returned (.agg #[.slice (some ⟨M, 0, none⟩) P.length P.length, .bool g]) ∧ AB (w.heap.size + 2) w' M P.length rs ∧ pals rs = P) ∧ Below w.heap.size w w' := by
  have HR : Hid (RdA w a P ∧ LenM P) := ⟨hr, hs⟩
  clear hr hs
  go_enter Try.func44, Try.ntmps44
  go_wp2
  generalize hW0 : (w.alloc (.cells #[.slice a P.length cap, .bool g] 26)).alloc (.cells #[.slice none 0 0, .bool false] 69) = W0
  have C0 : Hid (Blk W0 w.heap.size #[.slice a P.length cap, .bool g] 26) := by rw [← hW0]; exact (Blk.new _ _ _).alloc _
  have R0 : Hid (Blk W0 (w.heap.size + 1) #[.slice none 0 0, .bool false] 69) := by rw [← hW0]; exact Blk.new_at (by simp)
  have HB0 : Hid (Below w.heap.size w W0) := by rw [← hW0]; exact Go.Joins.below_alloc2 w _ _
  have HZ0 : Hid (W0.heap.size = w.heap.size + 2) := by show _ = _; rw [← hW0]; simp
  clear hW0
  have HC : Hid (∀ y, Below W0.heap.size W0 y → Calls Try.prog 75 #[.slice a P.length cap] y fun e w' => (∃ M rs, e = .returned (.slice (some ⟨M, 0, none⟩) P.length P.length) ∧ AB y.heap.size w' M P.length rs ∧ pals rs = P) ∧ Below y.heap.size y w') := fun y hy => implCopies_any a cap P y (HR.out.1.below (grow_on HB0.out hy)) hl HR.out.2
  have HS : Hid (∀ w', Blk w' w.heap.size #[.slice a P.length cap, .bool g] 26 → w'.cell? ⟨w.heap.size, 0, none⟩ = some (.slice a P.length cap) ∧ w'.cell? ⟨w.heap.size, 1, none⟩ = some (.bool g)) := fun w' h => ⟨h.cell 0, h.cell 1⟩
  refine wp_region_held_drew (S := fun w' => w'.cell? ⟨w.heap.size, 0, none⟩ = some (.slice a P.length cap) ∧ w'.cell? ⟨w.heap.size, 1, none⟩ = some (.bool g)) (by kernel_rfl) (HS.out _ C0.out.drew) (fun hHeld => ?_)
  refine wpAnyH_take (i := 0) (oi := { dst := some 3, op := Op.fieldAddr 26 (Operand.tmp 1) 0, type := 0, pos := "l09_sub.go:28", after := #[], guard := none }) (v := ?vc0) rfl (by kernel_rfl) (by kernel_rfl) (by kernel_rfl) (fun _ _ _ h => h) (Or.inl ⟨by rfl, ?hyc0⟩) hHeld ?_
  case hyc0 => (intro w hSw; (try dsimp only at hSw); go_simp <;> with_reducible rfl)
  try simp only [Act.put, List.setIfInBounds_toArray, List.set_cons_zero, List.set_cons_succ]
  refine wpAnyH_take (i := 1) (oi := { dst := some 4, op := Op.load 24 (Operand.tmp 3), type := 24, pos := "l09_sub.go:28", after := #[{ on := 0, ground := Ground.data }], guard := none }) (v := ?vc1) rfl (by kernel_rfl) (by kernel_rfl) (by kernel_rfl) (fun _ _ _ h => h) (Or.inl ⟨by rfl, ?hyc1⟩) hHeld ?_
  case hyc1 => (intro w hSw; (try dsimp only at hSw); go_simp <;> with_reducible rfl)
  try simp only [Act.put, List.setIfInBounds_toArray, List.set_cons_zero, List.set_cons_succ]
  refine wpAnyH_take (i := 3) (oi := { dst := some 6, op := Op.fieldAddr 26 (Operand.tmp 1) 1, type := 0, pos := "l09_sub.go:28", after := #[], guard := none }) (v := ?vc3) rfl (by kernel_rfl) (by kernel_rfl) (by kernel_rfl) (fun _ _ _ h => h) (Or.inl ⟨by rfl, ?hyc3⟩) hHeld ?_
  case hyc3 => (intro w hSw; (try dsimp only at hSw); go_simp <;> with_reducible rfl)
  try simp only [Act.put, List.setIfInBounds_toArray, List.set_cons_zero, List.set_cons_succ]
  refine wpAnyH_take (i := 4) (oi := { dst := some 7, op := Op.load 4 (Operand.tmp 6), type := 4, pos := "l09_sub.go:28", after := #[{ on := 3, ground := Ground.data }], guard := none }) (v := ?vc4) rfl (by kernel_rfl) (by kernel_rfl) (by kernel_rfl) (fun _ _ _ h => h) (Or.inl ⟨by rfl, ?hyc4⟩) hHeld ?_
  case hyc4 => (intro w hSw; (try dsimp only at hSw); go_simp <;> with_reducible rfl)
  try simp only [Act.put, List.setIfInBounds_toArray, List.set_cons_zero, List.set_cons_succ]
  refine wpAnyH_ready (rs := [2]) (by kernel_rfl) (by simp) ?_
  refine AllReadyH.cons (o := { dst := some 5, op := Op.call { callee := Callee.value (Operand.func 75), args := #[Operand.tmp 4], argTypes := #[24] }, type := 24, pos := "l09_sub.go:28", after := #[{ on := 1, ground := Ground.data }], guard := none }) rfl (fun K hK => ?_) AllReadyH.nil
  go_simp
  refine (HC.out _ (Below.refl _ _).drew).mono ?_
  rintro r wyc2 ⟨⟨M, rs, rfl, hab, hp⟩, hy⟩
  have HZ : Hid (Below W0.heap.size W0 wyc2) := grow_on (Below.refl _ _).drew hy
  have HAB : Hid (AB (w.heap.size + 2) wyc2 M P.length rs) := hab.down (by show w.heap.size + 2 ≤ W0.drew.heap.size; have := HZ0.out; simp; omega)
  have HP : Hid (pals rs = P) := hp
  have hR := R0.out.grow HZ.out
  have r0 : wyc2.cell? ⟨w.heap.size + 1, 0, none⟩ = some (.slice none 0 0) := hR.cell 0
  have r1 : wyc2.cell? ⟨w.heap.size + 1, 1, none⟩ = some (.bool false) := hR.cell 1
  have f0 := hR.frozen 0
  have f1 := hR.frozen 1
  clear hy hab hp hR
  clear hHeld
  refine hK.out _ _ (HS.out _ (C0.out.grow HZ.out)) (fun hHeld => ?_)
  clear hK K
  try simp only [Act.put, List.setIfInBounds_toArray, List.set_cons_zero, List.set_cons_succ]
  refine wpAnyH_take (i := 5) (oi := { dst := some 8, op := Op.build 69 #[(0, Operand.tmp 5), (1, Operand.tmp 7)], type := 69, pos := "l09_sub.go:28", after := #[{ on := 2, ground := Ground.data }, { on := 4, ground := Ground.data }], guard := none }) (v := ?vc5) rfl (by kernel_rfl) (by kernel_rfl) (by kernel_rfl) (fun _ _ _ h => h) (Or.inl ⟨by rfl, ?hyc5⟩) hHeld ?_
  case hyc5 => (intro w hSw; (try dsimp only at hSw); go_simp <;> with_reducible rfl)
  try simp only [Act.put, List.setIfInBounds_toArray, List.set_cons_zero, List.set_cons_succ]
  have hne : w.heap.size + 1 ≠ w.heap.size := by omega
  refine wpAnyH_ready (rs := [6]) (by kernel_rfl) (by simp) ?_
  refine AllReadyH.cons (o := { dst := none, op := Op.store 69 (Operand.tmp 2) (Operand.tmp 8), type := 0, pos := "l09_sub.go:28", after := #[{ on := 5, ground := Ground.data }, { on := 2, ground := Ground.chain }, { on := 0, ground := Ground.phase }, { on := 1, ground := Ground.phase }, { on := 2, ground := Ground.phase }, { on := 3, ground := Ground.phase }, { on := 4, ground := Ground.phase }, { on := 5, ground := Ground.phase }], guard := none }) rfl (fun K hK => ?_) AllReadyH.nil
  go_simp
  clear hHeld
  refine hK.out _ _ (HS.out _ (((C0.out.grow HZ.out).set_other hne _).set_other hne _)) (fun hHeld => ?_)
  clear hK K
  try simp only [Act.put, List.setIfInBounds_toArray, List.set_cons_zero, List.set_cons_succ]
  refine wpAnyH_done (by kernel_rfl) ?_ _
  go_wp2
  have hs : Blk ((wyc2.setCell ⟨w.heap.size + 1, 0, none⟩ (.slice (some ⟨M, 0, none⟩) P.length P.length)).setCell ⟨w.heap.size + 1, 1, none⟩ (.bool g)) (w.heap.size + 1) #[.slice (some ⟨M, 0, none⟩) P.length P.length, .bool g] 69 := ((R0.out.grow HZ.out).set 0 _).set 1 _
  have s0 := hs.cell 0
  have s1 := hs.cell 1
  refine bodyPost_ret (v := .agg #[.slice (some ⟨M, 0, none⟩) P.length P.length, .bool g]) (by simp [results, Try.results44, go_sem, s0, s1]) rfl ?_
  exact ⟨⟨M, rs, rfl, Chs.ab_moved HAB.out (sub_moved (R0.out.grow HZ.out) (by decide) (by decide) _ _), HP.out⟩, set2 (grow_on HB0.out HZ.out) (by omega) _ _⟩
set_option maxHeartbeats 1600000 in
theorem l9Copy_any (a : Option Addr) (cap : Nat) (P : List PAl) (g : Bool) (w : World) (hr : RdN w a P) (hl : P.length ≤ 1048576) (hs : LenM P) :
    Calls Try.prog 51 #[.agg #[.slice a P.length cap, .bool g]] w fun e w' => (∃ M c rs, e = .returned (.agg #[.slice (some ⟨M, 0, none⟩) rs.length c, .bool g]) ∧ AB (w.heap.size + 2) w' M c rs ∧ pals rs = P) ∧ Below w.heap.size w w' := by
  have HR : Hid (RdN w a P ∧ LenM P) := ⟨hr, hs⟩
  clear hr hs
  go_enter Try.func51, Try.ntmps51
  go_wp2
  generalize hW0 : (w.alloc (.cells #[.slice a P.length cap, .bool g] 26)).alloc (.cells #[.slice none 0 0, .bool false] 26) = W0
  have C0 : Hid (Blk W0 w.heap.size #[.slice a P.length cap, .bool g] 26) := by rw [← hW0]; exact (Blk.new _ _ _).alloc _
  have R0 : Hid (Blk W0 (w.heap.size + 1) #[.slice none 0 0, .bool false] 26) := by rw [← hW0]; exact Blk.new_at (by simp)
  have HB0 : Hid (Below w.heap.size w W0) := by rw [← hW0]; exact Go.Joins.below_alloc2 w _ _
  have HZ0 : Hid (W0.heap.size = w.heap.size + 2) := by show _ = _; rw [← hW0]; simp
  clear hW0
  have HC : Hid (∀ y, Below W0.heap.size W0 y → Calls Try.prog 48 #[.slice a P.length cap] y fun e w' => (∃ M c rs, e = .returned (.slice (some ⟨M, 0, none⟩) rs.length c) ∧ AB y.heap.size w' M c rs ∧ pals rs = P) ∧ Below y.heap.size y w') := fun y hy => l4All_any a cap P y (HR.out.1.below (grow_on HB0.out hy)) hl HR.out.2
  have HS : Hid (∀ w', Blk w' w.heap.size #[.slice a P.length cap, .bool g] 26 → w'.cell? ⟨w.heap.size, 0, none⟩ = some (.slice a P.length cap) ∧ w'.cell? ⟨w.heap.size, 1, none⟩ = some (.bool g)) := fun w' h => ⟨h.cell 0, h.cell 1⟩
  refine wp_region_held_drew (S := fun w' => w'.cell? ⟨w.heap.size, 0, none⟩ = some (.slice a P.length cap) ∧ w'.cell? ⟨w.heap.size, 1, none⟩ = some (.bool g)) (by kernel_rfl) (HS.out _ C0.out.drew) (fun hHeld => ?_)
  refine wpAnyH_take (i := 0) (oi := { dst := some 3, op := Op.fieldAddr 26 (Operand.tmp 1) 1, type := 0, pos := "l09_sub.go:16", after := #[], guard := none }) (v := ?vc0) rfl (by kernel_rfl) (by kernel_rfl) (by kernel_rfl) (fun _ _ _ h => h) (Or.inl ⟨by rfl, ?hyc0⟩) hHeld ?_
  case hyc0 => (intro w hSw; (try dsimp only at hSw); go_simp <;> with_reducible rfl)
  try simp only [Act.put, List.setIfInBounds_toArray, List.set_cons_zero, List.set_cons_succ]
  refine wpAnyH_take (i := 1) (oi := { dst := some 4, op := Op.load 4 (Operand.tmp 3), type := 4, pos := "l09_sub.go:16", after := #[{ on := 0, ground := Ground.data }], guard := none }) (v := ?vc1) rfl (by kernel_rfl) (by kernel_rfl) (by kernel_rfl) (fun _ _ _ h => h) (Or.inl ⟨by rfl, ?hyc1⟩) hHeld ?_
  case hyc1 => (intro w hSw; (try dsimp only at hSw); go_simp <;> with_reducible rfl)
  try simp only [Act.put, List.setIfInBounds_toArray, List.set_cons_zero, List.set_cons_succ]
  refine wpAnyH_take (i := 2) (oi := { dst := some 5, op := Op.fieldAddr 26 (Operand.tmp 1) 0, type := 0, pos := "l09_sub.go:16", after := #[], guard := none }) (v := ?vc2) rfl (by kernel_rfl) (by kernel_rfl) (by kernel_rfl) (fun _ _ _ h => h) (Or.inl ⟨by rfl, ?hyc2⟩) hHeld ?_
  case hyc2 => (intro w hSw; (try dsimp only at hSw); go_simp <;> with_reducible rfl)
  try simp only [Act.put, List.setIfInBounds_toArray, List.set_cons_zero, List.set_cons_succ]
  refine wpAnyH_take (i := 3) (oi := { dst := some 6, op := Op.load 24 (Operand.tmp 5), type := 24, pos := "l09_sub.go:16", after := #[{ on := 2, ground := Ground.data }], guard := none }) (v := ?vc3) rfl (by kernel_rfl) (by kernel_rfl) (by kernel_rfl) (fun _ _ _ h => h) (Or.inl ⟨by rfl, ?hyc3⟩) hHeld ?_
  case hyc3 => (intro w hSw; (try dsimp only at hSw); go_simp <;> with_reducible rfl)
  try simp only [Act.put, List.setIfInBounds_toArray, List.set_cons_zero, List.set_cons_succ]
  refine wpAnyH_ready (rs := [4]) (by kernel_rfl) (by simp) ?_
  refine AllReadyH.cons (o := { dst := some 7, op := Op.call { callee := Callee.value (Operand.func 48), args := #[Operand.tmp 6], argTypes := #[24] }, type := 24, pos := "l09_sub.go:16", after := #[{ on := 3, ground := Ground.data }], guard := none }) rfl (fun K hK => ?_) AllReadyH.nil
  go_simp
  refine (HC.out _ (Below.refl _ _).drew).mono ?_
  rintro r wyc4 ⟨⟨M, c, rs, rfl, hab, hp⟩, hy⟩
  have HZ : Hid (Below W0.heap.size W0 wyc4) := grow_on (Below.refl _ _).drew hy
  have HAB : Hid (AB (w.heap.size + 2) wyc4 M c rs) := hab.down (by show w.heap.size + 2 ≤ W0.drew.heap.size; have := HZ0.out; simp; omega)
  have HP : Hid (pals rs = P) := hp
  have hR := R0.out.grow HZ.out
  have r0 : wyc4.cell? ⟨w.heap.size + 1, 0, none⟩ = some (.slice none 0 0) := hR.cell 0
  have r1 : wyc4.cell? ⟨w.heap.size + 1, 1, none⟩ = some (.bool false) := hR.cell 1
  have f0 := hR.frozen 0
  have f1 := hR.frozen 1
  clear hy hab hp hR
  clear hHeld
  refine hK.out _ _ (HS.out _ (C0.out.grow HZ.out)) (fun hHeld => ?_)
  clear hK K
  try simp only [Act.put, List.setIfInBounds_toArray, List.set_cons_zero, List.set_cons_succ]
  refine wpAnyH_take (i := 5) (oi := { dst := some 8, op := Op.build 26 #[(1, Operand.tmp 4), (0, Operand.tmp 7)], type := 26, pos := "l09_sub.go:16", after := #[{ on := 1, ground := Ground.data }, { on := 4, ground := Ground.data }], guard := none }) (v := ?vc5) rfl (by kernel_rfl) (by kernel_rfl) (by kernel_rfl) (fun _ _ _ h => h) (Or.inl ⟨by rfl, ?hyc5⟩) hHeld ?_
  case hyc5 => (intro w hSw; (try dsimp only at hSw); go_simp <;> with_reducible rfl)
  try simp only [Act.put, List.setIfInBounds_toArray, List.set_cons_zero, List.set_cons_succ]
  have hne : w.heap.size + 1 ≠ w.heap.size := by omega
  refine wpAnyH_ready (rs := [6]) (by kernel_rfl) (by simp) ?_
  refine AllReadyH.cons (o := { dst := none, op := Op.store 26 (Operand.tmp 2) (Operand.tmp 8), type := 0, pos := "l09_sub.go:16", after := #[{ on := 5, ground := Ground.data }, { on := 4, ground := Ground.chain }, { on := 0, ground := Ground.phase }, { on := 1, ground := Ground.phase }, { on := 2, ground := Ground.phase }, { on := 3, ground := Ground.phase }, { on := 4, ground := Ground.phase }, { on := 5, ground := Ground.phase }], guard := none }) rfl (fun K hK => ?_) AllReadyH.nil
  go_simp
  clear hHeld
  refine hK.out _ _ (HS.out _ (((C0.out.grow HZ.out).set_other hne _).set_other hne _)) (fun hHeld => ?_)
  clear hK K
  try simp only [Act.put, List.setIfInBounds_toArray, List.set_cons_zero, List.set_cons_succ]
  refine wpAnyH_done (by kernel_rfl) ?_ _
  go_wp2
  have hs : Blk ((wyc4.setCell ⟨w.heap.size + 1, 0, none⟩ (.slice (some ⟨M, 0, none⟩) rs.length c)).setCell ⟨w.heap.size + 1, 1, none⟩ (.bool g)) (w.heap.size + 1) #[.slice (some ⟨M, 0, none⟩) rs.length c, .bool g] 26 := ((R0.out.grow HZ.out).set 0 _).set 1 _
  have s0 := hs.cell 0
  have s1 := hs.cell 1
  refine bodyPost_ret (v := .agg #[.slice (some ⟨M, 0, none⟩) rs.length c, .bool g]) (by simp [results, Try.results51, go_sem, s0, s1]) rfl ?_
  exact ⟨⟨M, c, rs, rfl, Chs.ab_moved HAB.out (sub_moved (R0.out.grow HZ.out) (by decide) (by decide) _ _), HP.out⟩, set2 (grow_on HB0.out HZ.out) (by omega) _ _⟩
/-- clear of a slice that is a whole row's beginning -/
theorem run_clear_row {P : Program} (w : World) (t e ty : TypeId) (z : Value) (k : Nat) (ht : P.underlying t = some (.slice e)) (hv : ∀ w, (zeroValue e).run P w = .ok z w) (hk : z.cells.size = k) (h1 : ∀ v ∈ z.cells.toList, v.oneCell' = true) (g n c : Nat) (cur : Array Value)
    (hg : Blk w g cur e) (hn : 0 < n) (hs : n * k ≤ cur.size) : ∃ cur' : Array Value, (Builtin.clear_ #[t] ty #[.slice (some ⟨g, 0, none⟩) n c]).run P w = .ok (.tuple #[]) (w.setRow g cur') ∧ cur'.size = cur.size := by
  have hl : (Builtin.zeroCells z.cells n).toList.length = n * k := by simp [Builtin.zeroCells, hk]
  have hst := run_storeCells_at (P := P) g 0 e (Builtin.zeroCells z.cells n).toList 0 cur w hg (by rw [hl]; omega) (by
    intro v hv'
    simp only [Builtin.zeroCells, Array.toList_map, List.mem_map] at hv'
    obtain ⟨i, hi, rfl⟩ := hv'
    have hi' : i < n * z.cells.size := by simpa using hi
    have hpos : 0 < z.cells.size := Nat.pos_of_ne_zero (fun h0 => by rw [h0] at hi'; omega)
    have hlt := Nat.mod_lt i hpos
    rw [getElem!_pos z.cells (i % z.cells.size) hlt]
    exact h1 _ (by simp))
  obtain ⟨m, rfl⟩ : ∃ m, n = m + 1 := ⟨n - 1, by omega⟩
  refine ⟨_, by simp only [Builtin.clear_]; simp [run_underlying ht, hv]; rw [hst]; rfl, ?_⟩
  simp [hl]
  omega
theorem zeroA (w : World) : (zeroValue 29).run Try.prog w = .ok (.agg #[.slice none 0 0, .int .i64 0, .int .i64 0, .string ByteArray.empty]) w := by kernel_rfl
theorem row_far {w : World} {g N : Nat} {cs cs' : Array Value} {T : TypeId} (h : Blk w N cs T) (hne : N ≠ g) : Blk (w.setRow g cs') N cs T := by unfold Blk at *; rw [setRow_other w g N cs' hne]; exact h
theorem only_row {S : Nat → Prop} {w : World} {g : Nat} {cs' : Array Value} (hM : S g) : Only S w (w.setRow g cs') :=
  ⟨rfl, rfl, rfl, by simp [World.setRow], fun k hk hn => setRow_other w g k cs' (fun e => hn (by rw [e]; exact hM))⟩
set_option maxHeartbeats 800000 in
theorem drop_any (N M n c : Nat) (g : Bool) (cur : Array Value) (w : World) (hN : Blk w N #[.slice (some ⟨M, 0, none⟩) n c, .bool g] 69) (hM : Blk w M cur 29) (hn : 0 < n) (hc : n * 4 ≤ cur.size) (hcc : n ≤ c) :
    Calls Try.prog 76 #[.pointer (some ⟨N, 0, none⟩)] w fun e w' => e = .returned (.tuple #[]) ∧ Blk w' N #[.slice (some ⟨M, 0, none⟩) 0 c, .bool true] 69 ∧ (∃ cur' : Array Value, Blk w' M cur' 29 ∧ cur'.size = cur.size) ∧ Only (fun k => k = N ∨ k = M) w w' := by
  have hNM : N ≠ M := fun e => by
    subst e
    unfold Blk at hN hM
    rw [hN] at hM
    injection hM with hM
    injection hM with _ hM
    exact absurd hM (by decide)
  obtain ⟨cur', hcl', hsz⟩ := run_clear_row (P := Try.prog) w 24 29 0 (.agg #[.slice none 0 0, .int .i64 0, .int .i64 0, .string ByteArray.empty]) 4 Try.underlying24 zeroA rfl (by decide) M n c cur hM hn hc
  generalize hW : w.setRow M cur' = W at hcl'
  have HN : Hid (Blk W N #[.slice (some ⟨M, 0, none⟩) n c, .bool g] 69) := by rw [← hW]; exact row_far hN hNM
  have HM : Hid (Blk W M cur' 29 ∧ cur'.size = cur.size) := ⟨by rw [← hW]; exact setRow_heap w M _ _ _ _ hM, hsz⟩
  have HO : Hid (Only (fun k => k = N ∨ k = M) w W) := by rw [← hW]; exact only_row (.inr rfl)
  have hcl : ∀ ty, (Builtin.clear_ #[24] ty #[.slice (some ⟨M, 0, none⟩) n c]).run Try.prog w = .ok (.tuple #[]) W := fun ty => hcl'
  have c0 : w.cell? ⟨N, 0, none⟩ = some (.slice (some ⟨M, 0, none⟩) n c) := hN.cell 0
  have d0 : W.cell? ⟨N, 0, none⟩ = some (.slice (some ⟨M, 0, none⟩) n c) := HN.out.cell 0
  have d1 : W.cell? ⟨N, 1, none⟩ = some (.bool g) := HN.out.cell 1
  have f0 := HN.out.frozen 0
  have f1 := HN.out.frozen 1
  have hcc2 : (n : Int) ≤ (c : Int) := by omega
  clear hN hM hW hsz hcl'
  go_enter Try.func76, Try.ntmps76
  go_wp2_with (simp only [hcl])
  go_end0
  exact ⟨rfl, (HN.out.set 0 _).set 1 _, ⟨cur', (HM.out.1.set_other hNM _).set_other hNM _, HM.out.2⟩, (HO.out.set (.inl rfl) _ _).set (.inl rfl) _ _⟩
theorem ne_blk {w : World} {a b : Nat} {cs ds : Array Value} {T U : TypeId} (h : Blk w a cs T) (k : Blk w b ds U) (hT : T ≠ U) : a ≠ b := fun e => by
  subst e
  unfold Blk at h k
  rw [h] at k
  injection k with k
  injection k with _ k
  exact hT k
set_option maxRecDepth 100000 in
set_option maxHeartbeats 1600000 in
theorem add_any (lo N M c gx cx : Nat) (rs : List ARow) (g : Bool) (x : PAl) (w : World) (hN : Blk w N #[.slice (some ⟨M, 0, none⟩) rs.length c, .bool g] 69) (hAB : AB lo w M c rs) (hx : OwnA lo w (gx, cx, x)) (hne : ∀ y ∈ rs, y.1 ≠ gx) :
    Calls Try.prog 45 #[.pointer (some ⟨N, 0, none⟩), .agg #[.slice (some ⟨gx, 0, none⟩) x.l.length cx, .int .i64 x.s, .int .i64 x.e, .string x.n]] w fun e w' => e = .returned (.tuple #[]) ∧ (∃ M' c' rs', Blk w' N #[.slice (some ⟨M', 0, none⟩) rs'.length c', .bool (tellB (pals rs) g x).2] 69 ∧ AB lo w' M' c' rs' ∧ pals rs' = (tellB (pals rs) g x).1) ∧ Only (fun k => k = N ∨ k = M) w w' := by
  have HN : Hid (Blk w N #[.slice (some ⟨M, 0, none⟩) rs.length c, .bool g] 69) := hN
  have HA : Hid (AB lo w M c rs) := hAB
  have HX : Hid (OwnA lo w (gx, cx, x) ∧ ∀ y ∈ rs, y.1 ≠ gx) := ⟨hx, hne⟩
  have c0 : w.cell? ⟨N, 0, none⟩ = some (.slice (some ⟨M, 0, none⟩) rs.length c) := hN.cell 0
  have c1 : w.cell? ⟨N, 1, none⟩ = some (.bool g) := hN.cell 1
  have hNlt := hN.lt
  have hNe : N ≠ w.heap.size := by omega
  clear hN hAB hx hne
  cases g with
  | true =>
    go_enter Try.func45, Try.ntmps45
    go_wp2
    (try simp only [Exit.inBlock, Exit.then]); refine bodyPost_ret (results_none rfl _ _ _) rfl ?_
    exact ⟨rfl, ⟨M, c, rs, HN.out.alloc _, HA.out.grow (Go.Joins.below_alloc1 w _), rfl⟩, Only.of (Go.Joins.below_alloc1 w _)⟩
  | false =>
    by_cases h3 : 3 ≤ rs.length
    · have h3' : (3 : Int) ≤ (rs.length : Int) := by omega
      have HT : Hid (tellB (pals rs) false x = ([], true)) := tell_full x (by rw [pals_len]; exact h3)
      obtain ⟨cur, hcur, hcs, _⟩ := HA.out.outer
      have hcap := HA.out.cap
      have HC : Hid (∀ y, Below w.heap.size w y → Calls Try.prog 76 #[.pointer (some ⟨N, 0, none⟩)] y fun e w' => e = .returned (.tuple #[]) ∧ Blk w' N #[.slice (some ⟨M, 0, none⟩) 0 c, .bool true] 69 ∧ (∃ cur' : Array Value, Blk w' M cur' 29 ∧ cur'.size = cur.size) ∧ Only (fun k => k = N ∨ k = M) y w') := fun y hy => drop_any N M rs.length c false cur y (HN.out.grow hy) (hcur.grow hy) (by omega) (by omega) hcap.1
      have HS : Hid (cur.size = c * 4 ∧ c ≤ maxLen) := ⟨hcs, hcap.2⟩
      clear hcur hcs hcap
      go_enter Try.func45, Try.ntmps45
      go_wp2_with fail
      refine (HC.out _ (Go.Joins.below_alloc1 w _)).mono ?_
      rintro e w1 ⟨rfl, hN1, ⟨cur', hM1, hs1⟩, ho⟩
      have H1 : Hid (Blk w1 N #[.slice (some ⟨M, 0, none⟩) 0 c, .bool true] 69 ∧ AB lo w1 M c [] ∧ Only (fun k => k = N ∨ k = M) w w1) := ⟨hN1, ⟨HA.out.at', ⟨Nat.zero_le _, HS.out.2⟩, ⟨cur', hM1, hs1.trans HS.out.1, fun i hi => by simp at hi⟩, fun y hy => by simp at hy, List.Pairwise.nil⟩, Only.ahead (Go.Joins.below_alloc1 w _) ho⟩
      clear hN1 hM1 hs1 ho c0 c1 HC
      go_wp2
      (try simp only [Exit.inBlock, Exit.then]); refine bodyPost_ret (results_none rfl _ _ _) rfl ?_
      exact ⟨rfl, ⟨M, c, [], by rw [HT.out]; exact H1.out.1, H1.out.2.1, by rw [HT.out]; rfl⟩, H1.out.2.2⟩
    · have h3' : (rs.length : Int) < 3 := by omega
      have HT : Hid (tellB (pals rs) false x = (pals rs ++ [x], false)) := tell_room x (by rw [pals_len]; exact h3)
      obtain ⟨i0, hi, hz0, hz1, hz2⟩ := info_parts infoA
      go_enter Try.func45, Try.ntmps45
      go_wp2
      generalize hW0 : w.alloc (.cells #[.slice (some ⟨gx, 0, none⟩) x.l.length cx, .int .i64 x.s, .int .i64 x.e, .string x.n] 29) = W0
      have X0 : Hid (Blk W0 w.heap.size #[.slice (some ⟨gx, 0, none⟩) x.l.length cx, .int .i64 x.s, .int .i64 x.e, .string x.n] 29) := by rw [← hW0]; exact Blk.new _ _ _
      have HB0 : Hid (Below w.heap.size w W0) := by rw [← hW0]; exact Go.Joins.below_alloc1 w _
      have N0 : Hid (Blk W0 N #[.slice (some ⟨M, 0, none⟩) rs.length c, .bool false] 69) := HN.out.grow HB0.out
      have A0 : Hid (AB lo W0 M c rs) := HA.out.grow HB0.out
      have HMN : Hid (M ≠ w.heap.size ∧ N ≠ M ∧ lo ≤ w.heap.size) := ⟨by have := HA.out.lt; omega, by obtain ⟨cu, hcu, _⟩ := HA.out.outer; exact ne_blk HN.out hcu (by decide), by have h0 := HA.out.lt; have h1 := HA.out.at'; omega⟩
      clear hW0 c0 c1
      obtain ⟨xs, hox, hxl, hxs⟩ := A0.out.own
      have HOX : Hid (∀ y, Below W0.heap.size W0 y → y.ownsRow lo 29 4 (.slice (some ⟨M, 0, none⟩) rs.length c) rs.length xs) := fun y hy => own_grow hox hy
      have HXS : Hid (xs.length = rs.length * 4 ∧ ∀ i, i < rs.length → Four (fun k => xs[k]?) i (nthA rs i)) := ⟨hxl, hxs⟩
      clear hox hxl hxs
      have HS : Hid (∀ w', Blk w' N #[.slice (some ⟨M, 0, none⟩) rs.length c, .bool false] 69 → Blk w' w.heap.size #[.slice (some ⟨gx, 0, none⟩) x.l.length cx, .int .i64 x.s, .int .i64 x.e, .string x.n] 29 → w'.cell? ⟨N, 0, none⟩ = some (.slice (some ⟨M, 0, none⟩) rs.length c) ∧ w'.cell? ⟨w.heap.size, 0, none⟩ = some (.slice (some ⟨gx, 0, none⟩) x.l.length cx) ∧ w'.cell? ⟨w.heap.size, 1, none⟩ = some (.int .i64 x.s) ∧ w'.cell? ⟨w.heap.size, 2, none⟩ = some (.int .i64 x.e) ∧ w'.cell? ⟨w.heap.size, 3, none⟩ = some (.string x.n)) := fun w' h k => ⟨h.cell 0, k.cell 0, k.cell 1, k.cell 2, k.cell 3⟩
      refine Hld.wp_region_LH (z := 10) (S := fun w' => w'.cell? ⟨N, 0, none⟩ = some (.slice (some ⟨M, 0, none⟩) rs.length c) ∧ w'.cell? ⟨w.heap.size, 0, none⟩ = some (.slice (some ⟨gx, 0, none⟩) x.l.length cx) ∧ w'.cell? ⟨w.heap.size, 1, none⟩ = some (.int .i64 x.s) ∧ w'.cell? ⟨w.heap.size, 2, none⟩ = some (.int .i64 x.e) ∧ w'.cell? ⟨w.heap.size, 3, none⟩ = some (.string x.n)) (by kernel_rfl) (HS.out _ N0.out.drew X0.out.drew) (fun hHeld => ?_)
      refine Hld.anyL_take (i := 0) (oi := { dst := some 16, op := Op.move (Operand.tmp 0), type := 99, pos := "l09_sub.go:40", after := #[], guard := none }) (v := ?vd1) rfl (by kernel_rfl) (by kernel_rfl) (by kernel_rfl) (by kernel_rfl) (fun _ _ _ h => h) (Or.inl ⟨by rfl, ?hyd1⟩) hHeld ?_
      case hyd1 => (intro w hSw; (try dsimp only at hSw); go_simp <;> with_reducible rfl)
      try simp only [Act.put, List.setIfInBounds_toArray, List.set_cons_zero, List.set_cons_succ]
      refine Hld.anyL_take (i := 1) (oi := { dst := some 17, op := Op.move (Operand.tmp 0), type := 99, pos := "l09_sub.go:40", after := #[], guard := none }) (v := ?vd2) rfl (by kernel_rfl) (by kernel_rfl) (by kernel_rfl) (by kernel_rfl) (fun _ _ _ h => h) (Or.inl ⟨by rfl, ?hyd2⟩) hHeld ?_
      case hyd2 => (intro w hSw; (try dsimp only at hSw); go_simp <;> with_reducible rfl)
      try simp only [Act.put, List.setIfInBounds_toArray, List.set_cons_zero, List.set_cons_succ]
      refine Hld.anyL_take (i := 2) (oi := { dst := some 18, op := Op.nilCheck (Operand.tmp 17), type := 0, pos := "l09_sub.go:40", after := #[{ on := 1, ground := Ground.data }], guard := none }) (v := ?vd3) rfl (by kernel_rfl) (by kernel_rfl) (by kernel_rfl) (by kernel_rfl) (fun _ _ _ h => h) (Or.inl ⟨by rfl, ?hyd3⟩) hHeld ?_
      case hyd3 => (intro w hSw; (try dsimp only at hSw); go_simp <;> with_reducible rfl)
      try simp only [Act.put, List.setIfInBounds_toArray, List.set_cons_zero, List.set_cons_succ]
      refine Hld.anyL_take (i := 3) (oi := { dst := some 19, op := Op.fieldAddr 69 (Operand.tmp 18) 0, type := 0, pos := "l09_sub.go:40", after := #[{ on := 2, ground := Ground.data }], guard := none }) (v := ?vd4) rfl (by kernel_rfl) (by kernel_rfl) (by kernel_rfl) (by kernel_rfl) (fun _ _ _ h => h) (Or.inl ⟨by rfl, ?hyd4⟩) hHeld ?_
      case hyd4 => (intro w hSw; (try dsimp only at hSw); go_simp <;> with_reducible rfl)
      try simp only [Act.put, List.setIfInBounds_toArray, List.set_cons_zero, List.set_cons_succ]
      refine Hld.anyL_take (i := 4) (oi := { dst := some 20, op := Op.load 24 (Operand.tmp 19), type := 24, pos := "l09_sub.go:40", after := #[{ on := 3, ground := Ground.data }], guard := none }) (v := ?vd5) rfl (by kernel_rfl) (by kernel_rfl) (by kernel_rfl) (by kernel_rfl) (fun _ _ _ h => h) (Or.inl ⟨by rfl, ?hyd5⟩) hHeld ?_
      case hyd5 => (intro w hSw; (try dsimp only at hSw); go_simp <;> with_reducible rfl)
      try simp only [Act.put, List.setIfInBounds_toArray, List.set_cons_zero, List.set_cons_succ]
      refine Hld.anyL_take (i := 5) (oi := { dst := some 21, op := Op.load 29 (Operand.tmp 3), type := 29, pos := "l09_sub.go:40", after := #[], guard := none }) (v := ?vd6) rfl (by kernel_rfl) (by kernel_rfl) (by kernel_rfl) (by kernel_rfl) (fun _ _ _ h => h) (Or.inl ⟨by rfl, ?hyd6⟩) hHeld ?_
      case hyd6 => (intro w hSw; (try dsimp only at hSw); go_simp <;> with_reducible rfl)
      try simp only [Act.put, List.setIfInBounds_toArray, List.set_cons_zero, List.set_cons_succ]
      refine Hld.anyL_ready (rs := [6]) (by kernel_rfl) (by simp) ?_
      refine Hld.AllL.cons (o := { dst := some 22, op := Op.buildSlice 24 1 #[(0, Operand.tmp 21)], type := 24, pos := "l09_sub.go:40", after := #[{ on := 5, ground := Ground.data }], guard := none }) rfl (fun K hK => ?_) Hld.AllL.nil
      have HU : Hid (Below W0.heap.size W0 (W0.alloc (.cells #[.slice (some ⟨gx, 0, none⟩) x.l.length cx, .int .i64 x.s, .int .i64 x.e, .string x.n] 29)).drew) := (Go.Joins.below_alloc1 W0 _).drew
      go_simp
      clear hHeld
      refine hK.out _ _ (HS.out _ (N0.out.grow HU.out) (X0.out.grow HU.out)) (fun hHeld => ?_)
      clear hK K
      try simp only [Act.put, List.setIfInBounds_toArray, List.set_cons_zero, List.set_cons_succ]
      refine Hld.anyL_ready (rs := [7]) (by kernel_rfl) (by simp) ?_
      refine Hld.AllL.cons (o := { dst := some 23, op := Op.call { callee := Callee.builtin Builtin.append, args := #[Operand.tmp 20, Operand.tmp 22], argTypes := #[24, 24] }, type := 24, pos := "l09_sub.go:40", after := #[{ on := 4, ground := Ground.data }, { on := 6, ground := Ground.data }], guard := none }) rfl (fun K hK => ?_) Hld.AllL.nil
      refine step_appB rfl _ _ 24 rfl 29 i0 (.agg #[.slice none 0 0, .int .i64 0, .int .i64 0, .string ByteArray.empty]) 4 56 Try.underlying24 hi hz0 hz1 hz2 rfl (by decide) lo ?hlo (.slice (some ⟨M, 0, none⟩) rs.length c) rs.length xs rfl (HOX.out _ HU.out) ⟨W0.heap.size, 0, none⟩ 1 1 (rowV (gx, cx, x)) rfl rfl (blk_news (Blk.new W0 #[.slice (some ⟨gx, 0, none⟩) x.l.length cx, .int .i64 x.s, .int .i64 x.e, .string x.n] 29).drew) (row_one _) ?hm1 ?hm2 ?_
      case hlo => have h0 := HMN.out.2.2; have h1 := HU.out.size; have h2 := HB0.out.size; omega
      case hm1 => unfold maxLen; omega
      case hm2 => omega
      intro v' wya hown hg hat
      obtain ⟨M3, c3, rfl, hAB3⟩ := (A0.out.grow HU.out).app (HX.out.1.grow (grow_on HB0.out HU.out)) HX.out.2 HXS.out.1 HXS.out.2 hown hg
      have N3 : Hid (Blk wya N #[.slice (some ⟨M, 0, none⟩) rs.length c, .bool false] 69) := blk_far (N0.out.grow HU.out) hg (fun e => HMN.out.2.1 (Option.some.inj e))
      have X3 : Hid (Blk wya w.heap.size #[.slice (some ⟨gx, 0, none⟩) x.l.length cx, .int .i64 x.s, .int .i64 x.e, .string x.n] 29) := blk_far (X0.out.grow HU.out) hg (fun e => HMN.out.1 (Option.some.inj e).symm)
      have A3 : Hid (AB lo wya M3 c3 (rs ++ [(gx, cx, x)])) := hAB3
      have O3 : Hid (Only (fun k => k = N ∨ k = M) w wya) := Only.ahead (grow_on HB0.out HU.out) (Only.grown hg (.inr rfl))
      clear hown hg hat hAB3
      clear hHeld
      refine hK.out _ _ (HS.out _ N3.out X3.out) (fun hHeld => ?_)
      clear hK K
      try simp only [Act.put, List.setIfInBounds_toArray, List.set_cons_zero, List.set_cons_succ]
      refine Hld.anyL_ready (rs := [8]) (by kernel_rfl) (by simp) ?_
      refine Hld.AllL.cons (o := { dst := some 24, op := Op.nilCheck (Operand.tmp 16), type := 0, pos := "l09_sub.go:40", after := #[{ on := 0, ground := Ground.data }, { on := 0, ground := Ground.phase }, { on := 1, ground := Ground.phase }, { on := 2, ground := Ground.phase }, { on := 3, ground := Ground.phase }, { on := 4, ground := Ground.phase }, { on := 5, ground := Ground.phase }, { on := 6, ground := Ground.phase }, { on := 7, ground := Ground.phase }], guard := none }) rfl (fun K hK => ?_) Hld.AllL.nil
      go_simp
      clear hHeld
      refine hK.out _ _ (HS.out _ N3.out X3.out) (fun hHeld => ?_)
      clear hK K
      try simp only [Act.put, List.setIfInBounds_toArray, List.set_cons_zero, List.set_cons_succ]
      refine Hld.anyL_take (i := 9) (oi := { dst := some 25, op := Op.fieldAddr 69 (Operand.tmp 24) 0, type := 0, pos := "l09_sub.go:40", after := #[{ on := 8, ground := Ground.data }, { on := 0, ground := Ground.phase }, { on := 1, ground := Ground.phase }, { on := 2, ground := Ground.phase }, { on := 3, ground := Ground.phase }, { on := 4, ground := Ground.phase }, { on := 5, ground := Ground.phase }, { on := 6, ground := Ground.phase }, { on := 7, ground := Ground.phase }], guard := none }) (v := ?vd10) rfl (by kernel_rfl) (by kernel_rfl) (by kernel_rfl) (by kernel_rfl) (fun _ _ _ h => h) (Or.inl ⟨by rfl, ?hyd10⟩) hHeld ?_
      case hyd10 => (intro w hSw; (try dsimp only at hSw); go_simp <;> with_reducible rfl)
      try simp only [Act.put, List.setIfInBounds_toArray, List.set_cons_zero, List.set_cons_succ]
      refine Hld.anyL_ready (rs := [10]) (by kernel_rfl) (by simp) ?_
      refine Hld.AllL.last (o := { dst := none, op := Op.store 24 (Operand.tmp 25) (Operand.tmp 23), type := 0, pos := "l09_sub.go:40", after := #[{ on := 9, ground := Ground.data }, { on := 7, ground := Ground.data }, { on := 7, ground := Ground.chain }, { on := 0, ground := Ground.phase }, { on := 1, ground := Ground.phase }, { on := 2, ground := Ground.phase }, { on := 3, ground := Ground.phase }, { on := 4, ground := Ground.phase }, { on := 5, ground := Ground.phase }, { on := 6, ground := Ground.phase }, { on := 7, ground := Ground.phase }], guard := none }) rfl (fun K hK => ?_)
      have n0 := N3.out.cell 0
      have nf := N3.out.frozen 0
      go_simp
      refine hK.out _ _ ?_
      clear hK K n0 nf
      try simp only [Act.put, List.setIfInBounds_toArray, List.set_cons_zero, List.set_cons_succ]
      refine Hld.anyL_done (by kernel_rfl) ?_ _
      go_wp2
      go_end0
      exact ⟨rfl, ⟨M3, c3, rs ++ [(gx, cx, x)], by rw [HT.out, List.length_append]; exact N3.out.set 0 _, Chs.ab_moved A3.out (Moved.set N3.out (by decide) (by decide) 0 _), by rw [HT.out]; exact pals_app _ _⟩, O3.out.set (.inl rfl) _ _⟩
      end Go.Proofs.Ytdmhccheaemkkaa.Que
