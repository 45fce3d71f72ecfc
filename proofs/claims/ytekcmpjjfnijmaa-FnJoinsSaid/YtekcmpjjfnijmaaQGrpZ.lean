/-
  PROVED: impl.JoinIn answers a group with the alarm in it, and impl.Flush a group without what is over and a batch of all, in memory of their own; nothing that was there is changed.
  PROVED: the contract of spec.l7Labels over a row of alarms: labels that were drawn, or a copy of those of an alarm of the row, in memory of their own.
  PROVED: the contracts of the draws of chapter 11: groups, batches, what comes beside them, in new memory.
  PROVED: the functions of chapter 11 over drawn groups, as the drawn law calls them; plain facts on who is in a group.
-/
import Derived.Test.YtekcmpjjfnijmaaQGrpE
import Derived.Test.YtekcmpjjfnijmaaQGrpH
import Derived.Test.YtekcmpjjfnijmaaQGrpP
import Derived.Test.YtekcmpjjfnijmaaQGrpL
import Derived.Test.YtekcmpjjfnijmaaQGrpQ
import Derived.Test.YtekcmpjjfnijmaaQGrpN
import Derived.Deep.DeepCutAuto
import Derived.Deep.CutRange
import Derived.Test.YtekcmpjjfnijmaaQLsD
import Derived.Test.YtekcmpjjfnijmaaQGrpX
import Derived.Test.YtekcmpjjfnijmaaQGrpC
import Derived.Test.YtekcmpjjfnijmaaQGrpF
import Derived.Test.YtekcmpjjfnijmaaQLawB
import Derived.Test.YtekcmpjjfnijmaaQLsS
set_option linter.unusedVariables false
namespace Go.Proofs.Ytekcmpjjfnijmaa.GrpI
open Go.RowKit
open Labs LabS Alms AlmS AlmM Over Blk App Rws ChnI ChnC ChnK Grp GrpO GrpG GrpJ GrpL
open GrpP (placeG place_le place_any join_place)
open ChnP (len_m)
open Chs (Moved)
open GrpQ (chosenA_any)
structure GA (lo : Nat) (w : World) (Ke : Nat) (key : List Lab) (M : Nat) (rs : List ARow) : Prop where
  key : OwnL lo w Ke key
  ab : AB lo w M rs.length rs
  ne : ¬ blks M rs Ke
theorem GA.grow {lo : Nat} {w w' : World} {Ke : Nat} {key : List Lab} {M : Nat} {rs : List ARow} (h : GA lo w Ke key M rs) (hb : Below w.heap.size w w') : GA lo w' Ke key M rs := ⟨h.key.grow hb, h.ab.grow hb, h.ne⟩
theorem GA.down {lo lo' : Nat} {w : World} {Ke : Nat} {key : List Lab} {M : Nat} {rs : List ARow} (h : GA lo w Ke key M rs) (hl : lo' ≤ lo) : GA lo' w Ke key M rs := ⟨h.key.down hl, h.ab.down hl, h.ne⟩
theorem GA.set {lo : Nat} {w : World} {Ke : Nat} {key : List Lab} {M : Nat} {rs : List ARow} (h : GA lo w Ke key M rs) {N : Nat} {cs : Array Value} {T : TypeId} (hN : Blk w N cs T) (hA : T ≠ 29) (hL : T ≠ 94) (i : Nat) (v : Value) : GA lo (w.setCell ⟨N, i, none⟩ v) Ke key M rs :=
  ⟨GrpF.OwnL.moved h.key (Moved.set hN hA hL i v), Chs.ab_moved h.ab (Moved.set hN hA hL i v), h.ne⟩
theorem GA.gb {lo : Nat} {w : World} {Ke : Nat} {key : List Lab} {M : Nat} {rs : List ARow} (h : GA lo w Ke key M rs) : GB lo w Ke key M 0 rs := ⟨h.key, ChnK.AB.ao h.ab, h.ne⟩
theorem rd_take {w : World} {gl ol k : Nat} {P : List PAl} (hr : RdN w (some ⟨gl, ol, none⟩) P) : RdA w (some ⟨gl, ol, none⟩) (P.take k) := (rdn_take k hr).rd
theorem rd_one {w : World} {N : Nat} {a : Option Addr} {c : Nat} {x : PAl} (h : Blk w N #[.slice a x.l.length c, .int .i64 x.s, .int .i64 x.e, .string x.n] 29) (hx : Reads w a x.l) : RdA w (some ⟨N, 0, none⟩) [x] := by
  refine .inr ⟨N, 0, rfl, h.lt, fun i hi => ?_⟩
  have : i = 0 := by simpa using hi
  subst this
  exact ⟨a, c, h.cell 0, h.cell 1, h.cell 2, h.cell 3, hx⟩
theorem lenM_one {x : PAl} (h : x.l.length ≤ 1048576) : LenM [x] := fun i hi => by
  have : i = 0 := by simpa using hi
  subst this
  exact h
def piecesJ (gl ol k1 : Nat) (b2 : Option Addr) (N k2 : Nat) (P : List PAl) (x : PAl) : List Pc := [(some ⟨gl, ol, none⟩, k1, P.take k1), (some ⟨N, 0, none⟩, 1, [x]), (b2, P.length - k2, P.drop k2)]
theorem upto_J (gl ol k1 : Nat) (b2 : Option Addr) (N k2 : Nat) (P : List PAl) (x : PAl) : upto (piecesJ gl ol k1 b2 N k2 P x) 3 = P.take k1 ++ x :: P.drop k2 := by simp [upto, piecesJ]
theorem upto_one (x : Pc) : upto [x] 1 = x.2.2 := by simp [upto]
set_option maxRecDepth 100000 in
set_option maxHeartbeats 6400000 in
theorem implJoin_any (n b t : Int) (gk ok kc : Nat) (key : List Lab) (gl ol cap : Nat) (P : List PAl) (gx ox cx : Nat) (x : PAl) (w : World) (hk : Reads w (some ⟨gk, ok, none⟩) key) (hkl : key.length ≤ 1048576) (hr : RdN w (some ⟨gl, ol, none⟩) P) (hl : P.length ≤ 1048576) (hs : LenM P) (hc : P.length ≤ cap ∧ cap ≤ maxLen) (hx : Reads w (some ⟨gx, ox, none⟩) x.l) (hxl : x.l.length ≤ 1048576) :
    Calls Try.prog 11 #[.agg #[.int .i64 n, .slice (some ⟨gk, ok, none⟩) key.length kc, .int .i64 b, .int .i64 t, .slice (some ⟨gl, ol, none⟩) P.length cap], .agg #[.slice (some ⟨gx, ox, none⟩) x.l.length cx, .int .i64 x.s, .int .i64 x.e, .string x.n]] w fun e w' => (∃ Ke kd M o c rs, e = .returned (.agg #[.int .i64 n, .slice (some ⟨Ke, 0, none⟩) key.length kd, .int .i64 b, .int .i64 t, .slice (some ⟨M, o, none⟩) rs.length c]) ∧ GB w.heap.size w' Ke key M o rs ∧ pals rs = joinG P x) ∧ Below w.heap.size w w' := by
  have HK : Hid (Reads w (some ⟨gk, ok, none⟩) key) := hk
  have HR : Hid (RdN w (some ⟨gl, ol, none⟩) P ∧ LenM P) := ⟨hr, hs⟩
  have HX : Hid (Reads w (some ⟨gx, ox, none⟩) x.l ∧ x.l.length ≤ 1048576) := ⟨hx, hxl⟩
  have hcap := hc.1
  have hcapm := hc.2
  unfold maxLen at hcapm
  clear hk hr hs hx hxl hc
  generalize hW0 : ((w.alloc (.cells #[.int .i64 n, .slice (some ⟨gk, ok, none⟩) key.length kc, .int .i64 b, .int .i64 t, .slice (some ⟨gl, ol, none⟩) P.length cap] 27)).alloc (.cells #[.slice (some ⟨gx, ox, none⟩) x.l.length cx, .int .i64 x.s, .int .i64 x.e, .string x.n] 29)).alloc (.cells #[.int .i64 0, .slice none 0 0, .int .i64 0, .int .i64 0, .slice none 0 0] 27) = W0
  have HB0 : Hid (Below w.heap.size w W0) := by rw [← hW0]; exact Alm.below3 w _ _ _
  have BP0 : Hid (Blk W0 w.heap.size #[.int .i64 n, .slice (some ⟨gk, ok, none⟩) key.length kc, .int .i64 b, .int .i64 t, .slice (some ⟨gl, ol, none⟩) P.length cap] 27) := by rw [← hW0]; exact ((Blk.new _ _ _).alloc _).alloc _
  have BQ0 : Hid (Blk W0 (w.heap.size + 1) #[.slice (some ⟨gx, ox, none⟩) x.l.length cx, .int .i64 x.s, .int .i64 x.e, .string x.n] 29) := by rw [← hW0]; exact (Blk.new_at (by simp)).alloc _
  have BR0 : Hid (Blk W0 (w.heap.size + 1 + 1) #[.int .i64 0, .slice none 0 0, .int .i64 0, .int .i64 0, .slice none 0 0] 27) := by rw [← hW0]; exact Blk.new_at (by simp)
  have HZ : Hid (W0.heap.size = w.heap.size + 3) := by show _ = _; rw [← hW0]; simp
  go_enter Try.func11, Try.ntmps11
  go_upto_region 1 with fail
  try rw [hW0]
  clear hW0
  have p4 := BP0.out.cell 4
  have q0 := BQ0.out.cell 0
  simp at p4 q0
  go_wp2_with fail
  refine (place_any (some ⟨gl, ol, none⟩) (some ⟨gx, ox, none⟩) cap cx P x.l _ ((HR.out.1.below HB0.out).rd) (HX.out.1.below HB0.out) (by have := HX.out.2; unfold maxLen; omega) hl (len_m HR.out.2)).mono ?_
  rintro e z ⟨rfl, hb⟩
  have HB : Hid (Below w.heap.size w z) := grow_on HB0.out hb
  have BP : Hid (Blk z w.heap.size #[.int .i64 n, .slice (some ⟨gk, ok, none⟩) key.length kc, .int .i64 b, .int .i64 t, .slice (some ⟨gl, ol, none⟩) P.length cap] 27) := BP0.out.grow hb
  have BQ : Hid (Blk z (w.heap.size + 1) #[.slice (some ⟨gx, ox, none⟩) x.l.length cx, .int .i64 x.s, .int .i64 x.e, .string x.n] 29) := BQ0.out.grow hb
  have BR : Hid (Blk z (w.heap.size + 1 + 1) #[.int .i64 0, .slice none 0 0, .int .i64 0, .int .i64 0, .slice none 0 0] 27) := BR0.out.grow hb
  have HL : Hid (w.heap.size + 3 ≤ z.heap.size) := by unfold Hid; have := hb.size; rw [HZ.out] at this; exact this
  have HJ : Hid (joinG P x = P.take (placeG P x.l).1 ++ x :: P.drop (placeG P x.l).2) := join_place P x
  have hple := place_le P x.l
  generalize (placeG P x.l).1 = k1 at *
  generalize (placeG P x.l).2 = k2 at *
  have h1 := hple.1
  have h2 := hple.2
  clear hple hb BP0 BQ0 BR0 HB0 HZ p4 q0
  have hk1c : (k1 : Int) ≤ (cap : Int) := by omega
  have hk2n : (k2 : Int) ≤ (P.length : Int) := by omega
  have hnc : (P.length : Int) ≤ (cap : Int) := by omega
  go_upto_region 3 with fail
  have HS : Hid (∀ w', Blk w' w.heap.size #[.int .i64 n, .slice (some ⟨gk, ok, none⟩) key.length kc, .int .i64 b, .int .i64 t, .slice (some ⟨gl, ol, none⟩) P.length cap] 27 → Blk w' (w.heap.size + 1) #[.slice (some ⟨gx, ox, none⟩) x.l.length cx, .int .i64 x.s, .int .i64 x.e, .string x.n] 29 → w'.cell? ⟨w.heap.size, 0, none⟩ = some (.int .i64 n) ∧ w'.cell? ⟨w.heap.size, 1, none⟩ = some (.slice (some ⟨gk, ok, none⟩) key.length kc) ∧ w'.cell? ⟨w.heap.size, 2, none⟩ = some (.int .i64 b) ∧ w'.cell? ⟨w.heap.size, 3, none⟩ = some (.int .i64 t) ∧ w'.cell? ⟨w.heap.size, 4, none⟩ = some (.slice (some ⟨gl, ol, none⟩) P.length cap) ∧ w'.cell? ⟨(w.heap.size + 1), 0, none⟩ = some (.slice (some ⟨gx, ox, none⟩) x.l.length cx) ∧ w'.cell? ⟨(w.heap.size + 1), 1, none⟩ = some (.int .i64 x.s) ∧ w'.cell? ⟨(w.heap.size + 1), 2, none⟩ = some (.int .i64 x.e) ∧ w'.cell? ⟨(w.heap.size + 1), 3, none⟩ = some (.string x.n)) := fun w' h k => ⟨h.cell 0, h.cell 1, h.cell 2, h.cell 3, h.cell 4, k.cell 0, k.cell 1, k.cell 2, k.cell 3⟩
  refine wp_region_held_drew (S := fun w' => w'.cell? ⟨w.heap.size, 0, none⟩ = some (.int .i64 n) ∧ w'.cell? ⟨w.heap.size, 1, none⟩ = some (.slice (some ⟨gk, ok, none⟩) key.length kc) ∧ w'.cell? ⟨w.heap.size, 2, none⟩ = some (.int .i64 b) ∧ w'.cell? ⟨w.heap.size, 3, none⟩ = some (.int .i64 t) ∧ w'.cell? ⟨w.heap.size, 4, none⟩ = some (.slice (some ⟨gl, ol, none⟩) P.length cap) ∧ w'.cell? ⟨(w.heap.size + 1), 0, none⟩ = some (.slice (some ⟨gx, ox, none⟩) x.l.length cx) ∧ w'.cell? ⟨(w.heap.size + 1), 1, none⟩ = some (.int .i64 x.s) ∧ w'.cell? ⟨(w.heap.size + 1), 2, none⟩ = some (.int .i64 x.e) ∧ w'.cell? ⟨(w.heap.size + 1), 3, none⟩ = some (.string x.n)) (by kernel_rfl) (HS.out _ (BP.out.grow (Below.refl z.heap.size z).drew) (BQ.out.grow (Below.refl z.heap.size z).drew)) (fun hHeld => ?_)
  refine wpAnyH_take (i := 0) (oi := { dst := some 19, op := Op.load 27 (Operand.tmp 2), type := 27, pos := "l11_group.go:58", after := #[], guard := none }) (v := ?vjn0) rfl (by kernel_rfl) (by kernel_rfl) (by kernel_rfl) (fun _ _ _ h => h) (Or.inl ⟨by rfl, ?hyjn0⟩) hHeld ?_
  case hyjn0 => (intro w hSw; (try dsimp only at hSw); go_simp <;> with_reducible rfl)
  try simp only [Act.put, List.setIfInBounds_toArray, List.set_cons_zero, List.set_cons_succ]
  refine wpAnyH_take (i := 1) (oi := { dst := some 20, op := Op.fieldAddr 27 (Operand.tmp 2) 4, type := 0, pos := "l11_group.go:58", after := #[], guard := none }) (v := ?vjn1) rfl (by kernel_rfl) (by kernel_rfl) (by kernel_rfl) (fun _ _ _ h => h) (Or.inl ⟨by rfl, ?hyjn1⟩) hHeld ?_
  case hyjn1 => (intro w hSw; (try dsimp only at hSw); go_simp <;> with_reducible rfl)
  try simp only [Act.put, List.setIfInBounds_toArray, List.set_cons_zero, List.set_cons_succ]
  refine wpAnyH_take (i := 2) (oi := { dst := some 21, op := Op.load 25 (Operand.tmp 20), type := 25, pos := "l11_group.go:58", after := #[{ on := 1, ground := Ground.data }], guard := none }) (v := ?vjn2) rfl (by kernel_rfl) (by kernel_rfl) (by kernel_rfl) (fun _ _ _ h => h) (Or.inl ⟨by rfl, ?hyjn2⟩) hHeld ?_
  case hyjn2 => (intro w hSw; (try dsimp only at hSw); go_simp <;> with_reducible rfl)
  try simp only [Act.put, List.setIfInBounds_toArray, List.set_cons_zero, List.set_cons_succ]
  refine wpAnyH_take (i := 3) (oi := { dst := some 22, op := Op.move (Operand.tmp 6), type := 3, pos := "l11_group.go:58", after := #[], guard := none }) (v := ?vjn3) rfl (by kernel_rfl) (by kernel_rfl) (by kernel_rfl) (fun _ _ _ h => h) (Or.inl ⟨by rfl, ?hyjn3⟩) hHeld ?_
  case hyjn3 => (intro w hSw; (try dsimp only at hSw); go_simp <;> with_reducible rfl)
  try simp only [Act.put, List.setIfInBounds_toArray, List.set_cons_zero, List.set_cons_succ]
  refine wpAnyH_take (i := 4) (oi := { dst := some 23, op := Op.move (Operand.tmp 6), type := 3, pos := "l11_group.go:58", after := #[], guard := none }) (v := ?vjn4) rfl (by kernel_rfl) (by kernel_rfl) (by kernel_rfl) (fun _ _ _ h => h) (Or.inl ⟨by rfl, ?hyjn4⟩) hHeld ?_
  case hyjn4 => (intro w hSw; (try dsimp only at hSw); go_simp <;> with_reducible rfl)
  try simp only [Act.put, List.setIfInBounds_toArray, List.set_cons_zero, List.set_cons_succ]
  refine wpAnyH_take (i := 5) (oi := { dst := some 24, op := Op.slice 25 (Operand.tmp 21) none (some (Operand.tmp 22)) (some (Operand.tmp 23)), type := 25, pos := "l11_group.go:58", after := #[{ on := 2, ground := Ground.data }, { on := 3, ground := Ground.data }, { on := 4, ground := Ground.data }], guard := none }) (v := ?vjn5) rfl (by kernel_rfl) (by kernel_rfl) (by kernel_rfl) (fun _ _ _ h => h) (Or.inl ⟨by rfl, ?hyjn5⟩) hHeld ?_
  case hyjn5 => (intro w hSw; (try dsimp only at hSw); go_simp <;> with_reducible rfl)
  try simp only [Act.put, List.setIfInBounds_toArray, List.set_cons_zero, List.set_cons_succ]
  refine wpAnyH_take (i := 6) (oi := { dst := some 25, op := Op.load 29 (Operand.tmp 3), type := 29, pos := "l11_group.go:58", after := #[], guard := none }) (v := ?vjn6) rfl (by kernel_rfl) (by kernel_rfl) (by kernel_rfl) (fun _ _ _ h => h) (Or.inl ⟨by rfl, ?hyjn6⟩) hHeld ?_
  case hyjn6 => (intro w hSw; (try dsimp only at hSw); go_simp <;> with_reducible rfl)
  try simp only [Act.put, List.setIfInBounds_toArray, List.set_cons_zero, List.set_cons_succ]
  refine wpAnyH_take (i := 8) (oi := { dst := some 27, op := Op.fieldAddr 27 (Operand.tmp 2) 4, type := 0, pos := "l11_group.go:58", after := #[], guard := none }) (v := ?vjn8) rfl (by kernel_rfl) (by kernel_rfl) (by kernel_rfl) (fun _ _ _ h => h) (Or.inl ⟨by rfl, ?hyjn8⟩) hHeld ?_
  case hyjn8 => (intro w hSw; (try dsimp only at hSw); go_simp <;> with_reducible rfl)
  try simp only [Act.put, List.setIfInBounds_toArray, List.set_cons_zero, List.set_cons_succ]
  refine wpAnyH_take (i := 9) (oi := { dst := some 28, op := Op.load 25 (Operand.tmp 27), type := 25, pos := "l11_group.go:58", after := #[{ on := 8, ground := Ground.data }], guard := none }) (v := ?vjn9) rfl (by kernel_rfl) (by kernel_rfl) (by kernel_rfl) (fun _ _ _ h => h) (Or.inl ⟨by rfl, ?hyjn9⟩) hHeld ?_
  case hyjn9 => (intro w hSw; (try dsimp only at hSw); go_simp <;> with_reducible rfl)
  try simp only [Act.put, List.setIfInBounds_toArray, List.set_cons_zero, List.set_cons_succ]
  refine wpAnyH_take (i := 10) (oi := { dst := some 29, op := Op.move (Operand.tmp 7), type := 3, pos := "l11_group.go:58", after := #[], guard := none }) (v := ?vjn10) rfl (by kernel_rfl) (by kernel_rfl) (by kernel_rfl) (fun _ _ _ h => h) (Or.inl ⟨by rfl, ?hyjn10⟩) hHeld ?_
  case hyjn10 => (intro w hSw; (try dsimp only at hSw); go_simp <;> with_reducible rfl)
  try simp only [Act.put, List.setIfInBounds_toArray, List.set_cons_zero, List.set_cons_succ]
  refine wpAnyH_take (i := 11) (oi := { dst := some 30, op := Op.move (Operand.tmp 5), type := 3, pos := "l11_group.go:58", after := #[], guard := none }) (v := ?vjn11) rfl (by kernel_rfl) (by kernel_rfl) (by kernel_rfl) (fun _ _ _ h => h) (Or.inl ⟨by rfl, ?hyjn11⟩) hHeld ?_
  case hyjn11 => (intro w hSw; (try dsimp only at hSw); go_simp <;> with_reducible rfl)
  try simp only [Act.put, List.setIfInBounds_toArray, List.set_cons_zero, List.set_cons_succ]
  refine wpAnyH_take (i := 12) (oi := { dst := some 31, op := Op.move (Operand.tmp 5), type := 3, pos := "l11_group.go:58", after := #[], guard := none }) (v := ?vjn12) rfl (by kernel_rfl) (by kernel_rfl) (by kernel_rfl) (fun _ _ _ h => h) (Or.inl ⟨by rfl, ?hyjn12⟩) hHeld ?_
  case hyjn12 => (intro w hSw; (try dsimp only at hSw); go_simp <;> with_reducible rfl)
  try simp only [Act.put, List.setIfInBounds_toArray, List.set_cons_zero, List.set_cons_succ]
  refine wpAnyH_take (i := 13) (oi := { dst := some 32, op := Op.slice 25 (Operand.tmp 28) (some (Operand.tmp 29)) (some (Operand.tmp 30)) (some (Operand.tmp 31)), type := 25, pos := "l11_group.go:58", after := #[{ on := 9, ground := Ground.data }, { on := 10, ground := Ground.data }, { on := 11, ground := Ground.data }, { on := 12, ground := Ground.data }], guard := none }) (v := ?vjn13) rfl (by kernel_rfl) (by kernel_rfl) (by kernel_rfl) (fun _ _ _ h => h) (Or.inl ⟨by rfl, ?hyjn13⟩) hHeld ?_
  case hyjn13 => (intro w hSw; (try dsimp only at hSw); go_simp <;> with_reducible rfl)
  try simp only [Act.put, List.setIfInBounds_toArray, List.set_cons_zero, List.set_cons_succ]
  try rw [if_slice]
  refine wpAnyH_ready (rs := [7]) (by kernel_rfl) (by simp) ?_
  refine AllReadyH.cons (o := { dst := some 26, op := Op.buildSlice 25 1 #[(0, Operand.tmp 25)], type := 25, pos := "l11_group.go:58", after := #[{ on := 6, ground := Ground.data }], guard := none }) rfl (fun K hK => ?_) AllReadyH.nil
  go_simp
  clear hHeld
  refine hK.out _ _ (HS.out _ (BP.out.grow (bel_alloc (Below.refl z.heap.size z) (.cells #[.slice (some ⟨gx, ox, none⟩) x.l.length cx, .int .i64 x.s, .int .i64 x.e, .string x.n] 29)).drew) (BQ.out.grow (bel_alloc (Below.refl z.heap.size z) (.cells #[.slice (some ⟨gx, ox, none⟩) x.l.length cx, .int .i64 x.s, .int .i64 x.e, .string x.n] 29)).drew)) (fun hHeld => ?_)
  clear hK K
  try simp only [Act.put, List.setIfInBounds_toArray, List.set_cons_zero, List.set_cons_succ]
  refine wpAnyH_ready (rs := [14]) (by kernel_rfl) (by simp) ?_
  refine AllReadyH.cons (o := { dst := some 33, op := Op.buildSlice 123 3 #[(0, Operand.tmp 24), (1, Operand.tmp 26), (2, Operand.tmp 32)], type := 123, pos := "l11_group.go:58", after := #[{ on := 5, ground := Ground.data }, { on := 7, ground := Ground.data }, { on := 13, ground := Ground.data }], guard := none }) rfl (fun K hK => ?_) AllReadyH.nil
  go_simp
  clear hHeld
  refine hK.out _ _ (HS.out _ (BP.out.grow (bel_alloc (bel_alloc (Below.refl z.heap.size z) (.cells #[.slice (some ⟨gx, ox, none⟩) x.l.length cx, .int .i64 x.s, .int .i64 x.e, .string x.n] 29)) (.cells #[.slice (some ⟨gl, ol, none⟩) k1 k1, .slice (some ⟨z.heap.size, 0, none⟩) 1 1, .slice (if P.length = k2 then some (⟨gl, ol, none⟩ : Addr) else some (⟨gl, ol + k2 * 4, none⟩ : Addr)) (P.length - k2) (P.length - k2)] 25)).drew) (BQ.out.grow (bel_alloc (bel_alloc (Below.refl z.heap.size z) (.cells #[.slice (some ⟨gx, ox, none⟩) x.l.length cx, .int .i64 x.s, .int .i64 x.e, .string x.n] 29)) (.cells #[.slice (some ⟨gl, ol, none⟩) k1 k1, .slice (some ⟨z.heap.size, 0, none⟩) 1 1, .slice (if P.length = k2 then some (⟨gl, ol, none⟩ : Addr) else some (⟨gl, ol + k2 * 4, none⟩ : Addr)) (P.length - k2) (P.length - k2)] 25)).drew)) (fun hHeld => ?_)
  clear hK K
  try simp only [Act.put, List.setIfInBounds_toArray, List.set_cons_zero, List.set_cons_succ]
  generalize hW2 : ((z.alloc (.cells #[.slice (some ⟨gx, ox, none⟩) x.l.length cx, .int .i64 x.s, .int .i64 x.e, .string x.n] 29)).alloc (.cells #[.slice (some ⟨gl, ol, none⟩) k1 k1, .slice (some ⟨z.heap.size, 0, none⟩) 1 1, .slice (if P.length = k2 then some (⟨gl, ol, none⟩ : Addr) else some (⟨gl, ol + k2 * 4, none⟩ : Addr)) (P.length - k2) (P.length - k2)] 25)).drew = W2 at *
  have ZW : Hid (Below z.heap.size z W2) := by rw [← hW2]; exact (bel_alloc (bel_alloc (Below.refl z.heap.size z) (.cells #[.slice (some ⟨gx, ox, none⟩) x.l.length cx, .int .i64 x.s, .int .i64 x.e, .string x.n] 29)) (.cells #[.slice (some ⟨gl, ol, none⟩) k1 k1, .slice (some ⟨z.heap.size, 0, none⟩) 1 1, .slice (if P.length = k2 then some (⟨gl, ol, none⟩ : Addr) else some (⟨gl, ol + k2 * 4, none⟩ : Addr)) (P.length - k2) (P.length - k2)] 25)).drew
  have NX : Hid (Blk W2 z.heap.size #[.slice (some ⟨gx, ox, none⟩) x.l.length cx, .int .i64 x.s, .int .i64 x.e, .string x.n] 29) := by rw [← hW2]; exact ((Blk.new z _ _).alloc _).drew
  have NP : Hid (Blk W2 (z.heap.size + 1) #[.slice (some ⟨gl, ol, none⟩) k1 k1, .slice (some ⟨z.heap.size, 0, none⟩) 1 1, .slice (if P.length = k2 then some (⟨gl, ol, none⟩ : Addr) else some (⟨gl, ol + k2 * 4, none⟩ : Addr)) (P.length - k2) (P.length - k2)] 25) := by rw [← hW2]; exact (Blk.new_at (by simp)).drew
  have HP : Hid (Pcs W2 (some ⟨z.heap.size + 1, 0, none⟩) (piecesJ gl ol k1 (if P.length = k2 then some (⟨gl, ol, none⟩ : Addr) else some (⟨gl, ol + k2 * 4, none⟩ : Addr)) z.heap.size k2 P x)) := by
    have hrw : RdN W2 (some ⟨gl, ol, none⟩) P := HR.out.1.below (grow_on HB.out ZW.out)
    refine ⟨.inr ⟨z.heap.size + 1, 0, rfl, NP.out.lt, fun i hi => ?_⟩, fun y hy => ?_⟩
    · have hi3 : i < 3 := hi
      have e1 : (P.take k1).length = k1 := by rw [List.length_take]; omega
      match i, hi3 with
      | 0, _ => have h := NP.out.cell 0; simp at h; rw [h]; simp [piecesJ, nthQ, pcV, e1]
      | 1, _ => have h := NP.out.cell 1; simp at h; rw [h]; simp [piecesJ, nthQ, pcV]
      | 2, _ => have h := NP.out.cell 2; simp at h; rw [h]; simp [piecesJ, nthQ, pcV]
    · simp only [piecesJ, List.mem_cons, List.not_mem_nil, or_false] at hy
      rcases hy with rfl | rfl | rfl
      · exact ⟨rd_take hrw, lenM_take k1 HR.out.2⟩
      · exact ⟨rd_one NX.out (HX.out.1.below (grow_on HB.out ZW.out)), lenM_one HX.out.2⟩
      · refine ⟨?_, lenM_drop k2 HR.out.2⟩
        show RdA W2 (if P.length = k2 then some (⟨gl, ol, none⟩ : Addr) else some (⟨gl, ol + k2 * 4, none⟩ : Addr)) (P.drop k2)
        split
        · exact .inl (List.drop_eq_nil_of_le (by omega))
        · exact (rdn_drop k2 hrw).rd
  have HC : Hid (Calls Try.prog 54 #[.agg #[.int .i64 n, .slice (some ⟨gk, ok, none⟩) key.length kc, .int .i64 b, .int .i64 t, .slice (some ⟨gl, ol, none⟩) P.length cap], .slice (some ⟨z.heap.size + 1, 0, none⟩) 3 3] W2 fun e w' => (∃ Ke M rs, e = .returned (.agg #[.int .i64 n, .slice (some ⟨Ke, 0, none⟩) key.length key.length, .int .i64 b, .int .i64 t, .slice (some ⟨M, 0, none⟩) rs.length rs.length]) ∧ GB W2.heap.size w' Ke key M 0 rs ∧ AB W2.heap.size w' M rs.length rs ∧ pals rs = upto (piecesJ gl ol k1 (if P.length = k2 then some (⟨gl, ol, none⟩ : Addr) else some (⟨gl, ol + k2 * 4, none⟩ : Addr)) z.heap.size k2 P x) 3) ∧ Below W2.heap.size W2 w') :=
    withA_any n b t gk ok kc key (some ⟨gl, ol, none⟩) P.length cap (some ⟨z.heap.size + 1, 0, none⟩) 3 (piecesJ gl ol k1 (if P.length = k2 then some (⟨gl, ol, none⟩ : Addr) else some (⟨gl, ol + k2 * 4, none⟩ : Addr)) z.heap.size k2 P x) W2 (HK.out.below (grow_on HB.out ZW.out)) hkl HP.out (by show 3 ≤ 1000; omega) (by show (upto (piecesJ gl ol k1 (if P.length = k2 then some (⟨gl, ol, none⟩ : Addr) else some (⟨gl, ol + k2 * 4, none⟩ : Addr)) z.heap.size k2 P x) 3).length ≤ 3000000; rw [upto_J, List.length_append, List.length_cons, List.length_take, List.length_drop]; have := Nat.min_le_right k1 P.length; omega) (fun y hy => by
      simp only [piecesJ, List.mem_cons, List.not_mem_nil, or_false] at hy
      rcases hy with rfl | rfl | rfl
      · show (P.take k1).length ≤ 1048576; simp; omega
      · show 1 ≤ 1048576; omega
      · show (P.drop k2).length ≤ 1048576; simp; omega)
  rw [upto_J, ← HJ.out] at HC
  clear hW2 HP NX NP
  refine wpAnyH_ready (rs := [15]) (by kernel_rfl) (by simp) ?_
  refine AllReadyH.cons (o := { dst := some 34, op := Op.call { callee := Callee.value (Operand.func 54), args := #[Operand.tmp 19, Operand.tmp 33], argTypes := #[27, 123] }, type := 27, pos := "l11_group.go:58", after := #[{ on := 0, ground := Ground.data }, { on := 14, ground := Ground.data }], guard := none }) rfl (fun K hK => ?_) AllReadyH.nil
  go_simp
  refine (HC.out).mono ?_
  rintro r wyjn15 ⟨⟨Ke, M, rs, rfl, hG, hA, hP⟩, hb5⟩
  have Z5 : Hid (Below z.heap.size z wyjn15) := grow_on ZW.out hb5
  have HG : Hid (GA z.heap.size wyjn15 Ke key M rs ∧ pals rs = joinG P x) := ⟨⟨hG.key.down ZW.out.size, hA.down ZW.out.size, hG.ne⟩, hP⟩
  have BR5 : Hid (Blk wyjn15 (w.heap.size + 1 + 1) #[.int .i64 0, .slice none 0 0, .int .i64 0, .int .i64 0, .slice none 0 0] 27) := BR.out.grow Z5.out
  clear hG hA hP hb5 HC
  clear hHeld
  refine hK.out _ _ (HS.out _ (BP.out.grow Z5.out) (BQ.out.grow Z5.out)) (fun hHeld => ?_)
  clear hK K
  try simp only [Act.put, List.setIfInBounds_toArray, List.set_cons_zero, List.set_cons_succ]
  refine wpAnyH_ready (rs := [16]) (by kernel_rfl) (by simp) ?_
  refine AllReadyH.cons (o := { dst := none, op := Op.store 27 (Operand.tmp 4) (Operand.tmp 34), type := 0, pos := "l11_group.go:58", after := #[{ on := 15, ground := Ground.data }, { on := 15, ground := Ground.chain }, { on := 0, ground := Ground.phase }, { on := 1, ground := Ground.phase }, { on := 2, ground := Ground.phase }, { on := 3, ground := Ground.phase }, { on := 4, ground := Ground.phase }, { on := 5, ground := Ground.phase }, { on := 6, ground := Ground.phase }, { on := 7, ground := Ground.phase }, { on := 8, ground := Ground.phase }, { on := 9, ground := Ground.phase }, { on := 10, ground := Ground.phase }, { on := 11, ground := Ground.phase }, { on := 12, ground := Ground.phase }, { on := 13, ground := Ground.phase }, { on := 14, ground := Ground.phase }, { on := 15, ground := Ground.phase }], guard := none }) rfl (fun K hK => ?_) AllReadyH.nil
  have r0 := BR5.out.cell 0
  have fr0 := BR5.out.frozen 0
  have r1 := BR5.out.cell 1
  have fr1 := BR5.out.frozen 1
  have r2 := BR5.out.cell 2
  have fr2 := BR5.out.frozen 2
  have r3 := BR5.out.cell 3
  have fr3 := BR5.out.frozen 3
  have r4 := BR5.out.cell 4
  have fr4 := BR5.out.frozen 4
  simp at r0 r1 r2 r3 r4
  go_simp
  clear hHeld
  refine hK.out _ _ (HS.out _ ((((((BP.out.grow Z5.out).set_other (p := ⟨(w.heap.size + 1 + 1), 0, none⟩) (by show (w.heap.size + 1 + 1) ≠ w.heap.size; omega) (.int .i64 n)).set_other (p := ⟨(w.heap.size + 1 + 1), 1, none⟩) (by show (w.heap.size + 1 + 1) ≠ w.heap.size; omega) (.slice (some ⟨Ke, 0, none⟩) key.length key.length)).set_other (p := ⟨(w.heap.size + 1 + 1), 2, none⟩) (by show (w.heap.size + 1 + 1) ≠ w.heap.size; omega) (.int .i64 b)).set_other (p := ⟨(w.heap.size + 1 + 1), 3, none⟩) (by show (w.heap.size + 1 + 1) ≠ w.heap.size; omega) (.int .i64 t)).set_other (p := ⟨(w.heap.size + 1 + 1), 4, none⟩) (by show (w.heap.size + 1 + 1) ≠ w.heap.size; omega) (.slice (some ⟨M, 0, none⟩) rs.length rs.length)) ((((((BQ.out.grow Z5.out).set_other (p := ⟨(w.heap.size + 1 + 1), 0, none⟩) (by show (w.heap.size + 1 + 1) ≠ (w.heap.size + 1); omega) (.int .i64 n)).set_other (p := ⟨(w.heap.size + 1 + 1), 1, none⟩) (by show (w.heap.size + 1 + 1) ≠ (w.heap.size + 1); omega) (.slice (some ⟨Ke, 0, none⟩) key.length key.length)).set_other (p := ⟨(w.heap.size + 1 + 1), 2, none⟩) (by show (w.heap.size + 1 + 1) ≠ (w.heap.size + 1); omega) (.int .i64 b)).set_other (p := ⟨(w.heap.size + 1 + 1), 3, none⟩) (by show (w.heap.size + 1 + 1) ≠ (w.heap.size + 1); omega) (.int .i64 t)).set_other (p := ⟨(w.heap.size + 1 + 1), 4, none⟩) (by show (w.heap.size + 1 + 1) ≠ (w.heap.size + 1); omega) (.slice (some ⟨M, 0, none⟩) rs.length rs.length))) (fun hHeld => ?_)
  clear hK K
  try simp only [Act.put, List.setIfInBounds_toArray, List.set_cons_zero, List.set_cons_succ]
  clear r0 fr0 r1 fr1 r2 fr2 r3 fr3 r4 fr4
  refine wpAnyH_done (by kernel_rfl) ?_ _
  clear hHeld
  generalize (if P.length = k2 then some (⟨gl, ol, none⟩ : Addr) else some (⟨gl, ol + k2 * 4, none⟩ : Addr)) = bb at *
  go_wp2_with fail
  have hR : Blk _ (w.heap.size + 1 + 1) #[.int .i64 n, .slice (some ⟨Ke, 0, none⟩) key.length key.length, .int .i64 b, .int .i64 t, .slice (some ⟨M, 0, none⟩) rs.length rs.length] 27 := (((((BR5.out.set 0 (.int .i64 n)).set 1 (.slice (some ⟨Ke, 0, none⟩) key.length key.length)).set 2 (.int .i64 b)).set 3 (.int .i64 t)).set 4 (.slice (some ⟨M, 0, none⟩) rs.length rs.length))
  have s0 := hR.cell 0
  have s1 := hR.cell 1
  have s2 := hR.cell 2
  have s3 := hR.cell 3
  have s4 := hR.cell 4
  refine bodyPost_ret (v := .agg #[.int .i64 n, .slice (some ⟨Ke, 0, none⟩) key.length key.length, .int .i64 b, .int .i64 t, .slice (some ⟨M, 0, none⟩) rs.length rs.length]) (by simp [results, Try.results11, go_sem, s0, s1, s2, s3, s4]) rfl ?_
  exact ⟨⟨Ke, key.length, M, 0, rs.length, rs, rfl, ((((((HG.out.1.set BR5.out (by decide) (by decide) 0 (.int .i64 n)).set (BR5.out.set 0 (.int .i64 n)) (by decide) (by decide) 1 (.slice (some ⟨Ke, 0, none⟩) key.length key.length)).set ((BR5.out.set 0 (.int .i64 n)).set 1 (.slice (some ⟨Ke, 0, none⟩) key.length key.length)) (by decide) (by decide) 2 (.int .i64 b)).set (((BR5.out.set 0 (.int .i64 n)).set 1 (.slice (some ⟨Ke, 0, none⟩) key.length key.length)).set 2 (.int .i64 b)) (by decide) (by decide) 3 (.int .i64 t)).set ((((BR5.out.set 0 (.int .i64 n)).set 1 (.slice (some ⟨Ke, 0, none⟩) key.length key.length)).set 2 (.int .i64 b)).set 3 (.int .i64 t)) (by decide) (by decide) 4 (.slice (some ⟨M, 0, none⟩) rs.length rs.length)).gb).down (by have := HL.out; omega), HG.out.2⟩, (set_low (set_low (set_low (set_low (set_low (grow_on HB.out Z5.out) (M := (w.heap.size + 1 + 1)) (by omega) 0 (.int .i64 n)) (M := (w.heap.size + 1 + 1)) (by omega) 1 (.slice (some ⟨Ke, 0, none⟩) key.length key.length)) (M := (w.heap.size + 1 + 1)) (by omega) 2 (.int .i64 b)) (M := (w.heap.size + 1 + 1)) (by omega) 3 (.int .i64 t)) (M := (w.heap.size + 1 + 1)) (by omega) 4 (.slice (some ⟨M, 0, none⟩) rs.length rs.length))⟩
theorem lenM_left {P : List PAl} {now : Int} (h : LenM P) : ∀ k, LenM (leftTo P now k) := fun k i hi => by
  have hm : nthP (leftTo P now k) i ∈ leftTo P now k := by rw [nthP_eq hi]; exact List.getElem_mem _
  have hm2 : nthP (leftTo P now k) i ∈ P := by
    unfold leftTo at hm
    exact List.mem_of_mem_take (List.mem_filter.1 hm).1
  obtain ⟨j, hj, e⟩ := List.getElem_of_mem hm2
  have := h j hj
  rwa [nthP_eq hj, e] at this
set_option maxRecDepth 100000 in
set_option maxHeartbeats 6400000 in
theorem implFlush_any (n b t : Int) (gk ok kc : Nat) (key : List Lab) (a : Option Addr) (cap : Nat) (P : List PAl) (now : Int) (w : World) (hk : Reads w (some ⟨gk, ok, none⟩) key) (hkl : key.length ≤ 1048576) (hr : RdN w a P) (hl : P.length ≤ 1048576) (hs : LenM P) :
    Calls Try.prog 13 #[.agg #[.int .i64 n, .slice (some ⟨gk, ok, none⟩) key.length kc, .int .i64 b, .int .i64 t, .slice a P.length cap], .int .i64 now] w fun e w' => (∃ Ke kd M o c rs K2 kd2 M2 o2 c2 rs2, e = .returned (.tuple #[.agg #[.int .i64 n, .slice (some ⟨Ke, 0, none⟩) key.length kd, .int .i64 b, .int .i64 now, .slice (some ⟨M, o, none⟩) rs.length c], .agg #[.int .i64 n, .slice (some ⟨K2, 0, none⟩) key.length kd2, .int .i64 now, .slice (some ⟨M2, o2, none⟩) rs2.length c2]]) ∧ GB w.heap.size w' Ke key M o rs ∧ pals rs = leftTo P now P.length ∧ GB w.heap.size w' K2 key M2 o2 rs2 ∧ pals rs2 = P ∧ ∀ k, gblks Ke M rs k → ¬ gblks K2 M2 rs2 k) ∧ Below w.heap.size w w' := by
  have HK : Hid (Reads w (some ⟨gk, ok, none⟩) key) := hk
  have HR : Hid (RdN w a P ∧ LenM P) := ⟨hr, hs⟩
  clear hk hr hs
  generalize hz : (((w.alloc (.cells #[.int .i64 n, .slice (some ⟨gk, ok, none⟩) key.length kc, .int .i64 b, .int .i64 t, .slice a P.length cap] 27)).alloc (.cells #[.int .i64 now] 3)).alloc (.cells #[.int .i64 0, .slice none 0 0, .int .i64 0, .int .i64 0, .slice none 0 0] 27)).alloc (.cells #[.int .i64 0, .slice none 0 0, .int .i64 0, .slice none 0 0] 36) = z
  have HB : Hid (Below w.heap.size w z) := by rw [← hz]; exact (Alm.below3 w _ _ _).alloc (by simp; omega) _
  have BP : Hid (Blk z w.heap.size #[.int .i64 n, .slice (some ⟨gk, ok, none⟩) key.length kc, .int .i64 b, .int .i64 t, .slice a P.length cap] 27) := by rw [← hz]; exact (((Blk.new _ _ _).alloc _).alloc _).alloc _
  have BN : Hid (Blk z (w.heap.size + 1) #[.int .i64 now] 3) := by rw [← hz]; exact ((Blk.new_at (by simp)).alloc _).alloc _
  have BR : Hid (Blk z (w.heap.size + 1 + 1) #[.int .i64 0, .slice none 0 0, .int .i64 0, .int .i64 0, .slice none 0 0] 27) := by rw [← hz]; exact (Blk.new_at (by simp)).alloc _
  have BS : Hid (Blk z (w.heap.size + 1 + 1 + 1) #[.int .i64 0, .slice none 0 0, .int .i64 0, .slice none 0 0] 36) := by rw [← hz]; exact Blk.new_at (by simp)
  have HZ : Hid (z.heap.size = w.heap.size + 4) := by show _ = _; rw [← hz]; simp
  go_enter Try.func13, Try.ntmps13
  go_upto_region 1 with fail
  try rw [hz]
  clear hz
  have HS : Hid (∀ w', Blk w' w.heap.size #[.int .i64 n, .slice (some ⟨gk, ok, none⟩) key.length kc, .int .i64 b, .int .i64 t, .slice a P.length cap] 27 → w'.cell? ⟨w.heap.size, 0, none⟩ = some (.int .i64 n) ∧ w'.cell? ⟨w.heap.size, 1, none⟩ = some (.slice (some ⟨gk, ok, none⟩) key.length kc) ∧ w'.cell? ⟨w.heap.size, 2, none⟩ = some (.int .i64 b) ∧ w'.cell? ⟨w.heap.size, 3, none⟩ = some (.int .i64 t) ∧ w'.cell? ⟨w.heap.size, 4, none⟩ = some (.slice a P.length cap)) := fun w' h => ⟨h.cell 0, h.cell 1, h.cell 2, h.cell 3, h.cell 4⟩
  go_cut [6] from 7 to 13 (fun s6 wx => ∃ (N Ke M : Nat) (rs : List ARow), s6 = .pointer (some ⟨N, 0, none⟩) ∧ Blk wx N #[.int .i64 n, .slice (some ⟨Ke, 0, none⟩) key.length key.length, .int .i64 b, .int .i64 t, .slice (some ⟨M, 0, none⟩) rs.length rs.length] 27 ∧ GA z.heap.size wx Ke key M rs ∧ pals rs = (leftTo P now P.length) ∧ z.heap.size ≤ N ∧ Below z.heap.size z wx)
  case first =>
    refine wp_region_held_drew (S := fun w' => w'.cell? ⟨w.heap.size, 0, none⟩ = some (.int .i64 n) ∧ w'.cell? ⟨w.heap.size, 1, none⟩ = some (.slice (some ⟨gk, ok, none⟩) key.length kc) ∧ w'.cell? ⟨w.heap.size, 2, none⟩ = some (.int .i64 b) ∧ w'.cell? ⟨w.heap.size, 3, none⟩ = some (.int .i64 t) ∧ w'.cell? ⟨w.heap.size, 4, none⟩ = some (.slice a P.length cap)) (by kernel_rfl) (HS.out _ BP.out.drew) (fun hHeld => ?_)
    refine wpAnyH_take (i := 0) (oi := { dst := some 7, op := Op.load 27 (Operand.tmp 2), type := 27, pos := "l11_group.go:104", after := #[], guard := none }) (v := ?vfl1) rfl (by kernel_rfl) (by kernel_rfl) (by kernel_rfl) (fun _ _ _ h => h) (Or.inl ⟨by rfl, ?hyfl1⟩) hHeld ?_
    case hyfl1 => (intro w hSw; (try dsimp only at hSw); go_simp <;> with_reducible rfl)
    try simp only [Act.put, List.setIfInBounds_toArray, List.set_cons_zero, List.set_cons_succ]
    refine wpAnyH_take (i := 1) (oi := { dst := some 8, op := Op.fieldAddr 27 (Operand.tmp 2) 4, type := 0, pos := "l11_group.go:104", after := #[], guard := none }) (v := ?vfl2) rfl (by kernel_rfl) (by kernel_rfl) (by kernel_rfl) (fun _ _ _ h => h) (Or.inl ⟨by rfl, ?hyfl2⟩) hHeld ?_
    case hyfl2 => (intro w hSw; (try dsimp only at hSw); go_simp <;> with_reducible rfl)
    try simp only [Act.put, List.setIfInBounds_toArray, List.set_cons_zero, List.set_cons_succ]
    refine wpAnyH_take (i := 2) (oi := { dst := some 9, op := Op.load 25 (Operand.tmp 8), type := 25, pos := "l11_group.go:104", after := #[{ on := 1, ground := Ground.data }], guard := none }) (v := ?vfl3) rfl (by kernel_rfl) (by kernel_rfl) (by kernel_rfl) (fun _ _ _ h => h) (Or.inl ⟨by rfl, ?hyfl3⟩) hHeld ?_
    case hyfl3 => (intro w hSw; (try dsimp only at hSw); go_simp <;> with_reducible rfl)
    try simp only [Act.put, List.setIfInBounds_toArray, List.set_cons_zero, List.set_cons_succ]
    refine wpAnyH_take (i := 3) (oi := { dst := some 10, op := Op.makeFunc (Fn.func 57) #[] #[Operand.tmp 3], type := 91, pos := "l11_group.go:104", after := #[], guard := none }) (v := ?vfl4) rfl (by kernel_rfl) (by kernel_rfl) (by kernel_rfl) (fun _ _ _ h => h) (Or.inl ⟨by rfl, ?hyfl4⟩) hHeld ?_
    case hyfl4 => (intro w hSw; (try dsimp only at hSw); go_simp <;> with_reducible rfl)
    try simp only [Act.put, List.setIfInBounds_toArray, List.set_cons_zero, List.set_cons_succ]
    refine wpAnyH_ready (rs := [4, 7]) (by kernel_rfl) (by simp) ?_
    refine AllReadyH.cons (o := { dst := some 11, op := Op.call { callee := Callee.value (Operand.func 56), args := #[Operand.tmp 9, Operand.tmp 10], argTypes := #[25, 91] }, type := 25, pos := "l11_group.go:104", after := #[{ on := 2, ground := Ground.data }, { on := 3, ground := Ground.data }], guard := none }) rfl (fun K hK => ?_) ?_
    ·
      go_simp
      refine (chosenA_any a (w.heap.size + 1) cap P now _ ((HR.out.1.below (grow_on HB.out (((Below.refl z.heap.size z))).drew)).rd) ((BN.out.grow (((Below.refl z.heap.size z))).drew).cell 0) hl).mono ?_
      rintro r wa ⟨⟨M0, c0, rfl, hA⟩, hb⟩
      have ZA : Hid (Below z.heap.size z wa) := grow_on (((Below.refl z.heap.size z))).drew hb
      have CH : Hid (RdA wa (some ⟨M0, 0, none⟩) (leftTo P now P.length)) := hA
      clear hA hb
      clear hHeld
      refine hK.out _ _ (HS.out _ (BP.out.grow ZA.out)) (fun hHeld => ?_)
      clear hK K
      try simp only [Act.put, List.setIfInBounds_toArray, List.set_cons_zero, List.set_cons_succ]
      refine wpAnyH_ready (rs := [5, 7]) (by kernel_rfl) (by simp) ?_
      refine AllReadyH.cons (o := { dst := some 12, op := Op.buildSlice 123 1 #[(0, Operand.tmp 11)], type := 123, pos := "l11_group.go:104", after := #[{ on := 4, ground := Ground.data }], guard := none }) rfl (fun K hK => ?_) ?_
      ·
        go_simp
        clear hHeld
        refine hK.out _ _ (HS.out _ (BP.out.grow (bel_alloc (ZA.out) (.cells #[.slice (some ⟨M0, 0, none⟩) (leftTo P now P.length).length c0] 25)))) (fun hHeld => ?_)
        clear hK K
        try simp only [Act.put, List.setIfInBounds_toArray, List.set_cons_zero, List.set_cons_succ]
        generalize hwb : wa.alloc (.cells #[.slice (some ⟨M0, 0, none⟩) (leftTo P now P.length).length c0] 25) = wb at *
        have ZBb : Hid (Below z.heap.size z wb) := by rw [← hwb]; exact (bel_alloc (ZA.out) (.cells #[.slice (some ⟨M0, 0, none⟩) (leftTo P now P.length).length c0] 25))
        have CP : Hid (Pcs wb (some ⟨wa.heap.size, 0, none⟩) [(some ⟨M0, 0, none⟩, c0, (leftTo P now P.length))]) := by
          have hnb : Blk wb (wa.heap.size) #[.slice (some ⟨M0, 0, none⟩) (leftTo P now P.length).length c0] 25 := by rw [← hwb]; exact Blk.new_at (by simp)
          have hup : Below wa.heap.size wa wb := by rw [← hwb]; exact (bel_alloc (Below.refl _ _) _)
          refine ⟨.inr ⟨wa.heap.size, 0, rfl, hnb.lt, fun i hi => ?_⟩, fun y hy => ?_⟩
          · have : i = 0 := by simpa using hi
            subst this
            have h := hnb.cell 0
            simp at h
            rw [h]; simp [nthQ, pcV]
          · rw [List.mem_singleton.1 hy]
            exact ⟨CH.out.below hup, lenM_left HR.out.2 _⟩
        clear CH hwb
        refine wpAnyH_ready (rs := [6, 7]) (by kernel_rfl) (by simp) ?_
        refine AllReadyH.cons (o := { dst := some 13, op := Op.call { callee := Callee.value (Operand.func 54), args := #[Operand.tmp 7, Operand.tmp 12], argTypes := #[27, 123] }, type := 27, pos := "l11_group.go:104", after := #[{ on := 0, ground := Ground.data }, { on := 5, ground := Ground.data }, { on := 4, ground := Ground.chain }], guard := none }) rfl (fun K hK => ?_) ?_
        ·
          go_simp
          refine (withA_any n b t gk ok kc key a P.length cap (some ⟨wa.heap.size, 0, none⟩) 1 [(some ⟨M0, 0, none⟩, c0, (leftTo P now P.length))] _ (HK.out.below (grow_on HB.out (ZBb.out))) hkl (CP.out.below (Below.refl _ _)) (by show 1 ≤ 1000; omega) (by show (upto [(some ⟨M0, 0, none⟩, c0, (leftTo P now P.length))] 1).length ≤ 3000000; rw [upto_one]; have := GrpF.left_le (P := P) (now := now) (Nat.le_refl _); show (leftTo P now P.length).length ≤ 3000000; omega) (fun y hy => by rw [List.mem_singleton.1 hy]; have := GrpF.left_le (P := P) (now := now) (Nat.le_refl _); show (leftTo P now P.length).length ≤ 1048576; omega)).mono ?_
          rintro r wc ⟨⟨Ke, M, rs, rfl, hG, hA, hP⟩, hb⟩
          have ZC : Hid (Below z.heap.size z wc) := grow_on (ZBb.out) hb
          have HG : Hid (GA z.heap.size wc Ke key M rs ∧ pals rs = (leftTo P now P.length)) := ⟨⟨hG.key.down (ZBb.out).size, hA.down (ZBb.out).size, hG.ne⟩, hP.trans (upto_one _)⟩
          clear hG hA hP hb CP
          clear hHeld
          refine hK.out _ _ (HS.out _ (BP.out.grow ZC.out)) (fun hHeld => ?_)
          clear hK K
          try simp only [Act.put, List.setIfInBounds_toArray, List.set_cons_zero, List.set_cons_succ]
          refine wpAnyH_ready (rs := [7]) (by kernel_rfl) (by simp) ?_
          refine AllReadyH.cons (o := { dst := some 6, op := Op.alloc 27, type := 0, pos := "l11_group.go:104", after := #[], guard := none }) rfl (fun K hK => ?_) AllReadyH.nil
          go_simp
          clear hHeld
          refine hK.out _ _ (HS.out _ (BP.out.grow (bel_alloc ZC.out (.cells #[.int .i64 0, .slice none 0 0, .int .i64 0, .int .i64 0, .slice none 0 0] 27)))) (fun hHeld => ?_)
          clear hK K
          try simp only [Act.put, List.setIfInBounds_toArray, List.set_cons_zero, List.set_cons_succ]
          refine wpAnyH_ready (rs := [8]) (by kernel_rfl) (by simp) ?_
          refine AllReadyH.cons (o := { dst := none, op := Op.store 27 (Operand.tmp 6) (Operand.tmp 13), type := 0, pos := "l11_group.go:104", after := #[{ on := 7, ground := Ground.data }, { on := 6, ground := Ground.data }, { on := 6, ground := Ground.chain }, { on := 0, ground := Ground.phase }, { on := 1, ground := Ground.phase }, { on := 2, ground := Ground.phase }, { on := 3, ground := Ground.phase }, { on := 4, ground := Ground.phase }, { on := 5, ground := Ground.phase }, { on := 6, ground := Ground.phase }, { on := 7, ground := Ground.phase }], guard := none }) rfl (fun K hK => ?_) AllReadyH.nil
          go_simp
          clear hHeld
          refine hK.out _ _ (HS.out _ (BP.out.grow (bel_alloc ZC.out (.cells #[.int .i64 n, .slice (some ⟨Ke, 0, none⟩) key.length key.length, .int .i64 b, .int .i64 t, .slice (some ⟨M, 0, none⟩) rs.length rs.length] 27)))) (fun hHeld => ?_)
          clear hK K
          try simp only [Act.put, List.setIfInBounds_toArray, List.set_cons_zero, List.set_cons_succ]
          refine wpAnyH_done (by kernel_rfl) ?_ _
          clear hHeld
          go_wp2_with fail
          go_meet
          exact ⟨_, Ke, M, rs, rfl, Blk.new _ _ _, HG.out.1.grow (Go.Joins.below_alloc1 wc _), HG.out.2, ZC.out.size, bel_alloc ZC.out _⟩
        refine AllReadyH.cons (o := { dst := some 6, op := Op.alloc 27, type := 0, pos := "l11_group.go:104", after := #[], guard := none }) rfl (fun K hK => ?_) AllReadyH.nil
        go_simp
        clear hHeld
        refine hK.out _ _ (HS.out _ (BP.out.grow (bel_alloc ZBb.out (.cells #[.int .i64 0, .slice none 0 0, .int .i64 0, .int .i64 0, .slice none 0 0] 27)))) (fun hHeld => ?_)
        clear hK K
        try simp only [Act.put, List.setIfInBounds_toArray, List.set_cons_zero, List.set_cons_succ]
        refine wpAnyH_ready (rs := [6]) (by kernel_rfl) (by simp) ?_
        refine AllReadyH.cons (o := { dst := some 13, op := Op.call { callee := Callee.value (Operand.func 54), args := #[Operand.tmp 7, Operand.tmp 12], argTypes := #[27, 123] }, type := 27, pos := "l11_group.go:104", after := #[{ on := 0, ground := Ground.data }, { on := 5, ground := Ground.data }, { on := 4, ground := Ground.chain }], guard := none }) rfl (fun K hK => ?_) AllReadyH.nil
        go_simp
        refine (withA_any n b t gk ok kc key a P.length cap (some ⟨wa.heap.size, 0, none⟩) 1 [(some ⟨M0, 0, none⟩, c0, (leftTo P now P.length))] _ (HK.out.below (grow_on HB.out (bel_alloc ZBb.out (.cells #[.int .i64 0, .slice none 0 0, .int .i64 0, .int .i64 0, .slice none 0 0] 27)))) hkl (CP.out.below (bel_alloc (Below.refl _ _) (.cells #[.int .i64 0, .slice none 0 0, .int .i64 0, .int .i64 0, .slice none 0 0] 27))) (by show 1 ≤ 1000; omega) (by show (upto [(some ⟨M0, 0, none⟩, c0, (leftTo P now P.length))] 1).length ≤ 3000000; rw [upto_one]; have := GrpF.left_le (P := P) (now := now) (Nat.le_refl _); show (leftTo P now P.length).length ≤ 3000000; omega) (fun y hy => by rw [List.mem_singleton.1 hy]; have := GrpF.left_le (P := P) (now := now) (Nat.le_refl _); show (leftTo P now P.length).length ≤ 1048576; omega)).mono ?_
        rintro r wc ⟨⟨Ke, M, rs, rfl, hG, hA, hP⟩, hb⟩
        have ZC : Hid (Below z.heap.size z wc) := grow_on (bel_alloc ZBb.out (.cells #[.int .i64 0, .slice none 0 0, .int .i64 0, .int .i64 0, .slice none 0 0] 27)) hb
        have HG : Hid (GA z.heap.size wc Ke key M rs ∧ pals rs = (leftTo P now P.length)) := ⟨⟨hG.key.down (bel_alloc ZBb.out (.cells #[.int .i64 0, .slice none 0 0, .int .i64 0, .int .i64 0, .slice none 0 0] 27)).size, hA.down (bel_alloc ZBb.out (.cells #[.int .i64 0, .slice none 0 0, .int .i64 0, .int .i64 0, .slice none 0 0] 27)).size, hG.ne⟩, hP.trans (upto_one _)⟩
        have NBX : Hid (Blk wc wb.heap.size #[.int .i64 0, .slice none 0 0, .int .i64 0, .int .i64 0, .slice none 0 0] 27) := (Blk.new wb _ _).grow hb
        clear hG hA hP hb CP
        clear hHeld
        refine hK.out _ _ (HS.out _ (BP.out.grow ZC.out)) (fun hHeld => ?_)
        clear hK K
        try simp only [Act.put, List.setIfInBounds_toArray, List.set_cons_zero, List.set_cons_succ]
        refine wpAnyH_ready (rs := [8]) (by kernel_rfl) (by simp) ?_
        refine AllReadyH.cons (o := { dst := none, op := Op.store 27 (Operand.tmp 6) (Operand.tmp 13), type := 0, pos := "l11_group.go:104", after := #[{ on := 7, ground := Ground.data }, { on := 6, ground := Ground.data }, { on := 6, ground := Ground.chain }, { on := 0, ground := Ground.phase }, { on := 1, ground := Ground.phase }, { on := 2, ground := Ground.phase }, { on := 3, ground := Ground.phase }, { on := 4, ground := Ground.phase }, { on := 5, ground := Ground.phase }, { on := 6, ground := Ground.phase }, { on := 7, ground := Ground.phase }], guard := none }) rfl (fun K hK => ?_) AllReadyH.nil
        have n0' := NBX.out.cell 0
        have m0' := NBX.out.frozen 0
        have n1' := NBX.out.cell 1
        have m1' := NBX.out.frozen 1
        have n2' := NBX.out.cell 2
        have m2' := NBX.out.frozen 2
        have n3' := NBX.out.cell 3
        have m3' := NBX.out.frozen 3
        have n4' := NBX.out.cell 4
        have m4' := NBX.out.frozen 4
        simp at n0' n1' n2' n3' n4'
        go_simp
        clear n0' m0' n1' m1' n2' m2' n3' m3' n4' m4'
        have hzz := (set_low (set_low (set_low (set_low (set_low ZC.out (M := wb.heap.size) (ZBb.out.size) 0 (.int .i64 n)) (M := wb.heap.size) (ZBb.out.size) 1 (.slice (some ⟨Ke, 0, none⟩) key.length key.length)) (M := wb.heap.size) (ZBb.out.size) 2 (.int .i64 b)) (M := wb.heap.size) (ZBb.out.size) 3 (.int .i64 t)) (M := wb.heap.size) (ZBb.out.size) 4 (.slice (some ⟨M, 0, none⟩) rs.length rs.length))
        clear hHeld
        refine hK.out _ _ (HS.out _ (BP.out.grow hzz)) (fun hHeld => ?_)
        clear hK K
        try simp only [Act.put, List.setIfInBounds_toArray, List.set_cons_zero, List.set_cons_succ]
        clear hzz
        refine wpAnyH_done (by kernel_rfl) ?_ _
        clear hHeld
        go_wp2_with fail
        go_meet
        exact ⟨_, Ke, M, rs, rfl, (((((NBX.out.set 0 (.int .i64 n)).set 1 (.slice (some ⟨Ke, 0, none⟩) key.length key.length)).set 2 (.int .i64 b)).set 3 (.int .i64 t)).set 4 (.slice (some ⟨M, 0, none⟩) rs.length rs.length)), (((((HG.out.1.set NBX.out (by decide) (by decide) 0 (.int .i64 n)).set (NBX.out.set 0 (.int .i64 n)) (by decide) (by decide) 1 (.slice (some ⟨Ke, 0, none⟩) key.length key.length)).set ((NBX.out.set 0 (.int .i64 n)).set 1 (.slice (some ⟨Ke, 0, none⟩) key.length key.length)) (by decide) (by decide) 2 (.int .i64 b)).set (((NBX.out.set 0 (.int .i64 n)).set 1 (.slice (some ⟨Ke, 0, none⟩) key.length key.length)).set 2 (.int .i64 b)) (by decide) (by decide) 3 (.int .i64 t)).set ((((NBX.out.set 0 (.int .i64 n)).set 1 (.slice (some ⟨Ke, 0, none⟩) key.length key.length)).set 2 (.int .i64 b)).set 3 (.int .i64 t)) (by decide) (by decide) 4 (.slice (some ⟨M, 0, none⟩) rs.length rs.length)), HG.out.2, ZBb.out.size, (set_low (set_low (set_low (set_low (set_low ZC.out (M := wb.heap.size) (ZBb.out.size) 0 (.int .i64 n)) (M := wb.heap.size) (ZBb.out.size) 1 (.slice (some ⟨Ke, 0, none⟩) key.length key.length)) (M := wb.heap.size) (ZBb.out.size) 2 (.int .i64 b)) (M := wb.heap.size) (ZBb.out.size) 3 (.int .i64 t)) (M := wb.heap.size) (ZBb.out.size) 4 (.slice (some ⟨M, 0, none⟩) rs.length rs.length))⟩
      refine AllReadyH.cons (o := { dst := some 6, op := Op.alloc 27, type := 0, pos := "l11_group.go:104", after := #[], guard := none }) rfl (fun K hK => ?_) AllReadyH.nil
      go_simp
      clear hHeld
      refine hK.out _ _ (HS.out _ (BP.out.grow (bel_alloc ZA.out (.cells #[.int .i64 0, .slice none 0 0, .int .i64 0, .int .i64 0, .slice none 0 0] 27)))) (fun hHeld => ?_)
      clear hK K
      try simp only [Act.put, List.setIfInBounds_toArray, List.set_cons_zero, List.set_cons_succ]
      refine wpAnyH_ready (rs := [5]) (by kernel_rfl) (by simp) ?_
      refine AllReadyH.cons (o := { dst := some 12, op := Op.buildSlice 123 1 #[(0, Operand.tmp 11)], type := 123, pos := "l11_group.go:104", after := #[{ on := 4, ground := Ground.data }], guard := none }) rfl (fun K hK => ?_) AllReadyH.nil
      go_simp
      clear hHeld
      refine hK.out _ _ (HS.out _ (BP.out.grow (bel_alloc (bel_alloc ZA.out (.cells #[.int .i64 0, .slice none 0 0, .int .i64 0, .int .i64 0, .slice none 0 0] 27)) (.cells #[.slice (some ⟨M0, 0, none⟩) (leftTo P now P.length).length c0] 25)))) (fun hHeld => ?_)
      clear hK K
      try simp only [Act.put, List.setIfInBounds_toArray, List.set_cons_zero, List.set_cons_succ]
      generalize hwb : (wa.alloc (.cells #[.int .i64 0, .slice none 0 0, .int .i64 0, .int .i64 0, .slice none 0 0] 27)).alloc (.cells #[.slice (some ⟨M0, 0, none⟩) (leftTo P now P.length).length c0] 25) = wb at *
      have ZBb : Hid (Below z.heap.size z wb) := by rw [← hwb]; exact (bel_alloc (bel_alloc ZA.out (.cells #[.int .i64 0, .slice none 0 0, .int .i64 0, .int .i64 0, .slice none 0 0] 27)) (.cells #[.slice (some ⟨M0, 0, none⟩) (leftTo P now P.length).length c0] 25))
      have CP : Hid (Pcs wb (some ⟨wa.heap.size + 1, 0, none⟩) [(some ⟨M0, 0, none⟩, c0, (leftTo P now P.length))]) := by
        have hnb : Blk wb (wa.heap.size + 1) #[.slice (some ⟨M0, 0, none⟩) (leftTo P now P.length).length c0] 25 := by rw [← hwb]; exact Blk.new_at (by simp)
        have hup : Below wa.heap.size wa wb := by rw [← hwb]; exact (bel_alloc (bel_alloc (Below.refl _ _) _) _)
        refine ⟨.inr ⟨wa.heap.size + 1, 0, rfl, hnb.lt, fun i hi => ?_⟩, fun y hy => ?_⟩
        · have : i = 0 := by simpa using hi
          subst this
          have h := hnb.cell 0
          simp at h
          rw [h]; simp [nthQ, pcV]
        · rw [List.mem_singleton.1 hy]
          exact ⟨CH.out.below hup, lenM_left HR.out.2 _⟩
      have NBX : Hid (Blk wb wa.heap.size #[.int .i64 0, .slice none 0 0, .int .i64 0, .int .i64 0, .slice none 0 0] 27) := by rw [← hwb]; exact ((Blk.new wa _ _)).alloc _
      clear CH hwb
      refine wpAnyH_ready (rs := [6]) (by kernel_rfl) (by simp) ?_
      refine AllReadyH.cons (o := { dst := some 13, op := Op.call { callee := Callee.value (Operand.func 54), args := #[Operand.tmp 7, Operand.tmp 12], argTypes := #[27, 123] }, type := 27, pos := "l11_group.go:104", after := #[{ on := 0, ground := Ground.data }, { on := 5, ground := Ground.data }, { on := 4, ground := Ground.chain }], guard := none }) rfl (fun K hK => ?_) AllReadyH.nil
      go_simp
      refine (withA_any n b t gk ok kc key a P.length cap (some ⟨wa.heap.size + 1, 0, none⟩) 1 [(some ⟨M0, 0, none⟩, c0, (leftTo P now P.length))] _ (HK.out.below (grow_on HB.out (ZBb.out))) hkl (CP.out.below (Below.refl _ _)) (by show 1 ≤ 1000; omega) (by show (upto [(some ⟨M0, 0, none⟩, c0, (leftTo P now P.length))] 1).length ≤ 3000000; rw [upto_one]; have := GrpF.left_le (P := P) (now := now) (Nat.le_refl _); show (leftTo P now P.length).length ≤ 3000000; omega) (fun y hy => by rw [List.mem_singleton.1 hy]; have := GrpF.left_le (P := P) (now := now) (Nat.le_refl _); show (leftTo P now P.length).length ≤ 1048576; omega)).mono ?_
      rintro r wc ⟨⟨Ke, M, rs, rfl, hG, hA, hP⟩, hb⟩
      have ZC : Hid (Below z.heap.size z wc) := grow_on (ZBb.out) hb
      have HG : Hid (GA z.heap.size wc Ke key M rs ∧ pals rs = (leftTo P now P.length)) := ⟨⟨hG.key.down (ZBb.out).size, hA.down (ZBb.out).size, hG.ne⟩, hP.trans (upto_one _)⟩
      replace NBX : Hid (Blk wc wa.heap.size #[.int .i64 0, .slice none 0 0, .int .i64 0, .int .i64 0, .slice none 0 0] 27) := NBX.out.grow hb
      clear hG hA hP hb CP
      clear hHeld
      refine hK.out _ _ (HS.out _ (BP.out.grow ZC.out)) (fun hHeld => ?_)
      clear hK K
      try simp only [Act.put, List.setIfInBounds_toArray, List.set_cons_zero, List.set_cons_succ]
      refine wpAnyH_ready (rs := [8]) (by kernel_rfl) (by simp) ?_
      refine AllReadyH.cons (o := { dst := none, op := Op.store 27 (Operand.tmp 6) (Operand.tmp 13), type := 0, pos := "l11_group.go:104", after := #[{ on := 7, ground := Ground.data }, { on := 6, ground := Ground.data }, { on := 6, ground := Ground.chain }, { on := 0, ground := Ground.phase }, { on := 1, ground := Ground.phase }, { on := 2, ground := Ground.phase }, { on := 3, ground := Ground.phase }, { on := 4, ground := Ground.phase }, { on := 5, ground := Ground.phase }, { on := 6, ground := Ground.phase }, { on := 7, ground := Ground.phase }], guard := none }) rfl (fun K hK => ?_) AllReadyH.nil
      have n0' := NBX.out.cell 0
      have m0' := NBX.out.frozen 0
      have n1' := NBX.out.cell 1
      have m1' := NBX.out.frozen 1
      have n2' := NBX.out.cell 2
      have m2' := NBX.out.frozen 2
      have n3' := NBX.out.cell 3
      have m3' := NBX.out.frozen 3
      have n4' := NBX.out.cell 4
      have m4' := NBX.out.frozen 4
      simp at n0' n1' n2' n3' n4'
      go_simp
      clear n0' m0' n1' m1' n2' m2' n3' m3' n4' m4'
      have hzz := (set_low (set_low (set_low (set_low (set_low ZC.out (M := wa.heap.size) (ZA.out.size) 0 (.int .i64 n)) (M := wa.heap.size) (ZA.out.size) 1 (.slice (some ⟨Ke, 0, none⟩) key.length key.length)) (M := wa.heap.size) (ZA.out.size) 2 (.int .i64 b)) (M := wa.heap.size) (ZA.out.size) 3 (.int .i64 t)) (M := wa.heap.size) (ZA.out.size) 4 (.slice (some ⟨M, 0, none⟩) rs.length rs.length))
      clear hHeld
      refine hK.out _ _ (HS.out _ (BP.out.grow hzz)) (fun hHeld => ?_)
      clear hK K
      try simp only [Act.put, List.setIfInBounds_toArray, List.set_cons_zero, List.set_cons_succ]
      clear hzz
      refine wpAnyH_done (by kernel_rfl) ?_ _
      clear hHeld
      go_wp2_with fail
      go_meet
      exact ⟨_, Ke, M, rs, rfl, (((((NBX.out.set 0 (.int .i64 n)).set 1 (.slice (some ⟨Ke, 0, none⟩) key.length key.length)).set 2 (.int .i64 b)).set 3 (.int .i64 t)).set 4 (.slice (some ⟨M, 0, none⟩) rs.length rs.length)), (((((HG.out.1.set NBX.out (by decide) (by decide) 0 (.int .i64 n)).set (NBX.out.set 0 (.int .i64 n)) (by decide) (by decide) 1 (.slice (some ⟨Ke, 0, none⟩) key.length key.length)).set ((NBX.out.set 0 (.int .i64 n)).set 1 (.slice (some ⟨Ke, 0, none⟩) key.length key.length)) (by decide) (by decide) 2 (.int .i64 b)).set (((NBX.out.set 0 (.int .i64 n)).set 1 (.slice (some ⟨Ke, 0, none⟩) key.length key.length)).set 2 (.int .i64 b)) (by decide) (by decide) 3 (.int .i64 t)).set ((((NBX.out.set 0 (.int .i64 n)).set 1 (.slice (some ⟨Ke, 0, none⟩) key.length key.length)).set 2 (.int .i64 b)).set 3 (.int .i64 t)) (by decide) (by decide) 4 (.slice (some ⟨M, 0, none⟩) rs.length rs.length)), HG.out.2, ZA.out.size, (set_low (set_low (set_low (set_low (set_low ZC.out (M := wa.heap.size) (ZA.out.size) 0 (.int .i64 n)) (M := wa.heap.size) (ZA.out.size) 1 (.slice (some ⟨Ke, 0, none⟩) key.length key.length)) (M := wa.heap.size) (ZA.out.size) 2 (.int .i64 b)) (M := wa.heap.size) (ZA.out.size) 3 (.int .i64 t)) (M := wa.heap.size) (ZA.out.size) 4 (.slice (some ⟨M, 0, none⟩) rs.length rs.length))⟩
    refine AllReadyH.cons (o := { dst := some 6, op := Op.alloc 27, type := 0, pos := "l11_group.go:104", after := #[], guard := none }) rfl (fun K hK => ?_) AllReadyH.nil
    go_simp
    clear hHeld
    refine hK.out _ _ (HS.out _ (BP.out.grow (bel_alloc (Below.refl z.heap.size z) (.cells #[.int .i64 0, .slice none 0 0, .int .i64 0, .int .i64 0, .slice none 0 0] 27)).drew)) (fun hHeld => ?_)
    clear hK K
    try simp only [Act.put, List.setIfInBounds_toArray, List.set_cons_zero, List.set_cons_succ]
    refine wpAnyH_ready (rs := [4]) (by kernel_rfl) (by simp) ?_
    refine AllReadyH.cons (o := { dst := some 11, op := Op.call { callee := Callee.value (Operand.func 56), args := #[Operand.tmp 9, Operand.tmp 10], argTypes := #[25, 91] }, type := 25, pos := "l11_group.go:104", after := #[{ on := 2, ground := Ground.data }, { on := 3, ground := Ground.data }], guard := none }) rfl (fun K hK => ?_) AllReadyH.nil
    go_simp
    refine (chosenA_any a (w.heap.size + 1) cap P now _ ((HR.out.1.below (grow_on HB.out ((bel_alloc (Below.refl z.heap.size z) (.cells #[.int .i64 0, .slice none 0 0, .int .i64 0, .int .i64 0, .slice none 0 0] 27))).drew)).rd) ((BN.out.grow ((bel_alloc (Below.refl z.heap.size z) (.cells #[.int .i64 0, .slice none 0 0, .int .i64 0, .int .i64 0, .slice none 0 0] 27))).drew).cell 0) hl).mono ?_
    rintro r wa ⟨⟨M0, c0, rfl, hA⟩, hb⟩
    have ZA : Hid (Below z.heap.size z wa) := grow_on ((bel_alloc (Below.refl z.heap.size z) (.cells #[.int .i64 0, .slice none 0 0, .int .i64 0, .int .i64 0, .slice none 0 0] 27))).drew hb
    have CH : Hid (RdA wa (some ⟨M0, 0, none⟩) (leftTo P now P.length)) := hA
    have NBX : Hid (Blk wa z.heap.size #[.int .i64 0, .slice none 0 0, .int .i64 0, .int .i64 0, .slice none 0 0] 27) := (Blk.new z.drew _ _).grow hb
    clear hA hb
    clear hHeld
    refine hK.out _ _ (HS.out _ (BP.out.grow ZA.out)) (fun hHeld => ?_)
    clear hK K
    try simp only [Act.put, List.setIfInBounds_toArray, List.set_cons_zero, List.set_cons_succ]
    refine wpAnyH_ready (rs := [5]) (by kernel_rfl) (by simp) ?_
    refine AllReadyH.cons (o := { dst := some 12, op := Op.buildSlice 123 1 #[(0, Operand.tmp 11)], type := 123, pos := "l11_group.go:104", after := #[{ on := 4, ground := Ground.data }], guard := none }) rfl (fun K hK => ?_) AllReadyH.nil
    go_simp
    clear hHeld
    refine hK.out _ _ (HS.out _ (BP.out.grow (bel_alloc (ZA.out) (.cells #[.slice (some ⟨M0, 0, none⟩) (leftTo P now P.length).length c0] 25)))) (fun hHeld => ?_)
    clear hK K
    try simp only [Act.put, List.setIfInBounds_toArray, List.set_cons_zero, List.set_cons_succ]
    generalize hwb : wa.alloc (.cells #[.slice (some ⟨M0, 0, none⟩) (leftTo P now P.length).length c0] 25) = wb at *
    have ZBb : Hid (Below z.heap.size z wb) := by rw [← hwb]; exact (bel_alloc (ZA.out) (.cells #[.slice (some ⟨M0, 0, none⟩) (leftTo P now P.length).length c0] 25))
    have CP : Hid (Pcs wb (some ⟨wa.heap.size, 0, none⟩) [(some ⟨M0, 0, none⟩, c0, (leftTo P now P.length))]) := by
      have hnb : Blk wb (wa.heap.size) #[.slice (some ⟨M0, 0, none⟩) (leftTo P now P.length).length c0] 25 := by rw [← hwb]; exact Blk.new_at (by simp)
      have hup : Below wa.heap.size wa wb := by rw [← hwb]; exact (bel_alloc (Below.refl _ _) _)
      refine ⟨.inr ⟨wa.heap.size, 0, rfl, hnb.lt, fun i hi => ?_⟩, fun y hy => ?_⟩
      · have : i = 0 := by simpa using hi
        subst this
        have h := hnb.cell 0
        simp at h
        rw [h]; simp [nthQ, pcV]
      · rw [List.mem_singleton.1 hy]
        exact ⟨CH.out.below hup, lenM_left HR.out.2 _⟩
    replace NBX : Hid (Blk wb z.heap.size #[.int .i64 0, .slice none 0 0, .int .i64 0, .int .i64 0, .slice none 0 0] 27) := by rw [← hwb]; exact (NBX.out).alloc _
    clear CH hwb
    refine wpAnyH_ready (rs := [6]) (by kernel_rfl) (by simp) ?_
    refine AllReadyH.cons (o := { dst := some 13, op := Op.call { callee := Callee.value (Operand.func 54), args := #[Operand.tmp 7, Operand.tmp 12], argTypes := #[27, 123] }, type := 27, pos := "l11_group.go:104", after := #[{ on := 0, ground := Ground.data }, { on := 5, ground := Ground.data }, { on := 4, ground := Ground.chain }], guard := none }) rfl (fun K hK => ?_) AllReadyH.nil
    go_simp
    refine (withA_any n b t gk ok kc key a P.length cap (some ⟨wa.heap.size, 0, none⟩) 1 [(some ⟨M0, 0, none⟩, c0, (leftTo P now P.length))] _ (HK.out.below (grow_on HB.out (ZBb.out))) hkl (CP.out.below (Below.refl _ _)) (by show 1 ≤ 1000; omega) (by show (upto [(some ⟨M0, 0, none⟩, c0, (leftTo P now P.length))] 1).length ≤ 3000000; rw [upto_one]; have := GrpF.left_le (P := P) (now := now) (Nat.le_refl _); show (leftTo P now P.length).length ≤ 3000000; omega) (fun y hy => by rw [List.mem_singleton.1 hy]; have := GrpF.left_le (P := P) (now := now) (Nat.le_refl _); show (leftTo P now P.length).length ≤ 1048576; omega)).mono ?_
    rintro r wc ⟨⟨Ke, M, rs, rfl, hG, hA, hP⟩, hb⟩
    have ZC : Hid (Below z.heap.size z wc) := grow_on (ZBb.out) hb
    have HG : Hid (GA z.heap.size wc Ke key M rs ∧ pals rs = (leftTo P now P.length)) := ⟨⟨hG.key.down (ZBb.out).size, hA.down (ZBb.out).size, hG.ne⟩, hP.trans (upto_one _)⟩
    replace NBX : Hid (Blk wc z.heap.size #[.int .i64 0, .slice none 0 0, .int .i64 0, .int .i64 0, .slice none 0 0] 27) := NBX.out.grow hb
    clear hG hA hP hb CP
    clear hHeld
    refine hK.out _ _ (HS.out _ (BP.out.grow ZC.out)) (fun hHeld => ?_)
    clear hK K
    try simp only [Act.put, List.setIfInBounds_toArray, List.set_cons_zero, List.set_cons_succ]
    refine wpAnyH_ready (rs := [8]) (by kernel_rfl) (by simp) ?_
    refine AllReadyH.cons (o := { dst := none, op := Op.store 27 (Operand.tmp 6) (Operand.tmp 13), type := 0, pos := "l11_group.go:104", after := #[{ on := 7, ground := Ground.data }, { on := 6, ground := Ground.data }, { on := 6, ground := Ground.chain }, { on := 0, ground := Ground.phase }, { on := 1, ground := Ground.phase }, { on := 2, ground := Ground.phase }, { on := 3, ground := Ground.phase }, { on := 4, ground := Ground.phase }, { on := 5, ground := Ground.phase }, { on := 6, ground := Ground.phase }, { on := 7, ground := Ground.phase }], guard := none }) rfl (fun K hK => ?_) AllReadyH.nil
    have n0' := NBX.out.cell 0
    have m0' := NBX.out.frozen 0
    have n1' := NBX.out.cell 1
    have m1' := NBX.out.frozen 1
    have n2' := NBX.out.cell 2
    have m2' := NBX.out.frozen 2
    have n3' := NBX.out.cell 3
    have m3' := NBX.out.frozen 3
    have n4' := NBX.out.cell 4
    have m4' := NBX.out.frozen 4
    simp at n0' n1' n2' n3' n4'
    go_simp
    clear n0' m0' n1' m1' n2' m2' n3' m3' n4' m4'
    have hzz := (set_low (set_low (set_low (set_low (set_low ZC.out (M := z.heap.size) (Nat.le_refl _) 0 (.int .i64 n)) (M := z.heap.size) (Nat.le_refl _) 1 (.slice (some ⟨Ke, 0, none⟩) key.length key.length)) (M := z.heap.size) (Nat.le_refl _) 2 (.int .i64 b)) (M := z.heap.size) (Nat.le_refl _) 3 (.int .i64 t)) (M := z.heap.size) (Nat.le_refl _) 4 (.slice (some ⟨M, 0, none⟩) rs.length rs.length))
    clear hHeld
    refine hK.out _ _ (HS.out _ (BP.out.grow hzz)) (fun hHeld => ?_)
    clear hK K
    try simp only [Act.put, List.setIfInBounds_toArray, List.set_cons_zero, List.set_cons_succ]
    clear hzz
    refine wpAnyH_done (by kernel_rfl) ?_ _
    clear hHeld
    go_wp2_with fail
    go_meet
    exact ⟨_, Ke, M, rs, rfl, (((((NBX.out.set 0 (.int .i64 n)).set 1 (.slice (some ⟨Ke, 0, none⟩) key.length key.length)).set 2 (.int .i64 b)).set 3 (.int .i64 t)).set 4 (.slice (some ⟨M, 0, none⟩) rs.length rs.length)), (((((HG.out.1.set NBX.out (by decide) (by decide) 0 (.int .i64 n)).set (NBX.out.set 0 (.int .i64 n)) (by decide) (by decide) 1 (.slice (some ⟨Ke, 0, none⟩) key.length key.length)).set ((NBX.out.set 0 (.int .i64 n)).set 1 (.slice (some ⟨Ke, 0, none⟩) key.length key.length)) (by decide) (by decide) 2 (.int .i64 b)).set (((NBX.out.set 0 (.int .i64 n)).set 1 (.slice (some ⟨Ke, 0, none⟩) key.length key.length)).set 2 (.int .i64 b)) (by decide) (by decide) 3 (.int .i64 t)).set ((((NBX.out.set 0 (.int .i64 n)).set 1 (.slice (some ⟨Ke, 0, none⟩) key.length key.length)).set 2 (.int .i64 b)).set 3 (.int .i64 t)) (by decide) (by decide) 4 (.slice (some ⟨M, 0, none⟩) rs.length rs.length)), HG.out.2, Nat.le_refl _, (set_low (set_low (set_low (set_low (set_low ZC.out (M := z.heap.size) (Nat.le_refl _) 0 (.int .i64 n)) (M := z.heap.size) (Nat.le_refl _) 1 (.slice (some ⟨Ke, 0, none⟩) key.length key.length)) (M := z.heap.size) (Nat.le_refl _) 2 (.int .i64 b)) (M := z.heap.size) (Nat.le_refl _) 3 (.int .i64 t)) (M := z.heap.size) (Nat.le_refl _) 4 (.slice (some ⟨M, 0, none⟩) rs.length rs.length))⟩
  case rest =>
    obtain ⟨N, Ke, M, rs, rfl, hN, hG, hP, hNz, hb⟩ := hcut
    have HX : Hid (Blk wc w.heap.size #[.int .i64 n, .slice (some ⟨gk, ok, none⟩) key.length kc, .int .i64 b, .int .i64 t, .slice a P.length cap] 27 ∧ Blk wc (w.heap.size + 1) #[.int .i64 now] 3 ∧ Blk wc (w.heap.size + 1 + 1) #[.int .i64 0, .slice none 0 0, .int .i64 0, .int .i64 0, .slice none 0 0] 27 ∧ Blk wc (w.heap.size + 1 + 1 + 1) #[.int .i64 0, .slice none 0 0, .int .i64 0, .slice none 0 0] 36) := ⟨BP.out.grow hb, BN.out.grow hb, BR.out.grow hb, BS.out.grow hb⟩
    have HN : Hid (Blk wc N #[.int .i64 n, .slice (some ⟨Ke, 0, none⟩) key.length key.length, .int .i64 b, .int .i64 t, .slice (some ⟨M, 0, none⟩) rs.length rs.length] 27) := hN
    have HG : Hid (GA z.heap.size wc Ke key M rs ∧ pals rs = (leftTo P now P.length)) := ⟨hG, hP⟩
    have HNz : Hid (w.heap.size + 4 ≤ N ∧ w.heap.size + 4 ≤ z.heap.size) := by have := HZ.out; exact ⟨by omega, by omega⟩
    have HBc : Hid (Below w.heap.size w wc) := grow_on HB.out hb
    clear hN hG hP hNz hb BP BN BR BS HS HB HZ
    have q0 := HX.out.2.1.cell 0
    have o3 := HN.out.cell 3
    have fo3 := HN.out.frozen 3
    simp at q0 o3
    go_upto_region 3 with fail
    have hne1 : N ≠ w.heap.size := by have := HNz.out.1; omega
    have hne2 : N ≠ (w.heap.size + 1) := by have := HNz.out.1; omega
    have hne3 : N ≠ (w.heap.size + 1 + 1) := by have := HNz.out.1; omega
    have hne4 : N ≠ (w.heap.size + 1 + 1 + 1) := by have := HNz.out.1; omega
    have BPz : Hid (Blk (wc.setCell ⟨N, 3, none⟩ (.int .i64 now)) w.heap.size #[.int .i64 n, .slice (some ⟨gk, ok, none⟩) key.length kc, .int .i64 b, .int .i64 t, .slice a P.length cap] 27) := HX.out.1.set_other (p := ⟨N, 3, none⟩) hne1 _
    have BNz : Hid (Blk (wc.setCell ⟨N, 3, none⟩ (.int .i64 now)) (w.heap.size + 1) #[.int .i64 now] 3) := HX.out.2.1.set_other (p := ⟨N, 3, none⟩) hne2 _
    have BRz : Hid (Blk (wc.setCell ⟨N, 3, none⟩ (.int .i64 now)) (w.heap.size + 1 + 1) #[.int .i64 0, .slice none 0 0, .int .i64 0, .int .i64 0, .slice none 0 0] 27) := HX.out.2.2.1.set_other (p := ⟨N, 3, none⟩) hne3 _
    have BSz : Hid (Blk (wc.setCell ⟨N, 3, none⟩ (.int .i64 now)) (w.heap.size + 1 + 1 + 1) #[.int .i64 0, .slice none 0 0, .int .i64 0, .slice none 0 0] 36) := HX.out.2.2.2.set_other (p := ⟨N, 3, none⟩) hne4 _
    have BOz : Hid (Blk (wc.setCell ⟨N, 3, none⟩ (.int .i64 now)) N #[.int .i64 n, .slice (some ⟨Ke, 0, none⟩) key.length key.length, .int .i64 b, .int .i64 now, .slice (some ⟨M, 0, none⟩) rs.length rs.length] 27) := HN.out.set 3 _
    have HGz : Hid (GA z.heap.size (wc.setCell ⟨N, 3, none⟩ (.int .i64 now)) Ke key M rs ∧ pals rs = (leftTo P now P.length)) := ⟨HG.out.1.set HN.out (by decide) (by decide) 3 _, HG.out.2⟩
    have HBz : Hid (Below w.heap.size w (wc.setCell ⟨N, 3, none⟩ (.int .i64 now))) := set_low HBc.out (by have := HNz.out.1; omega) _ _
    clear q0 o3 fo3 HX HN HG HBc
    generalize wc.setCell ⟨N, 3, none⟩ (.int .i64 now) = y at *
    have HS : Hid (∀ w', Blk w' w.heap.size #[.int .i64 n, .slice (some ⟨gk, ok, none⟩) key.length kc, .int .i64 b, .int .i64 t, .slice a P.length cap] 27 → Blk w' (w.heap.size + 1) #[.int .i64 now] 3 → Blk w' N #[.int .i64 n, .slice (some ⟨Ke, 0, none⟩) key.length key.length, .int .i64 b, .int .i64 now, .slice (some ⟨M, 0, none⟩) rs.length rs.length] 27 → w'.cell? ⟨w.heap.size, 0, none⟩ = some (.int .i64 n) ∧ w'.cell? ⟨w.heap.size, 1, none⟩ = some (.slice (some ⟨gk, ok, none⟩) key.length kc) ∧ w'.cell? ⟨w.heap.size, 4, none⟩ = some (.slice a P.length cap) ∧ w'.cell? ⟨(w.heap.size + 1), 0, none⟩ = some (.int .i64 now) ∧ w'.cell? ⟨N, 0, none⟩ = some (.int .i64 n) ∧ w'.cell? ⟨N, 1, none⟩ = some (.slice (some ⟨Ke, 0, none⟩) key.length key.length) ∧ w'.cell? ⟨N, 2, none⟩ = some (.int .i64 b) ∧ w'.cell? ⟨N, 3, none⟩ = some (.int .i64 now) ∧ w'.cell? ⟨N, 4, none⟩ = some (.slice (some ⟨M, 0, none⟩) rs.length rs.length)) := fun w' h k l => ⟨h.cell 0, h.cell 1, h.cell 4, k.cell 0, l.cell 0, l.cell 1, l.cell 2, l.cell 3, l.cell 4⟩
    refine wp_region_held_drew (S := fun w' => w'.cell? ⟨w.heap.size, 0, none⟩ = some (.int .i64 n) ∧ w'.cell? ⟨w.heap.size, 1, none⟩ = some (.slice (some ⟨gk, ok, none⟩) key.length kc) ∧ w'.cell? ⟨w.heap.size, 4, none⟩ = some (.slice a P.length cap) ∧ w'.cell? ⟨(w.heap.size + 1), 0, none⟩ = some (.int .i64 now) ∧ w'.cell? ⟨N, 0, none⟩ = some (.int .i64 n) ∧ w'.cell? ⟨N, 1, none⟩ = some (.slice (some ⟨Ke, 0, none⟩) key.length key.length) ∧ w'.cell? ⟨N, 2, none⟩ = some (.int .i64 b) ∧ w'.cell? ⟨N, 3, none⟩ = some (.int .i64 now) ∧ w'.cell? ⟨N, 4, none⟩ = some (.slice (some ⟨M, 0, none⟩) rs.length rs.length)) (by kernel_rfl) (HS.out _ (BPz.out.grow (Below.refl y.heap.size y).drew) (BNz.out.grow (Below.refl y.heap.size y).drew) (BOz.out.grow (Below.refl y.heap.size y).drew)) (fun hHeld => ?_)
    refine wpAnyH_take (i := 0) (oi := { dst := some 16, op := Op.load 27 (Operand.tmp 6), type := 27, pos := "l11_group.go:108", after := #[], guard := none }) (v := ?vfm0) rfl (by kernel_rfl) (by kernel_rfl) (by kernel_rfl) (fun _ _ _ h => h) (Or.inl ⟨by rfl, ?hyfm0⟩) hHeld ?_
    case hyfm0 => (intro w hSw; (try dsimp only at hSw); go_simp <;> with_reducible rfl)
    try simp only [Act.put, List.setIfInBounds_toArray, List.set_cons_zero, List.set_cons_succ]
    refine wpAnyH_take (i := 1) (oi := { dst := some 17, op := Op.fieldAddr 27 (Operand.tmp 2) 0, type := 0, pos := "l11_group.go:108", after := #[{ on := 11, ground := Ground.gcOnly Departure.lateStores }], guard := none }) (v := ?vfm1) rfl (by kernel_rfl) (by kernel_rfl) (by kernel_rfl) (fun _ _ _ h => h) (Or.inl ⟨by rfl, ?hyfm1⟩) hHeld ?_
    case hyfm1 => (intro w hSw; (try dsimp only at hSw); go_simp <;> with_reducible rfl)
    try simp only [Act.put, List.setIfInBounds_toArray, List.set_cons_zero, List.set_cons_succ]
    refine wpAnyH_take (i := 2) (oi := { dst := some 18, op := Op.load 3 (Operand.tmp 17), type := 3, pos := "l11_group.go:108", after := #[{ on := 1, ground := Ground.data }, { on := 11, ground := Ground.gcOnly Departure.lateStores }], guard := none }) (v := ?vfm2) rfl (by kernel_rfl) (by kernel_rfl) (by kernel_rfl) (fun _ _ _ h => h) (Or.inl ⟨by rfl, ?hyfm2⟩) hHeld ?_
    case hyfm2 => (intro w hSw; (try dsimp only at hSw); go_simp <;> with_reducible rfl)
    try simp only [Act.put, List.setIfInBounds_toArray, List.set_cons_zero, List.set_cons_succ]
    refine wpAnyH_take (i := 3) (oi := { dst := some 19, op := Op.fieldAddr 27 (Operand.tmp 2) 1, type := 0, pos := "l11_group.go:108", after := #[], guard := none }) (v := ?vfm3) rfl (by kernel_rfl) (by kernel_rfl) (by kernel_rfl) (fun _ _ _ h => h) (Or.inl ⟨by rfl, ?hyfm3⟩) hHeld ?_
    case hyfm3 => (intro w hSw; (try dsimp only at hSw); go_simp <;> with_reducible rfl)
    try simp only [Act.put, List.setIfInBounds_toArray, List.set_cons_zero, List.set_cons_succ]
    refine wpAnyH_take (i := 4) (oi := { dst := some 20, op := Op.load 24 (Operand.tmp 19), type := 24, pos := "l11_group.go:108", after := #[{ on := 3, ground := Ground.data }], guard := none }) (v := ?vfm4) rfl (by kernel_rfl) (by kernel_rfl) (by kernel_rfl) (fun _ _ _ h => h) (Or.inl ⟨by rfl, ?hyfm4⟩) hHeld ?_
    case hyfm4 => (intro w hSw; (try dsimp only at hSw); go_simp <;> with_reducible rfl)
    try simp only [Act.put, List.setIfInBounds_toArray, List.set_cons_zero, List.set_cons_succ]
    refine wpAnyH_take (i := 6) (oi := { dst := some 22, op := Op.load 3 (Operand.tmp 3), type := 3, pos := "l11_group.go:108", after := #[{ on := 11, ground := Ground.gcOnly Departure.lateStores }], guard := none }) (v := ?vfm6) rfl (by kernel_rfl) (by kernel_rfl) (by kernel_rfl) (fun _ _ _ h => h) (Or.inl ⟨by rfl, ?hyfm6⟩) hHeld ?_
    case hyfm6 => (intro w hSw; (try dsimp only at hSw); go_simp <;> with_reducible rfl)
    try simp only [Act.put, List.setIfInBounds_toArray, List.set_cons_zero, List.set_cons_succ]
    refine wpAnyH_take (i := 7) (oi := { dst := some 23, op := Op.fieldAddr 27 (Operand.tmp 2) 4, type := 0, pos := "l11_group.go:108", after := #[], guard := none }) (v := ?vfm7) rfl (by kernel_rfl) (by kernel_rfl) (by kernel_rfl) (fun _ _ _ h => h) (Or.inl ⟨by rfl, ?hyfm7⟩) hHeld ?_
    case hyfm7 => (intro w hSw; (try dsimp only at hSw); go_simp <;> with_reducible rfl)
    try simp only [Act.put, List.setIfInBounds_toArray, List.set_cons_zero, List.set_cons_succ]
    refine wpAnyH_take (i := 8) (oi := { dst := some 24, op := Op.load 25 (Operand.tmp 23), type := 25, pos := "l11_group.go:108", after := #[{ on := 7, ground := Ground.data }], guard := none }) (v := ?vfm8) rfl (by kernel_rfl) (by kernel_rfl) (by kernel_rfl) (fun _ _ _ h => h) (Or.inl ⟨by rfl, ?hyfm8⟩) hHeld ?_
    case hyfm8 => (intro w hSw; (try dsimp only at hSw); go_simp <;> with_reducible rfl)
    try simp only [Act.put, List.setIfInBounds_toArray, List.set_cons_zero, List.set_cons_succ]
    obtain ⟨K2, hK2⟩ : ∃ K2, K2 = y.heap.size := ⟨_, rfl⟩
    refine wpAnyH_ready (rs := [5]) (by kernel_rfl) (by simp) ?_
    refine AllReadyH.cons (o := { dst := some 21, op := Op.call { callee := Callee.value (Operand.func 58), args := #[Operand.tmp 20], argTypes := #[24] }, type := 24, pos := "l11_group.go:108", after := #[{ on := 4, ground := Ground.data }], guard := none }) rfl (fun K hK => ?_) AllReadyH.nil
    go_simp
    refine (LabR.copied_any _ _ key _ K2 (by simp [hK2]) (HK.out.below (grow_on HBz.out (Below.refl y.heap.size y).drew)) hkl).mono ?_
    rintro r wyfm5 ⟨rfl, hb1, hB⟩
    have Z5 : Hid (Below y.heap.size y wyfm5) := grow_on (Below.refl y.heap.size y).drew (hb1.mono (by simp [hK2]))
    have HO : Hid (OwnL y.heap.size wyfm5 K2 key) := ⟨by omega, _, hB, by rw [List.size_toArray, LabR.flat_len]; exact Nat.le_refl _, fun j hj => by have h := LabR.flat_get key j hj; simpa using h⟩
    have HK2 : Hid (K2 = y.heap.size) := hK2
    clear hb1 hB hK2
    clear hHeld
    refine hK.out _ _ (HS.out _ (BPz.out.grow Z5.out) (BNz.out.grow Z5.out) (BOz.out.grow Z5.out)) (fun hHeld => ?_)
    clear hK K
    try simp only [Act.put, List.setIfInBounds_toArray, List.set_cons_zero, List.set_cons_succ]
    refine wpAnyH_ready (rs := [9]) (by kernel_rfl) (by simp) ?_
    refine AllReadyH.cons (o := { dst := some 25, op := Op.call { callee := Callee.value (Operand.func 59), args := #[Operand.tmp 24], argTypes := #[25] }, type := 25, pos := "l11_group.go:108", after := #[{ on := 8, ground := Ground.data }, { on := 5, ground := Ground.chain }], guard := none }) rfl (fun K hK => ?_) AllReadyH.nil
    go_simp
    refine (implCopies_any a cap P _ ((HR.out.1.below (grow_on HBz.out Z5.out)).rd) hl HR.out.2).mono ?_
    rintro r wyfm9 ⟨⟨M2, rs2, rfl, hA, hP⟩, hb⟩
    have Z9 : Hid (Below y.heap.size y wyfm9) := grow_on Z5.out hb
    have HL2 : Hid (rs2.length = P.length) := by have h := congrArg List.length hP; rw [pals_len] at h; exact h
    have HG2 : Hid (GA y.heap.size wyfm9 K2 key M2 rs2 ∧ pals rs2 = P) := ⟨⟨HO.out.grow hb, by rw [HL2.out]; exact hA.down Z5.out.size, fun h => by
      have h1 := ChnK.aoblks_low (ChnK.AB.ao hA) K2 h
      have h2 := HO.out.lt
      omega⟩, hP⟩
    have HG9 : Hid (GA z.heap.size wyfm9 Ke key M rs) := HGz.out.1.grow Z9.out
    have BR9 : Hid (Blk wyfm9 (w.heap.size + 1 + 1) #[.int .i64 0, .slice none 0 0, .int .i64 0, .int .i64 0, .slice none 0 0] 27) := BRz.out.grow Z9.out
    have BS9 : Hid (Blk wyfm9 (w.heap.size + 1 + 1 + 1) #[.int .i64 0, .slice none 0 0, .int .i64 0, .slice none 0 0] 36) := BSz.out.grow Z9.out
    clear hA hP hb HO
    clear hHeld
    refine hK.out _ _ (HS.out _ (BPz.out.grow Z9.out) (BNz.out.grow Z9.out) (BOz.out.grow Z9.out)) (fun hHeld => ?_)
    clear hK K
    try simp only [Act.put, List.setIfInBounds_toArray, List.set_cons_zero, List.set_cons_succ]
    refine wpAnyH_take (i := 10) (oi := { dst := some 26, op := Op.build 36 #[(0, Operand.tmp 18), (1, Operand.tmp 21), (2, Operand.tmp 22), (3, Operand.tmp 25)], type := 36, pos := "l11_group.go:108", after := #[{ on := 2, ground := Ground.data }, { on := 5, ground := Ground.data }, { on := 6, ground := Ground.data }, { on := 9, ground := Ground.data }, { on := 11, ground := Ground.gcOnly Departure.lateStores }], guard := none }) (v := ?vfm10) rfl (by kernel_rfl) (by kernel_rfl) (by kernel_rfl) (fun _ _ _ h => h) (Or.inl ⟨by rfl, ?hyfm10⟩) hHeld ?_
    case hyfm10 => (intro w hSw; (try dsimp only at hSw); go_simp <;> with_reducible rfl)
    try simp only [Act.put, List.setIfInBounds_toArray, List.set_cons_zero, List.set_cons_succ]
    refine wpAnyH_ready (rs := [11]) (by kernel_rfl) (by simp) ?_
    refine AllReadyH.cons (o := { dst := none, op := Op.store 27 (Operand.tmp 4) (Operand.tmp 16), type := 0, pos := "l11_group.go:108", after := #[{ on := 0, ground := Ground.data }, { on := 9, ground := Ground.chain }, { on := 0, ground := Ground.phase }, { on := 1, ground := Ground.textOnly Departure.lateStores }, { on := 2, ground := Ground.textOnly Departure.lateStores }, { on := 3, ground := Ground.textOnly Departure.lateStores }, { on := 4, ground := Ground.textOnly Departure.lateStores }, { on := 5, ground := Ground.textOnly Departure.lateStoresUnsure }, { on := 6, ground := Ground.textOnly Departure.lateStores }, { on := 7, ground := Ground.textOnly Departure.lateStores }, { on := 8, ground := Ground.textOnly Departure.lateStores }, { on := 9, ground := Ground.textOnly Departure.lateStoresUnsure }, { on := 10, ground := Ground.textOnly Departure.lateStores }], guard := none }) rfl (fun K hK => ?_) AllReadyH.nil
    have r0 := BR9.out.cell 0
    have fr0 := BR9.out.frozen 0
    have r1 := BR9.out.cell 1
    have fr1 := BR9.out.frozen 1
    have r2 := BR9.out.cell 2
    have fr2 := BR9.out.frozen 2
    have r3 := BR9.out.cell 3
    have fr3 := BR9.out.frozen 3
    have r4 := BR9.out.cell 4
    have fr4 := BR9.out.frozen 4
    simp at r0 r1 r2 r3 r4
    go_simp
    clear hHeld
    refine hK.out _ _ (HS.out _ ((((((BPz.out.grow Z9.out).set_other (p := ⟨(w.heap.size + 1 + 1), 0, none⟩) (by show (w.heap.size + 1 + 1) ≠ w.heap.size; have := HNz.out.1; omega) (.int .i64 n)).set_other (p := ⟨(w.heap.size + 1 + 1), 1, none⟩) (by show (w.heap.size + 1 + 1) ≠ w.heap.size; have := HNz.out.1; omega) (.slice (some ⟨Ke, 0, none⟩) key.length key.length)).set_other (p := ⟨(w.heap.size + 1 + 1), 2, none⟩) (by show (w.heap.size + 1 + 1) ≠ w.heap.size; have := HNz.out.1; omega) (.int .i64 b)).set_other (p := ⟨(w.heap.size + 1 + 1), 3, none⟩) (by show (w.heap.size + 1 + 1) ≠ w.heap.size; have := HNz.out.1; omega) (.int .i64 now)).set_other (p := ⟨(w.heap.size + 1 + 1), 4, none⟩) (by show (w.heap.size + 1 + 1) ≠ w.heap.size; have := HNz.out.1; omega) (.slice (some ⟨M, 0, none⟩) rs.length rs.length)) ((((((BNz.out.grow Z9.out).set_other (p := ⟨(w.heap.size + 1 + 1), 0, none⟩) (by show (w.heap.size + 1 + 1) ≠ (w.heap.size + 1); have := HNz.out.1; omega) (.int .i64 n)).set_other (p := ⟨(w.heap.size + 1 + 1), 1, none⟩) (by show (w.heap.size + 1 + 1) ≠ (w.heap.size + 1); have := HNz.out.1; omega) (.slice (some ⟨Ke, 0, none⟩) key.length key.length)).set_other (p := ⟨(w.heap.size + 1 + 1), 2, none⟩) (by show (w.heap.size + 1 + 1) ≠ (w.heap.size + 1); have := HNz.out.1; omega) (.int .i64 b)).set_other (p := ⟨(w.heap.size + 1 + 1), 3, none⟩) (by show (w.heap.size + 1 + 1) ≠ (w.heap.size + 1); have := HNz.out.1; omega) (.int .i64 now)).set_other (p := ⟨(w.heap.size + 1 + 1), 4, none⟩) (by show (w.heap.size + 1 + 1) ≠ (w.heap.size + 1); have := HNz.out.1; omega) (.slice (some ⟨M, 0, none⟩) rs.length rs.length)) ((((((BOz.out.grow Z9.out).set_other (p := ⟨(w.heap.size + 1 + 1), 0, none⟩) (by show (w.heap.size + 1 + 1) ≠ N; have := HNz.out.1; omega) (.int .i64 n)).set_other (p := ⟨(w.heap.size + 1 + 1), 1, none⟩) (by show (w.heap.size + 1 + 1) ≠ N; have := HNz.out.1; omega) (.slice (some ⟨Ke, 0, none⟩) key.length key.length)).set_other (p := ⟨(w.heap.size + 1 + 1), 2, none⟩) (by show (w.heap.size + 1 + 1) ≠ N; have := HNz.out.1; omega) (.int .i64 b)).set_other (p := ⟨(w.heap.size + 1 + 1), 3, none⟩) (by show (w.heap.size + 1 + 1) ≠ N; have := HNz.out.1; omega) (.int .i64 now)).set_other (p := ⟨(w.heap.size + 1 + 1), 4, none⟩) (by show (w.heap.size + 1 + 1) ≠ N; have := HNz.out.1; omega) (.slice (some ⟨M, 0, none⟩) rs.length rs.length))) (fun hHeld => ?_)
    clear hK K
    try simp only [Act.put, List.setIfInBounds_toArray, List.set_cons_zero, List.set_cons_succ]
    clear r0 fr0 r1 fr1 r2 fr2 r3 fr3 r4 fr4
    have BS11 : Hid (Blk (((((wyfm9.setCell ⟨(w.heap.size + 1 + 1), 0, none⟩ (.int .i64 n)).setCell ⟨(w.heap.size + 1 + 1), 1, none⟩ (.slice (some ⟨Ke, 0, none⟩) key.length key.length)).setCell ⟨(w.heap.size + 1 + 1), 2, none⟩ (.int .i64 b)).setCell ⟨(w.heap.size + 1 + 1), 3, none⟩ (.int .i64 now)).setCell ⟨(w.heap.size + 1 + 1), 4, none⟩ (.slice (some ⟨M, 0, none⟩) rs.length rs.length)) (w.heap.size + 1 + 1 + 1) #[.int .i64 0, .slice none 0 0, .int .i64 0, .slice none 0 0] 36) := (((((BS9.out.set_other (p := ⟨(w.heap.size + 1 + 1), 0, none⟩) (by show (w.heap.size + 1 + 1) ≠ (w.heap.size + 1 + 1 + 1); omega) (.int .i64 n)).set_other (p := ⟨(w.heap.size + 1 + 1), 1, none⟩) (by show (w.heap.size + 1 + 1) ≠ (w.heap.size + 1 + 1 + 1); omega) (.slice (some ⟨Ke, 0, none⟩) key.length key.length)).set_other (p := ⟨(w.heap.size + 1 + 1), 2, none⟩) (by show (w.heap.size + 1 + 1) ≠ (w.heap.size + 1 + 1 + 1); omega) (.int .i64 b)).set_other (p := ⟨(w.heap.size + 1 + 1), 3, none⟩) (by show (w.heap.size + 1 + 1) ≠ (w.heap.size + 1 + 1 + 1); omega) (.int .i64 now)).set_other (p := ⟨(w.heap.size + 1 + 1), 4, none⟩) (by show (w.heap.size + 1 + 1) ≠ (w.heap.size + 1 + 1 + 1); omega) (.slice (some ⟨M, 0, none⟩) rs.length rs.length))
    refine wpAnyH_ready (rs := [12]) (by kernel_rfl) (by simp) ?_
    refine AllReadyH.cons (o := { dst := none, op := Op.store 36 (Operand.tmp 5) (Operand.tmp 26), type := 0, pos := "l11_group.go:108", after := #[{ on := 10, ground := Ground.data }, { on := 11, ground := Ground.chain }, { on := 0, ground := Ground.phase }, { on := 1, ground := Ground.phase }, { on := 2, ground := Ground.phase }, { on := 3, ground := Ground.phase }, { on := 4, ground := Ground.phase }, { on := 5, ground := Ground.phase }, { on := 6, ground := Ground.phase }, { on := 7, ground := Ground.phase }, { on := 8, ground := Ground.phase }, { on := 9, ground := Ground.phase }, { on := 10, ground := Ground.phase }, { on := 11, ground := Ground.phase }], guard := none }) rfl (fun K hK => ?_) AllReadyH.nil
    have r0 := BS11.out.cell 0
    have fr0 := BS11.out.frozen 0
    have r1 := BS11.out.cell 1
    have fr1 := BS11.out.frozen 1
    have r2 := BS11.out.cell 2
    have fr2 := BS11.out.frozen 2
    have r3 := BS11.out.cell 3
    have fr3 := BS11.out.frozen 3
    simp at r0 r1 r2 r3
    go_simp
    clear hHeld
    refine hK.out _ _ (HS.out _ ((((((((((BPz.out.grow Z9.out).set_other (p := ⟨(w.heap.size + 1 + 1), 0, none⟩) (by show (w.heap.size + 1 + 1) ≠ w.heap.size; have := HNz.out.1; omega) (.int .i64 n)).set_other (p := ⟨(w.heap.size + 1 + 1), 1, none⟩) (by show (w.heap.size + 1 + 1) ≠ w.heap.size; have := HNz.out.1; omega) (.slice (some ⟨Ke, 0, none⟩) key.length key.length)).set_other (p := ⟨(w.heap.size + 1 + 1), 2, none⟩) (by show (w.heap.size + 1 + 1) ≠ w.heap.size; have := HNz.out.1; omega) (.int .i64 b)).set_other (p := ⟨(w.heap.size + 1 + 1), 3, none⟩) (by show (w.heap.size + 1 + 1) ≠ w.heap.size; have := HNz.out.1; omega) (.int .i64 now)).set_other (p := ⟨(w.heap.size + 1 + 1), 4, none⟩) (by show (w.heap.size + 1 + 1) ≠ w.heap.size; have := HNz.out.1; omega) (.slice (some ⟨M, 0, none⟩) rs.length rs.length)).set_other (p := ⟨(w.heap.size + 1 + 1 + 1), 0, none⟩) (by show (w.heap.size + 1 + 1 + 1) ≠ w.heap.size; have := HNz.out.1; omega) (.int .i64 n)).set_other (p := ⟨(w.heap.size + 1 + 1 + 1), 1, none⟩) (by show (w.heap.size + 1 + 1 + 1) ≠ w.heap.size; have := HNz.out.1; omega) (.slice (some ⟨K2, 0, none⟩) key.length key.length)).set_other (p := ⟨(w.heap.size + 1 + 1 + 1), 2, none⟩) (by show (w.heap.size + 1 + 1 + 1) ≠ w.heap.size; have := HNz.out.1; omega) (.int .i64 now)).set_other (p := ⟨(w.heap.size + 1 + 1 + 1), 3, none⟩) (by show (w.heap.size + 1 + 1 + 1) ≠ w.heap.size; have := HNz.out.1; omega) (.slice (some ⟨M2, 0, none⟩) P.length P.length)) ((((((((((BNz.out.grow Z9.out).set_other (p := ⟨(w.heap.size + 1 + 1), 0, none⟩) (by show (w.heap.size + 1 + 1) ≠ (w.heap.size + 1); have := HNz.out.1; omega) (.int .i64 n)).set_other (p := ⟨(w.heap.size + 1 + 1), 1, none⟩) (by show (w.heap.size + 1 + 1) ≠ (w.heap.size + 1); have := HNz.out.1; omega) (.slice (some ⟨Ke, 0, none⟩) key.length key.length)).set_other (p := ⟨(w.heap.size + 1 + 1), 2, none⟩) (by show (w.heap.size + 1 + 1) ≠ (w.heap.size + 1); have := HNz.out.1; omega) (.int .i64 b)).set_other (p := ⟨(w.heap.size + 1 + 1), 3, none⟩) (by show (w.heap.size + 1 + 1) ≠ (w.heap.size + 1); have := HNz.out.1; omega) (.int .i64 now)).set_other (p := ⟨(w.heap.size + 1 + 1), 4, none⟩) (by show (w.heap.size + 1 + 1) ≠ (w.heap.size + 1); have := HNz.out.1; omega) (.slice (some ⟨M, 0, none⟩) rs.length rs.length)).set_other (p := ⟨(w.heap.size + 1 + 1 + 1), 0, none⟩) (by show (w.heap.size + 1 + 1 + 1) ≠ (w.heap.size + 1); have := HNz.out.1; omega) (.int .i64 n)).set_other (p := ⟨(w.heap.size + 1 + 1 + 1), 1, none⟩) (by show (w.heap.size + 1 + 1 + 1) ≠ (w.heap.size + 1); have := HNz.out.1; omega) (.slice (some ⟨K2, 0, none⟩) key.length key.length)).set_other (p := ⟨(w.heap.size + 1 + 1 + 1), 2, none⟩) (by show (w.heap.size + 1 + 1 + 1) ≠ (w.heap.size + 1); have := HNz.out.1; omega) (.int .i64 now)).set_other (p := ⟨(w.heap.size + 1 + 1 + 1), 3, none⟩) (by show (w.heap.size + 1 + 1 + 1) ≠ (w.heap.size + 1); have := HNz.out.1; omega) (.slice (some ⟨M2, 0, none⟩) P.length P.length)) ((((((((((BOz.out.grow Z9.out).set_other (p := ⟨(w.heap.size + 1 + 1), 0, none⟩) (by show (w.heap.size + 1 + 1) ≠ N; have := HNz.out.1; omega) (.int .i64 n)).set_other (p := ⟨(w.heap.size + 1 + 1), 1, none⟩) (by show (w.heap.size + 1 + 1) ≠ N; have := HNz.out.1; omega) (.slice (some ⟨Ke, 0, none⟩) key.length key.length)).set_other (p := ⟨(w.heap.size + 1 + 1), 2, none⟩) (by show (w.heap.size + 1 + 1) ≠ N; have := HNz.out.1; omega) (.int .i64 b)).set_other (p := ⟨(w.heap.size + 1 + 1), 3, none⟩) (by show (w.heap.size + 1 + 1) ≠ N; have := HNz.out.1; omega) (.int .i64 now)).set_other (p := ⟨(w.heap.size + 1 + 1), 4, none⟩) (by show (w.heap.size + 1 + 1) ≠ N; have := HNz.out.1; omega) (.slice (some ⟨M, 0, none⟩) rs.length rs.length)).set_other (p := ⟨(w.heap.size + 1 + 1 + 1), 0, none⟩) (by show (w.heap.size + 1 + 1 + 1) ≠ N; have := HNz.out.1; omega) (.int .i64 n)).set_other (p := ⟨(w.heap.size + 1 + 1 + 1), 1, none⟩) (by show (w.heap.size + 1 + 1 + 1) ≠ N; have := HNz.out.1; omega) (.slice (some ⟨K2, 0, none⟩) key.length key.length)).set_other (p := ⟨(w.heap.size + 1 + 1 + 1), 2, none⟩) (by show (w.heap.size + 1 + 1 + 1) ≠ N; have := HNz.out.1; omega) (.int .i64 now)).set_other (p := ⟨(w.heap.size + 1 + 1 + 1), 3, none⟩) (by show (w.heap.size + 1 + 1 + 1) ≠ N; have := HNz.out.1; omega) (.slice (some ⟨M2, 0, none⟩) P.length P.length))) (fun hHeld => ?_)
    clear hK K
    try simp only [Act.put, List.setIfInBounds_toArray, List.set_cons_zero, List.set_cons_succ]
    clear r0 fr0 r1 fr1 r2 fr2 r3 fr3
    refine wpAnyH_done (by kernel_rfl) ?_ _
    clear hHeld
    go_wp2_with fail
    have hR : Blk _ (w.heap.size + 1 + 1) #[.int .i64 n, .slice (some ⟨Ke, 0, none⟩) key.length key.length, .int .i64 b, .int .i64 now, .slice (some ⟨M, 0, none⟩) rs.length rs.length] 27 := (((((((((BR9.out.set 0 (.int .i64 n)).set 1 (.slice (some ⟨Ke, 0, none⟩) key.length key.length)).set 2 (.int .i64 b)).set 3 (.int .i64 now)).set 4 (.slice (some ⟨M, 0, none⟩) rs.length rs.length)).set_other (p := ⟨(w.heap.size + 1 + 1 + 1), 0, none⟩) (by show (w.heap.size + 1 + 1 + 1) ≠ (w.heap.size + 1 + 1); omega) (.int .i64 n)).set_other (p := ⟨(w.heap.size + 1 + 1 + 1), 1, none⟩) (by show (w.heap.size + 1 + 1 + 1) ≠ (w.heap.size + 1 + 1); omega) (.slice (some ⟨K2, 0, none⟩) key.length key.length)).set_other (p := ⟨(w.heap.size + 1 + 1 + 1), 2, none⟩) (by show (w.heap.size + 1 + 1 + 1) ≠ (w.heap.size + 1 + 1); omega) (.int .i64 now)).set_other (p := ⟨(w.heap.size + 1 + 1 + 1), 3, none⟩) (by show (w.heap.size + 1 + 1 + 1) ≠ (w.heap.size + 1 + 1); omega) (.slice (some ⟨M2, 0, none⟩) P.length P.length))
    have hSb : Blk _ (w.heap.size + 1 + 1 + 1) #[.int .i64 n, .slice (some ⟨K2, 0, none⟩) key.length key.length, .int .i64 now, .slice (some ⟨M2, 0, none⟩) P.length P.length] 36 := ((((BS11.out.set 0 (.int .i64 n)).set 1 (.slice (some ⟨K2, 0, none⟩) key.length key.length)).set 2 (.int .i64 now)).set 3 (.slice (some ⟨M2, 0, none⟩) P.length P.length))
    have s0 := hR.cell 0
    have s1 := hR.cell 1
    have s2 := hR.cell 2
    have s3 := hR.cell 3
    have s4 := hR.cell 4
    have u0' := hSb.cell 0
    have u1' := hSb.cell 1
    have u2' := hSb.cell 2
    have u3' := hSb.cell 3
    refine bodyPost_ret (v := .tuple #[.agg #[.int .i64 n, .slice (some ⟨Ke, 0, none⟩) key.length key.length, .int .i64 b, .int .i64 now, .slice (some ⟨M, 0, none⟩) rs.length rs.length], .agg #[.int .i64 n, .slice (some ⟨K2, 0, none⟩) key.length key.length, .int .i64 now, .slice (some ⟨M2, 0, none⟩) P.length P.length]]) (by simp [results, Try.results13, go_sem, s0, s1, s2, s3, s4, u0', u1', u2', u3']) rfl ?_
    have hg1 := (((((((((HG9.out.set BR9.out (by decide) (by decide) 0 (.int .i64 n)).set (BR9.out.set 0 (.int .i64 n)) (by decide) (by decide) 1 (.slice (some ⟨Ke, 0, none⟩) key.length key.length)).set ((BR9.out.set 0 (.int .i64 n)).set 1 (.slice (some ⟨Ke, 0, none⟩) key.length key.length)) (by decide) (by decide) 2 (.int .i64 b)).set (((BR9.out.set 0 (.int .i64 n)).set 1 (.slice (some ⟨Ke, 0, none⟩) key.length key.length)).set 2 (.int .i64 b)) (by decide) (by decide) 3 (.int .i64 now)).set ((((BR9.out.set 0 (.int .i64 n)).set 1 (.slice (some ⟨Ke, 0, none⟩) key.length key.length)).set 2 (.int .i64 b)).set 3 (.int .i64 now)) (by decide) (by decide) 4 (.slice (some ⟨M, 0, none⟩) rs.length rs.length)).set BS11.out (by decide) (by decide) 0 (.int .i64 n)).set (BS11.out.set 0 (.int .i64 n)) (by decide) (by decide) 1 (.slice (some ⟨K2, 0, none⟩) key.length key.length)).set ((BS11.out.set 0 (.int .i64 n)).set 1 (.slice (some ⟨K2, 0, none⟩) key.length key.length)) (by decide) (by decide) 2 (.int .i64 now)).set (((BS11.out.set 0 (.int .i64 n)).set 1 (.slice (some ⟨K2, 0, none⟩) key.length key.length)).set 2 (.int .i64 now)) (by decide) (by decide) 3 (.slice (some ⟨M2, 0, none⟩) P.length P.length))
    have hg2 := (((((((((HG2.out.1.set BR9.out (by decide) (by decide) 0 (.int .i64 n)).set (BR9.out.set 0 (.int .i64 n)) (by decide) (by decide) 1 (.slice (some ⟨Ke, 0, none⟩) key.length key.length)).set ((BR9.out.set 0 (.int .i64 n)).set 1 (.slice (some ⟨Ke, 0, none⟩) key.length key.length)) (by decide) (by decide) 2 (.int .i64 b)).set (((BR9.out.set 0 (.int .i64 n)).set 1 (.slice (some ⟨Ke, 0, none⟩) key.length key.length)).set 2 (.int .i64 b)) (by decide) (by decide) 3 (.int .i64 now)).set ((((BR9.out.set 0 (.int .i64 n)).set 1 (.slice (some ⟨Ke, 0, none⟩) key.length key.length)).set 2 (.int .i64 b)).set 3 (.int .i64 now)) (by decide) (by decide) 4 (.slice (some ⟨M, 0, none⟩) rs.length rs.length)).set BS11.out (by decide) (by decide) 0 (.int .i64 n)).set (BS11.out.set 0 (.int .i64 n)) (by decide) (by decide) 1 (.slice (some ⟨K2, 0, none⟩) key.length key.length)).set ((BS11.out.set 0 (.int .i64 n)).set 1 (.slice (some ⟨K2, 0, none⟩) key.length key.length)) (by decide) (by decide) 2 (.int .i64 now)).set (((BS11.out.set 0 (.int .i64 n)).set 1 (.slice (some ⟨K2, 0, none⟩) key.length key.length)).set 2 (.int .i64 now)) (by decide) (by decide) 3 (.slice (some ⟨M2, 0, none⟩) P.length P.length))
    exact ⟨⟨Ke, key.length, M, 0, rs.length, rs, K2, key.length, M2, 0, P.length, rs2, by rw [HL2.out], hg1.gb.down (by have := HNz.out.2; omega), HGz.out.2, hg2.gb.down (by have := HBz.out.size; omega), HG2.out.2, fun k h1 h2 => by
      have e1 := (HGz.out.1.gb.rng k h1).2
      have e2 := (HG2.out.1.gb.rng k h2).1
      omega⟩, (set_low (set_low (set_low (set_low (set_low (set_low (set_low (set_low (set_low (grow_on HBz.out Z9.out) (M := (w.heap.size + 1 + 1)) (by omega) 0 (.int .i64 n)) (M := (w.heap.size + 1 + 1)) (by omega) 1 (.slice (some ⟨Ke, 0, none⟩) key.length key.length)) (M := (w.heap.size + 1 + 1)) (by omega) 2 (.int .i64 b)) (M := (w.heap.size + 1 + 1)) (by omega) 3 (.int .i64 now)) (M := (w.heap.size + 1 + 1)) (by omega) 4 (.slice (some ⟨M, 0, none⟩) rs.length rs.length)) (M := (w.heap.size + 1 + 1 + 1)) (by omega) 0 (.int .i64 n)) (M := (w.heap.size + 1 + 1 + 1)) (by omega) 1 (.slice (some ⟨K2, 0, none⟩) key.length key.length)) (M := (w.heap.size + 1 + 1 + 1)) (by omega) 2 (.int .i64 now)) (M := (w.heap.size + 1 + 1 + 1)) (by omega) 3 (.slice (some ⟨M2, 0, none⟩) P.length P.length))⟩
end Go.Proofs.Ytekcmpjjfnijmaa.GrpI
namespace Go.Proofs.Ytekcmpjjfnijmaa.LbD
open Go.RowKit
open Draw
open Labs LabS Over Blk App DrawL DrawT Alms AlmM DrawA DrawB Rws ChnI ChnC ChnP ChnK DrawC
open LabT (Held infoL)
open LabR (flat flat_len flat_one)
structure QDr (w : World) (c : Nat) (wr : World) (g cap : Nat) (q : List Lab) : Prop where
  own : OwnA w.heap.size wr (g, cap, ⟨q, 0, 0, ByteArray.empty⟩)
  cur : Cur wr c
  kept : Kept c w wr
  fits : LabT.Fits q
  few : q.length ≤ 8
theorem qdr_of {w w1 wr : World} {c g cap : Nat} {p : List Lab} (hk : Kept c w w1) (h : LSt w1 c wr (.slice (some ⟨g, 0, none⟩) p.length cap) p) (hp : p.length ≤ 8) : QDr w c wr g cap p :=
  ⟨(own_lst h hp).down hk.size, h.cur, hk.trans h.kept, small_fits h.fit, hp⟩
set_option maxRecDepth 100000 in
set_option maxHeartbeats 1600000 in
theorem l7Labels_any (c M cap lo : Nat) (rs : List ARow) (w : World) (hc : Cur w c) (hab : AB lo w M cap rs) (hlo : c < lo) (hf : Fines (pals rs)) (hr : rs.length ≤ 1000) :
    Calls Try.prog 52 #[.pointer (some ⟨c, 0, none⟩), .slice (some ⟨M, 0, none⟩) rs.length cap] w fun r w' => ∃ (g cg : Nat) (q : List Lab), r = .returned (.slice (some ⟨g, 0, none⟩) q.length cg) ∧ QDr w c w' g cg q := by
  have HC : Hid (Cur w c) := hc
  have HA : Hid (AB lo w M cap rs ∧ c < lo ∧ Fines (pals rs)) := ⟨hab, hlo, hf⟩
  clear hc hab hlo hf
  obtain ⟨i0, hi, hz0, hz1, hz2⟩ := info_parts infoL
  by_cases hr0 : 0 < rs.length
  · have hr0' : (rs.length : Int) > 0 := by omega
    go_enter Try.func52, Try.ntmps52
    go_wp2_with fail
    refine (once_any c 3 _ HC.out (by decide) (by decide)).mono ?_
    rintro r w1 ⟨⟨b, rfl⟩, hc1, hk1⟩
    have HC1 : Hid (Cur w1 c ∧ Kept c w w1) := ⟨hc1, hk1⟩
    clear hc1 hk1
    cases b with
    | true =>
      go_wp2_with fail
      refine (l2Draw_any c _ HC1.out.1).mono ?_
      rintro r w2 ⟨v, rfl, p, hst, hp1, hp2⟩
      obtain ⟨g, cg, rfl⟩ := hst.lies
      have HQ : Hid (QDr w c w2 g cg p) := qdr_of HC1.out.2 hst (by omega)
      clear hst
      go_wp2
      go_ret
      exact ⟨g, cg, p, rfl, HQ.out⟩
    | false =>
      go_wp2_with fail
      refine (below_any c (rs.length : Int) _ (HC1.out.1.alloc _) (by omega) (by omega)).mono ?_
      rintro r w2 ⟨⟨z, rfl, hz0', hz1'⟩, hc2, hk2⟩
      obtain ⟨k, rfl⟩ := Int.eq_ofNat_of_zero_le hz0'
      have hkl : k < rs.length := by omega
      have hA2 : AB lo w2 M cap rs := ab_kept ((ab_kept HA.out.1 HC1.out.2 HA.out.2.1).grow (Go.Joins.below_alloc1 w1 _)) hk2 HA.out.2.1
      have HE : Hid (Blk w2 w1.heap.size #[] 94) := blk_kept (Blk.new w1 _ _) hk2 (by have := HC1.out.1.lt; omega)
      have HK2 : Hid (Cur w2 c ∧ Kept c w w2 ∧ w.heap.size ≤ w1.heap.size ∧ c < w.heap.size ∧ w1.heap.size < w2.heap.size) := ⟨hc2, (HC1.out.2.alloc _).trans hk2, HC1.out.2.size, HC.out.lt, HE.out.lt⟩
      obtain ⟨cu, hcu, hcs, h4⟩ := hA2.outer
      have h40 := h4 k hkl
      unfold Four at h40
      have y0 : w2.cell? ⟨M, k * 4, none⟩ = some (.slice (some ⟨(nthA rs k).1, 0, none⟩) (nthA rs k).2.2.l.length (nthA rs k).2.1) := (hcu.cell _).trans h40.1
      have hfk : Fine (nthA rs k).2.2 := by rw [← pals_nth hkl]; exact HA.out.2.2 _ (nthP_mem (by rw [pals_len]; exact hkl))
      have HFk : Hid (Fine (nthA rs k).2.2) := hfk
      have h8 : (nthA rs k).2.2.l.length ≤ 8 := hfk.2
      have HRd : Hid (Reads w2 (some ⟨(nthA rs k).1, 0, none⟩) (nthA rs k).2.2.l) := (hA2.rows _ (nthA_mem hkl)).reads
      have hk' : (k : Int) < (rs.length : Int) := by omega
      clear hz0' hz1' hc2 hk2 hA2 hcu hcs h4 h40 hfk
      go_wp2_with (at_builtin; refine wpList_append_own_at _ rfl _ _ 24 rfl w.heap.size 94 i0 (.agg #[.string ByteArray.empty, .string ByteArray.empty]) 2 32 Try.underlying24 hi hz0 hz1 hz2 rfl (by decide) _ _ _ rfl (own_empty HE.out HK2.out.2.2.1) ⟨(nthA rs k).1, 0, none⟩ (nthA rs k).2.2.l.length (nthA rs k).2.1 (flat (nthA rs k).2.2.l) rfl (flat_len _) (src_of HRd.out) (flat_one _) ?c3 ?c4 ?c5 ?_)
      case c3 => unfold maxLen; omega
      case c4 => omega
      case c5 => have := HK2.out; omega
      intro v' w3 hown hg hnil hat
      try rw [Nat.zero_add] at hown
      try rw [List.nil_append] at hown
      obtain ⟨Ml, cl, hv⟩ : ∃ g' c', v' = .slice (some ⟨g', 0, none⟩) (nthA rs k).2.2.l.length c' := by
        rcases hown.2 with ⟨e, _⟩ | ⟨g', c', cur, e, _⟩
        · exact absurd e hnil
        · exact ⟨g', c', e⟩
      subst hv
      have HQ : Hid (QDr w c w3 Ml cl (nthA rs k).2.2.l) := by
        obtain ⟨h1, cs, h2, h3, h5⟩ := own_row hown
        exact ⟨⟨h1, by show (nthA rs k).2.2.l.length ≤ _; omega, cs, h2, h3, h5⟩, HK2.out.1.grown hg (fun q hq => by cases hq; have := HK2.out; show c < w1.heap.size; omega), kept_grown (B := 0) HK2.out.2.1 hg (fun q hq => by cases hq; exact HK2.out.2.2.1), HFk.out.1.fits, HFk.out.2⟩
      clear hown hg hnil hat
      go_wp2
      go_ret
      exact ⟨Ml, cl, (nthA rs k).2.2.l, rfl, HQ.out⟩
  · have hr0' : ¬ (rs.length : Int) > 0 := by omega
    go_enter Try.func52, Try.ntmps52
    go_wp2_with fail
    refine (l2Draw_any c _ HC.out).mono ?_
    rintro r w2 ⟨v, rfl, p, hst, hp1, hp2⟩
    obtain ⟨g, cg, rfl⟩ := hst.lies
    have HQ : Hid (QDr w c w2 g cg p) := qdr_of (Kept.refl c w) hst (by omega)
    clear hst
    go_wp2
    go_ret
    exact ⟨g, cg, p, rfl, HQ.out⟩

end Go.Proofs.Ytekcmpjjfnijmaa.LbD
namespace Go.Proofs.Ytekcmpjjfnijmaa.GrpY
open Go.RowKit
open Draw
open Labs LabS Over Blk App DrawL DrawT Alms AlmM DrawA DrawB Rws ChnI ChnC ChnP ChnK DrawC Grp GrpJ GrpW GrpX Chs
open LabT (Held held_reads Fits)
open Pro (RdS)
open StrT (HeldS heldS_reads)

structure RG (w : World) (K M cap : Nat) (key : List Lab) (P : List PAl) : Prop where
  kr : Reads w (some ⟨K, 0, none⟩) key
  kf : KeyF key
  pr : RdN w (some ⟨M, 0, none⟩) P
  fine : Fines P
  few : P.length ≤ 9
  cap : P.length ≤ cap ∧ cap ≤ maxLen
theorem RG.below {w w' : World} {K M cap : Nat} {key : List Lab} {P : List PAl} (h : RG w K M cap key P) (hb : Below w.heap.size w w') : RG w' K M cap key P := ⟨h.kr.below hb, h.kf, h.pr.below hb, h.fine, h.few, h.cap⟩
def DAl (w : World) (g : Nat) (x : PAl) : Prop := Reads w (some ⟨g, 0, none⟩) x.l ∧ Fine x
theorem DAl.below {w w' : World} {g : Nat} {x : PAl} (h : DAl w g x) (hb : Below w.heap.size w w') : DAl w' g x := ⟨h.1.below hb, h.2⟩
def GM2 (lo : Nat) (w : World) (K M cap : Nat) (key : List Lab) (rs : List ARow) : Prop := OwnL lo w K key ∧ AB lo w M cap rs
def GF (key : List Lab) (rs : List ARow) : Prop := KeyF key ∧ Fines (pals rs) ∧ rs.length ≤ 9
theorem GM2.keep {c lo : Nat} {w w' : World} {K M cap : Nat} {key : List Lab} {rs : List ARow} (h : GM2 lo w K M cap key rs) (hk : Kept c w w') (hc : c < lo) : GM2 lo w' K M cap key rs := ⟨ownL_kept h.1 hk hc, ab_kept h.2 hk hc⟩
theorem GM2.under {lo : Nat} {w : World} {A K M cap : Nat} {key : List Lab} {rs : List ARow} (h : GM2 lo w K M cap key rs) (hA : A < lo) (i : Nat) (v : Value) : GM2 lo (w.setCell ⟨A, i, none⟩ v) K M cap key rs := ⟨h.1.set (by have := h.1.1; omega) i v, ab_under h.2 hA i v⟩
theorem GM2.down {lo lo' : Nat} {w : World} {K M cap : Nat} {key : List Lab} {rs : List ARow} (h : GM2 lo w K M cap key rs) (hl : lo' ≤ lo) : GM2 lo' w K M cap key rs := ⟨h.1.down hl, h.2.down hl⟩
theorem GM2.rg {lo : Nat} {w : World} {K M cap : Nat} {key : List Lab} {rs : List ARow} (h : GM2 lo w K M cap key rs) (hf : GF key rs) : RG w K M cap key (pals rs) := ⟨h.1.rd, hf.1, h.2.rd, hf.2.1, by rw [Rws.pals_len]; exact hf.2.2, by rw [Rws.pals_len]; exact h.2.cap⟩
theorem GM2.few {lo : Nat} {w : World} {K M cap : Nat} {key : List Lab} {rs : List ARow} (h : GM2 lo w K M cap key rs) (hf : GF key rs) : Reads w (some ⟨K, 0, none⟩) key ∧ key.length ≤ 1048576 ∧ RdN w (some ⟨M, 0, none⟩) (pals rs) ∧ (pals rs).length ≤ 1048576 ∧ LenM (pals rs) := ⟨h.1.rd, by have := hf.1.2; omega, h.2.rd, by rw [Rws.pals_len]; have := hf.2.2; omega, hf.2.1.lens⟩
theorem own_under {lo : Nat} {w : World} {x : ARow} {A : Nat} (h : OwnA lo w x) (hA : A < lo) (i : Nat) (v : Value) : OwnA lo (w.setCell ⟨A, i, none⟩ v) x := own_set h (by have := h.1; omega) i v
theorem byk_of {w wr : World} {c : Nat} {v : Value} {xs : List ByteArray} (h : DrawK.SSt w c wr v xs) : ∃ gb gc, v = .slice (some ⟨gb, 0, none⟩) xs.length gc ∧ ByK wr gb xs ∧ w.heap.size ≤ gb ∧ gb < wr.heap.size := by
  obtain ⟨g, cp, rfl⟩ := h.lies
  have hl := h.own.lt g rfl
  refine ⟨g, cp, rfl, ?_, hl⟩
  rcases h.own.2 with ⟨e, _⟩ | ⟨g', c', cur, e, _, hgb, _, _, hz, ht⟩
  · cases e
  · cases e
    refine ⟨cur, hgb, fun j hj => ?_⟩
    have hx : (xs.map Value.string)[j]? = some (.string (StrB.nth xs j)) := by
      rw [StrT.nthS_eq hj]; simp [hj]
    rw [← ht, List.getElem?_take_of_lt (by omega)] at hx
    simpa using hx

def RO (r : Ending) (w' : World) : Prop := ∃ (n b t : Int) (K kc M cap : Nat) (key : List Lab) (P : List PAl) (gb gc : Nat) (by' : List ByteArray), r = .returned (.tuple #[.agg #[.int .i64 n, .slice (some ⟨K, 0, none⟩) key.length kc, .int .i64 b, .int .i64 t, .slice (some ⟨M, 0, none⟩) P.length cap], .slice (some ⟨gb, 0, none⟩) by'.length gc]) ∧ RG w' K M cap key P ∧ RdS w' (some ⟨gb, 0, none⟩) by' ∧ by'.length ≤ 2
def RGG (r : Ending) (w' : World) : Prop := ∃ (n b t : Int) (K kc M cap : Nat) (key : List Lab) (P : List PAl) (n2 b2 t2 : Int) (K2 kc2 M2 cap2 : Nat) (key2 : List Lab) (P2 : List PAl), r = .returned (.tuple #[.agg #[.int .i64 n, .slice (some ⟨K, 0, none⟩) key.length kc, .int .i64 b, .int .i64 t, .slice (some ⟨M, 0, none⟩) P.length cap], .agg #[.int .i64 n2, .slice (some ⟨K2, 0, none⟩) key2.length kc2, .int .i64 b2, .int .i64 t2, .slice (some ⟨M2, 0, none⟩) P2.length cap2]]) ∧ RG w' K M cap key P ∧ RG w' K2 M2 cap2 key2 P2
def RBB (r : Ending) (w' : World) : Prop := ∃ (n b : Int) (K kc M cap : Nat) (key : List Lab) (P : List PAl) (n2 b2 : Int) (K2 kc2 M2 cap2 : Nat) (key2 : List Lab) (P2 : List PAl), r = .returned (.tuple #[.agg #[.int .i64 n, .slice (some ⟨K, 0, none⟩) key.length kc, .int .i64 b, .slice (some ⟨M, 0, none⟩) P.length cap], .agg #[.int .i64 n2, .slice (some ⟨K2, 0, none⟩) key2.length kc2, .int .i64 b2, .slice (some ⟨M2, 0, none⟩) P2.length cap2]]) ∧ RG w' K M cap key P ∧ RG w' K2 M2 cap2 key2 P2
def RGA (r : Ending) (w' : World) : Prop := ∃ (n b t : Int) (K kc M cap : Nat) (key : List Lab) (P : List PAl) (gy cy : Nat) (y : PAl), r = .returned (.tuple #[.agg #[.int .i64 n, .slice (some ⟨K, 0, none⟩) key.length kc, .int .i64 b, .int .i64 t, .slice (some ⟨M, 0, none⟩) P.length cap], .agg #[.slice (some ⟨gy, 0, none⟩) y.l.length cy, .int .i64 y.s, .int .i64 y.e, .string y.n]]) ∧ RG w' K M cap key P ∧ DAl w' gy y
def RGN (r : Ending) (w' : World) : Prop := ∃ (n b t : Int) (K kc M cap : Nat) (key : List Lab) (P : List PAl) (now : Int), r = .returned (.tuple #[.agg #[.int .i64 n, .slice (some ⟨K, 0, none⟩) key.length kc, .int .i64 b, .int .i64 t, .slice (some ⟨M, 0, none⟩) P.length cap], .int .i64 now]) ∧ RG w' K M cap key P ∧ 0 ≤ now ∧ now ≤ 29
def RGD (r : Ending) (w' : World) : Prop := ∃ (n b t : Int) (K kc M cap : Nat) (key : List Lab) (P : List PAl) (wait every : Int), r = .returned (.tuple #[.agg #[.int .i64 n, .slice (some ⟨K, 0, none⟩) key.length kc, .int .i64 b, .int .i64 t, .slice (some ⟨M, 0, none⟩) P.length cap], .int .i64 wait, .int .i64 every]) ∧ RG w' K M cap key P ∧ Nums n b t ∧ (0 ≤ wait ∧ wait ≤ 8) ∧ (0 ≤ every ∧ every ≤ 8)

theorem set_low {B : Nat} {w w' : World} {A : Nat} (h : Below B w w') (hA : B ≤ A) (i : Nat) (v : Value) : Below B w (w'.setCell ⟨A, i, none⟩ v) := h.setCell (p := ⟨A, i, none⟩) hA v
set_option maxRecDepth 100000 in
set_option maxHeartbeats 3200000 in
theorem drawGroupOk_any (b0 : Option Addr) (len cap0 : Nat) (w : World) (hl : len ≤ maxLen) (hb : Bytes w b0 len w.heap.size) :
    Calls Try.prog 15 #[.slice b0 len cap0] w fun r w' => RO r w' ∧ Below w.heap.size w w' := by
  have HB : Hid (Bytes w b0 len w.heap.size) := hb
  have HL : Hid (len ≤ maxLen) := hl
  clear hb hl
  go_enter Try.func15, Try.ntmps15
  go_wp2_with fail
  refine (new_any b0 len cap0 _ HL.out (LawB.bytes_up HB.out (Go.Joins.below_alloc1 w _))).mono ?_
  rintro r w1 ⟨rfl, hc1, hb1⟩
  have HC1 : Hid (Cur w1 (w.heap.size + 1)) := by simp at hc1; exact hc1
  have R_1 : Hid (Blk w1 w.heap.size #[.int .i64 0, .slice none 0 0, .int .i64 0, .int .i64 0, .slice none 0 0] 27) := (Blk.new _ _ _).grow hb1
  have HB1 : Hid (Below w.heap.size w w1) := grow_on (Go.Joins.below_alloc1 w _) hb1
  clear hc1 hb1 HB HL
  go_wp2_with fail
  refine (DrawK.l5By_any (w.heap.size + 1) _ HC1.out).mono ?_
  rintro r w2 ⟨v, rfl, by', hs, h2⟩
  obtain ⟨gb, gc, rfl, hby, hg1, hg2⟩ := byk_of hs
  have UN : Hid ((w.heap.size + 1) < gb ∧ gb < w2.heap.size) := ⟨by have := HC1.out.lt; omega, hg2⟩
  have H2 : Hid (by'.length ≤ 2) := h2
  have hk := hs.kept
  have hc := hs.cur
  clear hs h2 hg1 hg2
  have HC2 : Hid (Cur w2 (w.heap.size + 1)) := hc
  have HB2 : Hid (Below w.heap.size w w2) := HB1.out.trans (hk.below (by omega) HB1.out.size)
  have R_2 : Hid (Blk w2 w.heap.size #[.int .i64 0, .slice none 0 0, .int .i64 0, .int .i64 0, .slice none 0 0] 27) := blk_kept R_1.out hk (by omega)
  have HZ2 : Hid (w1.heap.size ≤ w2.heap.size) := hk.size
  clear hk hc
  have N_2 : Hid (ByK w2 gb by') := hby
  clear hby
  go_wp2_with fail
  refine (l11Any_any (w.heap.size + 1) gb gc by' _ HC2.out N_2.out ⟨by have := UN.out; omega, Nat.lt_of_lt_of_le UN.out.2 (by have := HZ2.out; omega)⟩ (by have := H2.out; unfold maxLen; omega)).mono ?_
  rintro r w3 ⟨n, b, t, K, kc, M, cap, key, rs, rfl, hd, hn, hkf, h9⟩
  have hg : GM2 (w.heap.size + 2) w3 K M cap key rs := ⟨hd.key.down (by have := HC2.out.lt; omega), hd.row.down (by have := HC2.out.lt; omega)⟩
  have Fg : Hid (GF key rs) := ⟨hkf, hd.fine, by omega⟩
  have NU : Hid (NumA n b t) := hn
  have hk := hd.kept
  have hc := hd.cur
  clear hd hn hkf h9
  have HC3 : Hid (Cur w3 (w.heap.size + 1)) := hc
  have HB3 : Hid (Below w.heap.size w w3) := HB2.out.trans (hk.below (by omega) HB2.out.size)
  have R_3 : Hid (Blk w3 w.heap.size #[.int .i64 0, .slice none 0 0, .int .i64 0, .int .i64 0, .slice none 0 0] 27) := blk_kept R_2.out hk (by omega)
  have N_3 : Hid (ByK w3 gb by') := N_2.out.keep hk (by have := UN.out; omega)
  have HZ3 : Hid (w2.heap.size ≤ w3.heap.size) := hk.size
  clear hk hc
  have G_3 : Hid (GM2 (w.heap.size + 2) w3 K M cap key rs) := hg
  clear hg
  have r0 : w3.cell? ⟨w.heap.size, 0, none⟩ = some (.int .i64 0) := R_3.out.cell 0
  have fr0 := R_3.out.frozen 0
  have r1 : w3.cell? ⟨w.heap.size, 1, none⟩ = some (.slice none 0 0) := R_3.out.cell 1
  have fr1 := R_3.out.frozen 1
  have r2 : w3.cell? ⟨w.heap.size, 2, none⟩ = some (.int .i64 0) := R_3.out.cell 2
  have fr2 := R_3.out.frozen 2
  have r3 : w3.cell? ⟨w.heap.size, 3, none⟩ = some (.int .i64 0) := R_3.out.cell 3
  have fr3 := R_3.out.frozen 3
  have r4 : w3.cell? ⟨w.heap.size, 4, none⟩ = some (.slice none 0 0) := R_3.out.cell 4
  have fr4 := R_3.out.frozen 4
  go_wp2
  have hR : Blk (((((w3.setCell ⟨w.heap.size, 0, none⟩ (.int .i64 n)).setCell ⟨w.heap.size, 1, none⟩ (.slice (some ⟨K, 0, none⟩) key.length kc)).setCell ⟨w.heap.size, 2, none⟩ (.int .i64 b)).setCell ⟨w.heap.size, 3, none⟩ (.int .i64 t)).setCell ⟨w.heap.size, 4, none⟩ (.slice (some ⟨M, 0, none⟩) rs.length cap)) w.heap.size #[.int .i64 n, .slice (some ⟨K, 0, none⟩) key.length kc, .int .i64 b, .int .i64 t, .slice (some ⟨M, 0, none⟩) rs.length cap] 27 := (((((R_3.out.set 0 _).set 1 _).set 2 _).set 3 _).set 4 _)
  have zR0 := hR.cell 0
  have zR1 := hR.cell 1
  have zR2 := hR.cell 2
  have zR3 := hR.cell 3
  have zR4 := hR.cell 4
  refine bodyPost_ret (v := .tuple #[.agg #[.int .i64 n, .slice (some ⟨K, 0, none⟩) key.length kc, .int .i64 b, .int .i64 t, .slice (some ⟨M, 0, none⟩) rs.length cap], .slice (some ⟨gb, 0, none⟩) by'.length gc]) (by simp [results, Try.results15, go_sem, zR0, zR1, zR2, zR3, zR4]) rfl ?_
  exact ⟨⟨n, b, t, K, kc, M, cap, key, pals rs, gb, gc, by', by rw [Rws.pals_len], (((((G_3.out.under (by omega) _ _).under (by omega) _ _).under (by omega) _ _).under (by omega) _ _).under (by omega) _ _).rg Fg.out, (ByK.set (ByK.set (ByK.set (ByK.set (ByK.set (N_3.out) (by have := UN.out; omega) _ _) (by have := UN.out; omega) _ _) (by have := UN.out; omega) _ _) (by have := UN.out; omega) _ _) (by have := UN.out; omega) _ _).rd, H2.out⟩, (set_low (set_low (set_low (set_low (set_low HB3.out (by omega) _ _) (by omega) _ _) (by omega) _ _) (by omega) _ _) (by omega) _ _)⟩
set_option maxRecDepth 100000 in
set_option maxHeartbeats 3200000 in
theorem drawFlush_any (b0 : Option Addr) (len cap0 : Nat) (w : World) (hl : len ≤ maxLen) (hb : Bytes w b0 len w.heap.size) :
    Calls Try.prog 12 #[.slice b0 len cap0] w fun r w' => RGN r w' ∧ Below w.heap.size w w' := by
  have HB : Hid (Bytes w b0 len w.heap.size) := hb
  have HL : Hid (len ≤ maxLen) := hl
  clear hb hl
  go_enter Try.func12, Try.ntmps12
  go_wp2_with fail
  refine (new_any b0 len cap0 _ HL.out (LawB.bytes_up HB.out (Go.Joins.below_alloc1 w _))).mono ?_
  rintro r w1 ⟨rfl, hc1, hb1⟩
  have HC1 : Hid (Cur w1 (w.heap.size + 1)) := by simp at hc1; exact hc1
  have R_1 : Hid (Blk w1 w.heap.size #[.int .i64 0, .slice none 0 0, .int .i64 0, .int .i64 0, .slice none 0 0] 27) := (Blk.new _ _ _).grow hb1
  have HB1 : Hid (Below w.heap.size w w1) := grow_on (Go.Joins.below_alloc1 w _) hb1
  clear hc1 hb1 HB HL
  go_wp2_with fail
  refine (DrawK.l5By_any (w.heap.size + 1) _ HC1.out).mono ?_
  rintro r w2 ⟨v, rfl, by', hs, h2⟩
  obtain ⟨gb, gc, rfl, hby, hg1, hg2⟩ := byk_of hs
  have UN : Hid ((w.heap.size + 1) < gb ∧ gb < w2.heap.size) := ⟨by have := HC1.out.lt; omega, hg2⟩
  have H2 : Hid (by'.length ≤ 2) := h2
  have hk := hs.kept
  have hc := hs.cur
  clear hs h2 hg1 hg2
  have HC2 : Hid (Cur w2 (w.heap.size + 1)) := hc
  have HB2 : Hid (Below w.heap.size w w2) := HB1.out.trans (hk.below (by omega) HB1.out.size)
  have R_2 : Hid (Blk w2 w.heap.size #[.int .i64 0, .slice none 0 0, .int .i64 0, .int .i64 0, .slice none 0 0] 27) := blk_kept R_1.out hk (by omega)
  have HZ2 : Hid (w1.heap.size ≤ w2.heap.size) := hk.size
  clear hk hc
  have N_2 : Hid (ByK w2 gb by') := hby
  clear hby
  go_wp2_with fail
  refine (l11Any_any (w.heap.size + 1) gb gc by' _ HC2.out N_2.out ⟨by have := UN.out; omega, Nat.lt_of_lt_of_le UN.out.2 (by have := HZ2.out; omega)⟩ (by have := H2.out; unfold maxLen; omega)).mono ?_
  rintro r w3 ⟨n, b, t, K, kc, M, cap, key, rs, rfl, hd, hn, hkf, h9⟩
  have hg : GM2 (w.heap.size + 2) w3 K M cap key rs := ⟨hd.key.down (by have := HC2.out.lt; omega), hd.row.down (by have := HC2.out.lt; omega)⟩
  have Fg : Hid (GF key rs) := ⟨hkf, hd.fine, by omega⟩
  have NU : Hid (NumA n b t) := hn
  have hk := hd.kept
  have hc := hd.cur
  clear hd hn hkf h9
  have HC3 : Hid (Cur w3 (w.heap.size + 1)) := hc
  have HB3 : Hid (Below w.heap.size w w3) := HB2.out.trans (hk.below (by omega) HB2.out.size)
  have R_3 : Hid (Blk w3 w.heap.size #[.int .i64 0, .slice none 0 0, .int .i64 0, .int .i64 0, .slice none 0 0] 27) := blk_kept R_2.out hk (by omega)
  have N_3 : Hid (ByK w3 gb by') := N_2.out.keep hk (by have := UN.out; omega)
  have HZ3 : Hid (w2.heap.size ≤ w3.heap.size) := hk.size
  clear hk hc
  have G_3 : Hid (GM2 (w.heap.size + 2) w3 K M cap key rs) := hg
  clear hg
  go_upto_region 3 with fail
  obtain ⟨w4, hw⟩ : ∃ v, v = (w3.alloc (.cells #[.int .i64 n, .slice (some ⟨K, 0, none⟩) key.length kc, .int .i64 b, .int .i64 t, .slice (some ⟨M, 0, none⟩) rs.length cap] 27)) := ⟨_, rfl⟩
  rw [← hw]
  have hk : Kept (w.heap.size + 1) w3 w4 := by rw [hw]; exact kept_bel (Go.Joins.below_alloc1 w3 _)
  have hc : Cur w4 (w.heap.size + 1) := by rw [hw]; exact cur_bel HC3.out (Go.Joins.below_alloc1 w3 _)
  have HC4 : Hid (Cur w4 (w.heap.size + 1)) := hc
  have HB4 : Hid (Below w.heap.size w w4) := HB3.out.trans (hk.below (by omega) HB3.out.size)
  have R_4 : Hid (Blk w4 w.heap.size #[.int .i64 0, .slice none 0 0, .int .i64 0, .int .i64 0, .slice none 0 0] 27) := blk_kept R_3.out hk (by omega)
  have N_4 : Hid (ByK w4 gb by') := N_3.out.keep hk (by have := UN.out; omega)
  have G_4 : Hid (GM2 (w.heap.size + 2) w4 K M cap key rs) := G_3.out.keep hk (by omega)
  have HZ4 : Hid (w3.heap.size ≤ w4.heap.size) := hk.size
  clear hk hc
  have X_4 : Hid (Blk w4 w3.heap.size #[.int .i64 n, .slice (some ⟨K, 0, none⟩) key.length kc, .int .i64 b, .int .i64 t, .slice (some ⟨M, 0, none⟩) rs.length cap] 27) := by rw [hw]; exact Blk.new _ _ _
  have UX : Hid ((w.heap.size + 1) < w3.heap.size) := by have := HC3.out.lt; unfold Hid; omega
  clear hw
  generalize w3.heap.size = XX at X_4 UX  ⊢
  have HS : Hid (∀ w', Blk w' XX #[.int .i64 n, .slice (some ⟨K, 0, none⟩) key.length kc, .int .i64 b, .int .i64 t, .slice (some ⟨M, 0, none⟩) rs.length cap] 27 → w'.cell? ⟨XX, 0, none⟩ = some (.int .i64 n) ∧ w'.cell? ⟨XX, 1, none⟩ = some (.slice (some ⟨K, 0, none⟩) key.length kc) ∧ w'.cell? ⟨XX, 2, none⟩ = some (.int .i64 b) ∧ w'.cell? ⟨XX, 3, none⟩ = some (.int .i64 t) ∧ w'.cell? ⟨XX, 4, none⟩ = some (.slice (some ⟨M, 0, none⟩) rs.length cap)) := fun w' h => ⟨h.cell 0, h.cell 1, h.cell 2, h.cell 3, h.cell 4⟩
  refine wp_region_held_drew (S := fun w' => w'.cell? ⟨XX, 0, none⟩ = some (.int .i64 n) ∧ w'.cell? ⟨XX, 1, none⟩ = some (.slice (some ⟨K, 0, none⟩) key.length kc) ∧ w'.cell? ⟨XX, 2, none⟩ = some (.int .i64 b) ∧ w'.cell? ⟨XX, 3, none⟩ = some (.int .i64 t) ∧ w'.cell? ⟨XX, 4, none⟩ = some (.slice (some ⟨M, 0, none⟩) rs.length cap)) (by kernel_rfl) (HS.out _ X_4.out.drew) (fun hHeld => ?_)
  refine wpAnyH_take (i := 0) (oi := { dst := some 12, op := Op.load 27 (Operand.tmp 5), type := 27, pos := "l11_group.go:144", after := #[], guard := none }) (v := ?vh30) rfl (by kernel_rfl) (by kernel_rfl) (by kernel_rfl) (fun _ _ _ h => h) (Or.inl ⟨by rfl, ?hyh30⟩) hHeld ?_
  case hyh30 => (intro w hSw; (try dsimp only at hSw); go_simp <;> with_reducible rfl)
  try simp only [Act.put, List.setIfInBounds_toArray, List.set_cons_zero, List.set_cons_succ]
  refine wpAnyH_take (i := 1) (oi := { dst := some 13, op := Op.move (Operand.tmp 4), type := 80, pos := "l11_group.go:144", after := #[], guard := none }) (v := ?vh31) rfl (by kernel_rfl) (by kernel_rfl) (by kernel_rfl) (fun _ _ _ h => h) (Or.inl ⟨by rfl, ?hyh31⟩) hHeld ?_
  case hyh31 => (intro w hSw; (try dsimp only at hSw); go_simp <;> with_reducible rfl)
  try simp only [Act.put, List.setIfInBounds_toArray, List.set_cons_zero, List.set_cons_succ]
  have hk : Kept (w.heap.size + 1) w4 w4.drew := kept_bel (Below.refl _ _).drew
  have hc : Cur w4.drew (w.heap.size + 1) := Cur.drewN HC4.out 1
  have HC5 : Hid (Cur w4.drew (w.heap.size + 1)) := hc
  have HB5 : Hid (Below w.heap.size w w4.drew) := HB4.out.trans (hk.below (by omega) HB4.out.size)
  have R_5 : Hid (Blk w4.drew w.heap.size #[.int .i64 0, .slice none 0 0, .int .i64 0, .int .i64 0, .slice none 0 0] 27) := blk_kept R_4.out hk (by omega)
  have N_5 : Hid (ByK w4.drew gb by') := N_4.out.keep hk (by have := UN.out; omega)
  have G_5 : Hid (GM2 (w.heap.size + 2) w4.drew K M cap key rs) := G_4.out.keep hk (by omega)
  have X_5 : Hid (Blk w4.drew XX #[.int .i64 n, .slice (some ⟨K, 0, none⟩) key.length kc, .int .i64 b, .int .i64 t, .slice (some ⟨M, 0, none⟩) rs.length cap] 27) := blk_kept X_4.out hk (by have := UX.out; omega)
  have HZ5 : Hid (w4.heap.size ≤ w4.drew.heap.size) := hk.size
  clear hk hc
  refine wpAnyH_ready (rs := [2]) (by kernel_rfl) (by simp) ?_
  refine AllReadyH.cons (o := { dst := some 14, op := Op.call { callee := Callee.value (Operand.func 55), args := #[Operand.tmp 13, Operand.const (Value.int IntKind.i64 30)], argTypes := #[80, 3] }, type := 3, pos := "l11_group.go:144", after := #[{ on := 1, ground := Ground.data }], guard := none }) rfl (fun Kx hK => ?_) AllReadyH.nil
  go_simp
  refine (below_any (w.heap.size + 1) 30 _ HC5.out (by decide) (by decide)).mono ?_
  rintro r w6 ⟨⟨now, rfl, h0, h1⟩, hc, hk⟩
  have Lnow : Hid (0 ≤ now ∧ now ≤ 29) := ⟨h0, by omega⟩
  clear h0 h1
  have HC6 : Hid (Cur w6 (w.heap.size + 1)) := hc
  have HB6 : Hid (Below w.heap.size w w6) := HB5.out.trans (hk.below (by omega) HB5.out.size)
  have R_6 : Hid (Blk w6 w.heap.size #[.int .i64 0, .slice none 0 0, .int .i64 0, .int .i64 0, .slice none 0 0] 27) := blk_kept R_5.out hk (by omega)
  have N_6 : Hid (ByK w6 gb by') := N_5.out.keep hk (by have := UN.out; omega)
  have G_6 : Hid (GM2 (w.heap.size + 2) w6 K M cap key rs) := G_5.out.keep hk (by omega)
  have X_6 : Hid (Blk w6 XX #[.int .i64 n, .slice (some ⟨K, 0, none⟩) key.length kc, .int .i64 b, .int .i64 t, .slice (some ⟨M, 0, none⟩) rs.length cap] 27) := blk_kept X_5.out hk (by have := UX.out; omega)
  have HZ6 : Hid (w4.drew.heap.size ≤ w6.heap.size) := hk.size
  clear hk hc
  try dsimp only
  clear hHeld
  refine hK.out _ _ (HS.out _ X_6.out) (fun hHeld => ?_)
  clear hK Kx
  try simp only [Act.put, List.setIfInBounds_toArray, List.set_cons_zero, List.set_cons_succ]
  have r0 : w6.cell? ⟨w.heap.size, 0, none⟩ = some (.int .i64 0) := R_6.out.cell 0
  have fr0 := R_6.out.frozen 0
  have r1 : w6.cell? ⟨w.heap.size, 1, none⟩ = some (.slice none 0 0) := R_6.out.cell 1
  have fr1 := R_6.out.frozen 1
  have r2 : w6.cell? ⟨w.heap.size, 2, none⟩ = some (.int .i64 0) := R_6.out.cell 2
  have fr2 := R_6.out.frozen 2
  have r3 : w6.cell? ⟨w.heap.size, 3, none⟩ = some (.int .i64 0) := R_6.out.cell 3
  have fr3 := R_6.out.frozen 3
  have r4 : w6.cell? ⟨w.heap.size, 4, none⟩ = some (.slice none 0 0) := R_6.out.cell 4
  have fr4 := R_6.out.frozen 4
  have hneX : w.heap.size ≠ XX := by have := UX.out; omega
  refine wpAnyH_ready (rs := [3]) (by kernel_rfl) (by simp) ?_
  refine AllReadyH.cons (o := { dst := none, op := Op.store 27 (Operand.tmp 2) (Operand.tmp 12), type := 0, pos := "l11_group.go:144", after := #[{ on := 0, ground := Ground.data }, { on := 2, ground := Ground.chain }, { on := 0, ground := Ground.phase }, { on := 1, ground := Ground.textOnly Departure.lateStores }, { on := 2, ground := Ground.textOnly Departure.lateStoresUnsure }], guard := none }) rfl (fun Kx hK => ?_) AllReadyH.nil
  go_simp
  clear hHeld
  refine hK.out _ _ (HS.out _ (((((X_6.out.set_other hneX _).set_other hneX _).set_other hneX _).set_other hneX _).set_other hneX _)) (fun hHeld => ?_)
  clear hK Kx
  try simp only [Act.put, List.setIfInBounds_toArray, List.set_cons_zero, List.set_cons_succ]
  refine wpAnyH_ready (rs := [4]) (by kernel_rfl) (by simp) ?_
  refine AllReadyH.cons (o := { dst := some 3, op := Op.assign (Operand.tmp 14), type := 3, pos := "l11_group.go:144", after := #[{ on := 2, ground := Ground.data }, { on := 3, ground := Ground.chain }, { on := 0, ground := Ground.phase }, { on := 1, ground := Ground.phase }, { on := 2, ground := Ground.phase }, { on := 3, ground := Ground.phase }], guard := none }) rfl (fun Kx hK => ?_) AllReadyH.nil
  go_simp
  clear hHeld
  refine hK.out _ _ (HS.out _ (((((X_6.out.set_other hneX _).set_other hneX _).set_other hneX _).set_other hneX _).set_other hneX _)) (fun hHeld => ?_)
  clear hK Kx
  try simp only [Act.put, List.setIfInBounds_toArray, List.set_cons_zero, List.set_cons_succ]
  refine wpAnyH_done (by kernel_rfl) ?_ _
  go_wp2
  have hR : Blk (((((w6.setCell ⟨w.heap.size, 0, none⟩ (.int .i64 n)).setCell ⟨w.heap.size, 1, none⟩ (.slice (some ⟨K, 0, none⟩) key.length kc)).setCell ⟨w.heap.size, 2, none⟩ (.int .i64 b)).setCell ⟨w.heap.size, 3, none⟩ (.int .i64 t)).setCell ⟨w.heap.size, 4, none⟩ (.slice (some ⟨M, 0, none⟩) rs.length cap)) w.heap.size #[.int .i64 n, .slice (some ⟨K, 0, none⟩) key.length kc, .int .i64 b, .int .i64 t, .slice (some ⟨M, 0, none⟩) rs.length cap] 27 := (((((R_6.out.set 0 _).set 1 _).set 2 _).set 3 _).set 4 _)
  have zR0 := hR.cell 0
  have zR1 := hR.cell 1
  have zR2 := hR.cell 2
  have zR3 := hR.cell 3
  have zR4 := hR.cell 4
  refine bodyPost_ret (v := .tuple #[.agg #[.int .i64 n, .slice (some ⟨K, 0, none⟩) key.length kc, .int .i64 b, .int .i64 t, .slice (some ⟨M, 0, none⟩) rs.length cap], .int .i64 now]) (by simp [results, Try.results12, go_sem, zR0, zR1, zR2, zR3, zR4]) rfl ?_
  exact ⟨⟨n, b, t, K, kc, M, cap, key, pals rs, now, by rw [Rws.pals_len], (((((G_6.out.under (by omega) _ _).under (by omega) _ _).under (by omega) _ _).under (by omega) _ _).under (by omega) _ _).rg Fg.out, Lnow.out.1, Lnow.out.2⟩, (set_low (set_low (set_low (set_low (set_low HB6.out (by omega) _ _) (by omega) _ _) (by omega) _ _) (by omega) _ _) (by omega) _ _)⟩
set_option maxRecDepth 100000 in
set_option maxHeartbeats 3200000 in
theorem drawNextDue_any (b0 : Option Addr) (len cap0 : Nat) (w : World) (hl : len ≤ maxLen) (hb : Bytes w b0 len w.heap.size) :
    Calls Try.prog 18 #[.slice b0 len cap0] w fun r w' => RGD r w' ∧ Below w.heap.size w w' := by
  have HB : Hid (Bytes w b0 len w.heap.size) := hb
  have HL : Hid (len ≤ maxLen) := hl
  clear hb hl
  go_enter Try.func18, Try.ntmps18
  go_wp2_with fail
  refine (new_any b0 len cap0 _ HL.out (LawB.bytes_up HB.out (Go.Joins.below_alloc1 w _))).mono ?_
  rintro r w1 ⟨rfl, hc1, hb1⟩
  have HC1 : Hid (Cur w1 (w.heap.size + 1)) := by simp at hc1; exact hc1
  have R_1 : Hid (Blk w1 w.heap.size #[.int .i64 0, .slice none 0 0, .int .i64 0, .int .i64 0, .slice none 0 0] 27) := (Blk.new _ _ _).grow hb1
  have HB1 : Hid (Below w.heap.size w w1) := grow_on (Go.Joins.below_alloc1 w _) hb1
  clear hc1 hb1 HB HL
  go_wp2_with fail
  refine (DrawK.l5By_any (w.heap.size + 1) _ HC1.out).mono ?_
  rintro r w2 ⟨v, rfl, by', hs, h2⟩
  obtain ⟨gb, gc, rfl, hby, hg1, hg2⟩ := byk_of hs
  have UN : Hid ((w.heap.size + 1) < gb ∧ gb < w2.heap.size) := ⟨by have := HC1.out.lt; omega, hg2⟩
  have H2 : Hid (by'.length ≤ 2) := h2
  have hk := hs.kept
  have hc := hs.cur
  clear hs h2 hg1 hg2
  have HC2 : Hid (Cur w2 (w.heap.size + 1)) := hc
  have HB2 : Hid (Below w.heap.size w w2) := HB1.out.trans (hk.below (by omega) HB1.out.size)
  have R_2 : Hid (Blk w2 w.heap.size #[.int .i64 0, .slice none 0 0, .int .i64 0, .int .i64 0, .slice none 0 0] 27) := blk_kept R_1.out hk (by omega)
  have HZ2 : Hid (w1.heap.size ≤ w2.heap.size) := hk.size
  clear hk hc
  have N_2 : Hid (ByK w2 gb by') := hby
  clear hby
  go_wp2_with fail
  refine (l11Draw_any (w.heap.size + 1) gb gc by' _ HC2.out N_2.out ⟨by have := UN.out; omega, Nat.lt_of_lt_of_le UN.out.2 (by have := HZ2.out; omega)⟩ (by have := H2.out; unfold maxLen; omega)).mono ?_
  rintro r w3 ⟨n, b, t, K, kc, M, cap, key, rs, rfl, hd, hn, hkf, h9⟩
  have hg : GM2 (w.heap.size + 2) w3 K M cap key rs := ⟨hd.key.down (by have := HC2.out.lt; omega), hd.row.down (by have := HC2.out.lt; omega)⟩
  have Fg : Hid (GF key rs) := ⟨hkf, hd.fine, by omega⟩
  have NU : Hid (Nums n b t) := hn
  have hk := hd.kept
  have hc := hd.cur
  clear hd hn hkf h9
  have HC3 : Hid (Cur w3 (w.heap.size + 1)) := hc
  have HB3 : Hid (Below w.heap.size w w3) := HB2.out.trans (hk.below (by omega) HB2.out.size)
  have R_3 : Hid (Blk w3 w.heap.size #[.int .i64 0, .slice none 0 0, .int .i64 0, .int .i64 0, .slice none 0 0] 27) := blk_kept R_2.out hk (by omega)
  have N_3 : Hid (ByK w3 gb by') := N_2.out.keep hk (by have := UN.out; omega)
  have HZ3 : Hid (w2.heap.size ≤ w3.heap.size) := hk.size
  clear hk hc
  have G_3 : Hid (GM2 (w.heap.size + 2) w3 K M cap key rs) := hg
  clear hg
  go_upto_region 3 with fail
  obtain ⟨w4, hw⟩ : ∃ v, v = (w3.alloc (.cells #[.int .i64 n, .slice (some ⟨K, 0, none⟩) key.length kc, .int .i64 b, .int .i64 t, .slice (some ⟨M, 0, none⟩) rs.length cap] 27)) := ⟨_, rfl⟩
  rw [← hw]
  have hk : Kept (w.heap.size + 1) w3 w4 := by rw [hw]; exact kept_bel (Go.Joins.below_alloc1 w3 _)
  have hc : Cur w4 (w.heap.size + 1) := by rw [hw]; exact cur_bel HC3.out (Go.Joins.below_alloc1 w3 _)
  have HC4 : Hid (Cur w4 (w.heap.size + 1)) := hc
  have HB4 : Hid (Below w.heap.size w w4) := HB3.out.trans (hk.below (by omega) HB3.out.size)
  have R_4 : Hid (Blk w4 w.heap.size #[.int .i64 0, .slice none 0 0, .int .i64 0, .int .i64 0, .slice none 0 0] 27) := blk_kept R_3.out hk (by omega)
  have N_4 : Hid (ByK w4 gb by') := N_3.out.keep hk (by have := UN.out; omega)
  have G_4 : Hid (GM2 (w.heap.size + 2) w4 K M cap key rs) := G_3.out.keep hk (by omega)
  have HZ4 : Hid (w3.heap.size ≤ w4.heap.size) := hk.size
  clear hk hc
  have X_4 : Hid (Blk w4 w3.heap.size #[.int .i64 n, .slice (some ⟨K, 0, none⟩) key.length kc, .int .i64 b, .int .i64 t, .slice (some ⟨M, 0, none⟩) rs.length cap] 27) := by rw [hw]; exact Blk.new _ _ _
  have UX : Hid ((w.heap.size + 1) < w3.heap.size) := by have := HC3.out.lt; unfold Hid; omega
  clear hw
  generalize w3.heap.size = XX at X_4 UX  ⊢
  have HS : Hid (∀ w', Blk w' XX #[.int .i64 n, .slice (some ⟨K, 0, none⟩) key.length kc, .int .i64 b, .int .i64 t, .slice (some ⟨M, 0, none⟩) rs.length cap] 27 → w'.cell? ⟨XX, 0, none⟩ = some (.int .i64 n) ∧ w'.cell? ⟨XX, 1, none⟩ = some (.slice (some ⟨K, 0, none⟩) key.length kc) ∧ w'.cell? ⟨XX, 2, none⟩ = some (.int .i64 b) ∧ w'.cell? ⟨XX, 3, none⟩ = some (.int .i64 t) ∧ w'.cell? ⟨XX, 4, none⟩ = some (.slice (some ⟨M, 0, none⟩) rs.length cap)) := fun w' h => ⟨h.cell 0, h.cell 1, h.cell 2, h.cell 3, h.cell 4⟩
  refine wp_region_held_drew (S := fun w' => w'.cell? ⟨XX, 0, none⟩ = some (.int .i64 n) ∧ w'.cell? ⟨XX, 1, none⟩ = some (.slice (some ⟨K, 0, none⟩) key.length kc) ∧ w'.cell? ⟨XX, 2, none⟩ = some (.int .i64 b) ∧ w'.cell? ⟨XX, 3, none⟩ = some (.int .i64 t) ∧ w'.cell? ⟨XX, 4, none⟩ = some (.slice (some ⟨M, 0, none⟩) rs.length cap)) (by kernel_rfl) (HS.out _ X_4.out.drew) (fun hHeld => ?_)
  refine wpAnyH_take (i := 0) (oi := { dst := some 13, op := Op.load 27 (Operand.tmp 6), type := 27, pos := "l11_group.go:150", after := #[], guard := none }) (v := ?vh30) rfl (by kernel_rfl) (by kernel_rfl) (by kernel_rfl) (fun _ _ _ h => h) (Or.inl ⟨by rfl, ?hyh30⟩) hHeld ?_
  case hyh30 => (intro w hSw; (try dsimp only at hSw); go_simp <;> with_reducible rfl)
  try simp only [Act.put, List.setIfInBounds_toArray, List.set_cons_zero, List.set_cons_succ]
  refine wpAnyH_take (i := 1) (oi := { dst := some 14, op := Op.move (Operand.tmp 5), type := 80, pos := "l11_group.go:150", after := #[], guard := none }) (v := ?vh31) rfl (by kernel_rfl) (by kernel_rfl) (by kernel_rfl) (fun _ _ _ h => h) (Or.inl ⟨by rfl, ?hyh31⟩) hHeld ?_
  case hyh31 => (intro w hSw; (try dsimp only at hSw); go_simp <;> with_reducible rfl)
  try simp only [Act.put, List.setIfInBounds_toArray, List.set_cons_zero, List.set_cons_succ]
  refine wpAnyH_take (i := 3) (oi := { dst := some 16, op := Op.move (Operand.tmp 5), type := 80, pos := "l11_group.go:150", after := #[], guard := none }) (v := ?vh33) rfl (by kernel_rfl) (by kernel_rfl) (by kernel_rfl) (fun _ _ _ h => h) (Or.inl ⟨by rfl, ?hyh33⟩) hHeld ?_
  case hyh33 => (intro w hSw; (try dsimp only at hSw); go_simp <;> with_reducible rfl)
  try simp only [Act.put, List.setIfInBounds_toArray, List.set_cons_zero, List.set_cons_succ]
  have hk : Kept (w.heap.size + 1) w4 w4.drew := kept_bel (Below.refl _ _).drew
  have hc : Cur w4.drew (w.heap.size + 1) := Cur.drewN HC4.out 1
  have HC5 : Hid (Cur w4.drew (w.heap.size + 1)) := hc
  have HB5 : Hid (Below w.heap.size w w4.drew) := HB4.out.trans (hk.below (by omega) HB4.out.size)
  have R_5 : Hid (Blk w4.drew w.heap.size #[.int .i64 0, .slice none 0 0, .int .i64 0, .int .i64 0, .slice none 0 0] 27) := blk_kept R_4.out hk (by omega)
  have N_5 : Hid (ByK w4.drew gb by') := N_4.out.keep hk (by have := UN.out; omega)
  have G_5 : Hid (GM2 (w.heap.size + 2) w4.drew K M cap key rs) := G_4.out.keep hk (by omega)
  have X_5 : Hid (Blk w4.drew XX #[.int .i64 n, .slice (some ⟨K, 0, none⟩) key.length kc, .int .i64 b, .int .i64 t, .slice (some ⟨M, 0, none⟩) rs.length cap] 27) := blk_kept X_4.out hk (by have := UX.out; omega)
  have HZ5 : Hid (w4.heap.size ≤ w4.drew.heap.size) := hk.size
  clear hk hc
  refine wpAnyH_ready (rs := [2]) (by kernel_rfl) (by simp) ?_
  refine AllReadyH.cons (o := { dst := some 15, op := Op.call { callee := Callee.value (Operand.func 55), args := #[Operand.tmp 14, Operand.const (Value.int IntKind.i64 9)], argTypes := #[80, 3] }, type := 3, pos := "l11_group.go:150", after := #[{ on := 1, ground := Ground.data }], guard := none }) rfl (fun Kx hK => ?_) AllReadyH.nil
  go_simp
  refine (below_any (w.heap.size + 1) 9 _ HC5.out (by decide) (by decide)).mono ?_
  rintro r w6 ⟨⟨wait, rfl, h0, h1⟩, hc, hk⟩
  have Lwait : Hid (0 ≤ wait ∧ wait ≤ 8) := ⟨h0, by omega⟩
  clear h0 h1
  have HC6 : Hid (Cur w6 (w.heap.size + 1)) := hc
  have HB6 : Hid (Below w.heap.size w w6) := HB5.out.trans (hk.below (by omega) HB5.out.size)
  have R_6 : Hid (Blk w6 w.heap.size #[.int .i64 0, .slice none 0 0, .int .i64 0, .int .i64 0, .slice none 0 0] 27) := blk_kept R_5.out hk (by omega)
  have N_6 : Hid (ByK w6 gb by') := N_5.out.keep hk (by have := UN.out; omega)
  have G_6 : Hid (GM2 (w.heap.size + 2) w6 K M cap key rs) := G_5.out.keep hk (by omega)
  have X_6 : Hid (Blk w6 XX #[.int .i64 n, .slice (some ⟨K, 0, none⟩) key.length kc, .int .i64 b, .int .i64 t, .slice (some ⟨M, 0, none⟩) rs.length cap] 27) := blk_kept X_5.out hk (by have := UX.out; omega)
  have HZ6 : Hid (w4.drew.heap.size ≤ w6.heap.size) := hk.size
  clear hk hc
  try dsimp only
  clear hHeld
  refine hK.out _ _ (HS.out _ X_6.out) (fun hHeld => ?_)
  clear hK Kx
  try simp only [Act.put, List.setIfInBounds_toArray, List.set_cons_zero, List.set_cons_succ]
  refine wpAnyH_ready (rs := [4]) (by kernel_rfl) (by simp) ?_
  refine AllReadyH.cons (o := { dst := some 17, op := Op.call { callee := Callee.value (Operand.func 55), args := #[Operand.tmp 16, Operand.const (Value.int IntKind.i64 9)], argTypes := #[80, 3] }, type := 3, pos := "l11_group.go:150", after := #[{ on := 3, ground := Ground.data }, { on := 2, ground := Ground.chain }], guard := none }) rfl (fun Kx hK => ?_) AllReadyH.nil
  go_simp
  refine (below_any (w.heap.size + 1) 9 _ HC6.out (by decide) (by decide)).mono ?_
  rintro r w7 ⟨⟨every, rfl, h0, h1⟩, hc, hk⟩
  have Levery : Hid (0 ≤ every ∧ every ≤ 8) := ⟨h0, by omega⟩
  clear h0 h1
  have HC7 : Hid (Cur w7 (w.heap.size + 1)) := hc
  have HB7 : Hid (Below w.heap.size w w7) := HB6.out.trans (hk.below (by omega) HB6.out.size)
  have R_7 : Hid (Blk w7 w.heap.size #[.int .i64 0, .slice none 0 0, .int .i64 0, .int .i64 0, .slice none 0 0] 27) := blk_kept R_6.out hk (by omega)
  have N_7 : Hid (ByK w7 gb by') := N_6.out.keep hk (by have := UN.out; omega)
  have G_7 : Hid (GM2 (w.heap.size + 2) w7 K M cap key rs) := G_6.out.keep hk (by omega)
  have X_7 : Hid (Blk w7 XX #[.int .i64 n, .slice (some ⟨K, 0, none⟩) key.length kc, .int .i64 b, .int .i64 t, .slice (some ⟨M, 0, none⟩) rs.length cap] 27) := blk_kept X_6.out hk (by have := UX.out; omega)
  have HZ7 : Hid (w6.heap.size ≤ w7.heap.size) := hk.size
  clear hk hc
  try dsimp only
  clear hHeld
  refine hK.out _ _ (HS.out _ X_7.out) (fun hHeld => ?_)
  clear hK Kx
  try simp only [Act.put, List.setIfInBounds_toArray, List.set_cons_zero, List.set_cons_succ]
  have r0 : w7.cell? ⟨w.heap.size, 0, none⟩ = some (.int .i64 0) := R_7.out.cell 0
  have fr0 := R_7.out.frozen 0
  have r1 : w7.cell? ⟨w.heap.size, 1, none⟩ = some (.slice none 0 0) := R_7.out.cell 1
  have fr1 := R_7.out.frozen 1
  have r2 : w7.cell? ⟨w.heap.size, 2, none⟩ = some (.int .i64 0) := R_7.out.cell 2
  have fr2 := R_7.out.frozen 2
  have r3 : w7.cell? ⟨w.heap.size, 3, none⟩ = some (.int .i64 0) := R_7.out.cell 3
  have fr3 := R_7.out.frozen 3
  have r4 : w7.cell? ⟨w.heap.size, 4, none⟩ = some (.slice none 0 0) := R_7.out.cell 4
  have fr4 := R_7.out.frozen 4
  have hneX : w.heap.size ≠ XX := by have := UX.out; omega
  refine wpAnyH_ready (rs := [5]) (by kernel_rfl) (by simp) ?_
  refine AllReadyH.cons (o := { dst := none, op := Op.store 27 (Operand.tmp 2) (Operand.tmp 13), type := 0, pos := "l11_group.go:150", after := #[{ on := 0, ground := Ground.data }, { on := 4, ground := Ground.chain }, { on := 0, ground := Ground.phase }, { on := 1, ground := Ground.textOnly Departure.lateStores }, { on := 2, ground := Ground.textOnly Departure.lateStoresUnsure }, { on := 3, ground := Ground.textOnly Departure.lateStores }, { on := 4, ground := Ground.textOnly Departure.lateStoresUnsure }], guard := none }) rfl (fun Kx hK => ?_) AllReadyH.nil
  go_simp
  clear hHeld
  refine hK.out _ _ (HS.out _ (((((X_7.out.set_other hneX _).set_other hneX _).set_other hneX _).set_other hneX _).set_other hneX _)) (fun hHeld => ?_)
  clear hK Kx
  try simp only [Act.put, List.setIfInBounds_toArray, List.set_cons_zero, List.set_cons_succ]
  refine wpAnyH_ready (rs := [6]) (by kernel_rfl) (by simp) ?_
  refine AllReadyH.cons (o := { dst := some 3, op := Op.assign (Operand.tmp 15), type := 3, pos := "l11_group.go:150", after := #[{ on := 2, ground := Ground.data }, { on := 5, ground := Ground.chain }, { on := 0, ground := Ground.phase }, { on := 1, ground := Ground.phase }, { on := 2, ground := Ground.phase }, { on := 3, ground := Ground.textOnly Departure.lateStores }, { on := 4, ground := Ground.textOnly Departure.lateStoresUnsure }, { on := 5, ground := Ground.phase }], guard := none }) rfl (fun Kx hK => ?_) AllReadyH.nil
  go_simp
  clear hHeld
  refine hK.out _ _ (HS.out _ (((((X_7.out.set_other hneX _).set_other hneX _).set_other hneX _).set_other hneX _).set_other hneX _)) (fun hHeld => ?_)
  clear hK Kx
  try simp only [Act.put, List.setIfInBounds_toArray, List.set_cons_zero, List.set_cons_succ]
  refine wpAnyH_ready (rs := [7]) (by kernel_rfl) (by simp) ?_
  refine AllReadyH.cons (o := { dst := some 4, op := Op.assign (Operand.tmp 17), type := 3, pos := "l11_group.go:150", after := #[{ on := 4, ground := Ground.data }, { on := 6, ground := Ground.chain }, { on := 0, ground := Ground.phase }, { on := 1, ground := Ground.phase }, { on := 2, ground := Ground.phase }, { on := 3, ground := Ground.phase }, { on := 4, ground := Ground.phase }, { on := 5, ground := Ground.phase }, { on := 6, ground := Ground.phase }], guard := none }) rfl (fun Kx hK => ?_) AllReadyH.nil
  go_simp
  clear hHeld
  refine hK.out _ _ (HS.out _ (((((X_7.out.set_other hneX _).set_other hneX _).set_other hneX _).set_other hneX _).set_other hneX _)) (fun hHeld => ?_)
  clear hK Kx
  try simp only [Act.put, List.setIfInBounds_toArray, List.set_cons_zero, List.set_cons_succ]
  refine wpAnyH_done (by kernel_rfl) ?_ _
  go_wp2
  have hR : Blk (((((w7.setCell ⟨w.heap.size, 0, none⟩ (.int .i64 n)).setCell ⟨w.heap.size, 1, none⟩ (.slice (some ⟨K, 0, none⟩) key.length kc)).setCell ⟨w.heap.size, 2, none⟩ (.int .i64 b)).setCell ⟨w.heap.size, 3, none⟩ (.int .i64 t)).setCell ⟨w.heap.size, 4, none⟩ (.slice (some ⟨M, 0, none⟩) rs.length cap)) w.heap.size #[.int .i64 n, .slice (some ⟨K, 0, none⟩) key.length kc, .int .i64 b, .int .i64 t, .slice (some ⟨M, 0, none⟩) rs.length cap] 27 := (((((R_7.out.set 0 _).set 1 _).set 2 _).set 3 _).set 4 _)
  have zR0 := hR.cell 0
  have zR1 := hR.cell 1
  have zR2 := hR.cell 2
  have zR3 := hR.cell 3
  have zR4 := hR.cell 4
  refine bodyPost_ret (v := .tuple #[.agg #[.int .i64 n, .slice (some ⟨K, 0, none⟩) key.length kc, .int .i64 b, .int .i64 t, .slice (some ⟨M, 0, none⟩) rs.length cap], .int .i64 wait, .int .i64 every]) (by simp [results, Try.results18, go_sem, zR0, zR1, zR2, zR3, zR4]) rfl ?_
  exact ⟨⟨n, b, t, K, kc, M, cap, key, pals rs, wait, every, by rw [Rws.pals_len], (((((G_7.out.under (by omega) _ _).under (by omega) _ _).under (by omega) _ _).under (by omega) _ _).under (by omega) _ _).rg Fg.out, NU.out, Lwait.out, Levery.out⟩, (set_low (set_low (set_low (set_low (set_low HB7.out (by omega) _ _) (by omega) _ _) (by omega) _ _) (by omega) _ _) (by omega) _ _)⟩
theorem flushR (n b t : Int) (K kc : Nat) (key : List Lab) (M cap : Nat) (rs : List ARow) (now : Int) (w : World) (hk : Reads w (some ⟨K, 0, none⟩) key) (hkl : key.length ≤ 1048576) (hr : RdN w (some ⟨M, 0, none⟩) (pals rs)) (hl : (pals rs).length ≤ 1048576) (hs : LenM (pals rs)) :
    Calls Try.prog 14 #[.agg #[.int .i64 n, .slice (some ⟨K, 0, none⟩) key.length kc, .int .i64 b, .int .i64 t, .slice (some ⟨M, 0, none⟩) rs.length cap], .int .i64 now] w fun e w' => (∃ Ke kd M c rs' K2 kd2 M2 c2 rs2, e = .returned (.tuple #[.agg #[.int .i64 n, .slice (some ⟨Ke, 0, none⟩) key.length kd, .int .i64 b, .int .i64 now, .slice (some ⟨M, 0, none⟩) rs'.length c], .agg #[.int .i64 n, .slice (some ⟨K2, 0, none⟩) key.length kd2, .int .i64 now, .slice (some ⟨M2, 0, none⟩) rs2.length c2]]) ∧ GB w.heap.size w' Ke key M 0 rs' ∧ AB w.heap.size w' M c rs' ∧ pals rs' = leftTo (pals rs) now (pals rs).length ∧ GB w.heap.size w' K2 key M2 0 rs2 ∧ AB w.heap.size w' M2 c2 rs2 ∧ pals rs2 = pals rs) ∧ Below w.heap.size w w' := by
  have h := GrpF.specFlush_any n b t K 0 kc key (some ⟨M, 0, none⟩) cap (pals rs) now w hk hkl hr hl hs
  have e : (pals rs).length = rs.length := Rws.pals_len rs
  rw [e] at h ⊢
  exact h
theorem copyR (n b t : Int) (K kc : Nat) (key : List Lab) (M cap : Nat) (rs : List ARow) (w : World) (hk : Reads w (some ⟨K, 0, none⟩) key) (hkl : key.length ≤ 1048576) (hr : RdN w (some ⟨M, 0, none⟩) (pals rs)) (hl : (pals rs).length ≤ 1048576) (hs : LenM (pals rs)) :
    Calls Try.prog 60 #[.agg #[.int .i64 n, .slice (some ⟨K, 0, none⟩) key.length kc, .int .i64 b, .int .i64 t, .slice (some ⟨M, 0, none⟩) rs.length cap]] w fun r w' => (∃ K kd M c rs', r = .returned (.agg #[.int .i64 n, .slice (some ⟨K, 0, none⟩) key.length kd, .int .i64 b, .int .i64 t, .slice (some ⟨M, 0, none⟩) rs'.length c]) ∧ GB w.heap.size w' K key M 0 rs' ∧ AB w.heap.size w' M c rs' ∧ pals rs' = pals rs) ∧ Below w.heap.size w w' := by
  have h := GrpC.l11Copy_any n b t K 0 kc key (some ⟨M, 0, none⟩) cap (pals rs) w hk hkl hr hl hs
  rw [Rws.pals_len] at h
  exact h
theorem copyB (n b : Int) (K kc : Nat) (key : List Lab) (M cap : Nat) (rs : List ARow) (w : World) (hk : Reads w (some ⟨K, 0, none⟩) key) (hkl : key.length ≤ 1048576) (hr : RdN w (some ⟨M, 0, none⟩) (pals rs)) (hl : (pals rs).length ≤ 1048576) (hs : LenM (pals rs)) :
    Calls Try.prog 63 #[.agg #[.int .i64 n, .slice (some ⟨K, 0, none⟩) key.length kc, .int .i64 b, .slice (some ⟨M, 0, none⟩) rs.length cap]] w fun r w' => (∃ K kd M c rs', r = .returned (.agg #[.int .i64 n, .slice (some ⟨K, 0, none⟩) key.length kd, .int .i64 b, .slice (some ⟨M, 0, none⟩) rs'.length c]) ∧ GB w.heap.size w' K key M 0 rs' ∧ AB w.heap.size w' M c rs' ∧ pals rs' = pals rs) ∧ Below w.heap.size w w' := by
  have h := GrpC.l11Batch_any n b K 0 kc key (some ⟨M, 0, none⟩) cap (pals rs) w hk hkl hr hl hs
  rw [Rws.pals_len] at h
  exact h
theorem gf_same {key : List Lab} {rs rs' : List ARow} (h : GF key rs) (hp : pals rs' = pals rs) : GF key rs' := ⟨h.1, by rw [hp]; exact h.2.1, by rw [← Rws.pals_len, hp, Rws.pals_len]; exact h.2.2⟩
theorem GM2.aside {lo : Nat} {w : World} {N K M cap : Nat} {key : List Lab} {rs : List ARow} {ds : Array Value} (h : GM2 lo w K M cap key rs) (hN : Blk w N ds 29) (hne : N ≠ M) (i : Nat) (v : Value) : GM2 lo (w.setCell ⟨N, i, none⟩ v) K M cap key rs := by
  obtain ⟨⟨h0, cs, h1, h2⟩, h3⟩ := h
  have tn : (29 : TypeId) ≠ 94 := by decide
  refine ⟨⟨h0, cs, h1.set_other (p := ⟨N, i, none⟩) (blk_tne hN h1 tn) v, h2⟩, ?_⟩
  obtain ⟨cur, h4, h5⟩ := h3.outer
  refine ⟨h3.at', h3.cap, ⟨cur, h4.set_other (p := ⟨N, i, none⟩) hne v, h5⟩, fun x hx => ?_, h3.ne⟩
  obtain ⟨h6, h7, ds2, h8, h9⟩ := h3.rows x hx
  exact ⟨h6, h7, ds2, h8.set_other (p := ⟨N, i, none⟩) (blk_tne hN h8 tn) v, h9⟩
set_option maxRecDepth 100000 in
set_option maxHeartbeats 3200000 in
theorem drawJoinIn_any (b0 : Option Addr) (len cap0 : Nat) (w : World) (hl : len ≤ maxLen) (hb : Bytes w b0 len w.heap.size) :
    Calls Try.prog 10 #[.slice b0 len cap0] w fun r w' => RGA r w' ∧ Below w.heap.size w w' := by
  have HB : Hid (Bytes w b0 len w.heap.size) := hb
  have HL : Hid (len ≤ maxLen) := hl
  clear hb hl
  go_enter Try.func10, Try.ntmps10
  go_wp2_with fail
  refine (new_any b0 len cap0 _ HL.out (LawB.bytes_up HB.out (Go.Joins.below_alloc2 w _ _))).mono ?_
  rintro r w1 ⟨rfl, hc1, hb1⟩
  have HC1 : Hid (Cur w1 (w.heap.size + 2)) := by simp at hc1; exact hc1
  have R_1 : Hid (Blk w1 w.heap.size #[.int .i64 0, .slice none 0 0, .int .i64 0, .int .i64 0, .slice none 0 0] 27) := ((Blk.new _ _ _).alloc _).grow hb1
  have V_1 : Hid (Blk w1 (w.heap.size + 1) #[.slice none 0 0, .int .i64 0, .int .i64 0, .string ⟨#[]⟩] 29) := (Blk.new_at (by simp)).grow hb1
  have HB1 : Hid (Below w.heap.size w w1) := grow_on (Go.Joins.below_alloc2 w _ _) hb1
  clear hc1 hb1 HB HL
  go_wp2_with fail
  refine (DrawK.l5By_any (w.heap.size + 2) _ HC1.out).mono ?_
  rintro r w2 ⟨v, rfl, by', hs, h2⟩
  obtain ⟨gb, gc, rfl, hby, hg1, hg2⟩ := byk_of hs
  have UN : Hid ((w.heap.size + 2) < gb ∧ gb < w2.heap.size) := ⟨by have := HC1.out.lt; omega, hg2⟩
  have H2 : Hid (by'.length ≤ 2) := h2
  have hk := hs.kept
  have hc := hs.cur
  clear hs h2 hg1 hg2
  have HC2 : Hid (Cur w2 (w.heap.size + 2)) := hc
  have HB2 : Hid (Below w.heap.size w w2) := HB1.out.trans (hk.below (by omega) HB1.out.size)
  have R_2 : Hid (Blk w2 w.heap.size #[.int .i64 0, .slice none 0 0, .int .i64 0, .int .i64 0, .slice none 0 0] 27) := blk_kept R_1.out hk (by omega)
  have V_2 : Hid (Blk w2 (w.heap.size + 1) #[.slice none 0 0, .int .i64 0, .int .i64 0, .string ⟨#[]⟩] 29) := blk_kept V_1.out hk (by omega)
  have HZ2 : Hid (w1.heap.size ≤ w2.heap.size) := hk.size
  clear hk hc
  have N_2 : Hid (ByK w2 gb by') := hby
  clear hby
  go_wp2_with fail
  refine (l11Any_any (w.heap.size + 2) gb gc by' _ HC2.out N_2.out ⟨by have := UN.out; omega, Nat.lt_of_lt_of_le UN.out.2 (by have := HZ2.out; omega)⟩ (by have := H2.out; unfold maxLen; omega)).mono ?_
  rintro r w3 ⟨n, b, t, K, kc, M, cap, key, rs, rfl, hd, hn, hkf, h9⟩
  have hg : GM2 (w.heap.size + 3) w3 K M cap key rs := ⟨hd.key.down (by have := HC2.out.lt; omega), hd.row.down (by have := HC2.out.lt; omega)⟩
  have Fg : Hid (GF key rs) := ⟨hkf, hd.fine, by omega⟩
  have NU : Hid (NumA n b t) := hn
  have hk := hd.kept
  have hc := hd.cur
  clear hd hn hkf h9
  have HC3 : Hid (Cur w3 (w.heap.size + 2)) := hc
  have HB3 : Hid (Below w.heap.size w w3) := HB2.out.trans (hk.below (by omega) HB2.out.size)
  have R_3 : Hid (Blk w3 w.heap.size #[.int .i64 0, .slice none 0 0, .int .i64 0, .int .i64 0, .slice none 0 0] 27) := blk_kept R_2.out hk (by omega)
  have V_3 : Hid (Blk w3 (w.heap.size + 1) #[.slice none 0 0, .int .i64 0, .int .i64 0, .string ⟨#[]⟩] 29) := blk_kept V_2.out hk (by omega)
  have N_3 : Hid (ByK w3 gb by') := N_2.out.keep hk (by have := UN.out; omega)
  have HZ3 : Hid (w2.heap.size ≤ w3.heap.size) := hk.size
  clear hk hc
  have G_3 : Hid (GM2 (w.heap.size + 3) w3 K M cap key rs) := hg
  clear hg
  go_upto_region 3 with fail
  obtain ⟨w4, hw⟩ : ∃ v, v = (w3.alloc (.cells #[.int .i64 n, .slice (some ⟨K, 0, none⟩) key.length kc, .int .i64 b, .int .i64 t, .slice (some ⟨M, 0, none⟩) rs.length cap] 27)) := ⟨_, rfl⟩
  rw [← hw]
  have hk : Kept (w.heap.size + 2) w3 w4 := by rw [hw]; exact kept_bel (Go.Joins.below_alloc1 w3 _)
  have hc : Cur w4 (w.heap.size + 2) := by rw [hw]; exact cur_bel HC3.out (Go.Joins.below_alloc1 w3 _)
  have HC4 : Hid (Cur w4 (w.heap.size + 2)) := hc
  have HB4 : Hid (Below w.heap.size w w4) := HB3.out.trans (hk.below (by omega) HB3.out.size)
  have R_4 : Hid (Blk w4 w.heap.size #[.int .i64 0, .slice none 0 0, .int .i64 0, .int .i64 0, .slice none 0 0] 27) := blk_kept R_3.out hk (by omega)
  have V_4 : Hid (Blk w4 (w.heap.size + 1) #[.slice none 0 0, .int .i64 0, .int .i64 0, .string ⟨#[]⟩] 29) := blk_kept V_3.out hk (by omega)
  have N_4 : Hid (ByK w4 gb by') := N_3.out.keep hk (by have := UN.out; omega)
  have G_4 : Hid (GM2 (w.heap.size + 3) w4 K M cap key rs) := G_3.out.keep hk (by omega)
  have HZ4 : Hid (w3.heap.size ≤ w4.heap.size) := hk.size
  clear hk hc
  have X_4 : Hid (Blk w4 w3.heap.size #[.int .i64 n, .slice (some ⟨K, 0, none⟩) key.length kc, .int .i64 b, .int .i64 t, .slice (some ⟨M, 0, none⟩) rs.length cap] 27) := by rw [hw]; exact Blk.new _ _ _
  have UX : Hid ((w.heap.size + 2) < w3.heap.size) := by have := HC3.out.lt; unfold Hid; omega
  clear hw
  generalize w3.heap.size = XX at X_4 UX  ⊢
  go_wp2_with fail
  refine (l4Draw_any (w.heap.size + 2) _ HC4.out).mono ?_
  rintro r w5 ⟨g, cp, p, s, e, tn, rfl, hst, hp, hs, he, hn⟩
  have FA : Hid (Fine ⟨p, s, e, tn⟩) := fine_of hp hst.fit hs he hn
  have hk := hst.kept
  have hc := hst.cur
  clear hst hp hs he hn
  have HC5 : Hid (Cur w5 (w.heap.size + 2)) := hc
  have HB5 : Hid (Below w.heap.size w w5) := HB4.out.trans (hk.below (by omega) HB4.out.size)
  have R_5 : Hid (Blk w5 w.heap.size #[.int .i64 0, .slice none 0 0, .int .i64 0, .int .i64 0, .slice none 0 0] 27) := blk_kept R_4.out hk (by omega)
  have V_5 : Hid (Blk w5 (w.heap.size + 1) #[.slice none 0 0, .int .i64 0, .int .i64 0, .string ⟨#[]⟩] 29) := blk_kept V_4.out hk (by omega)
  have N_5 : Hid (ByK w5 gb by') := N_4.out.keep hk (by have := UN.out; omega)
  have G_5 : Hid (GM2 (w.heap.size + 3) w5 K M cap key rs) := G_4.out.keep hk (by omega)
  have X_5 : Hid (Blk w5 XX #[.int .i64 n, .slice (some ⟨K, 0, none⟩) key.length kc, .int .i64 b, .int .i64 t, .slice (some ⟨M, 0, none⟩) rs.length cap] 27) := blk_kept X_4.out hk (by have := UX.out; omega)
  have HZ5 : Hid (w4.heap.size ≤ w5.heap.size) := hk.size
  clear hk hc
  go_upto_region 4 with fail
  obtain ⟨w6, hw⟩ : ∃ v, v = (w5.alloc (.cells #[.slice (some ⟨g, 0, none⟩) p.length cp, .int .i64 s, .int .i64 e, .string tn] 29)) := ⟨_, rfl⟩
  rw [← hw]
  have hk : Kept (w.heap.size + 2) w5 w6 := by rw [hw]; exact kept_bel (Go.Joins.below_alloc1 w5 _)
  have hc : Cur w6 (w.heap.size + 2) := by rw [hw]; exact cur_bel HC5.out (Go.Joins.below_alloc1 w5 _)
  have HC6 : Hid (Cur w6 (w.heap.size + 2)) := hc
  have HB6 : Hid (Below w.heap.size w w6) := HB5.out.trans (hk.below (by omega) HB5.out.size)
  have R_6 : Hid (Blk w6 w.heap.size #[.int .i64 0, .slice none 0 0, .int .i64 0, .int .i64 0, .slice none 0 0] 27) := blk_kept R_5.out hk (by omega)
  have V_6 : Hid (Blk w6 (w.heap.size + 1) #[.slice none 0 0, .int .i64 0, .int .i64 0, .string ⟨#[]⟩] 29) := blk_kept V_5.out hk (by omega)
  have N_6 : Hid (ByK w6 gb by') := N_5.out.keep hk (by have := UN.out; omega)
  have G_6 : Hid (GM2 (w.heap.size + 3) w6 K M cap key rs) := G_5.out.keep hk (by omega)
  have X_6 : Hid (Blk w6 XX #[.int .i64 n, .slice (some ⟨K, 0, none⟩) key.length kc, .int .i64 b, .int .i64 t, .slice (some ⟨M, 0, none⟩) rs.length cap] 27) := blk_kept X_5.out hk (by have := UX.out; omega)
  have HZ6 : Hid (w5.heap.size ≤ w6.heap.size) := hk.size
  clear hk hc
  have Y_6 : Hid (Blk w6 w5.heap.size #[.slice (some ⟨g, 0, none⟩) p.length cp, .int .i64 s, .int .i64 e, .string tn] 29) := by rw [hw]; exact Blk.new _ _ _
  have UY : Hid ((w.heap.size + 2) < w5.heap.size) := by have := HC5.out.lt; unfold Hid; omega
  have UM : Hid (M < w5.heap.size) := G_5.out.2.lt
  have UXY : Hid (XX < w5.heap.size) := X_5.out.lt
  clear hw
  generalize w5.heap.size = XY at Y_6 UY UM UXY ⊢
  have x0 : w6.cell? ⟨XX, 0, none⟩ = some (.int .i64 n) := X_6.out.cell 0
  have x1 : w6.cell? ⟨XX, 1, none⟩ = some (.slice (some ⟨K, 0, none⟩) key.length kc) := X_6.out.cell 1
  have x2 : w6.cell? ⟨XX, 2, none⟩ = some (.int .i64 b) := X_6.out.cell 2
  have x3 : w6.cell? ⟨XX, 3, none⟩ = some (.int .i64 t) := X_6.out.cell 3
  have x4 : w6.cell? ⟨XX, 4, none⟩ = some (.slice (some ⟨M, 0, none⟩) rs.length cap) := X_6.out.cell 4
  go_wp2_with fail
  refine (LbD.l7Labels_any (w.heap.size + 2) M cap (w.heap.size + 3) rs _ HC6.out G_6.out.2 (by omega) Fg.out.2.1 (by have := Fg.out.2.2; omega)).mono ?_
  rintro r w7 ⟨q, cq, ql, rfl, hq⟩
  have ho : OwnA (w.heap.size + 3) w7 (q, cq, ⟨ql, 0, 0, ByteArray.empty⟩) := hq.own.down (by have := HC6.out.lt; omega)
  have FQ : Hid (LabT.Fits ql ∧ ql.length ≤ 8) := ⟨hq.fits, hq.few⟩
  have hk := hq.kept
  have hc := hq.cur
  clear hq x0 x1 x2 x3 x4
  have HC7 : Hid (Cur w7 (w.heap.size + 2)) := hc
  have HB7 : Hid (Below w.heap.size w w7) := HB6.out.trans (hk.below (by omega) HB6.out.size)
  have R_7 : Hid (Blk w7 w.heap.size #[.int .i64 0, .slice none 0 0, .int .i64 0, .int .i64 0, .slice none 0 0] 27) := blk_kept R_6.out hk (by omega)
  have V_7 : Hid (Blk w7 (w.heap.size + 1) #[.slice none 0 0, .int .i64 0, .int .i64 0, .string ⟨#[]⟩] 29) := blk_kept V_6.out hk (by omega)
  have N_7 : Hid (ByK w7 gb by') := N_6.out.keep hk (by have := UN.out; omega)
  have G_7 : Hid (GM2 (w.heap.size + 3) w7 K M cap key rs) := G_6.out.keep hk (by omega)
  have X_7 : Hid (Blk w7 XX #[.int .i64 n, .slice (some ⟨K, 0, none⟩) key.length kc, .int .i64 b, .int .i64 t, .slice (some ⟨M, 0, none⟩) rs.length cap] 27) := blk_kept X_6.out hk (by have := UX.out; omega)
  have Y_7 : Hid (Blk w7 XY #[.slice (some ⟨g, 0, none⟩) p.length cp, .int .i64 s, .int .i64 e, .string tn] 29) := blk_kept Y_6.out hk (by have := UY.out; omega)
  have HZ7 : Hid (w6.heap.size ≤ w7.heap.size) := hk.size
  clear hk hc
  have A_7 : Hid (OwnA (w.heap.size + 3) w7 (q, cq, ⟨ql, 0, 0, ByteArray.empty⟩)) := ho
  clear ho
  have y0 : w7.cell? ⟨XY, 0, none⟩ = some (.slice (some ⟨g, 0, none⟩) p.length cp) := Y_7.out.cell 0
  have fy0 := Y_7.out.frozen 0
  go_upto_region 5 with fail
  clear y0 fy0
  obtain ⟨w8, hw⟩ : ∃ v, v = w7.setCell ⟨XY, 0, none⟩ (.slice (some ⟨q, 0, none⟩) ql.length cq) := ⟨_, rfl⟩
  rw [← hw]
  have HC8 : Hid (Cur w8 (w.heap.size + 2)) := by rw [hw]; exact cur_set HC7.out UY.out _ _
  have HB8 : Hid (Below w.heap.size w w8) := by rw [hw]; exact set_low HB7.out (by have := UY.out; omega) _ _
  have R_8 : Hid (Blk w8 w.heap.size #[.int .i64 0, .slice none 0 0, .int .i64 0, .int .i64 0, .slice none 0 0] 27) := by rw [hw]; exact R_7.out.set_other (p := ⟨XY, 0, none⟩) (by show XY ≠ _; have := UY.out; have := UXY.out; omega) _
  have V_8 : Hid (Blk w8 (w.heap.size + 1) #[.slice none 0 0, .int .i64 0, .int .i64 0, .string ⟨#[]⟩] 29) := by rw [hw]; exact V_7.out.set_other (p := ⟨XY, 0, none⟩) (by show XY ≠ _; have := UY.out; have := UXY.out; omega) _
  have X_8 : Hid (Blk w8 XX #[.int .i64 n, .slice (some ⟨K, 0, none⟩) key.length kc, .int .i64 b, .int .i64 t, .slice (some ⟨M, 0, none⟩) rs.length cap] 27) := by rw [hw]; exact X_7.out.set_other (p := ⟨XY, 0, none⟩) (by show XY ≠ _; have := UY.out; have := UXY.out; omega) _
  have G_8 : Hid (GM2 (w.heap.size + 3) w8 K M cap key rs) := by rw [hw]; exact G_7.out.aside Y_7.out (by have := UM.out; omega) _ _
  have A_8 : Hid (OwnA (w.heap.size + 3) w8 (q, cq, ⟨ql, 0, 0, ByteArray.empty⟩)) := by
    rw [hw]
    obtain ⟨h1, h2, ds, h3, h4⟩ := A_7.out
    exact ⟨h1, h2, ds, h3.set_other (p := ⟨XY, 0, none⟩) (blk_tne Y_7.out h3 (by decide)) _, h4⟩
  have Y_8 : Hid (Blk w8 XY #[.slice (some ⟨q, 0, none⟩) ql.length cq, .int .i64 s, .int .i64 e, .string tn] 29) := by rw [hw]; exact Y_7.out.set 0 _
  clear hw
  have HS : Hid (∀ w', Blk w' XX #[.int .i64 n, .slice (some ⟨K, 0, none⟩) key.length kc, .int .i64 b, .int .i64 t, .slice (some ⟨M, 0, none⟩) rs.length cap] 27 → Blk w' XY #[.slice (some ⟨q, 0, none⟩) ql.length cq, .int .i64 s, .int .i64 e, .string tn] 29 → w'.cell? ⟨XX, 0, none⟩ = some (.int .i64 n) ∧ w'.cell? ⟨XX, 1, none⟩ = some (.slice (some ⟨K, 0, none⟩) key.length kc) ∧ w'.cell? ⟨XX, 2, none⟩ = some (.int .i64 b) ∧ w'.cell? ⟨XX, 3, none⟩ = some (.int .i64 t) ∧ w'.cell? ⟨XX, 4, none⟩ = some (.slice (some ⟨M, 0, none⟩) rs.length cap) ∧ w'.cell? ⟨XY, 0, none⟩ = some (.slice (some ⟨q, 0, none⟩) ql.length cq) ∧ w'.cell? ⟨XY, 1, none⟩ = some (.int .i64 s) ∧ w'.cell? ⟨XY, 2, none⟩ = some (.int .i64 e) ∧ w'.cell? ⟨XY, 3, none⟩ = some (.string tn)) := fun w' hX hY => ⟨hX.cell 0, hX.cell 1, hX.cell 2, hX.cell 3, hX.cell 4, hY.cell 0, hY.cell 1, hY.cell 2, hY.cell 3⟩
  refine wp_region_held_drew (S := fun w' => w'.cell? ⟨XX, 0, none⟩ = some (.int .i64 n) ∧ w'.cell? ⟨XX, 1, none⟩ = some (.slice (some ⟨K, 0, none⟩) key.length kc) ∧ w'.cell? ⟨XX, 2, none⟩ = some (.int .i64 b) ∧ w'.cell? ⟨XX, 3, none⟩ = some (.int .i64 t) ∧ w'.cell? ⟨XX, 4, none⟩ = some (.slice (some ⟨M, 0, none⟩) rs.length cap) ∧ w'.cell? ⟨XY, 0, none⟩ = some (.slice (some ⟨q, 0, none⟩) ql.length cq) ∧ w'.cell? ⟨XY, 1, none⟩ = some (.int .i64 s) ∧ w'.cell? ⟨XY, 2, none⟩ = some (.int .i64 e) ∧ w'.cell? ⟨XY, 3, none⟩ = some (.string tn)) (by kernel_rfl) (HS.out _ X_8.out.drew Y_8.out.drew) (fun hHeld => ?_)
  refine wpAnyH_take (i := 0) (oi := { dst := some 20, op := Op.load 27 (Operand.tmp 5), type := 27, pos := "l11_group.go:138", after := #[], guard := none }) (v := ?vj50) rfl (by kernel_rfl) (by kernel_rfl) (by kernel_rfl) (fun _ _ _ h => h) (Or.inl ⟨by rfl, ?hyj50⟩) hHeld ?_
  case hyj50 => (intro w hSw; (try dsimp only at hSw); go_simp <;> with_reducible rfl)
  try simp only [Act.put, List.setIfInBounds_toArray, List.set_cons_zero, List.set_cons_succ]
  refine wpAnyH_take (i := 1) (oi := { dst := some 21, op := Op.load 29 (Operand.tmp 6), type := 29, pos := "l11_group.go:138", after := #[{ on := 2, ground := Ground.gcOnly Departure.lateStores }], guard := none }) (v := ?vj51) rfl (by kernel_rfl) (by kernel_rfl) (by kernel_rfl) (fun _ _ _ h => h) (Or.inl ⟨by rfl, ?hyj51⟩) hHeld ?_
  case hyj51 => (intro w hSw; (try dsimp only at hSw); go_simp <;> with_reducible rfl)
  try simp only [Act.put, List.setIfInBounds_toArray, List.set_cons_zero, List.set_cons_succ]
  have hk : Kept (w.heap.size + 2) w8 w8.drew := kept_bel (Below.refl _ _).drew
  have hc : Cur w8.drew (w.heap.size + 2) := Cur.drewN HC8.out 1
  have HC9 : Hid (Cur w8.drew (w.heap.size + 2)) := hc
  have HB9 : Hid (Below w.heap.size w w8.drew) := HB8.out.trans (hk.below (by omega) HB8.out.size)
  have R_9 : Hid (Blk w8.drew w.heap.size #[.int .i64 0, .slice none 0 0, .int .i64 0, .int .i64 0, .slice none 0 0] 27) := blk_kept R_8.out hk (by omega)
  have V_9 : Hid (Blk w8.drew (w.heap.size + 1) #[.slice none 0 0, .int .i64 0, .int .i64 0, .string ⟨#[]⟩] 29) := blk_kept V_8.out hk (by omega)
  have G_9 : Hid (GM2 (w.heap.size + 3) w8.drew K M cap key rs) := G_8.out.keep hk (by omega)
  have X_9 : Hid (Blk w8.drew XX #[.int .i64 n, .slice (some ⟨K, 0, none⟩) key.length kc, .int .i64 b, .int .i64 t, .slice (some ⟨M, 0, none⟩) rs.length cap] 27) := blk_kept X_8.out hk (by have := UX.out; omega)
  have Y_9 : Hid (Blk w8.drew XY #[.slice (some ⟨q, 0, none⟩) ql.length cq, .int .i64 s, .int .i64 e, .string tn] 29) := blk_kept Y_8.out hk (by have := UY.out; omega)
  have A_9 : Hid (OwnA (w.heap.size + 3) w8.drew (q, cq, ⟨ql, 0, 0, ByteArray.empty⟩)) := own_kept A_8.out hk (by omega)
  have HZ9 : Hid (w8.heap.size ≤ w8.drew.heap.size) := hk.size
  clear hk hc
  generalize w8.drew = w9 at HC9 HB9 HZ9 R_9 V_9 G_9 X_9 Y_9 A_9 hHeld ⊢
  have hneXR : w.heap.size ≠ XX := by have := UX.out; omega
  have hneXV : w.heap.size + 1 ≠ XX := by have := UX.out; omega
  have hneYR : w.heap.size ≠ XY := by have := UY.out; omega
  have hneYV : w.heap.size + 1 ≠ XY := by have := UY.out; omega
  have r0 : w9.cell? ⟨w.heap.size, 0, none⟩ = some (.int .i64 0) := R_9.out.cell 0
  have fr0 := R_9.out.frozen 0
  have r1 : w9.cell? ⟨w.heap.size, 1, none⟩ = some (.slice none 0 0) := R_9.out.cell 1
  have fr1 := R_9.out.frozen 1
  have r2 : w9.cell? ⟨w.heap.size, 2, none⟩ = some (.int .i64 0) := R_9.out.cell 2
  have fr2 := R_9.out.frozen 2
  have r3 : w9.cell? ⟨w.heap.size, 3, none⟩ = some (.int .i64 0) := R_9.out.cell 3
  have fr3 := R_9.out.frozen 3
  have r4 : w9.cell? ⟨w.heap.size, 4, none⟩ = some (.slice none 0 0) := R_9.out.cell 4
  have fr4 := R_9.out.frozen 4
  have v0 : w9.cell? ⟨(w.heap.size + 1), 0, none⟩ = some (.slice none 0 0) := V_9.out.cell 0
  have fv0 := V_9.out.frozen 0
  have v1 : w9.cell? ⟨(w.heap.size + 1), 1, none⟩ = some (.int .i64 0) := V_9.out.cell 1
  have fv1 := V_9.out.frozen 1
  have v2 : w9.cell? ⟨(w.heap.size + 1), 2, none⟩ = some (.int .i64 0) := V_9.out.cell 2
  have fv2 := V_9.out.frozen 2
  have v3 : w9.cell? ⟨(w.heap.size + 1), 3, none⟩ = some (.string ⟨#[]⟩) := V_9.out.cell 3
  have fv3 := V_9.out.frozen 3
  refine wpAnyH_ready (rs := [2]) (by kernel_rfl) (by simp) ?_
  refine AllReadyH.cons (o := { dst := none, op := Op.store 27 (Operand.tmp 2) (Operand.tmp 20), type := 0, pos := "l11_group.go:138", after := #[{ on := 0, ground := Ground.data }, { on := 0, ground := Ground.phase }, { on := 1, ground := Ground.textOnly Departure.lateStores }], guard := none }) rfl (fun Kx hK => ?_) AllReadyH.nil
  go_simp
  clear hHeld
  refine hK.out _ _ (HS.out _ (((((X_9.out.set_other hneXR _).set_other hneXR _).set_other hneXR _).set_other hneXR _).set_other hneXR _) (((((Y_9.out.set_other hneYR _).set_other hneYR _).set_other hneYR _).set_other hneYR _).set_other hneYR _)) (fun hHeld => ?_)
  clear hK Kx
  try simp only [Act.put, List.setIfInBounds_toArray, List.set_cons_zero, List.set_cons_succ]
  refine wpAnyH_ready (rs := [3]) (by kernel_rfl) (by simp) ?_
  refine AllReadyH.cons (o := { dst := none, op := Op.store 29 (Operand.tmp 3) (Operand.tmp 21), type := 0, pos := "l11_group.go:138", after := #[{ on := 1, ground := Ground.data }, { on := 2, ground := Ground.chain }, { on := 0, ground := Ground.phase }, { on := 1, ground := Ground.phase }, { on := 2, ground := Ground.phase }], guard := none }) rfl (fun Kx hK => ?_) AllReadyH.nil
  go_simp
  clear hHeld
  refine hK.out _ _ (HS.out _ (((((((((X_9.out.set_other hneXR _).set_other hneXR _).set_other hneXR _).set_other hneXR _).set_other hneXR _).set_other hneXV _).set_other hneXV _).set_other hneXV _).set_other hneXV _) (((((((((Y_9.out.set_other hneYR _).set_other hneYR _).set_other hneYR _).set_other hneYR _).set_other hneYR _).set_other hneYV _).set_other hneYV _).set_other hneYV _).set_other hneYV _)) (fun hHeld => ?_)
  clear hK Kx
  try simp only [Act.put, List.setIfInBounds_toArray, List.set_cons_zero, List.set_cons_succ]
  refine wpAnyH_done (by kernel_rfl) ?_ _
  go_wp2
  have hR : Blk (((((((((w9.setCell ⟨w.heap.size, 0, none⟩ (.int .i64 n)).setCell ⟨w.heap.size, 1, none⟩ (.slice (some ⟨K, 0, none⟩) key.length kc)).setCell ⟨w.heap.size, 2, none⟩ (.int .i64 b)).setCell ⟨w.heap.size, 3, none⟩ (.int .i64 t)).setCell ⟨w.heap.size, 4, none⟩ (.slice (some ⟨M, 0, none⟩) rs.length cap)).setCell ⟨(w.heap.size + 1), 0, none⟩ (.slice (some ⟨q, 0, none⟩) ql.length cq)).setCell ⟨(w.heap.size + 1), 1, none⟩ (.int .i64 s)).setCell ⟨(w.heap.size + 1), 2, none⟩ (.int .i64 e)).setCell ⟨(w.heap.size + 1), 3, none⟩ (.string tn)) w.heap.size #[.int .i64 n, .slice (some ⟨K, 0, none⟩) key.length kc, .int .i64 b, .int .i64 t, .slice (some ⟨M, 0, none⟩) rs.length cap] 27 := (((((((((R_9.out.set 0 _).set 1 _).set 2 _).set 3 _).set 4 _).set_other (p := ⟨(w.heap.size + 1), 0, none⟩) (show (w.heap.size + 1) ≠ w.heap.size by omega) _).set_other (p := ⟨(w.heap.size + 1), 1, none⟩) (show (w.heap.size + 1) ≠ w.heap.size by omega) _).set_other (p := ⟨(w.heap.size + 1), 2, none⟩) (show (w.heap.size + 1) ≠ w.heap.size by omega) _).set_other (p := ⟨(w.heap.size + 1), 3, none⟩) (show (w.heap.size + 1) ≠ w.heap.size by omega) _)
  have zR0 := hR.cell 0
  have zR1 := hR.cell 1
  have zR2 := hR.cell 2
  have zR3 := hR.cell 3
  have zR4 := hR.cell 4
  have hV : Blk (((((((((w9.setCell ⟨w.heap.size, 0, none⟩ (.int .i64 n)).setCell ⟨w.heap.size, 1, none⟩ (.slice (some ⟨K, 0, none⟩) key.length kc)).setCell ⟨w.heap.size, 2, none⟩ (.int .i64 b)).setCell ⟨w.heap.size, 3, none⟩ (.int .i64 t)).setCell ⟨w.heap.size, 4, none⟩ (.slice (some ⟨M, 0, none⟩) rs.length cap)).setCell ⟨(w.heap.size + 1), 0, none⟩ (.slice (some ⟨q, 0, none⟩) ql.length cq)).setCell ⟨(w.heap.size + 1), 1, none⟩ (.int .i64 s)).setCell ⟨(w.heap.size + 1), 2, none⟩ (.int .i64 e)).setCell ⟨(w.heap.size + 1), 3, none⟩ (.string tn)) (w.heap.size + 1) #[.slice (some ⟨q, 0, none⟩) ql.length cq, .int .i64 s, .int .i64 e, .string tn] 29 := (((((((((V_9.out.set_other (p := ⟨w.heap.size, 0, none⟩) (show w.heap.size ≠ (w.heap.size + 1) by omega) _).set_other (p := ⟨w.heap.size, 1, none⟩) (show w.heap.size ≠ (w.heap.size + 1) by omega) _).set_other (p := ⟨w.heap.size, 2, none⟩) (show w.heap.size ≠ (w.heap.size + 1) by omega) _).set_other (p := ⟨w.heap.size, 3, none⟩) (show w.heap.size ≠ (w.heap.size + 1) by omega) _).set_other (p := ⟨w.heap.size, 4, none⟩) (show w.heap.size ≠ (w.heap.size + 1) by omega) _).set 0 _).set 1 _).set 2 _).set 3 _)
  have zV0 := hV.cell 0
  have zV1 := hV.cell 1
  have zV2 := hV.cell 2
  have zV3 := hV.cell 3
  refine bodyPost_ret (v := .tuple #[.agg #[.int .i64 n, .slice (some ⟨K, 0, none⟩) key.length kc, .int .i64 b, .int .i64 t, .slice (some ⟨M, 0, none⟩) rs.length cap], .agg #[.slice (some ⟨q, 0, none⟩) ql.length cq, .int .i64 s, .int .i64 e, .string tn]]) (by simp [results, Try.results10, go_sem, zR0, zR1, zR2, zR3, zR4, zV0, zV1, zV2, zV3]) rfl ?_
  exact ⟨⟨n, b, t, K, kc, M, cap, key, pals rs, q, cq, ⟨ql, s, e, tn⟩, by rw [Rws.pals_len], (((((((((G_9.out.under (by omega) _ _).under (by omega) _ _).under (by omega) _ _).under (by omega) _ _).under (by omega) _ _).under (by omega) _ _).under (by omega) _ _).under (by omega) _ _).under (by omega) _ _).rg Fg.out, (own_under (own_under (own_under (own_under (own_under (own_under (own_under (own_under (own_under A_9.out (by omega) _ _) (by omega) _ _) (by omega) _ _) (by omega) _ _) (by omega) _ _) (by omega) _ _) (by omega) _ _) (by omega) _ _) (by omega) _ _).reads, ⟨⟨by have := FQ.out.2; show ql.length ≤ _; unfold maxLen; omega, FQ.out.1, FA.out.1.sb, FA.out.1.eb, FA.out.1.note⟩, FQ.out.2⟩⟩, (set_low (set_low (set_low (set_low (set_low (set_low (set_low (set_low (set_low HB9.out (by omega) _ _) (by omega) _ _) (by omega) _ _) (by omega) _ _) (by omega) _ _) (by omega) _ _) (by omega) _ _) (by omega) _ _) (by omega) _ _)⟩
set_option maxRecDepth 100000 in
set_option maxHeartbeats 3200000 in
theorem drawSameGroup_any (b0 : Option Addr) (len cap0 : Nat) (w : World) (hl : len ≤ maxLen) (hb : Bytes w b0 len w.heap.size) :
    Calls Try.prog 16 #[.slice b0 len cap0] w fun r w' => RGG r w' ∧ Below w.heap.size w w' := by
  have HB : Hid (Bytes w b0 len w.heap.size) := hb
  have HL : Hid (len ≤ maxLen) := hl
  clear hb hl
  go_enter Try.func16, Try.ntmps16
  go_wp2_with fail
  refine (new_any b0 len cap0 _ HL.out (LawB.bytes_up HB.out (Go.Joins.below_alloc2 w _ _))).mono ?_
  rintro r w1 ⟨rfl, hc1, hb1⟩
  have HC1 : Hid (Cur w1 (w.heap.size + 2)) := by simp at hc1; exact hc1
  have R_1 : Hid (Blk w1 w.heap.size #[.int .i64 0, .slice none 0 0, .int .i64 0, .int .i64 0, .slice none 0 0] 27) := ((Blk.new _ _ _).alloc _).grow hb1
  have V_1 : Hid (Blk w1 (w.heap.size + 1) #[.int .i64 0, .slice none 0 0, .int .i64 0, .int .i64 0, .slice none 0 0] 27) := (Blk.new_at (by simp)).grow hb1
  have HB1 : Hid (Below w.heap.size w w1) := grow_on (Go.Joins.below_alloc2 w _ _) hb1
  clear hc1 hb1 HB HL
  go_wp2_with fail
  refine (DrawK.l5By_any (w.heap.size + 2) _ HC1.out).mono ?_
  rintro r w2 ⟨v, rfl, by', hs, h2⟩
  obtain ⟨gb, gc, rfl, hby, hg1, hg2⟩ := byk_of hs
  have UN : Hid ((w.heap.size + 2) < gb ∧ gb < w2.heap.size) := ⟨by have := HC1.out.lt; omega, hg2⟩
  have H2 : Hid (by'.length ≤ 2) := h2
  have hk := hs.kept
  have hc := hs.cur
  clear hs h2 hg1 hg2
  have HC2 : Hid (Cur w2 (w.heap.size + 2)) := hc
  have HB2 : Hid (Below w.heap.size w w2) := HB1.out.trans (hk.below (by omega) HB1.out.size)
  have R_2 : Hid (Blk w2 w.heap.size #[.int .i64 0, .slice none 0 0, .int .i64 0, .int .i64 0, .slice none 0 0] 27) := blk_kept R_1.out hk (by omega)
  have V_2 : Hid (Blk w2 (w.heap.size + 1) #[.int .i64 0, .slice none 0 0, .int .i64 0, .int .i64 0, .slice none 0 0] 27) := blk_kept V_1.out hk (by omega)
  have HZ2 : Hid (w1.heap.size ≤ w2.heap.size) := hk.size
  clear hk hc
  have N_2 : Hid (ByK w2 gb by') := hby
  clear hby
  go_wp2_with fail
  refine (l11Any_any (w.heap.size + 2) gb gc by' _ HC2.out N_2.out ⟨by have := UN.out; omega, Nat.lt_of_lt_of_le UN.out.2 (by have := HZ2.out; omega)⟩ (by have := H2.out; unfold maxLen; omega)).mono ?_
  rintro r w3 ⟨n, b, t, K, kc, M, cap, key, rs, rfl, hd, hn, hkf, h9⟩
  have hg : GM2 (w.heap.size + 3) w3 K M cap key rs := ⟨hd.key.down (by have := HC2.out.lt; omega), hd.row.down (by have := HC2.out.lt; omega)⟩
  have Fg : Hid (GF key rs) := ⟨hkf, hd.fine, by omega⟩
  have NU : Hid (NumA n b t) := hn
  have hk := hd.kept
  have hc := hd.cur
  clear hd hn hkf h9
  have HC3 : Hid (Cur w3 (w.heap.size + 2)) := hc
  have HB3 : Hid (Below w.heap.size w w3) := HB2.out.trans (hk.below (by omega) HB2.out.size)
  have R_3 : Hid (Blk w3 w.heap.size #[.int .i64 0, .slice none 0 0, .int .i64 0, .int .i64 0, .slice none 0 0] 27) := blk_kept R_2.out hk (by omega)
  have V_3 : Hid (Blk w3 (w.heap.size + 1) #[.int .i64 0, .slice none 0 0, .int .i64 0, .int .i64 0, .slice none 0 0] 27) := blk_kept V_2.out hk (by omega)
  have N_3 : Hid (ByK w3 gb by') := N_2.out.keep hk (by have := UN.out; omega)
  have HZ3 : Hid (w2.heap.size ≤ w3.heap.size) := hk.size
  clear hk hc
  have G_3 : Hid (GM2 (w.heap.size + 3) w3 K M cap key rs) := hg
  clear hg
  go_upto_region 4 with fail
  obtain ⟨w4, hw⟩ : ∃ v, v = (w3.alloc (.cells #[.int .i64 n, .slice (some ⟨K, 0, none⟩) key.length kc, .int .i64 b, .int .i64 t, .slice (some ⟨M, 0, none⟩) rs.length cap] 27)) := ⟨_, rfl⟩
  rw [← hw]
  have hk : Kept (w.heap.size + 2) w3 w4 := by rw [hw]; exact kept_bel (Go.Joins.below_alloc1 w3 _)
  have hc : Cur w4 (w.heap.size + 2) := by rw [hw]; exact cur_bel HC3.out (Go.Joins.below_alloc1 w3 _)
  have HC4 : Hid (Cur w4 (w.heap.size + 2)) := hc
  have HB4 : Hid (Below w.heap.size w w4) := HB3.out.trans (hk.below (by omega) HB3.out.size)
  have R_4 : Hid (Blk w4 w.heap.size #[.int .i64 0, .slice none 0 0, .int .i64 0, .int .i64 0, .slice none 0 0] 27) := blk_kept R_3.out hk (by omega)
  have V_4 : Hid (Blk w4 (w.heap.size + 1) #[.int .i64 0, .slice none 0 0, .int .i64 0, .int .i64 0, .slice none 0 0] 27) := blk_kept V_3.out hk (by omega)
  have N_4 : Hid (ByK w4 gb by') := N_3.out.keep hk (by have := UN.out; omega)
  have G_4 : Hid (GM2 (w.heap.size + 3) w4 K M cap key rs) := G_3.out.keep hk (by omega)
  have HZ4 : Hid (w3.heap.size ≤ w4.heap.size) := hk.size
  clear hk hc
  have X_4 : Hid (Blk w4 w3.heap.size #[.int .i64 n, .slice (some ⟨K, 0, none⟩) key.length kc, .int .i64 b, .int .i64 t, .slice (some ⟨M, 0, none⟩) rs.length cap] 27) := by rw [hw]; exact Blk.new _ _ _
  have UX : Hid ((w.heap.size + 2) < w3.heap.size) := by have := HC3.out.lt; unfold Hid; omega
  clear hw
  generalize w3.heap.size = XX at X_4 UX  ⊢
  go_wp2_with fail
  refine (once_any (w.heap.size + 2) 2 _ HC4.out (by decide) (by decide)).mono ?_
  rintro r w5 ⟨⟨f, rfl⟩, hc, hk⟩
  have HC5 : Hid (Cur w5 (w.heap.size + 2)) := hc
  have HB5 : Hid (Below w.heap.size w w5) := HB4.out.trans (hk.below (by omega) HB4.out.size)
  have R_5 : Hid (Blk w5 w.heap.size #[.int .i64 0, .slice none 0 0, .int .i64 0, .int .i64 0, .slice none 0 0] 27) := blk_kept R_4.out hk (by omega)
  have V_5 : Hid (Blk w5 (w.heap.size + 1) #[.int .i64 0, .slice none 0 0, .int .i64 0, .int .i64 0, .slice none 0 0] 27) := blk_kept V_4.out hk (by omega)
  have N_5 : Hid (ByK w5 gb by') := N_4.out.keep hk (by have := UN.out; omega)
  have G_5 : Hid (GM2 (w.heap.size + 3) w5 K M cap key rs) := G_4.out.keep hk (by omega)
  have X_5 : Hid (Blk w5 XX #[.int .i64 n, .slice (some ⟨K, 0, none⟩) key.length kc, .int .i64 b, .int .i64 t, .slice (some ⟨M, 0, none⟩) rs.length cap] 27) := blk_kept X_4.out hk (by have := UX.out; omega)
  have HZ5 : Hid (w4.heap.size ≤ w5.heap.size) := hk.size
  clear hk hc
  have HS : Hid (∀ w', Blk w' XX #[.int .i64 n, .slice (some ⟨K, 0, none⟩) key.length kc, .int .i64 b, .int .i64 t, .slice (some ⟨M, 0, none⟩) rs.length cap] 27 → w'.cell? ⟨XX, 0, none⟩ = some (.int .i64 n) ∧ w'.cell? ⟨XX, 1, none⟩ = some (.slice (some ⟨K, 0, none⟩) key.length kc) ∧ w'.cell? ⟨XX, 2, none⟩ = some (.int .i64 b) ∧ w'.cell? ⟨XX, 3, none⟩ = some (.int .i64 t) ∧ w'.cell? ⟨XX, 4, none⟩ = some (.slice (some ⟨M, 0, none⟩) rs.length cap)) := fun w' hX => ⟨hX.cell 0, hX.cell 1, hX.cell 2, hX.cell 3, hX.cell 4⟩
  cases f with
  | true =>
    go_upto_region 5 with fail
    refine wp_region_held_drew (S := fun w' => w'.cell? ⟨XX, 0, none⟩ = some (.int .i64 n) ∧ w'.cell? ⟨XX, 1, none⟩ = some (.slice (some ⟨K, 0, none⟩) key.length kc) ∧ w'.cell? ⟨XX, 2, none⟩ = some (.int .i64 b) ∧ w'.cell? ⟨XX, 3, none⟩ = some (.int .i64 t) ∧ w'.cell? ⟨XX, 4, none⟩ = some (.slice (some ⟨M, 0, none⟩) rs.length cap)) (by kernel_rfl) (HS.out _ X_5.out.drew) (fun hHeld => ?_)
    refine wpAnyH_take (i := 0) (oi := { dst := some 16, op := Op.load 27 (Operand.tmp 6), type := 27, pos := "l11_group.go:117", after := #[], guard := none }) (v := ?vg50) rfl (by kernel_rfl) (by kernel_rfl) (by kernel_rfl) (fun _ _ _ h => h) (Or.inl ⟨by rfl, ?hyg50⟩) hHeld ?_
    case hyg50 => (intro w hSw; (try dsimp only at hSw); go_simp <;> with_reducible rfl)
    try simp only [Act.put, List.setIfInBounds_toArray, List.set_cons_zero, List.set_cons_succ]
    refine wpAnyH_take (i := 1) (oi := { dst := some 17, op := Op.load 27 (Operand.tmp 6), type := 27, pos := "l11_group.go:117", after := #[], guard := none }) (v := ?vg51) rfl (by kernel_rfl) (by kernel_rfl) (by kernel_rfl) (fun _ _ _ h => h) (Or.inl ⟨by rfl, ?hyg51⟩) hHeld ?_
    case hyg51 => (intro w hSw; (try dsimp only at hSw); go_simp <;> with_reducible rfl)
    try simp only [Act.put, List.setIfInBounds_toArray, List.set_cons_zero, List.set_cons_succ]
    have hk : Kept (w.heap.size + 2) w5 w5.drew := kept_bel (Below.refl _ _).drew
    have hc : Cur w5.drew (w.heap.size + 2) := Cur.drewN HC5.out 1
    have HC6 : Hid (Cur w5.drew (w.heap.size + 2)) := hc
    have HB6 : Hid (Below w.heap.size w w5.drew) := HB5.out.trans (hk.below (by omega) HB5.out.size)
    have R_6 : Hid (Blk w5.drew w.heap.size #[.int .i64 0, .slice none 0 0, .int .i64 0, .int .i64 0, .slice none 0 0] 27) := blk_kept R_5.out hk (by omega)
    have V_6 : Hid (Blk w5.drew (w.heap.size + 1) #[.int .i64 0, .slice none 0 0, .int .i64 0, .int .i64 0, .slice none 0 0] 27) := blk_kept V_5.out hk (by omega)
    have N_6 : Hid (ByK w5.drew gb by') := N_5.out.keep hk (by have := UN.out; omega)
    have G_6 : Hid (GM2 (w.heap.size + 3) w5.drew K M cap key rs) := G_5.out.keep hk (by omega)
    have X_6 : Hid (Blk w5.drew XX #[.int .i64 n, .slice (some ⟨K, 0, none⟩) key.length kc, .int .i64 b, .int .i64 t, .slice (some ⟨M, 0, none⟩) rs.length cap] 27) := blk_kept X_5.out hk (by have := UX.out; omega)
    have HZ6 : Hid (w5.heap.size ≤ w5.drew.heap.size) := hk.size
    clear hk hc
    generalize w5.drew = w6 at HC6 HB6 HZ6 R_6 V_6 N_6 G_6 X_6 hHeld ⊢
    refine wpAnyH_ready (rs := [2]) (by kernel_rfl) (by simp) ?_
    refine AllReadyH.cons (o := { dst := some 18, op := Op.call { callee := Callee.value (Operand.func 60), args := #[Operand.tmp 17], argTypes := #[27] }, type := 27, pos := "l11_group.go:117", after := #[{ on := 1, ground := Ground.data }], guard := none }) rfl (fun Kx hK => ?_) AllReadyH.nil
    go_simp
    have hf := G_6.out.few Fg.out
    refine (copyR n b t K kc key M cap rs _ hf.1 hf.2.1 hf.2.2.1 hf.2.2.2.1 hf.2.2.2.2).mono ?_
    clear hf
    rintro r w7 ⟨⟨K2, kc2, M2, cap2, rs2, rfl, hG, hA, hP⟩, hy⟩
    have hg : GM2 (w.heap.size + 3) w7 K2 M2 cap2 key rs2 := ⟨hG.key.down (by have := HC6.out.lt; omega), hA.down (by have := HC6.out.lt; omega)⟩
    have F2 : Hid (GF key rs2) := gf_same Fg.out hP
    have hk := kept_bel (c := (w.heap.size + 2)) hy
    have hc := cur_bel HC6.out hy
    clear hG hA hP hy
    have HC7 : Hid (Cur w7 (w.heap.size + 2)) := hc
    have HB7 : Hid (Below w.heap.size w w7) := HB6.out.trans (hk.below (by omega) HB6.out.size)
    have R_7 : Hid (Blk w7 w.heap.size #[.int .i64 0, .slice none 0 0, .int .i64 0, .int .i64 0, .slice none 0 0] 27) := blk_kept R_6.out hk (by omega)
    have V_7 : Hid (Blk w7 (w.heap.size + 1) #[.int .i64 0, .slice none 0 0, .int .i64 0, .int .i64 0, .slice none 0 0] 27) := blk_kept V_6.out hk (by omega)
    have N_7 : Hid (ByK w7 gb by') := N_6.out.keep hk (by have := UN.out; omega)
    have G_7 : Hid (GM2 (w.heap.size + 3) w7 K M cap key rs) := G_6.out.keep hk (by omega)
    have X_7 : Hid (Blk w7 XX #[.int .i64 n, .slice (some ⟨K, 0, none⟩) key.length kc, .int .i64 b, .int .i64 t, .slice (some ⟨M, 0, none⟩) rs.length cap] 27) := blk_kept X_6.out hk (by have := UX.out; omega)
    have HZ7 : Hid (w6.heap.size ≤ w7.heap.size) := hk.size
    clear hk hc
    have G2_7 : Hid (GM2 (w.heap.size + 3) w7 K2 M2 cap2 key rs2) := hg
    clear hg
    try dsimp only
    clear hHeld
    refine hK.out _ _ (HS.out _ X_7.out) (fun hHeld => ?_)
    clear hK Kx
    try simp only [Act.put, List.setIfInBounds_toArray, List.set_cons_zero, List.set_cons_succ]
    have hneXR : w.heap.size ≠ XX := by have := UX.out; omega
    have hneXV : w.heap.size + 1 ≠ XX := by have := UX.out; omega
    have r0 : w7.cell? ⟨w.heap.size, 0, none⟩ = some (.int .i64 0) := R_7.out.cell 0
    have fr0 := R_7.out.frozen 0
    have r1 : w7.cell? ⟨w.heap.size, 1, none⟩ = some (.slice none 0 0) := R_7.out.cell 1
    have fr1 := R_7.out.frozen 1
    have r2 : w7.cell? ⟨w.heap.size, 2, none⟩ = some (.int .i64 0) := R_7.out.cell 2
    have fr2 := R_7.out.frozen 2
    have r3 : w7.cell? ⟨w.heap.size, 3, none⟩ = some (.int .i64 0) := R_7.out.cell 3
    have fr3 := R_7.out.frozen 3
    have r4 : w7.cell? ⟨w.heap.size, 4, none⟩ = some (.slice none 0 0) := R_7.out.cell 4
    have fr4 := R_7.out.frozen 4
    have v0 : w7.cell? ⟨(w.heap.size + 1), 0, none⟩ = some (.int .i64 0) := V_7.out.cell 0
    have fv0 := V_7.out.frozen 0
    have v1 : w7.cell? ⟨(w.heap.size + 1), 1, none⟩ = some (.slice none 0 0) := V_7.out.cell 1
    have fv1 := V_7.out.frozen 1
    have v2 : w7.cell? ⟨(w.heap.size + 1), 2, none⟩ = some (.int .i64 0) := V_7.out.cell 2
    have fv2 := V_7.out.frozen 2
    have v3 : w7.cell? ⟨(w.heap.size + 1), 3, none⟩ = some (.int .i64 0) := V_7.out.cell 3
    have fv3 := V_7.out.frozen 3
    have v4 : w7.cell? ⟨(w.heap.size + 1), 4, none⟩ = some (.slice none 0 0) := V_7.out.cell 4
    have fv4 := V_7.out.frozen 4
    refine wpAnyH_ready (rs := [3]) (by kernel_rfl) (by simp) ?_
    refine AllReadyH.cons (o := { dst := none, op := Op.store 27 (Operand.tmp 2) (Operand.tmp 16), type := 0, pos := "l11_group.go:117", after := #[{ on := 0, ground := Ground.data }, { on := 2, ground := Ground.chain }, { on := 0, ground := Ground.phase }, { on := 1, ground := Ground.textOnly Departure.lateStores }, { on := 2, ground := Ground.textOnly Departure.lateStoresUnsure }], guard := none }) rfl (fun Kx hK => ?_) AllReadyH.nil
    go_simp
    clear hHeld
    refine hK.out _ _ (HS.out _ (((((X_7.out.set_other hneXR _).set_other hneXR _).set_other hneXR _).set_other hneXR _).set_other hneXR _)) (fun hHeld => ?_)
    clear hK Kx
    try simp only [Act.put, List.setIfInBounds_toArray, List.set_cons_zero, List.set_cons_succ]
    refine wpAnyH_ready (rs := [4]) (by kernel_rfl) (by simp) ?_
    refine AllReadyH.cons (o := { dst := none, op := Op.store 27 (Operand.tmp 3) (Operand.tmp 18), type := 0, pos := "l11_group.go:117", after := #[{ on := 2, ground := Ground.data }, { on := 3, ground := Ground.chain }, { on := 0, ground := Ground.phase }, { on := 1, ground := Ground.phase }, { on := 2, ground := Ground.phase }, { on := 3, ground := Ground.phase }], guard := none }) rfl (fun Kx hK => ?_) AllReadyH.nil
    go_simp
    clear hHeld
    refine hK.out _ _ (HS.out _ ((((((((((X_7.out.set_other hneXR _).set_other hneXR _).set_other hneXR _).set_other hneXR _).set_other hneXR _).set_other hneXV _).set_other hneXV _).set_other hneXV _).set_other hneXV _).set_other hneXV _)) (fun hHeld => ?_)
    clear hK Kx
    try simp only [Act.put, List.setIfInBounds_toArray, List.set_cons_zero, List.set_cons_succ]
    refine wpAnyH_done (by kernel_rfl) ?_ _
    go_wp2
    have hR : Blk ((((((((((w7.setCell ⟨w.heap.size, 0, none⟩ (.int .i64 n)).setCell ⟨w.heap.size, 1, none⟩ (.slice (some ⟨K, 0, none⟩) key.length kc)).setCell ⟨w.heap.size, 2, none⟩ (.int .i64 b)).setCell ⟨w.heap.size, 3, none⟩ (.int .i64 t)).setCell ⟨w.heap.size, 4, none⟩ (.slice (some ⟨M, 0, none⟩) rs.length cap)).setCell ⟨(w.heap.size + 1), 0, none⟩ (.int .i64 n)).setCell ⟨(w.heap.size + 1), 1, none⟩ (.slice (some ⟨K2, 0, none⟩) key.length kc2)).setCell ⟨(w.heap.size + 1), 2, none⟩ (.int .i64 b)).setCell ⟨(w.heap.size + 1), 3, none⟩ (.int .i64 t)).setCell ⟨(w.heap.size + 1), 4, none⟩ (.slice (some ⟨M2, 0, none⟩) rs2.length cap2)) w.heap.size #[.int .i64 n, .slice (some ⟨K, 0, none⟩) key.length kc, .int .i64 b, .int .i64 t, .slice (some ⟨M, 0, none⟩) rs.length cap] 27 := ((((((((((R_7.out.set 0 _).set 1 _).set 2 _).set 3 _).set 4 _).set_other (p := ⟨(w.heap.size + 1), 0, none⟩) (show (w.heap.size + 1) ≠ w.heap.size by omega) _).set_other (p := ⟨(w.heap.size + 1), 1, none⟩) (show (w.heap.size + 1) ≠ w.heap.size by omega) _).set_other (p := ⟨(w.heap.size + 1), 2, none⟩) (show (w.heap.size + 1) ≠ w.heap.size by omega) _).set_other (p := ⟨(w.heap.size + 1), 3, none⟩) (show (w.heap.size + 1) ≠ w.heap.size by omega) _).set_other (p := ⟨(w.heap.size + 1), 4, none⟩) (show (w.heap.size + 1) ≠ w.heap.size by omega) _)
    have zR0 := hR.cell 0
    have zR1 := hR.cell 1
    have zR2 := hR.cell 2
    have zR3 := hR.cell 3
    have zR4 := hR.cell 4
    have hV : Blk ((((((((((w7.setCell ⟨w.heap.size, 0, none⟩ (.int .i64 n)).setCell ⟨w.heap.size, 1, none⟩ (.slice (some ⟨K, 0, none⟩) key.length kc)).setCell ⟨w.heap.size, 2, none⟩ (.int .i64 b)).setCell ⟨w.heap.size, 3, none⟩ (.int .i64 t)).setCell ⟨w.heap.size, 4, none⟩ (.slice (some ⟨M, 0, none⟩) rs.length cap)).setCell ⟨(w.heap.size + 1), 0, none⟩ (.int .i64 n)).setCell ⟨(w.heap.size + 1), 1, none⟩ (.slice (some ⟨K2, 0, none⟩) key.length kc2)).setCell ⟨(w.heap.size + 1), 2, none⟩ (.int .i64 b)).setCell ⟨(w.heap.size + 1), 3, none⟩ (.int .i64 t)).setCell ⟨(w.heap.size + 1), 4, none⟩ (.slice (some ⟨M2, 0, none⟩) rs2.length cap2)) (w.heap.size + 1) #[.int .i64 n, .slice (some ⟨K2, 0, none⟩) key.length kc2, .int .i64 b, .int .i64 t, .slice (some ⟨M2, 0, none⟩) rs2.length cap2] 27 := ((((((((((V_7.out.set_other (p := ⟨w.heap.size, 0, none⟩) (show w.heap.size ≠ (w.heap.size + 1) by omega) _).set_other (p := ⟨w.heap.size, 1, none⟩) (show w.heap.size ≠ (w.heap.size + 1) by omega) _).set_other (p := ⟨w.heap.size, 2, none⟩) (show w.heap.size ≠ (w.heap.size + 1) by omega) _).set_other (p := ⟨w.heap.size, 3, none⟩) (show w.heap.size ≠ (w.heap.size + 1) by omega) _).set_other (p := ⟨w.heap.size, 4, none⟩) (show w.heap.size ≠ (w.heap.size + 1) by omega) _).set 0 _).set 1 _).set 2 _).set 3 _).set 4 _)
    have zV0 := hV.cell 0
    have zV1 := hV.cell 1
    have zV2 := hV.cell 2
    have zV3 := hV.cell 3
    have zV4 := hV.cell 4
    refine bodyPost_ret (v := .tuple #[.agg #[.int .i64 n, .slice (some ⟨K, 0, none⟩) key.length kc, .int .i64 b, .int .i64 t, .slice (some ⟨M, 0, none⟩) rs.length cap], .agg #[.int .i64 n, .slice (some ⟨K2, 0, none⟩) key.length kc2, .int .i64 b, .int .i64 t, .slice (some ⟨M2, 0, none⟩) rs2.length cap2]]) (by simp [results, Try.results16, go_sem, zR0, zR1, zR2, zR3, zR4, zV0, zV1, zV2, zV3, zV4]) rfl ?_
    exact ⟨⟨n, b, t, K, kc, M, cap, key, pals rs, n, b, t, K2, kc2, M2, cap2, key, pals rs2, by rw [Rws.pals_len, Rws.pals_len], ((((((((((G_7.out.under (by omega) _ _).under (by omega) _ _).under (by omega) _ _).under (by omega) _ _).under (by omega) _ _).under (by omega) _ _).under (by omega) _ _).under (by omega) _ _).under (by omega) _ _).under (by omega) _ _).rg Fg.out, ((((((((((G2_7.out.under (by omega) _ _).under (by omega) _ _).under (by omega) _ _).under (by omega) _ _).under (by omega) _ _).under (by omega) _ _).under (by omega) _ _).under (by omega) _ _).under (by omega) _ _).under (by omega) _ _).rg F2.out⟩, (set_low (set_low (set_low (set_low (set_low (set_low (set_low (set_low (set_low (set_low HB7.out (by omega) _ _) (by omega) _ _) (by omega) _ _) (by omega) _ _) (by omega) _ _) (by omega) _ _) (by omega) _ _) (by omega) _ _) (by omega) _ _) (by omega) _ _)⟩
  | false =>
    go_upto_region 6 with fail
    refine wp_region_held_drew (S := fun w' => w'.cell? ⟨XX, 0, none⟩ = some (.int .i64 n) ∧ w'.cell? ⟨XX, 1, none⟩ = some (.slice (some ⟨K, 0, none⟩) key.length kc) ∧ w'.cell? ⟨XX, 2, none⟩ = some (.int .i64 b) ∧ w'.cell? ⟨XX, 3, none⟩ = some (.int .i64 t) ∧ w'.cell? ⟨XX, 4, none⟩ = some (.slice (some ⟨M, 0, none⟩) rs.length cap)) (by kernel_rfl) (HS.out _ X_5.out.drew) (fun hHeld => ?_)
    refine wpAnyH_take (i := 0) (oi := { dst := some 19, op := Op.load 27 (Operand.tmp 6), type := 27, pos := "l11_group.go:119", after := #[], guard := none }) (v := ?vg60) rfl (by kernel_rfl) (by kernel_rfl) (by kernel_rfl) (fun _ _ _ h => h) (Or.inl ⟨by rfl, ?hyg60⟩) hHeld ?_
    case hyg60 => (intro w hSw; (try dsimp only at hSw); go_simp <;> with_reducible rfl)
    try simp only [Act.put, List.setIfInBounds_toArray, List.set_cons_zero, List.set_cons_succ]
    refine wpAnyH_take (i := 1) (oi := { dst := some 20, op := Op.move (Operand.tmp 4), type := 80, pos := "l11_group.go:119", after := #[], guard := none }) (v := ?vg61) rfl (by kernel_rfl) (by kernel_rfl) (by kernel_rfl) (fun _ _ _ h => h) (Or.inl ⟨by rfl, ?hyg61⟩) hHeld ?_
    case hyg61 => (intro w hSw; (try dsimp only at hSw); go_simp <;> with_reducible rfl)
    try simp only [Act.put, List.setIfInBounds_toArray, List.set_cons_zero, List.set_cons_succ]
    refine wpAnyH_take (i := 2) (oi := { dst := some 21, op := Op.move (Operand.tmp 5), type := 39, pos := "l11_group.go:119", after := #[], guard := none }) (v := ?vg62) rfl (by kernel_rfl) (by kernel_rfl) (by kernel_rfl) (fun _ _ _ h => h) (Or.inl ⟨by rfl, ?hyg62⟩) hHeld ?_
    case hyg62 => (intro w hSw; (try dsimp only at hSw); go_simp <;> with_reducible rfl)
    try simp only [Act.put, List.setIfInBounds_toArray, List.set_cons_zero, List.set_cons_succ]
    have hk : Kept (w.heap.size + 2) w5 w5.drew := kept_bel (Below.refl _ _).drew
    have hc : Cur w5.drew (w.heap.size + 2) := Cur.drewN HC5.out 1
    have HC6 : Hid (Cur w5.drew (w.heap.size + 2)) := hc
    have HB6 : Hid (Below w.heap.size w w5.drew) := HB5.out.trans (hk.below (by omega) HB5.out.size)
    have R_6 : Hid (Blk w5.drew w.heap.size #[.int .i64 0, .slice none 0 0, .int .i64 0, .int .i64 0, .slice none 0 0] 27) := blk_kept R_5.out hk (by omega)
    have V_6 : Hid (Blk w5.drew (w.heap.size + 1) #[.int .i64 0, .slice none 0 0, .int .i64 0, .int .i64 0, .slice none 0 0] 27) := blk_kept V_5.out hk (by omega)
    have N_6 : Hid (ByK w5.drew gb by') := N_5.out.keep hk (by have := UN.out; omega)
    have G_6 : Hid (GM2 (w.heap.size + 3) w5.drew K M cap key rs) := G_5.out.keep hk (by omega)
    have X_6 : Hid (Blk w5.drew XX #[.int .i64 n, .slice (some ⟨K, 0, none⟩) key.length kc, .int .i64 b, .int .i64 t, .slice (some ⟨M, 0, none⟩) rs.length cap] 27) := blk_kept X_5.out hk (by have := UX.out; omega)
    have HZ6 : Hid (w5.heap.size ≤ w5.drew.heap.size) := hk.size
    clear hk hc
    generalize w5.drew = w6 at HC6 HB6 HZ6 R_6 V_6 N_6 G_6 X_6 hHeld ⊢
    refine wpAnyH_ready (rs := [3]) (by kernel_rfl) (by simp) ?_
    refine AllReadyH.cons (o := { dst := some 22, op := Op.call { callee := Callee.value (Operand.func 49), args := #[Operand.tmp 20, Operand.tmp 21], argTypes := #[80, 39] }, type := 27, pos := "l11_group.go:119", after := #[{ on := 1, ground := Ground.data }, { on := 2, ground := Ground.data }], guard := none }) rfl (fun Kx hK => ?_) AllReadyH.nil
    go_simp
    refine (l11Any_any (w.heap.size + 2) gb gc by' _ HC6.out N_6.out ⟨by have := UN.out; omega, Nat.lt_of_lt_of_le UN.out.2 (by have := HZ2.out; have := HZ3.out; have := HZ4.out; have := HZ5.out; have := HZ6.out; omega)⟩ (by have := H2.out; unfold maxLen; omega)).mono ?_
    rintro r w7 ⟨n2, b2, t2, K2, kc2, M2, cap2, key2, rs2, rfl, hd, hn, hkf, h9⟩
    have hg : GM2 (w.heap.size + 3) w7 K2 M2 cap2 key2 rs2 := ⟨hd.key.down (by have := HC6.out.lt; omega), hd.row.down (by have := HC6.out.lt; omega)⟩
    have F2 : Hid (GF key2 rs2) := ⟨hkf, hd.fine, h9⟩
    have hk := hd.kept
    have hc := hd.cur
    clear hd hn hkf h9
    have HC7 : Hid (Cur w7 (w.heap.size + 2)) := hc
    have HB7 : Hid (Below w.heap.size w w7) := HB6.out.trans (hk.below (by omega) HB6.out.size)
    have R_7 : Hid (Blk w7 w.heap.size #[.int .i64 0, .slice none 0 0, .int .i64 0, .int .i64 0, .slice none 0 0] 27) := blk_kept R_6.out hk (by omega)
    have V_7 : Hid (Blk w7 (w.heap.size + 1) #[.int .i64 0, .slice none 0 0, .int .i64 0, .int .i64 0, .slice none 0 0] 27) := blk_kept V_6.out hk (by omega)
    have N_7 : Hid (ByK w7 gb by') := N_6.out.keep hk (by have := UN.out; omega)
    have G_7 : Hid (GM2 (w.heap.size + 3) w7 K M cap key rs) := G_6.out.keep hk (by omega)
    have X_7 : Hid (Blk w7 XX #[.int .i64 n, .slice (some ⟨K, 0, none⟩) key.length kc, .int .i64 b, .int .i64 t, .slice (some ⟨M, 0, none⟩) rs.length cap] 27) := blk_kept X_6.out hk (by have := UX.out; omega)
    have HZ7 : Hid (w6.heap.size ≤ w7.heap.size) := hk.size
    clear hk hc
    have G2_7 : Hid (GM2 (w.heap.size + 3) w7 K2 M2 cap2 key2 rs2) := hg
    clear hg
    try dsimp only
    clear hHeld
    refine hK.out _ _ (HS.out _ X_7.out) (fun hHeld => ?_)
    clear hK Kx
    try simp only [Act.put, List.setIfInBounds_toArray, List.set_cons_zero, List.set_cons_succ]
    have hneXR : w.heap.size ≠ XX := by have := UX.out; omega
    have hneXV : w.heap.size + 1 ≠ XX := by have := UX.out; omega
    have r0 : w7.cell? ⟨w.heap.size, 0, none⟩ = some (.int .i64 0) := R_7.out.cell 0
    have fr0 := R_7.out.frozen 0
    have r1 : w7.cell? ⟨w.heap.size, 1, none⟩ = some (.slice none 0 0) := R_7.out.cell 1
    have fr1 := R_7.out.frozen 1
    have r2 : w7.cell? ⟨w.heap.size, 2, none⟩ = some (.int .i64 0) := R_7.out.cell 2
    have fr2 := R_7.out.frozen 2
    have r3 : w7.cell? ⟨w.heap.size, 3, none⟩ = some (.int .i64 0) := R_7.out.cell 3
    have fr3 := R_7.out.frozen 3
    have r4 : w7.cell? ⟨w.heap.size, 4, none⟩ = some (.slice none 0 0) := R_7.out.cell 4
    have fr4 := R_7.out.frozen 4
    have v0 : w7.cell? ⟨(w.heap.size + 1), 0, none⟩ = some (.int .i64 0) := V_7.out.cell 0
    have fv0 := V_7.out.frozen 0
    have v1 : w7.cell? ⟨(w.heap.size + 1), 1, none⟩ = some (.slice none 0 0) := V_7.out.cell 1
    have fv1 := V_7.out.frozen 1
    have v2 : w7.cell? ⟨(w.heap.size + 1), 2, none⟩ = some (.int .i64 0) := V_7.out.cell 2
    have fv2 := V_7.out.frozen 2
    have v3 : w7.cell? ⟨(w.heap.size + 1), 3, none⟩ = some (.int .i64 0) := V_7.out.cell 3
    have fv3 := V_7.out.frozen 3
    have v4 : w7.cell? ⟨(w.heap.size + 1), 4, none⟩ = some (.slice none 0 0) := V_7.out.cell 4
    have fv4 := V_7.out.frozen 4
    refine wpAnyH_ready (rs := [4]) (by kernel_rfl) (by simp) ?_
    refine AllReadyH.cons (o := { dst := none, op := Op.store 27 (Operand.tmp 2) (Operand.tmp 19), type := 0, pos := "l11_group.go:119", after := #[{ on := 0, ground := Ground.data }, { on := 3, ground := Ground.chain }, { on := 0, ground := Ground.phase }, { on := 1, ground := Ground.textOnly Departure.lateStores }, { on := 2, ground := Ground.textOnly Departure.lateStores }, { on := 3, ground := Ground.textOnly Departure.lateStoresUnsure }], guard := none }) rfl (fun Kx hK => ?_) AllReadyH.nil
    go_simp
    clear hHeld
    refine hK.out _ _ (HS.out _ (((((X_7.out.set_other hneXR _).set_other hneXR _).set_other hneXR _).set_other hneXR _).set_other hneXR _)) (fun hHeld => ?_)
    clear hK Kx
    try simp only [Act.put, List.setIfInBounds_toArray, List.set_cons_zero, List.set_cons_succ]
    refine wpAnyH_ready (rs := [5]) (by kernel_rfl) (by simp) ?_
    refine AllReadyH.cons (o := { dst := none, op := Op.store 27 (Operand.tmp 3) (Operand.tmp 22), type := 0, pos := "l11_group.go:119", after := #[{ on := 3, ground := Ground.data }, { on := 4, ground := Ground.chain }, { on := 0, ground := Ground.phase }, { on := 1, ground := Ground.phase }, { on := 2, ground := Ground.phase }, { on := 3, ground := Ground.phase }, { on := 4, ground := Ground.phase }], guard := none }) rfl (fun Kx hK => ?_) AllReadyH.nil
    go_simp
    clear hHeld
    refine hK.out _ _ (HS.out _ ((((((((((X_7.out.set_other hneXR _).set_other hneXR _).set_other hneXR _).set_other hneXR _).set_other hneXR _).set_other hneXV _).set_other hneXV _).set_other hneXV _).set_other hneXV _).set_other hneXV _)) (fun hHeld => ?_)
    clear hK Kx
    try simp only [Act.put, List.setIfInBounds_toArray, List.set_cons_zero, List.set_cons_succ]
    refine wpAnyH_done (by kernel_rfl) ?_ _
    go_wp2
    have hR : Blk ((((((((((w7.setCell ⟨w.heap.size, 0, none⟩ (.int .i64 n)).setCell ⟨w.heap.size, 1, none⟩ (.slice (some ⟨K, 0, none⟩) key.length kc)).setCell ⟨w.heap.size, 2, none⟩ (.int .i64 b)).setCell ⟨w.heap.size, 3, none⟩ (.int .i64 t)).setCell ⟨w.heap.size, 4, none⟩ (.slice (some ⟨M, 0, none⟩) rs.length cap)).setCell ⟨(w.heap.size + 1), 0, none⟩ (.int .i64 n2)).setCell ⟨(w.heap.size + 1), 1, none⟩ (.slice (some ⟨K2, 0, none⟩) key2.length kc2)).setCell ⟨(w.heap.size + 1), 2, none⟩ (.int .i64 b2)).setCell ⟨(w.heap.size + 1), 3, none⟩ (.int .i64 t2)).setCell ⟨(w.heap.size + 1), 4, none⟩ (.slice (some ⟨M2, 0, none⟩) rs2.length cap2)) w.heap.size #[.int .i64 n, .slice (some ⟨K, 0, none⟩) key.length kc, .int .i64 b, .int .i64 t, .slice (some ⟨M, 0, none⟩) rs.length cap] 27 := ((((((((((R_7.out.set 0 _).set 1 _).set 2 _).set 3 _).set 4 _).set_other (p := ⟨(w.heap.size + 1), 0, none⟩) (show (w.heap.size + 1) ≠ w.heap.size by omega) _).set_other (p := ⟨(w.heap.size + 1), 1, none⟩) (show (w.heap.size + 1) ≠ w.heap.size by omega) _).set_other (p := ⟨(w.heap.size + 1), 2, none⟩) (show (w.heap.size + 1) ≠ w.heap.size by omega) _).set_other (p := ⟨(w.heap.size + 1), 3, none⟩) (show (w.heap.size + 1) ≠ w.heap.size by omega) _).set_other (p := ⟨(w.heap.size + 1), 4, none⟩) (show (w.heap.size + 1) ≠ w.heap.size by omega) _)
    have zR0 := hR.cell 0
    have zR1 := hR.cell 1
    have zR2 := hR.cell 2
    have zR3 := hR.cell 3
    have zR4 := hR.cell 4
    have hV : Blk ((((((((((w7.setCell ⟨w.heap.size, 0, none⟩ (.int .i64 n)).setCell ⟨w.heap.size, 1, none⟩ (.slice (some ⟨K, 0, none⟩) key.length kc)).setCell ⟨w.heap.size, 2, none⟩ (.int .i64 b)).setCell ⟨w.heap.size, 3, none⟩ (.int .i64 t)).setCell ⟨w.heap.size, 4, none⟩ (.slice (some ⟨M, 0, none⟩) rs.length cap)).setCell ⟨(w.heap.size + 1), 0, none⟩ (.int .i64 n2)).setCell ⟨(w.heap.size + 1), 1, none⟩ (.slice (some ⟨K2, 0, none⟩) key2.length kc2)).setCell ⟨(w.heap.size + 1), 2, none⟩ (.int .i64 b2)).setCell ⟨(w.heap.size + 1), 3, none⟩ (.int .i64 t2)).setCell ⟨(w.heap.size + 1), 4, none⟩ (.slice (some ⟨M2, 0, none⟩) rs2.length cap2)) (w.heap.size + 1) #[.int .i64 n2, .slice (some ⟨K2, 0, none⟩) key2.length kc2, .int .i64 b2, .int .i64 t2, .slice (some ⟨M2, 0, none⟩) rs2.length cap2] 27 := ((((((((((V_7.out.set_other (p := ⟨w.heap.size, 0, none⟩) (show w.heap.size ≠ (w.heap.size + 1) by omega) _).set_other (p := ⟨w.heap.size, 1, none⟩) (show w.heap.size ≠ (w.heap.size + 1) by omega) _).set_other (p := ⟨w.heap.size, 2, none⟩) (show w.heap.size ≠ (w.heap.size + 1) by omega) _).set_other (p := ⟨w.heap.size, 3, none⟩) (show w.heap.size ≠ (w.heap.size + 1) by omega) _).set_other (p := ⟨w.heap.size, 4, none⟩) (show w.heap.size ≠ (w.heap.size + 1) by omega) _).set 0 _).set 1 _).set 2 _).set 3 _).set 4 _)
    have zV0 := hV.cell 0
    have zV1 := hV.cell 1
    have zV2 := hV.cell 2
    have zV3 := hV.cell 3
    have zV4 := hV.cell 4
    refine bodyPost_ret (v := .tuple #[.agg #[.int .i64 n, .slice (some ⟨K, 0, none⟩) key.length kc, .int .i64 b, .int .i64 t, .slice (some ⟨M, 0, none⟩) rs.length cap], .agg #[.int .i64 n2, .slice (some ⟨K2, 0, none⟩) key2.length kc2, .int .i64 b2, .int .i64 t2, .slice (some ⟨M2, 0, none⟩) rs2.length cap2]]) (by simp [results, Try.results16, go_sem, zR0, zR1, zR2, zR3, zR4, zV0, zV1, zV2, zV3, zV4]) rfl ?_
    exact ⟨⟨n, b, t, K, kc, M, cap, key, pals rs, n2, b2, t2, K2, kc2, M2, cap2, key2, pals rs2, by rw [Rws.pals_len, Rws.pals_len], ((((((((((G_7.out.under (by omega) _ _).under (by omega) _ _).under (by omega) _ _).under (by omega) _ _).under (by omega) _ _).under (by omega) _ _).under (by omega) _ _).under (by omega) _ _).under (by omega) _ _).under (by omega) _ _).rg Fg.out, ((((((((((G2_7.out.under (by omega) _ _).under (by omega) _ _).under (by omega) _ _).under (by omega) _ _).under (by omega) _ _).under (by omega) _ _).under (by omega) _ _).under (by omega) _ _).under (by omega) _ _).under (by omega) _ _).rg F2.out⟩, (set_low (set_low (set_low (set_low (set_low (set_low (set_low (set_low (set_low (set_low HB7.out (by omega) _ _) (by omega) _ _) (by omega) _ _) (by omega) _ _) (by omega) _ _) (by omega) _ _) (by omega) _ _) (by omega) _ _) (by omega) _ _) (by omega) _ _)⟩
set_option maxRecDepth 100000 in
set_option maxHeartbeats 3200000 in
theorem drawSameBatch_any (b0 : Option Addr) (len cap0 : Nat) (w : World) (hl : len ≤ maxLen) (hb : Bytes w b0 len w.heap.size) :
    Calls Try.prog 17 #[.slice b0 len cap0] w fun r w' => RBB r w' ∧ Below w.heap.size w w' := by
  have HB : Hid (Bytes w b0 len w.heap.size) := hb
  have HL : Hid (len ≤ maxLen) := hl
  clear hb hl
  go_enter Try.func17, Try.ntmps17
  go_wp2_with fail
  refine (new_any b0 len cap0 _ HL.out (LawB.bytes_up HB.out (Go.Joins.below_alloc2 w _ _))).mono ?_
  rintro r w1 ⟨rfl, hc1, hb1⟩
  have HC1 : Hid (Cur w1 (w.heap.size + 2)) := by simp at hc1; exact hc1
  have R_1 : Hid (Blk w1 w.heap.size #[.int .i64 0, .slice none 0 0, .int .i64 0, .slice none 0 0] 36) := ((Blk.new _ _ _).alloc _).grow hb1
  have V_1 : Hid (Blk w1 (w.heap.size + 1) #[.int .i64 0, .slice none 0 0, .int .i64 0, .slice none 0 0] 36) := (Blk.new_at (by simp)).grow hb1
  have HB1 : Hid (Below w.heap.size w w1) := grow_on (Go.Joins.below_alloc2 w _ _) hb1
  clear hc1 hb1 HB HL
  go_wp2_with fail
  refine (DrawK.l5By_any (w.heap.size + 2) _ HC1.out).mono ?_
  rintro r w2 ⟨v, rfl, by', hs, h2⟩
  obtain ⟨gb, gc, rfl, hby, hg1, hg2⟩ := byk_of hs
  have UN : Hid ((w.heap.size + 2) < gb ∧ gb < w2.heap.size) := ⟨by have := HC1.out.lt; omega, hg2⟩
  have H2 : Hid (by'.length ≤ 2) := h2
  have hk := hs.kept
  have hc := hs.cur
  clear hs h2 hg1 hg2
  have HC2 : Hid (Cur w2 (w.heap.size + 2)) := hc
  have HB2 : Hid (Below w.heap.size w w2) := HB1.out.trans (hk.below (by omega) HB1.out.size)
  have R_2 : Hid (Blk w2 w.heap.size #[.int .i64 0, .slice none 0 0, .int .i64 0, .slice none 0 0] 36) := blk_kept R_1.out hk (by omega)
  have V_2 : Hid (Blk w2 (w.heap.size + 1) #[.int .i64 0, .slice none 0 0, .int .i64 0, .slice none 0 0] 36) := blk_kept V_1.out hk (by omega)
  have HZ2 : Hid (w1.heap.size ≤ w2.heap.size) := hk.size
  clear hk hc
  have N_2 : Hid (ByK w2 gb by') := hby
  clear hby
  go_wp2_with fail
  refine (l11Any_any (w.heap.size + 2) gb gc by' _ HC2.out N_2.out ⟨by have := UN.out; omega, Nat.lt_of_lt_of_le UN.out.2 (by have := HZ2.out; omega)⟩ (by have := H2.out; unfold maxLen; omega)).mono ?_
  rintro r w3 ⟨n, b, t, K, kc, M, cap, key, rs, rfl, hd, hn, hkf, h9⟩
  have hg : GM2 (w.heap.size + 3) w3 K M cap key rs := ⟨hd.key.down (by have := HC2.out.lt; omega), hd.row.down (by have := HC2.out.lt; omega)⟩
  have Fg : Hid (GF key rs) := ⟨hkf, hd.fine, by omega⟩
  have NU : Hid (NumA n b t) := hn
  have hk := hd.kept
  have hc := hd.cur
  clear hd hn hkf h9
  have HC3 : Hid (Cur w3 (w.heap.size + 2)) := hc
  have HB3 : Hid (Below w.heap.size w w3) := HB2.out.trans (hk.below (by omega) HB2.out.size)
  have R_3 : Hid (Blk w3 w.heap.size #[.int .i64 0, .slice none 0 0, .int .i64 0, .slice none 0 0] 36) := blk_kept R_2.out hk (by omega)
  have V_3 : Hid (Blk w3 (w.heap.size + 1) #[.int .i64 0, .slice none 0 0, .int .i64 0, .slice none 0 0] 36) := blk_kept V_2.out hk (by omega)
  have N_3 : Hid (ByK w3 gb by') := N_2.out.keep hk (by have := UN.out; omega)
  have HZ3 : Hid (w2.heap.size ≤ w3.heap.size) := hk.size
  clear hk hc
  have G_3 : Hid (GM2 (w.heap.size + 3) w3 K M cap key rs) := hg
  clear hg
  have hf := G_3.out.few Fg.out
  go_wp2_with fail
  refine (flushR n b t K kc key M cap rs (3) _ hf.1 hf.2.1 hf.2.2.1 hf.2.2.2.1 hf.2.2.2.2).mono ?_
  rintro r w4 ⟨⟨L1, ld1, N1, ln1, ls1, K1, kc1, M1, cap1, rs1, rfl, -, -, -, hG, hA, hP⟩, hy⟩
  have hg : GM2 (w.heap.size + 3) w4 K1 M1 cap1 key rs1 := ⟨hG.key.down (by have := HC3.out.lt; omega), hA.down (by have := HC3.out.lt; omega)⟩
  have F1 : Hid (GF key rs1) := gf_same Fg.out hP
  have hk := kept_bel (c := (w.heap.size + 2)) hy
  have hc := cur_bel HC3.out hy
  clear hG hA hP hy hf
  have HC4 : Hid (Cur w4 (w.heap.size + 2)) := hc
  have HB4 : Hid (Below w.heap.size w w4) := HB3.out.trans (hk.below (by omega) HB3.out.size)
  have R_4 : Hid (Blk w4 w.heap.size #[.int .i64 0, .slice none 0 0, .int .i64 0, .slice none 0 0] 36) := blk_kept R_3.out hk (by omega)
  have V_4 : Hid (Blk w4 (w.heap.size + 1) #[.int .i64 0, .slice none 0 0, .int .i64 0, .slice none 0 0] 36) := blk_kept V_3.out hk (by omega)
  have N_4 : Hid (ByK w4 gb by') := N_3.out.keep hk (by have := UN.out; omega)
  have G_4 : Hid (GM2 (w.heap.size + 3) w4 K M cap key rs) := G_3.out.keep hk (by omega)
  have HZ4 : Hid (w3.heap.size ≤ w4.heap.size) := hk.size
  clear hk hc
  have G1_4 : Hid (GM2 (w.heap.size + 3) w4 K1 M1 cap1 key rs1) := hg
  clear hg
  go_upto_region 4 with fail
  obtain ⟨w5, hw⟩ : ∃ v, v = ((w4.alloc (.cells #[.int .i64 n, .slice (some ⟨L1, 0, none⟩) key.length ld1, .int .i64 b, .int .i64 3, .slice (some ⟨N1, 0, none⟩) ls1.length ln1] 27)).alloc (.cells #[.int .i64 n, .slice (some ⟨K1, 0, none⟩) key.length kc1, .int .i64 3, .slice (some ⟨M1, 0, none⟩) rs1.length cap1] 36)) := ⟨_, rfl⟩
  rw [← hw]
  have hk : Kept (w.heap.size + 2) w4 w5 := by rw [hw]; exact kept_bel (Go.Joins.below_alloc2 w4 _ _)
  have hc : Cur w5 (w.heap.size + 2) := by rw [hw]; exact cur_bel HC4.out (Go.Joins.below_alloc2 w4 _ _)
  have HC5 : Hid (Cur w5 (w.heap.size + 2)) := hc
  have HB5 : Hid (Below w.heap.size w w5) := HB4.out.trans (hk.below (by omega) HB4.out.size)
  have R_5 : Hid (Blk w5 w.heap.size #[.int .i64 0, .slice none 0 0, .int .i64 0, .slice none 0 0] 36) := blk_kept R_4.out hk (by omega)
  have V_5 : Hid (Blk w5 (w.heap.size + 1) #[.int .i64 0, .slice none 0 0, .int .i64 0, .slice none 0 0] 36) := blk_kept V_4.out hk (by omega)
  have N_5 : Hid (ByK w5 gb by') := N_4.out.keep hk (by have := UN.out; omega)
  have G1_5 : Hid (GM2 (w.heap.size + 3) w5 K1 M1 cap1 key rs1) := G1_4.out.keep hk (by omega)
  have HZ5 : Hid (w4.heap.size ≤ w5.heap.size) := hk.size
  clear hk hc
  have F_5 : Hid (Blk w5 w4.heap.size #[.int .i64 n, .slice (some ⟨L1, 0, none⟩) key.length ld1, .int .i64 b, .int .i64 3, .slice (some ⟨N1, 0, none⟩) ls1.length ln1] 27) := by rw [hw]; exact (Blk.new _ _ _).alloc _
  have UF : Hid ((w.heap.size + 2) < w4.heap.size) := by have := HC4.out.lt; unfold Hid; omega
  have X_5 : Hid (Blk w5 (w4.heap.size + 1) #[.int .i64 n, .slice (some ⟨K1, 0, none⟩) key.length kc1, .int .i64 3, .slice (some ⟨M1, 0, none⟩) rs1.length cap1] 36) := by rw [hw]; exact Blk.new_at (by simp)
  have UX : Hid ((w.heap.size + 2) < (w4.heap.size + 1)) := by have := HC4.out.lt; unfold Hid; omega
  clear hw
  generalize (w4.heap.size + 1) = XX at X_5 UX  ⊢
  generalize w4.heap.size = XF at F_5 UF  ⊢
  go_wp2_with fail
  refine (once_any (w.heap.size + 2) 2 _ HC5.out (by decide) (by decide)).mono ?_
  rintro r w6 ⟨⟨f, rfl⟩, hc, hk⟩
  have HC6 : Hid (Cur w6 (w.heap.size + 2)) := hc
  have HB6 : Hid (Below w.heap.size w w6) := HB5.out.trans (hk.below (by omega) HB5.out.size)
  have R_6 : Hid (Blk w6 w.heap.size #[.int .i64 0, .slice none 0 0, .int .i64 0, .slice none 0 0] 36) := blk_kept R_5.out hk (by omega)
  have V_6 : Hid (Blk w6 (w.heap.size + 1) #[.int .i64 0, .slice none 0 0, .int .i64 0, .slice none 0 0] 36) := blk_kept V_5.out hk (by omega)
  have N_6 : Hid (ByK w6 gb by') := N_5.out.keep hk (by have := UN.out; omega)
  have G1_6 : Hid (GM2 (w.heap.size + 3) w6 K1 M1 cap1 key rs1) := G1_5.out.keep hk (by omega)
  have X_6 : Hid (Blk w6 XX #[.int .i64 n, .slice (some ⟨K1, 0, none⟩) key.length kc1, .int .i64 3, .slice (some ⟨M1, 0, none⟩) rs1.length cap1] 36) := blk_kept X_5.out hk (by have := UX.out; omega)
  have HZ6 : Hid (w5.heap.size ≤ w6.heap.size) := hk.size
  clear hk hc
  cases f with
  | true =>
    have HS : Hid (∀ w', Blk w' XX #[.int .i64 n, .slice (some ⟨K1, 0, none⟩) key.length kc1, .int .i64 3, .slice (some ⟨M1, 0, none⟩) rs1.length cap1] 36 → w'.cell? ⟨XX, 0, none⟩ = some (.int .i64 n) ∧ w'.cell? ⟨XX, 1, none⟩ = some (.slice (some ⟨K1, 0, none⟩) key.length kc1) ∧ w'.cell? ⟨XX, 2, none⟩ = some (.int .i64 3) ∧ w'.cell? ⟨XX, 3, none⟩ = some (.slice (some ⟨M1, 0, none⟩) rs1.length cap1)) := fun w' hX => ⟨hX.cell 0, hX.cell 1, hX.cell 2, hX.cell 3⟩
    go_upto_region 5 with fail
    refine wp_region_held_drew (S := fun w' => w'.cell? ⟨XX, 0, none⟩ = some (.int .i64 n) ∧ w'.cell? ⟨XX, 1, none⟩ = some (.slice (some ⟨K1, 0, none⟩) key.length kc1) ∧ w'.cell? ⟨XX, 2, none⟩ = some (.int .i64 3) ∧ w'.cell? ⟨XX, 3, none⟩ = some (.slice (some ⟨M1, 0, none⟩) rs1.length cap1)) (by kernel_rfl) (HS.out _ X_6.out.drew) (fun hHeld => ?_)
    refine wpAnyH_take (i := 0) (oi := { dst := some 23, op := Op.load 36 (Operand.tmp 7), type := 36, pos := "l11_group.go:127", after := #[], guard := none }) (v := ?vb50) rfl (by kernel_rfl) (by kernel_rfl) (by kernel_rfl) (fun _ _ _ h => h) (Or.inl ⟨by rfl, ?hyb50⟩) hHeld ?_
    case hyb50 => (intro w hSw; (try dsimp only at hSw); go_simp <;> with_reducible rfl)
    try simp only [Act.put, List.setIfInBounds_toArray, List.set_cons_zero, List.set_cons_succ]
    refine wpAnyH_take (i := 1) (oi := { dst := some 24, op := Op.load 36 (Operand.tmp 7), type := 36, pos := "l11_group.go:127", after := #[], guard := none }) (v := ?vb51) rfl (by kernel_rfl) (by kernel_rfl) (by kernel_rfl) (fun _ _ _ h => h) (Or.inl ⟨by rfl, ?hyb51⟩) hHeld ?_
    case hyb51 => (intro w hSw; (try dsimp only at hSw); go_simp <;> with_reducible rfl)
    try simp only [Act.put, List.setIfInBounds_toArray, List.set_cons_zero, List.set_cons_succ]
    have hk : Kept (w.heap.size + 2) w6 w6.drew := kept_bel (Below.refl _ _).drew
    have hc : Cur w6.drew (w.heap.size + 2) := Cur.drewN HC6.out 1
    have HC7 : Hid (Cur w6.drew (w.heap.size + 2)) := hc
    have HB7 : Hid (Below w.heap.size w w6.drew) := HB6.out.trans (hk.below (by omega) HB6.out.size)
    have R_7 : Hid (Blk w6.drew w.heap.size #[.int .i64 0, .slice none 0 0, .int .i64 0, .slice none 0 0] 36) := blk_kept R_6.out hk (by omega)
    have V_7 : Hid (Blk w6.drew (w.heap.size + 1) #[.int .i64 0, .slice none 0 0, .int .i64 0, .slice none 0 0] 36) := blk_kept V_6.out hk (by omega)
    have N_7 : Hid (ByK w6.drew gb by') := N_6.out.keep hk (by have := UN.out; omega)
    have G1_7 : Hid (GM2 (w.heap.size + 3) w6.drew K1 M1 cap1 key rs1) := G1_6.out.keep hk (by omega)
    have X_7 : Hid (Blk w6.drew XX #[.int .i64 n, .slice (some ⟨K1, 0, none⟩) key.length kc1, .int .i64 3, .slice (some ⟨M1, 0, none⟩) rs1.length cap1] 36) := blk_kept X_6.out hk (by have := UX.out; omega)
    have HZ7 : Hid (w6.heap.size ≤ w6.drew.heap.size) := hk.size
    clear hk hc
    generalize w6.drew = w7 at HC7 HB7 HZ7 R_7 V_7 N_7 G1_7 X_7 hHeld ⊢
    refine wpAnyH_ready (rs := [2]) (by kernel_rfl) (by simp) ?_
    refine AllReadyH.cons (o := { dst := some 25, op := Op.call { callee := Callee.value (Operand.func 63), args := #[Operand.tmp 24], argTypes := #[36] }, type := 36, pos := "l11_group.go:127", after := #[{ on := 1, ground := Ground.data }], guard := none }) rfl (fun Kx hK => ?_) AllReadyH.nil
    go_simp
    have hf := G1_7.out.few F1.out
    refine (copyB n 3 K1 kc1 key M1 cap1 rs1 _ hf.1 hf.2.1 hf.2.2.1 hf.2.2.2.1 hf.2.2.2.2).mono ?_
    clear hf
    rintro r w8 ⟨⟨K2, kc2, M2, cap2, rs2, rfl, hG, hA, hP⟩, hy⟩
    have hg : GM2 (w.heap.size + 3) w8 K2 M2 cap2 key rs2 := ⟨hG.key.down (by have := HC7.out.lt; omega), hA.down (by have := HC7.out.lt; omega)⟩
    have F2 : Hid (GF key rs2) := gf_same F1.out hP
    have hk := kept_bel (c := (w.heap.size + 2)) hy
    have hc := cur_bel HC7.out hy
    clear hG hA hP hy
    have HC8 : Hid (Cur w8 (w.heap.size + 2)) := hc
    have HB8 : Hid (Below w.heap.size w w8) := HB7.out.trans (hk.below (by omega) HB7.out.size)
    have R_8 : Hid (Blk w8 w.heap.size #[.int .i64 0, .slice none 0 0, .int .i64 0, .slice none 0 0] 36) := blk_kept R_7.out hk (by omega)
    have V_8 : Hid (Blk w8 (w.heap.size + 1) #[.int .i64 0, .slice none 0 0, .int .i64 0, .slice none 0 0] 36) := blk_kept V_7.out hk (by omega)
    have N_8 : Hid (ByK w8 gb by') := N_7.out.keep hk (by have := UN.out; omega)
    have G1_8 : Hid (GM2 (w.heap.size + 3) w8 K1 M1 cap1 key rs1) := G1_7.out.keep hk (by omega)
    have X_8 : Hid (Blk w8 XX #[.int .i64 n, .slice (some ⟨K1, 0, none⟩) key.length kc1, .int .i64 3, .slice (some ⟨M1, 0, none⟩) rs1.length cap1] 36) := blk_kept X_7.out hk (by have := UX.out; omega)
    have HZ8 : Hid (w7.heap.size ≤ w8.heap.size) := hk.size
    clear hk hc
    have G2_8 : Hid (GM2 (w.heap.size + 3) w8 K2 M2 cap2 key rs2) := hg
    clear hg
    try dsimp only
    clear hHeld
    refine hK.out _ _ (HS.out _ X_8.out) (fun hHeld => ?_)
    clear hK Kx
    try simp only [Act.put, List.setIfInBounds_toArray, List.set_cons_zero, List.set_cons_succ]
    have hneXR : w.heap.size ≠ XX := by have := UX.out; omega
    have hneXV : w.heap.size + 1 ≠ XX := by have := UX.out; omega
    have r0 : w8.cell? ⟨w.heap.size, 0, none⟩ = some (.int .i64 0) := R_8.out.cell 0
    have fr0 := R_8.out.frozen 0
    have r1 : w8.cell? ⟨w.heap.size, 1, none⟩ = some (.slice none 0 0) := R_8.out.cell 1
    have fr1 := R_8.out.frozen 1
    have r2 : w8.cell? ⟨w.heap.size, 2, none⟩ = some (.int .i64 0) := R_8.out.cell 2
    have fr2 := R_8.out.frozen 2
    have r3 : w8.cell? ⟨w.heap.size, 3, none⟩ = some (.slice none 0 0) := R_8.out.cell 3
    have fr3 := R_8.out.frozen 3
    have v0 : w8.cell? ⟨(w.heap.size + 1), 0, none⟩ = some (.int .i64 0) := V_8.out.cell 0
    have fv0 := V_8.out.frozen 0
    have v1 : w8.cell? ⟨(w.heap.size + 1), 1, none⟩ = some (.slice none 0 0) := V_8.out.cell 1
    have fv1 := V_8.out.frozen 1
    have v2 : w8.cell? ⟨(w.heap.size + 1), 2, none⟩ = some (.int .i64 0) := V_8.out.cell 2
    have fv2 := V_8.out.frozen 2
    have v3 : w8.cell? ⟨(w.heap.size + 1), 3, none⟩ = some (.slice none 0 0) := V_8.out.cell 3
    have fv3 := V_8.out.frozen 3
    refine wpAnyH_ready (rs := [3]) (by kernel_rfl) (by simp) ?_
    refine AllReadyH.cons (o := { dst := none, op := Op.store 36 (Operand.tmp 2) (Operand.tmp 23), type := 0, pos := "l11_group.go:127", after := #[{ on := 0, ground := Ground.data }, { on := 2, ground := Ground.chain }, { on := 0, ground := Ground.phase }, { on := 1, ground := Ground.textOnly Departure.lateStores }, { on := 2, ground := Ground.textOnly Departure.lateStoresUnsure }], guard := none }) rfl (fun Kx hK => ?_) AllReadyH.nil
    go_simp
    clear hHeld
    refine hK.out _ _ (HS.out _ ((((X_8.out.set_other hneXR _).set_other hneXR _).set_other hneXR _).set_other hneXR _)) (fun hHeld => ?_)
    clear hK Kx
    try simp only [Act.put, List.setIfInBounds_toArray, List.set_cons_zero, List.set_cons_succ]
    refine wpAnyH_ready (rs := [4]) (by kernel_rfl) (by simp) ?_
    refine AllReadyH.cons (o := { dst := none, op := Op.store 36 (Operand.tmp 3) (Operand.tmp 25), type := 0, pos := "l11_group.go:127", after := #[{ on := 2, ground := Ground.data }, { on := 3, ground := Ground.chain }, { on := 0, ground := Ground.phase }, { on := 1, ground := Ground.phase }, { on := 2, ground := Ground.phase }, { on := 3, ground := Ground.phase }], guard := none }) rfl (fun Kx hK => ?_) AllReadyH.nil
    go_simp
    clear hHeld
    refine hK.out _ _ (HS.out _ ((((((((X_8.out.set_other hneXR _).set_other hneXR _).set_other hneXR _).set_other hneXR _).set_other hneXV _).set_other hneXV _).set_other hneXV _).set_other hneXV _)) (fun hHeld => ?_)
    clear hK Kx
    try simp only [Act.put, List.setIfInBounds_toArray, List.set_cons_zero, List.set_cons_succ]
    refine wpAnyH_done (by kernel_rfl) ?_ _
    go_wp2
    have hR : Blk ((((((((w8.setCell ⟨w.heap.size, 0, none⟩ (.int .i64 n)).setCell ⟨w.heap.size, 1, none⟩ (.slice (some ⟨K1, 0, none⟩) key.length kc1)).setCell ⟨w.heap.size, 2, none⟩ (.int .i64 3)).setCell ⟨w.heap.size, 3, none⟩ (.slice (some ⟨M1, 0, none⟩) rs1.length cap1)).setCell ⟨(w.heap.size + 1), 0, none⟩ (.int .i64 n)).setCell ⟨(w.heap.size + 1), 1, none⟩ (.slice (some ⟨K2, 0, none⟩) key.length kc2)).setCell ⟨(w.heap.size + 1), 2, none⟩ (.int .i64 3)).setCell ⟨(w.heap.size + 1), 3, none⟩ (.slice (some ⟨M2, 0, none⟩) rs2.length cap2)) w.heap.size #[.int .i64 n, .slice (some ⟨K1, 0, none⟩) key.length kc1, .int .i64 3, .slice (some ⟨M1, 0, none⟩) rs1.length cap1] 36 := ((((((((R_8.out.set 0 _).set 1 _).set 2 _).set 3 _).set_other (p := ⟨(w.heap.size + 1), 0, none⟩) (show (w.heap.size + 1) ≠ w.heap.size by omega) _).set_other (p := ⟨(w.heap.size + 1), 1, none⟩) (show (w.heap.size + 1) ≠ w.heap.size by omega) _).set_other (p := ⟨(w.heap.size + 1), 2, none⟩) (show (w.heap.size + 1) ≠ w.heap.size by omega) _).set_other (p := ⟨(w.heap.size + 1), 3, none⟩) (show (w.heap.size + 1) ≠ w.heap.size by omega) _)
    have zR0 := hR.cell 0
    have zR1 := hR.cell 1
    have zR2 := hR.cell 2
    have zR3 := hR.cell 3
    have hV : Blk ((((((((w8.setCell ⟨w.heap.size, 0, none⟩ (.int .i64 n)).setCell ⟨w.heap.size, 1, none⟩ (.slice (some ⟨K1, 0, none⟩) key.length kc1)).setCell ⟨w.heap.size, 2, none⟩ (.int .i64 3)).setCell ⟨w.heap.size, 3, none⟩ (.slice (some ⟨M1, 0, none⟩) rs1.length cap1)).setCell ⟨(w.heap.size + 1), 0, none⟩ (.int .i64 n)).setCell ⟨(w.heap.size + 1), 1, none⟩ (.slice (some ⟨K2, 0, none⟩) key.length kc2)).setCell ⟨(w.heap.size + 1), 2, none⟩ (.int .i64 3)).setCell ⟨(w.heap.size + 1), 3, none⟩ (.slice (some ⟨M2, 0, none⟩) rs2.length cap2)) (w.heap.size + 1) #[.int .i64 n, .slice (some ⟨K2, 0, none⟩) key.length kc2, .int .i64 3, .slice (some ⟨M2, 0, none⟩) rs2.length cap2] 36 := ((((((((V_8.out.set_other (p := ⟨w.heap.size, 0, none⟩) (show w.heap.size ≠ (w.heap.size + 1) by omega) _).set_other (p := ⟨w.heap.size, 1, none⟩) (show w.heap.size ≠ (w.heap.size + 1) by omega) _).set_other (p := ⟨w.heap.size, 2, none⟩) (show w.heap.size ≠ (w.heap.size + 1) by omega) _).set_other (p := ⟨w.heap.size, 3, none⟩) (show w.heap.size ≠ (w.heap.size + 1) by omega) _).set 0 _).set 1 _).set 2 _).set 3 _)
    have zV0 := hV.cell 0
    have zV1 := hV.cell 1
    have zV2 := hV.cell 2
    have zV3 := hV.cell 3
    refine bodyPost_ret (v := .tuple #[.agg #[.int .i64 n, .slice (some ⟨K1, 0, none⟩) key.length kc1, .int .i64 3, .slice (some ⟨M1, 0, none⟩) rs1.length cap1], .agg #[.int .i64 n, .slice (some ⟨K2, 0, none⟩) key.length kc2, .int .i64 3, .slice (some ⟨M2, 0, none⟩) rs2.length cap2]]) (by simp [results, Try.results17, go_sem, zR0, zR1, zR2, zR3, zV0, zV1, zV2, zV3]) rfl ?_
    exact ⟨⟨n, 3, K1, kc1, M1, cap1, key, pals rs1, n, 3, K2, kc2, M2, cap2, key, pals rs2, by rw [Rws.pals_len, Rws.pals_len], ((((((((G1_8.out.under (by omega) _ _).under (by omega) _ _).under (by omega) _ _).under (by omega) _ _).under (by omega) _ _).under (by omega) _ _).under (by omega) _ _).under (by omega) _ _).rg F1.out, ((((((((G2_8.out.under (by omega) _ _).under (by omega) _ _).under (by omega) _ _).under (by omega) _ _).under (by omega) _ _).under (by omega) _ _).under (by omega) _ _).under (by omega) _ _).rg F2.out⟩, (set_low (set_low (set_low (set_low (set_low (set_low (set_low (set_low HB8.out (by omega) _ _) (by omega) _ _) (by omega) _ _) (by omega) _ _) (by omega) _ _) (by omega) _ _) (by omega) _ _) (by omega) _ _)⟩
  | false =>
    go_wp2_with fail
    refine (l11Any_any (w.heap.size + 2) gb gc by' _ HC6.out N_6.out ⟨by have := UN.out; omega, Nat.lt_of_lt_of_le UN.out.2 (by have := HZ2.out; have := HZ3.out; have := HZ4.out; have := HZ5.out; have := HZ6.out; omega)⟩ (by have := H2.out; unfold maxLen; omega)).mono ?_
    rintro r w7 ⟨n2, b2, t2, K2, kc2, M2, cap2, key2, rs2, rfl, hd, hn, hkf, h9⟩
    have hg : GM2 (w.heap.size + 3) w7 K2 M2 cap2 key2 rs2 := ⟨hd.key.down (by have := HC6.out.lt; omega), hd.row.down (by have := HC6.out.lt; omega)⟩
    have F2 : Hid (GF key2 rs2) := ⟨hkf, hd.fine, by omega⟩
    have NU2 : Hid (NumA n2 b2 t2) := hn
    have hk := hd.kept
    have hc := hd.cur
    clear hd hn hkf h9
    have HC7 : Hid (Cur w7 (w.heap.size + 2)) := hc
    have HB7 : Hid (Below w.heap.size w w7) := HB6.out.trans (hk.below (by omega) HB6.out.size)
    have R_7 : Hid (Blk w7 w.heap.size #[.int .i64 0, .slice none 0 0, .int .i64 0, .slice none 0 0] 36) := blk_kept R_6.out hk (by omega)
    have V_7 : Hid (Blk w7 (w.heap.size + 1) #[.int .i64 0, .slice none 0 0, .int .i64 0, .slice none 0 0] 36) := blk_kept V_6.out hk (by omega)
    have N_7 : Hid (ByK w7 gb by') := N_6.out.keep hk (by have := UN.out; omega)
    have G1_7 : Hid (GM2 (w.heap.size + 3) w7 K1 M1 cap1 key rs1) := G1_6.out.keep hk (by omega)
    have X_7 : Hid (Blk w7 XX #[.int .i64 n, .slice (some ⟨K1, 0, none⟩) key.length kc1, .int .i64 3, .slice (some ⟨M1, 0, none⟩) rs1.length cap1] 36) := blk_kept X_6.out hk (by have := UX.out; omega)
    have HZ7 : Hid (w6.heap.size ≤ w7.heap.size) := hk.size
    clear hk hc
    have G2_7 : Hid (GM2 (w.heap.size + 3) w7 K2 M2 cap2 key2 rs2) := hg
    clear hg
    go_wp2_with fail
    refine (below_any (w.heap.size + 2) 5 _ HC7.out (by decide) (by decide)).mono ?_
    rintro r w8 ⟨⟨now, rfl, h0, h1⟩, hc, hk⟩
    clear h0 h1
    have HC8 : Hid (Cur w8 (w.heap.size + 2)) := hc
    have HB8 : Hid (Below w.heap.size w w8) := HB7.out.trans (hk.below (by omega) HB7.out.size)
    have R_8 : Hid (Blk w8 w.heap.size #[.int .i64 0, .slice none 0 0, .int .i64 0, .slice none 0 0] 36) := blk_kept R_7.out hk (by omega)
    have V_8 : Hid (Blk w8 (w.heap.size + 1) #[.int .i64 0, .slice none 0 0, .int .i64 0, .slice none 0 0] 36) := blk_kept V_7.out hk (by omega)
    have G1_8 : Hid (GM2 (w.heap.size + 3) w8 K1 M1 cap1 key rs1) := G1_7.out.keep hk (by omega)
    have X_8 : Hid (Blk w8 XX #[.int .i64 n, .slice (some ⟨K1, 0, none⟩) key.length kc1, .int .i64 3, .slice (some ⟨M1, 0, none⟩) rs1.length cap1] 36) := blk_kept X_7.out hk (by have := UX.out; omega)
    have G2_8 : Hid (GM2 (w.heap.size + 3) w8 K2 M2 cap2 key2 rs2) := G2_7.out.keep hk (by omega)
    have HZ8 : Hid (w7.heap.size ≤ w8.heap.size) := hk.size
    clear hk hc
    have hf2 := G2_8.out.few F2.out
    go_wp2_with fail
    refine (flushR n2 b2 t2 K2 kc2 key2 M2 cap2 rs2 (now) _ hf2.1 hf2.2.1 hf2.2.2.1 hf2.2.2.2.1 hf2.2.2.2.2).mono ?_
    rintro r w9 ⟨⟨L3, ld3, N3, ln3, ls3, K3, kc3, M3, cap3, rs3, rfl, -, -, -, hG, hA, hP⟩, hy⟩
    have hg : GM2 (w.heap.size + 3) w9 K3 M3 cap3 key2 rs3 := ⟨hG.key.down (by have := HC8.out.lt; omega), hA.down (by have := HC8.out.lt; omega)⟩
    have F3 : Hid (GF key2 rs3) := gf_same F2.out hP
    have hk := kept_bel (c := (w.heap.size + 2)) hy
    have hc := cur_bel HC8.out hy
    clear hG hA hP hy hf2
    have HC9 : Hid (Cur w9 (w.heap.size + 2)) := hc
    have HB9 : Hid (Below w.heap.size w w9) := HB8.out.trans (hk.below (by omega) HB8.out.size)
    have R_9 : Hid (Blk w9 w.heap.size #[.int .i64 0, .slice none 0 0, .int .i64 0, .slice none 0 0] 36) := blk_kept R_8.out hk (by omega)
    have V_9 : Hid (Blk w9 (w.heap.size + 1) #[.int .i64 0, .slice none 0 0, .int .i64 0, .slice none 0 0] 36) := blk_kept V_8.out hk (by omega)
    have G1_9 : Hid (GM2 (w.heap.size + 3) w9 K1 M1 cap1 key rs1) := G1_8.out.keep hk (by omega)
    have X_9 : Hid (Blk w9 XX #[.int .i64 n, .slice (some ⟨K1, 0, none⟩) key.length kc1, .int .i64 3, .slice (some ⟨M1, 0, none⟩) rs1.length cap1] 36) := blk_kept X_8.out hk (by have := UX.out; omega)
    have G2_9 : Hid (GM2 (w.heap.size + 3) w9 K2 M2 cap2 key2 rs2) := G2_8.out.keep hk (by omega)
    have HZ9 : Hid (w8.heap.size ≤ w9.heap.size) := hk.size
    clear hk hc
    have G3_9 : Hid (GM2 (w.heap.size + 3) w9 K3 M3 cap3 key2 rs3) := hg
    clear hg
    go_upto_region 7 with fail
    obtain ⟨w10, hw⟩ : ∃ v, v = ((w9.alloc (.cells #[.int .i64 n2, .slice (some ⟨L3, 0, none⟩) key2.length ld3, .int .i64 b2, .int .i64 now, .slice (some ⟨N3, 0, none⟩) ls3.length ln3] 27)).alloc (.cells #[.int .i64 n2, .slice (some ⟨K3, 0, none⟩) key2.length kc3, .int .i64 now, .slice (some ⟨M3, 0, none⟩) rs3.length cap3] 36)) := ⟨_, rfl⟩
    rw [← hw]
    have hk : Kept (w.heap.size + 2) w9 w10 := by rw [hw]; exact kept_bel (Go.Joins.below_alloc2 w9 _ _)
    have hc : Cur w10 (w.heap.size + 2) := by rw [hw]; exact cur_bel HC9.out (Go.Joins.below_alloc2 w9 _ _)
    have HC10 : Hid (Cur w10 (w.heap.size + 2)) := hc
    have HB10 : Hid (Below w.heap.size w w10) := HB9.out.trans (hk.below (by omega) HB9.out.size)
    have R_10 : Hid (Blk w10 w.heap.size #[.int .i64 0, .slice none 0 0, .int .i64 0, .slice none 0 0] 36) := blk_kept R_9.out hk (by omega)
    have V_10 : Hid (Blk w10 (w.heap.size + 1) #[.int .i64 0, .slice none 0 0, .int .i64 0, .slice none 0 0] 36) := blk_kept V_9.out hk (by omega)
    have G1_10 : Hid (GM2 (w.heap.size + 3) w10 K1 M1 cap1 key rs1) := G1_9.out.keep hk (by omega)
    have X_10 : Hid (Blk w10 XX #[.int .i64 n, .slice (some ⟨K1, 0, none⟩) key.length kc1, .int .i64 3, .slice (some ⟨M1, 0, none⟩) rs1.length cap1] 36) := blk_kept X_9.out hk (by have := UX.out; omega)
    have G3_10 : Hid (GM2 (w.heap.size + 3) w10 K3 M3 cap3 key2 rs3) := G3_9.out.keep hk (by omega)
    have HZ10 : Hid (w9.heap.size ≤ w10.heap.size) := hk.size
    clear hk hc
    have E_10 : Hid (Blk w10 w9.heap.size #[.int .i64 n2, .slice (some ⟨L3, 0, none⟩) key2.length ld3, .int .i64 b2, .int .i64 now, .slice (some ⟨N3, 0, none⟩) ls3.length ln3] 27) := by rw [hw]; exact (Blk.new _ _ _).alloc _
    have UE : Hid ((w.heap.size + 2) < w9.heap.size) := by have := HC9.out.lt; unfold Hid; omega
    have Y_10 : Hid (Blk w10 (w9.heap.size + 1) #[.int .i64 n2, .slice (some ⟨K3, 0, none⟩) key2.length kc3, .int .i64 now, .slice (some ⟨M3, 0, none⟩) rs3.length cap3] 36) := by rw [hw]; exact Blk.new_at (by simp)
    have UY : Hid ((w.heap.size + 2) < (w9.heap.size + 1)) := by have := HC9.out.lt; unfold Hid; omega
    clear hw
    generalize (w9.heap.size + 1) = XY at Y_10 UY  ⊢
    generalize w9.heap.size = XE at E_10 UE  ⊢
    have HS : Hid (∀ w', Blk w' XX #[.int .i64 n, .slice (some ⟨K1, 0, none⟩) key.length kc1, .int .i64 3, .slice (some ⟨M1, 0, none⟩) rs1.length cap1] 36 → Blk w' XY #[.int .i64 n2, .slice (some ⟨K3, 0, none⟩) key2.length kc3, .int .i64 now, .slice (some ⟨M3, 0, none⟩) rs3.length cap3] 36 → w'.cell? ⟨XX, 0, none⟩ = some (.int .i64 n) ∧ w'.cell? ⟨XX, 1, none⟩ = some (.slice (some ⟨K1, 0, none⟩) key.length kc1) ∧ w'.cell? ⟨XX, 2, none⟩ = some (.int .i64 3) ∧ w'.cell? ⟨XX, 3, none⟩ = some (.slice (some ⟨M1, 0, none⟩) rs1.length cap1) ∧ w'.cell? ⟨XY, 0, none⟩ = some (.int .i64 n2) ∧ w'.cell? ⟨XY, 1, none⟩ = some (.slice (some ⟨K3, 0, none⟩) key2.length kc3) ∧ w'.cell? ⟨XY, 2, none⟩ = some (.int .i64 now) ∧ w'.cell? ⟨XY, 3, none⟩ = some (.slice (some ⟨M3, 0, none⟩) rs3.length cap3)) := fun w' hX hY => ⟨hX.cell 0, hX.cell 1, hX.cell 2, hX.cell 3, hY.cell 0, hY.cell 1, hY.cell 2, hY.cell 3⟩
    refine wp_region_held_drew (S := fun w' => w'.cell? ⟨XX, 0, none⟩ = some (.int .i64 n) ∧ w'.cell? ⟨XX, 1, none⟩ = some (.slice (some ⟨K1, 0, none⟩) key.length kc1) ∧ w'.cell? ⟨XX, 2, none⟩ = some (.int .i64 3) ∧ w'.cell? ⟨XX, 3, none⟩ = some (.slice (some ⟨M1, 0, none⟩) rs1.length cap1) ∧ w'.cell? ⟨XY, 0, none⟩ = some (.int .i64 n2) ∧ w'.cell? ⟨XY, 1, none⟩ = some (.slice (some ⟨K3, 0, none⟩) key2.length kc3) ∧ w'.cell? ⟨XY, 2, none⟩ = some (.int .i64 now) ∧ w'.cell? ⟨XY, 3, none⟩ = some (.slice (some ⟨M3, 0, none⟩) rs3.length cap3)) (by kernel_rfl) (HS.out _ X_10.out.drew Y_10.out.drew) (fun hHeld => ?_)
    refine wpAnyH_take (i := 0) (oi := { dst := some 35, op := Op.load 36 (Operand.tmp 7), type := 36, pos := "l11_group.go:130", after := #[], guard := none }) (v := ?vb70) rfl (by kernel_rfl) (by kernel_rfl) (by kernel_rfl) (fun _ _ _ h => h) (Or.inl ⟨by rfl, ?hyb70⟩) hHeld ?_
    case hyb70 => (intro w hSw; (try dsimp only at hSw); go_simp <;> with_reducible rfl)
    try simp only [Act.put, List.setIfInBounds_toArray, List.set_cons_zero, List.set_cons_succ]
    refine wpAnyH_take (i := 1) (oi := { dst := some 36, op := Op.load 36 (Operand.tmp 9), type := 36, pos := "l11_group.go:130", after := #[{ on := 2, ground := Ground.gcOnly Departure.lateStores }], guard := none }) (v := ?vb71) rfl (by kernel_rfl) (by kernel_rfl) (by kernel_rfl) (fun _ _ _ h => h) (Or.inl ⟨by rfl, ?hyb71⟩) hHeld ?_
    case hyb71 => (intro w hSw; (try dsimp only at hSw); go_simp <;> with_reducible rfl)
    try simp only [Act.put, List.setIfInBounds_toArray, List.set_cons_zero, List.set_cons_succ]
    have hk : Kept (w.heap.size + 2) w10 w10.drew := kept_bel (Below.refl _ _).drew
    have hc : Cur w10.drew (w.heap.size + 2) := Cur.drewN HC10.out 1
    have HC11 : Hid (Cur w10.drew (w.heap.size + 2)) := hc
    have HB11 : Hid (Below w.heap.size w w10.drew) := HB10.out.trans (hk.below (by omega) HB10.out.size)
    have R_11 : Hid (Blk w10.drew w.heap.size #[.int .i64 0, .slice none 0 0, .int .i64 0, .slice none 0 0] 36) := blk_kept R_10.out hk (by omega)
    have V_11 : Hid (Blk w10.drew (w.heap.size + 1) #[.int .i64 0, .slice none 0 0, .int .i64 0, .slice none 0 0] 36) := blk_kept V_10.out hk (by omega)
    have G1_11 : Hid (GM2 (w.heap.size + 3) w10.drew K1 M1 cap1 key rs1) := G1_10.out.keep hk (by omega)
    have X_11 : Hid (Blk w10.drew XX #[.int .i64 n, .slice (some ⟨K1, 0, none⟩) key.length kc1, .int .i64 3, .slice (some ⟨M1, 0, none⟩) rs1.length cap1] 36) := blk_kept X_10.out hk (by have := UX.out; omega)
    have G3_11 : Hid (GM2 (w.heap.size + 3) w10.drew K3 M3 cap3 key2 rs3) := G3_10.out.keep hk (by omega)
    have Y_11 : Hid (Blk w10.drew XY #[.int .i64 n2, .slice (some ⟨K3, 0, none⟩) key2.length kc3, .int .i64 now, .slice (some ⟨M3, 0, none⟩) rs3.length cap3] 36) := blk_kept Y_10.out hk (by have := UY.out; omega)
    have HZ11 : Hid (w10.heap.size ≤ w10.drew.heap.size) := hk.size
    clear hk hc
    generalize w10.drew = w11 at HC11 HB11 HZ11 R_11 V_11 G1_11 X_11 G3_11 Y_11 hHeld ⊢
    have hneXR : w.heap.size ≠ XX := by have := UX.out; omega
    have hneXV : w.heap.size + 1 ≠ XX := by have := UX.out; omega
    have hneYR : w.heap.size ≠ XY := by have := UY.out; omega
    have hneYV : w.heap.size + 1 ≠ XY := by have := UY.out; omega
    have r0 : w11.cell? ⟨w.heap.size, 0, none⟩ = some (.int .i64 0) := R_11.out.cell 0
    have fr0 := R_11.out.frozen 0
    have r1 : w11.cell? ⟨w.heap.size, 1, none⟩ = some (.slice none 0 0) := R_11.out.cell 1
    have fr1 := R_11.out.frozen 1
    have r2 : w11.cell? ⟨w.heap.size, 2, none⟩ = some (.int .i64 0) := R_11.out.cell 2
    have fr2 := R_11.out.frozen 2
    have r3 : w11.cell? ⟨w.heap.size, 3, none⟩ = some (.slice none 0 0) := R_11.out.cell 3
    have fr3 := R_11.out.frozen 3
    have v0 : w11.cell? ⟨(w.heap.size + 1), 0, none⟩ = some (.int .i64 0) := V_11.out.cell 0
    have fv0 := V_11.out.frozen 0
    have v1 : w11.cell? ⟨(w.heap.size + 1), 1, none⟩ = some (.slice none 0 0) := V_11.out.cell 1
    have fv1 := V_11.out.frozen 1
    have v2 : w11.cell? ⟨(w.heap.size + 1), 2, none⟩ = some (.int .i64 0) := V_11.out.cell 2
    have fv2 := V_11.out.frozen 2
    have v3 : w11.cell? ⟨(w.heap.size + 1), 3, none⟩ = some (.slice none 0 0) := V_11.out.cell 3
    have fv3 := V_11.out.frozen 3
    refine wpAnyH_ready (rs := [2]) (by kernel_rfl) (by simp) ?_
    refine AllReadyH.cons (o := { dst := none, op := Op.store 36 (Operand.tmp 2) (Operand.tmp 35), type := 0, pos := "l11_group.go:130", after := #[{ on := 0, ground := Ground.data }, { on := 0, ground := Ground.phase }, { on := 1, ground := Ground.textOnly Departure.lateStores }], guard := none }) rfl (fun Kx hK => ?_) AllReadyH.nil
    go_simp
    clear hHeld
    refine hK.out _ _ (HS.out _ ((((X_11.out.set_other hneXR _).set_other hneXR _).set_other hneXR _).set_other hneXR _) ((((Y_11.out.set_other hneYR _).set_other hneYR _).set_other hneYR _).set_other hneYR _)) (fun hHeld => ?_)
    clear hK Kx
    try simp only [Act.put, List.setIfInBounds_toArray, List.set_cons_zero, List.set_cons_succ]
    refine wpAnyH_ready (rs := [3]) (by kernel_rfl) (by simp) ?_
    refine AllReadyH.cons (o := { dst := none, op := Op.store 36 (Operand.tmp 3) (Operand.tmp 36), type := 0, pos := "l11_group.go:130", after := #[{ on := 1, ground := Ground.data }, { on := 2, ground := Ground.chain }, { on := 0, ground := Ground.phase }, { on := 1, ground := Ground.phase }, { on := 2, ground := Ground.phase }], guard := none }) rfl (fun Kx hK => ?_) AllReadyH.nil
    go_simp
    clear hHeld
    refine hK.out _ _ (HS.out _ ((((((((X_11.out.set_other hneXR _).set_other hneXR _).set_other hneXR _).set_other hneXR _).set_other hneXV _).set_other hneXV _).set_other hneXV _).set_other hneXV _) ((((((((Y_11.out.set_other hneYR _).set_other hneYR _).set_other hneYR _).set_other hneYR _).set_other hneYV _).set_other hneYV _).set_other hneYV _).set_other hneYV _)) (fun hHeld => ?_)
    clear hK Kx
    try simp only [Act.put, List.setIfInBounds_toArray, List.set_cons_zero, List.set_cons_succ]
    refine wpAnyH_done (by kernel_rfl) ?_ _
    go_wp2
    have hR : Blk ((((((((w11.setCell ⟨w.heap.size, 0, none⟩ (.int .i64 n)).setCell ⟨w.heap.size, 1, none⟩ (.slice (some ⟨K1, 0, none⟩) key.length kc1)).setCell ⟨w.heap.size, 2, none⟩ (.int .i64 3)).setCell ⟨w.heap.size, 3, none⟩ (.slice (some ⟨M1, 0, none⟩) rs1.length cap1)).setCell ⟨(w.heap.size + 1), 0, none⟩ (.int .i64 n2)).setCell ⟨(w.heap.size + 1), 1, none⟩ (.slice (some ⟨K3, 0, none⟩) key2.length kc3)).setCell ⟨(w.heap.size + 1), 2, none⟩ (.int .i64 now)).setCell ⟨(w.heap.size + 1), 3, none⟩ (.slice (some ⟨M3, 0, none⟩) rs3.length cap3)) w.heap.size #[.int .i64 n, .slice (some ⟨K1, 0, none⟩) key.length kc1, .int .i64 3, .slice (some ⟨M1, 0, none⟩) rs1.length cap1] 36 := ((((((((R_11.out.set 0 _).set 1 _).set 2 _).set 3 _).set_other (p := ⟨(w.heap.size + 1), 0, none⟩) (show (w.heap.size + 1) ≠ w.heap.size by omega) _).set_other (p := ⟨(w.heap.size + 1), 1, none⟩) (show (w.heap.size + 1) ≠ w.heap.size by omega) _).set_other (p := ⟨(w.heap.size + 1), 2, none⟩) (show (w.heap.size + 1) ≠ w.heap.size by omega) _).set_other (p := ⟨(w.heap.size + 1), 3, none⟩) (show (w.heap.size + 1) ≠ w.heap.size by omega) _)
    have zR0 := hR.cell 0
    have zR1 := hR.cell 1
    have zR2 := hR.cell 2
    have zR3 := hR.cell 3
    have hV : Blk ((((((((w11.setCell ⟨w.heap.size, 0, none⟩ (.int .i64 n)).setCell ⟨w.heap.size, 1, none⟩ (.slice (some ⟨K1, 0, none⟩) key.length kc1)).setCell ⟨w.heap.size, 2, none⟩ (.int .i64 3)).setCell ⟨w.heap.size, 3, none⟩ (.slice (some ⟨M1, 0, none⟩) rs1.length cap1)).setCell ⟨(w.heap.size + 1), 0, none⟩ (.int .i64 n2)).setCell ⟨(w.heap.size + 1), 1, none⟩ (.slice (some ⟨K3, 0, none⟩) key2.length kc3)).setCell ⟨(w.heap.size + 1), 2, none⟩ (.int .i64 now)).setCell ⟨(w.heap.size + 1), 3, none⟩ (.slice (some ⟨M3, 0, none⟩) rs3.length cap3)) (w.heap.size + 1) #[.int .i64 n2, .slice (some ⟨K3, 0, none⟩) key2.length kc3, .int .i64 now, .slice (some ⟨M3, 0, none⟩) rs3.length cap3] 36 := ((((((((V_11.out.set_other (p := ⟨w.heap.size, 0, none⟩) (show w.heap.size ≠ (w.heap.size + 1) by omega) _).set_other (p := ⟨w.heap.size, 1, none⟩) (show w.heap.size ≠ (w.heap.size + 1) by omega) _).set_other (p := ⟨w.heap.size, 2, none⟩) (show w.heap.size ≠ (w.heap.size + 1) by omega) _).set_other (p := ⟨w.heap.size, 3, none⟩) (show w.heap.size ≠ (w.heap.size + 1) by omega) _).set 0 _).set 1 _).set 2 _).set 3 _)
    have zV0 := hV.cell 0
    have zV1 := hV.cell 1
    have zV2 := hV.cell 2
    have zV3 := hV.cell 3
    refine bodyPost_ret (v := .tuple #[.agg #[.int .i64 n, .slice (some ⟨K1, 0, none⟩) key.length kc1, .int .i64 3, .slice (some ⟨M1, 0, none⟩) rs1.length cap1], .agg #[.int .i64 n2, .slice (some ⟨K3, 0, none⟩) key2.length kc3, .int .i64 now, .slice (some ⟨M3, 0, none⟩) rs3.length cap3]]) (by simp [results, Try.results17, go_sem, zR0, zR1, zR2, zR3, zV0, zV1, zV2, zV3]) rfl ?_
    exact ⟨⟨n, 3, K1, kc1, M1, cap1, key, pals rs1, n2, now, K3, kc3, M3, cap3, key2, pals rs3, by rw [Rws.pals_len, Rws.pals_len], ((((((((G1_11.out.under (by omega) _ _).under (by omega) _ _).under (by omega) _ _).under (by omega) _ _).under (by omega) _ _).under (by omega) _ _).under (by omega) _ _).under (by omega) _ _).rg F1.out, ((((((((G3_11.out.under (by omega) _ _).under (by omega) _ _).under (by omega) _ _).under (by omega) _ _).under (by omega) _ _).under (by omega) _ _).under (by omega) _ _).under (by omega) _ _).rg F3.out⟩, (set_low (set_low (set_low (set_low (set_low (set_low (set_low (set_low HB11.out (by omega) _ _) (by omega) _ _) (by omega) _ _) (by omega) _ _) (by omega) _ _) (by omega) _ _) (by omega) _ _) (by omega) _ _)⟩
end Go.Proofs.Ytekcmpjjfnijmaa.GrpY
namespace Go.Proofs.Ytekcmpjjfnijmaa.GrpZ
open Go.RowKit
open Labs LabS Alms AlmM AlmS Over Blk Rws ChnI ChnC ChnK DrawC Grp GrpO GrpG GrpJ GrpW GrpX GrpY
open StrB (retB)
open Pro (RdS)

theorem finesP {P : List PAl} (h : Fines P) : LenP P := ChnP.len_m h.lens
theorem RG.kl {w : World} {K M cap : Nat} {key : List Lab} {P : List PAl} (h : RG w K M cap key P) : key.length ≤ 1048576 ∧ key.length ≤ maxLen ∧ P.length ≤ 1048576 := by
  have h1 := h.kf.2; have h2 := h.few; unfold maxLen; exact ⟨by omega, by omega, by omega⟩
theorem DAl.xl {w : World} {g : Nat} {x : PAl} (h : DAl w g x) : x.l.length ≤ 1048576 := by have := h.2.2; omega
theorem retG {n b t : Int} {K kd M o c m m' : Nat} {key : List Lab} (h : m = m') : Ending.returned (.agg #[.int .i64 n, .slice (some ⟨K, 0, none⟩) key.length kd, .int .i64 b, .int .i64 t, .slice (some ⟨M, o, none⟩) m c]) = .returned (.agg #[.int .i64 n, .slice (some ⟨K, 0, none⟩) key.length kd, .int .i64 b, .int .i64 t, .slice (some ⟨M, o, none⟩) m' c]) := by rw [h]
theorem join_has {P JL : List PAl} {x : PAl} (h : joinG P x = JL) : ∃ j, j < JL.length ∧ nthP JL j = x := by
  subst h
  rcases idxTo_cases P x.l P.length with hm | ⟨k, hk, he, hj⟩
  · rw [join_miss hm]
    have hp := pos_le P x.l
    have hl : posG P x.l < (P.take (posG P x.l) ++ x :: P.drop (posG P x.l)).length := by simp; omega
    refine ⟨posG P x.l, hl, ?_⟩
    rw [nthP_eq hl, List.getElem_append_right (by simp; omega)]
    have e : min (posG P x.l) P.length = posG P x.l := by omega
    simp [e]
  · rw [join_hit hj he hk]
    have hl : k < (P.set k x).length := by simpa using hk
    exact ⟨k, hl, by rw [nthP_eq hl, List.getElem_set_self]⟩
theorem join_few {P JL : List PAl} {x : PAl} (h : joinG P x = JL) (hf : Fines P) (hx : Fine x) (h9 : P.length ≤ 9) : Fines JL ∧ JL.length ≤ 10 ∧ JL.length ≤ P.length + 1 := by
  subst h
  have := join_len P x
  exact ⟨fines_join hf hx, by omega, this⟩
theorem left_few {P FL : List PAl} {now : Int} (h : leftTo P now P.length = FL) (hf : Fines P) (h9 : P.length ≤ 9) : Fines FL ∧ FL.length ≤ 9 ∧ ∀ i, i < FL.length → overB (nthP FL i).e now = false := by
  subst h
  have hm : ∀ y ∈ leftTo P now P.length, y ∈ P ∧ overB y.e now = false := fun y hy => by
    have h1 := List.mem_filter.1 hy
    exact ⟨List.mem_of_mem_take h1.1, by simpa using h1.2⟩
  have hl := GrpF.left_le (P := P) (now := now) (Nat.le_refl P.length)
  exact ⟨fun y hy => hf y (hm y hy).1, by omega, fun i hi => (hm _ (nthP_mem hi)).2⟩
theorem implJoinZ {n b t : Int} {K kc M cap gx cx : Nat} {key : List Lab} {P JL : List PAl} {x : PAl} {w : World} (h : RG w K M cap key P) (hx : DAl w gx x) (hJ : joinG P x = JL) :
    Calls Try.prog 11 #[.agg #[.int .i64 n, .slice (some ⟨K, 0, none⟩) key.length kc, .int .i64 b, .int .i64 t, .slice (some ⟨M, 0, none⟩) P.length cap], .agg #[.slice (some ⟨gx, 0, none⟩) x.l.length cx, .int .i64 x.s, .int .i64 x.e, .string x.n]] w fun e w' => (∃ Ke kd M o c, e = .returned (.agg #[.int .i64 n, .slice (some ⟨Ke, 0, none⟩) key.length kd, .int .i64 b, .int .i64 t, .slice (some ⟨M, o, none⟩) JL.length c]) ∧ Reads w' (some ⟨Ke, 0, none⟩) key ∧ RdN w' (some ⟨M, o, none⟩) JL) ∧ Below w.heap.size w w' := by
  subst hJ
  refine (GrpI.implJoin_any n b t K 0 kc key M 0 cap P gx 0 cx x w h.kr (RG.kl h).1 h.pr (RG.kl h).2.2 h.fine.lens h.cap hx.1 (DAl.xl hx)).mono ?_
  rintro e w' ⟨⟨Ke, kd, M', o, c, rs, rfl, hG, hP⟩, hb⟩
  exact ⟨⟨Ke, kd, M', o, c, retG (by rw [← hP, Rws.pals_len]), hG.key.rd, by rw [← hP]; exact hG.row.rd⟩, hb⟩
theorem specJoinZ {n b t : Int} {K kc M cap gx cx : Nat} {key : List Lab} {P JL : List PAl} {x : PAl} {w : World} (h : RG w K M cap key P) (hx : DAl w gx x) (hJ : joinG P x = JL) :
    Calls Try.prog 20 #[.agg #[.int .i64 n, .slice (some ⟨K, 0, none⟩) key.length kc, .int .i64 b, .int .i64 t, .slice (some ⟨M, 0, none⟩) P.length cap], .agg #[.slice (some ⟨gx, 0, none⟩) x.l.length cx, .int .i64 x.s, .int .i64 x.e, .string x.n]] w fun e w' => (∃ Ke kd M o c, e = .returned (.agg #[.int .i64 n, .slice (some ⟨Ke, 0, none⟩) key.length kd, .int .i64 b, .int .i64 t, .slice (some ⟨M, o, none⟩) JL.length c]) ∧ Reads w' (some ⟨Ke, 0, none⟩) key ∧ RdN w' (some ⟨M, o, none⟩) JL) ∧ Below w.heap.size w w' := by
  subst hJ
  refine (specJoin_any n b t K 0 kc key M 0 cap P gx 0 cx x w h.kr (RG.kl h).1 h.pr (RG.kl h).2.2 h.fine.lens h.cap hx.1 (DAl.xl hx)).mono ?_
  rintro e w' ⟨⟨Ke, kd, M', c, rs, rfl, hG, _, hP⟩, hb⟩
  exact ⟨⟨Ke, kd, M', 0, c, retG (by rw [← hP, Rws.pals_len]), hG.key.rd, by rw [← hP]; exact hG.row.rd⟩, hb⟩
theorem retF {n b now : Int} {K kd M o c m m' K2 kd2 M2 o2 c2 m2 m2' : Nat} {key : List Lab} (h : m = m') (h2 : m2 = m2') : Ending.returned (.tuple #[.agg #[.int .i64 n, .slice (some ⟨K, 0, none⟩) key.length kd, .int .i64 b, .int .i64 now, .slice (some ⟨M, o, none⟩) m c], .agg #[.int .i64 n, .slice (some ⟨K2, 0, none⟩) key.length kd2, .int .i64 now, .slice (some ⟨M2, o2, none⟩) m2 c2]]) = .returned (.tuple #[.agg #[.int .i64 n, .slice (some ⟨K, 0, none⟩) key.length kd, .int .i64 b, .int .i64 now, .slice (some ⟨M, o, none⟩) m' c], .agg #[.int .i64 n, .slice (some ⟨K2, 0, none⟩) key.length kd2, .int .i64 now, .slice (some ⟨M2, o2, none⟩) m2' c2]]) := by rw [h, h2]
theorem implFlushZ {n b t now : Int} {K kc M cap : Nat} {key : List Lab} {P FL : List PAl} {w : World} (h : RG w K M cap key P) (hF : leftTo P now P.length = FL) :
    Calls Try.prog 13 #[.agg #[.int .i64 n, .slice (some ⟨K, 0, none⟩) key.length kc, .int .i64 b, .int .i64 t, .slice (some ⟨M, 0, none⟩) P.length cap], .int .i64 now] w fun e w' => (∃ Ke kd M o c K2 kd2 M2 o2 c2, e = .returned (.tuple #[.agg #[.int .i64 n, .slice (some ⟨Ke, 0, none⟩) key.length kd, .int .i64 b, .int .i64 now, .slice (some ⟨M, o, none⟩) FL.length c], .agg #[.int .i64 n, .slice (some ⟨K2, 0, none⟩) key.length kd2, .int .i64 now, .slice (some ⟨M2, o2, none⟩) P.length c2]]) ∧ Reads w' (some ⟨Ke, 0, none⟩) key ∧ RdN w' (some ⟨M, o, none⟩) FL ∧ Reads w' (some ⟨K2, 0, none⟩) key ∧ RdN w' (some ⟨M2, o2, none⟩) P) ∧ Below w.heap.size w w' := by
  subst hF
  refine (GrpI.implFlush_any n b t K 0 kc key _ cap P now w h.kr (RG.kl h).1 h.pr (RG.kl h).2.2 h.fine.lens).mono ?_
  rintro e w' ⟨⟨Ke, kd, M', o, c, rs, K2, kd2, M2, o2, c2, rs2, rfl, hG, hP, hG2, hP2, _⟩, hb⟩
  exact ⟨⟨Ke, kd, M', o, c, K2, kd2, M2, o2, c2, retF (by rw [← hP, Rws.pals_len]) (by rw [← Rws.pals_len, hP2]), hG.key.rd, by rw [← hP]; exact hG.row.rd, hG2.key.rd, by have := hG2.row.rd; rwa [hP2] at this⟩, hb⟩
theorem specFlushZ {n b t now : Int} {K kc M cap : Nat} {key : List Lab} {P FL : List PAl} {w : World} (h : RG w K M cap key P) (hF : leftTo P now P.length = FL) :
    Calls Try.prog 14 #[.agg #[.int .i64 n, .slice (some ⟨K, 0, none⟩) key.length kc, .int .i64 b, .int .i64 t, .slice (some ⟨M, 0, none⟩) P.length cap], .int .i64 now] w fun e w' => (∃ Ke kd M o c K2 kd2 M2 o2 c2, e = .returned (.tuple #[.agg #[.int .i64 n, .slice (some ⟨Ke, 0, none⟩) key.length kd, .int .i64 b, .int .i64 now, .slice (some ⟨M, o, none⟩) FL.length c], .agg #[.int .i64 n, .slice (some ⟨K2, 0, none⟩) key.length kd2, .int .i64 now, .slice (some ⟨M2, o2, none⟩) P.length c2]]) ∧ Reads w' (some ⟨Ke, 0, none⟩) key ∧ RdN w' (some ⟨M, o, none⟩) FL ∧ Reads w' (some ⟨K2, 0, none⟩) key ∧ RdN w' (some ⟨M2, o2, none⟩) P) ∧ Below w.heap.size w w' := by
  subst hF
  refine (GrpF.specFlush_any n b t K 0 kc key _ cap P now w h.kr (RG.kl h).1 h.pr (RG.kl h).2.2 h.fine.lens).mono ?_
  rintro e w' ⟨⟨Ke, kd, M', c, rs, K2, kd2, M2, c2, rs2, rfl, hG, _, hP, hG2, _, hP2⟩, hb⟩
  exact ⟨⟨Ke, kd, M', 0, c, K2, kd2, M2, 0, c2, retF (by rw [← hP, Rws.pals_len]) (by rw [← Rws.pals_len, hP2]), hG.key.rd, by rw [← hP]; exact hG.row.rd, hG2.key.rd, by have := hG2.row.rd; rwa [hP2] at this⟩, hb⟩
theorem same_g {n b t : Int} {key : List Lab} {P : List PAl} : sameG n b t key P n b t key P = true := by unfold sameG; simp [same_refl]
theorem same_b {n b : Int} {key : List Lab} {P : List PAl} : GrpO.sameB n b key P n b key P = true := by unfold GrpO.sameB; simp [same_refl]
theorem sameGZ {n b t : Int} {K K' kc kc' c c' : Nat} {a a' : Option Addr} {key : List Lab} {P : List PAl} {w : World} (hk : Reads w (some ⟨K, 0, none⟩) key) (hk' : Reads w (some ⟨K', 0, none⟩) key) (hkl : key.length ≤ maxLen) (h : RdN w a P) (h' : RdN w a' P) (hl : P.length ≤ 1048576) (hs : LenP P) :
    Calls Try.prog 19 #[.agg #[.int .i64 n, .slice (some ⟨K, 0, none⟩) key.length kc, .int .i64 b, .int .i64 t, .slice a P.length c], .agg #[.int .i64 n, .slice (some ⟨K', 0, none⟩) key.length kc', .int .i64 b, .int .i64 t, .slice a' P.length c']] w fun e w' => e = .returned (.bool true) ∧ Below w.heap.size w w' :=
  (GrpI.implSameG_any n b t n b t _ _ kc kc' key key a a' c c' P P w hk hk' hkl hkl h.rd h'.rd hl hl hs hs).mono fun e w' h => ⟨h.1.trans (retB same_g), h.2⟩
theorem sameBZ {n b : Int} {K K' kc kc' c c' : Nat} {a a' : Option Addr} {key : List Lab} {P : List PAl} {w : World} (hk : Reads w (some ⟨K, 0, none⟩) key) (hk' : Reads w (some ⟨K', 0, none⟩) key) (hkl : key.length ≤ maxLen) (h : RdN w a P) (h' : RdN w a' P) (hl : P.length ≤ 1048576) (hs : LenP P) :
    Calls Try.prog 21 #[.agg #[.int .i64 n, .slice (some ⟨K, 0, none⟩) key.length kc, .int .i64 b, .slice a P.length c], .agg #[.int .i64 n, .slice (some ⟨K', 0, none⟩) key.length kc', .int .i64 b, .slice a' P.length c']] w fun e w' => e = .returned (.bool true) ∧ Below w.heap.size w w' :=
  (GrpI.implSameB_any n b n b _ _ kc kc' key key a a' c c' P P w hk hk' hkl hkl h.rd h'.rd hl hl hs hs).mono fun e w' h => ⟨h.1.trans (retB same_b), h.2⟩
theorem sameListZ {P : List PAl} {a a' : Option Addr} {c c' : Nat} {w : World} (h : RdA w a P) (h' : RdA w a' P) (hl : P.length ≤ 1048576) (hs : LenP P) :
    Calls Try.prog 30 #[.slice a P.length c, .slice a' P.length c'] w fun e w' => e = .returned (.bool true) ∧ Below w.heap.size w w' :=
  (ChnS.sameList_any a a' c c' P P w h h' hl hl hs hs).mono fun e w' h => ⟨h.1.trans (retB (same_refl P)), h.2⟩
end Go.Proofs.Ytekcmpjjfnijmaa.GrpZ
