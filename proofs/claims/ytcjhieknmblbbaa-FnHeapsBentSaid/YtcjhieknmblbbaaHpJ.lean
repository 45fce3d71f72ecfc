/-
  PROVED: impl.Before; the heap's methods Len, Less and Swap over a row of the call's own.
-/
import Derived.Test.YtcjhieknmblbbaaHpA
namespace Go.Proofs.Ytcjhieknmblbbaa.HpJ
open Go.RowKit
open Go.Proofs.Ytcjhieknmblbbaa.Hp Go.Proofs.Ytcjhieknmblbbaa.Tms Go.Proofs.Ytcjhieknmblbbaa.TmO Go.Proofs.Ytcjhieknmblbbaa.TmR Go.Proofs.Ytcjhieknmblbbaa.HpS Go.Proofs.Ytcjhieknmblbbaa.HpA Go.Proofs.Ytcjhieknmblbbaa.Over Go.Proofs.Ytcjhieknmblbbaa.Blk Go.Proofs.Ytcjhieknmblbbaa.App
open Go.Proofs.Ytcjhieknmblbbaa.Mark (Apart)
set_option linter.unusedVariables false
theorem implBefore_any (x y : Tm) (w : World) :
    Calls Try.prog 16 #[.agg #[.int .i64 x.1, .int .i64 x.2], .agg #[.int .i64 y.1, .int .i64 y.2]] w fun e w' => e = .returned (.bool (befB x y)) ∧ Below w.heap.size w w' := by
  obtain ⟨a, b⟩ := x
  obtain ⟨c, d⟩ := y
  by_cases h2 : a = c
  · by_cases h3 : b < d
    · have HL : Hid (befB (a, b) (c, d) = true) := bef_iff.2 (.inr ⟨h2, h3⟩)
      subst h2
      go_enter Try.func16, Try.ntmps16
      go_wp2
      go_ret
      exact ⟨retB HL.out.symm, ((Below.refl _ _).alloc (Nat.le_refl _) _).alloc (by simp) _⟩
    · have HL : Hid (befB (a, b) (c, d) = false) := by unfold Hid; rw [← Bool.not_eq_true, bef_iff]; simp; omega
      subst h2
      go_enter Try.func16, Try.ntmps16
      go_wp2
      go_ret
      exact ⟨retB HL.out.symm, ((Below.refl _ _).alloc (Nat.le_refl _) _).alloc (by simp) _⟩
  · have h4 : (a == c) = false := by simpa using h2
    by_cases h : a < c
    · have HL : Hid (befB (a, b) (c, d) = true) := bef_iff.2 (.inl h)
      go_enter Try.func16, Try.ntmps16
      go_wp2
      go_ret
      exact ⟨retB HL.out.symm, ((Below.refl _ _).alloc (Nat.le_refl _) _).alloc (by simp) _⟩
    · have HL : Hid (befB (a, b) (c, d) = false) := by unfold Hid; rw [← Bool.not_eq_true, bef_iff]; simp; omega
      go_enter Try.func16, Try.ntmps16
      go_wp2
      go_ret
      exact ⟨retB HL.out.symm, ((Below.refl _ _).alloc (Nat.le_refl _) _).alloc (by simp) _⟩

theorem ap_drew {M : Nat} {a w : World} (h : Apart M a w) : Apart M a w.drew := ⟨h.os, h.tape, h.output, h.size, h.block⟩
theorem len_any (a : Option Addr) (n c : Nat) (w : World) :
    Calls Try.prog 51 #[.slice a n c] w fun e w' => e = .returned (.int .i64 n) ∧ w' = w := by
  go_enter Try.func51, Try.ntmps51
  go_wp2
  go_ret
  exact ⟨rfl, rfl⟩

set_option maxHeartbeats 800000 in
theorem less_any (M c : Nat) (l : List Tm) (i j : Nat) (w : World) (h : OT 0 w M c l) (hi : i < l.length) (hj : j < l.length) :
    Calls Try.prog 72 #[.slice (some ⟨M, 0, none⟩) l.length c, .int .i64 i, .int .i64 j] w fun e w' => e = .returned (.bool (befB (nthT l i) (nthT l j))) ∧ Below w.heap.size w w' := by
  obtain ⟨cs, hM, hcs, hh⟩ := h.row
  have hMl := hM.lt
  have hlc := h.le
  have hcap := h.cap
  unfold maxLen at hcap
  have h0 := hh i hi
  have h1 := hh j hj
  have hi' : (i : Int) < (l.length : Int) := by omega
  have hj' : (j : Int) < (l.length : Int) := by omega
  have hne := Grown.some w
  have x0 := fun x : Grown w => x.cell (p := ⟨M, i * 2, none⟩) hMl ((hM.cell _).trans h0.1)
  have x1 := fun x : Grown w => x.cell (p := ⟨M, i * 2 + 1, none⟩) hMl ((hM.cell _).trans h0.2)
  have x2 := fun x : Grown w => x.cell (p := ⟨M, j * 2, none⟩) hMl ((hM.cell _).trans h1.1)
  have x3 := fun x : Grown w => x.cell (p := ⟨M, j * 2 + 1, none⟩) hMl ((hM.cell _).trans h1.2)
  have HC : ∀ w, Hid (Calls Try.prog 16 #[.agg #[.int .i64 (nthT l i).1, .int .i64 (nthT l i).2], .agg #[.int .i64 (nthT l j).1, .int .i64 (nthT l j).2]] w fun e w' => e = .returned (.bool (befB (nthT l i) (nthT l j))) ∧ Below w.heap.size w w') := fun w => implBefore_any (nthT l i) (nthT l j) w
  clear h hM hcs hh h0 h1
  generalize befB (nthT l i) (nthT l j) = bb at *
  go_enter Try.func72, Try.ntmps72
  go_wp2
  refine wp_over (z := w) (by kernel_rfl) (by kernel_rfl) (Below.refl _ _) ?_
  repeat (go_big_quiet_step (first | (go_at_call 16; exact call_over (HC _).out)))
  refine wpQuiet_nil ?_
  intro w2 hw2
  have hb2 := over_bel hw2
  clear hw2 hne
  go_wp2
  go_ret
  exact ⟨rfl, hb2⟩

set_option maxHeartbeats 1600000 in
theorem swap_ne (M c : Nat) (l : List Tm) (i j : Nat) (w : World) (h : OT 0 w M c l) (hi : i < l.length) (hj : j < l.length) (hij : i < j) :
    Calls Try.prog 73 #[.slice (some ⟨M, 0, none⟩) l.length c, .int .i64 i, .int .i64 j] w fun e w' => e = .returned (.tuple #[]) ∧ OT 0 w' M c (swp l i j) ∧ Apart M w w' := by
  have H : Hid (OT 0 w M c l) := h
  obtain ⟨cs, hM, hcs, hh⟩ := h.row
  have HH : Hid (Blk w M cs 26 ∧ cs.size = c * 2 ∧ HeldT cs l l.length) := ⟨hM, hcs, hh⟩
  have HI : Hid (i < l.length ∧ j < l.length ∧ l.length * 2 ≤ cs.size) := ⟨hi, hj, by have := h.le; omega⟩
  have hMl := hM.lt
  have hlc := h.le
  have hcap := h.cap
  unfold maxLen at hcap
  have h0 := hh i hi
  have h1 := hh j hj
  have hi' : (i : Int) < (l.length : Int) := by omega
  have hj' : (j : Int) < (l.length : Int) := by omega
  have c0 : w.cell? ⟨M, i * 2, none⟩ = some (.int .i64 (nthT l i).1) := (hM.cell _).trans h0.1
  have c1 : w.cell? ⟨M, i * 2 + 1, none⟩ = some (.int .i64 (nthT l i).2) := (hM.cell _).trans h0.2
  have c2 : w.cell? ⟨M, j * 2, none⟩ = some (.int .i64 (nthT l j).1) := (hM.cell _).trans h1.1
  have c3 : w.cell? ⟨M, j * 2 + 1, none⟩ = some (.int .i64 (nthT l j).2) := (hM.cell _).trans h1.2
  have f0 := hM.frozen (i * 2)
  have f1 := hM.frozen (i * 2 + 1)
  have f2 := hM.frozen (j * 2)
  have f3 := hM.frozen (j * 2 + 1)
  clear h hM hcs hh h0 h1
  go_enter Try.func73, Try.ntmps73
  go_wp2
  go_region
  go_wp2
  go_end0
  exact ⟨rfl, ⟨H.out.lo, by rw [swp_len]; exact H.out.le, H.out.cap, swpC cs l i j, (((HH.out.1.set _ _).set _ _).set _ _).set _ _, by rw [swpC_size]; exact HH.out.2.1, swpC_held HH.out.2.2 HI.out.1 HI.out.2.1 HI.out.2.2⟩, ap_drew (((((Apart.refl M w).setCell _ _).setCell _ _).setCell _ _).setCell _ _)⟩
set_option maxHeartbeats 1600000 in
theorem swap_eq (M c : Nat) (l : List Tm) (i : Nat) (w : World) (h : OT 0 w M c l) (hi : i < l.length) :
    Calls Try.prog 73 #[.slice (some ⟨M, 0, none⟩) l.length c, .int .i64 i, .int .i64 i] w fun e w' => e = .returned (.tuple #[]) ∧ OT 0 w' M c (swp l i i) ∧ Apart M w w' := by
  have H : Hid (OT 0 w M c l) := h
  obtain ⟨cs, hM, hcs, hh⟩ := h.row
  have HH : Hid (Blk w M cs 26 ∧ cs.size = c * 2 ∧ HeldT cs l l.length) := ⟨hM, hcs, hh⟩
  have HI : Hid (i < l.length ∧ i < l.length ∧ l.length * 2 ≤ cs.size) := ⟨hi, hi, by have := h.le; omega⟩
  have hMl := hM.lt
  have hlc := h.le
  have hcap := h.cap
  unfold maxLen at hcap
  have h0 := hh i hi
  have hi' : (i : Int) < (l.length : Int) := by omega
  have c0 : w.cell? ⟨M, i * 2, none⟩ = some (.int .i64 (nthT l i).1) := (hM.cell _).trans h0.1
  have c1 : w.cell? ⟨M, i * 2 + 1, none⟩ = some (.int .i64 (nthT l i).2) := (hM.cell _).trans h0.2
  have f0 := hM.frozen (i * 2)
  have f1 := hM.frozen (i * 2 + 1)
  clear h hM hcs hh h0
  go_enter Try.func73, Try.ntmps73
  go_wp2
  go_region
  go_wp2
  go_end0
  exact ⟨rfl, ⟨H.out.lo, by rw [swp_len]; exact H.out.le, H.out.cap, swpC cs l i i, (((HH.out.1.set _ _).set _ _).set _ _).set _ _, by rw [swpC_size]; exact HH.out.2.1, swpC_held HH.out.2.2 HI.out.1 HI.out.2.1 HI.out.2.2⟩, ap_drew (((((Apart.refl M w).setCell _ _).setCell _ _).setCell _ _).setCell _ _)⟩

theorem swap_any (M c : Nat) (l : List Tm) (i j : Nat) (w : World) (h : OT 0 w M c l) (hj : j < l.length) (hij : i ≤ j) :
    Calls Try.prog 73 #[.slice (some ⟨M, 0, none⟩) l.length c, .int .i64 i, .int .i64 j] w fun e w' => e = .returned (.tuple #[]) ∧ OT 0 w' M c (swp l i j) ∧ Apart M w w' := by
  rcases Nat.lt_or_eq_of_le hij with e | rfl
  · exact swap_ne M c l i j w h (by omega) hj e
  · exact swap_eq M c l i w h hj
/-- a method with a receiver by value, through a pointer that an interface holds -/
theorem wrapchk {P : Program} (xt : TypeId) (a : Addr) (s m : String) (w : World) : (Builtin.ssaWrapNilChk_ #[xt] xt #[.pointer (some a), strVal s, strVal m]).run P w = .ok (.pointer (some a)) w := rfl
theorem meth_val {P : Program} (fuel : Nat) (T E : TypeId) (B : Nat) (name : String) (F : FuncId) (s : Value) (w : World) (hp : ((P.info? T).bind fun i => i.methods.find? (·.name == name)).map (fun m => (m.path.toList, m.func)) = some ([], some (F, false))) (hu : P.underlying T = some (.pointer E)) (hl : (loadVar E ⟨B, 0, none⟩).run P w = .ok s w) :
    (method (fuel + 1) T (.pointer (some ⟨B, 0, none⟩)) name).run P w = .ok (F, s) w := by
  cases hi : P.info? T with
  | none => rw [hi] at hp; cases hp
  | some i =>
    rw [hi] at hp
    cases hm : i.methods.find? (·.name == name) with
    | none => simp [hm] at hp
    | some m =>
      simp only [Option.bind_some, hm, Option.map_some, Option.some.injEq, Prod.mk.injEq] at hp
      obtain ⟨h1, h2⟩ := hp
      have h0 : m.path = #[] := Array.toList_eq_nil_iff.1 h1
      simp [method, typeInfo, hi, hm, h0, h2, follow, receiverAt, run_underlying hu, Place.get, wrapchk, asAddr, hl, Result.andThen]
/-- a method with a pointer receiver -/
theorem meth_ptr {P : Program} (fuel : Nat) (T E : TypeId) (B : Nat) (name : String) (F : FuncId) (w : World) (hp : ((P.info? T).bind fun i => i.methods.find? (·.name == name)).map (fun m => (m.path.toList, m.func)) = some ([], some (F, true))) (hu : P.underlying T = some (.pointer E)) :
    (method (fuel + 1) T (.pointer (some ⟨B, 0, none⟩)) name).run P w = .ok (F, .pointer (some ⟨B, 0, none⟩)) w := by
  cases hi : P.info? T with
  | none => rw [hi] at hp; cases hp
  | some i =>
    rw [hi] at hp
    cases hm : i.methods.find? (·.name == name) with
    | none => simp [hm] at hp
    | some m =>
      simp only [Option.bind_some, hm, Option.map_some, Option.some.injEq, Prod.mk.injEq] at hp
      obtain ⟨h1, h2⟩ := hp
      have h0 : m.path = #[] := Array.toList_eq_nil_iff.1 h1
      simp [method, typeInfo, hi, hm, h0, h2, follow, receiverAt, run_underlying hu, Place.get, Result.andThen]
theorem load_var (B : Nat) (s : Value) (w : World) (h : w.cell? ⟨B, 0, none⟩ = some s) : (loadVar 55 ⟨B, 0, none⟩).run Try.prog w = .ok s w := by
  simp [loadVar, h, go_sem]
theorem meth_len (B : Nat) (s : Value) (w : World) (h : w.cell? ⟨B, 0, none⟩ = some s) : ∀ fuel, (method (fuel + 1) 67 (.pointer (some ⟨B, 0, none⟩)) "Len").run Try.prog w = .ok (51, s) w := fun fuel => meth_val fuel 67 55 B "Len" 51 s w (by kernel_rfl) (by kernel_rfl) (load_var B s w h)
theorem meth_less (B : Nat) (s : Value) (w : World) (h : w.cell? ⟨B, 0, none⟩ = some s) : ∀ fuel, (method (fuel + 1) 67 (.pointer (some ⟨B, 0, none⟩)) "Less").run Try.prog w = .ok (72, s) w := fun fuel => meth_val fuel 67 55 B "Less" 72 s w (by kernel_rfl) (by kernel_rfl) (load_var B s w h)
theorem meth_swap (B : Nat) (s : Value) (w : World) (h : w.cell? ⟨B, 0, none⟩ = some s) : ∀ fuel, (method (fuel + 1) 67 (.pointer (some ⟨B, 0, none⟩)) "Swap").run Try.prog w = .ok (73, s) w := fun fuel => meth_val fuel 67 55 B "Swap" 73 s w (by kernel_rfl) (by kernel_rfl) (load_var B s w h)
theorem meth_push (B : Nat) (w : World) : ∀ fuel, (method (fuel + 1) 67 (.pointer (some ⟨B, 0, none⟩)) "Push").run Try.prog w = .ok (75, .pointer (some ⟨B, 0, none⟩)) w := fun fuel => meth_ptr fuel 67 55 B "Push" 75 w (by kernel_rfl) (by kernel_rfl)
theorem meth_pop (B : Nat) (w : World) : ∀ fuel, (method (fuel + 1) 67 (.pointer (some ⟨B, 0, none⟩)) "Pop").run Try.prog w = .ok (74, .pointer (some ⟨B, 0, none⟩)) w := fun fuel => meth_ptr fuel 67 55 B "Pop" 74 w (by kernel_rfl) (by kernel_rfl)
theorem assert_tm (v : Value) (xT : TypeId) (w : World) : (Instr.typeAssert (.iface 26 v) xT 26 true).run Try.prog w = .ok (.tuple #[v, .bool true]) w := by kernel_rfl
theorem apart_grown {M : Nat} {w w' : World} (h : w.grownBy w' (some M)) : Apart M w w' := ⟨h.os, h.tape, h.output, h.size, fun k hk hM => h.block k hk (fun e => hM (Option.some.inj e))⟩
theorem ne_blk {w : World} {M N : Nat} {cs ds : Array Value} {T U : TypeId} (h : Blk w M cs T) (k : Blk w N ds U) (hT : T ≠ U) : M ≠ N := fun e => by
  subst e
  unfold Blk at h k
  rw [h] at k
  cases k
  exact hT rfl
theorem ne_var {w : World} {lo B M c : Nat} {l : List Tm} {cs : Array Value} {T : TypeId} (h : OT lo w M c l) (k : Blk w B cs T) (hT : T ≠ 26) : B ≠ M := by
  obtain ⟨ds, h1, _⟩ := h.row
  exact ne_blk k h1 hT
/-- the row stays where another block's cell is written -/
theorem ot_var {w : World} {lo B M c : Nat} {l : List Tm} {cs : Array Value} {T : TypeId} (h : OT lo w M c l) (k : Blk w B cs T) (hT : T ≠ 26) (i : Nat) (v : Value) : OT lo (w.setCell ⟨B, i, none⟩ v) M c l := by
  have hn := ne_var h k hT
  obtain ⟨ds, h1, h2⟩ := h.row
  exact ⟨h.lo, h.le, h.cap, ds, h1.set_other (by exact hn) _, h2⟩
end Go.Proofs.Ytcjhieknmblbbaa.HpJ
