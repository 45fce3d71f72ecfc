/-
  PROVED: in a drawn region an operation may be taken first where it yields its value in every world that meets S, also where one operation, which waits for it, leaves S (S is asked behind each operation but that one).
-/
import Derived.Test.YtcjhieknmblbbaaApp
import Derived.Deep.RegionHeld3
namespace Go.Proofs.Ytcjhieknmblbbaa.Hld
open Go.RowKit
set_option linter.unusedVariables false
section
variable {P : Program} {md : Region.Mode} {ops : Array Oper} {Q : Exit → Act → World → Prop} {S : World → Prop} {z : Nat}
/-- all orders; S behind each operation but number z -/
def anyL (P : Program) (md : Region.Mode) (ops : Array Oper) (Q : Exit → Act → World → Prop) (S : World → Prop) (z : Nat) (n : Nat) (li : Array Bool) (a : Act) (w : World) : Prop :=
  match n with
  | 0 => Region.ready md ops li = [] ∧ Q .normal a w
  | m + 1 => (Region.ready md ops li = [] → Q .normal a w) ∧ ∀ i, i ∈ Region.ready md ops li → wpOp P ops Q i (fun a' w' => (i ≠ z → S w') ∧ anyL P md ops Q S z m (li.setIfInBounds i true) a' w') a w
theorem anyL_any : ∀ (n : Nat) (li : Array Bool) (a : Act) (w : World), anyL P md ops Q S z n li a w → wpAny P md ops Q n li a w := by
  intro n
  induction n with
  | zero => intro li a w h; exact h
  | succ n ih => intro li a w h; exact ⟨h.1, fun i hi => wpOp_mono (fun a' w' k => ih _ a' w' k.2) (h.2 i hi)⟩
theorem not_listed {li : Array Bool} {i : Nat} {oj : Oper} (hr : i ∈ Region.ready md ops li) (hall : ∀ e ∈ oj.after, Region.binds md e = true → li.getD e.on false = true) : ∀ e ∈ oj.after, Region.binds md e = true → e.on ≠ i := fun e he hb q => by
  have x1 := hall e he hb
  have x0 := (mem_ready.1 hr).1
  rw [q] at x1
  by_cases h : i < li.size
  · simp [h] at x0 x1; rw [x0] at x1; cases x1
  · simp [Array.getElem?_eq_none (Nat.le_of_not_lt h)] at x1
theorem anyL_first {i : Nat} {oi : Oper} {v : Value} (hi : ops[i]? = some oi) (hsel : ∀ (j : Nat) (o : Oper) cs b, ops[j]? = some o → o.op ≠ .select cs b) (hQ : ∀ c a w, Q (.panic c) (a.put oi.dst v) w → Q (.panic c) a w) (hz : ∀ oz, ops[z]? = some oz → ∃ e ∈ oz.after, Region.binds md e = true ∧ e.on = i) (n : Nat) : ∀ (li : Array Bool) (a : Act) (w : World),
    (∀ j oj, ops[j]? = some oj → j ≠ i → li.getD j true = false → (∀ e ∈ oj.after, Region.binds md e = true → e.on ≠ i) → oi.apart ops oj = true) → i ∈ Region.ready md ops li → YieldsIf P ops S oi v a → S w → anyL P md ops Q S z n (li.setIfInBounds i true) (a.put oi.dst v) w → anyL P md ops Q S z (n + 1) li a w := by
  induction n with
  | zero =>
    intro li a w _ hr hy hS H
    refine ⟨fun h => (by rw [h] at hr; cases hr), fun j hj => ?_⟩
    by_cases e : j = i
    · subst e; exact hy.wpOp hi hS ⟨fun _ => hS, H⟩
    · have k := ready_mono hj e
      rw [H.1] at k; cases k
  | succ n ih =>
    intro li a w hfree hr hy hS H
    refine ⟨fun h => (by rw [h] at hr; cases hr), fun j hj => ?_⟩
    by_cases e : j = i
    · subst e; exact hy.wpOp hi hS ⟨fun _ => hS, H⟩
    · obtain ⟨hun, oj, hoj, hall⟩ := mem_ready.1 hj
      have hnot := not_listed (oj := oj) hr hall
      have hjz : j ≠ z := fun q => by
        subst q
        obtain ⟨d, hd, hb, ho⟩ := hz oj hoj
        exact hnot d hd hb ho
      have k := wpOp_putIf (S := S) hoj (hfree j oj hoj e hun hnot) (fun cs b => hsel i oi cs b hi) (fun cs b => hsel j oj cs b hoj) hQ hy (H.2 j (ready_mono hj e))
      refine wpOp_mono (fun a' w' h3 => ?_) k
      have hS' := h3.2.1 hjz
      refine ⟨fun _ => hS', ih (li.setIfInBounds j true) a' w' (fun m om hm hmi hun' hno => hfree m om hm hmi ?_ hno) (ready_mono hr (Ne.symm e)) h3.1 hS' ?_⟩
      · by_cases q : j = m
        · subst q; exact hun
        · rw [getD_set_ne true q] at hun'; exact hun'
      · rw [Array.setIfInBounds_comm _ _ e]
        exact h3.2.2
/-- number z waits for number i -/
def waits (md : Region.Mode) (ops : Array Oper) (z i : Nat) : Bool := (ops[z]?.map fun o => o.after.any fun e => Region.binds md e && e.on == i).getD true
theorem waits_spec {i : Nat} (h : waits md ops z i = true) : ∀ oz, ops[z]? = some oz → ∃ e ∈ oz.after, Region.binds md e = true ∧ e.on = i := fun oz hz => by
  unfold waits at h
  rw [hz] at h
  simp only [Option.map_some, Option.getD_some, Array.any_eq_true, Bool.and_eq_true, beq_iff_eq] at h
  obtain ⟨k, hk, h1, h2⟩ := h
  exact ⟨_, Array.getElem_mem hk, h1, h2⟩
theorem anyL_take {i : Nat} {oi : Oper} {v : Value} {n : Nat} {li : Array Bool} {a : Act} {w : World} (hi : ops[i]? = some oi) (hs : Region.noSelect ops = true) (hf : Region.free md ops li i = true) (hr : (Region.ready md ops li).contains i = true) (hw : waits md ops z i = true) (hQ : ∀ c a w, Q (.panic c) (a.put oi.dst v) w → Q (.panic c) a w) (hy : YieldsIf P ops S oi v a) (hS : S w) (h : anyL P md ops Q S z n (li.setIfInBounds i true) (a.put oi.dst v) w) : anyL P md ops Q S z (n + 1) li a w :=
  anyL_first hi (Region.noSelect_spec hs) hQ (waits_spec hw) n li a w (Region.free_spec hi hf) (by simpa using hr) hy hS h
/-- only number i may come up -/
theorem anyL_only {i : Nat} {n : Nat} {li : Array Bool} {a : Act} {w : World} (hr : Region.ready md ops li = [i]) (h : wpOp P ops Q i (fun a' w' => (i ≠ z → S w') ∧ anyL P md ops Q S z n (li.setIfInBounds i true) a' w') a w) : anyL P md ops Q S z (n + 1) li a w :=
  ⟨fun q => (by rw [hr] at q; cases q), fun j hj => by
    rw [hr] at hj
    have e := List.mem_singleton.1 hj
    subst e
    exact h⟩
theorem anyL_done {li : Array Bool} {a : Act} {w : World} (hr : Region.ready md ops li = []) (h : Q .normal a w) (n : Nat) : anyL P md ops Q S z n li a w := by
  cases n with
  | zero => exact ⟨hr, h⟩
  | succ n => exact ⟨fun _ => h, fun i hi => (by rw [hr] at hi; cases hi)⟩
/-- each of the operations rs may come up next -/
def AllL (P : Program) (md : Region.Mode) (ops : Array Oper) (Q : Exit → Act → World → Prop) (S : World → Prop) (z n : Nat) (li : Array Bool) (a : Act) (w : World) (rs : List Nat) : Prop :=
  ∀ i, i ∈ rs → wpOp P ops Q i (fun a' w' => (i ≠ z → S w') ∧ anyL P md ops Q S z n (li.setIfInBounds i true) a' w') a w
theorem AllL.nil {n : Nat} {li : Array Bool} {a : Act} {w : World} : AllL P md ops Q S z n li a w [] := fun _ h => by cases h
theorem AllL.cons {n : Nat} {li : Array Bool} {a : Act} {w : World} {i : Nat} {o : Oper} {rs : List Nat} (ho : ops[i]? = some o)
    (h : ∀ K : Act → World → Prop, Shut (∀ a w, S w → (S w → anyL P md ops Q S z n (li.setIfInBounds i true) a w) → K a w) → if Region.wanted o (yielded ops a.tmps) = true then Oper.wp P o a w K Q else K (a.put o.dst undef) w)
    (hs : AllL P md ops Q S z n li a w rs) : AllL P md ops Q S z n li a w (i :: rs) := fun j hj => by
  rcases List.mem_cons.1 hj with rfl | hj
  · exact wpOp_step ho (fun K hK => h K (fun a w hS hW => hK a w ⟨fun _ => hS, hW hS⟩))
  · exact hs j hj
/-- the one that leaves S -/
theorem AllL.last {n : Nat} {li : Array Bool} {a : Act} {w : World} {o : Oper} (ho : ops[z]? = some o)
    (h : ∀ K : Act → World → Prop, Shut (∀ a w, anyL P md ops Q S z n (li.setIfInBounds z true) a w → K a w) → if Region.wanted o (yielded ops a.tmps) = true then Oper.wp P o a w K Q else K (a.put o.dst undef) w) : AllL P md ops Q S z n li a w [z] := fun j hj => by
  have e := List.mem_singleton.1 hj
  subst e
  exact wpOp_step ho (fun K hK => h K (fun a w hW => hK a w ⟨fun h => absurd rfl h, hW⟩))
theorem anyL_ready {rs : List Nat} {n : Nat} {li : Array Bool} {a : Act} {w : World} (hr : Region.ready md ops li = rs) (hne : rs ≠ []) (h : AllL P md ops Q S z n li a w rs) : anyL P md ops Q S z (n + 1) li a w :=
  ⟨fun q => absurd (hr.symm.trans q) hne, fun i hi => h i (hr ▸ hi)⟩
theorem wp_region_LH {id : Nat} {a : Act} {w : World} (hm : P.follows .mixedOrders = true) (hS : S w.drew) (h : S w.drew → anyL P .any ops Q S z ops.size (Array.replicate ops.size false) a w.drew) : (Code.region id ops true).wp P Q a w := wp_region_any hm (anyL_any _ _ _ _ (h hS))
theorem wp_region_L {id : Nat} {a : Act} {w : World} (hm : P.follows .mixedOrders = true) (h : anyL P .any ops Q S z ops.size (Array.replicate ops.size false) a w.drew) : (Code.region id ops true).wp P Q a w := wp_region_any hm (anyL_any _ _ _ _ h)
end
end Go.Proofs.Ytcjhieknmblbbaa.Hld
