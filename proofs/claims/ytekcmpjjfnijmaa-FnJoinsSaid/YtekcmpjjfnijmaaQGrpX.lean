/-
  PROVED: in a drawn region an operation may be taken first where it yields its value in every world that meets S, also where one operation, which waits for it, leaves S (S is asked behind each operation but that one).
  PROVED: the contracts of the drawing of names and of lists of alarms: l5By, l5Any, l5List, and of the draws that FnKeys begins with; nothing that was there is changed.
  PROVED: over two alarms and a slice of strings in memory spec.Together and impl.Together answer alike: whether both have the same labels by these names; nothing that was there is changed.
  PROVED: the contract of spec.l11Draw: a group with a few small alarms in memory of its own; nothing that was there is changed but the cursor.
  PROVED: the contract of spec.l11Any: a group, right or bent, in memory of its own; nothing that was there is changed but the cursor.
-/
import Derived.Test.YtekcmpjjfnijmaaQApp
import Derived.Deep.RegionHeld3
import Derived.Test.YtekcmpjjfnijmaaQLsD
import Derived.Test.YtekcmpjjfnijmaaQPro
import Derived.Test.YtekcmpjjfnijmaaQLst
import Derived.Test.YtekcmpjjfnijmaaQAlm
import Derived.Test.YtekcmpjjfnijmaaQGrpJ
set_option linter.unusedVariables false
namespace Go.Proofs.Ytekcmpjjfnijmaa.Hld
open Go.RowKit
section
variable {P : Program} {md : Region.Mode} {ops : Array Oper} {Q : Exit → Act → World → Prop} {S : World → Prop} {z : Nat}
def anyL (P : Program) (md : Region.Mode) (ops : Array Oper) (Q : Exit → Act → World → Prop) (S : World → Prop) (z : Nat) (n : Nat) (li : Array Bool) (a : Act) (w : World) : Prop :=
  match n with
  | 0 => Region.ready md ops li = [] ∧ Q .normal a w
  | m + 1 => (Region.ready md ops li = [] → Q .normal a w) ∧ ∀ i, i ∈ Region.ready md ops li → wpOp P ops Q i (fun a' w' => (i ≠ z → S w') ∧ anyL P md ops Q S z m (li.setIfInBounds i true) a' w') a w
theorem anyL_any : ∀ (n : Nat) (li : Array Bool) (a : Act) (w : World), anyL P md ops Q S z n li a w → wpAny P md ops Q n li a w := by
  intro n
  induction n with
  | zero => intro li a w h; exact h
  | succ n ih => intro li a w h; exact ⟨h.1, fun i hi => wpOp_mono (fun a' w' k => ih _ a' w' k.2) (h.2 i hi)⟩
theorem not_listed {li : Array Bool} {i : Nat} {oj : Oper} (hr : i ∈ Region.ready md ops li) (hall : ∀ e ∈ oj.after, Region.binds md e = true → li.getD e.on false = true) : ∀ e ∈ oj.after, Region.binds md e = true → e.on ≠ i := fun e he hb q => by
  have x1 := hall e he hb
  have x0 := (mem_ready.1 hr).1
  rw [q] at x1
  by_cases h : i < li.size
  · simp [h] at x0 x1; rw [x0] at x1; cases x1
  · simp [Array.getElem?_eq_none (Nat.le_of_not_lt h)] at x1
theorem anyL_first {i : Nat} {oi : Oper} {v : Value} (hi : ops[i]? = some oi) (hsel : ∀ (j : Nat) (o : Oper) cs b, ops[j]? = some o → o.op ≠ .select cs b) (hQ : ∀ c a w, Q (.panic c) (a.put oi.dst v) w → Q (.panic c) a w) (hz : ∀ oz, ops[z]? = some oz → ∃ e ∈ oz.after, Region.binds md e = true ∧ e.on = i) (n : Nat) : ∀ (li : Array Bool) (a : Act) (w : World),
    (∀ j oj, ops[j]? = some oj → j ≠ i → li.getD j true = false → (∀ e ∈ oj.after, Region.binds md e = true → e.on ≠ i) → oi.apart ops oj = true) → i ∈ Region.ready md ops li → YieldsIf P ops S oi v a → S w → anyL P md ops Q S z n (li.setIfInBounds i true) (a.put oi.dst v) w → anyL P md ops Q S z (n + 1) li a w := by
  induction n with
  | zero =>
    intro li a w _ hr hy hS H
    refine ⟨fun h => (by rw [h] at hr; cases hr), fun j hj => ?_⟩
    by_cases e : j = i
    · subst e; exact hy.wpOp hi hS ⟨fun _ => hS, H⟩
    · have k := ready_mono hj e
      rw [H.1] at k; cases k
  | succ n ih =>
    intro li a w hfree hr hy hS H
    refine ⟨fun h => (by rw [h] at hr; cases hr), fun j hj => ?_⟩
    by_cases e : j = i
    · subst e; exact hy.wpOp hi hS ⟨fun _ => hS, H⟩
    · obtain ⟨hun, oj, hoj, hall⟩ := mem_ready.1 hj
      have hnot := not_listed (oj := oj) hr hall
      have hjz : j ≠ z := fun q => by
        subst q
        obtain ⟨d, hd, hb, ho⟩ := hz oj hoj
        exact hnot d hd hb ho
      have k := wpOp_putIf (S := S) hoj (hfree j oj hoj e hun hnot) (fun cs b => hsel i oi cs b hi) (fun cs b => hsel j oj cs b hoj) hQ hy (H.2 j (ready_mono hj e))
      refine wpOp_mono (fun a' w' h3 => ?_) k
      have hS' := h3.2.1 hjz
      refine ⟨fun _ => hS', ih (li.setIfInBounds j true) a' w' (fun m om hm hmi hun' hno => hfree m om hm hmi ?_ hno) (ready_mono hr (Ne.symm e)) h3.1 hS' ?_⟩
      · by_cases q : j = m
        · subst q; exact hun
        · rw [getD_set_ne true q] at hun'; exact hun'
      · rw [Array.setIfInBounds_comm _ _ e]
        exact h3.2.2
def waits (md : Region.Mode) (ops : Array Oper) (z i : Nat) : Bool := (ops[z]?.map fun o => o.after.any fun e => Region.binds md e && e.on == i).getD true
theorem waits_spec {i : Nat} (h : waits md ops z i = true) : ∀ oz, ops[z]? = some oz → ∃ e ∈ oz.after, Region.binds md e = true ∧ e.on = i := fun oz hz => by
  unfold waits at h
  rw [hz] at h
  simp only [Option.map_some, Option.getD_some, Array.any_eq_true, Bool.and_eq_true, beq_iff_eq] at h
  obtain ⟨k, hk, h1, h2⟩ := h
  exact ⟨_, Array.getElem_mem hk, h1, h2⟩
theorem anyL_take {i : Nat} {oi : Oper} {v : Value} {n : Nat} {li : Array Bool} {a : Act} {w : World} (hi : ops[i]? = some oi) (hs : Region.noSelect ops = true) (hf : Region.free md ops li i = true) (hr : (Region.ready md ops li).contains i = true) (hw : waits md ops z i = true) (hQ : ∀ c a w, Q (.panic c) (a.put oi.dst v) w → Q (.panic c) a w) (hy : YieldsIf P ops S oi v a) (hS : S w) (h : anyL P md ops Q S z n (li.setIfInBounds i true) (a.put oi.dst v) w) : anyL P md ops Q S z (n + 1) li a w :=
  anyL_first hi (Region.noSelect_spec hs) hQ (waits_spec hw) n li a w (Region.free_spec hi hf) (by simpa using hr) hy hS h
theorem anyL_done {li : Array Bool} {a : Act} {w : World} (hr : Region.ready md ops li = []) (h : Q .normal a w) (n : Nat) : anyL P md ops Q S z n li a w := by
  cases n with
  | zero => exact ⟨hr, h⟩
  | succ n => exact ⟨fun _ => h, fun i hi => (by rw [hr] at hi; cases hi)⟩
def AllL (P : Program) (md : Region.Mode) (ops : Array Oper) (Q : Exit → Act → World → Prop) (S : World → Prop) (z n : Nat) (li : Array Bool) (a : Act) (w : World) (rs : List Nat) : Prop :=
  ∀ i, i ∈ rs → wpOp P ops Q i (fun a' w' => (i ≠ z → S w') ∧ anyL P md ops Q S z n (li.setIfInBounds i true) a' w') a w
theorem AllL.nil {n : Nat} {li : Array Bool} {a : Act} {w : World} : AllL P md ops Q S z n li a w [] := fun _ h => by cases h
theorem AllL.cons {n : Nat} {li : Array Bool} {a : Act} {w : World} {i : Nat} {o : Oper} {rs : List Nat} (ho : ops[i]? = some o)
    (h : ∀ K : Act → World → Prop, Shut (∀ a w, S w → (S w → anyL P md ops Q S z n (li.setIfInBounds i true) a w) → K a w) → if Region.wanted o (yielded ops a.tmps) = true then Oper.wp P o a w K Q else K (a.put o.dst undef) w)
    (hs : AllL P md ops Q S z n li a w rs) : AllL P md ops Q S z n li a w (i :: rs) := fun j hj => by
  rcases List.mem_cons.1 hj with rfl | hj
  · exact wpOp_step ho (fun K hK => h K (fun a w hS hW => hK a w ⟨fun _ => hS, hW hS⟩))
  · exact hs j hj
theorem AllL.last {n : Nat} {li : Array Bool} {a : Act} {w : World} {o : Oper} (ho : ops[z]? = some o)
    (h : ∀ K : Act → World → Prop, Shut (∀ a w, anyL P md ops Q S z n (li.setIfInBounds z true) a w → K a w) → if Region.wanted o (yielded ops a.tmps) = true then Oper.wp P o a w K Q else K (a.put o.dst undef) w) : AllL P md ops Q S z n li a w [z] := fun j hj => by
  have e := List.mem_singleton.1 hj
  subst e
  exact wpOp_step ho (fun K hK => h K (fun a w hW => hK a w ⟨fun h => absurd rfl h, hW⟩))
theorem anyL_ready {rs : List Nat} {n : Nat} {li : Array Bool} {a : Act} {w : World} (hr : Region.ready md ops li = rs) (hne : rs ≠ []) (h : AllL P md ops Q S z n li a w rs) : anyL P md ops Q S z (n + 1) li a w :=
  ⟨fun q => absurd (hr.symm.trans q) hne, fun i hi => h i (hr ▸ hi)⟩
theorem wp_region_LH {id : Nat} {a : Act} {w : World} (hm : P.follows .mixedOrders = true) (hS : S w.drew) (h : S w.drew → anyL P .any ops Q S z ops.size (Array.replicate ops.size false) a w.drew) : (Code.region id ops true).wp P Q a w := wp_region_any hm (anyL_any _ _ _ _ (h hS))
end
end Go.Proofs.Ytekcmpjjfnijmaa.Hld
namespace Go.Proofs.Ytekcmpjjfnijmaa.DrawK
open Go.RowKit
open Draw
open Labs LabS Over Blk App DrawL DrawT DrawA DrawB
open Pro (RdS nthS)
open LabT (Held held_reads)
open Alms (PAl nthP RdA FitsP FitA sumL At nthP_eq infoA)
open StrT (FitsS)

structure SSt (w : World) (c : Nat) (wr : World) (v : Value) (xs : List ByteArray) : Prop where
  own : wr.ownsRow w.heap.size 9 1 v xs.length (xs.map Value.string)
  lies : ∃ g cap, v = .slice (some ⟨g, 0, none⟩) xs.length cap
  cur : Cur wr c
  kept : Kept c w wr
  clt : c < w.heap.size
  fit : ∀ s ∈ xs, s.size ≤ 100
theorem SSt.lt {w : World} {c : Nat} {wr : World} {v : Value} {xs : List ByteArray} (h : SSt w c wr v xs) : ∀ k, v.ownBlock = some k → c < k := fun k hk => by
  have := (h.own.lt k hk).1; have := h.clt; omega
theorem SSt.keep {w : World} {c : Nat} {wr w' : World} {v : Value} {xs : List ByteArray} (h : SSt w c wr v xs) (hc : Cur w' c) (hk : Kept c wr w') : SSt w c w' v xs :=
  ⟨h.own.kept hk.grown (by
      cases hv : v.ownBlock with
      | none => exact .inl rfl
      | some k => exact .inr (fun e => by have := h.lt k hv; cases e; omega)), h.lies, hc, h.kept.trans hk, h.clt, h.fit⟩
theorem SSt.alloc {w : World} {c : Nat} {wr : World} {v : Value} {xs : List ByteArray} (h : SSt w c wr v xs) (o : Obj) : SSt w c (wr.alloc o) v xs :=
  h.keep (h.cur.alloc o) ((Kept.refl c wr).alloc o)
theorem sst_new {w : World} {c : Nat} {W : World} (xs : List ByteArray) (cs : Array Value) (n : Nat) (hc : Cur W c) (hk : Kept c w W) (hcl : c < w.heap.size) (he : cs.toList = xs.map Value.string) (hn : n = xs.length) (h5 : xs.length ≤ 5) (hf : ∀ s ∈ xs, s.size ≤ 100) :
    SSt w c (W.alloc (.cells cs 9)) (.slice (some ⟨W.heap.size, 0, none⟩) n n) xs := by
  subst hn
  have hs : cs.size = xs.length := by rw [← Array.length_toList, he, List.length_map]
  refine ⟨⟨by simp, .inr ⟨W.heap.size, xs.length, cs, rfl, hk.size, Blk.new _ _ _, Nat.le_refl _, by unfold maxLen; omega, by omega, ?_⟩⟩, ⟨_, _, rfl⟩, hc.alloc _, hk.alloc _, hcl, hf⟩
  rw [he]
  exact List.take_of_length_le (by simp)
theorem SSt.add {w : World} {c : Nat} {W w' : World} {v v' : Value} {xs : List ByteArray} {s : ByteArray} (h : SSt w c W v xs) (hs : s.size ≤ 100)
    (hown : w'.ownsRow w.heap.size 9 1 v' (xs.length + 1) (xs.map Value.string ++ [.string s])) (hg : W.grownBy w' v.ownBlock) : SSt w c w' v' (xs ++ [s]) := by
  have ho : w'.ownsRow w.heap.size 9 1 v' (xs ++ [s]).length ((xs ++ [s]).map Value.string) := by rw [List.map_append, List.length_append]; exact hown
  obtain ⟨g, cap, e⟩ := Go.Joins.ownsRow_form ho (by simp)
  refine ⟨ho, ⟨g, cap, e⟩, h.cur.grown hg h.lt, kept_grown (B := 0) h.kept hg (fun k hk => (h.own.lt k hk).1), h.clt, fun x hx => ?_⟩
  rcases List.mem_append.1 hx with hx | hx
  · exact h.fit x hx
  · rw [List.mem_singleton.1 hx]; exact hs
theorem SSt.reads {w : World} {c : Nat} {wr : World} {g cap : Nat} {xs : List ByteArray} {n : Nat} (h : SSt w c wr (.slice (some ⟨g, 0, none⟩) n cap) xs) : RdS wr (some ⟨g, 0, none⟩) xs := by
  refine .inr ⟨g, 0, rfl, (h.own.lt g rfl).2, fun i hi => ?_⟩
  have hx : (xs.map Value.string)[i]? = some (.string (nthS xs i)) := by
    show _ = some (Value.string (Go.Proofs.Ytekcmpjjfnijmaa.StrB.nth xs i))
    rw [StrT.nthS_eq hi]; simp [hi]
  have hc := h.own.cells (g := g) rfl i _ hx
  have ea : (⟨g, 0, none⟩ : Addr).add i = ⟨g, 0 + i, none⟩ := by by_cases h : i = 0 <;> simp [Addr.add, h]
  rw [← ea]; exact hc
theorem SSt.fits {w : World} {c : Nat} {wr : World} {v : Value} {xs : List ByteArray} (h : SSt w c wr v xs) : FitsS xs := fun i hi => by
  rw [StrT.nthS_eq hi]
  have := h.fit _ (List.getElem_mem hi)
  unfold maxLen; omega
set_option maxHeartbeats 800000 in
theorem l5By_any (c : Nat) (w : World) (hc : Cur w c) :
    Calls Try.prog 50 #[.pointer (some ⟨c, 0, none⟩)] w fun e w' => ∃ v, e = .returned v ∧ ∃ xs, SSt w c w' v xs ∧ xs.length ≤ 2 := by
  have HC : Hid (Cur w c) := hc
  have HL : Hid (c < w.heap.size) := hc.lt
  clear hc
  go_enter Try.func50, Try.ntmps50
  go_wp2_with fail
  refine (below_any c 5 _ HC.out (by decide) (by decide)).mono ?_
  rintro e w1 ⟨⟨x, rfl, hx0, hx1⟩, hc1, hk1⟩
  have HS : Hid (Cur w1 c ∧ Kept c w w1) := ⟨hc1, hk1⟩
  clear hc1 hk1
  by_cases e0 : x = 0
  · subst e0
    go_wp2
    go_ret
    exact ⟨_, rfl, [], sst_new [] #[] 0 HS.out.1 HS.out.2 HL.out rfl rfl (by simp) (fun s hs => by simp at hs), by simp⟩
  have d0 : (x == 0) = false := by simpa using e0
  by_cases e1 : x = 1
  · subst e1
    go_wp2
    go_ret
    exact ⟨_, rfl, [⟨#[97, 112, 112]⟩, ⟨#[115, 101, 118]⟩], sst_new [⟨#[97, 112, 112]⟩, ⟨#[115, 101, 118]⟩] #[.string ⟨#[97, 112, 112]⟩, .string ⟨#[115, 101, 118]⟩] 2 HS.out.1 HS.out.2 HL.out rfl rfl (by simp) (fun s hs => by
      simp only [List.mem_cons, List.not_mem_nil, or_false] at hs
      rcases hs with rfl | rfl <;> decide), by simp⟩
  have d1 : (x == 1) = false := by simpa using e1
  by_cases e2 : x = 2
  · subst e2
    go_wp2
    go_ret
    exact ⟨_, rfl, [⟨#[104, 111, 115, 116]⟩], sst_new [⟨#[104, 111, 115, 116]⟩] #[.string ⟨#[104, 111, 115, 116]⟩] 1 HS.out.1 HS.out.2 HL.out rfl rfl (by simp) (fun s hs => by
      simp only [List.mem_cons, List.not_mem_nil, or_false] at hs
      rcases hs with rfl; decide), by simp⟩
  have d2 : (x == 2) = false := by simpa using e2
  go_wp2
  go_ret
  exact ⟨_, rfl, [⟨#[97, 112, 112]⟩], sst_new [⟨#[97, 112, 112]⟩] #[.string ⟨#[97, 112, 112]⟩] 1 HS.out.1 HS.out.2 HL.out rfl rfl (by simp) (fun s hs => by
      simp only [List.mem_cons, List.not_mem_nil, or_false] at hs
      rcases hs with rfl; decide), by simp⟩

abbrev ARow := Nat × Nat × PAl
def flatA : List ARow → List Value
  | [] => []
  | x :: l => .slice (some ⟨x.1, 0, none⟩) x.2.2.l.length x.2.1 :: .int .i64 x.2.2.s :: .int .i64 x.2.2.e :: .string x.2.2.n :: flatA l
theorem flatA_len : ∀ l : List ARow, (flatA l).length = l.length * 4
  | [] => rfl
  | x :: l => by simp only [flatA, List.length_cons]; rw [flatA_len l]; omega
theorem flatA_app (p q : List ARow) : flatA (p ++ q) = flatA p ++ flatA q := by
  induction p with
  | nil => rfl
  | cons x p ih => rw [List.cons_append, flatA, ih]; rfl
theorem flatA_one : ∀ (l : List ARow), ∀ v ∈ flatA l, v.oneCell' = true
  | [], v, h => by simp [flatA] at h
  | x :: l, v, h => by
    simp only [flatA, List.mem_cons] at h
    rcases h with rfl | rfl | rfl | rfl | h
    · rfl
    · rfl
    · rfl
    · rfl
    · exact flatA_one l v h
def nthA (l : List ARow) (i : Nat) : ARow := l.getD i (0, 0, ⟨[], 0, 0, ByteArray.empty⟩)
theorem nthA_eq {l : List ARow} {i : Nat} (h : i < l.length) : nthA l i = l[i] := by unfold nthA; simp [h]
theorem flatA_get : ∀ (l : List ARow) (m : Nat), m < l.length → (flatA l)[m * 4]? = some (.slice (some ⟨(nthA l m).1, 0, none⟩) (nthA l m).2.2.l.length (nthA l m).2.1) ∧ (flatA l)[m * 4 + 1]? = some (.int .i64 (nthA l m).2.2.s) ∧ (flatA l)[m * 4 + 2]? = some (.int .i64 (nthA l m).2.2.e) ∧ (flatA l)[m * 4 + 3]? = some (.string (nthA l m).2.2.n)
  | [], m, h => by simp at h
  | x :: l, 0, _ => ⟨rfl, rfl, rfl, rfl⟩
  | x :: l, m + 1, h => by
    have := flatA_get l m (by simpa using h)
    have e : (m + 1) * 4 = m * 4 + 4 := by omega
    rw [e]
    exact this
structure OwnA (lo : Nat) (w : World) (x : ARow) : Prop where
  at' : lo ≤ x.1
  blk : ∃ ds : Array Value, Blk w x.1 ds 94 ∧ Held ds x.2.2.l x.2.2.l.length
  few : x.2.2.l.length ≤ 8
  small : Small x.2.2.l
  sb : I64 x.2.2.s
  eb : I64 x.2.2.e
  note : x.2.2.n.size ≤ 100
theorem OwnA.to {lo : Nat} {w w' : World} {x : ARow} (h : OwnA lo w x) (hb : ∀ ds, Blk w x.1 ds 94 → Blk w' x.1 ds 94) : OwnA lo w' x := by
  obtain ⟨ds, h1, h2⟩ := h.blk
  exact ⟨h.at', ⟨ds, hb ds h1, h2⟩, h.few, h.small, h.sb, h.eb, h.note⟩
structure AkSt (w : World) (c : Nat) (wr : World) (v : Value) (xs : List ARow) : Prop where
  own : wr.ownsRow w.heap.size 29 4 v xs.length (flatA xs)
  lies : ∃ g cap, v = .slice (some ⟨g, 0, none⟩) xs.length cap
  each : ∀ x ∈ xs, OwnA w.heap.size wr x
  cur : Cur wr c
  kept : Kept c w wr
  clt : c < w.heap.size
theorem AkSt.lt {w : World} {c : Nat} {wr : World} {v : Value} {xs : List ARow} (h : AkSt w c wr v xs) : ∀ k, v.ownBlock = some k → c < k := fun k hk => by
  have := (h.own.lt k hk).1; have := h.clt; omega
theorem AkSt.keep {w : World} {c : Nat} {wr w' : World} {v : Value} {xs : List ARow} (h : AkSt w c wr v xs) (hc : Cur w' c) (hk : Kept c wr w') : AkSt w c w' v xs :=
  ⟨h.own.kept hk.grown (by
      cases hv : v.ownBlock with
      | none => exact .inl rfl
      | some k => exact .inr (fun e => by have := h.lt k hv; cases e; omega)), h.lies, fun x hx => (h.each x hx).to (fun ds hd => blk_kept hd hk (by have := (h.each x hx).at'; have := h.clt; omega)), hc, h.kept.trans hk, h.clt⟩
theorem AkSt.alloc {w : World} {c : Nat} {wr : World} {v : Value} {xs : List ARow} (h : AkSt w c wr v xs) (o : Obj) : AkSt w c (wr.alloc o) v xs :=
  h.keep (h.cur.alloc o) ((Kept.refl c wr).alloc o)
theorem tyneA : (29 : TypeId) ≠ 94 := by decide
theorem blk_neA {w : World} {a b : Nat} {cs ds : Array Value} (h : Blk w a cs 29) (k : Blk w b ds 94) : a ≠ b := fun e => by
  subst e
  unfold Blk at h k
  rw [h] at k
  injection k with k
  injection k with _ k
  exact tyneA k
theorem AkSt.add {w : World} {c : Nat} {W w' : World} {v v' : Value} {xs : List ARow} {x : ARow} (h : AkSt w c W v xs) (hx : OwnA w.heap.size W x)
    (hown : w'.ownsRow w.heap.size 29 4 v' (xs.length + 1) (flatA xs ++ flatA [x])) (hg : W.grownBy w' v.ownBlock) : AkSt w c w' v' (xs ++ [x]) := by
  have ho : w'.ownsRow w.heap.size 29 4 v' (xs ++ [x]).length (flatA (xs ++ [x])) := by rw [flatA_app, List.length_append]; exact hown
  obtain ⟨g, cap, e⟩ := Go.Joins.ownsRow_form ho (by simp)
  have far : ∀ y, OwnA w.heap.size W y → OwnA w.heap.size w' y := fun y hy => hy.to fun ds hd => by
    refine blk_far hd hg fun e => ?_
    rcases h.own.2 with ⟨e', _⟩ | ⟨g', c', cur, e', _, hcur, _⟩
    · rw [e'] at e; cases e
    · rw [e'] at e
      exact blk_neA hcur hd (Option.some.inj e).symm
  refine ⟨ho, ⟨g, cap, e⟩, fun y hy => ?_, h.cur.grown hg h.lt, kept_grown (B := 0) h.kept hg (fun k hk => (h.own.lt k hk).1), h.clt⟩
  rcases List.mem_append.1 hy with hy | hy
  · exact far y (h.each y hy)
  · rw [List.mem_singleton.1 hy]; exact far x hx
def pals (xs : List ARow) : List PAl := xs.map fun x => x.2.2
theorem pals_len (xs : List ARow) : (pals xs).length = xs.length := by simp [pals]
theorem pals_nth {xs : List ARow} {i : Nat} (h : i < xs.length) : nthP (pals xs) i = (nthA xs i).2.2 := by
  rw [nthP_eq (by rw [pals_len]; exact h), nthA_eq h]; simp [pals]
theorem AkSt.reads {w : World} {c : Nat} {wr : World} {g cap n : Nat} {xs : List ARow} (h : AkSt w c wr (.slice (some ⟨g, 0, none⟩) n cap) xs) : RdA wr (some ⟨g, 0, none⟩) (pals xs) := by
  have ea : ∀ j, (⟨g, 0, none⟩ : Addr).add j = ⟨g, j, none⟩ := fun j => by by_cases h : j = 0 <;> simp [Addr.add, h]
  refine .inr ⟨g, 0, rfl, (h.own.lt g rfl).2, fun i hi => ?_⟩
  rw [pals_len] at hi
  rw [pals_nth hi]
  obtain ⟨f0, f1, f2, f3⟩ := flatA_get xs i hi
  have c0 := h.own.cells (g := g) rfl _ _ f0
  have c1 := h.own.cells (g := g) rfl _ _ f1
  have c2 := h.own.cells (g := g) rfl _ _ f2
  have c3 := h.own.cells (g := g) rfl _ _ f3
  rw [ea] at c0 c1 c2 c3
  obtain ⟨ds, hd, hh⟩ := (h.each (nthA xs i) (by rw [nthA_eq hi]; exact List.getElem_mem _)).blk
  exact ⟨some ⟨(nthA xs i).1, 0, none⟩, (nthA xs i).2.1, by rw [Nat.zero_add]; exact c0, by rw [Nat.zero_add]; exact c1, by rw [Nat.zero_add]; exact c2, by rw [Nat.zero_add]; exact c3, held_reads hd hh⟩
theorem AkSt.fits {w : World} {c : Nat} {wr : World} {v : Value} {xs : List ARow} (h : AkSt w c wr v xs) : FitsP (pals xs) := fun i hi => by
  rw [pals_len] at hi
  rw [pals_nth hi]
  have hx := h.each (nthA xs i) (by rw [nthA_eq hi]; exact List.getElem_mem _)
  exact ⟨by have := hx.few; unfold maxLen; omega, small_fits hx.small, hx.sb, hx.eb, by have := hx.note; unfold maxLen; omega⟩
theorem SSt.blk {w : World} {c : Nat} {wr : World} {g cap : Nat} {xs : List ByteArray} {n : Nat} (h : SSt w c wr (.slice (some ⟨g, 0, none⟩) n cap) xs) : w.heap.size ≤ g ∧ g < wr.heap.size := h.own.lt g rfl

end Go.Proofs.Ytekcmpjjfnijmaa.DrawK
namespace Go.Proofs.Ytekcmpjjfnijmaa.Tog
open Go.RowKit
open Labs LabS Pro Over Blk
open StrB (retB)
open LabR (Own)

def togB (l l' : List Lab) (by' : List ByteArray) : Bool := decide (projB l by' = projB l' by')

set_option maxRecDepth 100000 in
set_option maxHeartbeats 3200000 in
theorem specTog_any (a a' b : Option Addr) (cap cap' capb : Nat) (l l' : List Lab) (s e s' e' : Int) (n n' : ByteArray) (by' : List ByteArray) (w : World) (hr : Reads w a l) (hr' : Reads w a' l') (hb : RdS w b by') (hl : l.length ≤ 1048576) (hl' : l'.length ≤ 1048576) (hlb : by'.length ≤ maxLen) :
    Calls Try.prog 103 #[.agg #[.slice a l.length cap, .int .i64 s, .int .i64 e, .string n], .agg #[.slice a' l'.length cap', .int .i64 s', .int .i64 e', .string n'], .slice b by'.length capb] w fun r w' => r = .returned (.bool (togB l l' by')) ∧ Below w.heap.size w w' := by
  have HR : Hid (Reads w a l ∧ Reads w a' l' ∧ RdS w b by' ∧ l.length ≤ 1048576 ∧ l'.length ≤ 1048576 ∧ by'.length ≤ maxLen) := ⟨hr, hr', hb, hl, hl', hlb⟩
  have HM : Hid ((projB l by').length ≤ maxLen ∧ (projB l' by').length ≤ maxLen) := ⟨Nat.le_trans (proj_len l by') (by unfold maxLen; omega), Nat.le_trans (proj_len l' by') (by unfold maxLen; omega)⟩
  clear hr hr' hb hl hl' hlb
  go_enter Try.func103, Try.ntmps103
  go_wp2_with fail
  generalize hz : (w.alloc (.cells #[.slice a l.length cap, .int .i64 s, .int .i64 e, .string n] 29)).alloc (.cells #[.slice a' l'.length cap', .int .i64 s', .int .i64 e', .string n'] 29) = z
  have hP : Blk z w.heap.size #[.slice a l.length cap, .int .i64 s, .int .i64 e, .string n] 29 := by rw [← hz]; exact (Blk.new _ _ _).alloc _
  have hQ : Blk z (w.heap.size + 1) #[.slice a' l'.length cap', .int .i64 s', .int .i64 e', .string n'] 29 := by rw [← hz]; exact Blk.new_at (by simp)
  have HB : Hid (Below w.heap.size w z) := by rw [← hz]; exact Go.Joins.below_alloc2 w _ _
  clear hz
  have kz : Below z.heap.size z z.drew := (Below.refl _ _).drew
  have HS : Hid (∀ w', Below z.heap.size z w' → Below z.heap.size z w' ∧ w'.cell? ⟨w.heap.size, 0, none⟩ = some (.slice a l.length cap) ∧ w'.cell? ⟨w.heap.size, 1, none⟩ = some (.int .i64 s) ∧ w'.cell? ⟨w.heap.size, 2, none⟩ = some (.int .i64 e) ∧ w'.cell? ⟨w.heap.size, 3, none⟩ = some (.string n) ∧ w'.cell? ⟨w.heap.size + 1, 0, none⟩ = some (.slice a' l'.length cap') ∧ w'.cell? ⟨w.heap.size + 1, 1, none⟩ = some (.int .i64 s') ∧ w'.cell? ⟨w.heap.size + 1, 2, none⟩ = some (.int .i64 e') ∧ w'.cell? ⟨w.heap.size + 1, 3, none⟩ = some (.string n')) :=
    fun w' h => ⟨h, (h.cell hP.lt).trans (hP.cell 0), (h.cell hP.lt).trans (hP.cell 1), (h.cell hP.lt).trans (hP.cell 2), (h.cell hP.lt).trans (hP.cell 3), (h.cell hQ.lt).trans (hQ.cell 0), (h.cell hQ.lt).trans (hQ.cell 1), (h.cell hQ.lt).trans (hQ.cell 2), (h.cell hQ.lt).trans (hQ.cell 3)⟩
  have C1 : Hid (∀ x, Below z.heap.size z x → Calls Try.prog 75 #[.agg #[.slice a l.length cap, .int .i64 s, .int .i64 e, .string n], .slice b by'.length capb] x fun r w' => (∃ M c, r = .returned (.slice (some ⟨M, 0, none⟩) (projB l by').length c) ∧ Own x w' M (projB l by')) ∧ Below x.heap.size x w') := fun x hx => specKey_any a b cap capb l s e n by' x (HR.out.1.below (grow_on HB.out hx)) (HR.out.2.2.1.below (grow_on HB.out hx)) HR.out.2.2.2.1 HR.out.2.2.2.2.2
  have C2 : Hid (∀ x, Below z.heap.size z x → Calls Try.prog 75 #[.agg #[.slice a' l'.length cap', .int .i64 s', .int .i64 e', .string n'], .slice b by'.length capb] x fun r w' => (∃ M c, r = .returned (.slice (some ⟨M, 0, none⟩) (projB l' by').length c) ∧ Own x w' M (projB l' by')) ∧ Below x.heap.size x w') := fun x hx => specKey_any a' b cap' capb l' s' e' n' by' x (HR.out.2.1.below (grow_on HB.out hx)) (HR.out.2.2.1.below (grow_on HB.out hx)) HR.out.2.2.2.2.1 HR.out.2.2.2.2.2
  go_region_held3 (fun w' => Below z.heap.size z w' ∧ w'.cell? ⟨w.heap.size, 0, none⟩ = some (.slice a l.length cap) ∧ w'.cell? ⟨w.heap.size, 1, none⟩ = some (.int .i64 s) ∧ w'.cell? ⟨w.heap.size, 2, none⟩ = some (.int .i64 e) ∧ w'.cell? ⟨w.heap.size, 3, none⟩ = some (.string n) ∧ w'.cell? ⟨w.heap.size + 1, 0, none⟩ = some (.slice a' l'.length cap') ∧ w'.cell? ⟨w.heap.size + 1, 1, none⟩ = some (.int .i64 s') ∧ w'.cell? ⟨w.heap.size + 1, 2, none⟩ = some (.int .i64 e') ∧ w'.cell? ⟨w.heap.size + 1, 3, none⟩ = some (.string n')) (first | with_reducible exact HS.out _ kz | with_reducible exact HS.out _ hz1 | with_reducible exact HS.out _ hz2 | with_reducible exact HS.out _ hz3 | (go_keep; done)) (first
    | (go_at_call 68; (refine (calls_drew (specSame_any _ _ _ _ (projB l by') (projB l' by') _ ((own_reads ho1).below hy2) (own_reads ho2) HM.out.1 HM.out.2)).mono ?_); rintro r wy3 ⟨rfl, hy3⟩; (have hz3 : Below z.heap.size z wy3 := grow_on hz2 hy3))
    | (go_at_call 75; (with_reducible refine (C2.out _ hz1).mono ?_); rintro r wy2 ⟨⟨M2, c2, rfl, ho2⟩, hy2⟩; (have hz2 : Below z.heap.size z wy2 := grow_on hz1 hy2))
    | (go_at_call 75; (with_reducible refine (C1.out _ kz).mono ?_); rintro r wy1 ⟨⟨M1, c1, rfl, ho1⟩, hy1⟩; (have hz1 : Below z.heap.size z wy1 := grow_on kz hy1)))
  have H3 : Hid (Below w.heap.size w wy3) := grow_on HB.out hz3
  clear hz1 hz2 hz3 hy1 hy2 hy3 ho1 ho2 kz hP hQ
  go_wp2
  go_ret
  exact ⟨rfl, H3.out⟩
end Go.Proofs.Ytekcmpjjfnijmaa.Tog
namespace Go.Proofs.Ytekcmpjjfnijmaa.GrpW
open Go.RowKit
open Draw
open Labs LabS Over Blk App DrawL DrawT Alms AlmM DrawA DrawB Rws ChnI ChnC ChnP ChnK DrawC Grp GrpJ Chs
open LabT (Held held_reads Fits)
open Pro (projB RdS)
open StrT (HeldS heldS_reads)
open Tog (togB)

theorem blk_tne {w : World} {a b : Nat} {cs ds : Array Value} {T U : TypeId} (h : Blk w a cs T) (k : Blk w b ds U) (hne : T ≠ U) : a ≠ b := fun e => by
  subst e
  unfold Blk at h k
  rw [h] at k
  injection k with k
  injection k with _ k
  exact hne k
theorem ownA_moved {lo : Nat} {w w' : World} {x : ARow} (h : OwnA lo w x) (hm : Moved w w') : OwnA lo w' x := by
  obtain ⟨h1, h2, ds, hb, h3⟩ := h
  exact ⟨h1, h2, ds, hm.L hb, h3⟩
theorem ownL_moved {lo : Nat} {w w' : World} {K : Nat} {key : List Lab} (h : OwnL lo w K key) (hm : Moved w w') : OwnL lo w' K key := by
  obtain ⟨h1, cs, h2, h3⟩ := h
  exact ⟨h1, cs, hm.L h2, h3⟩
theorem ownL_kept {c lo : Nat} {w w' : World} {K : Nat} {key : List Lab} (h : OwnL lo w K key) (hk : Kept c w w') (hc : c < lo) : OwnL lo w' K key := by
  obtain ⟨h1, cs, h2, h3⟩ := h
  exact ⟨h1, cs, blk_kept h2 hk (by omega), h3⟩
theorem AB.one {lo : Nat} {w : World} {M : Nat} {x : ARow} (h : Blk w M #[.slice (some ⟨x.1, 0, none⟩) x.2.2.l.length x.2.1, .int .i64 x.2.2.s, .int .i64 x.2.2.e, .string x.2.2.n] 29) (hl : lo ≤ M) (hx : OwnA lo w x) : AB lo w M 1 [x] :=
  ⟨hl, ⟨by simp, by unfold maxLen; omega⟩, ⟨_, h, rfl, fun i hi => by
    have e : i = 0 := by simp at hi; exact hi
    subst e
    exact ⟨rfl, rfl, rfl, rfl⟩⟩, fun y hy => by rw [List.mem_singleton.1 hy]; exact hx, List.pairwise_singleton _ _⟩
theorem ab_movedX {lo : Nat} {w w' : World} {M c : Nat} {rs : List ARow} (h : AB lo w M c rs) (hm : Moved w w') : AB lo w' M c rs := by
  obtain ⟨cur, h1, h2⟩ := h.outer
  exact ⟨h.at', h.cap, ⟨cur, hm.A h1, h2⟩, fun x hx => ownA_moved (h.rows x hx) hm, h.ne⟩
theorem OwnL.blk' {lo : Nat} {w : World} {K : Nat} {key : List Lab} (h : OwnL lo w K key) : ∃ cs : Array Value, Blk w K cs 94 := by obtain ⟨_, cs, h, _⟩ := h; exact ⟨cs, h⟩
theorem ne_one {lo : Nat} {w : World} {K M c : Nat} {key : List Lab} {x : ARow} (h : OwnL lo w K key) (k : AB lo w M c [x]) (hx : K ≠ x.1) : ¬ blks M [x] K := fun hb => by
  obtain ⟨cs, h1⟩ := OwnL.blk' h
  obtain ⟨cur, h2, _⟩ := k.outer
  rcases hb with hb | ⟨y, hy, hb⟩
  · exact absurd hb (blk_tne h1 h2 (by decide))
  · rw [List.mem_singleton.1 hy] at hb; exact hx hb.symm
def ByK (w : World) (gb : Nat) (by' : List ByteArray) : Prop := ∃ cs : Array Value, Blk w gb cs 9 ∧ HeldS cs by'
theorem ByK.rd {w : World} {gb : Nat} {by' : List ByteArray} (h : ByK w gb by') : RdS w (some ⟨gb, 0, none⟩) by' := by obtain ⟨cs, h1, h2⟩ := h; exact heldS_reads h1 h2
theorem ByK.keep {c : Nat} {w w' : World} {gb : Nat} {by' : List ByteArray} (h : ByK w gb by') (hk : Kept c w w') (hne : gb ≠ c) : ByK w' gb by' := by obtain ⟨cs, h1, h2⟩ := h; exact ⟨cs, blk_kept h1 hk hne, h2⟩
theorem ByK.set {w : World} {gb N : Nat} {by' : List ByteArray} (h : ByK w gb by') (hne : N ≠ gb) (i : Nat) (v : Value) : ByK (w.setCell ⟨N, i, none⟩ v) gb by' := by obtain ⟨cs, h1, h2⟩ := h; exact ⟨cs, h1.set_other (p := ⟨N, i, none⟩) hne v, h2⟩
theorem moved5 {W : World} {N : Nat} {cs : Array Value} (hN : Blk W N cs 27) (v0 v1 v2 v3 v4 : Value) : Moved W (((((W.setCell ⟨N, 0, none⟩ (v0)).setCell ⟨N, 1, none⟩ (v1)).setCell ⟨N, 2, none⟩ (v2)).setCell ⟨N, 3, none⟩ (v3)).setCell ⟨N, 4, none⟩ (v4)) :=
  ((((Moved.set hN (by decide) (by decide) 0 v0).trans (Moved.set (hN.set 0 v0) (by decide) (by decide) 1 v1)).trans (Moved.set ((hN.set 0 v0).set 1 v1) (by decide) (by decide) 2 v2)).trans (Moved.set (((hN.set 0 v0).set 1 v1).set 2 v2) (by decide) (by decide) 3 v3)).trans (Moved.set ((((hN.set 0 v0).set 1 v1).set 2 v2).set 3 v3) (by decide) (by decide) 4 v4)
theorem blk5 {W : World} {N R : Nat} {cs : Array Value} {T : TypeId} (h : Blk W R cs T) (hne : N ≠ R) (v0 v1 v2 v3 v4 : Value) : Blk (((((W.setCell ⟨N, 0, none⟩ (v0)).setCell ⟨N, 1, none⟩ (v1)).setCell ⟨N, 2, none⟩ (v2)).setCell ⟨N, 3, none⟩ (v3)).setCell ⟨N, 4, none⟩ (v4)) R cs T :=
  ((((h.set_other (p := ⟨N, 0, none⟩) hne v0).set_other (p := ⟨N, 1, none⟩) hne v1).set_other (p := ⟨N, 2, none⟩) hne v2).set_other (p := ⟨N, 3, none⟩) hne v3).set_other (p := ⟨N, 4, none⟩) hne v4
theorem put5 {W : World} {N : Nat} {x0 x1 x2 x3 x4 : Value} {T : TypeId} (h : Blk W N #[x0, x1, x2, x3, x4] T) (v0 v1 v2 v3 v4 : Value) : Blk (((((W.setCell ⟨N, 0, none⟩ (v0)).setCell ⟨N, 1, none⟩ (v1)).setCell ⟨N, 2, none⟩ (v2)).setCell ⟨N, 3, none⟩ (v3)).setCell ⟨N, 4, none⟩ (v4)) N #[v0, v1, v2, v3, v4] T := ((((h.set 0 _).set 1 _).set 2 _).set 3 _).set 4 _
theorem fits_proj {l : List Lab} {by' : List ByteArray} (h : Fits l) : Fits (projB l by') := fun i hi => by
  have hm : nth (projB l by') i ∈ projB l by' := by
    have e : nth (projB l by') i = (projB l by')[i] := by unfold nth; simp [hi]
    rw [e]; exact List.getElem_mem _
  obtain ⟨j, hj, e⟩ := List.getElem_of_mem (List.mem_filter.1 hm).1
  have h2 := h j hj
  have e2 : nth l j = l[j] := by unfold nth; simp [hj]
  rw [← e, ← e2]; exact h2
theorem fines_join {P : List PAl} {a : PAl} (h : Fines P) (ha : Fine a) : Fines (joinG P a) := by
  unfold joinG
  split
  · intro x hx
    rcases List.mem_or_eq_of_mem_set hx with h1 | h1
    · exact h x h1
    · subst h1; exact ha
  · intro x hx
    rcases List.mem_append.1 hx with h1 | h1
    · exact h x (List.mem_of_mem_take h1)
    · rcases List.mem_cons.1 h1 with h1 | h1
      · subst h1; exact ha
      · exact h x (List.mem_of_mem_drop h1)

structure Pre (w : World) (c gb A : Nat) (x : ARow) (by' : List ByteArray) (W : World) : Prop where
  cur : Cur W c
  kept : Kept c w W
  clt : c < w.heap.size
  names : ByK W gb by'
  gbl : gb ≠ c ∧ gb < w.heap.size
  bl : by'.length ≤ maxLen
  hA : w.heap.size < A ∧ A < W.heap.size
  bR : Blk W w.heap.size #[.int .i64 0, .slice none 0 0, .int .i64 0, .int .i64 0, .slice none 0 0] 27
  bA : Blk W A #[.slice (some ⟨x.1, 0, none⟩) x.2.2.l.length x.2.1, .int .i64 x.2.2.s, .int .i64 x.2.2.e, .string x.2.2.n] 29
  xo : OwnA (w.heap.size + 1) W x
  xf : Fine x.2.2
theorem Pre.keep {w : World} {c gb A : Nat} {x : ARow} {by' : List ByteArray} {W W' : World} (h : Pre w c gb A x by' W) (hc : Cur W' c) (hk : Kept c W W') : Pre w c gb A x by' W' := by
  have h0 := h.clt; have h1 := h.hA
  exact ⟨hc, h.kept.trans hk, h0, h.names.keep hk h.gbl.1, h.gbl, h.bl, ⟨h1.1, Nat.lt_of_lt_of_le h1.2 hk.size⟩, blk_kept h.bR hk (by omega), blk_kept h.bA hk (by omega), own_kept h.xo hk (by omega), h.xf⟩
theorem Pre.grow {w : World} {c gb A : Nat} {x : ARow} {by' : List ByteArray} {W W' : World} (h : Pre w c gb A x by' W) (hb : Below W.heap.size W W') : Pre w c gb A x by' W' := h.keep (cur_bel h.cur hb) (kept_bel hb)
theorem Pre.put {w : World} {c gb A : Nat} {x : ARow} {by' : List ByteArray} {W : World} (h : Pre w c gb A x by' W) {N : Nat} {cs : Array Value} (hN : Blk W N cs 27) (hlt : w.heap.size < N) (v0 v1 v2 v3 v4 : Value) : Pre w c gb A x by' (((((W.setCell ⟨N, 0, none⟩ (v0)).setCell ⟨N, 1, none⟩ (v1)).setCell ⟨N, 2, none⟩ (v2)).setCell ⟨N, 3, none⟩ (v3)).setCell ⟨N, 4, none⟩ (v4)) := by
  have h0 := h.clt; have h1 := h.hA; have h2 := h.gbl
  have hm := moved5 hN v0 v1 v2 v3 v4
  exact ⟨cur_set (cur_set (cur_set (cur_set (cur_set h.cur (by omega) _ _) (by omega) _ _) (by omega) _ _) (by omega) _ _) (by omega) _ _, DrawC.kept_set (DrawC.kept_set (DrawC.kept_set (DrawC.kept_set (DrawC.kept_set h.kept (by omega) _ _) (by omega) _ _) (by omega) _ _) (by omega) _ _) (by omega) _ _, h0, ((((h.names.set (by omega) 0 v0).set (by omega) 1 v1).set (by omega) 2 v2).set (by omega) 3 v3).set (by omega) 4 v4, h2, h.bl, by simpa using h1, blk5 h.bR (by omega) _ _ _ _ _, hm.A h.bA, ownA_moved h.xo hm, h.xf⟩
structure GSt (w : World) (c gb A G : Nat) (x : ARow) (by' : List ByteArray) (n b : Int) (key : List Lab) (W : World) (K kc M cap : Nat) (rs : List ARow) : Prop where
  pre : Pre w c gb A x by' W
  bO : Blk W G #[.int .i64 n, .slice (some ⟨K, 0, none⟩) key.length kc, .int .i64 b, .int .i64 (-1), .slice (some ⟨M, 0, none⟩) rs.length cap] 27
  hO : w.heap.size < G
  key : OwnL (w.heap.size + 1) W K key
  row : AB (w.heap.size + 1) W M cap rs
  ne : ¬ blks M rs K
  fine : Fines (pals rs)
theorem GSt.keep {w : World} {c gb A G : Nat} {x : ARow} {by' : List ByteArray} {n b : Int} {key : List Lab} {W W' : World} {K kc M cap : Nat} {rs : List ARow} (h : GSt w c gb A G x by' n b key W K kc M cap rs) (hc : Cur W' c) (hk : Kept c W W') : GSt w c gb A G x by' n b key W' K kc M cap rs := by
  have h0 := h.pre.clt; have h1 := h.hO
  exact ⟨h.pre.keep hc hk, blk_kept h.bO hk (by omega), h1, ownL_kept h.key hk (by omega), ab_kept h.row hk (by omega), h.ne, h.fine⟩
theorem GSt.grow {w : World} {c gb A G : Nat} {x : ARow} {by' : List ByteArray} {n b : Int} {key : List Lab} {W W' : World} {K kc M cap : Nat} {rs : List ARow} (h : GSt w c gb A G x by' n b key W K kc M cap rs) (hb : Below W.heap.size W W') : GSt w c gb A G x by' n b key W' K kc M cap rs := h.keep (cur_bel h.pre.cur hb) (kept_bel hb)
theorem GSt.put {w : World} {c gb A G : Nat} {x : ARow} {by' : List ByteArray} {n b : Int} {key : List Lab} {W : World} {K kc M cap K' kc' M' cap' : Nat} {rs rs' : List ARow} (h : GSt w c gb A G x by' n b key W K kc M cap rs) (hk : OwnL (w.heap.size + 1) W K' key) (hr : AB (w.heap.size + 1) W M' cap' rs') (hne : ¬ blks M' rs' K') (hf : Fines (pals rs')) :
    GSt w c gb A G x by' n b key (((((W.setCell ⟨G, 0, none⟩ (.int .i64 n)).setCell ⟨G, 1, none⟩ (.slice (some ⟨K', 0, none⟩) key.length kc')).setCell ⟨G, 2, none⟩ (.int .i64 b)).setCell ⟨G, 3, none⟩ (.int .i64 (-1))).setCell ⟨G, 4, none⟩ (.slice (some ⟨M', 0, none⟩) rs'.length cap')) K' kc' M' cap' rs' := by
  have hm := moved5 h.bO (.int .i64 n) (.slice (some ⟨K', 0, none⟩) key.length kc') (.int .i64 b) (.int .i64 (-1)) (.slice (some ⟨M', 0, none⟩) rs'.length cap')
  exact ⟨h.pre.put h.bO h.hO _ _ _ _ _, put5 h.bO _ _ _ _ _, h.hO, ownL_moved hk hm, ab_movedX hr hm, hne, hf⟩
structure DG (w : World) (c : Nat) (W : World) (K M cap : Nat) (key : List Lab) (rs : List ARow) : Prop where
  cur : Cur W c
  kept : Kept c w W
  clt : c < w.heap.size
  key : OwnL (w.heap.size + 1) W K key
  row : AB (w.heap.size + 1) W M cap rs
  ne : ¬ blks M rs K
  fine : Fines (pals rs)
theorem GSt.dg {w : World} {c gb A G : Nat} {x : ARow} {by' : List ByteArray} {n b : Int} {key : List Lab} {W : World} {K kc M cap : Nat} {rs : List ARow} (h : GSt w c gb A G x by' n b key W K kc M cap rs) : DG w c W K M cap key rs := ⟨h.pre.cur, h.pre.kept, h.pre.clt, h.key, h.row, h.ne, h.fine⟩
theorem DG.set1 {w : World} {c : Nat} {W : World} {K M cap : Nat} {key : List Lab} {rs : List ARow} (h : DG w c W K M cap key rs) {N : Nat} {cs : Array Value} (hN : Blk W N cs 27) (hlt : w.heap.size ≤ N) (i : Nat) (v : Value) : DG w c (W.setCell ⟨N, i, none⟩ v) K M cap key rs := by
  have h0 := h.clt
  have hm := Moved.set hN (by decide) (by decide) i v
  exact ⟨cur_set h.cur (by omega) _ _, DrawC.kept_set h.kept (by omega) _ _, h0, ownL_moved h.key hm, ab_movedX h.row hm, h.ne, h.fine⟩
theorem DG.set5 {w : World} {c : Nat} {W : World} {K M cap : Nat} {key : List Lab} {rs : List ARow} (h : DG w c W K M cap key rs) {N : Nat} {cs : Array Value} (hN : Blk W N cs 27) (hlt : w.heap.size ≤ N) (v0 v1 v2 v3 v4 : Value) : DG w c (((((W.setCell ⟨N, 0, none⟩ (v0)).setCell ⟨N, 1, none⟩ (v1)).setCell ⟨N, 2, none⟩ (v2)).setCell ⟨N, 3, none⟩ (v3)).setCell ⟨N, 4, none⟩ (v4)) K M cap key rs :=
  ((((h.set1 hN hlt 0 v0).set1 (hN.set 0 v0) hlt 1 v1).set1 ((hN.set 0 v0).set 1 v1) hlt 2 v2).set1 (((hN.set 0 v0).set 1 v1).set 2 v2) hlt 3 v3).set1 ((((hN.set 0 v0).set 1 v1).set 2 v2).set 3 v3) hlt 4 v4
def Nums (n b t : Int) : Prop := (0 ≤ n ∧ n ≤ 4) ∧ (0 ≤ b ∧ b ≤ 4) ∧ -1 ≤ t ∧ t ≤ 12
theorem joinR (n b t : Int) (K kc : Nat) (key : List Lab) (M cap : Nat) (rs : List ARow) (g cp : Nat) (x : PAl) (w : World) (hk : Reads w (some ⟨K, 0, none⟩) key) (hkl : key.length ≤ 1048576) (hr : RdN w (some ⟨M, 0, none⟩) (pals rs)) (hl : rs.length ≤ 1048576) (hs : LenM (pals rs)) (hc : rs.length ≤ cap ∧ cap ≤ maxLen) (hx : Reads w (some ⟨g, 0, none⟩) x.l) (hxl : x.l.length ≤ 1048576) :
    Calls Try.prog 20 #[.agg #[.int .i64 n, .slice (some ⟨K, 0, none⟩) key.length kc, .int .i64 b, .int .i64 t, .slice (some ⟨M, 0, none⟩) rs.length cap], .agg #[.slice (some ⟨g, 0, none⟩) x.l.length cp, .int .i64 x.s, .int .i64 x.e, .string x.n]] w fun e w' => (∃ Ke kd M c rs', e = .returned (.agg #[.int .i64 n, .slice (some ⟨Ke, 0, none⟩) key.length kd, .int .i64 b, .int .i64 t, .slice (some ⟨M, 0, none⟩) rs'.length c]) ∧ GB w.heap.size w' Ke key M 0 rs' ∧ AB w.heap.size w' M c rs' ∧ pals rs' = joinG (pals rs) x) ∧ Below w.heap.size w w' := by
  have h := specJoin_any n b t K 0 kc key M 0 cap (pals rs) g 0 cp x w hk hkl hr (by rw [Rws.pals_len]; exact hl) hs (by rw [Rws.pals_len]; exact hc) hx hxl
  rw [Rws.pals_len] at h
  exact h
def KeyF (key : List Lab) : Prop := Fits key ∧ key.length ≤ 8

set_option maxRecDepth 100000 in
set_option maxHeartbeats 6400000 in
theorem l11Draw_any (c gb capb : Nat) (by' : List ByteArray) (w : World) (hc : Cur w c) (hb : ByK w gb by') (hgb : gb ≠ c ∧ gb < w.heap.size) (hbl : by'.length ≤ maxLen) :
    Calls Try.prog 65 #[.pointer (some ⟨c, 0, none⟩), .slice (some ⟨gb, 0, none⟩) by'.length capb] w fun r w' => ∃ (n b t : Int) (K kc M cap : Nat) (key : List Lab) (rs : List ARow), r = .returned (.agg #[.int .i64 n, .slice (some ⟨K, 0, none⟩) key.length kc, .int .i64 b, .int .i64 t, .slice (some ⟨M, 0, none⟩) rs.length cap]) ∧ DG w c w' K M cap key rs ∧ Nums n b t ∧ KeyF key ∧ rs.length ≤ 8 := by
  have HC : Hid (Cur w c) := hc
  have HL : Hid (c < w.heap.size) := hc.lt
  have HB : Hid (ByK w gb by' ∧ (gb ≠ c ∧ gb < w.heap.size) ∧ by'.length ≤ maxLen) := ⟨hb, hgb, hbl⟩
  clear hc hb hgb hbl
  go_enter Try.func65, Try.ntmps65
  go_wp2_with fail
  refine (l4Draw_any c _ (HC.out.alloc _)).mono ?_
  rintro r w1 ⟨g, cp, p, s, e, t, rfl, hst, hp, hs, he, hn⟩
  obtain ⟨x, hx⟩ : ∃ x : ARow, x = (g, cp, ⟨p, s, e, t⟩) := ⟨_, rfl⟩
  have P1 : Hid (∀ o, Pre w c gb w1.heap.size x by' (w1.alloc o) ∨ True) := fun _ => .inr trivial
  have HP : Hid (Pre w c gb w1.heap.size x by' (w1.alloc (.cells #[.slice (some ⟨x.1, 0, none⟩) x.2.2.l.length x.2.1, .int .i64 x.2.2.s, .int .i64 x.2.2.e, .string x.2.2.n] 29))) := by
    have h0 := HL.out
    have hk : Kept c (w.alloc (.cells #[.int .i64 0, .slice none 0 0, .int .i64 0, .int .i64 0, .slice none 0 0] 27)) w1 := hst.kept
    have hk1 : Kept c w w1 := ((Kept.refl c w).alloc _).trans hk
    have hz := hk.size
    simp at hz
    refine ⟨hst.cur.alloc _, hk1.alloc _, h0, (HB.out.1.keep (hk1.alloc _) HB.out.2.1.1), HB.out.2.1, HB.out.2.2, ⟨by omega, by simp⟩, (blk_kept (Blk.new _ _ _) hk (by omega)).alloc _, Blk.new _ _ _, ?_, ?_⟩
    · rw [hx]; exact ((own_lst hst hp).down (by simp)).grow (Go.Joins.below_alloc1 w1 _)
    · rw [hx]; exact fine_of hp hst.fit hs he hn
  clear P1 hst hp hs he hn
  have e1 : p.length = x.2.2.l.length := by rw [hx]
  have e2 : (some (⟨g, 0, none⟩ : Addr)) = some ⟨x.1, 0, none⟩ := by rw [hx]
  obtain ⟨E1, E2, E3, E4, E5, E6⟩ : g = x.1 ∧ cp = x.2.1 ∧ p = x.2.2.l ∧ s = x.2.2.s ∧ e = x.2.2.e ∧ t = x.2.2.n := by rw [hx]; exact ⟨rfl, rfl, rfl, rfl, rfl, rfl⟩
  clear e1 e2
  subst E1 E2 E3 E4 E5 E6
  clear hx
  go_upto_region 2 with fail
  generalize hz : w1.alloc (.cells #[.slice (some ⟨x.1, 0, none⟩) x.2.2.l.length x.2.1, .int .i64 x.2.2.s, .int .i64 x.2.2.e, .string x.2.2.n] 29) = z at HP ⊢
  clear hz
  generalize w1.heap.size = A at HP ⊢
  have HX : Hid (∀ w', Pre w c gb A x by' w' → w'.cell? ⟨A, 0, none⟩ = some (.slice (some ⟨x.1, 0, none⟩) x.2.2.l.length x.2.1) ∧ w'.cell? ⟨A, 1, none⟩ = some (.int .i64 x.2.2.s) ∧ w'.cell? ⟨A, 2, none⟩ = some (.int .i64 x.2.2.e) ∧ w'.cell? ⟨A, 3, none⟩ = some (.string x.2.2.n)) := fun w' h => ⟨h.bA.cell 0, h.bA.cell 1, h.bA.cell 2, h.bA.cell 3⟩
  go_cut [6] from 12 to 22 (fun s6 wx => ∃ (G : Nat) (n b : Int) (K kc M : Nat), s6 = .pointer (some ⟨G, 0, none⟩) ∧ GSt w c gb A G x by' n b (projB x.2.2.l by') wx K kc M 1 [x] ∧ (0 ≤ n ∧ n ≤ 4) ∧ (0 ≤ b ∧ b ≤ 4))
  case first =>
    have HP0 : Hid (Pre w c gb A x by' z.drew) := HP.out.keep (Cur.drewN HP.out.cur 1) (kept_bel (Below.refl _ _).drew)
    refine wp_region_held_drew (S := fun w' => w'.cell? ⟨A, 0, none⟩ = some (.slice (some ⟨x.1, 0, none⟩) x.2.2.l.length x.2.1) ∧ w'.cell? ⟨A, 1, none⟩ = some (.int .i64 x.2.2.s) ∧ w'.cell? ⟨A, 2, none⟩ = some (.int .i64 x.2.2.e) ∧ w'.cell? ⟨A, 3, none⟩ = some (.string x.2.2.n)) (by kernel_rfl) (HX.out _ HP0.out) (fun hHeld => ?_)
    generalize z.drew = z0 at HP0 hHeld ⊢
    refine wpAnyH_take (i := 0) (oi := { dst := some 12, op := Op.move (Operand.tmp 0), type := 80, pos := "l11_group.go:73", after := #[], guard := none }) (v := ?vd21) rfl (by kernel_rfl) (by kernel_rfl) (by kernel_rfl) (fun _ _ _ h => h) (Or.inl ⟨by rfl, ?hyd21⟩) hHeld ?_
    case hyd21 => (intro w hSw; (try dsimp only at hSw); go_simp <;> with_reducible rfl)
    try simp only [Act.put, List.setIfInBounds_toArray, List.set_cons_zero, List.set_cons_succ]
    refine wpAnyH_take (i := 2) (oi := { dst := some 14, op := Op.load 29 (Operand.tmp 5), type := 29, pos := "l11_group.go:73", after := #[], guard := none }) (v := ?vd22) rfl (by kernel_rfl) (by kernel_rfl) (by kernel_rfl) (fun _ _ _ h => h) (Or.inl ⟨by rfl, ?hyd22⟩) hHeld ?_
    case hyd22 => (intro w hSw; (try dsimp only at hSw); go_simp <;> with_reducible rfl)
    try simp only [Act.put, List.setIfInBounds_toArray, List.set_cons_zero, List.set_cons_succ]
    refine wpAnyH_take (i := 3) (oi := { dst := some 15, op := Op.move (Operand.tmp 1), type := 39, pos := "l11_group.go:73", after := #[], guard := none }) (v := ?vd23) rfl (by kernel_rfl) (by kernel_rfl) (by kernel_rfl) (fun _ _ _ h => h) (Or.inl ⟨by rfl, ?hyd23⟩) hHeld ?_
    case hyd23 => (intro w hSw; (try dsimp only at hSw); go_simp <;> with_reducible rfl)
    try simp only [Act.put, List.setIfInBounds_toArray, List.set_cons_zero, List.set_cons_succ]
    refine wpAnyH_take (i := 5) (oi := { dst := some 17, op := Op.move (Operand.tmp 0), type := 80, pos := "l11_group.go:73", after := #[], guard := none }) (v := ?vd24) rfl (by kernel_rfl) (by kernel_rfl) (by kernel_rfl) (fun _ _ _ h => h) (Or.inl ⟨by rfl, ?hyd24⟩) hHeld ?_
    case hyd24 => (intro w hSw; (try dsimp only at hSw); go_simp <;> with_reducible rfl)
    try simp only [Act.put, List.setIfInBounds_toArray, List.set_cons_zero, List.set_cons_succ]
    refine wpAnyH_take (i := 7) (oi := { dst := some 19, op := Op.load 29 (Operand.tmp 5), type := 29, pos := "l11_group.go:73", after := #[], guard := none }) (v := ?vd25) rfl (by kernel_rfl) (by kernel_rfl) (by kernel_rfl) (fun _ _ _ h => h) (Or.inl ⟨by rfl, ?hyd25⟩) hHeld ?_
    case hyd25 => (intro w hSw; (try dsimp only at hSw); go_simp <;> with_reducible rfl)
    try simp only [Act.put, List.setIfInBounds_toArray, List.set_cons_zero, List.set_cons_succ]
    refine wpAnyH_ready (rs := [1, 8, 10]) (by kernel_rfl) (by simp) ?_
    refine AllReadyH.cons (o := { dst := some 13, op := Op.call { callee := Callee.value (Operand.func 55), args := #[Operand.tmp 12, Operand.const (Value.int IntKind.i64 5)], argTypes := #[80, 3] }, type := 3, pos := "l11_group.go:73", after := #[{ on := 0, ground := Ground.data }], guard := none }) rfl (fun Kx hK => ?_) ?_
    ·
      go_simp
      refine (below_any c 5 _ HP0.out.cur (by decide) (by decide)).mono ?_
      rintro r z1 ⟨⟨n, rfl, h0, h1⟩, hc, hk⟩
      have FN : Hid (0 ≤ n ∧ n ≤ 4) := ⟨h0, by omega⟩
      have HP1 : Hid (Pre w c gb A x by' z1) := HP0.out.keep hc hk
      clear h0 h1 hc hk
      try dsimp only
      clear hHeld
      refine hK.out _ _ (HX.out _ HP1.out) (fun hHeld => ?_)
      clear hK Kx
      try simp only [Act.put, List.setIfInBounds_toArray, List.set_cons_zero, List.set_cons_succ]
      refine wpAnyH_ready (rs := [4, 8, 10]) (by kernel_rfl) (by simp) ?_
      refine AllReadyH.cons (o := { dst := some 16, op := Op.call { callee := Callee.value (Operand.func 75), args := #[Operand.tmp 14, Operand.tmp 15], argTypes := #[29, 39] }, type := 24, pos := "l11_group.go:73", after := #[{ on := 2, ground := Ground.data }, { on := 3, ground := Ground.data }, { on := 1, ground := Ground.chain }], guard := none }) rfl (fun Kx hK => ?_) ?_
      ·
        go_simp
        refine (Pro.specKey_any _ _ _ _ x.2.2.l x.2.2.s x.2.2.e x.2.2.n by' _ HP1.out.xo.reads HP1.out.names.rd (by have := HP1.out.xf.2; omega) HP1.out.bl).mono ?_
        rintro r z2 ⟨⟨K, kc, rfl, hO⟩, hb⟩
        have hk := kept_bel (c := c) hb
        have hc := cur_bel HP1.out.cur hb
        have HK2 : Hid (OwnL (w.heap.size + 1) z2 K (projB x.2.2.l by')) := ⟨Nat.le_trans (by have := HP1.out.hA; omega) hO.1, hO.2⟩
        have NX : Hid (K ≠ x.1) := fun e => by
          obtain ⟨_, _, ds, hx, _⟩ := HP1.out.xo
          have := hx.lt; have := hO.1; omega
        have HP2 : Hid (Pre w c gb A x by' z2) := HP1.out.keep hc hk
        clear hO hb hk hc
        try dsimp only
        clear hHeld
        refine hK.out _ _ (HX.out _ HP2.out) (fun hHeld => ?_)
        clear hK Kx
        try simp only [Act.put, List.setIfInBounds_toArray, List.set_cons_zero, List.set_cons_succ]
        refine wpAnyH_ready (rs := [6, 8, 10]) (by kernel_rfl) (by simp) ?_
        refine AllReadyH.cons (o := { dst := some 18, op := Op.call { callee := Callee.value (Operand.func 55), args := #[Operand.tmp 17, Operand.const (Value.int IntKind.i64 5)], argTypes := #[80, 3] }, type := 3, pos := "l11_group.go:73", after := #[{ on := 5, ground := Ground.data }, { on := 4, ground := Ground.chain }], guard := none }) rfl (fun Kx hK => ?_) ?_
        ·
          go_simp
          refine (below_any c 5 _ HP2.out.cur (by decide) (by decide)).mono ?_
          rintro r z3 ⟨⟨b, rfl, h0, h1⟩, hc, hk⟩
          have FB : Hid (0 ≤ b ∧ b ≤ 4) := ⟨h0, by omega⟩
          have HP3 : Hid (Pre w c gb A x by' z3) := HP2.out.keep hc hk
          have HK3 : Hid (OwnL (w.heap.size + 1) z3 K (projB x.2.2.l by')) := ownL_kept HK2.out hk (by have := HL.out; omega)
          clear h0 h1 hc hk
          try dsimp only
          clear hHeld
          refine hK.out _ _ (HX.out _ HP3.out) (fun hHeld => ?_)
          clear hK Kx
          try simp only [Act.put, List.setIfInBounds_toArray, List.set_cons_zero, List.set_cons_succ]
          refine wpAnyH_ready (rs := [8, 10]) (by kernel_rfl) (by simp) ?_
          refine AllReadyH.cons (o := { dst := some 20, op := Op.buildSlice 25 1 #[(0, Operand.tmp 19)], type := 25, pos := "l11_group.go:73", after := #[{ on := 7, ground := Ground.data }], guard := none }) rfl (fun Kx hK => ?_) ?_
          ·
            go_simp
            obtain ⟨z4, hz4⟩ : ∃ v, v = z3.alloc (.cells #[.slice (some ⟨x.1, 0, none⟩) x.2.2.l.length x.2.1, .int .i64 x.2.2.s, .int .i64 x.2.2.e, .string x.2.2.n] 29) := ⟨_, rfl⟩
            rw [← hz4]
            have hk : Kept c z3 z4 := by rw [hz4]; exact kept_bel (Go.Joins.below_alloc1 _ _)
            have hc : Cur z4 c := by rw [hz4]; exact HP3.out.cur.alloc _
            have HP4 : Hid (Pre w c gb A x by' z4) := HP3.out.keep hc hk
            have HK4 : Hid (OwnL (w.heap.size + 1) z4 K (projB x.2.2.l by')) := ownL_kept HK3.out hk (by have := HL.out; omega)
            have HM4 : Hid (AB (w.heap.size + 1) z4 z3.heap.size 1 [x]) := AB.one (by rw [hz4]; exact Blk.new _ _ _) (by have := HP3.out.hA; omega) HP4.out.xo
            have HN4 : Hid (¬ blks z3.heap.size [x] K) := ne_one HK4.out HM4.out NX.out
            clear hz4 hk hc
            clear hHeld
            refine hK.out _ _ (HX.out _ HP4.out) (fun hHeld => ?_)
            clear hK Kx
            try simp only [Act.put, List.setIfInBounds_toArray, List.set_cons_zero, List.set_cons_succ]
            refine wpAnyH_ready (rs := [9, 10]) (by kernel_rfl) (by simp) ?_
            refine AllReadyH.cons (o := { dst := some 21, op := Op.build 27 #[(0, Operand.tmp 13), (1, Operand.tmp 16), (2, Operand.tmp 18), (3, Operand.const (Value.int IntKind.i64 (-1))), (4, Operand.tmp 20)], type := 27, pos := "l11_group.go:73", after := #[{ on := 1, ground := Ground.data }, { on := 4, ground := Ground.data }, { on := 6, ground := Ground.data }, { on := 8, ground := Ground.data }], guard := none }) rfl (fun Kx hK => ?_) ?_
            ·
              go_simp
              clear hHeld
              refine hK.out _ _ (HX.out _ HP4.out) (fun hHeld => ?_)
              clear hK Kx
              try simp only [Act.put, List.setIfInBounds_toArray, List.set_cons_zero, List.set_cons_succ]
              refine wpAnyH_ready (rs := [10]) (by kernel_rfl) (by simp) ?_
              refine AllReadyH.cons (o := { dst := some 6, op := Op.alloc 27, type := 0, pos := "l11_group.go:73", after := #[], guard := none }) rfl (fun Kx hK => ?_) AllReadyH.nil
              go_simp
              obtain ⟨z5, hz5⟩ : ∃ v, v = z4.alloc (.cells #[.int .i64 0, .slice none 0 0, .int .i64 0, .int .i64 0, .slice none 0 0] 27) := ⟨_, rfl⟩
              rw [← hz5]
              have hk : Kept c z4 z5 := by rw [hz5]; exact kept_bel (Go.Joins.below_alloc1 _ _)
              have hc : Cur z5 c := by rw [hz5]; exact HP4.out.cur.alloc _
              have HP5 : Hid (Pre w c gb A x by' z5) := HP4.out.keep hc hk
              have HK5 : Hid (OwnL (w.heap.size + 1) z5 K (projB x.2.2.l by')) := ownL_kept HK4.out hk (by have := HL.out; omega)
              have HM5 : Hid (AB (w.heap.size + 1) z5 z3.heap.size 1 [x]) := ab_kept HM4.out hk (by have := HL.out; omega)
              have HN5 : Hid (¬ blks z3.heap.size [x] K) := HN4.out
              have HO5 : Hid (Blk z5 z4.heap.size #[.int .i64 0, .slice none 0 0, .int .i64 0, .int .i64 0, .slice none 0 0] 27 ∧ w.heap.size < z4.heap.size) := ⟨by rw [hz5]; exact Blk.new _ _ _, by have := HP4.out.hA; omega⟩
              clear hz5 hk hc
              clear hHeld
              refine hK.out _ _ (HX.out _ HP5.out) (fun hHeld => ?_)
              clear hK Kx
              try simp only [Act.put, List.setIfInBounds_toArray, List.set_cons_zero, List.set_cons_succ]
              refine wpAnyH_ready (rs := [11]) (by kernel_rfl) (by simp) ?_
              refine AllReadyH.cons (o := { dst := none, op := Op.store 27 (Operand.tmp 6) (Operand.tmp 21), type := 0, pos := "l11_group.go:73", after := #[{ on := 10, ground := Ground.data }, { on := 9, ground := Ground.data }, { on := 6, ground := Ground.chain }, { on := 0, ground := Ground.phase }, { on := 1, ground := Ground.phase }, { on := 2, ground := Ground.phase }, { on := 3, ground := Ground.phase }, { on := 4, ground := Ground.phase }, { on := 5, ground := Ground.phase }, { on := 6, ground := Ground.phase }, { on := 7, ground := Ground.phase }, { on := 8, ground := Ground.phase }, { on := 9, ground := Ground.phase }, { on := 10, ground := Ground.phase }], guard := none }) rfl (fun Kx hK => ?_) AllReadyH.nil
              have n0' : z5.cell? ⟨z4.heap.size, 0, none⟩ = some (.int .i64 0) := HO5.out.1.cell 0
              have m0' := HO5.out.1.frozen 0
              have n1' : z5.cell? ⟨z4.heap.size, 1, none⟩ = some (.slice none 0 0) := HO5.out.1.cell 1
              have m1' := HO5.out.1.frozen 1
              have n2' : z5.cell? ⟨z4.heap.size, 2, none⟩ = some (.int .i64 0) := HO5.out.1.cell 2
              have m2' := HO5.out.1.frozen 2
              have n3' : z5.cell? ⟨z4.heap.size, 3, none⟩ = some (.int .i64 0) := HO5.out.1.cell 3
              have m3' := HO5.out.1.frozen 3
              have n4' : z5.cell? ⟨z4.heap.size, 4, none⟩ = some (.slice none 0 0) := HO5.out.1.cell 4
              have m4' := HO5.out.1.frozen 4
              go_simp
              clear n0' m0' n1' m1' n2' m2' n3' m3' n4' m4' hHeld
              have hz := HP5.out.put HO5.out.1 HO5.out.2 (.int .i64 n) (.slice (some ⟨K, 0, none⟩) (projB x.2.2.l by').length kc) (.int .i64 b) (.int .i64 (-1)) (.slice (some ⟨z3.heap.size, 0, none⟩) [x].length 1)
              refine hK.out _ _ (HX.out _ hz) (fun hHeld => ?_)
              clear hK hz
              try simp only [Act.put, List.setIfInBounds_toArray, List.set_cons_zero, List.set_cons_succ]
              refine wpAnyH_done (by kernel_rfl) ?_ _
              go_wp2_with fail
              go_meet
              exact ⟨_, n, b, K, kc, _, rfl, ⟨HP5.out.put HO5.out.1 HO5.out.2 _ _ _ _ _, put5 HO5.out.1 _ _ _ _ _, HO5.out.2, ownL_moved HK5.out (moved5 HO5.out.1 _ _ _ _ _), ab_movedX HM5.out (moved5 HO5.out.1 _ _ _ _ _), HN5.out, fun y hy => by rw [List.mem_singleton.1 (show y ∈ [x.2.2] from hy)]; exact HP5.out.xf⟩, FN.out, FB.out⟩
            refine AllReadyH.cons (o := { dst := some 6, op := Op.alloc 27, type := 0, pos := "l11_group.go:73", after := #[], guard := none }) rfl (fun Kx hK => ?_) AllReadyH.nil
            go_simp
            obtain ⟨z5, hz5⟩ : ∃ v, v = z4.alloc (.cells #[.int .i64 0, .slice none 0 0, .int .i64 0, .int .i64 0, .slice none 0 0] 27) := ⟨_, rfl⟩
            rw [← hz5]
            have hk : Kept c z4 z5 := by rw [hz5]; exact kept_bel (Go.Joins.below_alloc1 _ _)
            have hc : Cur z5 c := by rw [hz5]; exact HP4.out.cur.alloc _
            have HP5 : Hid (Pre w c gb A x by' z5) := HP4.out.keep hc hk
            have HK5 : Hid (OwnL (w.heap.size + 1) z5 K (projB x.2.2.l by')) := ownL_kept HK4.out hk (by have := HL.out; omega)
            have HM5 : Hid (AB (w.heap.size + 1) z5 z3.heap.size 1 [x]) := ab_kept HM4.out hk (by have := HL.out; omega)
            have HN5 : Hid (¬ blks z3.heap.size [x] K) := HN4.out
            have HO5 : Hid (Blk z5 z4.heap.size #[.int .i64 0, .slice none 0 0, .int .i64 0, .int .i64 0, .slice none 0 0] 27 ∧ w.heap.size < z4.heap.size) := ⟨by rw [hz5]; exact Blk.new _ _ _, by have := HP4.out.hA; omega⟩
            clear hz5 hk hc
            clear hHeld
            refine hK.out _ _ (HX.out _ HP5.out) (fun hHeld => ?_)
            clear hK Kx
            try simp only [Act.put, List.setIfInBounds_toArray, List.set_cons_zero, List.set_cons_succ]
            refine wpAnyH_ready (rs := [9]) (by kernel_rfl) (by simp) ?_
            refine AllReadyH.cons (o := { dst := some 21, op := Op.build 27 #[(0, Operand.tmp 13), (1, Operand.tmp 16), (2, Operand.tmp 18), (3, Operand.const (Value.int IntKind.i64 (-1))), (4, Operand.tmp 20)], type := 27, pos := "l11_group.go:73", after := #[{ on := 1, ground := Ground.data }, { on := 4, ground := Ground.data }, { on := 6, ground := Ground.data }, { on := 8, ground := Ground.data }], guard := none }) rfl (fun Kx hK => ?_) AllReadyH.nil
            go_simp
            clear hHeld
            refine hK.out _ _ (HX.out _ HP5.out) (fun hHeld => ?_)
            clear hK Kx
            try simp only [Act.put, List.setIfInBounds_toArray, List.set_cons_zero, List.set_cons_succ]
            refine wpAnyH_ready (rs := [11]) (by kernel_rfl) (by simp) ?_
            refine AllReadyH.cons (o := { dst := none, op := Op.store 27 (Operand.tmp 6) (Operand.tmp 21), type := 0, pos := "l11_group.go:73", after := #[{ on := 10, ground := Ground.data }, { on := 9, ground := Ground.data }, { on := 6, ground := Ground.chain }, { on := 0, ground := Ground.phase }, { on := 1, ground := Ground.phase }, { on := 2, ground := Ground.phase }, { on := 3, ground := Ground.phase }, { on := 4, ground := Ground.phase }, { on := 5, ground := Ground.phase }, { on := 6, ground := Ground.phase }, { on := 7, ground := Ground.phase }, { on := 8, ground := Ground.phase }, { on := 9, ground := Ground.phase }, { on := 10, ground := Ground.phase }], guard := none }) rfl (fun Kx hK => ?_) AllReadyH.nil
            have n0' : z5.cell? ⟨z4.heap.size, 0, none⟩ = some (.int .i64 0) := HO5.out.1.cell 0
            have m0' := HO5.out.1.frozen 0
            have n1' : z5.cell? ⟨z4.heap.size, 1, none⟩ = some (.slice none 0 0) := HO5.out.1.cell 1
            have m1' := HO5.out.1.frozen 1
            have n2' : z5.cell? ⟨z4.heap.size, 2, none⟩ = some (.int .i64 0) := HO5.out.1.cell 2
            have m2' := HO5.out.1.frozen 2
            have n3' : z5.cell? ⟨z4.heap.size, 3, none⟩ = some (.int .i64 0) := HO5.out.1.cell 3
            have m3' := HO5.out.1.frozen 3
            have n4' : z5.cell? ⟨z4.heap.size, 4, none⟩ = some (.slice none 0 0) := HO5.out.1.cell 4
            have m4' := HO5.out.1.frozen 4
            go_simp
            clear n0' m0' n1' m1' n2' m2' n3' m3' n4' m4' hHeld
            have hz := HP5.out.put HO5.out.1 HO5.out.2 (.int .i64 n) (.slice (some ⟨K, 0, none⟩) (projB x.2.2.l by').length kc) (.int .i64 b) (.int .i64 (-1)) (.slice (some ⟨z3.heap.size, 0, none⟩) [x].length 1)
            refine hK.out _ _ (HX.out _ hz) (fun hHeld => ?_)
            clear hK hz
            try simp only [Act.put, List.setIfInBounds_toArray, List.set_cons_zero, List.set_cons_succ]
            refine wpAnyH_done (by kernel_rfl) ?_ _
            go_wp2_with fail
            go_meet
            exact ⟨_, n, b, K, kc, _, rfl, ⟨HP5.out.put HO5.out.1 HO5.out.2 _ _ _ _ _, put5 HO5.out.1 _ _ _ _ _, HO5.out.2, ownL_moved HK5.out (moved5 HO5.out.1 _ _ _ _ _), ab_movedX HM5.out (moved5 HO5.out.1 _ _ _ _ _), HN5.out, fun y hy => by rw [List.mem_singleton.1 (show y ∈ [x.2.2] from hy)]; exact HP5.out.xf⟩, FN.out, FB.out⟩
          refine AllReadyH.cons (o := { dst := some 6, op := Op.alloc 27, type := 0, pos := "l11_group.go:73", after := #[], guard := none }) rfl (fun Kx hK => ?_) AllReadyH.nil
          go_simp
          obtain ⟨z4, hz4⟩ : ∃ v, v = z3.alloc (.cells #[.int .i64 0, .slice none 0 0, .int .i64 0, .int .i64 0, .slice none 0 0] 27) := ⟨_, rfl⟩
          rw [← hz4]
          have hk : Kept c z3 z4 := by rw [hz4]; exact kept_bel (Go.Joins.below_alloc1 _ _)
          have hc : Cur z4 c := by rw [hz4]; exact HP3.out.cur.alloc _
          have HP4 : Hid (Pre w c gb A x by' z4) := HP3.out.keep hc hk
          have HK4 : Hid (OwnL (w.heap.size + 1) z4 K (projB x.2.2.l by')) := ownL_kept HK3.out hk (by have := HL.out; omega)
          have HO4 : Hid (Blk z4 z3.heap.size #[.int .i64 0, .slice none 0 0, .int .i64 0, .int .i64 0, .slice none 0 0] 27 ∧ w.heap.size < z3.heap.size) := ⟨by rw [hz4]; exact Blk.new _ _ _, by have := HP3.out.hA; omega⟩
          clear hz4 hk hc
          clear hHeld
          refine hK.out _ _ (HX.out _ HP4.out) (fun hHeld => ?_)
          clear hK Kx
          try simp only [Act.put, List.setIfInBounds_toArray, List.set_cons_zero, List.set_cons_succ]
          refine wpAnyH_ready (rs := [8]) (by kernel_rfl) (by simp) ?_
          refine AllReadyH.cons (o := { dst := some 20, op := Op.buildSlice 25 1 #[(0, Operand.tmp 19)], type := 25, pos := "l11_group.go:73", after := #[{ on := 7, ground := Ground.data }], guard := none }) rfl (fun Kx hK => ?_) AllReadyH.nil
          go_simp
          obtain ⟨z5, hz5⟩ : ∃ v, v = z4.alloc (.cells #[.slice (some ⟨x.1, 0, none⟩) x.2.2.l.length x.2.1, .int .i64 x.2.2.s, .int .i64 x.2.2.e, .string x.2.2.n] 29) := ⟨_, rfl⟩
          rw [← hz5]
          have hk : Kept c z4 z5 := by rw [hz5]; exact kept_bel (Go.Joins.below_alloc1 _ _)
          have hc : Cur z5 c := by rw [hz5]; exact HP4.out.cur.alloc _
          have HP5 : Hid (Pre w c gb A x by' z5) := HP4.out.keep hc hk
          have HK5 : Hid (OwnL (w.heap.size + 1) z5 K (projB x.2.2.l by')) := ownL_kept HK4.out hk (by have := HL.out; omega)
          have HO5 : Hid (Blk z5 z3.heap.size #[.int .i64 0, .slice none 0 0, .int .i64 0, .int .i64 0, .slice none 0 0] 27 ∧ w.heap.size < z3.heap.size) := ⟨blk_kept HO4.out.1 hk (by have := HL.out; have := HO4.out.2; omega), HO4.out.2⟩
          have HM5 : Hid (AB (w.heap.size + 1) z5 z4.heap.size 1 [x]) := AB.one (by rw [hz5]; exact Blk.new _ _ _) (by have := HP4.out.hA; omega) HP5.out.xo
          have HN5 : Hid (¬ blks z4.heap.size [x] K) := ne_one HK5.out HM5.out NX.out
          clear hz5 hk hc
          clear hHeld
          refine hK.out _ _ (HX.out _ HP5.out) (fun hHeld => ?_)
          clear hK Kx
          try simp only [Act.put, List.setIfInBounds_toArray, List.set_cons_zero, List.set_cons_succ]
          refine wpAnyH_ready (rs := [9]) (by kernel_rfl) (by simp) ?_
          refine AllReadyH.cons (o := { dst := some 21, op := Op.build 27 #[(0, Operand.tmp 13), (1, Operand.tmp 16), (2, Operand.tmp 18), (3, Operand.const (Value.int IntKind.i64 (-1))), (4, Operand.tmp 20)], type := 27, pos := "l11_group.go:73", after := #[{ on := 1, ground := Ground.data }, { on := 4, ground := Ground.data }, { on := 6, ground := Ground.data }, { on := 8, ground := Ground.data }], guard := none }) rfl (fun Kx hK => ?_) AllReadyH.nil
          go_simp
          clear hHeld
          refine hK.out _ _ (HX.out _ HP5.out) (fun hHeld => ?_)
          clear hK Kx
          try simp only [Act.put, List.setIfInBounds_toArray, List.set_cons_zero, List.set_cons_succ]
          refine wpAnyH_ready (rs := [11]) (by kernel_rfl) (by simp) ?_
          refine AllReadyH.cons (o := { dst := none, op := Op.store 27 (Operand.tmp 6) (Operand.tmp 21), type := 0, pos := "l11_group.go:73", after := #[{ on := 10, ground := Ground.data }, { on := 9, ground := Ground.data }, { on := 6, ground := Ground.chain }, { on := 0, ground := Ground.phase }, { on := 1, ground := Ground.phase }, { on := 2, ground := Ground.phase }, { on := 3, ground := Ground.phase }, { on := 4, ground := Ground.phase }, { on := 5, ground := Ground.phase }, { on := 6, ground := Ground.phase }, { on := 7, ground := Ground.phase }, { on := 8, ground := Ground.phase }, { on := 9, ground := Ground.phase }, { on := 10, ground := Ground.phase }], guard := none }) rfl (fun Kx hK => ?_) AllReadyH.nil
          have n0' : z5.cell? ⟨z3.heap.size, 0, none⟩ = some (.int .i64 0) := HO5.out.1.cell 0
          have m0' := HO5.out.1.frozen 0
          have n1' : z5.cell? ⟨z3.heap.size, 1, none⟩ = some (.slice none 0 0) := HO5.out.1.cell 1
          have m1' := HO5.out.1.frozen 1
          have n2' : z5.cell? ⟨z3.heap.size, 2, none⟩ = some (.int .i64 0) := HO5.out.1.cell 2
          have m2' := HO5.out.1.frozen 2
          have n3' : z5.cell? ⟨z3.heap.size, 3, none⟩ = some (.int .i64 0) := HO5.out.1.cell 3
          have m3' := HO5.out.1.frozen 3
          have n4' : z5.cell? ⟨z3.heap.size, 4, none⟩ = some (.slice none 0 0) := HO5.out.1.cell 4
          have m4' := HO5.out.1.frozen 4
          go_simp
          clear n0' m0' n1' m1' n2' m2' n3' m3' n4' m4' hHeld
          have hz := HP5.out.put HO5.out.1 HO5.out.2 (.int .i64 n) (.slice (some ⟨K, 0, none⟩) (projB x.2.2.l by').length kc) (.int .i64 b) (.int .i64 (-1)) (.slice (some ⟨z4.heap.size, 0, none⟩) [x].length 1)
          refine hK.out _ _ (HX.out _ hz) (fun hHeld => ?_)
          clear hK hz
          try simp only [Act.put, List.setIfInBounds_toArray, List.set_cons_zero, List.set_cons_succ]
          refine wpAnyH_done (by kernel_rfl) ?_ _
          go_wp2_with fail
          go_meet
          exact ⟨_, n, b, K, kc, _, rfl, ⟨HP5.out.put HO5.out.1 HO5.out.2 _ _ _ _ _, put5 HO5.out.1 _ _ _ _ _, HO5.out.2, ownL_moved HK5.out (moved5 HO5.out.1 _ _ _ _ _), ab_movedX HM5.out (moved5 HO5.out.1 _ _ _ _ _), HN5.out, fun y hy => by rw [List.mem_singleton.1 (show y ∈ [x.2.2] from hy)]; exact HP5.out.xf⟩, FN.out, FB.out⟩
        refine AllReadyH.cons (o := { dst := some 20, op := Op.buildSlice 25 1 #[(0, Operand.tmp 19)], type := 25, pos := "l11_group.go:73", after := #[{ on := 7, ground := Ground.data }], guard := none }) rfl (fun Kx hK => ?_) ?_
        ·
          go_simp
          obtain ⟨z3, hz3⟩ : ∃ v, v = z2.alloc (.cells #[.slice (some ⟨x.1, 0, none⟩) x.2.2.l.length x.2.1, .int .i64 x.2.2.s, .int .i64 x.2.2.e, .string x.2.2.n] 29) := ⟨_, rfl⟩
          rw [← hz3]
          have hk : Kept c z2 z3 := by rw [hz3]; exact kept_bel (Go.Joins.below_alloc1 _ _)
          have hc : Cur z3 c := by rw [hz3]; exact HP2.out.cur.alloc _
          have HP3 : Hid (Pre w c gb A x by' z3) := HP2.out.keep hc hk
          have HK3 : Hid (OwnL (w.heap.size + 1) z3 K (projB x.2.2.l by')) := ownL_kept HK2.out hk (by have := HL.out; omega)
          have HM3 : Hid (AB (w.heap.size + 1) z3 z2.heap.size 1 [x]) := AB.one (by rw [hz3]; exact Blk.new _ _ _) (by have := HP2.out.hA; omega) HP3.out.xo
          have HN3 : Hid (¬ blks z2.heap.size [x] K) := ne_one HK3.out HM3.out NX.out
          clear hz3 hk hc
          clear hHeld
          refine hK.out _ _ (HX.out _ HP3.out) (fun hHeld => ?_)
          clear hK Kx
          try simp only [Act.put, List.setIfInBounds_toArray, List.set_cons_zero, List.set_cons_succ]
          refine wpAnyH_ready (rs := [6, 10]) (by kernel_rfl) (by simp) ?_
          refine AllReadyH.cons (o := { dst := some 18, op := Op.call { callee := Callee.value (Operand.func 55), args := #[Operand.tmp 17, Operand.const (Value.int IntKind.i64 5)], argTypes := #[80, 3] }, type := 3, pos := "l11_group.go:73", after := #[{ on := 5, ground := Ground.data }, { on := 4, ground := Ground.chain }], guard := none }) rfl (fun Kx hK => ?_) ?_
          ·
            go_simp
            refine (below_any c 5 _ HP3.out.cur (by decide) (by decide)).mono ?_
            rintro r z4 ⟨⟨b, rfl, h0, h1⟩, hc, hk⟩
            have FB : Hid (0 ≤ b ∧ b ≤ 4) := ⟨h0, by omega⟩
            have HP4 : Hid (Pre w c gb A x by' z4) := HP3.out.keep hc hk
            have HK4 : Hid (OwnL (w.heap.size + 1) z4 K (projB x.2.2.l by')) := ownL_kept HK3.out hk (by have := HL.out; omega)
            have HM4 : Hid (AB (w.heap.size + 1) z4 z2.heap.size 1 [x]) := ab_kept HM3.out hk (by have := HL.out; omega)
            have HN4 : Hid (¬ blks z2.heap.size [x] K) := HN3.out
            clear h0 h1 hc hk
            try dsimp only
            clear hHeld
            refine hK.out _ _ (HX.out _ HP4.out) (fun hHeld => ?_)
            clear hK Kx
            try simp only [Act.put, List.setIfInBounds_toArray, List.set_cons_zero, List.set_cons_succ]
            refine wpAnyH_ready (rs := [9, 10]) (by kernel_rfl) (by simp) ?_
            refine AllReadyH.cons (o := { dst := some 21, op := Op.build 27 #[(0, Operand.tmp 13), (1, Operand.tmp 16), (2, Operand.tmp 18), (3, Operand.const (Value.int IntKind.i64 (-1))), (4, Operand.tmp 20)], type := 27, pos := "l11_group.go:73", after := #[{ on := 1, ground := Ground.data }, { on := 4, ground := Ground.data }, { on := 6, ground := Ground.data }, { on := 8, ground := Ground.data }], guard := none }) rfl (fun Kx hK => ?_) ?_
            ·
              go_simp
              clear hHeld
              refine hK.out _ _ (HX.out _ HP4.out) (fun hHeld => ?_)
              clear hK Kx
              try simp only [Act.put, List.setIfInBounds_toArray, List.set_cons_zero, List.set_cons_succ]
              refine wpAnyH_ready (rs := [10]) (by kernel_rfl) (by simp) ?_
              refine AllReadyH.cons (o := { dst := some 6, op := Op.alloc 27, type := 0, pos := "l11_group.go:73", after := #[], guard := none }) rfl (fun Kx hK => ?_) AllReadyH.nil
              go_simp
              obtain ⟨z5, hz5⟩ : ∃ v, v = z4.alloc (.cells #[.int .i64 0, .slice none 0 0, .int .i64 0, .int .i64 0, .slice none 0 0] 27) := ⟨_, rfl⟩
              rw [← hz5]
              have hk : Kept c z4 z5 := by rw [hz5]; exact kept_bel (Go.Joins.below_alloc1 _ _)
              have hc : Cur z5 c := by rw [hz5]; exact HP4.out.cur.alloc _
              have HP5 : Hid (Pre w c gb A x by' z5) := HP4.out.keep hc hk
              have HK5 : Hid (OwnL (w.heap.size + 1) z5 K (projB x.2.2.l by')) := ownL_kept HK4.out hk (by have := HL.out; omega)
              have HM5 : Hid (AB (w.heap.size + 1) z5 z2.heap.size 1 [x]) := ab_kept HM4.out hk (by have := HL.out; omega)
              have HN5 : Hid (¬ blks z2.heap.size [x] K) := HN4.out
              have HO5 : Hid (Blk z5 z4.heap.size #[.int .i64 0, .slice none 0 0, .int .i64 0, .int .i64 0, .slice none 0 0] 27 ∧ w.heap.size < z4.heap.size) := ⟨by rw [hz5]; exact Blk.new _ _ _, by have := HP4.out.hA; omega⟩
              clear hz5 hk hc
              clear hHeld
              refine hK.out _ _ (HX.out _ HP5.out) (fun hHeld => ?_)
              clear hK Kx
              try simp only [Act.put, List.setIfInBounds_toArray, List.set_cons_zero, List.set_cons_succ]
              refine wpAnyH_ready (rs := [11]) (by kernel_rfl) (by simp) ?_
              refine AllReadyH.cons (o := { dst := none, op := Op.store 27 (Operand.tmp 6) (Operand.tmp 21), type := 0, pos := "l11_group.go:73", after := #[{ on := 10, ground := Ground.data }, { on := 9, ground := Ground.data }, { on := 6, ground := Ground.chain }, { on := 0, ground := Ground.phase }, { on := 1, ground := Ground.phase }, { on := 2, ground := Ground.phase }, { on := 3, ground := Ground.phase }, { on := 4, ground := Ground.phase }, { on := 5, ground := Ground.phase }, { on := 6, ground := Ground.phase }, { on := 7, ground := Ground.phase }, { on := 8, ground := Ground.phase }, { on := 9, ground := Ground.phase }, { on := 10, ground := Ground.phase }], guard := none }) rfl (fun Kx hK => ?_) AllReadyH.nil
              have n0' : z5.cell? ⟨z4.heap.size, 0, none⟩ = some (.int .i64 0) := HO5.out.1.cell 0
              have m0' := HO5.out.1.frozen 0
              have n1' : z5.cell? ⟨z4.heap.size, 1, none⟩ = some (.slice none 0 0) := HO5.out.1.cell 1
              have m1' := HO5.out.1.frozen 1
              have n2' : z5.cell? ⟨z4.heap.size, 2, none⟩ = some (.int .i64 0) := HO5.out.1.cell 2
              have m2' := HO5.out.1.frozen 2
              have n3' : z5.cell? ⟨z4.heap.size, 3, none⟩ = some (.int .i64 0) := HO5.out.1.cell 3
              have m3' := HO5.out.1.frozen 3
              have n4' : z5.cell? ⟨z4.heap.size, 4, none⟩ = some (.slice none 0 0) := HO5.out.1.cell 4
              have m4' := HO5.out.1.frozen 4
              go_simp
              clear n0' m0' n1' m1' n2' m2' n3' m3' n4' m4' hHeld
              have hz := HP5.out.put HO5.out.1 HO5.out.2 (.int .i64 n) (.slice (some ⟨K, 0, none⟩) (projB x.2.2.l by').length kc) (.int .i64 b) (.int .i64 (-1)) (.slice (some ⟨z2.heap.size, 0, none⟩) [x].length 1)
              refine hK.out _ _ (HX.out _ hz) (fun hHeld => ?_)
              clear hK hz
              try simp only [Act.put, List.setIfInBounds_toArray, List.set_cons_zero, List.set_cons_succ]
              refine wpAnyH_done (by kernel_rfl) ?_ _
              go_wp2_with fail
              go_meet
              exact ⟨_, n, b, K, kc, _, rfl, ⟨HP5.out.put HO5.out.1 HO5.out.2 _ _ _ _ _, put5 HO5.out.1 _ _ _ _ _, HO5.out.2, ownL_moved HK5.out (moved5 HO5.out.1 _ _ _ _ _), ab_movedX HM5.out (moved5 HO5.out.1 _ _ _ _ _), HN5.out, fun y hy => by rw [List.mem_singleton.1 (show y ∈ [x.2.2] from hy)]; exact HP5.out.xf⟩, FN.out, FB.out⟩
            refine AllReadyH.cons (o := { dst := some 6, op := Op.alloc 27, type := 0, pos := "l11_group.go:73", after := #[], guard := none }) rfl (fun Kx hK => ?_) AllReadyH.nil
            go_simp
            obtain ⟨z5, hz5⟩ : ∃ v, v = z4.alloc (.cells #[.int .i64 0, .slice none 0 0, .int .i64 0, .int .i64 0, .slice none 0 0] 27) := ⟨_, rfl⟩
            rw [← hz5]
            have hk : Kept c z4 z5 := by rw [hz5]; exact kept_bel (Go.Joins.below_alloc1 _ _)
            have hc : Cur z5 c := by rw [hz5]; exact HP4.out.cur.alloc _
            have HP5 : Hid (Pre w c gb A x by' z5) := HP4.out.keep hc hk
            have HK5 : Hid (OwnL (w.heap.size + 1) z5 K (projB x.2.2.l by')) := ownL_kept HK4.out hk (by have := HL.out; omega)
            have HM5 : Hid (AB (w.heap.size + 1) z5 z2.heap.size 1 [x]) := ab_kept HM4.out hk (by have := HL.out; omega)
            have HN5 : Hid (¬ blks z2.heap.size [x] K) := HN4.out
            have HO5 : Hid (Blk z5 z4.heap.size #[.int .i64 0, .slice none 0 0, .int .i64 0, .int .i64 0, .slice none 0 0] 27 ∧ w.heap.size < z4.heap.size) := ⟨by rw [hz5]; exact Blk.new _ _ _, by have := HP4.out.hA; omega⟩
            clear hz5 hk hc
            clear hHeld
            refine hK.out _ _ (HX.out _ HP5.out) (fun hHeld => ?_)
            clear hK Kx
            try simp only [Act.put, List.setIfInBounds_toArray, List.set_cons_zero, List.set_cons_succ]
            refine wpAnyH_ready (rs := [9]) (by kernel_rfl) (by simp) ?_
            refine AllReadyH.cons (o := { dst := some 21, op := Op.build 27 #[(0, Operand.tmp 13), (1, Operand.tmp 16), (2, Operand.tmp 18), (3, Operand.const (Value.int IntKind.i64 (-1))), (4, Operand.tmp 20)], type := 27, pos := "l11_group.go:73", after := #[{ on := 1, ground := Ground.data }, { on := 4, ground := Ground.data }, { on := 6, ground := Ground.data }, { on := 8, ground := Ground.data }], guard := none }) rfl (fun Kx hK => ?_) AllReadyH.nil
            go_simp
            clear hHeld
            refine hK.out _ _ (HX.out _ HP5.out) (fun hHeld => ?_)
            clear hK Kx
            try simp only [Act.put, List.setIfInBounds_toArray, List.set_cons_zero, List.set_cons_succ]
            refine wpAnyH_ready (rs := [11]) (by kernel_rfl) (by simp) ?_
            refine AllReadyH.cons (o := { dst := none, op := Op.store 27 (Operand.tmp 6) (Operand.tmp 21), type := 0, pos := "l11_group.go:73", after := #[{ on := 10, ground := Ground.data }, { on := 9, ground := Ground.data }, { on := 6, ground := Ground.chain }, { on := 0, ground := Ground.phase }, { on := 1, ground := Ground.phase }, { on := 2, ground := Ground.phase }, { on := 3, ground := Ground.phase }, { on := 4, ground := Ground.phase }, { on := 5, ground := Ground.phase }, { on := 6, ground := Ground.phase }, { on := 7, ground := Ground.phase }, { on := 8, ground := Ground.phase }, { on := 9, ground := Ground.phase }, { on := 10, ground := Ground.phase }], guard := none }) rfl (fun Kx hK => ?_) AllReadyH.nil
            have n0' : z5.cell? ⟨z4.heap.size, 0, none⟩ = some (.int .i64 0) := HO5.out.1.cell 0
            have m0' := HO5.out.1.frozen 0
            have n1' : z5.cell? ⟨z4.heap.size, 1, none⟩ = some (.slice none 0 0) := HO5.out.1.cell 1
            have m1' := HO5.out.1.frozen 1
            have n2' : z5.cell? ⟨z4.heap.size, 2, none⟩ = some (.int .i64 0) := HO5.out.1.cell 2
            have m2' := HO5.out.1.frozen 2
            have n3' : z5.cell? ⟨z4.heap.size, 3, none⟩ = some (.int .i64 0) := HO5.out.1.cell 3
            have m3' := HO5.out.1.frozen 3
            have n4' : z5.cell? ⟨z4.heap.size, 4, none⟩ = some (.slice none 0 0) := HO5.out.1.cell 4
            have m4' := HO5.out.1.frozen 4
            go_simp
            clear n0' m0' n1' m1' n2' m2' n3' m3' n4' m4' hHeld
            have hz := HP5.out.put HO5.out.1 HO5.out.2 (.int .i64 n) (.slice (some ⟨K, 0, none⟩) (projB x.2.2.l by').length kc) (.int .i64 b) (.int .i64 (-1)) (.slice (some ⟨z2.heap.size, 0, none⟩) [x].length 1)
            refine hK.out _ _ (HX.out _ hz) (fun hHeld => ?_)
            clear hK hz
            try simp only [Act.put, List.setIfInBounds_toArray, List.set_cons_zero, List.set_cons_succ]
            refine wpAnyH_done (by kernel_rfl) ?_ _
            go_wp2_with fail
            go_meet
            exact ⟨_, n, b, K, kc, _, rfl, ⟨HP5.out.put HO5.out.1 HO5.out.2 _ _ _ _ _, put5 HO5.out.1 _ _ _ _ _, HO5.out.2, ownL_moved HK5.out (moved5 HO5.out.1 _ _ _ _ _), ab_movedX HM5.out (moved5 HO5.out.1 _ _ _ _ _), HN5.out, fun y hy => by rw [List.mem_singleton.1 (show y ∈ [x.2.2] from hy)]; exact HP5.out.xf⟩, FN.out, FB.out⟩
          refine AllReadyH.cons (o := { dst := some 6, op := Op.alloc 27, type := 0, pos := "l11_group.go:73", after := #[], guard := none }) rfl (fun Kx hK => ?_) AllReadyH.nil
          go_simp
          obtain ⟨z4, hz4⟩ : ∃ v, v = z3.alloc (.cells #[.int .i64 0, .slice none 0 0, .int .i64 0, .int .i64 0, .slice none 0 0] 27) := ⟨_, rfl⟩
          rw [← hz4]
          have hk : Kept c z3 z4 := by rw [hz4]; exact kept_bel (Go.Joins.below_alloc1 _ _)
          have hc : Cur z4 c := by rw [hz4]; exact HP3.out.cur.alloc _
          have HP4 : Hid (Pre w c gb A x by' z4) := HP3.out.keep hc hk
          have HK4 : Hid (OwnL (w.heap.size + 1) z4 K (projB x.2.2.l by')) := ownL_kept HK3.out hk (by have := HL.out; omega)
          have HM4 : Hid (AB (w.heap.size + 1) z4 z2.heap.size 1 [x]) := ab_kept HM3.out hk (by have := HL.out; omega)
          have HN4 : Hid (¬ blks z2.heap.size [x] K) := HN3.out
          have HO4 : Hid (Blk z4 z3.heap.size #[.int .i64 0, .slice none 0 0, .int .i64 0, .int .i64 0, .slice none 0 0] 27 ∧ w.heap.size < z3.heap.size) := ⟨by rw [hz4]; exact Blk.new _ _ _, by have := HP3.out.hA; omega⟩
          clear hz4 hk hc
          clear hHeld
          refine hK.out _ _ (HX.out _ HP4.out) (fun hHeld => ?_)
          clear hK Kx
          try simp only [Act.put, List.setIfInBounds_toArray, List.set_cons_zero, List.set_cons_succ]
          refine wpAnyH_ready (rs := [6]) (by kernel_rfl) (by simp) ?_
          refine AllReadyH.cons (o := { dst := some 18, op := Op.call { callee := Callee.value (Operand.func 55), args := #[Operand.tmp 17, Operand.const (Value.int IntKind.i64 5)], argTypes := #[80, 3] }, type := 3, pos := "l11_group.go:73", after := #[{ on := 5, ground := Ground.data }, { on := 4, ground := Ground.chain }], guard := none }) rfl (fun Kx hK => ?_) AllReadyH.nil
          go_simp
          refine (below_any c 5 _ HP4.out.cur (by decide) (by decide)).mono ?_
          rintro r z5 ⟨⟨b, rfl, h0, h1⟩, hc, hk⟩
          have FB : Hid (0 ≤ b ∧ b ≤ 4) := ⟨h0, by omega⟩
          have HP5 : Hid (Pre w c gb A x by' z5) := HP4.out.keep hc hk
          have HK5 : Hid (OwnL (w.heap.size + 1) z5 K (projB x.2.2.l by')) := ownL_kept HK4.out hk (by have := HL.out; omega)
          have HM5 : Hid (AB (w.heap.size + 1) z5 z2.heap.size 1 [x]) := ab_kept HM4.out hk (by have := HL.out; omega)
          have HO5 : Hid (Blk z5 z3.heap.size #[.int .i64 0, .slice none 0 0, .int .i64 0, .int .i64 0, .slice none 0 0] 27 ∧ w.heap.size < z3.heap.size) := ⟨blk_kept HO4.out.1 hk (by have := HL.out; have := HO4.out.2; omega), HO4.out.2⟩
          have HN5 : Hid (¬ blks z2.heap.size [x] K) := HN4.out
          clear h0 h1 hc hk
          try dsimp only
          clear hHeld
          refine hK.out _ _ (HX.out _ HP5.out) (fun hHeld => ?_)
          clear hK Kx
          try simp only [Act.put, List.setIfInBounds_toArray, List.set_cons_zero, List.set_cons_succ]
          refine wpAnyH_ready (rs := [9]) (by kernel_rfl) (by simp) ?_
          refine AllReadyH.cons (o := { dst := some 21, op := Op.build 27 #[(0, Operand.tmp 13), (1, Operand.tmp 16), (2, Operand.tmp 18), (3, Operand.const (Value.int IntKind.i64 (-1))), (4, Operand.tmp 20)], type := 27, pos := "l11_group.go:73", after := #[{ on := 1, ground := Ground.data }, { on := 4, ground := Ground.data }, { on := 6, ground := Ground.data }, { on := 8, ground := Ground.data }], guard := none }) rfl (fun Kx hK => ?_) AllReadyH.nil
          go_simp
          clear hHeld
          refine hK.out _ _ (HX.out _ HP5.out) (fun hHeld => ?_)
          clear hK Kx
          try simp only [Act.put, List.setIfInBounds_toArray, List.set_cons_zero, List.set_cons_succ]
          refine wpAnyH_ready (rs := [11]) (by kernel_rfl) (by simp) ?_
          refine AllReadyH.cons (o := { dst := none, op := Op.store 27 (Operand.tmp 6) (Operand.tmp 21), type := 0, pos := "l11_group.go:73", after := #[{ on := 10, ground := Ground.data }, { on := 9, ground := Ground.data }, { on := 6, ground := Ground.chain }, { on := 0, ground := Ground.phase }, { on := 1, ground := Ground.phase }, { on := 2, ground := Ground.phase }, { on := 3, ground := Ground.phase }, { on := 4, ground := Ground.phase }, { on := 5, ground := Ground.phase }, { on := 6, ground := Ground.phase }, { on := 7, ground := Ground.phase }, { on := 8, ground := Ground.phase }, { on := 9, ground := Ground.phase }, { on := 10, ground := Ground.phase }], guard := none }) rfl (fun Kx hK => ?_) AllReadyH.nil
          have n0' : z5.cell? ⟨z3.heap.size, 0, none⟩ = some (.int .i64 0) := HO5.out.1.cell 0
          have m0' := HO5.out.1.frozen 0
          have n1' : z5.cell? ⟨z3.heap.size, 1, none⟩ = some (.slice none 0 0) := HO5.out.1.cell 1
          have m1' := HO5.out.1.frozen 1
          have n2' : z5.cell? ⟨z3.heap.size, 2, none⟩ = some (.int .i64 0) := HO5.out.1.cell 2
          have m2' := HO5.out.1.frozen 2
          have n3' : z5.cell? ⟨z3.heap.size, 3, none⟩ = some (.int .i64 0) := HO5.out.1.cell 3
          have m3' := HO5.out.1.frozen 3
          have n4' : z5.cell? ⟨z3.heap.size, 4, none⟩ = some (.slice none 0 0) := HO5.out.1.cell 4
          have m4' := HO5.out.1.frozen 4
          go_simp
          clear n0' m0' n1' m1' n2' m2' n3' m3' n4' m4' hHeld
          have hz := HP5.out.put HO5.out.1 HO5.out.2 (.int .i64 n) (.slice (some ⟨K, 0, none⟩) (projB x.2.2.l by').length kc) (.int .i64 b) (.int .i64 (-1)) (.slice (some ⟨z2.heap.size, 0, none⟩) [x].length 1)
          refine hK.out _ _ (HX.out _ hz) (fun hHeld => ?_)
          clear hK hz
          try simp only [Act.put, List.setIfInBounds_toArray, List.set_cons_zero, List.set_cons_succ]
          refine wpAnyH_done (by kernel_rfl) ?_ _
          go_wp2_with fail
          go_meet
          exact ⟨_, n, b, K, kc, _, rfl, ⟨HP5.out.put HO5.out.1 HO5.out.2 _ _ _ _ _, put5 HO5.out.1 _ _ _ _ _, HO5.out.2, ownL_moved HK5.out (moved5 HO5.out.1 _ _ _ _ _), ab_movedX HM5.out (moved5 HO5.out.1 _ _ _ _ _), HN5.out, fun y hy => by rw [List.mem_singleton.1 (show y ∈ [x.2.2] from hy)]; exact HP5.out.xf⟩, FN.out, FB.out⟩
        refine AllReadyH.cons (o := { dst := some 6, op := Op.alloc 27, type := 0, pos := "l11_group.go:73", after := #[], guard := none }) rfl (fun Kx hK => ?_) AllReadyH.nil
        go_simp
        obtain ⟨z3, hz3⟩ : ∃ v, v = z2.alloc (.cells #[.int .i64 0, .slice none 0 0, .int .i64 0, .int .i64 0, .slice none 0 0] 27) := ⟨_, rfl⟩
        rw [← hz3]
        have hk : Kept c z2 z3 := by rw [hz3]; exact kept_bel (Go.Joins.below_alloc1 _ _)
        have hc : Cur z3 c := by rw [hz3]; exact HP2.out.cur.alloc _
        have HP3 : Hid (Pre w c gb A x by' z3) := HP2.out.keep hc hk
        have HK3 : Hid (OwnL (w.heap.size + 1) z3 K (projB x.2.2.l by')) := ownL_kept HK2.out hk (by have := HL.out; omega)
        have HO3 : Hid (Blk z3 z2.heap.size #[.int .i64 0, .slice none 0 0, .int .i64 0, .int .i64 0, .slice none 0 0] 27 ∧ w.heap.size < z2.heap.size) := ⟨by rw [hz3]; exact Blk.new _ _ _, by have := HP2.out.hA; omega⟩
        clear hz3 hk hc
        clear hHeld
        refine hK.out _ _ (HX.out _ HP3.out) (fun hHeld => ?_)
        clear hK Kx
        try simp only [Act.put, List.setIfInBounds_toArray, List.set_cons_zero, List.set_cons_succ]
        refine wpAnyH_ready (rs := [6, 8]) (by kernel_rfl) (by simp) ?_
        refine AllReadyH.cons (o := { dst := some 18, op := Op.call { callee := Callee.value (Operand.func 55), args := #[Operand.tmp 17, Operand.const (Value.int IntKind.i64 5)], argTypes := #[80, 3] }, type := 3, pos := "l11_group.go:73", after := #[{ on := 5, ground := Ground.data }, { on := 4, ground := Ground.chain }], guard := none }) rfl (fun Kx hK => ?_) ?_
        ·
          go_simp
          refine (below_any c 5 _ HP3.out.cur (by decide) (by decide)).mono ?_
          rintro r z4 ⟨⟨b, rfl, h0, h1⟩, hc, hk⟩
          have FB : Hid (0 ≤ b ∧ b ≤ 4) := ⟨h0, by omega⟩
          have HP4 : Hid (Pre w c gb A x by' z4) := HP3.out.keep hc hk
          have HK4 : Hid (OwnL (w.heap.size + 1) z4 K (projB x.2.2.l by')) := ownL_kept HK3.out hk (by have := HL.out; omega)
          have HO4 : Hid (Blk z4 z2.heap.size #[.int .i64 0, .slice none 0 0, .int .i64 0, .int .i64 0, .slice none 0 0] 27 ∧ w.heap.size < z2.heap.size) := ⟨blk_kept HO3.out.1 hk (by have := HL.out; have := HO3.out.2; omega), HO3.out.2⟩
          clear h0 h1 hc hk
          try dsimp only
          clear hHeld
          refine hK.out _ _ (HX.out _ HP4.out) (fun hHeld => ?_)
          clear hK Kx
          try simp only [Act.put, List.setIfInBounds_toArray, List.set_cons_zero, List.set_cons_succ]
          refine wpAnyH_ready (rs := [8]) (by kernel_rfl) (by simp) ?_
          refine AllReadyH.cons (o := { dst := some 20, op := Op.buildSlice 25 1 #[(0, Operand.tmp 19)], type := 25, pos := "l11_group.go:73", after := #[{ on := 7, ground := Ground.data }], guard := none }) rfl (fun Kx hK => ?_) AllReadyH.nil
          go_simp
          obtain ⟨z5, hz5⟩ : ∃ v, v = z4.alloc (.cells #[.slice (some ⟨x.1, 0, none⟩) x.2.2.l.length x.2.1, .int .i64 x.2.2.s, .int .i64 x.2.2.e, .string x.2.2.n] 29) := ⟨_, rfl⟩
          rw [← hz5]
          have hk : Kept c z4 z5 := by rw [hz5]; exact kept_bel (Go.Joins.below_alloc1 _ _)
          have hc : Cur z5 c := by rw [hz5]; exact HP4.out.cur.alloc _
          have HP5 : Hid (Pre w c gb A x by' z5) := HP4.out.keep hc hk
          have HK5 : Hid (OwnL (w.heap.size + 1) z5 K (projB x.2.2.l by')) := ownL_kept HK4.out hk (by have := HL.out; omega)
          have HO5 : Hid (Blk z5 z2.heap.size #[.int .i64 0, .slice none 0 0, .int .i64 0, .int .i64 0, .slice none 0 0] 27 ∧ w.heap.size < z2.heap.size) := ⟨blk_kept HO4.out.1 hk (by have := HL.out; have := HO4.out.2; omega), HO4.out.2⟩
          have HM5 : Hid (AB (w.heap.size + 1) z5 z4.heap.size 1 [x]) := AB.one (by rw [hz5]; exact Blk.new _ _ _) (by have := HP4.out.hA; omega) HP5.out.xo
          have HN5 : Hid (¬ blks z4.heap.size [x] K) := ne_one HK5.out HM5.out NX.out
          clear hz5 hk hc
          clear hHeld
          refine hK.out _ _ (HX.out _ HP5.out) (fun hHeld => ?_)
          clear hK Kx
          try simp only [Act.put, List.setIfInBounds_toArray, List.set_cons_zero, List.set_cons_succ]
          refine wpAnyH_ready (rs := [9]) (by kernel_rfl) (by simp) ?_
          refine AllReadyH.cons (o := { dst := some 21, op := Op.build 27 #[(0, Operand.tmp 13), (1, Operand.tmp 16), (2, Operand.tmp 18), (3, Operand.const (Value.int IntKind.i64 (-1))), (4, Operand.tmp 20)], type := 27, pos := "l11_group.go:73", after := #[{ on := 1, ground := Ground.data }, { on := 4, ground := Ground.data }, { on := 6, ground := Ground.data }, { on := 8, ground := Ground.data }], guard := none }) rfl (fun Kx hK => ?_) AllReadyH.nil
          go_simp
          clear hHeld
          refine hK.out _ _ (HX.out _ HP5.out) (fun hHeld => ?_)
          clear hK Kx
          try simp only [Act.put, List.setIfInBounds_toArray, List.set_cons_zero, List.set_cons_succ]
          refine wpAnyH_ready (rs := [11]) (by kernel_rfl) (by simp) ?_
          refine AllReadyH.cons (o := { dst := none, op := Op.store 27 (Operand.tmp 6) (Operand.tmp 21), type := 0, pos := "l11_group.go:73", after := #[{ on := 10, ground := Ground.data }, { on := 9, ground := Ground.data }, { on := 6, ground := Ground.chain }, { on := 0, ground := Ground.phase }, { on := 1, ground := Ground.phase }, { on := 2, ground := Ground.phase }, { on := 3, ground := Ground.phase }, { on := 4, ground := Ground.phase }, { on := 5, ground := Ground.phase }, { on := 6, ground := Ground.phase }, { on := 7, ground := Ground.phase }, { on := 8, ground := Ground.phase }, { on := 9, ground := Ground.phase }, { on := 10, ground := Ground.phase }], guard := none }) rfl (fun Kx hK => ?_) AllReadyH.nil
          have n0' : z5.cell? ⟨z2.heap.size, 0, none⟩ = some (.int .i64 0) := HO5.out.1.cell 0
          have m0' := HO5.out.1.frozen 0
          have n1' : z5.cell? ⟨z2.heap.size, 1, none⟩ = some (.slice none 0 0) := HO5.out.1.cell 1
          have m1' := HO5.out.1.frozen 1
          have n2' : z5.cell? ⟨z2.heap.size, 2, none⟩ = some (.int .i64 0) := HO5.out.1.cell 2
          have m2' := HO5.out.1.frozen 2
          have n3' : z5.cell? ⟨z2.heap.size, 3, none⟩ = some (.int .i64 0) := HO5.out.1.cell 3
          have m3' := HO5.out.1.frozen 3
          have n4' : z5.cell? ⟨z2.heap.size, 4, none⟩ = some (.slice none 0 0) := HO5.out.1.cell 4
          have m4' := HO5.out.1.frozen 4
          go_simp
          clear n0' m0' n1' m1' n2' m2' n3' m3' n4' m4' hHeld
          have hz := HP5.out.put HO5.out.1 HO5.out.2 (.int .i64 n) (.slice (some ⟨K, 0, none⟩) (projB x.2.2.l by').length kc) (.int .i64 b) (.int .i64 (-1)) (.slice (some ⟨z4.heap.size, 0, none⟩) [x].length 1)
          refine hK.out _ _ (HX.out _ hz) (fun hHeld => ?_)
          clear hK hz
          try simp only [Act.put, List.setIfInBounds_toArray, List.set_cons_zero, List.set_cons_succ]
          refine wpAnyH_done (by kernel_rfl) ?_ _
          go_wp2_with fail
          go_meet
          exact ⟨_, n, b, K, kc, _, rfl, ⟨HP5.out.put HO5.out.1 HO5.out.2 _ _ _ _ _, put5 HO5.out.1 _ _ _ _ _, HO5.out.2, ownL_moved HK5.out (moved5 HO5.out.1 _ _ _ _ _), ab_movedX HM5.out (moved5 HO5.out.1 _ _ _ _ _), HN5.out, fun y hy => by rw [List.mem_singleton.1 (show y ∈ [x.2.2] from hy)]; exact HP5.out.xf⟩, FN.out, FB.out⟩
        refine AllReadyH.cons (o := { dst := some 20, op := Op.buildSlice 25 1 #[(0, Operand.tmp 19)], type := 25, pos := "l11_group.go:73", after := #[{ on := 7, ground := Ground.data }], guard := none }) rfl (fun Kx hK => ?_) AllReadyH.nil
        go_simp
        obtain ⟨z4, hz4⟩ : ∃ v, v = z3.alloc (.cells #[.slice (some ⟨x.1, 0, none⟩) x.2.2.l.length x.2.1, .int .i64 x.2.2.s, .int .i64 x.2.2.e, .string x.2.2.n] 29) := ⟨_, rfl⟩
        rw [← hz4]
        have hk : Kept c z3 z4 := by rw [hz4]; exact kept_bel (Go.Joins.below_alloc1 _ _)
        have hc : Cur z4 c := by rw [hz4]; exact HP3.out.cur.alloc _
        have HP4 : Hid (Pre w c gb A x by' z4) := HP3.out.keep hc hk
        have HK4 : Hid (OwnL (w.heap.size + 1) z4 K (projB x.2.2.l by')) := ownL_kept HK3.out hk (by have := HL.out; omega)
        have HO4 : Hid (Blk z4 z2.heap.size #[.int .i64 0, .slice none 0 0, .int .i64 0, .int .i64 0, .slice none 0 0] 27 ∧ w.heap.size < z2.heap.size) := ⟨blk_kept HO3.out.1 hk (by have := HL.out; have := HO3.out.2; omega), HO3.out.2⟩
        have HM4 : Hid (AB (w.heap.size + 1) z4 z3.heap.size 1 [x]) := AB.one (by rw [hz4]; exact Blk.new _ _ _) (by have := HP3.out.hA; omega) HP4.out.xo
        have HN4 : Hid (¬ blks z3.heap.size [x] K) := ne_one HK4.out HM4.out NX.out
        clear hz4 hk hc
        clear hHeld
        refine hK.out _ _ (HX.out _ HP4.out) (fun hHeld => ?_)
        clear hK Kx
        try simp only [Act.put, List.setIfInBounds_toArray, List.set_cons_zero, List.set_cons_succ]
        refine wpAnyH_ready (rs := [6]) (by kernel_rfl) (by simp) ?_
        refine AllReadyH.cons (o := { dst := some 18, op := Op.call { callee := Callee.value (Operand.func 55), args := #[Operand.tmp 17, Operand.const (Value.int IntKind.i64 5)], argTypes := #[80, 3] }, type := 3, pos := "l11_group.go:73", after := #[{ on := 5, ground := Ground.data }, { on := 4, ground := Ground.chain }], guard := none }) rfl (fun Kx hK => ?_) AllReadyH.nil
        go_simp
        refine (below_any c 5 _ HP4.out.cur (by decide) (by decide)).mono ?_
        rintro r z5 ⟨⟨b, rfl, h0, h1⟩, hc, hk⟩
        have FB : Hid (0 ≤ b ∧ b ≤ 4) := ⟨h0, by omega⟩
        have HP5 : Hid (Pre w c gb A x by' z5) := HP4.out.keep hc hk
        have HK5 : Hid (OwnL (w.heap.size + 1) z5 K (projB x.2.2.l by')) := ownL_kept HK4.out hk (by have := HL.out; omega)
        have HM5 : Hid (AB (w.heap.size + 1) z5 z3.heap.size 1 [x]) := ab_kept HM4.out hk (by have := HL.out; omega)
        have HO5 : Hid (Blk z5 z2.heap.size #[.int .i64 0, .slice none 0 0, .int .i64 0, .int .i64 0, .slice none 0 0] 27 ∧ w.heap.size < z2.heap.size) := ⟨blk_kept HO4.out.1 hk (by have := HL.out; have := HO4.out.2; omega), HO4.out.2⟩
        have HN5 : Hid (¬ blks z3.heap.size [x] K) := HN4.out
        clear h0 h1 hc hk
        try dsimp only
        clear hHeld
        refine hK.out _ _ (HX.out _ HP5.out) (fun hHeld => ?_)
        clear hK Kx
        try simp only [Act.put, List.setIfInBounds_toArray, List.set_cons_zero, List.set_cons_succ]
        refine wpAnyH_ready (rs := [9]) (by kernel_rfl) (by simp) ?_
        refine AllReadyH.cons (o := { dst := some 21, op := Op.build 27 #[(0, Operand.tmp 13), (1, Operand.tmp 16), (2, Operand.tmp 18), (3, Operand.const (Value.int IntKind.i64 (-1))), (4, Operand.tmp 20)], type := 27, pos := "l11_group.go:73", after := #[{ on := 1, ground := Ground.data }, { on := 4, ground := Ground.data }, { on := 6, ground := Ground.data }, { on := 8, ground := Ground.data }], guard := none }) rfl (fun Kx hK => ?_) AllReadyH.nil
        go_simp
        clear hHeld
        refine hK.out _ _ (HX.out _ HP5.out) (fun hHeld => ?_)
        clear hK Kx
        try simp only [Act.put, List.setIfInBounds_toArray, List.set_cons_zero, List.set_cons_succ]
        refine wpAnyH_ready (rs := [11]) (by kernel_rfl) (by simp) ?_
        refine AllReadyH.cons (o := { dst := none, op := Op.store 27 (Operand.tmp 6) (Operand.tmp 21), type := 0, pos := "l11_group.go:73", after := #[{ on := 10, ground := Ground.data }, { on := 9, ground := Ground.data }, { on := 6, ground := Ground.chain }, { on := 0, ground := Ground.phase }, { on := 1, ground := Ground.phase }, { on := 2, ground := Ground.phase }, { on := 3, ground := Ground.phase }, { on := 4, ground := Ground.phase }, { on := 5, ground := Ground.phase }, { on := 6, ground := Ground.phase }, { on := 7, ground := Ground.phase }, { on := 8, ground := Ground.phase }, { on := 9, ground := Ground.phase }, { on := 10, ground := Ground.phase }], guard := none }) rfl (fun Kx hK => ?_) AllReadyH.nil
        have n0' : z5.cell? ⟨z2.heap.size, 0, none⟩ = some (.int .i64 0) := HO5.out.1.cell 0
        have m0' := HO5.out.1.frozen 0
        have n1' : z5.cell? ⟨z2.heap.size, 1, none⟩ = some (.slice none 0 0) := HO5.out.1.cell 1
        have m1' := HO5.out.1.frozen 1
        have n2' : z5.cell? ⟨z2.heap.size, 2, none⟩ = some (.int .i64 0) := HO5.out.1.cell 2
        have m2' := HO5.out.1.frozen 2
        have n3' : z5.cell? ⟨z2.heap.size, 3, none⟩ = some (.int .i64 0) := HO5.out.1.cell 3
        have m3' := HO5.out.1.frozen 3
        have n4' : z5.cell? ⟨z2.heap.size, 4, none⟩ = some (.slice none 0 0) := HO5.out.1.cell 4
        have m4' := HO5.out.1.frozen 4
        go_simp
        clear n0' m0' n1' m1' n2' m2' n3' m3' n4' m4' hHeld
        have hz := HP5.out.put HO5.out.1 HO5.out.2 (.int .i64 n) (.slice (some ⟨K, 0, none⟩) (projB x.2.2.l by').length kc) (.int .i64 b) (.int .i64 (-1)) (.slice (some ⟨z3.heap.size, 0, none⟩) [x].length 1)
        refine hK.out _ _ (HX.out _ hz) (fun hHeld => ?_)
        clear hK hz
        try simp only [Act.put, List.setIfInBounds_toArray, List.set_cons_zero, List.set_cons_succ]
        refine wpAnyH_done (by kernel_rfl) ?_ _
        go_wp2_with fail
        go_meet
        exact ⟨_, n, b, K, kc, _, rfl, ⟨HP5.out.put HO5.out.1 HO5.out.2 _ _ _ _ _, put5 HO5.out.1 _ _ _ _ _, HO5.out.2, ownL_moved HK5.out (moved5 HO5.out.1 _ _ _ _ _), ab_movedX HM5.out (moved5 HO5.out.1 _ _ _ _ _), HN5.out, fun y hy => by rw [List.mem_singleton.1 (show y ∈ [x.2.2] from hy)]; exact HP5.out.xf⟩, FN.out, FB.out⟩
      refine AllReadyH.cons (o := { dst := some 20, op := Op.buildSlice 25 1 #[(0, Operand.tmp 19)], type := 25, pos := "l11_group.go:73", after := #[{ on := 7, ground := Ground.data }], guard := none }) rfl (fun Kx hK => ?_) ?_
      ·
        go_simp
        obtain ⟨z2, hz2⟩ : ∃ v, v = z1.alloc (.cells #[.slice (some ⟨x.1, 0, none⟩) x.2.2.l.length x.2.1, .int .i64 x.2.2.s, .int .i64 x.2.2.e, .string x.2.2.n] 29) := ⟨_, rfl⟩
        rw [← hz2]
        have hk : Kept c z1 z2 := by rw [hz2]; exact kept_bel (Go.Joins.below_alloc1 _ _)
        have hc : Cur z2 c := by rw [hz2]; exact HP1.out.cur.alloc _
        have HP2 : Hid (Pre w c gb A x by' z2) := HP1.out.keep hc hk
        have HM2 : Hid (AB (w.heap.size + 1) z2 z1.heap.size 1 [x]) := AB.one (by rw [hz2]; exact Blk.new _ _ _) (by have := HP1.out.hA; omega) HP2.out.xo
        clear hz2 hk hc
        clear hHeld
        refine hK.out _ _ (HX.out _ HP2.out) (fun hHeld => ?_)
        clear hK Kx
        try simp only [Act.put, List.setIfInBounds_toArray, List.set_cons_zero, List.set_cons_succ]
        refine wpAnyH_ready (rs := [4, 10]) (by kernel_rfl) (by simp) ?_
        refine AllReadyH.cons (o := { dst := some 16, op := Op.call { callee := Callee.value (Operand.func 75), args := #[Operand.tmp 14, Operand.tmp 15], argTypes := #[29, 39] }, type := 24, pos := "l11_group.go:73", after := #[{ on := 2, ground := Ground.data }, { on := 3, ground := Ground.data }, { on := 1, ground := Ground.chain }], guard := none }) rfl (fun Kx hK => ?_) ?_
        ·
          go_simp
          refine (Pro.specKey_any _ _ _ _ x.2.2.l x.2.2.s x.2.2.e x.2.2.n by' _ HP2.out.xo.reads HP2.out.names.rd (by have := HP2.out.xf.2; omega) HP2.out.bl).mono ?_
          rintro r z3 ⟨⟨K, kc, rfl, hO⟩, hb⟩
          have hk := kept_bel (c := c) hb
          have hc := cur_bel HP2.out.cur hb
          have HK3 : Hid (OwnL (w.heap.size + 1) z3 K (projB x.2.2.l by')) := ⟨Nat.le_trans (by have := HP2.out.hA; omega) hO.1, hO.2⟩
          have NX : Hid (K ≠ x.1) := fun e => by
            obtain ⟨_, _, ds, hx, _⟩ := HP2.out.xo
            have := hx.lt; have := hO.1; omega
          have HP3 : Hid (Pre w c gb A x by' z3) := HP2.out.keep hc hk
          have HM3 : Hid (AB (w.heap.size + 1) z3 z1.heap.size 1 [x]) := ab_kept HM2.out hk (by have := HL.out; omega)
          have HN3 : Hid (¬ blks z1.heap.size [x] K) := ne_one HK3.out HM3.out NX.out
          clear hO hb hk hc
          try dsimp only
          clear hHeld
          refine hK.out _ _ (HX.out _ HP3.out) (fun hHeld => ?_)
          clear hK Kx
          try simp only [Act.put, List.setIfInBounds_toArray, List.set_cons_zero, List.set_cons_succ]
          refine wpAnyH_ready (rs := [6, 10]) (by kernel_rfl) (by simp) ?_
          refine AllReadyH.cons (o := { dst := some 18, op := Op.call { callee := Callee.value (Operand.func 55), args := #[Operand.tmp 17, Operand.const (Value.int IntKind.i64 5)], argTypes := #[80, 3] }, type := 3, pos := "l11_group.go:73", after := #[{ on := 5, ground := Ground.data }, { on := 4, ground := Ground.chain }], guard := none }) rfl (fun Kx hK => ?_) ?_
          ·
            go_simp
            refine (below_any c 5 _ HP3.out.cur (by decide) (by decide)).mono ?_
            rintro r z4 ⟨⟨b, rfl, h0, h1⟩, hc, hk⟩
            have FB : Hid (0 ≤ b ∧ b ≤ 4) := ⟨h0, by omega⟩
            have HP4 : Hid (Pre w c gb A x by' z4) := HP3.out.keep hc hk
            have HK4 : Hid (OwnL (w.heap.size + 1) z4 K (projB x.2.2.l by')) := ownL_kept HK3.out hk (by have := HL.out; omega)
            have HM4 : Hid (AB (w.heap.size + 1) z4 z1.heap.size 1 [x]) := ab_kept HM3.out hk (by have := HL.out; omega)
            have HN4 : Hid (¬ blks z1.heap.size [x] K) := HN3.out
            clear h0 h1 hc hk
            try dsimp only
            clear hHeld
            refine hK.out _ _ (HX.out _ HP4.out) (fun hHeld => ?_)
            clear hK Kx
            try simp only [Act.put, List.setIfInBounds_toArray, List.set_cons_zero, List.set_cons_succ]
            refine wpAnyH_ready (rs := [9, 10]) (by kernel_rfl) (by simp) ?_
            refine AllReadyH.cons (o := { dst := some 21, op := Op.build 27 #[(0, Operand.tmp 13), (1, Operand.tmp 16), (2, Operand.tmp 18), (3, Operand.const (Value.int IntKind.i64 (-1))), (4, Operand.tmp 20)], type := 27, pos := "l11_group.go:73", after := #[{ on := 1, ground := Ground.data }, { on := 4, ground := Ground.data }, { on := 6, ground := Ground.data }, { on := 8, ground := Ground.data }], guard := none }) rfl (fun Kx hK => ?_) ?_
            ·
              go_simp
              clear hHeld
              refine hK.out _ _ (HX.out _ HP4.out) (fun hHeld => ?_)
              clear hK Kx
              try simp only [Act.put, List.setIfInBounds_toArray, List.set_cons_zero, List.set_cons_succ]
              refine wpAnyH_ready (rs := [10]) (by kernel_rfl) (by simp) ?_
              refine AllReadyH.cons (o := { dst := some 6, op := Op.alloc 27, type := 0, pos := "l11_group.go:73", after := #[], guard := none }) rfl (fun Kx hK => ?_) AllReadyH.nil
              go_simp
              obtain ⟨z5, hz5⟩ : ∃ v, v = z4.alloc (.cells #[.int .i64 0, .slice none 0 0, .int .i64 0, .int .i64 0, .slice none 0 0] 27) := ⟨_, rfl⟩
              rw [← hz5]
              have hk : Kept c z4 z5 := by rw [hz5]; exact kept_bel (Go.Joins.below_alloc1 _ _)
              have hc : Cur z5 c := by rw [hz5]; exact HP4.out.cur.alloc _
              have HP5 : Hid (Pre w c gb A x by' z5) := HP4.out.keep hc hk
              have HK5 : Hid (OwnL (w.heap.size + 1) z5 K (projB x.2.2.l by')) := ownL_kept HK4.out hk (by have := HL.out; omega)
              have HM5 : Hid (AB (w.heap.size + 1) z5 z1.heap.size 1 [x]) := ab_kept HM4.out hk (by have := HL.out; omega)
              have HN5 : Hid (¬ blks z1.heap.size [x] K) := HN4.out
              have HO5 : Hid (Blk z5 z4.heap.size #[.int .i64 0, .slice none 0 0, .int .i64 0, .int .i64 0, .slice none 0 0] 27 ∧ w.heap.size < z4.heap.size) := ⟨by rw [hz5]; exact Blk.new _ _ _, by have := HP4.out.hA; omega⟩
              clear hz5 hk hc
              clear hHeld
              refine hK.out _ _ (HX.out _ HP5.out) (fun hHeld => ?_)
              clear hK Kx
              try simp only [Act.put, List.setIfInBounds_toArray, List.set_cons_zero, List.set_cons_succ]
              refine wpAnyH_ready (rs := [11]) (by kernel_rfl) (by simp) ?_
              refine AllReadyH.cons (o := { dst := none, op := Op.store 27 (Operand.tmp 6) (Operand.tmp 21), type := 0, pos := "l11_group.go:73", after := #[{ on := 10, ground := Ground.data }, { on := 9, ground := Ground.data }, { on := 6, ground := Ground.chain }, { on := 0, ground := Ground.phase }, { on := 1, ground := Ground.phase }, { on := 2, ground := Ground.phase }, { on := 3, ground := Ground.phase }, { on := 4, ground := Ground.phase }, { on := 5, ground := Ground.phase }, { on := 6, ground := Ground.phase }, { on := 7, ground := Ground.phase }, { on := 8, ground := Ground.phase }, { on := 9, ground := Ground.phase }, { on := 10, ground := Ground.phase }], guard := none }) rfl (fun Kx hK => ?_) AllReadyH.nil
              have n0' : z5.cell? ⟨z4.heap.size, 0, none⟩ = some (.int .i64 0) := HO5.out.1.cell 0
              have m0' := HO5.out.1.frozen 0
              have n1' : z5.cell? ⟨z4.heap.size, 1, none⟩ = some (.slice none 0 0) := HO5.out.1.cell 1
              have m1' := HO5.out.1.frozen 1
              have n2' : z5.cell? ⟨z4.heap.size, 2, none⟩ = some (.int .i64 0) := HO5.out.1.cell 2
              have m2' := HO5.out.1.frozen 2
              have n3' : z5.cell? ⟨z4.heap.size, 3, none⟩ = some (.int .i64 0) := HO5.out.1.cell 3
              have m3' := HO5.out.1.frozen 3
              have n4' : z5.cell? ⟨z4.heap.size, 4, none⟩ = some (.slice none 0 0) := HO5.out.1.cell 4
              have m4' := HO5.out.1.frozen 4
              go_simp
              clear n0' m0' n1' m1' n2' m2' n3' m3' n4' m4' hHeld
              have hz := HP5.out.put HO5.out.1 HO5.out.2 (.int .i64 n) (.slice (some ⟨K, 0, none⟩) (projB x.2.2.l by').length kc) (.int .i64 b) (.int .i64 (-1)) (.slice (some ⟨z1.heap.size, 0, none⟩) [x].length 1)
              refine hK.out _ _ (HX.out _ hz) (fun hHeld => ?_)
              clear hK hz
              try simp only [Act.put, List.setIfInBounds_toArray, List.set_cons_zero, List.set_cons_succ]
              refine wpAnyH_done (by kernel_rfl) ?_ _
              go_wp2_with fail
              go_meet
              exact ⟨_, n, b, K, kc, _, rfl, ⟨HP5.out.put HO5.out.1 HO5.out.2 _ _ _ _ _, put5 HO5.out.1 _ _ _ _ _, HO5.out.2, ownL_moved HK5.out (moved5 HO5.out.1 _ _ _ _ _), ab_movedX HM5.out (moved5 HO5.out.1 _ _ _ _ _), HN5.out, fun y hy => by rw [List.mem_singleton.1 (show y ∈ [x.2.2] from hy)]; exact HP5.out.xf⟩, FN.out, FB.out⟩
            refine AllReadyH.cons (o := { dst := some 6, op := Op.alloc 27, type := 0, pos := "l11_group.go:73", after := #[], guard := none }) rfl (fun Kx hK => ?_) AllReadyH.nil
            go_simp
            obtain ⟨z5, hz5⟩ : ∃ v, v = z4.alloc (.cells #[.int .i64 0, .slice none 0 0, .int .i64 0, .int .i64 0, .slice none 0 0] 27) := ⟨_, rfl⟩
            rw [← hz5]
            have hk : Kept c z4 z5 := by rw [hz5]; exact kept_bel (Go.Joins.below_alloc1 _ _)
            have hc : Cur z5 c := by rw [hz5]; exact HP4.out.cur.alloc _
            have HP5 : Hid (Pre w c gb A x by' z5) := HP4.out.keep hc hk
            have HK5 : Hid (OwnL (w.heap.size + 1) z5 K (projB x.2.2.l by')) := ownL_kept HK4.out hk (by have := HL.out; omega)
            have HM5 : Hid (AB (w.heap.size + 1) z5 z1.heap.size 1 [x]) := ab_kept HM4.out hk (by have := HL.out; omega)
            have HN5 : Hid (¬ blks z1.heap.size [x] K) := HN4.out
            have HO5 : Hid (Blk z5 z4.heap.size #[.int .i64 0, .slice none 0 0, .int .i64 0, .int .i64 0, .slice none 0 0] 27 ∧ w.heap.size < z4.heap.size) := ⟨by rw [hz5]; exact Blk.new _ _ _, by have := HP4.out.hA; omega⟩
            clear hz5 hk hc
            clear hHeld
            refine hK.out _ _ (HX.out _ HP5.out) (fun hHeld => ?_)
            clear hK Kx
            try simp only [Act.put, List.setIfInBounds_toArray, List.set_cons_zero, List.set_cons_succ]
            refine wpAnyH_ready (rs := [9]) (by kernel_rfl) (by simp) ?_
            refine AllReadyH.cons (o := { dst := some 21, op := Op.build 27 #[(0, Operand.tmp 13), (1, Operand.tmp 16), (2, Operand.tmp 18), (3, Operand.const (Value.int IntKind.i64 (-1))), (4, Operand.tmp 20)], type := 27, pos := "l11_group.go:73", after := #[{ on := 1, ground := Ground.data }, { on := 4, ground := Ground.data }, { on := 6, ground := Ground.data }, { on := 8, ground := Ground.data }], guard := none }) rfl (fun Kx hK => ?_) AllReadyH.nil
            go_simp
            clear hHeld
            refine hK.out _ _ (HX.out _ HP5.out) (fun hHeld => ?_)
            clear hK Kx
            try simp only [Act.put, List.setIfInBounds_toArray, List.set_cons_zero, List.set_cons_succ]
            refine wpAnyH_ready (rs := [11]) (by kernel_rfl) (by simp) ?_
            refine AllReadyH.cons (o := { dst := none, op := Op.store 27 (Operand.tmp 6) (Operand.tmp 21), type := 0, pos := "l11_group.go:73", after := #[{ on := 10, ground := Ground.data }, { on := 9, ground := Ground.data }, { on := 6, ground := Ground.chain }, { on := 0, ground := Ground.phase }, { on := 1, ground := Ground.phase }, { on := 2, ground := Ground.phase }, { on := 3, ground := Ground.phase }, { on := 4, ground := Ground.phase }, { on := 5, ground := Ground.phase }, { on := 6, ground := Ground.phase }, { on := 7, ground := Ground.phase }, { on := 8, ground := Ground.phase }, { on := 9, ground := Ground.phase }, { on := 10, ground := Ground.phase }], guard := none }) rfl (fun Kx hK => ?_) AllReadyH.nil
            have n0' : z5.cell? ⟨z4.heap.size, 0, none⟩ = some (.int .i64 0) := HO5.out.1.cell 0
            have m0' := HO5.out.1.frozen 0
            have n1' : z5.cell? ⟨z4.heap.size, 1, none⟩ = some (.slice none 0 0) := HO5.out.1.cell 1
            have m1' := HO5.out.1.frozen 1
            have n2' : z5.cell? ⟨z4.heap.size, 2, none⟩ = some (.int .i64 0) := HO5.out.1.cell 2
            have m2' := HO5.out.1.frozen 2
            have n3' : z5.cell? ⟨z4.heap.size, 3, none⟩ = some (.int .i64 0) := HO5.out.1.cell 3
            have m3' := HO5.out.1.frozen 3
            have n4' : z5.cell? ⟨z4.heap.size, 4, none⟩ = some (.slice none 0 0) := HO5.out.1.cell 4
            have m4' := HO5.out.1.frozen 4
            go_simp
            clear n0' m0' n1' m1' n2' m2' n3' m3' n4' m4' hHeld
            have hz := HP5.out.put HO5.out.1 HO5.out.2 (.int .i64 n) (.slice (some ⟨K, 0, none⟩) (projB x.2.2.l by').length kc) (.int .i64 b) (.int .i64 (-1)) (.slice (some ⟨z1.heap.size, 0, none⟩) [x].length 1)
            refine hK.out _ _ (HX.out _ hz) (fun hHeld => ?_)
            clear hK hz
            try simp only [Act.put, List.setIfInBounds_toArray, List.set_cons_zero, List.set_cons_succ]
            refine wpAnyH_done (by kernel_rfl) ?_ _
            go_wp2_with fail
            go_meet
            exact ⟨_, n, b, K, kc, _, rfl, ⟨HP5.out.put HO5.out.1 HO5.out.2 _ _ _ _ _, put5 HO5.out.1 _ _ _ _ _, HO5.out.2, ownL_moved HK5.out (moved5 HO5.out.1 _ _ _ _ _), ab_movedX HM5.out (moved5 HO5.out.1 _ _ _ _ _), HN5.out, fun y hy => by rw [List.mem_singleton.1 (show y ∈ [x.2.2] from hy)]; exact HP5.out.xf⟩, FN.out, FB.out⟩
          refine AllReadyH.cons (o := { dst := some 6, op := Op.alloc 27, type := 0, pos := "l11_group.go:73", after := #[], guard := none }) rfl (fun Kx hK => ?_) AllReadyH.nil
          go_simp
          obtain ⟨z4, hz4⟩ : ∃ v, v = z3.alloc (.cells #[.int .i64 0, .slice none 0 0, .int .i64 0, .int .i64 0, .slice none 0 0] 27) := ⟨_, rfl⟩
          rw [← hz4]
          have hk : Kept c z3 z4 := by rw [hz4]; exact kept_bel (Go.Joins.below_alloc1 _ _)
          have hc : Cur z4 c := by rw [hz4]; exact HP3.out.cur.alloc _
          have HP4 : Hid (Pre w c gb A x by' z4) := HP3.out.keep hc hk
          have HK4 : Hid (OwnL (w.heap.size + 1) z4 K (projB x.2.2.l by')) := ownL_kept HK3.out hk (by have := HL.out; omega)
          have HM4 : Hid (AB (w.heap.size + 1) z4 z1.heap.size 1 [x]) := ab_kept HM3.out hk (by have := HL.out; omega)
          have HN4 : Hid (¬ blks z1.heap.size [x] K) := HN3.out
          have HO4 : Hid (Blk z4 z3.heap.size #[.int .i64 0, .slice none 0 0, .int .i64 0, .int .i64 0, .slice none 0 0] 27 ∧ w.heap.size < z3.heap.size) := ⟨by rw [hz4]; exact Blk.new _ _ _, by have := HP3.out.hA; omega⟩
          clear hz4 hk hc
          clear hHeld
          refine hK.out _ _ (HX.out _ HP4.out) (fun hHeld => ?_)
          clear hK Kx
          try simp only [Act.put, List.setIfInBounds_toArray, List.set_cons_zero, List.set_cons_succ]
          refine wpAnyH_ready (rs := [6]) (by kernel_rfl) (by simp) ?_
          refine AllReadyH.cons (o := { dst := some 18, op := Op.call { callee := Callee.value (Operand.func 55), args := #[Operand.tmp 17, Operand.const (Value.int IntKind.i64 5)], argTypes := #[80, 3] }, type := 3, pos := "l11_group.go:73", after := #[{ on := 5, ground := Ground.data }, { on := 4, ground := Ground.chain }], guard := none }) rfl (fun Kx hK => ?_) AllReadyH.nil
          go_simp
          refine (below_any c 5 _ HP4.out.cur (by decide) (by decide)).mono ?_
          rintro r z5 ⟨⟨b, rfl, h0, h1⟩, hc, hk⟩
          have FB : Hid (0 ≤ b ∧ b ≤ 4) := ⟨h0, by omega⟩
          have HP5 : Hid (Pre w c gb A x by' z5) := HP4.out.keep hc hk
          have HK5 : Hid (OwnL (w.heap.size + 1) z5 K (projB x.2.2.l by')) := ownL_kept HK4.out hk (by have := HL.out; omega)
          have HM5 : Hid (AB (w.heap.size + 1) z5 z1.heap.size 1 [x]) := ab_kept HM4.out hk (by have := HL.out; omega)
          have HO5 : Hid (Blk z5 z3.heap.size #[.int .i64 0, .slice none 0 0, .int .i64 0, .int .i64 0, .slice none 0 0] 27 ∧ w.heap.size < z3.heap.size) := ⟨blk_kept HO4.out.1 hk (by have := HL.out; have := HO4.out.2; omega), HO4.out.2⟩
          have HN5 : Hid (¬ blks z1.heap.size [x] K) := HN4.out
          clear h0 h1 hc hk
          try dsimp only
          clear hHeld
          refine hK.out _ _ (HX.out _ HP5.out) (fun hHeld => ?_)
          clear hK Kx
          try simp only [Act.put, List.setIfInBounds_toArray, List.set_cons_zero, List.set_cons_succ]
          refine wpAnyH_ready (rs := [9]) (by kernel_rfl) (by simp) ?_
          refine AllReadyH.cons (o := { dst := some 21, op := Op.build 27 #[(0, Operand.tmp 13), (1, Operand.tmp 16), (2, Operand.tmp 18), (3, Operand.const (Value.int IntKind.i64 (-1))), (4, Operand.tmp 20)], type := 27, pos := "l11_group.go:73", after := #[{ on := 1, ground := Ground.data }, { on := 4, ground := Ground.data }, { on := 6, ground := Ground.data }, { on := 8, ground := Ground.data }], guard := none }) rfl (fun Kx hK => ?_) AllReadyH.nil
          go_simp
          clear hHeld
          refine hK.out _ _ (HX.out _ HP5.out) (fun hHeld => ?_)
          clear hK Kx
          try simp only [Act.put, List.setIfInBounds_toArray, List.set_cons_zero, List.set_cons_succ]
          refine wpAnyH_ready (rs := [11]) (by kernel_rfl) (by simp) ?_
          refine AllReadyH.cons (o := { dst := none, op := Op.store 27 (Operand.tmp 6) (Operand.tmp 21), type := 0, pos := "l11_group.go:73", after := #[{ on := 10, ground := Ground.data }, { on := 9, ground := Ground.data }, { on := 6, ground := Ground.chain }, { on := 0, ground := Ground.phase }, { on := 1, ground := Ground.phase }, { on := 2, ground := Ground.phase }, { on := 3, ground := Ground.phase }, { on := 4, ground := Ground.phase }, { on := 5, ground := Ground.phase }, { on := 6, ground := Ground.phase }, { on := 7, ground := Ground.phase }, { on := 8, ground := Ground.phase }, { on := 9, ground := Ground.phase }, { on := 10, ground := Ground.phase }], guard := none }) rfl (fun Kx hK => ?_) AllReadyH.nil
          have n0' : z5.cell? ⟨z3.heap.size, 0, none⟩ = some (.int .i64 0) := HO5.out.1.cell 0
          have m0' := HO5.out.1.frozen 0
          have n1' : z5.cell? ⟨z3.heap.size, 1, none⟩ = some (.slice none 0 0) := HO5.out.1.cell 1
          have m1' := HO5.out.1.frozen 1
          have n2' : z5.cell? ⟨z3.heap.size, 2, none⟩ = some (.int .i64 0) := HO5.out.1.cell 2
          have m2' := HO5.out.1.frozen 2
          have n3' : z5.cell? ⟨z3.heap.size, 3, none⟩ = some (.int .i64 0) := HO5.out.1.cell 3
          have m3' := HO5.out.1.frozen 3
          have n4' : z5.cell? ⟨z3.heap.size, 4, none⟩ = some (.slice none 0 0) := HO5.out.1.cell 4
          have m4' := HO5.out.1.frozen 4
          go_simp
          clear n0' m0' n1' m1' n2' m2' n3' m3' n4' m4' hHeld
          have hz := HP5.out.put HO5.out.1 HO5.out.2 (.int .i64 n) (.slice (some ⟨K, 0, none⟩) (projB x.2.2.l by').length kc) (.int .i64 b) (.int .i64 (-1)) (.slice (some ⟨z1.heap.size, 0, none⟩) [x].length 1)
          refine hK.out _ _ (HX.out _ hz) (fun hHeld => ?_)
          clear hK hz
          try simp only [Act.put, List.setIfInBounds_toArray, List.set_cons_zero, List.set_cons_succ]
          refine wpAnyH_done (by kernel_rfl) ?_ _
          go_wp2_with fail
          go_meet
          exact ⟨_, n, b, K, kc, _, rfl, ⟨HP5.out.put HO5.out.1 HO5.out.2 _ _ _ _ _, put5 HO5.out.1 _ _ _ _ _, HO5.out.2, ownL_moved HK5.out (moved5 HO5.out.1 _ _ _ _ _), ab_movedX HM5.out (moved5 HO5.out.1 _ _ _ _ _), HN5.out, fun y hy => by rw [List.mem_singleton.1 (show y ∈ [x.2.2] from hy)]; exact HP5.out.xf⟩, FN.out, FB.out⟩
        refine AllReadyH.cons (o := { dst := some 6, op := Op.alloc 27, type := 0, pos := "l11_group.go:73", after := #[], guard := none }) rfl (fun Kx hK => ?_) AllReadyH.nil
        go_simp
        obtain ⟨z3, hz3⟩ : ∃ v, v = z2.alloc (.cells #[.int .i64 0, .slice none 0 0, .int .i64 0, .int .i64 0, .slice none 0 0] 27) := ⟨_, rfl⟩
        rw [← hz3]
        have hk : Kept c z2 z3 := by rw [hz3]; exact kept_bel (Go.Joins.below_alloc1 _ _)
        have hc : Cur z3 c := by rw [hz3]; exact HP2.out.cur.alloc _
        have HP3 : Hid (Pre w c gb A x by' z3) := HP2.out.keep hc hk
        have HM3 : Hid (AB (w.heap.size + 1) z3 z1.heap.size 1 [x]) := ab_kept HM2.out hk (by have := HL.out; omega)
        have HO3 : Hid (Blk z3 z2.heap.size #[.int .i64 0, .slice none 0 0, .int .i64 0, .int .i64 0, .slice none 0 0] 27 ∧ w.heap.size < z2.heap.size) := ⟨by rw [hz3]; exact Blk.new _ _ _, by have := HP2.out.hA; omega⟩
        clear hz3 hk hc
        clear hHeld
        refine hK.out _ _ (HX.out _ HP3.out) (fun hHeld => ?_)
        clear hK Kx
        try simp only [Act.put, List.setIfInBounds_toArray, List.set_cons_zero, List.set_cons_succ]
        refine wpAnyH_ready (rs := [4]) (by kernel_rfl) (by simp) ?_
        refine AllReadyH.cons (o := { dst := some 16, op := Op.call { callee := Callee.value (Operand.func 75), args := #[Operand.tmp 14, Operand.tmp 15], argTypes := #[29, 39] }, type := 24, pos := "l11_group.go:73", after := #[{ on := 2, ground := Ground.data }, { on := 3, ground := Ground.data }, { on := 1, ground := Ground.chain }], guard := none }) rfl (fun Kx hK => ?_) AllReadyH.nil
        go_simp
        refine (Pro.specKey_any _ _ _ _ x.2.2.l x.2.2.s x.2.2.e x.2.2.n by' _ HP3.out.xo.reads HP3.out.names.rd (by have := HP3.out.xf.2; omega) HP3.out.bl).mono ?_
        rintro r z4 ⟨⟨K, kc, rfl, hO⟩, hb⟩
        have hk := kept_bel (c := c) hb
        have hc := cur_bel HP3.out.cur hb
        have HK4 : Hid (OwnL (w.heap.size + 1) z4 K (projB x.2.2.l by')) := ⟨Nat.le_trans (by have := HP3.out.hA; omega) hO.1, hO.2⟩
        have NX : Hid (K ≠ x.1) := fun e => by
          obtain ⟨_, _, ds, hx, _⟩ := HP3.out.xo
          have := hx.lt; have := hO.1; omega
        have HP4 : Hid (Pre w c gb A x by' z4) := HP3.out.keep hc hk
        have HM4 : Hid (AB (w.heap.size + 1) z4 z1.heap.size 1 [x]) := ab_kept HM3.out hk (by have := HL.out; omega)
        have HO4 : Hid (Blk z4 z2.heap.size #[.int .i64 0, .slice none 0 0, .int .i64 0, .int .i64 0, .slice none 0 0] 27 ∧ w.heap.size < z2.heap.size) := ⟨blk_kept HO3.out.1 hk (by have := HL.out; have := HO3.out.2; omega), HO3.out.2⟩
        have HN4 : Hid (¬ blks z1.heap.size [x] K) := ne_one HK4.out HM4.out NX.out
        clear hO hb hk hc
        try dsimp only
        clear hHeld
        refine hK.out _ _ (HX.out _ HP4.out) (fun hHeld => ?_)
        clear hK Kx
        try simp only [Act.put, List.setIfInBounds_toArray, List.set_cons_zero, List.set_cons_succ]
        refine wpAnyH_ready (rs := [6]) (by kernel_rfl) (by simp) ?_
        refine AllReadyH.cons (o := { dst := some 18, op := Op.call { callee := Callee.value (Operand.func 55), args := #[Operand.tmp 17, Operand.const (Value.int IntKind.i64 5)], argTypes := #[80, 3] }, type := 3, pos := "l11_group.go:73", after := #[{ on := 5, ground := Ground.data }, { on := 4, ground := Ground.chain }], guard := none }) rfl (fun Kx hK => ?_) AllReadyH.nil
        go_simp
        refine (below_any c 5 _ HP4.out.cur (by decide) (by decide)).mono ?_
        rintro r z5 ⟨⟨b, rfl, h0, h1⟩, hc, hk⟩
        have FB : Hid (0 ≤ b ∧ b ≤ 4) := ⟨h0, by omega⟩
        have HP5 : Hid (Pre w c gb A x by' z5) := HP4.out.keep hc hk
        have HK5 : Hid (OwnL (w.heap.size + 1) z5 K (projB x.2.2.l by')) := ownL_kept HK4.out hk (by have := HL.out; omega)
        have HM5 : Hid (AB (w.heap.size + 1) z5 z1.heap.size 1 [x]) := ab_kept HM4.out hk (by have := HL.out; omega)
        have HO5 : Hid (Blk z5 z2.heap.size #[.int .i64 0, .slice none 0 0, .int .i64 0, .int .i64 0, .slice none 0 0] 27 ∧ w.heap.size < z2.heap.size) := ⟨blk_kept HO4.out.1 hk (by have := HL.out; have := HO4.out.2; omega), HO4.out.2⟩
        have HN5 : Hid (¬ blks z1.heap.size [x] K) := HN4.out
        clear h0 h1 hc hk
        try dsimp only
        clear hHeld
        refine hK.out _ _ (HX.out _ HP5.out) (fun hHeld => ?_)
        clear hK Kx
        try simp only [Act.put, List.setIfInBounds_toArray, List.set_cons_zero, List.set_cons_succ]
        refine wpAnyH_ready (rs := [9]) (by kernel_rfl) (by simp) ?_
        refine AllReadyH.cons (o := { dst := some 21, op := Op.build 27 #[(0, Operand.tmp 13), (1, Operand.tmp 16), (2, Operand.tmp 18), (3, Operand.const (Value.int IntKind.i64 (-1))), (4, Operand.tmp 20)], type := 27, pos := "l11_group.go:73", after := #[{ on := 1, ground := Ground.data }, { on := 4, ground := Ground.data }, { on := 6, ground := Ground.data }, { on := 8, ground := Ground.data }], guard := none }) rfl (fun Kx hK => ?_) AllReadyH.nil
        go_simp
        clear hHeld
        refine hK.out _ _ (HX.out _ HP5.out) (fun hHeld => ?_)
        clear hK Kx
        try simp only [Act.put, List.setIfInBounds_toArray, List.set_cons_zero, List.set_cons_succ]
        refine wpAnyH_ready (rs := [11]) (by kernel_rfl) (by simp) ?_
        refine AllReadyH.cons (o := { dst := none, op := Op.store 27 (Operand.tmp 6) (Operand.tmp 21), type := 0, pos := "l11_group.go:73", after := #[{ on := 10, ground := Ground.data }, { on := 9, ground := Ground.data }, { on := 6, ground := Ground.chain }, { on := 0, ground := Ground.phase }, { on := 1, ground := Ground.phase }, { on := 2, ground := Ground.phase }, { on := 3, ground := Ground.phase }, { on := 4, ground := Ground.phase }, { on := 5, ground := Ground.phase }, { on := 6, ground := Ground.phase }, { on := 7, ground := Ground.phase }, { on := 8, ground := Ground.phase }, { on := 9, ground := Ground.phase }, { on := 10, ground := Ground.phase }], guard := none }) rfl (fun Kx hK => ?_) AllReadyH.nil
        have n0' : z5.cell? ⟨z2.heap.size, 0, none⟩ = some (.int .i64 0) := HO5.out.1.cell 0
        have m0' := HO5.out.1.frozen 0
        have n1' : z5.cell? ⟨z2.heap.size, 1, none⟩ = some (.slice none 0 0) := HO5.out.1.cell 1
        have m1' := HO5.out.1.frozen 1
        have n2' : z5.cell? ⟨z2.heap.size, 2, none⟩ = some (.int .i64 0) := HO5.out.1.cell 2
        have m2' := HO5.out.1.frozen 2
        have n3' : z5.cell? ⟨z2.heap.size, 3, none⟩ = some (.int .i64 0) := HO5.out.1.cell 3
        have m3' := HO5.out.1.frozen 3
        have n4' : z5.cell? ⟨z2.heap.size, 4, none⟩ = some (.slice none 0 0) := HO5.out.1.cell 4
        have m4' := HO5.out.1.frozen 4
        go_simp
        clear n0' m0' n1' m1' n2' m2' n3' m3' n4' m4' hHeld
        have hz := HP5.out.put HO5.out.1 HO5.out.2 (.int .i64 n) (.slice (some ⟨K, 0, none⟩) (projB x.2.2.l by').length kc) (.int .i64 b) (.int .i64 (-1)) (.slice (some ⟨z1.heap.size, 0, none⟩) [x].length 1)
        refine hK.out _ _ (HX.out _ hz) (fun hHeld => ?_)
        clear hK hz
        try simp only [Act.put, List.setIfInBounds_toArray, List.set_cons_zero, List.set_cons_succ]
        refine wpAnyH_done (by kernel_rfl) ?_ _
        go_wp2_with fail
        go_meet
        exact ⟨_, n, b, K, kc, _, rfl, ⟨HP5.out.put HO5.out.1 HO5.out.2 _ _ _ _ _, put5 HO5.out.1 _ _ _ _ _, HO5.out.2, ownL_moved HK5.out (moved5 HO5.out.1 _ _ _ _ _), ab_movedX HM5.out (moved5 HO5.out.1 _ _ _ _ _), HN5.out, fun y hy => by rw [List.mem_singleton.1 (show y ∈ [x.2.2] from hy)]; exact HP5.out.xf⟩, FN.out, FB.out⟩
      refine AllReadyH.cons (o := { dst := some 6, op := Op.alloc 27, type := 0, pos := "l11_group.go:73", after := #[], guard := none }) rfl (fun Kx hK => ?_) AllReadyH.nil
      go_simp
      obtain ⟨z2, hz2⟩ : ∃ v, v = z1.alloc (.cells #[.int .i64 0, .slice none 0 0, .int .i64 0, .int .i64 0, .slice none 0 0] 27) := ⟨_, rfl⟩
      rw [← hz2]
      have hk : Kept c z1 z2 := by rw [hz2]; exact kept_bel (Go.Joins.below_alloc1 _ _)
      have hc : Cur z2 c := by rw [hz2]; exact HP1.out.cur.alloc _
      have HP2 : Hid (Pre w c gb A x by' z2) := HP1.out.keep hc hk
      have HO2 : Hid (Blk z2 z1.heap.size #[.int .i64 0, .slice none 0 0, .int .i64 0, .int .i64 0, .slice none 0 0] 27 ∧ w.heap.size < z1.heap.size) := ⟨by rw [hz2]; exact Blk.new _ _ _, by have := HP1.out.hA; omega⟩
      clear hz2 hk hc
      clear hHeld
      refine hK.out _ _ (HX.out _ HP2.out) (fun hHeld => ?_)
      clear hK Kx
      try simp only [Act.put, List.setIfInBounds_toArray, List.set_cons_zero, List.set_cons_succ]
      refine wpAnyH_ready (rs := [4, 8]) (by kernel_rfl) (by simp) ?_
      refine AllReadyH.cons (o := { dst := some 16, op := Op.call { callee := Callee.value (Operand.func 75), args := #[Operand.tmp 14, Operand.tmp 15], argTypes := #[29, 39] }, type := 24, pos := "l11_group.go:73", after := #[{ on := 2, ground := Ground.data }, { on := 3, ground := Ground.data }, { on := 1, ground := Ground.chain }], guard := none }) rfl (fun Kx hK => ?_) ?_
      ·
        go_simp
        refine (Pro.specKey_any _ _ _ _ x.2.2.l x.2.2.s x.2.2.e x.2.2.n by' _ HP2.out.xo.reads HP2.out.names.rd (by have := HP2.out.xf.2; omega) HP2.out.bl).mono ?_
        rintro r z3 ⟨⟨K, kc, rfl, hO⟩, hb⟩
        have hk := kept_bel (c := c) hb
        have hc := cur_bel HP2.out.cur hb
        have HK3 : Hid (OwnL (w.heap.size + 1) z3 K (projB x.2.2.l by')) := ⟨Nat.le_trans (by have := HP2.out.hA; omega) hO.1, hO.2⟩
        have NX : Hid (K ≠ x.1) := fun e => by
          obtain ⟨_, _, ds, hx, _⟩ := HP2.out.xo
          have := hx.lt; have := hO.1; omega
        have HP3 : Hid (Pre w c gb A x by' z3) := HP2.out.keep hc hk
        have HO3 : Hid (Blk z3 z1.heap.size #[.int .i64 0, .slice none 0 0, .int .i64 0, .int .i64 0, .slice none 0 0] 27 ∧ w.heap.size < z1.heap.size) := ⟨blk_kept HO2.out.1 hk (by have := HL.out; have := HO2.out.2; omega), HO2.out.2⟩
        clear hO hb hk hc
        try dsimp only
        clear hHeld
        refine hK.out _ _ (HX.out _ HP3.out) (fun hHeld => ?_)
        clear hK Kx
        try simp only [Act.put, List.setIfInBounds_toArray, List.set_cons_zero, List.set_cons_succ]
        refine wpAnyH_ready (rs := [6, 8]) (by kernel_rfl) (by simp) ?_
        refine AllReadyH.cons (o := { dst := some 18, op := Op.call { callee := Callee.value (Operand.func 55), args := #[Operand.tmp 17, Operand.const (Value.int IntKind.i64 5)], argTypes := #[80, 3] }, type := 3, pos := "l11_group.go:73", after := #[{ on := 5, ground := Ground.data }, { on := 4, ground := Ground.chain }], guard := none }) rfl (fun Kx hK => ?_) ?_
        ·
          go_simp
          refine (below_any c 5 _ HP3.out.cur (by decide) (by decide)).mono ?_
          rintro r z4 ⟨⟨b, rfl, h0, h1⟩, hc, hk⟩
          have FB : Hid (0 ≤ b ∧ b ≤ 4) := ⟨h0, by omega⟩
          have HP4 : Hid (Pre w c gb A x by' z4) := HP3.out.keep hc hk
          have HK4 : Hid (OwnL (w.heap.size + 1) z4 K (projB x.2.2.l by')) := ownL_kept HK3.out hk (by have := HL.out; omega)
          have HO4 : Hid (Blk z4 z1.heap.size #[.int .i64 0, .slice none 0 0, .int .i64 0, .int .i64 0, .slice none 0 0] 27 ∧ w.heap.size < z1.heap.size) := ⟨blk_kept HO3.out.1 hk (by have := HL.out; have := HO3.out.2; omega), HO3.out.2⟩
          clear h0 h1 hc hk
          try dsimp only
          clear hHeld
          refine hK.out _ _ (HX.out _ HP4.out) (fun hHeld => ?_)
          clear hK Kx
          try simp only [Act.put, List.setIfInBounds_toArray, List.set_cons_zero, List.set_cons_succ]
          refine wpAnyH_ready (rs := [8]) (by kernel_rfl) (by simp) ?_
          refine AllReadyH.cons (o := { dst := some 20, op := Op.buildSlice 25 1 #[(0, Operand.tmp 19)], type := 25, pos := "l11_group.go:73", after := #[{ on := 7, ground := Ground.data }], guard := none }) rfl (fun Kx hK => ?_) AllReadyH.nil
          go_simp
          obtain ⟨z5, hz5⟩ : ∃ v, v = z4.alloc (.cells #[.slice (some ⟨x.1, 0, none⟩) x.2.2.l.length x.2.1, .int .i64 x.2.2.s, .int .i64 x.2.2.e, .string x.2.2.n] 29) := ⟨_, rfl⟩
          rw [← hz5]
          have hk : Kept c z4 z5 := by rw [hz5]; exact kept_bel (Go.Joins.below_alloc1 _ _)
          have hc : Cur z5 c := by rw [hz5]; exact HP4.out.cur.alloc _
          have HP5 : Hid (Pre w c gb A x by' z5) := HP4.out.keep hc hk
          have HK5 : Hid (OwnL (w.heap.size + 1) z5 K (projB x.2.2.l by')) := ownL_kept HK4.out hk (by have := HL.out; omega)
          have HO5 : Hid (Blk z5 z1.heap.size #[.int .i64 0, .slice none 0 0, .int .i64 0, .int .i64 0, .slice none 0 0] 27 ∧ w.heap.size < z1.heap.size) := ⟨blk_kept HO4.out.1 hk (by have := HL.out; have := HO4.out.2; omega), HO4.out.2⟩
          have HM5 : Hid (AB (w.heap.size + 1) z5 z4.heap.size 1 [x]) := AB.one (by rw [hz5]; exact Blk.new _ _ _) (by have := HP4.out.hA; omega) HP5.out.xo
          have HN5 : Hid (¬ blks z4.heap.size [x] K) := ne_one HK5.out HM5.out NX.out
          clear hz5 hk hc
          clear hHeld
          refine hK.out _ _ (HX.out _ HP5.out) (fun hHeld => ?_)
          clear hK Kx
          try simp only [Act.put, List.setIfInBounds_toArray, List.set_cons_zero, List.set_cons_succ]
          refine wpAnyH_ready (rs := [9]) (by kernel_rfl) (by simp) ?_
          refine AllReadyH.cons (o := { dst := some 21, op := Op.build 27 #[(0, Operand.tmp 13), (1, Operand.tmp 16), (2, Operand.tmp 18), (3, Operand.const (Value.int IntKind.i64 (-1))), (4, Operand.tmp 20)], type := 27, pos := "l11_group.go:73", after := #[{ on := 1, ground := Ground.data }, { on := 4, ground := Ground.data }, { on := 6, ground := Ground.data }, { on := 8, ground := Ground.data }], guard := none }) rfl (fun Kx hK => ?_) AllReadyH.nil
          go_simp
          clear hHeld
          refine hK.out _ _ (HX.out _ HP5.out) (fun hHeld => ?_)
          clear hK Kx
          try simp only [Act.put, List.setIfInBounds_toArray, List.set_cons_zero, List.set_cons_succ]
          refine wpAnyH_ready (rs := [11]) (by kernel_rfl) (by simp) ?_
          refine AllReadyH.cons (o := { dst := none, op := Op.store 27 (Operand.tmp 6) (Operand.tmp 21), type := 0, pos := "l11_group.go:73", after := #[{ on := 10, ground := Ground.data }, { on := 9, ground := Ground.data }, { on := 6, ground := Ground.chain }, { on := 0, ground := Ground.phase }, { on := 1, ground := Ground.phase }, { on := 2, ground := Ground.phase }, { on := 3, ground := Ground.phase }, { on := 4, ground := Ground.phase }, { on := 5, ground := Ground.phase }, { on := 6, ground := Ground.phase }, { on := 7, ground := Ground.phase }, { on := 8, ground := Ground.phase }, { on := 9, ground := Ground.phase }, { on := 10, ground := Ground.phase }], guard := none }) rfl (fun Kx hK => ?_) AllReadyH.nil
          have n0' : z5.cell? ⟨z1.heap.size, 0, none⟩ = some (.int .i64 0) := HO5.out.1.cell 0
          have m0' := HO5.out.1.frozen 0
          have n1' : z5.cell? ⟨z1.heap.size, 1, none⟩ = some (.slice none 0 0) := HO5.out.1.cell 1
          have m1' := HO5.out.1.frozen 1
          have n2' : z5.cell? ⟨z1.heap.size, 2, none⟩ = some (.int .i64 0) := HO5.out.1.cell 2
          have m2' := HO5.out.1.frozen 2
          have n3' : z5.cell? ⟨z1.heap.size, 3, none⟩ = some (.int .i64 0) := HO5.out.1.cell 3
          have m3' := HO5.out.1.frozen 3
          have n4' : z5.cell? ⟨z1.heap.size, 4, none⟩ = some (.slice none 0 0) := HO5.out.1.cell 4
          have m4' := HO5.out.1.frozen 4
          go_simp
          clear n0' m0' n1' m1' n2' m2' n3' m3' n4' m4' hHeld
          have hz := HP5.out.put HO5.out.1 HO5.out.2 (.int .i64 n) (.slice (some ⟨K, 0, none⟩) (projB x.2.2.l by').length kc) (.int .i64 b) (.int .i64 (-1)) (.slice (some ⟨z4.heap.size, 0, none⟩) [x].length 1)
          refine hK.out _ _ (HX.out _ hz) (fun hHeld => ?_)
          clear hK hz
          try simp only [Act.put, List.setIfInBounds_toArray, List.set_cons_zero, List.set_cons_succ]
          refine wpAnyH_done (by kernel_rfl) ?_ _
          go_wp2_with fail
          go_meet
          exact ⟨_, n, b, K, kc, _, rfl, ⟨HP5.out.put HO5.out.1 HO5.out.2 _ _ _ _ _, put5 HO5.out.1 _ _ _ _ _, HO5.out.2, ownL_moved HK5.out (moved5 HO5.out.1 _ _ _ _ _), ab_movedX HM5.out (moved5 HO5.out.1 _ _ _ _ _), HN5.out, fun y hy => by rw [List.mem_singleton.1 (show y ∈ [x.2.2] from hy)]; exact HP5.out.xf⟩, FN.out, FB.out⟩
        refine AllReadyH.cons (o := { dst := some 20, op := Op.buildSlice 25 1 #[(0, Operand.tmp 19)], type := 25, pos := "l11_group.go:73", after := #[{ on := 7, ground := Ground.data }], guard := none }) rfl (fun Kx hK => ?_) AllReadyH.nil
        go_simp
        obtain ⟨z4, hz4⟩ : ∃ v, v = z3.alloc (.cells #[.slice (some ⟨x.1, 0, none⟩) x.2.2.l.length x.2.1, .int .i64 x.2.2.s, .int .i64 x.2.2.e, .string x.2.2.n] 29) := ⟨_, rfl⟩
        rw [← hz4]
        have hk : Kept c z3 z4 := by rw [hz4]; exact kept_bel (Go.Joins.below_alloc1 _ _)
        have hc : Cur z4 c := by rw [hz4]; exact HP3.out.cur.alloc _
        have HP4 : Hid (Pre w c gb A x by' z4) := HP3.out.keep hc hk
        have HK4 : Hid (OwnL (w.heap.size + 1) z4 K (projB x.2.2.l by')) := ownL_kept HK3.out hk (by have := HL.out; omega)
        have HO4 : Hid (Blk z4 z1.heap.size #[.int .i64 0, .slice none 0 0, .int .i64 0, .int .i64 0, .slice none 0 0] 27 ∧ w.heap.size < z1.heap.size) := ⟨blk_kept HO3.out.1 hk (by have := HL.out; have := HO3.out.2; omega), HO3.out.2⟩
        have HM4 : Hid (AB (w.heap.size + 1) z4 z3.heap.size 1 [x]) := AB.one (by rw [hz4]; exact Blk.new _ _ _) (by have := HP3.out.hA; omega) HP4.out.xo
        have HN4 : Hid (¬ blks z3.heap.size [x] K) := ne_one HK4.out HM4.out NX.out
        clear hz4 hk hc
        clear hHeld
        refine hK.out _ _ (HX.out _ HP4.out) (fun hHeld => ?_)
        clear hK Kx
        try simp only [Act.put, List.setIfInBounds_toArray, List.set_cons_zero, List.set_cons_succ]
        refine wpAnyH_ready (rs := [6]) (by kernel_rfl) (by simp) ?_
        refine AllReadyH.cons (o := { dst := some 18, op := Op.call { callee := Callee.value (Operand.func 55), args := #[Operand.tmp 17, Operand.const (Value.int IntKind.i64 5)], argTypes := #[80, 3] }, type := 3, pos := "l11_group.go:73", after := #[{ on := 5, ground := Ground.data }, { on := 4, ground := Ground.chain }], guard := none }) rfl (fun Kx hK => ?_) AllReadyH.nil
        go_simp
        refine (below_any c 5 _ HP4.out.cur (by decide) (by decide)).mono ?_
        rintro r z5 ⟨⟨b, rfl, h0, h1⟩, hc, hk⟩
        have FB : Hid (0 ≤ b ∧ b ≤ 4) := ⟨h0, by omega⟩
        have HP5 : Hid (Pre w c gb A x by' z5) := HP4.out.keep hc hk
        have HK5 : Hid (OwnL (w.heap.size + 1) z5 K (projB x.2.2.l by')) := ownL_kept HK4.out hk (by have := HL.out; omega)
        have HM5 : Hid (AB (w.heap.size + 1) z5 z3.heap.size 1 [x]) := ab_kept HM4.out hk (by have := HL.out; omega)
        have HO5 : Hid (Blk z5 z1.heap.size #[.int .i64 0, .slice none 0 0, .int .i64 0, .int .i64 0, .slice none 0 0] 27 ∧ w.heap.size < z1.heap.size) := ⟨blk_kept HO4.out.1 hk (by have := HL.out; have := HO4.out.2; omega), HO4.out.2⟩
        have HN5 : Hid (¬ blks z3.heap.size [x] K) := HN4.out
        clear h0 h1 hc hk
        try dsimp only
        clear hHeld
        refine hK.out _ _ (HX.out _ HP5.out) (fun hHeld => ?_)
        clear hK Kx
        try simp only [Act.put, List.setIfInBounds_toArray, List.set_cons_zero, List.set_cons_succ]
        refine wpAnyH_ready (rs := [9]) (by kernel_rfl) (by simp) ?_
        refine AllReadyH.cons (o := { dst := some 21, op := Op.build 27 #[(0, Operand.tmp 13), (1, Operand.tmp 16), (2, Operand.tmp 18), (3, Operand.const (Value.int IntKind.i64 (-1))), (4, Operand.tmp 20)], type := 27, pos := "l11_group.go:73", after := #[{ on := 1, ground := Ground.data }, { on := 4, ground := Ground.data }, { on := 6, ground := Ground.data }, { on := 8, ground := Ground.data }], guard := none }) rfl (fun Kx hK => ?_) AllReadyH.nil
        go_simp
        clear hHeld
        refine hK.out _ _ (HX.out _ HP5.out) (fun hHeld => ?_)
        clear hK Kx
        try simp only [Act.put, List.setIfInBounds_toArray, List.set_cons_zero, List.set_cons_succ]
        refine wpAnyH_ready (rs := [11]) (by kernel_rfl) (by simp) ?_
        refine AllReadyH.cons (o := { dst := none, op := Op.store 27 (Operand.tmp 6) (Operand.tmp 21), type := 0, pos := "l11_group.go:73", after := #[{ on := 10, ground := Ground.data }, { on := 9, ground := Ground.data }, { on := 6, ground := Ground.chain }, { on := 0, ground := Ground.phase }, { on := 1, ground := Ground.phase }, { on := 2, ground := Ground.phase }, { on := 3, ground := Ground.phase }, { on := 4, ground := Ground.phase }, { on := 5, ground := Ground.phase }, { on := 6, ground := Ground.phase }, { on := 7, ground := Ground.phase }, { on := 8, ground := Ground.phase }, { on := 9, ground := Ground.phase }, { on := 10, ground := Ground.phase }], guard := none }) rfl (fun Kx hK => ?_) AllReadyH.nil
        have n0' : z5.cell? ⟨z1.heap.size, 0, none⟩ = some (.int .i64 0) := HO5.out.1.cell 0
        have m0' := HO5.out.1.frozen 0
        have n1' : z5.cell? ⟨z1.heap.size, 1, none⟩ = some (.slice none 0 0) := HO5.out.1.cell 1
        have m1' := HO5.out.1.frozen 1
        have n2' : z5.cell? ⟨z1.heap.size, 2, none⟩ = some (.int .i64 0) := HO5.out.1.cell 2
        have m2' := HO5.out.1.frozen 2
        have n3' : z5.cell? ⟨z1.heap.size, 3, none⟩ = some (.int .i64 0) := HO5.out.1.cell 3
        have m3' := HO5.out.1.frozen 3
        have n4' : z5.cell? ⟨z1.heap.size, 4, none⟩ = some (.slice none 0 0) := HO5.out.1.cell 4
        have m4' := HO5.out.1.frozen 4
        go_simp
        clear n0' m0' n1' m1' n2' m2' n3' m3' n4' m4' hHeld
        have hz := HP5.out.put HO5.out.1 HO5.out.2 (.int .i64 n) (.slice (some ⟨K, 0, none⟩) (projB x.2.2.l by').length kc) (.int .i64 b) (.int .i64 (-1)) (.slice (some ⟨z3.heap.size, 0, none⟩) [x].length 1)
        refine hK.out _ _ (HX.out _ hz) (fun hHeld => ?_)
        clear hK hz
        try simp only [Act.put, List.setIfInBounds_toArray, List.set_cons_zero, List.set_cons_succ]
        refine wpAnyH_done (by kernel_rfl) ?_ _
        go_wp2_with fail
        go_meet
        exact ⟨_, n, b, K, kc, _, rfl, ⟨HP5.out.put HO5.out.1 HO5.out.2 _ _ _ _ _, put5 HO5.out.1 _ _ _ _ _, HO5.out.2, ownL_moved HK5.out (moved5 HO5.out.1 _ _ _ _ _), ab_movedX HM5.out (moved5 HO5.out.1 _ _ _ _ _), HN5.out, fun y hy => by rw [List.mem_singleton.1 (show y ∈ [x.2.2] from hy)]; exact HP5.out.xf⟩, FN.out, FB.out⟩
      refine AllReadyH.cons (o := { dst := some 20, op := Op.buildSlice 25 1 #[(0, Operand.tmp 19)], type := 25, pos := "l11_group.go:73", after := #[{ on := 7, ground := Ground.data }], guard := none }) rfl (fun Kx hK => ?_) AllReadyH.nil
      go_simp
      obtain ⟨z3, hz3⟩ : ∃ v, v = z2.alloc (.cells #[.slice (some ⟨x.1, 0, none⟩) x.2.2.l.length x.2.1, .int .i64 x.2.2.s, .int .i64 x.2.2.e, .string x.2.2.n] 29) := ⟨_, rfl⟩
      rw [← hz3]
      have hk : Kept c z2 z3 := by rw [hz3]; exact kept_bel (Go.Joins.below_alloc1 _ _)
      have hc : Cur z3 c := by rw [hz3]; exact HP2.out.cur.alloc _
      have HP3 : Hid (Pre w c gb A x by' z3) := HP2.out.keep hc hk
      have HO3 : Hid (Blk z3 z1.heap.size #[.int .i64 0, .slice none 0 0, .int .i64 0, .int .i64 0, .slice none 0 0] 27 ∧ w.heap.size < z1.heap.size) := ⟨blk_kept HO2.out.1 hk (by have := HL.out; have := HO2.out.2; omega), HO2.out.2⟩
      have HM3 : Hid (AB (w.heap.size + 1) z3 z2.heap.size 1 [x]) := AB.one (by rw [hz3]; exact Blk.new _ _ _) (by have := HP2.out.hA; omega) HP3.out.xo
      clear hz3 hk hc
      clear hHeld
      refine hK.out _ _ (HX.out _ HP3.out) (fun hHeld => ?_)
      clear hK Kx
      try simp only [Act.put, List.setIfInBounds_toArray, List.set_cons_zero, List.set_cons_succ]
      refine wpAnyH_ready (rs := [4]) (by kernel_rfl) (by simp) ?_
      refine AllReadyH.cons (o := { dst := some 16, op := Op.call { callee := Callee.value (Operand.func 75), args := #[Operand.tmp 14, Operand.tmp 15], argTypes := #[29, 39] }, type := 24, pos := "l11_group.go:73", after := #[{ on := 2, ground := Ground.data }, { on := 3, ground := Ground.data }, { on := 1, ground := Ground.chain }], guard := none }) rfl (fun Kx hK => ?_) AllReadyH.nil
      go_simp
      refine (Pro.specKey_any _ _ _ _ x.2.2.l x.2.2.s x.2.2.e x.2.2.n by' _ HP3.out.xo.reads HP3.out.names.rd (by have := HP3.out.xf.2; omega) HP3.out.bl).mono ?_
      rintro r z4 ⟨⟨K, kc, rfl, hO⟩, hb⟩
      have hk := kept_bel (c := c) hb
      have hc := cur_bel HP3.out.cur hb
      have HK4 : Hid (OwnL (w.heap.size + 1) z4 K (projB x.2.2.l by')) := ⟨Nat.le_trans (by have := HP3.out.hA; omega) hO.1, hO.2⟩
      have NX : Hid (K ≠ x.1) := fun e => by
        obtain ⟨_, _, ds, hx, _⟩ := HP3.out.xo
        have := hx.lt; have := hO.1; omega
      have HP4 : Hid (Pre w c gb A x by' z4) := HP3.out.keep hc hk
      have HM4 : Hid (AB (w.heap.size + 1) z4 z2.heap.size 1 [x]) := ab_kept HM3.out hk (by have := HL.out; omega)
      have HO4 : Hid (Blk z4 z1.heap.size #[.int .i64 0, .slice none 0 0, .int .i64 0, .int .i64 0, .slice none 0 0] 27 ∧ w.heap.size < z1.heap.size) := ⟨blk_kept HO3.out.1 hk (by have := HL.out; have := HO3.out.2; omega), HO3.out.2⟩
      have HN4 : Hid (¬ blks z2.heap.size [x] K) := ne_one HK4.out HM4.out NX.out
      clear hO hb hk hc
      try dsimp only
      clear hHeld
      refine hK.out _ _ (HX.out _ HP4.out) (fun hHeld => ?_)
      clear hK Kx
      try simp only [Act.put, List.setIfInBounds_toArray, List.set_cons_zero, List.set_cons_succ]
      refine wpAnyH_ready (rs := [6]) (by kernel_rfl) (by simp) ?_
      refine AllReadyH.cons (o := { dst := some 18, op := Op.call { callee := Callee.value (Operand.func 55), args := #[Operand.tmp 17, Operand.const (Value.int IntKind.i64 5)], argTypes := #[80, 3] }, type := 3, pos := "l11_group.go:73", after := #[{ on := 5, ground := Ground.data }, { on := 4, ground := Ground.chain }], guard := none }) rfl (fun Kx hK => ?_) AllReadyH.nil
      go_simp
      refine (below_any c 5 _ HP4.out.cur (by decide) (by decide)).mono ?_
      rintro r z5 ⟨⟨b, rfl, h0, h1⟩, hc, hk⟩
      have FB : Hid (0 ≤ b ∧ b ≤ 4) := ⟨h0, by omega⟩
      have HP5 : Hid (Pre w c gb A x by' z5) := HP4.out.keep hc hk
      have HK5 : Hid (OwnL (w.heap.size + 1) z5 K (projB x.2.2.l by')) := ownL_kept HK4.out hk (by have := HL.out; omega)
      have HM5 : Hid (AB (w.heap.size + 1) z5 z2.heap.size 1 [x]) := ab_kept HM4.out hk (by have := HL.out; omega)
      have HO5 : Hid (Blk z5 z1.heap.size #[.int .i64 0, .slice none 0 0, .int .i64 0, .int .i64 0, .slice none 0 0] 27 ∧ w.heap.size < z1.heap.size) := ⟨blk_kept HO4.out.1 hk (by have := HL.out; have := HO4.out.2; omega), HO4.out.2⟩
      have HN5 : Hid (¬ blks z2.heap.size [x] K) := HN4.out
      clear h0 h1 hc hk
      try dsimp only
      clear hHeld
      refine hK.out _ _ (HX.out _ HP5.out) (fun hHeld => ?_)
      clear hK Kx
      try simp only [Act.put, List.setIfInBounds_toArray, List.set_cons_zero, List.set_cons_succ]
      refine wpAnyH_ready (rs := [9]) (by kernel_rfl) (by simp) ?_
      refine AllReadyH.cons (o := { dst := some 21, op := Op.build 27 #[(0, Operand.tmp 13), (1, Operand.tmp 16), (2, Operand.tmp 18), (3, Operand.const (Value.int IntKind.i64 (-1))), (4, Operand.tmp 20)], type := 27, pos := "l11_group.go:73", after := #[{ on := 1, ground := Ground.data }, { on := 4, ground := Ground.data }, { on := 6, ground := Ground.data }, { on := 8, ground := Ground.data }], guard := none }) rfl (fun Kx hK => ?_) AllReadyH.nil
      go_simp
      clear hHeld
      refine hK.out _ _ (HX.out _ HP5.out) (fun hHeld => ?_)
      clear hK Kx
      try simp only [Act.put, List.setIfInBounds_toArray, List.set_cons_zero, List.set_cons_succ]
      refine wpAnyH_ready (rs := [11]) (by kernel_rfl) (by simp) ?_
      refine AllReadyH.cons (o := { dst := none, op := Op.store 27 (Operand.tmp 6) (Operand.tmp 21), type := 0, pos := "l11_group.go:73", after := #[{ on := 10, ground := Ground.data }, { on := 9, ground := Ground.data }, { on := 6, ground := Ground.chain }, { on := 0, ground := Ground.phase }, { on := 1, ground := Ground.phase }, { on := 2, ground := Ground.phase }, { on := 3, ground := Ground.phase }, { on := 4, ground := Ground.phase }, { on := 5, ground := Ground.phase }, { on := 6, ground := Ground.phase }, { on := 7, ground := Ground.phase }, { on := 8, ground := Ground.phase }, { on := 9, ground := Ground.phase }, { on := 10, ground := Ground.phase }], guard := none }) rfl (fun Kx hK => ?_) AllReadyH.nil
      have n0' : z5.cell? ⟨z1.heap.size, 0, none⟩ = some (.int .i64 0) := HO5.out.1.cell 0
      have m0' := HO5.out.1.frozen 0
      have n1' : z5.cell? ⟨z1.heap.size, 1, none⟩ = some (.slice none 0 0) := HO5.out.1.cell 1
      have m1' := HO5.out.1.frozen 1
      have n2' : z5.cell? ⟨z1.heap.size, 2, none⟩ = some (.int .i64 0) := HO5.out.1.cell 2
      have m2' := HO5.out.1.frozen 2
      have n3' : z5.cell? ⟨z1.heap.size, 3, none⟩ = some (.int .i64 0) := HO5.out.1.cell 3
      have m3' := HO5.out.1.frozen 3
      have n4' : z5.cell? ⟨z1.heap.size, 4, none⟩ = some (.slice none 0 0) := HO5.out.1.cell 4
      have m4' := HO5.out.1.frozen 4
      go_simp
      clear n0' m0' n1' m1' n2' m2' n3' m3' n4' m4' hHeld
      have hz := HP5.out.put HO5.out.1 HO5.out.2 (.int .i64 n) (.slice (some ⟨K, 0, none⟩) (projB x.2.2.l by').length kc) (.int .i64 b) (.int .i64 (-1)) (.slice (some ⟨z2.heap.size, 0, none⟩) [x].length 1)
      refine hK.out _ _ (HX.out _ hz) (fun hHeld => ?_)
      clear hK hz
      try simp only [Act.put, List.setIfInBounds_toArray, List.set_cons_zero, List.set_cons_succ]
      refine wpAnyH_done (by kernel_rfl) ?_ _
      go_wp2_with fail
      go_meet
      exact ⟨_, n, b, K, kc, _, rfl, ⟨HP5.out.put HO5.out.1 HO5.out.2 _ _ _ _ _, put5 HO5.out.1 _ _ _ _ _, HO5.out.2, ownL_moved HK5.out (moved5 HO5.out.1 _ _ _ _ _), ab_movedX HM5.out (moved5 HO5.out.1 _ _ _ _ _), HN5.out, fun y hy => by rw [List.mem_singleton.1 (show y ∈ [x.2.2] from hy)]; exact HP5.out.xf⟩, FN.out, FB.out⟩
    refine AllReadyH.cons (o := { dst := some 20, op := Op.buildSlice 25 1 #[(0, Operand.tmp 19)], type := 25, pos := "l11_group.go:73", after := #[{ on := 7, ground := Ground.data }], guard := none }) rfl (fun Kx hK => ?_) ?_
    ·
      go_simp
      obtain ⟨z1, hz1⟩ : ∃ v, v = z0.alloc (.cells #[.slice (some ⟨x.1, 0, none⟩) x.2.2.l.length x.2.1, .int .i64 x.2.2.s, .int .i64 x.2.2.e, .string x.2.2.n] 29) := ⟨_, rfl⟩
      rw [← hz1]
      have hk : Kept c z0 z1 := by rw [hz1]; exact kept_bel (Go.Joins.below_alloc1 _ _)
      have hc : Cur z1 c := by rw [hz1]; exact HP0.out.cur.alloc _
      have HP1 : Hid (Pre w c gb A x by' z1) := HP0.out.keep hc hk
      have HM1 : Hid (AB (w.heap.size + 1) z1 z0.heap.size 1 [x]) := AB.one (by rw [hz1]; exact Blk.new _ _ _) (by have := HP0.out.hA; omega) HP1.out.xo
      clear hz1 hk hc
      clear hHeld
      refine hK.out _ _ (HX.out _ HP1.out) (fun hHeld => ?_)
      clear hK Kx
      try simp only [Act.put, List.setIfInBounds_toArray, List.set_cons_zero, List.set_cons_succ]
      refine wpAnyH_ready (rs := [1, 10]) (by kernel_rfl) (by simp) ?_
      refine AllReadyH.cons (o := { dst := some 13, op := Op.call { callee := Callee.value (Operand.func 55), args := #[Operand.tmp 12, Operand.const (Value.int IntKind.i64 5)], argTypes := #[80, 3] }, type := 3, pos := "l11_group.go:73", after := #[{ on := 0, ground := Ground.data }], guard := none }) rfl (fun Kx hK => ?_) ?_
      ·
        go_simp
        refine (below_any c 5 _ HP1.out.cur (by decide) (by decide)).mono ?_
        rintro r z2 ⟨⟨n, rfl, h0, h1⟩, hc, hk⟩
        have FN : Hid (0 ≤ n ∧ n ≤ 4) := ⟨h0, by omega⟩
        have HP2 : Hid (Pre w c gb A x by' z2) := HP1.out.keep hc hk
        have HM2 : Hid (AB (w.heap.size + 1) z2 z0.heap.size 1 [x]) := ab_kept HM1.out hk (by have := HL.out; omega)
        clear h0 h1 hc hk
        try dsimp only
        clear hHeld
        refine hK.out _ _ (HX.out _ HP2.out) (fun hHeld => ?_)
        clear hK Kx
        try simp only [Act.put, List.setIfInBounds_toArray, List.set_cons_zero, List.set_cons_succ]
        refine wpAnyH_ready (rs := [4, 10]) (by kernel_rfl) (by simp) ?_
        refine AllReadyH.cons (o := { dst := some 16, op := Op.call { callee := Callee.value (Operand.func 75), args := #[Operand.tmp 14, Operand.tmp 15], argTypes := #[29, 39] }, type := 24, pos := "l11_group.go:73", after := #[{ on := 2, ground := Ground.data }, { on := 3, ground := Ground.data }, { on := 1, ground := Ground.chain }], guard := none }) rfl (fun Kx hK => ?_) ?_
        ·
          go_simp
          refine (Pro.specKey_any _ _ _ _ x.2.2.l x.2.2.s x.2.2.e x.2.2.n by' _ HP2.out.xo.reads HP2.out.names.rd (by have := HP2.out.xf.2; omega) HP2.out.bl).mono ?_
          rintro r z3 ⟨⟨K, kc, rfl, hO⟩, hb⟩
          have hk := kept_bel (c := c) hb
          have hc := cur_bel HP2.out.cur hb
          have HK3 : Hid (OwnL (w.heap.size + 1) z3 K (projB x.2.2.l by')) := ⟨Nat.le_trans (by have := HP2.out.hA; omega) hO.1, hO.2⟩
          have NX : Hid (K ≠ x.1) := fun e => by
            obtain ⟨_, _, ds, hx, _⟩ := HP2.out.xo
            have := hx.lt; have := hO.1; omega
          have HP3 : Hid (Pre w c gb A x by' z3) := HP2.out.keep hc hk
          have HM3 : Hid (AB (w.heap.size + 1) z3 z0.heap.size 1 [x]) := ab_kept HM2.out hk (by have := HL.out; omega)
          have HN3 : Hid (¬ blks z0.heap.size [x] K) := ne_one HK3.out HM3.out NX.out
          clear hO hb hk hc
          try dsimp only
          clear hHeld
          refine hK.out _ _ (HX.out _ HP3.out) (fun hHeld => ?_)
          clear hK Kx
          try simp only [Act.put, List.setIfInBounds_toArray, List.set_cons_zero, List.set_cons_succ]
          refine wpAnyH_ready (rs := [6, 10]) (by kernel_rfl) (by simp) ?_
          refine AllReadyH.cons (o := { dst := some 18, op := Op.call { callee := Callee.value (Operand.func 55), args := #[Operand.tmp 17, Operand.const (Value.int IntKind.i64 5)], argTypes := #[80, 3] }, type := 3, pos := "l11_group.go:73", after := #[{ on := 5, ground := Ground.data }, { on := 4, ground := Ground.chain }], guard := none }) rfl (fun Kx hK => ?_) ?_
          ·
            go_simp
            refine (below_any c 5 _ HP3.out.cur (by decide) (by decide)).mono ?_
            rintro r z4 ⟨⟨b, rfl, h0, h1⟩, hc, hk⟩
            have FB : Hid (0 ≤ b ∧ b ≤ 4) := ⟨h0, by omega⟩
            have HP4 : Hid (Pre w c gb A x by' z4) := HP3.out.keep hc hk
            have HK4 : Hid (OwnL (w.heap.size + 1) z4 K (projB x.2.2.l by')) := ownL_kept HK3.out hk (by have := HL.out; omega)
            have HM4 : Hid (AB (w.heap.size + 1) z4 z0.heap.size 1 [x]) := ab_kept HM3.out hk (by have := HL.out; omega)
            have HN4 : Hid (¬ blks z0.heap.size [x] K) := HN3.out
            clear h0 h1 hc hk
            try dsimp only
            clear hHeld
            refine hK.out _ _ (HX.out _ HP4.out) (fun hHeld => ?_)
            clear hK Kx
            try simp only [Act.put, List.setIfInBounds_toArray, List.set_cons_zero, List.set_cons_succ]
            refine wpAnyH_ready (rs := [9, 10]) (by kernel_rfl) (by simp) ?_
            refine AllReadyH.cons (o := { dst := some 21, op := Op.build 27 #[(0, Operand.tmp 13), (1, Operand.tmp 16), (2, Operand.tmp 18), (3, Operand.const (Value.int IntKind.i64 (-1))), (4, Operand.tmp 20)], type := 27, pos := "l11_group.go:73", after := #[{ on := 1, ground := Ground.data }, { on := 4, ground := Ground.data }, { on := 6, ground := Ground.data }, { on := 8, ground := Ground.data }], guard := none }) rfl (fun Kx hK => ?_) ?_
            ·
              go_simp
              clear hHeld
              refine hK.out _ _ (HX.out _ HP4.out) (fun hHeld => ?_)
              clear hK Kx
              try simp only [Act.put, List.setIfInBounds_toArray, List.set_cons_zero, List.set_cons_succ]
              refine wpAnyH_ready (rs := [10]) (by kernel_rfl) (by simp) ?_
              refine AllReadyH.cons (o := { dst := some 6, op := Op.alloc 27, type := 0, pos := "l11_group.go:73", after := #[], guard := none }) rfl (fun Kx hK => ?_) AllReadyH.nil
              go_simp
              obtain ⟨z5, hz5⟩ : ∃ v, v = z4.alloc (.cells #[.int .i64 0, .slice none 0 0, .int .i64 0, .int .i64 0, .slice none 0 0] 27) := ⟨_, rfl⟩
              rw [← hz5]
              have hk : Kept c z4 z5 := by rw [hz5]; exact kept_bel (Go.Joins.below_alloc1 _ _)
              have hc : Cur z5 c := by rw [hz5]; exact HP4.out.cur.alloc _
              have HP5 : Hid (Pre w c gb A x by' z5) := HP4.out.keep hc hk
              have HK5 : Hid (OwnL (w.heap.size + 1) z5 K (projB x.2.2.l by')) := ownL_kept HK4.out hk (by have := HL.out; omega)
              have HM5 : Hid (AB (w.heap.size + 1) z5 z0.heap.size 1 [x]) := ab_kept HM4.out hk (by have := HL.out; omega)
              have HN5 : Hid (¬ blks z0.heap.size [x] K) := HN4.out
              have HO5 : Hid (Blk z5 z4.heap.size #[.int .i64 0, .slice none 0 0, .int .i64 0, .int .i64 0, .slice none 0 0] 27 ∧ w.heap.size < z4.heap.size) := ⟨by rw [hz5]; exact Blk.new _ _ _, by have := HP4.out.hA; omega⟩
              clear hz5 hk hc
              clear hHeld
              refine hK.out _ _ (HX.out _ HP5.out) (fun hHeld => ?_)
              clear hK Kx
              try simp only [Act.put, List.setIfInBounds_toArray, List.set_cons_zero, List.set_cons_succ]
              refine wpAnyH_ready (rs := [11]) (by kernel_rfl) (by simp) ?_
              refine AllReadyH.cons (o := { dst := none, op := Op.store 27 (Operand.tmp 6) (Operand.tmp 21), type := 0, pos := "l11_group.go:73", after := #[{ on := 10, ground := Ground.data }, { on := 9, ground := Ground.data }, { on := 6, ground := Ground.chain }, { on := 0, ground := Ground.phase }, { on := 1, ground := Ground.phase }, { on := 2, ground := Ground.phase }, { on := 3, ground := Ground.phase }, { on := 4, ground := Ground.phase }, { on := 5, ground := Ground.phase }, { on := 6, ground := Ground.phase }, { on := 7, ground := Ground.phase }, { on := 8, ground := Ground.phase }, { on := 9, ground := Ground.phase }, { on := 10, ground := Ground.phase }], guard := none }) rfl (fun Kx hK => ?_) AllReadyH.nil
              have n0' : z5.cell? ⟨z4.heap.size, 0, none⟩ = some (.int .i64 0) := HO5.out.1.cell 0
              have m0' := HO5.out.1.frozen 0
              have n1' : z5.cell? ⟨z4.heap.size, 1, none⟩ = some (.slice none 0 0) := HO5.out.1.cell 1
              have m1' := HO5.out.1.frozen 1
              have n2' : z5.cell? ⟨z4.heap.size, 2, none⟩ = some (.int .i64 0) := HO5.out.1.cell 2
              have m2' := HO5.out.1.frozen 2
              have n3' : z5.cell? ⟨z4.heap.size, 3, none⟩ = some (.int .i64 0) := HO5.out.1.cell 3
              have m3' := HO5.out.1.frozen 3
              have n4' : z5.cell? ⟨z4.heap.size, 4, none⟩ = some (.slice none 0 0) := HO5.out.1.cell 4
              have m4' := HO5.out.1.frozen 4
              go_simp
              clear n0' m0' n1' m1' n2' m2' n3' m3' n4' m4' hHeld
              have hz := HP5.out.put HO5.out.1 HO5.out.2 (.int .i64 n) (.slice (some ⟨K, 0, none⟩) (projB x.2.2.l by').length kc) (.int .i64 b) (.int .i64 (-1)) (.slice (some ⟨z0.heap.size, 0, none⟩) [x].length 1)
              refine hK.out _ _ (HX.out _ hz) (fun hHeld => ?_)
              clear hK hz
              try simp only [Act.put, List.setIfInBounds_toArray, List.set_cons_zero, List.set_cons_succ]
              refine wpAnyH_done (by kernel_rfl) ?_ _
              go_wp2_with fail
              go_meet
              exact ⟨_, n, b, K, kc, _, rfl, ⟨HP5.out.put HO5.out.1 HO5.out.2 _ _ _ _ _, put5 HO5.out.1 _ _ _ _ _, HO5.out.2, ownL_moved HK5.out (moved5 HO5.out.1 _ _ _ _ _), ab_movedX HM5.out (moved5 HO5.out.1 _ _ _ _ _), HN5.out, fun y hy => by rw [List.mem_singleton.1 (show y ∈ [x.2.2] from hy)]; exact HP5.out.xf⟩, FN.out, FB.out⟩
            refine AllReadyH.cons (o := { dst := some 6, op := Op.alloc 27, type := 0, pos := "l11_group.go:73", after := #[], guard := none }) rfl (fun Kx hK => ?_) AllReadyH.nil
            go_simp
            obtain ⟨z5, hz5⟩ : ∃ v, v = z4.alloc (.cells #[.int .i64 0, .slice none 0 0, .int .i64 0, .int .i64 0, .slice none 0 0] 27) := ⟨_, rfl⟩
            rw [← hz5]
            have hk : Kept c z4 z5 := by rw [hz5]; exact kept_bel (Go.Joins.below_alloc1 _ _)
            have hc : Cur z5 c := by rw [hz5]; exact HP4.out.cur.alloc _
            have HP5 : Hid (Pre w c gb A x by' z5) := HP4.out.keep hc hk
            have HK5 : Hid (OwnL (w.heap.size + 1) z5 K (projB x.2.2.l by')) := ownL_kept HK4.out hk (by have := HL.out; omega)
            have HM5 : Hid (AB (w.heap.size + 1) z5 z0.heap.size 1 [x]) := ab_kept HM4.out hk (by have := HL.out; omega)
            have HN5 : Hid (¬ blks z0.heap.size [x] K) := HN4.out
            have HO5 : Hid (Blk z5 z4.heap.size #[.int .i64 0, .slice none 0 0, .int .i64 0, .int .i64 0, .slice none 0 0] 27 ∧ w.heap.size < z4.heap.size) := ⟨by rw [hz5]; exact Blk.new _ _ _, by have := HP4.out.hA; omega⟩
            clear hz5 hk hc
            clear hHeld
            refine hK.out _ _ (HX.out _ HP5.out) (fun hHeld => ?_)
            clear hK Kx
            try simp only [Act.put, List.setIfInBounds_toArray, List.set_cons_zero, List.set_cons_succ]
            refine wpAnyH_ready (rs := [9]) (by kernel_rfl) (by simp) ?_
            refine AllReadyH.cons (o := { dst := some 21, op := Op.build 27 #[(0, Operand.tmp 13), (1, Operand.tmp 16), (2, Operand.tmp 18), (3, Operand.const (Value.int IntKind.i64 (-1))), (4, Operand.tmp 20)], type := 27, pos := "l11_group.go:73", after := #[{ on := 1, ground := Ground.data }, { on := 4, ground := Ground.data }, { on := 6, ground := Ground.data }, { on := 8, ground := Ground.data }], guard := none }) rfl (fun Kx hK => ?_) AllReadyH.nil
            go_simp
            clear hHeld
            refine hK.out _ _ (HX.out _ HP5.out) (fun hHeld => ?_)
            clear hK Kx
            try simp only [Act.put, List.setIfInBounds_toArray, List.set_cons_zero, List.set_cons_succ]
            refine wpAnyH_ready (rs := [11]) (by kernel_rfl) (by simp) ?_
            refine AllReadyH.cons (o := { dst := none, op := Op.store 27 (Operand.tmp 6) (Operand.tmp 21), type := 0, pos := "l11_group.go:73", after := #[{ on := 10, ground := Ground.data }, { on := 9, ground := Ground.data }, { on := 6, ground := Ground.chain }, { on := 0, ground := Ground.phase }, { on := 1, ground := Ground.phase }, { on := 2, ground := Ground.phase }, { on := 3, ground := Ground.phase }, { on := 4, ground := Ground.phase }, { on := 5, ground := Ground.phase }, { on := 6, ground := Ground.phase }, { on := 7, ground := Ground.phase }, { on := 8, ground := Ground.phase }, { on := 9, ground := Ground.phase }, { on := 10, ground := Ground.phase }], guard := none }) rfl (fun Kx hK => ?_) AllReadyH.nil
            have n0' : z5.cell? ⟨z4.heap.size, 0, none⟩ = some (.int .i64 0) := HO5.out.1.cell 0
            have m0' := HO5.out.1.frozen 0
            have n1' : z5.cell? ⟨z4.heap.size, 1, none⟩ = some (.slice none 0 0) := HO5.out.1.cell 1
            have m1' := HO5.out.1.frozen 1
            have n2' : z5.cell? ⟨z4.heap.size, 2, none⟩ = some (.int .i64 0) := HO5.out.1.cell 2
            have m2' := HO5.out.1.frozen 2
            have n3' : z5.cell? ⟨z4.heap.size, 3, none⟩ = some (.int .i64 0) := HO5.out.1.cell 3
            have m3' := HO5.out.1.frozen 3
            have n4' : z5.cell? ⟨z4.heap.size, 4, none⟩ = some (.slice none 0 0) := HO5.out.1.cell 4
            have m4' := HO5.out.1.frozen 4
            go_simp
            clear n0' m0' n1' m1' n2' m2' n3' m3' n4' m4' hHeld
            have hz := HP5.out.put HO5.out.1 HO5.out.2 (.int .i64 n) (.slice (some ⟨K, 0, none⟩) (projB x.2.2.l by').length kc) (.int .i64 b) (.int .i64 (-1)) (.slice (some ⟨z0.heap.size, 0, none⟩) [x].length 1)
            refine hK.out _ _ (HX.out _ hz) (fun hHeld => ?_)
            clear hK hz
            try simp only [Act.put, List.setIfInBounds_toArray, List.set_cons_zero, List.set_cons_succ]
            refine wpAnyH_done (by kernel_rfl) ?_ _
            go_wp2_with fail
            go_meet
            exact ⟨_, n, b, K, kc, _, rfl, ⟨HP5.out.put HO5.out.1 HO5.out.2 _ _ _ _ _, put5 HO5.out.1 _ _ _ _ _, HO5.out.2, ownL_moved HK5.out (moved5 HO5.out.1 _ _ _ _ _), ab_movedX HM5.out (moved5 HO5.out.1 _ _ _ _ _), HN5.out, fun y hy => by rw [List.mem_singleton.1 (show y ∈ [x.2.2] from hy)]; exact HP5.out.xf⟩, FN.out, FB.out⟩
          refine AllReadyH.cons (o := { dst := some 6, op := Op.alloc 27, type := 0, pos := "l11_group.go:73", after := #[], guard := none }) rfl (fun Kx hK => ?_) AllReadyH.nil
          go_simp
          obtain ⟨z4, hz4⟩ : ∃ v, v = z3.alloc (.cells #[.int .i64 0, .slice none 0 0, .int .i64 0, .int .i64 0, .slice none 0 0] 27) := ⟨_, rfl⟩
          rw [← hz4]
          have hk : Kept c z3 z4 := by rw [hz4]; exact kept_bel (Go.Joins.below_alloc1 _ _)
          have hc : Cur z4 c := by rw [hz4]; exact HP3.out.cur.alloc _
          have HP4 : Hid (Pre w c gb A x by' z4) := HP3.out.keep hc hk
          have HK4 : Hid (OwnL (w.heap.size + 1) z4 K (projB x.2.2.l by')) := ownL_kept HK3.out hk (by have := HL.out; omega)
          have HM4 : Hid (AB (w.heap.size + 1) z4 z0.heap.size 1 [x]) := ab_kept HM3.out hk (by have := HL.out; omega)
          have HN4 : Hid (¬ blks z0.heap.size [x] K) := HN3.out
          have HO4 : Hid (Blk z4 z3.heap.size #[.int .i64 0, .slice none 0 0, .int .i64 0, .int .i64 0, .slice none 0 0] 27 ∧ w.heap.size < z3.heap.size) := ⟨by rw [hz4]; exact Blk.new _ _ _, by have := HP3.out.hA; omega⟩
          clear hz4 hk hc
          clear hHeld
          refine hK.out _ _ (HX.out _ HP4.out) (fun hHeld => ?_)
          clear hK Kx
          try simp only [Act.put, List.setIfInBounds_toArray, List.set_cons_zero, List.set_cons_succ]
          refine wpAnyH_ready (rs := [6]) (by kernel_rfl) (by simp) ?_
          refine AllReadyH.cons (o := { dst := some 18, op := Op.call { callee := Callee.value (Operand.func 55), args := #[Operand.tmp 17, Operand.const (Value.int IntKind.i64 5)], argTypes := #[80, 3] }, type := 3, pos := "l11_group.go:73", after := #[{ on := 5, ground := Ground.data }, { on := 4, ground := Ground.chain }], guard := none }) rfl (fun Kx hK => ?_) AllReadyH.nil
          go_simp
          refine (below_any c 5 _ HP4.out.cur (by decide) (by decide)).mono ?_
          rintro r z5 ⟨⟨b, rfl, h0, h1⟩, hc, hk⟩
          have FB : Hid (0 ≤ b ∧ b ≤ 4) := ⟨h0, by omega⟩
          have HP5 : Hid (Pre w c gb A x by' z5) := HP4.out.keep hc hk
          have HK5 : Hid (OwnL (w.heap.size + 1) z5 K (projB x.2.2.l by')) := ownL_kept HK4.out hk (by have := HL.out; omega)
          have HM5 : Hid (AB (w.heap.size + 1) z5 z0.heap.size 1 [x]) := ab_kept HM4.out hk (by have := HL.out; omega)
          have HO5 : Hid (Blk z5 z3.heap.size #[.int .i64 0, .slice none 0 0, .int .i64 0, .int .i64 0, .slice none 0 0] 27 ∧ w.heap.size < z3.heap.size) := ⟨blk_kept HO4.out.1 hk (by have := HL.out; have := HO4.out.2; omega), HO4.out.2⟩
          have HN5 : Hid (¬ blks z0.heap.size [x] K) := HN4.out
          clear h0 h1 hc hk
          try dsimp only
          clear hHeld
          refine hK.out _ _ (HX.out _ HP5.out) (fun hHeld => ?_)
          clear hK Kx
          try simp only [Act.put, List.setIfInBounds_toArray, List.set_cons_zero, List.set_cons_succ]
          refine wpAnyH_ready (rs := [9]) (by kernel_rfl) (by simp) ?_
          refine AllReadyH.cons (o := { dst := some 21, op := Op.build 27 #[(0, Operand.tmp 13), (1, Operand.tmp 16), (2, Operand.tmp 18), (3, Operand.const (Value.int IntKind.i64 (-1))), (4, Operand.tmp 20)], type := 27, pos := "l11_group.go:73", after := #[{ on := 1, ground := Ground.data }, { on := 4, ground := Ground.data }, { on := 6, ground := Ground.data }, { on := 8, ground := Ground.data }], guard := none }) rfl (fun Kx hK => ?_) AllReadyH.nil
          go_simp
          clear hHeld
          refine hK.out _ _ (HX.out _ HP5.out) (fun hHeld => ?_)
          clear hK Kx
          try simp only [Act.put, List.setIfInBounds_toArray, List.set_cons_zero, List.set_cons_succ]
          refine wpAnyH_ready (rs := [11]) (by kernel_rfl) (by simp) ?_
          refine AllReadyH.cons (o := { dst := none, op := Op.store 27 (Operand.tmp 6) (Operand.tmp 21), type := 0, pos := "l11_group.go:73", after := #[{ on := 10, ground := Ground.data }, { on := 9, ground := Ground.data }, { on := 6, ground := Ground.chain }, { on := 0, ground := Ground.phase }, { on := 1, ground := Ground.phase }, { on := 2, ground := Ground.phase }, { on := 3, ground := Ground.phase }, { on := 4, ground := Ground.phase }, { on := 5, ground := Ground.phase }, { on := 6, ground := Ground.phase }, { on := 7, ground := Ground.phase }, { on := 8, ground := Ground.phase }, { on := 9, ground := Ground.phase }, { on := 10, ground := Ground.phase }], guard := none }) rfl (fun Kx hK => ?_) AllReadyH.nil
          have n0' : z5.cell? ⟨z3.heap.size, 0, none⟩ = some (.int .i64 0) := HO5.out.1.cell 0
          have m0' := HO5.out.1.frozen 0
          have n1' : z5.cell? ⟨z3.heap.size, 1, none⟩ = some (.slice none 0 0) := HO5.out.1.cell 1
          have m1' := HO5.out.1.frozen 1
          have n2' : z5.cell? ⟨z3.heap.size, 2, none⟩ = some (.int .i64 0) := HO5.out.1.cell 2
          have m2' := HO5.out.1.frozen 2
          have n3' : z5.cell? ⟨z3.heap.size, 3, none⟩ = some (.int .i64 0) := HO5.out.1.cell 3
          have m3' := HO5.out.1.frozen 3
          have n4' : z5.cell? ⟨z3.heap.size, 4, none⟩ = some (.slice none 0 0) := HO5.out.1.cell 4
          have m4' := HO5.out.1.frozen 4
          go_simp
          clear n0' m0' n1' m1' n2' m2' n3' m3' n4' m4' hHeld
          have hz := HP5.out.put HO5.out.1 HO5.out.2 (.int .i64 n) (.slice (some ⟨K, 0, none⟩) (projB x.2.2.l by').length kc) (.int .i64 b) (.int .i64 (-1)) (.slice (some ⟨z0.heap.size, 0, none⟩) [x].length 1)
          refine hK.out _ _ (HX.out _ hz) (fun hHeld => ?_)
          clear hK hz
          try simp only [Act.put, List.setIfInBounds_toArray, List.set_cons_zero, List.set_cons_succ]
          refine wpAnyH_done (by kernel_rfl) ?_ _
          go_wp2_with fail
          go_meet
          exact ⟨_, n, b, K, kc, _, rfl, ⟨HP5.out.put HO5.out.1 HO5.out.2 _ _ _ _ _, put5 HO5.out.1 _ _ _ _ _, HO5.out.2, ownL_moved HK5.out (moved5 HO5.out.1 _ _ _ _ _), ab_movedX HM5.out (moved5 HO5.out.1 _ _ _ _ _), HN5.out, fun y hy => by rw [List.mem_singleton.1 (show y ∈ [x.2.2] from hy)]; exact HP5.out.xf⟩, FN.out, FB.out⟩
        refine AllReadyH.cons (o := { dst := some 6, op := Op.alloc 27, type := 0, pos := "l11_group.go:73", after := #[], guard := none }) rfl (fun Kx hK => ?_) AllReadyH.nil
        go_simp
        obtain ⟨z3, hz3⟩ : ∃ v, v = z2.alloc (.cells #[.int .i64 0, .slice none 0 0, .int .i64 0, .int .i64 0, .slice none 0 0] 27) := ⟨_, rfl⟩
        rw [← hz3]
        have hk : Kept c z2 z3 := by rw [hz3]; exact kept_bel (Go.Joins.below_alloc1 _ _)
        have hc : Cur z3 c := by rw [hz3]; exact HP2.out.cur.alloc _
        have HP3 : Hid (Pre w c gb A x by' z3) := HP2.out.keep hc hk
        have HM3 : Hid (AB (w.heap.size + 1) z3 z0.heap.size 1 [x]) := ab_kept HM2.out hk (by have := HL.out; omega)
        have HO3 : Hid (Blk z3 z2.heap.size #[.int .i64 0, .slice none 0 0, .int .i64 0, .int .i64 0, .slice none 0 0] 27 ∧ w.heap.size < z2.heap.size) := ⟨by rw [hz3]; exact Blk.new _ _ _, by have := HP2.out.hA; omega⟩
        clear hz3 hk hc
        clear hHeld
        refine hK.out _ _ (HX.out _ HP3.out) (fun hHeld => ?_)
        clear hK Kx
        try simp only [Act.put, List.setIfInBounds_toArray, List.set_cons_zero, List.set_cons_succ]
        refine wpAnyH_ready (rs := [4]) (by kernel_rfl) (by simp) ?_
        refine AllReadyH.cons (o := { dst := some 16, op := Op.call { callee := Callee.value (Operand.func 75), args := #[Operand.tmp 14, Operand.tmp 15], argTypes := #[29, 39] }, type := 24, pos := "l11_group.go:73", after := #[{ on := 2, ground := Ground.data }, { on := 3, ground := Ground.data }, { on := 1, ground := Ground.chain }], guard := none }) rfl (fun Kx hK => ?_) AllReadyH.nil
        go_simp
        refine (Pro.specKey_any _ _ _ _ x.2.2.l x.2.2.s x.2.2.e x.2.2.n by' _ HP3.out.xo.reads HP3.out.names.rd (by have := HP3.out.xf.2; omega) HP3.out.bl).mono ?_
        rintro r z4 ⟨⟨K, kc, rfl, hO⟩, hb⟩
        have hk := kept_bel (c := c) hb
        have hc := cur_bel HP3.out.cur hb
        have HK4 : Hid (OwnL (w.heap.size + 1) z4 K (projB x.2.2.l by')) := ⟨Nat.le_trans (by have := HP3.out.hA; omega) hO.1, hO.2⟩
        have NX : Hid (K ≠ x.1) := fun e => by
          obtain ⟨_, _, ds, hx, _⟩ := HP3.out.xo
          have := hx.lt; have := hO.1; omega
        have HP4 : Hid (Pre w c gb A x by' z4) := HP3.out.keep hc hk
        have HM4 : Hid (AB (w.heap.size + 1) z4 z0.heap.size 1 [x]) := ab_kept HM3.out hk (by have := HL.out; omega)
        have HO4 : Hid (Blk z4 z2.heap.size #[.int .i64 0, .slice none 0 0, .int .i64 0, .int .i64 0, .slice none 0 0] 27 ∧ w.heap.size < z2.heap.size) := ⟨blk_kept HO3.out.1 hk (by have := HL.out; have := HO3.out.2; omega), HO3.out.2⟩
        have HN4 : Hid (¬ blks z0.heap.size [x] K) := ne_one HK4.out HM4.out NX.out
        clear hO hb hk hc
        try dsimp only
        clear hHeld
        refine hK.out _ _ (HX.out _ HP4.out) (fun hHeld => ?_)
        clear hK Kx
        try simp only [Act.put, List.setIfInBounds_toArray, List.set_cons_zero, List.set_cons_succ]
        refine wpAnyH_ready (rs := [6]) (by kernel_rfl) (by simp) ?_
        refine AllReadyH.cons (o := { dst := some 18, op := Op.call { callee := Callee.value (Operand.func 55), args := #[Operand.tmp 17, Operand.const (Value.int IntKind.i64 5)], argTypes := #[80, 3] }, type := 3, pos := "l11_group.go:73", after := #[{ on := 5, ground := Ground.data }, { on := 4, ground := Ground.chain }], guard := none }) rfl (fun Kx hK => ?_) AllReadyH.nil
        go_simp
        refine (below_any c 5 _ HP4.out.cur (by decide) (by decide)).mono ?_
        rintro r z5 ⟨⟨b, rfl, h0, h1⟩, hc, hk⟩
        have FB : Hid (0 ≤ b ∧ b ≤ 4) := ⟨h0, by omega⟩
        have HP5 : Hid (Pre w c gb A x by' z5) := HP4.out.keep hc hk
        have HK5 : Hid (OwnL (w.heap.size + 1) z5 K (projB x.2.2.l by')) := ownL_kept HK4.out hk (by have := HL.out; omega)
        have HM5 : Hid (AB (w.heap.size + 1) z5 z0.heap.size 1 [x]) := ab_kept HM4.out hk (by have := HL.out; omega)
        have HO5 : Hid (Blk z5 z2.heap.size #[.int .i64 0, .slice none 0 0, .int .i64 0, .int .i64 0, .slice none 0 0] 27 ∧ w.heap.size < z2.heap.size) := ⟨blk_kept HO4.out.1 hk (by have := HL.out; have := HO4.out.2; omega), HO4.out.2⟩
        have HN5 : Hid (¬ blks z0.heap.size [x] K) := HN4.out
        clear h0 h1 hc hk
        try dsimp only
        clear hHeld
        refine hK.out _ _ (HX.out _ HP5.out) (fun hHeld => ?_)
        clear hK Kx
        try simp only [Act.put, List.setIfInBounds_toArray, List.set_cons_zero, List.set_cons_succ]
        refine wpAnyH_ready (rs := [9]) (by kernel_rfl) (by simp) ?_
        refine AllReadyH.cons (o := { dst := some 21, op := Op.build 27 #[(0, Operand.tmp 13), (1, Operand.tmp 16), (2, Operand.tmp 18), (3, Operand.const (Value.int IntKind.i64 (-1))), (4, Operand.tmp 20)], type := 27, pos := "l11_group.go:73", after := #[{ on := 1, ground := Ground.data }, { on := 4, ground := Ground.data }, { on := 6, ground := Ground.data }, { on := 8, ground := Ground.data }], guard := none }) rfl (fun Kx hK => ?_) AllReadyH.nil
        go_simp
        clear hHeld
        refine hK.out _ _ (HX.out _ HP5.out) (fun hHeld => ?_)
        clear hK Kx
        try simp only [Act.put, List.setIfInBounds_toArray, List.set_cons_zero, List.set_cons_succ]
        refine wpAnyH_ready (rs := [11]) (by kernel_rfl) (by simp) ?_
        refine AllReadyH.cons (o := { dst := none, op := Op.store 27 (Operand.tmp 6) (Operand.tmp 21), type := 0, pos := "l11_group.go:73", after := #[{ on := 10, ground := Ground.data }, { on := 9, ground := Ground.data }, { on := 6, ground := Ground.chain }, { on := 0, ground := Ground.phase }, { on := 1, ground := Ground.phase }, { on := 2, ground := Ground.phase }, { on := 3, ground := Ground.phase }, { on := 4, ground := Ground.phase }, { on := 5, ground := Ground.phase }, { on := 6, ground := Ground.phase }, { on := 7, ground := Ground.phase }, { on := 8, ground := Ground.phase }, { on := 9, ground := Ground.phase }, { on := 10, ground := Ground.phase }], guard := none }) rfl (fun Kx hK => ?_) AllReadyH.nil
        have n0' : z5.cell? ⟨z2.heap.size, 0, none⟩ = some (.int .i64 0) := HO5.out.1.cell 0
        have m0' := HO5.out.1.frozen 0
        have n1' : z5.cell? ⟨z2.heap.size, 1, none⟩ = some (.slice none 0 0) := HO5.out.1.cell 1
        have m1' := HO5.out.1.frozen 1
        have n2' : z5.cell? ⟨z2.heap.size, 2, none⟩ = some (.int .i64 0) := HO5.out.1.cell 2
        have m2' := HO5.out.1.frozen 2
        have n3' : z5.cell? ⟨z2.heap.size, 3, none⟩ = some (.int .i64 0) := HO5.out.1.cell 3
        have m3' := HO5.out.1.frozen 3
        have n4' : z5.cell? ⟨z2.heap.size, 4, none⟩ = some (.slice none 0 0) := HO5.out.1.cell 4
        have m4' := HO5.out.1.frozen 4
        go_simp
        clear n0' m0' n1' m1' n2' m2' n3' m3' n4' m4' hHeld
        have hz := HP5.out.put HO5.out.1 HO5.out.2 (.int .i64 n) (.slice (some ⟨K, 0, none⟩) (projB x.2.2.l by').length kc) (.int .i64 b) (.int .i64 (-1)) (.slice (some ⟨z0.heap.size, 0, none⟩) [x].length 1)
        refine hK.out _ _ (HX.out _ hz) (fun hHeld => ?_)
        clear hK hz
        try simp only [Act.put, List.setIfInBounds_toArray, List.set_cons_zero, List.set_cons_succ]
        refine wpAnyH_done (by kernel_rfl) ?_ _
        go_wp2_with fail
        go_meet
        exact ⟨_, n, b, K, kc, _, rfl, ⟨HP5.out.put HO5.out.1 HO5.out.2 _ _ _ _ _, put5 HO5.out.1 _ _ _ _ _, HO5.out.2, ownL_moved HK5.out (moved5 HO5.out.1 _ _ _ _ _), ab_movedX HM5.out (moved5 HO5.out.1 _ _ _ _ _), HN5.out, fun y hy => by rw [List.mem_singleton.1 (show y ∈ [x.2.2] from hy)]; exact HP5.out.xf⟩, FN.out, FB.out⟩
      refine AllReadyH.cons (o := { dst := some 6, op := Op.alloc 27, type := 0, pos := "l11_group.go:73", after := #[], guard := none }) rfl (fun Kx hK => ?_) AllReadyH.nil
      go_simp
      obtain ⟨z2, hz2⟩ : ∃ v, v = z1.alloc (.cells #[.int .i64 0, .slice none 0 0, .int .i64 0, .int .i64 0, .slice none 0 0] 27) := ⟨_, rfl⟩
      rw [← hz2]
      have hk : Kept c z1 z2 := by rw [hz2]; exact kept_bel (Go.Joins.below_alloc1 _ _)
      have hc : Cur z2 c := by rw [hz2]; exact HP1.out.cur.alloc _
      have HP2 : Hid (Pre w c gb A x by' z2) := HP1.out.keep hc hk
      have HM2 : Hid (AB (w.heap.size + 1) z2 z0.heap.size 1 [x]) := ab_kept HM1.out hk (by have := HL.out; omega)
      have HO2 : Hid (Blk z2 z1.heap.size #[.int .i64 0, .slice none 0 0, .int .i64 0, .int .i64 0, .slice none 0 0] 27 ∧ w.heap.size < z1.heap.size) := ⟨by rw [hz2]; exact Blk.new _ _ _, by have := HP1.out.hA; omega⟩
      clear hz2 hk hc
      clear hHeld
      refine hK.out _ _ (HX.out _ HP2.out) (fun hHeld => ?_)
      clear hK Kx
      try simp only [Act.put, List.setIfInBounds_toArray, List.set_cons_zero, List.set_cons_succ]
      refine wpAnyH_ready (rs := [1]) (by kernel_rfl) (by simp) ?_
      refine AllReadyH.cons (o := { dst := some 13, op := Op.call { callee := Callee.value (Operand.func 55), args := #[Operand.tmp 12, Operand.const (Value.int IntKind.i64 5)], argTypes := #[80, 3] }, type := 3, pos := "l11_group.go:73", after := #[{ on := 0, ground := Ground.data }], guard := none }) rfl (fun Kx hK => ?_) AllReadyH.nil
      go_simp
      refine (below_any c 5 _ HP2.out.cur (by decide) (by decide)).mono ?_
      rintro r z3 ⟨⟨n, rfl, h0, h1⟩, hc, hk⟩
      have FN : Hid (0 ≤ n ∧ n ≤ 4) := ⟨h0, by omega⟩
      have HP3 : Hid (Pre w c gb A x by' z3) := HP2.out.keep hc hk
      have HM3 : Hid (AB (w.heap.size + 1) z3 z0.heap.size 1 [x]) := ab_kept HM2.out hk (by have := HL.out; omega)
      have HO3 : Hid (Blk z3 z1.heap.size #[.int .i64 0, .slice none 0 0, .int .i64 0, .int .i64 0, .slice none 0 0] 27 ∧ w.heap.size < z1.heap.size) := ⟨blk_kept HO2.out.1 hk (by have := HL.out; have := HO2.out.2; omega), HO2.out.2⟩
      clear h0 h1 hc hk
      try dsimp only
      clear hHeld
      refine hK.out _ _ (HX.out _ HP3.out) (fun hHeld => ?_)
      clear hK Kx
      try simp only [Act.put, List.setIfInBounds_toArray, List.set_cons_zero, List.set_cons_succ]
      refine wpAnyH_ready (rs := [4]) (by kernel_rfl) (by simp) ?_
      refine AllReadyH.cons (o := { dst := some 16, op := Op.call { callee := Callee.value (Operand.func 75), args := #[Operand.tmp 14, Operand.tmp 15], argTypes := #[29, 39] }, type := 24, pos := "l11_group.go:73", after := #[{ on := 2, ground := Ground.data }, { on := 3, ground := Ground.data }, { on := 1, ground := Ground.chain }], guard := none }) rfl (fun Kx hK => ?_) AllReadyH.nil
      go_simp
      refine (Pro.specKey_any _ _ _ _ x.2.2.l x.2.2.s x.2.2.e x.2.2.n by' _ HP3.out.xo.reads HP3.out.names.rd (by have := HP3.out.xf.2; omega) HP3.out.bl).mono ?_
      rintro r z4 ⟨⟨K, kc, rfl, hO⟩, hb⟩
      have hk := kept_bel (c := c) hb
      have hc := cur_bel HP3.out.cur hb
      have HK4 : Hid (OwnL (w.heap.size + 1) z4 K (projB x.2.2.l by')) := ⟨Nat.le_trans (by have := HP3.out.hA; omega) hO.1, hO.2⟩
      have NX : Hid (K ≠ x.1) := fun e => by
        obtain ⟨_, _, ds, hx, _⟩ := HP3.out.xo
        have := hx.lt; have := hO.1; omega
      have HP4 : Hid (Pre w c gb A x by' z4) := HP3.out.keep hc hk
      have HM4 : Hid (AB (w.heap.size + 1) z4 z0.heap.size 1 [x]) := ab_kept HM3.out hk (by have := HL.out; omega)
      have HO4 : Hid (Blk z4 z1.heap.size #[.int .i64 0, .slice none 0 0, .int .i64 0, .int .i64 0, .slice none 0 0] 27 ∧ w.heap.size < z1.heap.size) := ⟨blk_kept HO3.out.1 hk (by have := HL.out; have := HO3.out.2; omega), HO3.out.2⟩
      have HN4 : Hid (¬ blks z0.heap.size [x] K) := ne_one HK4.out HM4.out NX.out
      clear hO hb hk hc
      try dsimp only
      clear hHeld
      refine hK.out _ _ (HX.out _ HP4.out) (fun hHeld => ?_)
      clear hK Kx
      try simp only [Act.put, List.setIfInBounds_toArray, List.set_cons_zero, List.set_cons_succ]
      refine wpAnyH_ready (rs := [6]) (by kernel_rfl) (by simp) ?_
      refine AllReadyH.cons (o := { dst := some 18, op := Op.call { callee := Callee.value (Operand.func 55), args := #[Operand.tmp 17, Operand.const (Value.int IntKind.i64 5)], argTypes := #[80, 3] }, type := 3, pos := "l11_group.go:73", after := #[{ on := 5, ground := Ground.data }, { on := 4, ground := Ground.chain }], guard := none }) rfl (fun Kx hK => ?_) AllReadyH.nil
      go_simp
      refine (below_any c 5 _ HP4.out.cur (by decide) (by decide)).mono ?_
      rintro r z5 ⟨⟨b, rfl, h0, h1⟩, hc, hk⟩
      have FB : Hid (0 ≤ b ∧ b ≤ 4) := ⟨h0, by omega⟩
      have HP5 : Hid (Pre w c gb A x by' z5) := HP4.out.keep hc hk
      have HK5 : Hid (OwnL (w.heap.size + 1) z5 K (projB x.2.2.l by')) := ownL_kept HK4.out hk (by have := HL.out; omega)
      have HM5 : Hid (AB (w.heap.size + 1) z5 z0.heap.size 1 [x]) := ab_kept HM4.out hk (by have := HL.out; omega)
      have HO5 : Hid (Blk z5 z1.heap.size #[.int .i64 0, .slice none 0 0, .int .i64 0, .int .i64 0, .slice none 0 0] 27 ∧ w.heap.size < z1.heap.size) := ⟨blk_kept HO4.out.1 hk (by have := HL.out; have := HO4.out.2; omega), HO4.out.2⟩
      have HN5 : Hid (¬ blks z0.heap.size [x] K) := HN4.out
      clear h0 h1 hc hk
      try dsimp only
      clear hHeld
      refine hK.out _ _ (HX.out _ HP5.out) (fun hHeld => ?_)
      clear hK Kx
      try simp only [Act.put, List.setIfInBounds_toArray, List.set_cons_zero, List.set_cons_succ]
      refine wpAnyH_ready (rs := [9]) (by kernel_rfl) (by simp) ?_
      refine AllReadyH.cons (o := { dst := some 21, op := Op.build 27 #[(0, Operand.tmp 13), (1, Operand.tmp 16), (2, Operand.tmp 18), (3, Operand.const (Value.int IntKind.i64 (-1))), (4, Operand.tmp 20)], type := 27, pos := "l11_group.go:73", after := #[{ on := 1, ground := Ground.data }, { on := 4, ground := Ground.data }, { on := 6, ground := Ground.data }, { on := 8, ground := Ground.data }], guard := none }) rfl (fun Kx hK => ?_) AllReadyH.nil
      go_simp
      clear hHeld
      refine hK.out _ _ (HX.out _ HP5.out) (fun hHeld => ?_)
      clear hK Kx
      try simp only [Act.put, List.setIfInBounds_toArray, List.set_cons_zero, List.set_cons_succ]
      refine wpAnyH_ready (rs := [11]) (by kernel_rfl) (by simp) ?_
      refine AllReadyH.cons (o := { dst := none, op := Op.store 27 (Operand.tmp 6) (Operand.tmp 21), type := 0, pos := "l11_group.go:73", after := #[{ on := 10, ground := Ground.data }, { on := 9, ground := Ground.data }, { on := 6, ground := Ground.chain }, { on := 0, ground := Ground.phase }, { on := 1, ground := Ground.phase }, { on := 2, ground := Ground.phase }, { on := 3, ground := Ground.phase }, { on := 4, ground := Ground.phase }, { on := 5, ground := Ground.phase }, { on := 6, ground := Ground.phase }, { on := 7, ground := Ground.phase }, { on := 8, ground := Ground.phase }, { on := 9, ground := Ground.phase }, { on := 10, ground := Ground.phase }], guard := none }) rfl (fun Kx hK => ?_) AllReadyH.nil
      have n0' : z5.cell? ⟨z1.heap.size, 0, none⟩ = some (.int .i64 0) := HO5.out.1.cell 0
      have m0' := HO5.out.1.frozen 0
      have n1' : z5.cell? ⟨z1.heap.size, 1, none⟩ = some (.slice none 0 0) := HO5.out.1.cell 1
      have m1' := HO5.out.1.frozen 1
      have n2' : z5.cell? ⟨z1.heap.size, 2, none⟩ = some (.int .i64 0) := HO5.out.1.cell 2
      have m2' := HO5.out.1.frozen 2
      have n3' : z5.cell? ⟨z1.heap.size, 3, none⟩ = some (.int .i64 0) := HO5.out.1.cell 3
      have m3' := HO5.out.1.frozen 3
      have n4' : z5.cell? ⟨z1.heap.size, 4, none⟩ = some (.slice none 0 0) := HO5.out.1.cell 4
      have m4' := HO5.out.1.frozen 4
      go_simp
      clear n0' m0' n1' m1' n2' m2' n3' m3' n4' m4' hHeld
      have hz := HP5.out.put HO5.out.1 HO5.out.2 (.int .i64 n) (.slice (some ⟨K, 0, none⟩) (projB x.2.2.l by').length kc) (.int .i64 b) (.int .i64 (-1)) (.slice (some ⟨z0.heap.size, 0, none⟩) [x].length 1)
      refine hK.out _ _ (HX.out _ hz) (fun hHeld => ?_)
      clear hK hz
      try simp only [Act.put, List.setIfInBounds_toArray, List.set_cons_zero, List.set_cons_succ]
      refine wpAnyH_done (by kernel_rfl) ?_ _
      go_wp2_with fail
      go_meet
      exact ⟨_, n, b, K, kc, _, rfl, ⟨HP5.out.put HO5.out.1 HO5.out.2 _ _ _ _ _, put5 HO5.out.1 _ _ _ _ _, HO5.out.2, ownL_moved HK5.out (moved5 HO5.out.1 _ _ _ _ _), ab_movedX HM5.out (moved5 HO5.out.1 _ _ _ _ _), HN5.out, fun y hy => by rw [List.mem_singleton.1 (show y ∈ [x.2.2] from hy)]; exact HP5.out.xf⟩, FN.out, FB.out⟩
    refine AllReadyH.cons (o := { dst := some 6, op := Op.alloc 27, type := 0, pos := "l11_group.go:73", after := #[], guard := none }) rfl (fun Kx hK => ?_) AllReadyH.nil
    go_simp
    obtain ⟨z1, hz1⟩ : ∃ v, v = z0.alloc (.cells #[.int .i64 0, .slice none 0 0, .int .i64 0, .int .i64 0, .slice none 0 0] 27) := ⟨_, rfl⟩
    rw [← hz1]
    have hk : Kept c z0 z1 := by rw [hz1]; exact kept_bel (Go.Joins.below_alloc1 _ _)
    have hc : Cur z1 c := by rw [hz1]; exact HP0.out.cur.alloc _
    have HP1 : Hid (Pre w c gb A x by' z1) := HP0.out.keep hc hk
    have HO1 : Hid (Blk z1 z0.heap.size #[.int .i64 0, .slice none 0 0, .int .i64 0, .int .i64 0, .slice none 0 0] 27 ∧ w.heap.size < z0.heap.size) := ⟨by rw [hz1]; exact Blk.new _ _ _, by have := HP0.out.hA; omega⟩
    clear hz1 hk hc
    clear hHeld
    refine hK.out _ _ (HX.out _ HP1.out) (fun hHeld => ?_)
    clear hK Kx
    try simp only [Act.put, List.setIfInBounds_toArray, List.set_cons_zero, List.set_cons_succ]
    refine wpAnyH_ready (rs := [1, 8]) (by kernel_rfl) (by simp) ?_
    refine AllReadyH.cons (o := { dst := some 13, op := Op.call { callee := Callee.value (Operand.func 55), args := #[Operand.tmp 12, Operand.const (Value.int IntKind.i64 5)], argTypes := #[80, 3] }, type := 3, pos := "l11_group.go:73", after := #[{ on := 0, ground := Ground.data }], guard := none }) rfl (fun Kx hK => ?_) ?_
    ·
      go_simp
      refine (below_any c 5 _ HP1.out.cur (by decide) (by decide)).mono ?_
      rintro r z2 ⟨⟨n, rfl, h0, h1⟩, hc, hk⟩
      have FN : Hid (0 ≤ n ∧ n ≤ 4) := ⟨h0, by omega⟩
      have HP2 : Hid (Pre w c gb A x by' z2) := HP1.out.keep hc hk
      have HO2 : Hid (Blk z2 z0.heap.size #[.int .i64 0, .slice none 0 0, .int .i64 0, .int .i64 0, .slice none 0 0] 27 ∧ w.heap.size < z0.heap.size) := ⟨blk_kept HO1.out.1 hk (by have := HL.out; have := HO1.out.2; omega), HO1.out.2⟩
      clear h0 h1 hc hk
      try dsimp only
      clear hHeld
      refine hK.out _ _ (HX.out _ HP2.out) (fun hHeld => ?_)
      clear hK Kx
      try simp only [Act.put, List.setIfInBounds_toArray, List.set_cons_zero, List.set_cons_succ]
      refine wpAnyH_ready (rs := [4, 8]) (by kernel_rfl) (by simp) ?_
      refine AllReadyH.cons (o := { dst := some 16, op := Op.call { callee := Callee.value (Operand.func 75), args := #[Operand.tmp 14, Operand.tmp 15], argTypes := #[29, 39] }, type := 24, pos := "l11_group.go:73", after := #[{ on := 2, ground := Ground.data }, { on := 3, ground := Ground.data }, { on := 1, ground := Ground.chain }], guard := none }) rfl (fun Kx hK => ?_) ?_
      ·
        go_simp
        refine (Pro.specKey_any _ _ _ _ x.2.2.l x.2.2.s x.2.2.e x.2.2.n by' _ HP2.out.xo.reads HP2.out.names.rd (by have := HP2.out.xf.2; omega) HP2.out.bl).mono ?_
        rintro r z3 ⟨⟨K, kc, rfl, hO⟩, hb⟩
        have hk := kept_bel (c := c) hb
        have hc := cur_bel HP2.out.cur hb
        have HK3 : Hid (OwnL (w.heap.size + 1) z3 K (projB x.2.2.l by')) := ⟨Nat.le_trans (by have := HP2.out.hA; omega) hO.1, hO.2⟩
        have NX : Hid (K ≠ x.1) := fun e => by
          obtain ⟨_, _, ds, hx, _⟩ := HP2.out.xo
          have := hx.lt; have := hO.1; omega
        have HP3 : Hid (Pre w c gb A x by' z3) := HP2.out.keep hc hk
        have HO3 : Hid (Blk z3 z0.heap.size #[.int .i64 0, .slice none 0 0, .int .i64 0, .int .i64 0, .slice none 0 0] 27 ∧ w.heap.size < z0.heap.size) := ⟨blk_kept HO2.out.1 hk (by have := HL.out; have := HO2.out.2; omega), HO2.out.2⟩
        clear hO hb hk hc
        try dsimp only
        clear hHeld
        refine hK.out _ _ (HX.out _ HP3.out) (fun hHeld => ?_)
        clear hK Kx
        try simp only [Act.put, List.setIfInBounds_toArray, List.set_cons_zero, List.set_cons_succ]
        refine wpAnyH_ready (rs := [6, 8]) (by kernel_rfl) (by simp) ?_
        refine AllReadyH.cons (o := { dst := some 18, op := Op.call { callee := Callee.value (Operand.func 55), args := #[Operand.tmp 17, Operand.const (Value.int IntKind.i64 5)], argTypes := #[80, 3] }, type := 3, pos := "l11_group.go:73", after := #[{ on := 5, ground := Ground.data }, { on := 4, ground := Ground.chain }], guard := none }) rfl (fun Kx hK => ?_) ?_
        ·
          go_simp
          refine (below_any c 5 _ HP3.out.cur (by decide) (by decide)).mono ?_
          rintro r z4 ⟨⟨b, rfl, h0, h1⟩, hc, hk⟩
          have FB : Hid (0 ≤ b ∧ b ≤ 4) := ⟨h0, by omega⟩
          have HP4 : Hid (Pre w c gb A x by' z4) := HP3.out.keep hc hk
          have HK4 : Hid (OwnL (w.heap.size + 1) z4 K (projB x.2.2.l by')) := ownL_kept HK3.out hk (by have := HL.out; omega)
          have HO4 : Hid (Blk z4 z0.heap.size #[.int .i64 0, .slice none 0 0, .int .i64 0, .int .i64 0, .slice none 0 0] 27 ∧ w.heap.size < z0.heap.size) := ⟨blk_kept HO3.out.1 hk (by have := HL.out; have := HO3.out.2; omega), HO3.out.2⟩
          clear h0 h1 hc hk
          try dsimp only
          clear hHeld
          refine hK.out _ _ (HX.out _ HP4.out) (fun hHeld => ?_)
          clear hK Kx
          try simp only [Act.put, List.setIfInBounds_toArray, List.set_cons_zero, List.set_cons_succ]
          refine wpAnyH_ready (rs := [8]) (by kernel_rfl) (by simp) ?_
          refine AllReadyH.cons (o := { dst := some 20, op := Op.buildSlice 25 1 #[(0, Operand.tmp 19)], type := 25, pos := "l11_group.go:73", after := #[{ on := 7, ground := Ground.data }], guard := none }) rfl (fun Kx hK => ?_) AllReadyH.nil
          go_simp
          obtain ⟨z5, hz5⟩ : ∃ v, v = z4.alloc (.cells #[.slice (some ⟨x.1, 0, none⟩) x.2.2.l.length x.2.1, .int .i64 x.2.2.s, .int .i64 x.2.2.e, .string x.2.2.n] 29) := ⟨_, rfl⟩
          rw [← hz5]
          have hk : Kept c z4 z5 := by rw [hz5]; exact kept_bel (Go.Joins.below_alloc1 _ _)
          have hc : Cur z5 c := by rw [hz5]; exact HP4.out.cur.alloc _
          have HP5 : Hid (Pre w c gb A x by' z5) := HP4.out.keep hc hk
          have HK5 : Hid (OwnL (w.heap.size + 1) z5 K (projB x.2.2.l by')) := ownL_kept HK4.out hk (by have := HL.out; omega)
          have HO5 : Hid (Blk z5 z0.heap.size #[.int .i64 0, .slice none 0 0, .int .i64 0, .int .i64 0, .slice none 0 0] 27 ∧ w.heap.size < z0.heap.size) := ⟨blk_kept HO4.out.1 hk (by have := HL.out; have := HO4.out.2; omega), HO4.out.2⟩
          have HM5 : Hid (AB (w.heap.size + 1) z5 z4.heap.size 1 [x]) := AB.one (by rw [hz5]; exact Blk.new _ _ _) (by have := HP4.out.hA; omega) HP5.out.xo
          have HN5 : Hid (¬ blks z4.heap.size [x] K) := ne_one HK5.out HM5.out NX.out
          clear hz5 hk hc
          clear hHeld
          refine hK.out _ _ (HX.out _ HP5.out) (fun hHeld => ?_)
          clear hK Kx
          try simp only [Act.put, List.setIfInBounds_toArray, List.set_cons_zero, List.set_cons_succ]
          refine wpAnyH_ready (rs := [9]) (by kernel_rfl) (by simp) ?_
          refine AllReadyH.cons (o := { dst := some 21, op := Op.build 27 #[(0, Operand.tmp 13), (1, Operand.tmp 16), (2, Operand.tmp 18), (3, Operand.const (Value.int IntKind.i64 (-1))), (4, Operand.tmp 20)], type := 27, pos := "l11_group.go:73", after := #[{ on := 1, ground := Ground.data }, { on := 4, ground := Ground.data }, { on := 6, ground := Ground.data }, { on := 8, ground := Ground.data }], guard := none }) rfl (fun Kx hK => ?_) AllReadyH.nil
          go_simp
          clear hHeld
          refine hK.out _ _ (HX.out _ HP5.out) (fun hHeld => ?_)
          clear hK Kx
          try simp only [Act.put, List.setIfInBounds_toArray, List.set_cons_zero, List.set_cons_succ]
          refine wpAnyH_ready (rs := [11]) (by kernel_rfl) (by simp) ?_
          refine AllReadyH.cons (o := { dst := none, op := Op.store 27 (Operand.tmp 6) (Operand.tmp 21), type := 0, pos := "l11_group.go:73", after := #[{ on := 10, ground := Ground.data }, { on := 9, ground := Ground.data }, { on := 6, ground := Ground.chain }, { on := 0, ground := Ground.phase }, { on := 1, ground := Ground.phase }, { on := 2, ground := Ground.phase }, { on := 3, ground := Ground.phase }, { on := 4, ground := Ground.phase }, { on := 5, ground := Ground.phase }, { on := 6, ground := Ground.phase }, { on := 7, ground := Ground.phase }, { on := 8, ground := Ground.phase }, { on := 9, ground := Ground.phase }, { on := 10, ground := Ground.phase }], guard := none }) rfl (fun Kx hK => ?_) AllReadyH.nil
          have n0' : z5.cell? ⟨z0.heap.size, 0, none⟩ = some (.int .i64 0) := HO5.out.1.cell 0
          have m0' := HO5.out.1.frozen 0
          have n1' : z5.cell? ⟨z0.heap.size, 1, none⟩ = some (.slice none 0 0) := HO5.out.1.cell 1
          have m1' := HO5.out.1.frozen 1
          have n2' : z5.cell? ⟨z0.heap.size, 2, none⟩ = some (.int .i64 0) := HO5.out.1.cell 2
          have m2' := HO5.out.1.frozen 2
          have n3' : z5.cell? ⟨z0.heap.size, 3, none⟩ = some (.int .i64 0) := HO5.out.1.cell 3
          have m3' := HO5.out.1.frozen 3
          have n4' : z5.cell? ⟨z0.heap.size, 4, none⟩ = some (.slice none 0 0) := HO5.out.1.cell 4
          have m4' := HO5.out.1.frozen 4
          go_simp
          clear n0' m0' n1' m1' n2' m2' n3' m3' n4' m4' hHeld
          have hz := HP5.out.put HO5.out.1 HO5.out.2 (.int .i64 n) (.slice (some ⟨K, 0, none⟩) (projB x.2.2.l by').length kc) (.int .i64 b) (.int .i64 (-1)) (.slice (some ⟨z4.heap.size, 0, none⟩) [x].length 1)
          refine hK.out _ _ (HX.out _ hz) (fun hHeld => ?_)
          clear hK hz
          try simp only [Act.put, List.setIfInBounds_toArray, List.set_cons_zero, List.set_cons_succ]
          refine wpAnyH_done (by kernel_rfl) ?_ _
          go_wp2_with fail
          go_meet
          exact ⟨_, n, b, K, kc, _, rfl, ⟨HP5.out.put HO5.out.1 HO5.out.2 _ _ _ _ _, put5 HO5.out.1 _ _ _ _ _, HO5.out.2, ownL_moved HK5.out (moved5 HO5.out.1 _ _ _ _ _), ab_movedX HM5.out (moved5 HO5.out.1 _ _ _ _ _), HN5.out, fun y hy => by rw [List.mem_singleton.1 (show y ∈ [x.2.2] from hy)]; exact HP5.out.xf⟩, FN.out, FB.out⟩
        refine AllReadyH.cons (o := { dst := some 20, op := Op.buildSlice 25 1 #[(0, Operand.tmp 19)], type := 25, pos := "l11_group.go:73", after := #[{ on := 7, ground := Ground.data }], guard := none }) rfl (fun Kx hK => ?_) AllReadyH.nil
        go_simp
        obtain ⟨z4, hz4⟩ : ∃ v, v = z3.alloc (.cells #[.slice (some ⟨x.1, 0, none⟩) x.2.2.l.length x.2.1, .int .i64 x.2.2.s, .int .i64 x.2.2.e, .string x.2.2.n] 29) := ⟨_, rfl⟩
        rw [← hz4]
        have hk : Kept c z3 z4 := by rw [hz4]; exact kept_bel (Go.Joins.below_alloc1 _ _)
        have hc : Cur z4 c := by rw [hz4]; exact HP3.out.cur.alloc _
        have HP4 : Hid (Pre w c gb A x by' z4) := HP3.out.keep hc hk
        have HK4 : Hid (OwnL (w.heap.size + 1) z4 K (projB x.2.2.l by')) := ownL_kept HK3.out hk (by have := HL.out; omega)
        have HO4 : Hid (Blk z4 z0.heap.size #[.int .i64 0, .slice none 0 0, .int .i64 0, .int .i64 0, .slice none 0 0] 27 ∧ w.heap.size < z0.heap.size) := ⟨blk_kept HO3.out.1 hk (by have := HL.out; have := HO3.out.2; omega), HO3.out.2⟩
        have HM4 : Hid (AB (w.heap.size + 1) z4 z3.heap.size 1 [x]) := AB.one (by rw [hz4]; exact Blk.new _ _ _) (by have := HP3.out.hA; omega) HP4.out.xo
        have HN4 : Hid (¬ blks z3.heap.size [x] K) := ne_one HK4.out HM4.out NX.out
        clear hz4 hk hc
        clear hHeld
        refine hK.out _ _ (HX.out _ HP4.out) (fun hHeld => ?_)
        clear hK Kx
        try simp only [Act.put, List.setIfInBounds_toArray, List.set_cons_zero, List.set_cons_succ]
        refine wpAnyH_ready (rs := [6]) (by kernel_rfl) (by simp) ?_
        refine AllReadyH.cons (o := { dst := some 18, op := Op.call { callee := Callee.value (Operand.func 55), args := #[Operand.tmp 17, Operand.const (Value.int IntKind.i64 5)], argTypes := #[80, 3] }, type := 3, pos := "l11_group.go:73", after := #[{ on := 5, ground := Ground.data }, { on := 4, ground := Ground.chain }], guard := none }) rfl (fun Kx hK => ?_) AllReadyH.nil
        go_simp
        refine (below_any c 5 _ HP4.out.cur (by decide) (by decide)).mono ?_
        rintro r z5 ⟨⟨b, rfl, h0, h1⟩, hc, hk⟩
        have FB : Hid (0 ≤ b ∧ b ≤ 4) := ⟨h0, by omega⟩
        have HP5 : Hid (Pre w c gb A x by' z5) := HP4.out.keep hc hk
        have HK5 : Hid (OwnL (w.heap.size + 1) z5 K (projB x.2.2.l by')) := ownL_kept HK4.out hk (by have := HL.out; omega)
        have HM5 : Hid (AB (w.heap.size + 1) z5 z3.heap.size 1 [x]) := ab_kept HM4.out hk (by have := HL.out; omega)
        have HO5 : Hid (Blk z5 z0.heap.size #[.int .i64 0, .slice none 0 0, .int .i64 0, .int .i64 0, .slice none 0 0] 27 ∧ w.heap.size < z0.heap.size) := ⟨blk_kept HO4.out.1 hk (by have := HL.out; have := HO4.out.2; omega), HO4.out.2⟩
        have HN5 : Hid (¬ blks z3.heap.size [x] K) := HN4.out
        clear h0 h1 hc hk
        try dsimp only
        clear hHeld
        refine hK.out _ _ (HX.out _ HP5.out) (fun hHeld => ?_)
        clear hK Kx
        try simp only [Act.put, List.setIfInBounds_toArray, List.set_cons_zero, List.set_cons_succ]
        refine wpAnyH_ready (rs := [9]) (by kernel_rfl) (by simp) ?_
        refine AllReadyH.cons (o := { dst := some 21, op := Op.build 27 #[(0, Operand.tmp 13), (1, Operand.tmp 16), (2, Operand.tmp 18), (3, Operand.const (Value.int IntKind.i64 (-1))), (4, Operand.tmp 20)], type := 27, pos := "l11_group.go:73", after := #[{ on := 1, ground := Ground.data }, { on := 4, ground := Ground.data }, { on := 6, ground := Ground.data }, { on := 8, ground := Ground.data }], guard := none }) rfl (fun Kx hK => ?_) AllReadyH.nil
        go_simp
        clear hHeld
        refine hK.out _ _ (HX.out _ HP5.out) (fun hHeld => ?_)
        clear hK Kx
        try simp only [Act.put, List.setIfInBounds_toArray, List.set_cons_zero, List.set_cons_succ]
        refine wpAnyH_ready (rs := [11]) (by kernel_rfl) (by simp) ?_
        refine AllReadyH.cons (o := { dst := none, op := Op.store 27 (Operand.tmp 6) (Operand.tmp 21), type := 0, pos := "l11_group.go:73", after := #[{ on := 10, ground := Ground.data }, { on := 9, ground := Ground.data }, { on := 6, ground := Ground.chain }, { on := 0, ground := Ground.phase }, { on := 1, ground := Ground.phase }, { on := 2, ground := Ground.phase }, { on := 3, ground := Ground.phase }, { on := 4, ground := Ground.phase }, { on := 5, ground := Ground.phase }, { on := 6, ground := Ground.phase }, { on := 7, ground := Ground.phase }, { on := 8, ground := Ground.phase }, { on := 9, ground := Ground.phase }, { on := 10, ground := Ground.phase }], guard := none }) rfl (fun Kx hK => ?_) AllReadyH.nil
        have n0' : z5.cell? ⟨z0.heap.size, 0, none⟩ = some (.int .i64 0) := HO5.out.1.cell 0
        have m0' := HO5.out.1.frozen 0
        have n1' : z5.cell? ⟨z0.heap.size, 1, none⟩ = some (.slice none 0 0) := HO5.out.1.cell 1
        have m1' := HO5.out.1.frozen 1
        have n2' : z5.cell? ⟨z0.heap.size, 2, none⟩ = some (.int .i64 0) := HO5.out.1.cell 2
        have m2' := HO5.out.1.frozen 2
        have n3' : z5.cell? ⟨z0.heap.size, 3, none⟩ = some (.int .i64 0) := HO5.out.1.cell 3
        have m3' := HO5.out.1.frozen 3
        have n4' : z5.cell? ⟨z0.heap.size, 4, none⟩ = some (.slice none 0 0) := HO5.out.1.cell 4
        have m4' := HO5.out.1.frozen 4
        go_simp
        clear n0' m0' n1' m1' n2' m2' n3' m3' n4' m4' hHeld
        have hz := HP5.out.put HO5.out.1 HO5.out.2 (.int .i64 n) (.slice (some ⟨K, 0, none⟩) (projB x.2.2.l by').length kc) (.int .i64 b) (.int .i64 (-1)) (.slice (some ⟨z3.heap.size, 0, none⟩) [x].length 1)
        refine hK.out _ _ (HX.out _ hz) (fun hHeld => ?_)
        clear hK hz
        try simp only [Act.put, List.setIfInBounds_toArray, List.set_cons_zero, List.set_cons_succ]
        refine wpAnyH_done (by kernel_rfl) ?_ _
        go_wp2_with fail
        go_meet
        exact ⟨_, n, b, K, kc, _, rfl, ⟨HP5.out.put HO5.out.1 HO5.out.2 _ _ _ _ _, put5 HO5.out.1 _ _ _ _ _, HO5.out.2, ownL_moved HK5.out (moved5 HO5.out.1 _ _ _ _ _), ab_movedX HM5.out (moved5 HO5.out.1 _ _ _ _ _), HN5.out, fun y hy => by rw [List.mem_singleton.1 (show y ∈ [x.2.2] from hy)]; exact HP5.out.xf⟩, FN.out, FB.out⟩
      refine AllReadyH.cons (o := { dst := some 20, op := Op.buildSlice 25 1 #[(0, Operand.tmp 19)], type := 25, pos := "l11_group.go:73", after := #[{ on := 7, ground := Ground.data }], guard := none }) rfl (fun Kx hK => ?_) AllReadyH.nil
      go_simp
      obtain ⟨z3, hz3⟩ : ∃ v, v = z2.alloc (.cells #[.slice (some ⟨x.1, 0, none⟩) x.2.2.l.length x.2.1, .int .i64 x.2.2.s, .int .i64 x.2.2.e, .string x.2.2.n] 29) := ⟨_, rfl⟩
      rw [← hz3]
      have hk : Kept c z2 z3 := by rw [hz3]; exact kept_bel (Go.Joins.below_alloc1 _ _)
      have hc : Cur z3 c := by rw [hz3]; exact HP2.out.cur.alloc _
      have HP3 : Hid (Pre w c gb A x by' z3) := HP2.out.keep hc hk
      have HO3 : Hid (Blk z3 z0.heap.size #[.int .i64 0, .slice none 0 0, .int .i64 0, .int .i64 0, .slice none 0 0] 27 ∧ w.heap.size < z0.heap.size) := ⟨blk_kept HO2.out.1 hk (by have := HL.out; have := HO2.out.2; omega), HO2.out.2⟩
      have HM3 : Hid (AB (w.heap.size + 1) z3 z2.heap.size 1 [x]) := AB.one (by rw [hz3]; exact Blk.new _ _ _) (by have := HP2.out.hA; omega) HP3.out.xo
      clear hz3 hk hc
      clear hHeld
      refine hK.out _ _ (HX.out _ HP3.out) (fun hHeld => ?_)
      clear hK Kx
      try simp only [Act.put, List.setIfInBounds_toArray, List.set_cons_zero, List.set_cons_succ]
      refine wpAnyH_ready (rs := [4]) (by kernel_rfl) (by simp) ?_
      refine AllReadyH.cons (o := { dst := some 16, op := Op.call { callee := Callee.value (Operand.func 75), args := #[Operand.tmp 14, Operand.tmp 15], argTypes := #[29, 39] }, type := 24, pos := "l11_group.go:73", after := #[{ on := 2, ground := Ground.data }, { on := 3, ground := Ground.data }, { on := 1, ground := Ground.chain }], guard := none }) rfl (fun Kx hK => ?_) AllReadyH.nil
      go_simp
      refine (Pro.specKey_any _ _ _ _ x.2.2.l x.2.2.s x.2.2.e x.2.2.n by' _ HP3.out.xo.reads HP3.out.names.rd (by have := HP3.out.xf.2; omega) HP3.out.bl).mono ?_
      rintro r z4 ⟨⟨K, kc, rfl, hO⟩, hb⟩
      have hk := kept_bel (c := c) hb
      have hc := cur_bel HP3.out.cur hb
      have HK4 : Hid (OwnL (w.heap.size + 1) z4 K (projB x.2.2.l by')) := ⟨Nat.le_trans (by have := HP3.out.hA; omega) hO.1, hO.2⟩
      have NX : Hid (K ≠ x.1) := fun e => by
        obtain ⟨_, _, ds, hx, _⟩ := HP3.out.xo
        have := hx.lt; have := hO.1; omega
      have HP4 : Hid (Pre w c gb A x by' z4) := HP3.out.keep hc hk
      have HM4 : Hid (AB (w.heap.size + 1) z4 z2.heap.size 1 [x]) := ab_kept HM3.out hk (by have := HL.out; omega)
      have HO4 : Hid (Blk z4 z0.heap.size #[.int .i64 0, .slice none 0 0, .int .i64 0, .int .i64 0, .slice none 0 0] 27 ∧ w.heap.size < z0.heap.size) := ⟨blk_kept HO3.out.1 hk (by have := HL.out; have := HO3.out.2; omega), HO3.out.2⟩
      have HN4 : Hid (¬ blks z2.heap.size [x] K) := ne_one HK4.out HM4.out NX.out
      clear hO hb hk hc
      try dsimp only
      clear hHeld
      refine hK.out _ _ (HX.out _ HP4.out) (fun hHeld => ?_)
      clear hK Kx
      try simp only [Act.put, List.setIfInBounds_toArray, List.set_cons_zero, List.set_cons_succ]
      refine wpAnyH_ready (rs := [6]) (by kernel_rfl) (by simp) ?_
      refine AllReadyH.cons (o := { dst := some 18, op := Op.call { callee := Callee.value (Operand.func 55), args := #[Operand.tmp 17, Operand.const (Value.int IntKind.i64 5)], argTypes := #[80, 3] }, type := 3, pos := "l11_group.go:73", after := #[{ on := 5, ground := Ground.data }, { on := 4, ground := Ground.chain }], guard := none }) rfl (fun Kx hK => ?_) AllReadyH.nil
      go_simp
      refine (below_any c 5 _ HP4.out.cur (by decide) (by decide)).mono ?_
      rintro r z5 ⟨⟨b, rfl, h0, h1⟩, hc, hk⟩
      have FB : Hid (0 ≤ b ∧ b ≤ 4) := ⟨h0, by omega⟩
      have HP5 : Hid (Pre w c gb A x by' z5) := HP4.out.keep hc hk
      have HK5 : Hid (OwnL (w.heap.size + 1) z5 K (projB x.2.2.l by')) := ownL_kept HK4.out hk (by have := HL.out; omega)
      have HM5 : Hid (AB (w.heap.size + 1) z5 z2.heap.size 1 [x]) := ab_kept HM4.out hk (by have := HL.out; omega)
      have HO5 : Hid (Blk z5 z0.heap.size #[.int .i64 0, .slice none 0 0, .int .i64 0, .int .i64 0, .slice none 0 0] 27 ∧ w.heap.size < z0.heap.size) := ⟨blk_kept HO4.out.1 hk (by have := HL.out; have := HO4.out.2; omega), HO4.out.2⟩
      have HN5 : Hid (¬ blks z2.heap.size [x] K) := HN4.out
      clear h0 h1 hc hk
      try dsimp only
      clear hHeld
      refine hK.out _ _ (HX.out _ HP5.out) (fun hHeld => ?_)
      clear hK Kx
      try simp only [Act.put, List.setIfInBounds_toArray, List.set_cons_zero, List.set_cons_succ]
      refine wpAnyH_ready (rs := [9]) (by kernel_rfl) (by simp) ?_
      refine AllReadyH.cons (o := { dst := some 21, op := Op.build 27 #[(0, Operand.tmp 13), (1, Operand.tmp 16), (2, Operand.tmp 18), (3, Operand.const (Value.int IntKind.i64 (-1))), (4, Operand.tmp 20)], type := 27, pos := "l11_group.go:73", after := #[{ on := 1, ground := Ground.data }, { on := 4, ground := Ground.data }, { on := 6, ground := Ground.data }, { on := 8, ground := Ground.data }], guard := none }) rfl (fun Kx hK => ?_) AllReadyH.nil
      go_simp
      clear hHeld
      refine hK.out _ _ (HX.out _ HP5.out) (fun hHeld => ?_)
      clear hK Kx
      try simp only [Act.put, List.setIfInBounds_toArray, List.set_cons_zero, List.set_cons_succ]
      refine wpAnyH_ready (rs := [11]) (by kernel_rfl) (by simp) ?_
      refine AllReadyH.cons (o := { dst := none, op := Op.store 27 (Operand.tmp 6) (Operand.tmp 21), type := 0, pos := "l11_group.go:73", after := #[{ on := 10, ground := Ground.data }, { on := 9, ground := Ground.data }, { on := 6, ground := Ground.chain }, { on := 0, ground := Ground.phase }, { on := 1, ground := Ground.phase }, { on := 2, ground := Ground.phase }, { on := 3, ground := Ground.phase }, { on := 4, ground := Ground.phase }, { on := 5, ground := Ground.phase }, { on := 6, ground := Ground.phase }, { on := 7, ground := Ground.phase }, { on := 8, ground := Ground.phase }, { on := 9, ground := Ground.phase }, { on := 10, ground := Ground.phase }], guard := none }) rfl (fun Kx hK => ?_) AllReadyH.nil
      have n0' : z5.cell? ⟨z0.heap.size, 0, none⟩ = some (.int .i64 0) := HO5.out.1.cell 0
      have m0' := HO5.out.1.frozen 0
      have n1' : z5.cell? ⟨z0.heap.size, 1, none⟩ = some (.slice none 0 0) := HO5.out.1.cell 1
      have m1' := HO5.out.1.frozen 1
      have n2' : z5.cell? ⟨z0.heap.size, 2, none⟩ = some (.int .i64 0) := HO5.out.1.cell 2
      have m2' := HO5.out.1.frozen 2
      have n3' : z5.cell? ⟨z0.heap.size, 3, none⟩ = some (.int .i64 0) := HO5.out.1.cell 3
      have m3' := HO5.out.1.frozen 3
      have n4' : z5.cell? ⟨z0.heap.size, 4, none⟩ = some (.slice none 0 0) := HO5.out.1.cell 4
      have m4' := HO5.out.1.frozen 4
      go_simp
      clear n0' m0' n1' m1' n2' m2' n3' m3' n4' m4' hHeld
      have hz := HP5.out.put HO5.out.1 HO5.out.2 (.int .i64 n) (.slice (some ⟨K, 0, none⟩) (projB x.2.2.l by').length kc) (.int .i64 b) (.int .i64 (-1)) (.slice (some ⟨z2.heap.size, 0, none⟩) [x].length 1)
      refine hK.out _ _ (HX.out _ hz) (fun hHeld => ?_)
      clear hK hz
      try simp only [Act.put, List.setIfInBounds_toArray, List.set_cons_zero, List.set_cons_succ]
      refine wpAnyH_done (by kernel_rfl) ?_ _
      go_wp2_with fail
      go_meet
      exact ⟨_, n, b, K, kc, _, rfl, ⟨HP5.out.put HO5.out.1 HO5.out.2 _ _ _ _ _, put5 HO5.out.1 _ _ _ _ _, HO5.out.2, ownL_moved HK5.out (moved5 HO5.out.1 _ _ _ _ _), ab_movedX HM5.out (moved5 HO5.out.1 _ _ _ _ _), HN5.out, fun y hy => by rw [List.mem_singleton.1 (show y ∈ [x.2.2] from hy)]; exact HP5.out.xf⟩, FN.out, FB.out⟩
    refine AllReadyH.cons (o := { dst := some 20, op := Op.buildSlice 25 1 #[(0, Operand.tmp 19)], type := 25, pos := "l11_group.go:73", after := #[{ on := 7, ground := Ground.data }], guard := none }) rfl (fun Kx hK => ?_) AllReadyH.nil
    go_simp
    obtain ⟨z2, hz2⟩ : ∃ v, v = z1.alloc (.cells #[.slice (some ⟨x.1, 0, none⟩) x.2.2.l.length x.2.1, .int .i64 x.2.2.s, .int .i64 x.2.2.e, .string x.2.2.n] 29) := ⟨_, rfl⟩
    rw [← hz2]
    have hk : Kept c z1 z2 := by rw [hz2]; exact kept_bel (Go.Joins.below_alloc1 _ _)
    have hc : Cur z2 c := by rw [hz2]; exact HP1.out.cur.alloc _
    have HP2 : Hid (Pre w c gb A x by' z2) := HP1.out.keep hc hk
    have HO2 : Hid (Blk z2 z0.heap.size #[.int .i64 0, .slice none 0 0, .int .i64 0, .int .i64 0, .slice none 0 0] 27 ∧ w.heap.size < z0.heap.size) := ⟨blk_kept HO1.out.1 hk (by have := HL.out; have := HO1.out.2; omega), HO1.out.2⟩
    have HM2 : Hid (AB (w.heap.size + 1) z2 z1.heap.size 1 [x]) := AB.one (by rw [hz2]; exact Blk.new _ _ _) (by have := HP1.out.hA; omega) HP2.out.xo
    clear hz2 hk hc
    clear hHeld
    refine hK.out _ _ (HX.out _ HP2.out) (fun hHeld => ?_)
    clear hK Kx
    try simp only [Act.put, List.setIfInBounds_toArray, List.set_cons_zero, List.set_cons_succ]
    refine wpAnyH_ready (rs := [1]) (by kernel_rfl) (by simp) ?_
    refine AllReadyH.cons (o := { dst := some 13, op := Op.call { callee := Callee.value (Operand.func 55), args := #[Operand.tmp 12, Operand.const (Value.int IntKind.i64 5)], argTypes := #[80, 3] }, type := 3, pos := "l11_group.go:73", after := #[{ on := 0, ground := Ground.data }], guard := none }) rfl (fun Kx hK => ?_) AllReadyH.nil
    go_simp
    refine (below_any c 5 _ HP2.out.cur (by decide) (by decide)).mono ?_
    rintro r z3 ⟨⟨n, rfl, h0, h1⟩, hc, hk⟩
    have FN : Hid (0 ≤ n ∧ n ≤ 4) := ⟨h0, by omega⟩
    have HP3 : Hid (Pre w c gb A x by' z3) := HP2.out.keep hc hk
    have HM3 : Hid (AB (w.heap.size + 1) z3 z1.heap.size 1 [x]) := ab_kept HM2.out hk (by have := HL.out; omega)
    have HO3 : Hid (Blk z3 z0.heap.size #[.int .i64 0, .slice none 0 0, .int .i64 0, .int .i64 0, .slice none 0 0] 27 ∧ w.heap.size < z0.heap.size) := ⟨blk_kept HO2.out.1 hk (by have := HL.out; have := HO2.out.2; omega), HO2.out.2⟩
    clear h0 h1 hc hk
    try dsimp only
    clear hHeld
    refine hK.out _ _ (HX.out _ HP3.out) (fun hHeld => ?_)
    clear hK Kx
    try simp only [Act.put, List.setIfInBounds_toArray, List.set_cons_zero, List.set_cons_succ]
    refine wpAnyH_ready (rs := [4]) (by kernel_rfl) (by simp) ?_
    refine AllReadyH.cons (o := { dst := some 16, op := Op.call { callee := Callee.value (Operand.func 75), args := #[Operand.tmp 14, Operand.tmp 15], argTypes := #[29, 39] }, type := 24, pos := "l11_group.go:73", after := #[{ on := 2, ground := Ground.data }, { on := 3, ground := Ground.data }, { on := 1, ground := Ground.chain }], guard := none }) rfl (fun Kx hK => ?_) AllReadyH.nil
    go_simp
    refine (Pro.specKey_any _ _ _ _ x.2.2.l x.2.2.s x.2.2.e x.2.2.n by' _ HP3.out.xo.reads HP3.out.names.rd (by have := HP3.out.xf.2; omega) HP3.out.bl).mono ?_
    rintro r z4 ⟨⟨K, kc, rfl, hO⟩, hb⟩
    have hk := kept_bel (c := c) hb
    have hc := cur_bel HP3.out.cur hb
    have HK4 : Hid (OwnL (w.heap.size + 1) z4 K (projB x.2.2.l by')) := ⟨Nat.le_trans (by have := HP3.out.hA; omega) hO.1, hO.2⟩
    have NX : Hid (K ≠ x.1) := fun e => by
      obtain ⟨_, _, ds, hx, _⟩ := HP3.out.xo
      have := hx.lt; have := hO.1; omega
    have HP4 : Hid (Pre w c gb A x by' z4) := HP3.out.keep hc hk
    have HM4 : Hid (AB (w.heap.size + 1) z4 z1.heap.size 1 [x]) := ab_kept HM3.out hk (by have := HL.out; omega)
    have HO4 : Hid (Blk z4 z0.heap.size #[.int .i64 0, .slice none 0 0, .int .i64 0, .int .i64 0, .slice none 0 0] 27 ∧ w.heap.size < z0.heap.size) := ⟨blk_kept HO3.out.1 hk (by have := HL.out; have := HO3.out.2; omega), HO3.out.2⟩
    have HN4 : Hid (¬ blks z1.heap.size [x] K) := ne_one HK4.out HM4.out NX.out
    clear hO hb hk hc
    try dsimp only
    clear hHeld
    refine hK.out _ _ (HX.out _ HP4.out) (fun hHeld => ?_)
    clear hK Kx
    try simp only [Act.put, List.setIfInBounds_toArray, List.set_cons_zero, List.set_cons_succ]
    refine wpAnyH_ready (rs := [6]) (by kernel_rfl) (by simp) ?_
    refine AllReadyH.cons (o := { dst := some 18, op := Op.call { callee := Callee.value (Operand.func 55), args := #[Operand.tmp 17, Operand.const (Value.int IntKind.i64 5)], argTypes := #[80, 3] }, type := 3, pos := "l11_group.go:73", after := #[{ on := 5, ground := Ground.data }, { on := 4, ground := Ground.chain }], guard := none }) rfl (fun Kx hK => ?_) AllReadyH.nil
    go_simp
    refine (below_any c 5 _ HP4.out.cur (by decide) (by decide)).mono ?_
    rintro r z5 ⟨⟨b, rfl, h0, h1⟩, hc, hk⟩
    have FB : Hid (0 ≤ b ∧ b ≤ 4) := ⟨h0, by omega⟩
    have HP5 : Hid (Pre w c gb A x by' z5) := HP4.out.keep hc hk
    have HK5 : Hid (OwnL (w.heap.size + 1) z5 K (projB x.2.2.l by')) := ownL_kept HK4.out hk (by have := HL.out; omega)
    have HM5 : Hid (AB (w.heap.size + 1) z5 z1.heap.size 1 [x]) := ab_kept HM4.out hk (by have := HL.out; omega)
    have HO5 : Hid (Blk z5 z0.heap.size #[.int .i64 0, .slice none 0 0, .int .i64 0, .int .i64 0, .slice none 0 0] 27 ∧ w.heap.size < z0.heap.size) := ⟨blk_kept HO4.out.1 hk (by have := HL.out; have := HO4.out.2; omega), HO4.out.2⟩
    have HN5 : Hid (¬ blks z1.heap.size [x] K) := HN4.out
    clear h0 h1 hc hk
    try dsimp only
    clear hHeld
    refine hK.out _ _ (HX.out _ HP5.out) (fun hHeld => ?_)
    clear hK Kx
    try simp only [Act.put, List.setIfInBounds_toArray, List.set_cons_zero, List.set_cons_succ]
    refine wpAnyH_ready (rs := [9]) (by kernel_rfl) (by simp) ?_
    refine AllReadyH.cons (o := { dst := some 21, op := Op.build 27 #[(0, Operand.tmp 13), (1, Operand.tmp 16), (2, Operand.tmp 18), (3, Operand.const (Value.int IntKind.i64 (-1))), (4, Operand.tmp 20)], type := 27, pos := "l11_group.go:73", after := #[{ on := 1, ground := Ground.data }, { on := 4, ground := Ground.data }, { on := 6, ground := Ground.data }, { on := 8, ground := Ground.data }], guard := none }) rfl (fun Kx hK => ?_) AllReadyH.nil
    go_simp
    clear hHeld
    refine hK.out _ _ (HX.out _ HP5.out) (fun hHeld => ?_)
    clear hK Kx
    try simp only [Act.put, List.setIfInBounds_toArray, List.set_cons_zero, List.set_cons_succ]
    refine wpAnyH_ready (rs := [11]) (by kernel_rfl) (by simp) ?_
    refine AllReadyH.cons (o := { dst := none, op := Op.store 27 (Operand.tmp 6) (Operand.tmp 21), type := 0, pos := "l11_group.go:73", after := #[{ on := 10, ground := Ground.data }, { on := 9, ground := Ground.data }, { on := 6, ground := Ground.chain }, { on := 0, ground := Ground.phase }, { on := 1, ground := Ground.phase }, { on := 2, ground := Ground.phase }, { on := 3, ground := Ground.phase }, { on := 4, ground := Ground.phase }, { on := 5, ground := Ground.phase }, { on := 6, ground := Ground.phase }, { on := 7, ground := Ground.phase }, { on := 8, ground := Ground.phase }, { on := 9, ground := Ground.phase }, { on := 10, ground := Ground.phase }], guard := none }) rfl (fun Kx hK => ?_) AllReadyH.nil
    have n0' : z5.cell? ⟨z0.heap.size, 0, none⟩ = some (.int .i64 0) := HO5.out.1.cell 0
    have m0' := HO5.out.1.frozen 0
    have n1' : z5.cell? ⟨z0.heap.size, 1, none⟩ = some (.slice none 0 0) := HO5.out.1.cell 1
    have m1' := HO5.out.1.frozen 1
    have n2' : z5.cell? ⟨z0.heap.size, 2, none⟩ = some (.int .i64 0) := HO5.out.1.cell 2
    have m2' := HO5.out.1.frozen 2
    have n3' : z5.cell? ⟨z0.heap.size, 3, none⟩ = some (.int .i64 0) := HO5.out.1.cell 3
    have m3' := HO5.out.1.frozen 3
    have n4' : z5.cell? ⟨z0.heap.size, 4, none⟩ = some (.slice none 0 0) := HO5.out.1.cell 4
    have m4' := HO5.out.1.frozen 4
    go_simp
    clear n0' m0' n1' m1' n2' m2' n3' m3' n4' m4' hHeld
    have hz := HP5.out.put HO5.out.1 HO5.out.2 (.int .i64 n) (.slice (some ⟨K, 0, none⟩) (projB x.2.2.l by').length kc) (.int .i64 b) (.int .i64 (-1)) (.slice (some ⟨z1.heap.size, 0, none⟩) [x].length 1)
    refine hK.out _ _ (HX.out _ hz) (fun hHeld => ?_)
    clear hK hz
    try simp only [Act.put, List.setIfInBounds_toArray, List.set_cons_zero, List.set_cons_succ]
    refine wpAnyH_done (by kernel_rfl) ?_ _
    go_wp2_with fail
    go_meet
    exact ⟨_, n, b, K, kc, _, rfl, ⟨HP5.out.put HO5.out.1 HO5.out.2 _ _ _ _ _, put5 HO5.out.1 _ _ _ _ _, HO5.out.2, ownL_moved HK5.out (moved5 HO5.out.1 _ _ _ _ _), ab_movedX HM5.out (moved5 HO5.out.1 _ _ _ _ _), HN5.out, fun y hy => by rw [List.mem_singleton.1 (show y ∈ [x.2.2] from hy)]; exact HP5.out.xf⟩, FN.out, FB.out⟩
  case rest =>
    obtain ⟨G, n, b, K0, kc0, M0, rfl, hst, hn, hb⟩ := hcut
    obtain ⟨wx, hwc⟩ : ∃ x, x = wc := ⟨_, rfl⟩
    subst hwc
    have HG0 : Hid (GSt w c gb A G x by' n b (projB x.2.2.l by') wx K0 kc0 M0 1 [x]) := hst
    have HNB : Hid ((0 ≤ n ∧ n ≤ 4) ∧ (0 ≤ b ∧ b ≤ 4)) := ⟨hn, hb⟩
    have HKF : Hid (KeyF (projB x.2.2.l by')) := ⟨fits_proj HG0.out.pre.xf.1.fits, Nat.le_trans (Pro.proj_len _ _) HG0.out.pre.xf.2⟩
    clear hst hn hb HX HP HC HB
    generalize projB x.2.2.l by' = key at HG0 HKF ⊢
    go_wp2_with fail
    refine (below_any c 8 _ HG0.out.pre.cur (by decide) (by decide)).mono ?_
    rintro r w2 ⟨⟨j0, rfl, hj0, hj1⟩, hc2, hk2⟩
    have HG1 : Hid (GSt w c gb A G x by' n b key w2 K0 kc0 M0 1 [x]) := HG0.out.keep hc2 hk2
    have HJ : Hid (0 ≤ j0 ∧ j0 ≤ 7) := ⟨hj0, by omega⟩
    clear hc2 hk2 hj0 hj1 HG0
    go_wp2
    go_loopw [7] (fun i wr => ∃ (j : Int) (K kc M cap : Nat) (rs : List ARow), i = .int .i64 j ∧ 0 ≤ j ∧ j ≤ 7 ∧ GSt w c gb A G x by' n b key wr K kc M cap rs ∧ (rs.length : Int) + j ≤ 8) (fun i _ => (intOf i).toNat)
    case atStart => exact ⟨j0, K0, kc0, M0, 1, [x], rfl, HJ.out.1, HJ.out.2, HG1.out, by have := HJ.out.2; simp; omega⟩
    case round =>
      clear HG1 HJ
      obtain ⟨j, K, kc, M, cap, rs, rfl, hj1, hj2, hst, hle⟩ := hrel
      have HS : Hid (GSt w c gb A G x by' n b key wr K kc M cap rs) := hst
      have HR : Hid ((rs.length : Int) + j ≤ 8) := hle
      clear hst hle
      by_cases hj : 0 < j
      · have hj' : (j > 0) := hj
        go_wp2_with fail
        refine (l4Draw_any c _ HS.out.pre.cur).mono ?_
        rintro r w1 ⟨g, cp, p, s, e, t, rfl, hst, hp, hs, he, hn⟩
        have HS1 : Hid (GSt w c gb A G x by' n b key w1 K kc M cap rs) := HS.out.keep hst.cur hst.kept
        have HY1 : Hid (OwnA (w.heap.size + 1) w1 (g, cp, ⟨p, s, e, t⟩) ∧ Fine ⟨p, s, e, t⟩) := ⟨(own_lst hst hp).down (by have := HS.out.pre.hA; omega), fine_of hp hst.fit hs he hn⟩
        clear hst hp hs he hn
        have a0 : (w1.alloc (.cells #[.slice (some ⟨g, 0, none⟩) p.length cp, .int .i64 s, .int .i64 e, .string t] 29)).cell? ⟨A, 0, none⟩ = some (.slice (some ⟨x.1, 0, none⟩) x.2.2.l.length x.2.1) := (HS1.out.pre.bA.alloc _).cell 0
        have a1 : (w1.alloc (.cells #[.slice (some ⟨g, 0, none⟩) p.length cp, .int .i64 s, .int .i64 e, .string t] 29)).cell? ⟨A, 1, none⟩ = some (.int .i64 x.2.2.s) := (HS1.out.pre.bA.alloc _).cell 1
        have a2 : (w1.alloc (.cells #[.slice (some ⟨g, 0, none⟩) p.length cp, .int .i64 s, .int .i64 e, .string t] 29)).cell? ⟨A, 2, none⟩ = some (.int .i64 x.2.2.e) := (HS1.out.pre.bA.alloc _).cell 2
        have a3 : (w1.alloc (.cells #[.slice (some ⟨g, 0, none⟩) p.length cp, .int .i64 s, .int .i64 e, .string t] 29)).cell? ⟨A, 3, none⟩ = some (.string x.2.2.n) := (HS1.out.pre.bA.alloc _).cell 3
        go_wp2_with fail
        refine (Tog.specTog_any _ _ _ _ _ _ x.2.2.l p x.2.2.s x.2.2.e s e x.2.2.n t by' _ ((HS1.out.pre.grow (Go.Joins.below_alloc1 w1 _)).xo.reads) ((HY1.out.1.grow (Go.Joins.below_alloc1 w1 _)).reads) ((HS1.out.pre.grow (Go.Joins.below_alloc1 w1 _)).names.rd) (by have := HS1.out.pre.xf.2; omega) (Nat.le_trans HY1.out.2.2 (by omega)) HS1.out.pre.bl).mono ?_
        rintro r w2 ⟨rfl, hb⟩
        have HS2 : Hid (GSt w c gb A G x by' n b key w2 K kc M cap rs) := (HS1.out.grow (Go.Joins.below_alloc1 w1 _)).grow hb
        have HY2 : Hid (OwnA (w.heap.size + 1) w2 (g, cp, ⟨p, s, e, t⟩) ∧ Fine ⟨p, s, e, t⟩) := ⟨(HY1.out.1.grow (Go.Joins.below_alloc1 w1 _)).grow hb, HY1.out.2⟩
        have HB2 : Hid (Blk w2 w1.heap.size #[.slice (some ⟨g, 0, none⟩) p.length cp, .int .i64 s, .int .i64 e, .string t] 29) := (Blk.new _ _ _).grow hb
        clear hb a0 a1 a2 a3 HS1 HY1
        generalize w1.heap.size = B at HB2 ⊢
        by_cases ht : togB x.2.2.l p by' = true
        · skip
          have o0 : w2.cell? ⟨G, 0, none⟩ = some (.int .i64 n) := HS2.out.bO.cell 0
          have o1 : w2.cell? ⟨G, 1, none⟩ = some (.slice (some ⟨K, 0, none⟩) key.length kc) := HS2.out.bO.cell 1
          have o2 : w2.cell? ⟨G, 2, none⟩ = some (.int .i64 b) := HS2.out.bO.cell 2
          have o3 : w2.cell? ⟨G, 3, none⟩ = some (.int .i64 (-1)) := HS2.out.bO.cell 3
          have o4 : w2.cell? ⟨G, 4, none⟩ = some (.slice (some ⟨M, 0, none⟩) rs.length cap) := HS2.out.bO.cell 4
          have y0 : w2.cell? ⟨B, 0, none⟩ = some (.slice (some ⟨g, 0, none⟩) p.length cp) := HB2.out.cell 0
          have y1 : w2.cell? ⟨B, 1, none⟩ = some (.int .i64 s) := HB2.out.cell 1
          have y2 : w2.cell? ⟨B, 2, none⟩ = some (.int .i64 e) := HB2.out.cell 2
          have y3 : w2.cell? ⟨B, 3, none⟩ = some (.string t) := HB2.out.cell 3
          go_wp2_with fail
          refine (joinR n b (-1) K kc key M cap rs g cp ⟨p, s, e, t⟩ w2 HS2.out.key.rd (by have := HKF.out.2; omega) HS2.out.row.rd (by have := HR.out; omega) HS2.out.fine.lens HS2.out.row.cap HY2.out.1.reads (Nat.le_trans HY2.out.2.2 (by omega))).mono ?_
          rintro r w3 ⟨⟨K', kc', M', cap', rs', rfl, hG, hA, hP⟩, hb⟩
          have HS3 : Hid (GSt w c gb A G x by' n b key w3 K kc M cap rs) := HS2.out.grow hb
          have hlo : w.heap.size + 1 ≤ w2.heap.size := by have := HS2.out.pre.hA; omega
          have HN3 : Hid (OwnL (w.heap.size + 1) w3 K' key ∧ AB (w.heap.size + 1) w3 M' cap' rs' ∧ ¬ blks M' rs' K' ∧ Fines (pals rs') ∧ rs'.length ≤ rs.length + 1) := ⟨hG.key.down hlo, hA.down hlo, hG.ne, by rw [hP]; exact fines_join HS2.out.fine HY2.out.2, by have h := join_len (pals rs) ⟨p, s, e, t⟩; rw [← hP, Rws.pals_len, Rws.pals_len] at h; exact h⟩
          clear hG hA hP hb hlo o0 o1 o2 o3 o4 y0 y1 y2 y3
          go_upto_region 9 with fail
          obtain ⟨w4, hw4⟩ : ∃ v, v = w3.alloc (.cells #[.int .i64 n, .slice (some ⟨K', 0, none⟩) key.length kc', .int .i64 b, .int .i64 (-1), .slice (some ⟨M', 0, none⟩) rs'.length cap'] 27) := ⟨_, rfl⟩
          rw [← hw4]
          have HX4 : Hid (Blk w4 w3.heap.size #[.int .i64 n, .slice (some ⟨K', 0, none⟩) key.length kc', .int .i64 b, .int .i64 (-1), .slice (some ⟨M', 0, none⟩) rs'.length cap'] 27) := by rw [hw4]; exact Blk.new _ _ _
          have HS4 : Hid (GSt w c gb A G x by' n b key w4 K kc M cap rs) := by rw [hw4]; exact HS3.out.grow (Go.Joins.below_alloc1 w3 _)
          have HN4 : Hid (OwnL (w.heap.size + 1) w4 K' key ∧ AB (w.heap.size + 1) w4 M' cap' rs') := by rw [hw4]; exact ⟨HN3.out.1.grow (Go.Joins.below_alloc1 w3 _), HN3.out.2.1.grow (Go.Joins.below_alloc1 w3 _)⟩
          clear hw4
          generalize w3.heap.size = X at HX4 ⊢
          have q0 : w4.cell? ⟨X, 0, none⟩ = some (.int .i64 n) := HX4.out.cell 0
          have q1 : w4.cell? ⟨X, 1, none⟩ = some (.slice (some ⟨K', 0, none⟩) key.length kc') := HX4.out.cell 1
          have q2 : w4.cell? ⟨X, 2, none⟩ = some (.int .i64 b) := HX4.out.cell 2
          have q3 : w4.cell? ⟨X, 3, none⟩ = some (.int .i64 (-1)) := HX4.out.cell 3
          have q4 : w4.cell? ⟨X, 4, none⟩ = some (.slice (some ⟨M', 0, none⟩) rs'.length cap') := HX4.out.cell 4
          have o0 : w4.cell? ⟨G, 0, none⟩ = some (.int .i64 n) := HS4.out.bO.cell 0
          have fo0 := HS4.out.bO.frozen 0
          have o1 : w4.cell? ⟨G, 1, none⟩ = some (.slice (some ⟨K, 0, none⟩) key.length kc) := HS4.out.bO.cell 1
          have fo1 := HS4.out.bO.frozen 1
          have o2 : w4.cell? ⟨G, 2, none⟩ = some (.int .i64 b) := HS4.out.bO.cell 2
          have fo2 := HS4.out.bO.frozen 2
          have o3 : w4.cell? ⟨G, 3, none⟩ = some (.int .i64 (-1)) := HS4.out.bO.cell 3
          have fo3 := HS4.out.bO.frozen 3
          have o4 : w4.cell? ⟨G, 4, none⟩ = some (.slice (some ⟨M, 0, none⟩) rs.length cap) := HS4.out.bO.cell 4
          have fo4 := HS4.out.bO.frozen 4
          go_wp2
          go_roundw
          case rel => exact ⟨j - 1, K', kc', M', cap', rs', by go_num, by omega, by omega, HS4.out.put HN4.out.1 HN4.out.2 HN3.out.2.2.1 HN3.out.2.2.2.1, by have := HR.out; have := HN3.out.2.2.2.2; omega⟩
          case measure => simp [intOf]; omega
        · have ht' : togB x.2.2.l p by' = false := by simpa using ht
          go_wp2
          go_roundw
          case rel => exact ⟨j - 1, K, kc, M, cap, rs, by go_num, by omega, by omega, HS2.out, by have := HR.out; omega⟩
          case measure => simp [intOf]; omega
      · have hj' : ¬ (j > 0) := by omega
        have H8 : Hid (rs.length ≤ 8) := by have := HR.out; unfold Hid; omega
        go_wp2_with fail
        refine (once_any c 2 _ HS.out.pre.cur (by decide) (by decide)).mono ?_
        rintro r w1 ⟨⟨f, rfl⟩, hc1, hk1⟩
        have HS1 : Hid (GSt w c gb A G x by' n b key w1 K kc M cap rs) := HS.out.keep hc1 hk1
        clear hc1 hk1 HS
        cases f with
        | false =>
          have o0 : w1.cell? ⟨G, 0, none⟩ = some (.int .i64 n) := HS1.out.bO.cell 0
          have o1 : w1.cell? ⟨G, 1, none⟩ = some (.slice (some ⟨K, 0, none⟩) key.length kc) := HS1.out.bO.cell 1
          have o2 : w1.cell? ⟨G, 2, none⟩ = some (.int .i64 b) := HS1.out.bO.cell 2
          have o3 : w1.cell? ⟨G, 3, none⟩ = some (.int .i64 (-1)) := HS1.out.bO.cell 3
          have o4 : w1.cell? ⟨G, 4, none⟩ = some (.slice (some ⟨M, 0, none⟩) rs.length cap) := HS1.out.bO.cell 4
          have r0 : w1.cell? ⟨w.heap.size, 0, none⟩ = some (.int .i64 0) := HS1.out.pre.bR.cell 0
          have fr0 := HS1.out.pre.bR.frozen 0
          have r1 : w1.cell? ⟨w.heap.size, 1, none⟩ = some (.slice none 0 0) := HS1.out.pre.bR.cell 1
          have fr1 := HS1.out.pre.bR.frozen 1
          have r2 : w1.cell? ⟨w.heap.size, 2, none⟩ = some (.int .i64 0) := HS1.out.pre.bR.cell 2
          have fr2 := HS1.out.pre.bR.frozen 2
          have r3 : w1.cell? ⟨w.heap.size, 3, none⟩ = some (.int .i64 0) := HS1.out.pre.bR.cell 3
          have fr3 := HS1.out.pre.bR.frozen 3
          have r4 : w1.cell? ⟨w.heap.size, 4, none⟩ = some (.slice none 0 0) := HS1.out.pre.bR.cell 4
          have fr4 := HS1.out.pre.bR.frozen 4
          have hs := put5 HS1.out.pre.bR (.int .i64 n) (.slice (some ⟨K, 0, none⟩) key.length kc) (.int .i64 b) (.int .i64 (-1)) (.slice (some ⟨M, 0, none⟩) rs.length cap)
          have s0 := hs.cell 0
          have s1 := hs.cell 1
          have s2 := hs.cell 2
          have s3 := hs.cell 3
          have s4 := hs.cell 4
          go_wp2
          refine bodyPost_ret (v := .agg #[.int .i64 n, .slice (some ⟨K, 0, none⟩) key.length kc, .int .i64 b, .int .i64 (-1), .slice (some ⟨M, 0, none⟩) rs.length cap]) (by simp [results, Try.results65, go_sem, s0, s1, s2, s3, s4]) rfl ?_
          exact ⟨n, b, (-1), K, kc, M, cap, key, rs, rfl, HS1.out.dg.set5 HS1.out.pre.bR (Nat.le_refl _) _ _ _ _ _, ⟨HNB.out.1, HNB.out.2, by omega, by omega⟩, HKF.out, H8.out⟩
        | true =>
          go_wp2
          have hd : GSt w c gb A G x by' n b key w1.drew K kc M cap rs := HS1.out.keep (Cur.drewN HS1.out.pre.cur 1) (kept_bel (Below.refl _ _).drew)
          have kz : w1.drew.cell? ⟨G, 2, none⟩ = some (.int .i64 b) := hd.bO.cell 2
          have HKe : Hid (∀ w4, Cur w4 c → Kept c w1.drew w4 → GSt w c gb A G x by' n b key w4 K kc M cap rs) := fun w4 hc hk => hd.keep hc hk
          have HI : Hid (Calls Try.prog 55 #[.pointer (some ⟨c, 0, none⟩), .int .i64 9] w1.drew fun e w' => (∃ x : Int, e = .returned (.int .i64 x) ∧ 0 ≤ x ∧ x < 9) ∧ Cur w' c ∧ Kept c w1.drew w') := below_any c 9 _ hd.pre.cur (by decide) (by decide)
          clear hd
          go_region_held3 (fun w' => w'.cell? ⟨G, 2, none⟩ = some (.int .i64 b)) (first | exact kz | exact hA4.cell 2 | exact (hA4.set 3 _).cell 2 | (go_keep; done)) (first
            | (go_at_call 55; (with_reducible refine HI.out.mono ?_); rintro r w4 ⟨⟨d, rfl, hd0, hd1⟩, hc4, hk4⟩; (have hG4 := HKe.out w4 hc4 hk4); (have hA4 := hG4.bO); (have n3 : w4.cell? ⟨G, 3, none⟩ = some (.int .i64 (-1)) := hA4.cell 3); (have f3 := hA4.frozen 3)))
          have HE : Hid (-1 ≤ IntKind.i64.wrap (b + d) ∧ IntKind.i64.wrap (b + d) ≤ 12) := by have := HNB.out.2; rw [IntKind.wrap_i64]; unfold Hid; omega
          have H4 : Hid (GSt w c gb A G x by' n b key w4 K kc M cap rs) := hG4
          clear hG4 hA4 n3 f3 hc4 hk4 hd0 hd1 kz HKe HI
          generalize IntKind.i64.wrap (b + d) = t at HE ⊢
          obtain ⟨w5, hw5⟩ : ∃ v, v = w4.setCell ⟨G, 3, none⟩ (.int .i64 t) := ⟨_, rfl⟩
          rw [← hw5]
          have H5 : Hid (DG w c w5 K M cap key rs) := by rw [hw5]; exact H4.out.dg.set1 H4.out.bO (Nat.le_of_lt H4.out.hO) _ _
          have HO5 : Hid (Blk w5 G #[.int .i64 n, .slice (some ⟨K, 0, none⟩) key.length kc, .int .i64 b, .int .i64 t, .slice (some ⟨M, 0, none⟩) rs.length cap] 27) := by rw [hw5]; exact H4.out.bO.set 3 _
          have HR5 : Hid (Blk w5 w.heap.size #[.int .i64 0, .slice none 0 0, .int .i64 0, .int .i64 0, .slice none 0 0] 27) := by rw [hw5]; exact H4.out.pre.bR.set_other (p := ⟨G, 3, none⟩) (by have := H4.out.hO; show G ≠ _; omega) _
          clear hw5 H4
          have o0 : w5.cell? ⟨G, 0, none⟩ = some (.int .i64 n) := HO5.out.cell 0
          have o1 : w5.cell? ⟨G, 1, none⟩ = some (.slice (some ⟨K, 0, none⟩) key.length kc) := HO5.out.cell 1
          have o2 : w5.cell? ⟨G, 2, none⟩ = some (.int .i64 b) := HO5.out.cell 2
          have o3 : w5.cell? ⟨G, 3, none⟩ = some (.int .i64 t) := HO5.out.cell 3
          have o4 : w5.cell? ⟨G, 4, none⟩ = some (.slice (some ⟨M, 0, none⟩) rs.length cap) := HO5.out.cell 4
          have r0 : w5.cell? ⟨w.heap.size, 0, none⟩ = some (.int .i64 0) := HR5.out.cell 0
          have fr0 := HR5.out.frozen 0
          have r1 : w5.cell? ⟨w.heap.size, 1, none⟩ = some (.slice none 0 0) := HR5.out.cell 1
          have fr1 := HR5.out.frozen 1
          have r2 : w5.cell? ⟨w.heap.size, 2, none⟩ = some (.int .i64 0) := HR5.out.cell 2
          have fr2 := HR5.out.frozen 2
          have r3 : w5.cell? ⟨w.heap.size, 3, none⟩ = some (.int .i64 0) := HR5.out.cell 3
          have fr3 := HR5.out.frozen 3
          have r4 : w5.cell? ⟨w.heap.size, 4, none⟩ = some (.slice none 0 0) := HR5.out.cell 4
          have fr4 := HR5.out.frozen 4
          have hs := put5 HR5.out (.int .i64 n) (.slice (some ⟨K, 0, none⟩) key.length kc) (.int .i64 b) (.int .i64 t) (.slice (some ⟨M, 0, none⟩) rs.length cap)
          have s0 := hs.cell 0
          have s1 := hs.cell 1
          have s2 := hs.cell 2
          have s3 := hs.cell 3
          have s4 := hs.cell 4
          go_wp2
          refine bodyPost_ret (v := .agg #[.int .i64 n, .slice (some ⟨K, 0, none⟩) key.length kc, .int .i64 b, .int .i64 t, .slice (some ⟨M, 0, none⟩) rs.length cap]) (by simp [results, Try.results65, go_sem, s0, s1, s2, s3, s4]) rfl ?_
          exact ⟨n, b, t, K, kc, M, cap, key, rs, rfl, H5.out.set5 HR5.out (Nat.le_refl _) _ _ _ _ _, ⟨HNB.out.1, HNB.out.2, HE.out.1, HE.out.2⟩, HKF.out, H8.out⟩
end Go.Proofs.Ytekcmpjjfnijmaa.GrpW
namespace Go.Proofs.Ytekcmpjjfnijmaa.GrpX
open Go.RowKit
open Draw
open Labs LabS Over Blk App DrawL DrawT Alms AlmM DrawA DrawB Rws ChnI ChnC ChnP ChnK DrawC Grp GrpJ GrpW Chs
open LabT (Held held_reads Fits)

structure HSt (w : World) (c X : Nat) (n b t : Int) (key : List Lab) (W : World) (K kc M cap : Nat) (rs : List ARow) : Prop where
  dg : DG w c W K M cap key rs
  bR : Blk W w.heap.size #[.int .i64 0, .slice none 0 0, .int .i64 0, .int .i64 0, .slice none 0 0] 27
  bO : Blk W X #[.int .i64 n, .slice (some ⟨K, 0, none⟩) key.length kc, .int .i64 b, .int .i64 t, .slice (some ⟨M, 0, none⟩) rs.length cap] 27
  hX : w.heap.size < X
theorem HSt.keep {w : World} {c X : Nat} {n b t : Int} {key : List Lab} {W : World} {K kc M cap : Nat} {rs : List ARow} (h : HSt w c X n b t key W K kc M cap rs) {W' : World} (hc : Cur W' c) (hk : Kept c W W') : HSt w c X n b t key W' K kc M cap rs := by
  have h0 := h.dg.clt; have h1 := h.hX
  exact ⟨⟨hc, h.dg.kept.trans hk, h0, ownL_kept h.dg.key hk (by omega), ab_kept h.dg.row hk (by omega), h.dg.ne, h.dg.fine⟩, blk_kept h.bR hk (by omega), blk_kept h.bO hk (by omega), h1⟩
theorem HSt.grow {w : World} {c X : Nat} {n b t : Int} {key : List Lab} {W : World} {K kc M cap : Nat} {rs : List ARow} (h : HSt w c X n b t key W K kc M cap rs) {W' : World} (hb : Below W.heap.size W W') : HSt w c X n b t key W' K kc M cap rs := h.keep (cur_bel h.dg.cur hb) (kept_bel hb)
theorem HSt.setN {w : World} {c X : Nat} {n b t : Int} {key : List Lab} {W : World} {K kc M cap : Nat} {rs : List ARow} (h : HSt w c X n b t key W K kc M cap rs) (v : Int) : HSt w c X v b t key (W.setCell ⟨X, 0, none⟩ (.int .i64 v)) K kc M cap rs :=
  ⟨h.dg.set1 h.bO (Nat.le_of_lt h.hX) _ _, h.bR.set_other (p := ⟨X, 0, none⟩) (by have := h.hX; show X ≠ _; omega) _, h.bO.set 0 _, h.hX⟩
theorem HSt.setB {w : World} {c X : Nat} {n b t : Int} {key : List Lab} {W : World} {K kc M cap : Nat} {rs : List ARow} (h : HSt w c X n b t key W K kc M cap rs) (v : Int) : HSt w c X n v t key (W.setCell ⟨X, 2, none⟩ (.int .i64 v)) K kc M cap rs :=
  ⟨h.dg.set1 h.bO (Nat.le_of_lt h.hX) _ _, h.bR.set_other (p := ⟨X, 2, none⟩) (by have := h.hX; show X ≠ _; omega) _, h.bO.set 2 _, h.hX⟩
theorem HSt.setT {w : World} {c X : Nat} {n b t : Int} {key : List Lab} {W : World} {K kc M cap : Nat} {rs : List ARow} (h : HSt w c X n b t key W K kc M cap rs) (v : Int) : HSt w c X n b v key (W.setCell ⟨X, 3, none⟩ (.int .i64 v)) K kc M cap rs :=
  ⟨h.dg.set1 h.bO (Nat.le_of_lt h.hX) _ _, h.bR.set_other (p := ⟨X, 3, none⟩) (by have := h.hX; show X ≠ _; omega) _, h.bO.set 3 _, h.hX⟩
theorem HSt.setK {w : World} {c X : Nat} {n b t : Int} {key : List Lab} {W : World} {K kc M cap : Nat} {rs : List ARow} (h : HSt w c X n b t key W K kc M cap rs) {K' kc' : Nat} {key' : List Lab} (hk : OwnL (w.heap.size + 1) W K' key') (hn : ¬ blks M rs K') : HSt w c X n b t key' (W.setCell ⟨X, 1, none⟩ (.slice (some ⟨K', 0, none⟩) key'.length kc')) K' kc' M cap rs := by
  have hd := h.dg.set1 h.bO (Nat.le_of_lt h.hX) 1 (.slice (some ⟨K', 0, none⟩) key'.length kc')
  exact ⟨⟨hd.cur, hd.kept, hd.clt, ownL_moved hk (Moved.set h.bO (by decide) (by decide) 1 _), hd.row, hn, hd.fine⟩, h.bR.set_other (p := ⟨X, 1, none⟩) (by have := h.hX; show X ≠ _; omega) _, h.bO.set 1 _, h.hX⟩
theorem set4_of {w : World} {c X : Nat} {n b t : Int} {key : List Lab} {W : World} {K kc M cap M' cap' : Nat} {ln : Nat} {rs' : List ARow} (hc : Cur W c) (hk : Kept c w W) (hl : c < w.heap.size) (hR : Blk W w.heap.size #[.int .i64 0, .slice none 0 0, .int .i64 0, .int .i64 0, .slice none 0 0] 27) (hO : Blk W X #[.int .i64 n, .slice (some ⟨K, 0, none⟩) key.length kc, .int .i64 b, .int .i64 t, .slice (some ⟨M, 0, none⟩) ln cap] 27) (hX : w.heap.size < X) (hK : OwnL (w.heap.size + 1) W K key) (hA : AB (w.heap.size + 1) W M' cap' rs') (hn : ¬ blks M' rs' K) (hf : Fines (pals rs')) :
    HSt w c X n b t key (W.setCell ⟨X, 4, none⟩ (.slice (some ⟨M', 0, none⟩) rs'.length cap')) K kc M' cap' rs' := by
  have hm := Moved.set hO (by decide) (by decide) 4 (.slice (some ⟨M', 0, none⟩) rs'.length cap')
  exact ⟨⟨cur_set hc (by omega) _ _, DrawC.kept_set hk (by omega) _ _, hl, ownL_moved hK hm, ab_movedX hA hm, hn, hf⟩, hR.set_other (p := ⟨X, 4, none⟩) (by show X ≠ _; omega) _, hO.set 4 _, hX⟩
theorem ab_nil {lo M : Nat} {w : World} (h : Blk w M #[] 29) (hl : lo ≤ M) : AB lo w M 0 [] := ⟨hl, ⟨by simp, by unfold maxLen; omega⟩, ⟨#[], h, rfl, fun i hi => by simp at hi⟩, fun x hx => by simp at hx, List.Pairwise.nil⟩
theorem ne_young {lo : Nat} {w : World} {K M c : Nat} {rs : List ARow} (h : AB lo w M c rs) (hK : w.heap.size ≤ K) : ¬ blks M rs K := fun hb => by have := blks_high h K hb; omega
theorem ownL_lst {W w' : World} {c g cap : Nat} {p : List Lab} (h : LSt W c w' (.slice (some ⟨g, 0, none⟩) p.length cap) p) (hp : p.length ≤ 8) : OwnL W.heap.size w' g p := by
  obtain ⟨h1, h2, ds, h3, h4, h5⟩ := own_lst (s := 0) (e := 0) (n := ByteArray.empty) h hp
  exact ⟨h1, ds, h3, h4, h5⟩
def NumA (n b t : Int) : Prop := (-1 ≤ n ∧ n ≤ 4) ∧ I64 b ∧ I64 t
theorem num_a {n b t : Int} (h : Nums n b t) : NumA n b t := by
  obtain ⟨h1, h2, h3, h4⟩ := h
  exact ⟨⟨by omega, by omega⟩, ⟨by omega, by omega⟩, ⟨by omega, by omega⟩⟩
set_option maxRecDepth 100000 in
set_option maxHeartbeats 6400000 in
theorem l11Any_any (c gb capb : Nat) (by' : List ByteArray) (w : World) (hc : Cur w c) (hb : ByK w gb by') (hgb : gb ≠ c ∧ gb < w.heap.size) (hbl : by'.length ≤ maxLen) :
    Calls Try.prog 49 #[.pointer (some ⟨c, 0, none⟩), .slice (some ⟨gb, 0, none⟩) by'.length capb] w fun r w' => ∃ (n b t : Int) (K kc M cap : Nat) (key : List Lab) (rs : List ARow), r = .returned (.agg #[.int .i64 n, .slice (some ⟨K, 0, none⟩) key.length kc, .int .i64 b, .int .i64 t, .slice (some ⟨M, 0, none⟩) rs.length cap]) ∧ DG w c w' K M cap key rs ∧ NumA n b t ∧ KeyF key ∧ rs.length ≤ 9 := by
  have HC : Hid (Cur w c) := hc
  have HL : Hid (c < w.heap.size) := hc.lt
  have HB : Hid (ByK w gb by' ∧ (gb ≠ c ∧ gb < w.heap.size) ∧ by'.length ≤ maxLen) := ⟨hb, hgb, hbl⟩
  clear hc hb hgb hbl
  obtain ⟨i0, hi, hz0, hz1, hz2⟩ := info_parts infoA
  go_enter Try.func49, Try.ntmps49
  go_wp2_with fail
  refine (l11Draw_any c gb capb by' _ (HC.out.alloc _) (HB.out.1.keep ((Kept.refl c w).alloc _) HB.out.2.1.1) ⟨HB.out.2.1.1, by have := HB.out.2.1.2; simp; omega⟩ HB.out.2.2).mono ?_
  rintro r w1 ⟨n, b, t, K, kc, M, cap, key, rs, rfl, hd, hn, hk, h8⟩
  have HD1 : Hid (DG w c w1 K M cap key rs) := by
    have h0 := HL.out
    exact ⟨hd.cur, ((Kept.refl c w).alloc _).trans hd.kept, h0, hd.key.down (by simp), hd.row.down (by simp), hd.ne, hd.fine⟩
  have HR1 : Hid (Blk w1 w.heap.size #[.int .i64 0, .slice none 0 0, .int .i64 0, .int .i64 0, .slice none 0 0] 27) := blk_kept (Blk.new _ _ _) hd.kept (by have := HL.out; omega)
  have HN : Hid (NumA n b t) := num_a hn
  have HKF : Hid (KeyF key) := hk
  have H8 : Hid (rs.length ≤ 8) := h8
  clear hd hn hk h8 HB
  go_wp2_with fail
  refine (below_any c 14 _ (HD1.out.cur.alloc _) (by decide) (by decide)).mono ?_
  rintro r w2 ⟨⟨z, rfl, hz0', hz1'⟩, hc2, hk2⟩
  have HX : Hid (HSt w c w1.heap.size n b t key w2 K kc M cap rs) := by
    have h0 := HL.out; have h1 := HR1.out.lt
    have h2 : HSt w c w1.heap.size n b t key (w1.alloc (.cells #[.int .i64 n, .slice (some ⟨K, 0, none⟩) key.length kc, .int .i64 b, .int .i64 t, .slice (some ⟨M, 0, none⟩) rs.length cap] 27)) K kc M cap rs :=
      ⟨⟨HD1.out.cur.alloc _, HD1.out.kept.alloc _, h0, HD1.out.key.grow (Go.Joins.below_alloc1 w1 _), HD1.out.row.grow (Go.Joins.below_alloc1 w1 _), HD1.out.ne, HD1.out.fine⟩, HR1.out.alloc _, Blk.new _ _ _, h1⟩
    exact h2.keep hc2 hk2
  clear hc2 hk2 HD1 HR1 HC
  generalize w1.heap.size = X at HX ⊢
  by_cases e0 : z = 0
  · subst e0
    have q0 : w2.cell? ⟨X, 0, none⟩ = some (.int .i64 n) := HX.out.bO.cell 0
    have g0 := HX.out.bO.frozen 0
    have H4 : Hid (HSt w c X (-1) b t key (w2.setCell ⟨X, 0, none⟩ (.int .i64 (-1))) K kc M cap rs) := HX.out.setN (-1)
    go_upto_region 15 with fail
    clear q0 g0 HX
    generalize w2.setCell ⟨X, 0, none⟩ (.int .i64 (-1)) = W3 at H4 ⊢
    have o0 : W3.cell? ⟨X, 0, none⟩ = some (.int .i64 (-1)) := H4.out.bO.cell 0
    have o1 : W3.cell? ⟨X, 1, none⟩ = some (.slice (some ⟨K, 0, none⟩) key.length kc) := H4.out.bO.cell 1
    have o2 : W3.cell? ⟨X, 2, none⟩ = some (.int .i64 b) := H4.out.bO.cell 2
    have o3 : W3.cell? ⟨X, 3, none⟩ = some (.int .i64 t) := H4.out.bO.cell 3
    have o4 : W3.cell? ⟨X, 4, none⟩ = some (.slice (some ⟨M, 0, none⟩) rs.length cap) := H4.out.bO.cell 4
    have r0 : W3.cell? ⟨w.heap.size, 0, none⟩ = some (.int .i64 0) := H4.out.bR.cell 0
    have fr0 := H4.out.bR.frozen 0
    have r1 : W3.cell? ⟨w.heap.size, 1, none⟩ = some (.slice none 0 0) := H4.out.bR.cell 1
    have fr1 := H4.out.bR.frozen 1
    have r2 : W3.cell? ⟨w.heap.size, 2, none⟩ = some (.int .i64 0) := H4.out.bR.cell 2
    have fr2 := H4.out.bR.frozen 2
    have r3 : W3.cell? ⟨w.heap.size, 3, none⟩ = some (.int .i64 0) := H4.out.bR.cell 3
    have fr3 := H4.out.bR.frozen 3
    have r4 : W3.cell? ⟨w.heap.size, 4, none⟩ = some (.slice none 0 0) := H4.out.bR.cell 4
    have fr4 := H4.out.bR.frozen 4
    have hs := put5 H4.out.bR (.int .i64 (-1)) (.slice (some ⟨K, 0, none⟩) key.length kc) (.int .i64 b) (.int .i64 t) (.slice (some ⟨M, 0, none⟩) rs.length cap)
    have s0 := hs.cell 0
    have s1 := hs.cell 1
    have s2 := hs.cell 2
    have s3 := hs.cell 3
    have s4 := hs.cell 4
    go_wp2
    refine bodyPost_ret (v := .agg #[.int .i64 (-1), .slice (some ⟨K, 0, none⟩) key.length kc, .int .i64 b, .int .i64 t, .slice (some ⟨M, 0, none⟩) rs.length cap]) (by simp [results, Try.results49, go_sem, s0, s1, s2, s3, s4]) rfl ?_
    exact ⟨(-1), b, t, K, kc, M, cap, key, _, rfl, H4.out.dg.set5 H4.out.bR (Nat.le_refl _) _ _ _ _ _, ⟨⟨by omega, by omega⟩, HN.out.2.1, HN.out.2.2⟩, HKF.out, by have := H8.out; omega⟩
  have d0' : (z == 0) = false := by simpa using e0
  by_cases e1 : z = 1
  · subst e1
    go_wp2_with fail
    refine (l2Any_any c _ HX.out.dg.cur).mono ?_
    rintro r w3 ⟨v, rfl, p, hst, hp⟩
    obtain ⟨g, cg, rfl⟩ := hst.lies
    have HX3 : Hid (HSt w c X n b t key w3 K kc M cap rs) := HX.out.keep hst.cur hst.kept
    have HO3 : Hid (OwnL (w.heap.size + 1) w3 g p ∧ ¬ blks M rs g ∧ KeyF p) := ⟨(ownL_lst hst hp).down (by have := HX.out.dg.kept.size; have := HX.out.bO.lt; have := HX.out.hX; omega), ne_young HX.out.dg.row hst.blk.1, small_fits hst.fit, hp⟩
    clear hst hp HX
    have q1 : w3.cell? ⟨X, 1, none⟩ = some (.slice (some ⟨K, 0, none⟩) key.length kc) := HX3.out.bO.cell 1
    have g1 := HX3.out.bO.frozen 1
    have H4 : Hid (HSt w c X n b t p (w3.setCell ⟨X, 1, none⟩ (.slice (some ⟨g, 0, none⟩) p.length cg)) g cg M cap rs) := HX3.out.setK HO3.out.1 HO3.out.2.1
    go_upto_region 15 with fail
    clear q1 g1 HX3
    generalize w3.setCell ⟨X, 1, none⟩ (.slice (some ⟨g, 0, none⟩) p.length cg) = W3 at H4 ⊢
    have o0 : W3.cell? ⟨X, 0, none⟩ = some (.int .i64 n) := H4.out.bO.cell 0
    have o1 : W3.cell? ⟨X, 1, none⟩ = some (.slice (some ⟨g, 0, none⟩) p.length cg) := H4.out.bO.cell 1
    have o2 : W3.cell? ⟨X, 2, none⟩ = some (.int .i64 b) := H4.out.bO.cell 2
    have o3 : W3.cell? ⟨X, 3, none⟩ = some (.int .i64 t) := H4.out.bO.cell 3
    have o4 : W3.cell? ⟨X, 4, none⟩ = some (.slice (some ⟨M, 0, none⟩) rs.length cap) := H4.out.bO.cell 4
    have r0 : W3.cell? ⟨w.heap.size, 0, none⟩ = some (.int .i64 0) := H4.out.bR.cell 0
    have fr0 := H4.out.bR.frozen 0
    have r1 : W3.cell? ⟨w.heap.size, 1, none⟩ = some (.slice none 0 0) := H4.out.bR.cell 1
    have fr1 := H4.out.bR.frozen 1
    have r2 : W3.cell? ⟨w.heap.size, 2, none⟩ = some (.int .i64 0) := H4.out.bR.cell 2
    have fr2 := H4.out.bR.frozen 2
    have r3 : W3.cell? ⟨w.heap.size, 3, none⟩ = some (.int .i64 0) := H4.out.bR.cell 3
    have fr3 := H4.out.bR.frozen 3
    have r4 : W3.cell? ⟨w.heap.size, 4, none⟩ = some (.slice none 0 0) := H4.out.bR.cell 4
    have fr4 := H4.out.bR.frozen 4
    have hs := put5 H4.out.bR (.int .i64 n) (.slice (some ⟨g, 0, none⟩) p.length cg) (.int .i64 b) (.int .i64 t) (.slice (some ⟨M, 0, none⟩) rs.length cap)
    have s0 := hs.cell 0
    have s1 := hs.cell 1
    have s2 := hs.cell 2
    have s3 := hs.cell 3
    have s4 := hs.cell 4
    go_wp2
    refine bodyPost_ret (v := .agg #[.int .i64 n, .slice (some ⟨g, 0, none⟩) p.length cg, .int .i64 b, .int .i64 t, .slice (some ⟨M, 0, none⟩) rs.length cap]) (by simp [results, Try.results49, go_sem, s0, s1, s2, s3, s4]) rfl ?_
    exact ⟨n, b, t, g, cg, M, cap, p, _, rfl, H4.out.dg.set5 H4.out.bR (Nat.le_refl _) _ _ _ _ _, HN.out, HO3.out.2.2, by have := H8.out; omega⟩
  have d1' : (z == 1) = false := by simpa using e1
  by_cases e2 : z = 2
  · subst e2
    go_wp2_with fail
    refine (raw_any c _ HX.out.dg.cur).mono ?_
    rintro r w3 ⟨⟨v, rfl, hv0, hv1⟩, hc3, hk3⟩
    have HX3 : Hid (HSt w c X n b t key w3 K kc M cap rs) := HX.out.keep hc3 hk3
    have HV : Hid (I64 v) := ⟨hv0, hv1⟩
    clear hc3 hk3 hv0 hv1 HX
    have q2 : w3.cell? ⟨X, 2, none⟩ = some (.int .i64 b) := HX3.out.bO.cell 2
    have g2 := HX3.out.bO.frozen 2
    have H4 : Hid (HSt w c X n v t key (w3.setCell ⟨X, 2, none⟩ (.int .i64 v)) K kc M cap rs) := HX3.out.setB v
    go_upto_region 15 with fail
    clear q2 g2 HX3
    generalize w3.setCell ⟨X, 2, none⟩ (.int .i64 v) = W3 at H4 ⊢
    have o0 : W3.cell? ⟨X, 0, none⟩ = some (.int .i64 n) := H4.out.bO.cell 0
    have o1 : W3.cell? ⟨X, 1, none⟩ = some (.slice (some ⟨K, 0, none⟩) key.length kc) := H4.out.bO.cell 1
    have o2 : W3.cell? ⟨X, 2, none⟩ = some (.int .i64 v) := H4.out.bO.cell 2
    have o3 : W3.cell? ⟨X, 3, none⟩ = some (.int .i64 t) := H4.out.bO.cell 3
    have o4 : W3.cell? ⟨X, 4, none⟩ = some (.slice (some ⟨M, 0, none⟩) rs.length cap) := H4.out.bO.cell 4
    have r0 : W3.cell? ⟨w.heap.size, 0, none⟩ = some (.int .i64 0) := H4.out.bR.cell 0
    have fr0 := H4.out.bR.frozen 0
    have r1 : W3.cell? ⟨w.heap.size, 1, none⟩ = some (.slice none 0 0) := H4.out.bR.cell 1
    have fr1 := H4.out.bR.frozen 1
    have r2 : W3.cell? ⟨w.heap.size, 2, none⟩ = some (.int .i64 0) := H4.out.bR.cell 2
    have fr2 := H4.out.bR.frozen 2
    have r3 : W3.cell? ⟨w.heap.size, 3, none⟩ = some (.int .i64 0) := H4.out.bR.cell 3
    have fr3 := H4.out.bR.frozen 3
    have r4 : W3.cell? ⟨w.heap.size, 4, none⟩ = some (.slice none 0 0) := H4.out.bR.cell 4
    have fr4 := H4.out.bR.frozen 4
    have hs := put5 H4.out.bR (.int .i64 n) (.slice (some ⟨K, 0, none⟩) key.length kc) (.int .i64 v) (.int .i64 t) (.slice (some ⟨M, 0, none⟩) rs.length cap)
    have s0 := hs.cell 0
    have s1 := hs.cell 1
    have s2 := hs.cell 2
    have s3 := hs.cell 3
    have s4 := hs.cell 4
    go_wp2
    refine bodyPost_ret (v := .agg #[.int .i64 n, .slice (some ⟨K, 0, none⟩) key.length kc, .int .i64 v, .int .i64 t, .slice (some ⟨M, 0, none⟩) rs.length cap]) (by simp [results, Try.results49, go_sem, s0, s1, s2, s3, s4]) rfl ?_
    exact ⟨n, v, t, K, kc, M, cap, key, _, rfl, H4.out.dg.set5 H4.out.bR (Nat.le_refl _) _ _ _ _ _, ⟨HN.out.1, HV.out, HN.out.2.2⟩, HKF.out, by have := H8.out; omega⟩
  have d2' : (z == 2) = false := by simpa using e2
  by_cases e3 : z = 3
  · subst e3
    go_wp2_with fail
    refine (int_any c w2.heap.size 0 3 3 _ (HX.out.dg.cur.alloc _) (row_lit (w := w2) (by decide) rfl HX.out.dg.cur.lt) (by decide) (by decide)).mono ?_
    rintro r w3 ⟨⟨v, rfl, hv0, hv1⟩, hc3, hk3⟩
    have HX3 : Hid (HSt w c X n b t key w3 K kc M cap rs) := (HX.out.grow (Go.Joins.below_alloc1 w2 _)).keep hc3 hk3
    have HV : Hid (I64 v) := ⟨hv0, hv1⟩
    clear hc3 hk3 hv0 hv1 HX
    have q3 : w3.cell? ⟨X, 3, none⟩ = some (.int .i64 t) := HX3.out.bO.cell 3
    have g3 := HX3.out.bO.frozen 3
    have H4 : Hid (HSt w c X n b v key (w3.setCell ⟨X, 3, none⟩ (.int .i64 v)) K kc M cap rs) := HX3.out.setT v
    go_upto_region 15 with fail
    clear q3 g3 HX3
    generalize w3.setCell ⟨X, 3, none⟩ (.int .i64 v) = W3 at H4 ⊢
    have o0 : W3.cell? ⟨X, 0, none⟩ = some (.int .i64 n) := H4.out.bO.cell 0
    have o1 : W3.cell? ⟨X, 1, none⟩ = some (.slice (some ⟨K, 0, none⟩) key.length kc) := H4.out.bO.cell 1
    have o2 : W3.cell? ⟨X, 2, none⟩ = some (.int .i64 b) := H4.out.bO.cell 2
    have o3 : W3.cell? ⟨X, 3, none⟩ = some (.int .i64 v) := H4.out.bO.cell 3
    have o4 : W3.cell? ⟨X, 4, none⟩ = some (.slice (some ⟨M, 0, none⟩) rs.length cap) := H4.out.bO.cell 4
    have r0 : W3.cell? ⟨w.heap.size, 0, none⟩ = some (.int .i64 0) := H4.out.bR.cell 0
    have fr0 := H4.out.bR.frozen 0
    have r1 : W3.cell? ⟨w.heap.size, 1, none⟩ = some (.slice none 0 0) := H4.out.bR.cell 1
    have fr1 := H4.out.bR.frozen 1
    have r2 : W3.cell? ⟨w.heap.size, 2, none⟩ = some (.int .i64 0) := H4.out.bR.cell 2
    have fr2 := H4.out.bR.frozen 2
    have r3 : W3.cell? ⟨w.heap.size, 3, none⟩ = some (.int .i64 0) := H4.out.bR.cell 3
    have fr3 := H4.out.bR.frozen 3
    have r4 : W3.cell? ⟨w.heap.size, 4, none⟩ = some (.slice none 0 0) := H4.out.bR.cell 4
    have fr4 := H4.out.bR.frozen 4
    have hs := put5 H4.out.bR (.int .i64 n) (.slice (some ⟨K, 0, none⟩) key.length kc) (.int .i64 b) (.int .i64 v) (.slice (some ⟨M, 0, none⟩) rs.length cap)
    have s0 := hs.cell 0
    have s1 := hs.cell 1
    have s2 := hs.cell 2
    have s3 := hs.cell 3
    have s4 := hs.cell 4
    go_wp2
    refine bodyPost_ret (v := .agg #[.int .i64 n, .slice (some ⟨K, 0, none⟩) key.length kc, .int .i64 b, .int .i64 v, .slice (some ⟨M, 0, none⟩) rs.length cap]) (by simp [results, Try.results49, go_sem, s0, s1, s2, s3, s4]) rfl ?_
    exact ⟨n, b, v, K, kc, M, cap, key, _, rfl, H4.out.dg.set5 H4.out.bR (Nat.le_refl _) _ _ _ _ _, ⟨HN.out.1, HN.out.2.1, HV.out⟩, HKF.out, by have := H8.out; omega⟩
  have d3' : (z == 3) = false := by simpa using e3
  by_cases e4 : z = 4
  · subst e4
    have HC : Hid (Calls Try.prog 93 #[.pointer (some ⟨c, 0, none⟩)] w2.drew fun r w' => ∃ y : ARow, r = .returned (.agg #[.slice (some ⟨y.1, 0, none⟩) y.2.2.l.length y.2.1, .int .i64 y.2.2.s, .int .i64 y.2.2.e, .string y.2.2.n]) ∧ HSt w c X n b t key w' K kc M cap rs ∧ OwnA (w.heap.size + 1) w' y ∧ w2.heap.size ≤ y.1 ∧ Fine y.2.2) := (l4Any_any c w2.drew (Cur.drewN HX.out.dg.cur 1)).mono fun r w' ⟨g1, cp, p, s, e, n, hr, hst, hp, hs, he, hn⟩ => ⟨(g1, cp, ⟨p, s, e, n⟩), hr, HX.out.keep hst.cur (kept_drew hst.kept), (own_lst hst hp).down (by have := HX.out.bO.lt; have := HX.out.hX; show _ ≤ w2.drew.heap.size; simp; omega), hst.blk.1, fine_of hp hst.fit hs he hn⟩
    have HS : Hid (∀ w', HSt w c X n b t key w' K kc M cap rs → w'.cell? ⟨X, 4, none⟩ = some (.slice (some ⟨M, 0, none⟩) rs.length cap)) := fun w' h => h.bO.cell 4
    go_upto_region 12 with fail
    refine Hld.wp_region_LH (S := fun w' => w'.cell? ⟨X, 4, none⟩ = some (.slice (some ⟨M, 0, none⟩) rs.length cap)) (z := 7) (by kernel_rfl) (HS.out _ (HX.out.keep (Cur.drewN HX.out.dg.cur 1) (kept_bel (Below.refl _ _).drew))) (fun hHeld => ?_)
    refine Hld.anyL_take (i := 0) (oi := { dst := some 32, op := Op.fieldAddr 27 (Operand.tmp 5) 4, type := 0, pos := "l11_group.go:99", after := #[], guard := none }) (v := ?vd121) rfl (by kernel_rfl) (by kernel_rfl) (by kernel_rfl) (by kernel_rfl) (fun _ _ _ h => h) (Or.inl ⟨by rfl, ?hyd121⟩) hHeld ?_
    case hyd121 => (intro w hSw; (try dsimp only at hSw); go_simp <;> with_reducible rfl)
    try simp only [Act.put, List.setIfInBounds_toArray, List.set_cons_zero, List.set_cons_succ]
    refine Hld.anyL_take (i := 1) (oi := { dst := some 33, op := Op.load 25 (Operand.tmp 32), type := 25, pos := "l11_group.go:99", after := #[{ on := 0, ground := Ground.data }], guard := none }) (v := ?vd122) rfl (by kernel_rfl) (by kernel_rfl) (by kernel_rfl) (by kernel_rfl) (fun _ _ _ h => h) (Or.inl ⟨by rfl, ?hyd122⟩) hHeld ?_
    case hyd122 => (intro w hSw; (try dsimp only at hSw); go_simp <;> with_reducible rfl)
    try simp only [Act.put, List.setIfInBounds_toArray, List.set_cons_zero, List.set_cons_succ]
    refine Hld.anyL_take (i := 2) (oi := { dst := some 34, op := Op.move (Operand.tmp 0), type := 80, pos := "l11_group.go:99", after := #[], guard := none }) (v := ?vd123) rfl (by kernel_rfl) (by kernel_rfl) (by kernel_rfl) (by kernel_rfl) (fun _ _ _ h => h) (Or.inl ⟨by rfl, ?hyd123⟩) hHeld ?_
    case hyd123 => (intro w hSw; (try dsimp only at hSw); go_simp <;> with_reducible rfl)
    try simp only [Act.put, List.setIfInBounds_toArray, List.set_cons_zero, List.set_cons_succ]
    refine Hld.anyL_ready (rs := [3]) (by kernel_rfl) (by simp) ?_
    refine Hld.AllL.cons (o := { dst := some 35, op := Op.call { callee := Callee.value (Operand.func 93), args := #[Operand.tmp 34], argTypes := #[80] }, type := 29, pos := "l11_group.go:99", after := #[{ on := 2, ground := Ground.data }], guard := none }) rfl (fun Kx hK => ?_) Hld.AllL.nil
    go_simp
    refine HC.out.mono ?_
    rintro r wyc ⟨y, rfl, hx, hy, hyl, hyf⟩
    have HXc : Hid (HSt w c X n b t key wyc K kc M cap rs) := hx
    have HY : Hid (OwnA (w.heap.size + 1) wyc y ∧ w2.heap.size ≤ y.1 ∧ Fine y.2.2) := ⟨hy, hyl, hyf⟩
    clear hx hy hyl hyf
    try dsimp only
    clear hHeld
    refine hK.out _ _ (HS.out _ HXc.out) (fun hHeld => ?_)
    clear hK Kx
    try simp only [Act.put, List.setIfInBounds_toArray, List.set_cons_zero, List.set_cons_succ]
    refine Hld.anyL_ready (rs := [4]) (by kernel_rfl) (by simp) ?_
    refine Hld.AllL.cons (o := { dst := some 36, op := Op.buildSlice 25 1 #[(0, Operand.tmp 35)], type := 25, pos := "l11_group.go:99", after := #[{ on := 3, ground := Ground.data }], guard := none }) rfl (fun Kx hK => ?_) Hld.AllL.nil
    go_simp
    clear hHeld
    refine hK.out _ _ (HS.out _ (HXc.out.grow (Go.Joins.below_alloc1 wyc _))) (fun hHeld => ?_)
    clear hK Kx
    try simp only [Act.put, List.setIfInBounds_toArray, List.set_cons_zero, List.set_cons_succ]
    refine Hld.anyL_ready (rs := [5]) (by kernel_rfl) (by simp) ?_
    refine Hld.AllL.cons (o := { dst := some 37, op := Op.call { callee := Callee.builtin Builtin.append, args := #[Operand.tmp 33, Operand.tmp 36], argTypes := #[25, 25] }, type := 25, pos := "l11_group.go:99", after := #[{ on := 1, ground := Ground.data }, { on := 4, ground := Ground.data }, { on := 3, ground := Ground.chain }], guard := none }) rfl (fun Kx hK => ?_) Hld.AllL.nil
    have hXd : HSt w c X n b t key (wyc.alloc (.cells #[.slice (some ⟨y.1, 0, none⟩) y.2.2.l.length y.2.1, .int .i64 y.2.2.s, .int .i64 y.2.2.e, .string y.2.2.n] 29)) K kc M cap rs := HXc.out.grow (Go.Joins.below_alloc1 wyc _)
    obtain ⟨xs, hox, hxl, hxs⟩ := hXd.dg.row.own
    refine step_appB rfl _ _ 25 rfl 29 i0 (.agg #[.slice none 0 0, .int .i64 0, .int .i64 0, .string ByteArray.empty]) 4 56 Try.underlying25 hi hz0 hz1 hz2 rfl (by decide) (w.heap.size + 1) ?qb (.slice (some ⟨M, 0, none⟩) rs.length cap) rs.length xs rfl hox ⟨wyc.heap.size, 0, none⟩ 1 1 (rowV y) rfl rfl (blk_news (Blk.new _ _ _)) (row_one _) ?qc ?qd ?_
    case qb => have := hXd.bO.lt; have := hXd.hX; omega
    case qc => have := H8.out; unfold maxLen; omega
    case qd => have := H8.out; omega
    intro v' wya hown hg hat
    obtain ⟨M3, c3, e3, hAB⟩ := hXd.dg.row.app (HY.out.1.grow (Go.Joins.below_alloc1 wyc _)) (fun x hx => by have := (HX.out.dg.row.rows x hx).lt; have := HY.out.2.1; omega) hxl hxs hown hg
    subst e3
    have HOLD : Hid (Cur wya c ∧ Kept c w wya ∧ Blk wya w.heap.size #[.int .i64 0, .slice none 0 0, .int .i64 0, .int .i64 0, .slice none 0 0] 27 ∧ Blk wya X #[.int .i64 n, .slice (some ⟨K, 0, none⟩) key.length kc, .int .i64 b, .int .i64 t, .slice (some ⟨M, 0, none⟩) rs.length cap] 27 ∧ OwnL (w.heap.size + 1) wya K key ∧ ¬ blks M3 (rs ++ [y]) K) := by
      have h0 := hXd.dg.clt; have h1 := hXd.hX
      have hrow : ∀ k, (Value.slice (some ⟨M, 0, none⟩) rs.length cap).ownBlock = some k → w.heap.size + 1 ≤ k ∧ X ≠ k ∧ k ≠ K := fun k hk => by
        cases hk
        obtain ⟨cu, hcu, _⟩ := hXd.dg.row.outer
        obtain ⟨_, cs, hcs, _⟩ := hXd.dg.key
        exact ⟨hXd.dg.row.at', blk_tne hXd.bO hcu (by decide), blk_tne hcu hcs (by decide)⟩
      have hKl : OwnL (w.heap.size + 1) wya K key := by
        obtain ⟨h2, cs, h3, h4⟩ := hXd.dg.key
        exact ⟨h2, cs, blk_far h3 hg (fun e => (hrow _ e.symm).2.2 rfl), h4⟩
      refine ⟨hXd.dg.cur.grown hg (fun k hk => by have := (hrow k hk).1; omega), kept_grown (B := 0) hXd.dg.kept hg (fun k hk => by have := (hrow k hk).1; omega), blk_far hXd.bR hg (fun e => by have := (hrow _ e.symm).1; omega), blk_far hXd.bO hg (fun e => (hrow _ e.symm).2.1 rfl), hKl, fun hb => ?_⟩
      rcases hb with hb | ⟨x, hx, hb⟩
      · obtain ⟨_, cs, hcs, _⟩ := hKl
        obtain ⟨cu, hcu, _⟩ := hAB.outer
        exact absurd hb (blk_tne hcs hcu (by decide))
      · rcases List.mem_append.1 hx with hx | hx
        · exact HX.out.dg.ne (.inr ⟨x, hx, hb⟩)
        · rw [List.mem_singleton.1 hx] at hb
          have h5 := HX.out.dg.key.lt; have h6 := HY.out.2.1; omega
    have HAB : Hid (AB (w.heap.size + 1) wya M3 c3 (rs ++ [y])) := hAB
    have HFY : Hid (Fines (pals (rs ++ [y]))) := by rw [Rws.pals_app]; exact fines_app HX.out.dg.fine HY.out.2.2
    clear hown hg hat hXd hox hxl hxs hAB
    clear hHeld
    refine hK.out _ _ (HOLD.out.2.2.2.1.cell 4) (fun hHeld => ?_)
    clear hK Kx
    try simp only [Act.put, List.setIfInBounds_toArray, List.set_cons_zero, List.set_cons_succ]
    refine Hld.anyL_take (i := 6) (oi := { dst := some 38, op := Op.fieldAddr 27 (Operand.tmp 5) 4, type := 0, pos := "l11_group.go:99", after := #[{ on := 0, ground := Ground.phase }, { on := 1, ground := Ground.phase }, { on := 2, ground := Ground.phase }, { on := 3, ground := Ground.phase }, { on := 4, ground := Ground.phase }, { on := 5, ground := Ground.phase }], guard := none }) (v := ?vd127) rfl (by kernel_rfl) (by kernel_rfl) (by kernel_rfl) (by kernel_rfl) (fun _ _ _ h => h) (Or.inl ⟨by rfl, ?hyd127⟩) hHeld ?_
    case hyd127 => (intro w hSw; (try dsimp only at hSw); go_simp <;> with_reducible rfl)
    try simp only [Act.put, List.setIfInBounds_toArray, List.set_cons_zero, List.set_cons_succ]
    refine Hld.anyL_ready (rs := [7]) (by kernel_rfl) (by simp) ?_
    refine Hld.AllL.last (o := { dst := none, op := Op.store 25 (Operand.tmp 38) (Operand.tmp 37), type := 0, pos := "l11_group.go:99", after := #[{ on := 6, ground := Ground.data }, { on := 5, ground := Ground.data }, { on := 5, ground := Ground.chain }, { on := 0, ground := Ground.phase }, { on := 1, ground := Ground.phase }, { on := 2, ground := Ground.phase }, { on := 3, ground := Ground.phase }, { on := 4, ground := Ground.phase }, { on := 5, ground := Ground.phase }], guard := none }) rfl (fun Kx hK => ?_)
    have cD : wya.cell? ⟨X, 4, none⟩ = some (.slice (some ⟨M, 0, none⟩) rs.length cap) := HOLD.out.2.2.2.1.cell 4
    have fD := HOLD.out.2.2.2.1.frozen 4
    go_simp
    clear cD fD
    refine hK.out _ _ ?_
    clear hK Kx hHeld
    try simp only [Act.put, List.setIfInBounds_toArray, List.set_cons_zero, List.set_cons_succ]
    refine Hld.anyL_done (by kernel_rfl) ?_ _
    have HXZ : Hid (HSt w c X n b t key (wya.setCell ⟨X, 4, none⟩ (.slice (some ⟨M3, 0, none⟩) (rs.length + 1) c3)) K kc M3 c3 (rs ++ [y])) := by
      have h := set4_of (n := n) (b := b) (t := t) (kc := kc) HOLD.out.1 HOLD.out.2.1 HL.out HOLD.out.2.2.1 HOLD.out.2.2.2.1 HX.out.hX HOLD.out.2.2.2.2.1 HAB.out HOLD.out.2.2.2.2.2 HFY.out
      simp only [List.length_append, List.length_singleton] at h
      exact h
    clear HOLD HAB HFY HXc HY HX
    generalize wya.setCell ⟨X, 4, none⟩ (.slice (some ⟨M3, 0, none⟩) (rs.length + 1) c3) = W3 at HXZ ⊢
    have HLEN : Hid ((rs ++ [y]).length = rs.length + 1) := by simp [Hid]
    have HX8 : Hid (Blk W3 X #[.int .i64 n, .slice (some ⟨K, 0, none⟩) key.length kc, .int .i64 b, .int .i64 t, .slice (some ⟨M3, 0, none⟩) (rs.length + 1) c3] 27) := by have h := HXZ.out.bO; simp only [List.length_append, List.length_singleton] at h; exact h
    have o0 : W3.cell? ⟨X, 0, none⟩ = some (.int .i64 n) := HX8.out.cell 0
    have o1 : W3.cell? ⟨X, 1, none⟩ = some (.slice (some ⟨K, 0, none⟩) key.length kc) := HX8.out.cell 1
    have o2 : W3.cell? ⟨X, 2, none⟩ = some (.int .i64 b) := HX8.out.cell 2
    have o3 : W3.cell? ⟨X, 3, none⟩ = some (.int .i64 t) := HX8.out.cell 3
    have o4 : W3.cell? ⟨X, 4, none⟩ = some (.slice (some ⟨M3, 0, none⟩) (rs.length + 1) c3) := HX8.out.cell 4
    have r0 : W3.cell? ⟨w.heap.size, 0, none⟩ = some (.int .i64 0) := HXZ.out.bR.cell 0
    have fr0 := HXZ.out.bR.frozen 0
    have r1 : W3.cell? ⟨w.heap.size, 1, none⟩ = some (.slice none 0 0) := HXZ.out.bR.cell 1
    have fr1 := HXZ.out.bR.frozen 1
    have r2 : W3.cell? ⟨w.heap.size, 2, none⟩ = some (.int .i64 0) := HXZ.out.bR.cell 2
    have fr2 := HXZ.out.bR.frozen 2
    have r3 : W3.cell? ⟨w.heap.size, 3, none⟩ = some (.int .i64 0) := HXZ.out.bR.cell 3
    have fr3 := HXZ.out.bR.frozen 3
    have r4 : W3.cell? ⟨w.heap.size, 4, none⟩ = some (.slice none 0 0) := HXZ.out.bR.cell 4
    have fr4 := HXZ.out.bR.frozen 4
    have hs := put5 HXZ.out.bR (.int .i64 n) (.slice (some ⟨K, 0, none⟩) key.length kc) (.int .i64 b) (.int .i64 t) (.slice (some ⟨M3, 0, none⟩) (rs.length + 1) c3)
    have s0 := hs.cell 0
    have s1 := hs.cell 1
    have s2 := hs.cell 2
    have s3 := hs.cell 3
    have s4 := hs.cell 4
    go_wp2
    refine bodyPost_ret (v := .agg #[.int .i64 n, .slice (some ⟨K, 0, none⟩) key.length kc, .int .i64 b, .int .i64 t, .slice (some ⟨M3, 0, none⟩) (rs.length + 1) c3]) (by simp [results, Try.results49, go_sem, s0, s1, s2, s3, s4]) rfl ?_
    exact ⟨n, b, t, K, kc, M3, c3, key, rs ++ [y], by rw [HLEN.out], HXZ.out.dg.set5 HXZ.out.bR (Nat.le_refl _) _ _ _ _ _, HN.out, HKF.out, by rw [HLEN.out]; have := H8.out; omega⟩
  have d4' : (z == 4) = false := by simpa using e4
  by_cases e5 : z = 5
  · subst e5
    have hXd : HSt w c X n b t key (w2.alloc (.cells #[] 29)) K kc M cap rs := HX.out.grow (Go.Joins.below_alloc1 w2 _)
    have hE : Blk (w2.alloc (.cells #[] 29)) w2.heap.size #[] 29 := Blk.new _ _ _
    have H4 : Hid (HSt w c X n b t key ((w2.alloc (.cells #[] 29)).setCell ⟨X, 4, none⟩ (.slice (some ⟨w2.heap.size, 0, none⟩) ([] : List ARow).length 0)) K kc w2.heap.size 0 []) := set4_of hXd.dg.cur hXd.dg.kept HL.out hXd.bR hXd.bO hXd.hX hXd.dg.key (ab_nil hE (by have := HX.out.bO.lt; have := HX.out.hX; omega)) (fun hb => by
      rcases hb with hb | ⟨x, hx, _⟩
      · have := HX.out.dg.key.lt; omega
      · simp at hx) (fun x hx => by simp [pals] at hx)
    have q4 : (w2.alloc (.cells #[] 29)).cell? ⟨X, 4, none⟩ = some (.slice (some ⟨M, 0, none⟩) rs.length cap) := hXd.bO.cell 4
    have g4 := hXd.bO.frozen 4
    clear hXd hE HX
    go_upto_region 15 with fail
    clear q4 g4
    change HSt w c X n b t key ((w2.alloc (.cells #[] 29)).setCell ⟨X, 4, none⟩ (.slice (some ⟨w2.heap.size, 0, none⟩) 0 0)) K kc w2.heap.size 0 [] at H4
    generalize (w2.alloc (.cells #[] 29)).setCell ⟨X, 4, none⟩ (.slice (some ⟨w2.heap.size, 0, none⟩) 0 0) = W3 at H4 ⊢
    generalize w2.heap.size = M5 at H4 ⊢
    replace H4 : Hid (HSt w c X n b t key W3 K kc M5 0 []) := H4
    have o0 : W3.cell? ⟨X, 0, none⟩ = some (.int .i64 n) := H4.out.bO.cell 0
    have o1 : W3.cell? ⟨X, 1, none⟩ = some (.slice (some ⟨K, 0, none⟩) key.length kc) := H4.out.bO.cell 1
    have o2 : W3.cell? ⟨X, 2, none⟩ = some (.int .i64 b) := H4.out.bO.cell 2
    have o3 : W3.cell? ⟨X, 3, none⟩ = some (.int .i64 t) := H4.out.bO.cell 3
    have o4 : W3.cell? ⟨X, 4, none⟩ = some (.slice (some ⟨M5, 0, none⟩) 0 0) := H4.out.bO.cell 4
    have r0 : W3.cell? ⟨w.heap.size, 0, none⟩ = some (.int .i64 0) := H4.out.bR.cell 0
    have fr0 := H4.out.bR.frozen 0
    have r1 : W3.cell? ⟨w.heap.size, 1, none⟩ = some (.slice none 0 0) := H4.out.bR.cell 1
    have fr1 := H4.out.bR.frozen 1
    have r2 : W3.cell? ⟨w.heap.size, 2, none⟩ = some (.int .i64 0) := H4.out.bR.cell 2
    have fr2 := H4.out.bR.frozen 2
    have r3 : W3.cell? ⟨w.heap.size, 3, none⟩ = some (.int .i64 0) := H4.out.bR.cell 3
    have fr3 := H4.out.bR.frozen 3
    have r4 : W3.cell? ⟨w.heap.size, 4, none⟩ = some (.slice none 0 0) := H4.out.bR.cell 4
    have fr4 := H4.out.bR.frozen 4
    have hs := put5 H4.out.bR (.int .i64 n) (.slice (some ⟨K, 0, none⟩) key.length kc) (.int .i64 b) (.int .i64 t) (.slice (some ⟨M5, 0, none⟩) 0 0)
    have s0 := hs.cell 0
    have s1 := hs.cell 1
    have s2 := hs.cell 2
    have s3 := hs.cell 3
    have s4 := hs.cell 4
    go_wp2
    refine bodyPost_ret (v := .agg #[.int .i64 n, .slice (some ⟨K, 0, none⟩) key.length kc, .int .i64 b, .int .i64 t, .slice (some ⟨M5, 0, none⟩) 0 0]) (by simp [results, Try.results49, go_sem, s0, s1, s2, s3, s4]) rfl ?_
    exact ⟨n, b, t, K, kc, M5, 0, key, _, rfl, H4.out.dg.set5 H4.out.bR (Nat.le_refl _) _ _ _ _ _, HN.out, HKF.out, by simp⟩
  have d5' : (z == 5) = false := by simpa using e5
  go_upto_region 15 with fail
  have o0 : w2.cell? ⟨X, 0, none⟩ = some (.int .i64 n) := HX.out.bO.cell 0
  have o1 : w2.cell? ⟨X, 1, none⟩ = some (.slice (some ⟨K, 0, none⟩) key.length kc) := HX.out.bO.cell 1
  have o2 : w2.cell? ⟨X, 2, none⟩ = some (.int .i64 b) := HX.out.bO.cell 2
  have o3 : w2.cell? ⟨X, 3, none⟩ = some (.int .i64 t) := HX.out.bO.cell 3
  have o4 : w2.cell? ⟨X, 4, none⟩ = some (.slice (some ⟨M, 0, none⟩) rs.length cap) := HX.out.bO.cell 4
  have r0 : w2.cell? ⟨w.heap.size, 0, none⟩ = some (.int .i64 0) := HX.out.bR.cell 0
  have fr0 := HX.out.bR.frozen 0
  have r1 : w2.cell? ⟨w.heap.size, 1, none⟩ = some (.slice none 0 0) := HX.out.bR.cell 1
  have fr1 := HX.out.bR.frozen 1
  have r2 : w2.cell? ⟨w.heap.size, 2, none⟩ = some (.int .i64 0) := HX.out.bR.cell 2
  have fr2 := HX.out.bR.frozen 2
  have r3 : w2.cell? ⟨w.heap.size, 3, none⟩ = some (.int .i64 0) := HX.out.bR.cell 3
  have fr3 := HX.out.bR.frozen 3
  have r4 : w2.cell? ⟨w.heap.size, 4, none⟩ = some (.slice none 0 0) := HX.out.bR.cell 4
  have fr4 := HX.out.bR.frozen 4
  have hs := put5 HX.out.bR (.int .i64 n) (.slice (some ⟨K, 0, none⟩) key.length kc) (.int .i64 b) (.int .i64 t) (.slice (some ⟨M, 0, none⟩) rs.length cap)
  have s0 := hs.cell 0
  have s1 := hs.cell 1
  have s2 := hs.cell 2
  have s3 := hs.cell 3
  have s4 := hs.cell 4
  go_wp2
  refine bodyPost_ret (v := .agg #[.int .i64 n, .slice (some ⟨K, 0, none⟩) key.length kc, .int .i64 b, .int .i64 t, .slice (some ⟨M, 0, none⟩) rs.length cap]) (by simp [results, Try.results49, go_sem, s0, s1, s2, s3, s4]) rfl ?_
  exact ⟨n, b, t, K, kc, M, cap, key, _, rfl, HX.out.dg.set5 HX.out.bR (Nat.le_refl _) _ _ _ _ _, HN.out, HKF.out, by have := H8.out; omega⟩
end Go.Proofs.Ytekcmpjjfnijmaa.GrpX
