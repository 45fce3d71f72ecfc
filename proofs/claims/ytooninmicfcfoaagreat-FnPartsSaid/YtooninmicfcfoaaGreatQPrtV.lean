/-
  PROVED: in a drawn region an operation may be taken first where it yields its value in every world that meets S, also where one operation, which waits for it, leaves S (S is asked behind each operation but that one).
  PROVED: a row of chains that was put together of the first part of another, one chain more and its rest holds the chains of that other with the one more among them.
  PROVED: over a part and an alarm in memory spec.PutIn gives the part with the alarm in it, as a plain function on lists of chains says, in memory of its own; nothing that was there is changed.
-/
import Derived.Test.YtooninmicfcfoaaGreatQApp
import Derived.Deep.RegionHeld3
import Derived.Test.YtooninmicfcfoaaGreatQPrtC
import Derived.Test.YtooninmicfcfoaaGreatQPrt
set_option linter.unusedVariables false
namespace Go.Proofs.YtooninmicfcfoaaGreat.Hld
open Go.RowKit
section
variable {P : Program} {md : Region.Mode} {ops : Array Oper} {Q : Exit → Act → World → Prop} {S : World → Prop} {z : Nat}
def anyL (P : Program) (md : Region.Mode) (ops : Array Oper) (Q : Exit → Act → World → Prop) (S : World → Prop) (z : Nat) (n : Nat) (li : Array Bool) (a : Act) (w : World) : Prop :=
  match n with
  | 0 => Region.ready md ops li = [] ∧ Q .normal a w
  | m + 1 => (Region.ready md ops li = [] → Q .normal a w) ∧ ∀ i, i ∈ Region.ready md ops li → wpOp P ops Q i (fun a' w' => (i ≠ z → S w') ∧ anyL P md ops Q S z m (li.setIfInBounds i true) a' w') a w
theorem anyL_any : ∀ (n : Nat) (li : Array Bool) (a : Act) (w : World), anyL P md ops Q S z n li a w → wpAny P md ops Q n li a w := by
  intro n
  induction n with
  | zero => intro li a w h; exact h
  | succ n ih => intro li a w h; exact ⟨h.1, fun i hi => wpOp_mono (fun a' w' k => ih _ a' w' k.2) (h.2 i hi)⟩
theorem not_listed {li : Array Bool} {i : Nat} {oj : Oper} (hr : i ∈ Region.ready md ops li) (hall : ∀ e ∈ oj.after, Region.binds md e = true → li.getD e.on false = true) : ∀ e ∈ oj.after, Region.binds md e = true → e.on ≠ i := fun e he hb q => by
  have x1 := hall e he hb
  have x0 := (mem_ready.1 hr).1
  rw [q] at x1
  by_cases h : i < li.size
  · simp [h] at x0 x1; rw [x0] at x1; cases x1
  · simp [Array.getElem?_eq_none (Nat.le_of_not_lt h)] at x1
theorem anyL_first {i : Nat} {oi : Oper} {v : Value} (hi : ops[i]? = some oi) (hsel : ∀ (j : Nat) (o : Oper) cs b, ops[j]? = some o → o.op ≠ .select cs b) (hQ : ∀ c a w, Q (.panic c) (a.put oi.dst v) w → Q (.panic c) a w) (hz : ∀ oz, ops[z]? = some oz → ∃ e ∈ oz.after, Region.binds md e = true ∧ e.on = i) (n : Nat) : ∀ (li : Array Bool) (a : Act) (w : World),
    (∀ j oj, ops[j]? = some oj → j ≠ i → li.getD j true = false → (∀ e ∈ oj.after, Region.binds md e = true → e.on ≠ i) → oi.apart ops oj = true) → i ∈ Region.ready md ops li → YieldsIf P ops S oi v a → S w → anyL P md ops Q S z n (li.setIfInBounds i true) (a.put oi.dst v) w → anyL P md ops Q S z (n + 1) li a w := by
  induction n with
  | zero =>
    intro li a w _ hr hy hS H
    refine ⟨fun h => (by rw [h] at hr; cases hr), fun j hj => ?_⟩
    by_cases e : j = i
    · subst e; exact hy.wpOp hi hS ⟨fun _ => hS, H⟩
    · have k := ready_mono hj e
      rw [H.1] at k; cases k
  | succ n ih =>
    intro li a w hfree hr hy hS H
    refine ⟨fun h => (by rw [h] at hr; cases hr), fun j hj => ?_⟩
    by_cases e : j = i
    · subst e; exact hy.wpOp hi hS ⟨fun _ => hS, H⟩
    · obtain ⟨hun, oj, hoj, hall⟩ := mem_ready.1 hj
      have hnot := not_listed (oj := oj) hr hall
      have hjz : j ≠ z := fun q => by
        subst q
        obtain ⟨d, hd, hb, ho⟩ := hz oj hoj
        exact hnot d hd hb ho
      have k := wpOp_putIf (S := S) hoj (hfree j oj hoj e hun hnot) (fun cs b => hsel i oi cs b hi) (fun cs b => hsel j oj cs b hoj) hQ hy (H.2 j (ready_mono hj e))
      refine wpOp_mono (fun a' w' h3 => ?_) k
      have hS' := h3.2.1 hjz
      refine ⟨fun _ => hS', ih (li.setIfInBounds j true) a' w' (fun m om hm hmi hun' hno => hfree m om hm hmi ?_ hno) (ready_mono hr (Ne.symm e)) h3.1 hS' ?_⟩
      · by_cases q : j = m
        · subst q; exact hun
        · rw [getD_set_ne true q] at hun'; exact hun'
      · rw [Array.setIfInBounds_comm _ _ e]
        exact h3.2.2
def waits (md : Region.Mode) (ops : Array Oper) (z i : Nat) : Bool := (ops[z]?.map fun o => o.after.any fun e => Region.binds md e && e.on == i).getD true
theorem waits_spec {i : Nat} (h : waits md ops z i = true) : ∀ oz, ops[z]? = some oz → ∃ e ∈ oz.after, Region.binds md e = true ∧ e.on = i := fun oz hz => by
  unfold waits at h
  rw [hz] at h
  simp only [Option.map_some, Option.getD_some, Array.any_eq_true, Bool.and_eq_true, beq_iff_eq] at h
  obtain ⟨k, hk, h1, h2⟩ := h
  exact ⟨_, Array.getElem_mem hk, h1, h2⟩
theorem anyL_take {i : Nat} {oi : Oper} {v : Value} {n : Nat} {li : Array Bool} {a : Act} {w : World} (hi : ops[i]? = some oi) (hs : Region.noSelect ops = true) (hf : Region.free md ops li i = true) (hr : (Region.ready md ops li).contains i = true) (hw : waits md ops z i = true) (hQ : ∀ c a w, Q (.panic c) (a.put oi.dst v) w → Q (.panic c) a w) (hy : YieldsIf P ops S oi v a) (hS : S w) (h : anyL P md ops Q S z n (li.setIfInBounds i true) (a.put oi.dst v) w) : anyL P md ops Q S z (n + 1) li a w :=
  anyL_first hi (Region.noSelect_spec hs) hQ (waits_spec hw) n li a w (Region.free_spec hi hf) (by simpa using hr) hy hS h
theorem anyL_done {li : Array Bool} {a : Act} {w : World} (hr : Region.ready md ops li = []) (h : Q .normal a w) (n : Nat) : anyL P md ops Q S z n li a w := by
  cases n with
  | zero => exact ⟨hr, h⟩
  | succ n => exact ⟨fun _ => h, fun i hi => (by rw [hr] at hi; cases hi)⟩
def AllL (P : Program) (md : Region.Mode) (ops : Array Oper) (Q : Exit → Act → World → Prop) (S : World → Prop) (z n : Nat) (li : Array Bool) (a : Act) (w : World) (rs : List Nat) : Prop :=
  ∀ i, i ∈ rs → wpOp P ops Q i (fun a' w' => (i ≠ z → S w') ∧ anyL P md ops Q S z n (li.setIfInBounds i true) a' w') a w
theorem AllL.nil {n : Nat} {li : Array Bool} {a : Act} {w : World} : AllL P md ops Q S z n li a w [] := fun _ h => by cases h
theorem AllL.cons {n : Nat} {li : Array Bool} {a : Act} {w : World} {i : Nat} {o : Oper} {rs : List Nat} (ho : ops[i]? = some o)
    (h : ∀ K : Act → World → Prop, Shut (∀ a w, S w → (S w → anyL P md ops Q S z n (li.setIfInBounds i true) a w) → K a w) → if Region.wanted o (yielded ops a.tmps) = true then Oper.wp P o a w K Q else K (a.put o.dst undef) w)
    (hs : AllL P md ops Q S z n li a w rs) : AllL P md ops Q S z n li a w (i :: rs) := fun j hj => by
  rcases List.mem_cons.1 hj with rfl | hj
  · exact wpOp_step ho (fun K hK => h K (fun a w hS hW => hK a w ⟨fun _ => hS, hW hS⟩))
  · exact hs j hj
theorem AllL.last {n : Nat} {li : Array Bool} {a : Act} {w : World} {o : Oper} (ho : ops[z]? = some o)
    (h : ∀ K : Act → World → Prop, Shut (∀ a w, anyL P md ops Q S z n (li.setIfInBounds z true) a w → K a w) → if Region.wanted o (yielded ops a.tmps) = true then Oper.wp P o a w K Q else K (a.put o.dst undef) w) : AllL P md ops Q S z n li a w [z] := fun j hj => by
  have e := List.mem_singleton.1 hj
  subst e
  exact wpOp_step ho (fun K hK => h K (fun a w hW => hK a w ⟨fun h => absurd rfl h, hW⟩))
theorem anyL_ready {rs : List Nat} {n : Nat} {li : Array Bool} {a : Act} {w : World} (hr : Region.ready md ops li = rs) (hne : rs ≠ []) (h : AllL P md ops Q S z n li a w rs) : anyL P md ops Q S z (n + 1) li a w :=
  ⟨fun q => absurd (hr.symm.trans q) hne, fun i hi => h i (hr ▸ hi)⟩
theorem wp_region_LH {id : Nat} {a : Act} {w : World} (hm : P.follows .mixedOrders = true) (hS : S w.drew) (h : S w.drew → anyL P .any ops Q S z ops.size (Array.replicate ops.size false) a w.drew) : (Code.region id ops true).wp P Q a w := wp_region_any hm (anyL_any _ _ _ _ (h hS))
end
end Go.Proofs.YtooninmicfcfoaaGreat.Hld
namespace Go.Proofs.YtooninmicfcfoaaGreat.Ins
open Go.RowKit
open Labs LabS Alms AlmM Over Blk App Rws ChnI ChnC ChnP ChnK Chs Prt
theorem add_o (M o j : Nat) : (⟨M, o, none⟩ : Addr).add j = ⟨M, o + j, none⟩ := by by_cases h : j = 0 <;> simp [Addr.add, h]
theorem if_slice {p : Prop} [Decidable p] (x y : Addr) (n c : Nat) : Value.slice (if p then some x else some y) n c = .slice (some (if p then x else y)) n c := by split <;> rfl
theorem cel_one {xs : List Value} {cs : List CRow} (hl : xs.length = cs.length * 2) (hxs : ∀ i, i < cs.length → Cel (fun k => xs[k]?) i (nthR cs i)) : ∀ v ∈ xs, v.oneCell' = true := fun v hv => by
  obtain ⟨j, hj, rfl⟩ := List.getElem_of_mem hv
  obtain ⟨h0, h1⟩ := hxs (j / 2) (by omega)
  by_cases h : j % 2 = 0
  · have e : j / 2 * 2 = j := by omega
    have q : xs[j / 2 * 2]? = _ := h0
    rw [e, List.getElem?_eq_getElem hj] at q
    rw [Option.some.inj q]; rfl
  · have e : j / 2 * 2 + 1 = j := by omega
    have q : xs[j / 2 * 2 + 1]? = _ := h1
    rw [e, List.getElem?_eq_getElem hj] at q
    rw [Option.some.inj q]; rfl
structure News (W : World) (M c : Nat) (cs : List CRow) (xs : List Value) : Prop where
  len : xs.length = cs.length * 2
  cel : ∀ i, i < cs.length → Cel (fun k => xs[k]?) i (nthR cs i)
  one : ∀ v ∈ xs, v.oneCell' = true
  fst : ∀ W', Below W.heap.size W W' → ∀ k, k ≤ cs.length → ∀ j u, (xs.take (k * 2))[j]? = some u → W'.cell? ((⟨M, 0, none⟩ : Addr).add j) = some u
  snd : ∀ W', Below W.heap.size W W' → ∀ k, k ≤ cs.length → ∀ j u, (xs.drop (k * 2))[j]? = some u → W'.cell? ((if c = k then (⟨M, 0, none⟩ : Addr) else ⟨M, k * 2, none⟩).add j) = some u
theorem CB.news {lo : Nat} {W : World} {M c : Nat} {cs : List CRow} (h : CB lo W M c cs) : ∃ xs, News W M c cs xs := by
  obtain ⟨cur, h1, h2, h3⟩ := h.outer
  have hc := h.cap
  have hlen : (cur.toList.take (cs.length * 2)).length = cs.length * 2 := by simp; omega
  have hcel : ∀ i, i < cs.length → Cel (fun k => (cur.toList.take (cs.length * 2))[k]?) i (nthR cs i) := fun i hi => by
    refine (h3 i hi).congr fun k _ hk => ?_
    show (cur.toList.take _)[k]? = cur[k]?
    rw [List.getElem?_take_of_lt (by omega)]
    simp
  refine ⟨cur.toList.take (cs.length * 2), hlen, hcel, cel_one hlen hcel, fun W' hb k hk j u hj => ?_, fun W' hb k hk j u hj => ?_⟩
  · rw [List.take_take] at hj
    have hjl : j < min (k * 2) (cs.length * 2) := by
      rcases Nat.lt_or_ge j (min (k * 2) (cs.length * 2)) with q | q
      · exact q
      · rw [List.getElem?_eq_none (by simp; omega)] at hj; cases hj
    rw [List.getElem?_take_of_lt hjl] at hj
    rw [add_o, (h1.grow hb).cell, Nat.zero_add, ← hj]
    simp
  · by_cases e : c = k
    · rw [List.getElem?_eq_none (by rw [List.length_drop, hlen]; omega)] at hj; cases hj
    · rw [if_neg e, add_o, (h1.grow hb).cell]
      rw [List.getElem?_drop] at hj
      have hjl : k * 2 + j < cs.length * 2 := by
        rcases Nat.lt_or_ge (k * 2 + j) (cs.length * 2) with q | q
        · exact q
        · rw [List.getElem?_eq_none (by omega)] at hj; cases hj
      rw [List.getElem?_take_of_lt hjl] at hj
      rw [← hj]; simp
theorem nthR_ins {cs : List CRow} {x : CRow} {k i : Nat} (hk : k ≤ cs.length) : nthR (cs.take k ++ x :: cs.drop k) i = if i < k then nthR cs i else if i = k then x else nthR cs (i - 1) := by
  unfold nthR
  have hl : (cs.take k).length = k := by simp; omega
  by_cases h : i < k
  · rw [if_pos h, List.getD_eq_getElem?_getD, List.getElem?_append_left (by omega), List.getElem?_take_of_lt h, List.getD_eq_getElem?_getD]
  · rw [if_neg h, List.getD_eq_getElem?_getD, List.getElem?_append_right (by omega), hl]
    by_cases e : i = k
    · rw [if_pos e, e, Nat.sub_self]; rfl
    · rw [if_neg e, show i - k = (i - k - 1) + 1 by omega, List.getElem?_cons_succ, List.getElem?_drop, show k + (i - k - 1) = i - 1 by omega, List.getD_eq_getElem?_getD]
theorem CB.ins {lo k : Nat} {W w' : World} {M c : Nat} {cs : List CRow} {x : CRow} {xs : List Value} {v' : Value} (h : CB lo W M c cs) (hN : News W M c cs xs) (hx : AB lo W x.M x.c x.rs) (hne : ∀ y ∈ cs, ∀ k, blks y.M y.rs k → ¬ blks x.M x.rs k) (hk : k ≤ cs.length)
    (hown : w'.ownsRow lo 96 2 v' (k + 1 + (cs.length - k)) (xs.take (k * 2) ++ rowC x ++ xs.drop (k * 2))) (hmv : Moved W w') : ∃ M' c', v' = .slice (some ⟨M', 0, none⟩) (cs.take k ++ x :: cs.drop k).length c' ∧ CB lo w' M' c' (cs.take k ++ x :: cs.drop k) := by
  have hln : (cs.take k ++ x :: cs.drop k).length = k + 1 + (cs.length - k) := by simp; omega
  rcases hown.2 with ⟨_, e⟩ | ⟨g, cap, cur, e, hb, hgb, hc, hm, hz, ht⟩
  · omega
  · rw [hln]
    refine ⟨g, cap, e, hb, ⟨by rw [hln]; exact hc, hm⟩, ⟨cur, hgb, hz, fun i hi => ?_⟩, ⟨fun y hy => ?_, ?_⟩⟩
    · have hat : ∀ q, q < (k + 1 + (cs.length - k)) * 2 → cur[q]? = (xs.take (k * 2) ++ rowC x ++ xs.drop (k * 2))[q]? := fun q hq => by
        rw [← ht, List.getElem?_take_of_lt hq]; simp
      have htl : (xs.take (k * 2)).length = k * 2 := by rw [List.length_take, hN.len]; omega
      have hrl : (rowC x).length = 2 := rfl
      rw [hln] at hi
      rw [nthR_ins hk]
      by_cases h1 : i < k
      · rw [if_pos h1]
        refine (hN.cel i (by omega)).congr fun q _ hq => ?_
        show cur[q]? = xs[q]?
        rw [hat q (by omega), List.append_assoc, List.getElem?_append_left (by omega), List.getElem?_take_of_lt (by omega)]
      · rw [if_neg h1]
        by_cases h2 : i = k
        · rw [if_pos h2, h2]
          have hr : ∀ j, j < 2 → cur[k * 2 + j]? = (rowC x)[j]? := fun j hj => by
            rw [hat _ (by omega), List.append_assoc, List.getElem?_append_right (by omega), htl, List.getElem?_append_left (by omega)]
            congr 1; omega
          exact ⟨hr 0 (by omega), hr 1 (by omega)⟩
        · rw [if_neg h2]
          have hd : ∀ j, j < 2 → cur[i * 2 + j]? = xs[(i - 1) * 2 + j]? := fun j hj => by
            rw [hat _ (by omega), List.getElem?_append_right (by rw [List.length_append]; omega), List.getElem?_drop, List.length_append, htl, hrl]
            congr 1; omega
          obtain ⟨q0, q1⟩ := hN.cel (i - 1) (by omega)
          exact ⟨(hd 0 (by omega)).trans q0, (hd 1 (by omega)).trans q1⟩
    · rcases List.mem_append.1 hy with hy | hy
      · exact ab_moved (h.rows.rows y (List.mem_of_mem_take hy)) hmv
      · rcases List.mem_cons.1 hy with hy | hy
        · subst hy; exact ab_moved hx hmv
        · exact ab_moved (h.rows.rows y (List.mem_of_mem_drop hy)) hmv
    · have hp := h.rows.ne
      rw [← List.take_append_drop k cs, List.pairwise_append] at hp
      rw [List.pairwise_append, List.pairwise_cons]
      refine ⟨hp.1, ⟨fun y hy q h1 h2 => hne y (List.mem_of_mem_drop hy) q h2 h1, hp.2.1⟩, fun a ha b hb' => ?_⟩
      rcases List.mem_cons.1 hb' with hb' | hb'
      · subst hb'; exact hne a (List.mem_of_mem_take ha)
      · exact hp.2.2 a ha b hb'
theorem chs_ins (cs : List CRow) (x : CRow) (k : Nat) : chs (cs.take k ++ x :: cs.drop k) = (chs cs).take k ++ x.ch :: (chs cs).drop k := by simp [chs, List.map_take, List.map_drop]
end Go.Proofs.YtooninmicfcfoaaGreat.Ins
namespace Go.Proofs.YtooninmicfcfoaaGreat.PrtV
open Go.RowKit
open Labs LabS Alms AlmM Over Blk App Rws ChnI ChnC ChnP ChnK Chs Prt PrtO PrtF PrtC
open Fing (fingerB)

theorem AB.one {lo : Nat} {w : World} {M : Nat} {x : ARow} (h : Blk w M #[.slice (some ⟨x.1, 0, none⟩) x.2.2.l.length x.2.1, .int .i64 x.2.2.s, .int .i64 x.2.2.e, .string x.2.2.n] 29) (hl : lo ≤ M) (hx : OwnA lo w x) : AB lo w M 1 [x] :=
  ⟨hl, ⟨by simp, by unfold maxLen; omega⟩, ⟨_, h, rfl, fun i hi => by
    have e : i = 0 := by simp at hi; exact hi
    subst e
    exact ⟨rfl, rfl, rfl, rfl⟩⟩, fun y hy => by rw [List.mem_singleton.1 hy]; exact hx, List.pairwise_singleton _ _⟩
theorem bel_alloc {z w : World} (h : Below z.heap.size z w) (o : Obj) : Below z.heap.size z (w.alloc o) := h.alloc h.size o
set_option maxRecDepth 100000 in
set_option maxHeartbeats 4000000 in
theorem specPut_any (hd vr : Int) (a : Option Addr) (cap : Nat) (C : List PCh) (g o cap' : Nat) (x : PAl) (w : World) (hr : RdG RdN w a C) (hx : Reads w (some ⟨g, o, none⟩) x.l) (hl : C.length ≤ 1048576) (hs : Small C) (hc : C.length + sumC C ≤ 1048576) (hxl : x.l.length ≤ 1048576) (hxf : LabT.Fits x.l) :
    Calls Tryz.prog 10 #[.agg #[.int .i64 hd, .int .i64 vr, .slice a C.length cap], .agg #[.slice (some ⟨g, o, none⟩) x.l.length cap', .int .i64 x.s, .int .i64 x.e, .string x.n]] w fun e w' => (∃ M c cs, e = .returned (.tuple #[.agg #[.int .i64 hd, .int .i64 (IntKind.i64.wrap (vr + 1)), .slice (some ⟨M, 0, none⟩) cs.length c], .bool (newC C x)]) ∧ CB w.heap.size w' M c cs ∧ chs cs = putC C x) ∧ Below w.heap.size w w' := by
  have HR : Hid (RdG RdN w a C ∧ Reads w (some ⟨g, o, none⟩) x.l ∧ Small C ∧ C.length + sumC C ≤ 1048576 ∧ x.l.length ≤ 1048576 ∧ LabT.Fits x.l) := ⟨hr, hx, hs, hc, hxl, hxf⟩
  clear hr hx hs hc hxl hxf
  obtain ⟨vu, hvu⟩ : ∃ vu, IntKind.i64.wrap (vr + 1) = vu := ⟨_, rfl⟩
  rw [hvu]
  go_enter Tryz.func10, Tryz.ntmps10
  go_wp2_with fail
  obtain ⟨W0, hW0⟩ : ∃ W0, ((w.alloc (.cells #[.int .i64 hd, .int .i64 vr, .slice a C.length cap] 26)).alloc (.cells #[.slice (some ⟨g, o, none⟩) x.l.length cap', .int .i64 x.s, .int .i64 x.e, .string x.n] 29)).alloc (.cells #[.int .i64 0, .int .i64 0, .slice none 0 0] 26) = W0 := ⟨_, rfl⟩
  have HW0 : Hid (Below w.heap.size w W0 ∧ Blk W0 w.heap.size #[.int .i64 hd, .int .i64 vr, .slice a C.length cap] 26 ∧ Blk W0 (w.heap.size + 1) #[.slice (some ⟨g, o, none⟩) x.l.length cap', .int .i64 x.s, .int .i64 x.e, .string x.n] 29 ∧ Blk W0 (w.heap.size + 2) #[.int .i64 0, .int .i64 0, .slice none 0 0] 26 ∧ W0.heap.size = w.heap.size + 3) := by
    rw [← hW0]
    exact ⟨Alm.below3 w _ _ _, ((Blk.new _ _ _).alloc _).alloc _, (Blk.new_at (by simp)).alloc _, Blk.new_at (by simp), by simp⟩
  rw [hW0]
  clear hW0
  refine (l7Copy_any hd vr a cap C W0 (HR.out.1.below stays_rn HW0.out.1) hl HR.out.2.2.1).mono ?_
  rintro e w2 ⟨⟨Mo, co, cs, rfl, hcb, hch⟩, hb2⟩
  go_upto_region 2 with fail
  obtain ⟨W3, hW3⟩ : ∃ W3, w2.alloc (.cells #[.int .i64 hd, .int .i64 vr, .slice (some ⟨Mo, 0, none⟩) cs.length co] 26) = W3 := ⟨_, rfl⟩
  have hb3 : Below w2.heap.size w2 W3 := by rw [← hW3]; exact Go.Joins.below_alloc1 w2 _
  have hB3 : Blk W3 w2.heap.size #[.int .i64 hd, .int .i64 vr, .slice (some ⟨Mo, 0, none⟩) cs.length co] 26 := by rw [← hW3]; exact Blk.new _ _ _
  rw [hW3]
  clear hW3
  obtain ⟨W4, hW4⟩ : ∃ W4, W3.setCell ⟨w2.heap.size, 1, none⟩ (.int .i64 vu) = W4 := ⟨_, rfl⟩
  have H4 : Hid (Below W0.heap.size W0 W4 ∧ Blk W4 w2.heap.size #[.int .i64 hd, .int .i64 vu, .slice (some ⟨Mo, 0, none⟩) cs.length co] 26 ∧ CB W0.heap.size W4 Mo co cs ∧ chs cs = C ∧ W0.heap.size ≤ w2.heap.size) := by
    rw [← hW4]
    exact ⟨ChnI.set_low (grow_on hb2 hb3) hb2.size 1 _, hB3.set 1 _, CB.set' (hcb.grow hb3) hB3 1 _, hch, hb2.size⟩
  have z1 : W3.cell? ⟨w2.heap.size, 1, none⟩ = some (.int .i64 vr) := hB3.cell 1
  have zf := hB3.frozen 1
  have p1 : W3.cell? ⟨w.heap.size, 1, none⟩ = some (.int .i64 vr) := (HW0.out.2.1.grow (grow_on hb2 hb3)).cell 1
  have a0 : W4.cell? ⟨w.heap.size + 1, 0, none⟩ = some (.slice (some ⟨g, o, none⟩) x.l.length cap') := (HW0.out.2.2.1.grow H4.out.1).cell 0
  clear hcb hch hb2 hb3 hB3
  go_wp2_with fail
  refine (Fing.specFinger_any _ cap' x.l W4 (HR.out.2.1.below (grow_on HW0.out.1 H4.out.1)) (by have := HR.out.2.2.2.2.1; unfold maxLen; omega) HR.out.2.2.2.2.2).mono ?_
  rintro e w5 ⟨rfl, hb5⟩
  have H5 : Hid (Below W0.heap.size W0 w5 ∧ Blk w5 w2.heap.size #[.int .i64 hd, .int .i64 vu, .slice (some ⟨Mo, 0, none⟩) cs.length co] 26 ∧ CB W0.heap.size w5 Mo co cs) := ⟨grow_on H4.out.1 hb5, H4.out.2.1.grow hb5, H4.out.2.2.1.grow hb5⟩
  have b0 : w5.cell? ⟨w.heap.size, 0, none⟩ = some (.int .i64 hd) := (HW0.out.2.1.grow H5.out.1).cell 0
  have b1 : w5.cell? ⟨w.heap.size, 1, none⟩ = some (.int .i64 vr) := (HW0.out.2.1.grow H5.out.1).cell 1
  have b2 : w5.cell? ⟨w.heap.size, 2, none⟩ = some (.slice a C.length cap) := (HW0.out.2.1.grow H5.out.1).cell 2
  clear hb5 z1 zf p1 a0 hW4
  go_wp2_with fail
  refine (l7At_any hd vr _ a cap C w5 (HR.out.1.rd.below stays_rd (grow_on HW0.out.1 H5.out.1)) hl).mono ?_
  rintro e w6 ⟨rfl, hb6⟩
  have H6 : Hid (Below W0.heap.size W0 w6 ∧ Blk w6 w2.heap.size #[.int .i64 hd, .int .i64 vu, .slice (some ⟨Mo, 0, none⟩) cs.length co] 26 ∧ CB W0.heap.size w6 Mo co cs) := ⟨grow_on H5.out.1 hb6, H5.out.2.1.grow hb6, H5.out.2.2.grow hb6⟩
  clear hb6 b0 b1 b2
  rcases at_cases C (fingerB x.l : Int) with ⟨h0, h1, h2⟩ | ⟨k, h0, h1, hk, h3, h4⟩
  · rw [h1]
    have HE : Hid (putC C x = C.take (posB C (fingerB x.l : Int)) ++ ⟨fingerB x.l, [x]⟩ :: C.drop (posB C (fingerB x.l : Int)) ∧ newC C x = true) := put_none h0
    clear h0 h1 h2
    have b2 : w6.cell? ⟨w.heap.size, 2, none⟩ = some (.slice a C.length cap) := (HW0.out.2.1.grow H6.out.1).cell 2
    obtain ⟨F, hF⟩ : ∃ F : Int, (fingerB x.l : Int) = F := ⟨_, rfl⟩
    rw [hF] at HE ⊢
    go_wp2
    go_loopw [8] (fun v w' => ∃ k : Nat, v = .int .i64 k ∧ k ≤ C.length ∧ (∀ j, j < k → (nthC C j).f < F) ∧ w' = w6) (fun v _ => C.length - (intOf v).toNat)
    case atStart => exact ⟨0, rfl, Nat.zero_le _, fun j hj => by omega, rfl⟩
    case round =>
      obtain ⟨k, rfl, hk, hlow, hwr⟩ := hrel
      subst hwr
      have HL : Hid (∀ j, j < k → (nthC C j).f < F) := hlow
      clear hlow
      by_cases hkl : k < C.length
      · have hk' : (k : Int) < (C.length : Int) := by omega
        obtain ⟨b, off, ea, hb, ad, cp, hat⟩ := (HR.out.1.below stays_rn (grow_on HW0.out.1 H6.out.1)).get hkl
        have y0 := hat.c0
        have HEA : Hid (a = some ⟨b, off, none⟩) := ea
        rw [ea] at b2
        clear hat hb ea
        by_cases hf : (nthC C k).f < F
        · go_wp2
          go_roundw
          case rel => exact ⟨k + 1, by go_num, by omega, fun j hj => by
            by_cases e : j = k
            · subst e; exact hf
            · exact HL.out j (by omega), by first | rfl | trivial⟩
          case measure => simp [intOf]; omega
        · have HP : Hid (posB C F = k ∧ k ≤ C.length) := ⟨pos_at HL.out hf hkl, hk⟩
          have hf' : ¬ (nthC C k).f < F := hf
          go_upto_region 12 with fail
          have a0 : wr.cell? ⟨w.heap.size + 1, 0, none⟩ = some (.slice (some ⟨g, o, none⟩) x.l.length cap') := (HW0.out.2.2.1.grow H6.out.1).cell 0
          have a1 : wr.cell? ⟨w.heap.size + 1, 1, none⟩ = some (.int .i64 x.s) := (HW0.out.2.2.1.grow H6.out.1).cell 1
          have a2 : wr.cell? ⟨w.heap.size + 1, 2, none⟩ = some (.int .i64 x.e) := (HW0.out.2.2.1.grow H6.out.1).cell 2
          have a3 : wr.cell? ⟨w.heap.size + 1, 3, none⟩ = some (.string x.n) := (HW0.out.2.2.1.grow H6.out.1).cell 3
          go_wp2_with fail
          refine (copyS_any g o cap' x.l x.s x.e x.n wr (HR.out.2.1.below (grow_on HW0.out.1 H6.out.1)) HR.out.2.2.2.2.1).mono ?_
          rintro r w8 ⟨⟨My, cy, rfl, hO⟩, hb8⟩
          go_upto_region 13 with fail
          obtain ⟨W9, hW9⟩ : ∃ W9, (w8.alloc (.cells #[.slice (some ⟨My, 0, none⟩) x.l.length cy, .int .i64 x.s, .int .i64 x.e, .string x.n] 29)).alloc (.cells #[.int .i64 F, .slice (some ⟨w8.heap.size, 0, none⟩) 1 1] 96) = W9 := ⟨_, rfl⟩
          have H9 : Hid (Below wr.heap.size wr W9 ∧ Blk W9 (w8.heap.size + 1) #[.int .i64 F, .slice (some ⟨w8.heap.size, 0, none⟩) 1 1] 96 ∧ AB wr.heap.size W9 w8.heap.size 1 [(My, cy, x)] ∧ wr.heap.size ≤ w8.heap.size) := by
            have hbb : Below w8.heap.size w8 W9 := by rw [← hW9]; exact Go.Joins.below_alloc2 w8 _ _
            have hB : Blk W9 w8.heap.size #[.slice (some ⟨My, 0, none⟩) x.l.length cy, .int .i64 x.s, .int .i64 x.e, .string x.n] 29 := by rw [← hW9]; exact (Blk.new _ _ _).alloc _
            have hC : Blk W9 (w8.heap.size + 1) #[.int .i64 F, .slice (some ⟨w8.heap.size, 0, none⟩) 1 1] 96 := by rw [← hW9]; exact Blk.new_at (by simp)
            obtain ⟨q1, ds, q2, q3⟩ := hO
            exact ⟨grow_on hb8 hbb, hC, AB.one (x := (My, cy, x)) hB hb8.size ⟨q1, HR.out.2.2.2.2.1, ds, q2.grow hbb, q3⟩, hb8.size⟩
          try rw [hW9]
          clear hW9 hO hb8 a0 a1 a2 a3
          have H13 : Hid (Below W0.heap.size W0 W9 ∧ Blk W9 w2.heap.size #[.int .i64 hd, .int .i64 vu, .slice (some ⟨Mo, 0, none⟩) cs.length co] 26 ∧ CB W0.heap.size W9 Mo co cs) := ⟨grow_on H6.out.1 H9.out.1, H6.out.2.1.grow H9.out.1, H6.out.2.2.grow H9.out.1⟩
          obtain ⟨xs, hN⟩ := Ins.CB.news H13.out.2.2
          have HN : Hid (Ins.News W9 Mo co cs xs) := hN
          have hcl : cs.length = C.length := by rw [← chs_len, H4.out.2.2.2.1]
          have hkc : k ≤ cs.length := by have := HP.out.2; omega
          have hcc : cs.length ≤ co := H13.out.2.2.cap.1
          have hkc1 : (k : Int) ≤ (cs.length : Int) := by omega
          have hkc2 : (k : Int) ≤ (co : Int) := by omega
          have hkc3 : (cs.length : Int) ≤ (co : Int) := by omega
          have hkc4 : k ≤ co := by omega
          have hcl6 : cs.length ≤ 1048576 := by omega
          obtain ⟨j0, hj, hy0, hy1, hy2⟩ := info_parts infoC
          have HI : Hid (Tryz.prog.info? 96 = some j0 ∧ j0.zero = some (.agg #[.int .i64 0, .slice none 0 0]) ∧ j0.size = 2 ∧ j0.bytes = 32) := ⟨hj, hy0, hy1, hy2⟩
          have HX : Hid (AB W0.heap.size W9 (⟨F, w8.heap.size, 1, [(My, cy, x)]⟩ : CRow).M (⟨F, w8.heap.size, 1, [(My, cy, x)]⟩ : CRow).c (⟨F, w8.heap.size, 1, [(My, cy, x)]⟩ : CRow).rs ∧ ∀ y ∈ cs, ∀ q, blks y.M y.rs q → ¬ blks (⟨F, w8.heap.size, 1, [(My, cy, x)]⟩ : CRow).M (⟨F, w8.heap.size, 1, [(My, cy, x)]⟩ : CRow).rs q) := ⟨H9.out.2.2.1.down H6.out.1.size, RowsC.fresh (x := (⟨F, w8.heap.size, 1, [(My, cy, x)]⟩ : CRow)) H6.out.2.2.rows H9.out.2.2.1 (Nat.le_refl _)⟩
          have HS : Hid (∀ w', Below W9.heap.size W9 w' → w'.cell? ⟨w2.heap.size, 2, none⟩ = some (.slice (some ⟨Mo, 0, none⟩) cs.length co) ∧ w'.cell? ⟨w8.heap.size + 1, 0, none⟩ = some (.int .i64 F) ∧ w'.cell? ⟨w8.heap.size + 1, 1, none⟩ = some (.slice (some ⟨w8.heap.size, 0, none⟩) 1 1)) := fun w' hz => ⟨(H13.out.2.1.grow hz).cell 2, (H9.out.2.1.grow hz).cell 0, (H9.out.2.1.grow hz).cell 1⟩
          clear hN hj hy0 hy1 hy2 hcl
          refine Hld.wp_region_LH (z := 15) (S := fun w' => w'.cell? ⟨w2.heap.size, 2, none⟩ = some (.slice (some ⟨Mo, 0, none⟩) cs.length co) ∧ w'.cell? ⟨w8.heap.size + 1, 0, none⟩ = some (.int .i64 F) ∧ w'.cell? ⟨w8.heap.size + 1, 1, none⟩ = some (.slice (some ⟨w8.heap.size, 0, none⟩) 1 1)) (by kernel_rfl) (HS.out _ (Below.refl W9.heap.size W9).drew) (fun hHeld => ?_)
          refine Hld.anyL_take (i := 1) (oi := { dst := some 66, op := Op.fieldAddr 26 (Operand.tmp 6) 2, type := 0, pos := "l07_part.go:71", after := #[], guard := none }) (v := ?vya1) rfl (by kernel_rfl) (by kernel_rfl) (by kernel_rfl) (by kernel_rfl) (fun _ _ _ h => h) (Or.inl ⟨by rfl, ?hyya1⟩) hHeld ?_
          case hyya1 => (intro w hSw; (try dsimp only at hSw); go_simp <;> with_reducible rfl)
          try simp only [Act.put, List.setIfInBounds_toArray, List.set_cons_zero, List.set_cons_succ]
          refine Hld.anyL_take (i := 2) (oi := { dst := some 67, op := Op.load 24 (Operand.tmp 66), type := 24, pos := "l07_part.go:71", after := #[{ on := 1, ground := Ground.data }], guard := none }) (v := ?vya2) rfl (by kernel_rfl) (by kernel_rfl) (by kernel_rfl) (by kernel_rfl) (fun _ _ _ h => h) (Or.inl ⟨by rfl, ?hyya2⟩) hHeld ?_
          case hyya2 => (intro w hSw; (try dsimp only at hSw); go_simp <;> with_reducible rfl)
          try simp only [Act.put, List.setIfInBounds_toArray, List.set_cons_zero, List.set_cons_succ]
          refine Hld.anyL_take (i := 3) (oi := { dst := some 68, op := Op.move (Operand.tmp 8), type := 3, pos := "l07_part.go:71", after := #[], guard := none }) (v := ?vya3) rfl (by kernel_rfl) (by kernel_rfl) (by kernel_rfl) (by kernel_rfl) (fun _ _ _ h => h) (Or.inl ⟨by rfl, ?hyya3⟩) hHeld ?_
          case hyya3 => (intro w hSw; (try dsimp only at hSw); go_simp <;> with_reducible rfl)
          try simp only [Act.put, List.setIfInBounds_toArray, List.set_cons_zero, List.set_cons_succ]
          refine Hld.anyL_take (i := 4) (oi := { dst := some 69, op := Op.slice 24 (Operand.tmp 67) none (some (Operand.tmp 68)) none, type := 24, pos := "l07_part.go:71", after := #[{ on := 2, ground := Ground.data }, { on := 3, ground := Ground.data }], guard := none }) (v := ?vya4) rfl (by kernel_rfl) (by kernel_rfl) (by kernel_rfl) (by kernel_rfl) (fun _ _ _ h => h) (Or.inl ⟨by rfl, ?hyya4⟩) hHeld ?_
          case hyya4 => (intro w hSw; (try dsimp only at hSw); go_simp <;> with_reducible rfl)
          try simp only [Act.put, List.setIfInBounds_toArray, List.set_cons_zero, List.set_cons_succ]
          refine Hld.anyL_take (i := 6) (oi := { dst := some 71, op := Op.load 96 (Operand.tmp 11), type := 96, pos := "l07_part.go:71", after := #[], guard := none }) (v := ?vya5) rfl (by kernel_rfl) (by kernel_rfl) (by kernel_rfl) (by kernel_rfl) (fun _ _ _ h => h) (Or.inl ⟨by rfl, ?hyya5⟩) hHeld ?_
          case hyya5 => (intro w hSw; (try dsimp only at hSw); go_simp <;> with_reducible rfl)
          try simp only [Act.put, List.setIfInBounds_toArray, List.set_cons_zero, List.set_cons_succ]
          refine Hld.anyL_take (i := 9) (oi := { dst := some 74, op := Op.fieldAddr 26 (Operand.tmp 6) 2, type := 0, pos := "l07_part.go:71", after := #[], guard := none }) (v := ?vya6) rfl (by kernel_rfl) (by kernel_rfl) (by kernel_rfl) (by kernel_rfl) (fun _ _ _ h => h) (Or.inl ⟨by rfl, ?hyya6⟩) hHeld ?_
          case hyya6 => (intro w hSw; (try dsimp only at hSw); go_simp <;> with_reducible rfl)
          try simp only [Act.put, List.setIfInBounds_toArray, List.set_cons_zero, List.set_cons_succ]
          refine Hld.anyL_take (i := 10) (oi := { dst := some 75, op := Op.load 24 (Operand.tmp 74), type := 24, pos := "l07_part.go:71", after := #[{ on := 9, ground := Ground.data }], guard := none }) (v := ?vya7) rfl (by kernel_rfl) (by kernel_rfl) (by kernel_rfl) (by kernel_rfl) (fun _ _ _ h => h) (Or.inl ⟨by rfl, ?hyya7⟩) hHeld ?_
          case hyya7 => (intro w hSw; (try dsimp only at hSw); go_simp <;> with_reducible rfl)
          try simp only [Act.put, List.setIfInBounds_toArray, List.set_cons_zero, List.set_cons_succ]
          refine Hld.anyL_take (i := 11) (oi := { dst := some 76, op := Op.move (Operand.tmp 8), type := 3, pos := "l07_part.go:71", after := #[], guard := none }) (v := ?vya8) rfl (by kernel_rfl) (by kernel_rfl) (by kernel_rfl) (by kernel_rfl) (fun _ _ _ h => h) (Or.inl ⟨by rfl, ?hyya8⟩) hHeld ?_
          case hyya8 => (intro w hSw; (try dsimp only at hSw); go_simp <;> with_reducible rfl)
          try simp only [Act.put, List.setIfInBounds_toArray, List.set_cons_zero, List.set_cons_succ]
          refine Hld.anyL_take (i := 12) (oi := { dst := some 77, op := Op.slice 24 (Operand.tmp 75) (some (Operand.tmp 76)) none none, type := 24, pos := "l07_part.go:71", after := #[{ on := 10, ground := Ground.data }, { on := 11, ground := Ground.data }], guard := none }) (v := ?vya9) rfl (by kernel_rfl) (by kernel_rfl) (by kernel_rfl) (by kernel_rfl) (fun _ _ _ h => h) (Or.inl ⟨by rfl, ?hyya9⟩) hHeld ?_
          case hyya9 => (intro w hSw; (try dsimp only at hSw); go_simp <;> with_reducible rfl)
          try simp only [Act.put, List.setIfInBounds_toArray, List.set_cons_zero, List.set_cons_succ]
          refine Hld.anyL_ready (rs := [0, 7]) (by kernel_rfl) (by simp) ?_
          refine Hld.AllL.cons (o := { dst := some 65, op := Op.buildSlice 24 0 #[], type := 24, pos := "l07_part.go:71", after := #[], guard := none }) rfl (fun K hK => ?_) ?_
          ·
            go_simp
            clear hHeld
            refine hK.out _ _ (HS.out _ (bel_alloc ((Below.refl W9.heap.size W9).drew) _)) (fun hHeld => ?_)
            clear hK K
            try simp only [Act.put, List.setIfInBounds_toArray, List.set_cons_zero, List.set_cons_succ]
            refine Hld.anyL_ready (rs := [5, 7]) (by kernel_rfl) (by simp) ?_
            refine Hld.AllL.cons (o := { dst := some 70, op := Op.call { callee := Callee.builtin Builtin.append, args := #[Operand.tmp 65, Operand.tmp 69], argTypes := #[24, 24] }, type := 24, pos := "l07_part.go:71", after := #[{ on := 0, ground := Ground.data }, { on := 4, ground := Ground.data }], guard := none }) rfl (fun K hK => ?_) ?_
            ·
              refine step_app (by rfl) _ _ 24 (by rfl) 96 j0 _ 2 32 Tryz.underlying24 HI.out.1 HI.out.2.1 HI.out.2.2.1 HI.out.2.2.2 (by rfl) (by decide) W9 (bel_alloc ((Below.refl W9.heap.size W9).drew) _) _ 0 [] (by rfl) (own_empty (Blk.new W9.drew _ _) (Nat.le_refl _)) ⟨Mo, 0, none⟩ k co (xs.take (k * 2)) (by rfl) ?yah1x0 (HN.out.fst _ (bel_alloc ((Below.refl W9.heap.size W9).drew) _) k hkc) ?yah1x1 ?yah1x2 ?yah1x3 ?_
              case yah1x0 => rw [List.length_take, HN.out.len]; omega
              case yah1x1 => exact fun u hu => HN.out.one u (List.mem_of_mem_take hu)
              case yah1x2 => unfold maxLen; omega
              case yah1x3 => omega
              intro v1 w3 hown1 bl1 hg1 hat1
              rw [Nat.zero_add, List.nil_append] at hown1
              have HO1 : Hid (w3.ownsRow W9.heap.size 96 2 v1 k (xs.take (k * 2)) ∧ Below W9.heap.size W9 w3) := ⟨hown1, bl1⟩
              clear hown1 bl1 hg1 hat1
              clear hHeld
              refine hK.out _ _ (HS.out _ (HO1.out.2)) (fun hHeld => ?_)
              clear hK K
              try simp only [Act.put, List.setIfInBounds_toArray, List.set_cons_zero, List.set_cons_succ]
              refine Hld.anyL_ready (rs := [7]) (by kernel_rfl) (by simp) ?_
              refine Hld.AllL.cons (o := { dst := some 72, op := Op.buildSlice 24 1 #[(0, Operand.tmp 71)], type := 24, pos := "l07_part.go:71", after := #[{ on := 6, ground := Ground.data }], guard := none }) rfl (fun K hK => ?_) Hld.AllL.nil
              go_simp
              clear hHeld
              refine hK.out _ _ (HS.out _ ((bel_alloc HO1.out.2 _))) (fun hHeld => ?_)
              clear hK K
              try simp only [Act.put, List.setIfInBounds_toArray, List.set_cons_zero, List.set_cons_succ]
              refine Hld.anyL_ready (rs := [8]) (by kernel_rfl) (by simp) ?_
              refine Hld.AllL.cons (o := { dst := some 73, op := Op.call { callee := Callee.builtin Builtin.append, args := #[Operand.tmp 70, Operand.tmp 72], argTypes := #[24, 24] }, type := 24, pos := "l07_part.go:71", after := #[{ on := 5, ground := Ground.data }, { on := 7, ground := Ground.data }, { on := 5, ground := Ground.chain }], guard := none }) rfl (fun K hK => ?_) Hld.AllL.nil
              refine step_app (by rfl) _ _ 24 (by rfl) 96 j0 _ 2 32 Tryz.underlying24 HI.out.1 HI.out.2.1 HI.out.2.2.1 HI.out.2.2.2 (by rfl) (by decide) W9 ((bel_alloc HO1.out.2 _)) v1 k (xs.take (k * 2)) (by rfl) ((own_grow HO1.out.1 (Go.Joins.below_alloc1 w3 _))) ⟨w3.heap.size, 0, none⟩ 1 1 (rowC (⟨F, w8.heap.size, 1, [(My, cy, x)]⟩ : CRow)) (by rfl) (by rfl) (blk_news (Blk.new w3 _ _)) (rowC_one _) ?yah2x0 ?yah2x1 ?_
              case yah2x0 => unfold maxLen; omega
              case yah2x1 => omega
              intro v2 w4 hown2 bl2 hg2 hat2
              have HO2 : Hid (w4.ownsRow W9.heap.size 96 2 v2 (k + 1) (xs.take (k * 2) ++ rowC (⟨F, w8.heap.size, 1, [(My, cy, x)]⟩ : CRow)) ∧ Below W9.heap.size W9 w4) := ⟨hown2, bl2⟩
              clear hown2 bl2 hg2 hat2
              clear hHeld
              refine hK.out _ _ (HS.out _ (HO2.out.2)) (fun hHeld => ?_)
              clear hK K
              try simp only [Act.put, List.setIfInBounds_toArray, List.set_cons_zero, List.set_cons_succ]
              refine Hld.anyL_ready (rs := [13]) (by kernel_rfl) (by simp) ?_
              refine Hld.AllL.cons (o := { dst := some 78, op := Op.call { callee := Callee.builtin Builtin.append, args := #[Operand.tmp 73, Operand.tmp 77], argTypes := #[24, 24] }, type := 24, pos := "l07_part.go:71", after := #[{ on := 8, ground := Ground.data }, { on := 12, ground := Ground.data }, { on := 8, ground := Ground.chain }], guard := none }) rfl (fun K hK => ?_) Hld.AllL.nil
              refine step_app (by rfl) _ _ 24 (by rfl) 96 j0 _ 2 32 Tryz.underlying24 HI.out.1 HI.out.2.1 HI.out.2.2.1 HI.out.2.2.2 (by rfl) (by decide) W9 HO2.out.2 v2 (k + 1) (xs.take (k * 2) ++ rowC (⟨F, w8.heap.size, 1, [(My, cy, x)]⟩ : CRow)) (by rfl) HO2.out.1 (if co = k then (⟨Mo, 0, none⟩ : Addr) else ⟨Mo, k * 2, none⟩) (cs.length - k) (co - k) (xs.drop (k * 2)) (by first | rfl | exact Ins.if_slice _ _ _ _) ?yah3x0 (HN.out.snd _ HO2.out.2 k hkc) ?yah3x1 ?yah3x2 ?yah3x3 ?_
              case yah3x0 => rw [List.length_drop, HN.out.len]; omega
              case yah3x1 => exact fun u hu => HN.out.one u (List.mem_of_mem_drop hu)
              case yah3x2 => unfold maxLen; omega
              case yah3x3 => omega
              intro v3 w5 hown3 bl3 hg3 hat3
              obtain ⟨M5, c5, ev, hCB5⟩ := Ins.CB.ins (k := k) (x := (⟨F, w8.heap.size, 1, [(My, cy, x)]⟩ : CRow)) H13.out.2.2 HN.out HX.out.1 HX.out.2 hkc (own_mono hown3 H13.out.1.size) (Moved.of bl3)
              obtain ⟨Ls, hLs⟩ : ∃ Ls, cs.take k ++ (⟨F, w8.heap.size, 1, [(My, cy, x)]⟩ : CRow) :: cs.drop k = Ls := ⟨_, rfl⟩
              rw [hLs] at ev hCB5
              have HL : Hid (cs.take k ++ (⟨F, w8.heap.size, 1, [(My, cy, x)]⟩ : CRow) :: cs.drop k = Ls) := hLs
              subst ev
              have HO3 : Hid (CB W0.heap.size w5 M5 c5 Ls ∧ Below W9.heap.size W9 w5 ∧ Blk w5 w2.heap.size #[.int .i64 hd, .int .i64 vu, .slice (some ⟨Mo, 0, none⟩) cs.length co] 26) := ⟨hCB5, bl3, H13.out.2.1.grow bl3⟩
              clear hLs hown3 bl3 hg3 hat3 hCB5
              clear hHeld
              refine hK.out _ _ (HS.out _ (HO3.out.2.1)) (fun hHeld => ?_)
              clear hK K
              try simp only [Act.put, List.setIfInBounds_toArray, List.set_cons_zero, List.set_cons_succ]
              refine Hld.anyL_take (i := 14) (oi := { dst := some 79, op := Op.fieldAddr 26 (Operand.tmp 6) 2, type := 0, pos := "l07_part.go:71", after := #[{ on := 0, ground := Ground.phase }, { on := 1, ground := Ground.phase }, { on := 2, ground := Ground.phase }, { on := 3, ground := Ground.phase }, { on := 4, ground := Ground.phase }, { on := 5, ground := Ground.phase }, { on := 6, ground := Ground.phase }, { on := 7, ground := Ground.phase }, { on := 8, ground := Ground.phase }, { on := 9, ground := Ground.phase }, { on := 10, ground := Ground.phase }, { on := 11, ground := Ground.phase }, { on := 12, ground := Ground.phase }, { on := 13, ground := Ground.phase }], guard := none }) (v := ?vya15) rfl (by kernel_rfl) (by kernel_rfl) (by kernel_rfl) (by kernel_rfl) (fun _ _ _ h => h) (Or.inl ⟨by rfl, ?hyya15⟩) hHeld ?_
              case hyya15 => (intro w hSw; (try dsimp only at hSw); go_simp <;> with_reducible rfl)
              try simp only [Act.put, List.setIfInBounds_toArray, List.set_cons_zero, List.set_cons_succ]
              refine Hld.anyL_ready (rs := [15]) (by kernel_rfl) (by simp) ?_
              refine Hld.AllL.last (o := { dst := none, op := Op.store 24 (Operand.tmp 79) (Operand.tmp 78), type := 0, pos := "l07_part.go:71", after := #[{ on := 14, ground := Ground.data }, { on := 13, ground := Ground.data }, { on := 13, ground := Ground.chain }, { on := 0, ground := Ground.phase }, { on := 1, ground := Ground.phase }, { on := 2, ground := Ground.phase }, { on := 3, ground := Ground.phase }, { on := 4, ground := Ground.phase }, { on := 5, ground := Ground.phase }, { on := 6, ground := Ground.phase }, { on := 7, ground := Ground.phase }, { on := 8, ground := Ground.phase }, { on := 9, ground := Ground.phase }, { on := 10, ground := Ground.phase }, { on := 11, ground := Ground.phase }, { on := 12, ground := Ground.phase }, { on := 13, ground := Ground.phase }], guard := none }) rfl (fun K hK => ?_)
              have g2 : w5.cell? ⟨w2.heap.size, 2, none⟩ = some (.slice (some ⟨Mo, 0, none⟩) cs.length co) := HO3.out.2.2.cell 2
              have gf := HO3.out.2.2.frozen 2
              go_simp
              refine hK.out _ _ ?_
              clear hK K g2 gf
              try simp only [Act.put, List.setIfInBounds_toArray, List.set_cons_zero, List.set_cons_succ]
              refine Hld.anyL_done (by kernel_rfl) ?_ _
              obtain ⟨WX, hWX⟩ : ∃ WX, w5.setCell ⟨w2.heap.size, 2, none⟩ (.slice (some ⟨M5, 0, none⟩) Ls.length c5) = WX := ⟨_, rfl⟩
              have H14 : Hid (Below W0.heap.size W0 WX ∧ Blk WX w2.heap.size #[.int .i64 hd, .int .i64 vu, .slice (some ⟨M5, 0, none⟩) Ls.length c5] 26 ∧ CB W0.heap.size WX M5 c5 Ls) := by
                rw [← hWX]
                exact ⟨ChnI.set_low (grow_on H13.out.1 HO3.out.2.1) H4.out.2.2.2.2 2 _, HO3.out.2.2.set 2 _, CB.set' HO3.out.1 HO3.out.2.2 2 _⟩
              try rw [hWX]
              clear hWX hHeld
              have r0 : WX.cell? ⟨w2.heap.size, 0, none⟩ = some (.int .i64 hd) := H14.out.2.1.cell 0
              have r1 : WX.cell? ⟨w2.heap.size, 1, none⟩ = some (.int .i64 vu) := H14.out.2.1.cell 1
              have r2 : WX.cell? ⟨w2.heap.size, 2, none⟩ = some (.slice (some ⟨M5, 0, none⟩) Ls.length c5) := H14.out.2.1.cell 2
              have HRB : Hid (Blk WX (w.heap.size + 2) #[.int .i64 0, .int .i64 0, .slice none 0 0] 26) := HW0.out.2.2.2.1.grow H14.out.1
              have t0 : WX.cell? ⟨w.heap.size + 2, 0, none⟩ = some (.int .i64 0) := HRB.out.cell 0
              have t1 : WX.cell? ⟨w.heap.size + 2, 1, none⟩ = some (.int .i64 0) := HRB.out.cell 1
              have t2 : WX.cell? ⟨w.heap.size + 2, 2, none⟩ = some (.slice none 0 0) := HRB.out.cell 2
              have tf0 := HRB.out.frozen 0
              have tf1 := HRB.out.frozen 1
              have tf2 := HRB.out.frozen 2
              go_wp2
              all_goals (
                have hs := put3 HRB.out (.int .i64 hd) (.int .i64 vu) (.slice (some ⟨M5, 0, none⟩) Ls.length c5)
                have s0 := hs.cell 0
                have s1 := hs.cell 1
                have s2 := hs.cell 2
                refine bodyPost_ret (v := .tuple #[.agg #[.int .i64 hd, .int .i64 vu, .slice (some ⟨M5, 0, none⟩) Ls.length c5], .bool true]) (by simp [results, Tryz.results10, go_sem, s0, s1, s2]) rfl ?_
                rw [HE.out.2]
                refine ⟨⟨M5, c5, Ls, rfl, (CB.set3 H14.out.2.2 HRB.out _ _ _).down HW0.out.1.size, ?_⟩, set3 (grow_on HW0.out.1 H14.out.1) (by omega) _ _ _⟩
                rw [← HL.out, Ins.chs_ins, H4.out.2.2.2.1, HE.out.1, HP.out.1]
                rfl)
            refine Hld.AllL.cons (o := { dst := some 72, op := Op.buildSlice 24 1 #[(0, Operand.tmp 71)], type := 24, pos := "l07_part.go:71", after := #[{ on := 6, ground := Ground.data }], guard := none }) rfl (fun K hK => ?_) Hld.AllL.nil
            go_simp
            clear hHeld
            refine hK.out _ _ (HS.out _ (bel_alloc (bel_alloc ((Below.refl W9.heap.size W9).drew) _) _)) (fun hHeld => ?_)
            clear hK K
            try simp only [Act.put, List.setIfInBounds_toArray, List.set_cons_zero, List.set_cons_succ]
            refine Hld.anyL_ready (rs := [5]) (by kernel_rfl) (by simp) ?_
            refine Hld.AllL.cons (o := { dst := some 70, op := Op.call { callee := Callee.builtin Builtin.append, args := #[Operand.tmp 65, Operand.tmp 69], argTypes := #[24, 24] }, type := 24, pos := "l07_part.go:71", after := #[{ on := 0, ground := Ground.data }, { on := 4, ground := Ground.data }], guard := none }) rfl (fun K hK => ?_) Hld.AllL.nil
            refine step_app (by rfl) _ _ 24 (by rfl) 96 j0 _ 2 32 Tryz.underlying24 HI.out.1 HI.out.2.1 HI.out.2.2.1 HI.out.2.2.2 (by rfl) (by decide) W9 (bel_alloc (bel_alloc ((Below.refl W9.heap.size W9).drew) _) _) _ 0 [] (by rfl) (own_empty ((Blk.new W9.drew _ _).alloc _) (Nat.le_refl _)) ⟨Mo, 0, none⟩ k co (xs.take (k * 2)) (by rfl) ?yah4x0 (HN.out.fst _ (bel_alloc (bel_alloc ((Below.refl W9.heap.size W9).drew) _) _) k hkc) ?yah4x1 ?yah4x2 ?yah4x3 ?_
            case yah4x0 => rw [List.length_take, HN.out.len]; omega
            case yah4x1 => exact fun u hu => HN.out.one u (List.mem_of_mem_take hu)
            case yah4x2 => unfold maxLen; omega
            case yah4x3 => omega
            intro v1 w3 hown1 bl1 hg1 hat1
            rw [Nat.zero_add, List.nil_append] at hown1
            have HO1 : Hid (w3.ownsRow W9.heap.size 96 2 v1 k (xs.take (k * 2)) ∧ Below W9.heap.size W9 w3) := ⟨hown1, bl1⟩
            have HB1 : Hid (Blk w3 (W9.heap.size + 1) (rowC (⟨F, w8.heap.size, 1, [(My, cy, x)]⟩ : CRow)).toArray 96) := blk_far (M := W9.heap.size + 1) (Blk.new_at (w := W9.alloc (.cells #[] 96)) (by simp)).drew hg1 (fun e => absurd (show W9.heap.size + 1 = W9.heap.size from Option.some.inj e) (by omega))
            clear hown1 bl1 hg1 hat1
            clear hHeld
            refine hK.out _ _ (HS.out _ (HO1.out.2)) (fun hHeld => ?_)
            clear hK K
            try simp only [Act.put, List.setIfInBounds_toArray, List.set_cons_zero, List.set_cons_succ]
            refine Hld.anyL_ready (rs := [8]) (by kernel_rfl) (by simp) ?_
            refine Hld.AllL.cons (o := { dst := some 73, op := Op.call { callee := Callee.builtin Builtin.append, args := #[Operand.tmp 70, Operand.tmp 72], argTypes := #[24, 24] }, type := 24, pos := "l07_part.go:71", after := #[{ on := 5, ground := Ground.data }, { on := 7, ground := Ground.data }, { on := 5, ground := Ground.chain }], guard := none }) rfl (fun K hK => ?_) Hld.AllL.nil
            refine step_app (by rfl) _ _ 24 (by rfl) 96 j0 _ 2 32 Tryz.underlying24 HI.out.1 HI.out.2.1 HI.out.2.2.1 HI.out.2.2.2 (by rfl) (by decide) W9 (HO1.out.2) v1 k (xs.take (k * 2)) (by rfl) (HO1.out.1) ⟨W9.heap.size + 1, 0, none⟩ 1 1 (rowC (⟨F, w8.heap.size, 1, [(My, cy, x)]⟩ : CRow)) (by rfl) (by rfl) (blk_news (HB1.out)) (rowC_one _) ?yah5x0 ?yah5x1 ?_
            case yah5x0 => unfold maxLen; omega
            case yah5x1 => omega
            intro v2 w4 hown2 bl2 hg2 hat2
            have HO2 : Hid (w4.ownsRow W9.heap.size 96 2 v2 (k + 1) (xs.take (k * 2) ++ rowC (⟨F, w8.heap.size, 1, [(My, cy, x)]⟩ : CRow)) ∧ Below W9.heap.size W9 w4) := ⟨hown2, bl2⟩
            clear hown2 bl2 hg2 hat2
            clear hHeld
            refine hK.out _ _ (HS.out _ (HO2.out.2)) (fun hHeld => ?_)
            clear hK K
            try simp only [Act.put, List.setIfInBounds_toArray, List.set_cons_zero, List.set_cons_succ]
            refine Hld.anyL_ready (rs := [13]) (by kernel_rfl) (by simp) ?_
            refine Hld.AllL.cons (o := { dst := some 78, op := Op.call { callee := Callee.builtin Builtin.append, args := #[Operand.tmp 73, Operand.tmp 77], argTypes := #[24, 24] }, type := 24, pos := "l07_part.go:71", after := #[{ on := 8, ground := Ground.data }, { on := 12, ground := Ground.data }, { on := 8, ground := Ground.chain }], guard := none }) rfl (fun K hK => ?_) Hld.AllL.nil
            refine step_app (by rfl) _ _ 24 (by rfl) 96 j0 _ 2 32 Tryz.underlying24 HI.out.1 HI.out.2.1 HI.out.2.2.1 HI.out.2.2.2 (by rfl) (by decide) W9 HO2.out.2 v2 (k + 1) (xs.take (k * 2) ++ rowC (⟨F, w8.heap.size, 1, [(My, cy, x)]⟩ : CRow)) (by rfl) HO2.out.1 (if co = k then (⟨Mo, 0, none⟩ : Addr) else ⟨Mo, k * 2, none⟩) (cs.length - k) (co - k) (xs.drop (k * 2)) (by first | rfl | exact Ins.if_slice _ _ _ _) ?yah6x0 (HN.out.snd _ HO2.out.2 k hkc) ?yah6x1 ?yah6x2 ?yah6x3 ?_
            case yah6x0 => rw [List.length_drop, HN.out.len]; omega
            case yah6x1 => exact fun u hu => HN.out.one u (List.mem_of_mem_drop hu)
            case yah6x2 => unfold maxLen; omega
            case yah6x3 => omega
            intro v3 w5 hown3 bl3 hg3 hat3
            obtain ⟨M5, c5, ev, hCB5⟩ := Ins.CB.ins (k := k) (x := (⟨F, w8.heap.size, 1, [(My, cy, x)]⟩ : CRow)) H13.out.2.2 HN.out HX.out.1 HX.out.2 hkc (own_mono hown3 H13.out.1.size) (Moved.of bl3)
            obtain ⟨Ls, hLs⟩ : ∃ Ls, cs.take k ++ (⟨F, w8.heap.size, 1, [(My, cy, x)]⟩ : CRow) :: cs.drop k = Ls := ⟨_, rfl⟩
            rw [hLs] at ev hCB5
            have HL : Hid (cs.take k ++ (⟨F, w8.heap.size, 1, [(My, cy, x)]⟩ : CRow) :: cs.drop k = Ls) := hLs
            subst ev
            have HO3 : Hid (CB W0.heap.size w5 M5 c5 Ls ∧ Below W9.heap.size W9 w5 ∧ Blk w5 w2.heap.size #[.int .i64 hd, .int .i64 vu, .slice (some ⟨Mo, 0, none⟩) cs.length co] 26) := ⟨hCB5, bl3, H13.out.2.1.grow bl3⟩
            clear hLs hown3 bl3 hg3 hat3 hCB5
            clear hHeld
            refine hK.out _ _ (HS.out _ (HO3.out.2.1)) (fun hHeld => ?_)
            clear hK K
            try simp only [Act.put, List.setIfInBounds_toArray, List.set_cons_zero, List.set_cons_succ]
            refine Hld.anyL_take (i := 14) (oi := { dst := some 79, op := Op.fieldAddr 26 (Operand.tmp 6) 2, type := 0, pos := "l07_part.go:71", after := #[{ on := 0, ground := Ground.phase }, { on := 1, ground := Ground.phase }, { on := 2, ground := Ground.phase }, { on := 3, ground := Ground.phase }, { on := 4, ground := Ground.phase }, { on := 5, ground := Ground.phase }, { on := 6, ground := Ground.phase }, { on := 7, ground := Ground.phase }, { on := 8, ground := Ground.phase }, { on := 9, ground := Ground.phase }, { on := 10, ground := Ground.phase }, { on := 11, ground := Ground.phase }, { on := 12, ground := Ground.phase }, { on := 13, ground := Ground.phase }], guard := none }) (v := ?vya20) rfl (by kernel_rfl) (by kernel_rfl) (by kernel_rfl) (by kernel_rfl) (fun _ _ _ h => h) (Or.inl ⟨by rfl, ?hyya20⟩) hHeld ?_
            case hyya20 => (intro w hSw; (try dsimp only at hSw); go_simp <;> with_reducible rfl)
            try simp only [Act.put, List.setIfInBounds_toArray, List.set_cons_zero, List.set_cons_succ]
            refine Hld.anyL_ready (rs := [15]) (by kernel_rfl) (by simp) ?_
            refine Hld.AllL.last (o := { dst := none, op := Op.store 24 (Operand.tmp 79) (Operand.tmp 78), type := 0, pos := "l07_part.go:71", after := #[{ on := 14, ground := Ground.data }, { on := 13, ground := Ground.data }, { on := 13, ground := Ground.chain }, { on := 0, ground := Ground.phase }, { on := 1, ground := Ground.phase }, { on := 2, ground := Ground.phase }, { on := 3, ground := Ground.phase }, { on := 4, ground := Ground.phase }, { on := 5, ground := Ground.phase }, { on := 6, ground := Ground.phase }, { on := 7, ground := Ground.phase }, { on := 8, ground := Ground.phase }, { on := 9, ground := Ground.phase }, { on := 10, ground := Ground.phase }, { on := 11, ground := Ground.phase }, { on := 12, ground := Ground.phase }, { on := 13, ground := Ground.phase }], guard := none }) rfl (fun K hK => ?_)
            have g2 : w5.cell? ⟨w2.heap.size, 2, none⟩ = some (.slice (some ⟨Mo, 0, none⟩) cs.length co) := HO3.out.2.2.cell 2
            have gf := HO3.out.2.2.frozen 2
            go_simp
            refine hK.out _ _ ?_
            clear hK K g2 gf
            try simp only [Act.put, List.setIfInBounds_toArray, List.set_cons_zero, List.set_cons_succ]
            refine Hld.anyL_done (by kernel_rfl) ?_ _
            obtain ⟨WX, hWX⟩ : ∃ WX, w5.setCell ⟨w2.heap.size, 2, none⟩ (.slice (some ⟨M5, 0, none⟩) Ls.length c5) = WX := ⟨_, rfl⟩
            have H14 : Hid (Below W0.heap.size W0 WX ∧ Blk WX w2.heap.size #[.int .i64 hd, .int .i64 vu, .slice (some ⟨M5, 0, none⟩) Ls.length c5] 26 ∧ CB W0.heap.size WX M5 c5 Ls) := by
              rw [← hWX]
              exact ⟨ChnI.set_low (grow_on H13.out.1 HO3.out.2.1) H4.out.2.2.2.2 2 _, HO3.out.2.2.set 2 _, CB.set' HO3.out.1 HO3.out.2.2 2 _⟩
            try rw [hWX]
            clear hWX hHeld
            have r0 : WX.cell? ⟨w2.heap.size, 0, none⟩ = some (.int .i64 hd) := H14.out.2.1.cell 0
            have r1 : WX.cell? ⟨w2.heap.size, 1, none⟩ = some (.int .i64 vu) := H14.out.2.1.cell 1
            have r2 : WX.cell? ⟨w2.heap.size, 2, none⟩ = some (.slice (some ⟨M5, 0, none⟩) Ls.length c5) := H14.out.2.1.cell 2
            have HRB : Hid (Blk WX (w.heap.size + 2) #[.int .i64 0, .int .i64 0, .slice none 0 0] 26) := HW0.out.2.2.2.1.grow H14.out.1
            have t0 : WX.cell? ⟨w.heap.size + 2, 0, none⟩ = some (.int .i64 0) := HRB.out.cell 0
            have t1 : WX.cell? ⟨w.heap.size + 2, 1, none⟩ = some (.int .i64 0) := HRB.out.cell 1
            have t2 : WX.cell? ⟨w.heap.size + 2, 2, none⟩ = some (.slice none 0 0) := HRB.out.cell 2
            have tf0 := HRB.out.frozen 0
            have tf1 := HRB.out.frozen 1
            have tf2 := HRB.out.frozen 2
            go_wp2
            all_goals (
              have hs := put3 HRB.out (.int .i64 hd) (.int .i64 vu) (.slice (some ⟨M5, 0, none⟩) Ls.length c5)
              have s0 := hs.cell 0
              have s1 := hs.cell 1
              have s2 := hs.cell 2
              refine bodyPost_ret (v := .tuple #[.agg #[.int .i64 hd, .int .i64 vu, .slice (some ⟨M5, 0, none⟩) Ls.length c5], .bool true]) (by simp [results, Tryz.results10, go_sem, s0, s1, s2]) rfl ?_
              rw [HE.out.2]
              refine ⟨⟨M5, c5, Ls, rfl, (CB.set3 H14.out.2.2 HRB.out _ _ _).down HW0.out.1.size, ?_⟩, set3 (grow_on HW0.out.1 H14.out.1) (by omega) _ _ _⟩
              rw [← HL.out, Ins.chs_ins, H4.out.2.2.2.1, HE.out.1, HP.out.1]
              rfl)
          refine Hld.AllL.cons (o := { dst := some 72, op := Op.buildSlice 24 1 #[(0, Operand.tmp 71)], type := 24, pos := "l07_part.go:71", after := #[{ on := 6, ground := Ground.data }], guard := none }) rfl (fun K hK => ?_) Hld.AllL.nil
          go_simp
          clear hHeld
          refine hK.out _ _ (HS.out _ (bel_alloc ((Below.refl W9.heap.size W9).drew) _)) (fun hHeld => ?_)
          clear hK K
          try simp only [Act.put, List.setIfInBounds_toArray, List.set_cons_zero, List.set_cons_succ]
          refine Hld.anyL_ready (rs := [0]) (by kernel_rfl) (by simp) ?_
          refine Hld.AllL.cons (o := { dst := some 65, op := Op.buildSlice 24 0 #[], type := 24, pos := "l07_part.go:71", after := #[], guard := none }) rfl (fun K hK => ?_) Hld.AllL.nil
          go_simp
          clear hHeld
          refine hK.out _ _ (HS.out _ (bel_alloc (bel_alloc ((Below.refl W9.heap.size W9).drew) _) _)) (fun hHeld => ?_)
          clear hK K
          try simp only [Act.put, List.setIfInBounds_toArray, List.set_cons_zero, List.set_cons_succ]
          refine Hld.anyL_ready (rs := [5]) (by kernel_rfl) (by simp) ?_
          refine Hld.AllL.cons (o := { dst := some 70, op := Op.call { callee := Callee.builtin Builtin.append, args := #[Operand.tmp 65, Operand.tmp 69], argTypes := #[24, 24] }, type := 24, pos := "l07_part.go:71", after := #[{ on := 0, ground := Ground.data }, { on := 4, ground := Ground.data }], guard := none }) rfl (fun K hK => ?_) Hld.AllL.nil
          refine step_app (by rfl) _ _ 24 (by rfl) 96 j0 _ 2 32 Tryz.underlying24 HI.out.1 HI.out.2.1 HI.out.2.2.1 HI.out.2.2.2 (by rfl) (by decide) W9 (bel_alloc (bel_alloc ((Below.refl W9.heap.size W9).drew) _) _) _ 0 [] (by rfl) (own_empty (Blk.new_at (by simp)) (by omega)) ⟨Mo, 0, none⟩ k co (xs.take (k * 2)) (by rfl) ?yah7x0 (HN.out.fst _ (bel_alloc (bel_alloc ((Below.refl W9.heap.size W9).drew) _) _) k hkc) ?yah7x1 ?yah7x2 ?yah7x3 ?_
          case yah7x0 => rw [List.length_take, HN.out.len]; omega
          case yah7x1 => exact fun u hu => HN.out.one u (List.mem_of_mem_take hu)
          case yah7x2 => unfold maxLen; omega
          case yah7x3 => omega
          intro v1 w3 hown1 bl1 hg1 hat1
          rw [Nat.zero_add, List.nil_append] at hown1
          have HO1 : Hid (w3.ownsRow W9.heap.size 96 2 v1 k (xs.take (k * 2)) ∧ Below W9.heap.size W9 w3) := ⟨hown1, bl1⟩
          have HB1 : Hid (Blk w3 W9.heap.size (rowC (⟨F, w8.heap.size, 1, [(My, cy, x)]⟩ : CRow)).toArray 96) := blk_far (M := W9.heap.size) ((Blk.new W9 _ _).alloc _).drew hg1 (fun e => absurd (show W9.heap.size = W9.heap.size + 1 from Option.some.inj e) (by omega))
          clear hown1 bl1 hg1 hat1
          clear hHeld
          refine hK.out _ _ (HS.out _ (HO1.out.2)) (fun hHeld => ?_)
          clear hK K
          try simp only [Act.put, List.setIfInBounds_toArray, List.set_cons_zero, List.set_cons_succ]
          refine Hld.anyL_ready (rs := [8]) (by kernel_rfl) (by simp) ?_
          refine Hld.AllL.cons (o := { dst := some 73, op := Op.call { callee := Callee.builtin Builtin.append, args := #[Operand.tmp 70, Operand.tmp 72], argTypes := #[24, 24] }, type := 24, pos := "l07_part.go:71", after := #[{ on := 5, ground := Ground.data }, { on := 7, ground := Ground.data }, { on := 5, ground := Ground.chain }], guard := none }) rfl (fun K hK => ?_) Hld.AllL.nil
          refine step_app (by rfl) _ _ 24 (by rfl) 96 j0 _ 2 32 Tryz.underlying24 HI.out.1 HI.out.2.1 HI.out.2.2.1 HI.out.2.2.2 (by rfl) (by decide) W9 (HO1.out.2) v1 k (xs.take (k * 2)) (by rfl) (HO1.out.1) ⟨W9.heap.size, 0, none⟩ 1 1 (rowC (⟨F, w8.heap.size, 1, [(My, cy, x)]⟩ : CRow)) (by rfl) (by rfl) (blk_news (HB1.out)) (rowC_one _) ?yah8x0 ?yah8x1 ?_
          case yah8x0 => unfold maxLen; omega
          case yah8x1 => omega
          intro v2 w4 hown2 bl2 hg2 hat2
          have HO2 : Hid (w4.ownsRow W9.heap.size 96 2 v2 (k + 1) (xs.take (k * 2) ++ rowC (⟨F, w8.heap.size, 1, [(My, cy, x)]⟩ : CRow)) ∧ Below W9.heap.size W9 w4) := ⟨hown2, bl2⟩
          clear hown2 bl2 hg2 hat2
          clear hHeld
          refine hK.out _ _ (HS.out _ (HO2.out.2)) (fun hHeld => ?_)
          clear hK K
          try simp only [Act.put, List.setIfInBounds_toArray, List.set_cons_zero, List.set_cons_succ]
          refine Hld.anyL_ready (rs := [13]) (by kernel_rfl) (by simp) ?_
          refine Hld.AllL.cons (o := { dst := some 78, op := Op.call { callee := Callee.builtin Builtin.append, args := #[Operand.tmp 73, Operand.tmp 77], argTypes := #[24, 24] }, type := 24, pos := "l07_part.go:71", after := #[{ on := 8, ground := Ground.data }, { on := 12, ground := Ground.data }, { on := 8, ground := Ground.chain }], guard := none }) rfl (fun K hK => ?_) Hld.AllL.nil
          refine step_app (by rfl) _ _ 24 (by rfl) 96 j0 _ 2 32 Tryz.underlying24 HI.out.1 HI.out.2.1 HI.out.2.2.1 HI.out.2.2.2 (by rfl) (by decide) W9 HO2.out.2 v2 (k + 1) (xs.take (k * 2) ++ rowC (⟨F, w8.heap.size, 1, [(My, cy, x)]⟩ : CRow)) (by rfl) HO2.out.1 (if co = k then (⟨Mo, 0, none⟩ : Addr) else ⟨Mo, k * 2, none⟩) (cs.length - k) (co - k) (xs.drop (k * 2)) (by first | rfl | exact Ins.if_slice _ _ _ _) ?yah9x0 (HN.out.snd _ HO2.out.2 k hkc) ?yah9x1 ?yah9x2 ?yah9x3 ?_
          case yah9x0 => rw [List.length_drop, HN.out.len]; omega
          case yah9x1 => exact fun u hu => HN.out.one u (List.mem_of_mem_drop hu)
          case yah9x2 => unfold maxLen; omega
          case yah9x3 => omega
          intro v3 w5 hown3 bl3 hg3 hat3
          obtain ⟨M5, c5, ev, hCB5⟩ := Ins.CB.ins (k := k) (x := (⟨F, w8.heap.size, 1, [(My, cy, x)]⟩ : CRow)) H13.out.2.2 HN.out HX.out.1 HX.out.2 hkc (own_mono hown3 H13.out.1.size) (Moved.of bl3)
          obtain ⟨Ls, hLs⟩ : ∃ Ls, cs.take k ++ (⟨F, w8.heap.size, 1, [(My, cy, x)]⟩ : CRow) :: cs.drop k = Ls := ⟨_, rfl⟩
          rw [hLs] at ev hCB5
          have HL : Hid (cs.take k ++ (⟨F, w8.heap.size, 1, [(My, cy, x)]⟩ : CRow) :: cs.drop k = Ls) := hLs
          subst ev
          have HO3 : Hid (CB W0.heap.size w5 M5 c5 Ls ∧ Below W9.heap.size W9 w5 ∧ Blk w5 w2.heap.size #[.int .i64 hd, .int .i64 vu, .slice (some ⟨Mo, 0, none⟩) cs.length co] 26) := ⟨hCB5, bl3, H13.out.2.1.grow bl3⟩
          clear hLs hown3 bl3 hg3 hat3 hCB5
          clear hHeld
          refine hK.out _ _ (HS.out _ (HO3.out.2.1)) (fun hHeld => ?_)
          clear hK K
          try simp only [Act.put, List.setIfInBounds_toArray, List.set_cons_zero, List.set_cons_succ]
          refine Hld.anyL_take (i := 14) (oi := { dst := some 79, op := Op.fieldAddr 26 (Operand.tmp 6) 2, type := 0, pos := "l07_part.go:71", after := #[{ on := 0, ground := Ground.phase }, { on := 1, ground := Ground.phase }, { on := 2, ground := Ground.phase }, { on := 3, ground := Ground.phase }, { on := 4, ground := Ground.phase }, { on := 5, ground := Ground.phase }, { on := 6, ground := Ground.phase }, { on := 7, ground := Ground.phase }, { on := 8, ground := Ground.phase }, { on := 9, ground := Ground.phase }, { on := 10, ground := Ground.phase }, { on := 11, ground := Ground.phase }, { on := 12, ground := Ground.phase }, { on := 13, ground := Ground.phase }], guard := none }) (v := ?vya26) rfl (by kernel_rfl) (by kernel_rfl) (by kernel_rfl) (by kernel_rfl) (fun _ _ _ h => h) (Or.inl ⟨by rfl, ?hyya26⟩) hHeld ?_
          case hyya26 => (intro w hSw; (try dsimp only at hSw); go_simp <;> with_reducible rfl)
          try simp only [Act.put, List.setIfInBounds_toArray, List.set_cons_zero, List.set_cons_succ]
          refine Hld.anyL_ready (rs := [15]) (by kernel_rfl) (by simp) ?_
          refine Hld.AllL.last (o := { dst := none, op := Op.store 24 (Operand.tmp 79) (Operand.tmp 78), type := 0, pos := "l07_part.go:71", after := #[{ on := 14, ground := Ground.data }, { on := 13, ground := Ground.data }, { on := 13, ground := Ground.chain }, { on := 0, ground := Ground.phase }, { on := 1, ground := Ground.phase }, { on := 2, ground := Ground.phase }, { on := 3, ground := Ground.phase }, { on := 4, ground := Ground.phase }, { on := 5, ground := Ground.phase }, { on := 6, ground := Ground.phase }, { on := 7, ground := Ground.phase }, { on := 8, ground := Ground.phase }, { on := 9, ground := Ground.phase }, { on := 10, ground := Ground.phase }, { on := 11, ground := Ground.phase }, { on := 12, ground := Ground.phase }, { on := 13, ground := Ground.phase }], guard := none }) rfl (fun K hK => ?_)
          have g2 : w5.cell? ⟨w2.heap.size, 2, none⟩ = some (.slice (some ⟨Mo, 0, none⟩) cs.length co) := HO3.out.2.2.cell 2
          have gf := HO3.out.2.2.frozen 2
          go_simp
          refine hK.out _ _ ?_
          clear hK K g2 gf
          try simp only [Act.put, List.setIfInBounds_toArray, List.set_cons_zero, List.set_cons_succ]
          refine Hld.anyL_done (by kernel_rfl) ?_ _
          obtain ⟨WX, hWX⟩ : ∃ WX, w5.setCell ⟨w2.heap.size, 2, none⟩ (.slice (some ⟨M5, 0, none⟩) Ls.length c5) = WX := ⟨_, rfl⟩
          have H14 : Hid (Below W0.heap.size W0 WX ∧ Blk WX w2.heap.size #[.int .i64 hd, .int .i64 vu, .slice (some ⟨M5, 0, none⟩) Ls.length c5] 26 ∧ CB W0.heap.size WX M5 c5 Ls) := by
            rw [← hWX]
            exact ⟨ChnI.set_low (grow_on H13.out.1 HO3.out.2.1) H4.out.2.2.2.2 2 _, HO3.out.2.2.set 2 _, CB.set' HO3.out.1 HO3.out.2.2 2 _⟩
          try rw [hWX]
          clear hWX hHeld
          have r0 : WX.cell? ⟨w2.heap.size, 0, none⟩ = some (.int .i64 hd) := H14.out.2.1.cell 0
          have r1 : WX.cell? ⟨w2.heap.size, 1, none⟩ = some (.int .i64 vu) := H14.out.2.1.cell 1
          have r2 : WX.cell? ⟨w2.heap.size, 2, none⟩ = some (.slice (some ⟨M5, 0, none⟩) Ls.length c5) := H14.out.2.1.cell 2
          have HRB : Hid (Blk WX (w.heap.size + 2) #[.int .i64 0, .int .i64 0, .slice none 0 0] 26) := HW0.out.2.2.2.1.grow H14.out.1
          have t0 : WX.cell? ⟨w.heap.size + 2, 0, none⟩ = some (.int .i64 0) := HRB.out.cell 0
          have t1 : WX.cell? ⟨w.heap.size + 2, 1, none⟩ = some (.int .i64 0) := HRB.out.cell 1
          have t2 : WX.cell? ⟨w.heap.size + 2, 2, none⟩ = some (.slice none 0 0) := HRB.out.cell 2
          have tf0 := HRB.out.frozen 0
          have tf1 := HRB.out.frozen 1
          have tf2 := HRB.out.frozen 2
          go_wp2
          all_goals (
            have hs := put3 HRB.out (.int .i64 hd) (.int .i64 vu) (.slice (some ⟨M5, 0, none⟩) Ls.length c5)
            have s0 := hs.cell 0
            have s1 := hs.cell 1
            have s2 := hs.cell 2
            refine bodyPost_ret (v := .tuple #[.agg #[.int .i64 hd, .int .i64 vu, .slice (some ⟨M5, 0, none⟩) Ls.length c5], .bool true]) (by simp [results, Tryz.results10, go_sem, s0, s1, s2]) rfl ?_
            rw [HE.out.2]
            refine ⟨⟨M5, c5, Ls, rfl, (CB.set3 H14.out.2.2 HRB.out _ _ _).down HW0.out.1.size, ?_⟩, set3 (grow_on HW0.out.1 H14.out.1) (by omega) _ _ _⟩
            rw [← HL.out, Ins.chs_ins, H4.out.2.2.2.1, HE.out.1, HP.out.1]
            rfl)
      · have hk' : ¬ (k : Int) < (C.length : Int) := by omega
        have HP : Hid (posB C F = k ∧ k ≤ C.length) := ⟨by
          have e : k = C.length := by omega
          subst e
          exact pos_all HL.out, hk⟩
        go_upto_region 12 with fail
        have a0 : wr.cell? ⟨w.heap.size + 1, 0, none⟩ = some (.slice (some ⟨g, o, none⟩) x.l.length cap') := (HW0.out.2.2.1.grow H6.out.1).cell 0
        have a1 : wr.cell? ⟨w.heap.size + 1, 1, none⟩ = some (.int .i64 x.s) := (HW0.out.2.2.1.grow H6.out.1).cell 1
        have a2 : wr.cell? ⟨w.heap.size + 1, 2, none⟩ = some (.int .i64 x.e) := (HW0.out.2.2.1.grow H6.out.1).cell 2
        have a3 : wr.cell? ⟨w.heap.size + 1, 3, none⟩ = some (.string x.n) := (HW0.out.2.2.1.grow H6.out.1).cell 3
        go_wp2_with fail
        refine (copyS_any g o cap' x.l x.s x.e x.n wr (HR.out.2.1.below (grow_on HW0.out.1 H6.out.1)) HR.out.2.2.2.2.1).mono ?_
        rintro r w8 ⟨⟨My, cy, rfl, hO⟩, hb8⟩
        go_upto_region 13 with fail
        obtain ⟨W9, hW9⟩ : ∃ W9, (w8.alloc (.cells #[.slice (some ⟨My, 0, none⟩) x.l.length cy, .int .i64 x.s, .int .i64 x.e, .string x.n] 29)).alloc (.cells #[.int .i64 F, .slice (some ⟨w8.heap.size, 0, none⟩) 1 1] 96) = W9 := ⟨_, rfl⟩
        have H9 : Hid (Below wr.heap.size wr W9 ∧ Blk W9 (w8.heap.size + 1) #[.int .i64 F, .slice (some ⟨w8.heap.size, 0, none⟩) 1 1] 96 ∧ AB wr.heap.size W9 w8.heap.size 1 [(My, cy, x)] ∧ wr.heap.size ≤ w8.heap.size) := by
          have hbb : Below w8.heap.size w8 W9 := by rw [← hW9]; exact Go.Joins.below_alloc2 w8 _ _
          have hB : Blk W9 w8.heap.size #[.slice (some ⟨My, 0, none⟩) x.l.length cy, .int .i64 x.s, .int .i64 x.e, .string x.n] 29 := by rw [← hW9]; exact (Blk.new _ _ _).alloc _
          have hC : Blk W9 (w8.heap.size + 1) #[.int .i64 F, .slice (some ⟨w8.heap.size, 0, none⟩) 1 1] 96 := by rw [← hW9]; exact Blk.new_at (by simp)
          obtain ⟨q1, ds, q2, q3⟩ := hO
          exact ⟨grow_on hb8 hbb, hC, AB.one (x := (My, cy, x)) hB hb8.size ⟨q1, HR.out.2.2.2.2.1, ds, q2.grow hbb, q3⟩, hb8.size⟩
        try rw [hW9]
        clear hW9 hO hb8 a0 a1 a2 a3
        have H13 : Hid (Below W0.heap.size W0 W9 ∧ Blk W9 w2.heap.size #[.int .i64 hd, .int .i64 vu, .slice (some ⟨Mo, 0, none⟩) cs.length co] 26 ∧ CB W0.heap.size W9 Mo co cs) := ⟨grow_on H6.out.1 H9.out.1, H6.out.2.1.grow H9.out.1, H6.out.2.2.grow H9.out.1⟩
        obtain ⟨xs, hN⟩ := Ins.CB.news H13.out.2.2
        have HN : Hid (Ins.News W9 Mo co cs xs) := hN
        have hcl : cs.length = C.length := by rw [← chs_len, H4.out.2.2.2.1]
        have hkc : k ≤ cs.length := by have := HP.out.2; omega
        have hcc : cs.length ≤ co := H13.out.2.2.cap.1
        have hkc1 : (k : Int) ≤ (cs.length : Int) := by omega
        have hkc2 : (k : Int) ≤ (co : Int) := by omega
        have hkc3 : (cs.length : Int) ≤ (co : Int) := by omega
        have hkc4 : k ≤ co := by omega
        have hcl6 : cs.length ≤ 1048576 := by omega
        obtain ⟨j0, hj, hy0, hy1, hy2⟩ := info_parts infoC
        have HI : Hid (Tryz.prog.info? 96 = some j0 ∧ j0.zero = some (.agg #[.int .i64 0, .slice none 0 0]) ∧ j0.size = 2 ∧ j0.bytes = 32) := ⟨hj, hy0, hy1, hy2⟩
        have HX : Hid (AB W0.heap.size W9 (⟨F, w8.heap.size, 1, [(My, cy, x)]⟩ : CRow).M (⟨F, w8.heap.size, 1, [(My, cy, x)]⟩ : CRow).c (⟨F, w8.heap.size, 1, [(My, cy, x)]⟩ : CRow).rs ∧ ∀ y ∈ cs, ∀ q, blks y.M y.rs q → ¬ blks (⟨F, w8.heap.size, 1, [(My, cy, x)]⟩ : CRow).M (⟨F, w8.heap.size, 1, [(My, cy, x)]⟩ : CRow).rs q) := ⟨H9.out.2.2.1.down H6.out.1.size, RowsC.fresh (x := (⟨F, w8.heap.size, 1, [(My, cy, x)]⟩ : CRow)) H6.out.2.2.rows H9.out.2.2.1 (Nat.le_refl _)⟩
        have HS : Hid (∀ w', Below W9.heap.size W9 w' → w'.cell? ⟨w2.heap.size, 2, none⟩ = some (.slice (some ⟨Mo, 0, none⟩) cs.length co) ∧ w'.cell? ⟨w8.heap.size + 1, 0, none⟩ = some (.int .i64 F) ∧ w'.cell? ⟨w8.heap.size + 1, 1, none⟩ = some (.slice (some ⟨w8.heap.size, 0, none⟩) 1 1)) := fun w' hz => ⟨(H13.out.2.1.grow hz).cell 2, (H9.out.2.1.grow hz).cell 0, (H9.out.2.1.grow hz).cell 1⟩
        clear hN hj hy0 hy1 hy2 hcl
        refine Hld.wp_region_LH (z := 15) (S := fun w' => w'.cell? ⟨w2.heap.size, 2, none⟩ = some (.slice (some ⟨Mo, 0, none⟩) cs.length co) ∧ w'.cell? ⟨w8.heap.size + 1, 0, none⟩ = some (.int .i64 F) ∧ w'.cell? ⟨w8.heap.size + 1, 1, none⟩ = some (.slice (some ⟨w8.heap.size, 0, none⟩) 1 1)) (by kernel_rfl) (HS.out _ (Below.refl W9.heap.size W9).drew) (fun hHeld => ?_)
        refine Hld.anyL_take (i := 1) (oi := { dst := some 66, op := Op.fieldAddr 26 (Operand.tmp 6) 2, type := 0, pos := "l07_part.go:71", after := #[], guard := none }) (v := ?vyb1) rfl (by kernel_rfl) (by kernel_rfl) (by kernel_rfl) (by kernel_rfl) (fun _ _ _ h => h) (Or.inl ⟨by rfl, ?hyyb1⟩) hHeld ?_
        case hyyb1 => (intro w hSw; (try dsimp only at hSw); go_simp <;> with_reducible rfl)
        try simp only [Act.put, List.setIfInBounds_toArray, List.set_cons_zero, List.set_cons_succ]
        refine Hld.anyL_take (i := 2) (oi := { dst := some 67, op := Op.load 24 (Operand.tmp 66), type := 24, pos := "l07_part.go:71", after := #[{ on := 1, ground := Ground.data }], guard := none }) (v := ?vyb2) rfl (by kernel_rfl) (by kernel_rfl) (by kernel_rfl) (by kernel_rfl) (fun _ _ _ h => h) (Or.inl ⟨by rfl, ?hyyb2⟩) hHeld ?_
        case hyyb2 => (intro w hSw; (try dsimp only at hSw); go_simp <;> with_reducible rfl)
        try simp only [Act.put, List.setIfInBounds_toArray, List.set_cons_zero, List.set_cons_succ]
        refine Hld.anyL_take (i := 3) (oi := { dst := some 68, op := Op.move (Operand.tmp 8), type := 3, pos := "l07_part.go:71", after := #[], guard := none }) (v := ?vyb3) rfl (by kernel_rfl) (by kernel_rfl) (by kernel_rfl) (by kernel_rfl) (fun _ _ _ h => h) (Or.inl ⟨by rfl, ?hyyb3⟩) hHeld ?_
        case hyyb3 => (intro w hSw; (try dsimp only at hSw); go_simp <;> with_reducible rfl)
        try simp only [Act.put, List.setIfInBounds_toArray, List.set_cons_zero, List.set_cons_succ]
        refine Hld.anyL_take (i := 4) (oi := { dst := some 69, op := Op.slice 24 (Operand.tmp 67) none (some (Operand.tmp 68)) none, type := 24, pos := "l07_part.go:71", after := #[{ on := 2, ground := Ground.data }, { on := 3, ground := Ground.data }], guard := none }) (v := ?vyb4) rfl (by kernel_rfl) (by kernel_rfl) (by kernel_rfl) (by kernel_rfl) (fun _ _ _ h => h) (Or.inl ⟨by rfl, ?hyyb4⟩) hHeld ?_
        case hyyb4 => (intro w hSw; (try dsimp only at hSw); go_simp <;> with_reducible rfl)
        try simp only [Act.put, List.setIfInBounds_toArray, List.set_cons_zero, List.set_cons_succ]
        refine Hld.anyL_take (i := 6) (oi := { dst := some 71, op := Op.load 96 (Operand.tmp 11), type := 96, pos := "l07_part.go:71", after := #[], guard := none }) (v := ?vyb5) rfl (by kernel_rfl) (by kernel_rfl) (by kernel_rfl) (by kernel_rfl) (fun _ _ _ h => h) (Or.inl ⟨by rfl, ?hyyb5⟩) hHeld ?_
        case hyyb5 => (intro w hSw; (try dsimp only at hSw); go_simp <;> with_reducible rfl)
        try simp only [Act.put, List.setIfInBounds_toArray, List.set_cons_zero, List.set_cons_succ]
        refine Hld.anyL_take (i := 9) (oi := { dst := some 74, op := Op.fieldAddr 26 (Operand.tmp 6) 2, type := 0, pos := "l07_part.go:71", after := #[], guard := none }) (v := ?vyb6) rfl (by kernel_rfl) (by kernel_rfl) (by kernel_rfl) (by kernel_rfl) (fun _ _ _ h => h) (Or.inl ⟨by rfl, ?hyyb6⟩) hHeld ?_
        case hyyb6 => (intro w hSw; (try dsimp only at hSw); go_simp <;> with_reducible rfl)
        try simp only [Act.put, List.setIfInBounds_toArray, List.set_cons_zero, List.set_cons_succ]
        refine Hld.anyL_take (i := 10) (oi := { dst := some 75, op := Op.load 24 (Operand.tmp 74), type := 24, pos := "l07_part.go:71", after := #[{ on := 9, ground := Ground.data }], guard := none }) (v := ?vyb7) rfl (by kernel_rfl) (by kernel_rfl) (by kernel_rfl) (by kernel_rfl) (fun _ _ _ h => h) (Or.inl ⟨by rfl, ?hyyb7⟩) hHeld ?_
        case hyyb7 => (intro w hSw; (try dsimp only at hSw); go_simp <;> with_reducible rfl)
        try simp only [Act.put, List.setIfInBounds_toArray, List.set_cons_zero, List.set_cons_succ]
        refine Hld.anyL_take (i := 11) (oi := { dst := some 76, op := Op.move (Operand.tmp 8), type := 3, pos := "l07_part.go:71", after := #[], guard := none }) (v := ?vyb8) rfl (by kernel_rfl) (by kernel_rfl) (by kernel_rfl) (by kernel_rfl) (fun _ _ _ h => h) (Or.inl ⟨by rfl, ?hyyb8⟩) hHeld ?_
        case hyyb8 => (intro w hSw; (try dsimp only at hSw); go_simp <;> with_reducible rfl)
        try simp only [Act.put, List.setIfInBounds_toArray, List.set_cons_zero, List.set_cons_succ]
        refine Hld.anyL_take (i := 12) (oi := { dst := some 77, op := Op.slice 24 (Operand.tmp 75) (some (Operand.tmp 76)) none none, type := 24, pos := "l07_part.go:71", after := #[{ on := 10, ground := Ground.data }, { on := 11, ground := Ground.data }], guard := none }) (v := ?vyb9) rfl (by kernel_rfl) (by kernel_rfl) (by kernel_rfl) (by kernel_rfl) (fun _ _ _ h => h) (Or.inl ⟨by rfl, ?hyyb9⟩) hHeld ?_
        case hyyb9 => (intro w hSw; (try dsimp only at hSw); go_simp <;> with_reducible rfl)
        try simp only [Act.put, List.setIfInBounds_toArray, List.set_cons_zero, List.set_cons_succ]
        refine Hld.anyL_ready (rs := [0, 7]) (by kernel_rfl) (by simp) ?_
        refine Hld.AllL.cons (o := { dst := some 65, op := Op.buildSlice 24 0 #[], type := 24, pos := "l07_part.go:71", after := #[], guard := none }) rfl (fun K hK => ?_) ?_
        ·
          go_simp
          clear hHeld
          refine hK.out _ _ (HS.out _ (bel_alloc ((Below.refl W9.heap.size W9).drew) _)) (fun hHeld => ?_)
          clear hK K
          try simp only [Act.put, List.setIfInBounds_toArray, List.set_cons_zero, List.set_cons_succ]
          refine Hld.anyL_ready (rs := [5, 7]) (by kernel_rfl) (by simp) ?_
          refine Hld.AllL.cons (o := { dst := some 70, op := Op.call { callee := Callee.builtin Builtin.append, args := #[Operand.tmp 65, Operand.tmp 69], argTypes := #[24, 24] }, type := 24, pos := "l07_part.go:71", after := #[{ on := 0, ground := Ground.data }, { on := 4, ground := Ground.data }], guard := none }) rfl (fun K hK => ?_) ?_
          ·
            refine step_app (by rfl) _ _ 24 (by rfl) 96 j0 _ 2 32 Tryz.underlying24 HI.out.1 HI.out.2.1 HI.out.2.2.1 HI.out.2.2.2 (by rfl) (by decide) W9 (bel_alloc ((Below.refl W9.heap.size W9).drew) _) _ 0 [] (by rfl) (own_empty (Blk.new W9.drew _ _) (Nat.le_refl _)) ⟨Mo, 0, none⟩ k co (xs.take (k * 2)) (by rfl) ?ybh1x0 (HN.out.fst _ (bel_alloc ((Below.refl W9.heap.size W9).drew) _) k hkc) ?ybh1x1 ?ybh1x2 ?ybh1x3 ?_
            case ybh1x0 => rw [List.length_take, HN.out.len]; omega
            case ybh1x1 => exact fun u hu => HN.out.one u (List.mem_of_mem_take hu)
            case ybh1x2 => unfold maxLen; omega
            case ybh1x3 => omega
            intro v1 w3 hown1 bl1 hg1 hat1
            rw [Nat.zero_add, List.nil_append] at hown1
            have HO1 : Hid (w3.ownsRow W9.heap.size 96 2 v1 k (xs.take (k * 2)) ∧ Below W9.heap.size W9 w3) := ⟨hown1, bl1⟩
            clear hown1 bl1 hg1 hat1
            clear hHeld
            refine hK.out _ _ (HS.out _ (HO1.out.2)) (fun hHeld => ?_)
            clear hK K
            try simp only [Act.put, List.setIfInBounds_toArray, List.set_cons_zero, List.set_cons_succ]
            refine Hld.anyL_ready (rs := [7]) (by kernel_rfl) (by simp) ?_
            refine Hld.AllL.cons (o := { dst := some 72, op := Op.buildSlice 24 1 #[(0, Operand.tmp 71)], type := 24, pos := "l07_part.go:71", after := #[{ on := 6, ground := Ground.data }], guard := none }) rfl (fun K hK => ?_) Hld.AllL.nil
            go_simp
            clear hHeld
            refine hK.out _ _ (HS.out _ ((bel_alloc HO1.out.2 _))) (fun hHeld => ?_)
            clear hK K
            try simp only [Act.put, List.setIfInBounds_toArray, List.set_cons_zero, List.set_cons_succ]
            refine Hld.anyL_ready (rs := [8]) (by kernel_rfl) (by simp) ?_
            refine Hld.AllL.cons (o := { dst := some 73, op := Op.call { callee := Callee.builtin Builtin.append, args := #[Operand.tmp 70, Operand.tmp 72], argTypes := #[24, 24] }, type := 24, pos := "l07_part.go:71", after := #[{ on := 5, ground := Ground.data }, { on := 7, ground := Ground.data }, { on := 5, ground := Ground.chain }], guard := none }) rfl (fun K hK => ?_) Hld.AllL.nil
            refine step_app (by rfl) _ _ 24 (by rfl) 96 j0 _ 2 32 Tryz.underlying24 HI.out.1 HI.out.2.1 HI.out.2.2.1 HI.out.2.2.2 (by rfl) (by decide) W9 ((bel_alloc HO1.out.2 _)) v1 k (xs.take (k * 2)) (by rfl) ((own_grow HO1.out.1 (Go.Joins.below_alloc1 w3 _))) ⟨w3.heap.size, 0, none⟩ 1 1 (rowC (⟨F, w8.heap.size, 1, [(My, cy, x)]⟩ : CRow)) (by rfl) (by rfl) (blk_news (Blk.new w3 _ _)) (rowC_one _) ?ybh2x0 ?ybh2x1 ?_
            case ybh2x0 => unfold maxLen; omega
            case ybh2x1 => omega
            intro v2 w4 hown2 bl2 hg2 hat2
            have HO2 : Hid (w4.ownsRow W9.heap.size 96 2 v2 (k + 1) (xs.take (k * 2) ++ rowC (⟨F, w8.heap.size, 1, [(My, cy, x)]⟩ : CRow)) ∧ Below W9.heap.size W9 w4) := ⟨hown2, bl2⟩
            clear hown2 bl2 hg2 hat2
            clear hHeld
            refine hK.out _ _ (HS.out _ (HO2.out.2)) (fun hHeld => ?_)
            clear hK K
            try simp only [Act.put, List.setIfInBounds_toArray, List.set_cons_zero, List.set_cons_succ]
            refine Hld.anyL_ready (rs := [13]) (by kernel_rfl) (by simp) ?_
            refine Hld.AllL.cons (o := { dst := some 78, op := Op.call { callee := Callee.builtin Builtin.append, args := #[Operand.tmp 73, Operand.tmp 77], argTypes := #[24, 24] }, type := 24, pos := "l07_part.go:71", after := #[{ on := 8, ground := Ground.data }, { on := 12, ground := Ground.data }, { on := 8, ground := Ground.chain }], guard := none }) rfl (fun K hK => ?_) Hld.AllL.nil
            refine step_app (by rfl) _ _ 24 (by rfl) 96 j0 _ 2 32 Tryz.underlying24 HI.out.1 HI.out.2.1 HI.out.2.2.1 HI.out.2.2.2 (by rfl) (by decide) W9 HO2.out.2 v2 (k + 1) (xs.take (k * 2) ++ rowC (⟨F, w8.heap.size, 1, [(My, cy, x)]⟩ : CRow)) (by rfl) HO2.out.1 (if co = k then (⟨Mo, 0, none⟩ : Addr) else ⟨Mo, k * 2, none⟩) (cs.length - k) (co - k) (xs.drop (k * 2)) (by first | rfl | exact Ins.if_slice _ _ _ _) ?ybh3x0 (HN.out.snd _ HO2.out.2 k hkc) ?ybh3x1 ?ybh3x2 ?ybh3x3 ?_
            case ybh3x0 => rw [List.length_drop, HN.out.len]; omega
            case ybh3x1 => exact fun u hu => HN.out.one u (List.mem_of_mem_drop hu)
            case ybh3x2 => unfold maxLen; omega
            case ybh3x3 => omega
            intro v3 w5 hown3 bl3 hg3 hat3
            obtain ⟨M5, c5, ev, hCB5⟩ := Ins.CB.ins (k := k) (x := (⟨F, w8.heap.size, 1, [(My, cy, x)]⟩ : CRow)) H13.out.2.2 HN.out HX.out.1 HX.out.2 hkc (own_mono hown3 H13.out.1.size) (Moved.of bl3)
            obtain ⟨Ls, hLs⟩ : ∃ Ls, cs.take k ++ (⟨F, w8.heap.size, 1, [(My, cy, x)]⟩ : CRow) :: cs.drop k = Ls := ⟨_, rfl⟩
            rw [hLs] at ev hCB5
            have HL : Hid (cs.take k ++ (⟨F, w8.heap.size, 1, [(My, cy, x)]⟩ : CRow) :: cs.drop k = Ls) := hLs
            subst ev
            have HO3 : Hid (CB W0.heap.size w5 M5 c5 Ls ∧ Below W9.heap.size W9 w5 ∧ Blk w5 w2.heap.size #[.int .i64 hd, .int .i64 vu, .slice (some ⟨Mo, 0, none⟩) cs.length co] 26) := ⟨hCB5, bl3, H13.out.2.1.grow bl3⟩
            clear hLs hown3 bl3 hg3 hat3 hCB5
            clear hHeld
            refine hK.out _ _ (HS.out _ (HO3.out.2.1)) (fun hHeld => ?_)
            clear hK K
            try simp only [Act.put, List.setIfInBounds_toArray, List.set_cons_zero, List.set_cons_succ]
            refine Hld.anyL_take (i := 14) (oi := { dst := some 79, op := Op.fieldAddr 26 (Operand.tmp 6) 2, type := 0, pos := "l07_part.go:71", after := #[{ on := 0, ground := Ground.phase }, { on := 1, ground := Ground.phase }, { on := 2, ground := Ground.phase }, { on := 3, ground := Ground.phase }, { on := 4, ground := Ground.phase }, { on := 5, ground := Ground.phase }, { on := 6, ground := Ground.phase }, { on := 7, ground := Ground.phase }, { on := 8, ground := Ground.phase }, { on := 9, ground := Ground.phase }, { on := 10, ground := Ground.phase }, { on := 11, ground := Ground.phase }, { on := 12, ground := Ground.phase }, { on := 13, ground := Ground.phase }], guard := none }) (v := ?vyb15) rfl (by kernel_rfl) (by kernel_rfl) (by kernel_rfl) (by kernel_rfl) (fun _ _ _ h => h) (Or.inl ⟨by rfl, ?hyyb15⟩) hHeld ?_
            case hyyb15 => (intro w hSw; (try dsimp only at hSw); go_simp <;> with_reducible rfl)
            try simp only [Act.put, List.setIfInBounds_toArray, List.set_cons_zero, List.set_cons_succ]
            refine Hld.anyL_ready (rs := [15]) (by kernel_rfl) (by simp) ?_
            refine Hld.AllL.last (o := { dst := none, op := Op.store 24 (Operand.tmp 79) (Operand.tmp 78), type := 0, pos := "l07_part.go:71", after := #[{ on := 14, ground := Ground.data }, { on := 13, ground := Ground.data }, { on := 13, ground := Ground.chain }, { on := 0, ground := Ground.phase }, { on := 1, ground := Ground.phase }, { on := 2, ground := Ground.phase }, { on := 3, ground := Ground.phase }, { on := 4, ground := Ground.phase }, { on := 5, ground := Ground.phase }, { on := 6, ground := Ground.phase }, { on := 7, ground := Ground.phase }, { on := 8, ground := Ground.phase }, { on := 9, ground := Ground.phase }, { on := 10, ground := Ground.phase }, { on := 11, ground := Ground.phase }, { on := 12, ground := Ground.phase }, { on := 13, ground := Ground.phase }], guard := none }) rfl (fun K hK => ?_)
            have g2 : w5.cell? ⟨w2.heap.size, 2, none⟩ = some (.slice (some ⟨Mo, 0, none⟩) cs.length co) := HO3.out.2.2.cell 2
            have gf := HO3.out.2.2.frozen 2
            go_simp
            refine hK.out _ _ ?_
            clear hK K g2 gf
            try simp only [Act.put, List.setIfInBounds_toArray, List.set_cons_zero, List.set_cons_succ]
            refine Hld.anyL_done (by kernel_rfl) ?_ _
            obtain ⟨WX, hWX⟩ : ∃ WX, w5.setCell ⟨w2.heap.size, 2, none⟩ (.slice (some ⟨M5, 0, none⟩) Ls.length c5) = WX := ⟨_, rfl⟩
            have H14 : Hid (Below W0.heap.size W0 WX ∧ Blk WX w2.heap.size #[.int .i64 hd, .int .i64 vu, .slice (some ⟨M5, 0, none⟩) Ls.length c5] 26 ∧ CB W0.heap.size WX M5 c5 Ls) := by
              rw [← hWX]
              exact ⟨ChnI.set_low (grow_on H13.out.1 HO3.out.2.1) H4.out.2.2.2.2 2 _, HO3.out.2.2.set 2 _, CB.set' HO3.out.1 HO3.out.2.2 2 _⟩
            try rw [hWX]
            clear hWX hHeld
            have r0 : WX.cell? ⟨w2.heap.size, 0, none⟩ = some (.int .i64 hd) := H14.out.2.1.cell 0
            have r1 : WX.cell? ⟨w2.heap.size, 1, none⟩ = some (.int .i64 vu) := H14.out.2.1.cell 1
            have r2 : WX.cell? ⟨w2.heap.size, 2, none⟩ = some (.slice (some ⟨M5, 0, none⟩) Ls.length c5) := H14.out.2.1.cell 2
            have HRB : Hid (Blk WX (w.heap.size + 2) #[.int .i64 0, .int .i64 0, .slice none 0 0] 26) := HW0.out.2.2.2.1.grow H14.out.1
            have t0 : WX.cell? ⟨w.heap.size + 2, 0, none⟩ = some (.int .i64 0) := HRB.out.cell 0
            have t1 : WX.cell? ⟨w.heap.size + 2, 1, none⟩ = some (.int .i64 0) := HRB.out.cell 1
            have t2 : WX.cell? ⟨w.heap.size + 2, 2, none⟩ = some (.slice none 0 0) := HRB.out.cell 2
            have tf0 := HRB.out.frozen 0
            have tf1 := HRB.out.frozen 1
            have tf2 := HRB.out.frozen 2
            go_wp2
            all_goals (
              have hs := put3 HRB.out (.int .i64 hd) (.int .i64 vu) (.slice (some ⟨M5, 0, none⟩) Ls.length c5)
              have s0 := hs.cell 0
              have s1 := hs.cell 1
              have s2 := hs.cell 2
              refine bodyPost_ret (v := .tuple #[.agg #[.int .i64 hd, .int .i64 vu, .slice (some ⟨M5, 0, none⟩) Ls.length c5], .bool true]) (by simp [results, Tryz.results10, go_sem, s0, s1, s2]) rfl ?_
              rw [HE.out.2]
              refine ⟨⟨M5, c5, Ls, rfl, (CB.set3 H14.out.2.2 HRB.out _ _ _).down HW0.out.1.size, ?_⟩, set3 (grow_on HW0.out.1 H14.out.1) (by omega) _ _ _⟩
              rw [← HL.out, Ins.chs_ins, H4.out.2.2.2.1, HE.out.1, HP.out.1]
              rfl)
          refine Hld.AllL.cons (o := { dst := some 72, op := Op.buildSlice 24 1 #[(0, Operand.tmp 71)], type := 24, pos := "l07_part.go:71", after := #[{ on := 6, ground := Ground.data }], guard := none }) rfl (fun K hK => ?_) Hld.AllL.nil
          go_simp
          clear hHeld
          refine hK.out _ _ (HS.out _ (bel_alloc (bel_alloc ((Below.refl W9.heap.size W9).drew) _) _)) (fun hHeld => ?_)
          clear hK K
          try simp only [Act.put, List.setIfInBounds_toArray, List.set_cons_zero, List.set_cons_succ]
          refine Hld.anyL_ready (rs := [5]) (by kernel_rfl) (by simp) ?_
          refine Hld.AllL.cons (o := { dst := some 70, op := Op.call { callee := Callee.builtin Builtin.append, args := #[Operand.tmp 65, Operand.tmp 69], argTypes := #[24, 24] }, type := 24, pos := "l07_part.go:71", after := #[{ on := 0, ground := Ground.data }, { on := 4, ground := Ground.data }], guard := none }) rfl (fun K hK => ?_) Hld.AllL.nil
          refine step_app (by rfl) _ _ 24 (by rfl) 96 j0 _ 2 32 Tryz.underlying24 HI.out.1 HI.out.2.1 HI.out.2.2.1 HI.out.2.2.2 (by rfl) (by decide) W9 (bel_alloc (bel_alloc ((Below.refl W9.heap.size W9).drew) _) _) _ 0 [] (by rfl) (own_empty ((Blk.new W9.drew _ _).alloc _) (Nat.le_refl _)) ⟨Mo, 0, none⟩ k co (xs.take (k * 2)) (by rfl) ?ybh4x0 (HN.out.fst _ (bel_alloc (bel_alloc ((Below.refl W9.heap.size W9).drew) _) _) k hkc) ?ybh4x1 ?ybh4x2 ?ybh4x3 ?_
          case ybh4x0 => rw [List.length_take, HN.out.len]; omega
          case ybh4x1 => exact fun u hu => HN.out.one u (List.mem_of_mem_take hu)
          case ybh4x2 => unfold maxLen; omega
          case ybh4x3 => omega
          intro v1 w3 hown1 bl1 hg1 hat1
          rw [Nat.zero_add, List.nil_append] at hown1
          have HO1 : Hid (w3.ownsRow W9.heap.size 96 2 v1 k (xs.take (k * 2)) ∧ Below W9.heap.size W9 w3) := ⟨hown1, bl1⟩
          have HB1 : Hid (Blk w3 (W9.heap.size + 1) (rowC (⟨F, w8.heap.size, 1, [(My, cy, x)]⟩ : CRow)).toArray 96) := blk_far (M := W9.heap.size + 1) (Blk.new_at (w := W9.alloc (.cells #[] 96)) (by simp)).drew hg1 (fun e => absurd (show W9.heap.size + 1 = W9.heap.size from Option.some.inj e) (by omega))
          clear hown1 bl1 hg1 hat1
          clear hHeld
          refine hK.out _ _ (HS.out _ (HO1.out.2)) (fun hHeld => ?_)
          clear hK K
          try simp only [Act.put, List.setIfInBounds_toArray, List.set_cons_zero, List.set_cons_succ]
          refine Hld.anyL_ready (rs := [8]) (by kernel_rfl) (by simp) ?_
          refine Hld.AllL.cons (o := { dst := some 73, op := Op.call { callee := Callee.builtin Builtin.append, args := #[Operand.tmp 70, Operand.tmp 72], argTypes := #[24, 24] }, type := 24, pos := "l07_part.go:71", after := #[{ on := 5, ground := Ground.data }, { on := 7, ground := Ground.data }, { on := 5, ground := Ground.chain }], guard := none }) rfl (fun K hK => ?_) Hld.AllL.nil
          refine step_app (by rfl) _ _ 24 (by rfl) 96 j0 _ 2 32 Tryz.underlying24 HI.out.1 HI.out.2.1 HI.out.2.2.1 HI.out.2.2.2 (by rfl) (by decide) W9 (HO1.out.2) v1 k (xs.take (k * 2)) (by rfl) (HO1.out.1) ⟨W9.heap.size + 1, 0, none⟩ 1 1 (rowC (⟨F, w8.heap.size, 1, [(My, cy, x)]⟩ : CRow)) (by rfl) (by rfl) (blk_news (HB1.out)) (rowC_one _) ?ybh5x0 ?ybh5x1 ?_
          case ybh5x0 => unfold maxLen; omega
          case ybh5x1 => omega
          intro v2 w4 hown2 bl2 hg2 hat2
          have HO2 : Hid (w4.ownsRow W9.heap.size 96 2 v2 (k + 1) (xs.take (k * 2) ++ rowC (⟨F, w8.heap.size, 1, [(My, cy, x)]⟩ : CRow)) ∧ Below W9.heap.size W9 w4) := ⟨hown2, bl2⟩
          clear hown2 bl2 hg2 hat2
          clear hHeld
          refine hK.out _ _ (HS.out _ (HO2.out.2)) (fun hHeld => ?_)
          clear hK K
          try simp only [Act.put, List.setIfInBounds_toArray, List.set_cons_zero, List.set_cons_succ]
          refine Hld.anyL_ready (rs := [13]) (by kernel_rfl) (by simp) ?_
          refine Hld.AllL.cons (o := { dst := some 78, op := Op.call { callee := Callee.builtin Builtin.append, args := #[Operand.tmp 73, Operand.tmp 77], argTypes := #[24, 24] }, type := 24, pos := "l07_part.go:71", after := #[{ on := 8, ground := Ground.data }, { on := 12, ground := Ground.data }, { on := 8, ground := Ground.chain }], guard := none }) rfl (fun K hK => ?_) Hld.AllL.nil
          refine step_app (by rfl) _ _ 24 (by rfl) 96 j0 _ 2 32 Tryz.underlying24 HI.out.1 HI.out.2.1 HI.out.2.2.1 HI.out.2.2.2 (by rfl) (by decide) W9 HO2.out.2 v2 (k + 1) (xs.take (k * 2) ++ rowC (⟨F, w8.heap.size, 1, [(My, cy, x)]⟩ : CRow)) (by rfl) HO2.out.1 (if co = k then (⟨Mo, 0, none⟩ : Addr) else ⟨Mo, k * 2, none⟩) (cs.length - k) (co - k) (xs.drop (k * 2)) (by first | rfl | exact Ins.if_slice _ _ _ _) ?ybh6x0 (HN.out.snd _ HO2.out.2 k hkc) ?ybh6x1 ?ybh6x2 ?ybh6x3 ?_
          case ybh6x0 => rw [List.length_drop, HN.out.len]; omega
          case ybh6x1 => exact fun u hu => HN.out.one u (List.mem_of_mem_drop hu)
          case ybh6x2 => unfold maxLen; omega
          case ybh6x3 => omega
          intro v3 w5 hown3 bl3 hg3 hat3
          obtain ⟨M5, c5, ev, hCB5⟩ := Ins.CB.ins (k := k) (x := (⟨F, w8.heap.size, 1, [(My, cy, x)]⟩ : CRow)) H13.out.2.2 HN.out HX.out.1 HX.out.2 hkc (own_mono hown3 H13.out.1.size) (Moved.of bl3)
          obtain ⟨Ls, hLs⟩ : ∃ Ls, cs.take k ++ (⟨F, w8.heap.size, 1, [(My, cy, x)]⟩ : CRow) :: cs.drop k = Ls := ⟨_, rfl⟩
          rw [hLs] at ev hCB5
          have HL : Hid (cs.take k ++ (⟨F, w8.heap.size, 1, [(My, cy, x)]⟩ : CRow) :: cs.drop k = Ls) := hLs
          subst ev
          have HO3 : Hid (CB W0.heap.size w5 M5 c5 Ls ∧ Below W9.heap.size W9 w5 ∧ Blk w5 w2.heap.size #[.int .i64 hd, .int .i64 vu, .slice (some ⟨Mo, 0, none⟩) cs.length co] 26) := ⟨hCB5, bl3, H13.out.2.1.grow bl3⟩
          clear hLs hown3 bl3 hg3 hat3 hCB5
          clear hHeld
          refine hK.out _ _ (HS.out _ (HO3.out.2.1)) (fun hHeld => ?_)
          clear hK K
          try simp only [Act.put, List.setIfInBounds_toArray, List.set_cons_zero, List.set_cons_succ]
          refine Hld.anyL_take (i := 14) (oi := { dst := some 79, op := Op.fieldAddr 26 (Operand.tmp 6) 2, type := 0, pos := "l07_part.go:71", after := #[{ on := 0, ground := Ground.phase }, { on := 1, ground := Ground.phase }, { on := 2, ground := Ground.phase }, { on := 3, ground := Ground.phase }, { on := 4, ground := Ground.phase }, { on := 5, ground := Ground.phase }, { on := 6, ground := Ground.phase }, { on := 7, ground := Ground.phase }, { on := 8, ground := Ground.phase }, { on := 9, ground := Ground.phase }, { on := 10, ground := Ground.phase }, { on := 11, ground := Ground.phase }, { on := 12, ground := Ground.phase }, { on := 13, ground := Ground.phase }], guard := none }) (v := ?vyb20) rfl (by kernel_rfl) (by kernel_rfl) (by kernel_rfl) (by kernel_rfl) (fun _ _ _ h => h) (Or.inl ⟨by rfl, ?hyyb20⟩) hHeld ?_
          case hyyb20 => (intro w hSw; (try dsimp only at hSw); go_simp <;> with_reducible rfl)
          try simp only [Act.put, List.setIfInBounds_toArray, List.set_cons_zero, List.set_cons_succ]
          refine Hld.anyL_ready (rs := [15]) (by kernel_rfl) (by simp) ?_
          refine Hld.AllL.last (o := { dst := none, op := Op.store 24 (Operand.tmp 79) (Operand.tmp 78), type := 0, pos := "l07_part.go:71", after := #[{ on := 14, ground := Ground.data }, { on := 13, ground := Ground.data }, { on := 13, ground := Ground.chain }, { on := 0, ground := Ground.phase }, { on := 1, ground := Ground.phase }, { on := 2, ground := Ground.phase }, { on := 3, ground := Ground.phase }, { on := 4, ground := Ground.phase }, { on := 5, ground := Ground.phase }, { on := 6, ground := Ground.phase }, { on := 7, ground := Ground.phase }, { on := 8, ground := Ground.phase }, { on := 9, ground := Ground.phase }, { on := 10, ground := Ground.phase }, { on := 11, ground := Ground.phase }, { on := 12, ground := Ground.phase }, { on := 13, ground := Ground.phase }], guard := none }) rfl (fun K hK => ?_)
          have g2 : w5.cell? ⟨w2.heap.size, 2, none⟩ = some (.slice (some ⟨Mo, 0, none⟩) cs.length co) := HO3.out.2.2.cell 2
          have gf := HO3.out.2.2.frozen 2
          go_simp
          refine hK.out _ _ ?_
          clear hK K g2 gf
          try simp only [Act.put, List.setIfInBounds_toArray, List.set_cons_zero, List.set_cons_succ]
          refine Hld.anyL_done (by kernel_rfl) ?_ _
          obtain ⟨WX, hWX⟩ : ∃ WX, w5.setCell ⟨w2.heap.size, 2, none⟩ (.slice (some ⟨M5, 0, none⟩) Ls.length c5) = WX := ⟨_, rfl⟩
          have H14 : Hid (Below W0.heap.size W0 WX ∧ Blk WX w2.heap.size #[.int .i64 hd, .int .i64 vu, .slice (some ⟨M5, 0, none⟩) Ls.length c5] 26 ∧ CB W0.heap.size WX M5 c5 Ls) := by
            rw [← hWX]
            exact ⟨ChnI.set_low (grow_on H13.out.1 HO3.out.2.1) H4.out.2.2.2.2 2 _, HO3.out.2.2.set 2 _, CB.set' HO3.out.1 HO3.out.2.2 2 _⟩
          try rw [hWX]
          clear hWX hHeld
          have r0 : WX.cell? ⟨w2.heap.size, 0, none⟩ = some (.int .i64 hd) := H14.out.2.1.cell 0
          have r1 : WX.cell? ⟨w2.heap.size, 1, none⟩ = some (.int .i64 vu) := H14.out.2.1.cell 1
          have r2 : WX.cell? ⟨w2.heap.size, 2, none⟩ = some (.slice (some ⟨M5, 0, none⟩) Ls.length c5) := H14.out.2.1.cell 2
          have HRB : Hid (Blk WX (w.heap.size + 2) #[.int .i64 0, .int .i64 0, .slice none 0 0] 26) := HW0.out.2.2.2.1.grow H14.out.1
          have t0 : WX.cell? ⟨w.heap.size + 2, 0, none⟩ = some (.int .i64 0) := HRB.out.cell 0
          have t1 : WX.cell? ⟨w.heap.size + 2, 1, none⟩ = some (.int .i64 0) := HRB.out.cell 1
          have t2 : WX.cell? ⟨w.heap.size + 2, 2, none⟩ = some (.slice none 0 0) := HRB.out.cell 2
          have tf0 := HRB.out.frozen 0
          have tf1 := HRB.out.frozen 1
          have tf2 := HRB.out.frozen 2
          go_wp2
          all_goals (
            have hs := put3 HRB.out (.int .i64 hd) (.int .i64 vu) (.slice (some ⟨M5, 0, none⟩) Ls.length c5)
            have s0 := hs.cell 0
            have s1 := hs.cell 1
            have s2 := hs.cell 2
            refine bodyPost_ret (v := .tuple #[.agg #[.int .i64 hd, .int .i64 vu, .slice (some ⟨M5, 0, none⟩) Ls.length c5], .bool true]) (by simp [results, Tryz.results10, go_sem, s0, s1, s2]) rfl ?_
            rw [HE.out.2]
            refine ⟨⟨M5, c5, Ls, rfl, (CB.set3 H14.out.2.2 HRB.out _ _ _).down HW0.out.1.size, ?_⟩, set3 (grow_on HW0.out.1 H14.out.1) (by omega) _ _ _⟩
            rw [← HL.out, Ins.chs_ins, H4.out.2.2.2.1, HE.out.1, HP.out.1]
            rfl)
        refine Hld.AllL.cons (o := { dst := some 72, op := Op.buildSlice 24 1 #[(0, Operand.tmp 71)], type := 24, pos := "l07_part.go:71", after := #[{ on := 6, ground := Ground.data }], guard := none }) rfl (fun K hK => ?_) Hld.AllL.nil
        go_simp
        clear hHeld
        refine hK.out _ _ (HS.out _ (bel_alloc ((Below.refl W9.heap.size W9).drew) _)) (fun hHeld => ?_)
        clear hK K
        try simp only [Act.put, List.setIfInBounds_toArray, List.set_cons_zero, List.set_cons_succ]
        refine Hld.anyL_ready (rs := [0]) (by kernel_rfl) (by simp) ?_
        refine Hld.AllL.cons (o := { dst := some 65, op := Op.buildSlice 24 0 #[], type := 24, pos := "l07_part.go:71", after := #[], guard := none }) rfl (fun K hK => ?_) Hld.AllL.nil
        go_simp
        clear hHeld
        refine hK.out _ _ (HS.out _ (bel_alloc (bel_alloc ((Below.refl W9.heap.size W9).drew) _) _)) (fun hHeld => ?_)
        clear hK K
        try simp only [Act.put, List.setIfInBounds_toArray, List.set_cons_zero, List.set_cons_succ]
        refine Hld.anyL_ready (rs := [5]) (by kernel_rfl) (by simp) ?_
        refine Hld.AllL.cons (o := { dst := some 70, op := Op.call { callee := Callee.builtin Builtin.append, args := #[Operand.tmp 65, Operand.tmp 69], argTypes := #[24, 24] }, type := 24, pos := "l07_part.go:71", after := #[{ on := 0, ground := Ground.data }, { on := 4, ground := Ground.data }], guard := none }) rfl (fun K hK => ?_) Hld.AllL.nil
        refine step_app (by rfl) _ _ 24 (by rfl) 96 j0 _ 2 32 Tryz.underlying24 HI.out.1 HI.out.2.1 HI.out.2.2.1 HI.out.2.2.2 (by rfl) (by decide) W9 (bel_alloc (bel_alloc ((Below.refl W9.heap.size W9).drew) _) _) _ 0 [] (by rfl) (own_empty (Blk.new_at (by simp)) (by omega)) ⟨Mo, 0, none⟩ k co (xs.take (k * 2)) (by rfl) ?ybh7x0 (HN.out.fst _ (bel_alloc (bel_alloc ((Below.refl W9.heap.size W9).drew) _) _) k hkc) ?ybh7x1 ?ybh7x2 ?ybh7x3 ?_
        case ybh7x0 => rw [List.length_take, HN.out.len]; omega
        case ybh7x1 => exact fun u hu => HN.out.one u (List.mem_of_mem_take hu)
        case ybh7x2 => unfold maxLen; omega
        case ybh7x3 => omega
        intro v1 w3 hown1 bl1 hg1 hat1
        rw [Nat.zero_add, List.nil_append] at hown1
        have HO1 : Hid (w3.ownsRow W9.heap.size 96 2 v1 k (xs.take (k * 2)) ∧ Below W9.heap.size W9 w3) := ⟨hown1, bl1⟩
        have HB1 : Hid (Blk w3 W9.heap.size (rowC (⟨F, w8.heap.size, 1, [(My, cy, x)]⟩ : CRow)).toArray 96) := blk_far (M := W9.heap.size) ((Blk.new W9 _ _).alloc _).drew hg1 (fun e => absurd (show W9.heap.size = W9.heap.size + 1 from Option.some.inj e) (by omega))
        clear hown1 bl1 hg1 hat1
        clear hHeld
        refine hK.out _ _ (HS.out _ (HO1.out.2)) (fun hHeld => ?_)
        clear hK K
        try simp only [Act.put, List.setIfInBounds_toArray, List.set_cons_zero, List.set_cons_succ]
        refine Hld.anyL_ready (rs := [8]) (by kernel_rfl) (by simp) ?_
        refine Hld.AllL.cons (o := { dst := some 73, op := Op.call { callee := Callee.builtin Builtin.append, args := #[Operand.tmp 70, Operand.tmp 72], argTypes := #[24, 24] }, type := 24, pos := "l07_part.go:71", after := #[{ on := 5, ground := Ground.data }, { on := 7, ground := Ground.data }, { on := 5, ground := Ground.chain }], guard := none }) rfl (fun K hK => ?_) Hld.AllL.nil
        refine step_app (by rfl) _ _ 24 (by rfl) 96 j0 _ 2 32 Tryz.underlying24 HI.out.1 HI.out.2.1 HI.out.2.2.1 HI.out.2.2.2 (by rfl) (by decide) W9 (HO1.out.2) v1 k (xs.take (k * 2)) (by rfl) (HO1.out.1) ⟨W9.heap.size, 0, none⟩ 1 1 (rowC (⟨F, w8.heap.size, 1, [(My, cy, x)]⟩ : CRow)) (by rfl) (by rfl) (blk_news (HB1.out)) (rowC_one _) ?ybh8x0 ?ybh8x1 ?_
        case ybh8x0 => unfold maxLen; omega
        case ybh8x1 => omega
        intro v2 w4 hown2 bl2 hg2 hat2
        have HO2 : Hid (w4.ownsRow W9.heap.size 96 2 v2 (k + 1) (xs.take (k * 2) ++ rowC (⟨F, w8.heap.size, 1, [(My, cy, x)]⟩ : CRow)) ∧ Below W9.heap.size W9 w4) := ⟨hown2, bl2⟩
        clear hown2 bl2 hg2 hat2
        clear hHeld
        refine hK.out _ _ (HS.out _ (HO2.out.2)) (fun hHeld => ?_)
        clear hK K
        try simp only [Act.put, List.setIfInBounds_toArray, List.set_cons_zero, List.set_cons_succ]
        refine Hld.anyL_ready (rs := [13]) (by kernel_rfl) (by simp) ?_
        refine Hld.AllL.cons (o := { dst := some 78, op := Op.call { callee := Callee.builtin Builtin.append, args := #[Operand.tmp 73, Operand.tmp 77], argTypes := #[24, 24] }, type := 24, pos := "l07_part.go:71", after := #[{ on := 8, ground := Ground.data }, { on := 12, ground := Ground.data }, { on := 8, ground := Ground.chain }], guard := none }) rfl (fun K hK => ?_) Hld.AllL.nil
        refine step_app (by rfl) _ _ 24 (by rfl) 96 j0 _ 2 32 Tryz.underlying24 HI.out.1 HI.out.2.1 HI.out.2.2.1 HI.out.2.2.2 (by rfl) (by decide) W9 HO2.out.2 v2 (k + 1) (xs.take (k * 2) ++ rowC (⟨F, w8.heap.size, 1, [(My, cy, x)]⟩ : CRow)) (by rfl) HO2.out.1 (if co = k then (⟨Mo, 0, none⟩ : Addr) else ⟨Mo, k * 2, none⟩) (cs.length - k) (co - k) (xs.drop (k * 2)) (by first | rfl | exact Ins.if_slice _ _ _ _) ?ybh9x0 (HN.out.snd _ HO2.out.2 k hkc) ?ybh9x1 ?ybh9x2 ?ybh9x3 ?_
        case ybh9x0 => rw [List.length_drop, HN.out.len]; omega
        case ybh9x1 => exact fun u hu => HN.out.one u (List.mem_of_mem_drop hu)
        case ybh9x2 => unfold maxLen; omega
        case ybh9x3 => omega
        intro v3 w5 hown3 bl3 hg3 hat3
        obtain ⟨M5, c5, ev, hCB5⟩ := Ins.CB.ins (k := k) (x := (⟨F, w8.heap.size, 1, [(My, cy, x)]⟩ : CRow)) H13.out.2.2 HN.out HX.out.1 HX.out.2 hkc (own_mono hown3 H13.out.1.size) (Moved.of bl3)
        obtain ⟨Ls, hLs⟩ : ∃ Ls, cs.take k ++ (⟨F, w8.heap.size, 1, [(My, cy, x)]⟩ : CRow) :: cs.drop k = Ls := ⟨_, rfl⟩
        rw [hLs] at ev hCB5
        have HL : Hid (cs.take k ++ (⟨F, w8.heap.size, 1, [(My, cy, x)]⟩ : CRow) :: cs.drop k = Ls) := hLs
        subst ev
        have HO3 : Hid (CB W0.heap.size w5 M5 c5 Ls ∧ Below W9.heap.size W9 w5 ∧ Blk w5 w2.heap.size #[.int .i64 hd, .int .i64 vu, .slice (some ⟨Mo, 0, none⟩) cs.length co] 26) := ⟨hCB5, bl3, H13.out.2.1.grow bl3⟩
        clear hLs hown3 bl3 hg3 hat3 hCB5
        clear hHeld
        refine hK.out _ _ (HS.out _ (HO3.out.2.1)) (fun hHeld => ?_)
        clear hK K
        try simp only [Act.put, List.setIfInBounds_toArray, List.set_cons_zero, List.set_cons_succ]
        refine Hld.anyL_take (i := 14) (oi := { dst := some 79, op := Op.fieldAddr 26 (Operand.tmp 6) 2, type := 0, pos := "l07_part.go:71", after := #[{ on := 0, ground := Ground.phase }, { on := 1, ground := Ground.phase }, { on := 2, ground := Ground.phase }, { on := 3, ground := Ground.phase }, { on := 4, ground := Ground.phase }, { on := 5, ground := Ground.phase }, { on := 6, ground := Ground.phase }, { on := 7, ground := Ground.phase }, { on := 8, ground := Ground.phase }, { on := 9, ground := Ground.phase }, { on := 10, ground := Ground.phase }, { on := 11, ground := Ground.phase }, { on := 12, ground := Ground.phase }, { on := 13, ground := Ground.phase }], guard := none }) (v := ?vyb26) rfl (by kernel_rfl) (by kernel_rfl) (by kernel_rfl) (by kernel_rfl) (fun _ _ _ h => h) (Or.inl ⟨by rfl, ?hyyb26⟩) hHeld ?_
        case hyyb26 => (intro w hSw; (try dsimp only at hSw); go_simp <;> with_reducible rfl)
        try simp only [Act.put, List.setIfInBounds_toArray, List.set_cons_zero, List.set_cons_succ]
        refine Hld.anyL_ready (rs := [15]) (by kernel_rfl) (by simp) ?_
        refine Hld.AllL.last (o := { dst := none, op := Op.store 24 (Operand.tmp 79) (Operand.tmp 78), type := 0, pos := "l07_part.go:71", after := #[{ on := 14, ground := Ground.data }, { on := 13, ground := Ground.data }, { on := 13, ground := Ground.chain }, { on := 0, ground := Ground.phase }, { on := 1, ground := Ground.phase }, { on := 2, ground := Ground.phase }, { on := 3, ground := Ground.phase }, { on := 4, ground := Ground.phase }, { on := 5, ground := Ground.phase }, { on := 6, ground := Ground.phase }, { on := 7, ground := Ground.phase }, { on := 8, ground := Ground.phase }, { on := 9, ground := Ground.phase }, { on := 10, ground := Ground.phase }, { on := 11, ground := Ground.phase }, { on := 12, ground := Ground.phase }, { on := 13, ground := Ground.phase }], guard := none }) rfl (fun K hK => ?_)
        have g2 : w5.cell? ⟨w2.heap.size, 2, none⟩ = some (.slice (some ⟨Mo, 0, none⟩) cs.length co) := HO3.out.2.2.cell 2
        have gf := HO3.out.2.2.frozen 2
        go_simp
        refine hK.out _ _ ?_
        clear hK K g2 gf
        try simp only [Act.put, List.setIfInBounds_toArray, List.set_cons_zero, List.set_cons_succ]
        refine Hld.anyL_done (by kernel_rfl) ?_ _
        obtain ⟨WX, hWX⟩ : ∃ WX, w5.setCell ⟨w2.heap.size, 2, none⟩ (.slice (some ⟨M5, 0, none⟩) Ls.length c5) = WX := ⟨_, rfl⟩
        have H14 : Hid (Below W0.heap.size W0 WX ∧ Blk WX w2.heap.size #[.int .i64 hd, .int .i64 vu, .slice (some ⟨M5, 0, none⟩) Ls.length c5] 26 ∧ CB W0.heap.size WX M5 c5 Ls) := by
          rw [← hWX]
          exact ⟨ChnI.set_low (grow_on H13.out.1 HO3.out.2.1) H4.out.2.2.2.2 2 _, HO3.out.2.2.set 2 _, CB.set' HO3.out.1 HO3.out.2.2 2 _⟩
        try rw [hWX]
        clear hWX hHeld
        have r0 : WX.cell? ⟨w2.heap.size, 0, none⟩ = some (.int .i64 hd) := H14.out.2.1.cell 0
        have r1 : WX.cell? ⟨w2.heap.size, 1, none⟩ = some (.int .i64 vu) := H14.out.2.1.cell 1
        have r2 : WX.cell? ⟨w2.heap.size, 2, none⟩ = some (.slice (some ⟨M5, 0, none⟩) Ls.length c5) := H14.out.2.1.cell 2
        have HRB : Hid (Blk WX (w.heap.size + 2) #[.int .i64 0, .int .i64 0, .slice none 0 0] 26) := HW0.out.2.2.2.1.grow H14.out.1
        have t0 : WX.cell? ⟨w.heap.size + 2, 0, none⟩ = some (.int .i64 0) := HRB.out.cell 0
        have t1 : WX.cell? ⟨w.heap.size + 2, 1, none⟩ = some (.int .i64 0) := HRB.out.cell 1
        have t2 : WX.cell? ⟨w.heap.size + 2, 2, none⟩ = some (.slice none 0 0) := HRB.out.cell 2
        have tf0 := HRB.out.frozen 0
        have tf1 := HRB.out.frozen 1
        have tf2 := HRB.out.frozen 2
        go_wp2
        all_goals (
          have hs := put3 HRB.out (.int .i64 hd) (.int .i64 vu) (.slice (some ⟨M5, 0, none⟩) Ls.length c5)
          have s0 := hs.cell 0
          have s1 := hs.cell 1
          have s2 := hs.cell 2
          refine bodyPost_ret (v := .tuple #[.agg #[.int .i64 hd, .int .i64 vu, .slice (some ⟨M5, 0, none⟩) Ls.length c5], .bool true]) (by simp [results, Tryz.results10, go_sem, s0, s1, s2]) rfl ?_
          rw [HE.out.2]
          refine ⟨⟨M5, c5, Ls, rfl, (CB.set3 H14.out.2.2 HRB.out _ _ _).down HW0.out.1.size, ?_⟩, set3 (grow_on HW0.out.1 H14.out.1) (by omega) _ _ _⟩
          rw [← HL.out, Ins.chs_ins, H4.out.2.2.2.1, HE.out.1, HP.out.1]
          rfl)
  · rw [h1]
    have HE : Hid (putC C x = C.set k ⟨(nthC C k).f, putL (nthC C k).P x⟩ ∧ newC C x = isNew (nthC C k).P x.l) := put_some h0
    have HK : Hid (k < C.length) := hk
    have hk' : (k : Int) < (C.length : Int) := by omega
    clear h0 h1 h3 h4
    obtain ⟨b, off, ea, hb, ad, cp, hat⟩ := (HR.out.1.below stays_rn (grow_on HW0.out.1 H6.out.1)).get hk
    cases ea
    have HRD : Hid (RdN w6 ad (nthC C k).P) := hat.reads
    have HSm : Hid ((nthC C k).P.length ≤ 1048576 ∧ LenM (nthC C k).P) := HR.out.2.2.1 _ (nthC_mem hk)
    have HS : Hid (∀ w', Below w6.heap.size w6 w' → w'.cell? ⟨w.heap.size, 2, none⟩ = some (.slice (some ⟨b, off, none⟩) C.length cap) ∧ w'.cell? ⟨b, off + k * 2, none⟩ = some (.int .i64 (nthC C k).f) ∧ w'.cell? ⟨b, off + k * 2 + 1, none⟩ = some (.slice ad (nthC C k).P.length cp) ∧ w'.cell? ⟨w.heap.size + 1, 0, none⟩ = some (.slice (some ⟨g, o, none⟩) x.l.length cap') ∧ w'.cell? ⟨w.heap.size + 1, 1, none⟩ = some (.int .i64 x.s) ∧ w'.cell? ⟨w.heap.size + 1, 2, none⟩ = some (.int .i64 x.e) ∧ w'.cell? ⟨w.heap.size + 1, 3, none⟩ = some (.string x.n)) := fun w' hz => ⟨(HW0.out.2.1.grow (grow_on H6.out.1 hz)).cell 2, (hz.cell (p := ⟨b, off + k * 2, none⟩) hb).trans hat.c0, (hz.cell (p := ⟨b, off + k * 2 + 1, none⟩) hb).trans hat.c1, (HW0.out.2.2.1.grow (grow_on H6.out.1 hz)).cell 0, (HW0.out.2.2.1.grow (grow_on H6.out.1 hz)).cell 1, (HW0.out.2.2.1.grow (grow_on H6.out.1 hz)).cell 2, (HW0.out.2.2.1.grow (grow_on H6.out.1 hz)).cell 3⟩
    have HPC : Hid (∀ z, Below w6.heap.size w6 z → Calls Tryz.prog 72 #[.agg #[.int .i64 (nthC C k).f, .slice ad (nthC C k).P.length cp], .agg #[.slice (some ⟨g, o, none⟩) x.l.length cap', .int .i64 x.s, .int .i64 x.e, .string x.n]] z fun e w' => (∃ M c rs, e = .returned (.tuple #[.agg #[.int .i64 (nthC C k).f, .slice (some ⟨M, 0, none⟩) rs.length c], .bool (isNew (nthC C k).P x.l)]) ∧ AB z.heap.size w' M c rs ∧ pals rs = putL (nthC C k).P x) ∧ Below z.heap.size z w') := fun z hz => ChnU.specPut_any (nthC C k).f ad cp (nthC C k).P g o cap' x z (HRD.out.below hz) ((HR.out.2.1.below (grow_on HW0.out.1 H6.out.1)).below hz) HSm.out.1 HSm.out.2 HR.out.2.2.2.2.1
    clear hat hb hk
    go_upto_region 6 with fail
    refine wp_region_held_drew (S := fun w' => w'.cell? ⟨w.heap.size, 2, none⟩ = some (.slice (some ⟨b, off, none⟩) C.length cap) ∧ w'.cell? ⟨b, off + k * 2, none⟩ = some (.int .i64 (nthC C k).f) ∧ w'.cell? ⟨b, off + k * 2 + 1, none⟩ = some (.slice ad (nthC C k).P.length cp) ∧ w'.cell? ⟨w.heap.size + 1, 0, none⟩ = some (.slice (some ⟨g, o, none⟩) x.l.length cap') ∧ w'.cell? ⟨w.heap.size + 1, 1, none⟩ = some (.int .i64 x.s) ∧ w'.cell? ⟨w.heap.size + 1, 2, none⟩ = some (.int .i64 x.e) ∧ w'.cell? ⟨w.heap.size + 1, 3, none⟩ = some (.string x.n)) (by kernel_rfl) (HS.out _ (Below.refl w6.heap.size w6).drew) (fun hHeld => ?_)
    refine wpAnyH_take (i := 0) (oi := { dst := some 27, op := Op.fieldAddr 26 (Operand.tmp 2) 2, type := 0, pos := "l07_part.go:62", after := #[], guard := none }) (v := ?vy1) rfl (by kernel_rfl) (by kernel_rfl) (by kernel_rfl) (fun _ _ _ h => h) (Or.inl ⟨by rfl, ?hyy1⟩) hHeld ?_
    case hyy1 => (intro w hSw; (try dsimp only at hSw); go_simp <;> with_reducible rfl)
    try simp only [Act.put, List.setIfInBounds_toArray, List.set_cons_zero, List.set_cons_succ]
    refine wpAnyH_take (i := 1) (oi := { dst := some 28, op := Op.load 24 (Operand.tmp 27), type := 24, pos := "l07_part.go:62", after := #[{ on := 0, ground := Ground.data }], guard := none }) (v := ?vy2) rfl (by kernel_rfl) (by kernel_rfl) (by kernel_rfl) (fun _ _ _ h => h) (Or.inl ⟨by rfl, ?hyy2⟩) hHeld ?_
    case hyy2 => (intro w hSw; (try dsimp only at hSw); go_simp <;> with_reducible rfl)
    try simp only [Act.put, List.setIfInBounds_toArray, List.set_cons_zero, List.set_cons_succ]
    refine wpAnyH_take (i := 2) (oi := { dst := some 29, op := Op.move (Operand.tmp 8), type := 3, pos := "l07_part.go:62", after := #[], guard := none }) (v := ?vy3) rfl (by kernel_rfl) (by kernel_rfl) (by kernel_rfl) (fun _ _ _ h => h) (Or.inl ⟨by rfl, ?hyy3⟩) hHeld ?_
    case hyy3 => (intro w hSw; (try dsimp only at hSw); go_simp <;> with_reducible rfl)
    try simp only [Act.put, List.setIfInBounds_toArray, List.set_cons_zero, List.set_cons_succ]
    refine wpAnyH_take (i := 3) (oi := { dst := some 30, op := Op.indexAddr 24 (Operand.tmp 28) (Operand.tmp 29), type := 0, pos := "l07_part.go:62", after := #[{ on := 1, ground := Ground.data }, { on := 2, ground := Ground.data }], guard := none }) (v := ?vy4) rfl (by kernel_rfl) (by kernel_rfl) (by kernel_rfl) (fun _ _ _ h => h) (Or.inl ⟨by rfl, ?hyy4⟩) hHeld ?_
    case hyy4 => (intro w hSw; (try dsimp only at hSw); go_simp <;> with_reducible rfl)
    try simp only [Act.put, List.setIfInBounds_toArray, List.set_cons_zero, List.set_cons_succ]
    refine wpAnyH_take (i := 4) (oi := { dst := some 31, op := Op.load 96 (Operand.tmp 30), type := 96, pos := "l07_part.go:62", after := #[{ on := 3, ground := Ground.data }], guard := none }) (v := ?vy5) rfl (by kernel_rfl) (by kernel_rfl) (by kernel_rfl) (fun _ _ _ h => h) (Or.inl ⟨by rfl, ?hyy5⟩) hHeld ?_
    case hyy5 => (intro w hSw; (try dsimp only at hSw); go_simp <;> with_reducible rfl)
    try simp only [Act.put, List.setIfInBounds_toArray, List.set_cons_zero, List.set_cons_succ]
    refine wpAnyH_take (i := 5) (oi := { dst := some 32, op := Op.load 29 (Operand.tmp 3), type := 29, pos := "l07_part.go:62", after := #[], guard := none }) (v := ?vy6) rfl (by kernel_rfl) (by kernel_rfl) (by kernel_rfl) (fun _ _ _ h => h) (Or.inl ⟨by rfl, ?hyy6⟩) hHeld ?_
    case hyy6 => (intro w hSw; (try dsimp only at hSw); go_simp <;> with_reducible rfl)
    try simp only [Act.put, List.setIfInBounds_toArray, List.set_cons_zero, List.set_cons_succ]
    refine wpAnyH_ready (rs := [6, 10]) (by kernel_rfl) (by simp) ?_
    refine AllReadyH.cons (o := { dst := some 33, op := Op.call { callee := Callee.value (Operand.func 72), args := #[Operand.tmp 31, Operand.tmp 32], argTypes := #[96, 29] }, type := 97, pos := "l07_part.go:62", after := #[{ on := 4, ground := Ground.data }, { on := 5, ground := Ground.data }], guard := none }) rfl (fun K hK => ?_) ?_
    ·
      go_simp
      refine (HPC.out _ ((Below.refl w6.heap.size w6).drew)).mono ?_
      rintro r wa ⟨⟨OM, Oc, Oz, rfl, hA, hP⟩, hy⟩
      have ZA : Hid (Below w6.heap.size w6 wa) := grow_on ((Below.refl w6.heap.size w6).drew) hy
      have OA : Hid (AB w6.heap.size wa OM Oc Oz ∧ pals Oz = putL (nthC C k).P x) := ⟨hA.down ((Below.refl w6.heap.size w6).drew).size, hP⟩
      clear hA hP hy
      clear hHeld
      refine hK.out _ _ (HS.out _ (ZA.out)) (fun hHeld => ?_)
      clear hK K
      try simp only [Act.put, List.setIfInBounds_toArray, List.set_cons_zero, List.set_cons_succ]
      refine wpAnyH_take (i := 7) (oi := { dst := some 26, op := Op.move (Operand.tmp 33), type := 97, pos := "l07_part.go:62", after := #[{ on := 6, ground := Ground.data }], guard := none }) (v := ?vy8) rfl (by kernel_rfl) (by kernel_rfl) (by kernel_rfl) (fun _ _ _ h => h) (Or.inl ⟨by rfl, ?hyy8⟩) hHeld ?_
      case hyy8 => (intro w hSw; (try dsimp only at hSw); go_simp <;> with_reducible rfl)
      try simp only [Act.put, List.setIfInBounds_toArray, List.set_cons_zero, List.set_cons_succ]
      refine wpAnyH_take (i := 8) (oi := { dst := some 34, op := Op.extract (Operand.tmp 26) 0, type := 96, pos := "l07_part.go:62", after := #[{ on := 7, ground := Ground.data }], guard := none }) (v := ?vy9) rfl (by kernel_rfl) (by kernel_rfl) (by kernel_rfl) (fun _ _ _ h => h) (Or.inl ⟨by rfl, ?hyy9⟩) hHeld ?_
      case hyy9 => (intro w hSw; (try dsimp only at hSw); go_simp <;> with_reducible rfl)
      try simp only [Act.put, List.setIfInBounds_toArray, List.set_cons_zero, List.set_cons_succ]
      refine wpAnyH_take (i := 9) (oi := { dst := some 35, op := Op.extract (Operand.tmp 26) 1, type := 4, pos := "l07_part.go:62", after := #[{ on := 7, ground := Ground.data }, { on := 11, ground := Ground.gcOnly Departure.lateStores }], guard := none }) (v := ?vy10) rfl (by kernel_rfl) (by kernel_rfl) (by kernel_rfl) (fun _ _ _ h => h) (Or.inl ⟨by rfl, ?hyy10⟩) hHeld ?_
      case hyy10 => (intro w hSw; (try dsimp only at hSw); go_simp <;> with_reducible rfl)
      try simp only [Act.put, List.setIfInBounds_toArray, List.set_cons_zero, List.set_cons_succ]
      refine wpAnyH_ready (rs := [10]) (by kernel_rfl) (by simp) ?_
      refine AllReadyH.cons (o := { dst := some 9, op := Op.alloc 96, type := 0, pos := "l07_part.go:62", after := #[], guard := none }) rfl (fun K hK => ?_) AllReadyH.nil
      go_simp
      clear hHeld
      refine hK.out _ _ (HS.out _ (bel_alloc (ZA.out) _)) (fun hHeld => ?_)
      clear hK K
      try simp only [Act.put, List.setIfInBounds_toArray, List.set_cons_zero, List.set_cons_succ]
      refine wpAnyH_ready (rs := [11]) (by kernel_rfl) (by simp) ?_
      refine AllReadyH.cons (o := { dst := none, op := Op.store 96 (Operand.tmp 9) (Operand.tmp 34), type := 0, pos := "l07_part.go:62", after := #[{ on := 10, ground := Ground.data }, { on := 8, ground := Ground.data }, { on := 6, ground := Ground.chain }, { on := 0, ground := Ground.phase }, { on := 1, ground := Ground.phase }, { on := 2, ground := Ground.phase }, { on := 3, ground := Ground.phase }, { on := 4, ground := Ground.phase }, { on := 5, ground := Ground.phase }, { on := 6, ground := Ground.phase }, { on := 7, ground := Ground.phase }, { on := 8, ground := Ground.phase }, { on := 9, ground := Ground.textOnly Departure.lateStores }, { on := 10, ground := Ground.phase }], guard := none }) rfl (fun K hK => ?_) AllReadyH.nil
      go_simp
      clear hHeld
      refine hK.out _ _ (HS.out _ (bel_alloc ZA.out _)) (fun hHeld => ?_)
      clear hK K
      try simp only [Act.put, List.setIfInBounds_toArray, List.set_cons_zero, List.set_cons_succ]
      refine wpAnyH_take (i := 12) (oi := { dst := some 10, op := Op.assign (Operand.tmp 35), type := 4, pos := "l07_part.go:62", after := #[{ on := 9, ground := Ground.data }, { on := 11, ground := Ground.chain }, { on := 0, ground := Ground.phase }, { on := 1, ground := Ground.phase }, { on := 2, ground := Ground.phase }, { on := 3, ground := Ground.phase }, { on := 4, ground := Ground.phase }, { on := 5, ground := Ground.phase }, { on := 6, ground := Ground.phase }, { on := 7, ground := Ground.phase }, { on := 8, ground := Ground.phase }, { on := 9, ground := Ground.phase }, { on := 10, ground := Ground.phase }, { on := 11, ground := Ground.phase }], guard := none }) (v := ?vy13) rfl (by kernel_rfl) (by kernel_rfl) (by kernel_rfl) (fun _ _ _ h => h) (Or.inl ⟨by rfl, ?hyy13⟩) hHeld ?_
      case hyy13 => (intro w hSw; (try dsimp only at hSw); go_simp <;> with_reducible rfl)
      try simp only [Act.put, List.setIfInBounds_toArray, List.set_cons_zero, List.set_cons_succ]
      refine wpAnyH_done (by kernel_rfl) ?_ _
      obtain ⟨Wx, hWx⟩ : ∃ Wx, wa.alloc (.cells #[.int .i64 (nthC C k).f, .slice (some ⟨OM, 0, none⟩) Oz.length Oc] 96) = Wx := ⟨_, rfl⟩
      have HX : Hid (Below w6.heap.size w6 Wx ∧ Blk Wx wa.heap.size #[.int .i64 (nthC C k).f, .slice (some ⟨OM, 0, none⟩) Oz.length Oc] 96 ∧ AB w6.heap.size Wx OM Oc Oz ∧ w6.heap.size ≤ wa.heap.size) := by rw [← hWx]; exact ⟨bel_alloc ZA.out _, Blk.new _ _ _, OA.out.1.grow (Go.Joins.below_alloc1 wa _), ZA.out.size⟩
      go_upto_region 7 with fail
      try rw [hWx]
      clear hWx hHeld
      have hCB := H6.out.2.2.grow HX.out.1
      have hfr := RowsC.fresh (x := ⟨(nthC C k).f, OM, Oc, Oz⟩) H6.out.2.2.rows HX.out.2.2.1 (Nat.le_refl _)
      have hcl : cs.length = C.length := by rw [← chs_len, H4.out.2.2.2.1]
      have hkc : k < cs.length := by have := HK.out; omega
      have hkc' : (k : Int) < (cs.length : Int) := by omega
      obtain ⟨cur, hcur, hcz, hcel⟩ := hCB.outer
      have e0 : Wx.cell? ⟨Mo, k * 2, none⟩ = some (.int .i64 (nthR cs k).f) := (hcur.cell _).trans (hcel k hkc).1
      have e1 : Wx.cell? ⟨Mo, k * 2 + 1, none⟩ = some (.slice (some ⟨(nthR cs k).M, 0, none⟩) (nthR cs k).rs.length (nthR cs k).c) := (hcur.cell _).trans (hcel k hkc).2
      have ef0 := hcur.frozen (k * 2)
      have ef1 := hcur.frozen (k * 2 + 1)
      have o2 : Wx.cell? ⟨w2.heap.size, 2, none⟩ = some (.slice (some ⟨Mo, 0, none⟩) cs.length co) := (H6.out.2.1.grow HX.out.1).cell 2
      have n0 : Wx.cell? ⟨wa.heap.size, 0, none⟩ = some (.int .i64 (nthC C k).f) := HX.out.2.1.cell 0
      have n1 : Wx.cell? ⟨wa.heap.size, 1, none⟩ = some (.slice (some ⟨OM, 0, none⟩) Oz.length Oc) := HX.out.2.1.cell 1
      obtain ⟨W9, hW9⟩ : ∃ W9, (Wx.setCell ⟨Mo, k * 2, none⟩ (.int .i64 (nthC C k).f)).setCell ⟨Mo, k * 2 + 1, none⟩ (.slice (some ⟨OM, 0, none⟩) Oz.length Oc) = W9 := ⟨_, rfl⟩
      have H9 : Hid (Below W0.heap.size W0 W9 ∧ Blk W9 w2.heap.size #[.int .i64 hd, .int .i64 vu, .slice (some ⟨Mo, 0, none⟩) cs.length co] 26 ∧ CB W0.heap.size W9 Mo co (cs.set k ⟨(nthC C k).f, OM, Oc, Oz⟩) ∧ chs (cs.set k ⟨(nthC C k).f, OM, Oc, Oz⟩) = putC C x) := by
        have hput := CB.put hCB hkc (x := ⟨(nthC C k).f, OM, Oc, Oz⟩) (HX.out.2.2.1.down H6.out.1.size) hfr
        have hq : put2W Wx Mo k ⟨(nthC C k).f, OM, Oc, Oz⟩ = W9 := hW9
        rw [hq] at hput
        have hob := H6.out.2.1.grow HX.out.1
        have hn := blkT_ne hcur hob (by decide)
        refine ⟨?_, ?_, hput, ?_⟩
        · rw [← hq]; exact put2W_low (grow_on H6.out.1 HX.out.1) hCB.at'
        · rw [← hW9]; exact (hob.set_other (p := ⟨Mo, k * 2, none⟩) hn _).set_other (p := ⟨Mo, k * 2 + 1, none⟩) hn _
        · rw [HE.out.1]
          unfold chs
          rw [List.map_set]
          have h1 : cs.map CRow.ch = C := H4.out.2.2.2.1
          rw [h1]
          show C.set k ⟨(nthC C k).f, pals Oz⟩ = _
          rw [OA.out.2]
      have r0 : W9.cell? ⟨w2.heap.size, 0, none⟩ = some (.int .i64 hd) := H9.out.2.1.cell 0
      have r1 : W9.cell? ⟨w2.heap.size, 1, none⟩ = some (.int .i64 vu) := H9.out.2.1.cell 1
      have r2 : W9.cell? ⟨w2.heap.size, 2, none⟩ = some (.slice (some ⟨Mo, 0, none⟩) cs.length co) := H9.out.2.1.cell 2
      have HRB : Hid (Blk W9 (w.heap.size + 2) #[.int .i64 0, .int .i64 0, .slice none 0 0] 26) := HW0.out.2.2.2.1.grow H9.out.1
      have t0 : W9.cell? ⟨w.heap.size + 2, 0, none⟩ = some (.int .i64 0) := HRB.out.cell 0
      have t1 : W9.cell? ⟨w.heap.size + 2, 1, none⟩ = some (.int .i64 0) := HRB.out.cell 1
      have t2 : W9.cell? ⟨w.heap.size + 2, 2, none⟩ = some (.slice none 0 0) := HRB.out.cell 2
      have tf0 := HRB.out.frozen 0
      have tf1 := HRB.out.frozen 1
      have tf2 := HRB.out.frozen 2
      clear hCB hfr hcl hkc hcur hcz hcel
      go_wp2
      have hs := put3 HRB.out (.int .i64 hd) (.int .i64 vu) (.slice (some ⟨Mo, 0, none⟩) cs.length co)
      have s0 := hs.cell 0
      have s1 := hs.cell 1
      have s2 := hs.cell 2
      refine bodyPost_ret (v := .tuple #[.agg #[.int .i64 hd, .int .i64 vu, .slice (some ⟨Mo, 0, none⟩) cs.length co], .bool (isNew (nthC C k).P x.l)]) (by simp [results, Tryz.results10, go_sem, s0, s1, s2]) rfl ?_
      rw [HE.out.2]
      refine ⟨⟨Mo, co, cs.set k ⟨(nthC C k).f, OM, Oc, Oz⟩, ?_, (CB.set3 H9.out.2.2.1 HRB.out _ _ _).down HW0.out.1.size, H9.out.2.2.2⟩, set3 (grow_on HW0.out.1 H9.out.1) (by omega) _ _ _⟩
      rw [List.length_set]
    refine AllReadyH.cons (o := { dst := some 9, op := Op.alloc 96, type := 0, pos := "l07_part.go:62", after := #[], guard := none }) rfl (fun K hK => ?_) AllReadyH.nil
    go_simp
    clear hHeld
    refine hK.out _ _ (HS.out _ (bel_alloc ((Below.refl w6.heap.size w6).drew) _)) (fun hHeld => ?_)
    clear hK K
    try simp only [Act.put, List.setIfInBounds_toArray, List.set_cons_zero, List.set_cons_succ]
    refine wpAnyH_ready (rs := [6]) (by kernel_rfl) (by simp) ?_
    refine AllReadyH.cons (o := { dst := some 33, op := Op.call { callee := Callee.value (Operand.func 72), args := #[Operand.tmp 31, Operand.tmp 32], argTypes := #[96, 29] }, type := 97, pos := "l07_part.go:62", after := #[{ on := 4, ground := Ground.data }, { on := 5, ground := Ground.data }], guard := none }) rfl (fun K hK => ?_) AllReadyH.nil
    go_simp
    refine (HPC.out _ (bel_alloc ((Below.refl w6.heap.size w6).drew) _)).mono ?_
    rintro r wa ⟨⟨OM, Oc, Oz, rfl, hA, hP⟩, hy⟩
    have ZA : Hid (Below w6.heap.size w6 wa) := grow_on (bel_alloc ((Below.refl w6.heap.size w6).drew) _) hy
    have OA : Hid (AB w6.heap.size wa OM Oc Oz ∧ pals Oz = putL (nthC C k).P x) := ⟨hA.down (bel_alloc ((Below.refl w6.heap.size w6).drew) _).size, hP⟩
    have NB : Hid (Blk wa w6.heap.size #[.int .i64 0, .slice none 0 0] 96) := (Blk.new w6.drew _ _).grow hy
    clear hA hP hy
    clear hHeld
    refine hK.out _ _ (HS.out _ (ZA.out)) (fun hHeld => ?_)
    clear hK K
    try simp only [Act.put, List.setIfInBounds_toArray, List.set_cons_zero, List.set_cons_succ]
    refine wpAnyH_take (i := 7) (oi := { dst := some 26, op := Op.move (Operand.tmp 33), type := 97, pos := "l07_part.go:62", after := #[{ on := 6, ground := Ground.data }], guard := none }) (v := ?vy16) rfl (by kernel_rfl) (by kernel_rfl) (by kernel_rfl) (fun _ _ _ h => h) (Or.inl ⟨by rfl, ?hyy16⟩) hHeld ?_
    case hyy16 => (intro w hSw; (try dsimp only at hSw); go_simp <;> with_reducible rfl)
    try simp only [Act.put, List.setIfInBounds_toArray, List.set_cons_zero, List.set_cons_succ]
    refine wpAnyH_take (i := 8) (oi := { dst := some 34, op := Op.extract (Operand.tmp 26) 0, type := 96, pos := "l07_part.go:62", after := #[{ on := 7, ground := Ground.data }], guard := none }) (v := ?vy17) rfl (by kernel_rfl) (by kernel_rfl) (by kernel_rfl) (fun _ _ _ h => h) (Or.inl ⟨by rfl, ?hyy17⟩) hHeld ?_
    case hyy17 => (intro w hSw; (try dsimp only at hSw); go_simp <;> with_reducible rfl)
    try simp only [Act.put, List.setIfInBounds_toArray, List.set_cons_zero, List.set_cons_succ]
    refine wpAnyH_take (i := 9) (oi := { dst := some 35, op := Op.extract (Operand.tmp 26) 1, type := 4, pos := "l07_part.go:62", after := #[{ on := 7, ground := Ground.data }, { on := 11, ground := Ground.gcOnly Departure.lateStores }], guard := none }) (v := ?vy18) rfl (by kernel_rfl) (by kernel_rfl) (by kernel_rfl) (fun _ _ _ h => h) (Or.inl ⟨by rfl, ?hyy18⟩) hHeld ?_
    case hyy18 => (intro w hSw; (try dsimp only at hSw); go_simp <;> with_reducible rfl)
    try simp only [Act.put, List.setIfInBounds_toArray, List.set_cons_zero, List.set_cons_succ]
    refine wpAnyH_ready (rs := [11]) (by kernel_rfl) (by simp) ?_
    refine AllReadyH.cons (o := { dst := none, op := Op.store 96 (Operand.tmp 9) (Operand.tmp 34), type := 0, pos := "l07_part.go:62", after := #[{ on := 10, ground := Ground.data }, { on := 8, ground := Ground.data }, { on := 6, ground := Ground.chain }, { on := 0, ground := Ground.phase }, { on := 1, ground := Ground.phase }, { on := 2, ground := Ground.phase }, { on := 3, ground := Ground.phase }, { on := 4, ground := Ground.phase }, { on := 5, ground := Ground.phase }, { on := 6, ground := Ground.phase }, { on := 7, ground := Ground.phase }, { on := 8, ground := Ground.phase }, { on := 9, ground := Ground.textOnly Departure.lateStores }, { on := 10, ground := Ground.phase }], guard := none }) rfl (fun K hK => ?_) AllReadyH.nil
    have n0 : wa.cell? ⟨w6.heap.size, 0, none⟩ = some (.int .i64 0) := NB.out.cell 0
    have n1 : wa.cell? ⟨w6.heap.size, 1, none⟩ = some (.slice none 0 0) := NB.out.cell 1
    have m0 := NB.out.frozen 0
    have m1 := NB.out.frozen 1
    go_simp
    clear n0 n1 m0 m1 hHeld
    refine hK.out _ _ (HS.out _ (set2 ZA.out (Nat.le_refl _) _ _)) (fun hHeld => ?_)
    clear hK K
    try simp only [Act.put, List.setIfInBounds_toArray, List.set_cons_zero, List.set_cons_succ]
    refine wpAnyH_take (i := 12) (oi := { dst := some 10, op := Op.assign (Operand.tmp 35), type := 4, pos := "l07_part.go:62", after := #[{ on := 9, ground := Ground.data }, { on := 11, ground := Ground.chain }, { on := 0, ground := Ground.phase }, { on := 1, ground := Ground.phase }, { on := 2, ground := Ground.phase }, { on := 3, ground := Ground.phase }, { on := 4, ground := Ground.phase }, { on := 5, ground := Ground.phase }, { on := 6, ground := Ground.phase }, { on := 7, ground := Ground.phase }, { on := 8, ground := Ground.phase }, { on := 9, ground := Ground.phase }, { on := 10, ground := Ground.phase }, { on := 11, ground := Ground.phase }], guard := none }) (v := ?vy20) rfl (by kernel_rfl) (by kernel_rfl) (by kernel_rfl) (fun _ _ _ h => h) (Or.inl ⟨by rfl, ?hyy20⟩) hHeld ?_
    case hyy20 => (intro w hSw; (try dsimp only at hSw); go_simp <;> with_reducible rfl)
    try simp only [Act.put, List.setIfInBounds_toArray, List.set_cons_zero, List.set_cons_succ]
    refine wpAnyH_done (by kernel_rfl) ?_ _
    obtain ⟨Wx, hWx⟩ : ∃ Wx, (wa.setCell ⟨w6.heap.size, 0, none⟩ (.int .i64 (nthC C k).f)).setCell ⟨w6.heap.size, 1, none⟩ (.slice (some ⟨OM, 0, none⟩) Oz.length Oc) = Wx := ⟨_, rfl⟩
    have HX : Hid (Below w6.heap.size w6 Wx ∧ Blk Wx w6.heap.size #[.int .i64 (nthC C k).f, .slice (some ⟨OM, 0, none⟩) Oz.length Oc] 96 ∧ AB w6.heap.size Wx OM Oc Oz ∧ w6.heap.size ≤ w6.heap.size) := by rw [← hWx]; exact ⟨set2 ZA.out (Nat.le_refl _) _ _, (NB.out.set 0 _).set 1 _, ab_set2 OA.out.1 NB.out _ _, Nat.le_refl _⟩
    go_upto_region 7 with fail
    try rw [hWx]
    clear hWx hHeld
    have hCB := H6.out.2.2.grow HX.out.1
    have hfr := RowsC.fresh (x := ⟨(nthC C k).f, OM, Oc, Oz⟩) H6.out.2.2.rows HX.out.2.2.1 (Nat.le_refl _)
    have hcl : cs.length = C.length := by rw [← chs_len, H4.out.2.2.2.1]
    have hkc : k < cs.length := by have := HK.out; omega
    have hkc' : (k : Int) < (cs.length : Int) := by omega
    obtain ⟨cur, hcur, hcz, hcel⟩ := hCB.outer
    have e0 : Wx.cell? ⟨Mo, k * 2, none⟩ = some (.int .i64 (nthR cs k).f) := (hcur.cell _).trans (hcel k hkc).1
    have e1 : Wx.cell? ⟨Mo, k * 2 + 1, none⟩ = some (.slice (some ⟨(nthR cs k).M, 0, none⟩) (nthR cs k).rs.length (nthR cs k).c) := (hcur.cell _).trans (hcel k hkc).2
    have ef0 := hcur.frozen (k * 2)
    have ef1 := hcur.frozen (k * 2 + 1)
    have o2 : Wx.cell? ⟨w2.heap.size, 2, none⟩ = some (.slice (some ⟨Mo, 0, none⟩) cs.length co) := (H6.out.2.1.grow HX.out.1).cell 2
    have n0 : Wx.cell? ⟨w6.heap.size, 0, none⟩ = some (.int .i64 (nthC C k).f) := HX.out.2.1.cell 0
    have n1 : Wx.cell? ⟨w6.heap.size, 1, none⟩ = some (.slice (some ⟨OM, 0, none⟩) Oz.length Oc) := HX.out.2.1.cell 1
    obtain ⟨W9, hW9⟩ : ∃ W9, (Wx.setCell ⟨Mo, k * 2, none⟩ (.int .i64 (nthC C k).f)).setCell ⟨Mo, k * 2 + 1, none⟩ (.slice (some ⟨OM, 0, none⟩) Oz.length Oc) = W9 := ⟨_, rfl⟩
    have H9 : Hid (Below W0.heap.size W0 W9 ∧ Blk W9 w2.heap.size #[.int .i64 hd, .int .i64 vu, .slice (some ⟨Mo, 0, none⟩) cs.length co] 26 ∧ CB W0.heap.size W9 Mo co (cs.set k ⟨(nthC C k).f, OM, Oc, Oz⟩) ∧ chs (cs.set k ⟨(nthC C k).f, OM, Oc, Oz⟩) = putC C x) := by
      have hput := CB.put hCB hkc (x := ⟨(nthC C k).f, OM, Oc, Oz⟩) (HX.out.2.2.1.down H6.out.1.size) hfr
      have hq : put2W Wx Mo k ⟨(nthC C k).f, OM, Oc, Oz⟩ = W9 := hW9
      rw [hq] at hput
      have hob := H6.out.2.1.grow HX.out.1
      have hn := blkT_ne hcur hob (by decide)
      refine ⟨?_, ?_, hput, ?_⟩
      · rw [← hq]; exact put2W_low (grow_on H6.out.1 HX.out.1) hCB.at'
      · rw [← hW9]; exact (hob.set_other (p := ⟨Mo, k * 2, none⟩) hn _).set_other (p := ⟨Mo, k * 2 + 1, none⟩) hn _
      · rw [HE.out.1]
        unfold chs
        rw [List.map_set]
        have h1 : cs.map CRow.ch = C := H4.out.2.2.2.1
        rw [h1]
        show C.set k ⟨(nthC C k).f, pals Oz⟩ = _
        rw [OA.out.2]
    have r0 : W9.cell? ⟨w2.heap.size, 0, none⟩ = some (.int .i64 hd) := H9.out.2.1.cell 0
    have r1 : W9.cell? ⟨w2.heap.size, 1, none⟩ = some (.int .i64 vu) := H9.out.2.1.cell 1
    have r2 : W9.cell? ⟨w2.heap.size, 2, none⟩ = some (.slice (some ⟨Mo, 0, none⟩) cs.length co) := H9.out.2.1.cell 2
    have HRB : Hid (Blk W9 (w.heap.size + 2) #[.int .i64 0, .int .i64 0, .slice none 0 0] 26) := HW0.out.2.2.2.1.grow H9.out.1
    have t0 : W9.cell? ⟨w.heap.size + 2, 0, none⟩ = some (.int .i64 0) := HRB.out.cell 0
    have t1 : W9.cell? ⟨w.heap.size + 2, 1, none⟩ = some (.int .i64 0) := HRB.out.cell 1
    have t2 : W9.cell? ⟨w.heap.size + 2, 2, none⟩ = some (.slice none 0 0) := HRB.out.cell 2
    have tf0 := HRB.out.frozen 0
    have tf1 := HRB.out.frozen 1
    have tf2 := HRB.out.frozen 2
    clear hCB hfr hcl hkc hcur hcz hcel
    go_wp2
    have hs := put3 HRB.out (.int .i64 hd) (.int .i64 vu) (.slice (some ⟨Mo, 0, none⟩) cs.length co)
    have s0 := hs.cell 0
    have s1 := hs.cell 1
    have s2 := hs.cell 2
    refine bodyPost_ret (v := .tuple #[.agg #[.int .i64 hd, .int .i64 vu, .slice (some ⟨Mo, 0, none⟩) cs.length co], .bool (isNew (nthC C k).P x.l)]) (by simp [results, Tryz.results10, go_sem, s0, s1, s2]) rfl ?_
    rw [HE.out.2]
    refine ⟨⟨Mo, co, cs.set k ⟨(nthC C k).f, OM, Oc, Oz⟩, ?_, (CB.set3 H9.out.2.2.1 HRB.out _ _ _).down HW0.out.1.size, H9.out.2.2.2⟩, set3 (grow_on HW0.out.1 H9.out.1) (by omega) _ _ _⟩
    rw [List.length_set]
end Go.Proofs.YtooninmicfcfoaaGreat.PrtV
