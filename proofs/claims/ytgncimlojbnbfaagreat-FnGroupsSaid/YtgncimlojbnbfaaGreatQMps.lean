/-
  PROVED: a map of the call's own, seen as a function from its keys: made, asked, written, struck; keys that are whole numbers, and keys that are structs of two whole numbers.
-/
import Derived.Test.YtgncimlojbnbfaaGreatQApp
import Derived.Maps.OwnSet
set_option linter.unusedVariables false
namespace Go.Proofs.YtgncimlojbnbfaaGreat.Mps
open Go.RowKit Over Blk
open Go.MapKept Go.ChangeMaps

structure Asked {ι : Type} (P : Program) (k : TypeId) (enc : ι → Value) : Prop where
  inj : ∀ {i j : ι}, enc i = enc j → i = j
  check : ∀ (w : World) (em : Bool) (i : ι), (Instr.checkKey em 10000 k (enc i)).run P w = .ok () w
  find : ∀ (w : World) (x : ι), ∀ es : List MapEntry, (∀ e ∈ es, ∃ i, e.key = enc i) →
    ((Instr.findKey k (enc x) es).run P w = .ok none w ∧ ∀ e ∈ es, e.key ≠ enc x) ∨ ∃ j e, (Instr.findKey k (enc x) es).run P w = .ok (some (j, e.val)) w ∧ es[j]? = some e ∧ e.key = enc x
  stays : ∀ (w : World) (i : ι), (Instr.keyThatStays (enc i) (enc i)).run P w = .ok (enc i) w

def IntK (a : Int) : Value := .int .i64 a
def K2 (x y : Int) : Value := .agg #[.int .i64 x, .int .i64 y]
theorem asked_int {P : Program} {k : TypeId} (hk : P.underlying k = some (.int .i64)) : Asked P k IntK where
  inj h := by unfold IntK at h; injection h
  check w em a := run_checkKey hk (by simp [IsKey, IntK]) em 9999
  stays w a := run_keyThatStays (d := .int .i64) (by simp [IsKey, IntK])
  find w a es hes := by
    have hks : ∀ y ∈ es, IsKey (.int .i64) y.key := fun y hy => by obtain ⟨b, hb⟩ := hes y hy; rw [hb]; simp [IsKey, IntK]
    rcases findNow_spec (k := .int .i64 a) (d := .int .i64) (by simp [IsKey]) es 0 hks with ⟨h1, h2⟩ | ⟨j, e0, h1, h2, h3⟩
    · exact Or.inl ⟨run_findKey hk h1, h2⟩
    · exact Or.inr ⟨j, e0, by show (Instr.findKey k (.int .i64 a) es).run P w = _; simpa using run_findKey hk h1, h2, h3⟩

def MapG {ι : Type} (enc : ι → Value) (w : World) (b : Nat) (g : ι → Option Value) : Prop :=
  ∃ es clock, w.heap[b]? = some (.map es clock) ∧ (∀ e ∈ es.toList, ∃ i, e.key = enc i) ∧ es.toList.Pairwise (fun a c => a.key ≠ c.key) ∧ ∀ v u, g v = some u ↔ ∃ e ∈ es.toList, e.key = enc v ∧ e.val = u
def updG {ι : Type} [DecidableEq ι] (g : ι → Option Value) (k : ι) (v : Option Value) : ι → Option Value := fun x => if x = k then v else g x
theorem upd_at {ι : Type} [DecidableEq ι] (g : ι → Option Value) (k : ι) (v : Option Value) : updG g k v k = v := if_pos rfl
theorem upd_no {ι : Type} [DecidableEq ι] {g : ι → Option Value} {k x : ι} {v : Option Value} (h : x ≠ k) : updG g k v x = g x := if_neg h
section
variable {ι : Type} {enc : ι → Value} {w w' : World} {b : Nat} {g : ι → Option Value}
theorem MapG.lt (h : MapG enc w b g) : b < w.heap.size := by
  obtain ⟨es, clock, hb, _⟩ := h
  exact (Array.getElem?_eq_some_iff.1 hb).1
theorem MapG.below {B : Nat} (h : MapG enc w b g) (hb : Below B w w') (hB : b < B) : MapG enc w' b g := by
  obtain ⟨es, clock, h1, h2⟩ := h
  exact ⟨es, clock, by rw [hb.block b hB]; exact h1, h2⟩
theorem MapG.grow (h : MapG enc w b g) (hb : Below w.heap.size w w') : MapG enc w' b g := h.below hb h.lt
theorem MapG.far {row : Option Nat} (h : MapG enc w b g) (hg : w.grownBy w' row) (hne : some b ≠ row) : MapG enc w' b g := by
  have hlt := h.lt
  obtain ⟨es, clock, h1, h2⟩ := h
  exact ⟨es, clock, (hg.block b hlt hne).trans h1, h2⟩
theorem MapG.ne_blk {M : Nat} {cs : Array Value} {T : TypeId} (h : MapG enc w b g) (k : Blk w M cs T) : M ≠ b := fun e => by
  subst e
  obtain ⟨es, clock, h1, _⟩ := h
  unfold Blk at k
  rw [h1] at k
  cases k
theorem MapG.new (w : World) : MapG enc (w.alloc (.map #[] 0)) w.heap.size (fun _ => none) :=
  ⟨#[], 0, by show (w.heap.push _)[w.heap.size]? = _; simp, by simp, by simp, by simp⟩
theorem MapG.alloc (h : MapG enc w b g) (o : Obj) : MapG enc (w.alloc o) b g := h.grow ((Below.refl _ _).alloc (Nat.le_refl _) o)
theorem blk_map {N : Nat} {cs : Array Value} {T : TypeId} (h : Blk w N cs T) (hm : MapG enc w b g) (hg : w.grownBy w' (some b)) : Blk w' N cs T := by
  have hne := hm.ne_blk h
  have hlt := h.lt
  unfold Blk at *
  rw [hg.block N hlt (fun e => hne (Option.some.inj e))]; exact h

variable {P : Program} {k t e : TypeId}
theorem MapG.lookup (h : MapG enc w b g) (A : Asked P k enc) (ht : P.underlying t = some (.map k e)) {z : Value} (hz : (zeroValue e).run P w = .ok z w) (key : ι) (c : Bool) :
    (Instr.lookup t (.map (some b)) (enc key) c).run P w = .ok (if c then .tuple #[(g key).getD z, .bool (g key).isSome] else (g key).getD z) w := by
  obtain ⟨es, clock, h1, h2, h3, h4⟩ := h
  rcases A.find w key es.toList h2 with ⟨f1, f2⟩ | ⟨j, e0, f1, f2, f3⟩
  · have hg : g key = none := by
      cases q : g key with
      | none => rfl
      | some u =>
        obtain ⟨e, he, hk', _⟩ := (h4 key u).1 q
        exact absurd hk' (f2 e he)
    simp [Instr.lookup, run_underlying ht, MapKept.run_getObj_map h1, A.check w _ key, f1, hz, hg, Result.andThen]
  · have hg : g key = some e0.val := (h4 key e0.val).2 ⟨e0, List.mem_of_getElem? f2, f3, rfl⟩
    simp [Instr.lookup, run_underlying ht, MapKept.run_getObj_map h1, A.check w _ key, f1, hg, Result.andThen]
theorem pair_push {es : Array MapEntry} {x : MapEntry} (h : es.toList.Pairwise (fun a c => a.key ≠ c.key)) (hx : ∀ e ∈ es.toList, e.key ≠ x.key) : (es.push x).toList.Pairwise (fun a c => a.key ≠ c.key) := by
  rw [Array.toList_push, List.pairwise_append]
  exact ⟨h, List.pairwise_singleton _ _, fun a ha c hc => by rw [List.mem_singleton.1 hc]; exact hx a ha⟩
theorem MapG.update [DecidableEq ι] (h : MapG enc w b g) (A : Asked P k enc) (ht : P.underlying t = some (.map k e)) (key : ι) (val : Value) :
    ∃ w', (Instr.mapUpdate t (.map (some b)) (enc key) val).run P w = .ok () w' ∧ MapG enc w' b (updG g key (some val)) ∧ w.grownBy w' (some b) ∧ w'.heap.size = w.heap.size := by
  obtain ⟨es, clock, h1, h2, h3, h4⟩ := h
  rcases A.find w key es.toList h2 with ⟨f1, f2⟩ | ⟨j, e0, f1, f2, f3⟩
  · refine ⟨setBlock w b (.map (es.push ⟨enc key, val, clock⟩) (clock + 1)), ?_, ⟨_, _, heap_setBlock_same h1 _, ?_, pair_push h3 f2, ?_⟩, ⟨rfl, rfl, rfl, by simp [setBlock], fun i _ hi => heap_setBlock_other h1 _ (fun e => hi (by rw [e]))⟩, by simp [setBlock]⟩
    · simp [Instr.mapUpdate, run_underlying ht, MapKept.run_getObj_map h1, A.check w false key, f1, MapKept.run_setObj_map _ h1, Result.andThen, setBlock]
    · intro x hx
      rw [Array.toList_push] at hx
      rcases List.mem_append.1 hx with hx | hx
      · exact h2 x hx
      · rw [List.mem_singleton.1 hx]; exact ⟨key, rfl⟩
    · intro v u
      rw [Array.toList_push]
      by_cases q : v = key
      · subst q
        rw [upd_at]
        constructor
        · intro hu
          exact ⟨⟨enc v, val, clock⟩, by simp, rfl, Option.some.inj hu⟩
        · rintro ⟨x, hx, hxk, hxv⟩
          rcases List.mem_append.1 hx with hx | hx
          · exact absurd hxk (f2 x hx)
          · rw [List.mem_singleton.1 hx] at hxv
            rw [← hxv]
      · rw [upd_no q, h4]
        constructor
        · rintro ⟨x, hx, hxk⟩; exact ⟨x, List.mem_append_left _ hx, hxk⟩
        · rintro ⟨x, hx, hxk, hxv⟩
          rcases List.mem_append.1 hx with hx | hx
          · exact ⟨x, hx, hxk, hxv⟩
          · rw [List.mem_singleton.1 hx] at hxk; exact absurd (A.inj hxk).symm q
  · have hj : j < es.size := by
      have := (List.getElem?_eq_some_iff.1 f2).1
      simpa using this
    have hej : es[j]? = some e0 := by simpa using f2
    have hst := A.stays w key
    have hmod : (es.modify j fun e => { e with key := enc key, val := val }).toList = es.toList.set j { e0 with key := enc key, val := val } := by
      rw [Array.toList_modify]
      apply List.ext_getElem?
      intro i
      rw [List.getElem?_modify, List.getElem?_set]
      by_cases q : j = i
      · subst q
        simp [f2]
        exact hj
      · simp [q]
    have hmem : ∀ x, x ∈ es.toList.set j { e0 with key := enc key, val := val } ↔ (x ∈ es.toList ∧ x.key ≠ enc key) ∨ x = { e0 with key := enc key, val := val } := by
      intro x
      constructor
      · intro hx
        obtain ⟨i, hi, hxi⟩ := List.getElem_of_mem hx
        rw [List.getElem_set] at hxi
        by_cases q : j = i
        · subst q; right; simpa using hxi.symm
        · rw [if_neg q] at hxi
          left
          have hi' : i < es.toList.length := by simpa using hi
          refine ⟨by rw [← hxi]; exact List.getElem_mem _, ?_⟩
          have hp := List.pairwise_iff_getElem.1 h3
          have hjl : j < es.toList.length := by simpa using hj
          have e1 : es.toList[j] = e0 := by rw [List.getElem?_eq_getElem hjl] at f2; exact Option.some.inj f2
          rcases Nat.lt_or_gt_of_ne q with hlt | hlt
          · have := hp j i hjl hi' hlt
            rw [e1, f3, hxi] at this
            exact fun e => this e.symm
          · have := hp i j hi' hjl hlt
            rw [e1, f3, hxi] at this
            exact this
      · rintro (⟨hx, hne⟩ | rfl)
        · obtain ⟨i, hi, hxi⟩ := List.getElem_of_mem hx
          have q : j ≠ i := fun q => by
            subst q
            have e1 : es.toList[j] = e0 := by rw [List.getElem?_eq_getElem hi] at f2; exact Option.some.inj f2
            rw [← hxi, e1] at hne
            exact hne f3
          refine List.mem_of_getElem? (i := i) ?_
          rw [List.getElem?_set_ne q, List.getElem?_eq_getElem hi, hxi]
        · exact List.mem_of_getElem? (i := j) (by rw [List.getElem?_set_self (by simpa using hj)])
    refine ⟨setBlock w b (.map (es.modify j fun e => { e with key := enc key, val := val }) clock), ?_, ⟨_, _, heap_setBlock_same h1 _, ?_, ?_, ?_⟩, ⟨rfl, rfl, rfl, by simp [setBlock], fun i _ hi => heap_setBlock_other h1 _ (fun e => hi (by rw [e]))⟩, by simp [setBlock]⟩
    · simp [Instr.mapUpdate, run_underlying ht, MapKept.run_getObj_map h1, A.check w false key, f1, hej, f3, hst, MapKept.run_setObj_map _ h1, Result.andThen, setBlock]
    · intro x hx
      rw [hmod, hmem] at hx
      rcases hx with hx | rfl
      · exact h2 x hx.1
      · exact ⟨key, rfl⟩
    · rw [hmod]
      rw [List.pairwise_iff_getElem]
      intro i l hi hl hil
      have hp := List.pairwise_iff_getElem.1 h3
      have hjl : j < es.toList.length := by simpa using hj
      have e1 : es.toList[j] = e0 := by rw [List.getElem?_eq_getElem hjl] at f2; exact Option.some.inj f2
      simp only [List.length_set] at hi hl
      rw [List.getElem_set, List.getElem_set]
      by_cases q1 : j = i
      · subst q1
        rw [if_pos rfl, if_neg (by omega)]
        have := hp j l hi hl hil
        rw [e1, f3] at this
        exact this
      · rw [if_neg q1]
        by_cases q2 : j = l
        · subst q2
          rw [if_pos rfl]
          have := hp i j hi hl hil
          rw [e1, f3] at this
          exact this
        · rw [if_neg q2]; exact hp i l hi hl hil
    · intro v u
      rw [hmod]
      by_cases q : v = key
      · subst q
        rw [upd_at]
        constructor
        · intro hu
          exact ⟨_, (hmem _).2 (.inr rfl), rfl, Option.some.inj hu⟩
        · rintro ⟨x, hx, hxk, hxv⟩
          rcases (hmem x).1 hx with hx | rfl
          · exact absurd hxk hx.2
          · rw [← hxv]
      · rw [upd_no q, h4]
        constructor
        · rintro ⟨x, hx, hxk, hxv⟩; exact ⟨x, (hmem x).2 (.inl ⟨hx, by rw [hxk]; exact fun h => q (A.inj h)⟩), hxk, hxv⟩
        · rintro ⟨x, hx, hxk, hxv⟩
          rcases (hmem x).1 hx with hx | rfl
          · exact ⟨x, hx.1, hxk, hxv⟩
          · exact absurd (A.inj hxk).symm q
theorem MapG.delete [DecidableEq ι] (h : MapG enc w b g) (A : Asked P k enc) (ht : P.underlying t = some (.map k e)) (key : ι) (ty : TypeId) :
    ∃ w', (Builtin.delete_ #[t, k] ty #[.map (some b), enc key]).run P w = .ok (.tuple #[]) w' ∧ MapG enc w' b (updG g key none) ∧ w.grownBy w' (some b) ∧ w'.heap.size = w.heap.size := by
  obtain ⟨es, clock, h1, h2, h3, h4⟩ := h
  rcases A.find w key es.toList h2 with ⟨f1, f2⟩ | ⟨j, e0, f1, f2, f3⟩
  · refine ⟨setBlock w b (.map es clock), ?_, ⟨_, _, heap_setBlock_same h1 _, h2, h3, ?_⟩, ⟨rfl, rfl, rfl, by simp [setBlock], fun i _ hi => heap_setBlock_other h1 _ (fun e => hi (by rw [e]))⟩, by simp [setBlock]⟩
    · simp [Builtin.delete_, run_underlying ht, MapKept.run_getObj_map h1, A.check w _ key, f1, MapKept.run_setObj_map _ h1, Result.andThen, setBlock]
    · intro v u
      by_cases q : v = key
      · subst q
        rw [upd_at]
        exact ⟨fun h => by simp at h, fun ⟨x, hx, hxk, _⟩ => absurd hxk (f2 x hx)⟩
      · rw [upd_no q]; exact h4 v u
  · have hj : j < es.size := by
      have := (List.getElem?_eq_some_iff.1 f2).1
      simpa using this
    have hjl : j < es.toList.length := by simpa using hj
    have e1 : es.toList[j] = e0 := by rw [List.getElem?_eq_getElem hjl] at f2; exact Option.some.inj f2
    have her : (es.eraseIdxIfInBounds j).toList = es.toList.eraseIdx j := by
      rw [Array.eraseIdxIfInBounds, dif_pos hj, Array.toList_eraseIdx]
    have hmem : ∀ x, x ∈ es.toList.eraseIdx j ↔ x ∈ es.toList ∧ x.key ≠ enc key := by
      intro x
      rw [List.mem_eraseIdx_iff_getElem]
      constructor
      · rintro ⟨i, hi, hij, rfl⟩
        refine ⟨List.getElem_mem _, ?_⟩
        have hp := List.pairwise_iff_getElem.1 h3
        rcases Nat.lt_or_gt_of_ne hij with hlt | hlt
        · have := hp i j hi hjl hlt
          rw [e1, f3] at this
          exact this
        · have := hp j i hjl hi hlt
          rw [e1, f3] at this
          exact fun e => this e.symm
      · rintro ⟨hx, hne⟩
        obtain ⟨i, hi, hxi⟩ := List.getElem_of_mem hx
        exact ⟨i, hi, fun q => by subst q; rw [← hxi, e1] at hne; exact hne f3, hxi⟩
    refine ⟨setBlock w b (.map (es.eraseIdxIfInBounds j) clock), ?_, ⟨_, _, heap_setBlock_same h1 _, ?_, ?_, ?_⟩, ⟨rfl, rfl, rfl, by simp [setBlock], fun i _ hi => heap_setBlock_other h1 _ (fun e => hi (by rw [e]))⟩, by simp [setBlock]⟩
    · simp [Builtin.delete_, run_underlying ht, MapKept.run_getObj_map h1, A.check w _ key, f1, MapKept.run_setObj_map _ h1, Result.andThen, setBlock]
    · intro x hx
      rw [her, hmem] at hx
      exact h2 x hx.1
    · rw [her]
      exact h3.sublist (List.eraseIdx_sublist _ _)
    · intro v u
      rw [her]
      by_cases q : v = key
      · subst q
        rw [upd_at]
        exact ⟨fun h => by simp at h, fun ⟨x, hx, hxk, _⟩ => absurd hxk ((hmem x).1 hx).2⟩
      · rw [upd_no q, h4]
        constructor
        · rintro ⟨x, hx, hxk, hxv⟩; exact ⟨x, (hmem x).2 ⟨hx, by rw [hxk]; exact fun h => q (A.inj h)⟩, hxk, hxv⟩
        · rintro ⟨x, hx, hxk, hxv⟩; exact ⟨x, ((hmem x).1 hx).1, hxk, hxv⟩
end

section
variable {P : Program} (w : World) {ops : Array Oper} {rest : List Oper} {o : Oper} {a : Act} {Q : Exit → Act → World → Prop}
theorem wp_lookup (hg : o.guard = none) (m x : Operand) (t : TypeId) (c : Bool) (hop : o.op = Op.lookup t m x c) (k e : TypeId) {ι : Type} [DecidableEq ι] (enc : ι → Value) (A : Asked P k enc) (ht : P.underlying t = some (.map k e)) {z : Value} (hz : (zeroValue e).run P w = .ok z w) (b : Nat) (g : ι → Option Value)
    (hm : a.eval m = .map (some b)) (hown : MapG enc w b g) (key : ι) (hx : a.eval x = enc key) (v : Value) (hv : (if c then .tuple #[(g key).getD z, .bool (g key).isSome] else (g key).getD z) = v) (hK : wpList P ops Q rest (a.put o.dst v) w) :
    wpList P ops Q (o :: rest) a w := by
  refine wpList_plain hg fun K' hK' => ?_
  have hrun := hown.lookup A ht hz key c
  rw [hv] at hrun
  unfold Oper.wp
  simp [execOp, hop, hm, hx, hrun, Result.andThen]
  exact hK' _ _ hK
end
end Go.Proofs.YtgncimlojbnbfaaGreat.Mps
