/-
  PROVED: a map of the call's own gone through by range: each key that is there comes once, in whatever order the tape says; how many entries it has; what a sort of the keys that came gives.
-/
import Derived.Test.YtgncimlojbnbfaaMps
import Derived.Maps.RangeWalk
namespace Go.Proofs.Ytgncimlojbnbfaa.Mpr
open Go.RowKit Go.Proofs.Ytgncimlojbnbfaa.Over Go.Proofs.Ytgncimlojbnbfaa.Blk Go.Proofs.Ytgncimlojbnbfaa.Mps
open Go.MapKept Go.ChangeMaps
set_option linter.unusedVariables false

/-- block b is a map of n entries, each laid at a time of its own -/
def MapN (w : World) (b n : Nat) : Prop := ∃ es clock, w.heap[b]? = some (.map es clock) ∧ es.size = n ∧ (∀ e ∈ es.toList, e.born < clock) ∧ (es.toList.map (·.born)).Nodup
section
variable {w w' : World} {b n : Nat}
theorem MapN.lt (h : MapN w b n) : b < w.heap.size := by
  obtain ⟨es, clock, hb, _⟩ := h
  exact (Array.getElem?_eq_some_iff.1 hb).1
theorem MapN.below {B : Nat} (h : MapN w b n) (hb : Below B w w') (hB : b < B) : MapN w' b n := by
  obtain ⟨es, clock, h1, h2⟩ := h
  exact ⟨es, clock, by rw [hb.block b hB]; exact h1, h2⟩
theorem MapN.grow (h : MapN w b n) (hb : Below w.heap.size w w') : MapN w' b n := h.below hb h.lt
theorem MapN.far {row : Option Nat} (h : MapN w b n) (hg : w.grownBy w' row) (hne : some b ≠ row) : MapN w' b n := by
  have hlt := h.lt
  obtain ⟨es, clock, h1, h2⟩ := h
  exact ⟨es, clock, (hg.block b hlt hne).trans h1, h2⟩
theorem MapN.new (w : World) : MapN (w.alloc (.map #[] 0)) w.heap.size 0 :=
  ⟨#[], 0, by show (w.heap.push _)[w.heap.size]? = _; simp, rfl, by simp, by simp⟩
theorem MapN.alloc (h : MapN w b n) (o : Obj) : MapN (w.alloc o) b n := h.grow ((Below.refl _ _).alloc (Nat.le_refl _) o)
theorem MapN.len {P : Program} {k t e : TypeId} (h : MapN w b n) (ht : P.underlying t = some (.map k e)) (ty : TypeId) : (Builtin.len_ #[t] ty #[.map (some b)]).run P w = .ok (.int .i64 n) w := by
  obtain ⟨es, clock, hb, rfl, _⟩ := h
  simp [Builtin.len_, run_underlying ht, MapKept.run_getObj_map hb, goInt, Result.andThen]
end
section
variable {P : Program} {k t e : TypeId} {ι : Type} {enc : ι → Value} {w w' : World} {b n : Nat} {g : ι → Option Value}
theorem MapN.update (hn : MapN w b n) (h : MapG enc w b g) (A : Asked P k enc) (ht : P.underlying t = some (.map k e)) (key : ι) (val : Value) (hr : (Instr.mapUpdate t (.map (some b)) (enc key) val).run P w = .ok () w') : ∃ n', n' ≤ n + 1 ∧ MapN w' b n' := by
  obtain ⟨es, clock, h1, h2, h3, h4⟩ := h
  obtain ⟨es', clock', q1, q2, q3, q4⟩ := hn
  rw [h1] at q1
  obtain ⟨rfl, rfl⟩ : es = es' ∧ clock = clock' := by injection q1 with q; injection q with a b; exact ⟨a, b⟩
  rcases A.find w key es.toList h2 with ⟨f1, f2⟩ | ⟨j, e0, f1, f2, f3⟩
  · have hx : (Instr.mapUpdate t (.map (some b)) (enc key) val).run P w = .ok () (setBlock w b (.map (es.push ⟨enc key, val, clock⟩) (clock + 1))) := by
      simp [Instr.mapUpdate, run_underlying ht, MapKept.run_getObj_map h1, A.check w false key, f1, MapKept.run_setObj_map _ h1, Result.andThen, setBlock]
    rw [hx] at hr
    injection hr with _ hr
    subst hr
    refine ⟨n + 1, Nat.le_refl _, _, _, heap_setBlock_same h1 _, by simp [q2], ?_, ?_⟩
    · intro x hx
      rw [Array.toList_push] at hx
      rcases List.mem_append.1 hx with hx | hx
      · have := q3 x hx; omega
      · rw [List.mem_singleton.1 hx]; exact Nat.lt_succ_self _
    · rw [Array.toList_push, List.map_append, List.nodup_append]
      refine ⟨q4, by simp, fun x hx y hy => ?_⟩
      obtain ⟨z, hz, rfl⟩ := List.mem_map.1 hx
      have := q3 z hz
      have e : y = clock := by simpa using hy
      omega
  · have hej : es[j]? = some e0 := by simpa using f2
    have hst := A.stays w key
    have hx : (Instr.mapUpdate t (.map (some b)) (enc key) val).run P w = .ok () (setBlock w b (.map (es.modify j fun e => { e with key := enc key, val := val }) clock)) := by
      simp [Instr.mapUpdate, run_underlying ht, MapKept.run_getObj_map h1, A.check w false key, f1, hej, f3, hst, MapKept.run_setObj_map _ h1, Result.andThen, setBlock]
    rw [hx] at hr
    injection hr with _ hr
    subst hr
    have hborn : (es.modify j fun e => { e with key := enc key, val := val }).toList.map (·.born) = es.toList.map (·.born) := by
      apply List.ext_getElem?
      intro i
      rw [List.getElem?_map, List.getElem?_map, Array.toList_modify, List.getElem?_modify]
      cases es.toList[i]? with
      | none => rfl
      | some x => by_cases q : j = i <;> simp [q]
    refine ⟨n, Nat.le_succ _, _, _, heap_setBlock_same h1 _, by simp [q2], ?_, by rw [hborn]; exact q4⟩
    intro x hx
    have hm : x.born ∈ es.toList.map (·.born) := by rw [← hborn]; exact List.mem_map.2 ⟨x, hx, rfl⟩
    obtain ⟨y, hy, e⟩ := List.mem_map.1 hm
    rw [← e]; exact q3 y hy
theorem MapN.delete (hn : MapN w b n) (h : MapG enc w b g) (A : Asked P k enc) (ht : P.underlying t = some (.map k e)) (key : ι) (ty : TypeId) (hr : (Builtin.delete_ #[t, k] ty #[.map (some b), enc key]).run P w = .ok (.tuple #[]) w') : ∃ n', n' ≤ n ∧ MapN w' b n' := by
  obtain ⟨es, clock, h1, h2, h3, h4⟩ := h
  obtain ⟨es', clock', q1, q2, q3, q4⟩ := hn
  rw [h1] at q1
  obtain ⟨rfl, rfl⟩ : es = es' ∧ clock = clock' := by injection q1 with q; injection q with a b; exact ⟨a, b⟩
  rcases A.find w key es.toList h2 with ⟨f1, f2⟩ | ⟨j, e0, f1, f2, f3⟩
  · have hx : (Builtin.delete_ #[t, k] ty #[.map (some b), enc key]).run P w = .ok (.tuple #[]) (setBlock w b (.map es clock)) := by
      simp [Builtin.delete_, run_underlying ht, MapKept.run_getObj_map h1, A.check w _ key, f1, MapKept.run_setObj_map _ h1, Result.andThen, setBlock]
    rw [hx] at hr
    injection hr with _ hr
    subst hr
    exact ⟨n, Nat.le_refl _, _, _, heap_setBlock_same h1 _, q2, q3, q4⟩
  · have hj : j < es.size := by
      have := (List.getElem?_eq_some_iff.1 f2).1
      simpa using this
    have hx : (Builtin.delete_ #[t, k] ty #[.map (some b), enc key]).run P w = .ok (.tuple #[]) (setBlock w b (.map (es.eraseIdxIfInBounds j) clock)) := by
      simp [Builtin.delete_, run_underlying ht, MapKept.run_getObj_map h1, A.check w _ key, f1, MapKept.run_setObj_map _ h1, Result.andThen, setBlock]
    rw [hx] at hr
    injection hr with _ hr
    subst hr
    have her : (es.eraseIdxIfInBounds j).toList = es.toList.eraseIdx j := by
      rw [Array.eraseIdxIfInBounds, dif_pos hj, Array.toList_eraseIdx]
    refine ⟨_, ?_, _, _, heap_setBlock_same h1 _, rfl, ?_, ?_⟩
    · have e1 : (es.eraseIdxIfInBounds j).size = (es.toList.eraseIdx j).length := by rw [← her, Array.length_toList]
      rw [e1, ← q2, ← Array.length_toList]
      exact (List.eraseIdx_sublist _ _).length_le
    · intro x hx
      rw [her] at hx
      exact q3 x ((List.eraseIdx_sublist _ _).subset hx)
    · rw [her]
      exact q4.sublist ((List.eraseIdx_sublist _ _).map _)
end
/-- block r goes through the map of n entries in block b; done: the keys that have come -/
def Rng {ι : Type} (enc : ι → Value) (w : World) (b r n : Nat) (g : ι → Option Value) (done : List ι) : Prop :=
  ∃ es clock since seen c0, w.heap[b]? = some (.map es clock) ∧ ((∀ e ∈ es.toList, ∃ i, e.key = enc i) ∧ es.toList.Pairwise (fun a c => a.key ≠ c.key) ∧ ∀ v u, g v = some u ↔ ∃ e ∈ es.toList, e.key = enc v ∧ e.val = u) ∧ (es.size = n ∧ (∀ e ∈ es.toList, e.born < clock) ∧ (es.toList.map (·.born)).Nodup) ∧
    w.heap[r]? = some (.mapIter (some b) since seen c0) ∧ (∀ e ∈ es.toList, e.born < since) ∧ since ≤ c0 ∧ since ≤ clock ∧ done.Nodup ∧ (∀ i ∈ done, (g i).isSome = true) ∧ (∀ e ∈ es.toList, seen.contains e.born = true ↔ ∃ i ∈ done, e.key = enc i)
theorem nodup_le {α : Type} : ∀ (l m : List α), l.Nodup → (∀ x ∈ l, x ∈ m) → l.length ≤ m.length
  | [], m, _, _ => Nat.zero_le _
  | x :: l, m, h, hs => by
    classical
    obtain ⟨h1, h2⟩ := List.nodup_cons.1 h
    have hx : x ∈ m := hs x (by simp)
    have := nodup_le l (m.erase x) h2 fun y hy => by
      have hne : y ≠ x := fun e => h1 (e ▸ hy)
      exact (List.mem_erase_of_ne hne).2 (hs y (by simp [hy]))
    rw [List.length_erase_of_mem hx] at this
    have h0 : 0 < m.length := List.length_pos_of_mem hx
    rw [List.length_cons]; omega
section
variable {P : Program} {k t e : TypeId} {ι : Type} {enc : ι → Value} {w w' : World} {b r n : Nat} {g : ι → Option Value} {done : List ι}
theorem Rng.map (h : Rng enc w b r n g done) : MapG enc w b g ∧ MapN w b n := by
  obtain ⟨es, clock, since, seen, c0, hb, h1, h2, _⟩ := h
  exact ⟨⟨es, clock, hb, h1⟩, ⟨es, clock, hb, h2⟩⟩
theorem Rng.lt (h : Rng enc w b r n g done) : r < w.heap.size ∧ b < w.heap.size := by
  obtain ⟨es, clock, since, seen, c0, hb, h1, h2, hr, _⟩ := h
  exact ⟨(Array.getElem?_eq_some_iff.1 hr).1, (Array.getElem?_eq_some_iff.1 hb).1⟩
theorem Rng.ne (h : Rng enc w b r n g done) : r ≠ b := by
  obtain ⟨es, clock, since, seen, c0, hb, h1, h2, hr, _⟩ := h
  intro e
  rw [e, hb] at hr
  cases hr
theorem Rng.kept {row : Option Nat} (h : Rng enc w b r n g done) (hg : w.grownBy w' row) (hb' : some b ≠ row) (hr' : some r ≠ row) : Rng enc w' b r n g done := by
  have hlt := h.lt
  obtain ⟨es, clock, since, seen, c0, hb, h1, h2, hr, rest⟩ := h
  exact ⟨es, clock, since, seen, c0, (hg.block b hlt.2 hb').trans hb, h1, h2, (hg.block r hlt.1 hr').trans hr, rest⟩
theorem Rng.alloc (h : Rng enc w b r n g done) (o : Obj) : Rng enc (w.alloc o) b r n g done := h.kept (World.grownBy_alloc w o none) (by simp) (by simp)
theorem Rng.nodup (h : Rng enc w b r n g done) : done.Nodup := by
  obtain ⟨es, clock, since, seen, c0, hb, h1, h2, hr, h3, h4, h5, h6, h7, h8⟩ := h
  exact h6
theorem Rng.has (h : Rng enc w b r n g done) : ∀ i ∈ done, (g i).isSome = true := by
  obtain ⟨es, clock, since, seen, c0, hb, h1, h2, hr, h3, h4, h5, h6, h7, h8⟩ := h
  exact h7
theorem Rng.le (h : Rng enc w b r n g done) (A : Asked P k enc) : done.length ≤ n := by
  obtain ⟨es, clock, since, seen, c0, hb, ⟨h1, h1', h1''⟩, ⟨h2, _⟩, hr, h3, h4, h5, h6, h7, h8⟩ := h
  have := nodup_le (done.map enc) (es.toList.map (·.key)) (List.Pairwise.map enc (fun a b hab e => hab (A.inj e)) h6) fun x hx => by
    obtain ⟨i, hi, rfl⟩ := List.mem_map.1 hx
    obtain ⟨u, hu⟩ := Option.isSome_iff_exists.1 (h7 i hi)
    obtain ⟨e, he, hk, _⟩ := (h1'' i u).1 hu
    exact List.mem_map.2 ⟨e, he, hk⟩
  simpa [h2] using this
theorem Rng.start (hm : MapG enc w b g) (hn : MapN w b n) (ht : P.underlying t = some (.map k e)) :
    ∃ w', (Instr.range t (.map (some b))).run P w = .ok (.pointer (some ⟨w.heap.size, 0, none⟩)) w' ∧ Rng enc w' b w.heap.size n g [] ∧ w.grownBy w' none ∧ w'.heap.size = w.heap.size + 1 := by
  obtain ⟨es, clock, h1, h2⟩ := hm
  obtain ⟨es', clock', q1, q2⟩ := hn
  rw [h1] at q1
  obtain ⟨rfl, rfl⟩ : es = es' ∧ clock = clock' := by injection q1 with q; injection q with a b; exact ⟨a, b⟩
  have hlt := (Array.getElem?_eq_some_iff.1 h1).1
  exact ⟨_, run_range_map w t k e b es clock ht h1, ⟨es, clock, clock, #[], clock, ((MapKept.heap_alloc w _).2 b hlt).trans h1, h2, q2, (MapKept.heap_alloc w _).1, q2.2.1, Nat.le_refl _, Nat.le_refl _, List.Pairwise.nil, by simp, by simp⟩, World.grownBy_alloc w _ none, by simp⟩
theorem Rng.next (h : Rng enc w b r n g done) (A : Asked P k enc) (ty : TypeId) :
    ((∀ i, (g i).isSome = true → i ∈ done) ∧ (Instr.next (.pointer (some ⟨r, 0, none⟩)) false ty).run P w = .ok (.tuple #[.bool false]) w) ∨
    ∃ i v w', g i = some v ∧ i ∉ done ∧ (Instr.next (.pointer (some ⟨r, 0, none⟩)) false ty).run P w = .ok (.tuple #[.bool true, enc i, v]) w' ∧ Rng enc w' b r n g (done ++ [i]) ∧ w.grownBy w' (some r) ∧ w'.heap.size = w.heap.size ∧ (Instr.entry (.pointer (some ⟨r, 0, none⟩))).run P w' = .ok (.tuple #[enc i, v]) w' := by
  have hne := h.ne
  obtain ⟨es, clock, since, seen, c0, hb, hk, hs, hr, hold, hsc, hsk, hd1, hd2, hd3⟩ := h
  rcases run_next_at (P := P) w ty r b since c0 seen es clock hr hb hold hsc with ⟨h0, hrun⟩ | ⟨e, he, w1, hal, hrun⟩
  · refine .inl ⟨fun i hi => ?_, hrun⟩
    obtain ⟨u, hu⟩ := Option.isSome_iff_exists.1 hi
    obtain ⟨x, hx, hxk, _⟩ := (hk.2.2 i u).1 hu
    obtain ⟨j, hj, hjk⟩ := (hd3 x hx).1 (all_seen es seen h0 x hx)
    rw [hxk] at hjk
    rw [A.inj hjk]; exact hj
  · obtain ⟨hem, hes⟩ := mem_left he
    obtain ⟨i, hik⟩ := hk.1 e hem
    have hr1 : w1.heap[r]? = some (.mapIter (some b) since seen c0) := by rcases hal with rfl | rfl <;> exact hr
    have hb1 : w1.heap[b]? = some (.map es clock) := by rcases hal with rfl | rfl <;> exact hb
    have hset := heap_set (o' := .mapIter (some b) since (seen.push e.born) clock) hr1
    have hb' : (setBlock w1 r (.mapIter (some b) since (seen.push e.born) clock)).heap[b]? = some (.map es clock) := (hset.2 b (fun e1 => hne e1.symm)).trans hb1
    have hgi : g i = some e.val := (hk.2.2 i e.val).2 ⟨e, hem, hik, rfl⟩
    have hni : i ∉ done := fun hi => by
      have := (hd3 e hem).2 ⟨i, hi, hik⟩
      rw [hes] at this; cases this
    refine .inr ⟨i, e.val, _, hgi, hni, by rw [← hik]; exact hrun, ⟨es, clock, since, seen.push e.born, clock, hb', hk, hs, hset.1, hold, hsk, hsk, ?_, ?_, ?_⟩, ?_, ?_, by
      rw [← hik]; exact run_entry_at _ r b since seen es clock e hset.1 hb' hem hs.2.2⟩
    · rw [List.nodup_append]
      exact ⟨hd1, by simp, fun x hx y hy e1 => hni (by have : y = i := by simpa using hy
                                                       rw [← this, ← e1]; exact hx)⟩
    · intro x hx
      rcases List.mem_append.1 hx with hx | hx
      · exact hd2 x hx
      · rw [List.mem_singleton.1 hx, hgi]; rfl
    · intro x hx
      rw [contains_push]
      by_cases q : x.born = e.born
      · have hxe : x = e := by
          have h1 := find_born x es.toList hs.2.2 hx
          have h2 := find_born e es.toList hs.2.2 hem
          rw [q, h2] at h1
          exact (Option.some.inj h1).symm
        subst hxe
        exact ⟨fun _ => ⟨i, by simp, hik⟩, fun _ => by simp⟩
      · have hq : (x.born == e.born) = false := by simpa using q
        rw [hq, Bool.or_false, hd3 x hx]
        constructor
        · rintro ⟨j, hj, hjk⟩; exact ⟨j, List.mem_append_left _ hj, hjk⟩
        · rintro ⟨j, hj, hjk⟩
          rcases List.mem_append.1 hj with hj | hj
          · exact ⟨j, hj, hjk⟩
          · rw [List.mem_singleton.1 hj] at hjk
            have : x = e := entry_eq_of_key hk.2.1 hx hem (hjk.trans hik.symm)
            exact absurd (congrArg MapEntry.born this) q
    · rcases hal with rfl | rfl <;> exact ⟨rfl, rfl, rfl, by simp [setBlock], fun i _ hi => hset.2 i (fun e1 => hi (by rw [e1]))⟩
    · rcases hal with rfl | rfl <;> simp [setBlock]
end
section
variable {P : Program} (w : World) {ops : Array Oper} {rest : List Oper} {o : Oper} {a : Act} {Q : Exit → Act → World → Prop}
theorem wp_len (hg : o.guard = none) (m : Operand) (t : TypeId) (hop : o.op = Op.call { callee := Callee.builtin Builtin.len, args := #[m], argTypes := #[t] }) (k e : TypeId) (ht : P.underlying t = some (.map k e)) (b n : Nat) (hm : a.eval m = .map (some b)) (hown : MapN w b n)
    (hK : wpList P ops Q rest (a.put o.dst (.int .i64 n)) w) : wpList P ops Q (o :: rest) a w := by
  refine wpList_plain hg fun K' hK' => ?_
  unfold Oper.wp
  simp [execOp, hop, resolve, invoke, builtin, hm, hown.len ht o.type, Result.andThen]
  exact hK' _ _ hK
theorem wp_updateN (hg : o.guard = none) (m x v : Operand) (t : TypeId) (hop : o.op = Op.mapUpdate t m x v) (k e : TypeId) {ι : Type} [DecidableEq ι] (enc : ι → Value) (A : Asked P k enc) (ht : P.underlying t = some (.map k e)) (b n : Nat) (g : ι → Option Value)
    (hm : a.eval m = .map (some b)) (hown : MapG enc w b g) (hn : MapN w b n) (key : ι) (val : Value) (hx : a.eval x = enc key) (hv : a.eval v = val)
    (hK : ∀ w' n', MapG enc w' b (updG g key (some val)) → MapN w' b n' → n' ≤ n + 1 → w.grownBy w' (some b) → w'.heap.size = w.heap.size → wpList P ops Q rest (a.put o.dst undef) w') :
    wpList P ops Q (o :: rest) a w := by
  refine wpList_plain hg fun K' hK' => ?_
  obtain ⟨w', hrun, r1, r2, r3⟩ := hown.update A ht key val
  obtain ⟨n', hl, hn'⟩ := hn.update hown A ht key val hrun
  unfold Oper.wp
  simp [execOp, hop, hm, hx, hv, hrun, Result.andThen]
  exact hK' _ _ (hK w' n' r1 hn' hl r2 r3)
theorem wp_deleteN (hg : o.guard = none) (m x : Operand) (t k : TypeId) (hop : o.op = Op.call { callee := Callee.builtin Builtin.delete, args := #[m, x], argTypes := #[t, k] }) (e : TypeId) {ι : Type} [DecidableEq ι] (enc : ι → Value) (A : Asked P k enc) (ht : P.underlying t = some (.map k e)) (b n : Nat) (g : ι → Option Value)
    (hm : a.eval m = .map (some b)) (hown : MapG enc w b g) (hn : MapN w b n) (key : ι) (hx : a.eval x = enc key)
    (hK : ∀ w' n', MapG enc w' b (updG g key none) → MapN w' b n' → n' ≤ n → w.grownBy w' (some b) → w'.heap.size = w.heap.size → wpList P ops Q rest (a.put o.dst (.tuple #[])) w') :
    wpList P ops Q (o :: rest) a w := by
  refine wpList_plain hg fun K' hK' => ?_
  obtain ⟨w', hrun, r1, r2, r3⟩ := hown.delete A ht key o.type
  obtain ⟨n', hl, hn'⟩ := hn.delete hown A ht key o.type hrun
  unfold Oper.wp
  simp [execOp, hop, resolve, invoke, builtin, hm, hx, hrun, Result.andThen]
  exact hK' _ _ (hK w' n' r1 hn' hl r2 r3)
theorem wp_range (hg : o.guard = none) (m : Operand) (t : TypeId) (hop : o.op = Op.range t m) (k e : TypeId) (ht : P.underlying t = some (.map k e)) {ι : Type} (enc : ι → Value) (b n : Nat) (g : ι → Option Value)
    (hm : a.eval m = .map (some b)) (hown : MapG enc w b g) (hn : MapN w b n)
    (hK : ∀ w', Rng enc w' b w.heap.size n g [] → w.grownBy w' none → w'.heap.size = w.heap.size + 1 → wpList P ops Q rest (a.put o.dst (.pointer (some ⟨w.heap.size, 0, none⟩))) w') :
    wpList P ops Q (o :: rest) a w := by
  refine wpList_plain hg fun K' hK' => ?_
  obtain ⟨w', hrun, r1, r2, r3⟩ := Rng.start hown hn ht
  unfold Oper.wp
  simp [execOp, hop, hm, hrun, Result.andThen]
  exact hK' _ _ (hK w' r1 r2 r3)
theorem wp_next (hg : o.guard = none) (it : Operand) (hop : o.op = Op.next it false) (k : TypeId) {ι : Type} (enc : ι → Value) (A : Asked P k enc) (b r n : Nat) (g : ι → Option Value) (done : List ι)
    (hit : a.eval it = .pointer (some ⟨r, 0, none⟩)) (h : Rng enc w b r n g done)
    (hDone : (∀ i, (g i).isSome = true → i ∈ done) → wpList P ops Q rest (a.put o.dst (.tuple #[.bool false])) w)
    (hMore : ∀ i v w', g i = some v → i ∉ done → Rng enc w' b r n g (done ++ [i]) → w.grownBy w' (some r) → w'.heap.size = w.heap.size → (Instr.entry (.pointer (some ⟨r, 0, none⟩))).run P w' = .ok (.tuple #[enc i, v]) w' → wpList P ops Q rest (a.put o.dst (.tuple #[.bool true, enc i, v])) w') :
    wpList P ops Q (o :: rest) a w := by
  refine wpList_plain hg fun K' hK' => ?_
  unfold Oper.wp
  rcases h.next A o.type with ⟨h0, hrun⟩ | ⟨i, v, w', hgi, hni, hrun, hrg, hgr, hsz, hen⟩
  · simp [execOp, hop, hit, hrun, Result.andThen]
    exact hK' _ _ (hDone h0)
  · simp [execOp, hop, hit, hrun, Result.andThen]
    exact hK' _ _ (hMore i v w' hgi hni hrg hgr hsz hen)
end
/-- whatever order they came in, sorted they are the one list that is sorted and has them all -/
theorem sort_keys {zs L : List Int} (hz : zs.Nodup) (hL : L.Pairwise (· < ·)) (h : ∀ i, i ∈ zs ↔ i ∈ L) : zs.mergeSort (fun x y => decide (x ≤ y)) = L := by
  have tr : ∀ a b c : Int, decide (a ≤ b) = true → decide (b ≤ c) = true → decide (a ≤ c) = true := fun a b c h1 h2 => by simp only [decide_eq_true_eq] at *; omega
  have to : ∀ a b : Int, (decide (a ≤ b) || decide (b ≤ a)) = true := fun a b => by simp only [Bool.or_eq_true, decide_eq_true_eq]; omega
  have hn : L.Nodup := hL.imp fun h => by omega
  refine List.Perm.eq_of_pairwise (le := fun a b => decide (a ≤ b) = true) (fun a b _ _ h1 h2 => ?_) (List.pairwise_mergeSort tr to zs) (hL.imp fun h => by simp only [decide_eq_true_eq]; omega) ((List.mergeSort_perm zs _).trans ((List.perm_ext_iff_of_nodup hz hn).2 h))
  simp only [decide_eq_true_eq] at h1 h2
  omega
def lenV : Value → Nat
  | .slice _ n _ => n
  | _ => 0
end Go.Proofs.Ytgncimlojbnbfaa.Mpr
