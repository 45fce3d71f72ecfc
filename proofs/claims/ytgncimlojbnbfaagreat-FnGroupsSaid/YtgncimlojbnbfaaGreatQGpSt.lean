/-
  PROVED: a map of the call's own gone through by range: each key that is there comes once, in whatever order the tape says; how many entries it has; what a sort of the keys that came gives.
  PROVED: impl.stand lays groups in a map of its own, each under its place, and impl.copiedGroup gives a group in memory of its own; nothing that was there is changed.
-/
import Derived.Test.YtgncimlojbnbfaaGreatQMps
import Derived.Maps.RangeWalk
import Derived.Test.YtgncimlojbnbfaaGreatQGpC
import Derived.Test.YtgncimlojbnbfaaGreatQGrpI
set_option linter.unusedVariables false
namespace Go.Proofs.YtgncimlojbnbfaaGreat.Mpr
open Go.RowKit Over Blk Mps
open Go.MapKept Go.ChangeMaps

def MapN (w : World) (b n : Nat) : Prop := ∃ es clock, w.heap[b]? = some (.map es clock) ∧ es.size = n ∧ (∀ e ∈ es.toList, e.born < clock) ∧ (es.toList.map (·.born)).Nodup
section
variable {w w' : World} {b n : Nat}
theorem MapN.lt (h : MapN w b n) : b < w.heap.size := by
  obtain ⟨es, clock, hb, _⟩ := h
  exact (Array.getElem?_eq_some_iff.1 hb).1
theorem MapN.below {B : Nat} (h : MapN w b n) (hb : Below B w w') (hB : b < B) : MapN w' b n := by
  obtain ⟨es, clock, h1, h2⟩ := h
  exact ⟨es, clock, by rw [hb.block b hB]; exact h1, h2⟩
theorem MapN.grow (h : MapN w b n) (hb : Below w.heap.size w w') : MapN w' b n := h.below hb h.lt
theorem MapN.far {row : Option Nat} (h : MapN w b n) (hg : w.grownBy w' row) (hne : some b ≠ row) : MapN w' b n := by
  have hlt := h.lt
  obtain ⟨es, clock, h1, h2⟩ := h
  exact ⟨es, clock, (hg.block b hlt hne).trans h1, h2⟩
theorem MapN.new (w : World) : MapN (w.alloc (.map #[] 0)) w.heap.size 0 :=
  ⟨#[], 0, by show (w.heap.push _)[w.heap.size]? = _; simp, rfl, by simp, by simp⟩
theorem MapN.alloc (h : MapN w b n) (o : Obj) : MapN (w.alloc o) b n := h.grow ((Below.refl _ _).alloc (Nat.le_refl _) o)
theorem MapN.len {P : Program} {k t e : TypeId} (h : MapN w b n) (ht : P.underlying t = some (.map k e)) (ty : TypeId) : (Builtin.len_ #[t] ty #[.map (some b)]).run P w = .ok (.int .i64 n) w := by
  obtain ⟨es, clock, hb, rfl, _⟩ := h
  simp [Builtin.len_, run_underlying ht, MapKept.run_getObj_map hb, goInt, Result.andThen]
end
section
variable {P : Program} {k t e : TypeId} {ι : Type} {enc : ι → Value} {w w' : World} {b n : Nat} {g : ι → Option Value}
theorem MapN.update (hn : MapN w b n) (h : MapG enc w b g) (A : Asked P k enc) (ht : P.underlying t = some (.map k e)) (key : ι) (val : Value) (hr : (Instr.mapUpdate t (.map (some b)) (enc key) val).run P w = .ok () w') : ∃ n', n' ≤ n + 1 ∧ MapN w' b n' := by
  obtain ⟨es, clock, h1, h2, h3, h4⟩ := h
  obtain ⟨es', clock', q1, q2, q3, q4⟩ := hn
  rw [h1] at q1
  obtain ⟨rfl, rfl⟩ : es = es' ∧ clock = clock' := by injection q1 with q; injection q with a b; exact ⟨a, b⟩
  rcases A.find w key es.toList h2 with ⟨f1, f2⟩ | ⟨j, e0, f1, f2, f3⟩
  · have hx : (Instr.mapUpdate t (.map (some b)) (enc key) val).run P w = .ok () (setBlock w b (.map (es.push ⟨enc key, val, clock⟩) (clock + 1))) := by
      simp [Instr.mapUpdate, run_underlying ht, MapKept.run_getObj_map h1, A.check w false key, f1, MapKept.run_setObj_map _ h1, Result.andThen, setBlock]
    rw [hx] at hr
    injection hr with _ hr
    subst hr
    refine ⟨n + 1, Nat.le_refl _, _, _, heap_setBlock_same h1 _, by simp [q2], ?_, ?_⟩
    · intro x hx
      rw [Array.toList_push] at hx
      rcases List.mem_append.1 hx with hx | hx
      · have := q3 x hx; omega
      · rw [List.mem_singleton.1 hx]; exact Nat.lt_succ_self _
    · rw [Array.toList_push, List.map_append, List.nodup_append]
      refine ⟨q4, by simp, fun x hx y hy => ?_⟩
      obtain ⟨z, hz, rfl⟩ := List.mem_map.1 hx
      have := q3 z hz
      have e : y = clock := by simpa using hy
      omega
  · have hej : es[j]? = some e0 := by simpa using f2
    have hst := A.stays w key
    have hx : (Instr.mapUpdate t (.map (some b)) (enc key) val).run P w = .ok () (setBlock w b (.map (es.modify j fun e => { e with key := enc key, val := val }) clock)) := by
      simp [Instr.mapUpdate, run_underlying ht, MapKept.run_getObj_map h1, A.check w false key, f1, hej, f3, hst, MapKept.run_setObj_map _ h1, Result.andThen, setBlock]
    rw [hx] at hr
    injection hr with _ hr
    subst hr
    have hborn : (es.modify j fun e => { e with key := enc key, val := val }).toList.map (·.born) = es.toList.map (·.born) := by
      apply List.ext_getElem?
      intro i
      rw [List.getElem?_map, List.getElem?_map, Array.toList_modify, List.getElem?_modify]
      cases es.toList[i]? with
      | none => rfl
      | some x => by_cases q : j = i <;> simp [q]
    refine ⟨n, Nat.le_succ _, _, _, heap_setBlock_same h1 _, by simp [q2], ?_, by rw [hborn]; exact q4⟩
    intro x hx
    have hm : x.born ∈ es.toList.map (·.born) := by rw [← hborn]; exact List.mem_map.2 ⟨x, hx, rfl⟩
    obtain ⟨y, hy, e⟩ := List.mem_map.1 hm
    rw [← e]; exact q3 y hy
theorem MapN.delete (hn : MapN w b n) (h : MapG enc w b g) (A : Asked P k enc) (ht : P.underlying t = some (.map k e)) (key : ι) (ty : TypeId) (hr : (Builtin.delete_ #[t, k] ty #[.map (some b), enc key]).run P w = .ok (.tuple #[]) w') : ∃ n', n' ≤ n ∧ MapN w' b n' := by
  obtain ⟨es, clock, h1, h2, h3, h4⟩ := h
  obtain ⟨es', clock', q1, q2, q3, q4⟩ := hn
  rw [h1] at q1
  obtain ⟨rfl, rfl⟩ : es = es' ∧ clock = clock' := by injection q1 with q; injection q with a b; exact ⟨a, b⟩
  rcases A.find w key es.toList h2 with ⟨f1, f2⟩ | ⟨j, e0, f1, f2, f3⟩
  · have hx : (Builtin.delete_ #[t, k] ty #[.map (some b), enc key]).run P w = .ok (.tuple #[]) (setBlock w b (.map es clock)) := by
      simp [Builtin.delete_, run_underlying ht, MapKept.run_getObj_map h1, A.check w _ key, f1, MapKept.run_setObj_map _ h1, Result.andThen, setBlock]
    rw [hx] at hr
    injection hr with _ hr
    subst hr
    exact ⟨n, Nat.le_refl _, _, _, heap_setBlock_same h1 _, q2, q3, q4⟩
  · have hj : j < es.size := by
      have := (List.getElem?_eq_some_iff.1 f2).1
      simpa using this
    have hx : (Builtin.delete_ #[t, k] ty #[.map (some b), enc key]).run P w = .ok (.tuple #[]) (setBlock w b (.map (es.eraseIdxIfInBounds j) clock)) := by
      simp [Builtin.delete_, run_underlying ht, MapKept.run_getObj_map h1, A.check w _ key, f1, MapKept.run_setObj_map _ h1, Result.andThen, setBlock]
    rw [hx] at hr
    injection hr with _ hr
    subst hr
    have her : (es.eraseIdxIfInBounds j).toList = es.toList.eraseIdx j := by
      rw [Array.eraseIdxIfInBounds, dif_pos hj, Array.toList_eraseIdx]
    refine ⟨_, ?_, _, _, heap_setBlock_same h1 _, rfl, ?_, ?_⟩
    · have e1 : (es.eraseIdxIfInBounds j).size = (es.toList.eraseIdx j).length := by rw [← her, Array.length_toList]
      rw [e1, ← q2, ← Array.length_toList]
      exact (List.eraseIdx_sublist _ _).length_le
    · intro x hx
      rw [her] at hx
      exact q3 x ((List.eraseIdx_sublist _ _).subset hx)
    · rw [her]
      exact q4.sublist ((List.eraseIdx_sublist _ _).map _)
end
def Rng {ι : Type} (enc : ι → Value) (w : World) (b r n : Nat) (g : ι → Option Value) (done : List ι) : Prop :=
  ∃ es clock since seen c0, w.heap[b]? = some (.map es clock) ∧ ((∀ e ∈ es.toList, ∃ i, e.key = enc i) ∧ es.toList.Pairwise (fun a c => a.key ≠ c.key) ∧ ∀ v u, g v = some u ↔ ∃ e ∈ es.toList, e.key = enc v ∧ e.val = u) ∧ (es.size = n ∧ (∀ e ∈ es.toList, e.born < clock) ∧ (es.toList.map (·.born)).Nodup) ∧
    w.heap[r]? = some (.mapIter (some b) since seen c0) ∧ (∀ e ∈ es.toList, e.born < since) ∧ since ≤ c0 ∧ since ≤ clock ∧ done.Nodup ∧ (∀ i ∈ done, (g i).isSome = true) ∧ (∀ e ∈ es.toList, seen.contains e.born = true ↔ ∃ i ∈ done, e.key = enc i)
theorem nodup_le {α : Type} : ∀ (l m : List α), l.Nodup → (∀ x ∈ l, x ∈ m) → l.length ≤ m.length
  | [], m, _, _ => Nat.zero_le _
  | x :: l, m, h, hs => by
    classical
    obtain ⟨h1, h2⟩ := List.nodup_cons.1 h
    have hx : x ∈ m := hs x (by simp)
    have := nodup_le l (m.erase x) h2 fun y hy => by
      have hne : y ≠ x := fun e => h1 (e ▸ hy)
      exact (List.mem_erase_of_ne hne).2 (hs y (by simp [hy]))
    rw [List.length_erase_of_mem hx] at this
    have h0 : 0 < m.length := List.length_pos_of_mem hx
    rw [List.length_cons]; omega
section
variable {P : Program} {k t e : TypeId} {ι : Type} {enc : ι → Value} {w w' : World} {b r n : Nat} {g : ι → Option Value} {done : List ι}
theorem Rng.lt (h : Rng enc w b r n g done) : r < w.heap.size ∧ b < w.heap.size := by
  obtain ⟨es, clock, since, seen, c0, hb, h1, h2, hr, _⟩ := h
  exact ⟨(Array.getElem?_eq_some_iff.1 hr).1, (Array.getElem?_eq_some_iff.1 hb).1⟩
theorem Rng.ne (h : Rng enc w b r n g done) : r ≠ b := by
  obtain ⟨es, clock, since, seen, c0, hb, h1, h2, hr, _⟩ := h
  intro e
  rw [e, hb] at hr
  cases hr
theorem Rng.kept {row : Option Nat} (h : Rng enc w b r n g done) (hg : w.grownBy w' row) (hb' : some b ≠ row) (hr' : some r ≠ row) : Rng enc w' b r n g done := by
  have hlt := h.lt
  obtain ⟨es, clock, since, seen, c0, hb, h1, h2, hr, rest⟩ := h
  exact ⟨es, clock, since, seen, c0, (hg.block b hlt.2 hb').trans hb, h1, h2, (hg.block r hlt.1 hr').trans hr, rest⟩
theorem Rng.alloc (h : Rng enc w b r n g done) (o : Obj) : Rng enc (w.alloc o) b r n g done := h.kept (World.grownBy_alloc w o none) (by simp) (by simp)
theorem Rng.nodup (h : Rng enc w b r n g done) : done.Nodup := by
  obtain ⟨es, clock, since, seen, c0, hb, h1, h2, hr, h3, h4, h5, h6, h7, h8⟩ := h
  exact h6
theorem Rng.has (h : Rng enc w b r n g done) : ∀ i ∈ done, (g i).isSome = true := by
  obtain ⟨es, clock, since, seen, c0, hb, h1, h2, hr, h3, h4, h5, h6, h7, h8⟩ := h
  exact h7
theorem Rng.le (h : Rng enc w b r n g done) (A : Asked P k enc) : done.length ≤ n := by
  obtain ⟨es, clock, since, seen, c0, hb, ⟨h1, h1', h1''⟩, ⟨h2, _⟩, hr, h3, h4, h5, h6, h7, h8⟩ := h
  have := nodup_le (done.map enc) (es.toList.map (·.key)) (List.Pairwise.map enc (fun a b hab e => hab (A.inj e)) h6) fun x hx => by
    obtain ⟨i, hi, rfl⟩ := List.mem_map.1 hx
    obtain ⟨u, hu⟩ := Option.isSome_iff_exists.1 (h7 i hi)
    obtain ⟨e, he, hk, _⟩ := (h1'' i u).1 hu
    exact List.mem_map.2 ⟨e, he, hk⟩
  simpa [h2] using this
theorem Rng.start (hm : MapG enc w b g) (hn : MapN w b n) (ht : P.underlying t = some (.map k e)) :
    ∃ w', (Instr.range t (.map (some b))).run P w = .ok (.pointer (some ⟨w.heap.size, 0, none⟩)) w' ∧ Rng enc w' b w.heap.size n g [] ∧ w.grownBy w' none ∧ w'.heap.size = w.heap.size + 1 := by
  obtain ⟨es, clock, h1, h2⟩ := hm
  obtain ⟨es', clock', q1, q2⟩ := hn
  rw [h1] at q1
  obtain ⟨rfl, rfl⟩ : es = es' ∧ clock = clock' := by injection q1 with q; injection q with a b; exact ⟨a, b⟩
  have hlt := (Array.getElem?_eq_some_iff.1 h1).1
  exact ⟨_, run_range_map w t k e b es clock ht h1, ⟨es, clock, clock, #[], clock, ((MapKept.heap_alloc w _).2 b hlt).trans h1, h2, q2, (MapKept.heap_alloc w _).1, q2.2.1, Nat.le_refl _, Nat.le_refl _, List.Pairwise.nil, by simp, by simp⟩, World.grownBy_alloc w _ none, by simp⟩
theorem Rng.next (h : Rng enc w b r n g done) (A : Asked P k enc) (ty : TypeId) :
    ((∀ i, (g i).isSome = true → i ∈ done) ∧ (Instr.next (.pointer (some ⟨r, 0, none⟩)) false ty).run P w = .ok (.tuple #[.bool false]) w) ∨
    ∃ i v w', g i = some v ∧ i ∉ done ∧ (Instr.next (.pointer (some ⟨r, 0, none⟩)) false ty).run P w = .ok (.tuple #[.bool true, enc i, v]) w' ∧ Rng enc w' b r n g (done ++ [i]) ∧ w.grownBy w' (some r) ∧ w'.heap.size = w.heap.size ∧ (Instr.entry (.pointer (some ⟨r, 0, none⟩))).run P w' = .ok (.tuple #[enc i, v]) w' := by
  have hne := h.ne
  obtain ⟨es, clock, since, seen, c0, hb, hk, hs, hr, hold, hsc, hsk, hd1, hd2, hd3⟩ := h
  rcases run_next_at (P := P) w ty r b since c0 seen es clock hr hb hold hsc with ⟨h0, hrun⟩ | ⟨e, he, w1, hal, hrun⟩
  · refine .inl ⟨fun i hi => ?_, hrun⟩
    obtain ⟨u, hu⟩ := Option.isSome_iff_exists.1 hi
    obtain ⟨x, hx, hxk, _⟩ := (hk.2.2 i u).1 hu
    obtain ⟨j, hj, hjk⟩ := (hd3 x hx).1 (all_seen es seen h0 x hx)
    rw [hxk] at hjk
    rw [A.inj hjk]; exact hj
  · obtain ⟨hem, hes⟩ := mem_left he
    obtain ⟨i, hik⟩ := hk.1 e hem
    have hr1 : w1.heap[r]? = some (.mapIter (some b) since seen c0) := by rcases hal with rfl | rfl <;> exact hr
    have hb1 : w1.heap[b]? = some (.map es clock) := by rcases hal with rfl | rfl <;> exact hb
    have hset := heap_set (o' := .mapIter (some b) since (seen.push e.born) clock) hr1
    have hb' : (setBlock w1 r (.mapIter (some b) since (seen.push e.born) clock)).heap[b]? = some (.map es clock) := (hset.2 b (fun e1 => hne e1.symm)).trans hb1
    have hgi : g i = some e.val := (hk.2.2 i e.val).2 ⟨e, hem, hik, rfl⟩
    have hni : i ∉ done := fun hi => by
      have := (hd3 e hem).2 ⟨i, hi, hik⟩
      rw [hes] at this; cases this
    refine .inr ⟨i, e.val, _, hgi, hni, by rw [← hik]; exact hrun, ⟨es, clock, since, seen.push e.born, clock, hb', hk, hs, hset.1, hold, hsk, hsk, ?_, ?_, ?_⟩, ?_, ?_, by
      rw [← hik]; exact run_entry_at _ r b since seen es clock e hset.1 hb' hem hs.2.2⟩
    · rw [List.nodup_append]
      exact ⟨hd1, by simp, fun x hx y hy e1 => hni (by have : y = i := by simpa using hy
                                                       rw [← this, ← e1]; exact hx)⟩
    · intro x hx
      rcases List.mem_append.1 hx with hx | hx
      · exact hd2 x hx
      · rw [List.mem_singleton.1 hx, hgi]; rfl
    · intro x hx
      rw [contains_push]
      by_cases q : x.born = e.born
      · have hxe : x = e := by
          have h1 := find_born x es.toList hs.2.2 hx
          have h2 := find_born e es.toList hs.2.2 hem
          rw [q, h2] at h1
          exact (Option.some.inj h1).symm
        subst hxe
        exact ⟨fun _ => ⟨i, by simp, hik⟩, fun _ => by simp⟩
      · have hq : (x.born == e.born) = false := by simpa using q
        rw [hq, Bool.or_false, hd3 x hx]
        constructor
        · rintro ⟨j, hj, hjk⟩; exact ⟨j, List.mem_append_left _ hj, hjk⟩
        · rintro ⟨j, hj, hjk⟩
          rcases List.mem_append.1 hj with hj | hj
          · exact ⟨j, hj, hjk⟩
          · rw [List.mem_singleton.1 hj] at hjk
            have : x = e := entry_eq_of_key hk.2.1 hx hem (hjk.trans hik.symm)
            exact absurd (congrArg MapEntry.born this) q
    · rcases hal with rfl | rfl <;> exact ⟨rfl, rfl, rfl, by simp [setBlock], fun i _ hi => hset.2 i (fun e1 => hi (by rw [e1]))⟩
    · rcases hal with rfl | rfl <;> simp [setBlock]
end
section
variable {P : Program} (w : World) {ops : Array Oper} {rest : List Oper} {o : Oper} {a : Act} {Q : Exit → Act → World → Prop}
theorem wp_len (hg : o.guard = none) (m : Operand) (t : TypeId) (hop : o.op = Op.call { callee := Callee.builtin Builtin.len, args := #[m], argTypes := #[t] }) (k e : TypeId) (ht : P.underlying t = some (.map k e)) (b n : Nat) (hm : a.eval m = .map (some b)) (hown : MapN w b n)
    (hK : wpList P ops Q rest (a.put o.dst (.int .i64 n)) w) : wpList P ops Q (o :: rest) a w := by
  refine wpList_plain hg fun K' hK' => ?_
  unfold Oper.wp
  simp [execOp, hop, resolve, invoke, builtin, hm, hown.len ht o.type, Result.andThen]
  exact hK' _ _ hK
theorem wp_updateN (hg : o.guard = none) (m x v : Operand) (t : TypeId) (hop : o.op = Op.mapUpdate t m x v) (k e : TypeId) {ι : Type} [DecidableEq ι] (enc : ι → Value) (A : Asked P k enc) (ht : P.underlying t = some (.map k e)) (b n : Nat) (g : ι → Option Value)
    (hm : a.eval m = .map (some b)) (hown : MapG enc w b g) (hn : MapN w b n) (key : ι) (val : Value) (hx : a.eval x = enc key) (hv : a.eval v = val)
    (hK : ∀ w' n', MapG enc w' b (updG g key (some val)) → MapN w' b n' → n' ≤ n + 1 → w.grownBy w' (some b) → w'.heap.size = w.heap.size → wpList P ops Q rest (a.put o.dst undef) w') :
    wpList P ops Q (o :: rest) a w := by
  refine wpList_plain hg fun K' hK' => ?_
  obtain ⟨w', hrun, r1, r2, r3⟩ := hown.update A ht key val
  obtain ⟨n', hl, hn'⟩ := hn.update hown A ht key val hrun
  unfold Oper.wp
  simp [execOp, hop, hm, hx, hv, hrun, Result.andThen]
  exact hK' _ _ (hK w' n' r1 hn' hl r2 r3)
theorem wp_deleteN (hg : o.guard = none) (m x : Operand) (t k : TypeId) (hop : o.op = Op.call { callee := Callee.builtin Builtin.delete, args := #[m, x], argTypes := #[t, k] }) (e : TypeId) {ι : Type} [DecidableEq ι] (enc : ι → Value) (A : Asked P k enc) (ht : P.underlying t = some (.map k e)) (b n : Nat) (g : ι → Option Value)
    (hm : a.eval m = .map (some b)) (hown : MapG enc w b g) (hn : MapN w b n) (key : ι) (hx : a.eval x = enc key)
    (hK : ∀ w' n', MapG enc w' b (updG g key none) → MapN w' b n' → n' ≤ n → w.grownBy w' (some b) → w'.heap.size = w.heap.size → wpList P ops Q rest (a.put o.dst (.tuple #[])) w') :
    wpList P ops Q (o :: rest) a w := by
  refine wpList_plain hg fun K' hK' => ?_
  obtain ⟨w', hrun, r1, r2, r3⟩ := hown.delete A ht key o.type
  obtain ⟨n', hl, hn'⟩ := hn.delete hown A ht key o.type hrun
  unfold Oper.wp
  simp [execOp, hop, resolve, invoke, builtin, hm, hx, hrun, Result.andThen]
  exact hK' _ _ (hK w' n' r1 hn' hl r2 r3)
theorem wp_range (hg : o.guard = none) (m : Operand) (t : TypeId) (hop : o.op = Op.range t m) (k e : TypeId) (ht : P.underlying t = some (.map k e)) {ι : Type} (enc : ι → Value) (b n : Nat) (g : ι → Option Value)
    (hm : a.eval m = .map (some b)) (hown : MapG enc w b g) (hn : MapN w b n)
    (hK : ∀ w', Rng enc w' b w.heap.size n g [] → w.grownBy w' none → w'.heap.size = w.heap.size + 1 → wpList P ops Q rest (a.put o.dst (.pointer (some ⟨w.heap.size, 0, none⟩))) w') :
    wpList P ops Q (o :: rest) a w := by
  refine wpList_plain hg fun K' hK' => ?_
  obtain ⟨w', hrun, r1, r2, r3⟩ := Rng.start hown hn ht
  unfold Oper.wp
  simp [execOp, hop, hm, hrun, Result.andThen]
  exact hK' _ _ (hK w' r1 r2 r3)
theorem wp_next (hg : o.guard = none) (it : Operand) (hop : o.op = Op.next it false) (k : TypeId) {ι : Type} (enc : ι → Value) (A : Asked P k enc) (b r n : Nat) (g : ι → Option Value) (done : List ι)
    (hit : a.eval it = .pointer (some ⟨r, 0, none⟩)) (h : Rng enc w b r n g done)
    (hDone : (∀ i, (g i).isSome = true → i ∈ done) → wpList P ops Q rest (a.put o.dst (.tuple #[.bool false])) w)
    (hMore : ∀ i v w', g i = some v → i ∉ done → Rng enc w' b r n g (done ++ [i]) → w.grownBy w' (some r) → w'.heap.size = w.heap.size → (Instr.entry (.pointer (some ⟨r, 0, none⟩))).run P w' = .ok (.tuple #[enc i, v]) w' → wpList P ops Q rest (a.put o.dst (.tuple #[.bool true, enc i, v])) w') :
    wpList P ops Q (o :: rest) a w := by
  refine wpList_plain hg fun K' hK' => ?_
  unfold Oper.wp
  rcases h.next A o.type with ⟨h0, hrun⟩ | ⟨i, v, w', hgi, hni, hrun, hrg, hgr, hsz, hen⟩
  · simp [execOp, hop, hit, hrun, Result.andThen]
    exact hK' _ _ (hDone h0)
  · simp [execOp, hop, hit, hrun, Result.andThen]
    exact hK' _ _ (hMore i v w' hgi hni hrg hgr hsz hen)
end
theorem sort_keys {zs L : List Int} (hz : zs.Nodup) (hL : L.Pairwise (· < ·)) (h : ∀ i, i ∈ zs ↔ i ∈ L) : zs.mergeSort (fun x y => decide (x ≤ y)) = L := by
  have tr : ∀ a b c : Int, decide (a ≤ b) = true → decide (b ≤ c) = true → decide (a ≤ c) = true := fun a b c h1 h2 => by simp only [decide_eq_true_eq] at *; omega
  have tot : ∀ a b : Int, (decide (a ≤ b) || decide (b ≤ a)) = true := fun a b => by simp only [Bool.or_eq_true, decide_eq_true_eq]; omega
  have hn : L.Nodup := hL.imp fun h => by omega
  refine List.Perm.eq_of_pairwise (le := fun a b => decide (a ≤ b) = true) (fun a b _ _ h1 h2 => ?_) (List.pairwise_mergeSort tr tot zs) (hL.imp fun h => by simp only [decide_eq_true_eq]; omega) ((List.mergeSort_perm zs _).trans ((List.perm_ext_iff_of_nodup hz hn).2 h))
  simp only [decide_eq_true_eq] at h1 h2
  omega
def lenV : Value → Nat
  | .slice _ n _ => n
  | _ => 0
end Go.Proofs.YtgncimlojbnbfaaGreat.Mpr
namespace Go.Proofs.YtgncimlojbnbfaaGreat.GpSt
open Go.RowKit
open Labs LabS Alms AlmM Over Blk App Rws ChnI ChnC ChnK Chs Grp GrpL GrpI Gps GpC Mps Mpr
def Up (w w' : World) : Prop := w.heap.size ≤ w'.heap.size ∧ ∀ p v, w.cell? p = some v → w'.cell? p = some v
theorem Up.map {ι : Type} {enc : ι → Value} {w w' : World} {b : Nat} {g : ι → Option Value} (hm : MapG enc w b g) (hg : w.grownBy w' (some b)) : Up w w' := by
  refine ⟨hg.size, fun p v hv => ?_⟩
  have hlt := World.block_lt_of_cell? w _ hv
  obtain ⟨es, clock, hb, _⟩ := hm
  have hne : some p.block ≠ some b := fun e => by
    have e : p.block = b := Option.some.inj e
    simp [World.cell?, e, hb] at hv
  have h := hg.block p.block hlt hne
  rw [← hv]
  simp only [World.cell?, h]
theorem Reads.up {w w' : World} {a : Option Addr} {l : List Lab} (h : Reads w a l) (hu : Up w w') : Reads w' a l := by
  rcases h with h | ⟨b, off, rfl, hlt, hc⟩
  · exact .inl h
  · exact .inr ⟨b, off, rfl, Nat.lt_of_lt_of_le hlt hu.1, fun i hi => ⟨hu.2 _ _ (hc i hi).1, hu.2 _ _ (hc i hi).2⟩⟩
theorem RdA.up {w w' : World} {a : Option Addr} {P : List PAl} (h : RdA w a P) (hu : Up w w') : RdA w' a P := by
  rcases h with h | ⟨b, off, rfl, hlt, hc⟩
  · exact .inl h
  · exact .inr ⟨b, off, rfl, Nat.lt_of_lt_of_le hlt hu.1, fun i hi => by
      obtain ⟨ad, cap, h⟩ := hc i hi
      exact ⟨ad, cap, hu.2 _ _ h.c0, hu.2 _ _ h.c1, hu.2 _ _ h.c2, hu.2 _ _ h.c3, Reads.up h.reads hu⟩⟩
theorem RdN.up {w w' : World} {a : Option Addr} {P : List PAl} (h : RdN w a P) (hu : Up w w') : RdN w' a P := by
  rcases h with h | ⟨b, off, rfl, hlt, hc⟩
  · exact .inl h
  · exact .inr ⟨b, off, rfl, Nat.lt_of_lt_of_le hlt hu.1, fun i hi => by
      obtain ⟨g, o, cap, h⟩ := hc i hi
      exact ⟨g, o, cap, hu.2 _ _ h.c0, hu.2 _ _ h.c1, hu.2 _ _ h.c2, hu.2 _ _ h.c3, Reads.up h.reads hu⟩⟩
def GK (w : World) (ka : Option Addr) (key : List Lab) (a : Option Addr) (cap : Nat) (P : List PAl) : Prop := (∃ g o, ka = some ⟨g, o, none⟩) ∧ Reads w ka key ∧ RdA w a P
theorem gk_of {w : World} {ka : Option Addr} {key : List Lab} {a : Option Addr} {cap : Nat} {P : List PAl} (h : GN w ka key a cap P) : GK w ka key a cap P := ⟨h.1, h.2.2.2.1, h.2.2.2.2.rd⟩
theorem stays_gk : StaysG GK := fun _ _ _ _ _ _ _ h hb => ⟨h.1, h.2.1.below hb, h.2.2.below hb⟩
def UpG (R : How) : Prop := ∀ w w' ka key a cap P, R w ka key a cap P → Up w w' → R w' ka key a cap P
theorem up_gk : UpG GK := fun _ _ _ _ _ _ _ h hu => ⟨h.1, Reads.up h.2.1 hu, RdA.up h.2.2 hu⟩
theorem up_gn : UpG GN := fun _ _ _ _ _ _ _ h hu => ⟨h.1, h.2.1, h.2.2.1, Reads.up h.2.2.2.1 hu, RdN.up h.2.2.2.2 hu⟩
def Ent (R : How) (w : World) (v : Value) (x : PGr) : Prop := ∃ ka kd ad cp, v = .agg #[.int .i64 x.n, .slice ka x.key.length kd, .int .i64 x.b, .int .i64 x.t, .slice ad x.P.length cp] ∧ R w ka x.key ad cp x.P
theorem Ent.below {R : How} (hR : StaysG R) {w w' : World} {v : Value} {x : PGr} (h : Ent R w v x) (hb : Below w.heap.size w w') : Ent R w' v x := by
  obtain ⟨ka, kd, ad, cp, e, h⟩ := h
  exact ⟨ka, kd, ad, cp, e, hR _ _ _ _ _ _ _ h hb⟩
theorem Ent.gk {w : World} {v : Value} {x : PGr} (h : Ent GN w v x) : Ent GK w v x := by
  obtain ⟨ka, kd, ad, cp, e, h⟩ := h
  exact ⟨ka, kd, ad, cp, e, gk_of h⟩
theorem Ent.up {R : How} (hR : UpG R) {w w' : World} {v : Value} {x : PGr} (h : Ent R w v x) (hu : Up w w') : Ent R w' v x := by
  obtain ⟨ka, kd, ad, cp, e, h⟩ := h
  exact ⟨ka, kd, ad, cp, e, hR _ _ _ _ _ _ _ h hu⟩
def updF (F : Int → Option PGr) (i : Int) (v : Option PGr) : Int → Option PGr := fun j => if j = i then v else F j
theorem updF_at (F : Int → Option PGr) (i : Int) (v : Option PGr) : updF F i v i = v := if_pos rfl
theorem updF_no {F : Int → Option PGr} {i j : Int} {v : Option PGr} (h : j ≠ i) : updF F i v j = F j := if_neg h
structure Stood (R : How) (w : World) (M n : Nat) (g : Int → Option Value) (F : Int → Option PGr) : Prop where
  map : MapG IntK w M g
  num : MapN w M n
  non : ∀ i, F i = Option.none → g i = Option.none
  ent : ∀ i x, F i = some x → ∃ v, g i = some v ∧ Ent R w v x
theorem Stood.grow {R : How} (hR : StaysG R) {w w' : World} {M n : Nat} {g : Int → Option Value} {F : Int → Option PGr} (h : Stood R w M n g F) (hb : Below w.heap.size w w') : Stood R w' M n g F :=
  ⟨h.map.grow hb, h.num.grow hb, h.non, fun i x hx => by obtain ⟨v, h1, h2⟩ := h.ent i x hx; exact ⟨v, h1, h2.below hR hb⟩⟩
theorem Stood.gk {w : World} {M n : Nat} {g : Int → Option Value} {F : Int → Option PGr} (h : Stood GN w M n g F) : Stood GK w M n g F :=
  ⟨h.map, h.num, h.non, fun i x hx => by obtain ⟨v, h1, h2⟩ := h.ent i x hx; exact ⟨v, h1, h2.gk⟩⟩
theorem Stood.put {R : How} (hR : UpG R) {w w' : World} {M n n' : Nat} {g : Int → Option Value} {F : Int → Option PGr} {i : Int} {v : Value} {x : PGr} (h : Stood R w M n g F) (hm : MapG IntK w' M (updG g i (some v))) (hn : MapN w' M n') (hg : w.grownBy w' (some M)) (hv : Ent R w v x) : Stood R w' M n' (updG g i (some v)) (updF F i (some x)) := by
  have hu := Up.map h.map hg
  refine ⟨hm, hn, fun j hj => ?_, fun j y hy => ?_⟩
  · by_cases e : j = i
    · subst e; rw [updF_at] at hj; cases hj
    · rw [updF_no e] at hj; rw [upd_no e]; exact h.non j hj
  · by_cases e : j = i
    · subst e; rw [updF_at] at hy; cases hy; exact ⟨v, upd_at _ _ _, hv.up hR hu⟩
    · rw [updF_no e] at hy
      obtain ⟨u, h1, h2⟩ := h.ent j y hy
      exact ⟨u, by rw [upd_no e]; exact h1, h2.up hR hu⟩
theorem Stood.drop {R : How} (hR : UpG R) {w w' : World} {M n n' : Nat} {g : Int → Option Value} {F : Int → Option PGr} {i : Int} (h : Stood R w M n g F) (hm : MapG IntK w' M (updG g i none)) (hn : MapN w' M n') (hg : w.grownBy w' (some M)) : Stood R w' M n' (updG g i none) (updF F i Option.none) := by
  have hu := Up.map h.map hg
  refine ⟨hm, hn, fun j hj => ?_, fun j y hy => ?_⟩
  · by_cases e : j = i
    · subst e; exact upd_at _ _ _
    · rw [updF_no e] at hj; rw [upd_no e]; exact h.non j hj
  · by_cases e : j = i
    · subst e; rw [updF_at] at hy; cases hy
    · rw [updF_no e] at hy
      obtain ⟨u, h1, h2⟩ := h.ent j y hy
      exact ⟨u, by rw [upd_no e]; exact h1, h2.up hR hu⟩
def standF (U : List PGr) (i : Int) : Option PGr := if 0 ≤ i then U[i.toNat]? else none
theorem standF_nat (U : List PGr) (k : Nat) : standF U (k : Int) = U[k]? := by unfold standF; rw [if_pos (by omega)]; rfl
theorem standF_ext {F : Int → Option PGr} {U : List PGr} (h0 : ∀ i, i < 0 → F i = none) (h : ∀ k : Nat, F (k : Int) = U[k]?) : F = standF U := by
  funext i
  by_cases e : i < 0
  · rw [h0 i e]; unfold standF; rw [if_neg (by omega)]
  · obtain ⟨k, rfl⟩ : ∃ k : Nat, i = (k : Int) := ⟨i.toNat, by omega⟩
    rw [h k, standF_nat]
theorem standF_neg (U : List PGr) {i : Int} (h : i < 0) : standF U i = none := by unfold standF; rw [if_neg (by omega)]
theorem standF_nil : standF [] = fun _ => none := by funext i; unfold standF; split <;> simp
theorem standF_up {U : List PGr} {k : Nat} (h : k < U.length) : updF (standF (U.take k)) (k : Int) (some (nthG U k)) = standF (U.take (k + 1)) := by
  refine standF_ext (fun i hi => ?_) fun j => ?_
  · rw [updF_no (by omega)]; exact standF_neg _ hi
  · by_cases e : j = k
    · subst e; rw [updF_at, nthG_eq h, List.getElem?_take_of_lt (by omega), List.getElem?_eq_getElem h]
    · rw [updF_no (by omega), standF_nat, List.getElem?_take, List.getElem?_take]
      by_cases h2 : j < k
      · rw [if_pos h2, if_pos (by omega)]
      · rw [if_neg h2, if_neg (by omega)]
theorem standF_set {U : List PGr} {k : Nat} (h : k < U.length) (y : PGr) : updF (standF U) (k : Int) (some y) = standF (U.set k y) := by
  refine standF_ext (fun i hi => ?_) fun j => ?_
  · rw [updF_no (by omega)]; exact standF_neg _ hi
  · by_cases e : j = k
    · subst e; rw [updF_at, List.getElem?_set_self h]
    · rw [updF_no (by omega), standF_nat, List.getElem?_set_ne (Ne.symm e)]
theorem standF_app (U : List PGr) (y : PGr) : updF (standF U) (U.length : Int) (some y) = standF (U ++ [y]) := by
  refine standF_ext (fun i hi => ?_) fun j => ?_
  · rw [updF_no (by omega)]; exact standF_neg _ hi
  · by_cases e : j = U.length
    · subst e; rw [updF_at]; simp
    · rw [updF_no (by omega), standF_nat]
      by_cases h2 : j < U.length
      · rw [List.getElem?_append_left h2]
      · rw [List.getElem?_eq_none (by omega), List.getElem?_eq_none (by simp; omega)]
theorem updF_twice (F : Int → Option PGr) (i : Int) (u v : Option PGr) : updF (updF F i u) i v = updF F i v := by
  funext j
  by_cases e : j = i
  · subst e; rw [updF_at, updF_at]
  · rw [updF_no e, updF_no e, updF_no e]
theorem mkMapS (w : World) (k : Int) : (Instr.makeMap 61 (some (.int .i64 k))).run Tryz.prog w = .ok (.map (some w.heap.size)) (w.alloc (.map #[] 0)) := by
  kernel_rfl
theorem Stood.fresh (R : How) (w : World) : Stood R (w.alloc (.map #[] 0)) w.heap.size 0 (fun _ => Option.none) (standF []) :=
  ⟨MapG.new w, MapN.new w, fun i hi => rfl, fun i x hx => by rw [standF_nil] at hx; cases hx⟩
set_option maxHeartbeats 3200000 in
theorem stand_any (a : Option Addr) (cap : Nat) (U : List PGr) (w : World) (hr : RdGs GN w a U) (hl : U.length ≤ 1048576) :
    Calls Tryz.prog 31 #[.slice a U.length cap] w fun e w' => (∃ M, e = .returned (.map (some M)) ∧ w.heap.size ≤ M ∧ ∃ n g, n ≤ U.length ∧ Stood GN w' M n g (standF U)) ∧ Below w.heap.size w w' := by
  have HR : Hid (RdGs GN w a U) := hr
  have hmm := mkMapS
  clear hr
  go_enter Tryz.func31, Tryz.ntmps31
  go_wp2
  clear hmm
  go_loopw [11] (fun i w' => ∃ (k n : Nat) (g : Int → Option Value), i = .int .i64 k ∧ k ≤ U.length ∧ n ≤ k ∧ Stood GN w' w.heap.size n g (standF (U.take k)) ∧ Below w.heap.size w w') (fun i _ => U.length - (intOf i).toNat)
  case atStart => exact ⟨0, 0, _, rfl, Nat.zero_le _, Nat.le_refl _, Stood.fresh GN w, Go.Joins.below_alloc1 w _⟩
  case round =>
    obtain ⟨k, n, g, rfl, hk, hn, hS, hB⟩ := hrel
    have HS : Hid (Stood GN wr w.heap.size n g (standF (U.take k)) ∧ n ≤ k) := ⟨hS, hn⟩
    have HB : Hid (Below w.heap.size w wr) := hB
    clear hS hB hn
    by_cases hlt : k < U.length
    · have hlt' : (k : Int) < (U.length : Int) := by omega
      obtain ⟨b, off, rfl, hb, ka, kc, ad, cp, hat⟩ := (HR.out.below stays_gn HB.out).get hlt
      have x0 := hat.c0
      have x1 := hat.c1
      have x2 := hat.c2
      have x3 := hat.c3
      have x4 := hat.c4
      have HA : Hid (GN wr ka (nthG U k).key ad cp (nthG U k).P) := hat.reads
      clear hat
      go_wp2_with (at_mapUpdate; refine wp_updateN _ rfl _ _ _ 61 rfl 3 53 IntK (asked_int Tryz.underlying3) Tryz.underlying61 w.heap.size n g rfl (HS.out.1.map.alloc _) (HS.out.1.num.alloc _) (k : Int) (.agg #[.int .i64 (nthG U k).n, .slice ka (nthG U k).key.length kc, .int .i64 (nthG U k).b, .int .i64 (nthG U k).t, .slice ad (nthG U k).P.length cp]) rfl rfl ?_)
      intro w3 n3 hm3 hn3 hle3 hg3 hs3
      have hB1 := Go.Joins.below_alloc1 wr (.cells #[.int .i64 (nthG U k).n, .slice ka (nthG U k).key.length kc, .int .i64 (nthG U k).b, .int .i64 (nthG U k).t, .slice ad (nthG U k).P.length cp] 53)
      have hw3 : Below w.heap.size w w3 := (grow_on HB.out hB1).grown hg3 (by have := HB.out.size; have := hB1.size; omega) (fun j e => by have h : w.heap.size = j := Option.some.inj e; omega)
      have HW3 : Hid (Below w.heap.size w w3 ∧ n3 ≤ k + 1) := ⟨hw3, by have := HS.out.2; omega⟩
      have HS3 : Hid (Stood GN w3 w.heap.size n3 (updG g (k : Int) (some (.agg #[.int .i64 (nthG U k).n, .slice ka (nthG U k).key.length kc, .int .i64 (nthG U k).b, .int .i64 (nthG U k).t, .slice ad (nthG U k).P.length cp]))) (standF (U.take (k + 1)))) := by
        rw [← standF_up hlt]
        exact (HS.out.1.grow stays_gn hB1).put up_gn hm3 hn3 hg3 ⟨ka, kc, ad, cp, rfl, stays_gn _ _ _ _ _ _ _ HA.out hB1⟩
      clear hm3 hn3 hle3 hg3 hs3 hB1 hw3 x0 x1 x2 x3 x4
      go_wp2
      go_roundw
      case rel => exact ⟨k + 1, n3, _, by go_num, by omega, HW3.out.2, HS3.out, HW3.out.1⟩
      case measure => simp [intOf]; omega
    · have hge : ¬ (k : Int) < (U.length : Int) := by omega
      have hkk : k = U.length := by omega
      have HF : Hid (Stood GN wr w.heap.size n g (standF U) ∧ n ≤ U.length) := by
        have h := HS.out
        rw [hkk, List.take_length] at h
        exact h
      clear hkk
      go_wp2
      go_ret
      have hR := HF.out
      exact ⟨⟨_, rfl, Nat.le_refl _, n, hR.2, g, hR.1⟩, HB.out⟩
end Go.Proofs.YtgncimlojbnbfaaGreat.GpSt
