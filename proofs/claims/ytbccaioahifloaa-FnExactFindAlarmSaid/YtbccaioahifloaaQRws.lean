/-
  The builtin copy of a whole row whose elements have several cells, into a block of the call's own.
  Plain lists of labels: putting one into a sorted list from the right, sorting by that, what SortSet answers. No program is spoken of.
  PROVED: the contracts of the comparing function that SortSet hands to the library's sort, and of the library's insertion sort over labels: it leaves the row sorted as the plain lists say.
  PROVED: impl.SortSet, through the library's stable sort, answers what the plain lists say, in memory of its own; nothing that was there is changed.
  PROVED: over two alarms whose labels lie in memory spec.Merge and impl.Merge answer alike, in memory of their own; nothing that was there is changed.
  PROVED: rows of alarms in memory of a call's own, each alarm's labels in a block of their own: read, grown by an append, written at a place; what chains come to, on plain lists.
-/
import Derived.Test.YtbccaioahifloaaQBlk
import Derived.Laws.CopyOwn
import Derived.Laws.Append
import Derived.Test.YtbccaioahifloaaQLabO
import Derived.Test.YtbccaioahifloaaQLabT
import Derived.Test.YtbccaioahifloaaQAlmS
import Derived.Test.YtbccaioahifloaaQApp
import Derived.Test.YtbccaioahifloaaQAlmsK
namespace Go.Proofs.Ytbccaioahifloaa.CopyK
open Go.RowKit Go.Proofs.Ytbccaioahifloaa.Over Go.Proofs.Ytbccaioahifloaa.Blk
set_option linter.unusedVariables false

theorem run_copy_k {P : Program} (w : World) (dT sT ty elem : TypeId) (k g n c c' : Nat) (cur : Array Value) (t : TypeId) (cs : List Value) (a : Option Addr)
    (hu : P.underlying dT = some (.slice elem)) (hs : (P.info? elem).map (·.size) = some k) (hg : Blk w g cur t) (hcur : cur.size = n * k) (hcs : cs.length = n * k)
    (ha : n = 0 ∨ ∃ ad, a = some ad ∧ ∀ j v, cs[j]? = some v → w.cell? (ad.add j) = some v) (h1 : ∀ v ∈ cs, v.oneCell' = true) :
    (Builtin.copy_ #[dT, sT] ty #[.slice (some ⟨g, 0, none⟩) n c, .slice a n c']).run P w = .ok (goInt n) (w.setRow g cs.toArray) := by
  have hg' : w.heap[g]? = some (.cells cur t (0, 0)) := hg
  have hst := run_storeCells_at P g 0 t cs 0 cur w hg' (by omega) h1
  have e : (cur.toList.take (0 + 0) ++ cs ++ cur.toList.drop (0 + 0 + cs.length)).toArray = cs.toArray := by
    rw [List.drop_eq_nil_of_le (by simp; omega)]; simp
  rw [e] at hst
  have hfc : (Builtin.firstCells k n (.slice a n c')).run P w = .ok cs.toArray w := by
    rcases ha with h0 | ⟨ad, rfl, hsrc⟩
    · have hc0 : cs = [] := List.eq_nil_of_length_eq_zero (by rw [hcs, h0]; simp)
      subst hc0
      cases a with
      | none => exact run_firstCells_none (P := P) (w := w) _ _ _ _
      | some ad => exact run_firstCells_some (P := P) (w := w) _ _ _ _ _ _ hcs (fun j v h => by simp at h)
    · exact run_firstCells_some (P := P) (w := w) _ _ _ _ _ _ hcs hsrc
  cases hq : P.info? elem with
  | none => simp [hq] at hs
  | some i =>
    have hi : i.size = k := by simpa [hq] using hs
    simp [Builtin.copy_, run_underlying hu, Builtin.lenOf, sizeOf, typeInfo, hq, hi, hfc, hst]

theorem wpList_copy_k {P : Program} {w : World} {ops : Array Oper} {rest : List Oper} {o : Oper} {a : Act} {Q : Exit → Act → World → Prop} (hgd : o.guard = none) (d s : Operand) (dT sT : TypeId)
    (ho : o.op = .call { callee := .builtin .copy, args := #[d, s], argTypes := #[dT, sT] }) (elem : TypeId) (k : Nat) (hu : P.underlying dT = some (.slice elem)) (hsz : (P.info? elem).map (·.size) = some k)
    (g n c c' : Nat) (p : Option Addr) (hd : a.eval d = .slice (some ⟨g, 0, none⟩) n c) (hs : a.eval s = .slice p n c') (cur : Array Value) (t : TypeId) (hg : Blk w g cur t) (hcur : cur.size = n * k) (cs : List Value) (hcs : cs.length = n * k)
    (ha : n = 0 ∨ ∃ ad, p = some ad ∧ ∀ j v, cs[j]? = some v → w.cell? (ad.add j) = some v) (h1 : ∀ v ∈ cs, v.oneCell' = true) (B : Nat) (w0 : World) (hb : Below B w0 w) (hBg : B ≤ g)
    (h : ∀ w', Blk w' g cs.toArray t → Below B w0 w' → wpList P ops Q rest (a.put o.dst (goInt n)) w') : wpList P ops Q (o :: rest) a w := by
  refine wpList_plain hgd fun K hK => ?_
  have hrun := run_copy_k (P := P) w dT sT o.type elem k g n c c' cur t cs p hu hsz hg hcur hcs ha h1
  unfold Oper.wp
  simp [execOp, ho, resolve, invoke, builtin, hd, hs, hrun, Result.andThen]
  exact hK _ _ (h _ (setRow_heap w g _ _ t _ hg) (below_setRow hb hBg _))
end Go.Proofs.Ytbccaioahifloaa.CopyK
namespace Go.Proofs.Ytbccaioahifloaa.LabP
open Go.RowKit
open Go.Proofs.Ytbccaioahifloaa.Labs Go.Proofs.Ytbccaioahifloaa.LabS
open Go.Proofs.Ytbccaioahifloaa.StrB (lessB retB)
open Go.Proofs.Ytbccaioahifloaa.LabO (setB set_long okAt)
set_option linter.unusedVariables false

/-- x put into p ahead of its j-th one -/
def mid (p : List Lab) (x : Lab) (j : Nat) : List Lab := p.take j ++ x :: p.drop j
/-- how far from the left x stands in p, looked for from the k-th one down -/
def pos (x : Lab) (p : List Lab) : Nat → Nat
  | 0 => 0
  | k + 1 => if lessB x.1 (nth p k).1 = true then pos x p k else k + 1
def ins (p : List Lab) (x : Lab) : List Lab := mid p x (pos x p p.length)
/-- the first k of l, sorted -/
def upto (l : List Lab) : Nat → List Lab
  | 0 => []
  | k + 1 => ins (upto l k) (nth l k)
/-- the row while the i-th one is on its way down at place j: p sorted, x, then the rest of l -/
def row (l : List Lab) (i j : Nat) : List Lab := mid (upto l i) (nth l i) j ++ l.drop (i + 1)
end Go.Proofs.Ytbccaioahifloaa.LabP
namespace Go.Proofs.Ytbccaioahifloaa.LabQ
open Go.RowKit
open Go.Proofs.Ytbccaioahifloaa.Labs Go.Proofs.Ytbccaioahifloaa.LabS Go.Proofs.Ytbccaioahifloaa.LabP Go.Proofs.Ytbccaioahifloaa.Over Go.Proofs.Ytbccaioahifloaa.Blk
open Go.Proofs.Ytbccaioahifloaa.StrB (lessB retB)
set_option linter.unusedVariables false

/-- the cells hold what f says, up to the n-th element -/
def HeldF (cs : Array Value) (f : Nat → Lab) (n : Nat) : Prop := ∀ m, m < n → cs[m * 2]? = some (.string (f m).1) ∧ cs[m * 2 + 1]? = some (.string (f m).2)
end Go.Proofs.Ytbccaioahifloaa.LabQ
namespace Go.Proofs.Ytbccaioahifloaa.LabR
open Go.RowKit
open Go.Proofs.Ytbccaioahifloaa.Labs Go.Proofs.Ytbccaioahifloaa.LabS Go.Proofs.Ytbccaioahifloaa.LabP Go.Proofs.Ytbccaioahifloaa.LabQ Go.Proofs.Ytbccaioahifloaa.Over Go.Proofs.Ytbccaioahifloaa.Blk Go.Proofs.Ytbccaioahifloaa.CopyK
open Go.Proofs.Ytbccaioahifloaa.StrB (lessB retB)
open Go.Proofs.Ytbccaioahifloaa.LabO (setB set_long Fits)
open Go.Proofs.Ytbccaioahifloaa.LabT (Held held_reads infoL)
set_option linter.unusedVariables false

/-- the cells of a row of labels -/
def flat : List Lab → List Value
  | [] => []
  | x :: l => .string x.1 :: .string x.2 :: flat l
theorem flat_len : ∀ l : List Lab, (flat l).length = l.length * 2
  | [] => rfl
  | x :: l => by rw [flat, List.length_cons, List.length_cons, flat_len l, List.length_cons]; omega
theorem flat_get : ∀ (l : List Lab) (m : Nat), m < l.length → (flat l)[m * 2]? = some (.string (nth l m).1) ∧ (flat l)[m * 2 + 1]? = some (.string (nth l m).2)
  | [], m, h => by simp at h
  | x :: l, 0, _ => ⟨rfl, rfl⟩
  | x :: l, m + 1, h => by
    have := flat_get l m (by simpa using h)
    have e : (m + 1) * 2 = m * 2 + 2 := by omega
    rw [e]
    exact this
theorem flat_one : ∀ (l : List Lab), ∀ v ∈ flat l, v.oneCell' = true
  | [], v, h => by simp [flat] at h
  | x :: l, v, h => by
    simp only [flat, List.mem_cons] at h
    rcases h with rfl | rfl | h
    · rfl
    · rfl
    · exact flat_one l v h
theorem flat_held (l : List Lab) : HeldF (flat l).toArray (nth l) l.length := fun m hm => by
  have := flat_get l m hm
  simpa using this
theorem flat_src {w : World} {b off : Nat} {l : List Lab} (h : ∀ i, i < l.length → w.cell? ⟨b, off + i * 2, none⟩ = some (.string (nth l i).1) ∧ w.cell? ⟨b, off + i * 2 + 1, none⟩ = some (.string (nth l i).2)) :
    ∀ j v, (flat l)[j]? = some v → w.cell? ((⟨b, off, none⟩ : Addr).add j) = some v := fun j v hj => by
  have ea : (⟨b, off, none⟩ : Addr).add j = ⟨b, off + j, none⟩ := by by_cases h : j = 0 <;> simp [Addr.add, h]
  rw [ea]
  have hlt : j < l.length * 2 := by
    rw [← flat_len]
    exact (List.getElem?_eq_some_iff.1 hj).1
  rcases Nat.mod_two_eq_zero_or_one j with e | e
  · obtain ⟨m, rfl⟩ : ∃ m, j = m * 2 := ⟨j / 2, by omega⟩
    rw [(flat_get l m (by omega)).1] at hj
    rw [← hj]; exact (h m (by omega)).1
  · obtain ⟨m, rfl⟩ : ∃ m, j = m * 2 + 1 := ⟨j / 2, by omega⟩
    rw [(flat_get l m (by omega)).2] at hj
    rw [← hj, ← Nat.add_assoc]; exact (h m (by omega)).2
theorem reads_src {w : World} {a : Option Addr} {l : List Lab} (h : Reads w a l) : l.length = 0 ∨ ∃ ad, a = some ad ∧ ∀ j v, (flat l)[j]? = some v → w.cell? (ad.add j) = some v := by
  rcases h with rfl | ⟨b, off, rfl, _, hc⟩
  · exact .inl rfl
  · exact .inr ⟨_, rfl, flat_src hc⟩

theorem infoK : (Try.prog.info? 67).map (·.size) = some 2 := by kernel_rfl
set_option maxHeartbeats 800000 in
theorem copied_any (a : Option Addr) (cap : Nat) (l : List Lab) (w : World) (M : Nat) (hM : M = w.heap.size) (hr : Reads w a l) (hl : l.length ≤ 1048576) :
    Calls Try.prog 80 #[.slice a l.length cap] w
      fun e w' => e = .returned (.slice (some ⟨M, 0, none⟩) l.length l.length) ∧ Below M w w' ∧ Blk w' M (flat l).toArray 67 := by
  subst hM
  have HR : Hid (Reads w a l) := hr
  clear hr
  have hmk := make_k (P := Try.prog) 35 67 (.agg #[.string ByteArray.empty, .string ByteArray.empty]) 2 32 Try.underlying35 infoL .i64 .i64 l.length (by omega) (by omega)
  go_enter Try.func80, Try.ntmps80
  go_wp2_with (refine wpList_copy_k (by rfl) _ _ 35 35 (by rfl) 67 2 Try.underlying35 infoK w.heap.size l.length l.length cap a (by rfl) (by rfl) (madeCells #[.string ByteArray.empty, .string ByteArray.empty] (l.length * 2)) 67 ?c1 ?c2 (flat l) (flat_len l) ?c3 (flat_one l) w.heap.size _ (Below.refl _ _) (Nat.le_refl _) ?_)
  case c1 => exact Blk.new_at rfl
  case c2 => simp [size_madeCells]
  case c3 =>
    rcases reads_src HR.out with h | ⟨ad, rfl, h⟩
    · exact .inl h
    · rcases HR.out with hn | ⟨b, off, e, hlt, hc⟩
      · exact .inl (by rw [hn]; rfl)
      · refine .inr ⟨ad, rfl, fun j v hj => ?_⟩
        have := h j v hj
        have hb : (ad.add j).block < w.heap.size := by cases e; by_cases h : j = 0 <;> simp [Addr.add, h, hlt]
        rw [World.cell?_alloc_lt _ _ _ hb]
        exact this
  intro w2 hB2 hb2
  have HB2 : Hid (Blk w2 w.heap.size (flat l).toArray 67) := hB2
  have HW2 : Hid (Below w.heap.size w w2) := ((Below.refl _ _).alloc (Nat.le_refl _) _).trans hb2
  clear hB2 hb2 hmk
  go_wp2
  go_ret
  exact ⟨rfl, HW2.out, HB2.out⟩
/-- what SortSet's answer lies in: a block of its own -/
def Own (w w' : World) (M : Nat) (s : List Lab) : Prop := w.heap.size ≤ M ∧ ∃ cs : Array Value, Blk w' M cs 67 ∧ s.length * 2 ≤ cs.size ∧ Held cs s s.length
end Go.Proofs.Ytbccaioahifloaa.LabR
namespace Go.Proofs.Ytbccaioahifloaa.AlmM
open Go.RowKit
open Go.Proofs.Ytbccaioahifloaa.Labs Go.Proofs.Ytbccaioahifloaa.LabS Go.Proofs.Ytbccaioahifloaa.LabR Go.Proofs.Ytbccaioahifloaa.Alm Go.Proofs.Ytbccaioahifloaa.AlmS Go.Proofs.Ytbccaioahifloaa.Over Go.Proofs.Ytbccaioahifloaa.Blk Go.Proofs.Ytbccaioahifloaa.App
open Go.Proofs.Ytbccaioahifloaa.LabT (infoL Held held_reads)
open Go.Proofs.Ytbccaioahifloaa.StrB (retB)
set_option linter.unusedVariables false

theorem src_of {w : World} {ad : Addr} {l : List Lab} (h : Reads w (some ad) l) : ∀ j u, (flat l)[j]? = some u → w.cell? (ad.add j) = some u := fun j u hj => by
  rcases reads_src h with h0 | ⟨ad', e, h1⟩
  · have : l = [] := List.eq_nil_of_length_eq_zero h0
    subst this
    simp [flat] at hj
  · cases e; exact h1 j u hj
/-- a row of the call's own -/
theorem own_row {w' : World} {B g n c : Nat} {l : List Lab} (h : w'.ownsRow B 67 2 (.slice (some ⟨g, 0, none⟩) n c) l.length (flat l)) : B ≤ g ∧ ∃ cs : Array Value, Blk w' g cs 67 ∧ l.length * 2 ≤ cs.size ∧ Held cs l l.length := by
  rcases h.2 with ⟨e, _⟩ | ⟨g', cap', cur, e, hb, hg, hc, _, hz, ht⟩
  · cases e
  · cases e
    refine ⟨hb, cur, hg, ?_, fun j hj => ?_⟩
    · rw [hz]; omega
    · have h2 := flat_get l j hj
      have hl := flat_len l
      rw [← ht, List.getElem?_take_of_lt (by omega), List.getElem?_take_of_lt (by omega)] at h2
      simpa using h2
theorem flat_heldL (l : List Lab) : Held (flat l).toArray l l.length := flat_held l

set_option maxHeartbeats 800000 in
theorem copyS_any (g o cap : Nat) (l : List Lab) (s e : Int) (n : ByteArray) (w : World) (hr : Reads w (some ⟨g, o, none⟩) l) (hl : l.length ≤ 1048576) :
    Calls Try.prog 63 #[.agg #[.slice (some ⟨g, o, none⟩) l.length cap, .int .i64 s, .int .i64 e, .string n]] w fun r w' => (∃ M c, r = .returned (.agg #[.slice (some ⟨M, 0, none⟩) l.length c, .int .i64 s, .int .i64 e, .string n]) ∧ Own w w' M l) ∧ Below w.heap.size w w' := by
  have HR : Hid (Reads w (some ⟨g, o, none⟩) l) := hr
  clear hr
  obtain ⟨i0, hi, hz0, hz1, hz2⟩ := info_parts infoL
  go_enter Try.func63, Try.ntmps63
  have HO : Hid ((((w.alloc (.cells #[.slice (some ⟨g, o, none⟩) l.length cap, .int .i64 s, .int .i64 e, .string n] 40)).alloc (.cells #[.slice none 0 0, .int .i64 0, .int .i64 0, .string ⟨#[]⟩] 40)).alloc (.cells #[] 67)).ownsRow (w.heap.size + 2) 67 2 (.slice (some ⟨w.heap.size + 2, 0, none⟩) 0 0) 0 []) := own_empty (Blk.new_at (by simp)) (Nat.le_refl _)
  go_wp2_with (at_builtin; refine wpList_append_own_at _ rfl _ _ 35 rfl (w.heap.size + 2) 67 i0 (.agg #[.string ByteArray.empty, .string ByteArray.empty]) 2 32 Try.underlying35 hi hz0 hz1 hz2 rfl (by decide) _ _ _ rfl HO.out ⟨g, o, none⟩ l.length cap (flat l) rfl (flat_len l) ?c1 (flat_one l) ?c3 ?c4 ?c5 ?_)
  case c1 => exact src_of (HR.out.below (below3 w _ _ _))
  case c3 => unfold maxLen; omega
  case c4 => omega
  case c5 => simp
  intro v' w4 hown hg hnil _
  have hlow : Below (w.heap.size + 2) ((w.alloc (.cells #[.slice (some ⟨g, o, none⟩) l.length cap, .int .i64 s, .int .i64 e, .string n] 40)).alloc (.cells #[.slice none 0 0, .int .i64 0, .int .i64 0, .string ⟨#[]⟩] 40)) w4 := ((Below.refl _ _).alloc (by simp) _).grown hg (by simp) (fun k hk => (HO.out.lt k hk).1)
  have hpl : w4.ownsRow (w.heap.size + 2) 67 2 v' l.length (flat l) := by simpa using hown
  obtain ⟨M, c, hv⟩ : ∃ g' c', v' = .slice (some ⟨g', 0, none⟩) l.length c' := by
    rcases hpl.2 with ⟨e, _⟩ | ⟨g', c', cur, e, _⟩
    · exact absurd e hnil
    · exact ⟨g', c', e⟩
  subst hv
  have HW : Hid (w.heap.size + 2 ≤ M ∧ ∃ cs : Array Value, Blk w4 M cs 67 ∧ l.length * 2 ≤ cs.size ∧ Held cs l l.length) := own_row hpl
  have hP : Blk w4 w.heap.size #[.slice (some ⟨g, o, none⟩) l.length cap, .int .i64 s, .int .i64 e, .string n] 40 := ((Blk.new _ _ _).alloc _).below hlow (by omega)
  have hR : Blk w4 (w.heap.size + 1) #[.slice none 0 0, .int .i64 0, .int .i64 0, .string ⟨#[]⟩] 40 := (Blk.new_at (by simp)).below hlow (by omega)
  have HB : Hid (Below w.heap.size w w4) := (Go.Joins.below_alloc2 w _ _).trans (hlow.mono (by omega))
  have P0 : w4.cell? ⟨w.heap.size, 0, none⟩ = some (.slice (some ⟨g, o, none⟩) l.length cap) := hP.cell 0
  have P1 : w4.cell? ⟨w.heap.size, 1, none⟩ = some (.int .i64 s) := hP.cell 1
  have P2 : w4.cell? ⟨w.heap.size, 2, none⟩ = some (.int .i64 e) := hP.cell 2
  have P3 : w4.cell? ⟨w.heap.size, 3, none⟩ = some (.string n) := hP.cell 3
  have fP0 := hP.frozen 0
  have fP1 := hP.frozen 1
  have fP2 := hP.frozen 2
  have fP3 := hP.frozen 3
  have R0 : w4.cell? ⟨w.heap.size + 1, 0, none⟩ = some (.slice none 0 0) := hR.cell 0
  have R1 : w4.cell? ⟨w.heap.size + 1, 1, none⟩ = some (.int .i64 0) := hR.cell 1
  have R2 : w4.cell? ⟨w.heap.size + 1, 2, none⟩ = some (.int .i64 0) := hR.cell 2
  have R3 : w4.cell? ⟨w.heap.size + 1, 3, none⟩ = some (.string ⟨#[]⟩) := hR.cell 3
  have fR0 := hR.frozen 0
  have fR1 := hR.frozen 1
  have fR2 := hR.frozen 2
  have fR3 := hR.frozen 3
  clear hown hg hnil hlow hpl HO hP hR hi hz0 hz1 hz2
  go_wp2
  refine bodyPost_ret (v := .agg #[.slice (some ⟨M, 0, none⟩) l.length c, .int .i64 s, .int .i64 e, .string n]) (by simp [results, Try.results63, go_sem, R0, R1, R2, R3]) rfl ?_
  obtain ⟨hM, cs, hk, hs, hh⟩ := HW.out
  exact ⟨⟨M, c, rfl, by omega, cs, blk4 (hk.set_other (by show w.heap.size ≠ M; omega) _) (by omega) _ _ _ _, hs, hh⟩, set4 (HB.out.setCell (Nat.le_refl _) _) (by omega) _ _ _ _⟩

set_option maxHeartbeats 800000 in
theorem copyI_any (a : Option Addr) (cap : Nat) (l : List Lab) (s e : Int) (n : ByteArray) (w : World) (hr : Reads w a l) (hl : l.length ≤ 1048576) :
    Calls Try.prog 66 #[.agg #[.slice a l.length cap, .int .i64 s, .int .i64 e, .string n]] w fun r w' => (∃ M c, r = .returned (.agg #[.slice (some ⟨M, 0, none⟩) l.length c, .int .i64 s, .int .i64 e, .string n]) ∧ Own w w' M l) ∧ Below w.heap.size w w' := by
  have HR : Hid (Reads w a l) := hr
  clear hr
  go_enter Try.func66, Try.ntmps66
  go_wp2_with fail
  refine (copied_any a cap l _ (w.heap.size + 2) (by simp) (HR.out.below (Go.Joins.below_alloc2 w _ _)) hl).mono ?_
  rintro r w4 ⟨rfl, hlow, hB⟩
  have HW : Hid (Blk w4 (w.heap.size + 2) (flat l).toArray 67) := hB
  have hP : Blk w4 w.heap.size #[.slice a l.length cap, .int .i64 s, .int .i64 e, .string n] 40 := ((Blk.new _ _ _).alloc _).below hlow (by omega)
  have hR : Blk w4 (w.heap.size + 1) #[.slice none 0 0, .int .i64 0, .int .i64 0, .string ⟨#[]⟩] 40 := (Blk.new_at (by simp)).below hlow (by omega)
  have HB : Hid (Below w.heap.size w w4) := (Go.Joins.below_alloc2 w _ _).trans (hlow.mono (by omega))
  have P0 : w4.cell? ⟨w.heap.size, 0, none⟩ = some (.slice a l.length cap) := hP.cell 0
  have P1 : w4.cell? ⟨w.heap.size, 1, none⟩ = some (.int .i64 s) := hP.cell 1
  have P2 : w4.cell? ⟨w.heap.size, 2, none⟩ = some (.int .i64 e) := hP.cell 2
  have P3 : w4.cell? ⟨w.heap.size, 3, none⟩ = some (.string n) := hP.cell 3
  have fP0 := hP.frozen 0
  have fP1 := hP.frozen 1
  have fP2 := hP.frozen 2
  have fP3 := hP.frozen 3
  have R0 : w4.cell? ⟨w.heap.size + 1, 0, none⟩ = some (.slice none 0 0) := hR.cell 0
  have R1 : w4.cell? ⟨w.heap.size + 1, 1, none⟩ = some (.int .i64 0) := hR.cell 1
  have R2 : w4.cell? ⟨w.heap.size + 1, 2, none⟩ = some (.int .i64 0) := hR.cell 2
  have R3 : w4.cell? ⟨w.heap.size + 1, 3, none⟩ = some (.string ⟨#[]⟩) := hR.cell 3
  have fR0 := hR.frozen 0
  have fR1 := hR.frozen 1
  have fR2 := hR.frozen 2
  have fR3 := hR.frozen 3
  clear hlow hB hP hR
  go_wp2
  refine bodyPost_ret (v := .agg #[.slice (some ⟨w.heap.size + 2, 0, none⟩) l.length l.length, .int .i64 s, .int .i64 e, .string n]) (by simp [results, Try.results66, go_sem, R0, R1, R2, R3]) rfl ?_
  exact ⟨⟨w.heap.size + 2, l.length, rfl, by omega, (flat l).toArray, blk4 (HW.out.set_other (by show w.heap.size ≠ w.heap.size + 2; omega) _) (by omega) _ _ _ _, by simp [flat_len], flat_heldL l⟩, set4 (HB.out.setCell (Nat.le_refl _) _) (by omega) _ _ _ _⟩

end Go.Proofs.Ytbccaioahifloaa.AlmM
namespace Go.Proofs.Ytbccaioahifloaa.Rws
open Go.RowKit
open Go.Proofs.Ytbccaioahifloaa.Labs Go.Proofs.Ytbccaioahifloaa.LabS Go.Proofs.Ytbccaioahifloaa.Alms Go.Proofs.Ytbccaioahifloaa.AlmS Go.Proofs.Ytbccaioahifloaa.AlmM Go.Proofs.Ytbccaioahifloaa.Over Go.Proofs.Ytbccaioahifloaa.Blk Go.Proofs.Ytbccaioahifloaa.App
open Go.Proofs.Ytbccaioahifloaa.Alm (sameB same_self)
open Go.Proofs.Ytbccaioahifloaa.LabT (Held held_reads Fits)
open Go.Proofs.Ytbccaioahifloaa.LabR (Own)
set_option linter.unusedVariables false

/-- a slice's cells hold these alarms, none of whose labels are nil -/
def RdN (w : World) (a : Option Addr) (P : List PAl) : Prop :=
  P = [] ∨ ∃ b off, a = some ⟨b, off, none⟩ ∧ b < w.heap.size ∧ ∀ i, i < P.length → ∃ g o cap, At w b off i (nthP P i) (some ⟨g, o, none⟩) cap
theorem RdN.rd {w : World} {a : Option Addr} {P : List PAl} (h : RdN w a P) : RdA w a P := by
  rcases h with h | ⟨b, off, e, hb, hc⟩
  · exact .inl h
  · exact .inr ⟨b, off, e, hb, fun i hi => by obtain ⟨g, o, cap, h⟩ := hc i hi; exact ⟨_, _, h⟩⟩
theorem RdN.below {w w' : World} {a : Option Addr} {P : List PAl} (h : RdN w a P) (hb : Below w.heap.size w w') : RdN w' a P := by
  rcases h with h | ⟨b, off, rfl, hlt, hc⟩
  · exact .inl h
  · exact .inr ⟨b, off, rfl, Nat.lt_of_lt_of_le hlt hb.size, fun i hi => by
      obtain ⟨g, o, cap, h⟩ := hc i hi
      exact ⟨g, o, cap, h.below hb hlt⟩⟩
theorem RdN.get {w : World} {a : Option Addr} {P : List PAl} (h : RdN w a P) {i : Nat} (hi : i < P.length) :
    ∃ b off, a = some ⟨b, off, none⟩ ∧ b < w.heap.size ∧ ∃ g o cap, At w b off i (nthP P i) (some ⟨g, o, none⟩) cap := by
  rcases h with h | ⟨b, off, e, hb, h⟩
  · rw [h] at hi; simp at hi
  · exact ⟨b, off, e, hb, h i hi⟩

/-- an alarm in memory of the call's own: the block of its labels, their room, the alarm -/
abbrev ARow := Nat × Nat × PAl
def pals (rs : List ARow) : List PAl := rs.map fun x => x.2.2
def nthA (rs : List ARow) (i : Nat) : ARow := rs.getD i (0, 0, ⟨[], 0, 0, ByteArray.empty⟩)
theorem nthA_eq {rs : List ARow} {i : Nat} (h : i < rs.length) : nthA rs i = rs[i] := by unfold nthA; simp [h]
theorem nthA_mem {rs : List ARow} {i : Nat} (h : i < rs.length) : nthA rs i ∈ rs := by rw [nthA_eq h]; exact List.getElem_mem _
theorem pals_len (rs : List ARow) : (pals rs).length = rs.length := by simp [pals]
theorem pals_nth {rs : List ARow} {i : Nat} (h : i < rs.length) : nthP (pals rs) i = (nthA rs i).2.2 := by
  rw [nthP_eq (by rw [pals_len]; exact h), nthA_eq h]
  simp [pals]
/-- the four cells of the i-th one -/
def Four (f : Nat → Option Value) (i : Nat) (x : ARow) : Prop :=
  f (i * 4) = some (.slice (some ⟨x.1, 0, none⟩) x.2.2.l.length x.2.1) ∧ f (i * 4 + 1) = some (.int .i64 x.2.2.s) ∧ f (i * 4 + 2) = some (.int .i64 x.2.2.e) ∧ f (i * 4 + 3) = some (.string x.2.2.n)
def OwnA (lo : Nat) (w : World) (x : ARow) : Prop := lo ≤ x.1 ∧ x.2.2.l.length ≤ 1048576 ∧ ∃ ds : Array Value, Blk w x.1 ds 67 ∧ x.2.2.l.length * 2 ≤ ds.size ∧ Held ds x.2.2.l x.2.2.l.length
theorem OwnA.lt {lo : Nat} {w : World} {x : ARow} (h : OwnA lo w x) : x.1 < w.heap.size := by
  obtain ⟨h0, h1, ds, h2, h3⟩ := h
  exact h2.lt
theorem OwnA.reads {lo : Nat} {w : World} {x : ARow} (h : OwnA lo w x) : Reads w (some ⟨x.1, 0, none⟩) x.2.2.l := by
  obtain ⟨h0, h1, ds, h2, h3, h4⟩ := h
  exact held_reads h2 h4
theorem OwnA.down {lo lo' : Nat} {w : World} {x : ARow} (h : OwnA lo w x) (hl : lo' ≤ lo) : OwnA lo' w x := ⟨Nat.le_trans hl h.1, h.2⟩
/-- the alarms rs lie in the row at block M, whose room is c -/
structure AB (lo : Nat) (w : World) (M c : Nat) (rs : List ARow) : Prop where
  at' : lo ≤ M
  cap : rs.length ≤ c ∧ c ≤ maxLen
  outer : ∃ cur : Array Value, Blk w M cur 40 ∧ cur.size = c * 4 ∧ ∀ i, i < rs.length → Four (fun k => cur[k]?) i (nthA rs i)
  rows : ∀ x ∈ rs, OwnA lo w x
  ne : rs.Pairwise fun x y => x.1 ≠ y.1
theorem AB.down {lo lo' : Nat} {w : World} {M c : Nat} {rs : List ARow} (h : AB lo w M c rs) (hl : lo' ≤ lo) : AB lo' w M c rs :=
  ⟨Nat.le_trans hl h.at', h.cap, h.outer, fun x hx => (h.rows x hx).down hl, h.ne⟩
theorem AB.lt {lo : Nat} {w : World} {M c : Nat} {rs : List ARow} (h : AB lo w M c rs) : M < w.heap.size := by
  obtain ⟨cur, h1, _⟩ := h.outer
  exact h1.lt
theorem AB.rd {lo : Nat} {w : World} {M c : Nat} {rs : List ARow} (h : AB lo w M c rs) : RdN w (some ⟨M, 0, none⟩) (pals rs) := by
  obtain ⟨cur, h1, h2, h3⟩ := h.outer
  refine .inr ⟨M, 0, rfl, h1.lt, fun i hi => ?_⟩
  rw [pals_len] at hi
  obtain ⟨c0, c1, c2, c3⟩ := h3 i hi
  refine ⟨(nthA rs i).1, 0, (nthA rs i).2.1, ?_⟩
  rw [pals_nth hi]
  exact ⟨by rw [h1.cell, Nat.zero_add]; exact c0, by rw [h1.cell, Nat.zero_add]; exact c1, by rw [h1.cell, Nat.zero_add]; exact c2, by rw [h1.cell, Nat.zero_add]; exact c3, (h.rows _ (nthA_mem hi)).reads⟩
theorem blkA_ne {w : World} {a b : Nat} {cs ds : Array Value} (h : Blk w a cs 40) (k : Blk w b ds 67) : a ≠ b := fun e => by
  subst e
  unfold Blk at h k
  rw [h] at k
  injection k with k
  injection k with _ k
  exact absurd k (by decide)
/-- where the labels l stand first -/
def idxTo (P : List PAl) (l : List Lab) : Nat → Option Nat
  | 0 => none
  | k + 1 => match idxTo P l k with
    | some j => some j
    | none => if (nthP P k).l = l then some k else none
def idxB (P : List PAl) (l : List Lab) : Int :=
  match idxTo P l P.length with
  | some j => (j : Int)
  | none => -1
theorem idxTo_none {P : List PAl} {l : List Lab} : ∀ {k : Nat}, (∀ j, j < k → (nthP P j).l ≠ l) → idxTo P l k = none
  | 0, _ => rfl
  | k + 1, h => by
    rw [idxTo, idxTo_none (fun j hj => h j (by omega))]
    simp only []
    rw [if_neg (h k (by omega))]
theorem idxTo_some {P : List PAl} {l : List Lab} {j : Nat} (hj : ∀ i, i < j → (nthP P i).l ≠ l) (he : (nthP P j).l = l) : ∀ {k : Nat}, j < k → idxTo P l k = some j
  | 0, h => by omega
  | k + 1, h => by
    by_cases e : j = k
    · subst e
      rw [idxTo, idxTo_none hj]
      simp only []
      rw [if_pos he]
    · rw [idxTo, idxTo_some hj he (k := k) (by omega)]
theorem idx_miss {P : List PAl} {l : List Lab} (h : ∀ j, j < P.length → (nthP P j).l ≠ l) : idxB P l = -1 := by unfold idxB; rw [idxTo_none h]
theorem idx_hit {P : List PAl} {l : List Lab} {j : Nat} (hj : ∀ i, i < j → (nthP P i).l ≠ l) (he : (nthP P j).l = l) (hl : j < P.length) : idxB P l = (j : Int) := by unfold idxB; rw [idxTo_some hj he hl]
theorem idxTo_cases (P : List PAl) (l : List Lab) : ∀ k, (∀ j, j < k → (nthP P j).l ≠ l) ∨ ∃ j, j < k ∧ (nthP P j).l = l ∧ ∀ i, i < j → (nthP P i).l ≠ l
  | 0 => .inl fun j h => by omega
  | k + 1 => by
    rcases idxTo_cases P l k with h | ⟨j, h0, h1, h2⟩
    · by_cases e : (nthP P k).l = l
      · exact .inr ⟨k, by omega, e, h⟩
      · refine .inl fun j hj => ?_
        by_cases q : j = k
        · subst q; exact e
        · exact h j (by omega)
    · exact .inr ⟨j, by omega, h1, h2⟩
theorem idx_cases (P : List PAl) (l : List Lab) : (idxB P l = -1 ∧ ∀ j, j < P.length → (nthP P j).l ≠ l) ∨ ∃ k : Nat, idxB P l = (k : Int) ∧ k < P.length ∧ (nthP P k).l = l ∧ ∀ j, j < k → (nthP P j).l ≠ l := by
  rcases idxTo_cases P l P.length with h | ⟨k, h0, h1, h2⟩
  · exact .inl ⟨idx_miss h, h⟩
  · exact .inr ⟨k, idx_hit h2 h1 h0, h0, h1, h2⟩
end Go.Proofs.Ytbccaioahifloaa.Rws
