/-
  The builtin copy of a whole row whose elements have several cells, into a block of the call's own.
  Plain lists of labels: putting one into a sorted list from the right, sorting by that, what SortSet answers. No program is spoken of.
  PROVED: the contracts of the comparing function that SortSet hands to the library's sort, and of the library's insertion sort over labels: it leaves the row sorted as the plain lists say.
  PROVED: impl.SortSet, through the library's stable sort, answers what the plain lists say, in memory of its own; nothing that was there is changed.
  PROVED: over two alarms whose labels lie in memory spec.Merge and impl.Merge answer alike, in memory of their own; nothing that was there is changed.
  PROVED: rows of alarms in memory of a call's own, each alarm's labels in a block of their own: read, grown by an append, written at a place; what chains come to, on plain lists.
  PROVED: impl.copiedAlarms gives the same alarms in memory of its own, each alarm's labels in a block of their own; nothing that was there is changed.
-/
import Derived.Test.YtooninmicfcfoaaGreatQBlk
import Derived.Laws.CopyOwn
import Derived.Laws.Append
import Derived.Test.YtooninmicfcfoaaGreatQLabO
import Derived.Test.YtooninmicfcfoaaGreatQLabT
import Derived.Test.YtooninmicfcfoaaGreatQAlmS
import Derived.Test.YtooninmicfcfoaaGreatQApp
import Derived.Test.YtooninmicfcfoaaGreatQAlmsK
set_option linter.unusedVariables false
namespace Go.Proofs.YtooninmicfcfoaaGreat.CopyK
open Go.RowKit Over Blk

theorem run_copy_k {P : Program} (w : World) (dT sT ty elem : TypeId) (k g n c c' : Nat) (cur : Array Value) (t : TypeId) (cs : List Value) (a : Option Addr)
    (hu : P.underlying dT = some (.slice elem)) (hs : (P.info? elem).map (·.size) = some k) (hg : Blk w g cur t) (hcur : cur.size = n * k) (hcs : cs.length = n * k)
    (ha : n = 0 ∨ ∃ ad, a = some ad ∧ ∀ j v, cs[j]? = some v → w.cell? (ad.add j) = some v) (h1 : ∀ v ∈ cs, v.oneCell' = true) :
    (Builtin.copy_ #[dT, sT] ty #[.slice (some ⟨g, 0, none⟩) n c, .slice a n c']).run P w = .ok (goInt n) (w.setRow g cs.toArray) := by
  have hg' : w.heap[g]? = some (.cells cur t (0, 0)) := hg
  have hst := run_storeCells_at P g 0 t cs 0 cur w hg' (by omega) h1
  have e : (cur.toList.take (0 + 0) ++ cs ++ cur.toList.drop (0 + 0 + cs.length)).toArray = cs.toArray := by
    rw [List.drop_eq_nil_of_le (by simp; omega)]; simp
  rw [e] at hst
  have hfc : (Builtin.firstCells k n (.slice a n c')).run P w = .ok cs.toArray w := by
    rcases ha with h0 | ⟨ad, rfl, hsrc⟩
    · have hc0 : cs = [] := List.eq_nil_of_length_eq_zero (by rw [hcs, h0]; simp)
      subst hc0
      cases a with
      | none => exact run_firstCells_none (P := P) (w := w) _ _ _ _
      | some ad => exact run_firstCells_some (P := P) (w := w) _ _ _ _ _ _ hcs (fun j v h => by simp at h)
    · exact run_firstCells_some (P := P) (w := w) _ _ _ _ _ _ hcs hsrc
  cases hq : P.info? elem with
  | none => simp [hq] at hs
  | some i =>
    have hi : i.size = k := by simpa [hq] using hs
    simp [Builtin.copy_, run_underlying hu, Builtin.lenOf, sizeOf, typeInfo, hq, hi, hfc, hst]

theorem wpList_copy_k {P : Program} {w : World} {ops : Array Oper} {rest : List Oper} {o : Oper} {a : Act} {Q : Exit → Act → World → Prop} (hgd : o.guard = none) (d s : Operand) (dT sT : TypeId)
    (ho : o.op = .call { callee := .builtin .copy, args := #[d, s], argTypes := #[dT, sT] }) (elem : TypeId) (k : Nat) (hu : P.underlying dT = some (.slice elem)) (hsz : (P.info? elem).map (·.size) = some k)
    (g n c c' : Nat) (p : Option Addr) (hd : a.eval d = .slice (some ⟨g, 0, none⟩) n c) (hs : a.eval s = .slice p n c') (cur : Array Value) (t : TypeId) (hg : Blk w g cur t) (hcur : cur.size = n * k) (cs : List Value) (hcs : cs.length = n * k)
    (ha : n = 0 ∨ ∃ ad, p = some ad ∧ ∀ j v, cs[j]? = some v → w.cell? (ad.add j) = some v) (h1 : ∀ v ∈ cs, v.oneCell' = true) (B : Nat) (w0 : World) (hb : Below B w0 w) (hBg : B ≤ g)
    (h : ∀ w', Blk w' g cs.toArray t → Below B w0 w' → wpList P ops Q rest (a.put o.dst (goInt n)) w') : wpList P ops Q (o :: rest) a w := by
  refine wpList_plain hgd fun K hK => ?_
  have hrun := run_copy_k (P := P) w dT sT o.type elem k g n c c' cur t cs p hu hsz hg hcur hcs ha h1
  unfold Oper.wp
  simp [execOp, ho, resolve, invoke, builtin, hd, hs, hrun, Result.andThen]
  exact hK _ _ (h _ (setRow_heap w g _ _ t _ hg) (below_setRow hb hBg _))
end Go.Proofs.YtooninmicfcfoaaGreat.CopyK
namespace Go.Proofs.YtooninmicfcfoaaGreat.LabP
open Go.RowKit
open Labs LabS
open StrB (lessB retB)
open LabO (setB set_long okAt)

def mid (p : List Lab) (x : Lab) (j : Nat) : List Lab := p.take j ++ x :: p.drop j
def pos (x : Lab) (p : List Lab) : Nat → Nat
  | 0 => 0
  | k + 1 => if lessB x.1 (nth p k).1 = true then pos x p k else k + 1
def ins (p : List Lab) (x : Lab) : List Lab := mid p x (pos x p p.length)
def upto (l : List Lab) : Nat → List Lab
  | 0 => []
  | k + 1 => ins (upto l k) (nth l k)
def row (l : List Lab) (i j : Nat) : List Lab := mid (upto l i) (nth l i) j ++ l.drop (i + 1)
end Go.Proofs.YtooninmicfcfoaaGreat.LabP
namespace Go.Proofs.YtooninmicfcfoaaGreat.LabQ
open Go.RowKit
open Labs LabS LabP Over Blk
open StrB (lessB retB)

def HeldF (cs : Array Value) (f : Nat → Lab) (n : Nat) : Prop := ∀ m, m < n → cs[m * 2]? = some (.string (f m).1) ∧ cs[m * 2 + 1]? = some (.string (f m).2)
end Go.Proofs.YtooninmicfcfoaaGreat.LabQ
namespace Go.Proofs.YtooninmicfcfoaaGreat.LabR
open Go.RowKit
open Labs LabS LabP LabQ Over Blk CopyK
open StrB (lessB retB)
open LabO (setB set_long Fits)
open LabT (Held held_reads infoL)

def flat : List Lab → List Value
  | [] => []
  | x :: l => .string x.1 :: .string x.2 :: flat l
theorem flat_len : ∀ l : List Lab, (flat l).length = l.length * 2
  | [] => rfl
  | x :: l => by rw [flat, List.length_cons, List.length_cons, flat_len l, List.length_cons]; omega
theorem flat_get : ∀ (l : List Lab) (m : Nat), m < l.length → (flat l)[m * 2]? = some (.string (nth l m).1) ∧ (flat l)[m * 2 + 1]? = some (.string (nth l m).2)
  | [], m, h => by simp at h
  | x :: l, 0, _ => ⟨rfl, rfl⟩
  | x :: l, m + 1, h => by
    have := flat_get l m (by simpa using h)
    have e : (m + 1) * 2 = m * 2 + 2 := by omega
    rw [e]
    exact this
theorem flat_one : ∀ (l : List Lab), ∀ v ∈ flat l, v.oneCell' = true
  | [], v, h => by simp [flat] at h
  | x :: l, v, h => by
    simp only [flat, List.mem_cons] at h
    rcases h with rfl | rfl | h
    · rfl
    · rfl
    · exact flat_one l v h
theorem flat_held (l : List Lab) : HeldF (flat l).toArray (nth l) l.length := fun m hm => by
  have := flat_get l m hm
  simpa using this
theorem flat_src {w : World} {b off : Nat} {l : List Lab} (h : ∀ i, i < l.length → w.cell? ⟨b, off + i * 2, none⟩ = some (.string (nth l i).1) ∧ w.cell? ⟨b, off + i * 2 + 1, none⟩ = some (.string (nth l i).2)) :
    ∀ j v, (flat l)[j]? = some v → w.cell? ((⟨b, off, none⟩ : Addr).add j) = some v := fun j v hj => by
  have ea : (⟨b, off, none⟩ : Addr).add j = ⟨b, off + j, none⟩ := by by_cases h : j = 0 <;> simp [Addr.add, h]
  rw [ea]
  have hlt : j < l.length * 2 := by
    rw [← flat_len]
    exact (List.getElem?_eq_some_iff.1 hj).1
  rcases Nat.mod_two_eq_zero_or_one j with e | e
  · obtain ⟨m, rfl⟩ : ∃ m, j = m * 2 := ⟨j / 2, by omega⟩
    rw [(flat_get l m (by omega)).1] at hj
    rw [← hj]; exact (h m (by omega)).1
  · obtain ⟨m, rfl⟩ : ∃ m, j = m * 2 + 1 := ⟨j / 2, by omega⟩
    rw [(flat_get l m (by omega)).2] at hj
    rw [← hj, ← Nat.add_assoc]; exact (h m (by omega)).2
theorem reads_src {w : World} {a : Option Addr} {l : List Lab} (h : Reads w a l) : l.length = 0 ∨ ∃ ad, a = some ad ∧ ∀ j v, (flat l)[j]? = some v → w.cell? (ad.add j) = some v := by
  rcases h with rfl | ⟨b, off, rfl, _, hc⟩
  · exact .inl rfl
  · exact .inr ⟨_, rfl, flat_src hc⟩

theorem infoK : (Tryz.prog.info? 127).map (·.size) = some 2 := by kernel_rfl
set_option maxHeartbeats 800000 in
theorem copied_any (a : Option Addr) (cap : Nat) (l : List Lab) (w : World) (M : Nat) (hM : M = w.heap.size) (hr : Reads w a l) (hl : l.length ≤ 1048576) :
    Calls Tryz.prog 129 #[.slice a l.length cap] w
      fun e w' => e = .returned (.slice (some ⟨M, 0, none⟩) l.length l.length) ∧ Below M w w' ∧ Blk w' M (flat l).toArray 127 := by
  subst hM
  have HR : Hid (Reads w a l) := hr
  clear hr
  have hmk := make_k (P := Tryz.prog) 27 127 (.agg #[.string ByteArray.empty, .string ByteArray.empty]) 2 32 Tryz.underlying27 infoL .i64 .i64 l.length (by omega) (by omega)
  go_enter Tryz.func129, Tryz.ntmps129
  go_wp2_with (refine wpList_copy_k (by rfl) _ _ 27 27 (by rfl) 127 2 Tryz.underlying27 infoK w.heap.size l.length l.length cap a (by rfl) (by rfl) (madeCells #[.string ByteArray.empty, .string ByteArray.empty] (l.length * 2)) 127 ?c1 ?c2 (flat l) (flat_len l) ?c3 (flat_one l) w.heap.size _ (Below.refl _ _) (Nat.le_refl _) ?_)
  case c1 => exact Blk.new_at rfl
  case c2 => simp [size_madeCells]
  case c3 =>
    rcases reads_src HR.out with h | ⟨ad, rfl, h⟩
    · exact .inl h
    · rcases HR.out with hn | ⟨b, off, e, hlt, hc⟩
      · exact .inl (by rw [hn]; rfl)
      · refine .inr ⟨ad, rfl, fun j v hj => ?_⟩
        have := h j v hj
        have hb : (ad.add j).block < w.heap.size := by cases e; by_cases h : j = 0 <;> simp [Addr.add, h, hlt]
        rw [World.cell?_alloc_lt _ _ _ hb]
        exact this
  intro w2 hB2 hb2
  have HB2 : Hid (Blk w2 w.heap.size (flat l).toArray 127) := hB2
  have HW2 : Hid (Below w.heap.size w w2) := ((Below.refl _ _).alloc (Nat.le_refl _) _).trans hb2
  clear hB2 hb2 hmk
  go_wp2
  go_ret
  exact ⟨rfl, HW2.out, HB2.out⟩
def Own (w w' : World) (M : Nat) (s : List Lab) : Prop := w.heap.size ≤ M ∧ ∃ cs : Array Value, Blk w' M cs 127 ∧ s.length * 2 ≤ cs.size ∧ Held cs s s.length
end Go.Proofs.YtooninmicfcfoaaGreat.LabR
namespace Go.Proofs.YtooninmicfcfoaaGreat.AlmM
open Go.RowKit
open Labs LabS LabR Alm AlmS Over Blk App
open LabT (infoL Held held_reads)
open StrB (retB)

theorem src_of {w : World} {ad : Addr} {l : List Lab} (h : Reads w (some ad) l) : ∀ j u, (flat l)[j]? = some u → w.cell? (ad.add j) = some u := fun j u hj => by
  rcases reads_src h with h0 | ⟨ad', e, h1⟩
  · have : l = [] := List.eq_nil_of_length_eq_zero h0
    subst this
    simp [flat] at hj
  · cases e; exact h1 j u hj
theorem own_row {w' : World} {B g n c : Nat} {l : List Lab} (h : w'.ownsRow B 127 2 (.slice (some ⟨g, 0, none⟩) n c) l.length (flat l)) : B ≤ g ∧ ∃ cs : Array Value, Blk w' g cs 127 ∧ l.length * 2 ≤ cs.size ∧ Held cs l l.length := by
  rcases h.2 with ⟨e, _⟩ | ⟨g', cap', cur, e, hb, hg, hc, _, hz, ht⟩
  · cases e
  · cases e
    refine ⟨hb, cur, hg, ?_, fun j hj => ?_⟩
    · rw [hz]; omega
    · have h2 := flat_get l j hj
      have hl := flat_len l
      rw [← ht, List.getElem?_take_of_lt (by omega), List.getElem?_take_of_lt (by omega)] at h2
      simpa using h2
theorem flat_heldL (l : List Lab) : Held (flat l).toArray l l.length := flat_held l

set_option maxHeartbeats 800000 in
theorem copyS_any (g o cap : Nat) (l : List Lab) (s e : Int) (n : ByteArray) (w : World) (hr : Reads w (some ⟨g, o, none⟩) l) (hl : l.length ≤ 1048576) :
    Calls Tryz.prog 73 #[.agg #[.slice (some ⟨g, o, none⟩) l.length cap, .int .i64 s, .int .i64 e, .string n]] w fun r w' => (∃ M c, r = .returned (.agg #[.slice (some ⟨M, 0, none⟩) l.length c, .int .i64 s, .int .i64 e, .string n]) ∧ Own w w' M l) ∧ Below w.heap.size w w' := by
  have HR : Hid (Reads w (some ⟨g, o, none⟩) l) := hr
  clear hr
  obtain ⟨i0, hi, hz0, hz1, hz2⟩ := info_parts infoL
  go_enter Tryz.func73, Tryz.ntmps73
  have HO : Hid ((((w.alloc (.cells #[.slice (some ⟨g, o, none⟩) l.length cap, .int .i64 s, .int .i64 e, .string n] 29)).alloc (.cells #[.slice none 0 0, .int .i64 0, .int .i64 0, .string ⟨#[]⟩] 29)).alloc (.cells #[] 127)).ownsRow (w.heap.size + 2) 127 2 (.slice (some ⟨w.heap.size + 2, 0, none⟩) 0 0) 0 []) := own_empty (Blk.new_at (by simp)) (Nat.le_refl _)
  go_wp2_with (at_builtin; refine wpList_append_own_at _ rfl _ _ 27 rfl (w.heap.size + 2) 127 i0 (.agg #[.string ByteArray.empty, .string ByteArray.empty]) 2 32 Tryz.underlying27 hi hz0 hz1 hz2 rfl (by decide) _ _ _ rfl HO.out ⟨g, o, none⟩ l.length cap (flat l) rfl (flat_len l) ?c1 (flat_one l) ?c3 ?c4 ?c5 ?_)
  case c1 => exact src_of (HR.out.below (below3 w _ _ _))
  case c3 => unfold maxLen; omega
  case c4 => omega
  case c5 => simp
  intro v' w4 hown hg hnil _
  have hlow : Below (w.heap.size + 2) ((w.alloc (.cells #[.slice (some ⟨g, o, none⟩) l.length cap, .int .i64 s, .int .i64 e, .string n] 29)).alloc (.cells #[.slice none 0 0, .int .i64 0, .int .i64 0, .string ⟨#[]⟩] 29)) w4 := ((Below.refl _ _).alloc (by simp) _).grown hg (by simp) (fun k hk => (HO.out.lt k hk).1)
  have hpl : w4.ownsRow (w.heap.size + 2) 127 2 v' l.length (flat l) := by simpa using hown
  obtain ⟨M, c, hv⟩ : ∃ g' c', v' = .slice (some ⟨g', 0, none⟩) l.length c' := by
    rcases hpl.2 with ⟨e, _⟩ | ⟨g', c', cur, e, _⟩
    · exact absurd e hnil
    · exact ⟨g', c', e⟩
  subst hv
  have HW : Hid (w.heap.size + 2 ≤ M ∧ ∃ cs : Array Value, Blk w4 M cs 127 ∧ l.length * 2 ≤ cs.size ∧ Held cs l l.length) := own_row hpl
  have hP : Blk w4 w.heap.size #[.slice (some ⟨g, o, none⟩) l.length cap, .int .i64 s, .int .i64 e, .string n] 29 := ((Blk.new _ _ _).alloc _).below hlow (by omega)
  have hR : Blk w4 (w.heap.size + 1) #[.slice none 0 0, .int .i64 0, .int .i64 0, .string ⟨#[]⟩] 29 := (Blk.new_at (by simp)).below hlow (by omega)
  have HB : Hid (Below w.heap.size w w4) := (Go.Joins.below_alloc2 w _ _).trans (hlow.mono (by omega))
  have P0 : w4.cell? ⟨w.heap.size, 0, none⟩ = some (.slice (some ⟨g, o, none⟩) l.length cap) := hP.cell 0
  have P1 : w4.cell? ⟨w.heap.size, 1, none⟩ = some (.int .i64 s) := hP.cell 1
  have P2 : w4.cell? ⟨w.heap.size, 2, none⟩ = some (.int .i64 e) := hP.cell 2
  have P3 : w4.cell? ⟨w.heap.size, 3, none⟩ = some (.string n) := hP.cell 3
  have fP0 := hP.frozen 0
  have fP1 := hP.frozen 1
  have fP2 := hP.frozen 2
  have fP3 := hP.frozen 3
  have R0 : w4.cell? ⟨w.heap.size + 1, 0, none⟩ = some (.slice none 0 0) := hR.cell 0
  have R1 : w4.cell? ⟨w.heap.size + 1, 1, none⟩ = some (.int .i64 0) := hR.cell 1
  have R2 : w4.cell? ⟨w.heap.size + 1, 2, none⟩ = some (.int .i64 0) := hR.cell 2
  have R3 : w4.cell? ⟨w.heap.size + 1, 3, none⟩ = some (.string ⟨#[]⟩) := hR.cell 3
  have fR0 := hR.frozen 0
  have fR1 := hR.frozen 1
  have fR2 := hR.frozen 2
  have fR3 := hR.frozen 3
  clear hown hg hnil hlow hpl HO hP hR hi hz0 hz1 hz2
  go_wp2
  refine bodyPost_ret (v := .agg #[.slice (some ⟨M, 0, none⟩) l.length c, .int .i64 s, .int .i64 e, .string n]) (by simp [results, Tryz.results73, go_sem, R0, R1, R2, R3]) rfl ?_
  obtain ⟨hM, cs, hk, hs, hh⟩ := HW.out
  exact ⟨⟨M, c, rfl, by omega, cs, blk4 (hk.set_other (by show w.heap.size ≠ M; omega) _) (by omega) _ _ _ _, hs, hh⟩, set4 (HB.out.setCell (Nat.le_refl _) _) (by omega) _ _ _ _⟩

set_option maxHeartbeats 800000 in
theorem copyI_any (a : Option Addr) (cap : Nat) (l : List Lab) (s e : Int) (n : ByteArray) (w : World) (hr : Reads w a l) (hl : l.length ≤ 1048576) :
    Calls Tryz.prog 75 #[.agg #[.slice a l.length cap, .int .i64 s, .int .i64 e, .string n]] w fun r w' => (∃ M c, r = .returned (.agg #[.slice (some ⟨M, 0, none⟩) l.length c, .int .i64 s, .int .i64 e, .string n]) ∧ Own w w' M l) ∧ Below w.heap.size w w' := by
  have HR : Hid (Reads w a l) := hr
  clear hr
  go_enter Tryz.func75, Tryz.ntmps75
  go_wp2_with fail
  refine (copied_any a cap l _ (w.heap.size + 2) (by simp) (HR.out.below (Go.Joins.below_alloc2 w _ _)) hl).mono ?_
  rintro r w4 ⟨rfl, hlow, hB⟩
  have HW : Hid (Blk w4 (w.heap.size + 2) (flat l).toArray 127) := hB
  have hP : Blk w4 w.heap.size #[.slice a l.length cap, .int .i64 s, .int .i64 e, .string n] 29 := ((Blk.new _ _ _).alloc _).below hlow (by omega)
  have hR : Blk w4 (w.heap.size + 1) #[.slice none 0 0, .int .i64 0, .int .i64 0, .string ⟨#[]⟩] 29 := (Blk.new_at (by simp)).below hlow (by omega)
  have HB : Hid (Below w.heap.size w w4) := (Go.Joins.below_alloc2 w _ _).trans (hlow.mono (by omega))
  have P0 : w4.cell? ⟨w.heap.size, 0, none⟩ = some (.slice a l.length cap) := hP.cell 0
  have P1 : w4.cell? ⟨w.heap.size, 1, none⟩ = some (.int .i64 s) := hP.cell 1
  have P2 : w4.cell? ⟨w.heap.size, 2, none⟩ = some (.int .i64 e) := hP.cell 2
  have P3 : w4.cell? ⟨w.heap.size, 3, none⟩ = some (.string n) := hP.cell 3
  have fP0 := hP.frozen 0
  have fP1 := hP.frozen 1
  have fP2 := hP.frozen 2
  have fP3 := hP.frozen 3
  have R0 : w4.cell? ⟨w.heap.size + 1, 0, none⟩ = some (.slice none 0 0) := hR.cell 0
  have R1 : w4.cell? ⟨w.heap.size + 1, 1, none⟩ = some (.int .i64 0) := hR.cell 1
  have R2 : w4.cell? ⟨w.heap.size + 1, 2, none⟩ = some (.int .i64 0) := hR.cell 2
  have R3 : w4.cell? ⟨w.heap.size + 1, 3, none⟩ = some (.string ⟨#[]⟩) := hR.cell 3
  have fR0 := hR.frozen 0
  have fR1 := hR.frozen 1
  have fR2 := hR.frozen 2
  have fR3 := hR.frozen 3
  clear hlow hB hP hR
  go_wp2
  refine bodyPost_ret (v := .agg #[.slice (some ⟨w.heap.size + 2, 0, none⟩) l.length l.length, .int .i64 s, .int .i64 e, .string n]) (by simp [results, Tryz.results75, go_sem, R0, R1, R2, R3]) rfl ?_
  exact ⟨⟨w.heap.size + 2, l.length, rfl, by omega, (flat l).toArray, blk4 (HW.out.set_other (by show w.heap.size ≠ w.heap.size + 2; omega) _) (by omega) _ _ _ _, by simp [flat_len], flat_heldL l⟩, set4 (HB.out.setCell (Nat.le_refl _) _) (by omega) _ _ _ _⟩

def leastB (a b : Int) : Int := if b < a then b else a
theorem least_y {a b : Int} (h : b < a) : leastB a b = b := if_pos h
theorem least_n {a b : Int} (h : ¬ b < a) : leastB a b = a := if_neg h
theorem retI {a b : Int} (h : a = b) : Ending.returned (.int .i64 a) = .returned (.int .i64 b) := by rw [h]
theorem specLeast_any (a b : Int) (w : World) : Calls Tryz.prog 166 #[.int .i64 a, .int .i64 b] w fun r w' => r = .returned (.int .i64 (leastB a b)) ∧ w' = w := by
  by_cases c : b < a
  · have H : Hid (leastB a b = b) := least_y c
    go_enter Tryz.func166, Tryz.ntmps166
    go_wp2
    go_ret
    exact ⟨retI H.out.symm, rfl⟩
  · have H : Hid (leastB a b = a) := least_n c
    go_enter Tryz.func166, Tryz.ntmps166
    go_wp2
    go_ret
    exact ⟨retI H.out.symm, rfl⟩
theorem implLeast_any (a b : Int) (w : World) : Calls Tryz.prog 93 #[.int .i64 a, .int .i64 b] w fun r w' => r = .returned (.int .i64 (leastB a b)) ∧ w' = w := by
  by_cases c : b < a
  · have H : Hid (leastB a b = b) := least_y c
    go_enter Tryz.func93, Tryz.ntmps93
    go_wp2
    go_ret
    exact ⟨retI H.out.symm, rfl⟩
  · have H : Hid (leastB a b = a) := least_n c
    go_enter Tryz.func93, Tryz.ntmps93
    go_wp2
    go_ret
    exact ⟨retI H.out.symm, rfl⟩

def startB (s e s' e' : Int) : Int := if touchB s e s' e' = true then leastB s s' else s'
theorem start_y {s e s' e' : Int} (h : touchB s e s' e' = true) : startB s e s' e' = leastB s s' := if_pos h
theorem start_n {s e s' e' : Int} (h : touchB s e s' e' = false) : startB s e s' e' = s' := by unfold startB; rw [h]; rfl
theorem retA {M n c : Nat} {s s' e : Int} {t : ByteArray} (h : s = s') : Ending.returned (.agg #[.slice (some ⟨M, 0, none⟩) n c, .int .i64 s, .int .i64 e, .string t]) = .returned (.agg #[.slice (some ⟨M, 0, none⟩) n c, .int .i64 s', .int .i64 e, .string t]) := by rw [h]

set_option maxHeartbeats 1600000 in
theorem specMerge_any (a : Option Addr) (k cap : Nat) (s e : Int) (n : ByteArray) (g' o' cap' : Nat) (l' : List Lab) (s' e' : Int) (n' : ByteArray) (w : World) (hr : Reads w (some ⟨g', o', none⟩) l') (hl : l'.length ≤ 1048576) :
    Calls Tryz.prog 127 #[.agg #[.slice a k cap, .int .i64 s, .int .i64 e, .string n], .agg #[.slice (some ⟨g', o', none⟩) l'.length cap', .int .i64 s', .int .i64 e', .string n']] w fun r w' => (∃ M c, r = .returned (.agg #[.slice (some ⟨M, 0, none⟩) l'.length c, .int .i64 (startB s e s' e'), .int .i64 e', .string n']) ∧ Own w w' M l') ∧ Below w.heap.size w w' := by
  have HR : Hid (Reads w (some ⟨g', o', none⟩) l') := hr
  clear hr
  go_enter Tryz.func127, Tryz.ntmps127
  go_wp2_with fail
  refine (copyS_any g' o' cap' l' s' e' n' _ (HR.out.below (below3 w _ _ _)) hl).mono ?_
  rintro r w1 ⟨⟨M, c, rfl, hM, hO⟩, hb⟩
  have hP : Blk w1 w.heap.size #[.slice a k cap, .int .i64 s, .int .i64 e, .string n] 29 := (((Blk.new _ _ _).alloc _).alloc _).grow hb
  have hQ : Blk w1 (w.heap.size + 1) #[.slice (some ⟨g', o', none⟩) l'.length cap', .int .i64 s', .int .i64 e', .string n'] 29 := ((Blk.new_at (by simp)).alloc _).grow hb
  have hR : Blk w1 (w.heap.size + 2) #[.slice none 0 0, .int .i64 0, .int .i64 0, .string ⟨#[]⟩] 29 := (Blk.new_at (by simp)).grow hb
  have HB : Hid (Below w.heap.size w w1) := grow_on (below3 w _ _ _) hb
  have HM : Hid (w.heap.size + 2 < M ∧ M < w1.heap.size) := by
    obtain ⟨cs, hk, _⟩ := hO
    simp at hM
    exact ⟨by omega, hk.lt⟩
  have HO : Hid (∃ cs : Array Value, Blk w1 M cs 127 ∧ l'.length * 2 ≤ cs.size ∧ Held cs l' l'.length) := hO
  have HP : Hid (Blk w1 w.heap.size #[.slice a k cap, .int .i64 s, .int .i64 e, .string n] 29) := hP
  have HQ : Hid (Blk w1 (w.heap.size + 1) #[.slice (some ⟨g', o', none⟩) l'.length cap', .int .i64 s', .int .i64 e', .string n'] 29) := hQ
  have HRR : Hid (Blk w1 (w.heap.size + 2) #[.slice none 0 0, .int .i64 0, .int .i64 0, .string ⟨#[]⟩] 29) := hR
  clear hb hP hQ hR hM hO
  have hP := HP.out.alloc (.cells #[.slice (some ⟨M, 0, none⟩) l'.length c, .int .i64 s', .int .i64 e', .string n'] 29)
  have hQ := HQ.out.alloc (.cells #[.slice (some ⟨M, 0, none⟩) l'.length c, .int .i64 s', .int .i64 e', .string n'] 29)
  have P0 : (w1.alloc (.cells #[.slice (some ⟨M, 0, none⟩) l'.length c, .int .i64 s', .int .i64 e', .string n'] 29)).cell? ⟨w.heap.size, 0, none⟩ = some (.slice a k cap) := hP.cell 0
  have P1 : (w1.alloc (.cells #[.slice (some ⟨M, 0, none⟩) l'.length c, .int .i64 s', .int .i64 e', .string n'] 29)).cell? ⟨w.heap.size, 1, none⟩ = some (.int .i64 s) := hP.cell 1
  have P2 : (w1.alloc (.cells #[.slice (some ⟨M, 0, none⟩) l'.length c, .int .i64 s', .int .i64 e', .string n'] 29)).cell? ⟨w.heap.size, 2, none⟩ = some (.int .i64 e) := hP.cell 2
  have P3 : (w1.alloc (.cells #[.slice (some ⟨M, 0, none⟩) l'.length c, .int .i64 s', .int .i64 e', .string n'] 29)).cell? ⟨w.heap.size, 3, none⟩ = some (.string n) := hP.cell 3
  have fP0 := hP.frozen 0
  have fP1 := hP.frozen 1
  have fP2 := hP.frozen 2
  have fP3 := hP.frozen 3
  have Q0 : (w1.alloc (.cells #[.slice (some ⟨M, 0, none⟩) l'.length c, .int .i64 s', .int .i64 e', .string n'] 29)).cell? ⟨w.heap.size + 1, 0, none⟩ = some (.slice (some ⟨g', o', none⟩) l'.length cap') := hQ.cell 0
  have Q1 : (w1.alloc (.cells #[.slice (some ⟨M, 0, none⟩) l'.length c, .int .i64 s', .int .i64 e', .string n'] 29)).cell? ⟨w.heap.size + 1, 1, none⟩ = some (.int .i64 s') := hQ.cell 1
  have Q2 : (w1.alloc (.cells #[.slice (some ⟨M, 0, none⟩) l'.length c, .int .i64 s', .int .i64 e', .string n'] 29)).cell? ⟨w.heap.size + 1, 2, none⟩ = some (.int .i64 e') := hQ.cell 2
  have Q3 : (w1.alloc (.cells #[.slice (some ⟨M, 0, none⟩) l'.length c, .int .i64 s', .int .i64 e', .string n'] 29)).cell? ⟨w.heap.size + 1, 3, none⟩ = some (.string n') := hQ.cell 3
  have fQ0 := hQ.frozen 0
  have fQ1 := hQ.frozen 1
  have fQ2 := hQ.frozen 2
  have fQ3 := hQ.frozen 3
  clear hP hQ
  go_wp2_with fail
  clear P0 P1 P2 P3 Q0 Q1 Q2 Q3 fP0 fP1 fP2 fP3 fQ0 fQ1 fQ2 fQ3
  refine (specTouch_any _ _ s e s' e' n n' _).mono ?_
  rintro r w2 ⟨rfl, hb⟩
  have hO : Blk w2 w1.heap.size #[.slice (some ⟨M, 0, none⟩) l'.length c, .int .i64 s', .int .i64 e', .string n'] 29 := (Blk.new _ _ _).grow hb
  replace hb := grow_on (Go.Joins.below_alloc1 w1 _) hb
  have hP := HP.out.grow hb
  have hQ := HQ.out.grow hb
  have hR := HRR.out.grow hb
  have P1 : w2.cell? ⟨w.heap.size, 1, none⟩ = some (.int .i64 s) := hP.cell 1
  have Q1 : w2.cell? ⟨w.heap.size + 1, 1, none⟩ = some (.int .i64 s') := hQ.cell 1
  have R0 : w2.cell? ⟨w.heap.size + 2, 0, none⟩ = some (.slice none 0 0) := hR.cell 0
  have R1 : w2.cell? ⟨w.heap.size + 2, 1, none⟩ = some (.int .i64 0) := hR.cell 1
  have R2 : w2.cell? ⟨w.heap.size + 2, 2, none⟩ = some (.int .i64 0) := hR.cell 2
  have R3 : w2.cell? ⟨w.heap.size + 2, 3, none⟩ = some (.string ⟨#[]⟩) := hR.cell 3
  have fR0 := hR.frozen 0
  have fR1 := hR.frozen 1
  have fR2 := hR.frozen 2
  have fR3 := hR.frozen 3
  have O0 : w2.cell? ⟨w1.heap.size, 0, none⟩ = some (.slice (some ⟨M, 0, none⟩) l'.length c) := hO.cell 0
  have O1 : w2.cell? ⟨w1.heap.size, 1, none⟩ = some (.int .i64 s') := hO.cell 1
  have O2 : w2.cell? ⟨w1.heap.size, 2, none⟩ = some (.int .i64 e') := hO.cell 2
  have O3 : w2.cell? ⟨w1.heap.size, 3, none⟩ = some (.string n') := hO.cell 3
  have fO0 := hO.frozen 0
  have fO1 := hO.frozen 1
  have fO2 := hO.frozen 2
  have fO3 := hO.frozen 3
  have HK : Hid (∃ cs : Array Value, Blk w2 M cs 127 ∧ l'.length * 2 ≤ cs.size ∧ Held cs l' l'.length) := by
    obtain ⟨cs, hk, hs⟩ := HO.out
    exact ⟨cs, hk.grow hb, hs⟩
  have HB2 : Hid (Below w.heap.size w w2) := grow_on HB.out hb
  clear hb hP hQ hR hO HP HQ HRR HO
  have hlt : w.heap.size + 2 < w1.heap.size := by have := HM.out; omega
  have hn1 : ¬ w1.heap.size = w.heap.size + 2 := by omega
  have hn2 : ¬ w.heap.size + 2 = w1.heap.size := by omega
  cases ht : touchB s e s' e' with
  | true =>
    have HS : Hid (leastB s s' = startB s e s' e') := (start_y ht).symm
    clear ht
    go_wp2_with fail
    refine (specLeast_any s s' _).mono ?_
    rintro r w3 ⟨rfl, rfl⟩
    go_wp2
    refine bodyPost_ret (v := .agg #[.slice (some ⟨M, 0, none⟩) l'.length c, .int .i64 (leastB s s'), .int .i64 e', .string n']) (by simp [results, Tryz.results127, go_sem, R0, R1, R2, R3]) rfl ?_
    obtain ⟨cs, hk, hs, hh⟩ := HK.out
    have hM := HM.out
    exact ⟨⟨M, c, retA HS.out, by omega, cs, blk4 (hk.set_other (by show w1.heap.size ≠ M; omega) _) (by omega) _ _ _ _, hs, hh⟩, set4 (HB2.out.setCell (by show w.heap.size ≤ w1.heap.size; omega) _) (by omega) _ _ _ _⟩
  | false =>
    have HS : Hid (s' = startB s e s' e') := (start_n ht).symm
    clear ht
    go_wp2
    refine bodyPost_ret (v := .agg #[.slice (some ⟨M, 0, none⟩) l'.length c, .int .i64 s', .int .i64 e', .string n']) (by simp [results, Tryz.results127, go_sem, R0, R1, R2, R3]) rfl ?_
    obtain ⟨cs, hk, hs, hh⟩ := HK.out
    have hM := HM.out
    exact ⟨⟨M, c, retA HS.out, by omega, cs, blk4 hk (by omega) _ _ _ _, hs, hh⟩, set4 HB2.out (by omega) _ _ _ _⟩
set_option maxHeartbeats 1600000 in
theorem implMerge_any (a : Option Addr) (k cap : Nat) (s e : Int) (n : ByteArray) (g' o' cap' : Nat) (l' : List Lab) (s' e' : Int) (n' : ByteArray) (w : World) (hr : Reads w (some ⟨g', o', none⟩) l') (hl : l'.length ≤ 1048576) :
    Calls Tryz.prog 25 #[.agg #[.slice a k cap, .int .i64 s, .int .i64 e, .string n], .agg #[.slice (some ⟨g', o', none⟩) l'.length cap', .int .i64 s', .int .i64 e', .string n']] w fun r w' => (∃ M c, r = .returned (.agg #[.slice (some ⟨M, 0, none⟩) l'.length c, .int .i64 (startB s e s' e'), .int .i64 e', .string n']) ∧ Own w w' M l') ∧ Below w.heap.size w w' := by
  have HR : Hid (Reads w (some ⟨g', o', none⟩) l') := hr
  clear hr
  go_enter Tryz.func25, Tryz.ntmps25
  go_wp2_with fail
  refine (copyI_any _ cap' l' s' e' n' _ (HR.out.below (below3 w _ _ _)) hl).mono ?_
  rintro r w1 ⟨⟨M, c, rfl, hM, hO⟩, hb⟩
  have hP : Blk w1 w.heap.size #[.slice a k cap, .int .i64 s, .int .i64 e, .string n] 29 := (((Blk.new _ _ _).alloc _).alloc _).grow hb
  have hQ : Blk w1 (w.heap.size + 1) #[.slice (some ⟨g', o', none⟩) l'.length cap', .int .i64 s', .int .i64 e', .string n'] 29 := ((Blk.new_at (by simp)).alloc _).grow hb
  have hR : Blk w1 (w.heap.size + 2) #[.slice none 0 0, .int .i64 0, .int .i64 0, .string ⟨#[]⟩] 29 := (Blk.new_at (by simp)).grow hb
  have HB : Hid (Below w.heap.size w w1) := grow_on (below3 w _ _ _) hb
  have HM : Hid (w.heap.size + 2 < M ∧ M < w1.heap.size) := by
    obtain ⟨cs, hk, _⟩ := hO
    simp at hM
    exact ⟨by omega, hk.lt⟩
  have HO : Hid (∃ cs : Array Value, Blk w1 M cs 127 ∧ l'.length * 2 ≤ cs.size ∧ Held cs l' l'.length) := hO
  have HP : Hid (Blk w1 w.heap.size #[.slice a k cap, .int .i64 s, .int .i64 e, .string n] 29) := hP
  have HQ : Hid (Blk w1 (w.heap.size + 1) #[.slice (some ⟨g', o', none⟩) l'.length cap', .int .i64 s', .int .i64 e', .string n'] 29) := hQ
  have HRR : Hid (Blk w1 (w.heap.size + 2) #[.slice none 0 0, .int .i64 0, .int .i64 0, .string ⟨#[]⟩] 29) := hR
  clear hb hP hQ hR hM hO
  have hP := HP.out.alloc (.cells #[.slice (some ⟨M, 0, none⟩) l'.length c, .int .i64 s', .int .i64 e', .string n'] 29)
  have hQ := HQ.out.alloc (.cells #[.slice (some ⟨M, 0, none⟩) l'.length c, .int .i64 s', .int .i64 e', .string n'] 29)
  have P0 : (w1.alloc (.cells #[.slice (some ⟨M, 0, none⟩) l'.length c, .int .i64 s', .int .i64 e', .string n'] 29)).cell? ⟨w.heap.size, 0, none⟩ = some (.slice a k cap) := hP.cell 0
  have P1 : (w1.alloc (.cells #[.slice (some ⟨M, 0, none⟩) l'.length c, .int .i64 s', .int .i64 e', .string n'] 29)).cell? ⟨w.heap.size, 1, none⟩ = some (.int .i64 s) := hP.cell 1
  have P2 : (w1.alloc (.cells #[.slice (some ⟨M, 0, none⟩) l'.length c, .int .i64 s', .int .i64 e', .string n'] 29)).cell? ⟨w.heap.size, 2, none⟩ = some (.int .i64 e) := hP.cell 2
  have P3 : (w1.alloc (.cells #[.slice (some ⟨M, 0, none⟩) l'.length c, .int .i64 s', .int .i64 e', .string n'] 29)).cell? ⟨w.heap.size, 3, none⟩ = some (.string n) := hP.cell 3
  have fP0 := hP.frozen 0
  have fP1 := hP.frozen 1
  have fP2 := hP.frozen 2
  have fP3 := hP.frozen 3
  have Q0 : (w1.alloc (.cells #[.slice (some ⟨M, 0, none⟩) l'.length c, .int .i64 s', .int .i64 e', .string n'] 29)).cell? ⟨w.heap.size + 1, 0, none⟩ = some (.slice (some ⟨g', o', none⟩) l'.length cap') := hQ.cell 0
  have Q1 : (w1.alloc (.cells #[.slice (some ⟨M, 0, none⟩) l'.length c, .int .i64 s', .int .i64 e', .string n'] 29)).cell? ⟨w.heap.size + 1, 1, none⟩ = some (.int .i64 s') := hQ.cell 1
  have Q2 : (w1.alloc (.cells #[.slice (some ⟨M, 0, none⟩) l'.length c, .int .i64 s', .int .i64 e', .string n'] 29)).cell? ⟨w.heap.size + 1, 2, none⟩ = some (.int .i64 e') := hQ.cell 2
  have Q3 : (w1.alloc (.cells #[.slice (some ⟨M, 0, none⟩) l'.length c, .int .i64 s', .int .i64 e', .string n'] 29)).cell? ⟨w.heap.size + 1, 3, none⟩ = some (.string n') := hQ.cell 3
  have fQ0 := hQ.frozen 0
  have fQ1 := hQ.frozen 1
  have fQ2 := hQ.frozen 2
  have fQ3 := hQ.frozen 3
  clear hP hQ
  go_wp2_with fail
  clear P0 P1 P2 P3 Q0 Q1 Q2 Q3 fP0 fP1 fP2 fP3 fQ0 fQ1 fQ2 fQ3
  refine (implTouch_any _ _ s e s' e' n n' _).mono ?_
  rintro r w2 ⟨rfl, hb⟩
  have hO : Blk w2 w1.heap.size #[.slice (some ⟨M, 0, none⟩) l'.length c, .int .i64 s', .int .i64 e', .string n'] 29 := (Blk.new _ _ _).grow hb
  replace hb := grow_on (Go.Joins.below_alloc1 w1 _) hb
  have hP := HP.out.grow hb
  have hQ := HQ.out.grow hb
  have hR := HRR.out.grow hb
  have P1 : w2.cell? ⟨w.heap.size, 1, none⟩ = some (.int .i64 s) := hP.cell 1
  have Q1 : w2.cell? ⟨w.heap.size + 1, 1, none⟩ = some (.int .i64 s') := hQ.cell 1
  have R0 : w2.cell? ⟨w.heap.size + 2, 0, none⟩ = some (.slice none 0 0) := hR.cell 0
  have R1 : w2.cell? ⟨w.heap.size + 2, 1, none⟩ = some (.int .i64 0) := hR.cell 1
  have R2 : w2.cell? ⟨w.heap.size + 2, 2, none⟩ = some (.int .i64 0) := hR.cell 2
  have R3 : w2.cell? ⟨w.heap.size + 2, 3, none⟩ = some (.string ⟨#[]⟩) := hR.cell 3
  have fR0 := hR.frozen 0
  have fR1 := hR.frozen 1
  have fR2 := hR.frozen 2
  have fR3 := hR.frozen 3
  have O0 : w2.cell? ⟨w1.heap.size, 0, none⟩ = some (.slice (some ⟨M, 0, none⟩) l'.length c) := hO.cell 0
  have O1 : w2.cell? ⟨w1.heap.size, 1, none⟩ = some (.int .i64 s') := hO.cell 1
  have O2 : w2.cell? ⟨w1.heap.size, 2, none⟩ = some (.int .i64 e') := hO.cell 2
  have O3 : w2.cell? ⟨w1.heap.size, 3, none⟩ = some (.string n') := hO.cell 3
  have fO0 := hO.frozen 0
  have fO1 := hO.frozen 1
  have fO2 := hO.frozen 2
  have fO3 := hO.frozen 3
  have HK : Hid (∃ cs : Array Value, Blk w2 M cs 127 ∧ l'.length * 2 ≤ cs.size ∧ Held cs l' l'.length) := by
    obtain ⟨cs, hk, hs⟩ := HO.out
    exact ⟨cs, hk.grow hb, hs⟩
  have HB2 : Hid (Below w.heap.size w w2) := grow_on HB.out hb
  clear hb hP hQ hR hO HP HQ HRR HO
  have hlt : w.heap.size + 2 < w1.heap.size := by have := HM.out; omega
  have hn1 : ¬ w1.heap.size = w.heap.size + 2 := by omega
  have hn2 : ¬ w.heap.size + 2 = w1.heap.size := by omega
  cases ht : touchB s e s' e' with
  | true =>
    have HS : Hid (leastB s s' = startB s e s' e') := (start_y ht).symm
    clear ht
    go_wp2_with fail
    refine (implLeast_any s s' _).mono ?_
    rintro r w3 ⟨rfl, rfl⟩
    go_wp2
    refine bodyPost_ret (v := .agg #[.slice (some ⟨M, 0, none⟩) l'.length c, .int .i64 (leastB s s'), .int .i64 e', .string n']) (by simp [results, Tryz.results25, go_sem, R0, R1, R2, R3]) rfl ?_
    obtain ⟨cs, hk, hs, hh⟩ := HK.out
    have hM := HM.out
    exact ⟨⟨M, c, retA HS.out, by omega, cs, blk4 (hk.set_other (by show w1.heap.size ≠ M; omega) _) (by omega) _ _ _ _, hs, hh⟩, set4 (HB2.out.setCell (by show w.heap.size ≤ w1.heap.size; omega) _) (by omega) _ _ _ _⟩
  | false =>
    have HS : Hid (s' = startB s e s' e') := (start_n ht).symm
    clear ht
    go_wp2
    refine bodyPost_ret (v := .agg #[.slice (some ⟨M, 0, none⟩) l'.length c, .int .i64 s', .int .i64 e', .string n']) (by simp [results, Tryz.results25, go_sem, R0, R1, R2, R3]) rfl ?_
    obtain ⟨cs, hk, hs, hh⟩ := HK.out
    have hM := HM.out
    exact ⟨⟨M, c, retA HS.out, by omega, cs, blk4 hk (by omega) _ _ _ _, hs, hh⟩, set4 HB2.out (by omega) _ _ _ _⟩
end Go.Proofs.YtooninmicfcfoaaGreat.AlmM
namespace Go.Proofs.YtooninmicfcfoaaGreat.Rws
open Go.RowKit
open Labs LabS Alms AlmS AlmM Over Blk App
open Alm (sameB same_self)
open LabT (Held held_reads Fits)
open LabR (Own)

def RdN (w : World) (a : Option Addr) (P : List PAl) : Prop :=
  P = [] ∨ ∃ b off, a = some ⟨b, off, none⟩ ∧ b < w.heap.size ∧ ∀ i, i < P.length → ∃ g o cap, At w b off i (nthP P i) (some ⟨g, o, none⟩) cap
theorem RdN.rd {w : World} {a : Option Addr} {P : List PAl} (h : RdN w a P) : RdA w a P := by
  rcases h with h | ⟨b, off, e, hb, hc⟩
  · exact .inl h
  · exact .inr ⟨b, off, e, hb, fun i hi => by obtain ⟨g, o, cap, h⟩ := hc i hi; exact ⟨_, _, h⟩⟩
theorem RdN.below {w w' : World} {a : Option Addr} {P : List PAl} (h : RdN w a P) (hb : Below w.heap.size w w') : RdN w' a P := by
  rcases h with h | ⟨b, off, rfl, hlt, hc⟩
  · exact .inl h
  · exact .inr ⟨b, off, rfl, Nat.lt_of_lt_of_le hlt hb.size, fun i hi => by
      obtain ⟨g, o, cap, h⟩ := hc i hi
      exact ⟨g, o, cap, h.below hb hlt⟩⟩
theorem RdN.get {w : World} {a : Option Addr} {P : List PAl} (h : RdN w a P) {i : Nat} (hi : i < P.length) :
    ∃ b off, a = some ⟨b, off, none⟩ ∧ b < w.heap.size ∧ ∃ g o cap, At w b off i (nthP P i) (some ⟨g, o, none⟩) cap := by
  rcases h with h | ⟨b, off, e, hb, h⟩
  · rw [h] at hi; simp at hi
  · exact ⟨b, off, e, hb, h i hi⟩

abbrev ARow := Nat × Nat × PAl
def pals (rs : List ARow) : List PAl := rs.map fun x => x.2.2
def nthA (rs : List ARow) (i : Nat) : ARow := rs.getD i (0, 0, ⟨[], 0, 0, ByteArray.empty⟩)
theorem nthA_eq {rs : List ARow} {i : Nat} (h : i < rs.length) : nthA rs i = rs[i] := by unfold nthA; simp [h]
theorem nthA_mem {rs : List ARow} {i : Nat} (h : i < rs.length) : nthA rs i ∈ rs := by rw [nthA_eq h]; exact List.getElem_mem _
theorem pals_len (rs : List ARow) : (pals rs).length = rs.length := by simp [pals]
theorem pals_nth {rs : List ARow} {i : Nat} (h : i < rs.length) : nthP (pals rs) i = (nthA rs i).2.2 := by
  rw [nthP_eq (by rw [pals_len]; exact h), nthA_eq h]
  simp [pals]
theorem pals_app (rs : List ARow) (x : ARow) : pals (rs ++ [x]) = pals rs ++ [x.2.2] := by simp [pals]
theorem nthA_app_lt {rs : List ARow} {x : ARow} {i : Nat} (h : i < rs.length) : nthA (rs ++ [x]) i = nthA rs i := by
  rw [nthA_eq (by simp; omega), nthA_eq h, List.getElem_append_left h]
theorem nthA_app_eq (rs : List ARow) (x : ARow) : nthA (rs ++ [x]) rs.length = x := by
  rw [nthA_eq (by simp)]; simp
def Four (f : Nat → Option Value) (i : Nat) (x : ARow) : Prop :=
  f (i * 4) = some (.slice (some ⟨x.1, 0, none⟩) x.2.2.l.length x.2.1) ∧ f (i * 4 + 1) = some (.int .i64 x.2.2.s) ∧ f (i * 4 + 2) = some (.int .i64 x.2.2.e) ∧ f (i * 4 + 3) = some (.string x.2.2.n)
theorem Four.congr {f g : Nat → Option Value} {i : Nat} {x : ARow} (h : Four f i x) (e : ∀ k, i * 4 ≤ k → k < i * 4 + 4 → g k = f k) : Four g i x := by
  obtain ⟨h0, h1, h2, h3⟩ := h
  exact ⟨by rw [e _ (by omega) (by omega)]; exact h0, by rw [e _ (by omega) (by omega)]; exact h1, by rw [e _ (by omega) (by omega)]; exact h2, by rw [e _ (by omega) (by omega)]; exact h3⟩
def rowV (x : ARow) : List Value := [.slice (some ⟨x.1, 0, none⟩) x.2.2.l.length x.2.1, .int .i64 x.2.2.s, .int .i64 x.2.2.e, .string x.2.2.n]
theorem row_one (x : ARow) : ∀ v ∈ rowV x, v.oneCell' = true := fun v hv => by
  simp only [rowV, List.mem_cons, List.not_mem_nil, or_false] at hv
  rcases hv with rfl | rfl | rfl | rfl <;> rfl
def OwnA (lo : Nat) (w : World) (x : ARow) : Prop := lo ≤ x.1 ∧ x.2.2.l.length ≤ 1048576 ∧ ∃ ds : Array Value, Blk w x.1 ds 127 ∧ x.2.2.l.length * 2 ≤ ds.size ∧ Held ds x.2.2.l x.2.2.l.length
theorem OwnA.grow {lo : Nat} {w w' : World} {x : ARow} (h : OwnA lo w x) (hb : Below w.heap.size w w') : OwnA lo w' x := by
  obtain ⟨h0, h1, ds, h2, h3⟩ := h
  exact ⟨h0, h1, ds, h2.grow hb, h3⟩
theorem OwnA.lt {lo : Nat} {w : World} {x : ARow} (h : OwnA lo w x) : x.1 < w.heap.size := by
  obtain ⟨h0, h1, ds, h2, h3⟩ := h
  exact h2.lt
theorem OwnA.reads {lo : Nat} {w : World} {x : ARow} (h : OwnA lo w x) : Reads w (some ⟨x.1, 0, none⟩) x.2.2.l := by
  obtain ⟨h0, h1, ds, h2, h3, h4⟩ := h
  exact held_reads h2 h4
theorem OwnA.down {lo lo' : Nat} {w : World} {x : ARow} (h : OwnA lo w x) (hl : lo' ≤ lo) : OwnA lo' w x := ⟨Nat.le_trans hl h.1, h.2⟩
theorem own_of_copy {w w' : World} {M c : Nat} {x : PAl} (h : Own w w' M x.l) (hl : x.l.length ≤ 1048576) : OwnA w.heap.size w' (M, c, x) := ⟨h.1, hl, h.2⟩

structure AB (lo : Nat) (w : World) (M c : Nat) (rs : List ARow) : Prop where
  at' : lo ≤ M
  cap : rs.length ≤ c ∧ c ≤ maxLen
  outer : ∃ cur : Array Value, Blk w M cur 29 ∧ cur.size = c * 4 ∧ ∀ i, i < rs.length → Four (fun k => cur[k]?) i (nthA rs i)
  rows : ∀ x ∈ rs, OwnA lo w x
  ne : rs.Pairwise fun x y => x.1 ≠ y.1
theorem AB.grow {lo : Nat} {w w' : World} {M c : Nat} {rs : List ARow} (h : AB lo w M c rs) (hb : Below w.heap.size w w') : AB lo w' M c rs := by
  obtain ⟨cur, h1, h2⟩ := h.outer
  exact ⟨h.at', h.cap, ⟨cur, h1.grow hb, h2⟩, fun x hx => (h.rows x hx).grow hb, h.ne⟩
theorem AB.down {lo lo' : Nat} {w : World} {M c : Nat} {rs : List ARow} (h : AB lo w M c rs) (hl : lo' ≤ lo) : AB lo' w M c rs :=
  ⟨Nat.le_trans hl h.at', h.cap, h.outer, fun x hx => (h.rows x hx).down hl, h.ne⟩
theorem AB.lt {lo : Nat} {w : World} {M c : Nat} {rs : List ARow} (h : AB lo w M c rs) : M < w.heap.size := by
  obtain ⟨cur, h1, _⟩ := h.outer
  exact h1.lt
theorem AB.nil {lo : Nat} {w : World} {M : Nat} (h : Blk w M #[] 29) (hl : lo ≤ M) : AB lo w M 0 [] :=
  ⟨hl, ⟨Nat.le_refl _, by simp [maxLen]⟩, ⟨#[], h, rfl, fun i hi => by simp at hi⟩, fun x hx => by simp at hx, List.Pairwise.nil⟩
theorem AB.rd {lo : Nat} {w : World} {M c : Nat} {rs : List ARow} (h : AB lo w M c rs) : RdN w (some ⟨M, 0, none⟩) (pals rs) := by
  obtain ⟨cur, h1, h2, h3⟩ := h.outer
  refine .inr ⟨M, 0, rfl, h1.lt, fun i hi => ?_⟩
  rw [pals_len] at hi
  obtain ⟨c0, c1, c2, c3⟩ := h3 i hi
  refine ⟨(nthA rs i).1, 0, (nthA rs i).2.1, ?_⟩
  rw [pals_nth hi]
  exact ⟨by rw [h1.cell, Nat.zero_add]; exact c0, by rw [h1.cell, Nat.zero_add]; exact c1, by rw [h1.cell, Nat.zero_add]; exact c2, by rw [h1.cell, Nat.zero_add]; exact c3, (h.rows _ (nthA_mem hi)).reads⟩
theorem blkA_ne {w : World} {a b : Nat} {cs ds : Array Value} (h : Blk w a cs 29) (k : Blk w b ds 127) : a ≠ b := fun e => by
  subst e
  unfold Blk at h k
  rw [h] at k
  injection k with k
  injection k with _ k
  exact absurd k (by decide)
theorem AB.own {lo : Nat} {w : World} {M c : Nat} {rs : List ARow} (h : AB lo w M c rs) : ∃ xs : List Value, w.ownsRow lo 29 4 (.slice (some ⟨M, 0, none⟩) rs.length c) rs.length xs ∧ xs.length = rs.length * 4 ∧ ∀ i, i < rs.length → Four (fun k => xs[k]?) i (nthA rs i) := by
  obtain ⟨cur, h1, h2, h3⟩ := h.outer
  have hc := h.cap
  have hlen : (cur.toList.take (rs.length * 4)).length = rs.length * 4 := by simp; omega
  refine ⟨cur.toList.take (rs.length * 4), ⟨hlen, .inr ⟨M, c, cur, rfl, h.at', h1, hc.1, hc.2, h2, rfl⟩⟩, hlen, fun i hi => ?_⟩
  refine (h3 i hi).congr fun k _ hk => ?_
  show (cur.toList.take _)[k]? = cur[k]?
  rw [List.getElem?_take_of_lt (by omega)]
  simp
theorem AB.app {lo : Nat} {W w' : World} {M c : Nat} {rs : List ARow} {x : ARow} {xs : List Value} {v' : Value} (h : AB lo W M c rs) (hx : OwnA lo W x) (hne : ∀ y ∈ rs, y.1 ≠ x.1) (hl : xs.length = rs.length * 4) (hxs : ∀ i, i < rs.length → Four (fun k => xs[k]?) i (nthA rs i))
    (hown : w'.ownsRow lo 29 4 v' (rs.length + 1) (xs ++ rowV x)) (hg : W.grownBy w' (some M)) : ∃ M' c', v' = .slice (some ⟨M', 0, none⟩) (rs.length + 1) c' ∧ AB lo w' M' c' (rs ++ [x]) := by
  rcases hown.2 with ⟨_, e⟩ | ⟨g, cap, cur, e, hb, hgb, hc, hm, hz, ht⟩
  · omega
  · obtain ⟨cu0, hcu0, _⟩ := h.outer
    have far : ∀ y, OwnA lo W y → OwnA lo w' y := fun y hy => by
      obtain ⟨h0, h1, ds, h2, h3⟩ := hy
      exact ⟨h0, h1, ds, blk_far h2 hg (fun e => blkA_ne hcu0 h2 (Option.some.inj e).symm), h3⟩
    refine ⟨g, cap, e, hb, ⟨by simp; omega, hm⟩, ⟨cur, hgb, hz, fun i hi => ?_⟩, fun y hy => ?_, ?_⟩
    · have at' : ∀ k, k < (rs.length + 1) * 4 → cur[k]? = (xs ++ rowV x)[k]? := fun k hk => by
        rw [← ht, List.getElem?_take_of_lt hk]; simp
      simp at hi
      by_cases hlt : i < rs.length
      · rw [nthA_app_lt hlt]
        refine (hxs i hlt).congr fun k _ hk => ?_
        show cur[k]? = xs[k]?
        rw [at' k (by omega), List.getElem?_append_left (by omega)]
      · have ei : i = rs.length := by omega
        subst ei
        rw [nthA_app_eq]
        have hr : ∀ j, j < 4 → cur[rs.length * 4 + j]? = (rowV x)[j]? := fun j hj => by
          rw [at' _ (by omega), List.getElem?_append_right (by omega), hl]
          congr 1; omega
        exact ⟨hr 0 (by omega), hr 1 (by omega), hr 2 (by omega), hr 3 (by omega)⟩
    · rcases List.mem_append.1 hy with hy | hy
      · exact far y (h.rows y hy)
      · rw [List.mem_singleton.1 hy]; exact far x hx
    · rw [List.pairwise_append]
      exact ⟨h.ne, List.pairwise_singleton _ _, fun a ha b hb => by rw [List.mem_singleton.1 hb]; exact hne a ha⟩
def put4C (cs : Array Value) (k : Nat) (x : ARow) : Array Value := (((cs.setIfInBounds (k * 4) (.slice (some ⟨x.1, 0, none⟩) x.2.2.l.length x.2.1)).setIfInBounds (k * 4 + 1) (.int .i64 x.2.2.s)).setIfInBounds (k * 4 + 2) (.int .i64 x.2.2.e)).setIfInBounds (k * 4 + 3) (.string x.2.2.n)
theorem put4_at {cs : Array Value} {k : Nat} {x : ARow} (h : k * 4 + 3 < cs.size) : Four (fun j => (put4C cs k x)[j]?) k x := by
  unfold put4C
  refine ⟨?_, ?_, ?_, ?_⟩
  · show (Array.setIfInBounds _ _ _)[_]? = _
    rw [set_ne (by omega), set_ne (by omega), set_ne (by omega), set_at (by omega)]
  · show (Array.setIfInBounds _ _ _)[_]? = _
    rw [set_ne (by omega), set_ne (by omega), set_at (by simp; omega)]
  · show (Array.setIfInBounds _ _ _)[_]? = _
    rw [set_ne (by omega), set_at (by simp; omega)]
  · show (Array.setIfInBounds _ _ _)[_]? = _
    rw [set_at (by simp; omega)]
theorem put4_ne {cs : Array Value} {k j : Nat} {x : ARow} (h : j < k * 4 ∨ k * 4 + 4 ≤ j) : (put4C cs k x)[j]? = cs[j]? := by
  unfold put4C
  rw [set_ne (by omega), set_ne (by omega), set_ne (by omega), set_ne (by omega)]
theorem put4_size (cs : Array Value) (k : Nat) (x : ARow) : (put4C cs k x).size = cs.size := by simp [put4C]
def put4W (w : World) (M k : Nat) (x : ARow) : World := (((w.setCell ⟨M, k * 4, none⟩ (.slice (some ⟨x.1, 0, none⟩) x.2.2.l.length x.2.1)).setCell ⟨M, k * 4 + 1, none⟩ (.int .i64 x.2.2.s)).setCell ⟨M, k * 4 + 2, none⟩ (.int .i64 x.2.2.e)).setCell ⟨M, k * 4 + 3, none⟩ (.string x.2.2.n)
theorem put4W_blk {w : World} {M k : Nat} {x : ARow} {cs : Array Value} {T : TypeId} (h : Blk w M cs T) : Blk (put4W w M k x) M (put4C cs k x) T := (((h.set _ _).set _ _).set _ _).set _ _
theorem put4W_other {w : World} {M N k : Nat} {x : ARow} {cs : Array Value} {T : TypeId} (h : Blk w N cs T) (hne : M ≠ N) : Blk (put4W w M k x) N cs T :=
  (((h.set_other hne _).set_other hne _).set_other hne _).set_other hne _
theorem put4W_low {w w' : World} {B M k : Nat} {x : ARow} (h : Below B w w') (hM : B ≤ M) : Below B w (put4W w' M k x) := (((h.setCell hM _).setCell hM _).setCell hM _).setCell hM _
def putA (rs : List ARow) (k : Nat) (x : ARow) : List ARow := rs.set k x
theorem nthA_put {rs : List ARow} {k i : Nat} {x : ARow} (hi : i < rs.length) : nthA (putA rs k x) i = if i = k then x else nthA rs i := by
  rw [nthA_eq (by simpa [putA] using hi), nthA_eq hi]
  unfold putA
  rw [List.getElem_set]
  by_cases e : k = i
  · subst e; simp
  · rw [if_neg e, if_neg (fun h => e h.symm)]
theorem AB.put {lo : Nat} {w : World} {M c k : Nat} {rs : List ARow} {x : ARow} (h : AB lo w M c rs) (hk : k < rs.length) (hx : OwnA lo w x) (hne : ∀ y ∈ rs, y.1 ≠ x.1) : AB lo (put4W w M k x) M c (putA rs k x) := by
  obtain ⟨cur, h1, h2, h3⟩ := h.outer
  have hc := h.cap
  have far : ∀ y, OwnA lo w y → OwnA lo (put4W w M k x) y := fun y hy => by
    obtain ⟨h0, h1', ds, h2, h3⟩ := hy
    exact ⟨h0, h1', ds, put4W_other h2 (blkA_ne h1 h2), h3⟩
  have hlen : (putA rs k x).length = rs.length := by simp [putA]
  refine ⟨h.at', by rw [hlen]; exact hc, ⟨put4C cur k x, put4W_blk h1, by rw [put4_size]; exact h2, fun i hi => ?_⟩, fun y hy => ?_, ?_⟩
  · rw [hlen] at hi
    rw [nthA_put hi]
    by_cases e : i = k
    · subst e
      rw [if_pos rfl]
      exact put4_at (by omega)
    · rw [if_neg e]
      exact (h3 i hi).congr fun j h0 h1 => put4_ne (by omega)
  · rcases List.mem_or_eq_of_mem_set hy with hy | hy
    · exact far y (h.rows y hy)
    · subst hy; exact far _ hx
  · unfold putA
    have hp := h.ne
    rw [List.pairwise_iff_getElem] at hp ⊢
    intro i j hi hj hij
    simp only [List.length_set] at hi hj
    rw [List.getElem_set, List.getElem_set]
    by_cases e1 : k = i
    · rw [if_pos e1, if_neg (by omega)]
      exact fun e => hne _ (List.getElem_mem hj) e.symm
    · rw [if_neg e1]
      by_cases e2 : k = j
      · rw [if_pos e2]; exact hne _ (List.getElem_mem hi)
      · rw [if_neg e2]; exact hp i j hi hj hij

def idxTo (P : List PAl) (l : List Lab) : Nat → Option Nat
  | 0 => none
  | k + 1 => match idxTo P l k with
    | some j => some j
    | none => if (nthP P k).l = l then some k else none
def idxB (P : List PAl) (l : List Lab) : Int :=
  match idxTo P l P.length with
  | some j => (j : Int)
  | none => -1
theorem idxTo_none {P : List PAl} {l : List Lab} : ∀ {k : Nat}, (∀ j, j < k → (nthP P j).l ≠ l) → idxTo P l k = none
  | 0, _ => rfl
  | k + 1, h => by
    rw [idxTo, idxTo_none (fun j hj => h j (by omega))]
    simp only []
    rw [if_neg (h k (by omega))]
theorem idxTo_some {P : List PAl} {l : List Lab} {j : Nat} (hj : ∀ i, i < j → (nthP P i).l ≠ l) (he : (nthP P j).l = l) : ∀ {k : Nat}, j < k → idxTo P l k = some j
  | 0, h => by omega
  | k + 1, h => by
    by_cases e : j = k
    · subst e
      rw [idxTo, idxTo_none hj]
      simp only []
      rw [if_pos he]
    · rw [idxTo, idxTo_some hj he (k := k) (by omega)]
theorem idx_miss {P : List PAl} {l : List Lab} (h : ∀ j, j < P.length → (nthP P j).l ≠ l) : idxB P l = -1 := by unfold idxB; rw [idxTo_none h]
theorem idx_hit {P : List PAl} {l : List Lab} {j : Nat} (hj : ∀ i, i < j → (nthP P i).l ≠ l) (he : (nthP P j).l = l) (hl : j < P.length) : idxB P l = (j : Int) := by unfold idxB; rw [idxTo_some hj he hl]
theorem idxTo_cases (P : List PAl) (l : List Lab) : ∀ k, (∀ j, j < k → (nthP P j).l ≠ l) ∨ ∃ j, j < k ∧ (nthP P j).l = l ∧ ∀ i, i < j → (nthP P i).l ≠ l
  | 0 => .inl fun j h => by omega
  | k + 1 => by
    rcases idxTo_cases P l k with h | ⟨j, h0, h1, h2⟩
    · by_cases e : (nthP P k).l = l
      · exact .inr ⟨k, by omega, e, h⟩
      · refine .inl fun j hj => ?_
        by_cases q : j = k
        · subst q; exact e
        · exact h j (by omega)
    · exact .inr ⟨j, by omega, h1, h2⟩
theorem idx_cases (P : List PAl) (l : List Lab) : (idxB P l = -1 ∧ ∀ j, j < P.length → (nthP P j).l ≠ l) ∨ ∃ k : Nat, idxB P l = (k : Int) ∧ k < P.length ∧ (nthP P k).l = l ∧ ∀ j, j < k → (nthP P j).l ≠ l := by
  rcases idxTo_cases P l P.length with h | ⟨k, h0, h1, h2⟩
  · exact .inl ⟨idx_miss h, h⟩
  · exact .inr ⟨k, idx_hit h2 h1 h0, h0, h1, h2⟩
def mergeX (x a : PAl) : PAl := ⟨a.l, startB x.s x.e a.s a.e, a.e, a.n⟩
def putL (P : List PAl) (a : PAl) : List PAl :=
  match idxTo P a.l P.length with
  | some k => P.set k (mergeX (nthP P k) a)
  | none => P ++ [a]
def isNew (P : List PAl) (l : List Lab) : Bool := (idxTo P l P.length).isNone
theorem put_miss {P : List PAl} {a : PAl} (h : ∀ j, j < P.length → (nthP P j).l ≠ a.l) : putL P a = P ++ [a] ∧ isNew P a.l = true := by unfold putL isNew; rw [idxTo_none h]; exact ⟨rfl, rfl⟩
theorem put_hit {P : List PAl} {a : PAl} {k : Nat} (hj : ∀ i, i < k → (nthP P i).l ≠ a.l) (he : (nthP P k).l = a.l) (hl : k < P.length) : putL P a = P.set k (mergeX (nthP P k) a) ∧ isNew P a.l = false := by unfold putL isNew; rw [idxTo_some hj he hl]; exact ⟨rfl, rfl⟩
def leftTo (P : List PAl) (now : Int) (k : Nat) : List PAl := (P.take k).filter fun x => !overB x.e now
def goneTo (P : List PAl) (now : Int) (k : Nat) : List PAl := (P.take k).filter fun x => overB x.e now
theorem left_up {P : List PAl} {now : Int} {k : Nat} (h : k < P.length) : leftTo P now (k + 1) = leftTo P now k ++ (if overB (nthP P k).e now = true then [] else [nthP P k]) := by
  unfold leftTo
  rw [takeP_up h, List.filter_append]
  cases hq : overB (nthP P k).e now <;> simp [hq]
theorem gone_up {P : List PAl} {now : Int} {k : Nat} (h : k < P.length) : goneTo P now (k + 1) = goneTo P now k ++ (if overB (nthP P k).e now = true then [nthP P k] else []) := by
  unfold goneTo
  rw [takeP_up h, List.filter_append]
  cases hq : overB (nthP P k).e now <;> simp [hq]
theorem drop_len (P : List PAl) (now : Int) (k : Nat) : (leftTo P now k).length + (goneTo P now k).length = (P.take k).length := by
  unfold leftTo goneTo
  induction P.take k with
  | nil => rfl
  | cons x l ih => cases hq : overB x.e now <;> simp [hq] <;> omega
def sameX (x y : PAl) : Bool := sameB x.l x.s x.e x.n y.l y.s y.e y.n
def sameTo (P Q : List PAl) (k : Nat) : Bool := (List.range k).all fun i => sameX (nthP P i) (nthP Q i)
def sameLB (P Q : List PAl) : Bool := decide (P.length = Q.length) && sameTo P Q P.length
theorem same_refl (P : List PAl) : sameLB P P = true := by simp [sameLB, sameTo, sameX, same_self]
theorem same_len {P Q : List PAl} (h : P.length ≠ Q.length) : sameLB P Q = false := by simp [sameLB, h]
theorem same_bad {P Q : List PAl} {k : Nat} (hk : k < P.length) (h : sameX (nthP P k) (nthP Q k) = false) : sameLB P Q = false := by
  unfold sameLB sameTo
  rw [Bool.and_eq_false_iff]
  right
  rw [List.all_eq_false]
  exact ⟨k, by simpa using hk, by simp [h]⟩
theorem same_good {P Q : List PAl} (hl : P.length = Q.length) (h : ∀ k, k < P.length → sameX (nthP P k) (nthP Q k) = true) : sameLB P Q = true := by
  unfold sameLB sameTo
  rw [Bool.and_eq_true]
  exact ⟨by simp [hl], by rw [List.all_eq_true]; intro k hk; exact h k (by simpa using hk)⟩
end Go.Proofs.YtooninmicfcfoaaGreat.Rws
namespace Go.Proofs.YtooninmicfcfoaaGreat.ChnI
open Go.RowKit
open Labs LabS Alms AlmM Over Blk App Rws
def LenP (P : List PAl) : Prop := ∀ i, i < P.length → (nthP P i).l.length ≤ maxLen
theorem set_low {B M : Nat} {w w' : World} (h : Below B w w') (hM : B ≤ M) (i : Nat) (v : Value) : Below B w (w'.setCell ⟨M, i, none⟩ v) := h.setCell (p := ⟨M, i, none⟩) hM v
theorem retI {a b : Int} (h : a = b) : Ending.returned (.int .i64 a) = .returned (.int .i64 b) := by rw [h]
end Go.Proofs.YtooninmicfcfoaaGreat.ChnI
namespace Go.Proofs.YtooninmicfcfoaaGreat.ChnC
open Go.RowKit
open Labs LabS Alms AlmM Over Blk App Rws
open ChnI
def LenM (P : List PAl) : Prop := ∀ i, i < P.length → (nthP P i).l.length ≤ 1048576
structure Fill (lo : Nat) (w : World) (M : Nat) (P : List PAl) (k : Nat) (cs : Array Value) (rs : List ARow) : Prop where
  len : rs.length = k
  pal : pals rs = P.take k
  cell : ∀ i, i < k → Four (fun j => cs[j]?) i (nthA rs i)
  rows : ∀ x ∈ rs, OwnA lo w x
  ne : rs.Pairwise fun x y => x.1 ≠ y.1
theorem Fill.moved {lo : Nat} {w w' : World} {M : Nat} {P : List PAl} {k : Nat} {cs : Array Value} {rs : List ARow} (h : Fill lo w M P k cs rs) (hm : ∀ x, OwnA lo w x → OwnA lo w' x) : Fill lo w' M P k cs rs :=
  ⟨h.len, h.pal, h.cell, fun x hx => hm x (h.rows x hx), h.ne⟩
theorem Fill.next {lo : Nat} {w : World} {M : Nat} {P : List PAl} {k : Nat} {cs : Array Value} {rs : List ARow} {x : ARow} (h : Fill lo w M P k cs rs) (hM : Blk w M cs 29) (hs : cs.size = P.length * 4) (hk : k < P.length) (hx : OwnA lo w x) (hp : x.2.2 = nthP P k) (hne : ∀ y ∈ rs, y.1 ≠ x.1) :
    Fill lo (put4W w M k x) M P (k + 1) (put4C cs k x) (rs ++ [x]) := by
  have far : ∀ y, OwnA lo w y → OwnA lo (put4W w M k x) y := fun y hy => by
    obtain ⟨h0, h1, ds, h2, h3⟩ := hy
    exact ⟨h0, h1, ds, put4W_other h2 (blkA_ne hM h2), h3⟩
  have hl := h.len
  refine ⟨by simp [hl], by rw [pals_app, h.pal, takeP_up hk, hp], fun i hi => ?_, fun y hy => ?_, ?_⟩
  · by_cases e : i < k
    · rw [nthA_app_lt (by omega)]
      exact (h.cell i e).congr fun j h0 h1 => put4_ne (by omega)
    · have : i = rs.length := by omega
      subst this
      rw [nthA_app_eq, hl]
      exact put4_at (by omega)
  · rcases List.mem_append.1 hy with hy | hy
    · exact far y (h.rows y hy)
    · rw [List.mem_singleton.1 hy]; exact far x hx
  · rw [List.pairwise_append]
    exact ⟨h.ne, List.pairwise_singleton _ _, fun a ha b hb => by rw [List.mem_singleton.1 hb]; exact hne a ha⟩
theorem Fill.ab {lo : Nat} {w : World} {M : Nat} {P : List PAl} {cs : Array Value} {rs : List ARow} (h : Fill lo w M P P.length cs rs) (hM : Blk w M cs 29) (hs : cs.size = P.length * 4) (hlo : lo ≤ M) (hl : P.length ≤ 1048576) : AB lo w M P.length rs ∧ pals rs = P :=
  ⟨⟨hlo, ⟨by rw [h.len]; exact Nat.le_refl _, by unfold maxLen; omega⟩, ⟨cs, hM, hs, fun i hi => h.cell i (by rw [← h.len]; exact hi)⟩, h.rows, h.ne⟩, by rw [h.pal]; exact List.take_length⟩
end Go.Proofs.YtooninmicfcfoaaGreat.ChnC
namespace Go.Proofs.YtooninmicfcfoaaGreat.ChnP
open Go.RowKit
open Labs LabS Alms AlmM Over Blk App Rws
open ChnI ChnC
theorem len_m {P : List PAl} (h : LenM P) : LenP P := fun i hi => by have := h i hi; unfold maxLen; omega
theorem set2 {B M : Nat} {w w' : World} (h : Below B w w') (hM : B ≤ M) (v0 v1 : Value) : Below B w ((w'.setCell ⟨M, 0, none⟩ v0).setCell ⟨M, 1, none⟩ v1) := set_low (set_low h hM 0 v0) hM 1 v1
theorem ab_moved {lo : Nat} {w w' : World} {M c : Nat} {rs : List ARow} (h : AB lo w M c rs) (hA : ∀ {cs : Array Value}, Blk w M cs 29 → Blk w' M cs 29) (hL : ∀ {k : Nat} {cs : Array Value}, Blk w k cs 127 → Blk w' k cs 127) : AB lo w' M c rs := by
  obtain ⟨cur, h1, h2⟩ := h.outer
  exact ⟨h.at', h.cap, ⟨cur, hA h1, h2⟩, fun x hx => by
    obtain ⟨k0, k1, ds, k2, k3⟩ := h.rows x hx
    exact ⟨k0, k1, ds, hL k2, k3⟩, h.ne⟩
theorem own_grow {w w' : World} {B : Nat} {e : TypeId} {size n : Nat} {v : Value} {xs : List Value} (h : w.ownsRow B e size v n xs) (hb : Below w.heap.size w w') : w'.ownsRow B e size v n xs :=
  h.kept (bel_grown hb) (by cases hv : v.ownBlock with | none => exact .inl rfl | some k => exact .inr (fun e => by cases e))
theorem pals_put (rs : List ARow) (k : Nat) (x : ARow) : pals (putA rs k x) = (pals rs).set k x.2.2 := by simp [pals, putA, List.map_set]
theorem putA_len (rs : List ARow) (k : Nat) (x : ARow) : (putA rs k x).length = rs.length := by simp [putA]
end Go.Proofs.YtooninmicfcfoaaGreat.ChnP
namespace Go.Proofs.YtooninmicfcfoaaGreat.ChnC
open Go.RowKit
open Labs LabS Alms AlmM Over Blk App Rws
open ChnI
theorem four_cells {w : World} {M : Nat} {cs : Array Value} {T : TypeId} (h : Blk w M cs T) (k : Nat) (hk : k * 4 + 3 < cs.size) : ∃ v0 v1 v2 v3, w.cell? ⟨M, k * 4, none⟩ = some v0 ∧ w.cell? ⟨M, k * 4 + 1, none⟩ = some v1 ∧ w.cell? ⟨M, k * 4 + 2, none⟩ = some v2 ∧ w.cell? ⟨M, k * 4 + 3, none⟩ = some v3 :=
  ⟨cs[k * 4]'(by omega), cs[k * 4 + 1]'(by omega), cs[k * 4 + 2]'(by omega), cs[k * 4 + 3]'(by omega), by rw [h.cell]; simp, by rw [h.cell]; simp, by rw [h.cell]; simp, by rw [h.cell]; simp⟩
set_option maxHeartbeats 1600000 in
theorem implCopies_any (a : Option Addr) (cap : Nat) (P : List PAl) (w : World) (hr : RdA w a P) (hl : P.length ≤ 1048576) (hs : LenM P) :
    Calls Tryz.prog 138 #[.slice a P.length cap] w fun e w' => (∃ M rs, e = .returned (.slice (some ⟨M, 0, none⟩) P.length P.length) ∧ AB w.heap.size w' M P.length rs ∧ pals rs = P) ∧ Below w.heap.size w w' := by
  have HR : Hid (RdA w a P) := hr
  have HS : Hid (LenM P) := hs
  clear hr hs
  have hmk := make_k (P := Tryz.prog) 40 29 (.agg #[.slice none 0 0, .int .i64 0, .int .i64 0, .string ByteArray.empty]) 4 56 Tryz.underlying40 infoA .i64 .i64 P.length (by omega) (by omega)
  go_enter Tryz.func138, Tryz.ntmps138
  go_wp2
  go_loopw [11] (fun i w' => ∃ (k : Nat) (cs : Array Value) (rs : List ARow), k ≤ P.length ∧ i = .int .i64 k ∧ Blk w' w.heap.size cs 29 ∧ cs.size = P.length * 4 ∧ Fill w.heap.size w' w.heap.size P k cs rs ∧ Below w.heap.size w w') (fun i _ => P.length - (intOf i).toNat)
  case atStart => exact ⟨0, _, [], Nat.zero_le _, rfl, Blk.new _ _ _, by simp [size_madeCells], ⟨rfl, rfl, fun i hi => by simp at hi, fun x hx => by simp at hx, List.Pairwise.nil⟩, (Below.refl _ _).alloc (Nat.le_refl _) _⟩
  case round =>
    clear hmk
    obtain ⟨k, cs, rs, hk, rfl, hM, hcs, hF, hw0⟩ := hrel
    have HB : Hid (Below w.heap.size w wr) := hw0
    have HM : Hid (Blk wr w.heap.size cs 29 ∧ cs.size = P.length * 4) := ⟨hM, hcs⟩
    have HF : Hid (Fill w.heap.size wr w.heap.size P k cs rs) := hF
    clear hM hcs hF hw0
    by_cases hlt : k < P.length
    · have hlt' : (k : Int) < (P.length : Int) := by omega
      obtain ⟨b, off, rfl, hb, ad, cp, hat⟩ := (HR.out.below HB.out).get hlt
      have h2 := hat.c0
      have h3 := hat.c1
      have h4 := hat.c2
      have h5 := hat.c3
      have HC : Hid (∀ y, Below wr.heap.size wr y → Calls Tryz.prog 75 #[.agg #[.slice ad (nthP P k).l.length cp, .int .i64 (nthP P k).s, .int .i64 (nthP P k).e, .string (nthP P k).n]] y fun r w' => (∃ Mx c, r = .returned (.agg #[.slice (some ⟨Mx, 0, none⟩) (nthP P k).l.length c, .int .i64 (nthP P k).s, .int .i64 (nthP P k).e, .string (nthP P k).n]) ∧ LabR.Own y w' Mx (nthP P k).l) ∧ Below y.heap.size y w') := fun y hy => copyI_any _ _ _ _ _ _ y (hat.reads.below hy) (HS.out k hlt)
      clear hat
      go_wp2_with fail
      refine (HC.out _ (Go.Joins.below_alloc1 wr _)).mono ?_
      rintro e w1 ⟨⟨Mx, cx, rfl, hO⟩, hy⟩
      have hz : Below wr.heap.size wr w1 := grow_on (Go.Joins.below_alloc1 wr _) hy
      have HZ : Hid (Below wr.heap.size wr w1) := hz
      have HO : Hid (OwnA w.heap.size w1 (Mx, cx, nthP P k) ∧ wr.heap.size ≤ Mx) := by
        have h1 := hO.1
        have h2 := HB.out.size
        refine ⟨(own_of_copy hO (HS.out k hlt)).down ?_, ?_⟩
        · simp; omega
        · simp at h1; omega
      have hm1 := HM.out.1.grow hz
      obtain ⟨v0, v1, v2, v3, c0, c1, c2, c3⟩ := four_cells hm1 k (by have := HM.out.2; omega)
      have f0 := hm1.frozen (k * 4)
      have f1 := hm1.frozen (k * 4 + 1)
      have f2 := hm1.frozen (k * 4 + 2)
      have f3 := hm1.frozen (k * 4 + 3)
      clear hy hz hO hm1 h2 h3 h4 h5 HC
      go_wp2_with fail
      have HFN : Hid (Fill w.heap.size (put4W w1 w.heap.size k (Mx, cx, nthP P k)) w.heap.size P (k + 1) (put4C cs k (Mx, cx, nthP P k)) (rs ++ [(Mx, cx, nthP P k)])) :=
        (HF.out.moved fun y hy => hy.grow HZ.out).next (HM.out.1.grow HZ.out) HM.out.2 hlt HO.out.1 rfl (fun y hy => by have := (HF.out.rows y hy).lt; have := HO.out.2; show y.1 ≠ Mx; omega)
      have HBN : Hid (Blk (put4W w1 w.heap.size k (Mx, cx, nthP P k)) w.heap.size (put4C cs k (Mx, cx, nthP P k)) 29) := put4W_blk (HM.out.1.grow HZ.out)
      have HLN : Hid (Below w.heap.size w (put4W w1 w.heap.size k (Mx, cx, nthP P k))) := put4W_low (grow_on HB.out HZ.out) (Nat.le_refl _)
      clear c0 c1 c2 c3 f0 f1 f2 f3
      go_roundw
      case rel => exact ⟨k + 1, _, _, by omega, by go_num, HBN.out, by rw [put4_size]; exact HM.out.2, HFN.out, HLN.out⟩
      case measure => simp [intOf]; omega
    · have hge : ¬ (k : Int) < (P.length : Int) := by omega
      have HE : Hid (k = P.length) := by show k = P.length; omega
      go_wp2
      go_ret
      have hf := HF.out
      rw [HE.out] at hf
      obtain ⟨h1, h2⟩ := hf.ab HM.out.1 HM.out.2 (Nat.le_refl _) hl
      exact ⟨⟨w.heap.size, rfl, rs, h1, h2⟩, HB.out⟩
end Go.Proofs.YtooninmicfcfoaaGreat.ChnC
namespace Go.Proofs.YtooninmicfcfoaaGreat.Chs
open Go.RowKit
open Labs LabS Alms AlmM Over Blk App Rws ChnI ChnC
structure Moved (w w' : World) : Prop where
  A : ∀ {k : Nat} {cs : Array Value}, Blk w k cs 29 → Blk w' k cs 29
  L : ∀ {k : Nat} {cs : Array Value}, Blk w k cs 127 → Blk w' k cs 127
theorem Moved.trans {a b c : World} (h : Moved a b) (k : Moved b c) : Moved a c := ⟨fun x => k.A (h.A x), fun x => k.L (h.L x)⟩
theorem Moved.of {w w' : World} (h : Below w.heap.size w w') : Moved w w' := ⟨fun x => x.grow h, fun x => x.grow h⟩
theorem Moved.set {w : World} {N : Nat} {cs : Array Value} {T : TypeId} (hN : Blk w N cs T) (hA : T ≠ 29) (hL : T ≠ 127) (i : Nat) (v : Value) : Moved w (w.setCell ⟨N, i, none⟩ v) := by
  have ne : ∀ {k : Nat} {ds : Array Value} {U : TypeId}, Blk w k ds U → T ≠ U → N ≠ k := fun h hU e => by
    subst e
    unfold Blk at h hN
    rw [hN] at h
    injection h with h
    injection h with _ h
    exact hU h
  exact ⟨fun x => x.set_other (ne x hA) _, fun x => x.set_other (ne x hL) _⟩
theorem Moved.far {w w' : World} {N : Nat} {cs : Array Value} {T : TypeId} (hN : Blk w N cs T) (hA : T ≠ 29) (hL : T ≠ 127) (hg : w.grownBy w' (some N)) : Moved w w' := by
  have ne : ∀ {k : Nat} {ds : Array Value} {U : TypeId}, Blk w k ds U → T ≠ U → some k ≠ some N := fun h hU e => by
    injection e with e
    subst e
    unfold Blk at h hN
    rw [hN] at h
    injection h with h
    injection h with _ h
    exact hU h
  exact ⟨fun x => blk_far x hg (ne x hA), fun x => blk_far x hg (ne x hL)⟩
theorem ab_moved {lo : Nat} {w w' : World} {M c : Nat} {rs : List ARow} (h : AB lo w M c rs) (hm : Moved w w') : AB lo w' M c rs := by
  obtain ⟨cur, h1, h2⟩ := h.outer
  refine ⟨h.at', h.cap, ⟨cur, hm.A h1, h2⟩, fun x hx => ?_, h.ne⟩
  obtain ⟨h0, h1, ds, h2, h3⟩ := h.rows x hx
  exact ⟨h0, h1, ds, hm.L h2, h3⟩
def Stays (R : World → Option Addr → List PAl → Prop) : Prop := ∀ (w w' : World) (a : Option Addr) (P : List PAl), R w a P → Below w.heap.size w w' → R w' a P
theorem stays_rd : Stays RdA := fun _ _ _ _ h hb => h.below hb
theorem stays_rn : Stays RdN := fun _ _ _ _ h hb => h.below hb
end Go.Proofs.YtooninmicfcfoaaGreat.Chs
namespace Go.Proofs.YtooninmicfcfoaaGreat.DrawC
open Go.RowKit
open Labs LabS Alms AlmM Over Blk App Rws ChnI ChnC
theorem own_set {lo : Nat} {w : World} {x : ARow} {A : Nat} (h : OwnA lo w x) (hne : A ≠ x.1) (i : Nat) (v : Value) : OwnA lo (w.setCell ⟨A, i, none⟩ v) x := by
  obtain ⟨h1, h2, ds, hb, h3⟩ := h
  exact ⟨h1, h2, ds, hb.set_other hne v, h3⟩
theorem ab_under {lo : Nat} {w : World} {A M cap : Nat} {rs : List ARow} (h : AB lo w M cap rs) (hA : A < lo) (i : Nat) (v : Value) : AB lo (w.setCell ⟨A, i, none⟩ v) M cap rs := by
  obtain ⟨cur, h1, h2⟩ := h.outer
  exact ⟨h.at', h.cap, ⟨cur, h1.set_other (by have := h.at'; show A ≠ M; omega) v, h2⟩, fun x hx => own_set (h.rows x hx) (by have := (h.rows x hx).1; omega) i v, h.ne⟩
end Go.Proofs.YtooninmicfcfoaaGreat.DrawC
