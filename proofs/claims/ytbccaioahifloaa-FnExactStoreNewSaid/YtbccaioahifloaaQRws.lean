/-
  The builtin append as a step of a region that draws its order, onto a row of the call's own.
  PROVED: over two alarms whose labels lie in memory spec.Merge and impl.Merge answer alike, in memory of their own; nothing that was there is changed.
  PROVED: rows of alarms in memory of a call's own, each alarm's labels in a block of their own: read, grown by an append, written at a place; what chains come to, on plain lists.
-/
import Derived.Test.YtbccaioahifloaaQBlk
import Derived.Maps.AppendAt
import Derived.Deep.AppendLies
import Derived.Deep.RegionHeld3
import Derived.Test.YtbccaioahifloaaQAlmS
import Derived.Test.YtbccaioahifloaaQLabR
import Derived.Test.YtbccaioahifloaaQAlmsK
namespace Go.Proofs.Ytbccaioahifloaa.App
open Go.RowKit Go.Proofs.Ytbccaioahifloaa.Over Go.Proofs.Ytbccaioahifloaa.Blk
set_option linter.unusedVariables false

theorem bel_grown {w w' : World} (h : Below w.heap.size w w') : w.grownBy w' none := ⟨h.os, h.tape, h.output, h.size, fun k hk _ => h.block k hk⟩

/-- an empty row, new -/
theorem own_empty {w : World} {B M : Nat} {e : TypeId} {size : Nat} (h : Blk w M #[] e) (hB : B ≤ M) : w.ownsRow B e size (.slice (some ⟨M, 0, none⟩) 0 0) 0 [] :=
  ⟨by simp, .inr ⟨M, 0, #[], rfl, hB, h, Nat.le_refl _, by simp [maxLen], by simp, by simp⟩⟩
theorem blk_news {w : World} {M : Nat} {cs : Array Value} {e : TypeId} (h : Blk w M cs e) : ∀ j u, cs.toList[j]? = some u → w.cell? ((⟨M, 0, none⟩ : Addr).add j) = some u := World.news_of_block h
theorem blk_far {w w' : World} {M : Nat} {cs : Array Value} {e : TypeId} {row : Option Nat} (h : Blk w M cs e) (hg : w.grownBy w' row) (hne : some M ≠ row) : Blk w' M cs e := by
  unfold Blk at *
  rw [hg.block M (Array.getElem?_eq_some_iff.1 h).1 hne]; exact h
end Go.Proofs.Ytbccaioahifloaa.App
namespace Go.Proofs.Ytbccaioahifloaa.AlmM
open Go.RowKit
open Go.Proofs.Ytbccaioahifloaa.Labs Go.Proofs.Ytbccaioahifloaa.LabS Go.Proofs.Ytbccaioahifloaa.LabR Go.Proofs.Ytbccaioahifloaa.Alm Go.Proofs.Ytbccaioahifloaa.AlmS Go.Proofs.Ytbccaioahifloaa.Over Go.Proofs.Ytbccaioahifloaa.Blk Go.Proofs.Ytbccaioahifloaa.App
open Go.Proofs.Ytbccaioahifloaa.LabT (infoL Held held_reads)
open Go.Proofs.Ytbccaioahifloaa.StrB (retB)
set_option linter.unusedVariables false

theorem src_of {w : World} {ad : Addr} {l : List Lab} (h : Reads w (some ad) l) : ∀ j u, (flat l)[j]? = some u → w.cell? (ad.add j) = some u := fun j u hj => by
  rcases reads_src h with h0 | ⟨ad', e, h1⟩
  · have : l = [] := List.eq_nil_of_length_eq_zero h0
    subst this
    simp [flat] at hj
  · cases e; exact h1 j u hj
/-- a row of the call's own -/
theorem own_row {w' : World} {B g n c : Nat} {l : List Lab} (h : w'.ownsRow B 67 2 (.slice (some ⟨g, 0, none⟩) n c) l.length (flat l)) : B ≤ g ∧ ∃ cs : Array Value, Blk w' g cs 67 ∧ l.length * 2 ≤ cs.size ∧ Held cs l l.length := by
  rcases h.2 with ⟨e, _⟩ | ⟨g', cap', cur, e, hb, hg, hc, _, hz, ht⟩
  · cases e
  · cases e
    refine ⟨hb, cur, hg, ?_, fun j hj => ?_⟩
    · rw [hz]; omega
    · have h2 := flat_get l j hj
      have hl := flat_len l
      rw [← ht, List.getElem?_take_of_lt (by omega), List.getElem?_take_of_lt (by omega)] at h2
      simpa using h2
theorem flat_heldL (l : List Lab) : Held (flat l).toArray l l.length := flat_held l

set_option maxHeartbeats 800000 in
theorem copyS_any (g o cap : Nat) (l : List Lab) (s e : Int) (n : ByteArray) (w : World) (hr : Reads w (some ⟨g, o, none⟩) l) (hl : l.length ≤ 1048576) :
    Calls Try.prog 63 #[.agg #[.slice (some ⟨g, o, none⟩) l.length cap, .int .i64 s, .int .i64 e, .string n]] w fun r w' => (∃ M c, r = .returned (.agg #[.slice (some ⟨M, 0, none⟩) l.length c, .int .i64 s, .int .i64 e, .string n]) ∧ Own w w' M l) ∧ Below w.heap.size w w' := by
  have HR : Hid (Reads w (some ⟨g, o, none⟩) l) := hr
  clear hr
  obtain ⟨i0, hi, hz0, hz1, hz2⟩ := info_parts infoL
  go_enter Try.func63, Try.ntmps63
  have HO : Hid ((((w.alloc (.cells #[.slice (some ⟨g, o, none⟩) l.length cap, .int .i64 s, .int .i64 e, .string n] 40)).alloc (.cells #[.slice none 0 0, .int .i64 0, .int .i64 0, .string ⟨#[]⟩] 40)).alloc (.cells #[] 67)).ownsRow (w.heap.size + 2) 67 2 (.slice (some ⟨w.heap.size + 2, 0, none⟩) 0 0) 0 []) := own_empty (Blk.new_at (by simp)) (Nat.le_refl _)
  go_wp2_with (at_builtin; refine wpList_append_own_at _ rfl _ _ 35 rfl (w.heap.size + 2) 67 i0 (.agg #[.string ByteArray.empty, .string ByteArray.empty]) 2 32 Try.underlying35 hi hz0 hz1 hz2 rfl (by decide) _ _ _ rfl HO.out ⟨g, o, none⟩ l.length cap (flat l) rfl (flat_len l) ?c1 (flat_one l) ?c3 ?c4 ?c5 ?_)
  case c1 => exact src_of (HR.out.below (below3 w _ _ _))
  case c3 => unfold maxLen; omega
  case c4 => omega
  case c5 => simp
  intro v' w4 hown hg hnil _
  have hlow : Below (w.heap.size + 2) ((w.alloc (.cells #[.slice (some ⟨g, o, none⟩) l.length cap, .int .i64 s, .int .i64 e, .string n] 40)).alloc (.cells #[.slice none 0 0, .int .i64 0, .int .i64 0, .string ⟨#[]⟩] 40)) w4 := ((Below.refl _ _).alloc (by simp) _).grown hg (by simp) (fun k hk => (HO.out.lt k hk).1)
  have hpl : w4.ownsRow (w.heap.size + 2) 67 2 v' l.length (flat l) := by simpa using hown
  obtain ⟨M, c, hv⟩ : ∃ g' c', v' = .slice (some ⟨g', 0, none⟩) l.length c' := by
    rcases hpl.2 with ⟨e, _⟩ | ⟨g', c', cur, e, _⟩
    · exact absurd e hnil
    · exact ⟨g', c', e⟩
  subst hv
  have HW : Hid (w.heap.size + 2 ≤ M ∧ ∃ cs : Array Value, Blk w4 M cs 67 ∧ l.length * 2 ≤ cs.size ∧ Held cs l l.length) := own_row hpl
  have hP : Blk w4 w.heap.size #[.slice (some ⟨g, o, none⟩) l.length cap, .int .i64 s, .int .i64 e, .string n] 40 := ((Blk.new _ _ _).alloc _).below hlow (by omega)
  have hR : Blk w4 (w.heap.size + 1) #[.slice none 0 0, .int .i64 0, .int .i64 0, .string ⟨#[]⟩] 40 := (Blk.new_at (by simp)).below hlow (by omega)
  have HB : Hid (Below w.heap.size w w4) := (Go.Joins.below_alloc2 w _ _).trans (hlow.mono (by omega))
  have P0 : w4.cell? ⟨w.heap.size, 0, none⟩ = some (.slice (some ⟨g, o, none⟩) l.length cap) := hP.cell 0
  have P1 : w4.cell? ⟨w.heap.size, 1, none⟩ = some (.int .i64 s) := hP.cell 1
  have P2 : w4.cell? ⟨w.heap.size, 2, none⟩ = some (.int .i64 e) := hP.cell 2
  have P3 : w4.cell? ⟨w.heap.size, 3, none⟩ = some (.string n) := hP.cell 3
  have fP0 := hP.frozen 0
  have fP1 := hP.frozen 1
  have fP2 := hP.frozen 2
  have fP3 := hP.frozen 3
  have R0 : w4.cell? ⟨w.heap.size + 1, 0, none⟩ = some (.slice none 0 0) := hR.cell 0
  have R1 : w4.cell? ⟨w.heap.size + 1, 1, none⟩ = some (.int .i64 0) := hR.cell 1
  have R2 : w4.cell? ⟨w.heap.size + 1, 2, none⟩ = some (.int .i64 0) := hR.cell 2
  have R3 : w4.cell? ⟨w.heap.size + 1, 3, none⟩ = some (.string ⟨#[]⟩) := hR.cell 3
  have fR0 := hR.frozen 0
  have fR1 := hR.frozen 1
  have fR2 := hR.frozen 2
  have fR3 := hR.frozen 3
  clear hown hg hnil hlow hpl HO hP hR hi hz0 hz1 hz2
  go_wp2
  refine bodyPost_ret (v := .agg #[.slice (some ⟨M, 0, none⟩) l.length c, .int .i64 s, .int .i64 e, .string n]) (by simp [results, Try.results63, go_sem, R0, R1, R2, R3]) rfl ?_
  obtain ⟨hM, cs, hk, hs, hh⟩ := HW.out
  exact ⟨⟨M, c, rfl, by omega, cs, blk4 (hk.set_other (by show w.heap.size ≠ M; omega) _) (by omega) _ _ _ _, hs, hh⟩, set4 (HB.out.setCell (Nat.le_refl _) _) (by omega) _ _ _ _⟩

set_option maxHeartbeats 800000 in
theorem copyI_any (a : Option Addr) (cap : Nat) (l : List Lab) (s e : Int) (n : ByteArray) (w : World) (hr : Reads w a l) (hl : l.length ≤ 1048576) :
    Calls Try.prog 66 #[.agg #[.slice a l.length cap, .int .i64 s, .int .i64 e, .string n]] w fun r w' => (∃ M c, r = .returned (.agg #[.slice (some ⟨M, 0, none⟩) l.length c, .int .i64 s, .int .i64 e, .string n]) ∧ Own w w' M l) ∧ Below w.heap.size w w' := by
  have HR : Hid (Reads w a l) := hr
  clear hr
  go_enter Try.func66, Try.ntmps66
  go_wp2_with fail
  refine (copied_any a cap l _ (w.heap.size + 2) (by simp) (HR.out.below (Go.Joins.below_alloc2 w _ _)) hl).mono ?_
  rintro r w4 ⟨rfl, hlow, hB⟩
  have HW : Hid (Blk w4 (w.heap.size + 2) (flat l).toArray 67) := hB
  have hP : Blk w4 w.heap.size #[.slice a l.length cap, .int .i64 s, .int .i64 e, .string n] 40 := ((Blk.new _ _ _).alloc _).below hlow (by omega)
  have hR : Blk w4 (w.heap.size + 1) #[.slice none 0 0, .int .i64 0, .int .i64 0, .string ⟨#[]⟩] 40 := (Blk.new_at (by simp)).below hlow (by omega)
  have HB : Hid (Below w.heap.size w w4) := (Go.Joins.below_alloc2 w _ _).trans (hlow.mono (by omega))
  have P0 : w4.cell? ⟨w.heap.size, 0, none⟩ = some (.slice a l.length cap) := hP.cell 0
  have P1 : w4.cell? ⟨w.heap.size, 1, none⟩ = some (.int .i64 s) := hP.cell 1
  have P2 : w4.cell? ⟨w.heap.size, 2, none⟩ = some (.int .i64 e) := hP.cell 2
  have P3 : w4.cell? ⟨w.heap.size, 3, none⟩ = some (.string n) := hP.cell 3
  have fP0 := hP.frozen 0
  have fP1 := hP.frozen 1
  have fP2 := hP.frozen 2
  have fP3 := hP.frozen 3
  have R0 : w4.cell? ⟨w.heap.size + 1, 0, none⟩ = some (.slice none 0 0) := hR.cell 0
  have R1 : w4.cell? ⟨w.heap.size + 1, 1, none⟩ = some (.int .i64 0) := hR.cell 1
  have R2 : w4.cell? ⟨w.heap.size + 1, 2, none⟩ = some (.int .i64 0) := hR.cell 2
  have R3 : w4.cell? ⟨w.heap.size + 1, 3, none⟩ = some (.string ⟨#[]⟩) := hR.cell 3
  have fR0 := hR.frozen 0
  have fR1 := hR.frozen 1
  have fR2 := hR.frozen 2
  have fR3 := hR.frozen 3
  clear hlow hB hP hR
  go_wp2
  refine bodyPost_ret (v := .agg #[.slice (some ⟨w.heap.size + 2, 0, none⟩) l.length l.length, .int .i64 s, .int .i64 e, .string n]) (by simp [results, Try.results66, go_sem, R0, R1, R2, R3]) rfl ?_
  exact ⟨⟨w.heap.size + 2, l.length, rfl, by omega, (flat l).toArray, blk4 (HW.out.set_other (by show w.heap.size ≠ w.heap.size + 2; omega) _) (by omega) _ _ _ _, by simp [flat_len], flat_heldL l⟩, set4 (HB.out.setCell (Nat.le_refl _) _) (by omega) _ _ _ _⟩

end Go.Proofs.Ytbccaioahifloaa.AlmM
namespace Go.Proofs.Ytbccaioahifloaa.Rws
open Go.RowKit
open Go.Proofs.Ytbccaioahifloaa.Labs Go.Proofs.Ytbccaioahifloaa.LabS Go.Proofs.Ytbccaioahifloaa.Alms Go.Proofs.Ytbccaioahifloaa.AlmS Go.Proofs.Ytbccaioahifloaa.AlmM Go.Proofs.Ytbccaioahifloaa.Over Go.Proofs.Ytbccaioahifloaa.Blk Go.Proofs.Ytbccaioahifloaa.App
open Go.Proofs.Ytbccaioahifloaa.Alm (sameB same_self)
open Go.Proofs.Ytbccaioahifloaa.LabT (Held held_reads Fits)
open Go.Proofs.Ytbccaioahifloaa.LabR (Own)
set_option linter.unusedVariables false

/-- a slice's cells hold these alarms, none of whose labels are nil -/
def RdN (w : World) (a : Option Addr) (P : List PAl) : Prop :=
  P = [] ∨ ∃ b off, a = some ⟨b, off, none⟩ ∧ b < w.heap.size ∧ ∀ i, i < P.length → ∃ g o cap, At w b off i (nthP P i) (some ⟨g, o, none⟩) cap
theorem RdN.rd {w : World} {a : Option Addr} {P : List PAl} (h : RdN w a P) : RdA w a P := by
  rcases h with h | ⟨b, off, e, hb, hc⟩
  · exact .inl h
  · exact .inr ⟨b, off, e, hb, fun i hi => by obtain ⟨g, o, cap, h⟩ := hc i hi; exact ⟨_, _, h⟩⟩
/-- an alarm in memory of the call's own: the block of its labels, their room, the alarm -/
abbrev ARow := Nat × Nat × PAl
def pals (rs : List ARow) : List PAl := rs.map fun x => x.2.2
def nthA (rs : List ARow) (i : Nat) : ARow := rs.getD i (0, 0, ⟨[], 0, 0, ByteArray.empty⟩)
theorem nthA_eq {rs : List ARow} {i : Nat} (h : i < rs.length) : nthA rs i = rs[i] := by unfold nthA; simp [h]
theorem nthA_mem {rs : List ARow} {i : Nat} (h : i < rs.length) : nthA rs i ∈ rs := by rw [nthA_eq h]; exact List.getElem_mem _
theorem pals_len (rs : List ARow) : (pals rs).length = rs.length := by simp [pals]
theorem pals_nth {rs : List ARow} {i : Nat} (h : i < rs.length) : nthP (pals rs) i = (nthA rs i).2.2 := by
  rw [nthP_eq (by rw [pals_len]; exact h), nthA_eq h]
  simp [pals]
theorem pals_app (rs : List ARow) (x : ARow) : pals (rs ++ [x]) = pals rs ++ [x.2.2] := by simp [pals]
theorem nthA_app_lt {rs : List ARow} {x : ARow} {i : Nat} (h : i < rs.length) : nthA (rs ++ [x]) i = nthA rs i := by
  rw [nthA_eq (by simp; omega), nthA_eq h, List.getElem_append_left h]
theorem nthA_app_eq (rs : List ARow) (x : ARow) : nthA (rs ++ [x]) rs.length = x := by
  rw [nthA_eq (by simp)]; simp
/-- the four cells of the i-th one -/
def Four (f : Nat → Option Value) (i : Nat) (x : ARow) : Prop :=
  f (i * 4) = some (.slice (some ⟨x.1, 0, none⟩) x.2.2.l.length x.2.1) ∧ f (i * 4 + 1) = some (.int .i64 x.2.2.s) ∧ f (i * 4 + 2) = some (.int .i64 x.2.2.e) ∧ f (i * 4 + 3) = some (.string x.2.2.n)
theorem Four.congr {f g : Nat → Option Value} {i : Nat} {x : ARow} (h : Four f i x) (e : ∀ k, i * 4 ≤ k → k < i * 4 + 4 → g k = f k) : Four g i x := by
  obtain ⟨h0, h1, h2, h3⟩ := h
  exact ⟨by rw [e _ (by omega) (by omega)]; exact h0, by rw [e _ (by omega) (by omega)]; exact h1, by rw [e _ (by omega) (by omega)]; exact h2, by rw [e _ (by omega) (by omega)]; exact h3⟩
def OwnA (lo : Nat) (w : World) (x : ARow) : Prop := lo ≤ x.1 ∧ x.2.2.l.length ≤ 1048576 ∧ ∃ ds : Array Value, Blk w x.1 ds 67 ∧ x.2.2.l.length * 2 ≤ ds.size ∧ Held ds x.2.2.l x.2.2.l.length
theorem OwnA.grow {lo : Nat} {w w' : World} {x : ARow} (h : OwnA lo w x) (hb : Below w.heap.size w w') : OwnA lo w' x := by
  obtain ⟨h0, h1, ds, h2, h3⟩ := h
  exact ⟨h0, h1, ds, h2.grow hb, h3⟩
theorem OwnA.lt {lo : Nat} {w : World} {x : ARow} (h : OwnA lo w x) : x.1 < w.heap.size := by
  obtain ⟨h0, h1, ds, h2, h3⟩ := h
  exact h2.lt
theorem OwnA.reads {lo : Nat} {w : World} {x : ARow} (h : OwnA lo w x) : Reads w (some ⟨x.1, 0, none⟩) x.2.2.l := by
  obtain ⟨h0, h1, ds, h2, h3, h4⟩ := h
  exact held_reads h2 h4
theorem OwnA.down {lo lo' : Nat} {w : World} {x : ARow} (h : OwnA lo w x) (hl : lo' ≤ lo) : OwnA lo' w x := ⟨Nat.le_trans hl h.1, h.2⟩
theorem own_of_copy {w w' : World} {M c : Nat} {x : PAl} (h : Own w w' M x.l) (hl : x.l.length ≤ 1048576) : OwnA w.heap.size w' (M, c, x) := ⟨h.1, hl, h.2⟩

/-- the alarms rs lie in the row at block M, whose room is c -/
structure AB (lo : Nat) (w : World) (M c : Nat) (rs : List ARow) : Prop where
  at' : lo ≤ M
  cap : rs.length ≤ c ∧ c ≤ maxLen
  outer : ∃ cur : Array Value, Blk w M cur 40 ∧ cur.size = c * 4 ∧ ∀ i, i < rs.length → Four (fun k => cur[k]?) i (nthA rs i)
  rows : ∀ x ∈ rs, OwnA lo w x
  ne : rs.Pairwise fun x y => x.1 ≠ y.1
theorem AB.grow {lo : Nat} {w w' : World} {M c : Nat} {rs : List ARow} (h : AB lo w M c rs) (hb : Below w.heap.size w w') : AB lo w' M c rs := by
  obtain ⟨cur, h1, h2⟩ := h.outer
  exact ⟨h.at', h.cap, ⟨cur, h1.grow hb, h2⟩, fun x hx => (h.rows x hx).grow hb, h.ne⟩
theorem AB.down {lo lo' : Nat} {w : World} {M c : Nat} {rs : List ARow} (h : AB lo w M c rs) (hl : lo' ≤ lo) : AB lo' w M c rs :=
  ⟨Nat.le_trans hl h.at', h.cap, h.outer, fun x hx => (h.rows x hx).down hl, h.ne⟩
theorem AB.lt {lo : Nat} {w : World} {M c : Nat} {rs : List ARow} (h : AB lo w M c rs) : M < w.heap.size := by
  obtain ⟨cur, h1, _⟩ := h.outer
  exact h1.lt
theorem AB.rd {lo : Nat} {w : World} {M c : Nat} {rs : List ARow} (h : AB lo w M c rs) : RdN w (some ⟨M, 0, none⟩) (pals rs) := by
  obtain ⟨cur, h1, h2, h3⟩ := h.outer
  refine .inr ⟨M, 0, rfl, h1.lt, fun i hi => ?_⟩
  rw [pals_len] at hi
  obtain ⟨c0, c1, c2, c3⟩ := h3 i hi
  refine ⟨(nthA rs i).1, 0, (nthA rs i).2.1, ?_⟩
  rw [pals_nth hi]
  exact ⟨by rw [h1.cell, Nat.zero_add]; exact c0, by rw [h1.cell, Nat.zero_add]; exact c1, by rw [h1.cell, Nat.zero_add]; exact c2, by rw [h1.cell, Nat.zero_add]; exact c3, (h.rows _ (nthA_mem hi)).reads⟩
theorem blkA_ne {w : World} {a b : Nat} {cs ds : Array Value} (h : Blk w a cs 40) (k : Blk w b ds 67) : a ≠ b := fun e => by
  subst e
  unfold Blk at h k
  rw [h] at k
  injection k with k
  injection k with _ k
  exact absurd k (by decide)
/-- an alarm is written at a place -/
def put4C (cs : Array Value) (k : Nat) (x : ARow) : Array Value := (((cs.setIfInBounds (k * 4) (.slice (some ⟨x.1, 0, none⟩) x.2.2.l.length x.2.1)).setIfInBounds (k * 4 + 1) (.int .i64 x.2.2.s)).setIfInBounds (k * 4 + 2) (.int .i64 x.2.2.e)).setIfInBounds (k * 4 + 3) (.string x.2.2.n)
theorem put4_at {cs : Array Value} {k : Nat} {x : ARow} (h : k * 4 + 3 < cs.size) : Four (fun j => (put4C cs k x)[j]?) k x := by
  unfold put4C
  refine ⟨?_, ?_, ?_, ?_⟩
  · show (Array.setIfInBounds _ _ _)[_]? = _
    rw [set_ne (by omega), set_ne (by omega), set_ne (by omega), set_at (by omega)]
  · show (Array.setIfInBounds _ _ _)[_]? = _
    rw [set_ne (by omega), set_ne (by omega), set_at (by simp; omega)]
  · show (Array.setIfInBounds _ _ _)[_]? = _
    rw [set_ne (by omega), set_at (by simp; omega)]
  · show (Array.setIfInBounds _ _ _)[_]? = _
    rw [set_at (by simp; omega)]
theorem put4_ne {cs : Array Value} {k j : Nat} {x : ARow} (h : j < k * 4 ∨ k * 4 + 4 ≤ j) : (put4C cs k x)[j]? = cs[j]? := by
  unfold put4C
  rw [set_ne (by omega), set_ne (by omega), set_ne (by omega), set_ne (by omega)]
theorem put4_size (cs : Array Value) (k : Nat) (x : ARow) : (put4C cs k x).size = cs.size := by simp [put4C]
def put4W (w : World) (M k : Nat) (x : ARow) : World := (((w.setCell ⟨M, k * 4, none⟩ (.slice (some ⟨x.1, 0, none⟩) x.2.2.l.length x.2.1)).setCell ⟨M, k * 4 + 1, none⟩ (.int .i64 x.2.2.s)).setCell ⟨M, k * 4 + 2, none⟩ (.int .i64 x.2.2.e)).setCell ⟨M, k * 4 + 3, none⟩ (.string x.2.2.n)
theorem put4W_blk {w : World} {M k : Nat} {x : ARow} {cs : Array Value} {T : TypeId} (h : Blk w M cs T) : Blk (put4W w M k x) M (put4C cs k x) T := (((h.set _ _).set _ _).set _ _).set _ _
theorem put4W_other {w : World} {M N k : Nat} {x : ARow} {cs : Array Value} {T : TypeId} (h : Blk w N cs T) (hne : M ≠ N) : Blk (put4W w M k x) N cs T :=
  (((h.set_other hne _).set_other hne _).set_other hne _).set_other hne _
theorem put4W_low {w w' : World} {B M k : Nat} {x : ARow} (h : Below B w w') (hM : B ≤ M) : Below B w (put4W w' M k x) := (((h.setCell hM _).setCell hM _).setCell hM _).setCell hM _
end Go.Proofs.Ytbccaioahifloaa.Rws
