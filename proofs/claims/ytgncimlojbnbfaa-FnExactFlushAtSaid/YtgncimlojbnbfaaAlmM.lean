/-
  PROVED: over two alarms whose labels lie in memory spec.Merge and impl.Merge answer alike, in memory of their own; nothing that was there is changed.
-/
import Derived.Test.YtgncimlojbnbfaaAlmS
import Derived.Test.YtgncimlojbnbfaaLabR
import Derived.Test.YtgncimlojbnbfaaApp
namespace Go.Proofs.Ytgncimlojbnbfaa.AlmM
open Go.RowKit
open Go.Proofs.Ytgncimlojbnbfaa.Labs Go.Proofs.Ytgncimlojbnbfaa.LabS Go.Proofs.Ytgncimlojbnbfaa.LabR Go.Proofs.Ytgncimlojbnbfaa.Alm Go.Proofs.Ytgncimlojbnbfaa.AlmS Go.Proofs.Ytgncimlojbnbfaa.Over Go.Proofs.Ytgncimlojbnbfaa.Blk Go.Proofs.Ytgncimlojbnbfaa.App
open Go.Proofs.Ytgncimlojbnbfaa.LabT (infoL Held held_reads)
open Go.Proofs.Ytgncimlojbnbfaa.StrB (retB)
set_option linter.unusedVariables false

theorem src_of {w : World} {ad : Addr} {l : List Lab} (h : Reads w (some ad) l) : ∀ j u, (flat l)[j]? = some u → w.cell? (ad.add j) = some u := fun j u hj => by
  rcases reads_src h with h0 | ⟨ad', e, h1⟩
  · have : l = [] := List.eq_nil_of_length_eq_zero h0
    subst this
    simp [flat] at hj
  · cases e; exact h1 j u hj
/-- a row of the call's own -/
theorem own_row {w' : World} {B g n c : Nat} {l : List Lab} (h : w'.ownsRow B 73 2 (.slice (some ⟨g, 0, none⟩) n c) l.length (flat l)) : B ≤ g ∧ ∃ cs : Array Value, Blk w' g cs 73 ∧ l.length * 2 ≤ cs.size ∧ Held cs l l.length := by
  rcases h.2 with ⟨e, _⟩ | ⟨g', cap', cur, e, hb, hg, hc, _, hz, ht⟩
  · cases e
  · cases e
    refine ⟨hb, cur, hg, ?_, fun j hj => ?_⟩
    · rw [hz]; omega
    · have h2 := flat_get l j hj
      have hl := flat_len l
      rw [← ht, List.getElem?_take_of_lt (by omega), List.getElem?_take_of_lt (by omega)] at h2
      simpa using h2
theorem flat_heldL (l : List Lab) : Held (flat l).toArray l l.length := flat_held l

set_option maxHeartbeats 800000 in
theorem copyS_any (g o cap : Nat) (l : List Lab) (s e : Int) (n : ByteArray) (w : World) (hr : Reads w (some ⟨g, o, none⟩) l) (hl : l.length ≤ 1048576) :
    Calls Try.prog 53 #[.agg #[.slice (some ⟨g, o, none⟩) l.length cap, .int .i64 s, .int .i64 e, .string n]] w fun r w' => (∃ M c, r = .returned (.agg #[.slice (some ⟨M, 0, none⟩) l.length c, .int .i64 s, .int .i64 e, .string n]) ∧ Own w w' M l) ∧ Below w.heap.size w w' := by
  have HR : Hid (Reads w (some ⟨g, o, none⟩) l) := hr
  clear hr
  obtain ⟨i0, hi, hz0, hz1, hz2⟩ := info_parts infoL
  go_enter Try.func53, Try.ntmps53
  have HO : Hid ((((w.alloc (.cells #[.slice (some ⟨g, o, none⟩) l.length cap, .int .i64 s, .int .i64 e, .string n] 48)).alloc (.cells #[.slice none 0 0, .int .i64 0, .int .i64 0, .string ⟨#[]⟩] 48)).alloc (.cells #[] 73)).ownsRow (w.heap.size + 2) 73 2 (.slice (some ⟨w.heap.size + 2, 0, none⟩) 0 0) 0 []) := own_empty (Blk.new_at (by simp)) (Nat.le_refl _)
  go_wp2_with (at_builtin; refine wpList_append_own_at _ rfl _ _ 36 rfl (w.heap.size + 2) 73 i0 (.agg #[.string ByteArray.empty, .string ByteArray.empty]) 2 32 Try.underlying36 hi hz0 hz1 hz2 rfl (by decide) _ _ _ rfl HO.out ⟨g, o, none⟩ l.length cap (flat l) rfl (flat_len l) ?c1 (flat_one l) ?c3 ?c4 ?c5 ?_)
  case c1 => exact src_of (HR.out.below (below3 w _ _ _))
  case c3 => unfold maxLen; omega
  case c4 => omega
  case c5 => simp
  intro v' w4 hown hg hnil _
  have hlow : Below (w.heap.size + 2) ((w.alloc (.cells #[.slice (some ⟨g, o, none⟩) l.length cap, .int .i64 s, .int .i64 e, .string n] 48)).alloc (.cells #[.slice none 0 0, .int .i64 0, .int .i64 0, .string ⟨#[]⟩] 48)) w4 := ((Below.refl _ _).alloc (by simp) _).grown hg (by simp) (fun k hk => (HO.out.lt k hk).1)
  have hpl : w4.ownsRow (w.heap.size + 2) 73 2 v' l.length (flat l) := by simpa using hown
  obtain ⟨M, c, hv⟩ : ∃ g' c', v' = .slice (some ⟨g', 0, none⟩) l.length c' := by
    rcases hpl.2 with ⟨e, _⟩ | ⟨g', c', cur, e, _⟩
    · exact absurd e hnil
    · exact ⟨g', c', e⟩
  subst hv
  have HW : Hid (w.heap.size + 2 ≤ M ∧ ∃ cs : Array Value, Blk w4 M cs 73 ∧ l.length * 2 ≤ cs.size ∧ Held cs l l.length) := own_row hpl
  have hP : Blk w4 w.heap.size #[.slice (some ⟨g, o, none⟩) l.length cap, .int .i64 s, .int .i64 e, .string n] 48 := ((Blk.new _ _ _).alloc _).below hlow (by omega)
  have hR : Blk w4 (w.heap.size + 1) #[.slice none 0 0, .int .i64 0, .int .i64 0, .string ⟨#[]⟩] 48 := (Blk.new_at (by simp)).below hlow (by omega)
  have HB : Hid (Below w.heap.size w w4) := (Go.Joins.below_alloc2 w _ _).trans (hlow.mono (by omega))
  have P0 : w4.cell? ⟨w.heap.size, 0, none⟩ = some (.slice (some ⟨g, o, none⟩) l.length cap) := hP.cell 0
  have P1 : w4.cell? ⟨w.heap.size, 1, none⟩ = some (.int .i64 s) := hP.cell 1
  have P2 : w4.cell? ⟨w.heap.size, 2, none⟩ = some (.int .i64 e) := hP.cell 2
  have P3 : w4.cell? ⟨w.heap.size, 3, none⟩ = some (.string n) := hP.cell 3
  have fP0 := hP.frozen 0
  have fP1 := hP.frozen 1
  have fP2 := hP.frozen 2
  have fP3 := hP.frozen 3
  have R0 : w4.cell? ⟨w.heap.size + 1, 0, none⟩ = some (.slice none 0 0) := hR.cell 0
  have R1 : w4.cell? ⟨w.heap.size + 1, 1, none⟩ = some (.int .i64 0) := hR.cell 1
  have R2 : w4.cell? ⟨w.heap.size + 1, 2, none⟩ = some (.int .i64 0) := hR.cell 2
  have R3 : w4.cell? ⟨w.heap.size + 1, 3, none⟩ = some (.string ⟨#[]⟩) := hR.cell 3
  have fR0 := hR.frozen 0
  have fR1 := hR.frozen 1
  have fR2 := hR.frozen 2
  have fR3 := hR.frozen 3
  clear hown hg hnil hlow hpl HO hP hR hi hz0 hz1 hz2
  go_wp2
  refine bodyPost_ret (v := .agg #[.slice (some ⟨M, 0, none⟩) l.length c, .int .i64 s, .int .i64 e, .string n]) (by simp [results, Try.results53, go_sem, R0, R1, R2, R3]) rfl ?_
  obtain ⟨hM, cs, hk, hs, hh⟩ := HW.out
  exact ⟨⟨M, c, rfl, by omega, cs, blk4 (hk.set_other (by show w.heap.size ≠ M; omega) _) (by omega) _ _ _ _, hs, hh⟩, set4 (HB.out.setCell (Nat.le_refl _) _) (by omega) _ _ _ _⟩

set_option maxHeartbeats 800000 in
theorem copyI_any (a : Option Addr) (cap : Nat) (l : List Lab) (s e : Int) (n : ByteArray) (w : World) (hr : Reads w a l) (hl : l.length ≤ 1048576) :
    Calls Try.prog 108 #[.agg #[.slice a l.length cap, .int .i64 s, .int .i64 e, .string n]] w fun r w' => (∃ M c, r = .returned (.agg #[.slice (some ⟨M, 0, none⟩) l.length c, .int .i64 s, .int .i64 e, .string n]) ∧ Own w w' M l) ∧ Below w.heap.size w w' := by
  have HR : Hid (Reads w a l) := hr
  clear hr
  go_enter Try.func108, Try.ntmps108
  go_wp2_with fail
  refine (copied_any a cap l _ (w.heap.size + 2) (by simp) (HR.out.below (Go.Joins.below_alloc2 w _ _)) hl).mono ?_
  rintro r w4 ⟨rfl, hlow, hB⟩
  have HW : Hid (Blk w4 (w.heap.size + 2) (flat l).toArray 73) := hB
  have hP : Blk w4 w.heap.size #[.slice a l.length cap, .int .i64 s, .int .i64 e, .string n] 48 := ((Blk.new _ _ _).alloc _).below hlow (by omega)
  have hR : Blk w4 (w.heap.size + 1) #[.slice none 0 0, .int .i64 0, .int .i64 0, .string ⟨#[]⟩] 48 := (Blk.new_at (by simp)).below hlow (by omega)
  have HB : Hid (Below w.heap.size w w4) := (Go.Joins.below_alloc2 w _ _).trans (hlow.mono (by omega))
  have P0 : w4.cell? ⟨w.heap.size, 0, none⟩ = some (.slice a l.length cap) := hP.cell 0
  have P1 : w4.cell? ⟨w.heap.size, 1, none⟩ = some (.int .i64 s) := hP.cell 1
  have P2 : w4.cell? ⟨w.heap.size, 2, none⟩ = some (.int .i64 e) := hP.cell 2
  have P3 : w4.cell? ⟨w.heap.size, 3, none⟩ = some (.string n) := hP.cell 3
  have fP0 := hP.frozen 0
  have fP1 := hP.frozen 1
  have fP2 := hP.frozen 2
  have fP3 := hP.frozen 3
  have R0 : w4.cell? ⟨w.heap.size + 1, 0, none⟩ = some (.slice none 0 0) := hR.cell 0
  have R1 : w4.cell? ⟨w.heap.size + 1, 1, none⟩ = some (.int .i64 0) := hR.cell 1
  have R2 : w4.cell? ⟨w.heap.size + 1, 2, none⟩ = some (.int .i64 0) := hR.cell 2
  have R3 : w4.cell? ⟨w.heap.size + 1, 3, none⟩ = some (.string ⟨#[]⟩) := hR.cell 3
  have fR0 := hR.frozen 0
  have fR1 := hR.frozen 1
  have fR2 := hR.frozen 2
  have fR3 := hR.frozen 3
  clear hlow hB hP hR
  go_wp2
  refine bodyPost_ret (v := .agg #[.slice (some ⟨w.heap.size + 2, 0, none⟩) l.length l.length, .int .i64 s, .int .i64 e, .string n]) (by simp [results, Try.results108, go_sem, R0, R1, R2, R3]) rfl ?_
  exact ⟨⟨w.heap.size + 2, l.length, rfl, by omega, (flat l).toArray, blk4 (HW.out.set_other (by show w.heap.size ≠ w.heap.size + 2; omega) _) (by omega) _ _ _ _, by simp [flat_len], flat_heldL l⟩, set4 (HB.out.setCell (Nat.le_refl _) _) (by omega) _ _ _ _⟩

/-- the lesser one of two -/
def leastB (a b : Int) : Int := if b < a then b else a
theorem least_y {a b : Int} (h : b < a) : leastB a b = b := if_pos h
theorem least_n {a b : Int} (h : ¬ b < a) : leastB a b = a := if_neg h
theorem retI {a b : Int} (h : a = b) : Ending.returned (.int .i64 a) = .returned (.int .i64 b) := by rw [h]
/-- the start of two alarms merged -/
def startB (s e s' e' : Int) : Int := if touchB s e s' e' = true then leastB s s' else s'
theorem start_y {s e s' e' : Int} (h : touchB s e s' e' = true) : startB s e s' e' = leastB s s' := if_pos h
theorem start_n {s e s' e' : Int} (h : touchB s e s' e' = false) : startB s e s' e' = s' := by unfold startB; rw [h]; rfl
theorem retA {M n c : Nat} {s s' e : Int} {t : ByteArray} (h : s = s') : Ending.returned (.agg #[.slice (some ⟨M, 0, none⟩) n c, .int .i64 s, .int .i64 e, .string t]) = .returned (.agg #[.slice (some ⟨M, 0, none⟩) n c, .int .i64 s', .int .i64 e, .string t]) := by rw [h]

end Go.Proofs.Ytgncimlojbnbfaa.AlmM
