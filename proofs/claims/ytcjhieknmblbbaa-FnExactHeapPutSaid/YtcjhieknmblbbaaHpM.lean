/-
  PROVED: impl.copied over timers, impl.HeapPut, impl.HeapTake: rows of the call's own that hold what the plain functions say; nothing that was there is changed.
-/
import Derived.Test.YtcjhieknmblbbaaHpL
import Derived.Test.YtcjhieknmblbbaaHpO
import Derived.Test.YtcjhieknmblbbaaCopyK
namespace Go.Proofs.Ytcjhieknmblbbaa.HpM
open Go.RowKit
open Go.Proofs.Ytcjhieknmblbbaa.Hp Go.Proofs.Ytcjhieknmblbbaa.Tms Go.Proofs.Ytcjhieknmblbbaa.TmO Go.Proofs.Ytcjhieknmblbbaa.TmR Go.Proofs.Ytcjhieknmblbbaa.HpS Go.Proofs.Ytcjhieknmblbbaa.HpT Go.Proofs.Ytcjhieknmblbbaa.HpA Go.Proofs.Ytcjhieknmblbbaa.HpJ Go.Proofs.Ytcjhieknmblbbaa.HpK Go.Proofs.Ytcjhieknmblbbaa.HpL Go.Proofs.Ytcjhieknmblbbaa.Over Go.Proofs.Ytcjhieknmblbbaa.Blk Go.Proofs.Ytcjhieknmblbbaa.App Go.Proofs.Ytcjhieknmblbbaa.CopyK
open Go.Proofs.Ytcjhieknmblbbaa.Mark (Apart)
open Go.Proofs.Ytcjhieknmblbbaa.HpD (retO ot_nil)
set_option linter.unusedVariables false
theorem infoK : (Try.prog.info? 26).map (·.size) = some 2 := by kernel_rfl
theorem flat_heldT (l : List Tm) : HeldT (flatT l).toArray l l.length := fun m hm => by
  have := flat_get l m hm
  simpa using this
theorem rd_src {w : World} {a : Option Addr} {l : List Tm} (h : RdT w a l) : l.length = 0 ∨ ∃ ad, a = some ad ∧ ∀ j v, (flatT l)[j]? = some v → w.cell? (ad.add j) = some v := by
  rcases h with rfl | ⟨b, off, rfl, _, hc⟩
  · exact .inl rfl
  · exact .inr ⟨_, rfl, flat_src hc⟩
set_option maxHeartbeats 800000 in
theorem copied_any (a : Option Addr) (cap : Nat) (l : List Tm) (w : World) (M : Nat) (hM : M = w.heap.size) (hr : RdT w a l) (hl : l.length ≤ 20000000) :
    Calls Try.prog 40 #[.slice a l.length cap] w
      fun e w' => e = .returned (.slice (some ⟨M, 0, none⟩) l.length l.length) ∧ Below M w w' ∧ OT M w' M l.length l := by
  subst hM
  have HR : Hid (RdT w a l) := hr
  clear hr
  have hmk := make_k (P := Try.prog) 24 26 (.agg #[.int .i64 0, .int .i64 0]) 2 16 Try.underlying24 infoT .i64 .i64 l.length (by omega) (by omega)
  go_enter Try.func40, Try.ntmps40
  go_wp2_with (refine wpList_copy_k (by rfl) _ _ 24 24 (by rfl) 26 2 Try.underlying24 infoK w.heap.size l.length l.length cap a (by rfl) (by rfl) (madeCells #[.int .i64 0, .int .i64 0] (l.length * 2)) 26 ?c1 ?c2 (flatT l) (flat_len l) ?c3 (flat_one l) w.heap.size _ (Below.refl _ _) (Nat.le_refl _) ?_)
  case c1 => exact Blk.new_at rfl
  case c2 => simp [size_madeCells]
  case c3 =>
    rcases rd_src HR.out with h | ⟨ad, rfl, h⟩
    · exact .inl h
    · rcases HR.out with hn | ⟨b, off, e, hlt, hc⟩
      · exact .inl (by rw [hn]; rfl)
      · refine .inr ⟨ad, rfl, fun j v hj => ?_⟩
        have := h j v hj
        have hb : (ad.add j).block < w.heap.size := by cases e; by_cases h : j = 0 <;> simp [Addr.add, h, hlt]
        rw [World.cell?_alloc_lt _ _ _ hb]
        exact this
  intro w2 hB2 hb2
  have HB2 : Hid (Blk w2 w.heap.size (flatT l).toArray 26) := hB2
  have HW2 : Hid (Below w.heap.size w w2) := ((Below.refl _ _).alloc (Nat.le_refl _) _).trans hb2
  clear hB2 hb2 hmk
  go_wp2
  go_ret
  exact ⟨rfl, HW2.out, Nat.le_refl _, Nat.le_refl _, by unfold maxLen; omega, _, HB2.out, by simp [flat_len], flat_heldT l⟩
/-- the variable, new, behind its row -/
theorem hq_new {lo M c : Nat} {w : World} {l : List Tm} (h : OT lo w M c l) : Hq w.heap.size (w.alloc (.cells #[.slice (some ⟨M, 0, none⟩) l.length c] 55)) M c l :=
  ⟨Blk.new _ _ _, (h.down (Nat.zero_le _)).grow (Go.Joins.below_alloc1 w _), by have := h.lt; omega⟩
theorem ot_lo {lo : Nat} {w : World} {M c : Nat} {l : List Tm} (h : OT 0 w M c l) (hM : lo ≤ M) : OT lo w M c l := ⟨hM, h.le, h.cap, h.row⟩
theorem ot_drew {lo M c : Nat} {w : World} {l : List Tm} (h : OT lo w M c l) : OT lo w.drew M c l := ⟨h.lo, h.le, h.cap, by obtain ⟨cs, h1, h2⟩ := h.row; exact ⟨cs, h1.drew, h2⟩⟩
theorem step_lo {B M M' lo : Nat} {w w' : World} (h : Step B w M w' M') (hM : lo ≤ M) (hw : lo ≤ w.heap.size) : lo ≤ M' := by
  rcases h.far with e | e <;> omega
set_option maxHeartbeats 800000 in
theorem implPut_any (g o cap : Nat) (l : List Tm) (t : Tm) (w : World) (hr : RdT w (some ⟨g, o, none⟩) l) (hl : l.length ≤ 10000000) :
    Calls Try.prog 11 #[.slice (some ⟨g, o, none⟩) l.length cap, .agg #[.int .i64 t.1, .int .i64 t.2]] w fun e w' => (∃ M c, e = .returned (.slice (some ⟨M, 0, none⟩) (putT l t).length c) ∧ OT w.heap.size w' M c (putT l t)) ∧ Below w.heap.size w w' := by
  have HR : Hid (RdT w (some ⟨g, o, none⟩) l) := hr
  clear hr
  go_enter Try.func11, Try.ntmps11
  go_wp2_with fail
  refine (copied_any (some ⟨g, o, none⟩) cap l _ (w.heap.size + 1) (by simp) (HR.out.below (Go.Joins.below_alloc1 w _)) (by omega)).mono ?_
  rintro e w2 ⟨rfl, hb2, ho2⟩
  have HX2 : Hid (Blk w2 w.heap.size #[.int .i64 t.1, .int .i64 t.2] 26) := (Blk.new w _ _).below hb2 (by omega)
  have HB2 : Hid (Below w.heap.size w w2) := (Go.Joins.below_alloc1 w _).trans (hb2.mono (by omega))
  have HQ2 := (show Hid _ from hq_new ho2)
  have HL2 : Hid (w.heap.size < w2.heap.size) := HX2.out.lt
  clear hb2 ho2
  go_upto_region 2 with fail
  generalize hW : w2.alloc (.cells #[.slice (some ⟨w.heap.size + 1, 0, none⟩) l.length l.length] 55) = W at HQ2
  have HB3 : Hid (Below w2.heap.size w2 W) := by rw [← hW]; exact Go.Joins.below_alloc1 w2 _
  have HX3 : Hid (Blk W w.heap.size #[.int .i64 t.1, .int .i64 t.2] 26) := HX2.out.grow HB3.out
  have x0 := HX3.out.cell 0
  have x1 := HX3.out.cell 1
  have HP := put_any w2.heap.size (w.heap.size + 1) l.length l t W HQ2.out (by omega)
  clear hW
  go_wp2_with fail
  refine HP.mono ?_
  rintro e w4 ⟨rfl, M4, c4, hq4, hs4⟩
  have HQ4 : Hid (Hq w2.heap.size w4 M4 c4 (putT l t)) := hq4
  have HB4 : Hid (Below w.heap.size w w4) := (grow_on HB2.out HB3.out).trans (hs4.low (by have := HL2.out; omega) (by omega) (by have := HB3.out.size; have := HL2.out; omega))
  have HM4 : Hid (w.heap.size ≤ M4) := step_lo hs4 (by omega) (by have := HB3.out.size; have := HL2.out; omega)
  have hv := HQ4.out.cell
  clear hq4 hs4 HP x0 x1
  go_wp2
  go_ret
  exact ⟨⟨M4, c4, rfl, ot_lo HQ4.out.row HM4.out⟩, HB4.out⟩
set_option maxHeartbeats 800000 in
theorem implTake_any (g o cap : Nat) (l : List Tm) (w : World) (hr : RdT w (some ⟨g, o, none⟩) l) (hl : l.length ≤ 10000000) (hcap : l.length ≤ cap) :
    Calls Try.prog 13 #[.slice (some ⟨g, o, none⟩) l.length cap] w fun e w' => (∃ M c, e = .returned (.tuple #[.slice (some ⟨M, 0, none⟩) (takeT l).length c, .agg #[.int .i64 (fstT l).1, .int .i64 (fstT l).2], .bool (anyT l)]) ∧ OT w.heap.size w' M c (takeT l)) ∧ Below w.heap.size w w' := by
  have HR : Hid (RdT w (some ⟨g, o, none⟩) l) := hr
  clear hr
  go_enter Try.func13, Try.ntmps13
  go_wp2_with fail
  refine (copied_any (some ⟨g, o, none⟩) cap l _ (w.heap.size + 1) (by simp) (HR.out.below (Go.Joins.below_alloc1 w _)) (by omega)).mono ?_
  rintro e w2 ⟨rfl, hb2, ho2⟩
  have HX2 : Hid (Blk w2 w.heap.size #[.int .i64 0, .int .i64 0] 26) := (Blk.new w _ _).below hb2 (by omega)
  have HB2 : Hid (Below w.heap.size w w2) := (Go.Joins.below_alloc1 w _).trans (hb2.mono (by omega))
  have HQ2 := (show Hid _ from hq_new ho2)
  have HL2 : Hid (w.heap.size < w2.heap.size) := HX2.out.lt
  clear hb2 ho2
  go_upto_region 2 with fail
  generalize hW : w2.alloc (.cells #[.slice (some ⟨w.heap.size + 1, 0, none⟩) l.length l.length] 55) = W at HQ2
  have HB3 : Hid (Below w2.heap.size w2 W) := by rw [← hW]; exact Go.Joins.below_alloc1 w2 _
  have HX3 : Hid (Blk W w.heap.size #[.int .i64 0, .int .i64 0] 26) := HX2.out.grow HB3.out
  have HP := take_any w2.heap.size (w.heap.size + 1) l.length l W HQ2.out (by omega)
  clear hW
  go_wp2_with fail
  refine HP.mono ?_
  rintro e w4 ⟨rfl, hq4, hs4⟩
  have hs5 : Step w2.heap.size W (w.heap.size + 1) w4 (w.heap.size + 1) := ⟨hs4, .inl rfl⟩
  have HQ4 : Hid (Hq w2.heap.size w4 (w.heap.size + 1) l.length (takeT l)) := hq4
  have HB4 : Hid (Below w.heap.size w w4) := (grow_on HB2.out HB3.out).trans (hs5.low (by have := HL2.out; omega) (by omega) (by have := HB3.out.size; have := HL2.out; omega))
  have HX4 : Hid (Blk w4 w.heap.size #[.int .i64 0, .int .i64 0] 26) := hs5.blk HX3.out (by have := HL2.out; omega) (by omega)
  clear hq4 hs4 hs5 HP
  go_upto_region 3 with fail
  generalize hW : w4.alloc (.cells #[.int .i64 (fstT l).1, .int .i64 (fstT l).2] 26) = W5
  have HB5 : Hid (Below w4.heap.size w4 W5) := by rw [← hW]; exact Go.Joins.below_alloc1 w4 _
  have HY5 : Hid (Blk W5 w4.heap.size #[.int .i64 (fstT l).1, .int .i64 (fstT l).2] 26) := by rw [← hW]; exact Blk.new _ _ _
  have HX5 : Hid (Blk W5 w.heap.size #[.int .i64 0, .int .i64 0] 26) := HX4.out.grow HB5.out
  have HQ5 : Hid (Hq w2.heap.size W5 (w.heap.size + 1) l.length (takeT l)) := HQ4.out.grow HB5.out
  have hv := HQ5.out.cell
  have x0 := HX5.out.cell 0
  have x1 := HX5.out.cell 1
  have f0 := HX5.out.frozen 0
  have f1 := HX5.out.frozen 1
  have y0 := HY5.out.cell 0
  have y1 := HY5.out.cell 1
  have h1 := HX4.out.lt
  have h2 := HL2.out
  clear hW
  go_region
  go_wp2_with fail
  have hs : Blk ((W5.setCell ⟨w.heap.size, 0, none⟩ (.int .i64 (fstT l).1)).setCell ⟨w.heap.size, 1, none⟩ (.int .i64 (fstT l).2)).drew w.heap.size #[.int .i64 (fstT l).1, .int .i64 (fstT l).2] 26 := ((HX5.out.set 0 _).set 1 _).drew
  have r0 := hs.cell 0
  have r1 := hs.cell 1
  refine bodyPost_ret (v := .tuple #[.slice (some ⟨w.heap.size + 1, 0, none⟩) (takeT l).length l.length, .agg #[.int .i64 (fstT l).1, .int .i64 (fstT l).2], .bool (anyT l)]) (by simp [results, Try.results13, go_sem, r0, r1]) rfl ?_
  have hq := hq_set (hq_set HQ5.out (R := w.heap.size) (by omega) (by omega) 0 (.int .i64 (fstT l).1)) (R := w.heap.size) (by omega) (by omega) 1 (.int .i64 (fstT l).2)
  exact ⟨⟨_, _, rfl, ot_drew (ot_lo hq.row (by omega))⟩, (((grow_on HB4.out HB5.out).setCell (p := ⟨w.heap.size, 0, none⟩) (Nat.le_refl _) _).setCell (p := ⟨w.heap.size, 1, none⟩) (Nat.le_refl _) _).drew⟩
end Go.Proofs.Ytcjhieknmblbbaa.HpM
