/-
  PROVED: impl.copied over timers, impl.HeapPut, impl.HeapTake: rows of the call's own that hold what the plain functions say; nothing that was there is changed.
-/
import Derived.Test.YtcjhieknmblbbabHpL
import Derived.Test.YtcjhieknmblbbabHpO
import Derived.Test.YtcjhieknmblbbabCopyK
namespace Go.Proofs.Ytcjhieknmblbbab.HpM
open Go.RowKit
open Go.Proofs.Ytcjhieknmblbbab.Hp Go.Proofs.Ytcjhieknmblbbab.Tms Go.Proofs.Ytcjhieknmblbbab.TmO Go.Proofs.Ytcjhieknmblbbab.TmR Go.Proofs.Ytcjhieknmblbbab.HpS Go.Proofs.Ytcjhieknmblbbab.HpT Go.Proofs.Ytcjhieknmblbbab.HpA Go.Proofs.Ytcjhieknmblbbab.HpJ Go.Proofs.Ytcjhieknmblbbab.HpK Go.Proofs.Ytcjhieknmblbbab.HpL Go.Proofs.Ytcjhieknmblbbab.Over Go.Proofs.Ytcjhieknmblbbab.Blk Go.Proofs.Ytcjhieknmblbbab.App Go.Proofs.Ytcjhieknmblbbab.CopyK
open Go.Proofs.Ytcjhieknmblbbab.Mark (Apart)
open Go.Proofs.Ytcjhieknmblbbab.HpD (retO ot_nil)
set_option linter.unusedVariables false
theorem infoK : (Try.prog.info? 33).map (·.size) = some 2 := by kernel_rfl
theorem flat_heldT (l : List Tm) : HeldT (flatT l).toArray l l.length := fun m hm => by
  have := flat_get l m hm
  simpa using this
theorem rd_src {w : World} {a : Option Addr} {l : List Tm} (h : RdT w a l) : l.length = 0 ∨ ∃ ad, a = some ad ∧ ∀ j v, (flatT l)[j]? = some v → w.cell? (ad.add j) = some v := by
  rcases h with rfl | ⟨b, off, rfl, _, hc⟩
  · exact .inl rfl
  · exact .inr ⟨_, rfl, flat_src hc⟩
set_option maxHeartbeats 800000 in
theorem copied_any (a : Option Addr) (cap : Nat) (l : List Tm) (w : World) (M : Nat) (hM : M = w.heap.size) (hr : RdT w a l) (hl : l.length ≤ 20000000) :
    Calls Try.prog 22 #[.slice a l.length cap] w
      fun e w' => e = .returned (.slice (some ⟨M, 0, none⟩) l.length l.length) ∧ Below M w w' ∧ OT M w' M l.length l := by
  subst hM
  have HR : Hid (RdT w a l) := hr
  clear hr
  have hmk := make_k (P := Try.prog) 24 33 (.agg #[.int .i64 0, .int .i64 0]) 2 16 Try.underlying24 infoT .i64 .i64 l.length (by omega) (by omega)
  go_enter Try.func22, Try.ntmps22
  go_wp2_with (refine wpList_copy_k (by rfl) _ _ 24 24 (by rfl) 33 2 Try.underlying24 infoK w.heap.size l.length l.length cap a (by rfl) (by rfl) (madeCells #[.int .i64 0, .int .i64 0] (l.length * 2)) 33 ?c1 ?c2 (flatT l) (flat_len l) ?c3 (flat_one l) w.heap.size _ (Below.refl _ _) (Nat.le_refl _) ?_)
  case c1 => exact Blk.new_at rfl
  case c2 => simp [size_madeCells]
  case c3 =>
    rcases rd_src HR.out with h | ⟨ad, rfl, h⟩
    · exact .inl h
    · rcases HR.out with hn | ⟨b, off, e, hlt, hc⟩
      · exact .inl (by rw [hn]; rfl)
      · refine .inr ⟨ad, rfl, fun j v hj => ?_⟩
        have := h j v hj
        have hb : (ad.add j).block < w.heap.size := by cases e; by_cases h : j = 0 <;> simp [Addr.add, h, hlt]
        rw [World.cell?_alloc_lt _ _ _ hb]
        exact this
  intro w2 hB2 hb2
  have HB2 : Hid (Blk w2 w.heap.size (flatT l).toArray 33) := hB2
  have HW2 : Hid (Below w.heap.size w w2) := ((Below.refl _ _).alloc (Nat.le_refl _) _).trans hb2
  clear hB2 hb2 hmk
  go_wp2
  go_ret
  exact ⟨rfl, HW2.out, Nat.le_refl _, Nat.le_refl _, by unfold maxLen; omega, _, HB2.out, by simp [flat_len], flat_heldT l⟩
/-- the variable, new, behind its row -/
theorem hq_new {lo M c : Nat} {w : World} {l : List Tm} (h : OT lo w M c l) : Hq w.heap.size (w.alloc (.cells #[.slice (some ⟨M, 0, none⟩) l.length c] 37)) M c l :=
  ⟨Blk.new _ _ _, (h.down (Nat.zero_le _)).grow (Go.Joins.below_alloc1 w _), by have := h.lt; omega⟩
theorem ot_lo {lo : Nat} {w : World} {M c : Nat} {l : List Tm} (h : OT 0 w M c l) (hM : lo ≤ M) : OT lo w M c l := ⟨hM, h.le, h.cap, h.row⟩
theorem ot_drew {lo M c : Nat} {w : World} {l : List Tm} (h : OT lo w M c l) : OT lo w.drew M c l := ⟨h.lo, h.le, h.cap, by obtain ⟨cs, h1, h2⟩ := h.row; exact ⟨cs, h1.drew, h2⟩⟩
theorem step_lo {B M M' lo : Nat} {w w' : World} (h : Step B w M w' M') (hM : lo ≤ M) (hw : lo ≤ w.heap.size) : lo ≤ M' := by
  rcases h.far with e | e <;> omega
end Go.Proofs.Ytcjhieknmblbbab.HpM
