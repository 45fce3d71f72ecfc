/-
  PROVED: over two alarms and a slice of strings in memory spec.Together and impl.Together answer alike: whether both have the same labels by these names; nothing that was there is changed.
-/
import Derived.Test.YtmachabgnbpeaaaPro
import Derived.Test.YtmachabgnbpeaaaAlm
import Derived.Deep.RegionHeld3
namespace Go.Proofs.Ytmachabgnbpeaaa.Tog
open Go.RowKit
open Go.Proofs.Ytmachabgnbpeaaa.Labs Go.Proofs.Ytmachabgnbpeaaa.LabS Go.Proofs.Ytmachabgnbpeaaa.Pro Go.Proofs.Ytmachabgnbpeaaa.Over Go.Proofs.Ytmachabgnbpeaaa.Blk
open Go.Proofs.Ytmachabgnbpeaaa.StrB (retB)
open Go.Proofs.Ytmachabgnbpeaaa.LabR (Own)
set_option linter.unusedVariables false

/-- whether two are together -/
def togB (l l' : List Lab) (by' : List ByteArray) : Bool := decide (projB l by' = projB l' by')

set_option maxRecDepth 100000 in
set_option maxHeartbeats 3200000 in
theorem specTog_any (a a' b : Option Addr) (cap cap' capb : Nat) (l l' : List Lab) (s e s' e' : Int) (n n' : ByteArray) (by' : List ByteArray) (w : World) (hr : Reads w a l) (hr' : Reads w a' l') (hb : RdS w b by') (hl : l.length ≤ 1048576) (hl' : l'.length ≤ 1048576) (hlb : by'.length ≤ maxLen) :
    Calls Try.prog 18 #[.agg #[.slice a l.length cap, .int .i64 s, .int .i64 e, .string n], .agg #[.slice a' l'.length cap', .int .i64 s', .int .i64 e', .string n'], .slice b by'.length capb] w fun r w' => r = .returned (.bool (togB l l' by')) ∧ Below w.heap.size w w' := by
  have HR : Hid (Reads w a l ∧ Reads w a' l' ∧ RdS w b by' ∧ l.length ≤ 1048576 ∧ l'.length ≤ 1048576 ∧ by'.length ≤ maxLen) := ⟨hr, hr', hb, hl, hl', hlb⟩
  have HM : Hid ((projB l by').length ≤ maxLen ∧ (projB l' by').length ≤ maxLen) := ⟨Nat.le_trans (proj_len l by') (by unfold maxLen; omega), Nat.le_trans (proj_len l' by') (by unfold maxLen; omega)⟩
  clear hr hr' hb hl hl' hlb
  go_enter Try.func18, Try.ntmps18
  go_wp2_with fail
  generalize hz : (w.alloc (.cells #[.slice a l.length cap, .int .i64 s, .int .i64 e, .string n] 32)).alloc (.cells #[.slice a' l'.length cap', .int .i64 s', .int .i64 e', .string n'] 32) = z
  have hP : Blk z w.heap.size #[.slice a l.length cap, .int .i64 s, .int .i64 e, .string n] 32 := by rw [← hz]; exact (Blk.new _ _ _).alloc _
  have hQ : Blk z (w.heap.size + 1) #[.slice a' l'.length cap', .int .i64 s', .int .i64 e', .string n'] 32 := by rw [← hz]; exact Blk.new_at (by simp)
  have HB : Hid (Below w.heap.size w z) := by rw [← hz]; exact Go.Joins.below_alloc2 w _ _
  clear hz
  have kz : Below z.heap.size z z.drew := (Below.refl _ _).drew
  have HS : Hid (∀ w', Below z.heap.size z w' → Below z.heap.size z w' ∧ w'.cell? ⟨w.heap.size, 0, none⟩ = some (.slice a l.length cap) ∧ w'.cell? ⟨w.heap.size, 1, none⟩ = some (.int .i64 s) ∧ w'.cell? ⟨w.heap.size, 2, none⟩ = some (.int .i64 e) ∧ w'.cell? ⟨w.heap.size, 3, none⟩ = some (.string n) ∧ w'.cell? ⟨w.heap.size + 1, 0, none⟩ = some (.slice a' l'.length cap') ∧ w'.cell? ⟨w.heap.size + 1, 1, none⟩ = some (.int .i64 s') ∧ w'.cell? ⟨w.heap.size + 1, 2, none⟩ = some (.int .i64 e') ∧ w'.cell? ⟨w.heap.size + 1, 3, none⟩ = some (.string n')) :=
    fun w' h => ⟨h, (h.cell hP.lt).trans (hP.cell 0), (h.cell hP.lt).trans (hP.cell 1), (h.cell hP.lt).trans (hP.cell 2), (h.cell hP.lt).trans (hP.cell 3), (h.cell hQ.lt).trans (hQ.cell 0), (h.cell hQ.lt).trans (hQ.cell 1), (h.cell hQ.lt).trans (hQ.cell 2), (h.cell hQ.lt).trans (hQ.cell 3)⟩
  have C1 : Hid (∀ x, Below z.heap.size z x → Calls Try.prog 24 #[.agg #[.slice a l.length cap, .int .i64 s, .int .i64 e, .string n], .slice b by'.length capb] x fun r w' => (∃ M c, r = .returned (.slice (some ⟨M, 0, none⟩) (projB l by').length c) ∧ Own x w' M (projB l by')) ∧ Below x.heap.size x w') := fun x hx => specKey_any a b cap capb l s e n by' x (HR.out.1.below (grow_on HB.out hx)) (HR.out.2.2.1.below (grow_on HB.out hx)) HR.out.2.2.2.1 HR.out.2.2.2.2.2
  have C2 : Hid (∀ x, Below z.heap.size z x → Calls Try.prog 24 #[.agg #[.slice a' l'.length cap', .int .i64 s', .int .i64 e', .string n'], .slice b by'.length capb] x fun r w' => (∃ M c, r = .returned (.slice (some ⟨M, 0, none⟩) (projB l' by').length c) ∧ Own x w' M (projB l' by')) ∧ Below x.heap.size x w') := fun x hx => specKey_any a' b cap' capb l' s' e' n' by' x (HR.out.2.1.below (grow_on HB.out hx)) (HR.out.2.2.1.below (grow_on HB.out hx)) HR.out.2.2.2.2.1 HR.out.2.2.2.2.2
  go_region_held3 (fun w' => Below z.heap.size z w' ∧ w'.cell? ⟨w.heap.size, 0, none⟩ = some (.slice a l.length cap) ∧ w'.cell? ⟨w.heap.size, 1, none⟩ = some (.int .i64 s) ∧ w'.cell? ⟨w.heap.size, 2, none⟩ = some (.int .i64 e) ∧ w'.cell? ⟨w.heap.size, 3, none⟩ = some (.string n) ∧ w'.cell? ⟨w.heap.size + 1, 0, none⟩ = some (.slice a' l'.length cap') ∧ w'.cell? ⟨w.heap.size + 1, 1, none⟩ = some (.int .i64 s') ∧ w'.cell? ⟨w.heap.size + 1, 2, none⟩ = some (.int .i64 e') ∧ w'.cell? ⟨w.heap.size + 1, 3, none⟩ = some (.string n')) (first | with_reducible exact HS.out _ kz | with_reducible exact HS.out _ hz1 | with_reducible exact HS.out _ hz2 | with_reducible exact HS.out _ hz3 | (go_keep; done)) (first
    | (go_at_call 57; (refine (calls_drew (specSame_any _ _ _ _ (projB l by') (projB l' by') _ ((own_reads ho1).below hy2) (own_reads ho2) HM.out.1 HM.out.2)).mono ?_); rintro r wy3 ⟨rfl, hy3⟩; (have hz3 : Below z.heap.size z wy3 := grow_on hz2 hy3))
    | (go_at_call 24; (with_reducible refine (C2.out _ hz1).mono ?_); rintro r wy2 ⟨⟨M2, c2, rfl, ho2⟩, hy2⟩; (have hz2 : Below z.heap.size z wy2 := grow_on hz1 hy2))
    | (go_at_call 24; (with_reducible refine (C1.out _ kz).mono ?_); rintro r wy1 ⟨⟨M1, c1, rfl, ho1⟩, hy1⟩; (have hz1 : Below z.heap.size z wy1 := grow_on kz hy1)))
  have H3 : Hid (Below w.heap.size w wy3) := grow_on HB.out hz3
  clear hz1 hz2 hz3 hy1 hy2 hy3 ho1 ho2 kz hP hQ
  go_wp2
  go_ret
  exact ⟨rfl, H3.out⟩
set_option maxRecDepth 100000 in
set_option maxHeartbeats 3200000 in
theorem implTog_any (a a' b : Option Addr) (cap cap' capb : Nat) (l l' : List Lab) (s e s' e' : Int) (n n' : ByteArray) (by' : List ByteArray) (w : World) (hr : Reads w a l) (hr' : Reads w a' l') (hb : RdS w b by') (hl : l.length ≤ 1048576) (hl' : l'.length ≤ 1048576) (hlb : by'.length ≤ maxLen) :
    Calls Try.prog 17 #[.agg #[.slice a l.length cap, .int .i64 s, .int .i64 e, .string n], .agg #[.slice a' l'.length cap', .int .i64 s', .int .i64 e', .string n'], .slice b by'.length capb] w fun r w' => r = .returned (.bool (togB l l' by')) ∧ Below w.heap.size w w' := by
  have HR : Hid (Reads w a l ∧ Reads w a' l' ∧ RdS w b by' ∧ l.length ≤ 1048576 ∧ l'.length ≤ 1048576 ∧ by'.length ≤ maxLen) := ⟨hr, hr', hb, hl, hl', hlb⟩
  have HM : Hid ((projB l by').length ≤ maxLen ∧ (projB l' by').length ≤ maxLen) := ⟨Nat.le_trans (proj_len l by') (by unfold maxLen; omega), Nat.le_trans (proj_len l' by') (by unfold maxLen; omega)⟩
  clear hr hr' hb hl hl' hlb
  go_enter Try.func17, Try.ntmps17
  go_wp2_with fail
  generalize hz : (w.alloc (.cells #[.slice a l.length cap, .int .i64 s, .int .i64 e, .string n] 32)).alloc (.cells #[.slice a' l'.length cap', .int .i64 s', .int .i64 e', .string n'] 32) = z
  have hP : Blk z w.heap.size #[.slice a l.length cap, .int .i64 s, .int .i64 e, .string n] 32 := by rw [← hz]; exact (Blk.new _ _ _).alloc _
  have hQ : Blk z (w.heap.size + 1) #[.slice a' l'.length cap', .int .i64 s', .int .i64 e', .string n'] 32 := by rw [← hz]; exact Blk.new_at (by simp)
  have HB : Hid (Below w.heap.size w z) := by rw [← hz]; exact Go.Joins.below_alloc2 w _ _
  clear hz
  have kz : Below z.heap.size z z.drew := (Below.refl _ _).drew
  have HS : Hid (∀ w', Below z.heap.size z w' → Below z.heap.size z w' ∧ w'.cell? ⟨w.heap.size, 0, none⟩ = some (.slice a l.length cap) ∧ w'.cell? ⟨w.heap.size, 1, none⟩ = some (.int .i64 s) ∧ w'.cell? ⟨w.heap.size, 2, none⟩ = some (.int .i64 e) ∧ w'.cell? ⟨w.heap.size, 3, none⟩ = some (.string n) ∧ w'.cell? ⟨w.heap.size + 1, 0, none⟩ = some (.slice a' l'.length cap') ∧ w'.cell? ⟨w.heap.size + 1, 1, none⟩ = some (.int .i64 s') ∧ w'.cell? ⟨w.heap.size + 1, 2, none⟩ = some (.int .i64 e') ∧ w'.cell? ⟨w.heap.size + 1, 3, none⟩ = some (.string n')) :=
    fun w' h => ⟨h, (h.cell hP.lt).trans (hP.cell 0), (h.cell hP.lt).trans (hP.cell 1), (h.cell hP.lt).trans (hP.cell 2), (h.cell hP.lt).trans (hP.cell 3), (h.cell hQ.lt).trans (hQ.cell 0), (h.cell hQ.lt).trans (hQ.cell 1), (h.cell hQ.lt).trans (hQ.cell 2), (h.cell hQ.lt).trans (hQ.cell 3)⟩
  have C1 : Hid (∀ x, Below z.heap.size z x → Calls Try.prog 23 #[.agg #[.slice a l.length cap, .int .i64 s, .int .i64 e, .string n], .slice b by'.length capb] x fun r w' => (∃ M c, r = .returned (.slice (some ⟨M, 0, none⟩) (projB l by').length c) ∧ Own x w' M (projB l by')) ∧ Below x.heap.size x w') := fun x hx => implKey_any a b cap capb l s e n by' x (HR.out.1.below (grow_on HB.out hx)) (HR.out.2.2.1.below (grow_on HB.out hx)) HR.out.2.2.2.1 HR.out.2.2.2.2.2
  have C2 : Hid (∀ x, Below z.heap.size z x → Calls Try.prog 23 #[.agg #[.slice a' l'.length cap', .int .i64 s', .int .i64 e', .string n'], .slice b by'.length capb] x fun r w' => (∃ M c, r = .returned (.slice (some ⟨M, 0, none⟩) (projB l' by').length c) ∧ Own x w' M (projB l' by')) ∧ Below x.heap.size x w') := fun x hx => implKey_any a' b cap' capb l' s' e' n' by' x (HR.out.2.1.below (grow_on HB.out hx)) (HR.out.2.2.1.below (grow_on HB.out hx)) HR.out.2.2.2.2.1 HR.out.2.2.2.2.2
  go_region_held3 (fun w' => Below z.heap.size z w' ∧ w'.cell? ⟨w.heap.size, 0, none⟩ = some (.slice a l.length cap) ∧ w'.cell? ⟨w.heap.size, 1, none⟩ = some (.int .i64 s) ∧ w'.cell? ⟨w.heap.size, 2, none⟩ = some (.int .i64 e) ∧ w'.cell? ⟨w.heap.size, 3, none⟩ = some (.string n) ∧ w'.cell? ⟨w.heap.size + 1, 0, none⟩ = some (.slice a' l'.length cap') ∧ w'.cell? ⟨w.heap.size + 1, 1, none⟩ = some (.int .i64 s') ∧ w'.cell? ⟨w.heap.size + 1, 2, none⟩ = some (.int .i64 e') ∧ w'.cell? ⟨w.heap.size + 1, 3, none⟩ = some (.string n')) (first | with_reducible exact HS.out _ kz | with_reducible exact HS.out _ hz1 | with_reducible exact HS.out _ hz2 | with_reducible exact HS.out _ hz3 | (go_keep; done)) (first
    | (go_at_call 19; (refine (calls_drew (implSame_any _ _ _ _ (projB l by') (projB l' by') _ ((own_reads ho1).below hy2) (own_reads ho2) HM.out.1 HM.out.2)).mono ?_); rintro r wy3 ⟨rfl, hy3⟩; (have hz3 : Below z.heap.size z wy3 := grow_on hz2 hy3))
    | (go_at_call 23; (with_reducible refine (C2.out _ hz1).mono ?_); rintro r wy2 ⟨⟨M2, c2, rfl, ho2⟩, hy2⟩; (have hz2 : Below z.heap.size z wy2 := grow_on hz1 hy2))
    | (go_at_call 23; (with_reducible refine (C1.out _ kz).mono ?_); rintro r wy1 ⟨⟨M1, c1, rfl, ho1⟩, hy1⟩; (have hz1 : Below z.heap.size z wy1 := grow_on kz hy1)))
  have H3 : Hid (Below w.heap.size w wy3) := grow_on HB.out hz3
  clear hz1 hz2 hz3 hy1 hy2 hy3 ho1 ho2 kz hP hQ
  go_wp2
  go_ret
  exact ⟨rfl, H3.out⟩
end Go.Proofs.Ytmachabgnbpeaaa.Tog
