/-
  What JoinAll's and FlushAt's answers come to: how long they are, and that they fit.
-/
import Derived.Test.YtgncimlojbnbfaaGpJ
import Derived.Test.YtgncimlojbnbfaaGpF
namespace Go.Proofs.Ytgncimlojbnbfaa.GpX
open Go.RowKit
open Go.Proofs.Ytgncimlojbnbfaa.Labs Go.Proofs.Ytgncimlojbnbfaa.LabS Go.Proofs.Ytgncimlojbnbfaa.Alms Go.Proofs.Ytgncimlojbnbfaa.Over Go.Proofs.Ytgncimlojbnbfaa.Rws Go.Proofs.Ytgncimlojbnbfaa.ChnI Go.Proofs.Ytgncimlojbnbfaa.ChnC Go.Proofs.Ytgncimlojbnbfaa.ChnK Go.Proofs.Ytgncimlojbnbfaa.Gps Go.Proofs.Ytgncimlojbnbfaa.GpD Go.Proofs.Ytgncimlojbnbfaa.GpJ Go.Proofs.Ytgncimlojbnbfaa.GpF
open Go.Proofs.Ytgncimlojbnbfaa.GrpJ (joinG join_len posG)
open Go.Proofs.Ytgncimlojbnbfaa.Pro (projB)
open Go.Proofs.Ytgncimlojbnbfaa.LabT (Fits)
set_option linter.unusedVariables false
theorem fits_proj {l : List Lab} {by' : List ByteArray} (h : Fits l) : Fits (projB l by') := fun i hi => by
  have hm : nth (projB l by') i ∈ projB l by' := by
    have e : nth (projB l by') i = (projB l by')[i] := by unfold nth; simp [hi]
    rw [e]; exact List.getElem_mem _
  obtain ⟨j, hj, e⟩ := List.getElem_of_mem (List.mem_filter.1 hm).1
  have h2 := h j hj
  have e2 : nth l j = l[j] := by unfold nth; simp [hj]
  rw [← e, ← e2]; exact h2
theorem sum_set (x : PAl) : ∀ (P : List PAl) (k : Nat), sumL (P.set k x) ≤ sumL P + x.l.length
  | [], k => by simp [sumL]
  | y :: P, 0 => by simp only [List.set_cons_zero, sumL]; omega
  | y :: P, k + 1 => by have := sum_set x P k; simp only [List.set_cons_succ, sumL]; omega
theorem join_sum (P : List PAl) (x : PAl) : (joinG P x).length ≤ P.length + 1 ∧ sumL (joinG P x) ≤ sumL P + x.l.length := by
  refine ⟨join_len P x, ?_⟩
  unfold joinG
  split
  · exact sum_set _ _ _
  · rename_i e
    have h1 := sum_app (P.take (posG P x.l)) (P.drop (posG P x.l))
    rw [List.take_append_drop] at h1
    rw [sum_app]
    simp only [sumL]
    omega
theorem join_fits {P : List PAl} {x : PAl} (hz : FitsP P) (hx : FitA x) : FitsP (joinG P x) := by
  refine fits_of fun y hy => ?_
  unfold joinG at hy
  split at hy
  · rcases List.mem_or_eq_of_mem_set hy with h | h
    · exact fits_mem hz h
    · rw [h]; exact hx
  · rcases List.mem_append.1 hy with h | h
    · exact fits_mem hz (List.mem_of_mem_take h)
    · rcases List.mem_cons.1 h with h | h
      · rw [h]; exact hx
      · exact fits_mem hz (List.mem_of_mem_drop h)
theorem sumG_set (y : PGr) : ∀ (U : List PGr) (k : Nat), k < U.length → sumG (U.set k y) + oneG (nthG U k) = sumG U + oneG y
  | [], k, h => by simp at h
  | z :: U, 0, h => by rw [nthG_eq h]; simp only [List.set_cons_zero, sumG, List.getElem_cons_zero]; omega
  | z :: U, k + 1, h => by
    have ih := sumG_set y U k (by simpa using h)
    have e : nthG (z :: U) (k + 1) = nthG U k := by rw [nthG_eq h, nthG_eq (by simpa using h)]; simp
    rw [e]; simp only [List.set_cons_succ, sumG]; omega
theorem joinA_fits {U : List PGr} {x : PAl} {by' : List ByteArray} {n now : Int} (hz : FitsG U) (hx : FitA x) (hl : ∀ y ∈ U, y.P.length ≤ 1048576) : FitsG (joinAllG U x by' n now) := fun y hy => by
  unfold joinAllG at hy
  split at hy
  · rename_i hk
    rcases List.mem_or_eq_of_mem_set hy with h | h
    · exact hz y h
    · rw [h]
      have hm := nthG_mem hk
      have h1 := hz _ hm
      have h2 := (join_sum (nthG U (posJ U x by')).P x).1
      have h3 := hl _ hm
      exact ⟨h1.klen, h1.kfit, by show (joinG _ x).length ≤ maxLen; unfold maxLen; omega, join_fits h1.fits hx⟩
  · rcases List.mem_append.1 hy with h | h
    · exact hz y h
    · rw [List.mem_singleton.1 h]
      have h1 := Pro.proj_len x.l by'
      exact ⟨Nat.le_trans h1 hx.len, fits_proj hx.fits, by show 1 ≤ maxLen; unfold maxLen; omega, fits_of fun z hz => by rw [List.mem_singleton.1 hz]; exact hx⟩
theorem joinA_sum (U : List PGr) (x : PAl) (by' : List ByteArray) (n now : Int) : (joinAllG U x by' n now).length ≤ U.length + 1 ∧ sumG (joinAllG U x by' n now) ≤ sumG U + 1 + 2 * x.l.length := by
  unfold joinAllG
  split
  · rename_i hk
    have h1 := sumG_set (putG x (nthG U (posJ U x by'))) U _ hk
    have h2 := join_sum (nthG U (posJ U x by')).P x
    have h3 : oneG (putG x (nthG U (posJ U x by'))) = (nthG U (posJ U x by')).key.length + (joinG (nthG U (posJ U x by')).P x).length + sumL (joinG (nthG U (posJ U x by')).P x) := rfl
    have h4 : oneG (nthG U (posJ U x by')) = (nthG U (posJ U x by')).key.length + (nthG U (posJ U x by')).P.length + sumL (nthG U (posJ U x by')).P := rfl
    exact ⟨by simp, by omega⟩
  · have h1 := Pro.proj_len x.l by'
    have h2 : oneG ⟨n, projB x.l by', now, -1, [x]⟩ = (projB x.l by').length + 1 + (x.l.length + 0) := rfl
    refine ⟨by simp, ?_⟩
    rw [sumG_app]
    simp only [sumG]
    omega
theorem joinA_each {U : List PGr} {x : PAl} {by' : List ByteArray} {n now : Int} {m : Nat} (hl : ∀ y ∈ U, y.P.length ≤ m ∧ y.key.length ≤ m) (hx : x.l.length ≤ m) : ∀ y ∈ joinAllG U x by' n now, y.P.length ≤ m + 1 ∧ y.key.length ≤ m := fun y hy => by
  unfold joinAllG at hy
  split at hy
  · rename_i hk
    rcases List.mem_or_eq_of_mem_set hy with h | h
    · exact ⟨Nat.le_succ_of_le (hl y h).1, (hl y h).2⟩
    · rw [h]
      have h2 := (join_sum (nthG U (posJ U x by')).P x).1
      have h3 := hl _ (nthG_mem hk)
      exact ⟨by show (joinG _ x).length ≤ _; omega, h3.2⟩
  · rcases List.mem_append.1 hy with h | h
    · exact ⟨Nat.le_succ_of_le (hl y h).1, (hl y h).2⟩
    · rw [List.mem_singleton.1 h]
      exact ⟨by show 1 ≤ m + 1; omega, Nat.le_trans (Pro.proj_len x.l by') hx⟩
theorem fits_left {P : List PAl} {now : Int} {k : Nat} (h : FitsP P) : FitsP (leftTo P now k) := fits_of fun y hy => fits_mem h (List.mem_of_mem_take (List.mem_filter.1 hy).1)
theorem sum_filter (p : PAl → Bool) : ∀ P : List PAl, sumL (P.filter p) ≤ sumL P
  | [] => Nat.le_refl _
  | x :: P => by have := sum_filter p P; rw [List.filter_cons]; split <;> simp only [sumL] <;> omega
theorem left_sum {P L : List PAl} {now : Int} (h : leftTo P now P.length = L) : L.length ≤ P.length ∧ sumL L ≤ sumL P := by
  subst h
  refine ⟨GrpF.left_le (Nat.le_refl _), ?_⟩
  unfold leftTo
  rw [List.take_length]
  exact sum_filter _ _
theorem left_len (P : List PAl) (now : Int) : (leftTo P now P.length).length ≤ P.length ∧ sumL (leftTo P now P.length) ≤ sumL P := by
  exact left_sum rfl
theorem flushA_fits {U : List PGr} {k : Nat} {now : Int} (hz : FitsG U) (hk : k < U.length) : FitsG (flushG U k now) := fun y hy => by
  unfold flushG at hy
  split at hy
  · rcases List.mem_append.1 hy with h | h
    · exact hz y (List.mem_of_mem_take h)
    · exact hz y (List.mem_of_mem_drop h)
  · rcases List.mem_or_eq_of_mem_set hy with h | h
    · exact hz y h
    · rw [h]
      have h1 := hz _ (nthG_mem hk)
      exact ⟨h1.klen, h1.kfit, Nat.le_trans (left_len _ _).1 h1.len, fits_left h1.fits⟩
theorem flushA_sum (U : List PGr) {k : Nat} (now : Int) (hk : k < U.length) : (flushG U k now).length ≤ U.length ∧ sumG (flushG U k now) ≤ sumG U := by
  unfold flushG
  split
  · have h1 := sumG_app (U.take k) (U.drop k)
    rw [List.take_append_drop] at h1
    have h2 : U.drop k = nthG U k :: U.drop (k + 1) := by rw [nthG_eq hk]; exact List.drop_eq_getElem_cons hk
    rw [h2] at h1
    simp only [sumG] at h1
    refine ⟨by simp; omega, ?_⟩
    rw [sumG_app]
    omega
  · have h1 := sumG_set (sentG now (nthG U k)) U k hk
    have h2 := left_len (nthG U k).P now
    have h3 : oneG (sentG now (nthG U k)) = (nthG U k).key.length + (leftTo (nthG U k).P now (nthG U k).P.length).length + sumL (leftTo (nthG U k).P now (nthG U k).P.length) := rfl
    have h4 : oneG (nthG U k) = (nthG U k).key.length + (nthG U k).P.length + sumL (nthG U k).P := rfl
    exact ⟨by simp, by omega⟩
theorem flushA_each {U : List PGr} {k : Nat} {now : Int} {m : Nat} (hk : k < U.length) (hl : ∀ y ∈ U, y.P.length ≤ m ∧ y.key.length ≤ m) : ∀ y ∈ flushG U k now, y.P.length ≤ m ∧ y.key.length ≤ m := fun y hy => by
  unfold flushG at hy
  split at hy
  · rcases List.mem_append.1 hy with h | h
    · exact hl y (List.mem_of_mem_take h)
    · exact hl y (List.mem_of_mem_drop h)
  · rcases List.mem_or_eq_of_mem_set hy with h | h
    · exact hl y h
    · rw [h]
      have h1 := hl _ (nthG_mem hk)
      exact ⟨Nat.le_trans (left_len _ _).1 h1.1, h1.2⟩
end Go.Proofs.Ytgncimlojbnbfaa.GpX
