/-
  PROVED: how many alarms and labels a part's chains have where one alarm more was put into them, and that each of them is of its kind.
-/
import Derived.Test.YtooninmicfcfoaaQPrtC
set_option linter.unusedVariables false
namespace Go.Proofs.Ytooninmicfcfoaa.PutS
open Go.RowKit
open Labs LabS Alms AlmM Over Blk App Rws ChnI ChnC ChnP ChnK Chs Prt PrtO PrtF PrtC
open Fing (fingerB)
theorem sumC_set : ∀ (C : List PCh) (k : Nat) (y : PCh), k < C.length → sumC (C.set k y) + ((nthC C k).P.length + sumL (nthC C k).P) = sumC C + (y.P.length + sumL y.P)
  | [], k, y, h => by simp at h
  | x :: C, 0, y, h => by simp [sumC, nthC]; omega
  | x :: C, k + 1, y, h => by
    have ih := sumC_set C k y (by simpa using h)
    have e : nthC (x :: C) (k + 1) = nthC C k := by simp [nthC]
    rw [List.set_cons_succ, sumC, sumC, e]; omega
theorem putC_sum (C : List PCh) (x : PAl) : sumC (putC C x) ≤ sumC C + 1 + x.l.length ∧ (putC C x).length ≤ C.length + 1 := by
  rcases at_cases C (fingerB x.l : Int) with ⟨h0, h1, h2⟩ | ⟨k, h0, h1, hk, h3, h4⟩
  · rw [(put_none h0).1]
    have h := sumC_app (C.take (posB C (fingerB x.l))) (C.drop (posB C (fingerB x.l)))
    rw [List.take_append_drop] at h
    rw [sumC_app, sumC]
    refine ⟨by simp [sumL]; omega, by simp; omega⟩
  · rw [(put_some h0).1]
    have h := sumC_set C k ⟨(nthC C k).f, putL (nthC C k).P x⟩ hk
    have h5 := put_sum (nthC C k).P x
    simp only at h
    exact ⟨by omega, by simp⟩
theorem fitsC_put {C : List PCh} {x : PAl} (h : FitsC C) (hs : Small C) (hx : FitA x) : FitsC (putC C x) := by
  rcases at_cases C (fingerB x.l : Int) with ⟨h0, h1, h2⟩ | ⟨k, h0, h1, hk, h3, h4⟩
  · rw [(put_none h0).1]
    intro y hy
    rcases List.mem_append.1 hy with hy | hy
    · exact h y (List.mem_of_mem_take hy)
    · rcases List.mem_cons.1 hy with hy | hy
      · subst hy
        have := Fing.finger_lt x.l
        exact ⟨by constructor <;> simp <;> omega, by simp [maxLen], fits_of fun z hz => by rw [List.mem_singleton.1 hz]; exact hx⟩
      · exact h y (List.mem_of_mem_drop hy)
  · rw [(put_some h0).1]
    intro y hy
    rcases List.mem_or_eq_of_mem_set hy with hy | hy
    · exact h y hy
    · subst hy
      have hm := h _ (nthC_mem hk)
      have h5 := (put_sum (nthC C k).P x).2
      have h6 := (hs _ (nthC_mem hk)).1
      exact ⟨hm.fb, len_max (by show (putL _ _).length ≤ _; omega), fits_put hm.fits hx⟩
theorem putC_one {C : List PCh} {x : PAl} (hs : Small C) {y : PCh} (hy : y ∈ putC C x) : y.P.length ≤ 1048577 := by
  rcases at_cases C (fingerB x.l : Int) with ⟨h0, h1, h2⟩ | ⟨k, h0, h1, hk, h3, h4⟩
  · rw [(put_none h0).1] at hy
    rcases List.mem_append.1 hy with hy | hy
    · have := (hs y (List.mem_of_mem_take hy)).1; omega
    · rcases List.mem_cons.1 hy with hy | hy
      · subst hy; simp
      · have := (hs y (List.mem_of_mem_drop hy)).1; omega
  · rw [(put_some h0).1] at hy
    rcases List.mem_or_eq_of_mem_set hy with hy | hy
    · have := (hs y hy).1; omega
    · subst hy
      have h5 := (put_sum (nthC C k).P x).2
      have h6 := (hs _ (nthC_mem hk)).1
      show (putL _ _).length ≤ _
      omega
end Go.Proofs.Ytooninmicfcfoaa.PutS
