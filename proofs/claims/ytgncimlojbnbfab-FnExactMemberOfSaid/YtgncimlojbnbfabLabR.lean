/-
  PROVED: impl.SortSet, through the library's stable sort, answers what the plain lists say, in memory of its own; nothing that was there is changed.
-/
import Derived.Test.YtgncimlojbnbfabLabQ
import Derived.Test.YtgncimlojbnbfabCopyK
namespace Go.Proofs.Ytgncimlojbnbfab.LabR
open Go.RowKit
open Go.Proofs.Ytgncimlojbnbfab.Labs Go.Proofs.Ytgncimlojbnbfab.LabS Go.Proofs.Ytgncimlojbnbfab.LabP Go.Proofs.Ytgncimlojbnbfab.LabQ Go.Proofs.Ytgncimlojbnbfab.Over Go.Proofs.Ytgncimlojbnbfab.Blk Go.Proofs.Ytgncimlojbnbfab.CopyK
open Go.Proofs.Ytgncimlojbnbfab.StrB (lessB retB)
open Go.Proofs.Ytgncimlojbnbfab.LabO (setB set_long Fits)
open Go.Proofs.Ytgncimlojbnbfab.LabT (Held held_reads infoL)
set_option linter.unusedVariables false

/-- the cells of a row of labels -/
def flat : List Lab → List Value
  | [] => []
  | x :: l => .string x.1 :: .string x.2 :: flat l
theorem flat_len : ∀ l : List Lab, (flat l).length = l.length * 2
  | [] => rfl
  | x :: l => by rw [flat, List.length_cons, List.length_cons, flat_len l, List.length_cons]; omega
theorem flat_get : ∀ (l : List Lab) (m : Nat), m < l.length → (flat l)[m * 2]? = some (.string (nth l m).1) ∧ (flat l)[m * 2 + 1]? = some (.string (nth l m).2)
  | [], m, h => by simp at h
  | x :: l, 0, _ => ⟨rfl, rfl⟩
  | x :: l, m + 1, h => by
    have := flat_get l m (by simpa using h)
    have e : (m + 1) * 2 = m * 2 + 2 := by omega
    rw [e]
    exact this
theorem flat_one : ∀ (l : List Lab), ∀ v ∈ flat l, v.oneCell' = true
  | [], v, h => by simp [flat] at h
  | x :: l, v, h => by
    simp only [flat, List.mem_cons] at h
    rcases h with rfl | rfl | h
    · rfl
    · rfl
    · exact flat_one l v h
theorem flat_held (l : List Lab) : HeldF (flat l).toArray (nth l) l.length := fun m hm => by
  have := flat_get l m hm
  simpa using this
theorem flat_src {w : World} {b off : Nat} {l : List Lab} (h : ∀ i, i < l.length → w.cell? ⟨b, off + i * 2, none⟩ = some (.string (nth l i).1) ∧ w.cell? ⟨b, off + i * 2 + 1, none⟩ = some (.string (nth l i).2)) :
    ∀ j v, (flat l)[j]? = some v → w.cell? ((⟨b, off, none⟩ : Addr).add j) = some v := fun j v hj => by
  have ea : (⟨b, off, none⟩ : Addr).add j = ⟨b, off + j, none⟩ := by by_cases h : j = 0 <;> simp [Addr.add, h]
  rw [ea]
  have hlt : j < l.length * 2 := by
    rw [← flat_len]
    exact (List.getElem?_eq_some_iff.1 hj).1
  rcases Nat.mod_two_eq_zero_or_one j with e | e
  · obtain ⟨m, rfl⟩ : ∃ m, j = m * 2 := ⟨j / 2, by omega⟩
    rw [(flat_get l m (by omega)).1] at hj
    rw [← hj]; exact (h m (by omega)).1
  · obtain ⟨m, rfl⟩ : ∃ m, j = m * 2 + 1 := ⟨j / 2, by omega⟩
    rw [(flat_get l m (by omega)).2] at hj
    rw [← hj, ← Nat.add_assoc]; exact (h m (by omega)).2
theorem reads_src {w : World} {a : Option Addr} {l : List Lab} (h : Reads w a l) : l.length = 0 ∨ ∃ ad, a = some ad ∧ ∀ j v, (flat l)[j]? = some v → w.cell? (ad.add j) = some v := by
  rcases h with rfl | ⟨b, off, rfl, _, hc⟩
  · exact .inl rfl
  · exact .inr ⟨_, rfl, flat_src hc⟩

theorem nth_upto (l : List Lab) : ∀ k m, m < k → ∃ i, i < k ∧ nth (upto l k) m = nth l i
  | 0, m, h => by omega
  | k + 1, m, h => by
    have hp := pos_le (nth l k) (upto l k) (upto l k).length
    rw [upto_length] at hp
    rw [upto, ins, upto_length]
    by_cases h1 : m < pos (nth l k) (upto l k) k
    · obtain ⟨i, hi, e⟩ := nth_upto l k m (by omega)
      exact ⟨i, by omega, by rw [nth_mid_lt h1 (by rw [upto_length]; exact hp), e]⟩
    · by_cases h2 : m = pos (nth l k) (upto l k) k
      · exact ⟨k, by omega, by rw [h2, nth_mid_eq (by rw [upto_length]; exact hp)]⟩
      · obtain ⟨i, hi, e⟩ := nth_upto l k (m - 1) (by omega)
        exact ⟨i, by omega, by rw [nth_mid_gt (by omega) (by rw [upto_length]; exact hp), e]⟩
theorem fits_upto {l : List Lab} (h : Fits l) : Fits (upto l l.length) := fun m hm => by
  rw [upto_length] at hm
  obtain ⟨i, hi, e⟩ := nth_upto l l.length m hm
  rw [e]; exact h i hi

theorem infoK : (Try.prog.info? 47).map (·.size) = some 2 := by kernel_rfl
theorem reads_held {w : World} {M : Nat} {cs : Array Value} {T : TypeId} {l : List Lab} (h : Blk w M cs T) (hh : HeldF cs (nth l) l.length) : Reads w (some ⟨M, 0, none⟩) l := held_reads h hh
theorem retSB {M c : Nat} {n : Nat} {p q : List Lab × Bool} (h : p = q) (hn : q.1.length = n) : Ending.returned (.tuple #[.slice (some ⟨M, 0, none⟩) n c, .bool q.2]) = .returned (.tuple #[.slice (some ⟨M, 0, none⟩) p.1.length c, .bool p.2]) := by rw [h, hn]
/-- what SortSet's answer lies in: a block of its own -/
def Own (w w' : World) (M : Nat) (s : List Lab) : Prop := w.heap.size ≤ M ∧ ∃ cs : Array Value, Blk w' M cs 47 ∧ s.length * 2 ≤ cs.size ∧ Held cs s s.length
theorem own_none (w : World) (T : TypeId) {w1 : World} (hT : T = 47) (h : w.heap.size ≤ w1.heap.size) : Own w (w1.alloc (.cells #[] T)) w1.heap.size [] := by
  subst hT
  exact ⟨h, #[], Blk.new _ _ _, by simp, fun j hj => by simp at hj⟩

end Go.Proofs.Ytgncimlojbnbfab.LabR
