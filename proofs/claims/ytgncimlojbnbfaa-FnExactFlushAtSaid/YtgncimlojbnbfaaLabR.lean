/-
  PROVED: impl.SortSet, through the library's stable sort, answers what the plain lists say, in memory of its own; nothing that was there is changed.
-/
import Derived.Test.YtgncimlojbnbfaaLabQ
import Derived.Test.YtgncimlojbnbfaaCopyK
namespace Go.Proofs.Ytgncimlojbnbfaa.LabR
open Go.RowKit
open Go.Proofs.Ytgncimlojbnbfaa.Labs Go.Proofs.Ytgncimlojbnbfaa.LabS Go.Proofs.Ytgncimlojbnbfaa.LabP Go.Proofs.Ytgncimlojbnbfaa.LabQ Go.Proofs.Ytgncimlojbnbfaa.Over Go.Proofs.Ytgncimlojbnbfaa.Blk Go.Proofs.Ytgncimlojbnbfaa.CopyK
open Go.Proofs.Ytgncimlojbnbfaa.StrB (lessB retB)
open Go.Proofs.Ytgncimlojbnbfaa.LabO (setB set_long Fits)
open Go.Proofs.Ytgncimlojbnbfaa.LabT (Held held_reads infoL)
set_option linter.unusedVariables false

/-- the cells of a row of labels -/
def flat : List Lab → List Value
  | [] => []
  | x :: l => .string x.1 :: .string x.2 :: flat l
theorem flat_len : ∀ l : List Lab, (flat l).length = l.length * 2
  | [] => rfl
  | x :: l => by rw [flat, List.length_cons, List.length_cons, flat_len l, List.length_cons]; omega
theorem flat_get : ∀ (l : List Lab) (m : Nat), m < l.length → (flat l)[m * 2]? = some (.string (nth l m).1) ∧ (flat l)[m * 2 + 1]? = some (.string (nth l m).2)
  | [], m, h => by simp at h
  | x :: l, 0, _ => ⟨rfl, rfl⟩
  | x :: l, m + 1, h => by
    have := flat_get l m (by simpa using h)
    have e : (m + 1) * 2 = m * 2 + 2 := by omega
    rw [e]
    exact this
theorem flat_one : ∀ (l : List Lab), ∀ v ∈ flat l, v.oneCell' = true
  | [], v, h => by simp [flat] at h
  | x :: l, v, h => by
    simp only [flat, List.mem_cons] at h
    rcases h with rfl | rfl | h
    · rfl
    · rfl
    · exact flat_one l v h
theorem flat_held (l : List Lab) : HeldF (flat l).toArray (nth l) l.length := fun m hm => by
  have := flat_get l m hm
  simpa using this
theorem flat_src {w : World} {b off : Nat} {l : List Lab} (h : ∀ i, i < l.length → w.cell? ⟨b, off + i * 2, none⟩ = some (.string (nth l i).1) ∧ w.cell? ⟨b, off + i * 2 + 1, none⟩ = some (.string (nth l i).2)) :
    ∀ j v, (flat l)[j]? = some v → w.cell? ((⟨b, off, none⟩ : Addr).add j) = some v := fun j v hj => by
  have ea : (⟨b, off, none⟩ : Addr).add j = ⟨b, off + j, none⟩ := by by_cases h : j = 0 <;> simp [Addr.add, h]
  rw [ea]
  have hlt : j < l.length * 2 := by
    rw [← flat_len]
    exact (List.getElem?_eq_some_iff.1 hj).1
  rcases Nat.mod_two_eq_zero_or_one j with e | e
  · obtain ⟨m, rfl⟩ : ∃ m, j = m * 2 := ⟨j / 2, by omega⟩
    rw [(flat_get l m (by omega)).1] at hj
    rw [← hj]; exact (h m (by omega)).1
  · obtain ⟨m, rfl⟩ : ∃ m, j = m * 2 + 1 := ⟨j / 2, by omega⟩
    rw [(flat_get l m (by omega)).2] at hj
    rw [← hj, ← Nat.add_assoc]; exact (h m (by omega)).2
theorem reads_src {w : World} {a : Option Addr} {l : List Lab} (h : Reads w a l) : l.length = 0 ∨ ∃ ad, a = some ad ∧ ∀ j v, (flat l)[j]? = some v → w.cell? (ad.add j) = some v := by
  rcases h with rfl | ⟨b, off, rfl, _, hc⟩
  · exact .inl rfl
  · exact .inr ⟨_, rfl, flat_src hc⟩

theorem nth_upto (l : List Lab) : ∀ k m, m < k → ∃ i, i < k ∧ nth (upto l k) m = nth l i
  | 0, m, h => by omega
  | k + 1, m, h => by
    have hp := pos_le (nth l k) (upto l k) (upto l k).length
    rw [upto_length] at hp
    rw [upto, ins, upto_length]
    by_cases h1 : m < pos (nth l k) (upto l k) k
    · obtain ⟨i, hi, e⟩ := nth_upto l k m (by omega)
      exact ⟨i, by omega, by rw [nth_mid_lt h1 (by rw [upto_length]; exact hp), e]⟩
    · by_cases h2 : m = pos (nth l k) (upto l k) k
      · exact ⟨k, by omega, by rw [h2, nth_mid_eq (by rw [upto_length]; exact hp)]⟩
      · obtain ⟨i, hi, e⟩ := nth_upto l k (m - 1) (by omega)
        exact ⟨i, by omega, by rw [nth_mid_gt (by omega) (by rw [upto_length]; exact hp), e]⟩
theorem fits_upto {l : List Lab} (h : Fits l) : Fits (upto l l.length) := fun m hm => by
  rw [upto_length] at hm
  obtain ⟨i, hi, e⟩ := nth_upto l l.length m hm
  rw [e]; exact h i hi

theorem infoK : (Try.prog.info? 73).map (·.size) = some 2 := by kernel_rfl
set_option maxHeartbeats 800000 in
theorem copied_any (a : Option Addr) (cap : Nat) (l : List Lab) (w : World) (M : Nat) (hM : M = w.heap.size) (hr : Reads w a l) (hl : l.length ≤ 1048576) :
    Calls Try.prog 89 #[.slice a l.length cap] w
      fun e w' => e = .returned (.slice (some ⟨M, 0, none⟩) l.length l.length) ∧ Below M w w' ∧ Blk w' M (flat l).toArray 73 := by
  subst hM
  have HR : Hid (Reads w a l) := hr
  clear hr
  have hmk := make_k (P := Try.prog) 36 73 (.agg #[.string ByteArray.empty, .string ByteArray.empty]) 2 32 Try.underlying36 infoL .i64 .i64 l.length (by omega) (by omega)
  go_enter Try.func89, Try.ntmps89
  go_wp2_with (refine wpList_copy_k (by rfl) _ _ 36 36 (by rfl) 73 2 Try.underlying36 infoK w.heap.size l.length l.length cap a (by rfl) (by rfl) (madeCells #[.string ByteArray.empty, .string ByteArray.empty] (l.length * 2)) 73 ?c1 ?c2 (flat l) (flat_len l) ?c3 (flat_one l) w.heap.size _ (Below.refl _ _) (Nat.le_refl _) ?_)
  case c1 => exact Blk.new_at rfl
  case c2 => simp [size_madeCells]
  case c3 =>
    rcases reads_src HR.out with h | ⟨ad, rfl, h⟩
    · exact .inl h
    · rcases HR.out with hn | ⟨b, off, e, hlt, hc⟩
      · exact .inl (by rw [hn]; rfl)
      · refine .inr ⟨ad, rfl, fun j v hj => ?_⟩
        have := h j v hj
        have hb : (ad.add j).block < w.heap.size := by cases e; by_cases h : j = 0 <;> simp [Addr.add, h, hlt]
        rw [World.cell?_alloc_lt _ _ _ hb]
        exact this
  intro w2 hB2 hb2
  have HB2 : Hid (Blk w2 w.heap.size (flat l).toArray 73) := hB2
  have HW2 : Hid (Below w.heap.size w w2) := ((Below.refl _ _).alloc (Nat.le_refl _) _).trans hb2
  clear hB2 hb2 hmk
  go_wp2
  go_ret
  exact ⟨rfl, HW2.out, HB2.out⟩
theorem reads_held {w : World} {M : Nat} {cs : Array Value} {T : TypeId} {l : List Lab} (h : Blk w M cs T) (hh : HeldF cs (nth l) l.length) : Reads w (some ⟨M, 0, none⟩) l := held_reads h hh
theorem retSB {M c : Nat} {n : Nat} {p q : List Lab × Bool} (h : p = q) (hn : q.1.length = n) : Ending.returned (.tuple #[.slice (some ⟨M, 0, none⟩) n c, .bool q.2]) = .returned (.tuple #[.slice (some ⟨M, 0, none⟩) p.1.length c, .bool p.2]) := by rw [h, hn]
/-- what SortSet's answer lies in: a block of its own -/
def Own (w w' : World) (M : Nat) (s : List Lab) : Prop := w.heap.size ≤ M ∧ ∃ cs : Array Value, Blk w' M cs 73 ∧ s.length * 2 ≤ cs.size ∧ Held cs s s.length
theorem own_none (w : World) (T : TypeId) {w1 : World} (hT : T = 73) (h : w.heap.size ≤ w1.heap.size) : Own w (w1.alloc (.cells #[] T)) w1.heap.size [] := by
  subst hT
  exact ⟨h, #[], Blk.new _ _ _, by simp, fun j hj => by simp at hj⟩

end Go.Proofs.Ytgncimlojbnbfaa.LabR
