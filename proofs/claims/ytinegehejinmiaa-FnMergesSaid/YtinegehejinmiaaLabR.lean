/-
  PROVED: impl.SortSet, through the library's stable sort, answers what the plain lists say, in memory of its own; nothing that was there is changed.
-/
import Derived.Test.YtinegehejinmiaaLabQ
import Derived.Test.YtinegehejinmiaaCopyK
namespace Go.Proofs.Ytinegehejinmiaa.LabR
open Go.RowKit
open Go.Proofs.Ytinegehejinmiaa.Labs Go.Proofs.Ytinegehejinmiaa.LabS Go.Proofs.Ytinegehejinmiaa.LabP Go.Proofs.Ytinegehejinmiaa.LabQ Go.Proofs.Ytinegehejinmiaa.Over Go.Proofs.Ytinegehejinmiaa.Blk Go.Proofs.Ytinegehejinmiaa.CopyK
open Go.Proofs.Ytinegehejinmiaa.StrB (lessB retB)
open Go.Proofs.Ytinegehejinmiaa.LabO (setB set_long implSet_any Fits)
open Go.Proofs.Ytinegehejinmiaa.LabT (Held held_reads infoL)
set_option linter.unusedVariables false

/-- the cells of a row of labels -/
def flat : List Lab → List Value
  | [] => []
  | x :: l => .string x.1 :: .string x.2 :: flat l
theorem flat_len : ∀ l : List Lab, (flat l).length = l.length * 2
  | [] => rfl
  | x :: l => by rw [flat, List.length_cons, List.length_cons, flat_len l, List.length_cons]; omega
theorem flat_get : ∀ (l : List Lab) (m : Nat), m < l.length → (flat l)[m * 2]? = some (.string (nth l m).1) ∧ (flat l)[m * 2 + 1]? = some (.string (nth l m).2)
  | [], m, h => by simp at h
  | x :: l, 0, _ => ⟨rfl, rfl⟩
  | x :: l, m + 1, h => by
    have := flat_get l m (by simpa using h)
    have e : (m + 1) * 2 = m * 2 + 2 := by omega
    rw [e]
    exact this
theorem flat_one : ∀ (l : List Lab), ∀ v ∈ flat l, v.oneCell' = true
  | [], v, h => by simp [flat] at h
  | x :: l, v, h => by
    simp only [flat, List.mem_cons] at h
    rcases h with rfl | rfl | h
    · rfl
    · rfl
    · exact flat_one l v h
theorem flat_held (l : List Lab) : HeldF (flat l).toArray (nth l) l.length := fun m hm => by
  have := flat_get l m hm
  simpa using this
theorem flat_src {w : World} {b off : Nat} {l : List Lab} (h : ∀ i, i < l.length → w.cell? ⟨b, off + i * 2, none⟩ = some (.string (nth l i).1) ∧ w.cell? ⟨b, off + i * 2 + 1, none⟩ = some (.string (nth l i).2)) :
    ∀ j v, (flat l)[j]? = some v → w.cell? ((⟨b, off, none⟩ : Addr).add j) = some v := fun j v hj => by
  have ea : (⟨b, off, none⟩ : Addr).add j = ⟨b, off + j, none⟩ := by by_cases h : j = 0 <;> simp [Addr.add, h]
  rw [ea]
  have hlt : j < l.length * 2 := by
    rw [← flat_len]
    exact (List.getElem?_eq_some_iff.1 hj).1
  rcases Nat.mod_two_eq_zero_or_one j with e | e
  · obtain ⟨m, rfl⟩ : ∃ m, j = m * 2 := ⟨j / 2, by omega⟩
    rw [(flat_get l m (by omega)).1] at hj
    rw [← hj]; exact (h m (by omega)).1
  · obtain ⟨m, rfl⟩ : ∃ m, j = m * 2 + 1 := ⟨j / 2, by omega⟩
    rw [(flat_get l m (by omega)).2] at hj
    rw [← hj, ← Nat.add_assoc]; exact (h m (by omega)).2
theorem reads_src {w : World} {a : Option Addr} {l : List Lab} (h : Reads w a l) : l.length = 0 ∨ ∃ ad, a = some ad ∧ ∀ j v, (flat l)[j]? = some v → w.cell? (ad.add j) = some v := by
  rcases h with rfl | ⟨b, off, rfl, _, hc⟩
  · exact .inl rfl
  · exact .inr ⟨_, rfl, flat_src hc⟩

theorem nth_upto (l : List Lab) : ∀ k m, m < k → ∃ i, i < k ∧ nth (upto l k) m = nth l i
  | 0, m, h => by omega
  | k + 1, m, h => by
    have hp := pos_le (nth l k) (upto l k) (upto l k).length
    rw [upto_length] at hp
    rw [upto, ins, upto_length]
    by_cases h1 : m < pos (nth l k) (upto l k) k
    · obtain ⟨i, hi, e⟩ := nth_upto l k m (by omega)
      exact ⟨i, by omega, by rw [nth_mid_lt h1 (by rw [upto_length]; exact hp), e]⟩
    · by_cases h2 : m = pos (nth l k) (upto l k) k
      · exact ⟨k, by omega, by rw [h2, nth_mid_eq (by rw [upto_length]; exact hp)]⟩
      · obtain ⟨i, hi, e⟩ := nth_upto l k (m - 1) (by omega)
        exact ⟨i, by omega, by rw [nth_mid_gt (by omega) (by rw [upto_length]; exact hp), e]⟩
theorem fits_upto {l : List Lab} (h : Fits l) : Fits (upto l l.length) := fun m hm => by
  rw [upto_length] at hm
  obtain ⟨i, hi, e⟩ := nth_upto l l.length m hm
  rw [e]; exact h i hi

theorem stableFunc_any (M b0 cap : Nat) (l : List Lab) (cs : Array Value) (w : World) (hB : Blk w M cs 29) (hs : cs.size = l.length * 2) (hh : HeldF cs (nth l) l.length) (hl : l.length ≤ 19)
    (hc : w.cell? ⟨b0, 0, none⟩ = some (.func (.func 63) #[] #[])) (hb0 : b0 < M) :
    Calls Try.prog 93 #[.slice (some ⟨M, 0, none⟩) l.length cap, .func (.func 94) #[] #[.pointer (some ⟨b0, 0, none⟩)]] w
      fun e w' => e = .returned (.tuple #[]) ∧ Below M w w' ∧ ∃ cs' : Array Value, Blk w' M cs' 29 ∧ cs'.size = l.length * 2 ∧ HeldF cs' (nth (upto l l.length)) l.length := by
  have H : Hid (Calls Try.prog 108 #[.slice (some ⟨M, 0, none⟩) l.length cap, .int .i64 l.length, .func (.func 94) #[] #[.pointer (some ⟨b0, 0, none⟩)]] w
      fun e w' => e = .returned (.tuple #[]) ∧ Below M w w' ∧ ∃ cs' : Array Value, Blk w' M cs' 29 ∧ cs'.size = l.length * 2 ∧ HeldF cs' (nth (upto l l.length)) l.length) := stable_any M b0 cap l cs w hB hs hh hl hc hb0
  clear hB hs hh hc
  go_enter Try.func93, Try.ntmps93
  go_wp2_with fail
  refine H.out.mono ?_
  rintro e w1 ⟨rfl, hE⟩
  have HE : Hid (Below M w w1 ∧ ∃ cs' : Array Value, Blk w1 M cs' 29 ∧ cs'.size = l.length * 2 ∧ HeldF cs' (nth (upto l l.length)) l.length) := hE
  clear hE H
  go_wp2
  go_end0
  exact ⟨rfl, HE.out⟩

theorem infoK : (Try.prog.info? 29).map (·.size) = some 2 := by kernel_rfl
set_option maxHeartbeats 800000 in
theorem copied_any (a : Option Addr) (cap : Nat) (l : List Lab) (w : World) (M : Nat) (hM : M = w.heap.size) (hr : Reads w a l) (hl : l.length ≤ 1048576) :
    Calls Try.prog 92 #[.slice a l.length cap] w
      fun e w' => e = .returned (.slice (some ⟨M, 0, none⟩) l.length l.length) ∧ Below M w w' ∧ Blk w' M (flat l).toArray 29 := by
  subst hM
  have HR : Hid (Reads w a l) := hr
  clear hr
  have hmk := make_k (P := Try.prog) 24 29 (.agg #[.string ByteArray.empty, .string ByteArray.empty]) 2 32 Try.underlying24 infoL .i64 .i64 l.length (by omega) (by omega)
  go_enter Try.func92, Try.ntmps92
  go_wp2_with (refine wpList_copy_k (by rfl) _ _ 24 24 (by rfl) 29 2 Try.underlying24 infoK w.heap.size l.length l.length cap a (by rfl) (by rfl) (madeCells #[.string ByteArray.empty, .string ByteArray.empty] (l.length * 2)) 29 ?c1 ?c2 (flat l) (flat_len l) ?c3 (flat_one l) w.heap.size _ (Below.refl _ _) (Nat.le_refl _) ?_)
  case c1 => exact Blk.new_at rfl
  case c2 => simp [size_madeCells]
  case c3 =>
    rcases reads_src HR.out with h | ⟨ad, rfl, h⟩
    · exact .inl h
    · rcases HR.out with hn | ⟨b, off, e, hlt, hc⟩
      · exact .inl (by rw [hn]; rfl)
      · refine .inr ⟨ad, rfl, fun j v hj => ?_⟩
        have := h j v hj
        have hb : (ad.add j).block < w.heap.size := by cases e; by_cases h : j = 0 <;> simp [Addr.add, h, hlt]
        rw [World.cell?_alloc_lt _ _ _ hb]
        exact this
  intro w2 hB2 hb2
  have HB2 : Hid (Blk w2 w.heap.size (flat l).toArray 29) := hB2
  have HW2 : Hid (Below w.heap.size w w2) := ((Below.refl _ _).alloc (Nat.le_refl _) _).trans hb2
  clear hB2 hb2 hmk
  go_wp2
  go_ret
  exact ⟨rfl, HW2.out, HB2.out⟩
set_option maxHeartbeats 800000 in
theorem sorted_any (a : Option Addr) (cap : Nat) (l : List Lab) (w : World) (hr : Reads w a l) (hl : l.length ≤ 19) :
    Calls Try.prog 62 #[.slice a l.length cap, .func (.func 63) #[] #[]] w
      fun e w' => e = .returned (.slice (some ⟨w.heap.size + 1, 0, none⟩) l.length l.length) ∧ Below w.heap.size w w' ∧ ∃ cs' : Array Value, Blk w' (w.heap.size + 1) cs' 29 ∧ cs'.size = l.length * 2 ∧ HeldF cs' (nth (upto l l.length)) l.length := by
  have HR : Hid (Reads w a l) := hr
  clear hr
  go_enter Try.func62, Try.ntmps62
  go_wp2_with fail
  refine (copied_any a cap l _ (w.heap.size + 1) (by simp) (HR.out.below ((Below.refl _ _).alloc (Nat.le_refl _) _)) (by omega)).mono ?_
  rintro e w2 ⟨rfl, hb2, hB2⟩
  have HB2 : Hid (Blk w2 (w.heap.size + 1) (flat l).toArray 29) := hB2
  have hw2 : Below w.heap.size w w2 := ((Below.refl _ _).alloc (Nat.le_refl _) _).trans (hb2.mono (by simp))
  have hc2 : w2.cell? ⟨w.heap.size, 0, none⟩ = some (.func (.func 63) #[] #[]) := by
    rw [hb2.cell (by simp)]; simp
  have HS : Hid (Calls Try.prog 93 #[.slice (some ⟨w.heap.size + 1, 0, none⟩) l.length l.length, .func (.func 94) #[] #[.pointer (some ⟨w.heap.size, 0, none⟩)]] w2
      fun e w' => e = .returned (.tuple #[]) ∧ Below (w.heap.size + 1) w2 w' ∧ ∃ cs' : Array Value, Blk w' (w.heap.size + 1) cs' 29 ∧ cs'.size = l.length * 2 ∧ HeldF cs' (nth (upto l l.length)) l.length) :=
    stableFunc_any (w.heap.size + 1) w.heap.size l.length l (flat l).toArray w2 hB2 (by simp [flat_len]) (flat_held l) hl hc2 (by omega)
  have HW2 : Hid (Below w.heap.size w w2) := hw2
  clear hB2 hb2 hw2 hc2
  go_wp2_with fail
  refine HS.out.mono ?_
  rintro e w3 ⟨rfl, hb3, hE⟩
  have HE : Hid (∃ cs' : Array Value, Blk w3 (w.heap.size + 1) cs' 29 ∧ cs'.size = l.length * 2 ∧ HeldF cs' (nth (upto l l.length)) l.length) := hE
  have HW3 : Hid (Below w.heap.size w w3) := HW2.out.trans (hb3.mono (by omega))
  clear hb3 hE HS
  go_wp2
  go_ret
  exact ⟨rfl, HW3.out, HE.out⟩

theorem reads_held {w : World} {M : Nat} {cs : Array Value} {T : TypeId} {l : List Lab} (h : Blk w M cs T) (hh : HeldF cs (nth l) l.length) : Reads w (some ⟨M, 0, none⟩) l := held_reads h hh
theorem retSB {M c : Nat} {n : Nat} {p q : List Lab × Bool} (h : p = q) (hn : q.1.length = n) : Ending.returned (.tuple #[.slice (some ⟨M, 0, none⟩) n c, .bool q.2]) = .returned (.tuple #[.slice (some ⟨M, 0, none⟩) p.1.length c, .bool p.2]) := by rw [h, hn]
/-- what SortSet's answer lies in: a block of its own -/
def Own (w w' : World) (M : Nat) (s : List Lab) : Prop := w.heap.size ≤ M ∧ ∃ cs : Array Value, Blk w' M cs 29 ∧ s.length * 2 ≤ cs.size ∧ Held cs s s.length
theorem own_none (w : World) (T : TypeId) {w1 : World} (hT : T = 29) (h : w.heap.size ≤ w1.heap.size) : Own w (w1.alloc (.cells #[] T)) w1.heap.size [] := by
  subst hT
  exact ⟨h, #[], Blk.new _ _ _, by simp, fun j hj => by simp at hj⟩

set_option maxHeartbeats 800000 in
theorem implSort_any (a : Option Addr) (cap : Nat) (l : List Lab) (w : World) (hr : Reads w a l) (hl : l.length ≤ maxLen) (hf : Fits l) :
    Calls Try.prog 10 #[.slice a l.length cap] w fun e w' => (∃ M c, e = .returned (.tuple #[.slice (some ⟨M, 0, none⟩) (sortB l).1.length c, .bool (sortB l).2]) ∧ Own w w' M (sortB l).1) ∧ Below w.heap.size w w' := by
  unfold maxLen at hl
  have HR : Hid (Reads w a l) := hr
  have HF : Hid (Fits l) := hf
  clear hr hf
  by_cases h4 : 4 < l.length
  · have h4' : (4 : Int) < (l.length : Int) := by omega
    have HN : Hid (sortB l = ([], false)) := sort_long h4
    go_enter Try.func10, Try.ntmps10
    go_wp2
    go_ret2
    exact ⟨⟨w.heap.size, 0, retSB HN.out rfl, by rw [HN.out]; exact own_none w _ rfl (Nat.le_refl _)⟩, (Below.refl _ _).alloc (Nat.le_refl _) _⟩
  · have h4' : ¬ (4 : Int) < (l.length : Int) := by omega
    go_enter Try.func10, Try.ntmps10
    go_wp2_with fail
    refine (sorted_any a cap l w HR.out (by omega)).mono ?_
    rintro e w1 ⟨rfl, hb1, cs, hB, hs, hh⟩
    have HW1 : Hid (Below w.heap.size w w1) := hb1
    have HB1 : Hid (Blk w1 (w.heap.size + 1) cs 29) := hB
    have hh' : HeldF cs (nth (upto l l.length)) (upto l l.length).length := by rw [upto_length]; exact hh
    have HH : Hid (HeldF cs (nth (upto l l.length)) (upto l l.length).length) := hh'
    have HS : Hid (cs.size = l.length * 2) := hs
    have hset := implSet_any (some ⟨w.heap.size + 1, 0, none⟩) l.length (upto l l.length) w1 (reads_held hB hh') (by rw [upto_length]; unfold maxLen; omega) (fits_upto HF.out)
    rw [upto_length] at hset
    have HC : Hid (Calls Try.prog 19 #[.slice (some ⟨w.heap.size + 1, 0, none⟩) l.length l.length] w1 fun e w' => e = .returned (.bool (setB (upto l l.length))) ∧ Below w1.heap.size w1 w') := hset
    clear hb1 hB hh hh' hs hset
    go_wp2_with fail
    refine HC.out.mono ?_
    rintro e w2 ⟨rfl, hb2⟩
    have HW2 : Hid (Below w.heap.size w w2) := grow_on HW1.out hb2
    have HB2 : Hid (Blk w2 (w.heap.size + 1) cs 29) := HB1.out.grow hb2
    clear hb2 HC
    cases hq : setB (upto l l.length) with
    | true =>
      have HY : Hid (sortB l = (upto l l.length, true)) := sort_yes h4 hq
      go_wp2
      go_ret2
      exact ⟨⟨w.heap.size + 1, l.length, retSB HY.out (upto_length l l.length), by rw [HY.out]; exact ⟨by omega, cs, HB2.out, by rw [upto_length, HS.out]; omega, HH.out⟩⟩, HW2.out⟩
    | false =>
      have HN : Hid (sortB l = ([], false)) := sort_no h4 hq
      go_wp2
      go_ret2
      exact ⟨⟨w2.heap.size, 0, retSB HN.out rfl, by rw [HN.out]; exact own_none w _ rfl HW2.out.size⟩, HW2.out.alloc HW2.out.size _⟩
end Go.Proofs.Ytinegehejinmiaa.LabR
