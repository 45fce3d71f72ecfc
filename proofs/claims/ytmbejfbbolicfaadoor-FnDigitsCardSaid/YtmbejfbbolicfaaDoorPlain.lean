/-
  PROVED: plain facts on lists of bytes (digits, numbers, letters), with no program in sight; the walks of this seat use them.
-/
import Derived.Laws.RangeAny
namespace Go.Proofs.YtmbejfbbolicfaaDoor.Plain

/-- a byte that is a digit -/
def dig (c : UInt8) : Bool := decide (48 ≤ (c.toNat : Int) ∧ (c.toNat : Int) ≤ 57)
/-- the number that digits write -/
def val : List UInt8 → Int → Int
  | [], n => n
  | c :: l, n => val l (10 * n + ((c.toNat : Int) - 48))
/-- a text that ParseNum reads -/
def good (l : List UInt8) : Bool := decide (l ≠ [] ∧ l.length ≤ 5 ∧ (l.length ≤ 1 ∨ l.head? ≠ some 48) ∧ ∀ c ∈ l, dig c = true)
def ans (l : List UInt8) : Int := if good l = true then val l 0 else 0

theorem dig_iff (c : UInt8) : dig c = true ↔ (48 ≤ (c.toNat : Int) ∧ (c.toNat : Int) ≤ 57) := by simp [dig]

theorem val_snoc (l : List UInt8) (c : UInt8) : ∀ n, val (l ++ [c]) n = 10 * val l n + ((c.toNat : Int) - 48) := by
  induction l with
  | nil => intro n; rfl
  | cons d l ih => intro n; simp only [List.cons_append, val]; exact ih _

/-- from n on, digits make at least n times ten for each, and less than (n + 1) times that -/
theorem val_bd (l : List UInt8) : (∀ c ∈ l, dig c = true) → ∀ n : Int, 0 ≤ n → n * (10 : Int) ^ l.length ≤ val l n ∧ val l n < (n + 1) * (10 : Int) ^ l.length := by
  induction l with
  | nil => intro _ n _; simp [val]; omega
  | cons c l ih =>
    intro h n hn
    have hc := (dig_iff c).1 (h c (by simp))
    have hl := ih (fun x hx => h x (by simp [hx])) (10 * n + ((c.toNat : Int) - 48)) (by omega)
    have hp : (0 : Int) ≤ (10 : Int) ^ l.length := Int.le_of_lt (Int.pow_pos (by decide))
    have e : (10 : Int) ^ (c :: l).length = (10 : Int) ^ l.length * 10 := by rw [List.length_cons, Int.pow_succ]
    rw [e]
    simp only [val]
    refine ⟨Int.le_trans ?_ hl.1, Int.lt_of_lt_of_le hl.2 ?_⟩
    · have : n * ((10 : Int) ^ l.length * 10) = (10 * n) * (10 : Int) ^ l.length := by rw [Int.mul_comm ((10 : Int) ^ l.length) 10, ← Int.mul_assoc, Int.mul_comm n 10]
      rw [this]
      exact Int.mul_le_mul_of_nonneg_right (by omega) hp
    · have : (n + 1) * ((10 : Int) ^ l.length * 10) = (10 * (n + 1)) * (10 : Int) ^ l.length := by rw [Int.mul_comm ((10 : Int) ^ l.length) 10, ← Int.mul_assoc, Int.mul_comm (n + 1) 10]
      rw [this]
      exact Int.mul_le_mul_of_nonneg_right (by omega) hp

theorem take_snoc (s : ByteArray) (k : Nat) (h : k < s.size) : s.data.toList.take (k + 1) = s.data.toList.take k ++ [s[k]] := by
  rw [List.take_succ_eq_append_getElem (by simpa using h)]; rfl

theorem val_take (s : ByteArray) (k : Nat) (h : k < s.size) : val (s.data.toList.take (k + 1)) 0 = 10 * val (s.data.toList.take k) 0 + ((s[k].toNat : Int) - 48) := by
  rw [take_snoc s k h, val_snoc]

/-- the first k bytes are digits -/
def digs (s : ByteArray) (k : Nat) : Prop := ∀ c ∈ s.data.toList.take k, dig c = true
theorem digs_zero (s : ByteArray) : digs s 0 := by simp [digs]
theorem digs_succ (s : ByteArray) (k : Nat) (h : k < s.size) (hd : digs s k) (hc : 48 ≤ (s[k].toNat : Int) ∧ (s[k].toNat : Int) ≤ 57) : digs s (k + 1) := by
  intro c hm
  rw [take_snoc s k h, List.mem_append] at hm
  rcases hm with hm | hm
  · exact hd c hm
  · simp at hm; subst hm; exact (dig_iff _).2 hc

theorem getElem_mem (s : ByteArray) (k : Nat) (h : k < s.size) : s[k] ∈ s.data.toList := by
  have : s[k] = s.data.toList[k]'(by simpa using h) := rfl
  rw [this]; exact List.getElem_mem _

theorem head_eq (s : ByteArray) (h : 0 < s.size) : s.data.toList.head? = some s[0] := by
  have e : s[0] = s.data.toList[0]'(by simpa using h) := rfl
  rw [e, List.head?_eq_getElem?, List.getElem?_eq_getElem]

theorem good_digs {s : ByteArray} (h : good s.data.toList = true) : ∀ c ∈ s.data.toList, dig c = true := by
  simp only [good, decide_eq_true_eq] at h; exact h.2.2.2
theorem good_not_dig (s : ByteArray) (k : Nat) (h : k < s.size) (hc : ¬ (48 ≤ (s[k].toNat : Int) ∧ (s[k].toNat : Int) ≤ 57)) : good s.data.toList = false := by
  cases e : good s.data.toList with
  | false => rfl
  | true => exact absurd ((dig_iff _).1 (good_digs e _ (getElem_mem s k h))) hc
theorem good_empty (s : ByteArray) (h : s.size = 0) : good s.data.toList = false := by
  have : s.data.toList = [] := List.length_eq_zero_iff.1 (by simpa using h)
  simp [good, this]
theorem good_long (s : ByteArray) (h : 5 < s.size) : good s.data.toList = false := by
  have : s.data.toList.length = s.size := by simp
  simp only [good, decide_eq_false_iff_not]
  rintro ⟨_, h2, _⟩; omega
theorem good_nought (s : ByteArray) (h : 1 < s.size) (h0 : (s[0].toNat : Int) = 48) : good s.data.toList = false := by
  have e : s.data.toList.length = s.size := by simp
  have hh := head_eq s (by omega)
  simp only [good, decide_eq_false_iff_not]
  rintro ⟨_, _, h3, _⟩
  rcases h3 with h3 | h3
  · omega
  · rw [hh] at h3
    exact h3 (congrArg some (UInt8.toNat_inj.1 (by show s[0].toNat = 48; omega)))
theorem good_yes (s : ByteArray) (h0 : 0 < s.size) (h5 : s.size ≤ 5) (h1 : s.size ≤ 1 ∨ (s[0].toNat : Int) ≠ 48) (hd : digs s s.size) : good s.data.toList = true := by
  have e : s.data.toList.length = s.size := by simp
  have hh := head_eq s h0
  simp only [good, decide_eq_true_eq]
  refine ⟨fun h => by rw [h] at e; simp at e; omega, by omega, ?_, ?_⟩
  · rcases h1 with h1 | h1
    · left; omega
    · right; rw [hh]; intro h; simp at h; rw [h] at h1; exact h1 rfl
  · have := hd; unfold digs at this; rwa [List.take_of_length_le (by omega)] at this
theorem val_all (s : ByteArray) : val (s.data.toList.take s.size) 0 = val s.data.toList 0 := by
  rw [List.take_of_length_le (by simp)]
theorem ans_no {s : ByteArray} (h : good s.data.toList = false) : ans s.data.toList = 0 := by simp [ans, h]
theorem ans_yes {s : ByteArray} (h : good s.data.toList = true) : ans s.data.toList = val s.data.toList 0 := by simp [ans, h]

/-- k digits make less than ten to the k -/
theorem val_digs (s : ByteArray) (k : Nat) (hk : k ≤ s.size) (hd : digs s k) : 0 ≤ val (s.data.toList.take k) 0 ∧ val (s.data.toList.take k) 0 < (10 : Int) ^ k := by
  have h := val_bd _ hd 0 (by omega)
  have e : (s.data.toList.take k).length = k := by simp; omega
  rw [e] at h
  simpa using h
theorem val_five (s : ByteArray) (k : Nat) (hk : k ≤ s.size) (h5 : s.size ≤ 5) (hd : digs s k) : 0 ≤ val (s.data.toList.take k) 0 ∧ val (s.data.toList.take k) 0 ≤ 99999 := by
  have h1 := val_digs s k hk hd
  have h2 : (10 : Int) ^ k ≤ (10 : Int) ^ 5 := by
    have : k = 0 ∨ k = 1 ∨ k = 2 ∨ k = 3 ∨ k = 4 ∨ k = 5 := by omega
    rcases this with h | h | h | h | h | h <;> rw [h] <;> decide
  have : (10 : Int) ^ 5 = 100000 := by decide
  omega
/-- and, where the first is no nought, at least ten to the k - 1 -/
theorem val_first (s : ByteArray) (k : Nat) (hk : k < s.size) (hd : digs s (k + 1)) (h0 : (s[0].toNat : Int) ≠ 48) : (10 : Int) ^ k ≤ val (s.data.toList.take (k + 1)) 0 := by
  have e : s.data.toList.take (k + 1) = s[0] :: (s.data.toList.drop 1).take k := by
    have : s.data.toList = s[0] :: s.data.toList.drop 1 := by
      have hh := head_eq s (by omega)
      cases hl : s.data.toList with
      | nil => rw [hl] at hh; simp at hh
      | cons a l => rw [hl] at hh; simp at hh; simp [hh]
    rw [this]; simp
  unfold digs at hd
  rw [e] at hd ⊢
  have hc := (dig_iff _).1 (hd s[0] (by simp))
  have h := val_bd ((s.data.toList.drop 1).take k) (fun c hm => hd c (List.mem_cons_of_mem _ hm)) (10 * 0 + ((s[0].toNat : Int) - 48)) (by omega)
  have el : ((s.data.toList.drop 1).take k).length = k := by simp; omega
  rw [el] at h
  simp only [val]
  refine Int.le_trans ?_ h.1
  have hp : (0 : Int) ≤ (10 : Int) ^ k := Int.le_of_lt (Int.pow_pos (by decide))
  have h1 : 1 * (10 : Int) ^ k ≤ (10 * 0 + ((s[0].toNat : Int) - 48)) * (10 : Int) ^ k := Int.mul_le_mul_of_nonneg_right (by omega) hp
  have h2 : (1 : Int) * (10 : Int) ^ k = (10 : Int) ^ k := Int.one_mul _
  omega
/-- where the digits so far make nought behind one at least, the first is a nought -/
theorem nought_first (s : ByteArray) (k : Nat) (hk : k < s.size) (hd : digs s (k + 1)) (hv : val (s.data.toList.take (k + 1)) 0 = 0) : (s[0].toNat : Int) = 48 := by
  by_cases h0 : (s[0].toNat : Int) = 48
  · exact h0
  · have h := val_first s k hk hd h0
    have hp : (0 : Int) < (10 : Int) ^ k := Int.pow_pos (by decide)
    omega
/-- what is beyond 99999 has six digits at least -/
theorem beyond (s : ByteArray) (k : Nat) (hk : k < s.size) (hd : digs s (k + 1)) (hv : 99999 < val (s.data.toList.take (k + 1)) 0) : 5 < s.size := by
  by_cases h : 5 < s.size
  · exact h
  · have h1 := (val_digs s (k + 1) hk hd).2
    have h2 : (10 : Int) ^ (k + 1) ≤ (10 : Int) ^ 5 := by
      have : k + 1 = 1 ∨ k + 1 = 2 ∨ k + 1 = 3 ∨ k + 1 = 4 ∨ k + 1 = 5 := by omega
      rcases this with h | h | h | h | h <;> rw [h] <;> decide
    have : (10 : Int) ^ 5 = 100000 := by decide
    omega
/-- of no needless nought, and not beyond: five digits at most -/
theorem within (s : ByteArray) (h : 1 < s.size) (hd : digs s s.size) (h0 : (s[0].toNat : Int) ≠ 48) (hv : val (s.data.toList.take s.size) 0 ≤ 99999) : s.size ≤ 5 := by
  by_cases h5 : s.size ≤ 5
  · exact h5
  · have hd6 : digs s (5 + 1) := fun c hm => hd c (by
      have : s.data.toList.take 6 = (s.data.toList.take s.size).take 6 := by rw [List.take_take]; congr 1; omega
      rw [this] at hm; exact List.mem_of_mem_take hm)
    have hf : (10 : Int) ^ (s.size - 1) ≤ val (s.data.toList.take (s.size - 1 + 1)) 0 := val_first s (s.size - 1) (by omega) (by rw [show s.size - 1 + 1 = s.size from by omega]; exact hd) h0
    rw [show s.size - 1 + 1 = s.size from by omega] at hf
    have hm : (10 : Int) ^ 5 ≤ (10 : Int) ^ (s.size - 1) := by
      have e : s.size - 1 = 5 + (s.size - 6) := by omega
      rw [e, Int.pow_add]
      have hp : (0 : Int) < (10 : Int) ^ (s.size - 6) := Int.pow_pos (by decide)
      have h1 : (10 : Int) ^ 5 * 1 ≤ (10 : Int) ^ 5 * (10 : Int) ^ (s.size - 6) := Int.mul_le_mul_of_nonneg_left (by omega) (by decide)
      have h2 : (10 : Int) ^ 5 * (1 : Int) = (10 : Int) ^ 5 := Int.mul_one _
      omega
    have : (10 : Int) ^ 5 = 100000 := by decide
    omega
end Go.Proofs.YtmbejfbbolicfaaDoor.Plain
