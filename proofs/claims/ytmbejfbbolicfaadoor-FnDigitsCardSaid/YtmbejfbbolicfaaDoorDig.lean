/-
  PROVED: plain facts, with no program in sight: the digits of a number are read back as that number, and digits without a needless nought are the digits of what they are read as.
-/
import Derived.Test.YtmbejfbbolicfaaDoorPlain
import Derived.Lib.ItoaNum
import Derived.Lib.ItoaMem
namespace Go.Proofs.YtmbejfbbolicfaaDoor.Dig
open Go.Proofs.YtmbejfbbolicfaaDoor.Plain

theorem byte_nat (d : Nat) (h : d < 10) : (UInt8.ofNat (48 + d)).toNat = 48 + d := by
  rw [UInt8.toNat_ofNat']; omega
theorem dig_byte (d : Nat) (h : d < 10) : dig (UInt8.ofNat (48 + d)) = true := by
  rw [dig_iff, byte_nat d h]; omega

theorem all_digits : ∀ m : Nat, ∀ c ∈ Lib.decDigits m, dig c = true := by
  intro m
  induction m using Nat.strongRecOn with
  | _ m ih =>
    intro c hc
    rw [Lib.decDigits] at hc
    by_cases h : m < 10
    · rw [dif_pos h] at hc
      simp only [List.mem_singleton] at hc
      rw [hc]; exact dig_byte m h
    · rw [dif_neg h, List.mem_append] at hc
      rcases hc with hc | hc
      · exact ih (m / 10) (by omega) c hc
      · simp only [List.mem_singleton] at hc
        rw [hc]; exact dig_byte (m % 10) (by omega)

theorem val_digits (m : Nat) : val (Lib.decDigits m) 0 = (m : Int) := by
  induction m using Nat.strongRecOn with
  | _ m ih =>
    rw [Lib.decDigits]
    by_cases h : m < 10
    · rw [dif_pos h]
      simp only [val]
      rw [byte_nat m h]; omega
    · rw [dif_neg h, val_snoc, ih (m / 10) (by omega), byte_nat (m % 10) (by omega)]
      omega

theorem ne_nil (m : Nat) : Lib.decDigits m ≠ [] := by
  rw [Lib.decDigits]
  split <;> simp

theorem head_digits (m : Nat) (h1 : 1 ≤ m) : (Lib.decDigits m).head? ≠ some 48 := by
  induction m using Nat.strongRecOn with
  | _ m ih =>
    rw [Lib.decDigits]
    by_cases h : m < 10
    · rw [dif_pos h]
      simp only [List.head?_cons]
      intro e
      have e2 := congrArg UInt8.toNat (Option.some.inj e)
      rw [byte_nat m h] at e2
      have : (48 : UInt8).toNat = 48 := rfl
      omega
    · rw [dif_neg h]
      cases hd : Lib.decDigits (m / 10) with
      | nil => exact absurd hd (ne_nil _)
      | cons a l =>
        have := ih (m / 10) (by omega) (by omega)
        rw [hd] at this
        simpa using this

theorem len_le (k : Nat) : ∀ m : Nat, m < 10 ^ (k + 1) → Lib.nDigits m ≤ k + 1 := by
  induction k with
  | zero => intro m h; rw [Lib.nDigits_small (by simpa using h)]; omega
  | succ k ih =>
    intro m h
    by_cases h10 : m < 10
    · rw [Lib.nDigits_small h10]; omega
    · rw [Lib.nDigits_big h10]
      have := ih (m / 10) (by rw [Nat.pow_succ] at h; omega)
      omega

theorem good_digits (m : Nat) : good (Lib.decDigits m) = decide (m ≤ 99999) := by
  have hlen := Lib.decDigits_length m
  by_cases h : m ≤ 99999
  · rw [decide_eq_true h]
    simp only [good, decide_eq_true_eq]
    refine ⟨ne_nil m, ?_, ?_, all_digits m⟩
    · rw [hlen]; exact len_le 4 m (by have : 10 ^ (4 + 1) = 100000 := by decide
                                      omega)
    · by_cases h1 : 1 ≤ m
      · exact .inr (head_digits m h1)
      · left
        have e : m = 0 := by omega
        rw [hlen, e, Lib.nDigits_small (by decide)]; exact Nat.le_refl _
  · rw [decide_eq_false h]
    simp only [good, decide_eq_false_iff_not]
    rintro ⟨_, h2, _⟩
    rw [hlen] at h2
    have h3 := Lib.lt_pow_nDigits m
    have h4 : 10 ^ Lib.nDigits m ≤ 10 ^ 5 := Nat.pow_le_pow_right (by decide) h2
    have : 10 ^ 5 = 100000 := by decide
    omega

theorem good_neg (m : Nat) : good (45 :: Lib.decDigits m) = false := by
  simp only [good, decide_eq_false_iff_not]
  rintro ⟨_, _, _, h⟩
  have := (dig_iff 45).1 (h 45 (by simp))
  have e : (45 : UInt8).toNat = 45 := rfl
  rw [e] at this
  omega

def inside (n : Int) : Bool := decide (0 ≤ n ∧ n ≤ 99999)
theorem good_itoa (n : Int) : good (Lib.itoa n) = inside n := by
  unfold Lib.itoa inside
  by_cases h : n < 0
  · rw [if_pos h, good_neg, decide_eq_false (by omega)]
  · rw [if_neg h, good_digits]
    obtain ⟨m, rfl⟩ := Int.eq_ofNat_of_zero_le (show 0 ≤ n by omega)
    simp only [Int.toNat_natCast]
    by_cases h9 : m ≤ 99999
    · rw [decide_eq_true h9, decide_eq_true (by omega)]
    · rw [decide_eq_false h9, decide_eq_false (by omega)]
theorem ans_itoa (n : Int) (h : inside n = true) : ans (Lib.itoa n) = n := by
  have hg := good_itoa n
  rw [h] at hg
  unfold ans
  rw [if_pos hg]
  have hw := of_decide_eq_true h
  unfold Lib.itoa
  rw [if_neg (by omega), val_digits]
  omega

theorem val_pos (l : List UInt8) (a : UInt8) (hd : ∀ c ∈ a :: l, dig c = true) (h : a ≠ 48) : 1 ≤ val (a :: l) 0 := by
  have ha := (dig_iff a).1 (hd a (by simp))
  have hne : a.toNat ≠ 48 := fun e => h (UInt8.toNat_inj.1 e)
  have hb := (val_bd l (fun c hc => hd c (List.mem_cons_of_mem _ hc)) (10 * 0 + ((a.toNat : Int) - 48)) (by omega)).1
  have hp : (1 : Int) ≤ (10 : Int) ^ l.length := Int.pow_pos (by decide)
  have hm : 1 * 1 ≤ (10 * 0 + ((a.toNat : Int) - 48)) * (10 : Int) ^ l.length := Int.mul_le_mul (by omega) hp (by decide) (by omega)
  simp only [val]
  omega

theorem digits_val : ∀ (n : Nat) (l : List UInt8), l.length = n → l ≠ [] → (∀ c ∈ l, dig c = true) → (l.length ≤ 1 ∨ l.head? ≠ some 48) → Lib.decDigits (val l 0).toNat = l
  | 0, l, hn, h0, _, _ => absurd (List.length_eq_zero_iff.1 hn) h0
  | n + 1, l, hn, h0, hd, hh => by
    obtain ⟨l', c, rfl⟩ : ∃ l' c, l = l' ++ [c] := ⟨l.dropLast, l.getLast h0, (List.dropLast_concat_getLast h0).symm⟩
    have hc := (dig_iff c).1 (hd c (by simp))
    have eb : UInt8.ofNat (48 + (c.toNat - 48)) = c := by
      apply UInt8.toNat_inj.1
      rw [UInt8.toNat_ofNat']; omega
    rw [val_snoc]
    cases hl' : l' with
    | nil =>
      simp only [val]
      rw [Lib.decDigits, dif_pos (by omega), show 48 + (10 * (0 : Int) + ((c.toNat : Int) - 48)).toNat = 48 + (c.toNat - 48) by omega, eb]
      rfl
    | cons a r =>
      have ha48 : a ≠ 48 := by
        rcases hh with hh | hh
        · rw [hl'] at hh; simp at hh
        · rw [hl'] at hh; simpa using hh
      have hd' : ∀ x ∈ a :: r, dig x = true := fun x hx => hd x (by rw [hl']; exact List.mem_append_left _ hx)
      have hv := val_pos r a hd' ha48
      have ih := digits_val n (a :: r) (by rw [hl'] at hn; simp at hn ⊢; omega) (by simp) hd' (.inr (by simpa using ha48))
      have e1 : (10 * val (a :: r) 0 + ((c.toNat : Int) - 48)).toNat / 10 = (val (a :: r) 0).toNat := by omega
      have e2 : (10 * val (a :: r) 0 + ((c.toNat : Int) - 48)).toNat % 10 = c.toNat - 48 := by omega
      rw [Lib.decDigits, dif_neg (by omega), e1, e2, eb, ih]

theorem val_nonneg (l : List UInt8) (hd : ∀ c ∈ l, dig c = true) : 0 ≤ val l 0 := by
  have h := (val_bd l hd 0 (by omega)).1
  omega
theorem itoa_ans (l : List UInt8) (h : good l = true) : Lib.itoa (ans l) = l := by
  unfold ans
  rw [if_pos h]
  simp only [good, decide_eq_true_eq] at h
  have h0 := val_nonneg l h.2.2.2
  unfold Lib.itoa
  rw [if_neg (by omega)]
  exact digits_val l.length l rfl h.1 h.2.2.2 h.2.2.1
theorem ans_bd (l : List UInt8) : 0 ≤ ans l ∧ ans l ≤ 9223372036854775807 := by
  unfold ans
  split
  · rename_i h
    simp only [good, decide_eq_true_eq] at h
    have h0 := val_nonneg l h.2.2.2
    have h1 := (val_bd l h.2.2.2 0 (by omega)).2
    have h2 : (10 : Int) ^ l.length ≤ 100000 := by
      have : l.length = 0 ∨ l.length = 1 ∨ l.length = 2 ∨ l.length = 3 ∨ l.length = 4 ∨ l.length = 5 := by omega
      rcases this with h | h | h | h | h | h <;> rw [h] <;> decide
    omega
  · omega
end Go.Proofs.YtmbejfbbolicfaaDoor.Dig
