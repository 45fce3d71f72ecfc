/-
  PROVED: over any string that is not too long spec.ParseSet answers as a plain function says, in memory of its own; nothing that was there is changed.
-/
import Derived.Test.YtlgmhonlgckppaaCutP
namespace Go.Proofs.Ytlgmhonlgckppaa.CutS
open Go.RowKit
open Go.Proofs.Ytlgmhonlgckppaa.Labs Go.Proofs.Ytlgmhonlgckppaa.LabS Go.Proofs.Ytlgmhonlgckppaa.LabO Go.Proofs.Ytlgmhonlgckppaa.SetP Go.Proofs.Ytlgmhonlgckppaa.TextS Go.Proofs.Ytlgmhonlgckppaa.TextI Go.Proofs.Ytlgmhonlgckppaa.LabR
open Go.Proofs.Ytlgmhonlgckppaa.Over Go.Proofs.Ytlgmhonlgckppaa.Blk Go.Proofs.Ytlgmhonlgckppaa.App Go.Proofs.Ytlgmhonlgckppaa.Cuts Go.Proofs.Ytlgmhonlgckppaa.CutP
open Go.Proofs.Ytlgmhonlgckppaa.Names (empty_yes empty_no)
open Go.Proofs.Ytlgmhonlgckppaa.LabT (infoL Held)
set_option linter.unusedVariables false

theorem upTo_form {b : UInt8} : ∀ {l n r : List UInt8}, upTo b l = some (n, r) → l = n ++ b :: r
  | [], n, r, h => by simp [upTo] at h
  | c :: l, n, r, h => by
    unfold upTo at h
    split at h
    · rename_i e; subst e; simp at h; obtain ⟨rfl, rfl⟩ := h; rfl
    · rw [Option.map_eq_some_iff] at h
      obtain ⟨⟨n', r'⟩, h1, h2⟩ := h
      have := upTo_form h1
      simp at h2
      obtain ⟨rfl, rfl⟩ := h2
      rw [this]; rfl
theorem upTo_none {b : UInt8} : ∀ {l : List UInt8}, (∀ c ∈ l, c ≠ b) → upTo b l = none
  | [], _ => rfl
  | c :: l, h => by
    unfold upTo
    rw [if_neg (h c (by simp)), upTo_none fun d hd => h d (by simp [hd])]
    rfl
/-- no b between a and k -/
def noB (s : ByteArray) (b : UInt8) (a k : Nat) : Prop := ∀ c ∈ ((bs s).drop a).take (k - a), c ≠ b
theorem noB_zero (s : ByteArray) (b : UInt8) (a : Nat) : noB s b a a := by simp [noB]
theorem drop_len (s : ByteArray) (a : Nat) : ((bs s).drop a).length = s.size - a := by rw [List.length_drop, bs_len]
theorem drop_get {s : ByteArray} {a k : Nat} (ha : a ≤ k) (hk : k < s.size) : ((bs s).drop a)[k - a]'(by rw [drop_len]; omega) = s[k] := by
  rw [List.getElem_drop]
  have e : a + (k - a) = k := by omega
  simp only [e]
  rfl
theorem noB_up {s : ByteArray} {b : UInt8} {a k : Nat} (h : noB s b a k) (ha : a ≤ k) (hk : k < s.size) (hne : s[k] ≠ b) : noB s b a (k + 1) := by
  unfold noB at *
  intro c hc
  rw [show k + 1 - a = k - a + 1 by omega, ← List.take_append_getElem (by rw [drop_len]; omega), List.mem_append] at hc
  rcases hc with hc | hc
  · exact h c hc
  · rw [drop_get ha hk] at hc
    simp at hc; rw [hc]; exact hne
/-- what l3To answers -/
def toB (s : ByteArray) (a : Nat) (b : UInt8) : ByteArray × Int :=
  match upTo b ((bs s).drop a) with
  | none => (⟨#[]⟩, -1)
  | some (n, _) => (mk n, (a : Int) + n.length + 1)
theorem to_miss {s : ByteArray} {a k : Nat} {b : UInt8} (h : noB s b a k) (hk : s.size ≤ k) (ha : a ≤ k) : toB s a b = (⟨#[]⟩, -1) := by
  unfold toB
  rw [upTo_none]
  intro c hc
  refine h c ?_
  rw [List.take_of_length_le (by rw [drop_len]; omega)]
  exact hc
theorem to_hit {s : ByteArray} {a k : Nat} {b : UInt8} (h : noB s b a k) (ha : a ≤ k) (hk : k < s.size) (he : s[k] = b) : toB s a b = (s.extract a k, (k : Int) + 1) := by
  have e : (bs s).drop a = ((bs s).drop a).take (k - a) ++ b :: ((bs s).drop a).drop (k - a + 1) := by
    have hd : k - a < ((bs s).drop a).length := by rw [drop_len]; omega
    have h1 := List.take_append_drop (k - a) ((bs s).drop a)
    rw [List.drop_eq_getElem_cons hd, drop_get ha hk, he] at h1
    exact h1.symm
  unfold toB
  rw [e, upTo_at b _ _ h]
  have hlen : (((bs s).drop a).take (k - a)).length = k - a := by rw [List.length_take, drop_len]; omega
  simp only [hlen]
  congr 1
  · unfold mk bs
    apply ByteArray.ext
    apply Array.ext'
    simp [ByteArray.data_extract]
  · omega
theorem retT {p q : ByteArray × Int} (h : p = q) : Ending.returned (.tuple #[.string q.1, .int .i64 q.2]) = .returned (.tuple #[.string p.1, .int .i64 p.2]) := by rw [h]
theorem beq8 {x b : UInt8} (h : x = b) : ((x.toNat : Int) = (b.toNat : Int)) := by rw [h]
theorem bne8 {x b : UInt8} (h : x ≠ b) : ¬ ((x.toNat : Int) = (b.toNat : Int)) := fun e => h (by apply UInt8.toNat_inj.1; omega)

set_option maxHeartbeats 400000 in
theorem l3To_any (s : ByteArray) (a : Nat) (b : UInt8) (w : World) (hs : s.size ≤ 1048576) (ha : a ≤ 1048580) :
    Calls Try.prog 44 #[.string s, .int .i64 a, .int .u8 (b.toNat : Int)] w fun e w' => e = .returned (.tuple #[.string (toB s a b).1, .int .i64 (toB s a b).2]) ∧ w' = w := by
  go_enter Try.func44, Try.ntmps44
  go_wp2
  go_loop [8] (fun i => ∃ k : Nat, a ≤ k ∧ k ≤ 1048580 ∧ i = .int .i64 k ∧ noB s b a k) (fun i => s.size - (intOf i).toNat)
  case atStart => exact ⟨a, Nat.le_refl _, ha, rfl, noB_zero _ _ _⟩
  case round =>
    obtain ⟨k, hk, hk2, rfl, hn⟩ := hrel
    have HN : Hid (noB s b a k) := hn
    clear hn
    by_cases hlt : k < s.size
    · have hlt' : (k : Int) < s.size := by omega
      by_cases he : s[k] = b
      · have HT : Hid (toB s a b = (s.extract a k, (k : Int) + 1)) := to_hit HN.out hk hlt he
        have h8 := beq8 he
        have hak : (a : Int) ≤ (k : Int) := by omega
        clear he
        go_wp2
        go_ret2
        exact ⟨retT HT.out, rfl⟩
      · have HN1 : Hid (noB s b a (k + 1)) := noB_up HN.out hk hlt he
        have h8 := bne8 he
        clear he
        go_wp2
        go_round
        case rel => exact ⟨k + 1, by omega, by omega, by go_num, HN1.out⟩
        case measure => simp [intOf]; omega
    · have hge : ¬ (k : Int) < s.size := by omega
      have HT : Hid (toB s a b = (⟨#[]⟩, -1)) := to_miss HN.out (by omega) hk
      go_wp2
      go_ret2
      exact ⟨retT HT.out, rfl⟩

theorem l3To_at (s : ByteArray) (a : Nat) (b : UInt8) (x y : Int) (w : World) (hs : s.size ≤ 1048576) (ha : a ≤ 1048580) (hx : x = (a : Int)) (hy : y = (b.toNat : Int)) :
    Calls Try.prog 44 #[.string s, .int .i64 x, .int .u8 y] w fun e w' => e = .returned (.tuple #[.string (toB s a b).1, .int .i64 (toB s a b).2]) ∧ w' = w := by
  subst hx hy
  exact l3To_any s a b w hs ha
/-- one round, plainly -/
theorem spec_stop {k : Nat} {f : Bool} {r : List UInt8} (h : r.length < 2) : specN k f r = [] := by
  cases k with
  | zero => rfl
  | succ k => unfold specN; rw [if_pos h]
theorem to_neg {s : ByteArray} {a : Nat} {b : UInt8} (h : (toB s a b).2 < 0) : upTo b ((bs s).drop a) = none := by
  unfold toB at h
  cases e : upTo b ((bs s).drop a) with
  | none => rfl
  | some x => rw [e] at h; simp at h; omega
theorem to_pos {s : ByteArray} {a : Nat} {b : UInt8} (h : ¬ (toB s a b).2 < 0) : ∃ n : List UInt8, ∃ k : Nat, toB s a b = (mk n, (k : Int)) ∧ a < k ∧ k ≤ s.size ∧ upTo b ((bs s).drop a) = some (n, (bs s).drop k) ∧ n.length ≤ s.size := by
  cases e : upTo b ((bs s).drop a) with
  | none => exfalso; apply h; unfold toB; rw [e]; simp
  | some x =>
    obtain ⟨n, r⟩ := x
    have hf := upTo_form e
    have hl := congrArg List.length hf
    rw [drop_len] at hl
    simp at hl
    refine ⟨n, a + n.length + 1, ?_, by omega, by omega, ?_, by omega⟩
    · unfold toB; rw [e]; simp
    · have : r = ((bs s).drop a).drop (n.length + 1) := by
        rw [hf, show n ++ b :: r = (n ++ [b]) ++ r by simp, show n.length + 1 = (n ++ [b]).length by simp, List.drop_left]
      rw [this, List.drop_drop, Nat.add_assoc]
theorem spec_no1 {k : Nat} {f : Bool} {s : ByteArray} {a : Nat} (h : upTo 61 (if f then (bs s).drop a else ((bs s).drop a).drop 2) = none) : specN k f ((bs s).drop a) = [] := by
  cases k with
  | zero => rfl
  | succ k => unfold specN; rw [h]; simp
theorem spec_no2 {k : Nat} {f : Bool} {s : ByteArray} {a j : Nat} {n : List UInt8} (h : upTo 61 (if f then (bs s).drop a else ((bs s).drop a).drop 2) = some (n, (bs s).drop j)) (h2 : upTo 34 ((bs s).drop (j + 1)) = none) : specN k f ((bs s).drop a) = [] := by
  cases k with
  | zero => rfl
  | succ k =>
    unfold specN
    rw [h]
    simp only [List.drop_drop]
    rw [h2]
    simp
theorem spec_yes {k : Nat} {f : Bool} {s : ByteArray} {a j i : Nat} {n v : List UInt8} (h0 : ¬ ((bs s).drop a).length < 2) (h : upTo 61 (if f then (bs s).drop a else ((bs s).drop a).drop 2) = some (n, (bs s).drop j)) (h2 : upTo 34 ((bs s).drop (j + 1)) = some (v, (bs s).drop i)) : specN (k + 1) f ((bs s).drop a) = (mk n, mk v) :: specN k false ((bs s).drop i) := by
  conv => lhs; unfold specN
  rw [if_neg h0, h]
  simp only [List.drop_drop]
  rw [h2]
theorem specN_sizes : ∀ (k : Nat) (f : Bool) (r : List UInt8), ∀ x ∈ specN k f r, x.1.size ≤ r.length ∧ x.2.size ≤ r.length
  | 0, f, r => by simp [specN]
  | k + 1, f, r => by
    unfold specN
    split
    · simp
    · split
      · simp
      · rename_i n r1 e1
        split
        · simp
        · rename_i v r2 e2
          have h1 := congrArg List.length (upTo_form e1)
          have h2 := congrArg List.length (upTo_form e2)
          have h3 : (if f = true then r else r.drop 2).length ≤ r.length := by split <;> simp
          simp at h1 h2
          intro x hx
          rcases List.mem_cons.1 hx with rfl | hx
          · rw [size_mk, size_mk]; exact ⟨by omega, by omega⟩
          · have := specN_sizes k false r2 x hx
            exact ⟨by omega, by omega⟩
theorem cutS_fits {s : ByteArray} (hs : s.size ≤ 1048576) : Fits (cutS s) := by
  refine fits_of (n := 1048576) (by unfold maxLen; decide) fun x hx => ?_
  have h1 := specN_sizes 5 true _ x hx
  rw [drop_len] at h1
  exact ⟨by omega, by omega⟩
theorem cutS_len (s : ByteArray) : (cutS s).length ≤ maxLen := Nat.le_trans (specN_len 5 true _) (by unfold maxLen; decide)
end Go.Proofs.Ytlgmhonlgckppaa.CutS
