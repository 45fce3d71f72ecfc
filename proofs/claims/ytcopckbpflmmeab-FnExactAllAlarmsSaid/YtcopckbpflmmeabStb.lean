/-
  Plain rows and their stable sort: a rotation of two neighbouring blocks, of which the right one is less throughout, keeps the order of equals; the library's merge in place (symmetric: a search by halves, a rotation, two lesser merges); two sorted rows that keep the order of equals are one. No program is spoken of.
-/
import Derived.Test.YtcopckbpflmmeabLabL
import Derived.Test.YtcopckbpflmmeabLabN
import Derived.Test.YtcopckbpflmmeabLabV
namespace Go.Proofs.Ytcopckbpflmmeab.Stb
set_option linter.unusedVariables false

/-- a strict order on keys, total -/
structure Ord {κ : Type} (lt : κ → κ → Bool) : Prop where
  irr : ∀ a, lt a a = false
  trans : ∀ {a b c}, lt a b = true → lt b c = true → lt a c = true
  tot : ∀ {a b}, lt a b = false → lt b a = false → a = b
variable {α κ : Type} {lt : κ → κ → Bool} {key : α → κ}
theorem Ord.asymm (h : Ord lt) {a b : κ} (k : lt a b = true) : lt b a = false := by
  cases e : lt b a with
  | false => rfl
  | true => have := h.trans k e; rw [h.irr] at this; cases this
/-- not less: a ≤ b ≤ c -/
theorem Ord.le_trans (h : Ord lt) {a b c : κ} (h1 : lt b a = false) (h2 : lt c b = false) : lt c a = false := by
  cases e : lt c a with
  | false => rfl
  | true =>
    cases e1 : lt a b with
    | false => have := h.tot e1 h1; subst this; rw [h2] at e; exact e.symm
    | true => have := h.trans e e1; rw [h2] at this; exact this.symm
theorem Ord.lt_le (h : Ord lt) {a b c : κ} (h1 : lt a b = true) (h2 : lt c b = false) : lt a c = true := by
  cases e : lt b c with
  | true => exact h.trans h1 e
  | false => have := h.tot e h2; subst this; exact h1
theorem Ord.le_lt (h : Ord lt) {a b c : κ} (h1 : lt b a = false) (h2 : lt b c = true) : lt a c = true := by
  cases e : lt a b with
  | true => exact h.trans e h2
  | false => have := h.tot e h1; subst this; exact h2

/-- sorted from a up to b -/
def Srt (lt : κ → κ → Bool) (key : α → κ) (f : Nat → α) (a b : Nat) : Prop := ∀ p q, a ≤ p → p < q → q < b → lt (key (f q)) (key (f p)) = false
theorem Srt.le (O : Ord lt) {f : Nat → α} {a b : Nat} (h : Srt lt key f a b) {p q : Nat} (h1 : a ≤ p) (h2 : p ≤ q) (h3 : q < b) : lt (key (f q)) (key (f p)) = false := by
  rcases Nat.lt_or_ge p q with e | e
  · exact h p q h1 e h3
  · have : p = q := by omega
    subst this; exact O.irr _
theorem Srt.mono {f : Nat → α} {a b a' b' : Nat} (h : Srt lt key f a b) (h1 : a ≤ a') (h2 : b' ≤ b) : Srt lt key f a' b' := fun p q hp hq hb => h p q (by omega) hq (by omega)
theorem Srt.congr {f g : Nat → α} {a b : Nat} (h : Srt lt key f a b) (e : ∀ i, a ≤ i → i < b → g i = f i) : Srt lt key g a b := fun p q hp hq hb => by rw [e p hp (by omega), e q (by omega) hb]; exact h p q hp hq hb

/-- x u v y becomes x v u y, where u is from a up to m, v from m up to b -/
def rotF (f : Nat → α) (a m b : Nat) (k : Nat) : α := if a ≤ k ∧ k < a + (b - m) then f (k + (m - a)) else if a + (b - m) ≤ k ∧ k < b then f (k - (b - m)) else f k
/-- n places from p on change with n from q on -/
def swapF (f : Nat → α) (p q n : Nat) (k : Nat) : α := if p ≤ k ∧ k < p + n then f (k - p + q) else if q ≤ k ∧ k < q + n then f (k - q + p) else f k
theorem swapF_0 (f : Nat → α) (p q : Nat) : swapF f p q 0 = f := by
  funext k; unfold swapF; rw [if_neg (by omega), if_neg (by omega)]
/-- two places change -/
def two (f : Nat → α) (p q : Nat) (k : Nat) : α := if k = p then f q else if k = q then f p else f k
theorem swapF_up {f : Nat → α} {p q n i : Nat} (h : p + n ≤ q) (hi : i < n) : two (swapF f p q i) (p + i) (q + i) = swapF f p q (i + 1) := by
  funext k; unfold two swapF
  (repeat' split) <;> first | rfl | (exfalso; omega) | (congr 1; omega)
theorem two_rot (f : Nat → α) (j : Nat) : two f j (j + 1) = rotF f j (j + 1) (j + 2) := by
  funext k; unfold two rotF
  (repeat' split) <;> first | rfl | (exfalso; omega) | (congr 1; omega)
theorem two_comm (f : Nat → α) (p q : Nat) : two f p q = two f q p := by
  funext k; unfold two
  (repeat' split) <;> first | rfl | (exfalso; omega) | (congr 1; omega)
theorem rot_gt {g : Nat → α} {m i j : Nat} (h : j < i) (hi : i ≤ m) (hj : 0 < j) : rotF (swapF g (m - i) m j) (m - (i - j)) m (m + j) = rotF g (m - i) m (m + j) := by
  funext k; unfold rotF swapF
  (repeat' split) <;> first | rfl | (exfalso; omega) | (congr 1; omega)
theorem rot_lt {g : Nat → α} {m i j : Nat} (h : i < j) (hi : i ≤ m) (h0 : 0 < i) : rotF (swapF g (m - i) (m + j - i) i) (m - i) m (m + (j - i)) = rotF g (m - i) m (m + j) := by
  funext k; unfold rotF swapF
  (repeat' split) <;> first | rfl | (exfalso; omega) | (congr 1; omega)
theorem rot_eq {g : Nat → α} {m i : Nat} (hi : i ≤ m) : swapF g (m - i) m i = rotF g (m - i) m (m + i) := by
  funext k; unfold rotF swapF
  (repeat' split) <;> first | rfl | (exfalso; omega) | (congr 1; omega)
theorem rot_low {f : Nat → α} {a m b k : Nat} (h : k < a) (h1 : a ≤ m) (h2 : m ≤ b) : rotF f a m b k = f k := by unfold rotF; rw [if_neg (by omega), if_neg (by omega)]
theorem rot_high {f : Nat → α} {a m b k : Nat} (h : b ≤ k) (h1 : a ≤ m) (h2 : m ≤ b) : rotF f a m b k = f k := by unfold rotF; rw [if_neg (by omega), if_neg (by omega)]
theorem rot_v {f : Nat → α} {a m b k : Nat} (h : a ≤ k) (hk : k < a + (b - m)) : rotF f a m b k = f (k + (m - a)) := by unfold rotF; rw [if_pos ⟨h, hk⟩]
theorem rot_u {f : Nat → α} {a m b k : Nat} (h : a + (b - m) ≤ k) (hk : k < b) : rotF f a m b k = f (k - (b - m)) := by unfold rotF; rw [if_neg (by omega), if_pos ⟨h, hk⟩]

/-- the elements from a on, n of them -/
def seg (f : Nat → α) (a n : Nat) : List α := (List.range n).map fun i => f (a + i)
theorem seg_len (f : Nat → α) (a n : Nat) : (seg f a n).length = n := by simp [seg]
theorem seg_add (f : Nat → α) (a n m : Nat) : seg f a (n + m) = seg f a n ++ seg f (a + n) m := by
  unfold seg
  rw [List.range_add, List.map_append, List.map_map]
  congr 1
  apply List.map_congr_left
  intro i _
  show f (a + (n + i)) = f (a + n + i)
  rw [Nat.add_assoc]
theorem seg_congr {f g : Nat → α} {a b n : Nat} (h : ∀ i, i < n → f (a + i) = g (b + i)) : seg f a n = seg g b n := by
  unfold seg
  apply List.map_congr_left
  intro i hi
  exact h i (List.mem_range.1 hi)
theorem seg_mem {f : Nat → α} {a n : Nat} {x : α} (h : x ∈ seg f a n) : ∃ i, a ≤ i ∧ i < a + n ∧ x = f i := by
  unfold seg at h
  obtain ⟨i, hi, rfl⟩ := List.mem_map.1 h
  exact ⟨a + i, by omega, by have := List.mem_range.1 hi; omega, rfl⟩
theorem seg_get {f : Nat → α} {a n i : Nat} (h : i < n) : (seg f a n)[i]? = some (f (a + i)) := by
  unfold seg; simp [h]
/-- the same elements, those of one key in the same order -/
structure St [DecidableEq κ] (key : α → κ) (l l' : List α) : Prop where
  perm : l.Perm l'
  same : ∀ k, l.filter (fun x => decide (key x = k)) = l'.filter (fun x => decide (key x = k))
theorem St.refl [DecidableEq κ] (l : List α) : St key l l := ⟨List.Perm.refl _, fun _ => rfl⟩
theorem St.trans [DecidableEq κ] {l m k : List α} (h : St key l m) (h' : St key m k) : St key l k := ⟨h.perm.trans h'.perm, fun q => (h.same q).trans (h'.same q)⟩
theorem St.symm [DecidableEq κ] {l m : List α} (h : St key l m) : St key m l := ⟨h.perm.symm, fun q => (h.same q).symm⟩
theorem St.mid [DecidableEq κ] {x u v y : List α} (h : ∀ a ∈ u, ∀ b ∈ v, key a ≠ key b) : St key (x ++ (u ++ (v ++ y))) (x ++ (v ++ (u ++ y))) := by
  refine ⟨List.Perm.append_left x ?_, fun k => ?_⟩
  · rw [← List.append_assoc, ← List.append_assoc]
    exact List.Perm.append_right y List.perm_append_comm
  · simp only [List.filter_append]
    congr 1
    rw [← List.append_assoc, ← List.append_assoc]
    congr 1
    by_cases hu : u.filter (fun x => decide (key x = k)) = []
    · rw [hu]; simp
    · have : v.filter (fun x => decide (key x = k)) = [] := by
        rw [List.filter_eq_nil_iff]
        intro b hb hk
        apply hu
        rw [List.filter_eq_nil_iff]
        intro a ha hk'
        exact h a ha b hb ((of_decide_eq_true hk').trans (of_decide_eq_true hk).symm)
      rw [this]; simp
theorem seg_rot {f : Nat → α} {a m b n : Nat} (h1 : a ≤ m) (h2 : m ≤ b) (h3 : b ≤ n) :
    seg f 0 n = seg f 0 a ++ (seg f a (m - a) ++ (seg f m (b - m) ++ seg f b (n - b))) ∧ seg (rotF f a m b) 0 n = seg f 0 a ++ (seg f m (b - m) ++ (seg f a (m - a) ++ seg f b (n - b))) := by
  constructor
  · have e : n = a + ((m - a) + ((b - m) + (n - b))) := by omega
    conv => lhs; rw [e]
    rw [seg_add, seg_add, seg_add]
    rw [show 0 + a = a by omega, show a + (m - a) = m by omega, show m + (b - m) = b by omega]
  · have e : n = a + ((b - m) + ((m - a) + (n - b))) := by omega
    conv => lhs; rw [e]
    rw [seg_add, seg_add, seg_add]
    congr 1
    · exact seg_congr fun i hi => rot_low (by omega) h1 h2
    · congr 1
      · exact seg_congr fun i hi => by rw [rot_v (by omega) (by omega)]; congr 1; omega
      · congr 1
        · exact seg_congr fun i hi => by rw [rot_u (by omega) (by omega)]; congr 1; omega
        · exact seg_congr fun i hi => by rw [rot_high (by omega) h1 h2]; congr 1; omega
theorem St.rot [DecidableEq κ] (O : Ord lt) {f : Nat → α} {a m b n : Nat} (h1 : a ≤ m) (h2 : m ≤ b) (h3 : b ≤ n) (h : ∀ i j, a ≤ i → i < m → m ≤ j → j < b → lt (key (f j)) (key (f i)) = true) : St key (seg f 0 n) (seg (rotF f a m b) 0 n) := by
  obtain ⟨e1, e2⟩ := seg_rot (f := f) h1 h2 h3
  rw [e1, e2]
  refine St.mid fun x hx y hy e => ?_
  obtain ⟨i, hi, hi', rfl⟩ := seg_mem hx
  obtain ⟨j, hj, hj', rfl⟩ := seg_mem hy
  have := h i j hi (by omega) hj (by omega)
  rw [e, O.irr] at this
  cases this
/-- a sorted list -/
def SrtL (lt : κ → κ → Bool) (key : α → κ) (l : List α) : Prop := l.Pairwise fun x y => lt (key y) (key x) = false
theorem srt_seg {f : Nat → α} {n : Nat} (h : Srt lt key f 0 n) : SrtL lt key (seg f 0 n) := by
  unfold SrtL seg
  rw [List.pairwise_map]
  refine List.Pairwise.imp_of_mem (R := fun a b => a < b) (fun {a b} ha hb hab => ?_) (List.pairwise_lt_range)
  exact h _ _ (Nat.zero_le _) (by omega) (by have := List.mem_range.1 hb; omega)
/-- two sorted lists that keep the order of equals are one -/
theorem St.one [DecidableEq κ] (O : Ord lt) : ∀ {l m : List α}, St key l m → SrtL lt key l → SrtL lt key m → l = m
  | [], m, h, _, _ => (List.nil_perm.1 h.perm).symm
  | x :: l, [], h, _, _ => absurd h.perm.length_eq (by simp)
  | x :: l, y :: m, h, h1, h2 => by
    unfold SrtL at h1 h2
    rw [List.pairwise_cons] at h1 h2
    have hy : y ∈ x :: l := h.perm.symm.subset (by simp)
    have hx : x ∈ y :: m := h.perm.subset (by simp)
    have l1 : lt (key y) (key x) = false := by
      rcases List.mem_cons.1 hy with rfl | hy
      · exact O.irr _
      · exact h1.1 y hy
    have l2 : lt (key x) (key y) = false := by
      rcases List.mem_cons.1 hx with rfl | hx
      · exact O.irr _
      · exact h2.1 x hx
    have ek := O.tot l1 l2
    have hf := h.same (key x)
    rw [List.filter_cons_of_pos (by simp), List.filter_cons_of_pos (by simp [ek])] at hf
    have exy : x = y := (List.cons.inj hf).1
    subst exy
    have ht : St key l m := ⟨(List.perm_cons x).1 h.perm, fun k => by
      by_cases e : key x = k
      · subst e; exact (List.cons.inj hf).2
      · have := h.same k
        rw [List.filter_cons_of_neg (by simpa using e), List.filter_cons_of_neg (by simpa using e)] at this
        exact this⟩
    rw [St.one O ht h1.2 h2.2]

/-- what a merge leaves: all but [a, b) is as it was, [a, b) is sorted, equals keep their order -/
structure Mrg [DecidableEq κ] (lt : κ → κ → Bool) (key : α → κ) (f g : Nat → α) (a b n : Nat) : Prop where
  out : ∀ k, k < a ∨ b ≤ k → g k = f k
  srt : Srt lt key g a b
  st : St key (seg f 0 n) (seg g 0 n)
/-- the elements of a part that only itself was changed are its own -/
theorem St.part [DecidableEq κ] {f g : Nat → α} {a b n : Nat} (h : St key (seg f 0 n) (seg g 0 n)) (hab : a ≤ b) (hb : b ≤ n) (ho : ∀ k, k < a ∨ b ≤ k → g k = f k) : ∀ i, a ≤ i → i < b → ∃ j, a ≤ j ∧ j < b ∧ g i = f j := by
  have cut : ∀ q : Nat → α, seg q 0 n = seg q 0 a ++ (seg q a (b - a) ++ seg q b (n - b)) := fun q => by
    have e : n = a + ((b - a) + (n - b)) := by omega
    conv => lhs; rw [e]
    rw [seg_add, seg_add, show 0 + a = a by omega, show a + (b - a) = b by omega]
  have e1 : seg g 0 a = seg f 0 a := seg_congr fun i hi => by rw [Nat.zero_add]; exact ho i (.inl hi)
  have e2 : seg g b (n - b) = seg f b (n - b) := seg_congr fun i hi => ho _ (.inr (by omega))
  have hp := h.perm
  rw [cut f, cut g, e1, e2] at hp
  have hp2 := List.perm_append_left_iff _ |>.1 hp
  have hp3 := (List.perm_append_right_iff _).1 hp2
  intro i h1 h2
  have hm : g i ∈ seg g a (b - a) := by
    unfold seg
    exact List.mem_map.2 ⟨i - a, List.mem_range.2 (by omega), by congr 1; omega⟩
  obtain ⟨j, hj, hj', e⟩ := seg_mem (hp3.symm.subset hm)
  exact ⟨j, hj, by omega, e⟩
/-- the right block has one element, put ahead of those that it is less than -/
theorem mrg_right [DecidableEq κ] (O : Ord lt) {f : Nat → α} {a m i n : Nat} (hs : Srt lt key f a m) (h1 : a ≤ i) (h2 : i ≤ m) (hn : m + 1 ≤ n) (hlo : ∀ p, a ≤ p → p < i → lt (key (f m)) (key (f p)) = false) (hhi : ∀ p, i ≤ p → p < m → lt (key (f m)) (key (f p)) = true) : Mrg lt key f (rotF f i m (m + 1)) a (m + 1) n := by
  refine ⟨fun k hk => ?_, fun p q hp hq hb => ?_, St.rot O h2 (by omega) hn fun p q hp hq hp' hq' => ?_⟩
  · rcases hk with hk | hk
    · exact rot_low (by omega) h2 (by omega)
    · exact rot_high hk h2 (by omega)
  · by_cases e1 : q < i
    · rw [rot_low e1 h2 (by omega), rot_low (by omega) h2 (by omega)]; exact hs p q hp hq (by omega)
    · by_cases e2 : q = i
      · rw [rot_v (k := q) (by omega) (by omega), rot_low (by omega) h2 (by omega), show q + (m - i) = m by omega]; exact hlo p hp (by omega)
      · rw [rot_u (k := q) (by omega) (by omega), show q - (m + 1 - m) = q - 1 by omega]
        by_cases e3 : p < i
        · rw [rot_low e3 h2 (by omega)]; exact hs p (q - 1) hp (by omega) (by omega)
        · by_cases e4 : p = i
          · rw [rot_v (k := p) (by omega) (by omega), show p + (m - i) = m by omega]; exact O.asymm (hhi (q - 1) (by omega) (by omega))
          · rw [rot_u (k := p) (by omega) (by omega), show p - (m + 1 - m) = p - 1 by omega]; exact hs (p - 1) (q - 1) (by omega) (by omega) (by omega)
  · have : q = m := by omega
    subst this; exact hhi p hp hq
/-- the left block has one element, put behind those that are less than it -/
theorem mrg_left [DecidableEq κ] (O : Ord lt) {f : Nat → α} {a b i n : Nat} (hs : Srt lt key f (a + 1) b) (h1 : a + 1 ≤ i) (h2 : i ≤ b) (hn : b ≤ n) (hlo : ∀ p, a + 1 ≤ p → p < i → lt (key (f p)) (key (f a)) = true) (hhi : ∀ p, i ≤ p → p < b → lt (key (f p)) (key (f a)) = false) : Mrg lt key f (rotF f a (a + 1) i) a b n := by
  refine ⟨fun k hk => ?_, fun p q hp hq hb => ?_, St.rot O (by omega) h1 (by omega) fun p q hp hq hp' hq' => ?_⟩
  · rcases hk with hk | hk
    · exact rot_low hk (by omega) h1
    · exact rot_high (by omega) (by omega) h1
  · by_cases e1 : i ≤ p
    · rw [rot_high (k := p) e1 (by omega) h1, rot_high (k := q) (by omega) (by omega) h1]; exact hs p q (by omega) hq hb
    · by_cases e2 : p = i - 1
      · rw [rot_u (k := p) (by omega) (by omega), rot_high (k := q) (by omega) (by omega) h1, show p - (i - (a + 1)) = a by omega]; exact hhi q (by omega) hb
      · rw [rot_v (k := p) (by omega) (by omega), show p + (a + 1 - a) = p + 1 by omega]
        by_cases e3 : i ≤ q
        · rw [rot_high (k := q) e3 (by omega) h1]; exact hs (p + 1) q (by omega) (by omega) hb
        · by_cases e4 : q = i - 1
          · rw [rot_u (k := q) (by omega) (by omega), show q - (i - (a + 1)) = a by omega]; exact O.asymm (hlo (p + 1) (by omega) (by omega))
          · rw [rot_v (k := q) (by omega) (by omega), show q + (a + 1 - a) = q + 1 by omega]; exact hs (p + 1) (q + 1) (by omega) (by omega) (by omega)
  · have : p = a := by omega
    subst this; exact hlo q hp' hq'
/-- the middle of two blocks that are to be merged: from s up to m, and from m up to e -/
structure Cut (lt : κ → κ → Bool) (key : α → κ) (f : Nat → α) (a m b s e : Nat) : Prop where
  hs : a ≤ s ∧ s ≤ m ∧ m ≤ e ∧ e ≤ b
  less : ∀ i j, s ≤ i → i < m → m ≤ j → j < e → lt (key (f j)) (key (f i)) = true
  apart : ∀ i j, a ≤ i → i < s → e ≤ j → j < b → lt (key (f j)) (key (f i)) = false
theorem cut_of (O : Ord lt) {f : Nat → α} {a m b mid s lo r : Nat} (hL : Srt lt key f a m) (hR : Srt lt key f m b) (hmid : 2 * mid ≤ a + b ∧ a + b ≤ 2 * mid + 1) (hm : a < m ∧ m < b) (hlo : lo = if mid < m then mid + m - b else a) (hr : r = if mid < m then mid else m) (h1 : lo ≤ s) (h2 : s ≤ r)
    (hno : ∀ c, lo ≤ c → c < s → lt (key (f (mid + m - 1 - c))) (key (f c)) = false) (hyes : ∀ c, s ≤ c → c < r → lt (key (f (mid + m - 1 - c))) (key (f c)) = true) : Cut lt key f a m b s (mid + m - s) := by
  have hls : a ≤ lo ∧ lo ≤ r ∧ r ≤ m ∧ r ≤ mid := by
    rw [hlo, hr]; split <;> omega
  have hend : m ≤ mid + m - s ∧ mid + m - s ≤ b := by
    refine ⟨by omega, ?_⟩
    rw [hlo] at h1; split at h1 <;> omega
  refine ⟨⟨by omega, by omega, hend.1, hend.2⟩, fun i j hi hi' hj hj' => ?_, fun i j hi hi' hj hj' => ?_⟩
  · have hsr : s < r := by
      rw [hr] at h2 ⊢; split at h2 <;> split <;> omega
    have hq := hyes s (Nat.le_refl _) hsr
    have a1 : lt (key (f i)) (key (f s)) = false := hL.le O (by omega) hi hi'
    have a2 : lt (key (f (mid + m - 1 - s))) (key (f j)) = false := hR.le O hj (by omega) (by omega)
    exact O.le_lt a2 (O.lt_le hq a1)
  · have hls' : lo < s := by
      rw [hlo] at h1 ⊢; split at h1 <;> split <;> omega
    have hq := hno (s - 1) (by omega) (by omega)
    have a1 : lt (key (f (s - 1))) (key (f i)) = false := hL.le O hi (by omega) (by omega)
    have a2 : lt (key (f j)) (key (f (mid + m - 1 - (s - 1)))) = false := hR.le O (by omega) (by omega) hj'
    exact O.le_trans a1 (O.le_trans hq a2)
/-- .. rotated, the two halves are for themselves -/
theorem Cut.rot [DecidableEq κ] (O : Ord lt) {f : Nat → α} {a m b mid s n : Nat} (h : Cut lt key f a m b s (mid + m - s)) (hL : Srt lt key f a m) (hR : Srt lt key f m b) (hsm : s ≤ mid) (hn : b ≤ n) :
    Srt lt key (rotF f s m (mid + m - s)) a s ∧ Srt lt key (rotF f s m (mid + m - s)) s mid ∧ Srt lt key (rotF f s m (mid + m - s)) mid (mid + m - s) ∧ Srt lt key (rotF f s m (mid + m - s)) (mid + m - s) b ∧ (∀ i j, a ≤ i → i < mid → mid ≤ j → j < b → lt (key (rotF f s m (mid + m - s) j)) (key (rotF f s m (mid + m - s) i)) = false) ∧ St key (seg f 0 n) (seg (rotF f s m (mid + m - s)) 0 n) := by
  obtain ⟨k1, k2, k3, k4⟩ := h.hs
  have low : ∀ k, k < s → rotF f s m (mid + m - s) k = f k := fun k hk => rot_low hk k2 k3
  have high : ∀ k, mid + m - s ≤ k → rotF f s m (mid + m - s) k = f k := fun k hk => rot_high hk k2 k3
  have mv : ∀ k, s ≤ k → k < mid → rotF f s m (mid + m - s) k = f (k + (m - s)) := fun k h1 h2 => rot_v h1 (by omega)
  have mu : ∀ k, mid ≤ k → k < mid + m - s → rotF f s m (mid + m - s) k = f (k - (mid - s)) := fun k h1 h2 => by rw [rot_u (by omega) h2]; congr 1; omega
  refine ⟨(hL.mono (Nat.le_refl _) k2).congr fun i _ hi => low i hi, fun p q hp hq hb => ?_, fun p q hp hq hb => ?_, (hR.mono k3 (Nat.le_refl _)).congr fun i hi _ => high i hi, fun i j hi hi' hj hj' => ?_, St.rot O k2 k3 (by omega) h.less⟩
  · rw [mv p hp (by omega), mv q (by omega) hb]; exact hR _ _ (by omega) (by omega) (by omega)
  · rw [mu p hp (by omega), mu q (by omega) hb]; exact hL _ _ (by omega) (by omega) (by omega)
  · by_cases e1 : i < s
    · rw [low i e1]
      by_cases e2 : j < mid + m - s
      · rw [mu j hj e2]; exact hL _ _ hi (by omega) (by omega)
      · rw [high j (by omega)]; exact h.apart i j hi e1 (by omega) hj'
    · rw [mv i (by omega) hi']
      by_cases e2 : j < mid + m - s
      · rw [mu j hj e2]; exact O.asymm (h.less _ _ (by omega) (by omega) (by omega) (by omega))
      · rw [high j (by omega)]; exact hR _ _ (by omega) (by omega) hj'
/-- two halves that are sorted, each for itself, and apart -/
theorem mrg_halves [DecidableEq κ] {f g1 g2 g : Nat → α} {a mid b n : Nat} (h0 : St key (seg f 0 n) (seg g1 0 n)) (ho : ∀ k, k < a ∨ b ≤ k → g1 k = f k) (hb : b ≤ n) (hm : a ≤ mid ∧ mid ≤ b) (hap : ∀ i j, a ≤ i → i < mid → mid ≤ j → j < b → lt (key (g1 j)) (key (g1 i)) = false)
    (h1 : Mrg lt key g1 g2 a mid n) (h2 : Mrg lt key g2 g mid b n) : Mrg lt key f g a b n := by
  refine ⟨fun k hk => ?_, fun p q hp hq hq' => ?_, (h0.trans h1.st).trans h2.st⟩
  · rw [h2.out k (by omega), h1.out k (by omega), ho k hk]
  · by_cases e1 : q < mid
    · rw [h2.out q (.inl e1), h2.out p (.inl (by omega))]; exact h1.srt p q hp hq e1
    · by_cases e2 : mid ≤ p
      · exact h2.srt p q e2 hq hq'
      · obtain ⟨j, hj, hj', ej⟩ := h2.st.part hm.2 hb h2.out q (by omega) hq'
        obtain ⟨i, hi, hi', ei⟩ := h1.st.part hm.1 (by omega) h1.out p hp (by omega)
        rw [ej, h1.out j (.inr hj), h2.out p (.inl (by omega)), ei]
        exact hap i j hi hi' hj hj'
theorem mrg_none [DecidableEq κ] {f : Nat → α} {a b n : Nat} (h : Srt lt key f a b) : Mrg lt key f f a b n := ⟨fun _ _ => rfl, h, St.refl _⟩
/-- two sorted blocks, of which one is empty, are one -/
theorem srt_join {f : Nat → α} {a s b : Nat} (h1 : Srt lt key f a s) (h2 : Srt lt key f s b) (h : s ≤ a ∨ b ≤ s) : Srt lt key f a b := by
  rcases h with h | h
  · exact h2.mono h (Nat.le_refl _)
  · exact h1.mono (Nat.le_refl _) h

/-- blocks of size z are sorted, those from the place c on alone up to n -/
def Bs (lt : κ → κ → Bool) (key : α → κ) (f : Nat → α) (z n : Nat) : Prop := ∀ k, Srt lt key f (k * z) (min (k * z + z) n)
/-- .. those of twice the size as far as the k-th, of the size itself behind it -/
structure Half (lt : κ → κ → Bool) (key : α → κ) (f : Nat → α) (z n k : Nat) : Prop where
  done : ∀ j, j < k → Srt lt key f (j * (2 * z)) (min (j * (2 * z) + 2 * z) n)
  todo : ∀ j, 2 * k ≤ j → Srt lt key f (j * z) (min (j * z + z) n)
theorem Bs.half {f : Nat → α} {z n : Nat} (h : Bs lt key f z n) : Half lt key f z n 0 := ⟨fun j hj => by omega, fun j _ => h j⟩
theorem dbl (k z : Nat) : 2 * k * z = k * (2 * z) := by rw [Nat.mul_comm 2 k, Nat.mul_assoc]
theorem mul_up (k z : Nat) : (k + 1) * z = k * z + z := Nat.succ_mul k z
theorem Half.left {f : Nat → α} {z n k : Nat} (h : Half lt key f z n k) (hz : k * (2 * z) + z ≤ n) : Srt lt key f (k * (2 * z)) (k * (2 * z) + z) := by
  have := h.todo (2 * k) (Nat.le_refl _)
  rw [dbl] at this
  exact this.mono (Nat.le_refl _) (by omega)
theorem Half.right {f : Nat → α} {z n k : Nat} (h : Half lt key f z n k) : Srt lt key f (k * (2 * z) + z) (min (k * (2 * z) + 2 * z) n) := by
  have := h.todo (2 * k + 1) (by omega)
  rw [mul_up, dbl] at this
  exact this.mono (Nat.le_refl _) (by omega)
theorem mul_le {j k : Nat} (z : Nat) (h : j ≤ k) : j * z ≤ k * z := Nat.mul_le_mul_right z h
theorem Half.next [DecidableEq κ] {f g : Nat → α} {z n k : Nat} (h : Half lt key f z n k) (hm : Mrg lt key f g (k * (2 * z)) (min (k * (2 * z) + 2 * z) n) n) : Half lt key g z n (k + 1) := by
  refine ⟨fun j hj => ?_, fun j hj => ?_⟩
  · by_cases e : j = k
    · subst e; exact hm.srt
    · refine (h.done j (by omega)).congr fun i hi hi' => hm.out i (.inl ?_)
      have := mul_le (2 * z) (show j + 1 ≤ k by omega)
      rw [mul_up] at this
      omega
  · refine (h.todo j (by omega)).congr fun i hi hi' => hm.out i (.inr ?_)
    have := mul_le z (show 2 * (k + 1) ≤ j by omega)
    rw [dbl, mul_up] at this
    omega
/-- at the end: what is left is one block, or none -/
theorem Half.fin {f : Nat → α} {z n k : Nat} (h : Half lt key f z n k) (hz : n ≤ k * (2 * z) + z) : Bs lt key f (2 * z) n := fun j => by
  by_cases e : j < k
  · exact h.done j e
  · by_cases e2 : j = k
    · subst e2
      have := h.todo (2 * j) (Nat.le_refl _)
      rw [dbl] at this
      exact this.mono (Nat.le_refl _) (by omega)
    · intro p q hp hq hb
      have := mul_le (2 * z) (show k + 1 ≤ j by omega)
      rw [mul_up] at this
      omega
theorem Half.fin' {f : Nat → α} {z n k : Nat} (h : Half lt key f z n (k + 1)) (hz : n ≤ k * (2 * z) + 2 * z) : Bs lt key f (2 * z) n := fun j => by
  by_cases e : j < k + 1
  · exact h.done j e
  · intro p q hp hq hb
    have := mul_le (2 * z) (show k + 1 ≤ j by omega)
    rw [mul_up] at this
    omega
/-- the first blocks, as far as the k-th -/
def Fst (lt : κ → κ → Bool) (key : α → κ) (f : Nat → α) (z k : Nat) : Prop := ∀ j, j < k → Srt lt key f (j * z) (j * z + z)
theorem Fst.next [DecidableEq κ] {f g : Nat → α} {z n k : Nat} (h : Fst lt key f z k) (hm : Mrg lt key f g (k * z) (k * z + z) n) : Fst lt key g z (k + 1) := fun j hj => by
  by_cases e : j = k
  · subst e; exact hm.srt
  · refine (h j (by omega)).congr fun i hi hi' => hm.out i (.inl ?_)
    have := mul_le z (show j + 1 ≤ k by omega)
    rw [mul_up] at this
    omega
theorem Fst.fin [DecidableEq κ] {f g : Nat → α} {z n k : Nat} (h : Fst lt key f z k) (hm : Mrg lt key f g (k * z) n n) (hz : n < k * z + z) : Bs lt key g z n := fun j => by
  by_cases e : j < k
  · refine ((h j e).mono (Nat.le_refl _) (Nat.min_le_left _ _)).congr fun i hi hi' => hm.out i (.inl ?_)
    have := mul_le z (show j + 1 ≤ k by omega)
    rw [mul_up] at this
    omega
  · by_cases e2 : j = k
    · subst e2; exact hm.srt.mono (Nat.le_refl _) (Nat.min_le_right _ _)
    · intro p q hp hq hb
      have := mul_le z (show k + 1 ≤ j by omega)
      rw [mul_up] at this
      omega
theorem Bs.all {f : Nat → α} {z n : Nat} (h : Bs lt key f z n) (hz : n ≤ z) : Srt lt key f 0 n := by
  have := h 0
  rw [Nat.zero_mul] at this
  exact this.mono (Nat.le_refl _) (by omega)

/-- an insertion: from a up to i + 1 all is sorted but for the place j -/
def InsI (lt : κ → κ → Bool) (key : α → κ) (f : Nat → α) (a i j : Nat) : Prop := ∀ p q, a ≤ p → p < q → q ≤ i → q ≠ j → lt (key (f q)) (key (f p)) = false
theorem InsI.start {f : Nat → α} {a i : Nat} (h : Srt lt key f a i) : InsI lt key f a i i := fun p q hp hq hi hne => h p q hp hq (by omega)
theorem InsI.next (O : Ord lt) {f : Nat → α} {a i j : Nat} (h : InsI lt key f a i (j + 1)) (ha : a ≤ j) (hj : j + 1 ≤ i) (hl : lt (key (f (j + 1))) (key (f j)) = true) : InsI lt key (two f j (j + 1)) a i j := by
  intro p q hp hq hi hne
  unfold two
  by_cases e1 : q = j + 1
  · rw [if_neg hne, if_pos e1]
    by_cases e2 : p = j
    · rw [if_pos e2]; exact O.asymm hl
    · rw [if_neg e2, if_neg (by omega)]; exact h p j hp (by omega) (by omega) (by omega)
  · rw [if_neg hne, if_neg e1]
    by_cases e2 : p = j
    · rw [if_pos e2]; exact h (j + 1) q (by omega) (by omega) hi e1
    · rw [if_neg e2]
      by_cases e3 : p = j + 1
      · rw [if_pos e3]; exact h j q ha (by omega) hi e1
      · rw [if_neg e3]; exact h p q hp hq hi e1
theorem InsI.end0 {f : Nat → α} {a i : Nat} (h : InsI lt key f a i a) : Srt lt key f a (i + 1) := fun p q hp hq hi => h p q hp hq (by omega) (by omega)
theorem InsI.end1 (O : Ord lt) {f : Nat → α} {a i j : Nat} (h : InsI lt key f a i (j + 1)) (ha : a ≤ j) (hl : lt (key (f (j + 1))) (key (f j)) = false) : Srt lt key f a (i + 1) := fun p q hp hq hi => by
  by_cases e : q = j + 1
  · subst e
    by_cases e2 : p = j
    · subst e2; exact hl
    · exact O.le_trans (h p j hp (by omega) (by omega) (by omega)) hl
  · exact h p q hp hq (by omega) e
theorem st_two [DecidableEq κ] (O : Ord lt) {f : Nat → α} {j n : Nat} (hj : j + 1 < n) (hl : lt (key (f (j + 1))) (key (f j)) = true) : St key (seg f 0 n) (seg (two f j (j + 1)) 0 n) := by
  rw [two_rot]
  exact St.rot O (by omega) (by omega) (by omega) fun p q h1 h2 h3 h4 => by
    have e1 : p = j := by omega
    have e2 : q = j + 1 := by omega
    subst e1 e2; exact hl
theorem two_out {f : Nat → α} {p q k : Nat} (h1 : k ≠ p) (h2 : k ≠ q) : two f p q k = f k := by unfold two; rw [if_neg h1, if_neg h2]
/-- a shift by one, place by place: up and down -/
theorem rot_upw {f : Nat → α} {a k : Nat} (h : a ≤ k) : two (rotF f a (a + 1) (k + 1)) k (k + 1) = rotF f a (a + 1) (k + 2) := by
  funext k; unfold two rotF
  (repeat' split) <;> first | rfl | (exfalso; omega) | (congr 1; omega)
theorem rot_0 (f : Nat → α) (a : Nat) : rotF f a (a + 1) (a + 1) = f := by
  funext k; unfold rotF
  (repeat' split) <;> first | rfl | (exfalso; omega) | (congr 1; omega)
theorem rot_00 (f : Nat → α) (m : Nat) : rotF f m m (m + 1) = f := by
  funext k; unfold rotF
  (repeat' split) <;> first | rfl | (exfalso; omega) | (congr 1; omega)
theorem rot_dn {f : Nat → α} {m k : Nat} (h : k < m) : two (rotF f (k + 1) m (m + 1)) k (k + 1) = rotF f k m (m + 1) := by
  funext k; unfold two rotF
  (repeat' split) <;> first | rfl | (exfalso; omega) | (congr 1; omega)
open Go.Proofs.Ytcopckbpflmmeab.Labs Go.Proofs.Ytcopckbpflmmeab.LabL
open Go.Proofs.Ytcopckbpflmmeab.LabN (sl_irrefl sl_total)
theorem ll_trans {x y z : Lab} (h : llB x y = true) (k : llB y z = true) : llB x z = true := by
  by_cases e1 : x.1 = y.1
  · rw [llB_eq e1] at h
    by_cases e2 : y.1 = z.1
    · rw [llB_eq e2] at k
      rw [llB_eq (e1.trans e2)]; exact LabV.lessB_trans h k
    · rw [llB_ne e2] at k
      rw [llB_ne (by rw [e1]; exact e2), e1]; exact k
  · rw [llB_ne e1] at h
    by_cases e2 : y.1 = z.1
    · rw [llB_ne (by rw [← e2]; exact e1), ← e2]; exact h
    · rw [llB_ne e2] at k
      have := LabV.lessB_trans h k
      rw [llB_ne (LabV.lessB_ne this)]; exact this
theorem ll_asym {x y : Lab} (h : llB x y = true) (k : llB y x = true) : False := by
  by_cases e1 : x.1 = y.1
  · rw [llB_eq e1] at h
    rw [llB_eq e1.symm] at k
    rw [LabV.lessB_asymm h] at k; cases k
  · rw [llB_ne e1] at h
    rw [llB_ne (Ne.symm e1)] at k
    rw [LabV.lessB_asymm h] at k; cases k
theorem sl_trans : ∀ {l m k : List Lab}, slB l m = true → slB m k = true → slB l k = true
  | [], m, k, h, h' => by
    cases k with
    | nil => cases m with
      | nil => simp [slB] at h
      | cons y m => simp [slB] at h'
    | cons z k => simp [slB]
  | x :: l, [], k, h, h' => by simp [slB] at h
  | x :: l, y :: m, [], h, h' => by simp [slB] at h'
  | x :: l, y :: m, z :: k, h, h' => by
    rw [slB] at h h' ⊢
    by_cases e1 : x = y
    · rw [if_pos e1] at h
      by_cases e2 : y = z
      · rw [if_pos e2] at h'
        rw [if_pos (e1.trans e2)]; exact sl_trans h h'
      · rw [if_neg e2] at h'
        rw [if_neg (by rw [e1]; exact e2), e1]; exact h'
    · rw [if_neg e1] at h
      by_cases e2 : y = z
      · rw [if_neg (by rw [← e2]; exact e1), ← e2]; exact h
      · rw [if_neg e2] at h'
        have ht := ll_trans h h'
        rw [if_neg (fun e => by subst e; exact ll_asym h h')]; exact ht
theorem ordL : Ord slB := ⟨sl_irrefl, sl_trans, fun {a b} h1 h2 => by
  by_cases e : a = b
  · exact e
  · have := sl_total e
    rw [h1, h2] at this; cases this⟩
end Go.Proofs.Ytcopckbpflmmeab.Stb
