/-
  Plain heaps of pairs of numbers: what is put goes up, what is taken lets the last one go down; each keeps the heap and all that is in it; taken one behind the other they stand in order.
-/
namespace Go.Proofs.Ytcjhieknmblbbaa.Hp
set_option linter.unusedVariables false
abbrev Tm := Int × Int
def befB (x y : Tm) : Bool := decide (x.1 < y.1) || (decide (x.1 = y.1) && decide (x.2 < y.2))
/-- x is not behind y -/
def le (x y : Tm) : Prop := befB y x = false
theorem bef_iff {x y : Tm} : befB x y = true ↔ x.1 < y.1 ∨ (x.1 = y.1 ∧ x.2 < y.2) := by simp [befB]
theorem le_iff {x y : Tm} : le x y ↔ x.1 < y.1 ∨ (x.1 = y.1 ∧ x.2 ≤ y.2) := by
  unfold le; rw [← Bool.not_eq_true, bef_iff]; omega
theorem le_refl (x : Tm) : le x x := le_iff.2 (by omega)
theorem le_trans {x y z : Tm} (h : le x y) (k : le y z) : le x z := by rw [le_iff] at *; omega
theorem le_total (x y : Tm) : le x y ∨ le y x := by rw [le_iff, le_iff]; omega
theorem le_antisymm {x y : Tm} (h : le x y) (k : le y x) : x = y := by
  rw [le_iff] at *; exact Prod.ext (by omega) (by omega)
theorem le_of_bef {x y : Tm} (h : befB x y = true) : le x y := by rw [bef_iff] at h; rw [le_iff]; omega
theorem bef_irr (x : Tm) : befB x x = false := by rw [← Bool.not_eq_true, bef_iff]; omega
theorem bef_asym {x y : Tm} (h : befB x y = true) : befB y x = false := by rw [bef_iff] at h; rw [← Bool.not_eq_true, bef_iff]; omega
def nthT (l : List Tm) (i : Nat) : Tm := l.getD i (0, 0)
theorem nth_lt {l : List Tm} {i : Nat} (h : i < l.length) : nthT l i = l[i] := by simp [nthT, h]
theorem nth_mem {l : List Tm} {i : Nat} (h : i < l.length) : nthT l i ∈ l := by rw [nth_lt h]; exact List.getElem_mem h
theorem nth_set {l : List Tm} {i j : Nat} {x : Tm} (h : i < l.length) : nthT (l.set i x) j = if i = j then x else nthT l j := by
  unfold nthT
  rw [List.getD_eq_getElem?_getD, List.getD_eq_getElem?_getD, List.getElem?_set]
  split <;> simp_all
theorem nth_app_lt {l m : List Tm} {i : Nat} (h : i < l.length) : nthT (l ++ m) i = nthT l i := by
  unfold nthT; simp [List.getElem?_append_left h]
theorem nth_app_eq {l : List Tm} {x : Tm} : nthT (l ++ [x]) l.length = x := by unfold nthT; simp
theorem nth_drop_last {l : List Tm} {i : Nat} (h : i < l.length - 1) : nthT l.dropLast i = nthT l i := by
  rw [nth_lt (by simp; exact h), nth_lt (by omega)]; exact List.getElem_dropLast _
theorem ext_nth {l m : List Tm} (h : l.length = m.length) (k : ∀ i, i < l.length → nthT l i = nthT m i) : l = m := by
  apply List.ext_getElem h
  intro i h1 h2
  rw [← nth_lt h1, ← nth_lt h2]; exact k i h1
/-- two places changed -/
def swp (l : List Tm) (i j : Nat) : List Tm := (l.set i (nthT l j)).set j (nthT l i)
theorem swp_len (l : List Tm) (i j : Nat) : (swp l i j).length = l.length := by simp [swp]
theorem swp_nth {l : List Tm} {i j k : Nat} (hi : i < l.length) (hj : j < l.length) : nthT (swp l i j) k = if j = k then nthT l i else if i = k then nthT l j else nthT l k := by
  unfold swp; rw [nth_set (by simpa using hj), nth_set hi]
theorem swp_perm {l : List Tm} {i j : Nat} (hi : i < l.length) (hj : j < l.length) : (swp l i j).Perm l := by
  unfold swp; rw [nth_lt hi, nth_lt hj]; exact List.set_set_perm hi hj
def par (i : Nat) : Nat := (i - 1) / 2
/-- what comes last goes up -/
def up (l : List Tm) (i : Nat) : List Tm :=
  if h : 0 < i ∧ befB (nthT l i) (nthT l (par i)) = true then up (swp l i (par i)) (par i) else l
termination_by i
decreasing_by unfold par; omega
theorem up_go {l : List Tm} {i : Nat} (h : 0 < i) (k : befB (nthT l i) (nthT l (par i)) = true) : up l i = up (swp l i (par i)) (par i) := by
  rw [up, dif_pos ⟨h, k⟩]
theorem up_stop {l : List Tm} {i : Nat} (h : ¬ (0 < i ∧ befB (nthT l i) (nthT l (par i)) = true)) : up l i = l := by
  rw [up, dif_neg h]
theorem up_len (l : List Tm) (i : Nat) : (up l i).length = l.length := by
  induction i using Nat.strongRecOn generalizing l with
  | ind i ih =>
    by_cases h : 0 < i ∧ befB (nthT l i) (nthT l (par i)) = true
    · rw [up_go h.1 h.2, ih (par i) (by have := h.1; unfold par; omega), swp_len]
    · rw [up_stop h]
theorem up_perm (l : List Tm) (i : Nat) (hi : i < l.length) : (up l i).Perm l := by
  induction i using Nat.strongRecOn generalizing l with
  | ind i ih =>
    by_cases h : 0 < i ∧ befB (nthT l i) (nthT l (par i)) = true
    · have hp : par i < i := by have := h.1; unfold par; omega
      rw [up_go h.1 h.2]
      exact (ih (par i) hp _ (by rw [swp_len]; omega)).trans (swp_perm hi (by omega))
    · rw [up_stop h]
/-- each one is not ahead of the one at its half -/
def Heap (l : List Tm) : Prop := ∀ i, 0 < i → i < l.length → le (nthT l (par i)) (nthT l i)
/-- a heap but for the place i, whose children are right below its parent -/
def UpI (l : List Tm) (i : Nat) : Prop :=
  (∀ j, 0 < j → j < l.length → j ≠ i → le (nthT l (par j)) (nthT l j)) ∧ (0 < i → ∀ j, 0 < j → j < l.length → par j = i → le (nthT l (par i)) (nthT l j))
theorem up_heap {l : List Tm} {i : Nat} (hi : i < l.length) (h : UpI l i) : Heap (up l i) := by
  induction i using Nat.strongRecOn generalizing l with
  | ind i ih =>
    by_cases hb : 0 < i ∧ befB (nthT l i) (nthT l (par i)) = true
    · obtain ⟨h0, hb⟩ := hb
      have hp : par i < i := by unfold par; omega
      rw [up_go h0 hb]
      refine ih (par i) hp (by rw [swp_len]; omega) ⟨fun j j0 jl jn => ?_, fun p0 j j0 jl jp => ?_⟩
      · rw [swp_len] at jl
        rw [swp_nth hi (by omega), swp_nth hi (by omega)]
        rw [if_neg (show ¬ par i = j from fun e => jn e.symm)]
        by_cases e1 : par i = par j
        · rw [if_pos e1]
          by_cases e2 : i = j
          · rw [if_pos e2]; exact le_of_bef hb
          · rw [if_neg e2]
            have := h.1 j j0 jl (fun e => e2 e.symm)
            rw [← e1] at this
            exact le_trans (le_of_bef hb) this
        · rw [if_neg e1]
          by_cases e2 : i = par j
          · have e3 : i ≠ j := by have : par j < j := by unfold par; omega
                                  omega
            rw [if_pos e2, if_neg e3]
            exact h.2 h0 j j0 jl e2.symm
          · rw [if_neg e2]
            by_cases e3 : i = j
            · exact absurd (by rw [e3]) e1
            · rw [if_neg e3]; exact h.1 j j0 jl (fun e => e3 e.symm)
      · rw [swp_len] at jl
        have hpp : par (par i) < par i := by unfold par at *; omega
        rw [swp_nth hi (by omega), swp_nth hi (by omega)]
        rw [if_neg (by omega), if_neg (by omega)]
        have hj : j ≠ par i := by have : par j < j := by unfold par; omega
                                  omega
        rw [if_neg (fun e => hj e.symm)]
        have hq := h.1 (par i) p0 (by omega) (by omega)
        by_cases e2 : i = j
        · rw [if_pos e2]; exact hq
        · rw [if_neg e2]
          have := h.1 j j0 jl (fun e => e2 e.symm)
          rw [jp] at this
          exact le_trans hq this
    · rw [up_stop hb]
      intro j j0 jl
      by_cases e : j = i
      · subst e
        unfold le
        rw [← Bool.not_eq_true]
        exact fun hh => hb ⟨j0, hh⟩
      · exact h.1 j j0 jl e
def putT (l : List Tm) (t : Tm) : List Tm := up (l ++ [t]) l.length
theorem put_len (l : List Tm) (t : Tm) : (putT l t).length = l.length + 1 := by unfold putT; rw [up_len]; simp
theorem put_perm (l : List Tm) (t : Tm) : (putT l t).Perm (l ++ [t]) := up_perm _ _ (by simp)
theorem put_heap {l : List Tm} {t : Tm} (h : Heap l) : Heap (putT l t) := by
  refine up_heap (by simp) ⟨fun j j0 jl jn => ?_, fun i0 j j0 jl jp => ?_⟩
  · have jl' : j < l.length := by simp at jl; omega
    rw [nth_app_lt jl', nth_app_lt (by unfold par; omega)]
    exact h j j0 jl'
  · exfalso
    simp at jl
    unfold par at jp; omega
/-- the lesser one of the two below -/
def kid (l : List Tm) (i : Nat) : Nat := if 2 * i + 2 < l.length ∧ befB (nthT l (2 * i + 2)) (nthT l (2 * i + 1)) = true then 2 * i + 2 else 2 * i + 1
theorem kid_cases (l : List Tm) (i : Nat) : (kid l i = 2 * i + 1 ∨ (kid l i = 2 * i + 2 ∧ 2 * i + 2 < l.length)) := by unfold kid; split <;> simp_all
theorem kid_lt {l : List Tm} {i : Nat} (h : 2 * i + 1 < l.length) : kid l i < l.length := by rcases kid_cases l i with h1 | h1 <;> omega
theorem kid_gt (l : List Tm) (i : Nat) : i < kid l i := by rcases kid_cases l i with h1 | h1 <;> omega
theorem kid_par (l : List Tm) (i : Nat) : par (kid l i) = i := by unfold par; rcases kid_cases l i with h1 | h1 <;> omega
theorem kid_le {l : List Tm} {i j : Nat} (j0 : 0 < j) (hj : j < l.length) (hp : par j = i) : le (nthT l (kid l i)) (nthT l j) := by
  have h2 : j = 2 * i + 1 ∨ j = 2 * i + 2 := by unfold par at hp; omega
  unfold kid
  split
  · rename_i h
    rcases h2 with rfl | rfl
    · exact le_of_bef h.2
    · exact le_refl _
  · rename_i h
    rcases h2 with rfl | rfl
    · exact le_refl _
    · unfold le; rw [← Bool.not_eq_true]; exact fun hh => h ⟨hj, hh⟩
/-- what came first goes down -/
def down (l : List Tm) (i : Nat) : List Tm :=
  if h : 2 * i + 1 < l.length ∧ befB (nthT l (kid l i)) (nthT l i) = true then down (swp l i (kid l i)) (kid l i) else l
termination_by l.length - i
decreasing_by rw [swp_len]; have := kid_gt l i; omega
theorem down_go {l : List Tm} {i : Nat} (h : 2 * i + 1 < l.length) (k : befB (nthT l (kid l i)) (nthT l i) = true) : down l i = down (swp l i (kid l i)) (kid l i) := by
  rw [down, dif_pos ⟨h, k⟩]
theorem down_stop {l : List Tm} {i : Nat} (h : ¬ (2 * i + 1 < l.length ∧ befB (nthT l (kid l i)) (nthT l i) = true)) : down l i = l := by
  rw [down, dif_neg h]
theorem down_len (l : List Tm) (i : Nat) : (down l i).length = l.length := by
  induction hm : l.length - i using Nat.strongRecOn generalizing l i with
  | ind m ih =>
    by_cases h : 2 * i + 1 < l.length ∧ befB (nthT l (kid l i)) (nthT l i) = true
    · rw [down_go h.1 h.2, ih (l.length - kid l i) (by have := kid_gt l i; omega) _ _ (by rw [swp_len]), swp_len]
    · rw [down_stop h]
theorem down_perm (l : List Tm) (i : Nat) : (down l i).Perm l := by
  induction hm : l.length - i using Nat.strongRecOn generalizing l i with
  | ind m ih =>
    by_cases h : 2 * i + 1 < l.length ∧ befB (nthT l (kid l i)) (nthT l i) = true
    · rw [down_go h.1 h.2]
      exact (ih (l.length - kid l i) (by have := kid_gt l i; omega) _ _ (by rw [swp_len])).trans (swp_perm (by omega) (kid_lt h.1))
    · rw [down_stop h]
def DnI (l : List Tm) (i : Nat) : Prop :=
  (∀ j, 0 < j → j < l.length → par j ≠ i → le (nthT l (par j)) (nthT l j)) ∧ (0 < i → ∀ j, 0 < j → j < l.length → par j = i → le (nthT l (par i)) (nthT l j))
theorem down_heap {l : List Tm} {i : Nat} (h : DnI l i) : Heap (down l i) := by
  induction hm : l.length - i using Nat.strongRecOn generalizing l i with
  | ind m ih =>
    by_cases hb : 2 * i + 1 < l.length ∧ befB (nthT l (kid l i)) (nthT l i) = true
    · obtain ⟨h0, hb⟩ := hb
      have hk := kid_lt h0
      have hg := kid_gt l i
      have hp := kid_par l i
      rw [down_go h0 hb]
      refine ih (l.length - kid l i) (by omega) ⟨fun j j0 jl jn => ?_, fun k0 j j0 jl jp => ?_⟩ (by rw [swp_len])
      · rw [swp_len] at jl
        rw [swp_nth (by omega) hk, swp_nth (by omega) hk]
        have jpl : par j < j := by unfold par; omega
        rw [if_neg (fun e => jn e.symm)]
        by_cases e1 : i = par j
        · rw [if_pos e1]
          by_cases e2 : kid l i = j
          · rw [if_pos e2]; exact le_of_bef hb
          · rw [if_neg e2, if_neg (by omega)]
            exact kid_le j0 jl e1.symm
        · rw [if_neg e1]
          have e2 : kid l i ≠ j := fun e => e1 (by rw [← e, hp])
          rw [if_neg e2]
          by_cases e3 : i = j
          · rw [if_pos e3]
            have := h.2 (by omega) (kid l i) (by omega) hk hp
            rw [← e3]; exact this
          · rw [if_neg e3]; exact h.1 j j0 jl (fun e => e1 e.symm)
      · rw [swp_len] at jl
        have jpl : par j < j := by unfold par; omega
        rw [hp, swp_nth (by omega) hk, swp_nth (by omega) hk]
        rw [if_neg (by omega), if_pos rfl, if_neg (by omega), if_neg (by omega)]
        have := h.1 j j0 jl (by omega)
        rw [jp] at this
        exact this
    · rw [down_stop hb]
      intro j j0 jl
      by_cases e : par j = i
      · have hl : 2 * i + 1 < l.length := by unfold par at e; omega
        have h1 : le (nthT l i) (nthT l (kid l i)) := by
          unfold le; rw [← Bool.not_eq_true]; exact fun hh => hb ⟨hl, hh⟩
        rw [e]
        exact le_trans h1 (kid_le j0 jl e)
      · exact h.1 j j0 jl e
/-- what is left, as a list: the last one in the first one's place -/
def base (l : List Tm) : List Tm := if 1 < l.length then l.dropLast.set 0 (nthT l (l.length - 1)) else []
def takeT (l : List Tm) : List Tm := down (base l) 0
theorem base_len (l : List Tm) : (base l).length = l.length - 1 := by unfold base; split <;> simp; omega
theorem take_len (l : List Tm) : (takeT l).length = l.length - 1 := by unfold takeT; rw [down_len, base_len]
theorem base_nth {l : List Tm} {i : Nat} (h : i < l.length - 1) : nthT (base l) i = if i = 0 then nthT l (l.length - 1) else nthT l i := by
  unfold base
  rw [if_pos (by omega), nth_set (by simp; omega)]
  by_cases e : i = 0
  · rw [if_pos e.symm, if_pos e]
  · rw [if_neg (fun h => e h.symm), if_neg e, nth_drop_last h]
theorem base_perm {l : List Tm} (h : l ≠ []) : (nthT l 0 :: base l).Perm l := by
  match l, h with
  | [x], _ => exact List.Perm.refl _
  | x :: y :: m, _ =>
    have h1 : base (x :: y :: m) = nthT (y :: m) m.length :: (y :: m).dropLast := by
      unfold base; rw [if_pos (by simp)]; simp [nthT]
    have h2 : (y :: m).dropLast ++ [nthT (y :: m) m.length] = y :: m := by
      have := List.dropLast_concat_getLast (l := y :: m) (by simp)
      rw [List.getLast_eq_getElem] at this
      rw [nth_lt (by simp)]
      exact this
    rw [h1]
    refine List.Perm.cons x ?_
    have h3 : (nthT (y :: m) m.length :: (y :: m).dropLast).Perm ((y :: m).dropLast ++ [nthT (y :: m) m.length]) := List.perm_append_comm (l₁ := [_])
    rw [h2] at h3
    exact h3
theorem take_perm {l : List Tm} (h : l ≠ []) : (nthT l 0 :: takeT l).Perm l := ((down_perm _ _).cons _).trans (base_perm h)
theorem take_heap {l : List Tm} (h : Heap l) : Heap (takeT l) := by
  refine down_heap ⟨fun j j0 jl jp => ?_, fun k0 => absurd k0 (by omega)⟩
  rw [base_len] at jl
  have jpl : par j < j := by unfold par; omega
  rw [base_nth jl, base_nth (by omega), if_neg jp, if_neg (by omega)]
  exact h j j0 (by omega)
theorem heap_least {l : List Tm} (h : Heap l) (i : Nat) (hi : i < l.length) : le (nthT l 0) (nthT l i) := by
  induction i using Nat.strongRecOn with
  | ind i ih =>
    by_cases e : i = 0
    · rw [e]; exact le_refl _
    · have hp : par i < i := by unfold par; omega
      exact le_trans (ih (par i) hp (by omega)) (h i (by omega) hi)
theorem heap_min {l : List Tm} (h : Heap l) {x : Tm} (hx : x ∈ l) : le (nthT l 0) x := by
  obtain ⟨i, hi, rfl⟩ := List.getElem_of_mem hx
  rw [← nth_lt hi]; exact heap_least h i hi
def sortN : Nat → List Tm → List Tm
  | 0, _ => []
  | k + 1, l => nthT l 0 :: sortN k (takeT l)
def sortT (l : List Tm) : List Tm := sortN l.length l
theorem sort_len (k : Nat) (l : List Tm) : (sortN k l).length = k := by
  induction k generalizing l with
  | zero => rfl
  | succ k ih => simp [sortN, ih]
theorem sort_cons {l : List Tm} (h : l ≠ []) : sortT l = nthT l 0 :: sortT (takeT l) := by
  unfold sortT
  have : l.length = (l.length - 1) + 1 := by have := List.length_pos_iff.2 h; omega
  rw [this, sortN, take_len]
theorem sort_perm (l : List Tm) : (sortT l).Perm l := by
  induction hm : l.length using Nat.strongRecOn generalizing l with
  | ind m ih =>
    by_cases h : l = []
    · subst h; exact List.Perm.refl _
    · rw [sort_cons h]
      have hl := List.length_pos_iff.2 h
      exact ((ih (l.length - 1) (by omega) _ (take_len l)).cons _).trans (take_perm h)
theorem sort_sorted {l : List Tm} (h : Heap l) : (sortT l).Pairwise le := by
  induction hm : l.length using Nat.strongRecOn generalizing l with
  | ind m ih =>
    by_cases e : l = []
    · subst e; exact List.Pairwise.nil
    · rw [sort_cons e]
      have hl := List.length_pos_iff.2 e
      refine List.Pairwise.cons (fun x hx => ?_) (ih (l.length - 1) (by omega) (take_heap h) (take_len l))
      have h1 : x ∈ takeT l := (sort_perm _).mem_iff.1 hx
      exact heap_min h ((take_perm e).mem_iff.1 (List.mem_cons_of_mem _ h1))
/-- put one behind the other -/
def putAll (l m : List Tm) : List Tm := m.foldl putT l
theorem putAll_heap {l : List Tm} (h : Heap l) (m : List Tm) : Heap (putAll l m) := by
  induction m generalizing l with
  | nil => exact h
  | cons x m ih => exact ih (put_heap h)
theorem putAll_perm (l m : List Tm) : (putAll l m).Perm (l ++ m) := by
  induction m generalizing l with
  | nil => simp [putAll]
  | cons x m ih =>
    have := (ih (putT l x)).trans ((put_perm l x).append_right m)
    rw [List.append_assoc] at this
    exact this
theorem heap_nil : Heap [] := fun i h k => absurd k (by simp)
def keepN (l : List Tm) (n : Int) : List Tm := l.filter fun t => decide (t.2 ≠ n)
def dropT (l : List Tm) (n : Int) : List Tm := putAll [] (keepN l n)
theorem drop_heap (l : List Tm) (n : Int) : Heap (dropT l n) := putAll_heap heap_nil _
theorem drop_perm (l : List Tm) (n : Int) : (dropT l n).Perm (keepN l n) := by have := putAll_perm [] (keepN l n); rw [List.nil_append] at this; exact this
theorem drop_len (l : List Tm) (n : Int) : (dropT l n).length = l.length - l.countP fun t => decide (t.2 = n) := by
  rw [(drop_perm l n).length_eq, keepN, ← List.countP_eq_length_filter]
  have := List.length_eq_countP_add_countP (fun t : Tm => decide (t.2 = n)) (l := l)
  have h2 : List.countP (fun t : Tm => decide ¬decide (t.2 = n) = true) l = List.countP (fun t : Tm => decide (t.2 ≠ n)) l := by congr 1; funext t; simp
  omega
/-- right, as the program tests it -/
def heapB (l : List Tm) : Bool := (List.range l.length).all fun i => decide (0 ≤ (nthT l i).1) && decide (0 ≤ (nthT l i).2) && (decide (i = 0) || !befB (nthT l i) (nthT l (par i)))
theorem heapB_iff (l : List Tm) : heapB l = true ↔ (∀ t ∈ l, 0 ≤ t.1 ∧ 0 ≤ t.2) ∧ Heap l := by
  unfold heapB
  rw [List.all_eq_true]
  constructor
  · intro h
    refine ⟨fun t ht => ?_, fun i i0 il => ?_⟩
    · obtain ⟨i, hi, rfl⟩ := List.getElem_of_mem ht
      have := h i (List.mem_range.2 hi)
      rw [nth_lt hi] at this
      simp at this
      exact ⟨this.1.1, this.1.2⟩
    · have := h i (List.mem_range.2 il)
      simp at this
      rcases this.2 with e | e
      · omega
      · exact e
  · rintro ⟨h1, h2⟩ i hi
    have hi := List.mem_range.1 hi
    have h3 := h1 _ (nth_mem hi)
    simp only [Bool.and_eq_true, decide_eq_true_eq, Bool.or_eq_true, Bool.not_eq_true']
    refine ⟨⟨h3.1, h3.2⟩, ?_⟩
    by_cases e : i = 0
    · exact .inl e
    · exact .inr (h2 i (by omega) hi)
theorem sort_adj {l : List Tm} (h : Heap l) {i : Nat} (h0 : 0 < i) (hi : i < (sortT l).length) : befB (nthT (sortT l) i) (nthT (sortT l) (i - 1)) = false := by
  have := List.pairwise_iff_getElem.1 (sort_sorted h) (i - 1) i (by omega) hi (by omega)
  rw [nth_lt hi, nth_lt (show i - 1 < (sortT l).length by omega)]; exact this
/-- how many of the first m are v -/
def cntT (l : List Tm) (m : Nat) (v : Tm) : Nat := (l.take m).countP fun t => decide (t = v)
def nB (l : List Tm) (m : Nat) (n : Int) : Nat := (l.take m).countP fun t => decide (t.2 = n)
theorem take_up {l : List Tm} {m : Nat} (h : m < l.length) : l.take (m + 1) = l.take m ++ [nthT l m] := by rw [nth_lt h, List.take_append_getElem]
theorem cnt_up {l : List Tm} {m : Nat} (h : m < l.length) (v : Tm) : cntT l (m + 1) v = cntT l m v + (if nthT l m = v then 1 else 0) := by
  unfold cntT; rw [take_up h, List.countP_append]; simp [List.countP_cons]
theorem nB_up {l : List Tm} {m : Nat} (h : m < l.length) (n : Int) : nB l (m + 1) n = nB l m n + (if (nthT l m).2 = n then 1 else 0) := by
  unfold nB; rw [take_up h, List.countP_append]; simp [List.countP_cons]
theorem cnt_le (l : List Tm) (m : Nat) (v : Tm) : cntT l m v ≤ m := by
  unfold cntT; exact Nat.le_trans List.countP_le_length (by simp; omega)
theorem nB_le (l : List Tm) (m : Nat) (n : Int) : nB l m n ≤ m := by
  unfold nB; exact Nat.le_trans List.countP_le_length (by simp; omega)
theorem cnt_same {l m : List Tm} (h : l.Perm m) (v : Tm) : cntT l l.length v = cntT m m.length v := by
  unfold cntT; rw [List.take_length, List.take_length]; exact h.countP_eq _
theorem nB_same {l m : List Tm} (h : l.Perm m) (n : Int) : nB l l.length n = nB m m.length n := by
  unfold nB; rw [List.take_length, List.take_length]; exact h.countP_eq _
theorem drop_len_nB (l : List Tm) (n : Int) : (dropT l n).length = l.length - nB l l.length n := by
  rw [drop_len]; unfold nB; rw [List.take_length]
theorem all_put {Q : Tm → Prop} {l : List Tm} {t : Tm} (h : ∀ x ∈ l, Q x) (ht : Q t) : ∀ x ∈ putT l t, Q x := fun x hx => by
  have := (put_perm l t).mem_iff.1 hx
  rw [List.mem_append, List.mem_singleton] at this
  rcases this with k | rfl
  · exact h x k
  · exact ht
theorem all_take {Q : Tm → Prop} {l : List Tm} (h : ∀ x ∈ l, Q x) : ∀ x ∈ takeT l, Q x := fun x hx => by
  by_cases e : l = []
  · subst e
    have := take_len []
    have : takeT [] = [] := List.eq_nil_of_length_eq_zero this
    rw [this] at hx; exact absurd hx (by simp)
  · exact h x ((take_perm e).mem_iff.1 (List.mem_cons_of_mem _ hx))
theorem all_drop {Q : Tm → Prop} {l : List Tm} (n : Int) (h : ∀ x ∈ l, Q x) : ∀ x ∈ dropT l n, Q x := fun x hx =>
  h x (List.mem_filter.1 ((drop_perm l n).mem_iff.1 hx)).1
theorem put_ne (l : List Tm) (t : Tm) : putT l t ≠ [] := fun e => by have := put_len l t; rw [e] at this; simp at this
end Go.Proofs.Ytcjhieknmblbbaa.Hp
