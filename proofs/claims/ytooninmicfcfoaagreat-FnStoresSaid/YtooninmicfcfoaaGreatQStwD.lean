/-
  What a law over drawn inputs begins with: the code that came in as a row of bytes; laws.big; the order of bytes is total.
  The order of lists of labels is total and strict. No program is spoken of.
  Plain lists of labels: a set in order stays as it is when it is sorted; in what SortSet answers each label's value is found by its name. No program is spoken of.
  Plain rows and their stable sort: a rotation of two neighbouring blocks, of which the right one is less throughout, keeps the order of equals; the library's merge in place (symmetric: a search by halves, a rotation, two lesser merges); two sorted rows that keep the order of equals are one. No program is spoken of.
  PROVED: the function that sortedBy hands to the library's sort compares two alarms by their labels; a row of alarms while it is sorted: what it holds, two of them exchanged.
  PROVED: the library's exchange of two ranges, and its rotation of two neighbouring blocks, over a row of alarms: what the plain functions swapF and rotF say.
  PROVED: the library's merge in place of two sorted neighbouring blocks of a row of alarms, one of which has one element: both together are sorted then, equals in their order, and all else is as it was.
-/
import Derived.Test.YtooninmicfcfoaaGreatQDrawW
import Derived.ProofKit
import Derived.OpenShut
import Derived.Test.YtooninmicfcfoaaGreatQLabL
import Derived.Test.YtooninmicfcfoaaGreatQLabR
import Derived.Test.YtooninmicfcfoaaGreatQChnC
set_option linter.unusedVariables false
namespace Go.Proofs.YtooninmicfcfoaaGreat.LawB
open Go.RowKit Draw
open Go.ChangeShapes Go.WideShapes Go.ChangeAt

def IsRow (k : IntKind) (w : World) (a : Option Addr) (len cap : Nat) (zs : List Int) : Prop :=
  (a = none ∧ len = 0 ∧ cap = 0 ∧ zs = []) ∨
  ∃ x, a = some x ∧ len ≤ cap ∧ cap ≤ maxLen ∧ zs.length = cap ∧ (∀ i, i < zs.length → w.cell? (x.add i) = some (.int k (zs.getD i 0))) ∧ ∀ n ∈ zs, (Lit.int k n).wf = true

theorem block_lt {w : World} {x : Addr} {v : Value} (h : w.cell? x = some v) : x.block < w.heap.size := by
  by_cases hb : x.block < w.heap.size
  · exact hb
  · have : w.heap[x.block]? = none := by simp; omega
    simp [World.cell?, this] at h

theorem bytes_of {w : World} {a : Option Addr} {len cap : Nat} {zs : List Int} (h : IsRow .u8 w a len cap zs) : len ≤ maxLen ∧ Bytes w a len w.heap.size := by
  rcases h with ⟨rfl, rfl, rfl, rfl⟩ | ⟨x, rfl, hl, hm, hz, hc, hs⟩
  · exact ⟨by simp, .inl rfl⟩
  · refine ⟨by omega, ?_⟩
    by_cases h0 : len = 0
    · exact .inl h0
    · obtain ⟨b, off, spot⟩ := x
      have h00 := hc 0 (by omega)
      have hspot : spot = none := by simpa [Addr.add] using World.cell?_spot h00
      subst hspot
      refine .inr ⟨b, off, rfl, block_lt (x := ⟨b, off, none⟩) (by simpa [Addr.add] using h00), fun i hi => ?_⟩
      have hii := hc i (by omega)
      have ea : (⟨b, off, none⟩ : Addr).add i = ⟨b, off + i, none⟩ := by by_cases h : i = 0 <;> simp [Addr.add, h]
      rw [ea] at hii
      have hi' : i < zs.length := by omega
      have hw := hs (zs.getD i 0) (by rw [List.getD_eq_getElem?_getD, List.getElem?_eq_getElem hi']; exact List.getElem_mem _)
      have hbd := bounds_u8 hw
      exact ⟨_, hii, hbd.1, hbd.2⟩

theorem bytes_up {w w' : World} {a : Option Addr} {len : Nat} (h : Bytes w a len w.heap.size) (hb : Below w.heap.size w w') : Bytes w' a len w'.heap.size := by
  rcases h with h | ⟨b, off, rfl, hlt, hz⟩
  · exact .inl h
  · exact .inr ⟨b, off, rfl, Nat.lt_of_lt_of_le hlt hb.size, fun j hj => by
      obtain ⟨z, h1, h2⟩ := hz j hj
      exact ⟨z, by rw [hb.cell (p := ⟨b, off + j, none⟩) hlt]; exact h1, h2⟩⟩

theorem less_irrefl : ∀ l : List UInt8, Op.bytesLess l l = false
  | [] => rfl
  | a :: l => by simp [Op.bytesLess, less_irrefl l]
theorem less_total : ∀ l m : List UInt8, l ≠ m → (Op.bytesLess l m != Op.bytesLess m l) = true
  | [], [], h => absurd rfl h
  | [], b :: m, _ => rfl
  | a :: l, [], _ => rfl
  | a :: l, b :: m, h => by
    simp only [Op.bytesLess]
    by_cases e : a = b
    · subst e
      have hlm : l ≠ m := fun e => h (by rw [e])
      have := less_total l m hlm
      simpa using this
    · have e1 : (a == b) = false := by simpa using e
      have e2 : (b == a) = false := by simpa using fun e' => e e'.symm
      rw [e1, e2]
      simp only [Bool.false_and, Bool.or_false]
      by_cases hl : a < b
      · have : ¬ b < a := fun h' => by
          rw [UInt8.lt_iff_toNat_lt] at h' hl; omega
        simp [hl, this]
      · have : b < a := by
          rw [UInt8.lt_iff_toNat_lt] at hl ⊢
          have hne : a.toNat ≠ b.toNat := fun h' => e (UInt8.toNat_inj.1 h')
          omega
        simp [hl, this]

theorem retB {a b : Bool} (h : a = b) : Ending.returned (.bool a) = .returned (.bool b) := by rw [h]
theorem big_any (a : Option Addr) (len cap : Nat) (w : World) (hl : len ≤ maxLen) :
    Calls Tryz.prog 7 #[.slice a len cap] w fun e w' => e = .returned (.bool (decide ((1048576 : Int) < (len : Int)))) ∧ w' = w := by
  unfold maxLen at hl
  by_cases c : (1048576 : Int) < (len : Int)
  all_goals
    go_enter Tryz.func7, Tryz.ntmps7
    go_wp2
    go_ret
    exact ⟨retB (by simp; omega), rfl⟩

end Go.Proofs.YtooninmicfcfoaaGreat.LawB
namespace Go.Proofs.YtooninmicfcfoaaGreat.LabN
open Labs LabL
open StrB (lessB)
open LawB (less_irrefl less_total)

theorem lessB_irrefl (a : ByteArray) : lessB a a = false := less_irrefl _
theorem lessB_total {a b : ByteArray} (h : a ≠ b) : (lessB a b != lessB b a) = true := less_total _ _ fun e => by
  rw [ByteArray.toList_eq, ByteArray.toList_eq] at e
  exact h (Go.WideShapes.bytes_inj e)
theorem ll_total {x y : Lab} (h : x ≠ y) : (llB x y != llB y x) = true := by
  by_cases e : x.1 = y.1
  · rw [llB_eq e, llB_eq e.symm]
    exact lessB_total fun e2 => h (Prod.ext e e2)
  · rw [llB_ne e, llB_ne (Ne.symm e)]
    exact lessB_total e
theorem sl_irrefl : ∀ l : List Lab, slB l l = false
  | [] => rfl
  | x :: l => by rw [slB, if_pos rfl]; exact sl_irrefl l
theorem sl_total : ∀ {l m : List Lab}, l ≠ m → (slB l m != slB m l) = true
  | [], [], h => absurd rfl h
  | [], y :: m, _ => rfl
  | x :: l, [], _ => rfl
  | x :: l, y :: m, h => by
    by_cases e : x = y
    · subst e
      rw [slB, slB, if_pos rfl, if_pos rfl]
      exact sl_total fun e => h (by rw [e])
    · rw [slB, slB, if_neg e, if_neg (Ne.symm e)]
      exact ll_total e
end Go.Proofs.YtooninmicfcfoaaGreat.LabN
namespace Go.Proofs.YtooninmicfcfoaaGreat.LabV
open Labs LabS LabP LabN
open StrB (lessB)
open LabO (setB okAt set_long set_bad set_good)

theorem less_trans : ∀ {l m k : List UInt8}, Op.bytesLess l m = true → Op.bytesLess m k = true → Op.bytesLess l k = true
  | [], [], _, h, _ => by simp [Op.bytesLess] at h
  | [], _ :: _, [], _, h => by simp [Op.bytesLess] at h
  | [], _ :: _, _ :: _, _, _ => by simp [Op.bytesLess]
  | _ :: _, [], _, h, _ => by simp [Op.bytesLess] at h
  | _ :: _, _ :: _, [], _, h => by simp [Op.bytesLess] at h
  | a :: l, b :: m, c :: k, h1, h2 => by
    simp only [Op.bytesLess, Bool.or_eq_true, Bool.and_eq_true, decide_eq_true_eq, beq_iff_eq] at h1 h2 ⊢
    rcases h1 with h1 | ⟨e1, h1⟩
    · rcases h2 with h2 | ⟨e2, h2⟩
      · left; rw [UInt8.lt_iff_toNat_lt] at *; omega
      · left; rw [← e2]; exact h1
    · rcases h2 with h2 | ⟨e2, h2⟩
      · left; rw [e1]; exact h2
      · right; exact ⟨e1.trans e2, less_trans h1 h2⟩
theorem lessB_trans {a b c : ByteArray} (h : lessB a b = true) (k : lessB b c = true) : lessB a c = true := less_trans h k
theorem lessB_asymm {a b : ByteArray} (h : lessB a b = true) : lessB b a = false := by
  cases e : lessB b a with
  | false => rfl
  | true => rw [← lessB_irrefl a]; exact (lessB_trans h e).symm
theorem lessB_ne {a b : ByteArray} (h : lessB a b = true) : a ≠ b := fun e => by
  rw [e, lessB_irrefl] at h; cases h

theorem set_at {l : List Lab} (h : setB l = true) {i : Nat} (hi : i < l.length) : okAt l i = true := by
  cases e : okAt l i with
  | true => rfl
  | false => rw [set_bad hi e] at h; cases h
end Go.Proofs.YtooninmicfcfoaaGreat.LabV
namespace Go.Proofs.YtooninmicfcfoaaGreat.Stb

structure Ord {κ : Type} (lt : κ → κ → Bool) : Prop where
  irr : ∀ a, lt a a = false
  trans : ∀ {a b c}, lt a b = true → lt b c = true → lt a c = true
  tot : ∀ {a b}, lt a b = false → lt b a = false → a = b
variable {α κ : Type} {lt : κ → κ → Bool} {key : α → κ}
theorem Ord.asymm (h : Ord lt) {a b : κ} (k : lt a b = true) : lt b a = false := by
  cases e : lt b a with
  | false => rfl
  | true => have := h.trans k e; rw [h.irr] at this; cases this
theorem Ord.le_trans (h : Ord lt) {a b c : κ} (h1 : lt b a = false) (h2 : lt c b = false) : lt c a = false := by
  cases e : lt c a with
  | false => rfl
  | true =>
    cases e1 : lt a b with
    | false => have := h.tot e1 h1; subst this; rw [h2] at e; exact e.symm
    | true => have := h.trans e e1; rw [h2] at this; exact this.symm
theorem Ord.lt_le (h : Ord lt) {a b c : κ} (h1 : lt a b = true) (h2 : lt c b = false) : lt a c = true := by
  cases e : lt b c with
  | true => exact h.trans h1 e
  | false => have := h.tot e h2; subst this; exact h1
theorem Ord.le_lt (h : Ord lt) {a b c : κ} (h1 : lt b a = false) (h2 : lt b c = true) : lt a c = true := by
  cases e : lt a b with
  | true => exact h.trans e h2
  | false => have := h.tot e h1; subst this; exact h2

def Srt (lt : κ → κ → Bool) (key : α → κ) (f : Nat → α) (a b : Nat) : Prop := ∀ p q, a ≤ p → p < q → q < b → lt (key (f q)) (key (f p)) = false
theorem Srt.le (O : Ord lt) {f : Nat → α} {a b : Nat} (h : Srt lt key f a b) {p q : Nat} (h1 : a ≤ p) (h2 : p ≤ q) (h3 : q < b) : lt (key (f q)) (key (f p)) = false := by
  rcases Nat.lt_or_ge p q with e | e
  · exact h p q h1 e h3
  · have : p = q := by omega
    subst this; exact O.irr _
theorem Srt.mono {f : Nat → α} {a b a' b' : Nat} (h : Srt lt key f a b) (h1 : a ≤ a') (h2 : b' ≤ b) : Srt lt key f a' b' := fun p q hp hq hb => h p q (by omega) hq (by omega)
theorem Srt.congr {f g : Nat → α} {a b : Nat} (h : Srt lt key f a b) (e : ∀ i, a ≤ i → i < b → g i = f i) : Srt lt key g a b := fun p q hp hq hb => by rw [e p hp (by omega), e q (by omega) hb]; exact h p q hp hq hb

def rotF (f : Nat → α) (a m b : Nat) (k : Nat) : α := if a ≤ k ∧ k < a + (b - m) then f (k + (m - a)) else if a + (b - m) ≤ k ∧ k < b then f (k - (b - m)) else f k
def swapF (f : Nat → α) (p q n : Nat) (k : Nat) : α := if p ≤ k ∧ k < p + n then f (k - p + q) else if q ≤ k ∧ k < q + n then f (k - q + p) else f k
theorem swapF_0 (f : Nat → α) (p q : Nat) : swapF f p q 0 = f := by
  funext k; unfold swapF; rw [if_neg (by omega), if_neg (by omega)]
def two (f : Nat → α) (p q : Nat) (k : Nat) : α := if k = p then f q else if k = q then f p else f k
theorem swapF_up {f : Nat → α} {p q n i : Nat} (h : p + n ≤ q) (hi : i < n) : two (swapF f p q i) (p + i) (q + i) = swapF f p q (i + 1) := by
  funext k; unfold two swapF
  (repeat' split) <;> first | rfl | (exfalso; omega) | (congr 1; omega)
theorem two_rot (f : Nat → α) (j : Nat) : two f j (j + 1) = rotF f j (j + 1) (j + 2) := by
  funext k; unfold two rotF
  (repeat' split) <;> first | rfl | (exfalso; omega) | (congr 1; omega)
theorem two_comm (f : Nat → α) (p q : Nat) : two f p q = two f q p := by
  funext k; unfold two
  (repeat' split) <;> first | rfl | (exfalso; omega) | (congr 1; omega)
theorem rot_gt {g : Nat → α} {m i j : Nat} (h : j < i) (hi : i ≤ m) (hj : 0 < j) : rotF (swapF g (m - i) m j) (m - (i - j)) m (m + j) = rotF g (m - i) m (m + j) := by
  funext k; unfold rotF swapF
  (repeat' split) <;> first | rfl | (exfalso; omega) | (congr 1; omega)
theorem rot_lt {g : Nat → α} {m i j : Nat} (h : i < j) (hi : i ≤ m) (h0 : 0 < i) : rotF (swapF g (m - i) (m + j - i) i) (m - i) m (m + (j - i)) = rotF g (m - i) m (m + j) := by
  funext k; unfold rotF swapF
  (repeat' split) <;> first | rfl | (exfalso; omega) | (congr 1; omega)
theorem rot_eq {g : Nat → α} {m i : Nat} (hi : i ≤ m) : swapF g (m - i) m i = rotF g (m - i) m (m + i) := by
  funext k; unfold rotF swapF
  (repeat' split) <;> first | rfl | (exfalso; omega) | (congr 1; omega)
theorem rot_low {f : Nat → α} {a m b k : Nat} (h : k < a) (h1 : a ≤ m) (h2 : m ≤ b) : rotF f a m b k = f k := by unfold rotF; rw [if_neg (by omega), if_neg (by omega)]
theorem rot_high {f : Nat → α} {a m b k : Nat} (h : b ≤ k) (h1 : a ≤ m) (h2 : m ≤ b) : rotF f a m b k = f k := by unfold rotF; rw [if_neg (by omega), if_neg (by omega)]
theorem rot_v {f : Nat → α} {a m b k : Nat} (h : a ≤ k) (hk : k < a + (b - m)) : rotF f a m b k = f (k + (m - a)) := by unfold rotF; rw [if_pos ⟨h, hk⟩]
theorem rot_u {f : Nat → α} {a m b k : Nat} (h : a + (b - m) ≤ k) (hk : k < b) : rotF f a m b k = f (k - (b - m)) := by unfold rotF; rw [if_neg (by omega), if_pos ⟨h, hk⟩]

def seg (f : Nat → α) (a n : Nat) : List α := (List.range n).map fun i => f (a + i)
theorem seg_len (f : Nat → α) (a n : Nat) : (seg f a n).length = n := by simp [seg]
theorem seg_add (f : Nat → α) (a n m : Nat) : seg f a (n + m) = seg f a n ++ seg f (a + n) m := by
  unfold seg
  rw [List.range_add, List.map_append, List.map_map]
  congr 1
  apply List.map_congr_left
  intro i _
  show f (a + (n + i)) = f (a + n + i)
  rw [Nat.add_assoc]
theorem seg_congr {f g : Nat → α} {a b n : Nat} (h : ∀ i, i < n → f (a + i) = g (b + i)) : seg f a n = seg g b n := by
  unfold seg
  apply List.map_congr_left
  intro i hi
  exact h i (List.mem_range.1 hi)
theorem seg_mem {f : Nat → α} {a n : Nat} {x : α} (h : x ∈ seg f a n) : ∃ i, a ≤ i ∧ i < a + n ∧ x = f i := by
  unfold seg at h
  obtain ⟨i, hi, rfl⟩ := List.mem_map.1 h
  exact ⟨a + i, by omega, by have := List.mem_range.1 hi; omega, rfl⟩
theorem seg_get {f : Nat → α} {a n i : Nat} (h : i < n) : (seg f a n)[i]? = some (f (a + i)) := by
  unfold seg; simp [h]
structure St [DecidableEq κ] (key : α → κ) (l l' : List α) : Prop where
  perm : l.Perm l'
  same : ∀ k, l.filter (fun x => decide (key x = k)) = l'.filter (fun x => decide (key x = k))
theorem St.refl [DecidableEq κ] (l : List α) : St key l l := ⟨List.Perm.refl _, fun _ => rfl⟩
theorem St.trans [DecidableEq κ] {l m k : List α} (h : St key l m) (h' : St key m k) : St key l k := ⟨h.perm.trans h'.perm, fun q => (h.same q).trans (h'.same q)⟩
theorem St.symm [DecidableEq κ] {l m : List α} (h : St key l m) : St key m l := ⟨h.perm.symm, fun q => (h.same q).symm⟩
theorem St.mid [DecidableEq κ] {x u v y : List α} (h : ∀ a ∈ u, ∀ b ∈ v, key a ≠ key b) : St key (x ++ (u ++ (v ++ y))) (x ++ (v ++ (u ++ y))) := by
  refine ⟨List.Perm.append_left x ?_, fun k => ?_⟩
  · rw [← List.append_assoc, ← List.append_assoc]
    exact List.Perm.append_right y List.perm_append_comm
  · simp only [List.filter_append]
    congr 1
    rw [← List.append_assoc, ← List.append_assoc]
    congr 1
    by_cases hu : u.filter (fun x => decide (key x = k)) = []
    · rw [hu]; simp
    · have : v.filter (fun x => decide (key x = k)) = [] := by
        rw [List.filter_eq_nil_iff]
        intro b hb hk
        apply hu
        rw [List.filter_eq_nil_iff]
        intro a ha hk'
        exact h a ha b hb ((of_decide_eq_true hk').trans (of_decide_eq_true hk).symm)
      rw [this]; simp
theorem seg_rot {f : Nat → α} {a m b n : Nat} (h1 : a ≤ m) (h2 : m ≤ b) (h3 : b ≤ n) :
    seg f 0 n = seg f 0 a ++ (seg f a (m - a) ++ (seg f m (b - m) ++ seg f b (n - b))) ∧ seg (rotF f a m b) 0 n = seg f 0 a ++ (seg f m (b - m) ++ (seg f a (m - a) ++ seg f b (n - b))) := by
  constructor
  · have e : n = a + ((m - a) + ((b - m) + (n - b))) := by omega
    conv => lhs; rw [e]
    rw [seg_add, seg_add, seg_add]
    rw [show 0 + a = a by omega, show a + (m - a) = m by omega, show m + (b - m) = b by omega]
  · have e : n = a + ((b - m) + ((m - a) + (n - b))) := by omega
    conv => lhs; rw [e]
    rw [seg_add, seg_add, seg_add]
    congr 1
    · exact seg_congr fun i hi => rot_low (by omega) h1 h2
    · congr 1
      · exact seg_congr fun i hi => by rw [rot_v (by omega) (by omega)]; congr 1; omega
      · congr 1
        · exact seg_congr fun i hi => by rw [rot_u (by omega) (by omega)]; congr 1; omega
        · exact seg_congr fun i hi => by rw [rot_high (by omega) h1 h2]; congr 1; omega
theorem St.rot [DecidableEq κ] (O : Ord lt) {f : Nat → α} {a m b n : Nat} (h1 : a ≤ m) (h2 : m ≤ b) (h3 : b ≤ n) (h : ∀ i j, a ≤ i → i < m → m ≤ j → j < b → lt (key (f j)) (key (f i)) = true) : St key (seg f 0 n) (seg (rotF f a m b) 0 n) := by
  obtain ⟨e1, e2⟩ := seg_rot (f := f) h1 h2 h3
  rw [e1, e2]
  refine St.mid fun x hx y hy e => ?_
  obtain ⟨i, hi, hi', rfl⟩ := seg_mem hx
  obtain ⟨j, hj, hj', rfl⟩ := seg_mem hy
  have := h i j hi (by omega) hj (by omega)
  rw [e, O.irr] at this
  cases this
def SrtL (lt : κ → κ → Bool) (key : α → κ) (l : List α) : Prop := l.Pairwise fun x y => lt (key y) (key x) = false
theorem srt_seg {f : Nat → α} {n : Nat} (h : Srt lt key f 0 n) : SrtL lt key (seg f 0 n) := by
  unfold SrtL seg
  rw [List.pairwise_map]
  refine List.Pairwise.imp_of_mem (R := fun a b => a < b) (fun {a b} ha hb hab => ?_) (List.pairwise_lt_range)
  exact h _ _ (Nat.zero_le _) (by omega) (by have := List.mem_range.1 hb; omega)
theorem St.one [DecidableEq κ] (O : Ord lt) : ∀ {l m : List α}, St key l m → SrtL lt key l → SrtL lt key m → l = m
  | [], m, h, _, _ => (List.nil_perm.1 h.perm).symm
  | x :: l, [], h, _, _ => absurd h.perm.length_eq (by simp)
  | x :: l, y :: m, h, h1, h2 => by
    unfold SrtL at h1 h2
    rw [List.pairwise_cons] at h1 h2
    have hy : y ∈ x :: l := h.perm.symm.subset (by simp)
    have hx : x ∈ y :: m := h.perm.subset (by simp)
    have l1 : lt (key y) (key x) = false := by
      rcases List.mem_cons.1 hy with rfl | hy
      · exact O.irr _
      · exact h1.1 y hy
    have l2 : lt (key x) (key y) = false := by
      rcases List.mem_cons.1 hx with rfl | hx
      · exact O.irr _
      · exact h2.1 x hx
    have ek := O.tot l1 l2
    have hf := h.same (key x)
    rw [List.filter_cons_of_pos (by simp), List.filter_cons_of_pos (by simp [ek])] at hf
    have exy : x = y := (List.cons.inj hf).1
    subst exy
    have ht : St key l m := ⟨(List.perm_cons x).1 h.perm, fun k => by
      by_cases e : key x = k
      · subst e; exact (List.cons.inj hf).2
      · have := h.same k
        rw [List.filter_cons_of_neg (by simpa using e), List.filter_cons_of_neg (by simpa using e)] at this
        exact this⟩
    rw [St.one O ht h1.2 h2.2]

structure Mrg [DecidableEq κ] (lt : κ → κ → Bool) (key : α → κ) (f g : Nat → α) (a b n : Nat) : Prop where
  out : ∀ k, k < a ∨ b ≤ k → g k = f k
  srt : Srt lt key g a b
  st : St key (seg f 0 n) (seg g 0 n)
theorem St.part [DecidableEq κ] {f g : Nat → α} {a b n : Nat} (h : St key (seg f 0 n) (seg g 0 n)) (hab : a ≤ b) (hb : b ≤ n) (ho : ∀ k, k < a ∨ b ≤ k → g k = f k) : ∀ i, a ≤ i → i < b → ∃ j, a ≤ j ∧ j < b ∧ g i = f j := by
  have cut : ∀ q : Nat → α, seg q 0 n = seg q 0 a ++ (seg q a (b - a) ++ seg q b (n - b)) := fun q => by
    have e : n = a + ((b - a) + (n - b)) := by omega
    conv => lhs; rw [e]
    rw [seg_add, seg_add, show 0 + a = a by omega, show a + (b - a) = b by omega]
  have e1 : seg g 0 a = seg f 0 a := seg_congr fun i hi => by rw [Nat.zero_add]; exact ho i (.inl hi)
  have e2 : seg g b (n - b) = seg f b (n - b) := seg_congr fun i hi => ho _ (.inr (by omega))
  have hp := h.perm
  rw [cut f, cut g, e1, e2] at hp
  have hp2 := List.perm_append_left_iff _ |>.1 hp
  have hp3 := (List.perm_append_right_iff _).1 hp2
  intro i h1 h2
  have hm : g i ∈ seg g a (b - a) := by
    unfold seg
    exact List.mem_map.2 ⟨i - a, List.mem_range.2 (by omega), by congr 1; omega⟩
  obtain ⟨j, hj, hj', e⟩ := seg_mem (hp3.symm.subset hm)
  exact ⟨j, hj, by omega, e⟩
theorem mrg_right [DecidableEq κ] (O : Ord lt) {f : Nat → α} {a m i n : Nat} (hs : Srt lt key f a m) (h1 : a ≤ i) (h2 : i ≤ m) (hn : m + 1 ≤ n) (hlo : ∀ p, a ≤ p → p < i → lt (key (f m)) (key (f p)) = false) (hhi : ∀ p, i ≤ p → p < m → lt (key (f m)) (key (f p)) = true) : Mrg lt key f (rotF f i m (m + 1)) a (m + 1) n := by
  refine ⟨fun k hk => ?_, fun p q hp hq hb => ?_, St.rot O h2 (by omega) hn fun p q hp hq hp' hq' => ?_⟩
  · rcases hk with hk | hk
    · exact rot_low (by omega) h2 (by omega)
    · exact rot_high hk h2 (by omega)
  · by_cases e1 : q < i
    · rw [rot_low e1 h2 (by omega), rot_low (by omega) h2 (by omega)]; exact hs p q hp hq (by omega)
    · by_cases e2 : q = i
      · rw [rot_v (k := q) (by omega) (by omega), rot_low (by omega) h2 (by omega), show q + (m - i) = m by omega]; exact hlo p hp (by omega)
      · rw [rot_u (k := q) (by omega) (by omega), show q - (m + 1 - m) = q - 1 by omega]
        by_cases e3 : p < i
        · rw [rot_low e3 h2 (by omega)]; exact hs p (q - 1) hp (by omega) (by omega)
        · by_cases e4 : p = i
          · rw [rot_v (k := p) (by omega) (by omega), show p + (m - i) = m by omega]; exact O.asymm (hhi (q - 1) (by omega) (by omega))
          · rw [rot_u (k := p) (by omega) (by omega), show p - (m + 1 - m) = p - 1 by omega]; exact hs (p - 1) (q - 1) (by omega) (by omega) (by omega)
  · have : q = m := by omega
    subst this; exact hhi p hp hq
theorem mrg_left [DecidableEq κ] (O : Ord lt) {f : Nat → α} {a b i n : Nat} (hs : Srt lt key f (a + 1) b) (h1 : a + 1 ≤ i) (h2 : i ≤ b) (hn : b ≤ n) (hlo : ∀ p, a + 1 ≤ p → p < i → lt (key (f p)) (key (f a)) = true) (hhi : ∀ p, i ≤ p → p < b → lt (key (f p)) (key (f a)) = false) : Mrg lt key f (rotF f a (a + 1) i) a b n := by
  refine ⟨fun k hk => ?_, fun p q hp hq hb => ?_, St.rot O (by omega) h1 (by omega) fun p q hp hq hp' hq' => ?_⟩
  · rcases hk with hk | hk
    · exact rot_low hk (by omega) h1
    · exact rot_high (by omega) (by omega) h1
  · by_cases e1 : i ≤ p
    · rw [rot_high (k := p) e1 (by omega) h1, rot_high (k := q) (by omega) (by omega) h1]; exact hs p q (by omega) hq hb
    · by_cases e2 : p = i - 1
      · rw [rot_u (k := p) (by omega) (by omega), rot_high (k := q) (by omega) (by omega) h1, show p - (i - (a + 1)) = a by omega]; exact hhi q (by omega) hb
      · rw [rot_v (k := p) (by omega) (by omega), show p + (a + 1 - a) = p + 1 by omega]
        by_cases e3 : i ≤ q
        · rw [rot_high (k := q) e3 (by omega) h1]; exact hs (p + 1) q (by omega) (by omega) hb
        · by_cases e4 : q = i - 1
          · rw [rot_u (k := q) (by omega) (by omega), show q - (i - (a + 1)) = a by omega]; exact O.asymm (hlo (p + 1) (by omega) (by omega))
          · rw [rot_v (k := q) (by omega) (by omega), show q + (a + 1 - a) = q + 1 by omega]; exact hs (p + 1) (q + 1) (by omega) (by omega) (by omega)
  · have : p = a := by omega
    subst this; exact hlo q hp' hq'
structure Cut (lt : κ → κ → Bool) (key : α → κ) (f : Nat → α) (a m b s e : Nat) : Prop where
  hs : a ≤ s ∧ s ≤ m ∧ m ≤ e ∧ e ≤ b
  less : ∀ i j, s ≤ i → i < m → m ≤ j → j < e → lt (key (f j)) (key (f i)) = true
  apart : ∀ i j, a ≤ i → i < s → e ≤ j → j < b → lt (key (f j)) (key (f i)) = false
theorem cut_of (O : Ord lt) {f : Nat → α} {a m b mid s lo r : Nat} (hL : Srt lt key f a m) (hR : Srt lt key f m b) (hmid : 2 * mid ≤ a + b ∧ a + b ≤ 2 * mid + 1) (hm : a < m ∧ m < b) (hlo : lo = if mid < m then mid + m - b else a) (hr : r = if mid < m then mid else m) (h1 : lo ≤ s) (h2 : s ≤ r)
    (hno : ∀ c, lo ≤ c → c < s → lt (key (f (mid + m - 1 - c))) (key (f c)) = false) (hyes : ∀ c, s ≤ c → c < r → lt (key (f (mid + m - 1 - c))) (key (f c)) = true) : Cut lt key f a m b s (mid + m - s) := by
  have hls : a ≤ lo ∧ lo ≤ r ∧ r ≤ m ∧ r ≤ mid := by
    rw [hlo, hr]; split <;> omega
  have hend : m ≤ mid + m - s ∧ mid + m - s ≤ b := by
    refine ⟨by omega, ?_⟩
    rw [hlo] at h1; split at h1 <;> omega
  refine ⟨⟨by omega, by omega, hend.1, hend.2⟩, fun i j hi hi' hj hj' => ?_, fun i j hi hi' hj hj' => ?_⟩
  · have hsr : s < r := by
      rw [hr] at h2 ⊢; split at h2 <;> split <;> omega
    have hq := hyes s (Nat.le_refl _) hsr
    have a1 : lt (key (f i)) (key (f s)) = false := hL.le O (by omega) hi hi'
    have a2 : lt (key (f (mid + m - 1 - s))) (key (f j)) = false := hR.le O hj (by omega) (by omega)
    exact O.le_lt a2 (O.lt_le hq a1)
  · have hls' : lo < s := by
      rw [hlo] at h1 ⊢; split at h1 <;> split <;> omega
    have hq := hno (s - 1) (by omega) (by omega)
    have a1 : lt (key (f (s - 1))) (key (f i)) = false := hL.le O hi (by omega) (by omega)
    have a2 : lt (key (f j)) (key (f (mid + m - 1 - (s - 1)))) = false := hR.le O (by omega) (by omega) hj'
    exact O.le_trans a1 (O.le_trans hq a2)
theorem Cut.rot [DecidableEq κ] (O : Ord lt) {f : Nat → α} {a m b mid s n : Nat} (h : Cut lt key f a m b s (mid + m - s)) (hL : Srt lt key f a m) (hR : Srt lt key f m b) (hsm : s ≤ mid) (hn : b ≤ n) :
    Srt lt key (rotF f s m (mid + m - s)) a s ∧ Srt lt key (rotF f s m (mid + m - s)) s mid ∧ Srt lt key (rotF f s m (mid + m - s)) mid (mid + m - s) ∧ Srt lt key (rotF f s m (mid + m - s)) (mid + m - s) b ∧ (∀ i j, a ≤ i → i < mid → mid ≤ j → j < b → lt (key (rotF f s m (mid + m - s) j)) (key (rotF f s m (mid + m - s) i)) = false) ∧ St key (seg f 0 n) (seg (rotF f s m (mid + m - s)) 0 n) := by
  obtain ⟨k1, k2, k3, k4⟩ := h.hs
  have low : ∀ k, k < s → rotF f s m (mid + m - s) k = f k := fun k hk => rot_low hk k2 k3
  have high : ∀ k, mid + m - s ≤ k → rotF f s m (mid + m - s) k = f k := fun k hk => rot_high hk k2 k3
  have mv : ∀ k, s ≤ k → k < mid → rotF f s m (mid + m - s) k = f (k + (m - s)) := fun k h1 h2 => rot_v h1 (by omega)
  have mu : ∀ k, mid ≤ k → k < mid + m - s → rotF f s m (mid + m - s) k = f (k - (mid - s)) := fun k h1 h2 => by rw [rot_u (by omega) h2]; congr 1; omega
  refine ⟨(hL.mono (Nat.le_refl _) k2).congr fun i _ hi => low i hi, fun p q hp hq hb => ?_, fun p q hp hq hb => ?_, (hR.mono k3 (Nat.le_refl _)).congr fun i hi _ => high i hi, fun i j hi hi' hj hj' => ?_, St.rot O k2 k3 (by omega) h.less⟩
  · rw [mv p hp (by omega), mv q (by omega) hb]; exact hR _ _ (by omega) (by omega) (by omega)
  · rw [mu p hp (by omega), mu q (by omega) hb]; exact hL _ _ (by omega) (by omega) (by omega)
  · by_cases e1 : i < s
    · rw [low i e1]
      by_cases e2 : j < mid + m - s
      · rw [mu j hj e2]; exact hL _ _ hi (by omega) (by omega)
      · rw [high j (by omega)]; exact h.apart i j hi e1 (by omega) hj'
    · rw [mv i (by omega) hi']
      by_cases e2 : j < mid + m - s
      · rw [mu j hj e2]; exact O.asymm (h.less _ _ (by omega) (by omega) (by omega) (by omega))
      · rw [high j (by omega)]; exact hR _ _ (by omega) (by omega) hj'
theorem mrg_halves [DecidableEq κ] {f g1 g2 g : Nat → α} {a mid b n : Nat} (h0 : St key (seg f 0 n) (seg g1 0 n)) (ho : ∀ k, k < a ∨ b ≤ k → g1 k = f k) (hb : b ≤ n) (hm : a ≤ mid ∧ mid ≤ b) (hap : ∀ i j, a ≤ i → i < mid → mid ≤ j → j < b → lt (key (g1 j)) (key (g1 i)) = false)
    (h1 : Mrg lt key g1 g2 a mid n) (h2 : Mrg lt key g2 g mid b n) : Mrg lt key f g a b n := by
  refine ⟨fun k hk => ?_, fun p q hp hq hq' => ?_, (h0.trans h1.st).trans h2.st⟩
  · rw [h2.out k (by omega), h1.out k (by omega), ho k hk]
  · by_cases e1 : q < mid
    · rw [h2.out q (.inl e1), h2.out p (.inl (by omega))]; exact h1.srt p q hp hq e1
    · by_cases e2 : mid ≤ p
      · exact h2.srt p q e2 hq hq'
      · obtain ⟨j, hj, hj', ej⟩ := h2.st.part hm.2 hb h2.out q (by omega) hq'
        obtain ⟨i, hi, hi', ei⟩ := h1.st.part hm.1 (by omega) h1.out p hp (by omega)
        rw [ej, h1.out j (.inr hj), h2.out p (.inl (by omega)), ei]
        exact hap i j hi hi' hj hj'
theorem mrg_none [DecidableEq κ] {f : Nat → α} {a b n : Nat} (h : Srt lt key f a b) : Mrg lt key f f a b n := ⟨fun _ _ => rfl, h, St.refl _⟩
theorem srt_join {f : Nat → α} {a s b : Nat} (h1 : Srt lt key f a s) (h2 : Srt lt key f s b) (h : s ≤ a ∨ b ≤ s) : Srt lt key f a b := by
  rcases h with h | h
  · exact h2.mono h (Nat.le_refl _)
  · exact h1.mono (Nat.le_refl _) h

def Bs (lt : κ → κ → Bool) (key : α → κ) (f : Nat → α) (z n : Nat) : Prop := ∀ k, Srt lt key f (k * z) (min (k * z + z) n)
structure Half (lt : κ → κ → Bool) (key : α → κ) (f : Nat → α) (z n k : Nat) : Prop where
  done : ∀ j, j < k → Srt lt key f (j * (2 * z)) (min (j * (2 * z) + 2 * z) n)
  todo : ∀ j, 2 * k ≤ j → Srt lt key f (j * z) (min (j * z + z) n)
theorem Bs.half {f : Nat → α} {z n : Nat} (h : Bs lt key f z n) : Half lt key f z n 0 := ⟨fun j hj => by omega, fun j _ => h j⟩
theorem dbl (k z : Nat) : 2 * k * z = k * (2 * z) := by rw [Nat.mul_comm 2 k, Nat.mul_assoc]
theorem mul_up (k z : Nat) : (k + 1) * z = k * z + z := Nat.succ_mul k z
theorem Half.left {f : Nat → α} {z n k : Nat} (h : Half lt key f z n k) (hz : k * (2 * z) + z ≤ n) : Srt lt key f (k * (2 * z)) (k * (2 * z) + z) := by
  have := h.todo (2 * k) (Nat.le_refl _)
  rw [dbl] at this
  exact this.mono (Nat.le_refl _) (by omega)
theorem Half.right {f : Nat → α} {z n k : Nat} (h : Half lt key f z n k) : Srt lt key f (k * (2 * z) + z) (min (k * (2 * z) + 2 * z) n) := by
  have := h.todo (2 * k + 1) (by omega)
  rw [mul_up, dbl] at this
  exact this.mono (Nat.le_refl _) (by omega)
theorem mul_le {j k : Nat} (z : Nat) (h : j ≤ k) : j * z ≤ k * z := Nat.mul_le_mul_right z h
theorem Half.next [DecidableEq κ] {f g : Nat → α} {z n k : Nat} (h : Half lt key f z n k) (hm : Mrg lt key f g (k * (2 * z)) (min (k * (2 * z) + 2 * z) n) n) : Half lt key g z n (k + 1) := by
  refine ⟨fun j hj => ?_, fun j hj => ?_⟩
  · by_cases e : j = k
    · subst e; exact hm.srt
    · refine (h.done j (by omega)).congr fun i hi hi' => hm.out i (.inl ?_)
      have := mul_le (2 * z) (show j + 1 ≤ k by omega)
      rw [mul_up] at this
      omega
  · refine (h.todo j (by omega)).congr fun i hi hi' => hm.out i (.inr ?_)
    have := mul_le z (show 2 * (k + 1) ≤ j by omega)
    rw [dbl, mul_up] at this
    omega
theorem Half.fin {f : Nat → α} {z n k : Nat} (h : Half lt key f z n k) (hz : n ≤ k * (2 * z) + z) : Bs lt key f (2 * z) n := fun j => by
  by_cases e : j < k
  · exact h.done j e
  · by_cases e2 : j = k
    · subst e2
      have := h.todo (2 * j) (Nat.le_refl _)
      rw [dbl] at this
      exact this.mono (Nat.le_refl _) (by omega)
    · intro p q hp hq hb
      have := mul_le (2 * z) (show k + 1 ≤ j by omega)
      rw [mul_up] at this
      omega
theorem Half.fin' {f : Nat → α} {z n k : Nat} (h : Half lt key f z n (k + 1)) (hz : n ≤ k * (2 * z) + 2 * z) : Bs lt key f (2 * z) n := fun j => by
  by_cases e : j < k + 1
  · exact h.done j e
  · intro p q hp hq hb
    have := mul_le (2 * z) (show k + 1 ≤ j by omega)
    rw [mul_up] at this
    omega
def Fst (lt : κ → κ → Bool) (key : α → κ) (f : Nat → α) (z k : Nat) : Prop := ∀ j, j < k → Srt lt key f (j * z) (j * z + z)
theorem Fst.next [DecidableEq κ] {f g : Nat → α} {z n k : Nat} (h : Fst lt key f z k) (hm : Mrg lt key f g (k * z) (k * z + z) n) : Fst lt key g z (k + 1) := fun j hj => by
  by_cases e : j = k
  · subst e; exact hm.srt
  · refine (h j (by omega)).congr fun i hi hi' => hm.out i (.inl ?_)
    have := mul_le z (show j + 1 ≤ k by omega)
    rw [mul_up] at this
    omega
theorem Fst.fin [DecidableEq κ] {f g : Nat → α} {z n k : Nat} (h : Fst lt key f z k) (hm : Mrg lt key f g (k * z) n n) (hz : n < k * z + z) : Bs lt key g z n := fun j => by
  by_cases e : j < k
  · refine ((h j e).mono (Nat.le_refl _) (Nat.min_le_left _ _)).congr fun i hi hi' => hm.out i (.inl ?_)
    have := mul_le z (show j + 1 ≤ k by omega)
    rw [mul_up] at this
    omega
  · by_cases e2 : j = k
    · subst e2; exact hm.srt.mono (Nat.le_refl _) (Nat.min_le_right _ _)
    · intro p q hp hq hb
      have := mul_le z (show k + 1 ≤ j by omega)
      rw [mul_up] at this
      omega
theorem Bs.all {f : Nat → α} {z n : Nat} (h : Bs lt key f z n) (hz : n ≤ z) : Srt lt key f 0 n := by
  have := h 0
  rw [Nat.zero_mul] at this
  exact this.mono (Nat.le_refl _) (by omega)

def InsI (lt : κ → κ → Bool) (key : α → κ) (f : Nat → α) (a i j : Nat) : Prop := ∀ p q, a ≤ p → p < q → q ≤ i → q ≠ j → lt (key (f q)) (key (f p)) = false
theorem InsI.start {f : Nat → α} {a i : Nat} (h : Srt lt key f a i) : InsI lt key f a i i := fun p q hp hq hi hne => h p q hp hq (by omega)
theorem InsI.next (O : Ord lt) {f : Nat → α} {a i j : Nat} (h : InsI lt key f a i (j + 1)) (ha : a ≤ j) (hj : j + 1 ≤ i) (hl : lt (key (f (j + 1))) (key (f j)) = true) : InsI lt key (two f j (j + 1)) a i j := by
  intro p q hp hq hi hne
  unfold two
  by_cases e1 : q = j + 1
  · rw [if_neg hne, if_pos e1]
    by_cases e2 : p = j
    · rw [if_pos e2]; exact O.asymm hl
    · rw [if_neg e2, if_neg (by omega)]; exact h p j hp (by omega) (by omega) (by omega)
  · rw [if_neg hne, if_neg e1]
    by_cases e2 : p = j
    · rw [if_pos e2]; exact h (j + 1) q (by omega) (by omega) hi e1
    · rw [if_neg e2]
      by_cases e3 : p = j + 1
      · rw [if_pos e3]; exact h j q ha (by omega) hi e1
      · rw [if_neg e3]; exact h p q hp hq hi e1
theorem InsI.end0 {f : Nat → α} {a i : Nat} (h : InsI lt key f a i a) : Srt lt key f a (i + 1) := fun p q hp hq hi => h p q hp hq (by omega) (by omega)
theorem InsI.end1 (O : Ord lt) {f : Nat → α} {a i j : Nat} (h : InsI lt key f a i (j + 1)) (ha : a ≤ j) (hl : lt (key (f (j + 1))) (key (f j)) = false) : Srt lt key f a (i + 1) := fun p q hp hq hi => by
  by_cases e : q = j + 1
  · subst e
    by_cases e2 : p = j
    · subst e2; exact hl
    · exact O.le_trans (h p j hp (by omega) (by omega) (by omega)) hl
  · exact h p q hp hq (by omega) e
theorem st_two [DecidableEq κ] (O : Ord lt) {f : Nat → α} {j n : Nat} (hj : j + 1 < n) (hl : lt (key (f (j + 1))) (key (f j)) = true) : St key (seg f 0 n) (seg (two f j (j + 1)) 0 n) := by
  rw [two_rot]
  exact St.rot O (by omega) (by omega) (by omega) fun p q h1 h2 h3 h4 => by
    have e1 : p = j := by omega
    have e2 : q = j + 1 := by omega
    subst e1 e2; exact hl
theorem two_out {f : Nat → α} {p q k : Nat} (h1 : k ≠ p) (h2 : k ≠ q) : two f p q k = f k := by unfold two; rw [if_neg h1, if_neg h2]
theorem rot_upw {f : Nat → α} {a k : Nat} (h : a ≤ k) : two (rotF f a (a + 1) (k + 1)) k (k + 1) = rotF f a (a + 1) (k + 2) := by
  funext k; unfold two rotF
  (repeat' split) <;> first | rfl | (exfalso; omega) | (congr 1; omega)
theorem rot_0 (f : Nat → α) (a : Nat) : rotF f a (a + 1) (a + 1) = f := by
  funext k; unfold rotF
  (repeat' split) <;> first | rfl | (exfalso; omega) | (congr 1; omega)
theorem rot_00 (f : Nat → α) (m : Nat) : rotF f m m (m + 1) = f := by
  funext k; unfold rotF
  (repeat' split) <;> first | rfl | (exfalso; omega) | (congr 1; omega)
theorem rot_dn {f : Nat → α} {m k : Nat} (h : k < m) : two (rotF f (k + 1) m (m + 1)) k (k + 1) = rotF f k m (m + 1) := by
  funext k; unfold two rotF
  (repeat' split) <;> first | rfl | (exfalso; omega) | (congr 1; omega)
open Labs LabL
open LabN (sl_irrefl sl_total)
theorem ll_trans {x y z : Lab} (h : llB x y = true) (k : llB y z = true) : llB x z = true := by
  by_cases e1 : x.1 = y.1
  · rw [llB_eq e1] at h
    by_cases e2 : y.1 = z.1
    · rw [llB_eq e2] at k
      rw [llB_eq (e1.trans e2)]; exact LabV.lessB_trans h k
    · rw [llB_ne e2] at k
      rw [llB_ne (by rw [e1]; exact e2), e1]; exact k
  · rw [llB_ne e1] at h
    by_cases e2 : y.1 = z.1
    · rw [llB_ne (by rw [← e2]; exact e1), ← e2]; exact h
    · rw [llB_ne e2] at k
      have := LabV.lessB_trans h k
      rw [llB_ne (LabV.lessB_ne this)]; exact this
theorem ll_asym {x y : Lab} (h : llB x y = true) (k : llB y x = true) : False := by
  by_cases e1 : x.1 = y.1
  · rw [llB_eq e1] at h
    rw [llB_eq e1.symm] at k
    rw [LabV.lessB_asymm h] at k; cases k
  · rw [llB_ne e1] at h
    rw [llB_ne (Ne.symm e1)] at k
    rw [LabV.lessB_asymm h] at k; cases k
theorem sl_trans : ∀ {l m k : List Lab}, slB l m = true → slB m k = true → slB l k = true
  | [], m, k, h, h' => by
    cases k with
    | nil => cases m with
      | nil => simp [slB] at h
      | cons y m => simp [slB] at h'
    | cons z k => simp [slB]
  | x :: l, [], k, h, h' => by simp [slB] at h
  | x :: l, y :: m, [], h, h' => by simp [slB] at h'
  | x :: l, y :: m, z :: k, h, h' => by
    rw [slB] at h h' ⊢
    by_cases e1 : x = y
    · rw [if_pos e1] at h
      by_cases e2 : y = z
      · rw [if_pos e2] at h'
        rw [if_pos (e1.trans e2)]; exact sl_trans h h'
      · rw [if_neg e2] at h'
        rw [if_neg (by rw [e1]; exact e2), e1]; exact h'
    · rw [if_neg e1] at h
      by_cases e2 : y = z
      · rw [if_neg (by rw [← e2]; exact e1), ← e2]; exact h
      · rw [if_neg e2] at h'
        have ht := ll_trans h h'
        rw [if_neg (fun e => by subst e; exact ll_asym h h')]; exact ht
theorem ordL : Ord slB := ⟨sl_irrefl, sl_trans, fun {a b} h1 h2 => by
  by_cases e : a = b
  · exact e
  · have := sl_total e
    rw [h1, h2] at this; cases this⟩
end Go.Proofs.YtooninmicfcfoaaGreat.Stb
namespace Go.Proofs.YtooninmicfcfoaaGreat.StwA
open Go.RowKit
open Labs LabS Alms AlmS AlmM Over Blk App Rws ChnI ChnC Stb
open LabL (slB)
open Go.Proofs.YtooninmicfcfoaaGreat.Mark (Apart)
open StrB (retB)

def keyA (x : ARow) : List Lab := x.2.2.l
def cmpA (x y : ARow) : Int := if slB x.2.2.l y.2.2.l = true then -1 else if slB y.2.2.l x.2.2.l = true then 1 else 0
theorem cmp_less {x y : ARow} (h : slB (keyA x) (keyA y) = true) : cmpA x y = -1 := if_pos h
theorem cmp_ge {x y : ARow} (h : slB (keyA x) (keyA y) = false) : 0 ≤ cmpA x y := by
  unfold cmpA
  rw [if_neg (by rw [show slB x.2.2.l y.2.2.l = false from h]; simp)]
  split <;> decide
theorem retI {a b : Int} (h : a = b) : Ending.returned (.int .i64 a) = .returned (.int .i64 b) := by rw [h]
set_option maxHeartbeats 800000 in
theorem less_any (x y : ARow) (lo : Nat) (w : World) (hx : OwnA lo w x) (hy : OwnA lo w y) :
    Calls Tryz.prog 100 #[.agg #[.slice (some ⟨(x).1, 0, none⟩) (x).2.2.l.length (x).2.1, .int .i64 (x).2.2.s, .int .i64 (x).2.2.e, .string (x).2.2.n], .agg #[.slice (some ⟨(y).1, 0, none⟩) (y).2.2.l.length (y).2.1, .int .i64 (y).2.2.s, .int .i64 (y).2.2.e, .string (y).2.2.n]] w fun e w' => e = .returned (.bool (slB x.2.2.l y.2.2.l)) ∧ Below w.heap.size w w' := by
  have HX : Hid (OwnA lo w x ∧ OwnA lo w y) := ⟨hx, hy⟩
  clear hx hy
  go_enter Tryz.func100, Tryz.ntmps100
  go_wp2_with fail
  refine (LabL.implLessS_any _ _ _ _ x.2.2.l y.2.2.l _ (HX.out.1.reads.below (Go.Joins.below_alloc2 w _ _)) (HX.out.2.reads.below (Go.Joins.below_alloc2 w _ _)) (by have := HX.out.1.2.1; unfold maxLen; omega) (by have := HX.out.2.2.1; unfold maxLen; omega)).mono ?_
  rintro e w1 ⟨rfl, hb⟩
  have HB : Hid (Below w.heap.size w w1) := grow_on (Go.Joins.below_alloc2 w _ _) hb
  clear hb
  go_wp2
  go_ret
  exact ⟨rfl, HB.out⟩
set_option maxHeartbeats 1600000 in
theorem cmp_any (x y : ARow) (b0 lo : Nat) (w : World) (hx : OwnA lo w x) (hy : OwnA lo w y) (hc : w.cell? ⟨b0, 0, none⟩ = some (.func (.func 100) #[] #[])) (hb : b0 < w.heap.size) :
    Calls Tryz.prog 142 #[.agg #[.slice (some ⟨(x).1, 0, none⟩) (x).2.2.l.length (x).2.1, .int .i64 (x).2.2.s, .int .i64 (x).2.2.e, .string (x).2.2.n], .agg #[.slice (some ⟨(y).1, 0, none⟩) (y).2.2.l.length (y).2.1, .int .i64 (y).2.2.s, .int .i64 (y).2.2.e, .string (y).2.2.n], .pointer (some ⟨b0, 0, none⟩)] w fun e w' => e = .returned (.int .i64 (cmpA x y)) ∧ Below w.heap.size w w' := by
  have HX : Hid (OwnA lo w x ∧ OwnA lo w y) := ⟨hx, hy⟩
  clear hx hy
  have HA : ∀ o o', Hid (Below w.heap.size w ((w.alloc o).alloc o')) := fun o o' => ((Below.refl _ _).alloc (Nat.le_refl _) o).alloc (by simp) o'
  have hc1 : ∀ o o', ((w.alloc o).alloc o').cell? ⟨b0, 0, none⟩ = some (.func (.func 100) #[] #[]) := fun o o' => by
    rw [World.cell?_alloc_lt _ _ _ (by simp; omega), World.cell?_alloc_lt _ _ _ hb]; exact hc
  clear hc
  obtain ⟨X, hXX⟩ : ∃ b, slB x.2.2.l y.2.2.l = b := ⟨_, rfl⟩
  obtain ⟨Y, hYY⟩ : ∃ b, slB y.2.2.l x.2.2.l = b := ⟨_, rfl⟩
  have HE : Hid (cmpA x y = if X = true then -1 else if Y = true then 1 else 0) := by show _ = _; unfold cmpA; rw [hXX, hYY]
  go_enter Tryz.func142, Tryz.ntmps142
  go_wp2_with fail
  refine (less_any x y lo _ (HX.out.1.grow (HA _ _).out) (HX.out.2.grow (HA _ _).out)).mono ?_
  rintro e w1 ⟨rfl, hb1⟩
  have HB1 : Hid (Below w.heap.size w w1) := grow_on (HA _ _).out hb1
  have c0 : w1.cell? ⟨b0, 0, none⟩ = some (.func (.func 100) #[] #[]) := by rw [hb1.cell (by simp; omega)]; exact hc1 _ _
  have p0 : w1.cell? ⟨w.heap.size, 0, none⟩ = some (.slice (some ⟨(x).1, 0, none⟩) (x).2.2.l.length (x).2.1) := by rw [hb1.cell (by simp; omega)]; simp
  have p1 : w1.cell? ⟨w.heap.size, 1, none⟩ = some (.int .i64 (x).2.2.s) := by rw [hb1.cell (by simp; omega)]; simp
  have p2 : w1.cell? ⟨w.heap.size, 2, none⟩ = some (.int .i64 (x).2.2.e) := by rw [hb1.cell (by simp; omega)]; simp
  have p3 : w1.cell? ⟨w.heap.size, 3, none⟩ = some (.string (x).2.2.n) := by rw [hb1.cell (by simp; omega)]; simp
  have q0 : w1.cell? ⟨w.heap.size + 1, 0, none⟩ = some (.slice (some ⟨(y).1, 0, none⟩) (y).2.2.l.length (y).2.1) := by rw [hb1.cell (by simp)]; simp
  have q1 : w1.cell? ⟨w.heap.size + 1, 1, none⟩ = some (.int .i64 (y).2.2.s) := by rw [hb1.cell (by simp)]; simp
  have q2 : w1.cell? ⟨w.heap.size + 1, 2, none⟩ = some (.int .i64 (y).2.2.e) := by rw [hb1.cell (by simp)]; simp
  have q3 : w1.cell? ⟨w.heap.size + 1, 3, none⟩ = some (.string (y).2.2.n) := by rw [hb1.cell (by simp)]; simp
  clear hb1
  rw [hXX]
  cases X with
  | true =>
    have HL : Hid (cmpA x y = -1) := by show _ = _; rw [HE.out]; rfl
    go_wp2
    go_ret
    exact ⟨retI HL.out.symm, HB1.out⟩
  | false =>
    go_wp2_with fail
    refine (less_any y x lo _ (HX.out.2.grow HB1.out) (HX.out.1.grow HB1.out)).mono ?_
    rintro e w2 ⟨rfl, hb2⟩
    have HB2 : Hid (Below w.heap.size w w2) := grow_on HB1.out hb2
    clear hb2
    rw [hYY]
    cases Y with
    | true =>
      have HK : Hid (cmpA x y = 1) := by show _ = _; rw [HE.out]; rfl
      go_wp2
      go_ret
      exact ⟨retI HK.out.symm, HB2.out⟩
    | false =>
      have HK : Hid (cmpA x y = 0) := by show _ = _; rw [HE.out]; rfl
      go_wp2
      go_ret
      exact ⟨retI HK.out.symm, HB2.out⟩
structure SR (lo : Nat) (w : World) (M n : Nat) (f : Nat → ARow) : Prop where
  outer : ∃ cur : Array Value, Blk w M cur 29 ∧ cur.size = n * 4 ∧ ∀ i, i < n → Four (fun k => cur[k]?) i (f i)
  rows : ∀ i, i < n → OwnA lo w (f i)
theorem SR.grow {lo : Nat} {w w' : World} {M n : Nat} {f : Nat → ARow} (h : SR lo w M n f) (hb : Below w.heap.size w w') : SR lo w' M n f := by
  obtain ⟨cur, h1, h2⟩ := h.outer
  exact ⟨⟨cur, h1.grow hb, h2⟩, fun i hi => (h.rows i hi).grow hb⟩
theorem SR.lt {lo : Nat} {w : World} {M n : Nat} {f : Nat → ARow} (h : SR lo w M n f) : M < w.heap.size := by
  obtain ⟨cur, h1, _⟩ := h.outer
  exact h1.lt
theorem SR.cell {lo : Nat} {w : World} {M n : Nat} {f : Nat → ARow} (h : SR lo w M n f) {i : Nat} (hi : i < n) : Four (fun k => w.cell? ⟨M, k, none⟩) i (f i) := by
  obtain ⟨cur, h1, h2, h3⟩ := h.outer
  exact (h3 i hi).congr fun k _ _ => h1.cell k
theorem SR.frozen {lo : Nat} {w : World} {M n : Nat} {f : Nat → ARow} (h : SR lo w M n f) (i : Nat) : w.frozen? ⟨M, i, none⟩ = false := by
  obtain ⟨cur, h1, _⟩ := h.outer
  exact h1.frozen i
theorem SR.drew {lo : Nat} {w : World} {M n : Nat} {f : Nat → ARow} (h : SR lo w M n f) : SR lo w.drew M n f := h.grow (Below.refl _ _).drew
def W8 (w : World) (M p q : Nat) (f : Nat → ARow) : World := put4W (put4W w M p (f q)) M q (f p)
theorem SR.two {lo : Nat} {w : World} {M n : Nat} {f : Nat → ARow} (h : SR lo w M n f) {p q : Nat} (hp : p < n) (hq : q < n) (hpq : p ≠ q) : SR lo (W8 w M p q f) M n (Stb.two f p q) := by
  obtain ⟨cur, h1, h2, h3⟩ := h.outer
  have far : ∀ y, OwnA lo w y → OwnA lo (W8 w M p q f) y := fun y hy => by
    obtain ⟨h0, h1', ds, h2, h3⟩ := hy
    exact ⟨h0, h1', ds, put4W_other (put4W_other h2 (blkA_ne h1 h2)) (blkA_ne h1 h2), h3⟩
  refine ⟨⟨_, put4W_blk (put4W_blk h1), by rw [put4_size, put4_size]; exact h2, fun i hi => ?_⟩, fun i hi => far _ ?_⟩
  · unfold Stb.two
    by_cases e1 : i = p
    · rw [if_pos e1, e1]
      exact (put4_at (cs := cur) (k := p) (x := f q) (by omega)).congr fun j h0 h1 => put4_ne (by omega)
    · rw [if_neg e1]
      by_cases e2 : i = q
      · rw [if_pos e2, e2]
        exact put4_at (by rw [put4_size]; omega)
      · rw [if_neg e2]
        exact (h3 i hi).congr fun j h0 h1 => by
          show (put4C (put4C cur p (f q)) q (f p))[j]? = cur[j]?
          rw [put4_ne (by omega), put4_ne (by omega)]
  · unfold Stb.two
    split
    · exact h.rows q hq
    · split
      · exact h.rows p hp
      · exact h.rows i hi
theorem apart_put4 {M k : Nat} {a w : World} {x : ARow} (h : Apart M a w) : Apart M a (put4W w M k x) := (((h.setCell _ _).setCell _ _).setCell _ _).setCell _ _
theorem apart_two {M p q : Nat} {a w : World} {f : Nat → ARow} (h : Apart M a w) : Apart M a (W8 w M p q f) := apart_put4 (apart_put4 h)
theorem apart_drew {M : Nat} {a w : World} (h : Apart M a w) : Apart M a w.drew := ⟨h.os, h.tape, h.output, h.size, h.block⟩
structure Sd (lo : Nat) (w : World) (M n : Nat) (f : Nat → ARow) (a b : Nat) (w' : World) : Prop where
  ex : ∃ g, SR lo w' M n g ∧ Mrg slB keyA f g a b n
  ap : Apart M w w'
theorem fnAt {M b0 : Nat} {w w' : World} {v : Value} (h : Apart M w w') (hc : w.cell? ⟨b0, 0, none⟩ = some v) (hb : b0 < w.heap.size) (hne : b0 ≠ M) : w'.cell? ⟨b0, 0, none⟩ = some v := by
  rw [← hc]
  unfold World.cell?
  rw [h.block b0 hb hne]
end Go.Proofs.YtooninmicfcfoaaGreat.StwA
namespace Go.Proofs.YtooninmicfcfoaaGreat.StwC
open Go.RowKit
open Labs LabS Alms AlmS AlmM Over Blk App Rws ChnI ChnC Stb
open LabL (slB)
open Go.Proofs.YtooninmicfcfoaaGreat.Mark (Apart)
open StrB (retB)
open StwA
set_option maxRecDepth 100000 in
set_option maxHeartbeats 3200000 in
theorem swap_any (M b0 cap lo n p q m : Nat) (f : Nat → ARow) (w : World) (hS : SR lo w M n f) (hn : n ≤ 4194304) (hpq : p + m ≤ q) (hq : q + m ≤ n) :
    Calls Tryz.prog 205 #[.slice (some ⟨M, 0, none⟩) n cap, .int .i64 p, .int .i64 q, .int .i64 m, .func (.func 142) #[] #[.pointer (some ⟨b0, 0, none⟩)]] w
      fun e w' => e = .returned (.tuple #[]) ∧ SR lo w' M n (swapF f p q m) ∧ Apart M w w' := by
  have HS : Hid (SR lo w M n f) := hS
  clear hS
  go_enter Tryz.func205, Tryz.ntmps205
  go_wp2
  go_loopw [10] (fun v w' => ∃ i : Nat, v = .int .i64 i ∧ i ≤ m ∧ SR lo w' M n (swapF f p q i) ∧ Apart M w w') (fun v _ => m - (intOf v).toNat)
  case atStart => exact ⟨0, rfl, Nat.zero_le _, by rw [swapF_0]; exact HS.out, Apart.refl _ _⟩
  case round =>
    obtain ⟨i, rfl, hi, hS1, hA1⟩ := hrel
    have H1 : Hid (SR lo wr M n (swapF f p q i) ∧ Apart M w wr) := ⟨hS1, hA1⟩
    clear hS1 hA1 HS
    by_cases hlt : i < m
    · have hlt' : (i : Int) < (m : Int) := by omega
      have HU : Hid (Stb.two (swapF f p q i) (p + i) (q + i) = swapF f p q (i + 1)) := swapF_up hpq hlt
      have hP1 : (p : Int) + (i : Int) < (n : Int) := by omega
      have hQ1 : (q : Int) + (i : Int) < (n : Int) := by omega
      obtain ⟨g, hg⟩ : ∃ g, swapF f p q i = g := ⟨_, rfl⟩
      rw [hg] at H1 HU
      clear hg
      obtain ⟨x0, x1, x2, x3⟩ : wr.cell? ⟨M, (p + i) * 4, none⟩ = some (.slice (some ⟨(g (p + i)).1, 0, none⟩) (g (p + i)).2.2.l.length (g (p + i)).2.1) ∧ wr.cell? ⟨M, (p + i) * 4 + 1, none⟩ = some (.int .i64 (g (p + i)).2.2.s) ∧ wr.cell? ⟨M, (p + i) * 4 + 2, none⟩ = some (.int .i64 (g (p + i)).2.2.e) ∧ wr.cell? ⟨M, (p + i) * 4 + 3, none⟩ = some (.string (g (p + i)).2.2.n) := H1.out.1.cell (by omega)
      have fx0 : wr.frozen? ⟨M, (p + i) * 4, none⟩ = false := H1.out.1.frozen _
      have fx1 : wr.frozen? ⟨M, (p + i) * 4 + 1, none⟩ = false := H1.out.1.frozen _
      have fx2 : wr.frozen? ⟨M, (p + i) * 4 + 2, none⟩ = false := H1.out.1.frozen _
      have fx3 : wr.frozen? ⟨M, (p + i) * 4 + 3, none⟩ = false := H1.out.1.frozen _
      obtain ⟨y0, y1, y2, y3⟩ : wr.cell? ⟨M, (q + i) * 4, none⟩ = some (.slice (some ⟨(g (q + i)).1, 0, none⟩) (g (q + i)).2.2.l.length (g (q + i)).2.1) ∧ wr.cell? ⟨M, (q + i) * 4 + 1, none⟩ = some (.int .i64 (g (q + i)).2.2.s) ∧ wr.cell? ⟨M, (q + i) * 4 + 2, none⟩ = some (.int .i64 (g (q + i)).2.2.e) ∧ wr.cell? ⟨M, (q + i) * 4 + 3, none⟩ = some (.string (g (q + i)).2.2.n) := H1.out.1.cell (by omega)
      have fy0 : wr.frozen? ⟨M, (q + i) * 4, none⟩ = false := H1.out.1.frozen _
      have fy1 : wr.frozen? ⟨M, (q + i) * 4 + 1, none⟩ = false := H1.out.1.frozen _
      have fy2 : wr.frozen? ⟨M, (q + i) * 4 + 2, none⟩ = false := H1.out.1.frozen _
      have fy3 : wr.frozen? ⟨M, (q + i) * 4 + 3, none⟩ = false := H1.out.1.frozen _
      have eP : (p : Int) + (i : Int) = ((p + i : Nat) : Int) := by omega
      have eQ : (q : Int) + (i : Int) = ((q + i : Nat) : Int) := by omega
      generalize hP : p + i = P at *
      generalize hQ : q + i = Q at *
      have HPQ : Hid (P < n ∧ Q < n ∧ P ≠ Q) := ⟨by omega, by omega, by omega⟩
      have hP2 : (P : Int) < (n : Int) := by omega
      have hQ2 : (Q : Int) < (n : Int) := by omega
      clear hP hQ hP1 hQ1
      go_wp2
      go_region
      go_wp2
      go_roundw
      case rel => exact ⟨i + 1, by go_num, by omega, by rw [← HU.out]; exact (H1.out.1.two (p := P) (q := Q) HPQ.out.1 HPQ.out.2.1 HPQ.out.2.2).drew, apart_drew (apart_two (p := P) (q := Q) (f := g) H1.out.2)⟩
      case measure => simp [intOf]; omega
    have hge : ¬ (i : Int) < (m : Int) := by omega
    have HE : Hid (i = m) := by show i = m; omega
    go_wp2
    go_end0
    exact ⟨rfl, by have := H1.out.1; rwa [HE.out] at this, H1.out.2⟩
set_option maxRecDepth 100000 in
set_option maxHeartbeats 3200000 in
theorem rot_any (M b0 cap lo n a m b : Nat) (f : Nat → ARow) (w : World) (hS : SR lo w M n f) (hn : n ≤ 4194304) (ham : a < m) (hmb : m < b) (hbn : b ≤ n) :
    Calls Tryz.prog 200 #[.slice (some ⟨M, 0, none⟩) n cap, .int .i64 a, .int .i64 m, .int .i64 b, .func (.func 142) #[] #[.pointer (some ⟨b0, 0, none⟩)]] w
      fun e w' => e = .returned (.tuple #[]) ∧ SR lo w' M n (rotF f a m b) ∧ Apart M w w' := by
  have HS : Hid (SR lo w M n f) := hS
  clear hS
  go_enter Tryz.func200, Tryz.ntmps200
  go_wp2
  go_loopw [10, 11] (fun u v w' => ∃ (i j : Nat) (g : Nat → ARow), u = .int .i64 i ∧ v = .int .i64 j ∧ 0 < i ∧ 0 < j ∧ i ≤ m ∧ m + j ≤ n ∧ SR lo w' M n g ∧ rotF g (m - i) m (m + j) = rotF f a m b ∧ Apart M w w') (fun u v _ => (intOf u).toNat + (intOf v).toNat)
  case atStart => exact ⟨m - a, b - m, f, by go_num, by go_num, by omega, by omega, by omega, by omega, HS.out, by rw [show m - (m - a) = a by omega, show m + (b - m) = b by omega], Apart.refl _ _⟩
  case round =>
    obtain ⟨i, j, g, rfl, rfl, hi, hj, him, hjn, hS1, hR, hA1⟩ := hrel
    have H1 : Hid (SR lo wr M n g ∧ rotF g (m - i) m (m + j) = rotF f a m b ∧ Apart M w wr) := ⟨hS1, hR, hA1⟩
    clear hS1 hR hA1 HS
    have e1 : (m : Int) - (i : Int) = ((m - i : Nat) : Int) := by omega
    rcases Nat.lt_trichotomy i j with hlt | heq | hgt
    · have hne : ¬ (i : Int) = (j : Int) := by omega
      have hng : ¬ (j : Int) < (i : Int) := by omega
      have e2 : (m : Int) + (j : Int) = ((m + j : Nat) : Int) := by omega
      have e3 : ((m + j : Nat) : Int) - (i : Int) = ((m + j - i : Nat) : Int) := by omega
      have HU : Hid (Calls Tryz.prog 205 #[.slice (some ⟨M, 0, none⟩) n cap, .int .i64 (m - i : Nat), .int .i64 (m + j - i : Nat), .int .i64 i, .func (.func 142) #[] #[.pointer (some ⟨b0, 0, none⟩)]] wr fun e w' => e = .returned (.tuple #[]) ∧ SR lo w' M n (swapF g (m - i) (m + j - i) i) ∧ Apart M wr w') := swap_any M b0 cap lo n (m - i) (m + j - i) i g wr H1.out.1 hn (by omega) (by omega)
      have HQ : Hid (rotF (swapF g (m - i) (m + j - i) i) (m - i) m (m + (j - i)) = rotF f a m b) := (rot_lt hlt him hi).trans H1.out.2.1
      generalize hx : m - i = x at e1 HU HQ
      generalize hy : m + j - i = y at e3 HU HQ
      generalize hz : m + j = z at e2 e3
      go_wp2_with fail
      refine HU.out.mono ?_
      rintro e w1 ⟨rfl, hS2, hA2⟩
      have H2 : Hid (SR lo w1 M n (swapF g x y i) ∧ Apart M w w1) := ⟨hS2, H1.out.2.2.trans hA2⟩
      clear hS2 hA2 HU
      go_wp2
      go_roundw
      case rel => exact ⟨i, j - i, _, rfl, by go_num, hi, by omega, him, by omega, H2.out.1, by rw [hx]; exact HQ.out, H2.out.2⟩
      case measure => simp [intOf]; omega
    · subst heq
      have HU : Hid (Calls Tryz.prog 205 #[.slice (some ⟨M, 0, none⟩) n cap, .int .i64 (m - i : Nat), .int .i64 m, .int .i64 i, .func (.func 142) #[] #[.pointer (some ⟨b0, 0, none⟩)]] wr fun e w' => e = .returned (.tuple #[]) ∧ SR lo w' M n (swapF g (m - i) m i) ∧ Apart M wr w') := swap_any M b0 cap lo n (m - i) m i g wr H1.out.1 hn (by omega) (by omega)
      have HQ : Hid (swapF g (m - i) m i = rotF f a m b) := (rot_eq him).trans H1.out.2.1
      generalize hx : m - i = x at e1 HU HQ
      go_wp2_with fail
      refine HU.out.mono ?_
      rintro e w1 ⟨rfl, hS2, hA2⟩
      have H2 : Hid (SR lo w1 M n (rotF f a m b) ∧ Apart M w w1) := ⟨by rw [← HQ.out]; exact hS2, H1.out.2.2.trans hA2⟩
      clear hS2 hA2 HU
      go_wp2
      go_end0
      exact ⟨rfl, H2.out⟩
    · have hne : ¬ (i : Int) = (j : Int) := by omega
      have hng : (j : Int) < (i : Int) := by omega
      have HU : Hid (Calls Tryz.prog 205 #[.slice (some ⟨M, 0, none⟩) n cap, .int .i64 (m - i : Nat), .int .i64 m, .int .i64 j, .func (.func 142) #[] #[.pointer (some ⟨b0, 0, none⟩)]] wr fun e w' => e = .returned (.tuple #[]) ∧ SR lo w' M n (swapF g (m - i) m j) ∧ Apart M wr w') := swap_any M b0 cap lo n (m - i) m j g wr H1.out.1 hn (by omega) (by omega)
      have HQ : Hid (rotF (swapF g (m - i) m j) (m - (i - j)) m (m + j) = rotF f a m b) := (rot_gt hgt him hj).trans H1.out.2.1
      generalize hx : m - i = x at e1 HU HQ
      go_wp2_with fail
      refine HU.out.mono ?_
      rintro e w1 ⟨rfl, hS2, hA2⟩
      have H2 : Hid (SR lo w1 M n (swapF g x m j) ∧ Apart M w w1) := ⟨hS2, H1.out.2.2.trans hA2⟩
      clear hS2 hA2 HU
      go_wp2
      go_roundw
      case rel => exact ⟨i - j, j, _, by go_num, rfl, by omega, hj, by omega, hjn, H2.out.1, HQ.out, H2.out.2⟩
      case measure => simp [intOf]; omega
end Go.Proofs.YtooninmicfcfoaaGreat.StwC
namespace Go.Proofs.YtooninmicfcfoaaGreat.StwD
open Go.RowKit
open Labs LabS Alms AlmS AlmM Over Blk App Rws ChnI ChnC Stb
open LabL (slB)
open Go.Proofs.YtooninmicfcfoaaGreat.Mark (Apart)
open StrB (retB)
open StwA
open StwC
theorem rot_triv {α : Type} {f : Nat → α} {s m e : Nat} (h1 : s ≤ m) (h2 : m ≤ e) (h : s = m ∨ e = m) : rotF f s m e = f := by
  funext k; unfold rotF
  (repeat' split) <;> first | rfl | (exfalso; omega) | (congr 1; omega)
set_option maxRecDepth 100000 in
set_option maxHeartbeats 12800000 in
theorem symL_any (M b0 cap lo n a m b : Nat) (f : Nat → ARow) (w : World) (hS : SR lo w M n f) (hn : n ≤ 4194304) (hc : w.cell? ⟨b0, 0, none⟩ = some (.func (.func 100) #[] #[])) (hb0 : b0 < w.heap.size) (hM : b0 ≠ M) (ham : a < m) (hmb : m < b) (hbn : b ≤ n) (hL : Srt slB keyA f a m) (hR : Srt slB keyA f m b) (h1 : m - a = 1) :
    Calls Tryz.prog 189 #[.slice (some ⟨M, 0, none⟩) n cap, .int .i64 a, .int .i64 m, .int .i64 b, .func (.func 142) #[] #[.pointer (some ⟨b0, 0, none⟩)]] w fun e w' => e = .returned (.tuple #[]) ∧ Sd lo w M n f a b w' := by
  have HC : Hid (w.cell? ⟨b0, 0, none⟩ = some (.func (.func 100) #[] #[]) ∧ b0 < w.heap.size ∧ b0 ≠ M) := ⟨hc, hb0, hM⟩
  have HS : Hid (SR lo w M n f) := hS
  have HL : Hid (Srt slB keyA f a m ∧ Srt slB keyA f m b) := ⟨hL, hR⟩
  clear hc hS hb0 hM hL hR
  have HA0 : Hid (Apart M w w) := Apart.refl _ _
  have hh1 : (m : Int) - (a : Int) = 1 := by omega
  go_enter Tryz.func189, Tryz.ntmps189
  go_wp2
  go_loopw [10, 11] (fun u v w' => ∃ i j : Nat, u = .int .i64 i ∧ v = .int .i64 j ∧ m ≤ i ∧ i ≤ j ∧ j ≤ b ∧ SR lo w' M n f ∧ Apart M w w' ∧ (∀ p, m ≤ p → p < i → slB (keyA (f p)) (keyA (f a)) = true) ∧ (∀ p, j ≤ p → p < b → slB (keyA (f p)) (keyA (f a)) = false)) (fun u v _ => (intOf v).toNat - (intOf u).toNat)
  case atStart => exact ⟨m, b, rfl, rfl, Nat.le_refl _, by omega, Nat.le_refl _, HS.out, HA0.out, ⟨fun p h1 h2 => by omega, fun p h1 h2 => by omega⟩⟩
  case round =>
    obtain ⟨i, j, rfl, rfl, hi, hij, hj, hS1, hA1, hrl⟩ := hrel
    have H1 : Hid (SR lo wr M n f ∧ ((∀ p, m ≤ p → p < i → slB (keyA (f p)) (keyA (f a)) = true) ∧ (∀ p, j ≤ p → p < b → slB (keyA (f p)) (keyA (f a)) = false))) := ⟨hS1, hrl⟩
    have HA : Hid (Apart M w wr) := hA1
    have hMr : M < wr.heap.size := hS1.lt
    clear hS1 hA1 hrl HS
    by_cases hlt : i < j
    · have hlt' : (i : Int) < (j : Int) := by omega
      obtain ⟨h, hh⟩ : ∃ h : Nat, h = (i + j) / 2 := ⟨_, rfl⟩
      have eh : ((i : Int) + (j : Int)) / 2 = (h : Int) := by omega
      have hbh : i ≤ h ∧ h < j := by omega
      clear hh
      have hhn : (h : Int) < (n : Int) := by omega
      have han : (a : Int) < (n : Int) := by omega
      have hne := Grown.some wr
      have HCm : ∀ (x y : ARow) (q : Grown wr), OwnA lo wr x → OwnA lo wr y → Hid (Calls Tryz.prog 142 #[.agg #[.slice (some ⟨(x).1, 0, none⟩) (x).2.2.l.length (x).2.1, .int .i64 (x).2.2.s, .int .i64 (x).2.2.e, .string (x).2.2.n], .agg #[.slice (some ⟨(y).1, 0, none⟩) (y).2.2.l.length (y).2.1, .int .i64 (y).2.2.s, .int .i64 (y).2.2.e, .string (y).2.2.n], .pointer (some ⟨b0, 0, none⟩)] q.out fun e w' => e = .returned (.int .i64 (cmpA x y)) ∧ Below q.out.heap.size q.out w') := fun x y q hx hy =>
        cmp_any x y b0 lo q.out (hx.grow q.bel) (hy.grow q.bel) (by rw [q.bel.cell (Nat.lt_of_lt_of_le HC.out.2.1 HA.out.size)]; exact fnAt HA.out HC.out.1 HC.out.2.1 HC.out.2.2) (Nat.lt_of_lt_of_le HC.out.2.1 (Nat.le_trans HA.out.size q.bel.size))
      obtain ⟨z0, z1, z2, z3⟩ : wr.cell? ⟨M, h * 4, none⟩ = some (.slice (some ⟨(f h).1, 0, none⟩) (f h).2.2.l.length (f h).2.1) ∧ wr.cell? ⟨M, h * 4 + 1, none⟩ = some (.int .i64 (f h).2.2.s) ∧ wr.cell? ⟨M, h * 4 + 2, none⟩ = some (.int .i64 (f h).2.2.e) ∧ wr.cell? ⟨M, h * 4 + 3, none⟩ = some (.string (f h).2.2.n) := H1.out.1.cell (by omega)
      have x0 := fun q : Grown wr => q.cell (p := ⟨M, h * 4, none⟩) hMr z0
      have x1 := fun q : Grown wr => q.cell (p := ⟨M, h * 4 + 1, none⟩) hMr z1
      have x2 := fun q : Grown wr => q.cell (p := ⟨M, h * 4 + 2, none⟩) hMr z2
      have x3 := fun q : Grown wr => q.cell (p := ⟨M, h * 4 + 3, none⟩) hMr z3
      clear z0 z1 z2 z3
      obtain ⟨z0, z1, z2, z3⟩ : wr.cell? ⟨M, a * 4, none⟩ = some (.slice (some ⟨(f a).1, 0, none⟩) (f a).2.2.l.length (f a).2.1) ∧ wr.cell? ⟨M, a * 4 + 1, none⟩ = some (.int .i64 (f a).2.2.s) ∧ wr.cell? ⟨M, a * 4 + 2, none⟩ = some (.int .i64 (f a).2.2.e) ∧ wr.cell? ⟨M, a * 4 + 3, none⟩ = some (.string (f a).2.2.n) := H1.out.1.cell (by omega)
      have y0 := fun q : Grown wr => q.cell (p := ⟨M, a * 4, none⟩) hMr z0
      have y1 := fun q : Grown wr => q.cell (p := ⟨M, a * 4 + 1, none⟩) hMr z1
      have y2 := fun q : Grown wr => q.cell (p := ⟨M, a * 4 + 2, none⟩) hMr z2
      have y3 := fun q : Grown wr => q.cell (p := ⟨M, a * 4 + 3, none⟩) hMr z3
      clear z0 z1 z2 z3
      have HCx := fun q : Grown wr => HCm (f h) (f a) q (H1.out.1.rows h (by omega)) (H1.out.1.rows a (by omega))
      clear HCm
      cases hq : slB (keyA (f h)) (keyA (f a)) with
      | true =>
        have HC1 : ∀ q : Grown wr, Hid (Calls Tryz.prog 142 #[.agg #[.slice (some ⟨(f h).1, 0, none⟩) (f h).2.2.l.length (f h).2.1, .int .i64 (f h).2.2.s, .int .i64 (f h).2.2.e, .string (f h).2.2.n], .agg #[.slice (some ⟨(f a).1, 0, none⟩) (f a).2.2.l.length (f a).2.1, .int .i64 (f a).2.2.s, .int .i64 (f a).2.2.e, .string (f a).2.2.n], .pointer (some ⟨b0, 0, none⟩)] q.out fun e w' => e = .returned (.int .i64 (-1)) ∧ Below q.out.heap.size q.out w') := fun q => (HCx q).out.mono fun e w' h => ⟨h.1.trans (StwA.retI (cmp_less hq)), h.2⟩
        have HQ : Hid (slB (keyA (f h)) (keyA (f a)) = true) := hq
        clear hq HCx
        go_wp2
        refine wp_over (z := wr) (by kernel_rfl) (by kernel_rfl) (Below.refl _ _) ?_
        repeat (go_big_quiet_step (first | (go_at_call 142; first | exact call_over (HC1 _).out)))
        refine wpQuiet_nil ?_
        intro w2 hw2
        have hb2 := over_bel hw2
        have H2 : Hid (SR lo w2 M n f ∧ Apart M w w2) := ⟨H1.out.1.grow hb2, HA.out.below hb2⟩
        clear hw2 hne hb2 x0 x1 x2 x3 y0 y1 y2 y3 HC1
        go_wp2
        go_roundw
        case rel => exact ⟨h + 1, j, by go_num, rfl, by omega, by omega, hj, H2.out.1, H2.out.2, fun p h1 h2 => ordL.le_lt (HL.out.2.le ordL h1 (by omega) (by omega)) HQ.out, H1.out.2.2⟩
        case measure => simp [intOf]; omega
      | false =>
        have hge : ¬ cmpA (f h) (f a) < 0 := by have := cmp_ge hq; omega
        have hgb : decide (cmpA (f h) (f a) < 0) = false := decide_eq_false hge
        have HQ : Hid (slB (keyA (f h)) (keyA (f a)) = false) := hq
        clear hq
        go_wp2
        refine wp_over (z := wr) (by kernel_rfl) (by kernel_rfl) (Below.refl _ _) ?_
        repeat (go_big_quiet_step (first | (go_at_call 142; first | exact call_over (HCx _).out)))
        refine wpQuiet_nil ?_
        intro w2 hw2
        have hb2 := over_bel hw2
        have H2 : Hid (SR lo w2 M n f ∧ Apart M w w2) := ⟨H1.out.1.grow hb2, HA.out.below hb2⟩
        clear hw2 hne hb2 x0 x1 x2 x3 y0 y1 y2 y3 HCx
        go_wp2
        go_roundw
        case rel => exact ⟨i, h, rfl, rfl, hi, by omega, by omega, H2.out.1, H2.out.2, H1.out.2.1, fun p h1 h2 => ordL.le_trans HQ.out (HL.out.2.le ordL (by omega) h1 h2)⟩
        case measure => simp [intOf]; omega
    have hge : ¬ (i : Int) < (j : Int) := by omega
    have HE : Hid (i = j) := by show i = j; omega
    have hi1 : (1 : Int) ≤ (i : Int) := by omega
    go_wp2
    go_loopw [13] (fun v w' => ∃ k : Nat, v = .int .i64 k ∧ a ≤ k ∧ k + 1 ≤ i ∧ SR lo w' M n (rotF f a (a + 1) (k + 1)) ∧ Apart M w w') (fun v _ => i - (intOf v).toNat)
    case atStart => exact ⟨a, rfl, Nat.le_refl _, by omega, by rw [rot_0]; exact H1.out.1, HA.out⟩
    case round =>
      obtain ⟨k, rfl, hak, hki, hS1, hA1⟩ := hrel
      have H3 : Hid (SR lo wr M n (rotF f a (a + 1) (k + 1)) ∧ Apart M w wr) := ⟨hS1, hA1⟩
      clear hS1 hA1
      by_cases hlt : k + 1 < i
      · have hlt' : (k : Int) < (i : Int) - 1 := by omega
        have HU : Hid (Stb.two (rotF f a (a + 1) (k + 1)) k (k + 1) = rotF f a (a + 1) (k + 1 + 1)) := rot_upw hak
        obtain ⟨g, hg⟩ : ∃ g, rotF f a (a + 1) (k + 1) = g := ⟨_, rfl⟩
        rw [hg] at H3 HU
        clear hg
        have hk1 : (k : Int) + 1 < (n : Int) := by omega
        have hk0 : (k : Int) < (n : Int) := by omega
        obtain ⟨x0, x1, x2, x3⟩ : wr.cell? ⟨M, (k + 1) * 4, none⟩ = some (.slice (some ⟨(g (k + 1)).1, 0, none⟩) (g (k + 1)).2.2.l.length (g (k + 1)).2.1) ∧ wr.cell? ⟨M, (k + 1) * 4 + 1, none⟩ = some (.int .i64 (g (k + 1)).2.2.s) ∧ wr.cell? ⟨M, (k + 1) * 4 + 2, none⟩ = some (.int .i64 (g (k + 1)).2.2.e) ∧ wr.cell? ⟨M, (k + 1) * 4 + 3, none⟩ = some (.string (g (k + 1)).2.2.n) := H3.out.1.cell (by omega)
        have fx0 : wr.frozen? ⟨M, (k + 1) * 4, none⟩ = false := H3.out.1.frozen _
        have fx1 : wr.frozen? ⟨M, (k + 1) * 4 + 1, none⟩ = false := H3.out.1.frozen _
        have fx2 : wr.frozen? ⟨M, (k + 1) * 4 + 2, none⟩ = false := H3.out.1.frozen _
        have fx3 : wr.frozen? ⟨M, (k + 1) * 4 + 3, none⟩ = false := H3.out.1.frozen _
        obtain ⟨y0, y1, y2, y3⟩ : wr.cell? ⟨M, k * 4, none⟩ = some (.slice (some ⟨(g k).1, 0, none⟩) (g k).2.2.l.length (g k).2.1) ∧ wr.cell? ⟨M, k * 4 + 1, none⟩ = some (.int .i64 (g k).2.2.s) ∧ wr.cell? ⟨M, k * 4 + 2, none⟩ = some (.int .i64 (g k).2.2.e) ∧ wr.cell? ⟨M, k * 4 + 3, none⟩ = some (.string (g k).2.2.n) := H3.out.1.cell (by omega)
        have fy0 : wr.frozen? ⟨M, k * 4, none⟩ = false := H3.out.1.frozen _
        have fy1 : wr.frozen? ⟨M, k * 4 + 1, none⟩ = false := H3.out.1.frozen _
        have fy2 : wr.frozen? ⟨M, k * 4 + 2, none⟩ = false := H3.out.1.frozen _
        have fy3 : wr.frozen? ⟨M, k * 4 + 3, none⟩ = false := H3.out.1.frozen _
        go_wp2
        go_region
        go_wp2
        go_roundw
        case rel => exact ⟨k + 1, by go_num, by omega, by omega, by rw [← HU.out]; exact (H3.out.1.two (p := k) (q := k + 1) (by omega) (by omega) (by omega)).drew, apart_drew (apart_two (p := k) (q := k + 1) (f := g) H3.out.2)⟩
        case measure => simp [intOf]; omega
      have hge2 : ¬ (k : Int) < (i : Int) - 1 := by omega
      have HK : Hid (k + 1 = i ∧ m = a + 1) := ⟨by omega, by omega⟩
      have HF : Hid (Mrg slB keyA f (rotF f a (a + 1) i) a b n) := mrg_left ordL (by have := HL.out.2; rwa [HK.out.2] at this) (by omega) (by omega) hbn (fun p h1 h2 => H1.out.2.1 p (by omega) h2) (fun p h1 h2 => H1.out.2.2 p (by have := HE.out; omega) h2)
      go_wp2
      (try simp only [Exit.inBlock, Exit.then])
      refine bodyPost_ret (results_none rfl _ _ _) rfl ?_
      exact ⟨rfl, ⟨_, by have := H3.out.1; rwa [HK.out.1] at this, HF.out⟩, H3.out.2⟩
set_option maxRecDepth 100000 in
set_option maxHeartbeats 12800000 in
theorem symR_any (M b0 cap lo n a m b : Nat) (f : Nat → ARow) (w : World) (hS : SR lo w M n f) (hn : n ≤ 4194304) (hc : w.cell? ⟨b0, 0, none⟩ = some (.func (.func 100) #[] #[])) (hb0 : b0 < w.heap.size) (hM : b0 ≠ M) (ham : a < m) (hmb : m < b) (hbn : b ≤ n) (hL : Srt slB keyA f a m) (hR : Srt slB keyA f m b) (h1 : m - a ≠ 1) (h2 : b - m = 1) :
    Calls Tryz.prog 189 #[.slice (some ⟨M, 0, none⟩) n cap, .int .i64 a, .int .i64 m, .int .i64 b, .func (.func 142) #[] #[.pointer (some ⟨b0, 0, none⟩)]] w fun e w' => e = .returned (.tuple #[]) ∧ Sd lo w M n f a b w' := by
  have HC : Hid (w.cell? ⟨b0, 0, none⟩ = some (.func (.func 100) #[] #[]) ∧ b0 < w.heap.size ∧ b0 ≠ M) := ⟨hc, hb0, hM⟩
  have HS : Hid (SR lo w M n f) := hS
  have HL : Hid (Srt slB keyA f a m ∧ Srt slB keyA f m b) := ⟨hL, hR⟩
  clear hc hS hb0 hM hL hR
  have HA0 : Hid (Apart M w w) := Apart.refl _ _
  have hh1 : ¬ (m : Int) - (a : Int) = 1 := by omega
  have hh2 : (b : Int) - (m : Int) = 1 := by omega
  have hbb : ((m : Int) - (a : Int) == 1) = false := by simp; omega
  go_enter Tryz.func189, Tryz.ntmps189
  go_wp2
  go_loopw [14, 15] (fun u v w' => ∃ i j : Nat, u = .int .i64 i ∧ v = .int .i64 j ∧ a ≤ i ∧ i ≤ j ∧ j ≤ m ∧ SR lo w' M n f ∧ Apart M w w' ∧ (∀ p, a ≤ p → p < i → slB (keyA (f m)) (keyA (f p)) = false) ∧ (∀ p, j ≤ p → p < m → slB (keyA (f m)) (keyA (f p)) = true)) (fun u v _ => (intOf v).toNat - (intOf u).toNat)
  case atStart => exact ⟨a, m, rfl, rfl, Nat.le_refl _, by omega, Nat.le_refl _, HS.out, HA0.out, ⟨fun p h1 h2 => by omega, fun p h1 h2 => by omega⟩⟩
  case round =>
    obtain ⟨i, j, rfl, rfl, hi, hij, hj, hS1, hA1, hrl⟩ := hrel
    have H1 : Hid (SR lo wr M n f ∧ ((∀ p, a ≤ p → p < i → slB (keyA (f m)) (keyA (f p)) = false) ∧ (∀ p, j ≤ p → p < m → slB (keyA (f m)) (keyA (f p)) = true))) := ⟨hS1, hrl⟩
    have HA : Hid (Apart M w wr) := hA1
    have hMr : M < wr.heap.size := hS1.lt
    clear hS1 hA1 hrl HS
    by_cases hlt : i < j
    · have hlt' : (i : Int) < (j : Int) := by omega
      obtain ⟨h, hh⟩ : ∃ h : Nat, h = (i + j) / 2 := ⟨_, rfl⟩
      have eh : ((i : Int) + (j : Int)) / 2 = (h : Int) := by omega
      have hbh : i ≤ h ∧ h < j := by omega
      clear hh
      have hhn : (h : Int) < (n : Int) := by omega
      have hmn : (m : Int) < (n : Int) := by omega
      have hne := Grown.some wr
      have HCm : ∀ (x y : ARow) (q : Grown wr), OwnA lo wr x → OwnA lo wr y → Hid (Calls Tryz.prog 142 #[.agg #[.slice (some ⟨(x).1, 0, none⟩) (x).2.2.l.length (x).2.1, .int .i64 (x).2.2.s, .int .i64 (x).2.2.e, .string (x).2.2.n], .agg #[.slice (some ⟨(y).1, 0, none⟩) (y).2.2.l.length (y).2.1, .int .i64 (y).2.2.s, .int .i64 (y).2.2.e, .string (y).2.2.n], .pointer (some ⟨b0, 0, none⟩)] q.out fun e w' => e = .returned (.int .i64 (cmpA x y)) ∧ Below q.out.heap.size q.out w') := fun x y q hx hy =>
        cmp_any x y b0 lo q.out (hx.grow q.bel) (hy.grow q.bel) (by rw [q.bel.cell (Nat.lt_of_lt_of_le HC.out.2.1 HA.out.size)]; exact fnAt HA.out HC.out.1 HC.out.2.1 HC.out.2.2) (Nat.lt_of_lt_of_le HC.out.2.1 (Nat.le_trans HA.out.size q.bel.size))
      obtain ⟨z0, z1, z2, z3⟩ : wr.cell? ⟨M, m * 4, none⟩ = some (.slice (some ⟨(f m).1, 0, none⟩) (f m).2.2.l.length (f m).2.1) ∧ wr.cell? ⟨M, m * 4 + 1, none⟩ = some (.int .i64 (f m).2.2.s) ∧ wr.cell? ⟨M, m * 4 + 2, none⟩ = some (.int .i64 (f m).2.2.e) ∧ wr.cell? ⟨M, m * 4 + 3, none⟩ = some (.string (f m).2.2.n) := H1.out.1.cell (by omega)
      have x0 := fun q : Grown wr => q.cell (p := ⟨M, m * 4, none⟩) hMr z0
      have x1 := fun q : Grown wr => q.cell (p := ⟨M, m * 4 + 1, none⟩) hMr z1
      have x2 := fun q : Grown wr => q.cell (p := ⟨M, m * 4 + 2, none⟩) hMr z2
      have x3 := fun q : Grown wr => q.cell (p := ⟨M, m * 4 + 3, none⟩) hMr z3
      clear z0 z1 z2 z3
      obtain ⟨z0, z1, z2, z3⟩ : wr.cell? ⟨M, h * 4, none⟩ = some (.slice (some ⟨(f h).1, 0, none⟩) (f h).2.2.l.length (f h).2.1) ∧ wr.cell? ⟨M, h * 4 + 1, none⟩ = some (.int .i64 (f h).2.2.s) ∧ wr.cell? ⟨M, h * 4 + 2, none⟩ = some (.int .i64 (f h).2.2.e) ∧ wr.cell? ⟨M, h * 4 + 3, none⟩ = some (.string (f h).2.2.n) := H1.out.1.cell (by omega)
      have y0 := fun q : Grown wr => q.cell (p := ⟨M, h * 4, none⟩) hMr z0
      have y1 := fun q : Grown wr => q.cell (p := ⟨M, h * 4 + 1, none⟩) hMr z1
      have y2 := fun q : Grown wr => q.cell (p := ⟨M, h * 4 + 2, none⟩) hMr z2
      have y3 := fun q : Grown wr => q.cell (p := ⟨M, h * 4 + 3, none⟩) hMr z3
      clear z0 z1 z2 z3
      have HCx := fun q : Grown wr => HCm (f m) (f h) q (H1.out.1.rows m (by omega)) (H1.out.1.rows h (by omega))
      clear HCm
      cases hq : slB (keyA (f m)) (keyA (f h)) with
      | true =>
        have HC1 : ∀ q : Grown wr, Hid (Calls Tryz.prog 142 #[.agg #[.slice (some ⟨(f m).1, 0, none⟩) (f m).2.2.l.length (f m).2.1, .int .i64 (f m).2.2.s, .int .i64 (f m).2.2.e, .string (f m).2.2.n], .agg #[.slice (some ⟨(f h).1, 0, none⟩) (f h).2.2.l.length (f h).2.1, .int .i64 (f h).2.2.s, .int .i64 (f h).2.2.e, .string (f h).2.2.n], .pointer (some ⟨b0, 0, none⟩)] q.out fun e w' => e = .returned (.int .i64 (-1)) ∧ Below q.out.heap.size q.out w') := fun q => (HCx q).out.mono fun e w' h => ⟨h.1.trans (StwA.retI (cmp_less hq)), h.2⟩
        have HQ : Hid (slB (keyA (f m)) (keyA (f h)) = true) := hq
        clear hq HCx
        go_wp2
        refine wp_over (z := wr) (by kernel_rfl) (by kernel_rfl) (Below.refl _ _) ?_
        repeat (go_big_quiet_step (first | (go_at_call 142; first | exact call_over (HC1 _).out)))
        refine wpQuiet_nil ?_
        intro w2 hw2
        have hb2 := over_bel hw2
        have H2 : Hid (SR lo w2 M n f ∧ Apart M w w2) := ⟨H1.out.1.grow hb2, HA.out.below hb2⟩
        clear hw2 hne hb2 x0 x1 x2 x3 y0 y1 y2 y3 HC1
        go_wp2
        go_roundw
        case rel => exact ⟨i, h, rfl, rfl, hi, by omega, by omega, H2.out.1, H2.out.2, H1.out.2.1, fun p h1 h2 => ordL.lt_le HQ.out (HL.out.1.le ordL (by omega) h1 h2)⟩
        case measure => simp [intOf]; omega
      | false =>
        have hge : ¬ cmpA (f m) (f h) < 0 := by have := cmp_ge hq; omega
        have hgb : decide (cmpA (f m) (f h) < 0) = false := decide_eq_false hge
        have HQ : Hid (slB (keyA (f m)) (keyA (f h)) = false) := hq
        clear hq
        go_wp2
        refine wp_over (z := wr) (by kernel_rfl) (by kernel_rfl) (Below.refl _ _) ?_
        repeat (go_big_quiet_step (first | (go_at_call 142; first | exact call_over (HCx _).out)))
        refine wpQuiet_nil ?_
        intro w2 hw2
        have hb2 := over_bel hw2
        have H2 : Hid (SR lo w2 M n f ∧ Apart M w w2) := ⟨H1.out.1.grow hb2, HA.out.below hb2⟩
        clear hw2 hne hb2 x0 x1 x2 x3 y0 y1 y2 y3 HCx
        go_wp2
        go_roundw
        case rel => exact ⟨h + 1, j, by go_num, rfl, by omega, by omega, hj, H2.out.1, H2.out.2, fun p h1 h2 => ordL.le_trans (HL.out.1.le ordL h1 (by omega) (by omega)) HQ.out, H1.out.2.2⟩
        case measure => simp [intOf]; omega
    have hge : ¬ (i : Int) < (j : Int) := by omega
    have HE : Hid (i = j) := by show i = j; omega
    go_wp2
    go_loopw [17] (fun v w' => ∃ k : Nat, v = .int .i64 k ∧ i ≤ k ∧ k ≤ m ∧ SR lo w' M n (rotF f k m (m + 1)) ∧ Apart M w w') (fun v _ => (intOf v).toNat)
    case atStart => exact ⟨m, rfl, by omega, Nat.le_refl _, by rw [rot_00]; exact H1.out.1, HA.out⟩
    case round =>
      obtain ⟨k, rfl, hik, hkm, hS1, hA1⟩ := hrel
      have H3 : Hid (SR lo wr M n (rotF f k m (m + 1)) ∧ Apart M w wr) := ⟨hS1, hA1⟩
      clear hS1 hA1
      by_cases hlt : i < k
      · obtain ⟨k, rfl⟩ : ∃ x, k = x + 1 := ⟨k - 1, by omega⟩
        have ek : ((k + 1 : Nat) : Int) = (k : Int) + 1 := by omega
        have hlt' : (i : Int) < (k : Int) + 1 := by omega
        have HU : Hid (Stb.two (rotF f (k + 1) m (m + 1)) k (k + 1) = rotF f k m (m + 1)) := rot_dn (by omega)
        obtain ⟨g, hg⟩ : ∃ g, rotF f (k + 1) m (m + 1) = g := ⟨_, rfl⟩
        rw [hg] at H3 HU
        clear hg
        have hk1 : (k : Int) + 1 < (n : Int) := by omega
        have hk0 : (k : Int) < (n : Int) := by omega
        have hw : IntKind.i64.wrap (k : Int) = (k : Int) := by rw [IntKind.wrap_i64]; omega
        obtain ⟨x0, x1, x2, x3⟩ : wr.cell? ⟨M, (k + 1) * 4, none⟩ = some (.slice (some ⟨(g (k + 1)).1, 0, none⟩) (g (k + 1)).2.2.l.length (g (k + 1)).2.1) ∧ wr.cell? ⟨M, (k + 1) * 4 + 1, none⟩ = some (.int .i64 (g (k + 1)).2.2.s) ∧ wr.cell? ⟨M, (k + 1) * 4 + 2, none⟩ = some (.int .i64 (g (k + 1)).2.2.e) ∧ wr.cell? ⟨M, (k + 1) * 4 + 3, none⟩ = some (.string (g (k + 1)).2.2.n) := H3.out.1.cell (by omega)
        have fx0 : wr.frozen? ⟨M, (k + 1) * 4, none⟩ = false := H3.out.1.frozen _
        have fx1 : wr.frozen? ⟨M, (k + 1) * 4 + 1, none⟩ = false := H3.out.1.frozen _
        have fx2 : wr.frozen? ⟨M, (k + 1) * 4 + 2, none⟩ = false := H3.out.1.frozen _
        have fx3 : wr.frozen? ⟨M, (k + 1) * 4 + 3, none⟩ = false := H3.out.1.frozen _
        obtain ⟨y0, y1, y2, y3⟩ : wr.cell? ⟨M, k * 4, none⟩ = some (.slice (some ⟨(g k).1, 0, none⟩) (g k).2.2.l.length (g k).2.1) ∧ wr.cell? ⟨M, k * 4 + 1, none⟩ = some (.int .i64 (g k).2.2.s) ∧ wr.cell? ⟨M, k * 4 + 2, none⟩ = some (.int .i64 (g k).2.2.e) ∧ wr.cell? ⟨M, k * 4 + 3, none⟩ = some (.string (g k).2.2.n) := H3.out.1.cell (by omega)
        have fy0 : wr.frozen? ⟨M, k * 4, none⟩ = false := H3.out.1.frozen _
        have fy1 : wr.frozen? ⟨M, k * 4 + 1, none⟩ = false := H3.out.1.frozen _
        have fy2 : wr.frozen? ⟨M, k * 4 + 2, none⟩ = false := H3.out.1.frozen _
        have fy3 : wr.frozen? ⟨M, k * 4 + 3, none⟩ = false := H3.out.1.frozen _
        rw [ek]
        go_wp2
        go_region
        go_wp2
        go_roundw
        case rel => exact ⟨k, by go_num, by omega, by omega, by rw [← HU.out, two_comm]; exact (H3.out.1.two (p := k + 1) (q := k) (by omega) (by omega) (by omega)).drew, apart_drew (apart_two (p := k + 1) (q := k) (f := g) H3.out.2)⟩
        case measure => simp [intOf]
      have hge2 : ¬ (i : Int) < (k : Int) := by omega
      have HK : Hid (k = i ∧ b = m + 1) := ⟨by omega, by omega⟩
      have HF : Hid (Mrg slB keyA f (rotF f i m (m + 1)) a b n) := by show Mrg slB keyA f (rotF f i m (m + 1)) a b n; rw [HK.out.2]; exact mrg_right ordL HL.out.1 (by omega) (by omega) (by omega) H1.out.2.1 (fun p h1 h2 => H1.out.2.2 p (by have := HE.out; omega) h2)
      go_wp2
      (try simp only [Exit.inBlock, Exit.then])
      refine bodyPost_ret (results_none rfl _ _ _) rfl ?_
      exact ⟨rfl, ⟨_, by have := H3.out.1; rwa [HK.out.1] at this, HF.out⟩, H3.out.2⟩
end Go.Proofs.YtooninmicfcfoaaGreat.StwD
