/-
  PROVED: rows of alarms in memory of a call's own, each alarm's labels in a block of their own: read, grown by an append, written at a place; what chains come to, on plain lists.
-/
import Derived.Test.YtgncimlojbnbfaaAlmM
import Derived.Test.YtgncimlojbnbfaaAlmsK
namespace Go.Proofs.Ytgncimlojbnbfaa.Rws
open Go.RowKit
open Go.Proofs.Ytgncimlojbnbfaa.Labs Go.Proofs.Ytgncimlojbnbfaa.LabS Go.Proofs.Ytgncimlojbnbfaa.Alms Go.Proofs.Ytgncimlojbnbfaa.AlmS Go.Proofs.Ytgncimlojbnbfaa.AlmM Go.Proofs.Ytgncimlojbnbfaa.Over Go.Proofs.Ytgncimlojbnbfaa.Blk Go.Proofs.Ytgncimlojbnbfaa.App
open Go.Proofs.Ytgncimlojbnbfaa.Alm (sameB same_self)
open Go.Proofs.Ytgncimlojbnbfaa.LabT (Held held_reads Fits)
open Go.Proofs.Ytgncimlojbnbfaa.LabR (Own)
set_option linter.unusedVariables false

/-- a slice's cells hold these alarms, none of whose labels are nil -/
def RdN (w : World) (a : Option Addr) (P : List PAl) : Prop :=
  P = [] ∨ ∃ b off, a = some ⟨b, off, none⟩ ∧ b < w.heap.size ∧ ∀ i, i < P.length → ∃ g o cap, At w b off i (nthP P i) (some ⟨g, o, none⟩) cap
theorem RdN.rd {w : World} {a : Option Addr} {P : List PAl} (h : RdN w a P) : RdA w a P := by
  rcases h with h | ⟨b, off, e, hb, hc⟩
  · exact .inl h
  · exact .inr ⟨b, off, e, hb, fun i hi => by obtain ⟨g, o, cap, h⟩ := hc i hi; exact ⟨_, _, h⟩⟩
theorem RdN.below {w w' : World} {a : Option Addr} {P : List PAl} (h : RdN w a P) (hb : Below w.heap.size w w') : RdN w' a P := by
  rcases h with h | ⟨b, off, rfl, hlt, hc⟩
  · exact .inl h
  · exact .inr ⟨b, off, rfl, Nat.lt_of_lt_of_le hlt hb.size, fun i hi => by
      obtain ⟨g, o, cap, h⟩ := hc i hi
      exact ⟨g, o, cap, h.below hb hlt⟩⟩
theorem RdN.get {w : World} {a : Option Addr} {P : List PAl} (h : RdN w a P) {i : Nat} (hi : i < P.length) :
    ∃ b off, a = some ⟨b, off, none⟩ ∧ b < w.heap.size ∧ ∃ g o cap, At w b off i (nthP P i) (some ⟨g, o, none⟩) cap := by
  rcases h with h | ⟨b, off, e, hb, h⟩
  · rw [h] at hi; simp at hi
  · exact ⟨b, off, e, hb, h i hi⟩

/-- an alarm in memory of the call's own: the block of its labels, their room, the alarm -/
abbrev ARow := Nat × Nat × PAl
def pals (rs : List ARow) : List PAl := rs.map fun x => x.2.2
def nthA (rs : List ARow) (i : Nat) : ARow := rs.getD i (0, 0, ⟨[], 0, 0, ByteArray.empty⟩)
theorem nthA_eq {rs : List ARow} {i : Nat} (h : i < rs.length) : nthA rs i = rs[i] := by unfold nthA; simp [h]
theorem nthA_mem {rs : List ARow} {i : Nat} (h : i < rs.length) : nthA rs i ∈ rs := by rw [nthA_eq h]; exact List.getElem_mem _
theorem pals_len (rs : List ARow) : (pals rs).length = rs.length := by simp [pals]
theorem pals_nth {rs : List ARow} {i : Nat} (h : i < rs.length) : nthP (pals rs) i = (nthA rs i).2.2 := by
  rw [nthP_eq (by rw [pals_len]; exact h), nthA_eq h]
  simp [pals]
theorem pals_app (rs : List ARow) (x : ARow) : pals (rs ++ [x]) = pals rs ++ [x.2.2] := by simp [pals]
theorem nthA_app_lt {rs : List ARow} {x : ARow} {i : Nat} (h : i < rs.length) : nthA (rs ++ [x]) i = nthA rs i := by
  rw [nthA_eq (by simp; omega), nthA_eq h, List.getElem_append_left h]
theorem nthA_app_eq (rs : List ARow) (x : ARow) : nthA (rs ++ [x]) rs.length = x := by
  rw [nthA_eq (by simp)]; simp
/-- the four cells of the i-th one -/
def Four (f : Nat → Option Value) (i : Nat) (x : ARow) : Prop :=
  f (i * 4) = some (.slice (some ⟨x.1, 0, none⟩) x.2.2.l.length x.2.1) ∧ f (i * 4 + 1) = some (.int .i64 x.2.2.s) ∧ f (i * 4 + 2) = some (.int .i64 x.2.2.e) ∧ f (i * 4 + 3) = some (.string x.2.2.n)
theorem Four.congr {f g : Nat → Option Value} {i : Nat} {x : ARow} (h : Four f i x) (e : ∀ k, i * 4 ≤ k → k < i * 4 + 4 → g k = f k) : Four g i x := by
  obtain ⟨h0, h1, h2, h3⟩ := h
  exact ⟨by rw [e _ (by omega) (by omega)]; exact h0, by rw [e _ (by omega) (by omega)]; exact h1, by rw [e _ (by omega) (by omega)]; exact h2, by rw [e _ (by omega) (by omega)]; exact h3⟩
def rowV (x : ARow) : List Value := [.slice (some ⟨x.1, 0, none⟩) x.2.2.l.length x.2.1, .int .i64 x.2.2.s, .int .i64 x.2.2.e, .string x.2.2.n]
theorem row_one (x : ARow) : ∀ v ∈ rowV x, v.oneCell' = true := fun v hv => by
  simp only [rowV, List.mem_cons, List.not_mem_nil, or_false] at hv
  rcases hv with rfl | rfl | rfl | rfl <;> rfl
def OwnA (lo : Nat) (w : World) (x : ARow) : Prop := lo ≤ x.1 ∧ x.2.2.l.length ≤ 1048576 ∧ ∃ ds : Array Value, Blk w x.1 ds 73 ∧ x.2.2.l.length * 2 ≤ ds.size ∧ Held ds x.2.2.l x.2.2.l.length
theorem OwnA.grow {lo : Nat} {w w' : World} {x : ARow} (h : OwnA lo w x) (hb : Below w.heap.size w w') : OwnA lo w' x := by
  obtain ⟨h0, h1, ds, h2, h3⟩ := h
  exact ⟨h0, h1, ds, h2.grow hb, h3⟩
theorem OwnA.lt {lo : Nat} {w : World} {x : ARow} (h : OwnA lo w x) : x.1 < w.heap.size := by
  obtain ⟨h0, h1, ds, h2, h3⟩ := h
  exact h2.lt
theorem OwnA.reads {lo : Nat} {w : World} {x : ARow} (h : OwnA lo w x) : Reads w (some ⟨x.1, 0, none⟩) x.2.2.l := by
  obtain ⟨h0, h1, ds, h2, h3, h4⟩ := h
  exact held_reads h2 h4
theorem OwnA.down {lo lo' : Nat} {w : World} {x : ARow} (h : OwnA lo w x) (hl : lo' ≤ lo) : OwnA lo' w x := ⟨Nat.le_trans hl h.1, h.2⟩
theorem own_of_copy {w w' : World} {M c : Nat} {x : PAl} (h : Own w w' M x.l) (hl : x.l.length ≤ 1048576) : OwnA w.heap.size w' (M, c, x) := ⟨h.1, hl, h.2⟩

/-- the alarms rs lie in the row at block M, whose room is c -/
structure AB (lo : Nat) (w : World) (M c : Nat) (rs : List ARow) : Prop where
  at' : lo ≤ M
  cap : rs.length ≤ c ∧ c ≤ maxLen
  outer : ∃ cur : Array Value, Blk w M cur 48 ∧ cur.size = c * 4 ∧ ∀ i, i < rs.length → Four (fun k => cur[k]?) i (nthA rs i)
  rows : ∀ x ∈ rs, OwnA lo w x
  ne : rs.Pairwise fun x y => x.1 ≠ y.1
theorem AB.grow {lo : Nat} {w w' : World} {M c : Nat} {rs : List ARow} (h : AB lo w M c rs) (hb : Below w.heap.size w w') : AB lo w' M c rs := by
  obtain ⟨cur, h1, h2⟩ := h.outer
  exact ⟨h.at', h.cap, ⟨cur, h1.grow hb, h2⟩, fun x hx => (h.rows x hx).grow hb, h.ne⟩
theorem AB.down {lo lo' : Nat} {w : World} {M c : Nat} {rs : List ARow} (h : AB lo w M c rs) (hl : lo' ≤ lo) : AB lo' w M c rs :=
  ⟨Nat.le_trans hl h.at', h.cap, h.outer, fun x hx => (h.rows x hx).down hl, h.ne⟩
theorem AB.lt {lo : Nat} {w : World} {M c : Nat} {rs : List ARow} (h : AB lo w M c rs) : M < w.heap.size := by
  obtain ⟨cur, h1, _⟩ := h.outer
  exact h1.lt
theorem AB.nil {lo : Nat} {w : World} {M : Nat} (h : Blk w M #[] 48) (hl : lo ≤ M) : AB lo w M 0 [] :=
  ⟨hl, ⟨Nat.le_refl _, by simp [maxLen]⟩, ⟨#[], h, rfl, fun i hi => by simp at hi⟩, fun x hx => by simp at hx, List.Pairwise.nil⟩
theorem AB.rd {lo : Nat} {w : World} {M c : Nat} {rs : List ARow} (h : AB lo w M c rs) : RdN w (some ⟨M, 0, none⟩) (pals rs) := by
  obtain ⟨cur, h1, h2, h3⟩ := h.outer
  refine .inr ⟨M, 0, rfl, h1.lt, fun i hi => ?_⟩
  rw [pals_len] at hi
  obtain ⟨c0, c1, c2, c3⟩ := h3 i hi
  refine ⟨(nthA rs i).1, 0, (nthA rs i).2.1, ?_⟩
  rw [pals_nth hi]
  exact ⟨by rw [h1.cell, Nat.zero_add]; exact c0, by rw [h1.cell, Nat.zero_add]; exact c1, by rw [h1.cell, Nat.zero_add]; exact c2, by rw [h1.cell, Nat.zero_add]; exact c3, (h.rows _ (nthA_mem hi)).reads⟩
theorem blkA_ne {w : World} {a b : Nat} {cs ds : Array Value} (h : Blk w a cs 48) (k : Blk w b ds 73) : a ≠ b := fun e => by
  subst e
  unfold Blk at h k
  rw [h] at k
  injection k with k
  injection k with _ k
  exact absurd k (by decide)
/-- the row, as an append wants it -/
theorem AB.own {lo : Nat} {w : World} {M c : Nat} {rs : List ARow} (h : AB lo w M c rs) : ∃ xs : List Value, w.ownsRow lo 48 4 (.slice (some ⟨M, 0, none⟩) rs.length c) rs.length xs ∧ xs.length = rs.length * 4 ∧ ∀ i, i < rs.length → Four (fun k => xs[k]?) i (nthA rs i) := by
  obtain ⟨cur, h1, h2, h3⟩ := h.outer
  have hc := h.cap
  have hlen : (cur.toList.take (rs.length * 4)).length = rs.length * 4 := by simp; omega
  refine ⟨cur.toList.take (rs.length * 4), ⟨hlen, .inr ⟨M, c, cur, rfl, h.at', h1, hc.1, hc.2, h2, rfl⟩⟩, hlen, fun i hi => ?_⟩
  refine (h3 i hi).congr fun k _ hk => ?_
  show (cur.toList.take _)[k]? = cur[k]?
  rw [List.getElem?_take_of_lt (by omega)]
  simp
/-- .. and what an append gives -/
theorem AB.app {lo : Nat} {W w' : World} {M c : Nat} {rs : List ARow} {x : ARow} {xs : List Value} {v' : Value} (h : AB lo W M c rs) (hx : OwnA lo W x) (hne : ∀ y ∈ rs, y.1 ≠ x.1) (hl : xs.length = rs.length * 4) (hxs : ∀ i, i < rs.length → Four (fun k => xs[k]?) i (nthA rs i))
    (hown : w'.ownsRow lo 48 4 v' (rs.length + 1) (xs ++ rowV x)) (hg : W.grownBy w' (some M)) : ∃ M' c', v' = .slice (some ⟨M', 0, none⟩) (rs.length + 1) c' ∧ AB lo w' M' c' (rs ++ [x]) := by
  rcases hown.2 with ⟨_, e⟩ | ⟨g, cap, cur, e, hb, hgb, hc, hm, hz, ht⟩
  · omega
  · obtain ⟨cu0, hcu0, _⟩ := h.outer
    have far : ∀ y, OwnA lo W y → OwnA lo w' y := fun y hy => by
      obtain ⟨h0, h1, ds, h2, h3⟩ := hy
      exact ⟨h0, h1, ds, blk_far h2 hg (fun e => blkA_ne hcu0 h2 (Option.some.inj e).symm), h3⟩
    refine ⟨g, cap, e, hb, ⟨by simp; omega, hm⟩, ⟨cur, hgb, hz, fun i hi => ?_⟩, fun y hy => ?_, ?_⟩
    · have at' : ∀ k, k < (rs.length + 1) * 4 → cur[k]? = (xs ++ rowV x)[k]? := fun k hk => by
        rw [← ht, List.getElem?_take_of_lt hk]; simp
      simp at hi
      by_cases hlt : i < rs.length
      · rw [nthA_app_lt hlt]
        refine (hxs i hlt).congr fun k _ hk => ?_
        show cur[k]? = xs[k]?
        rw [at' k (by omega), List.getElem?_append_left (by omega)]
      · have ei : i = rs.length := by omega
        subst ei
        rw [nthA_app_eq]
        have hr : ∀ j, j < 4 → cur[rs.length * 4 + j]? = (rowV x)[j]? := fun j hj => by
          rw [at' _ (by omega), List.getElem?_append_right (by omega), hl]
          congr 1; omega
        exact ⟨hr 0 (by omega), hr 1 (by omega), hr 2 (by omega), hr 3 (by omega)⟩
    · rcases List.mem_append.1 hy with hy | hy
      · exact far y (h.rows y hy)
      · rw [List.mem_singleton.1 hy]; exact far x hx
    · rw [List.pairwise_append]
      exact ⟨h.ne, List.pairwise_singleton _ _, fun a ha b hb => by rw [List.mem_singleton.1 hb]; exact hne a ha⟩
theorem infoA' : (Try.prog.info? 48).map (fun i => (i.zero, i.size, i.bytes)) = some (some (.agg #[.slice none 0 0, .int .i64 0, .int .i64 0, .string ByteArray.empty]), 4, 56) := infoA

/-- an alarm is written at a place -/
def put4C (cs : Array Value) (k : Nat) (x : ARow) : Array Value := (((cs.setIfInBounds (k * 4) (.slice (some ⟨x.1, 0, none⟩) x.2.2.l.length x.2.1)).setIfInBounds (k * 4 + 1) (.int .i64 x.2.2.s)).setIfInBounds (k * 4 + 2) (.int .i64 x.2.2.e)).setIfInBounds (k * 4 + 3) (.string x.2.2.n)
theorem put4_at {cs : Array Value} {k : Nat} {x : ARow} (h : k * 4 + 3 < cs.size) : Four (fun j => (put4C cs k x)[j]?) k x := by
  unfold put4C
  refine ⟨?_, ?_, ?_, ?_⟩
  · show (Array.setIfInBounds _ _ _)[_]? = _
    rw [set_ne (by omega), set_ne (by omega), set_ne (by omega), set_at (by omega)]
  · show (Array.setIfInBounds _ _ _)[_]? = _
    rw [set_ne (by omega), set_ne (by omega), set_at (by simp; omega)]
  · show (Array.setIfInBounds _ _ _)[_]? = _
    rw [set_ne (by omega), set_at (by simp; omega)]
  · show (Array.setIfInBounds _ _ _)[_]? = _
    rw [set_at (by simp; omega)]
theorem put4_ne {cs : Array Value} {k j : Nat} {x : ARow} (h : j < k * 4 ∨ k * 4 + 4 ≤ j) : (put4C cs k x)[j]? = cs[j]? := by
  unfold put4C
  rw [set_ne (by omega), set_ne (by omega), set_ne (by omega), set_ne (by omega)]
theorem put4_size (cs : Array Value) (k : Nat) (x : ARow) : (put4C cs k x).size = cs.size := by simp [put4C]
def put4W (w : World) (M k : Nat) (x : ARow) : World := (((w.setCell ⟨M, k * 4, none⟩ (.slice (some ⟨x.1, 0, none⟩) x.2.2.l.length x.2.1)).setCell ⟨M, k * 4 + 1, none⟩ (.int .i64 x.2.2.s)).setCell ⟨M, k * 4 + 2, none⟩ (.int .i64 x.2.2.e)).setCell ⟨M, k * 4 + 3, none⟩ (.string x.2.2.n)
theorem put4W_blk {w : World} {M k : Nat} {x : ARow} {cs : Array Value} {T : TypeId} (h : Blk w M cs T) : Blk (put4W w M k x) M (put4C cs k x) T := (((h.set _ _).set _ _).set _ _).set _ _
theorem put4W_other {w : World} {M N k : Nat} {x : ARow} {cs : Array Value} {T : TypeId} (h : Blk w N cs T) (hne : M ≠ N) : Blk (put4W w M k x) N cs T :=
  (((h.set_other hne _).set_other hne _).set_other hne _).set_other hne _
theorem put4W_low {w w' : World} {B M k : Nat} {x : ARow} (h : Below B w w') (hM : B ≤ M) : Below B w (put4W w' M k x) := (((h.setCell hM _).setCell hM _).setCell hM _).setCell hM _
/-- the i-th one is put in another's place -/
def putA (rs : List ARow) (k : Nat) (x : ARow) : List ARow := rs.set k x
theorem nthA_put {rs : List ARow} {k i : Nat} {x : ARow} (hi : i < rs.length) : nthA (putA rs k x) i = if i = k then x else nthA rs i := by
  rw [nthA_eq (by simpa [putA] using hi), nthA_eq hi]
  unfold putA
  rw [List.getElem_set]
  by_cases e : k = i
  · subst e; simp
  · rw [if_neg e, if_neg (fun h => e h.symm)]
theorem AB.put {lo : Nat} {w : World} {M c k : Nat} {rs : List ARow} {x : ARow} (h : AB lo w M c rs) (hk : k < rs.length) (hx : OwnA lo w x) (hne : ∀ y ∈ rs, y.1 ≠ x.1) : AB lo (put4W w M k x) M c (putA rs k x) := by
  obtain ⟨cur, h1, h2, h3⟩ := h.outer
  have hc := h.cap
  have far : ∀ y, OwnA lo w y → OwnA lo (put4W w M k x) y := fun y hy => by
    obtain ⟨h0, h1', ds, h2, h3⟩ := hy
    exact ⟨h0, h1', ds, put4W_other h2 (blkA_ne h1 h2), h3⟩
  have hlen : (putA rs k x).length = rs.length := by simp [putA]
  refine ⟨h.at', by rw [hlen]; exact hc, ⟨put4C cur k x, put4W_blk h1, by rw [put4_size]; exact h2, fun i hi => ?_⟩, fun y hy => ?_, ?_⟩
  · rw [hlen] at hi
    rw [nthA_put hi]
    by_cases e : i = k
    · subst e
      rw [if_pos rfl]
      exact put4_at (by omega)
    · rw [if_neg e]
      exact (h3 i hi).congr fun j h0 h1 => put4_ne (by omega)
  · rcases List.mem_or_eq_of_mem_set hy with hy | hy
    · exact far y (h.rows y hy)
    · subst hy; exact far _ hx
  · unfold putA
    have hp := h.ne
    rw [List.pairwise_iff_getElem] at hp ⊢
    intro i j hi hj hij
    simp only [List.length_set] at hi hj
    rw [List.getElem_set, List.getElem_set]
    by_cases e1 : k = i
    · rw [if_pos e1, if_neg (by omega)]
      exact fun e => hne _ (List.getElem_mem hj) e.symm
    · rw [if_neg e1]
      by_cases e2 : k = j
      · rw [if_pos e2]; exact hne _ (List.getElem_mem hi)
      · rw [if_neg e2]; exact hp i j hi hj hij

/-- where the labels l stand first -/
def idxTo (P : List PAl) (l : List Lab) : Nat → Option Nat
  | 0 => none
  | k + 1 => match idxTo P l k with
    | some j => some j
    | none => if (nthP P k).l = l then some k else none
def idxB (P : List PAl) (l : List Lab) : Int :=
  match idxTo P l P.length with
  | some j => (j : Int)
  | none => -1
theorem idxTo_none {P : List PAl} {l : List Lab} : ∀ {k : Nat}, (∀ j, j < k → (nthP P j).l ≠ l) → idxTo P l k = none
  | 0, _ => rfl
  | k + 1, h => by
    rw [idxTo, idxTo_none (fun j hj => h j (by omega))]
    simp only []
    rw [if_neg (h k (by omega))]
theorem idxTo_some {P : List PAl} {l : List Lab} {j : Nat} (hj : ∀ i, i < j → (nthP P i).l ≠ l) (he : (nthP P j).l = l) : ∀ {k : Nat}, j < k → idxTo P l k = some j
  | 0, h => by omega
  | k + 1, h => by
    by_cases e : j = k
    · subst e
      rw [idxTo, idxTo_none hj]
      simp only []
      rw [if_pos he]
    · rw [idxTo, idxTo_some hj he (k := k) (by omega)]
theorem idx_miss {P : List PAl} {l : List Lab} (h : ∀ j, j < P.length → (nthP P j).l ≠ l) : idxB P l = -1 := by unfold idxB; rw [idxTo_none h]
theorem idx_hit {P : List PAl} {l : List Lab} {j : Nat} (hj : ∀ i, i < j → (nthP P i).l ≠ l) (he : (nthP P j).l = l) (hl : j < P.length) : idxB P l = (j : Int) := by unfold idxB; rw [idxTo_some hj he hl]
theorem idxTo_cases (P : List PAl) (l : List Lab) : ∀ k, (∀ j, j < k → (nthP P j).l ≠ l) ∨ ∃ j, j < k ∧ (nthP P j).l = l ∧ ∀ i, i < j → (nthP P i).l ≠ l
  | 0 => .inl fun j h => by omega
  | k + 1 => by
    rcases idxTo_cases P l k with h | ⟨j, h0, h1, h2⟩
    · by_cases e : (nthP P k).l = l
      · exact .inr ⟨k, by omega, e, h⟩
      · refine .inl fun j hj => ?_
        by_cases q : j = k
        · subst q; exact e
        · exact h j (by omega)
    · exact .inr ⟨j, by omega, h1, h2⟩
theorem idx_cases (P : List PAl) (l : List Lab) : (idxB P l = -1 ∧ ∀ j, j < P.length → (nthP P j).l ≠ l) ∨ ∃ k : Nat, idxB P l = (k : Int) ∧ k < P.length ∧ (nthP P k).l = l ∧ ∀ j, j < k → (nthP P j).l ≠ l := by
  rcases idxTo_cases P l P.length with h | ⟨k, h0, h1, h2⟩
  · exact .inl ⟨idx_miss h, h⟩
  · exact .inr ⟨k, idx_hit h2 h1 h0, h0, h1, h2⟩
/-- one alarm merged into another -/
def mergeX (x a : PAl) : PAl := ⟨a.l, startB x.s x.e a.s a.e, a.e, a.n⟩
def putL (P : List PAl) (a : PAl) : List PAl :=
  match idxTo P a.l P.length with
  | some k => P.set k (mergeX (nthP P k) a)
  | none => P ++ [a]
def isNew (P : List PAl) (l : List Lab) : Bool := (idxTo P l P.length).isNone
theorem put_miss {P : List PAl} {a : PAl} (h : ∀ j, j < P.length → (nthP P j).l ≠ a.l) : putL P a = P ++ [a] ∧ isNew P a.l = true := by unfold putL isNew; rw [idxTo_none h]; exact ⟨rfl, rfl⟩
theorem put_hit {P : List PAl} {a : PAl} {k : Nat} (hj : ∀ i, i < k → (nthP P i).l ≠ a.l) (he : (nthP P k).l = a.l) (hl : k < P.length) : putL P a = P.set k (mergeX (nthP P k) a) ∧ isNew P a.l = false := by unfold putL isNew; rw [idxTo_some hj he hl]; exact ⟨rfl, rfl⟩
/-- those that are over, and those that are not -/
def leftTo (P : List PAl) (now : Int) (k : Nat) : List PAl := (P.take k).filter fun x => !overB x.e now
def goneTo (P : List PAl) (now : Int) (k : Nat) : List PAl := (P.take k).filter fun x => overB x.e now
theorem left_up {P : List PAl} {now : Int} {k : Nat} (h : k < P.length) : leftTo P now (k + 1) = leftTo P now k ++ (if overB (nthP P k).e now = true then [] else [nthP P k]) := by
  unfold leftTo
  rw [takeP_up h, List.filter_append]
  cases hq : overB (nthP P k).e now <;> simp [hq]
theorem gone_up {P : List PAl} {now : Int} {k : Nat} (h : k < P.length) : goneTo P now (k + 1) = goneTo P now k ++ (if overB (nthP P k).e now = true then [nthP P k] else []) := by
  unfold goneTo
  rw [takeP_up h, List.filter_append]
  cases hq : overB (nthP P k).e now <;> simp [hq]
theorem drop_len (P : List PAl) (now : Int) (k : Nat) : (leftTo P now k).length + (goneTo P now k).length = (P.take k).length := by
  unfold leftTo goneTo
  induction P.take k with
  | nil => rfl
  | cons x l ih => cases hq : overB x.e now <;> simp [hq] <;> omega
/-- whether two lists of alarms are the same -/
def sameX (x y : PAl) : Bool := sameB x.l x.s x.e x.n y.l y.s y.e y.n
def sameTo (P Q : List PAl) (k : Nat) : Bool := (List.range k).all fun i => sameX (nthP P i) (nthP Q i)
def sameLB (P Q : List PAl) : Bool := decide (P.length = Q.length) && sameTo P Q P.length
theorem same_refl (P : List PAl) : sameLB P P = true := by simp [sameLB, sameTo, sameX, same_self]
theorem same_len {P Q : List PAl} (h : P.length ≠ Q.length) : sameLB P Q = false := by simp [sameLB, h]
theorem same_bad {P Q : List PAl} {k : Nat} (hk : k < P.length) (h : sameX (nthP P k) (nthP Q k) = false) : sameLB P Q = false := by
  unfold sameLB sameTo
  rw [Bool.and_eq_false_iff]
  right
  rw [List.all_eq_false]
  exact ⟨k, by simpa using hk, by simp [h]⟩
theorem same_good {P Q : List PAl} (hl : P.length = Q.length) (h : ∀ k, k < P.length → sameX (nthP P k) (nthP Q k) = true) : sameLB P Q = true := by
  unfold sameLB sameTo
  rw [Bool.and_eq_true]
  exact ⟨by simp [hl], by rw [List.all_eq_true]; intro k hk; exact h k (by simpa using hk)⟩
end Go.Proofs.Ytgncimlojbnbfaa.Rws
