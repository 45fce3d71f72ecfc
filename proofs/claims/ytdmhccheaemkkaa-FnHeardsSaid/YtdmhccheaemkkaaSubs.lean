/-
  PROVED: slices of those who listen: what one that came in is; the size that szSubS counts, the copy that toSubS makes, that eqSubS finds two of the same alike; rows of them in memory of a call's own, read, grown by an append, filled.
-/
import Derived.Test.YtdmhccheaemkkaaHer
namespace Go.Proofs.Ytdmhccheaemkkaa.Subs
open Go.RowKit
open Go.ChangeShapes Go.WideShapes
open Go.Proofs.Ytdmhccheaemkkaa.Labs Go.Proofs.Ytdmhccheaemkkaa.LabS Go.Proofs.Ytdmhccheaemkkaa.Alms Go.Proofs.Ytdmhccheaemkkaa.AlmM Go.Proofs.Ytdmhccheaemkkaa.Over Go.Proofs.Ytdmhccheaemkkaa.Blk Go.Proofs.Ytdmhccheaemkkaa.App Go.Proofs.Ytdmhccheaemkkaa.Rws Go.Proofs.Ytdmhccheaemkkaa.ChnI Go.Proofs.Ytdmhccheaemkkaa.ChnC Go.Proofs.Ytdmhccheaemkkaa.ChnK Go.Proofs.Ytdmhccheaemkkaa.Chs Go.Proofs.Ytdmhccheaemkkaa.Que Go.Proofs.Ytdmhccheaemkkaa.Tel Go.Proofs.Ytdmhccheaemkkaa.Her
open Go.Proofs.Ytdmhccheaemkkaa.StrB (retB)
set_option linter.unusedVariables false

/-- one who listens, plain -/
structure PSb where
  P : List PAl
  g : Bool
def nthB (U : List PSb) (i : Nat) : PSb := U.getD i ⟨[], false⟩
theorem nthB_eq {U : List PSb} {i : Nat} (h : i < U.length) : nthB U i = U[i] := by unfold nthB; simp [h]
theorem nthB_mem {U : List PSb} {i : Nat} (h : i < U.length) : nthB U i ∈ U := by rw [nthB_eq h]; exact List.getElem_mem _
theorem takeB_up {U : List PSb} {k : Nat} (h : k < U.length) : U.take (k + 1) = U.take k ++ [nthB U k] := by rw [nthB_eq h, List.take_succ_eq_append_getElem h]
structure AtB (R : World → Option Addr → List PAl → Prop) (w : World) (b off i : Nat) (x : PSb) (ad : Option Addr) (cap : Nat) : Prop where
  c0 : w.cell? ⟨b, off + i * 2, none⟩ = some (.slice ad x.P.length cap)
  c1 : w.cell? ⟨b, off + i * 2 + 1, none⟩ = some (.bool x.g)
  reads : R w ad x.P
theorem AtB.below {R : World → Option Addr → List PAl → Prop} (hR : Stays R) {w w' : World} {b off i : Nat} {x : PSb} {ad : Option Addr} {cap : Nat} (h : AtB R w b off i x ad cap) (hb : Below w.heap.size w w') (hlt : b < w.heap.size) : AtB R w' b off i x ad cap :=
  ⟨(hb.cell (p := ⟨b, off + i * 2, none⟩) hlt).trans h.c0, (hb.cell (p := ⟨b, off + i * 2 + 1, none⟩) hlt).trans h.c1, hR _ _ _ _ h.reads hb⟩
def RdU (R : World → Option Addr → List PAl → Prop) (w : World) (a : Option Addr) (U : List PSb) : Prop :=
  U = [] ∨ ∃ b off, a = some ⟨b, off, none⟩ ∧ b < w.heap.size ∧ ∀ i, i < U.length → ∃ ad cap, AtB R w b off i (nthB U i) ad cap
theorem RdU.below {R : World → Option Addr → List PAl → Prop} (hR : Stays R) {w w' : World} {a : Option Addr} {U : List PSb} (h : RdU R w a U) (hb : Below w.heap.size w w') : RdU R w' a U := by
  rcases h with h | ⟨b, off, rfl, hlt, hc⟩
  · exact .inl h
  · exact .inr ⟨b, off, rfl, Nat.lt_of_lt_of_le hlt hb.size, fun i hi => by
      obtain ⟨ad, cap, h⟩ := hc i hi
      exact ⟨ad, cap, h.below hR hb hlt⟩⟩
theorem RdU.get {R : World → Option Addr → List PAl → Prop} {w : World} {a : Option Addr} {U : List PSb} (h : RdU R w a U) {i : Nat} (hi : i < U.length) :
    ∃ b off, a = some ⟨b, off, none⟩ ∧ b < w.heap.size ∧ ∃ ad cap, AtB R w b off i (nthB U i) ad cap := by
  rcases h with h | ⟨b, off, e, hb, h⟩
  · rw [h] at hi; simp at hi
  · exact ⟨b, off, e, hb, h i hi⟩
theorem RdU.rd {w : World} {a : Option Addr} {U : List PSb} (h : RdU RdN w a U) : RdU RdA w a U := by
  rcases h with h | ⟨b, off, e, hb, hc⟩
  · exact .inl h
  · exact .inr ⟨b, off, e, hb, fun i hi => by obtain ⟨ad, cap, h⟩ := hc i hi; exact ⟨ad, cap, h.c0, h.c1, h.reads.rd⟩⟩
structure FitB (x : PSb) : Prop where
  len : x.P.length ≤ maxLen
  fits : FitsP x.P
def FitsU (U : List PSb) : Prop := ∀ x ∈ U, FitB x
def sumB : List PSb → Nat
  | [] => 0
  | x :: U => x.P.length + sumL x.P + sumB U
theorem sumB_app (p q : List PSb) : sumB (p ++ q) = sumB p + sumB q := by
  induction p with
  | nil => simp [sumB]
  | cons x p ih => rw [List.cons_append, sumB, ih, sumB]; omega
theorem sumB_up {U : List PSb} {k : Nat} (h : k < U.length) : sumB (U.take (k + 1)) = sumB (U.take k) + (nthB U k).P.length + sumL (nthB U k).P := by
  rw [takeB_up h, sumB_app]; simp [sumB]; omega
theorem sumB_all {U : List PSb} {k : Nat} (h : U.length ≤ k) : sumB (U.take k) = sumB U := by rw [List.take_of_length_le h]
theorem sumB_mem {U : List PSb} {x : PSb} (h : x ∈ U) : x.P.length + sumL x.P ≤ sumB U := by
  induction U with
  | nil => simp at h
  | cons y U ih =>
    rw [sumB]
    rcases List.mem_cons.1 h with rfl | h
    · omega
    · have := ih h; omega
theorem sumB_nth {U : List PSb} {k : Nat} (h : k < U.length) : (nthB U k).P.length + sumL (nthB U k).P ≤ sumB U := sumB_mem (nthB_mem h)

theorem infoS : (Try.prog.info? 26).map (fun i => (i.zero, i.size, i.bytes)) = some (some (.agg #[.slice none 0 0, .bool false]), 2, 32) := by kernel_rfl
/-- one who listens in memory of the call's own -/
structure URow where
  a : Option Addr
  c : Nat
  rs : List ARow
  g : Bool
def URow.sb (x : URow) : PSb := ⟨pals x.rs, x.g⟩
def sbs (us : List URow) : List PSb := us.map URow.sb
def nthU (us : List URow) (i : Nat) : URow := us.getD i ⟨none, 0, [], false⟩
theorem nthU_eq {us : List URow} {i : Nat} (h : i < us.length) : nthU us i = us[i] := by unfold nthU; simp [h]
theorem nthU_mem {us : List URow} {i : Nat} (h : i < us.length) : nthU us i ∈ us := by rw [nthU_eq h]; exact List.getElem_mem _
theorem sbs_len (us : List URow) : (sbs us).length = us.length := by simp [sbs]
theorem sbs_nth {us : List URow} {i : Nat} (h : i < us.length) : nthB (sbs us) i = (nthU us i).sb := by
  rw [nthB_eq (by rw [sbs_len]; exact h), nthU_eq h]
  simp [sbs]
theorem sbs_app (us : List URow) (x : URow) : sbs (us ++ [x]) = sbs us ++ [x.sb] := by simp [sbs]
theorem nthU_app_lt {us : List URow} {x : URow} {i : Nat} (h : i < us.length) : nthU (us ++ [x]) i = nthU us i := by
  rw [nthU_eq (by simp; omega), nthU_eq h, List.getElem_append_left h]
theorem nthU_app_eq (us : List URow) (x : URow) : nthU (us ++ [x]) us.length = x := by
  rw [nthU_eq (by simp)]; simp
def Cel2 (f : Nat → Option Value) (i : Nat) (x : URow) : Prop := f (i * 2) = some (.slice x.a x.rs.length x.c) ∧ f (i * 2 + 1) = some (.bool x.g)
theorem Cel2.congr {f g : Nat → Option Value} {i : Nat} {x : URow} (h : Cel2 f i x) (e : ∀ k, i * 2 ≤ k → k < i * 2 + 2 → g k = f k) : Cel2 g i x :=
  ⟨by rw [e _ (by omega) (by omega)]; exact h.1, by rw [e _ (by omega) (by omega)]; exact h.2⟩
def rowU (x : URow) : List Value := [.slice x.a x.rs.length x.c, .bool x.g]
theorem rowU_one (x : URow) : ∀ v ∈ rowU x, v.oneCell' = true := fun v hv => by
  simp only [rowU, List.mem_cons, List.not_mem_nil, or_false] at hv
  rcases hv with rfl | rfl <;> rfl
theorem rngQ {lo : Nat} {w : World} {a : Option Addr} {c : Nat} {rs : List ARow} (h : QO lo w a c rs) : ∀ k, blksA a rs k → lo ≤ k ∧ k < w.heap.size := fun k hk => by
  obtain ⟨M, o, rfl, hb⟩ := hk
  rcases h with ⟨e, _⟩ | ⟨M', e, h⟩
  · cases e
  · cases e; exact ⟨blks_low h k hb, blks_high h k hb⟩
theorem qo_only {S : Nat → Prop} {lo : Nat} {w w' : World} {a : Option Addr} {c : Nat} {rs : List ARow} (h : QO lo w a c rs) (ho : Only S w w') (hn : ∀ k, blksA a rs k → ¬ S k) : QO lo w' a c rs := by
  rcases h with h | ⟨M, rfl, h⟩
  · exact .inl h
  · exact .inr ⟨M, rfl, ab_only h ho fun k hk => hn k ⟨M, 0, rfl, hk⟩⟩
theorem QO.aq {lo : Nat} {w : World} {a : Option Addr} {c : Nat} {rs : List ARow} (h : QO lo w a c rs) : AQ lo w a rs := by
  rcases h with ⟨rfl, _, rfl⟩ | ⟨M, rfl, h⟩
  · exact .inl ⟨rfl, rfl⟩
  · exact .inr ⟨M, 0, rfl, AB.ao h⟩
/-- the rows, no two of which share a block -/
structure RowsU (lo : Nat) (w : World) (us : List URow) : Prop where
  rows : ∀ x ∈ us, QO lo w x.a x.c x.rs
  ne : us.Pairwise fun x y => ∀ k, blksA x.a x.rs k → ¬ blksA y.a y.rs k
theorem RowsU.nil (lo : Nat) (w : World) : RowsU lo w [] := ⟨fun x hx => by simp at hx, List.Pairwise.nil⟩
theorem RowsU.moved {lo : Nat} {w w' : World} {us : List URow} (h : RowsU lo w us) (hm : Moved w w') : RowsU lo w' us := ⟨fun x hx => (h.rows x hx).moved hm, h.ne⟩
theorem RowsU.grow {lo : Nat} {w w' : World} {us : List URow} (h : RowsU lo w us) (hb : Below w.heap.size w w') : RowsU lo w' us := h.moved (Moved.of hb)
theorem RowsU.down {lo lo' : Nat} {w : World} {us : List URow} (h : RowsU lo w us) (hl : lo' ≤ lo) : RowsU lo' w us := ⟨fun x hx => (h.rows x hx).down hl, h.ne⟩
theorem RowsU.app {lo : Nat} {w : World} {us : List URow} {x : URow} (h : RowsU lo w us) (hx : QO lo w x.a x.c x.rs) (hne : ∀ y ∈ us, ∀ k, blksA y.a y.rs k → ¬ blksA x.a x.rs k) : RowsU lo w (us ++ [x]) := by
  refine ⟨fun y hy => ?_, ?_⟩
  · rcases List.mem_append.1 hy with hy | hy
    · exact h.rows y hy
    · rw [List.mem_singleton.1 hy]; exact hx
  · rw [List.pairwise_append]
    exact ⟨h.ne, List.pairwise_singleton _ _, fun a ha b hb => by rw [List.mem_singleton.1 hb]; exact hne a ha⟩
/-- a row that is younger than all of them -/
theorem RowsU.fresh {lo B : Nat} {w w' : World} {us : List URow} {x : URow} (h : RowsU lo w us) (hx : QO B w' x.a x.c x.rs) (hB : w.heap.size ≤ B) : ∀ y ∈ us, ∀ k, blksA y.a y.rs k → ¬ blksA x.a x.rs k := fun y hy k h1 h2 => by
  have := rngQ (h.rows y hy) k h1
  have := rngQ hx k h2
  omega
/-- those who listen lie in the row at block M, whose room is c -/
structure UB (lo : Nat) (w : World) (M c : Nat) (us : List URow) : Prop where
  at' : lo ≤ M
  cap : us.length ≤ c ∧ c ≤ maxLen
  outer : ∃ cur : Array Value, Blk w M cur 26 ∧ cur.size = c * 2 ∧ ∀ i, i < us.length → Cel2 (fun k => cur[k]?) i (nthU us i)
  rows : RowsU lo w us
theorem UB.grow {lo : Nat} {w w' : World} {M c : Nat} {us : List URow} (h : UB lo w M c us) (hb : Below w.heap.size w w') : UB lo w' M c us := by
  obtain ⟨cur, h1, h2⟩ := h.outer
  exact ⟨h.at', h.cap, ⟨cur, h1.grow hb, h2⟩, h.rows.grow hb⟩
theorem UB.down {lo lo' : Nat} {w : World} {M c : Nat} {us : List URow} (h : UB lo w M c us) (hl : lo' ≤ lo) : UB lo' w M c us := ⟨Nat.le_trans hl h.at', h.cap, h.outer, h.rows.down hl⟩
theorem UB.lt {lo : Nat} {w : World} {M c : Nat} {us : List URow} (h : UB lo w M c us) : M < w.heap.size := by
  obtain ⟨cur, h1, _⟩ := h.outer
  exact h1.lt
theorem UB.nil {lo : Nat} {w : World} {M : Nat} (h : Blk w M #[] 26) (hl : lo ≤ M) : UB lo w M 0 [] :=
  ⟨hl, ⟨Nat.le_refl _, by simp [maxLen]⟩, ⟨#[], h, rfl, fun i hi => by simp at hi⟩, RowsU.nil _ _⟩
theorem UB.rn {lo : Nat} {w : World} {M c : Nat} {us : List URow} (h : UB lo w M c us) : RdU RdN w (some ⟨M, 0, none⟩) (sbs us) := by
  obtain ⟨cur, h1, h2, h3⟩ := h.outer
  refine .inr ⟨M, 0, rfl, h1.lt, fun i hi => ?_⟩
  rw [sbs_len] at hi
  obtain ⟨c0, c1⟩ := h3 i hi
  refine ⟨(nthU us i).a, (nthU us i).c, ?_⟩
  rw [sbs_nth hi]
  exact ⟨by rw [h1.cell, Nat.zero_add, URow.sb, pals_len]; exact c0, by rw [h1.cell, Nat.zero_add]; exact c1, (h.rows.rows _ (nthU_mem hi)).rd⟩
theorem UB.rd {lo : Nat} {w : World} {M c : Nat} {us : List URow} (h : UB lo w M c us) : RdU RdA w (some ⟨M, 0, none⟩) (sbs us) := h.rn.rd
theorem UB.own {lo : Nat} {w : World} {M c : Nat} {us : List URow} (h : UB lo w M c us) : ∃ xs : List Value, w.ownsRow lo 26 2 (.slice (some ⟨M, 0, none⟩) us.length c) us.length xs ∧ xs.length = us.length * 2 ∧ ∀ i, i < us.length → Cel2 (fun k => xs[k]?) i (nthU us i) := by
  obtain ⟨cur, h1, h2, h3⟩ := h.outer
  have hc := h.cap
  have hlen : (cur.toList.take (us.length * 2)).length = us.length * 2 := by simp; omega
  refine ⟨cur.toList.take (us.length * 2), ⟨hlen, .inr ⟨M, c, cur, rfl, h.at', h1, hc.1, hc.2, h2, rfl⟩⟩, hlen, fun i hi => ?_⟩
  refine (h3 i hi).congr fun k _ hk => ?_
  show (cur.toList.take _)[k]? = cur[k]?
  rw [List.getElem?_take_of_lt (by omega)]
  simp
theorem UB.app {lo : Nat} {W w' : World} {M c : Nat} {us : List URow} {x : URow} {xs : List Value} {v' : Value} (h : UB lo W M c us) (hx : QO lo W x.a x.c x.rs) (hne : ∀ y ∈ us, ∀ k, blksA y.a y.rs k → ¬ blksA x.a x.rs k) (hl : xs.length = us.length * 2) (hxs : ∀ i, i < us.length → Cel2 (fun k => xs[k]?) i (nthU us i))
    (hown : w'.ownsRow lo 26 2 v' (us.length + 1) (xs ++ rowU x)) (hg : W.grownBy w' (some M)) : ∃ M' c', v' = .slice (some ⟨M', 0, none⟩) (us.length + 1) c' ∧ UB lo w' M' c' (us ++ [x]) := by
  rcases hown.2 with ⟨_, e⟩ | ⟨g, cap, cur, e, hb, hgb, hc, hm, hz, ht⟩
  · omega
  · obtain ⟨cu0, hcu0, _⟩ := h.outer
    have hmv : Moved W w' := Moved.far hcu0 (by decide) (by decide) hg
    refine ⟨g, cap, e, hb, ⟨by simp; omega, hm⟩, ⟨cur, hgb, hz, fun i hi => ?_⟩, (h.rows.app hx hne).moved hmv⟩
    have at' : ∀ k, k < (us.length + 1) * 2 → cur[k]? = (xs ++ rowU x)[k]? := fun k hk => by
      rw [← ht, List.getElem?_take_of_lt hk]; simp
    simp at hi
    by_cases hlt : i < us.length
    · rw [nthU_app_lt hlt]
      refine (hxs i hlt).congr fun k _ hk => ?_
      show cur[k]? = xs[k]?
      rw [at' k (by omega), List.getElem?_append_left (by omega)]
    · have ei : i = us.length := by omega
      subst ei
      rw [nthU_app_eq]
      have hr : ∀ j, j < 2 → cur[us.length * 2 + j]? = (rowU x)[j]? := fun j hj => by
        rw [at' _ (by omega), List.getElem?_append_right (by omega), hl]
        congr 1; omega
      exact ⟨hr 0 (by omega), hr 1 (by omega)⟩
/-- one is written at a place -/
def put2C (cs : Array Value) (k : Nat) (x : URow) : Array Value := (cs.setIfInBounds (k * 2) (.slice x.a x.rs.length x.c)).setIfInBounds (k * 2 + 1) (.bool x.g)
def put2W (w : World) (M k : Nat) (x : URow) : World := (w.setCell ⟨M, k * 2, none⟩ (.slice x.a x.rs.length x.c)).setCell ⟨M, k * 2 + 1, none⟩ (.bool x.g)
theorem put2_at {cs : Array Value} {k : Nat} {x : URow} (h : k * 2 + 1 < cs.size) : Cel2 (fun j => (put2C cs k x)[j]?) k x := by
  unfold put2C
  exact ⟨by show (Array.setIfInBounds _ _ _)[_]? = _; rw [set_ne (by omega), set_at (by omega)], by show (Array.setIfInBounds _ _ _)[_]? = _; rw [set_at (by simp; omega)]⟩
theorem put2_ne {cs : Array Value} {k j : Nat} {x : URow} (h : j < k * 2 ∨ k * 2 + 2 ≤ j) : (put2C cs k x)[j]? = cs[j]? := by
  unfold put2C
  rw [set_ne (by omega), set_ne (by omega)]
theorem put2_size (cs : Array Value) (k : Nat) (x : URow) : (put2C cs k x).size = cs.size := by simp [put2C]
theorem put2W_blk {w : World} {M k : Nat} {x : URow} {cs : Array Value} {T : TypeId} (h : Blk w M cs T) : Blk (put2W w M k x) M (put2C cs k x) T := (h.set _ _).set _ _
theorem put2W_moved {w : World} {M k : Nat} {x : URow} {cs : Array Value} (h : Blk w M cs 26) : Moved w (put2W w M k x) := (Moved.set h (by decide) (by decide) _ _).trans (Moved.set (h.set _ _) (by decide) (by decide) _ _)
/-- the row while it is filled -/
structure FillU (lo : Nat) (w : World) (M : Nat) (U : List PSb) (k : Nat) (cur : Array Value) (us : List URow) : Prop where
  blk : Blk w M cur 26
  size : cur.size = U.length * 2
  len : us.length = k
  sb : sbs us = U.take k
  cell : ∀ i, i < k → Cel2 (fun j => cur[j]?) i (nthU us i)
  rows : RowsU lo w us
theorem FillU.grow {lo : Nat} {w w' : World} {M : Nat} {U : List PSb} {k : Nat} {cur : Array Value} {us : List URow} (h : FillU lo w M U k cur us) (hb : Below w.heap.size w w') : FillU lo w' M U k cur us :=
  ⟨h.blk.grow hb, h.size, h.len, h.sb, h.cell, h.rows.grow hb⟩
theorem FillU.next {lo : Nat} {w : World} {M : Nat} {U : List PSb} {k : Nat} {cur : Array Value} {us : List URow} {x : URow} (h : FillU lo w M U k cur us) (hk : k < U.length) (hx : QO lo w x.a x.c x.rs) (hp : x.sb = nthB U k) (hne : ∀ y ∈ us, ∀ k, blksA y.a y.rs k → ¬ blksA x.a x.rs k) :
    FillU lo (put2W w M k x) M U (k + 1) (put2C cur k x) (us ++ [x]) := by
  have hl := h.len
  have hs := h.size
  refine ⟨put2W_blk h.blk, by rw [put2_size]; exact hs, by simp [hl], by rw [sbs_app, h.sb, takeB_up hk, hp], fun i hi => ?_, (h.rows.app hx hne).moved (put2W_moved h.blk)⟩
  by_cases e : i < k
  · rw [nthU_app_lt (by omega)]
    exact (h.cell i e).congr fun j h0 h1 => put2_ne (by omega)
  · have : i = us.length := by omega
    subst this
    rw [nthU_app_eq, hl]
    exact put2_at (by omega)
theorem FillU.ub {lo : Nat} {w : World} {M : Nat} {U : List PSb} {cur : Array Value} {us : List URow} (h : FillU lo w M U U.length cur us) (hlo : lo ≤ M) (hl : U.length ≤ 1048576) : UB lo w M U.length us ∧ sbs us = U :=
  ⟨⟨hlo, ⟨by rw [h.len]; exact Nat.le_refl _, by unfold maxLen; omega⟩, ⟨cur, h.blk, h.size, fun i hi => h.cell i (by rw [← h.len]; exact hi)⟩, h.rows⟩, by rw [h.sb]; exact List.take_length⟩
theorem two_cells {w : World} {M : Nat} {cs : Array Value} {T : TypeId} (h : Blk w M cs T) (k : Nat) (hk : k * 2 + 1 < cs.size) : ∃ v0 v1, w.cell? ⟨M, k * 2, none⟩ = some v0 ∧ w.cell? ⟨M, k * 2 + 1, none⟩ = some v1 :=
  ⟨cs[k * 2]'(by omega), cs[k * 2 + 1]'(by omega), by rw [h.cell]; simp, by rw [h.cell]; simp⟩

end Go.Proofs.Ytdmhccheaemkkaa.Subs
