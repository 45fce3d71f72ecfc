/-
  PROVED: the contracts of what the exact laws call over slices of alarms: the size that szAlarmS counts, the copy that toAlarmS makes, that eqAlarmS finds two of the same alike, the marks that markAlarmS writes; what a slice of alarms that came in is.
  PROVED: the marks that markAlarmS writes lie in the copied alarms' own memory alone; what a slice of alarms that came in is.
  PROVED: rows of alarms in memory of a call's own, each alarm's labels in a block of their own: read, grown by an append, written at a place; what chains come to, on plain lists.
  PROVED: impl.copiedAlarms gives the same alarms in memory of its own, each alarm's labels in a block of their own; nothing that was there is changed.
-/
import Derived.Test.YtgncimlojbnbfaaGreatQAlmM
import Derived.Test.YtgncimlojbnbfaaGreatQMark
import Derived.Deep.Slices
set_option linter.unusedVariables false
namespace Go.Proofs.YtgncimlojbnbfaaGreat.Alms
open Go.RowKit
open Go.ChangeShapes Go.WideShapes
open Labs LabS LabT Alm Over Blk
open StrB (retB)

structure PAl where
  l : List Lab
  s : Int
  e : Int
  n : ByteArray
def nthP (P : List PAl) (i : Nat) : PAl := P.getD i ⟨[], 0, 0, ByteArray.empty⟩
theorem nthP_eq {P : List PAl} {i : Nat} (h : i < P.length) : nthP P i = P[i] := by unfold nthP; simp [h]
structure At (w : World) (b off i : Nat) (x : PAl) (ad : Option Addr) (cap : Nat) : Prop where
  c0 : w.cell? ⟨b, off + i * 4, none⟩ = some (.slice ad x.l.length cap)
  c1 : w.cell? ⟨b, off + i * 4 + 1, none⟩ = some (.int .i64 x.s)
  c2 : w.cell? ⟨b, off + i * 4 + 2, none⟩ = some (.int .i64 x.e)
  c3 : w.cell? ⟨b, off + i * 4 + 3, none⟩ = some (.string x.n)
  reads : Reads w ad x.l
theorem At.below {w w' : World} {b off i : Nat} {x : PAl} {ad : Option Addr} {cap : Nat} (h : At w b off i x ad cap) (hb : Below w.heap.size w w') (hlt : b < w.heap.size) : At w' b off i x ad cap :=
  ⟨(hb.cell (p := ⟨b, off + i * 4, none⟩) hlt).trans h.c0, (hb.cell (p := ⟨b, off + i * 4 + 1, none⟩) hlt).trans h.c1, (hb.cell (p := ⟨b, off + i * 4 + 2, none⟩) hlt).trans h.c2, (hb.cell (p := ⟨b, off + i * 4 + 3, none⟩) hlt).trans h.c3, h.reads.below hb⟩
def RdA (w : World) (a : Option Addr) (P : List PAl) : Prop :=
  P = [] ∨ ∃ b off, a = some ⟨b, off, none⟩ ∧ b < w.heap.size ∧ ∀ i, i < P.length → ∃ ad cap, At w b off i (nthP P i) ad cap
theorem RdA.below {w w' : World} {a : Option Addr} {P : List PAl} (h : RdA w a P) (hb : Below w.heap.size w w') : RdA w' a P := by
  rcases h with h | ⟨b, off, rfl, hlt, hc⟩
  · exact .inl h
  · exact .inr ⟨b, off, rfl, Nat.lt_of_lt_of_le hlt hb.size, fun i hi => by
      obtain ⟨ad, cap, h⟩ := hc i hi
      exact ⟨ad, cap, h.below hb hlt⟩⟩
theorem RdA.get {w : World} {a : Option Addr} {P : List PAl} (h : RdA w a P) {i : Nat} (hi : i < P.length) :
    ∃ b off, a = some ⟨b, off, none⟩ ∧ b < w.heap.size ∧ ∃ ad cap, At w b off i (nthP P i) ad cap := by
  rcases h with h | ⟨b, off, e, hb, h⟩
  · rw [h] at hi; simp at hi
  · exact ⟨b, off, e, hb, h i hi⟩
structure FitA (x : PAl) : Prop where
  len : x.l.length ≤ maxLen
  fits : Fits x.l
  sb : -9223372036854775808 ≤ x.s ∧ x.s ≤ 9223372036854775807
  eb : -9223372036854775808 ≤ x.e ∧ x.e ≤ 9223372036854775807
  note : x.n.size ≤ maxLen
def FitsP (P : List PAl) : Prop := ∀ i, i < P.length → FitA (nthP P i)
theorem FitA.al {w : World} {x : PAl} {ad : Option Addr} (h : FitA x) (hr : Reads w ad x.l) : AlIn w ad x.l x.s x.e x.n := ⟨hr, h.len, h.fits, h.sb, h.eb, h.note⟩

def sumL : List PAl → Nat
  | [] => 0
  | x :: P => x.l.length + sumL P
theorem takeP_up {P : List PAl} {k : Nat} (h : k < P.length) : P.take (k + 1) = P.take k ++ [nthP P k] := by
  rw [nthP_eq h, List.take_succ_eq_append_getElem h]
theorem infoA : (Tryz.prog.info? 27).map (fun i => (i.zero, i.size, i.bytes)) = some (some (.agg #[.slice none 0 0, .int .i64 0, .int .i64 0, .string ByteArray.empty]), 4, 56) := by kernel_rfl

theorem set_at {cs : Array Value} {i : Nat} {v : Value} (h : i < cs.size) : (cs.setIfInBounds i v)[i]? = some v := by rw [Array.getElem?_setIfInBounds, if_pos rfl, if_pos h]
theorem set_ne {cs : Array Value} {i j : Nat} {v : Value} (h : i ≠ j) : (cs.setIfInBounds i v)[j]? = cs[j]? := Array.getElem?_setIfInBounds_ne h
end Go.Proofs.YtgncimlojbnbfaaGreat.Alms
namespace Go.Proofs.YtgncimlojbnbfaaGreat.Alms
open Go.RowKit
open Go.ChangeShapes Go.WideShapes
open Labs LabS LabT Alm Over Blk
open Go.Proofs.YtgncimlojbnbfaaGreat.Mark (Apart)
open StrB (retB)

end Go.Proofs.YtgncimlojbnbfaaGreat.Alms
namespace Go.Proofs.YtgncimlojbnbfaaGreat.Rws
open Go.RowKit
open Labs LabS Alms AlmS AlmM Over Blk App
open Alm (sameB same_self)
open LabT (Held held_reads Fits)
open LabR (Own)

def RdN (w : World) (a : Option Addr) (P : List PAl) : Prop :=
  P = [] ∨ ∃ b off, a = some ⟨b, off, none⟩ ∧ b < w.heap.size ∧ ∀ i, i < P.length → ∃ g o cap, At w b off i (nthP P i) (some ⟨g, o, none⟩) cap
theorem RdN.rd {w : World} {a : Option Addr} {P : List PAl} (h : RdN w a P) : RdA w a P := by
  rcases h with h | ⟨b, off, e, hb, hc⟩
  · exact .inl h
  · exact .inr ⟨b, off, e, hb, fun i hi => by obtain ⟨g, o, cap, h⟩ := hc i hi; exact ⟨_, _, h⟩⟩
theorem RdN.below {w w' : World} {a : Option Addr} {P : List PAl} (h : RdN w a P) (hb : Below w.heap.size w w') : RdN w' a P := by
  rcases h with h | ⟨b, off, rfl, hlt, hc⟩
  · exact .inl h
  · exact .inr ⟨b, off, rfl, Nat.lt_of_lt_of_le hlt hb.size, fun i hi => by
      obtain ⟨g, o, cap, h⟩ := hc i hi
      exact ⟨g, o, cap, h.below hb hlt⟩⟩
theorem RdN.get {w : World} {a : Option Addr} {P : List PAl} (h : RdN w a P) {i : Nat} (hi : i < P.length) :
    ∃ b off, a = some ⟨b, off, none⟩ ∧ b < w.heap.size ∧ ∃ g o cap, At w b off i (nthP P i) (some ⟨g, o, none⟩) cap := by
  rcases h with h | ⟨b, off, e, hb, h⟩
  · rw [h] at hi; simp at hi
  · exact ⟨b, off, e, hb, h i hi⟩

abbrev ARow := Nat × Nat × PAl
def pals (rs : List ARow) : List PAl := rs.map fun x => x.2.2
def nthA (rs : List ARow) (i : Nat) : ARow := rs.getD i (0, 0, ⟨[], 0, 0, ByteArray.empty⟩)
theorem nthA_eq {rs : List ARow} {i : Nat} (h : i < rs.length) : nthA rs i = rs[i] := by unfold nthA; simp [h]
theorem nthA_mem {rs : List ARow} {i : Nat} (h : i < rs.length) : nthA rs i ∈ rs := by rw [nthA_eq h]; exact List.getElem_mem _
theorem pals_len (rs : List ARow) : (pals rs).length = rs.length := by simp [pals]
theorem pals_nth {rs : List ARow} {i : Nat} (h : i < rs.length) : nthP (pals rs) i = (nthA rs i).2.2 := by
  rw [nthP_eq (by rw [pals_len]; exact h), nthA_eq h]
  simp [pals]
theorem pals_app (rs : List ARow) (x : ARow) : pals (rs ++ [x]) = pals rs ++ [x.2.2] := by simp [pals]
theorem nthA_app_lt {rs : List ARow} {x : ARow} {i : Nat} (h : i < rs.length) : nthA (rs ++ [x]) i = nthA rs i := by
  rw [nthA_eq (by simp; omega), nthA_eq h, List.getElem_append_left h]
theorem nthA_app_eq (rs : List ARow) (x : ARow) : nthA (rs ++ [x]) rs.length = x := by
  rw [nthA_eq (by simp)]; simp
def Four (f : Nat → Option Value) (i : Nat) (x : ARow) : Prop :=
  f (i * 4) = some (.slice (some ⟨x.1, 0, none⟩) x.2.2.l.length x.2.1) ∧ f (i * 4 + 1) = some (.int .i64 x.2.2.s) ∧ f (i * 4 + 2) = some (.int .i64 x.2.2.e) ∧ f (i * 4 + 3) = some (.string x.2.2.n)
theorem Four.congr {f g : Nat → Option Value} {i : Nat} {x : ARow} (h : Four f i x) (e : ∀ k, i * 4 ≤ k → k < i * 4 + 4 → g k = f k) : Four g i x := by
  obtain ⟨h0, h1, h2, h3⟩ := h
  exact ⟨by rw [e _ (by omega) (by omega)]; exact h0, by rw [e _ (by omega) (by omega)]; exact h1, by rw [e _ (by omega) (by omega)]; exact h2, by rw [e _ (by omega) (by omega)]; exact h3⟩
def rowV (x : ARow) : List Value := [.slice (some ⟨x.1, 0, none⟩) x.2.2.l.length x.2.1, .int .i64 x.2.2.s, .int .i64 x.2.2.e, .string x.2.2.n]
theorem row_one (x : ARow) : ∀ v ∈ rowV x, v.oneCell' = true := fun v hv => by
  simp only [rowV, List.mem_cons, List.not_mem_nil, or_false] at hv
  rcases hv with rfl | rfl | rfl | rfl <;> rfl
def OwnA (lo : Nat) (w : World) (x : ARow) : Prop := lo ≤ x.1 ∧ x.2.2.l.length ≤ 1048576 ∧ ∃ ds : Array Value, Blk w x.1 ds 99 ∧ x.2.2.l.length * 2 ≤ ds.size ∧ Held ds x.2.2.l x.2.2.l.length
theorem OwnA.grow {lo : Nat} {w w' : World} {x : ARow} (h : OwnA lo w x) (hb : Below w.heap.size w w') : OwnA lo w' x := by
  obtain ⟨h0, h1, ds, h2, h3⟩ := h
  exact ⟨h0, h1, ds, h2.grow hb, h3⟩
theorem OwnA.lt {lo : Nat} {w : World} {x : ARow} (h : OwnA lo w x) : x.1 < w.heap.size := by
  obtain ⟨h0, h1, ds, h2, h3⟩ := h
  exact h2.lt
theorem OwnA.reads {lo : Nat} {w : World} {x : ARow} (h : OwnA lo w x) : Reads w (some ⟨x.1, 0, none⟩) x.2.2.l := by
  obtain ⟨h0, h1, ds, h2, h3, h4⟩ := h
  exact held_reads h2 h4
theorem OwnA.down {lo lo' : Nat} {w : World} {x : ARow} (h : OwnA lo w x) (hl : lo' ≤ lo) : OwnA lo' w x := ⟨Nat.le_trans hl h.1, h.2⟩
theorem own_of_copy {w w' : World} {M c : Nat} {x : PAl} (h : Own w w' M x.l) (hl : x.l.length ≤ 1048576) : OwnA w.heap.size w' (M, c, x) := ⟨h.1, hl, h.2⟩

structure AB (lo : Nat) (w : World) (M c : Nat) (rs : List ARow) : Prop where
  at' : lo ≤ M
  cap : rs.length ≤ c ∧ c ≤ maxLen
  outer : ∃ cur : Array Value, Blk w M cur 27 ∧ cur.size = c * 4 ∧ ∀ i, i < rs.length → Four (fun k => cur[k]?) i (nthA rs i)
  rows : ∀ x ∈ rs, OwnA lo w x
  ne : rs.Pairwise fun x y => x.1 ≠ y.1
theorem AB.grow {lo : Nat} {w w' : World} {M c : Nat} {rs : List ARow} (h : AB lo w M c rs) (hb : Below w.heap.size w w') : AB lo w' M c rs := by
  obtain ⟨cur, h1, h2⟩ := h.outer
  exact ⟨h.at', h.cap, ⟨cur, h1.grow hb, h2⟩, fun x hx => (h.rows x hx).grow hb, h.ne⟩
theorem AB.down {lo lo' : Nat} {w : World} {M c : Nat} {rs : List ARow} (h : AB lo w M c rs) (hl : lo' ≤ lo) : AB lo' w M c rs :=
  ⟨Nat.le_trans hl h.at', h.cap, h.outer, fun x hx => (h.rows x hx).down hl, h.ne⟩
theorem AB.lt {lo : Nat} {w : World} {M c : Nat} {rs : List ARow} (h : AB lo w M c rs) : M < w.heap.size := by
  obtain ⟨cur, h1, _⟩ := h.outer
  exact h1.lt
theorem AB.nil {lo : Nat} {w : World} {M : Nat} (h : Blk w M #[] 27) (hl : lo ≤ M) : AB lo w M 0 [] :=
  ⟨hl, ⟨Nat.le_refl _, by simp [maxLen]⟩, ⟨#[], h, rfl, fun i hi => by simp at hi⟩, fun x hx => by simp at hx, List.Pairwise.nil⟩
theorem AB.rd {lo : Nat} {w : World} {M c : Nat} {rs : List ARow} (h : AB lo w M c rs) : RdN w (some ⟨M, 0, none⟩) (pals rs) := by
  obtain ⟨cur, h1, h2, h3⟩ := h.outer
  refine .inr ⟨M, 0, rfl, h1.lt, fun i hi => ?_⟩
  rw [pals_len] at hi
  obtain ⟨c0, c1, c2, c3⟩ := h3 i hi
  refine ⟨(nthA rs i).1, 0, (nthA rs i).2.1, ?_⟩
  rw [pals_nth hi]
  exact ⟨by rw [h1.cell, Nat.zero_add]; exact c0, by rw [h1.cell, Nat.zero_add]; exact c1, by rw [h1.cell, Nat.zero_add]; exact c2, by rw [h1.cell, Nat.zero_add]; exact c3, (h.rows _ (nthA_mem hi)).reads⟩
theorem blkA_ne {w : World} {a b : Nat} {cs ds : Array Value} (h : Blk w a cs 27) (k : Blk w b ds 99) : a ≠ b := fun e => by
  subst e
  unfold Blk at h k
  rw [h] at k
  injection k with k
  injection k with _ k
  exact absurd k (by decide)
theorem AB.own {lo : Nat} {w : World} {M c : Nat} {rs : List ARow} (h : AB lo w M c rs) : ∃ xs : List Value, w.ownsRow lo 27 4 (.slice (some ⟨M, 0, none⟩) rs.length c) rs.length xs ∧ xs.length = rs.length * 4 ∧ ∀ i, i < rs.length → Four (fun k => xs[k]?) i (nthA rs i) := by
  obtain ⟨cur, h1, h2, h3⟩ := h.outer
  have hc := h.cap
  have hlen : (cur.toList.take (rs.length * 4)).length = rs.length * 4 := by simp; omega
  refine ⟨cur.toList.take (rs.length * 4), ⟨hlen, .inr ⟨M, c, cur, rfl, h.at', h1, hc.1, hc.2, h2, rfl⟩⟩, hlen, fun i hi => ?_⟩
  refine (h3 i hi).congr fun k _ hk => ?_
  show (cur.toList.take _)[k]? = cur[k]?
  rw [List.getElem?_take_of_lt (by omega)]
  simp
theorem AB.app {lo : Nat} {W w' : World} {M c : Nat} {rs : List ARow} {x : ARow} {xs : List Value} {v' : Value} (h : AB lo W M c rs) (hx : OwnA lo W x) (hne : ∀ y ∈ rs, y.1 ≠ x.1) (hl : xs.length = rs.length * 4) (hxs : ∀ i, i < rs.length → Four (fun k => xs[k]?) i (nthA rs i))
    (hown : w'.ownsRow lo 27 4 v' (rs.length + 1) (xs ++ rowV x)) (hg : W.grownBy w' (some M)) : ∃ M' c', v' = .slice (some ⟨M', 0, none⟩) (rs.length + 1) c' ∧ AB lo w' M' c' (rs ++ [x]) := by
  rcases hown.2 with ⟨_, e⟩ | ⟨g, cap, cur, e, hb, hgb, hc, hm, hz, ht⟩
  · omega
  · obtain ⟨cu0, hcu0, _⟩ := h.outer
    have far : ∀ y, OwnA lo W y → OwnA lo w' y := fun y hy => by
      obtain ⟨h0, h1, ds, h2, h3⟩ := hy
      exact ⟨h0, h1, ds, blk_far h2 hg (fun e => blkA_ne hcu0 h2 (Option.some.inj e).symm), h3⟩
    refine ⟨g, cap, e, hb, ⟨by simp; omega, hm⟩, ⟨cur, hgb, hz, fun i hi => ?_⟩, fun y hy => ?_, ?_⟩
    · have at' : ∀ k, k < (rs.length + 1) * 4 → cur[k]? = (xs ++ rowV x)[k]? := fun k hk => by
        rw [← ht, List.getElem?_take_of_lt hk]; simp
      simp at hi
      by_cases hlt : i < rs.length
      · rw [nthA_app_lt hlt]
        refine (hxs i hlt).congr fun k _ hk => ?_
        show cur[k]? = xs[k]?
        rw [at' k (by omega), List.getElem?_append_left (by omega)]
      · have ei : i = rs.length := by omega
        subst ei
        rw [nthA_app_eq]
        have hr : ∀ j, j < 4 → cur[rs.length * 4 + j]? = (rowV x)[j]? := fun j hj => by
          rw [at' _ (by omega), List.getElem?_append_right (by omega), hl]
          congr 1; omega
        exact ⟨hr 0 (by omega), hr 1 (by omega), hr 2 (by omega), hr 3 (by omega)⟩
    · rcases List.mem_append.1 hy with hy | hy
      · exact far y (h.rows y hy)
      · rw [List.mem_singleton.1 hy]; exact far x hx
    · rw [List.pairwise_append]
      exact ⟨h.ne, List.pairwise_singleton _ _, fun a ha b hb => by rw [List.mem_singleton.1 hb]; exact hne a ha⟩
def put4C (cs : Array Value) (k : Nat) (x : ARow) : Array Value := (((cs.setIfInBounds (k * 4) (.slice (some ⟨x.1, 0, none⟩) x.2.2.l.length x.2.1)).setIfInBounds (k * 4 + 1) (.int .i64 x.2.2.s)).setIfInBounds (k * 4 + 2) (.int .i64 x.2.2.e)).setIfInBounds (k * 4 + 3) (.string x.2.2.n)
theorem put4_at {cs : Array Value} {k : Nat} {x : ARow} (h : k * 4 + 3 < cs.size) : Four (fun j => (put4C cs k x)[j]?) k x := by
  unfold put4C
  refine ⟨?_, ?_, ?_, ?_⟩
  · show (Array.setIfInBounds _ _ _)[_]? = _
    rw [set_ne (by omega), set_ne (by omega), set_ne (by omega), set_at (by omega)]
  · show (Array.setIfInBounds _ _ _)[_]? = _
    rw [set_ne (by omega), set_ne (by omega), set_at (by simp; omega)]
  · show (Array.setIfInBounds _ _ _)[_]? = _
    rw [set_ne (by omega), set_at (by simp; omega)]
  · show (Array.setIfInBounds _ _ _)[_]? = _
    rw [set_at (by simp; omega)]
theorem put4_ne {cs : Array Value} {k j : Nat} {x : ARow} (h : j < k * 4 ∨ k * 4 + 4 ≤ j) : (put4C cs k x)[j]? = cs[j]? := by
  unfold put4C
  rw [set_ne (by omega), set_ne (by omega), set_ne (by omega), set_ne (by omega)]
theorem put4_size (cs : Array Value) (k : Nat) (x : ARow) : (put4C cs k x).size = cs.size := by simp [put4C]
def put4W (w : World) (M k : Nat) (x : ARow) : World := (((w.setCell ⟨M, k * 4, none⟩ (.slice (some ⟨x.1, 0, none⟩) x.2.2.l.length x.2.1)).setCell ⟨M, k * 4 + 1, none⟩ (.int .i64 x.2.2.s)).setCell ⟨M, k * 4 + 2, none⟩ (.int .i64 x.2.2.e)).setCell ⟨M, k * 4 + 3, none⟩ (.string x.2.2.n)
theorem put4W_blk {w : World} {M k : Nat} {x : ARow} {cs : Array Value} {T : TypeId} (h : Blk w M cs T) : Blk (put4W w M k x) M (put4C cs k x) T := (((h.set _ _).set _ _).set _ _).set _ _
theorem put4W_other {w : World} {M N k : Nat} {x : ARow} {cs : Array Value} {T : TypeId} (h : Blk w N cs T) (hne : M ≠ N) : Blk (put4W w M k x) N cs T :=
  (((h.set_other hne _).set_other hne _).set_other hne _).set_other hne _
theorem put4W_low {w w' : World} {B M k : Nat} {x : ARow} (h : Below B w w') (hM : B ≤ M) : Below B w (put4W w' M k x) := (((h.setCell hM _).setCell hM _).setCell hM _).setCell hM _
def putA (rs : List ARow) (k : Nat) (x : ARow) : List ARow := rs.set k x
theorem nthA_put {rs : List ARow} {k i : Nat} {x : ARow} (hi : i < rs.length) : nthA (putA rs k x) i = if i = k then x else nthA rs i := by
  rw [nthA_eq (by simpa [putA] using hi), nthA_eq hi]
  unfold putA
  rw [List.getElem_set]
  by_cases e : k = i
  · subst e; simp
  · rw [if_neg e, if_neg (fun h => e h.symm)]
theorem AB.put {lo : Nat} {w : World} {M c k : Nat} {rs : List ARow} {x : ARow} (h : AB lo w M c rs) (hk : k < rs.length) (hx : OwnA lo w x) (hne : ∀ y ∈ rs, y.1 ≠ x.1) : AB lo (put4W w M k x) M c (putA rs k x) := by
  obtain ⟨cur, h1, h2, h3⟩ := h.outer
  have hc := h.cap
  have far : ∀ y, OwnA lo w y → OwnA lo (put4W w M k x) y := fun y hy => by
    obtain ⟨h0, h1', ds, h2, h3⟩ := hy
    exact ⟨h0, h1', ds, put4W_other h2 (blkA_ne h1 h2), h3⟩
  have hlen : (putA rs k x).length = rs.length := by simp [putA]
  refine ⟨h.at', by rw [hlen]; exact hc, ⟨put4C cur k x, put4W_blk h1, by rw [put4_size]; exact h2, fun i hi => ?_⟩, fun y hy => ?_, ?_⟩
  · rw [hlen] at hi
    rw [nthA_put hi]
    by_cases e : i = k
    · subst e
      rw [if_pos rfl]
      exact put4_at (by omega)
    · rw [if_neg e]
      exact (h3 i hi).congr fun j h0 h1 => put4_ne (by omega)
  · rcases List.mem_or_eq_of_mem_set hy with hy | hy
    · exact far y (h.rows y hy)
    · subst hy; exact far _ hx
  · unfold putA
    have hp := h.ne
    rw [List.pairwise_iff_getElem] at hp ⊢
    intro i j hi hj hij
    simp only [List.length_set] at hi hj
    rw [List.getElem_set, List.getElem_set]
    by_cases e1 : k = i
    · rw [if_pos e1, if_neg (by omega)]
      exact fun e => hne _ (List.getElem_mem hj) e.symm
    · rw [if_neg e1]
      by_cases e2 : k = j
      · rw [if_pos e2]; exact hne _ (List.getElem_mem hi)
      · rw [if_neg e2]; exact hp i j hi hj hij

def idxTo (P : List PAl) (l : List Lab) : Nat → Option Nat
  | 0 => none
  | k + 1 => match idxTo P l k with
    | some j => some j
    | none => if (nthP P k).l = l then some k else none
def idxB (P : List PAl) (l : List Lab) : Int :=
  match idxTo P l P.length with
  | some j => (j : Int)
  | none => -1
theorem idxTo_none {P : List PAl} {l : List Lab} : ∀ {k : Nat}, (∀ j, j < k → (nthP P j).l ≠ l) → idxTo P l k = none
  | 0, _ => rfl
  | k + 1, h => by
    rw [idxTo, idxTo_none (fun j hj => h j (by omega))]
    simp only []
    rw [if_neg (h k (by omega))]
theorem idxTo_some {P : List PAl} {l : List Lab} {j : Nat} (hj : ∀ i, i < j → (nthP P i).l ≠ l) (he : (nthP P j).l = l) : ∀ {k : Nat}, j < k → idxTo P l k = some j
  | 0, h => by omega
  | k + 1, h => by
    by_cases e : j = k
    · subst e
      rw [idxTo, idxTo_none hj]
      simp only []
      rw [if_pos he]
    · rw [idxTo, idxTo_some hj he (k := k) (by omega)]
theorem idxTo_cases (P : List PAl) (l : List Lab) : ∀ k, (∀ j, j < k → (nthP P j).l ≠ l) ∨ ∃ j, j < k ∧ (nthP P j).l = l ∧ ∀ i, i < j → (nthP P i).l ≠ l
  | 0 => .inl fun j h => by omega
  | k + 1 => by
    rcases idxTo_cases P l k with h | ⟨j, h0, h1, h2⟩
    · by_cases e : (nthP P k).l = l
      · exact .inr ⟨k, by omega, e, h⟩
      · refine .inl fun j hj => ?_
        by_cases q : j = k
        · subst q; exact e
        · exact h j (by omega)
    · exact .inr ⟨j, by omega, h1, h2⟩
def leftTo (P : List PAl) (now : Int) (k : Nat) : List PAl := (P.take k).filter fun x => !overB x.e now
def goneTo (P : List PAl) (now : Int) (k : Nat) : List PAl := (P.take k).filter fun x => overB x.e now
theorem left_up {P : List PAl} {now : Int} {k : Nat} (h : k < P.length) : leftTo P now (k + 1) = leftTo P now k ++ (if overB (nthP P k).e now = true then [] else [nthP P k]) := by
  unfold leftTo
  rw [takeP_up h, List.filter_append]
  cases hq : overB (nthP P k).e now <;> simp [hq]
theorem drop_len (P : List PAl) (now : Int) (k : Nat) : (leftTo P now k).length + (goneTo P now k).length = (P.take k).length := by
  unfold leftTo goneTo
  induction P.take k with
  | nil => rfl
  | cons x l ih => cases hq : overB x.e now <;> simp [hq] <;> omega
def sameX (x y : PAl) : Bool := sameB x.l x.s x.e x.n y.l y.s y.e y.n
def sameTo (P Q : List PAl) (k : Nat) : Bool := (List.range k).all fun i => sameX (nthP P i) (nthP Q i)
def sameLB (P Q : List PAl) : Bool := decide (P.length = Q.length) && sameTo P Q P.length
theorem same_refl (P : List PAl) : sameLB P P = true := by simp [sameLB, sameTo, sameX, same_self]
theorem same_len {P Q : List PAl} (h : P.length ≠ Q.length) : sameLB P Q = false := by simp [sameLB, h]
theorem same_bad {P Q : List PAl} {k : Nat} (hk : k < P.length) (h : sameX (nthP P k) (nthP Q k) = false) : sameLB P Q = false := by
  unfold sameLB sameTo
  rw [Bool.and_eq_false_iff]
  right
  rw [List.all_eq_false]
  exact ⟨k, by simpa using hk, by simp [h]⟩
theorem same_good {P Q : List PAl} (hl : P.length = Q.length) (h : ∀ k, k < P.length → sameX (nthP P k) (nthP Q k) = true) : sameLB P Q = true := by
  unfold sameLB sameTo
  rw [Bool.and_eq_true]
  exact ⟨by simp [hl], by rw [List.all_eq_true]; intro k hk; exact h k (by simpa using hk)⟩
end Go.Proofs.YtgncimlojbnbfaaGreat.Rws
namespace Go.Proofs.YtgncimlojbnbfaaGreat.ChnI
open Go.RowKit
open Labs LabS Alms AlmM Over Blk App Rws
def LenP (P : List PAl) : Prop := ∀ i, i < P.length → (nthP P i).l.length ≤ maxLen
theorem set_low {B M : Nat} {w w' : World} (h : Below B w w') (hM : B ≤ M) (i : Nat) (v : Value) : Below B w (w'.setCell ⟨M, i, none⟩ v) := h.setCell (p := ⟨M, i, none⟩) hM v
theorem retI {a b : Int} (h : a = b) : Ending.returned (.int .i64 a) = .returned (.int .i64 b) := by rw [h]
end Go.Proofs.YtgncimlojbnbfaaGreat.ChnI
namespace Go.Proofs.YtgncimlojbnbfaaGreat.ChnC
open Go.RowKit
open Labs LabS Alms AlmM Over Blk App Rws
open ChnI
def LenM (P : List PAl) : Prop := ∀ i, i < P.length → (nthP P i).l.length ≤ 1048576
structure Fill (lo : Nat) (w : World) (M : Nat) (P : List PAl) (k : Nat) (cs : Array Value) (rs : List ARow) : Prop where
  len : rs.length = k
  pal : pals rs = P.take k
  cell : ∀ i, i < k → Four (fun j => cs[j]?) i (nthA rs i)
  rows : ∀ x ∈ rs, OwnA lo w x
  ne : rs.Pairwise fun x y => x.1 ≠ y.1
theorem Fill.moved {lo : Nat} {w w' : World} {M : Nat} {P : List PAl} {k : Nat} {cs : Array Value} {rs : List ARow} (h : Fill lo w M P k cs rs) (hm : ∀ x, OwnA lo w x → OwnA lo w' x) : Fill lo w' M P k cs rs :=
  ⟨h.len, h.pal, h.cell, fun x hx => hm x (h.rows x hx), h.ne⟩
theorem Fill.next {lo : Nat} {w : World} {M : Nat} {P : List PAl} {k : Nat} {cs : Array Value} {rs : List ARow} {x : ARow} (h : Fill lo w M P k cs rs) (hM : Blk w M cs 27) (hs : cs.size = P.length * 4) (hk : k < P.length) (hx : OwnA lo w x) (hp : x.2.2 = nthP P k) (hne : ∀ y ∈ rs, y.1 ≠ x.1) :
    Fill lo (put4W w M k x) M P (k + 1) (put4C cs k x) (rs ++ [x]) := by
  have far : ∀ y, OwnA lo w y → OwnA lo (put4W w M k x) y := fun y hy => by
    obtain ⟨h0, h1, ds, h2, h3⟩ := hy
    exact ⟨h0, h1, ds, put4W_other h2 (blkA_ne hM h2), h3⟩
  have hl := h.len
  refine ⟨by simp [hl], by rw [pals_app, h.pal, takeP_up hk, hp], fun i hi => ?_, fun y hy => ?_, ?_⟩
  · by_cases e : i < k
    · rw [nthA_app_lt (by omega)]
      exact (h.cell i e).congr fun j h0 h1 => put4_ne (by omega)
    · have : i = rs.length := by omega
      subst this
      rw [nthA_app_eq, hl]
      exact put4_at (by omega)
  · rcases List.mem_append.1 hy with hy | hy
    · exact far y (h.rows y hy)
    · rw [List.mem_singleton.1 hy]; exact far x hx
  · rw [List.pairwise_append]
    exact ⟨h.ne, List.pairwise_singleton _ _, fun a ha b hb => by rw [List.mem_singleton.1 hb]; exact hne a ha⟩
theorem Fill.ab {lo : Nat} {w : World} {M : Nat} {P : List PAl} {cs : Array Value} {rs : List ARow} (h : Fill lo w M P P.length cs rs) (hM : Blk w M cs 27) (hs : cs.size = P.length * 4) (hlo : lo ≤ M) (hl : P.length ≤ 1048576) : AB lo w M P.length rs ∧ pals rs = P :=
  ⟨⟨hlo, ⟨by rw [h.len]; exact Nat.le_refl _, by unfold maxLen; omega⟩, ⟨cs, hM, hs, fun i hi => h.cell i (by rw [← h.len]; exact hi)⟩, h.rows, h.ne⟩, by rw [h.pal]; exact List.take_length⟩
end Go.Proofs.YtgncimlojbnbfaaGreat.ChnC
namespace Go.Proofs.YtgncimlojbnbfaaGreat.ChnP
open Go.RowKit
open Labs LabS Alms AlmM Over Blk App Rws
open ChnI ChnC
theorem len_m {P : List PAl} (h : LenM P) : LenP P := fun i hi => by have := h i hi; unfold maxLen; omega
theorem own_grow {w w' : World} {B : Nat} {e : TypeId} {size n : Nat} {v : Value} {xs : List Value} (h : w.ownsRow B e size v n xs) (hb : Below w.heap.size w w') : w'.ownsRow B e size v n xs :=
  h.kept (bel_grown hb) (by cases hv : v.ownBlock with | none => exact .inl rfl | some k => exact .inr (fun e => by cases e))
theorem pals_put (rs : List ARow) (k : Nat) (x : ARow) : pals (putA rs k x) = (pals rs).set k x.2.2 := by simp [pals, putA, List.map_set]
theorem putA_len (rs : List ARow) (k : Nat) (x : ARow) : (putA rs k x).length = rs.length := by simp [putA]
end Go.Proofs.YtgncimlojbnbfaaGreat.ChnP
namespace Go.Proofs.YtgncimlojbnbfaaGreat.ChnC
open Go.RowKit
open Labs LabS Alms AlmM Over Blk App Rws
open ChnI
theorem four_cells {w : World} {M : Nat} {cs : Array Value} {T : TypeId} (h : Blk w M cs T) (k : Nat) (hk : k * 4 + 3 < cs.size) : ∃ v0 v1 v2 v3, w.cell? ⟨M, k * 4, none⟩ = some v0 ∧ w.cell? ⟨M, k * 4 + 1, none⟩ = some v1 ∧ w.cell? ⟨M, k * 4 + 2, none⟩ = some v2 ∧ w.cell? ⟨M, k * 4 + 3, none⟩ = some v3 :=
  ⟨cs[k * 4]'(by omega), cs[k * 4 + 1]'(by omega), cs[k * 4 + 2]'(by omega), cs[k * 4 + 3]'(by omega), by rw [h.cell]; simp, by rw [h.cell]; simp, by rw [h.cell]; simp, by rw [h.cell]; simp⟩
set_option maxHeartbeats 1600000 in
theorem implCopies_any (a : Option Addr) (cap : Nat) (P : List PAl) (w : World) (hr : RdA w a P) (hl : P.length ≤ 1048576) (hs : LenM P) :
    Calls Tryz.prog 72 #[.slice a P.length cap] w fun e w' => (∃ M rs, e = .returned (.slice (some ⟨M, 0, none⟩) P.length P.length) ∧ AB w.heap.size w' M P.length rs ∧ pals rs = P) ∧ Below w.heap.size w w' := by
  have HR : Hid (RdA w a P) := hr
  have HS : Hid (LenM P) := hs
  clear hr hs
  have hmk := make_k (P := Tryz.prog) 35 27 (.agg #[.slice none 0 0, .int .i64 0, .int .i64 0, .string ByteArray.empty]) 4 56 Tryz.underlying35 infoA .i64 .i64 P.length (by omega) (by omega)
  go_enter Tryz.func72, Tryz.ntmps72
  go_wp2
  go_loopw [11] (fun i w' => ∃ (k : Nat) (cs : Array Value) (rs : List ARow), k ≤ P.length ∧ i = .int .i64 k ∧ Blk w' w.heap.size cs 27 ∧ cs.size = P.length * 4 ∧ Fill w.heap.size w' w.heap.size P k cs rs ∧ Below w.heap.size w w') (fun i _ => P.length - (intOf i).toNat)
  case atStart => exact ⟨0, _, [], Nat.zero_le _, rfl, Blk.new _ _ _, by simp [size_madeCells], ⟨rfl, rfl, fun i hi => by simp at hi, fun x hx => by simp at hx, List.Pairwise.nil⟩, (Below.refl _ _).alloc (Nat.le_refl _) _⟩
  case round =>
    clear hmk
    obtain ⟨k, cs, rs, hk, rfl, hM, hcs, hF, hw0⟩ := hrel
    have HB : Hid (Below w.heap.size w wr) := hw0
    have HM : Hid (Blk wr w.heap.size cs 27 ∧ cs.size = P.length * 4) := ⟨hM, hcs⟩
    have HF : Hid (Fill w.heap.size wr w.heap.size P k cs rs) := hF
    clear hM hcs hF hw0
    by_cases hlt : k < P.length
    · have hlt' : (k : Int) < (P.length : Int) := by omega
      obtain ⟨b, off, rfl, hb, ad, cp, hat⟩ := (HR.out.below HB.out).get hlt
      have h2 := hat.c0
      have h3 := hat.c1
      have h4 := hat.c2
      have h5 := hat.c3
      have HC : Hid (∀ y, Below wr.heap.size wr y → Calls Tryz.prog 102 #[.agg #[.slice ad (nthP P k).l.length cp, .int .i64 (nthP P k).s, .int .i64 (nthP P k).e, .string (nthP P k).n]] y fun r w' => (∃ Mx c, r = .returned (.agg #[.slice (some ⟨Mx, 0, none⟩) (nthP P k).l.length c, .int .i64 (nthP P k).s, .int .i64 (nthP P k).e, .string (nthP P k).n]) ∧ LabR.Own y w' Mx (nthP P k).l) ∧ Below y.heap.size y w') := fun y hy => copyI_any _ _ _ _ _ _ y (hat.reads.below hy) (HS.out k hlt)
      clear hat
      go_wp2_with fail
      refine (HC.out _ (Go.Joins.below_alloc1 wr _)).mono ?_
      rintro e w1 ⟨⟨Mx, cx, rfl, hO⟩, hy⟩
      have hz : Below wr.heap.size wr w1 := grow_on (Go.Joins.below_alloc1 wr _) hy
      have HZ : Hid (Below wr.heap.size wr w1) := hz
      have HO : Hid (OwnA w.heap.size w1 (Mx, cx, nthP P k) ∧ wr.heap.size ≤ Mx) := by
        have h1 := hO.1
        have h2 := HB.out.size
        refine ⟨(own_of_copy hO (HS.out k hlt)).down ?_, ?_⟩
        · simp; omega
        · simp at h1; omega
      have hm1 := HM.out.1.grow hz
      obtain ⟨v0, v1, v2, v3, c0, c1, c2, c3⟩ := four_cells hm1 k (by have := HM.out.2; omega)
      have f0 := hm1.frozen (k * 4)
      have f1 := hm1.frozen (k * 4 + 1)
      have f2 := hm1.frozen (k * 4 + 2)
      have f3 := hm1.frozen (k * 4 + 3)
      clear hy hz hO hm1 h2 h3 h4 h5 HC
      go_wp2_with fail
      have HFN : Hid (Fill w.heap.size (put4W w1 w.heap.size k (Mx, cx, nthP P k)) w.heap.size P (k + 1) (put4C cs k (Mx, cx, nthP P k)) (rs ++ [(Mx, cx, nthP P k)])) :=
        (HF.out.moved fun y hy => hy.grow HZ.out).next (HM.out.1.grow HZ.out) HM.out.2 hlt HO.out.1 rfl (fun y hy => by have := (HF.out.rows y hy).lt; have := HO.out.2; show y.1 ≠ Mx; omega)
      have HBN : Hid (Blk (put4W w1 w.heap.size k (Mx, cx, nthP P k)) w.heap.size (put4C cs k (Mx, cx, nthP P k)) 27) := put4W_blk (HM.out.1.grow HZ.out)
      have HLN : Hid (Below w.heap.size w (put4W w1 w.heap.size k (Mx, cx, nthP P k))) := put4W_low (grow_on HB.out HZ.out) (Nat.le_refl _)
      clear c0 c1 c2 c3 f0 f1 f2 f3
      go_roundw
      case rel => exact ⟨k + 1, _, _, by omega, by go_num, HBN.out, by rw [put4_size]; exact HM.out.2, HFN.out, HLN.out⟩
      case measure => simp [intOf]; omega
    · have hge : ¬ (k : Int) < (P.length : Int) := by omega
      have HE : Hid (k = P.length) := by show k = P.length; omega
      go_wp2
      go_ret
      have hf := HF.out
      rw [HE.out] at hf
      obtain ⟨h1, h2⟩ := hf.ab HM.out.1 HM.out.2 (Nat.le_refl _) hl
      exact ⟨⟨w.heap.size, rfl, rs, h1, h2⟩, HB.out⟩
end Go.Proofs.YtgncimlojbnbfaaGreat.ChnC
namespace Go.Proofs.YtgncimlojbnbfaaGreat.Chs
open Go.RowKit
open Labs LabS Alms AlmM Over Blk App Rws ChnI ChnC
structure Moved (w w' : World) : Prop where
  A : ∀ {k : Nat} {cs : Array Value}, Blk w k cs 27 → Blk w' k cs 27
  L : ∀ {k : Nat} {cs : Array Value}, Blk w k cs 99 → Blk w' k cs 99
theorem Moved.trans {a b c : World} (h : Moved a b) (k : Moved b c) : Moved a c := ⟨fun x => k.A (h.A x), fun x => k.L (h.L x)⟩
theorem Moved.of {w w' : World} (h : Below w.heap.size w w') : Moved w w' := ⟨fun x => x.grow h, fun x => x.grow h⟩
theorem Moved.set {w : World} {N : Nat} {cs : Array Value} {T : TypeId} (hN : Blk w N cs T) (hA : T ≠ 27) (hL : T ≠ 99) (i : Nat) (v : Value) : Moved w (w.setCell ⟨N, i, none⟩ v) := by
  have ne : ∀ {k : Nat} {ds : Array Value} {U : TypeId}, Blk w k ds U → T ≠ U → N ≠ k := fun h hU e => by
    subst e
    unfold Blk at h hN
    rw [hN] at h
    injection h with h
    injection h with _ h
    exact hU h
  exact ⟨fun x => x.set_other (ne x hA) _, fun x => x.set_other (ne x hL) _⟩
theorem Moved.far {w w' : World} {N : Nat} {cs : Array Value} {T : TypeId} (hN : Blk w N cs T) (hA : T ≠ 27) (hL : T ≠ 99) (hg : w.grownBy w' (some N)) : Moved w w' := by
  have ne : ∀ {k : Nat} {ds : Array Value} {U : TypeId}, Blk w k ds U → T ≠ U → some k ≠ some N := fun h hU e => by
    injection e with e
    subst e
    unfold Blk at h hN
    rw [hN] at h
    injection h with h
    injection h with _ h
    exact hU h
  exact ⟨fun x => blk_far x hg (ne x hA), fun x => blk_far x hg (ne x hL)⟩
theorem ab_moved {lo : Nat} {w w' : World} {M c : Nat} {rs : List ARow} (h : AB lo w M c rs) (hm : Moved w w') : AB lo w' M c rs := by
  obtain ⟨cur, h1, h2⟩ := h.outer
  refine ⟨h.at', h.cap, ⟨cur, hm.A h1, h2⟩, fun x hx => ?_, h.ne⟩
  obtain ⟨h0, h1, ds, h2, h3⟩ := h.rows x hx
  exact ⟨h0, h1, ds, hm.L h2, h3⟩
end Go.Proofs.YtgncimlojbnbfaaGreat.Chs
namespace Go.Proofs.YtgncimlojbnbfaaGreat.DrawC
open Go.RowKit
open Labs LabS Alms AlmM Over Blk App Rws ChnI ChnC
theorem own_set {lo : Nat} {w : World} {x : ARow} {A : Nat} (h : OwnA lo w x) (hne : A ≠ x.1) (i : Nat) (v : Value) : OwnA lo (w.setCell ⟨A, i, none⟩ v) x := by
  obtain ⟨h1, h2, ds, hb, h3⟩ := h
  exact ⟨h1, h2, ds, hb.set_other hne v, h3⟩
theorem ab_under {lo : Nat} {w : World} {A M cap : Nat} {rs : List ARow} (h : AB lo w M cap rs) (hA : A < lo) (i : Nat) (v : Value) : AB lo (w.setCell ⟨A, i, none⟩ v) M cap rs := by
  obtain ⟨cur, h1, h2⟩ := h.outer
  exact ⟨h.at', h.cap, ⟨cur, h1.set_other (by have := h.at'; show A ≠ M; omega) v, h2⟩, fun x hx => own_set (h.rows x hx) (by have := (h.rows x hx).1; omega) i v, h.ne⟩
end Go.Proofs.YtgncimlojbnbfaaGreat.DrawC
