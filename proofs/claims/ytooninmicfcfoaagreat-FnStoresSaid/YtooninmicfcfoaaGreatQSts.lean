/-
  PROVED: the marks that markChainS and markPart write lie in the chains' own memory alone, and heldChainS and heldPart find them.
  PROVED: slices of parts: what one that came in is; the size that szPartS counts, the copy that toPartS makes, that eqPartS finds two of the same alike; rows of parts in memory of a call's own, read, filled in turn, written at a place.
-/
import Derived.Test.YtooninmicfcfoaaGreatQPrt
set_option linter.unusedVariables false
namespace Go.Proofs.YtooninmicfcfoaaGreat.PrtM
open Go.RowKit
open Labs LabS Alms AlmM Over Blk App Rws ChnI ChnC ChnP ChnK Chs Prt

def blksC (M : Nat) (cs : List CRow) (k : Nat) : Prop := k = M ∨ ∃ x ∈ cs, blks x.M x.rs k
theorem blksC_low {lo : Nat} {w : World} {M c : Nat} {cs : List CRow} (h : CB lo w M c cs) (k : Nat) (hk : blksC M cs k) : lo ≤ k := by
  rcases hk with rfl | ⟨x, hx, hk⟩
  · exact h.at'
  · exact blks_low (h.rows.rows x hx) k hk
theorem blksC_high {lo : Nat} {w : World} {M c : Nat} {cs : List CRow} (h : CB lo w M c cs) (k : Nat) (hk : blksC M cs k) : k < w.heap.size := by
  rcases hk with rfl | ⟨x, hx, hk⟩
  · exact h.lt
  · exact blks_high (h.rows.rows x hx) k hk
theorem cb_only {S : Nat → Prop} {lo : Nat} {w w' : World} {M c : Nat} {cs : List CRow} (h : CB lo w M c cs) (ho : Only S w w') (hn : ∀ k, blksC M cs k → ¬ S k) : CB lo w' M c cs := by
  obtain ⟨cur, h1, h2⟩ := h.outer
  exact ⟨h.at', h.cap, ⟨cur, ho.blk h1 (hn _ (.inl rfl)), h2⟩, ⟨fun x hx => ab_only (h.rows.rows x hx) ho fun k hk => hn k (.inr ⟨x, hx, hk⟩), h.rows.ne⟩⟩
end Go.Proofs.YtooninmicfcfoaaGreat.PrtM
namespace Go.Proofs.YtooninmicfcfoaaGreat.Sts
open Go.RowKit
open Go.ChangeShapes Go.WideShapes
open Labs LabS Alms AlmS AlmM Over Blk App Rws ChnI ChnC ChnP ChnK Chs Prt PrtM
open StrB (retB)

structure PPt where
  hd : Int
  vr : Int
  C : List PCh
def nthT (S : List PPt) (i : Nat) : PPt := S.getD i ⟨0, 0, []⟩
theorem nthT_eq {S : List PPt} {i : Nat} (h : i < S.length) : nthT S i = S[i] := by unfold nthT; simp [h]
theorem nthT_mem {S : List PPt} {i : Nat} (h : i < S.length) : nthT S i ∈ S := by rw [nthT_eq h]; exact List.getElem_mem _
theorem takeT_up {S : List PPt} {k : Nat} (h : k < S.length) : S.take (k + 1) = S.take k ++ [nthT S k] := by
  rw [nthT_eq h, List.take_succ_eq_append_getElem h]
structure AtP (R : World → Option Addr → List PAl → Prop) (w : World) (b off i : Nat) (x : PPt) (ad : Option Addr) (cap : Nat) : Prop where
  c0 : w.cell? ⟨b, off + i * 3, none⟩ = some (.int .i64 x.hd)
  c1 : w.cell? ⟨b, off + i * 3 + 1, none⟩ = some (.int .i64 x.vr)
  c2 : w.cell? ⟨b, off + i * 3 + 2, none⟩ = some (.slice ad x.C.length cap)
  reads : RdG R w ad x.C
theorem AtP.below {R : World → Option Addr → List PAl → Prop} (hR : Stays R) {w w' : World} {b off i : Nat} {x : PPt} {ad : Option Addr} {cap : Nat} (h : AtP R w b off i x ad cap) (hb : Below w.heap.size w w') (hlt : b < w.heap.size) : AtP R w' b off i x ad cap :=
  ⟨(hb.cell (p := ⟨b, off + i * 3, none⟩) hlt).trans h.c0, (hb.cell (p := ⟨b, off + i * 3 + 1, none⟩) hlt).trans h.c1, (hb.cell (p := ⟨b, off + i * 3 + 2, none⟩) hlt).trans h.c2, h.reads.below hR hb⟩
def RdS (R : World → Option Addr → List PAl → Prop) (w : World) (a : Option Addr) (S : List PPt) : Prop :=
  S = [] ∨ ∃ b off, a = some ⟨b, off, none⟩ ∧ b < w.heap.size ∧ ∀ i, i < S.length → ∃ ad cap, AtP R w b off i (nthT S i) ad cap
theorem RdS.below {R : World → Option Addr → List PAl → Prop} (hR : Stays R) {w w' : World} {a : Option Addr} {S : List PPt} (h : RdS R w a S) (hb : Below w.heap.size w w') : RdS R w' a S := by
  rcases h with h | ⟨b, off, rfl, hlt, hc⟩
  · exact .inl h
  · exact .inr ⟨b, off, rfl, Nat.lt_of_lt_of_le hlt hb.size, fun i hi => by
      obtain ⟨ad, cap, h⟩ := hc i hi
      exact ⟨ad, cap, h.below hR hb hlt⟩⟩
theorem RdS.get {R : World → Option Addr → List PAl → Prop} {w : World} {a : Option Addr} {S : List PPt} (h : RdS R w a S) {i : Nat} (hi : i < S.length) :
    ∃ b off, a = some ⟨b, off, none⟩ ∧ b < w.heap.size ∧ ∃ ad cap, AtP R w b off i (nthT S i) ad cap := by
  rcases h with h | ⟨b, off, e, hb, h⟩
  · rw [h] at hi; simp at hi
  · exact ⟨b, off, e, hb, h i hi⟩
theorem RdS.rd {w : World} {a : Option Addr} {S : List PPt} (h : RdS RdN w a S) : RdS RdA w a S := by
  rcases h with h | ⟨b, off, e, hb, h⟩
  · exact .inl h
  · exact .inr ⟨b, off, e, hb, fun i hi => by obtain ⟨ad, cap, h⟩ := h i hi; exact ⟨ad, cap, h.c0, h.c1, h.c2, h.reads.rd⟩⟩
structure FitT (x : PPt) : Prop where
  hb : I64 x.hd
  vb : I64 x.vr
  len : x.C.length ≤ maxLen
  fits : FitsC x.C
def FitsT (S : List PPt) : Prop := ∀ x ∈ S, FitT x
def sumT : List PPt → Nat
  | [] => 0
  | x :: S => x.C.length + sumC x.C + sumT S
theorem sumT_app (p q : List PPt) : sumT (p ++ q) = sumT p + sumT q := by
  induction p with
  | nil => simp [sumT]
  | cons x p ih => rw [List.cons_append, sumT, ih, sumT]; omega
theorem sumT_le (S : List PPt) (k : Nat) : sumT (S.take k) ≤ sumT S := by
  have := sumT_app (S.take k) (S.drop k)
  rw [List.take_append_drop] at this
  omega
theorem sumT_mem {S : List PPt} {x : PPt} (h : x ∈ S) : x.C.length + sumC x.C ≤ sumT S := by
  induction S with
  | nil => simp at h
  | cons y S ih =>
    rw [sumT]
    rcases List.mem_cons.1 h with rfl | h
    · omega
    · have := ih h; omega
theorem sumT_nth {S : List PPt} {k : Nat} (h : k < S.length) : (nthT S k).C.length + sumC (nthT S k).C ≤ sumT S := sumT_mem (nthT_mem h)
theorem small_of {C : List PCh} (h : sumC C ≤ 1048576) : ∀ x ∈ C, x.P.length ≤ 1048576 ∧ LenM x.P := fun x hx => by
  have := sumC_mem hx
  exact ⟨by omega, lenM_of (by omega)⟩

theorem infoP : (Tryz.prog.info? 26).map (fun i => (i.zero, i.size, i.bytes)) = some (some (.agg #[.int .i64 0, .int .i64 0, .slice none 0 0]), 3, 40) := by kernel_rfl

structure PRow where
  hd : Int
  vr : Int
  a : Option Addr
  c : Nat
  cs : List CRow
def PRow.pt (x : PRow) : PPt := ⟨x.hd, x.vr, chs x.cs⟩
def pts (ps : List PRow) : List PPt := ps.map PRow.pt
def nthQ (ps : List PRow) (i : Nat) : PRow := ps.getD i ⟨0, 0, none, 0, []⟩
theorem nthQ_eq {ps : List PRow} {i : Nat} (h : i < ps.length) : nthQ ps i = ps[i] := by unfold nthQ; simp [h]
theorem nthQ_mem {ps : List PRow} {i : Nat} (h : i < ps.length) : nthQ ps i ∈ ps := by rw [nthQ_eq h]; exact List.getElem_mem _
theorem pts_len (ps : List PRow) : (pts ps).length = ps.length := by simp [pts]
theorem pts_nth {ps : List PRow} {i : Nat} (h : i < ps.length) : nthT (pts ps) i = (nthQ ps i).pt := by
  rw [nthT_eq (by rw [pts_len]; exact h), nthQ_eq h]
  simp [pts]
theorem pts_app (ps : List PRow) (x : PRow) : pts (ps ++ [x]) = pts ps ++ [x.pt] := by simp [pts]
theorem nthQ_app_lt {ps : List PRow} {x : PRow} {i : Nat} (h : i < ps.length) : nthQ (ps ++ [x]) i = nthQ ps i := by
  rw [nthQ_eq (by simp; omega), nthQ_eq h, List.getElem_append_left h]
theorem nthQ_app_eq (ps : List PRow) (x : PRow) : nthQ (ps ++ [x]) ps.length = x := by
  rw [nthQ_eq (by simp)]; simp
def Cel3 (f : Nat → Option Value) (i : Nat) (x : PRow) : Prop := f (i * 3) = some (.int .i64 x.hd) ∧ f (i * 3 + 1) = some (.int .i64 x.vr) ∧ f (i * 3 + 2) = some (.slice x.a x.cs.length x.c)
theorem Cel3.congr {f g : Nat → Option Value} {i : Nat} {x : PRow} (h : Cel3 f i x) (e : ∀ k, i * 3 ≤ k → k < i * 3 + 3 → g k = f k) : Cel3 g i x :=
  ⟨by rw [e _ (by omega) (by omega)]; exact h.1, by rw [e _ (by omega) (by omega)]; exact h.2.1, by rw [e _ (by omega) (by omega)]; exact h.2.2⟩
def rowP (x : PRow) : List Value := [.int .i64 x.hd, .int .i64 x.vr, .slice x.a x.cs.length x.c]
theorem rowP_one (x : PRow) : ∀ v ∈ rowP x, v.oneCell' = true := fun v hv => by
  simp only [rowP, List.mem_cons, List.not_mem_nil, or_false] at hv
  rcases hv with rfl | rfl | rfl <;> rfl
def PO (lo : Nat) (w : World) (a : Option Addr) (cap : Nat) (cs : List CRow) : Prop := (a = none ∧ cap = 0 ∧ cs = []) ∨ ∃ M, a = some ⟨M, 0, none⟩ ∧ CB lo w M cap cs
theorem PO.grow {lo : Nat} {w w' : World} {a : Option Addr} {cap : Nat} {cs : List CRow} (h : PO lo w a cap cs) (hb : Below w.heap.size w w') : PO lo w' a cap cs := h.imp id fun ⟨M, e, k⟩ => ⟨M, e, k.grow hb⟩
theorem PO.down {lo lo' : Nat} {w : World} {a : Option Addr} {cap : Nat} {cs : List CRow} (h : PO lo w a cap cs) (hl : lo' ≤ lo) : PO lo' w a cap cs := h.imp id fun ⟨M, e, k⟩ => ⟨M, e, k.down hl⟩
theorem PO.rn {lo : Nat} {w : World} {a : Option Addr} {cap : Nat} {cs : List CRow} (h : PO lo w a cap cs) : RdG RdN w a (chs cs) := by
  rcases h with ⟨_, _, e⟩ | ⟨M, e, k⟩
  · exact .inl (by rw [e]; rfl)
  · rw [e]; exact k.rn
theorem PO.of {lo : Nat} {w : World} {M cap : Nat} {cs : List CRow} (h : CB lo w M cap cs) : PO lo w (some ⟨M, 0, none⟩) cap cs := .inr ⟨M, rfl, h⟩
structure MovedP (w w' : World) : Prop where
  C : ∀ {k : Nat} {cs : Array Value}, Blk w k cs 96 → Blk w' k cs 96
  M : Moved w w'
theorem MovedP.trans {a b c : World} (h : MovedP a b) (k : MovedP b c) : MovedP a c := ⟨fun x => k.C (h.C x), h.M.trans k.M⟩
theorem MovedP.set {w : World} {N : Nat} {cs : Array Value} (hN : Blk w N cs 26) (i : Nat) (v : Value) : MovedP w (w.setCell ⟨N, i, none⟩ v) :=
  ⟨fun x => x.set_other (blkT_ne hN x (by decide)) _, Moved.set hN (by decide) (by decide) i v⟩
theorem MovedP.far {w w' : World} {N : Nat} {cs : Array Value} (hN : Blk w N cs 26) (hg : w.grownBy w' (some N)) : MovedP w w' :=
  ⟨fun x => blk_far x hg (fun e => blkT_ne x hN (by decide) (Option.some.inj e)), Moved.far hN (by decide) (by decide) hg⟩
theorem cb_moved {lo : Nat} {w w' : World} {M c : Nat} {cs : List CRow} (h : CB lo w M c cs) (hm : MovedP w w') : CB lo w' M c cs := by
  obtain ⟨cur, h1, h2⟩ := h.outer
  exact ⟨h.at', h.cap, ⟨cur, hm.C h1, h2⟩, h.rows.moved hm.M⟩
theorem PO.moved {lo : Nat} {w w' : World} {a : Option Addr} {cap : Nat} {cs : List CRow} (h : PO lo w a cap cs) (hm : MovedP w w') : PO lo w' a cap cs := h.imp id fun ⟨M, e, k⟩ => ⟨M, e, cb_moved k hm⟩
structure PB (lo : Nat) (w : World) (M c : Nat) (ps : List PRow) : Prop where
  at' : lo ≤ M
  cap : ps.length ≤ c ∧ c ≤ maxLen
  outer : ∃ cur : Array Value, Blk w M cur 26 ∧ cur.size = c * 3 ∧ ∀ i, i < ps.length → Cel3 (fun k => cur[k]?) i (nthQ ps i)
  rows : ∀ x ∈ ps, PO lo w x.a x.c x.cs
theorem PB.grow {lo : Nat} {w w' : World} {M c : Nat} {ps : List PRow} (h : PB lo w M c ps) (hb : Below w.heap.size w w') : PB lo w' M c ps := by
  obtain ⟨cur, h1, h2⟩ := h.outer
  exact ⟨h.at', h.cap, ⟨cur, h1.grow hb, h2⟩, fun x hx => (h.rows x hx).grow hb⟩
theorem PB.down {lo lo' : Nat} {w : World} {M c : Nat} {ps : List PRow} (h : PB lo w M c ps) (hl : lo' ≤ lo) : PB lo' w M c ps := ⟨Nat.le_trans hl h.at', h.cap, h.outer, fun x hx => (h.rows x hx).down hl⟩
theorem PB.lt {lo : Nat} {w : World} {M c : Nat} {ps : List PRow} (h : PB lo w M c ps) : M < w.heap.size := by
  obtain ⟨cur, h1, _⟩ := h.outer
  exact h1.lt
theorem PB.nil {lo : Nat} {w : World} {M : Nat} (h : Blk w M #[] 26) (hl : lo ≤ M) : PB lo w M 0 [] :=
  ⟨hl, ⟨Nat.le_refl _, by simp [maxLen]⟩, ⟨#[], h, rfl, fun i hi => by simp at hi⟩, fun x hx => by simp at hx⟩
theorem PB.rn {lo : Nat} {w : World} {M c : Nat} {ps : List PRow} (h : PB lo w M c ps) : RdS RdN w (some ⟨M, 0, none⟩) (pts ps) := by
  obtain ⟨cur, h1, h2, h3⟩ := h.outer
  refine .inr ⟨M, 0, rfl, h1.lt, fun i hi => ?_⟩
  rw [pts_len] at hi
  obtain ⟨c0, c1, c2⟩ := h3 i hi
  refine ⟨(nthQ ps i).a, (nthQ ps i).c, ?_⟩
  rw [pts_nth hi]
  exact ⟨by rw [h1.cell, Nat.zero_add]; exact c0, by rw [h1.cell, Nat.zero_add]; exact c1, by rw [h1.cell, Nat.zero_add]; unfold PRow.pt; rw [chs_len]; exact c2, (h.rows _ (nthQ_mem hi)).rn⟩
theorem PB.rd {lo : Nat} {w : World} {M c : Nat} {ps : List PRow} (h : PB lo w M c ps) : RdS RdA w (some ⟨M, 0, none⟩) (pts ps) := h.rn.rd
theorem PB.own {lo : Nat} {w : World} {M c : Nat} {ps : List PRow} (h : PB lo w M c ps) : ∃ xs : List Value, w.ownsRow lo 26 3 (.slice (some ⟨M, 0, none⟩) ps.length c) ps.length xs ∧ xs.length = ps.length * 3 ∧ ∀ i, i < ps.length → Cel3 (fun k => xs[k]?) i (nthQ ps i) := by
  obtain ⟨cur, h1, h2, h3⟩ := h.outer
  have hc := h.cap
  have hlen : (cur.toList.take (ps.length * 3)).length = ps.length * 3 := by simp; omega
  refine ⟨cur.toList.take (ps.length * 3), ⟨hlen, .inr ⟨M, c, cur, rfl, h.at', h1, hc.1, hc.2, h2, rfl⟩⟩, hlen, fun i hi => ?_⟩
  refine (h3 i hi).congr fun k _ hk => ?_
  show (cur.toList.take _)[k]? = cur[k]?
  rw [List.getElem?_take_of_lt (by omega)]
  simp
theorem PB.app {lo : Nat} {W w' : World} {M c : Nat} {ps : List PRow} {x : PRow} {xs : List Value} {v' : Value} (h : PB lo W M c ps) (hx : PO lo W x.a x.c x.cs) (hl : xs.length = ps.length * 3) (hxs : ∀ i, i < ps.length → Cel3 (fun k => xs[k]?) i (nthQ ps i))
    (hown : w'.ownsRow lo 26 3 v' (ps.length + 1) (xs ++ rowP x)) (hg : W.grownBy w' (some M)) : ∃ M' c', v' = .slice (some ⟨M', 0, none⟩) (ps.length + 1) c' ∧ PB lo w' M' c' (ps ++ [x]) := by
  rcases hown.2 with ⟨_, e⟩ | ⟨g, cap, cur, e, hb, hgb, hc, hm, hz, ht⟩
  · omega
  · obtain ⟨cu0, hcu0, _⟩ := h.outer
    have hmv : MovedP W w' := MovedP.far hcu0 hg
    refine ⟨g, cap, e, hb, ⟨by simp; omega, hm⟩, ⟨cur, hgb, hz, fun i hi => ?_⟩, fun y hy => ?_⟩
    · have at' : ∀ k, k < (ps.length + 1) * 3 → cur[k]? = (xs ++ rowP x)[k]? := fun k hk => by
        rw [← ht, List.getElem?_take_of_lt hk]; simp
      simp at hi
      by_cases hlt : i < ps.length
      · rw [nthQ_app_lt hlt]
        refine (hxs i hlt).congr fun k _ hk => ?_
        show cur[k]? = xs[k]?
        rw [at' k (by omega), List.getElem?_append_left (by omega)]
      · have ei : i = ps.length := by omega
        subst ei
        rw [nthQ_app_eq]
        have hr : ∀ j, j < 3 → cur[ps.length * 3 + j]? = (rowP x)[j]? := fun j hj => by
          rw [at' _ (by omega), List.getElem?_append_right (by omega), hl]
          congr 1; omega
        exact ⟨hr 0 (by omega), hr 1 (by omega), hr 2 (by omega)⟩
    · rcases List.mem_append.1 hy with hy | hy
      · exact (h.rows y hy).moved hmv
      · rw [List.mem_singleton.1 hy]; exact hx.moved hmv
def put3C (cs : Array Value) (k : Nat) (x : PRow) : Array Value := ((cs.setIfInBounds (k * 3) (.int .i64 x.hd)).setIfInBounds (k * 3 + 1) (.int .i64 x.vr)).setIfInBounds (k * 3 + 2) (.slice x.a x.cs.length x.c)
def put3W (w : World) (M k : Nat) (x : PRow) : World := ((w.setCell ⟨M, k * 3, none⟩ (.int .i64 x.hd)).setCell ⟨M, k * 3 + 1, none⟩ (.int .i64 x.vr)).setCell ⟨M, k * 3 + 2, none⟩ (.slice x.a x.cs.length x.c)
theorem put3_at {cs : Array Value} {k : Nat} {x : PRow} (h : k * 3 + 2 < cs.size) : Cel3 (fun j => (put3C cs k x)[j]?) k x := by
  unfold put3C
  exact ⟨by show (Array.setIfInBounds _ _ _)[_]? = _; rw [set_ne (by omega), set_ne (by omega), set_at (by omega)], by show (Array.setIfInBounds _ _ _)[_]? = _; rw [set_ne (by omega), set_at (by simp; omega)], by show (Array.setIfInBounds _ _ _)[_]? = _; rw [set_at (by simp; omega)]⟩
theorem put3_ne {cs : Array Value} {k j : Nat} {x : PRow} (h : j < k * 3 ∨ k * 3 + 3 ≤ j) : (put3C cs k x)[j]? = cs[j]? := by
  unfold put3C
  rw [set_ne (by omega), set_ne (by omega), set_ne (by omega)]
theorem put3_size (cs : Array Value) (k : Nat) (x : PRow) : (put3C cs k x).size = cs.size := by simp [put3C]
theorem put3W_blk {w : World} {M k : Nat} {x : PRow} {cs : Array Value} {T : TypeId} (h : Blk w M cs T) : Blk (put3W w M k x) M (put3C cs k x) T := ((h.set _ _).set _ _).set _ _
theorem put3W_low {w w' : World} {B M k : Nat} {x : PRow} (h : Below B w w') (hM : B ≤ M) : Below B w (put3W w' M k x) := ((h.setCell hM _).setCell hM _).setCell hM _
theorem put3W_moved {w : World} {M k : Nat} {x : PRow} {cs : Array Value} (h : Blk w M cs 26) : MovedP w (put3W w M k x) := ((MovedP.set h _ _).trans (MovedP.set (h.set _ _) _ _)).trans (MovedP.set ((h.set _ _).set _ _) _ _)
theorem nthQ_put {ps : List PRow} {k i : Nat} {x : PRow} (hi : i < ps.length) : nthQ (ps.set k x) i = if i = k then x else nthQ ps i := by
  rw [nthQ_eq (by simpa using hi), nthQ_eq hi, List.getElem_set]
  by_cases e : k = i
  · subst e; simp
  · rw [if_neg e, if_neg (fun h => e h.symm)]
theorem PB.put {lo : Nat} {w : World} {M c k : Nat} {ps : List PRow} {x : PRow} (h : PB lo w M c ps) (hk : k < ps.length) (hx : PO lo w x.a x.c x.cs) : PB lo (put3W w M k x) M c (ps.set k x) := by
  obtain ⟨cur, h1, h2, h3⟩ := h.outer
  have hc := h.cap
  have hmv := put3W_moved (k := k) (x := x) h1
  refine ⟨h.at', by simpa using hc, ⟨put3C cur k x, put3W_blk h1, by rw [put3_size]; exact h2, fun i hi => ?_⟩, fun y hy => ?_⟩
  · rw [List.length_set] at hi
    rw [nthQ_put hi]
    by_cases e : i = k
    · subst e
      rw [if_pos rfl]
      exact put3_at (by omega)
    · rw [if_neg e]
      exact (h3 i hi).congr fun j h0 h1 => put3_ne (by omega)
  · rcases List.mem_or_eq_of_mem_set hy with hy | hy
    · exact (h.rows y hy).moved hmv
    · subst hy; exact hx.moved hmv
def blksP (x : PRow) (k : Nat) : Prop := ∃ M, x.a = some ⟨M, 0, none⟩ ∧ blksC M x.cs k
theorem blksP_low {lo : Nat} {w : World} {x : PRow} (h : PO lo w x.a x.c x.cs) (k : Nat) (hk : blksP x k) : lo ≤ k := by
  obtain ⟨M, e, hk⟩ := hk
  rcases h with ⟨e', _⟩ | ⟨M', e', h⟩
  · rw [e'] at e; cases e
  · rw [e'] at e; cases e; exact blksC_low h k hk
theorem blksP_high {lo : Nat} {w : World} {x : PRow} (h : PO lo w x.a x.c x.cs) (k : Nat) (hk : blksP x k) : k < w.heap.size := by
  obtain ⟨M, e, hk⟩ := hk
  rcases h with ⟨e', _⟩ | ⟨M', e', h⟩
  · rw [e'] at e; cases e
  · rw [e'] at e; cases e; exact blksC_high h k hk
structure Own8 (ps : List PRow) : Prop where
  ne : ps.Pairwise fun x y => ∀ k, blksP x k → ¬ blksP y k
  full : ∀ x ∈ ps, ∃ M, x.a = some ⟨M, 0, none⟩
theorem Own8.nil : Own8 [] := ⟨List.Pairwise.nil, fun x hx => by simp at hx⟩
theorem Own8.app {ps : List PRow} {x : PRow} (h : Own8 ps) (hx : ∃ M, x.a = some ⟨M, 0, none⟩) (hne : ∀ y ∈ ps, ∀ k, blksP y k → ¬ blksP x k) : Own8 (ps ++ [x]) := by
  refine ⟨?_, fun y hy => ?_⟩
  · rw [List.pairwise_append]
    exact ⟨h.ne, List.pairwise_singleton _ _, fun a ha b hb => by rw [List.mem_singleton.1 hb]; exact hne a ha⟩
  · rcases List.mem_append.1 hy with hy | hy
    · exact h.full y hy
    · rw [List.mem_singleton.1 hy]; exact hx
theorem Own8.put {ps : List PRow} {x : PRow} {k : Nat} (h : Own8 ps) (hx : ∃ M, x.a = some ⟨M, 0, none⟩) (hne : ∀ y ∈ ps, ∀ k, blksP y k → ¬ blksP x k) : Own8 (ps.set k x) := by
  refine ⟨?_, fun y hy => ?_⟩
  · have hp := h.ne
    rw [List.pairwise_iff_getElem] at hp ⊢
    intro i j hi hj hij
    simp only [List.length_set] at hi hj
    rw [List.getElem_set, List.getElem_set]
    by_cases e1 : k = i
    · rw [if_pos e1, if_neg (by omega)]
      exact fun q h1 h2 => hne _ (List.getElem_mem hj) q h2 h1
    · rw [if_neg e1]
      by_cases e2 : k = j
      · rw [if_pos e2]; exact hne _ (List.getElem_mem hi)
      · rw [if_neg e2]; exact hp i j hi hj hij
  · rcases List.mem_or_eq_of_mem_set hy with hy | hy
    · exact h.full y hy
    · subst hy; exact hx
theorem fresh8 {lo B : Nat} {w w' : World} {ps : List PRow} {x : PRow} (h : ∀ y ∈ ps, PO lo w y.a y.c y.cs) (hx : PO B w' x.a x.c x.cs) (hB : w.heap.size ≤ B) : ∀ y ∈ ps, ∀ k, blksP y k → ¬ blksP x k := fun y hy k h1 h2 => by
  have := blksP_high (h y hy) k h1
  have := blksP_low hx k h2
  omega

structure FillP (lo : Nat) (w : World) (M : Nat) (S : List PPt) (k : Nat) (cur : Array Value) (ps : List PRow) : Prop where
  blk : Blk w M cur 26
  size : cur.size = S.length * 3
  len : ps.length = k
  pt : pts ps = S.take k
  cell : ∀ i, i < k → Cel3 (fun j => cur[j]?) i (nthQ ps i)
  rows : ∀ x ∈ ps, PO lo w x.a x.c x.cs
  own : Own8 ps
theorem FillP.grow {lo : Nat} {w w' : World} {M : Nat} {S : List PPt} {k : Nat} {cur : Array Value} {ps : List PRow} (h : FillP lo w M S k cur ps) (hb : Below w.heap.size w w') : FillP lo w' M S k cur ps :=
  ⟨h.blk.grow hb, h.size, h.len, h.pt, h.cell, fun x hx => (h.rows x hx).grow hb, h.own⟩
theorem FillP.next {lo : Nat} {w : World} {M : Nat} {S : List PPt} {k : Nat} {cur : Array Value} {ps : List PRow} {x : PRow} (h : FillP lo w M S k cur ps) (hk : k < S.length) (hx : PO lo w x.a x.c x.cs) (hp : x.pt = nthT S k) (hf : ∃ M, x.a = some ⟨M, 0, none⟩) (hne : ∀ y ∈ ps, ∀ k, blksP y k → ¬ blksP x k) :
    FillP lo (put3W w M k x) M S (k + 1) (put3C cur k x) (ps ++ [x]) := by
  have hl := h.len
  have hs := h.size
  have hmv := put3W_moved (k := k) (x := x) h.blk
  refine ⟨put3W_blk h.blk, by rw [put3_size]; exact hs, by simp [hl], by rw [pts_app, h.pt, takeT_up hk, hp], fun i hi => ?_, fun y hy => ?_, h.own.app hf hne⟩
  · by_cases e : i < k
    · rw [nthQ_app_lt (by omega)]
      exact (h.cell i e).congr fun j h0 h1 => put3_ne (by omega)
    · have : i = ps.length := by omega
      subst this
      rw [nthQ_app_eq, hl]
      exact put3_at (by omega)
  · rcases List.mem_append.1 hy with hy | hy
    · exact (h.rows y hy).moved hmv
    · rw [List.mem_singleton.1 hy]; exact hx.moved hmv
theorem FillP.pb {lo : Nat} {w : World} {M : Nat} {S : List PPt} {cur : Array Value} {ps : List PRow} (h : FillP lo w M S S.length cur ps) (hlo : lo ≤ M) (hl : S.length ≤ 1048576) : PB lo w M S.length ps ∧ pts ps = S ∧ Own8 ps :=
  ⟨⟨hlo, ⟨by rw [h.len]; exact Nat.le_refl _, by unfold maxLen; omega⟩, ⟨cur, h.blk, h.size, fun i hi => h.cell i (by rw [← h.len]; exact hi)⟩, h.rows⟩, by rw [h.pt]; exact List.take_length, h.own⟩

end Go.Proofs.YtooninmicfcfoaaGreat.Sts
