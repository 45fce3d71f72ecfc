/-
  PROVED: slices of groups: what one that came in is; the size that szGroupS counts, the copy that toGroupS makes, that eqGroupS finds two of the same alike; rows of groups in memory of a call's own, read, grown by an append, filled.
-/
import Derived.Test.YtgncimlojbnbfaaGreatQGrp
set_option linter.unusedVariables false
namespace Go.Proofs.YtgncimlojbnbfaaGreat.Gps
open Go.RowKit
open Go.ChangeShapes Go.WideShapes
open Labs LabS Alms AlmM Over Blk App Rws ChnI ChnC ChnK Chs Grp
open StrB (retB)
open LabT (Fits)

structure PGr where
  n : Int
  key : List Lab
  b : Int
  t : Int
  P : List PAl
def nthG (U : List PGr) (i : Nat) : PGr := U.getD i ⟨0, [], 0, 0, []⟩
theorem nthG_eq {U : List PGr} {i : Nat} (h : i < U.length) : nthG U i = U[i] := by unfold nthG; simp [h]
theorem nthG_mem {U : List PGr} {i : Nat} (h : i < U.length) : nthG U i ∈ U := by rw [nthG_eq h]; exact List.getElem_mem _
theorem takeG_up {U : List PGr} {k : Nat} (h : k < U.length) : U.take (k + 1) = U.take k ++ [nthG U k] := by rw [nthG_eq h, List.take_succ_eq_append_getElem h]
abbrev How := World → Option Addr → List Lab → Option Addr → Nat → List PAl → Prop
def StaysG (R : How) : Prop := ∀ w w' ka key a cap P, R w ka key a cap P → Below w.heap.size w w' → R w' ka key a cap P
def GA (w : World) (ka : Option Addr) (key : List Lab) (a : Option Addr) (cap : Nat) (P : List PAl) : Prop := Reads w ka key ∧ RdA w a P
def GN (w : World) (ka : Option Addr) (key : List Lab) (a : Option Addr) (cap : Nat) (P : List PAl) : Prop := (∃ g o, ka = some ⟨g, o, none⟩) ∧ (∃ g o, a = some ⟨g, o, none⟩) ∧ (P.length ≤ cap ∧ cap ≤ maxLen) ∧ Reads w ka key ∧ RdN w a P
theorem stays_ga : StaysG GA := fun _ _ _ _ _ _ _ h hb => ⟨h.1.below hb, h.2.below hb⟩
theorem stays_gn : StaysG GN := fun _ _ _ _ _ _ _ h hb => ⟨h.1, h.2.1, h.2.2.1, h.2.2.2.1.below hb, h.2.2.2.2.below hb⟩
structure AtG (R : How) (w : World) (b off i : Nat) (x : PGr) (ka : Option Addr) (kc : Nat) (ad : Option Addr) (cap : Nat) : Prop where
  c0 : w.cell? ⟨b, off + i * 5, none⟩ = some (.int .i64 x.n)
  c1 : w.cell? ⟨b, off + i * 5 + 1, none⟩ = some (.slice ka x.key.length kc)
  c2 : w.cell? ⟨b, off + i * 5 + 2, none⟩ = some (.int .i64 x.b)
  c3 : w.cell? ⟨b, off + i * 5 + 3, none⟩ = some (.int .i64 x.t)
  c4 : w.cell? ⟨b, off + i * 5 + 4, none⟩ = some (.slice ad x.P.length cap)
  reads : R w ka x.key ad cap x.P
theorem AtG.below {R : How} (hR : StaysG R) {w w' : World} {b off i : Nat} {x : PGr} {ka : Option Addr} {kc : Nat} {ad : Option Addr} {cap : Nat} (h : AtG R w b off i x ka kc ad cap) (hb : Below w.heap.size w w') (hlt : b < w.heap.size) : AtG R w' b off i x ka kc ad cap :=
  ⟨(hb.cell (p := ⟨b, off + i * 5, none⟩) hlt).trans h.c0, (hb.cell (p := ⟨b, off + i * 5 + 1, none⟩) hlt).trans h.c1, (hb.cell (p := ⟨b, off + i * 5 + 2, none⟩) hlt).trans h.c2, (hb.cell (p := ⟨b, off + i * 5 + 3, none⟩) hlt).trans h.c3, (hb.cell (p := ⟨b, off + i * 5 + 4, none⟩) hlt).trans h.c4, hR _ _ _ _ _ _ _ h.reads hb⟩
def RdGs (R : How) (w : World) (a : Option Addr) (U : List PGr) : Prop :=
  U = [] ∨ ∃ b off, a = some ⟨b, off, none⟩ ∧ b < w.heap.size ∧ ∀ i, i < U.length → ∃ ka kc ad cap, AtG R w b off i (nthG U i) ka kc ad cap
theorem RdGs.below {R : How} (hR : StaysG R) {w w' : World} {a : Option Addr} {U : List PGr} (h : RdGs R w a U) (hb : Below w.heap.size w w') : RdGs R w' a U := by
  rcases h with h | ⟨b, off, rfl, hlt, hc⟩
  · exact .inl h
  · exact .inr ⟨b, off, rfl, Nat.lt_of_lt_of_le hlt hb.size, fun i hi => by
      obtain ⟨ka, kc, ad, cap, h⟩ := hc i hi
      exact ⟨ka, kc, ad, cap, h.below hR hb hlt⟩⟩
theorem RdGs.get {R : How} {w : World} {a : Option Addr} {U : List PGr} (h : RdGs R w a U) {i : Nat} (hi : i < U.length) :
    ∃ b off, a = some ⟨b, off, none⟩ ∧ b < w.heap.size ∧ ∃ ka kc ad cap, AtG R w b off i (nthG U i) ka kc ad cap := by
  rcases h with h | ⟨b, off, e, hb, h⟩
  · rw [h] at hi; simp at hi
  · exact ⟨b, off, e, hb, h i hi⟩
theorem RdGs.rd {w : World} {a : Option Addr} {U : List PGr} (h : RdGs GN w a U) : RdGs GA w a U := by
  rcases h with h | ⟨b, off, e, hb, hc⟩
  · exact .inl h
  · exact .inr ⟨b, off, e, hb, fun i hi => by obtain ⟨ka, kc, ad, cap, h⟩ := hc i hi; exact ⟨ka, kc, ad, cap, h.c0, h.c1, h.c2, h.c3, h.c4, h.reads.2.2.2.1, h.reads.2.2.2.2.rd⟩⟩
structure FitG (x : PGr) : Prop where
  klen : x.key.length ≤ maxLen
  kfit : Fits x.key
  len : x.P.length ≤ maxLen
  fits : FitsP x.P
def FitsG (U : List PGr) : Prop := ∀ x ∈ U, FitG x
theorem infoG : (Tryz.prog.info? 53).map (fun i => (i.zero, i.size, i.bytes)) = some (some (.agg #[.int .i64 0, .slice none 0 0, .int .i64 0, .int .i64 0, .slice none 0 0]), 5, 72) := by kernel_rfl
structure GRow where
  n : Int
  K : Nat
  kd : Nat
  key : List Lab
  b : Int
  t : Int
  M : Nat
  o : Nat
  c : Nat
  rs : List ARow
def GRow.gr (x : GRow) : PGr := ⟨x.n, x.key, x.b, x.t, pals x.rs⟩
def GRow.blks (x : GRow) (k : Nat) : Prop := gblks x.K x.M x.rs k
def grs (us : List GRow) : List PGr := us.map GRow.gr
def nthR (us : List GRow) (i : Nat) : GRow := us.getD i ⟨0, 0, 0, [], 0, 0, 0, 0, 0, []⟩
theorem nthR_eq {us : List GRow} {i : Nat} (h : i < us.length) : nthR us i = us[i] := by unfold nthR; simp [h]
theorem nthR_mem {us : List GRow} {i : Nat} (h : i < us.length) : nthR us i ∈ us := by rw [nthR_eq h]; exact List.getElem_mem _
theorem grs_len (us : List GRow) : (grs us).length = us.length := by simp [grs]
theorem grs_nth {us : List GRow} {i : Nat} (h : i < us.length) : nthG (grs us) i = (nthR us i).gr := by
  rw [nthG_eq (by rw [grs_len]; exact h), nthR_eq h]
  simp [grs]
theorem grs_app (us vs : List GRow) : grs (us ++ vs) = grs us ++ grs vs := by simp [grs]
theorem nthR_app_lt {us vs : List GRow} {i : Nat} (h : i < us.length) : nthR (us ++ vs) i = nthR us i := by
  rw [nthR_eq (by simp; omega), nthR_eq h, List.getElem_append_left h]
theorem nthR_app_eq (us : List GRow) (x : GRow) : nthR (us ++ [x]) us.length = x := by
  rw [nthR_eq (by simp)]; simp
structure Cel5 (f : Nat → Option Value) (i : Nat) (x : GRow) : Prop where
  e0 : f (i * 5) = some (.int .i64 x.n)
  e1 : f (i * 5 + 1) = some (.slice (some ⟨x.K, 0, none⟩) x.key.length x.kd)
  e2 : f (i * 5 + 2) = some (.int .i64 x.b)
  e3 : f (i * 5 + 3) = some (.int .i64 x.t)
  e4 : f (i * 5 + 4) = some (.slice (some ⟨x.M, x.o, none⟩) x.rs.length x.c)
theorem Cel5.congr {f g : Nat → Option Value} {i j : Nat} {x : GRow} (h : Cel5 f i x) (e : ∀ k, k < 5 → g (j * 5 + k) = f (i * 5 + k)) : Cel5 g j x :=
  ⟨by have := e 0 (by omega); rw [Nat.add_zero, Nat.add_zero] at this; rw [this]; exact h.e0, by rw [e 1 (by omega)]; exact h.e1, by rw [e 2 (by omega)]; exact h.e2, by rw [e 3 (by omega)]; exact h.e3, by rw [e 4 (by omega)]; exact h.e4⟩
def rowG (x : GRow) : List Value := [.int .i64 x.n, .slice (some ⟨x.K, 0, none⟩) x.key.length x.kd, .int .i64 x.b, .int .i64 x.t, .slice (some ⟨x.M, x.o, none⟩) x.rs.length x.c]
theorem rowG_one (x : GRow) : ∀ v ∈ rowG x, v.oneCell' = true := fun v hv => by
  simp only [rowG, List.mem_cons, List.not_mem_nil, or_false] at hv
  rcases hv with rfl | rfl | rfl | rfl | rfl <;> rfl
structure RowsG (lo : Nat) (w : World) (us : List GRow) : Prop where
  rows : ∀ x ∈ us, GB lo w x.K x.key x.M x.o x.rs
  ne : us.Pairwise fun x y => ∀ k, x.blks k → ¬ y.blks k
theorem gb_moved {lo : Nat} {w w' : World} {K M o : Nat} {key : List Lab} {rs : List ARow} (h : GB lo w K key M o rs) (hm : Moved w w') : GB lo w' K key M o rs := by
  obtain ⟨h0, cs, h1, h2⟩ := h.key
  exact ⟨⟨h0, cs, hm.L h1, h2⟩, ao_moved h.row hm, h.ne⟩
theorem RowsG.nil (lo : Nat) (w : World) : RowsG lo w [] := ⟨fun x hx => by simp at hx, List.Pairwise.nil⟩
theorem RowsG.moved {lo : Nat} {w w' : World} {us : List GRow} (h : RowsG lo w us) (hm : Moved w w') : RowsG lo w' us := ⟨fun x hx => gb_moved (h.rows x hx) hm, h.ne⟩
theorem RowsG.grow {lo : Nat} {w w' : World} {us : List GRow} (h : RowsG lo w us) (hb : Below w.heap.size w w') : RowsG lo w' us := h.moved (Moved.of hb)
theorem RowsG.down {lo lo' : Nat} {w : World} {us : List GRow} (h : RowsG lo w us) (hl : lo' ≤ lo) : RowsG lo' w us := ⟨fun x hx => (h.rows x hx).down hl, h.ne⟩
theorem RowsG.cat {lo : Nat} {w : World} {us vs : List GRow} (h : RowsG lo w us) (hv : RowsG lo w vs) (hne : ∀ y ∈ us, ∀ z ∈ vs, ∀ k, y.blks k → ¬ z.blks k) : RowsG lo w (us ++ vs) := by
  refine ⟨fun y hy => ?_, ?_⟩
  · rcases List.mem_append.1 hy with hy | hy
    · exact h.rows y hy
    · exact hv.rows y hy
  · rw [List.pairwise_append]
    exact ⟨h.ne, hv.ne, fun a ha b hb => hne a ha b hb⟩
theorem RowsG.one {lo : Nat} {w : World} {x : GRow} (hx : GB lo w x.K x.key x.M x.o x.rs) : RowsG lo w [x] := ⟨fun y hy => by rw [List.mem_singleton.1 hy]; exact hx, List.pairwise_singleton _ _⟩
theorem RowsG.rng {lo : Nat} {w : World} {us : List GRow} (h : RowsG lo w us) {x : GRow} (hx : x ∈ us) (k : Nat) (hk : x.blks k) : lo ≤ k ∧ k < w.heap.size := (h.rows x hx).rng k hk
theorem RowsG.fresh {lo B : Nat} {w w' : World} {us vs : List GRow} (h : RowsG lo w us) (hv : RowsG B w' vs) (hB : w.heap.size ≤ B) : ∀ y ∈ us, ∀ z ∈ vs, ∀ k, y.blks k → ¬ z.blks k := fun y hy z hz k h1 h2 => by
  have := (h.rng hy k h1).2
  have := (hv.rng hz k h2).1
  omega
structure GsB (lo : Nat) (w : World) (M c : Nat) (us : List GRow) : Prop where
  at' : lo ≤ M
  cap : us.length ≤ c ∧ c ≤ maxLen
  outer : ∃ cur : Array Value, Blk w M cur 53 ∧ cur.size = c * 5 ∧ ∀ i, i < us.length → Cel5 (fun k => cur[k]?) i (nthR us i)
  rows : RowsG lo w us
theorem GsB.grow {lo : Nat} {w w' : World} {M c : Nat} {us : List GRow} (h : GsB lo w M c us) (hb : Below w.heap.size w w') : GsB lo w' M c us := by
  obtain ⟨cur, h1, h2⟩ := h.outer
  exact ⟨h.at', h.cap, ⟨cur, h1.grow hb, h2⟩, h.rows.grow hb⟩
theorem GsB.down {lo lo' : Nat} {w : World} {M c : Nat} {us : List GRow} (h : GsB lo w M c us) (hl : lo' ≤ lo) : GsB lo' w M c us := ⟨Nat.le_trans hl h.at', h.cap, h.outer, h.rows.down hl⟩
theorem GsB.lt {lo : Nat} {w : World} {M c : Nat} {us : List GRow} (h : GsB lo w M c us) : M < w.heap.size := by
  obtain ⟨cur, h1, _⟩ := h.outer
  exact h1.lt
theorem GsB.nil {lo : Nat} {w : World} {M : Nat} (h : Blk w M #[] 53) (hl : lo ≤ M) : GsB lo w M 0 [] :=
  ⟨hl, ⟨Nat.le_refl _, by simp [maxLen]⟩, ⟨#[], h, rfl, fun i hi => by simp at hi⟩, RowsG.nil _ _⟩
def CapsG (us : List GRow) : Prop := ∀ x ∈ us, x.rs.length ≤ x.c ∧ x.c ≤ maxLen
theorem GsB.rd {lo : Nat} {w : World} {M c : Nat} {us : List GRow} (h : GsB lo w M c us) : RdGs GA w (some ⟨M, 0, none⟩) (grs us) := by
  obtain ⟨cur, h1, h2, h3⟩ := h.outer
  refine .inr ⟨M, 0, rfl, h1.lt, fun i hi => ?_⟩
  rw [grs_len] at hi
  have hc := h3 i hi
  have hg := h.rows.rows _ (nthR_mem hi)
  refine ⟨some ⟨(nthR us i).K, 0, none⟩, (nthR us i).kd, some ⟨(nthR us i).M, (nthR us i).o, none⟩, (nthR us i).c, ?_⟩
  rw [grs_nth hi]
  exact ⟨by rw [h1.cell, Nat.zero_add]; exact hc.e0, by rw [h1.cell, Nat.zero_add]; exact hc.e1, by rw [h1.cell, Nat.zero_add]; exact hc.e2, by rw [h1.cell, Nat.zero_add]; exact hc.e3, by rw [h1.cell, Nat.zero_add, GRow.gr, pals_len]; exact hc.e4, hg.key.rd, hg.row.rd.rd⟩
theorem GsB.rn {lo : Nat} {w : World} {M c : Nat} {us : List GRow} (h : GsB lo w M c us) (hcap : CapsG us) : RdGs GN w (some ⟨M, 0, none⟩) (grs us) := by
  obtain ⟨cur, h1, h2, h3⟩ := h.outer
  refine .inr ⟨M, 0, rfl, h1.lt, fun i hi => ?_⟩
  rw [grs_len] at hi
  have hc := h3 i hi
  have hg := h.rows.rows _ (nthR_mem hi)
  refine ⟨some ⟨(nthR us i).K, 0, none⟩, (nthR us i).kd, some ⟨(nthR us i).M, (nthR us i).o, none⟩, (nthR us i).c, ?_⟩
  rw [grs_nth hi]
  exact ⟨by rw [h1.cell, Nat.zero_add]; exact hc.e0, by rw [h1.cell, Nat.zero_add]; exact hc.e1, by rw [h1.cell, Nat.zero_add]; exact hc.e2, by rw [h1.cell, Nat.zero_add]; exact hc.e3, by rw [h1.cell, Nat.zero_add, GRow.gr, pals_len]; exact hc.e4, ⟨_, _, rfl⟩, ⟨_, _, rfl⟩, by show (pals _).length ≤ _ ∧ _; rw [pals_len]; exact hcap _ (nthR_mem hi), hg.key.rd, hg.row.rd⟩
theorem GsB.own {lo : Nat} {w : World} {M c : Nat} {us : List GRow} (h : GsB lo w M c us) : ∃ xs : List Value, w.ownsRow lo 53 5 (.slice (some ⟨M, 0, none⟩) us.length c) us.length xs ∧ xs.length = us.length * 5 ∧ ∀ i, i < us.length → Cel5 (fun k => xs[k]?) i (nthR us i) := by
  obtain ⟨cur, h1, h2, h3⟩ := h.outer
  have hc := h.cap
  have hlen : (cur.toList.take (us.length * 5)).length = us.length * 5 := by simp; omega
  refine ⟨cur.toList.take (us.length * 5), ⟨hlen, .inr ⟨M, c, cur, rfl, h.at', h1, hc.1, hc.2, h2, rfl⟩⟩, hlen, fun i hi => ?_⟩
  refine (h3 i hi).congr fun k hk => ?_
  show (cur.toList.take _)[i * 5 + k]? = cur[i * 5 + k]?
  rw [List.getElem?_take_of_lt (by omega)]
  simp
theorem GsB.app {lo : Nat} {W w' : World} {M c : Nat} {us vs : List GRow} {xs ys : List Value} {v' : Value} (h : GsB lo W M c us) (hv : RowsG lo W vs) (hne : ∀ y ∈ us, ∀ z ∈ vs, ∀ k, y.blks k → ¬ z.blks k) (hl : xs.length = us.length * 5) (hxs : ∀ i, i < us.length → Cel5 (fun k => xs[k]?) i (nthR us i))
    (hly : ys.length = vs.length * 5) (hys : ∀ i, i < vs.length → Cel5 (fun k => ys[k]?) i (nthR vs i)) (h0 : 0 < vs.length ∨ v' ≠ .slice none 0 0)
    (hown : w'.ownsRow lo 53 5 v' (us.length + vs.length) (xs ++ ys)) (hg : W.grownBy w' (some M)) : ∃ M' c', v' = .slice (some ⟨M', 0, none⟩) (us.length + vs.length) c' ∧ GsB lo w' M' c' (us ++ vs) := by
  rcases hown.2 with ⟨e0, e⟩ | ⟨g, cap, cur, e, hb, hgb, hc, hm, hz, ht⟩
  · rcases h0 with h0 | h0
    · omega
    · exact absurd e0 h0
  · obtain ⟨cu0, hcu0, _⟩ := h.outer
    have hmv : Moved W w' := Moved.far hcu0 (by decide) (by decide) hg
    refine ⟨g, cap, e, hb, ⟨by simp; omega, hm⟩, ⟨cur, hgb, hz, fun i hi => ?_⟩, (h.rows.cat hv hne).moved hmv⟩
    have at' : ∀ k, k < (us.length + vs.length) * 5 → cur[k]? = (xs ++ ys)[k]? := fun k hk => by
      rw [← ht, List.getElem?_take_of_lt hk]; simp
    simp at hi
    by_cases hlt : i < us.length
    · rw [nthR_app_lt hlt]
      refine (hxs i hlt).congr fun k hk => ?_
      show cur[i * 5 + k]? = xs[i * 5 + k]?
      rw [at' _ (by omega), List.getElem?_append_left (by omega)]
    · have e2 : nthR (us ++ vs) i = nthR vs (i - us.length) := by
        rw [nthR_eq (by simp; omega), nthR_eq (by omega), List.getElem_append_right (by omega)]
      rw [e2]
      refine (hys (i - us.length) (by omega)).congr fun k hk => ?_
      show cur[i * 5 + k]? = ys[(i - us.length) * 5 + k]?
      rw [at' _ (by omega), List.getElem?_append_right (by omega), hl]
      congr 1; omega
theorem row_cel (x : GRow) : ∀ i, i < [x].length → Cel5 (fun k => (rowG x)[k]?) i (nthR [x] i) := fun i hi => by
  have : i = 0 := by simpa using hi
  subst this
  exact ⟨rfl, rfl, rfl, rfl, rfl⟩
def put5C (cs : Array Value) (k : Nat) (x : GRow) : Array Value := ((((cs.setIfInBounds (k * 5) (.int .i64 x.n)).setIfInBounds (k * 5 + 1) (.slice (some ⟨x.K, 0, none⟩) x.key.length x.kd)).setIfInBounds (k * 5 + 2) (.int .i64 x.b)).setIfInBounds (k * 5 + 3) (.int .i64 x.t)).setIfInBounds (k * 5 + 4) (.slice (some ⟨x.M, x.o, none⟩) x.rs.length x.c)
def put5W (w : World) (M k : Nat) (x : GRow) : World := ((((w.setCell ⟨M, k * 5, none⟩ (.int .i64 x.n)).setCell ⟨M, k * 5 + 1, none⟩ (.slice (some ⟨x.K, 0, none⟩) x.key.length x.kd)).setCell ⟨M, k * 5 + 2, none⟩ (.int .i64 x.b)).setCell ⟨M, k * 5 + 3, none⟩ (.int .i64 x.t)).setCell ⟨M, k * 5 + 4, none⟩ (.slice (some ⟨x.M, x.o, none⟩) x.rs.length x.c)
theorem put5_at {cs : Array Value} {k : Nat} {x : GRow} (h : k * 5 + 4 < cs.size) : Cel5 (fun j => (put5C cs k x)[j]?) k x := by
  unfold put5C
  refine ⟨?_, ?_, ?_, ?_, ?_⟩
  · show (Array.setIfInBounds _ _ _)[_]? = _; rw [set_ne (by omega), set_ne (by omega), set_ne (by omega), set_ne (by omega), set_at (by omega)]
  · show (Array.setIfInBounds _ _ _)[_]? = _; rw [set_ne (by omega), set_ne (by omega), set_ne (by omega), set_at (by simp; omega)]
  · show (Array.setIfInBounds _ _ _)[_]? = _; rw [set_ne (by omega), set_ne (by omega), set_at (by simp; omega)]
  · show (Array.setIfInBounds _ _ _)[_]? = _; rw [set_ne (by omega), set_at (by simp; omega)]
  · show (Array.setIfInBounds _ _ _)[_]? = _; rw [set_at (by simp; omega)]
theorem put5_ne {cs : Array Value} {k j : Nat} {x : GRow} (h : j < k * 5 ∨ k * 5 + 5 ≤ j) : (put5C cs k x)[j]? = cs[j]? := by
  unfold put5C
  rw [set_ne (by omega), set_ne (by omega), set_ne (by omega), set_ne (by omega), set_ne (by omega)]
theorem put5_size (cs : Array Value) (k : Nat) (x : GRow) : (put5C cs k x).size = cs.size := by simp [put5C]
theorem put5W_blk {w : World} {M k : Nat} {x : GRow} {cs : Array Value} {T : TypeId} (h : Blk w M cs T) : Blk (put5W w M k x) M (put5C cs k x) T := ((((h.set _ _).set _ _).set _ _).set _ _).set _ _
theorem put5W_moved {w : World} {M k : Nat} {x : GRow} {cs : Array Value} (h : Blk w M cs 53) : Moved w (put5W w M k x) :=
  (((((Moved.set h (by decide) (by decide) _ _).trans (Moved.set (h.set _ _) (by decide) (by decide) _ _)).trans (Moved.set ((h.set _ _).set _ _) (by decide) (by decide) _ _)).trans (Moved.set (((h.set _ _).set _ _).set _ _) (by decide) (by decide) _ _)).trans (Moved.set ((((h.set _ _).set _ _).set _ _).set _ _) (by decide) (by decide) _ _))
theorem put5W_low {w w' : World} {B M k : Nat} {x : GRow} (h : Below B w w') (hM : B ≤ M) : Below B w (put5W w' M k x) := ((((h.setCell (p := ⟨M, _, none⟩) hM _).setCell (p := ⟨M, _, none⟩) hM _).setCell (p := ⟨M, _, none⟩) hM _).setCell (p := ⟨M, _, none⟩) hM _).setCell (p := ⟨M, _, none⟩) hM _
structure FillG (lo : Nat) (w : World) (M : Nat) (U : List PGr) (k : Nat) (cur : Array Value) (us : List GRow) : Prop where
  blk : Blk w M cur 53
  size : cur.size = U.length * 5
  len : us.length = k
  gr : grs us = U.take k
  cell : ∀ i, i < k → Cel5 (fun j => cur[j]?) i (nthR us i)
  rows : RowsG lo w us
  caps : CapsG us
theorem FillG.grow {lo : Nat} {w w' : World} {M : Nat} {U : List PGr} {k : Nat} {cur : Array Value} {us : List GRow} (h : FillG lo w M U k cur us) (hb : Below w.heap.size w w') : FillG lo w' M U k cur us :=
  ⟨h.blk.grow hb, h.size, h.len, h.gr, h.cell, h.rows.grow hb, h.caps⟩
theorem FillG.next {lo : Nat} {w : World} {M : Nat} {U : List PGr} {k : Nat} {cur : Array Value} {us : List GRow} {x : GRow} (h : FillG lo w M U k cur us) (hk : k < U.length) (hx : RowsG lo w [x]) (hp : x.gr = nthG U k) (hc : x.rs.length ≤ x.c ∧ x.c ≤ maxLen) (hne : ∀ y ∈ us, ∀ z ∈ [x], ∀ k, y.blks k → ¬ z.blks k) :
    FillG lo (put5W w M k x) M U (k + 1) (put5C cur k x) (us ++ [x]) := by
  have hl := h.len
  have hs := h.size
  refine ⟨put5W_blk h.blk, by rw [put5_size]; exact hs, by simp [hl], by rw [grs_app, h.gr, takeG_up hk, ← hp]; rfl, fun i hi => ?_, (h.rows.cat hx hne).moved (put5W_moved h.blk), fun y hy => ?_⟩
  · by_cases e : i < k
    · rw [nthR_app_lt (by omega)]
      exact (h.cell i e).congr fun j hj => put5_ne (by omega)
    · have : i = us.length := by omega
      subst this
      rw [nthR_app_eq, hl]
      exact put5_at (by omega)
  · rcases List.mem_append.1 hy with hy | hy
    · exact h.caps y hy
    · rw [List.mem_singleton.1 hy]; exact hc
theorem five_cells {w : World} {M : Nat} {cs : Array Value} {T : TypeId} (h : Blk w M cs T) (k : Nat) (hk : k * 5 + 4 < cs.size) : ∃ v0 v1 v2 v3 v4, w.cell? ⟨M, k * 5, none⟩ = some v0 ∧ w.cell? ⟨M, k * 5 + 1, none⟩ = some v1 ∧ w.cell? ⟨M, k * 5 + 2, none⟩ = some v2 ∧ w.cell? ⟨M, k * 5 + 3, none⟩ = some v3 ∧ w.cell? ⟨M, k * 5 + 4, none⟩ = some v4 :=
  ⟨cs[k * 5]'(by omega), cs[k * 5 + 1]'(by omega), cs[k * 5 + 2]'(by omega), cs[k * 5 + 3]'(by omega), cs[k * 5 + 4]'(by omega), by rw [h.cell]; simp, by rw [h.cell]; simp, by rw [h.cell]; simp, by rw [h.cell]; simp, by rw [h.cell]; simp⟩

end Go.Proofs.YtgncimlojbnbfaaGreat.Gps
