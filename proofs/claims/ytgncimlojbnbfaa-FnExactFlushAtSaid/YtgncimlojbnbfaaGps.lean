/-
  PROVED: slices of groups: what one that came in is; the size that szGroupS counts, the copy that toGroupS makes, that eqGroupS finds two of the same alike; rows of groups in memory of a call's own, read, grown by an append, filled.
-/
import Derived.Test.YtgncimlojbnbfaaGrp
namespace Go.Proofs.Ytgncimlojbnbfaa.Gps
open Go.RowKit
open Go.ChangeShapes Go.WideShapes
open Go.Proofs.Ytgncimlojbnbfaa.Labs Go.Proofs.Ytgncimlojbnbfaa.LabS Go.Proofs.Ytgncimlojbnbfaa.Alms Go.Proofs.Ytgncimlojbnbfaa.AlmM Go.Proofs.Ytgncimlojbnbfaa.Over Go.Proofs.Ytgncimlojbnbfaa.Blk Go.Proofs.Ytgncimlojbnbfaa.App Go.Proofs.Ytgncimlojbnbfaa.Rws Go.Proofs.Ytgncimlojbnbfaa.ChnI Go.Proofs.Ytgncimlojbnbfaa.ChnC Go.Proofs.Ytgncimlojbnbfaa.ChnK Go.Proofs.Ytgncimlojbnbfaa.Chs Go.Proofs.Ytgncimlojbnbfaa.Grp
open Go.Proofs.Ytgncimlojbnbfaa.StrB (retB)
open Go.Proofs.Ytgncimlojbnbfaa.LabT (Fits)
set_option linter.unusedVariables false

/-- a group, plain -/
structure PGr where
  n : Int
  key : List Lab
  b : Int
  t : Int
  P : List PAl
def nthG (U : List PGr) (i : Nat) : PGr := U.getD i ⟨0, [], 0, 0, []⟩
theorem nthG_eq {U : List PGr} {i : Nat} (h : i < U.length) : nthG U i = U[i] := by unfold nthG; simp [h]
theorem nthG_mem {U : List PGr} {i : Nat} (h : i < U.length) : nthG U i ∈ U := by rw [nthG_eq h]; exact List.getElem_mem _
theorem takeG_up {U : List PGr} {k : Nat} (h : k < U.length) : U.take (k + 1) = U.take k ++ [nthG U k] := by rw [nthG_eq h, List.take_succ_eq_append_getElem h]
/-- how a group's key and alarms are read -/
abbrev How := World → Option Addr → List Lab → Option Addr → Nat → List PAl → Prop
def StaysG (R : How) : Prop := ∀ w w' ka key a cap P, R w ka key a cap P → Below w.heap.size w w' → R w' ka key a cap P
def GA (w : World) (ka : Option Addr) (key : List Lab) (a : Option Addr) (cap : Nat) (P : List PAl) : Prop := Reads w ka key ∧ RdA w a P
def GN (w : World) (ka : Option Addr) (key : List Lab) (a : Option Addr) (cap : Nat) (P : List PAl) : Prop := (∃ g o, ka = some ⟨g, o, none⟩) ∧ (∃ g o, a = some ⟨g, o, none⟩) ∧ (P.length ≤ cap ∧ cap ≤ maxLen) ∧ Reads w ka key ∧ RdN w a P
theorem stays_ga : StaysG GA := fun _ _ _ _ _ _ _ h hb => ⟨h.1.below hb, h.2.below hb⟩
theorem stays_gn : StaysG GN := fun _ _ _ _ _ _ _ h hb => ⟨h.1, h.2.1, h.2.2.1, h.2.2.2.1.below hb, h.2.2.2.2.below hb⟩
structure AtG (R : How) (w : World) (b off i : Nat) (x : PGr) (ka : Option Addr) (kc : Nat) (ad : Option Addr) (cap : Nat) : Prop where
  c0 : w.cell? ⟨b, off + i * 5, none⟩ = some (.int .i64 x.n)
  c1 : w.cell? ⟨b, off + i * 5 + 1, none⟩ = some (.slice ka x.key.length kc)
  c2 : w.cell? ⟨b, off + i * 5 + 2, none⟩ = some (.int .i64 x.b)
  c3 : w.cell? ⟨b, off + i * 5 + 3, none⟩ = some (.int .i64 x.t)
  c4 : w.cell? ⟨b, off + i * 5 + 4, none⟩ = some (.slice ad x.P.length cap)
  reads : R w ka x.key ad cap x.P
theorem AtG.below {R : How} (hR : StaysG R) {w w' : World} {b off i : Nat} {x : PGr} {ka : Option Addr} {kc : Nat} {ad : Option Addr} {cap : Nat} (h : AtG R w b off i x ka kc ad cap) (hb : Below w.heap.size w w') (hlt : b < w.heap.size) : AtG R w' b off i x ka kc ad cap :=
  ⟨(hb.cell (p := ⟨b, off + i * 5, none⟩) hlt).trans h.c0, (hb.cell (p := ⟨b, off + i * 5 + 1, none⟩) hlt).trans h.c1, (hb.cell (p := ⟨b, off + i * 5 + 2, none⟩) hlt).trans h.c2, (hb.cell (p := ⟨b, off + i * 5 + 3, none⟩) hlt).trans h.c3, (hb.cell (p := ⟨b, off + i * 5 + 4, none⟩) hlt).trans h.c4, hR _ _ _ _ _ _ _ h.reads hb⟩
def RdGs (R : How) (w : World) (a : Option Addr) (U : List PGr) : Prop :=
  U = [] ∨ ∃ b off, a = some ⟨b, off, none⟩ ∧ b < w.heap.size ∧ ∀ i, i < U.length → ∃ ka kc ad cap, AtG R w b off i (nthG U i) ka kc ad cap
theorem RdGs.below {R : How} (hR : StaysG R) {w w' : World} {a : Option Addr} {U : List PGr} (h : RdGs R w a U) (hb : Below w.heap.size w w') : RdGs R w' a U := by
  rcases h with h | ⟨b, off, rfl, hlt, hc⟩
  · exact .inl h
  · exact .inr ⟨b, off, rfl, Nat.lt_of_lt_of_le hlt hb.size, fun i hi => by
      obtain ⟨ka, kc, ad, cap, h⟩ := hc i hi
      exact ⟨ka, kc, ad, cap, h.below hR hb hlt⟩⟩
theorem RdGs.get {R : How} {w : World} {a : Option Addr} {U : List PGr} (h : RdGs R w a U) {i : Nat} (hi : i < U.length) :
    ∃ b off, a = some ⟨b, off, none⟩ ∧ b < w.heap.size ∧ ∃ ka kc ad cap, AtG R w b off i (nthG U i) ka kc ad cap := by
  rcases h with h | ⟨b, off, e, hb, h⟩
  · rw [h] at hi; simp at hi
  · exact ⟨b, off, e, hb, h i hi⟩
theorem RdGs.rd {w : World} {a : Option Addr} {U : List PGr} (h : RdGs GN w a U) : RdGs GA w a U := by
  rcases h with h | ⟨b, off, e, hb, hc⟩
  · exact .inl h
  · exact .inr ⟨b, off, e, hb, fun i hi => by obtain ⟨ka, kc, ad, cap, h⟩ := hc i hi; exact ⟨ka, kc, ad, cap, h.c0, h.c1, h.c2, h.c3, h.c4, h.reads.2.2.2.1, h.reads.2.2.2.2.rd⟩⟩
structure FitG (x : PGr) : Prop where
  klen : x.key.length ≤ maxLen
  kfit : Fits x.key
  len : x.P.length ≤ maxLen
  fits : FitsP x.P
def FitsG (U : List PGr) : Prop := ∀ x ∈ U, FitG x
def oneG (x : PGr) : Nat := x.key.length + x.P.length + sumL x.P
def sumG : List PGr → Nat
  | [] => 0
  | x :: U => oneG x + sumG U
theorem sumG_app (p q : List PGr) : sumG (p ++ q) = sumG p + sumG q := by
  induction p with
  | nil => simp [sumG]
  | cons x p ih => rw [List.cons_append, sumG, ih, sumG]; omega
theorem sumG_up {U : List PGr} {k : Nat} (h : k < U.length) : sumG (U.take (k + 1)) = sumG (U.take k) + oneG (nthG U k) := by
  rw [takeG_up h, sumG_app]; simp [sumG]
theorem sumG_all {U : List PGr} {k : Nat} (h : U.length ≤ k) : sumG (U.take k) = sumG U := by rw [List.take_of_length_le h]
theorem sumG_mem {U : List PGr} {x : PGr} (h : x ∈ U) : oneG x ≤ sumG U := by
  induction U with
  | nil => simp at h
  | cons y U ih =>
    rw [sumG]
    rcases List.mem_cons.1 h with rfl | h
    · omega
    · have := ih h; omega
theorem sumG_nth {U : List PGr} {k : Nat} (h : k < U.length) : oneG (nthG U k) ≤ sumG U := sumG_mem (nthG_mem h)

set_option maxHeartbeats 1600000 in
theorem szGs_any (a : Option Addr) (cap : Nat) (U : List PGr) (left : Int) (w : World) (hr : RdGs GA w a U) (hl : U.length ≤ maxLen) (hz : FitsG U) (h0 : 0 ≤ left) (h1 : left ≤ 1048576) :
    Calls Try.prog 8 #[.slice a U.length cap, .int .i64 left] w fun e w' => (∃ n : Int, e = .returned (.int .i64 n) ∧ n ≤ left ∧ (0 ≤ n → n + (U.length : Int) + (sumG U : Int) ≤ left)) ∧ Below w.heap.size w w' := by
  unfold maxLen at hl
  have HR : Hid (RdGs GA w a U) := hr
  have HZ : Hid (FitsG U) := hz
  clear hr hz
  by_cases c : left - (U.length : Int) < 0
  · go_enter Try.func8, Try.ntmps8
    go_wp2
    go_ret
    exact ⟨⟨-1, rfl, by omega, fun h => by omega⟩, Below.refl _ _⟩
  · go_enter Try.func8, Try.ntmps8
    go_wp2
    go_loopw [1, 5] (fun m i w' => ∃ (k : Nat) (x : Int), k ≤ U.length ∧ i = .int .i64 k ∧ m = .int .i64 x ∧ 0 ≤ x ∧ x + (U.length : Int) + (sumG (U.take k) : Int) ≤ left ∧ Below w.heap.size w w') (fun _ i _ => U.length - (intOf i).toNat)
    case atStart => exact ⟨0, _, Nat.zero_le _, rfl, rfl, by omega, by simp [sumG], Below.refl _ _⟩
    case round =>
      obtain ⟨k, x, hk, rfl, rfl, hx0, hx1, hw0⟩ := hrel
      have HB : Hid (Below w.heap.size w wr) := hw0
      have HX : Hid (x + (U.length : Int) + (sumG (U.take k) : Int) ≤ left) := hx1
      have hx2 : x ≤ left := by omega
      clear hw0 hx1
      by_cases hlt : k < U.length
      · have hlt' : (k : Int) < (U.length : Int) := by omega
        obtain ⟨b, off, rfl, hb, ka, kc, ad, cp, hat⟩ := (HR.out.below stays_ga HB.out).get hlt
        have h2 := hat.c0
        have h3 := hat.c1
        have h4 := hat.c2
        have h5 := hat.c3
        have h6 := hat.c4
        have HA : Hid (Reads wr ka (nthG U k).key ∧ RdA wr ad (nthG U k).P) := hat.reads
        have HU : Hid (sumG (U.take (k + 1)) = sumG (U.take k) + oneG (nthG U k)) := sumG_up hlt
        have HF : Hid (FitG (nthG U k)) := HZ.out _ (nthG_mem hlt)
        clear hat
        go_wp2_with fail
        refine (szGroup_any _ _ _ ka kc _ ad cp _ x _ HA.out.1 HF.out.klen HF.out.kfit HA.out.2 HF.out.len HF.out.fits hx0 (by omega)).mono ?_
        rintro e w1 ⟨⟨y, rfl, hy, hyn⟩, hb1⟩
        have HB1 : Hid (Below w.heap.size w w1) := grow_on HB.out hb1
        clear hb1 h2 h3 h4 h5 h6
        by_cases hn : y < 0
        · clear hyn
          go_wp2
          go_ret
          exact ⟨⟨-1, rfl, by omega, fun h => by omega⟩, HB1.out⟩
        · have HY : Hid (y + (oneG (nthG U k) : Int) ≤ x) := by have := hyn (by omega); unfold Hid oneG; omega
          clear hyn
          go_wp2
          go_roundw
          case rel => exact ⟨k + 1, y, by omega, by go_num, rfl, by omega, by have h1 := HY.out; have h2 := HX.out; have h3 := HU.out; omega, HB1.out⟩
          case measure => simp [intOf]; omega
      · have hge : ¬ (k : Int) < (U.length : Int) := by omega
        have HE : Hid (sumG (U.take k) = sumG U) := sumG_all (by omega)
        go_wp2
        go_ret
        exact ⟨⟨_, rfl, by omega, fun h => by have h1 := HX.out; have h2 := HE.out; omega⟩, HB.out⟩

set_option maxHeartbeats 1600000 in
theorem eqGs_any (a a' : Option Addr) (cap cap' : Nat) (U : List PGr) (w : World) (hr : RdGs GA w a U) (hr' : RdGs GA w a' U) (hl : U.length ≤ maxLen) (hz : FitsG U) :
    Calls Try.prog 14 #[.slice a U.length cap, .slice a' U.length cap'] w fun e w' => e = .returned (.bool true) ∧ Below w.heap.size w w' := by
  unfold maxLen at hl
  have HR : Hid (RdGs GA w a U) := hr
  have HR' : Hid (RdGs GA w a' U) := hr'
  have HZ : Hid (FitsG U) := hz
  clear hr hr' hz
  go_enter Try.func14, Try.ntmps14
  go_wp2
  go_loopw [5] (fun i w' => ∃ k : Nat, i = .int .i64 k ∧ k ≤ U.length ∧ Below w.heap.size w w') (fun i _ => U.length - (intOf i).toNat)
  case atStart => exact ⟨0, rfl, Nat.zero_le _, Below.refl _ _⟩
  case round =>
    obtain ⟨k, rfl, hk, hw0⟩ := hrel
    have HB : Hid (Below w.heap.size w wr) := hw0
    clear hw0
    by_cases hlt : k < U.length
    · have hlt' : (k : Int) < (U.length : Int) := by omega
      obtain ⟨b, off, rfl, hb, ka, kc, ad, cp, hat⟩ := (HR.out.below stays_ga HB.out).get hlt
      obtain ⟨b', off', rfl, hb', ka', kc', ad', cp', hat'⟩ := (HR'.out.below stays_ga HB.out).get hlt
      have hne := Grown.some wr
      have x0 := fun x : Grown wr => x.cell hb hat.c0
      have x1 := fun x : Grown wr => x.cell hb hat.c1
      have x2 := fun x : Grown wr => x.cell hb hat.c2
      have x3 := fun x : Grown wr => x.cell hb hat.c3
      have x4 := fun x : Grown wr => x.cell hb hat.c4
      have y0 := fun x : Grown wr => x.cell hb' hat'.c0
      have y1 := fun x : Grown wr => x.cell hb' hat'.c1
      have y2 := fun x : Grown wr => x.cell hb' hat'.c2
      have y3 := fun x : Grown wr => x.cell hb' hat'.c3
      have y4 := fun x : Grown wr => x.cell hb' hat'.c4
      have HC : ∀ x : Grown wr, Hid (Calls Try.prog 42 #[.agg #[.int .i64 (nthG U k).n, .slice ka (nthG U k).key.length kc, .int .i64 (nthG U k).b, .int .i64 (nthG U k).t, .slice ad (nthG U k).P.length cp], .agg #[.int .i64 (nthG U k).n, .slice ka' (nthG U k).key.length kc', .int .i64 (nthG U k).b, .int .i64 (nthG U k).t, .slice ad' (nthG U k).P.length cp']] x.out fun e w' => e = .returned (.bool true) ∧ Below x.out.heap.size x.out w') := fun x => eqGroup_any _ _ _ ka ka' kc kc' _ ad ad' cp cp' _ x.out (hat.reads.1.below x.bel) (hat'.reads.1.below x.bel) (HZ.out _ (nthG_mem hlt)).klen (hat.reads.2.below x.bel) (hat'.reads.2.below x.bel) (HZ.out _ (nthG_mem hlt)).len (HZ.out _ (nthG_mem hlt)).fits
      clear hat hat'
      go_wp2
      refine wp_over (z := wr) (by kernel_rfl) (by kernel_rfl) (Below.refl _ _) ?_
      repeat (go_big_quiet_step (first | (go_at_call 42; exact call_over (HC _).out)))
      refine wpQuiet_nil ?_
      intro w2 hw2
      have hb2 := over_bel hw2
      have HB2 : Hid (Below w.heap.size w w2) := grow_on HB.out hb2
      clear hw2 hne hb2 x0 x1 x2 x3 x4 y0 y1 y2 y3 y4 HC
      go_wp2
      go_roundw
      case rel => exact ⟨k + 1, by go_num, by omega, HB2.out⟩
      case measure => simp [intOf]; omega
    · have hge : ¬ (k : Int) < (U.length : Int) := by omega
      go_wp2
      go_ret
      exact ⟨rfl, HB.out⟩

theorem cellsG : Try.prog.cellsOf 64 = 5 := by kernel_rfl
set_option maxRecDepth 100000 in
set_option maxHeartbeats 800000 in
/-- a slice of groups that came in -/
theorem open_groups {H : Type} {enc : TypeId × Value → H} {W : World} {base : Nat} {spare : Nat → Bool} {held : Bool} {a : Option Addr} {len cap : Nat} {d : DataW H} {p : List MemPlace}
    (h : DataW.Trod enc Try.prog W base spare held 22 (.slice a len cap) d p) : ∃ U : List PGr, len = U.length ∧ RdGs GA W a U ∧ U.length ≤ maxLen ∧ FitsG U := by
  obtain ⟨fuel, hf⟩ := h
  rcases Go.Deep.open_slice Try.underlying22 (by simpa [Value.cells] using hf) with ⟨hcs, _⟩ | ⟨x, l, c, m, n, D, Pl, hcs, _, hl, hm, hmm, _, hx⟩
  · simp at hcs
    obtain ⟨rfl, rfl, rfl⟩ := hcs
    exact ⟨[], rfl, .inl rfl, by simp, fun x hx => by simp at hx⟩
  · simp at hcs
    obtain ⟨rfl, rfl, rfl⟩ := hcs
    have hlm : len ≤ m := by rw [hmm]; split <;> omega
    have each : ∀ i, i < len → ∃ z : PGr, FitG z ∧ ∃ (ka : Option Addr) (kc : Nat) (ad : Option Addr) (cp : Nat), W.cell? (x.add (i * 5)) = some (.int .i64 z.n) ∧ W.cell? (x.add (i * 5 + 1)) = some (.slice ka z.key.length kc) ∧ W.cell? (x.add (i * 5 + 2)) = some (.int .i64 z.b) ∧ W.cell? (x.add (i * 5 + 3)) = some (.int .i64 z.t) ∧ W.cell? (x.add (i * 5 + 4)) = some (.slice ad z.P.length cp) ∧ Reads W ka z.key ∧ RdA W ad z.P := by
      intro i hi
      obtain ⟨cs', h1, h2⟩ := hx i (by omega)
      rw [cellsG] at h1
      obtain ⟨_, hlen, hcell⟩ := World.cells?_some h1
      obtain ⟨xs, k, hk, hxy, _, hxl, hf⟩ := DataW.trod_struct Try.underlying64 h2
      match xs, hxl, cs', hlen with
      | [y0, y1, y2, y3, y4], _, [v0, v1, v2, v3, v4], _ =>
        have k0 : Try.prog.cellsOf 3 = 1 := by kernel_rfl
        have k1 : Try.prog.cellsOf 33 = 1 := by kernel_rfl
        have k2 : Try.prog.cellsOf 62 = 1 := by kernel_rfl
        have g0 : DataW.trod enc Try.prog W base spare held k 3 [v0] = some y0 := by have := hf 0 _ rfl; simpa [k0] using this
        have g1 : DataW.trod enc Try.prog W base spare held k 33 [v1] = some y1 := by have := hf 1 _ rfl; simpa [k0, k1] using this
        have g2 : DataW.trod enc Try.prog W base spare held k 3 [v2] = some y2 := by have := hf 2 _ rfl; simpa [k0, k1] using this
        have g3 : DataW.trod enc Try.prog W base spare held k 3 [v3] = some y3 := by have := hf 3 _ rfl; simpa [k0, k1] using this
        have g4 : DataW.trod enc Try.prog W base spare held k 62 [v4] = some y4 := by have := hf 4 _ rfl; simpa [k0, k1, k2] using this
        obtain ⟨ka, kn, kc, e1⟩ := Go.Joins.slice_form Try.underlying33 g1
        obtain ⟨ad, ln, cp, e4⟩ := Go.Joins.slice_form Try.underlying62 g4
        obtain ⟨n0, e0, _⟩ := DataW.trod_int Try.underlying3 g0
        obtain ⟨b0, e2, _⟩ := DataW.trod_int Try.underlying3 g2
        obtain ⟨t0, e3, _⟩ := DataW.trod_int Try.underlying3 g3
        simp at e0 e1 e2 e3 e4
        subst e0 e1 e2 e3 e4
        obtain ⟨key, rfl, hkr, hkl, hkf⟩ := LabT.open_labs g1
        obtain ⟨P, rfl, hr, hll, hff⟩ := open_alarms (enc := enc) (W := W) (d := y4.1) (p := y4.2) ⟨k, by simpa [Value.cells] using g4⟩
        have c0 := hcell 0 (by omega)
        have c1 := hcell 1 (by omega)
        have c2 := hcell 2 (by omega)
        have c3 := hcell 3 (by omega)
        have c4 := hcell 4 (by omega)
        rw [Go.Deep.add_add] at c0 c1 c2 c3 c4
        exact ⟨⟨n0, key, b0, t0, P⟩, ⟨hkl, hkf, hll, hff⟩, ka, kc, ad, cp, by simpa using c0, by simpa using c1, by simpa using c2, by simpa using c3, by simpa using c4, hkr, hr⟩
    have hin : Inhabited PGr := ⟨⟨0, [], 0, 0, []⟩⟩
    obtain ⟨f, hfz⟩ := Go.Deep.choose_lt each
    have hlen : ((List.range len).map f).length = len := by simp
    have hn : ∀ i, i < len → nthG ((List.range len).map f) i = f i := fun i hi => by rw [nthG_eq (by simpa using hi)]; simp
    refine ⟨(List.range len).map f, hlen.symm, ?_, by omega, fun y hy => ?_⟩
    · by_cases h0 : len = 0
      · left; subst h0; rfl
      · right
        obtain ⟨b, off, spot⟩ := x
        obtain ⟨_, ka, kc, ad, cp, c0, _⟩ := hfz 0 (by omega)
        have hspot : spot = none := by simpa [Addr.add] using World.cell?_spot c0
        subst hspot
        have eb : b < W.heap.size := by
          by_cases hb : b < W.heap.size
          · exact hb
          · have : W.heap[b]? = none := by simp; omega
            simp [World.cell?, Addr.add, this] at c0
        have ea : ∀ i, (⟨b, off, none⟩ : Addr).add i = ⟨b, off + i, none⟩ := fun i => by by_cases h : i = 0 <;> simp [Addr.add, h]
        refine ⟨b, off, rfl, eb, fun i hi => ?_⟩
        rw [hlen] at hi
        obtain ⟨_, ka, kc, ad, cp, c0, c1, c2, c3, c4, hkr, hr⟩ := hfz i hi
        rw [ea] at c0 c1 c2 c3 c4
        rw [hn i hi]
        exact ⟨ka, kc, ad, cp, c0, c1, c2, c3, c4, hkr, hr⟩
    · obtain ⟨i, hi, rfl⟩ := List.mem_map.1 hy
      exact (hfz i (by simpa using hi)).1

theorem infoG : (Try.prog.info? 67).map (fun i => (i.zero, i.size, i.bytes)) = some (some (.agg #[.int .i64 0, .slice none 0 0, .int .i64 0, .int .i64 0, .slice none 0 0]), 5, 72) := by kernel_rfl
/-- a group in memory of the call's own -/
structure GRow where
  n : Int
  K : Nat
  kd : Nat
  key : List Lab
  b : Int
  t : Int
  M : Nat
  o : Nat
  c : Nat
  rs : List ARow
def GRow.gr (x : GRow) : PGr := ⟨x.n, x.key, x.b, x.t, pals x.rs⟩
def GRow.blks (x : GRow) (k : Nat) : Prop := gblks x.K x.M x.rs k
def grs (us : List GRow) : List PGr := us.map GRow.gr
def nthR (us : List GRow) (i : Nat) : GRow := us.getD i ⟨0, 0, 0, [], 0, 0, 0, 0, 0, []⟩
theorem nthR_eq {us : List GRow} {i : Nat} (h : i < us.length) : nthR us i = us[i] := by unfold nthR; simp [h]
theorem nthR_mem {us : List GRow} {i : Nat} (h : i < us.length) : nthR us i ∈ us := by rw [nthR_eq h]; exact List.getElem_mem _
theorem grs_len (us : List GRow) : (grs us).length = us.length := by simp [grs]
theorem grs_nth {us : List GRow} {i : Nat} (h : i < us.length) : nthG (grs us) i = (nthR us i).gr := by
  rw [nthG_eq (by rw [grs_len]; exact h), nthR_eq h]
  simp [grs]
theorem grs_app (us vs : List GRow) : grs (us ++ vs) = grs us ++ grs vs := by simp [grs]
theorem nthR_app_lt {us vs : List GRow} {i : Nat} (h : i < us.length) : nthR (us ++ vs) i = nthR us i := by
  rw [nthR_eq (by simp; omega), nthR_eq h, List.getElem_append_left h]
theorem nthR_app_eq (us : List GRow) (x : GRow) : nthR (us ++ [x]) us.length = x := by
  rw [nthR_eq (by simp)]; simp
structure Cel5 (f : Nat → Option Value) (i : Nat) (x : GRow) : Prop where
  e0 : f (i * 5) = some (.int .i64 x.n)
  e1 : f (i * 5 + 1) = some (.slice (some ⟨x.K, 0, none⟩) x.key.length x.kd)
  e2 : f (i * 5 + 2) = some (.int .i64 x.b)
  e3 : f (i * 5 + 3) = some (.int .i64 x.t)
  e4 : f (i * 5 + 4) = some (.slice (some ⟨x.M, x.o, none⟩) x.rs.length x.c)
theorem Cel5.congr {f g : Nat → Option Value} {i j : Nat} {x : GRow} (h : Cel5 f i x) (e : ∀ k, k < 5 → g (j * 5 + k) = f (i * 5 + k)) : Cel5 g j x :=
  ⟨by have := e 0 (by omega); rw [Nat.add_zero, Nat.add_zero] at this; rw [this]; exact h.e0, by rw [e 1 (by omega)]; exact h.e1, by rw [e 2 (by omega)]; exact h.e2, by rw [e 3 (by omega)]; exact h.e3, by rw [e 4 (by omega)]; exact h.e4⟩
def rowG (x : GRow) : List Value := [.int .i64 x.n, .slice (some ⟨x.K, 0, none⟩) x.key.length x.kd, .int .i64 x.b, .int .i64 x.t, .slice (some ⟨x.M, x.o, none⟩) x.rs.length x.c]
theorem rowG_one (x : GRow) : ∀ v ∈ rowG x, v.oneCell' = true := fun v hv => by
  simp only [rowG, List.mem_cons, List.not_mem_nil, or_false] at hv
  rcases hv with rfl | rfl | rfl | rfl | rfl <;> rfl
/-- the rows, no two of which share a block -/
structure RowsG (lo : Nat) (w : World) (us : List GRow) : Prop where
  rows : ∀ x ∈ us, GB lo w x.K x.key x.M x.o x.rs
  ne : us.Pairwise fun x y => ∀ k, x.blks k → ¬ y.blks k
theorem gb_moved {lo : Nat} {w w' : World} {K M o : Nat} {key : List Lab} {rs : List ARow} (h : GB lo w K key M o rs) (hm : Moved w w') : GB lo w' K key M o rs := by
  obtain ⟨h0, cs, h1, h2⟩ := h.key
  exact ⟨⟨h0, cs, hm.L h1, h2⟩, ao_moved h.row hm, h.ne⟩
theorem RowsG.nil (lo : Nat) (w : World) : RowsG lo w [] := ⟨fun x hx => by simp at hx, List.Pairwise.nil⟩
theorem RowsG.moved {lo : Nat} {w w' : World} {us : List GRow} (h : RowsG lo w us) (hm : Moved w w') : RowsG lo w' us := ⟨fun x hx => gb_moved (h.rows x hx) hm, h.ne⟩
theorem RowsG.grow {lo : Nat} {w w' : World} {us : List GRow} (h : RowsG lo w us) (hb : Below w.heap.size w w') : RowsG lo w' us := h.moved (Moved.of hb)
theorem RowsG.down {lo lo' : Nat} {w : World} {us : List GRow} (h : RowsG lo w us) (hl : lo' ≤ lo) : RowsG lo' w us := ⟨fun x hx => (h.rows x hx).down hl, h.ne⟩
theorem RowsG.cat {lo : Nat} {w : World} {us vs : List GRow} (h : RowsG lo w us) (hv : RowsG lo w vs) (hne : ∀ y ∈ us, ∀ z ∈ vs, ∀ k, y.blks k → ¬ z.blks k) : RowsG lo w (us ++ vs) := by
  refine ⟨fun y hy => ?_, ?_⟩
  · rcases List.mem_append.1 hy with hy | hy
    · exact h.rows y hy
    · exact hv.rows y hy
  · rw [List.pairwise_append]
    exact ⟨h.ne, hv.ne, fun a ha b hb => hne a ha b hb⟩
theorem RowsG.one {lo : Nat} {w : World} {x : GRow} (hx : GB lo w x.K x.key x.M x.o x.rs) : RowsG lo w [x] := ⟨fun y hy => by rw [List.mem_singleton.1 hy]; exact hx, List.pairwise_singleton _ _⟩
theorem RowsG.rng {lo : Nat} {w : World} {us : List GRow} (h : RowsG lo w us) {x : GRow} (hx : x ∈ us) (k : Nat) (hk : x.blks k) : lo ≤ k ∧ k < w.heap.size := (h.rows x hx).rng k hk
/-- rows that are younger than all of them -/
theorem RowsG.fresh {lo B : Nat} {w w' : World} {us vs : List GRow} (h : RowsG lo w us) (hv : RowsG B w' vs) (hB : w.heap.size ≤ B) : ∀ y ∈ us, ∀ z ∈ vs, ∀ k, y.blks k → ¬ z.blks k := fun y hy z hz k h1 h2 => by
  have := (h.rng hy k h1).2
  have := (hv.rng hz k h2).1
  omega
/-- groups lie in the row at block M, whose room is c -/
structure GsB (lo : Nat) (w : World) (M c : Nat) (us : List GRow) : Prop where
  at' : lo ≤ M
  cap : us.length ≤ c ∧ c ≤ maxLen
  outer : ∃ cur : Array Value, Blk w M cur 67 ∧ cur.size = c * 5 ∧ ∀ i, i < us.length → Cel5 (fun k => cur[k]?) i (nthR us i)
  rows : RowsG lo w us
theorem GsB.grow {lo : Nat} {w w' : World} {M c : Nat} {us : List GRow} (h : GsB lo w M c us) (hb : Below w.heap.size w w') : GsB lo w' M c us := by
  obtain ⟨cur, h1, h2⟩ := h.outer
  exact ⟨h.at', h.cap, ⟨cur, h1.grow hb, h2⟩, h.rows.grow hb⟩
theorem GsB.down {lo lo' : Nat} {w : World} {M c : Nat} {us : List GRow} (h : GsB lo w M c us) (hl : lo' ≤ lo) : GsB lo' w M c us := ⟨Nat.le_trans hl h.at', h.cap, h.outer, h.rows.down hl⟩
theorem GsB.lt {lo : Nat} {w : World} {M c : Nat} {us : List GRow} (h : GsB lo w M c us) : M < w.heap.size := by
  obtain ⟨cur, h1, _⟩ := h.outer
  exact h1.lt
theorem GsB.nil {lo : Nat} {w : World} {M : Nat} (h : Blk w M #[] 67) (hl : lo ≤ M) : GsB lo w M 0 [] :=
  ⟨hl, ⟨Nat.le_refl _, by simp [maxLen]⟩, ⟨#[], h, rfl, fun i hi => by simp at hi⟩, RowsG.nil _ _⟩
def CapsG (us : List GRow) : Prop := ∀ x ∈ us, x.rs.length ≤ x.c ∧ x.c ≤ maxLen
theorem GsB.rd {lo : Nat} {w : World} {M c : Nat} {us : List GRow} (h : GsB lo w M c us) : RdGs GA w (some ⟨M, 0, none⟩) (grs us) := by
  obtain ⟨cur, h1, h2, h3⟩ := h.outer
  refine .inr ⟨M, 0, rfl, h1.lt, fun i hi => ?_⟩
  rw [grs_len] at hi
  have hc := h3 i hi
  have hg := h.rows.rows _ (nthR_mem hi)
  refine ⟨some ⟨(nthR us i).K, 0, none⟩, (nthR us i).kd, some ⟨(nthR us i).M, (nthR us i).o, none⟩, (nthR us i).c, ?_⟩
  rw [grs_nth hi]
  exact ⟨by rw [h1.cell, Nat.zero_add]; exact hc.e0, by rw [h1.cell, Nat.zero_add]; exact hc.e1, by rw [h1.cell, Nat.zero_add]; exact hc.e2, by rw [h1.cell, Nat.zero_add]; exact hc.e3, by rw [h1.cell, Nat.zero_add, GRow.gr, pals_len]; exact hc.e4, hg.key.rd, hg.row.rd.rd⟩
theorem GsB.rn {lo : Nat} {w : World} {M c : Nat} {us : List GRow} (h : GsB lo w M c us) (hcap : CapsG us) : RdGs GN w (some ⟨M, 0, none⟩) (grs us) := by
  obtain ⟨cur, h1, h2, h3⟩ := h.outer
  refine .inr ⟨M, 0, rfl, h1.lt, fun i hi => ?_⟩
  rw [grs_len] at hi
  have hc := h3 i hi
  have hg := h.rows.rows _ (nthR_mem hi)
  refine ⟨some ⟨(nthR us i).K, 0, none⟩, (nthR us i).kd, some ⟨(nthR us i).M, (nthR us i).o, none⟩, (nthR us i).c, ?_⟩
  rw [grs_nth hi]
  exact ⟨by rw [h1.cell, Nat.zero_add]; exact hc.e0, by rw [h1.cell, Nat.zero_add]; exact hc.e1, by rw [h1.cell, Nat.zero_add]; exact hc.e2, by rw [h1.cell, Nat.zero_add]; exact hc.e3, by rw [h1.cell, Nat.zero_add, GRow.gr, pals_len]; exact hc.e4, ⟨_, _, rfl⟩, ⟨_, _, rfl⟩, by show (pals _).length ≤ _ ∧ _; rw [pals_len]; exact hcap _ (nthR_mem hi), hg.key.rd, hg.row.rd⟩
theorem GsB.own {lo : Nat} {w : World} {M c : Nat} {us : List GRow} (h : GsB lo w M c us) : ∃ xs : List Value, w.ownsRow lo 67 5 (.slice (some ⟨M, 0, none⟩) us.length c) us.length xs ∧ xs.length = us.length * 5 ∧ ∀ i, i < us.length → Cel5 (fun k => xs[k]?) i (nthR us i) := by
  obtain ⟨cur, h1, h2, h3⟩ := h.outer
  have hc := h.cap
  have hlen : (cur.toList.take (us.length * 5)).length = us.length * 5 := by simp; omega
  refine ⟨cur.toList.take (us.length * 5), ⟨hlen, .inr ⟨M, c, cur, rfl, h.at', h1, hc.1, hc.2, h2, rfl⟩⟩, hlen, fun i hi => ?_⟩
  refine (h3 i hi).congr fun k hk => ?_
  show (cur.toList.take _)[i * 5 + k]? = cur[i * 5 + k]?
  rw [List.getElem?_take_of_lt (by omega)]
  simp
/-- some rows behind a row -/
theorem GsB.app {lo : Nat} {W w' : World} {M c : Nat} {us vs : List GRow} {xs ys : List Value} {v' : Value} (h : GsB lo W M c us) (hv : RowsG lo W vs) (hne : ∀ y ∈ us, ∀ z ∈ vs, ∀ k, y.blks k → ¬ z.blks k) (hl : xs.length = us.length * 5) (hxs : ∀ i, i < us.length → Cel5 (fun k => xs[k]?) i (nthR us i))
    (hly : ys.length = vs.length * 5) (hys : ∀ i, i < vs.length → Cel5 (fun k => ys[k]?) i (nthR vs i)) (h0 : 0 < vs.length ∨ v' ≠ .slice none 0 0)
    (hown : w'.ownsRow lo 67 5 v' (us.length + vs.length) (xs ++ ys)) (hg : W.grownBy w' (some M)) : ∃ M' c', v' = .slice (some ⟨M', 0, none⟩) (us.length + vs.length) c' ∧ GsB lo w' M' c' (us ++ vs) := by
  rcases hown.2 with ⟨e0, e⟩ | ⟨g, cap, cur, e, hb, hgb, hc, hm, hz, ht⟩
  · rcases h0 with h0 | h0
    · omega
    · exact absurd e0 h0
  · obtain ⟨cu0, hcu0, _⟩ := h.outer
    have hmv : Moved W w' := Moved.far hcu0 (by decide) (by decide) hg
    refine ⟨g, cap, e, hb, ⟨by simp; omega, hm⟩, ⟨cur, hgb, hz, fun i hi => ?_⟩, (h.rows.cat hv hne).moved hmv⟩
    have at' : ∀ k, k < (us.length + vs.length) * 5 → cur[k]? = (xs ++ ys)[k]? := fun k hk => by
      rw [← ht, List.getElem?_take_of_lt hk]; simp
    simp at hi
    by_cases hlt : i < us.length
    · rw [nthR_app_lt hlt]
      refine (hxs i hlt).congr fun k hk => ?_
      show cur[i * 5 + k]? = xs[i * 5 + k]?
      rw [at' _ (by omega), List.getElem?_append_left (by omega)]
    · have e2 : nthR (us ++ vs) i = nthR vs (i - us.length) := by
        rw [nthR_eq (by simp; omega), nthR_eq (by omega), List.getElem_append_right (by omega)]
      rw [e2]
      refine (hys (i - us.length) (by omega)).congr fun k hk => ?_
      show cur[i * 5 + k]? = ys[(i - us.length) * 5 + k]?
      rw [at' _ (by omega), List.getElem?_append_right (by omega), hl]
      congr 1; omega
theorem row_cel (x : GRow) : ∀ i, i < [x].length → Cel5 (fun k => (rowG x)[k]?) i (nthR [x] i) := fun i hi => by
  have : i = 0 := by simpa using hi
  subst this
  exact ⟨rfl, rfl, rfl, rfl, rfl⟩
/-- one is written at a place -/
def put5C (cs : Array Value) (k : Nat) (x : GRow) : Array Value := ((((cs.setIfInBounds (k * 5) (.int .i64 x.n)).setIfInBounds (k * 5 + 1) (.slice (some ⟨x.K, 0, none⟩) x.key.length x.kd)).setIfInBounds (k * 5 + 2) (.int .i64 x.b)).setIfInBounds (k * 5 + 3) (.int .i64 x.t)).setIfInBounds (k * 5 + 4) (.slice (some ⟨x.M, x.o, none⟩) x.rs.length x.c)
def put5W (w : World) (M k : Nat) (x : GRow) : World := ((((w.setCell ⟨M, k * 5, none⟩ (.int .i64 x.n)).setCell ⟨M, k * 5 + 1, none⟩ (.slice (some ⟨x.K, 0, none⟩) x.key.length x.kd)).setCell ⟨M, k * 5 + 2, none⟩ (.int .i64 x.b)).setCell ⟨M, k * 5 + 3, none⟩ (.int .i64 x.t)).setCell ⟨M, k * 5 + 4, none⟩ (.slice (some ⟨x.M, x.o, none⟩) x.rs.length x.c)
theorem put5_at {cs : Array Value} {k : Nat} {x : GRow} (h : k * 5 + 4 < cs.size) : Cel5 (fun j => (put5C cs k x)[j]?) k x := by
  unfold put5C
  refine ⟨?_, ?_, ?_, ?_, ?_⟩
  · show (Array.setIfInBounds _ _ _)[_]? = _; rw [set_ne (by omega), set_ne (by omega), set_ne (by omega), set_ne (by omega), set_at (by omega)]
  · show (Array.setIfInBounds _ _ _)[_]? = _; rw [set_ne (by omega), set_ne (by omega), set_ne (by omega), set_at (by simp; omega)]
  · show (Array.setIfInBounds _ _ _)[_]? = _; rw [set_ne (by omega), set_ne (by omega), set_at (by simp; omega)]
  · show (Array.setIfInBounds _ _ _)[_]? = _; rw [set_ne (by omega), set_at (by simp; omega)]
  · show (Array.setIfInBounds _ _ _)[_]? = _; rw [set_at (by simp; omega)]
theorem put5_ne {cs : Array Value} {k j : Nat} {x : GRow} (h : j < k * 5 ∨ k * 5 + 5 ≤ j) : (put5C cs k x)[j]? = cs[j]? := by
  unfold put5C
  rw [set_ne (by omega), set_ne (by omega), set_ne (by omega), set_ne (by omega), set_ne (by omega)]
theorem put5_size (cs : Array Value) (k : Nat) (x : GRow) : (put5C cs k x).size = cs.size := by simp [put5C]
theorem put5W_blk {w : World} {M k : Nat} {x : GRow} {cs : Array Value} {T : TypeId} (h : Blk w M cs T) : Blk (put5W w M k x) M (put5C cs k x) T := ((((h.set _ _).set _ _).set _ _).set _ _).set _ _
theorem put5W_moved {w : World} {M k : Nat} {x : GRow} {cs : Array Value} (h : Blk w M cs 67) : Moved w (put5W w M k x) :=
  (((((Moved.set h (by decide) (by decide) _ _).trans (Moved.set (h.set _ _) (by decide) (by decide) _ _)).trans (Moved.set ((h.set _ _).set _ _) (by decide) (by decide) _ _)).trans (Moved.set (((h.set _ _).set _ _).set _ _) (by decide) (by decide) _ _)).trans (Moved.set ((((h.set _ _).set _ _).set _ _).set _ _) (by decide) (by decide) _ _))
theorem put5W_low {w w' : World} {B M k : Nat} {x : GRow} (h : Below B w w') (hM : B ≤ M) : Below B w (put5W w' M k x) := ((((h.setCell (p := ⟨M, _, none⟩) hM _).setCell (p := ⟨M, _, none⟩) hM _).setCell (p := ⟨M, _, none⟩) hM _).setCell (p := ⟨M, _, none⟩) hM _).setCell (p := ⟨M, _, none⟩) hM _
/-- the row while it is filled -/
structure FillG (lo : Nat) (w : World) (M : Nat) (U : List PGr) (k : Nat) (cur : Array Value) (us : List GRow) : Prop where
  blk : Blk w M cur 67
  size : cur.size = U.length * 5
  len : us.length = k
  gr : grs us = U.take k
  cell : ∀ i, i < k → Cel5 (fun j => cur[j]?) i (nthR us i)
  rows : RowsG lo w us
  caps : CapsG us
theorem FillG.grow {lo : Nat} {w w' : World} {M : Nat} {U : List PGr} {k : Nat} {cur : Array Value} {us : List GRow} (h : FillG lo w M U k cur us) (hb : Below w.heap.size w w') : FillG lo w' M U k cur us :=
  ⟨h.blk.grow hb, h.size, h.len, h.gr, h.cell, h.rows.grow hb, h.caps⟩
theorem FillG.next {lo : Nat} {w : World} {M : Nat} {U : List PGr} {k : Nat} {cur : Array Value} {us : List GRow} {x : GRow} (h : FillG lo w M U k cur us) (hk : k < U.length) (hx : RowsG lo w [x]) (hp : x.gr = nthG U k) (hc : x.rs.length ≤ x.c ∧ x.c ≤ maxLen) (hne : ∀ y ∈ us, ∀ z ∈ [x], ∀ k, y.blks k → ¬ z.blks k) :
    FillG lo (put5W w M k x) M U (k + 1) (put5C cur k x) (us ++ [x]) := by
  have hl := h.len
  have hs := h.size
  refine ⟨put5W_blk h.blk, by rw [put5_size]; exact hs, by simp [hl], by rw [grs_app, h.gr, takeG_up hk, ← hp]; rfl, fun i hi => ?_, (h.rows.cat hx hne).moved (put5W_moved h.blk), fun y hy => ?_⟩
  · by_cases e : i < k
    · rw [nthR_app_lt (by omega)]
      exact (h.cell i e).congr fun j hj => put5_ne (by omega)
    · have : i = us.length := by omega
      subst this
      rw [nthR_app_eq, hl]
      exact put5_at (by omega)
  · rcases List.mem_append.1 hy with hy | hy
    · exact h.caps y hy
    · rw [List.mem_singleton.1 hy]; exact hc
theorem FillG.gs {lo : Nat} {w : World} {M : Nat} {U : List PGr} {cur : Array Value} {us : List GRow} (h : FillG lo w M U U.length cur us) (hlo : lo ≤ M) (hl : U.length ≤ 1048576) : GsB lo w M U.length us ∧ grs us = U ∧ CapsG us :=
  ⟨⟨hlo, ⟨by rw [h.len]; exact Nat.le_refl _, by unfold maxLen; omega⟩, ⟨cur, h.blk, h.size, fun i hi => h.cell i (by rw [← h.len]; exact hi)⟩, h.rows⟩, by rw [h.gr]; exact List.take_length, h.caps⟩
theorem five_cells {w : World} {M : Nat} {cs : Array Value} {T : TypeId} (h : Blk w M cs T) (k : Nat) (hk : k * 5 + 4 < cs.size) : ∃ v0 v1 v2 v3 v4, w.cell? ⟨M, k * 5, none⟩ = some v0 ∧ w.cell? ⟨M, k * 5 + 1, none⟩ = some v1 ∧ w.cell? ⟨M, k * 5 + 2, none⟩ = some v2 ∧ w.cell? ⟨M, k * 5 + 3, none⟩ = some v3 ∧ w.cell? ⟨M, k * 5 + 4, none⟩ = some v4 :=
  ⟨cs[k * 5]'(by omega), cs[k * 5 + 1]'(by omega), cs[k * 5 + 2]'(by omega), cs[k * 5 + 3]'(by omega), cs[k * 5 + 4]'(by omega), by rw [h.cell]; simp, by rw [h.cell]; simp, by rw [h.cell]; simp, by rw [h.cell]; simp, by rw [h.cell]; simp⟩

set_option maxHeartbeats 3200000 in
theorem toGs_any (a : Option Addr) (cap : Nat) (U : List PGr) (w : World) (hr : RdGs GA w a U) (hl : U.length ≤ 1048576) (hs : sumG U ≤ 1048576) :
    Calls Try.prog 11 #[.slice a U.length cap] w fun e w' => e = .returned (.slice (some ⟨w.heap.size, 0, none⟩) U.length U.length) ∧ (∃ us, GsB w.heap.size w' w.heap.size U.length us ∧ grs us = U ∧ CapsG us) ∧ Below w.heap.size w w' := by
  have HR : Hid (RdGs GA w a U) := hr
  have HS : Hid (sumG U ≤ 1048576) := hs
  clear hr hs
  have hmk := make_k (P := Try.prog) 27 67 (.agg #[.int .i64 0, .slice none 0 0, .int .i64 0, .int .i64 0, .slice none 0 0]) 5 72 Try.underlying27 infoG .i64 .i64 U.length (by omega) (by omega)
  go_enter Try.func11, Try.ntmps11
  go_wp2
  go_loopw [4] (fun i w' => ∃ (k : Nat) (cur : Array Value) (us : List GRow), k ≤ U.length ∧ i = .int .i64 k ∧ FillG w.heap.size w' w.heap.size U k cur us ∧ Below w.heap.size w w') (fun i _ => U.length - (intOf i).toNat)
  case atStart => exact ⟨0, _, [], Nat.zero_le _, rfl, ⟨Blk.new _ _ _, by simp [size_madeCells], rfl, rfl, fun i h => by omega, RowsG.nil _ _, fun x hx => by simp at hx⟩, (Below.refl _ _).alloc (Nat.le_refl _) _⟩
  case round =>
    clear hmk
    obtain ⟨k, cur, us, hk, rfl, hC, hw0⟩ := hrel
    have HB : Hid (Below w.heap.size w wr) := hw0
    have HC : Hid (FillG w.heap.size wr w.heap.size U k cur us) := hC
    clear hC hw0
    by_cases hlt : k < U.length
    · have hlt' : (k : Int) < (U.length : Int) := by omega
      obtain ⟨b, off, rfl, hb, ka, kc, ad, cp, hat⟩ := (HR.out.below stays_ga HB.out).get hlt
      have h2 := hat.c0
      have h3 := hat.c1
      have h4 := hat.c2
      have h5 := hat.c3
      have h6 := hat.c4
      have HA : Hid (Reads wr ka (nthG U k).key ∧ RdA wr ad (nthG U k).P) := hat.reads
      have HS1 : Hid ((nthG U k).key.length ≤ 1048576 ∧ (nthG U k).P.length ≤ 1048576 ∧ sumL (nthG U k).P ≤ 1048576) := by have := sumG_nth hlt; have := HS.out; unfold oneG at *; refine ⟨?_, ?_, ?_⟩ <;> omega
      clear hat
      go_wp2_with fail
      refine (toGroup_any _ _ _ ka kc _ ad cp _ _ HA.out.1 HS1.out.1 HA.out.2 HS1.out.2.1 HS1.out.2.2).mono ?_
      rintro e w1 ⟨⟨K1, M1, rs, rfl, hgb, hab, hp⟩, hb1⟩
      have HB1 : Hid (Below w.heap.size w w1) := grow_on HB.out hb1
      have hC1 : FillG w.heap.size w1 w.heap.size U k cur us := HC.out.grow hb1
      have hrl : rs.length = (nthG U k).P.length := by rw [← pals_len, hp]
      have hro : RowsG wr.heap.size w1 [⟨(nthG U k).n, K1, (nthG U k).key.length, (nthG U k).key, (nthG U k).b, (nthG U k).t, M1, 0, (nthG U k).P.length, rs⟩] := RowsG.one (x := ⟨(nthG U k).n, K1, (nthG U k).key.length, (nthG U k).key, (nthG U k).b, (nthG U k).t, M1, 0, (nthG U k).P.length, rs⟩) (hgb.down (by omega))
      have HN := hC1.next hlt (hro.down HB.out.size) (by unfold GRow.gr; rw [hp]) (by show rs.length ≤ (nthG U k).P.length ∧ (nthG U k).P.length ≤ maxLen; rw [hrl]; exact ⟨Nat.le_refl _, by have := HS1.out.2.1; unfold maxLen; omega⟩) (HC.out.rows.fresh hro (Nat.le_refl _))
      unfold put5W put5C at HN
      rw [hrl] at HN
      have HC2 : Hid _ := HN
      obtain ⟨v0, v1, v2, v3, v4, c0, c1, c2, c3, c4⟩ := five_cells hC1.blk k (by rw [hC1.size]; omega)
      have f0 := hC1.blk.frozen (k * 5)
      have f1 := hC1.blk.frozen (k * 5 + 1)
      have f2 := hC1.blk.frozen (k * 5 + 2)
      have f3 := hC1.blk.frozen (k * 5 + 3)
      have f4 := hC1.blk.frozen (k * 5 + 4)
      clear hb1 h2 h3 h4 h5 h6 hC1 HN hab hgb hp hrl hro
      go_wp2
      go_roundw
      case rel => exact ⟨k + 1, _, _, by omega, by go_num, HC2.out, ((((HB1.out.setCell (Nat.le_refl _) _).setCell (Nat.le_refl _) _).setCell (Nat.le_refl _) _).setCell (Nat.le_refl _) _).setCell (Nat.le_refl _) _⟩
      case measure => simp [intOf]; omega
    · have hge : ¬ (k : Int) < (U.length : Int) := by omega
      have HE : Hid (k = U.length) := by show k = U.length; omega
      go_wp2
      go_ret
      have hF := HC.out
      rw [HE.out] at hF
      exact ⟨rfl, ⟨us, hF.gs (Nat.le_refl _) hl⟩, HB.out⟩
end Go.Proofs.Ytgncimlojbnbfaa.Gps
