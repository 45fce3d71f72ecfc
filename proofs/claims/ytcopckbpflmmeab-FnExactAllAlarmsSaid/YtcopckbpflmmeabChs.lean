/-
  PROVED: slices of chains: what one that came in is; the size that szChainS and szPart count, the copy that toChainS and toPart make, that eqChainS and eqPart find two of the same alike; rows of chains in memory of a call's own, read, grown by an append, written at a place.
-/
import Derived.Test.YtcopckbpflmmeabChnK
namespace Go.Proofs.Ytcopckbpflmmeab.Chs
open Go.RowKit
open Go.ChangeShapes Go.WideShapes
open Go.Proofs.Ytcopckbpflmmeab.Labs Go.Proofs.Ytcopckbpflmmeab.LabS Go.Proofs.Ytcopckbpflmmeab.Alms Go.Proofs.Ytcopckbpflmmeab.AlmS Go.Proofs.Ytcopckbpflmmeab.AlmM Go.Proofs.Ytcopckbpflmmeab.Over Go.Proofs.Ytcopckbpflmmeab.Blk Go.Proofs.Ytcopckbpflmmeab.App Go.Proofs.Ytcopckbpflmmeab.Rws Go.Proofs.Ytcopckbpflmmeab.ChnI Go.Proofs.Ytcopckbpflmmeab.ChnC Go.Proofs.Ytcopckbpflmmeab.ChnP Go.Proofs.Ytcopckbpflmmeab.ChnK
open Go.Proofs.Ytcopckbpflmmeab.StrB (retB)
set_option linter.unusedVariables false

/-- a chain, plain -/
structure PCh where
  f : Int
  P : List PAl
def nthC (C : List PCh) (i : Nat) : PCh := C.getD i ⟨0, []⟩
theorem nthC_eq {C : List PCh} {i : Nat} (h : i < C.length) : nthC C i = C[i] := by unfold nthC; simp [h]
theorem nthC_mem {C : List PCh} {i : Nat} (h : i < C.length) : nthC C i ∈ C := by rw [nthC_eq h]; exact List.getElem_mem _
theorem takeC_up {C : List PCh} {k : Nat} (h : k < C.length) : C.take (k + 1) = C.take k ++ [nthC C k] := by
  rw [nthC_eq h, List.take_succ_eq_append_getElem h]
/-- the cells of the i-th chain, and its alarms -/
structure AtC (R : World → Option Addr → List PAl → Prop) (w : World) (b off i : Nat) (x : PCh) (ad : Option Addr) (cap : Nat) : Prop where
  c0 : w.cell? ⟨b, off + i * 2, none⟩ = some (.int .i64 x.f)
  c1 : w.cell? ⟨b, off + i * 2 + 1, none⟩ = some (.slice ad x.P.length cap)
  reads : R w ad x.P
theorem AtC.below {R : World → Option Addr → List PAl → Prop} (hR : Stays R) {w w' : World} {b off i : Nat} {x : PCh} {ad : Option Addr} {cap : Nat} (h : AtC R w b off i x ad cap) (hb : Below w.heap.size w w') (hlt : b < w.heap.size) : AtC R w' b off i x ad cap :=
  ⟨(hb.cell (p := ⟨b, off + i * 2, none⟩) hlt).trans h.c0, (hb.cell (p := ⟨b, off + i * 2 + 1, none⟩) hlt).trans h.c1, hR _ _ _ _ h.reads hb⟩
/-- a slice's cells hold these chains -/
def RdG (R : World → Option Addr → List PAl → Prop) (w : World) (a : Option Addr) (C : List PCh) : Prop :=
  C = [] ∨ ∃ b off, a = some ⟨b, off, none⟩ ∧ b < w.heap.size ∧ ∀ i, i < C.length → ∃ ad cap, AtC R w b off i (nthC C i) ad cap
theorem RdG.below {R : World → Option Addr → List PAl → Prop} (hR : Stays R) {w w' : World} {a : Option Addr} {C : List PCh} (h : RdG R w a C) (hb : Below w.heap.size w w') : RdG R w' a C := by
  rcases h with h | ⟨b, off, rfl, hlt, hc⟩
  · exact .inl h
  · exact .inr ⟨b, off, rfl, Nat.lt_of_lt_of_le hlt hb.size, fun i hi => by
      obtain ⟨ad, cap, h⟩ := hc i hi
      exact ⟨ad, cap, h.below hR hb hlt⟩⟩
theorem RdG.get {R : World → Option Addr → List PAl → Prop} {w : World} {a : Option Addr} {C : List PCh} (h : RdG R w a C) {i : Nat} (hi : i < C.length) :
    ∃ b off, a = some ⟨b, off, none⟩ ∧ b < w.heap.size ∧ ∃ ad cap, AtC R w b off i (nthC C i) ad cap := by
  rcases h with h | ⟨b, off, e, hb, h⟩
  · rw [h] at hi; simp at hi
  · exact ⟨b, off, e, hb, h i hi⟩
theorem RdG.imp {R R' : World → Option Addr → List PAl → Prop} {w : World} {a : Option Addr} {C : List PCh} (h : RdG R w a C) (hi : ∀ a P, R w a P → R' w a P) : RdG R' w a C := by
  rcases h with h | ⟨b, off, e, hb, h⟩
  · exact .inl h
  · exact .inr ⟨b, off, e, hb, fun i hi' => by obtain ⟨ad, cap, h⟩ := h i hi'; exact ⟨ad, cap, h.c0, h.c1, hi _ _ h.reads⟩⟩
theorem RdG.rd {w : World} {a : Option Addr} {C : List PCh} (h : RdG RdN w a C) : RdG RdA w a C := h.imp fun _ _ h => h.rd
/-- each of them is of its kind -/
structure FitC (x : PCh) : Prop where
  fb : -9223372036854775808 ≤ x.f ∧ x.f ≤ 9223372036854775807
  len : x.P.length ≤ maxLen
  fits : FitsP x.P
def FitsC (C : List PCh) : Prop := ∀ x ∈ C, FitC x
/-- how many alarms and labels they have, together -/
def sumC : List PCh → Nat
  | [] => 0
  | x :: C => x.P.length + sumL x.P + sumC C
theorem sumC_app (p q : List PCh) : sumC (p ++ q) = sumC p + sumC q := by
  induction p with
  | nil => simp [sumC]
  | cons x p ih => rw [List.cons_append, sumC, ih, sumC]; omega
theorem sumC_up {C : List PCh} {k : Nat} (h : k < C.length) : sumC (C.take (k + 1)) = sumC (C.take k) + (nthC C k).P.length + sumL (nthC C k).P := by
  rw [takeC_up h, sumC_app]; simp [sumC]; omega
theorem sumC_all {C : List PCh} {k : Nat} (h : C.length ≤ k) : sumC (C.take k) = sumC C := by rw [List.take_of_length_le h]
theorem sumC_le (C : List PCh) (k : Nat) : sumC (C.take k) ≤ sumC C := by
  have := sumC_app (C.take k) (C.drop k)
  rw [List.take_append_drop] at this
  omega
theorem sumC_mem {C : List PCh} {x : PCh} (h : x ∈ C) : x.P.length + sumL x.P ≤ sumC C := by
  induction C with
  | nil => simp at h
  | cons y C ih =>
    rw [sumC]
    rcases List.mem_cons.1 h with rfl | h
    · omega
    · have := ih h; omega
theorem sumC_nth {C : List PCh} {k : Nat} (h : k < C.length) : (nthC C k).P.length + sumL (nthC C k).P ≤ sumC C := sumC_mem (nthC_mem h)

set_option maxHeartbeats 800000 in
theorem szS_any (a : Option Addr) (cap : Nat) (C : List PCh) (left : Int) (w : World) (hr : RdG RdA w a C) (hl : C.length ≤ maxLen) (hz : FitsC C) (h0 : 0 ≤ left) (h1 : left ≤ 1048576) :
    Calls Try.prog 28 #[.slice a C.length cap, .int .i64 left] w fun e w' => (∃ n : Int, e = .returned (.int .i64 n) ∧ n ≤ left ∧ (0 ≤ n → n + (C.length : Int) + (sumC C : Int) ≤ left)) ∧ Below w.heap.size w w' := by
  unfold maxLen at hl
  have HR : Hid (RdG RdA w a C) := hr
  have HZ : Hid (FitsC C) := hz
  clear hr hz
  by_cases c : left - (C.length : Int) < 0
  · go_enter Try.func28, Try.ntmps28
    go_wp2
    go_ret
    exact ⟨⟨-1, rfl, by omega, fun h => by omega⟩, Below.refl _ _⟩
  · go_enter Try.func28, Try.ntmps28
    go_wp2
    go_loopw [1, 5] (fun m i w' => ∃ (k : Nat) (x : Int), k ≤ C.length ∧ i = .int .i64 k ∧ m = .int .i64 x ∧ 0 ≤ x ∧ x + (C.length : Int) + (sumC (C.take k) : Int) ≤ left ∧ Below w.heap.size w w') (fun _ i _ => C.length - (intOf i).toNat)
    case atStart => exact ⟨0, _, Nat.zero_le _, rfl, rfl, by omega, by simp [sumC], Below.refl _ _⟩
    case round =>
      obtain ⟨k, x, hk, rfl, rfl, hx0, hx1, hw0⟩ := hrel
      have HB : Hid (Below w.heap.size w wr) := hw0
      have HX : Hid (x + (C.length : Int) + (sumC (C.take k) : Int) ≤ left) := hx1
      have hx2 : x ≤ left := by omega
      clear hw0 hx1
      by_cases hlt : k < C.length
      · have hlt' : (k : Int) < (C.length : Int) := by omega
        obtain ⟨b, off, rfl, hb, ad, cp, hat⟩ := (HR.out.below stays_rd HB.out).get hlt
        have h2 := hat.c0
        have h3 := hat.c1
        have HA : Hid (RdA wr ad (nthC C k).P) := hat.reads
        have HU : Hid (sumC (C.take (k + 1)) = sumC (C.take k) + (nthC C k).P.length + sumL (nthC C k).P) := sumC_up hlt
        clear hat
        go_wp2_with fail
        refine (szC_any _ ad cp _ x _ HA.out (HZ.out _ (nthC_mem hlt)).len (HZ.out _ (nthC_mem hlt)).fits hx0 (by omega)).mono ?_
        rintro e w1 ⟨⟨y, rfl, hy, hyn⟩, hb1⟩
        have HB1 : Hid (Below w.heap.size w w1) := grow_on HB.out hb1
        clear hb1 h2 h3
        by_cases hn : y < 0
        · clear hyn
          go_wp2
          go_ret
          exact ⟨⟨-1, rfl, by omega, fun h => by omega⟩, HB1.out⟩
        · have HY : Hid (y + ((nthC C k).P.length : Int) + (sumL (nthC C k).P : Int) ≤ x) := hyn (by omega)
          clear hyn
          go_wp2
          go_roundw
          case rel => exact ⟨k + 1, y, by omega, by go_num, rfl, by omega, by have h1 := HY.out; have h2 := HX.out; have h3 := HU.out; omega, HB1.out⟩
          case measure => simp [intOf]; omega
      · have hge : ¬ (k : Int) < (C.length : Int) := by omega
        have HE : Hid (sumC (C.take k) = sumC C) := sumC_all (by omega)
        go_wp2
        go_ret
        exact ⟨⟨_, rfl, by omega, fun h => by have h1 := HX.out; have h2 := HE.out; omega⟩, HB.out⟩

theorem szPart_any (hd vr : Int) (a : Option Addr) (cap : Nat) (C : List PCh) (left : Int) (w : World) (hr : RdG RdA w a C) (hl : C.length ≤ maxLen) (hz : FitsC C) (h0 : 0 ≤ left) (h1 : left ≤ 1048576) :
    Calls Try.prog 7 #[.agg #[.int .i64 hd, .int .i64 vr, .slice a C.length cap], .int .i64 left] w fun e w' => (∃ n : Int, e = .returned (.int .i64 n) ∧ n ≤ left ∧ (0 ≤ n → n + (C.length : Int) + (sumC C : Int) ≤ left)) ∧ Below w.heap.size w w' := by
  have HR : Hid (RdG RdA w a C ∧ C.length ≤ maxLen ∧ FitsC C) := ⟨hr, hl, hz⟩
  clear hr hl hz
  go_enter Try.func7, Try.ntmps7
  go_wp2_with fail
  refine (szS_any a cap C left _ (HR.out.1.below stays_rd (Go.Joins.below_alloc1 w _)) HR.out.2.1 HR.out.2.2 h0 h1).mono ?_
  rintro r w1 ⟨⟨n, rfl, hn, hn2⟩, hb⟩
  have HB : Hid (Below w.heap.size w w1) := grow_on (Go.Joins.below_alloc1 w _) hb
  have HN : Hid (0 ≤ n → n + (C.length : Int) + (sumC C : Int) ≤ left) := hn2
  clear hb hn2
  by_cases g : n < 0
  · go_wp2
    go_ret
    exact ⟨⟨-1, rfl, by omega, fun h => by omega⟩, HB.out⟩
  · go_wp2
    go_ret
    exact ⟨⟨_, rfl, hn, HN.out⟩, HB.out⟩

theorem infoC : (Try.prog.info? 52).map (fun i => (i.zero, i.size, i.bytes)) = some (some (.agg #[.int .i64 0, .slice none 0 0]), 2, 32) := by kernel_rfl

/-- a chain in memory of the call's own -/
structure CRow where
  f : Int
  M : Nat
  c : Nat
  rs : List ARow
def CRow.ch (x : CRow) : PCh := ⟨x.f, pals x.rs⟩
def chs (cs : List CRow) : List PCh := cs.map CRow.ch
def nthR (cs : List CRow) (i : Nat) : CRow := cs.getD i ⟨0, 0, 0, []⟩
theorem nthR_eq {cs : List CRow} {i : Nat} (h : i < cs.length) : nthR cs i = cs[i] := by unfold nthR; simp [h]
theorem nthR_mem {cs : List CRow} {i : Nat} (h : i < cs.length) : nthR cs i ∈ cs := by rw [nthR_eq h]; exact List.getElem_mem _
theorem chs_len (cs : List CRow) : (chs cs).length = cs.length := by simp [chs]
theorem chs_nth {cs : List CRow} {i : Nat} (h : i < cs.length) : nthC (chs cs) i = (nthR cs i).ch := by
  rw [nthC_eq (by rw [chs_len]; exact h), nthR_eq h]
  simp [chs]
theorem chs_app (cs : List CRow) (x : CRow) : chs (cs ++ [x]) = chs cs ++ [x.ch] := by simp [chs]
theorem nthR_app_lt {cs : List CRow} {x : CRow} {i : Nat} (h : i < cs.length) : nthR (cs ++ [x]) i = nthR cs i := by
  rw [nthR_eq (by simp; omega), nthR_eq h, List.getElem_append_left h]
theorem nthR_app_eq (cs : List CRow) (x : CRow) : nthR (cs ++ [x]) cs.length = x := by
  rw [nthR_eq (by simp)]; simp
def Cel (f : Nat → Option Value) (i : Nat) (x : CRow) : Prop := f (i * 2) = some (.int .i64 x.f) ∧ f (i * 2 + 1) = some (.slice (some ⟨x.M, 0, none⟩) x.rs.length x.c)
theorem Cel.congr {f g : Nat → Option Value} {i : Nat} {x : CRow} (h : Cel f i x) (e : ∀ k, i * 2 ≤ k → k < i * 2 + 2 → g k = f k) : Cel g i x :=
  ⟨by rw [e _ (by omega) (by omega)]; exact h.1, by rw [e _ (by omega) (by omega)]; exact h.2⟩
def rowC (x : CRow) : List Value := [.int .i64 x.f, .slice (some ⟨x.M, 0, none⟩) x.rs.length x.c]
theorem rowC_one (x : CRow) : ∀ v ∈ rowC x, v.oneCell' = true := fun v hv => by
  simp only [rowC, List.mem_cons, List.not_mem_nil, or_false] at hv
  rcases hv with rfl | rfl <;> rfl
/-- the rows of chains, no two of which share a block -/
structure RowsC (lo : Nat) (w : World) (cs : List CRow) : Prop where
  rows : ∀ x ∈ cs, AB lo w x.M x.c x.rs
  ne : cs.Pairwise fun x y => ∀ k, blks x.M x.rs k → ¬ blks y.M y.rs k
theorem RowsC.nil (lo : Nat) (w : World) : RowsC lo w [] := ⟨fun x hx => by simp at hx, List.Pairwise.nil⟩
theorem RowsC.moved {lo : Nat} {w w' : World} {cs : List CRow} (h : RowsC lo w cs) (hm : Moved w w') : RowsC lo w' cs := ⟨fun x hx => ab_moved (h.rows x hx) hm, h.ne⟩
theorem RowsC.grow {lo : Nat} {w w' : World} {cs : List CRow} (h : RowsC lo w cs) (hb : Below w.heap.size w w') : RowsC lo w' cs := h.moved (Moved.of hb)
theorem RowsC.down {lo lo' : Nat} {w : World} {cs : List CRow} (h : RowsC lo w cs) (hl : lo' ≤ lo) : RowsC lo' w cs := ⟨fun x hx => (h.rows x hx).down hl, h.ne⟩
theorem RowsC.app {lo : Nat} {w : World} {cs : List CRow} {x : CRow} (h : RowsC lo w cs) (hx : AB lo w x.M x.c x.rs) (hne : ∀ y ∈ cs, ∀ k, blks y.M y.rs k → ¬ blks x.M x.rs k) : RowsC lo w (cs ++ [x]) := by
  refine ⟨fun y hy => ?_, ?_⟩
  · rcases List.mem_append.1 hy with hy | hy
    · exact h.rows y hy
    · rw [List.mem_singleton.1 hy]; exact hx
  · rw [List.pairwise_append]
    exact ⟨h.ne, List.pairwise_singleton _ _, fun a ha b hb => by rw [List.mem_singleton.1 hb]; exact hne a ha⟩
/-- a row that is younger than all of them -/
theorem RowsC.fresh {lo B : Nat} {w w' : World} {cs : List CRow} {x : CRow} (h : RowsC lo w cs) (hx : AB B w' x.M x.c x.rs) (hB : w.heap.size ≤ B) : ∀ y ∈ cs, ∀ k, blks y.M y.rs k → ¬ blks x.M x.rs k := fun y hy k h1 h2 => by
  have := blks_high (h.rows y hy) k h1
  have := blks_low hx k h2
  omega
/-- the chains cs lie in the row at block M, whose room is c -/
structure CB (lo : Nat) (w : World) (M c : Nat) (cs : List CRow) : Prop where
  at' : lo ≤ M
  cap : cs.length ≤ c ∧ c ≤ maxLen
  outer : ∃ cur : Array Value, Blk w M cur 52 ∧ cur.size = c * 2 ∧ ∀ i, i < cs.length → Cel (fun k => cur[k]?) i (nthR cs i)
  rows : RowsC lo w cs
theorem CB.grow {lo : Nat} {w w' : World} {M c : Nat} {cs : List CRow} (h : CB lo w M c cs) (hb : Below w.heap.size w w') : CB lo w' M c cs := by
  obtain ⟨cur, h1, h2⟩ := h.outer
  exact ⟨h.at', h.cap, ⟨cur, h1.grow hb, h2⟩, h.rows.grow hb⟩
theorem CB.down {lo lo' : Nat} {w : World} {M c : Nat} {cs : List CRow} (h : CB lo w M c cs) (hl : lo' ≤ lo) : CB lo' w M c cs := ⟨Nat.le_trans hl h.at', h.cap, h.outer, h.rows.down hl⟩
theorem CB.lt {lo : Nat} {w : World} {M c : Nat} {cs : List CRow} (h : CB lo w M c cs) : M < w.heap.size := by
  obtain ⟨cur, h1, _⟩ := h.outer
  exact h1.lt
theorem CB.nil {lo : Nat} {w : World} {M : Nat} (h : Blk w M #[] 52) (hl : lo ≤ M) : CB lo w M 0 [] :=
  ⟨hl, ⟨Nat.le_refl _, by simp [maxLen]⟩, ⟨#[], h, rfl, fun i hi => by simp at hi⟩, RowsC.nil _ _⟩
theorem CB.rn {lo : Nat} {w : World} {M c : Nat} {cs : List CRow} (h : CB lo w M c cs) : RdG RdN w (some ⟨M, 0, none⟩) (chs cs) := by
  obtain ⟨cur, h1, h2, h3⟩ := h.outer
  refine .inr ⟨M, 0, rfl, h1.lt, fun i hi => ?_⟩
  rw [chs_len] at hi
  obtain ⟨c0, c1⟩ := h3 i hi
  refine ⟨some ⟨(nthR cs i).M, 0, none⟩, (nthR cs i).c, ?_⟩
  rw [chs_nth hi]
  exact ⟨by rw [h1.cell, Nat.zero_add]; exact c0, by rw [h1.cell, Nat.zero_add, CRow.ch, pals_len]; exact c1, (h.rows.rows _ (nthR_mem hi)).rd⟩
theorem CB.rd {lo : Nat} {w : World} {M c : Nat} {cs : List CRow} (h : CB lo w M c cs) : RdG RdA w (some ⟨M, 0, none⟩) (chs cs) := h.rn.rd
/-- what is another block of cells of another type is written -/
theorem CB.set {lo : Nat} {w : World} {M c N : Nat} {cs : List CRow} {ds : Array Value} {T : TypeId} (h : CB lo w M c cs) (hN : Blk w N ds T) (hA : T ≠ 68) (hL : T ≠ 94) (hne : N ≠ M) (i : Nat) (v : Value) : CB lo (w.setCell ⟨N, i, none⟩ v) M c cs := by
  obtain ⟨cur, h1, h2⟩ := h.outer
  exact ⟨h.at', h.cap, ⟨cur, h1.set_other hne _, h2⟩, h.rows.moved (Moved.set hN hA hL i v)⟩
/-- the row, as an append wants it -/
theorem CB.own {lo : Nat} {w : World} {M c : Nat} {cs : List CRow} (h : CB lo w M c cs) : ∃ xs : List Value, w.ownsRow lo 52 2 (.slice (some ⟨M, 0, none⟩) cs.length c) cs.length xs ∧ xs.length = cs.length * 2 ∧ ∀ i, i < cs.length → Cel (fun k => xs[k]?) i (nthR cs i) := by
  obtain ⟨cur, h1, h2, h3⟩ := h.outer
  have hc := h.cap
  have hlen : (cur.toList.take (cs.length * 2)).length = cs.length * 2 := by simp; omega
  refine ⟨cur.toList.take (cs.length * 2), ⟨hlen, .inr ⟨M, c, cur, rfl, h.at', h1, hc.1, hc.2, h2, rfl⟩⟩, hlen, fun i hi => ?_⟩
  refine (h3 i hi).congr fun k _ hk => ?_
  show (cur.toList.take _)[k]? = cur[k]?
  rw [List.getElem?_take_of_lt (by omega)]
  simp
theorem CB.app {lo : Nat} {W w' : World} {M c : Nat} {cs : List CRow} {x : CRow} {xs : List Value} {v' : Value} (h : CB lo W M c cs) (hx : AB lo W x.M x.c x.rs) (hne : ∀ y ∈ cs, ∀ k, blks y.M y.rs k → ¬ blks x.M x.rs k) (hl : xs.length = cs.length * 2) (hxs : ∀ i, i < cs.length → Cel (fun k => xs[k]?) i (nthR cs i))
    (hown : w'.ownsRow lo 52 2 v' (cs.length + 1) (xs ++ rowC x)) (hg : W.grownBy w' (some M)) : ∃ M' c', v' = .slice (some ⟨M', 0, none⟩) (cs.length + 1) c' ∧ CB lo w' M' c' (cs ++ [x]) := by
  rcases hown.2 with ⟨_, e⟩ | ⟨g, cap, cur, e, hb, hgb, hc, hm, hz, ht⟩
  · omega
  · obtain ⟨cu0, hcu0, _⟩ := h.outer
    have hmv : Moved W w' := Moved.far hcu0 (by decide) (by decide) hg
    refine ⟨g, cap, e, hb, ⟨by simp; omega, hm⟩, ⟨cur, hgb, hz, fun i hi => ?_⟩, (h.rows.app hx hne).moved hmv⟩
    have at' : ∀ k, k < (cs.length + 1) * 2 → cur[k]? = (xs ++ rowC x)[k]? := fun k hk => by
      rw [← ht, List.getElem?_take_of_lt hk]; simp
    simp at hi
    by_cases hlt : i < cs.length
    · rw [nthR_app_lt hlt]
      refine (hxs i hlt).congr fun k _ hk => ?_
      show cur[k]? = xs[k]?
      rw [at' k (by omega), List.getElem?_append_left (by omega)]
    · have ei : i = cs.length := by omega
      subst ei
      rw [nthR_app_eq]
      have hr : ∀ j, j < 2 → cur[cs.length * 2 + j]? = (rowC x)[j]? := fun j hj => by
        rw [at' _ (by omega), List.getElem?_append_right (by omega), hl]
        congr 1; omega
      exact ⟨hr 0 (by omega), hr 1 (by omega)⟩
/-- a chain is written at a place -/
def put2C (cs : Array Value) (k : Nat) (x : CRow) : Array Value := (cs.setIfInBounds (k * 2) (.int .i64 x.f)).setIfInBounds (k * 2 + 1) (.slice (some ⟨x.M, 0, none⟩) x.rs.length x.c)
def put2W (w : World) (M k : Nat) (x : CRow) : World := (w.setCell ⟨M, k * 2, none⟩ (.int .i64 x.f)).setCell ⟨M, k * 2 + 1, none⟩ (.slice (some ⟨x.M, 0, none⟩) x.rs.length x.c)
theorem put2_at {cs : Array Value} {k : Nat} {x : CRow} (h : k * 2 + 1 < cs.size) : Cel (fun j => (put2C cs k x)[j]?) k x := by
  unfold put2C
  exact ⟨by show (Array.setIfInBounds _ _ _)[_]? = _; rw [set_ne (by omega), set_at (by omega)], by show (Array.setIfInBounds _ _ _)[_]? = _; rw [set_at (by simp; omega)]⟩
theorem put2_ne {cs : Array Value} {k j : Nat} {x : CRow} (h : j < k * 2 ∨ k * 2 + 2 ≤ j) : (put2C cs k x)[j]? = cs[j]? := by
  unfold put2C
  rw [set_ne (by omega), set_ne (by omega)]
theorem put2_size (cs : Array Value) (k : Nat) (x : CRow) : (put2C cs k x).size = cs.size := by simp [put2C]
theorem put2W_blk {w : World} {M k : Nat} {x : CRow} {cs : Array Value} {T : TypeId} (h : Blk w M cs T) : Blk (put2W w M k x) M (put2C cs k x) T := (h.set _ _).set _ _
theorem put2W_low {w w' : World} {B M k : Nat} {x : CRow} (h : Below B w w') (hM : B ≤ M) : Below B w (put2W w' M k x) := (h.setCell hM _).setCell hM _
theorem put2W_moved {w : World} {M k : Nat} {x : CRow} {cs : Array Value} (h : Blk w M cs 52) : Moved w (put2W w M k x) := (Moved.set h (by decide) (by decide) _ _).trans (Moved.set (h.set _ _) (by decide) (by decide) _ _)
theorem nthR_put {cs : List CRow} {k i : Nat} {x : CRow} (hi : i < cs.length) : nthR (cs.set k x) i = if i = k then x else nthR cs i := by
  rw [nthR_eq (by simpa using hi), nthR_eq hi, List.getElem_set]
  by_cases e : k = i
  · subst e; simp
  · rw [if_neg e, if_neg (fun h => e h.symm)]
theorem CB.put {lo : Nat} {w : World} {M c k : Nat} {cs : List CRow} {x : CRow} (h : CB lo w M c cs) (hk : k < cs.length) (hx : AB lo w x.M x.c x.rs) (hne : ∀ y ∈ cs, ∀ k, blks y.M y.rs k → ¬ blks x.M x.rs k) : CB lo (put2W w M k x) M c (cs.set k x) := by
  obtain ⟨cur, h1, h2, h3⟩ := h.outer
  have hc := h.cap
  have hmv := put2W_moved (k := k) (x := x) h1
  refine ⟨h.at', by simpa using hc, ⟨put2C cur k x, put2W_blk h1, by rw [put2_size]; exact h2, fun i hi => ?_⟩, ⟨fun y hy => ?_, ?_⟩⟩
  · rw [List.length_set] at hi
    rw [nthR_put hi]
    by_cases e : i = k
    · subst e
      rw [if_pos rfl]
      exact put2_at (by omega)
    · rw [if_neg e]
      exact (h3 i hi).congr fun j h0 h1 => put2_ne (by omega)
  · rcases List.mem_or_eq_of_mem_set hy with hy | hy
    · exact ab_moved (h.rows.rows y hy) hmv
    · subst hy; exact ab_moved hx hmv
  · have hp := h.rows.ne
    rw [List.pairwise_iff_getElem] at hp ⊢
    intro i j hi hj hij
    simp only [List.length_set] at hi hj
    rw [List.getElem_set, List.getElem_set]
    by_cases e1 : k = i
    · rw [if_pos e1, if_neg (by omega)]
      exact fun q h1 h2 => hne _ (List.getElem_mem hj) q h2 h1
    · rw [if_neg e1]
      by_cases e2 : k = j
      · rw [if_pos e2]; exact hne _ (List.getElem_mem hi)
      · rw [if_neg e2]; exact hp i j hi hj hij

/-- the row while it is filled: as far as the chains have come in turn -/
structure FillC (lo : Nat) (w : World) (M : Nat) (C : List PCh) (k : Nat) (cur : Array Value) (cs : List CRow) : Prop where
  blk : Blk w M cur 52
  size : cur.size = C.length * 2
  len : cs.length = k
  ch : chs cs = C.take k
  cell : ∀ i, i < k → Cel (fun j => cur[j]?) i (nthR cs i)
  rows : RowsC lo w cs
theorem FillC.grow {lo : Nat} {w w' : World} {M : Nat} {C : List PCh} {k : Nat} {cur : Array Value} {cs : List CRow} (h : FillC lo w M C k cur cs) (hb : Below w.heap.size w w') : FillC lo w' M C k cur cs :=
  ⟨h.blk.grow hb, h.size, h.len, h.ch, h.cell, h.rows.grow hb⟩
theorem FillC.next {lo : Nat} {w : World} {M : Nat} {C : List PCh} {k : Nat} {cur : Array Value} {cs : List CRow} {x : CRow} (h : FillC lo w M C k cur cs) (hk : k < C.length) (hx : AB lo w x.M x.c x.rs) (hp : x.ch = nthC C k) (hne : ∀ y ∈ cs, ∀ k, blks y.M y.rs k → ¬ blks x.M x.rs k) :
    FillC lo (put2W w M k x) M C (k + 1) (put2C cur k x) (cs ++ [x]) := by
  have hl := h.len
  have hs := h.size
  refine ⟨put2W_blk h.blk, by rw [put2_size]; exact hs, by simp [hl], by rw [chs_app, h.ch, takeC_up hk, hp], fun i hi => ?_, (h.rows.app hx hne).moved (put2W_moved h.blk)⟩
  by_cases e : i < k
  · rw [nthR_app_lt (by omega)]
    exact (h.cell i e).congr fun j h0 h1 => put2_ne (by omega)
  · have : i = cs.length := by omega
    subst this
    rw [nthR_app_eq, hl]
    exact put2_at (by omega)
theorem FillC.cb {lo : Nat} {w : World} {M : Nat} {C : List PCh} {cur : Array Value} {cs : List CRow} (h : FillC lo w M C C.length cur cs) (hlo : lo ≤ M) (hl : C.length ≤ 1048576) : CB lo w M C.length cs ∧ chs cs = C :=
  ⟨⟨hlo, ⟨by rw [h.len]; exact Nat.le_refl _, by unfold maxLen; omega⟩, ⟨cur, h.blk, h.size, fun i hi => h.cell i (by rw [← h.len]; exact hi)⟩, h.rows⟩, by rw [h.ch]; exact List.take_length⟩

set_option maxHeartbeats 1600000 in
theorem toS_any (a : Option Addr) (cap : Nat) (C : List PCh) (w : World) (hr : RdG RdA w a C) (hl : C.length ≤ 1048576) (hs : sumC C ≤ 1048576) :
    Calls Try.prog 30 #[.slice a C.length cap] w fun e w' => e = .returned (.slice (some ⟨w.heap.size, 0, none⟩) C.length C.length) ∧ (∃ cs, CB w.heap.size w' w.heap.size C.length cs ∧ chs cs = C) ∧ Below w.heap.size w w' := by
  have HR : Hid (RdG RdA w a C) := hr
  have HS : Hid (sumC C ≤ 1048576) := hs
  clear hr hs
  have hmk := make_k (P := Try.prog) 26 52 (.agg #[.int .i64 0, .slice none 0 0]) 2 32 Try.underlying26 infoC .i64 .i64 C.length (by omega) (by omega)
  go_enter Try.func30, Try.ntmps30
  go_wp2
  go_loopw [4] (fun i w' => ∃ (k : Nat) (cur : Array Value) (cs : List CRow), k ≤ C.length ∧ i = .int .i64 k ∧ FillC w.heap.size w' w.heap.size C k cur cs ∧ Below w.heap.size w w') (fun i _ => C.length - (intOf i).toNat)
  case atStart => exact ⟨0, _, [], Nat.zero_le _, rfl, ⟨Blk.new _ _ _, by simp [size_madeCells], rfl, rfl, fun i h => by omega, RowsC.nil _ _⟩, (Below.refl _ _).alloc (Nat.le_refl _) _⟩
  case round =>
    clear hmk
    obtain ⟨k, cur, cs, hk, rfl, hC, hw0⟩ := hrel
    have HB : Hid (Below w.heap.size w wr) := hw0
    have HC : Hid (FillC w.heap.size wr w.heap.size C k cur cs) := hC
    clear hC hw0
    by_cases hlt : k < C.length
    · have hlt' : (k : Int) < (C.length : Int) := by omega
      obtain ⟨b, off, rfl, hb, ad, cp, hat⟩ := (HR.out.below stays_rd HB.out).get hlt
      have h2 := hat.c0
      have h3 := hat.c1
      have HA : Hid (RdA wr ad (nthC C k).P) := hat.reads
      have HS1 : Hid ((nthC C k).P.length ≤ 1048576 ∧ sumL (nthC C k).P ≤ 1048576) := by have := sumC_nth hlt; have := HS.out; constructor <;> omega
      clear hat
      go_wp2_with fail
      refine (toC_any _ ad cp _ _ HA.out HS1.out.1 HS1.out.2).mono ?_
      rintro e w1 ⟨⟨M1, rs, rfl, hab, hp⟩, hb1⟩
      have HB1 : Hid (Below w.heap.size w w1) := grow_on HB.out hb1
      have hC1 : FillC w.heap.size w1 w.heap.size C k cur cs := HC.out.grow hb1
      have hrl : rs.length = (nthC C k).P.length := by rw [← pals_len, hp]
      have HN := hC1.next (x := ⟨(nthC C k).f, M1, (nthC C k).P.length, rs⟩) hlt (hab.down HB.out.size) (by unfold CRow.ch; rw [hp]) (HC.out.rows.fresh (x := ⟨(nthC C k).f, M1, (nthC C k).P.length, rs⟩) hab (Nat.le_refl _))
      unfold put2W put2C at HN
      rw [hrl] at HN
      have HC2 : Hid _ := HN
      have hsz := hC1.size
      obtain ⟨v0, c0⟩ : ∃ v, w1.cell? ⟨w.heap.size, k * 2, none⟩ = some v := ⟨cur[k * 2]'(by omega), by rw [hC1.blk.cell]; simp⟩
      obtain ⟨v1, c1⟩ : ∃ v, w1.cell? ⟨w.heap.size, k * 2 + 1, none⟩ = some v := ⟨cur[k * 2 + 1]'(by omega), by rw [hC1.blk.cell]; simp⟩
      have f0 := hC1.blk.frozen (k * 2)
      have f1 := hC1.blk.frozen (k * 2 + 1)
      clear hb1 h2 h3 hC1 hsz HN hab hp hrl
      go_wp2
      go_roundw
      case rel => exact ⟨k + 1, _, _, by omega, by go_num, HC2.out, (HB1.out.setCell (Nat.le_refl _) _).setCell (Nat.le_refl _) _⟩
      case measure => simp [intOf]; omega
    · have hge : ¬ (k : Int) < (C.length : Int) := by omega
      have HE : Hid (k = C.length) := by show k = C.length; omega
      go_wp2
      go_ret
      have hF := HC.out
      rw [HE.out] at hF
      exact ⟨rfl, ⟨cs, (hF.cb (Nat.le_refl _) hl).1, (hF.cb (Nat.le_refl _) hl).2⟩, HB.out⟩
end Go.Proofs.Ytcopckbpflmmeab.Chs
