/-
  PROVED: the contracts of the drawing of labels: l2Draw and l2Any hand back a row of the call's own with a few small labels; the cursor goes on, all else is as it was.
-/
import Derived.Test.YtcopckbpflmmeaaDrawO
import Derived.Test.YtcopckbpflmmeaaLabR
import Derived.Test.YtcopckbpflmmeaaApp
namespace Go.Proofs.Ytcopckbpflmmeaa.DrawL
open Go.RowKit
open Go.Proofs.Ytcopckbpflmmeaa.Draw
open Go.Proofs.Ytcopckbpflmmeaa.Labs Go.Proofs.Ytcopckbpflmmeaa.LabS Go.Proofs.Ytcopckbpflmmeaa.LabR Go.Proofs.Ytcopckbpflmmeaa.Over Go.Proofs.Ytcopckbpflmmeaa.Blk Go.Proofs.Ytcopckbpflmmeaa.App
open Go.Proofs.Ytcopckbpflmmeaa.LabT (infoL)
set_option linter.unusedVariables false

def Small (p : List Lab) : Prop := ∀ x ∈ p, x.1.size ≤ 100 ∧ x.2.size ≤ 100
theorem small_app {p q : List Lab} (h : Small p) (k : Small q) : Small (p ++ q) := fun x hx => by
  rcases List.mem_append.1 hx with h1 | h1
  · exact h x h1
  · exact k x h1
theorem small_one {a b : ByteArray} (h : a.size ≤ 100) (k : b.size ≤ 100) : Small [(a, b)] := fun x hx => by
  have : x = (a, b) := by simpa using hx
  subst this; exact ⟨h, k⟩
theorem small_nil : Small [] := fun x hx => by simp at hx
theorem flat_app (p q : List Lab) : flat (p ++ q) = flat p ++ flat q := by
  induction p with
  | nil => rfl
  | cons x p ih => rw [List.cons_append, flat, ih]; rfl

/-- the labels drawn so far in a row of the call's own, the cursor, and all that is older than w -/
structure LSt (w : World) (c : Nat) (wr : World) (v : Value) (p : List Lab) : Prop where
  own : wr.ownsRow w.heap.size 125 2 v p.length (flat p)
  lies : ∃ g cap, v = .slice (some ⟨g, 0, none⟩) p.length cap
  cur : Cur wr c
  kept : Kept c w wr
  clt : c < w.heap.size
  fit : Small p
theorem LSt.lt {w : World} {c : Nat} {wr : World} {v : Value} {p : List Lab} (h : LSt w c wr v p) : ∀ k, v.ownBlock = some k → c < k := fun k hk => by
  have := (h.own.lt k hk).1; have := h.clt; omega
theorem LSt.keep {w : World} {c : Nat} {wr w' : World} {v : Value} {p : List Lab} (h : LSt w c wr v p) (hc : Cur w' c) (hk : Kept c wr w') : LSt w c w' v p :=
  ⟨h.own.kept hk.grown (by
      cases hv : v.ownBlock with
      | none => exact .inl rfl
      | some k => exact .inr (fun e => by have := h.lt k hv; cases e; omega)), h.lies, hc, h.kept.trans hk, h.clt, h.fit⟩
theorem LSt.alloc {w : World} {c : Nat} {wr : World} {v : Value} {p : List Lab} (h : LSt w c wr v p) (o : Obj) : LSt w c (wr.alloc o) v p :=
  h.keep (h.cur.alloc o) ((Kept.refl c wr).alloc o)
theorem kept_grown {c B : Nat} {w W w' : World} {row : Option Nat} (h : Kept c w W) (hg : W.grownBy w' row) (hr : ∀ k, row = some k → w.heap.size ≤ k) : Kept c w w' :=
  ⟨hg.os.trans h.os, hg.tape.trans h.tape, hg.output.trans h.output, Nat.le_trans h.size hg.size, fun k hk hc => (hg.block k (Nat.lt_of_lt_of_le hk h.size) (fun e => by have := hr k e.symm; omega)).trans (h.block k hk hc)⟩
theorem own_form {w : World} {B : Nat} {v : Value} {p : List Lab} (h : w.ownsRow B 125 2 v p.length (flat p)) (hp : 0 < p.length) : ∃ g cap, v = .slice (some ⟨g, 0, none⟩) p.length cap := by
  obtain ⟨g, c, e, _⟩ := h.form hp
  exact ⟨g, c, e⟩
/-- behind an append onto the row -/
theorem LSt.add {w : World} {c : Nat} {W w' : World} {v v' : Value} {p q : List Lab} {n m : Nat} {xs ys : List Value} (h : LSt w c W v p) (hn : n = p.length) (hm : m = q.length) (hx : xs = flat p) (hy : ys = flat q) (hf : Small q) (hq : 0 < q.length)
    (hown : w'.ownsRow w.heap.size 125 2 v' (n + m) (xs ++ ys)) (hg : W.grownBy w' v.ownBlock) : LSt w c w' v' (p ++ q) := by
  subst hn hm hx hy
  have ho : w'.ownsRow w.heap.size 125 2 v' (p ++ q).length (flat (p ++ q)) := by rw [flat_app, List.length_append]; exact hown
  exact ⟨ho, own_form ho (by simp; omega), h.cur.grown hg h.lt, kept_grown (B := 0) h.kept hg (fun k hk => (h.own.lt k hk).1), h.clt, small_app h.fit hf⟩
theorem LSt.cells {w : World} {c : Nat} {wr : World} {g cap : Nat} {p : List Lab} {n : Nat} (h : LSt w c wr (.slice (some ⟨g, 0, none⟩) n cap) p) {m : Nat} (hm : m < p.length) : wr.cell? ⟨g, m * 2, none⟩ = some (.string (nth p m).1) ∧ wr.cell? ⟨g, m * 2 + 1, none⟩ = some (.string (nth p m).2) := by
  have ea : ∀ j, (⟨g, 0, none⟩ : Addr).add j = ⟨g, j, none⟩ := fun j => by by_cases h : j = 0 <;> simp [Addr.add, h]
  have h0 := h.own.cells (g := g) rfl (m * 2) _ (flat_get p m hm).1
  have h1 := h.own.cells (g := g) rfl (m * 2 + 1) _ (flat_get p m hm).2
  rw [ea] at h0 h1
  exact ⟨h0, h1⟩
theorem LSt.blk {w : World} {c : Nat} {wr : World} {g cap : Nat} {p : List Lab} {n : Nat} (h : LSt w c wr (.slice (some ⟨g, 0, none⟩) n cap) p) : w.heap.size ≤ g ∧ g < wr.heap.size := h.own.lt g rfl
theorem LSt.warm {w : World} {c : Nat} {wr : World} {g cap : Nat} {p : List Lab} {n : Nat} (h : LSt w c wr (.slice (some ⟨g, 0, none⟩) n cap) p) (i : Nat) : wr.frozen? ⟨g, i, none⟩ = false := by
  rcases h.own.2 with ⟨e, _⟩ | ⟨g', cap', cur, e, _, hg, _⟩
  · cases e
  · cases e; exact Blk.frozen (T := 125) hg i
theorem LSt.reads {w : World} {c : Nat} {wr : World} {g cap : Nat} {p : List Lab} {n : Nat} (h : LSt w c wr (.slice (some ⟨g, 0, none⟩) n cap) p) : Reads wr (some ⟨g, 0, none⟩) p :=
  .inr ⟨g, 0, rfl, h.blk.2, fun i hi => by rw [Nat.zero_add]; exact h.cells hi⟩

/-- a new row of one label -/
theorem own_one {w : World} {B M : Nat} {x : Lab} (h : Blk w M #[.string x.1, .string x.2] 125) (hB : B ≤ M) : w.ownsRow B 125 2 (.slice (some ⟨M, 0, none⟩) 1 1) 1 (flat [x]) :=
  ⟨rfl, .inr ⟨M, 1, _, rfl, hB, h, Nat.le_refl _, by simp [maxLen], rfl, rfl⟩⟩
theorem lst_one {w : World} {c : Nat} {W : World} {x : Lab} (hc : Cur W c) (hk : Kept c w W) (hcl : c < w.heap.size) (hs : x.1.size ≤ 100 ∧ x.2.size ≤ 100) : LSt w c (W.alloc (.cells #[.string x.1, .string x.2] 125)) (.slice (some ⟨W.heap.size, 0, none⟩) 1 1) [x] :=
  ⟨own_one (Blk.new _ _ _) hk.size, ⟨_, _, rfl⟩, hc.alloc _, hk.alloc _, hcl, small_one hs.1 hs.2⟩

/-- beside the row: a literal's row of strings, in another block -/
structure LLit (w : World) (c lit k : Nat) (wr : World) (v : Value) (p : List Lab) : Prop where
  st : LSt w c wr v p
  row : Row isStr wr ⟨lit, 0, none⟩ k c
  ne : v.ownBlock ≠ some lit
theorem LLit.keep {w : World} {c lit k : Nat} {wr w' : World} {v : Value} {p : List Lab} (h : LLit w c lit k wr v p) (hc : Cur w' c) (hk : Kept c wr w') : LLit w c lit k w' v p :=
  ⟨h.st.keep hc hk, h.row.keep hk, h.ne⟩
theorem LLit.alloc {w : World} {c lit k : Nat} {wr : World} {v : Value} {p : List Lab} (h : LLit w c lit k wr v p) (o : Obj) : LLit w c lit k (wr.alloc o) v p :=
  h.keep (h.st.cur.alloc o) ((Kept.refl c wr).alloc o)
theorem LLit.add {w : World} {c lit k : Nat} {W w' : World} {v v' : Value} {p q : List Lab} {n m : Nat} {xs ys : List Value} (h : LLit w c lit k W v p) (hn : n = p.length) (hm : m = q.length) (hx : xs = flat p) (hy : ys = flat q) (hf : Small q) (hq : 0 < q.length)
    (hown : w'.ownsRow w.heap.size 125 2 v' (n + m) (xs ++ ys)) (hg : W.grownBy w' v.ownBlock) (N : Nat) (hN : N = W.heap.size) (hat : v'.ownBlock = v.ownBlock ∨ v'.ownBlock = some N) : LLit w c lit k w' v' (p ++ q) := by
  subst hN
  refine ⟨h.st.add hn hm hx hy hf hq hown hg, h.row.grown hg (fun e => h.ne e.symm), ?_⟩
  rcases hat with hat | hat
  · rw [hat]; exact h.ne
  · rw [hat]; intro e; have hlt : lit < W.heap.size := h.row.2.2.1; cases e; omega

set_option maxHeartbeats 1600000 in
theorem l2Draw_any (c : Nat) (w : World) (hc : Cur w c) :
    Calls Try.prog 55 #[.pointer (some ⟨c, 0, none⟩)] w fun e w' => ∃ v, e = .returned v ∧ ∃ p, LSt w c w' v p ∧ 1 ≤ p.length ∧ p.length ≤ 4 := by
  have HC : Hid (Cur w c) := hc
  have HL : Hid (c < w.heap.size) := hc.lt
  clear hc
  obtain ⟨i0, hi, hz0, hz1, hz2⟩ := info_parts infoL
  go_enter Try.func55, Try.ntmps55
  go_wp2_with fail
  refine (str_any c w.heap.size 0 3 3 _ (HC.out.alloc _) ?_ (by decide) (by decide)).mono ?_
  · exact row_lit (by decide) rfl HL.out
  rintro e w1 ⟨⟨s, rfl, hs⟩, hc1, hk1⟩
  have HK1 : Hid (Kept c w w1) := ((Kept.refl c w).alloc _).trans hk1
  have HC1 : Hid (Cur w1 c) := hc1
  clear hc1 hk1
  go_wp2_with fail
  go_loopw [3, 13] (fun v i wr => ∃ (k : Nat) (p : List Lab), k ≤ 3 ∧ i = .int .i64 k ∧ 1 ≤ p.length ∧ p.length ≤ k + 1 ∧ LLit w c (w1.heap.size + 1) 3 wr v p) (fun _ i _ => 3 - (intOf i).toNat)
  case atStart =>
    refine ⟨0, [(⟨#[97, 112, 112]⟩, s)], by omega, rfl, by simp, by simp, ⟨(lst_one (x := (⟨#[97, 112, 112]⟩, s)) HC1.out HK1.out HL.out ⟨show (ByteArray.mk #[97, 112, 112]).size ≤ 100 by decide, hs⟩).alloc _, ?_, by simp [Value.ownBlock]⟩⟩
    refine row_lit_at (p := isStr) ?_ rfl ?_ (by simp)
    · decide
    · have := HK1.out.size; have := HL.out; simp; omega
  case round =>
    obtain ⟨k, p, hk, rfl, hp1, hp2, hst⟩ := hrel
    have HS : Hid (LLit w c (w1.heap.size + 1) 3 wr u3 p) := hst
    clear hst
    by_cases hlt : k < 3
    · have hlt' : (k : Int) < 3 := by omega
      obtain ⟨v, hv, hp⟩ := HS.out.row.2.2.2 k hlt
      obtain ⟨t, rfl, ht⟩ := str_of hp
      have hv' : wr.cell? ⟨w1.heap.size + 1, k, none⟩ = some (.string t) := by simpa using hv
      clear hv hp
      go_wp2_with fail
      refine (once_any _ 4 _ HS.out.st.cur (by decide) (by decide)).mono ?_
      rintro e w2 ⟨⟨b, rfl⟩, hc2, hk2⟩
      have HS2 : Hid (LLit w c (w1.heap.size + 1) 3 w2 u3 p) := HS.out.keep hc2 hk2
      clear hc2 hk2 hv'
      cases b with
      | true =>
        go_wp2_with fail
        refine (str_any c w2.heap.size 0 2 2 _ (HS2.out.st.cur.alloc _) ?_ (by decide) (by decide)).mono ?_
        · exact row_lit (by decide) rfl HS2.out.st.cur.lt
        rintro e w3 ⟨⟨y, rfl, hy⟩, hc3, hk3⟩
        have HS3 : Hid (LLit w c (w1.heap.size + 1) 3 w3 u3 p) := (HS2.out.alloc _).keep hc3 hk3
        clear hc3 hk3
        go_wp2_with (at_builtin; refine wpList_append_own_at _ rfl _ _ 27 rfl w.heap.size 125 i0 (.agg #[.string ByteArray.empty, .string ByteArray.empty]) 2 32 Try.underlying27 hi hz0 hz1 hz2 rfl (by decide) _ _ _ rfl (HS3.out.alloc _).st.own ⟨w3.heap.size, 0, none⟩ 1 1 [.string t, .string y] rfl rfl ?c1 ?c2 ?c3 ?c4 ?c5 ?_)
        case c1 => exact blk_news (Blk.new _ _ _)
        case c2 => exact flat_one [(t, y)]
        case c3 => unfold maxLen; omega
        case c4 => omega
        case c5 => have := HS3.out.st.kept.size; simp; omega
        intro v' w4 hown hg _ hat
        have HS4 : Hid (LLit w c (w1.heap.size + 1) 3 w4 v' (p ++ [(t, y)])) := (HS3.out.alloc _).add (q := [(t, y)]) rfl rfl rfl rfl (small_one ht hy) (by simp) hown hg _ (by simp) hat
        clear hown hg hat
        go_wp2
        go_roundw
        case rel => exact ⟨k + 1, p ++ [(t, y)], by omega, by go_num, by simp, by simp; omega, HS4.out⟩
        case measure => simp [intOf]; omega
      | false =>
        go_wp2
        go_roundw
        case rel => exact ⟨k + 1, p, by omega, by go_num, hp1, by omega, HS2.out⟩
        case measure => simp [intOf]; omega
    · have hge : ¬ (k : Int) < 3 := by omega
      go_wp2
      go_ret
      exact ⟨_, rfl, p, HS.out.st, hp1, by omega⟩

theorem grown_set (w : World) (g i : Nat) (v : Value) : w.grownBy (w.setCell ⟨g, i, none⟩ v) (some g) :=
  ⟨rfl, rfl, rfl, by simp [World.setCell], fun k _ hne => Below.heap_setCell _ _ _ _ (fun e => hne (by rw [e]))⟩
/-- the first label's value is written anew -/
theorem LSt.put {w : World} {c : Nat} {wr : World} {g cap n : Nat} {p : List Lab} (h : LSt w c wr (.slice (some ⟨g, 0, none⟩) n cap) p) (hp : 0 < p.length) (s : ByteArray) (hs : s.size ≤ 100) :
    LSt w c (wr.setCell ⟨g, 1, none⟩ (.string s)) (.slice (some ⟨g, 0, none⟩) n cap) (((nth p 0).1, s) :: p.tail) := by
  obtain ⟨x, q, rfl⟩ : ∃ x q, p = x :: q := by cases p with | nil => simp at hp | cons x q => exact ⟨x, q, rfl⟩
  have hgl := h.blk
  have hgc : c ≠ g := by have := h.clt; omega
  refine ⟨⟨by simp [flat_len], ?_⟩, h.lies, ?_, ?_, h.clt, ?_⟩
  · rcases h.own.2 with ⟨e, _⟩ | ⟨g', cap', cur, e, hb, hg, hn, hcm, hcs, ht⟩
    · cases e
    · cases e
      refine .inr ⟨g, cap, cur.setIfInBounds 1 (.string s), rfl, hb, ?_, hn, hcm, by simpa using hcs, ?_⟩
      · exact Blk.set (T := 125) hg 1 (.string s)
      · rw [Array.toList_setIfInBounds, List.take_set]
        show (List.take ((x :: q).length * 2) cur.toList).set 1 (.string s) = flat ((x.1, s) :: q)
        rw [ht]
        rfl
  · exact h.cur.grown (grown_set wr g 1 _) (fun k hk => by cases hk; have := h.clt; omega)
  · exact kept_grown (B := 0) h.kept (grown_set wr g 1 _) (fun k hk => by cases hk; exact hgl.1)
  · intro y hy
    rcases List.mem_cons.1 hy with rfl | hy
    · exact ⟨(h.fit x (by simp)).1, hs⟩
    · exact h.fit y (by simp [show y ∈ q from hy])
theorem LSt.none_new {w : World} {c : Nat} {W : World} (hc : Cur W c) (hk : Kept c w W) (hcl : c < w.heap.size) : LSt w c (W.alloc (.cells #[] 125)) (.slice (some ⟨W.heap.size, 0, none⟩) 0 0) [] :=
  ⟨own_empty (Blk.new _ _ _) hk.size, ⟨_, _, rfl⟩, hc.alloc _, hk.alloc _, hcl, small_nil⟩

/-- the row laid behind another one -/
theorem LSt.ahead {w : World} {c : Nat} {W w' : World} {v v' : Value} {x : Lab} {p : List Lab} {xs ys : List Value} {n m : Nat} (h : LSt w c W v p) {u : Value} (hu : W.ownsRow w.heap.size 125 2 u n xs) (hn : n = 1) (hm : m = p.length) (hx : xs = flat [x]) (hy : ys = flat p) (hs : Small [x])
    (hown : w'.ownsRow w.heap.size 125 2 v' (n + m) (xs ++ ys)) (hg : W.grownBy w' u.ownBlock) : LSt w c w' v' (x :: p) := by
  subst hn hm hx hy
  have ho : w'.ownsRow w.heap.size 125 2 v' (x :: p).length (flat (x :: p)) := by
    rw [List.length_cons, Nat.add_comm]; exact hown
  exact ⟨ho, own_form ho (by simp), h.cur.grown hg (fun k hk => by have := (hu.lt k hk).1; have := h.clt; omega), kept_grown (B := 0) h.kept hg (fun k hk => (hu.lt k hk).1), h.clt, by
    intro y hy
    rcases List.mem_cons.1 hy with rfl | hy
    · exact hs _ (by simp)
    · exact h.fit y hy⟩
theorem LSt.src {w : World} {c : Nat} {wr : World} {g cap n : Nat} {p : List Lab} (h : LSt w c wr (.slice (some ⟨g, 0, none⟩) n cap) p) : ∀ j u, (flat p)[j]? = some u → wr.cell? ((⟨g, 0, none⟩ : Addr).add j) = some u := h.own.cells (g := g) rfl

set_option maxHeartbeats 1600000 in
theorem l2Any_any (c : Nat) (w : World) (hc : Cur w c) :
    Calls Try.prog 116 #[.pointer (some ⟨c, 0, none⟩)] w fun e w' => ∃ v, e = .returned v ∧ ∃ p, LSt w c w' v p ∧ p.length ≤ 8 := by
  have HC : Hid (Cur w c) := hc
  have HL : Hid (c < w.heap.size) := hc.lt
  clear hc
  obtain ⟨i0, hi, hz0, hz1, hz2⟩ := info_parts infoL
  go_enter Try.func116, Try.ntmps116
  go_wp2_with fail
  refine (l2Draw_any c w HC.out).mono ?_
  rintro e w1 ⟨v, rfl, p, hst, hp1, hp2⟩
  obtain ⟨g, cap, rfl⟩ := hst.lies
  have HS1 : Hid (LSt w c w1 (.slice (some ⟨g, 0, none⟩) p.length cap) p) := hst
  clear hst
  go_wp2_with fail
  refine (below_any c 10 _ HS1.out.cur (by decide) (by decide)).mono ?_
  rintro e w2 ⟨⟨x, rfl, hx0, hx1⟩, hc2, hk2⟩
  have HS2 : Hid (LSt w c w2 (.slice (some ⟨g, 0, none⟩) p.length cap) p) := HS1.out.keep hc2 hk2
  clear hc2 hk2
  by_cases e0 : x = 0
  · subst e0
    go_wp2_with fail
    refine (anyName_any c _ HS2.out.cur).mono ?_
    rintro e w3 ⟨⟨s, rfl, hs⟩, hc3, hk3⟩
    have HS3 : Hid (LSt w c w3 (.slice (some ⟨g, 0, none⟩) p.length cap) p) := HS2.out.keep hc3 hk3
    clear hc3 hk3
    go_wp2_with fail
    refine (anyPlain_any c _ HS3.out.cur).mono ?_
    rintro e w4 ⟨⟨t, rfl, ht⟩, hc4, hk4⟩
    have HS4 : Hid (LSt w c w4 (.slice (some ⟨g, 0, none⟩) p.length cap) p) := HS3.out.keep hc4 hk4
    clear hc4 hk4
    go_wp2_with (at_builtin; refine wpList_append_own_at _ rfl _ _ 27 rfl w.heap.size 125 i0 (.agg #[.string ByteArray.empty, .string ByteArray.empty]) 2 32 Try.underlying27 hi hz0 hz1 hz2 rfl (by decide) _ _ _ rfl (HS4.out.alloc _).own ⟨w4.heap.size, 0, none⟩ 1 1 [.string s, .string t] rfl rfl ?c1 ?c2 ?c3 ?c4 ?c5 ?_)
    case c1 => exact blk_news (Blk.new _ _ _)
    case c2 => exact flat_one [(s, t)]
    case c3 => unfold maxLen; omega
    case c4 => omega
    case c5 => have := HS4.out.kept.size; simp; omega
    intro v' w5 hown hg _ hat
    have HS5 : Hid (LSt w c w5 v' (p ++ [(s, t)])) := (HS4.out.alloc _).add (q := [(s, t)]) rfl rfl rfl rfl (small_one hs ht) (by simp) hown hg
    clear hown hg hat
    go_wp2
    go_ret
    exact ⟨_, rfl, _, HS5.out, by simp; omega⟩
  have d0 : (x == 0) = false := by simpa using e0
  by_cases e1 : x = 1
  · subst e1
    have HB : Hid (Blk (w2.alloc (.cells #[.string ⟨#[122, 122]⟩, .string ⟨#[49]⟩] 125)) w2.heap.size #[.string ⟨#[122, 122]⟩, .string ⟨#[49]⟩] 125) := Blk.new _ _ _
    have HO : Hid ((w2.alloc (.cells #[.string ⟨#[122, 122]⟩, .string ⟨#[49]⟩] 125)).ownsRow w.heap.size 125 2 (.slice (some ⟨w2.heap.size, 0, none⟩) 1 1) 1 (flat [(⟨#[122, 122]⟩, ⟨#[49]⟩)])) := own_one (x := (⟨#[122, 122]⟩, ⟨#[49]⟩)) HB.out HS2.out.kept.size
    go_wp2_with (at_builtin; refine wpList_append_own_at _ rfl _ _ 27 rfl w.heap.size 125 i0 (.agg #[.string ByteArray.empty, .string ByteArray.empty]) 2 32 Try.underlying27 hi hz0 hz1 hz2 rfl (by decide) _ _ _ rfl HO.out ⟨g, 0, none⟩ p.length cap (flat p) rfl (flat_len p) ?c1 (flat_one p) ?c3 ?c4 ?c5 ?_)
    case c1 => exact (HS2.out.alloc _).src
    case c3 => unfold maxLen; omega
    case c4 => omega
    case c5 => have := HS2.out.kept.size; simp; omega
    intro v' w3 hown hg _ hat
    have HS3 : Hid (LSt w c w3 v' ((⟨#[122, 122]⟩, ⟨#[49]⟩) :: p)) := (HS2.out.alloc _).ahead HO.out rfl rfl rfl rfl (small_one (by decide) (by decide)) hown hg
    clear hown hg hat HO HB
    go_wp2
    go_ret
    exact ⟨_, rfl, _, HS3.out, by simp; omega⟩
  have d1 : (x == 1) = false := by simpa using e1
  by_cases e2 : x = 2
  · subst e2
    obtain ⟨c0, c1⟩ := HS2.out.cells (m := 0) (by omega)
    have hpl : (0 : Int) < (p.length : Int) := by omega
    simp only [Nat.zero_mul, Nat.zero_add] at c0 c1
    go_wp2_with (at_builtin; refine wpList_append_own_at _ rfl _ _ 27 rfl w.heap.size 125 i0 (.agg #[.string ByteArray.empty, .string ByteArray.empty]) 2 32 Try.underlying27 hi hz0 hz1 hz2 rfl (by decide) _ _ _ rfl (HS2.out.alloc _).own ⟨w2.heap.size, 0, none⟩ 1 1 [.string (nth p 0).1, .string (nth p 0).2] rfl rfl ?c1 ?c2 ?c3 ?c4 ?c5 ?_)
    case c1 => exact blk_news (Blk.new _ _ _)
    case c2 => exact flat_one [nth p 0]
    case c3 => unfold maxLen; omega
    case c4 => omega
    case c5 => have := HS2.out.kept.size; simp; omega
    intro v' w3 hown hg _ hat
    have HS3 : Hid (LSt w c w3 v' (p ++ [nth p 0])) := (HS2.out.alloc _).add (q := [nth p 0]) rfl rfl rfl rfl (fun y hy => by
      have e : y = nth p 0 := by simpa using hy
      rw [e]; exact HS2.out.fit _ (by rw [nth_eq (by omega)]; exact List.getElem_mem _)) (by simp) hown hg
    clear hown hg hat c0 c1
    go_wp2
    go_ret
    exact ⟨_, rfl, _, HS3.out, by simp; omega⟩
  have d2 : (x == 2) = false := by simpa using e2
  by_cases e3 : x = 3
  · subst e3
    go_wp2_with (at_builtin; refine wpList_append_own_at _ rfl _ _ 27 rfl w.heap.size 125 i0 (.agg #[.string ByteArray.empty, .string ByteArray.empty]) 2 32 Try.underlying27 hi hz0 hz1 hz2 rfl (by decide) _ _ _ rfl (HS2.out.alloc _).own ⟨w2.heap.size, 0, none⟩ 4 4 (flat [(⟨#[122, 117]⟩, ByteArray.empty), (⟨#[122, 118]⟩, ByteArray.empty), (⟨#[122, 119]⟩, ByteArray.empty), (⟨#[122, 120]⟩, ByteArray.empty)]) rfl rfl ?c1 (flat_one _) ?c3 ?c4 ?c5 ?_)
    case c1 => exact blk_news (Blk.new _ _ _)
    case c3 => unfold maxLen; omega
    case c4 => omega
    case c5 => have := HS2.out.kept.size; simp; omega
    intro v' w3 hown hg _ hat
    have HS3 : Hid (LSt w c w3 v' (p ++ [(⟨#[122, 117]⟩, ByteArray.empty), (⟨#[122, 118]⟩, ByteArray.empty), (⟨#[122, 119]⟩, ByteArray.empty), (⟨#[122, 120]⟩, ByteArray.empty)])) := (HS2.out.alloc _).add (q := [(⟨#[122, 117]⟩, ByteArray.empty), (⟨#[122, 118]⟩, ByteArray.empty), (⟨#[122, 119]⟩, ByteArray.empty), (⟨#[122, 120]⟩, ByteArray.empty)]) rfl rfl rfl rfl (fun y hy => by
      simp only [List.mem_cons, List.not_mem_nil, or_false] at hy
      rcases hy with rfl | rfl | rfl | rfl <;> exact ⟨by decide, by decide⟩) (by simp) hown hg
    clear hown hg hat
    go_wp2
    go_ret
    exact ⟨_, rfl, _, HS3.out, by simp; omega⟩
  have d3 : (x == 3) = false := by simpa using e3
  by_cases e4 : x = 4
  · subst e4
    go_wp2_with fail
    refine (anyPlain_any c _ HS2.out.cur).mono ?_
    rintro e w3 ⟨⟨t, rfl, ht⟩, hc3, hk3⟩
    have hS3 : LSt w c w3 (.slice (some ⟨g, 0, none⟩) p.length cap) p := HS2.out.keep hc3 hk3
    have HS3 : Hid (LSt w c w3 (.slice (some ⟨g, 0, none⟩) p.length cap) p) := hS3
    obtain ⟨c0, c1⟩ := hS3.cells (m := 0) (by omega)
    have hpl : (0 : Int) < (p.length : Int) := by omega
    simp only [Nat.zero_mul, Nat.zero_add] at c0 c1
    have f1 : w3.frozen? ⟨g, 1, none⟩ = false := hS3.warm 1
    have HS4 : Hid (LSt w c (w3.setCell ⟨g, 1, none⟩ (.string t)) (.slice (some ⟨g, 0, none⟩) p.length cap) (((nth p 0).1, t) :: p.tail)) := hS3.put (by omega) t ht
    clear hc3 hk3 hS3
    go_wp2
    go_ret
    exact ⟨_, rfl, _, HS4.out, by simp; omega⟩
  have d4 : (x == 4) = false := by simpa using e4
  by_cases e5 : x = 5
  · subst e5
    go_wp2
    go_ret
    exact ⟨_, rfl, _, LSt.none_new HS2.out.cur HS2.out.kept HL.out, by simp⟩
  have d5 : (x == 5) = false := by simpa using e5
  go_wp2
  go_ret
  exact ⟨_, rfl, _, HS2.out, by omega⟩
end Go.Proofs.Ytcopckbpflmmeaa.DrawL
