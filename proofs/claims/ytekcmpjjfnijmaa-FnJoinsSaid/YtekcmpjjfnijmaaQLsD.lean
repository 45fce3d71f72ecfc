/-
  PROVED: the contract of spec.DrawInOrder: it returns a slice of at most five strings in memory of its own, and nothing that was there is changed.
  PROVED: the contracts of the drawing of labels: l2Draw and l2Any hand back a row of the call's own with a few small labels; the cursor goes on, all else is as it was.
  PROVED: the contract of spec.DrawSetLess: two slices of a few small labels in memory of its own; nothing that was there is changed.
  PROVED: the contracts of the drawing of alarms: l4Draw, l4Any, l4Pair and what is drawn by them: alarms with a few small labels in memory of their own; nothing that was there is changed but the cursor.
  PROVED: the contracts of the draws of alarms that FnMerges and FnAlarms begin with: alarms with a few small labels in memory of their own; nothing that was there is changed.
  Small alarms and rows of them beside the drawing cursor.
-/
import Derived.Test.YtekcmpjjfnijmaaQDrawW
import Derived.Test.YtekcmpjjfnijmaaQLabR
import Derived.Test.YtekcmpjjfnijmaaQApp
import Derived.Test.YtekcmpjjfnijmaaQLst
import Derived.Deep.RegionHeld3
import Derived.Test.YtekcmpjjfnijmaaQLawB
import Derived.Test.YtekcmpjjfnijmaaQLsK
set_option linter.unusedVariables false
namespace Go.Proofs.Ytekcmpjjfnijmaa.Draw
open Go.RowKit StrB

theorem Kept.grown {c : Nat} {w w' : World} (h : Kept c w w') : w.grownBy w' (some c) :=
  ⟨h.os, h.tape, h.output, h.size, fun k hk hne => h.block k hk (fun e => hne (by rw [e]))⟩
theorem Bytes.grown {w w' : World} {a : Option Addr} {len c : Nat} {row : Option Nat} (h : Bytes w a len c) (hg : w.grownBy w' row) (hr : ∀ k, row = some k → c < k) (hc : c ≤ w.heap.size) : Bytes w' a len c := by
  rcases h with h | ⟨b, off, rfl, hb, hz⟩
  · exact .inl h
  · exact .inr ⟨b, off, rfl, hb, fun j hj => by
      obtain ⟨z, h1, h2⟩ := hz j hj
      exact ⟨z, hg.cell h1 (fun e => by have := hr b e.symm; omega), h2⟩⟩
theorem Cur.grown {w w' : World} {c : Nat} {row : Option Nat} (h : Cur w c) (hg : w.grownBy w' row) (hr : ∀ k, row = some k → c < k) : Cur w' c := by
  obtain ⟨a, len, cap, i, h, h0, h1, h2, f1, f2, hi, hl, hb, hlt⟩ := h
  have hne : some c ≠ row := fun e => by have := hr c e.symm; omega
  have hblk := hg.block c hlt hne
  exact ⟨a, len, cap, i, h, hg.cell h0 hne, hg.cell h1 hne, hg.cell h2 hne, by rw [World.frozen?_of_block (w := w) (a := ⟨c, 1, none⟩) hblk]; exact f1, by rw [World.frozen?_of_block (w := w) (a := ⟨c, 2, none⟩) hblk]; exact f2, hi, hl, hb.grown hg hr (by omega), Nat.lt_of_lt_of_le hlt hg.size⟩
theorem Row.grown {p : Value → Bool} {w w' : World} {a : Addr} {len c : Nat} {row : Option Nat} (h : Row p w a len c) (hg : w.grownBy w' row) (hr : some a.block ≠ row) : Row p w' a len c :=
  ⟨h.1, h.2.1, Nat.lt_of_lt_of_le h.2.2.1 hg.size, fun j hj => by
    obtain ⟨v, h1, h2⟩ := h.2.2.2 j hj
    exact ⟨v, hg.cell (a := ⟨a.block, a.off + j, none⟩) h1 hr, h2⟩⟩

theorem row_lit_at {p : Value → Bool} {w : World} {arr : Array Value} {T : TypeId} {c n b : Nat} (h : arr.toList.all p = true) (hn : arr.size = n) (hc : c < w.heap.size) (hb : b = w.heap.size) : Row p (w.alloc (.cells arr T)) ⟨b, 0, none⟩ n c := by
  subst hb
  exact row_lit h hn hc
structure St (w : World) (c lit : Nat) (wr : World) (v : Value) (xs : List ByteArray) : Prop where
  own : wr.ownsRow (c + 1) 9 1 v xs.length (xs.map Value.string)
  ne : v.ownBlock ≠ some lit
  cur : Cur wr c
  row : Row isStr wr ⟨lit, 0, none⟩ 4 c
  low : Below c w wr
theorem St.lt {w : World} {c lit : Nat} {wr : World} {v : Value} {xs : List ByteArray} (h : St w c lit wr v xs) : ∀ k, v.ownBlock = some k → c < k := fun k hk => by
  have := (h.own.lt k hk).1; omega
theorem St.keep {w : World} {c lit : Nat} {wr w' : World} {v : Value} {xs : List ByteArray} (h : St w c lit wr v xs) (hc : Cur w' c) (hk : Kept c wr w') : St w c lit w' v xs :=
  ⟨h.own.kept hk.grown (by
      cases hv : v.ownBlock with
      | none => exact .inl rfl
      | some k => exact .inr (fun e => by have := h.lt k hv; cases e; omega)), h.ne, hc, h.row.keep hk, h.low.trans (hk.below (Nat.le_refl _) (Nat.le_of_lt h.cur.lt))⟩
theorem St.alloc {w : World} {c lit : Nat} {wr : World} {v : Value} {xs : List ByteArray} (h : St w c lit wr v xs) (o : Obj) : St w c lit (wr.alloc o) v xs :=
  h.keep (h.cur.alloc o) ((Kept.refl c wr).alloc o)
theorem St.add {w : World} {c lit : Nat} {W w' : World} {v v' : Value} {xs : List ByteArray} (h : St w c lit W v xs) (s : ByteArray)
    (hown : w'.ownsRow (c + 1) 9 1 v' (xs.length + 1) (xs.map Value.string ++ [.string s])) (hg : W.grownBy w' v.ownBlock) (n : Nat) (hn : n = W.heap.size) (hat : v'.ownBlock = v.ownBlock ∨ v'.ownBlock = some n) : St w c lit w' v' (xs ++ [s]) := by
  subst hn
  refine ⟨by simpa using hown, ?_, h.cur.grown hg h.lt, h.row.grown hg (fun e => h.ne e.symm), h.low.trans ⟨hg.os, hg.tape, hg.output, hg.size, fun k hk => hg.block k (Nat.lt_trans hk h.cur.lt) (fun e => by have := h.lt k e.symm; omega)⟩⟩
  rcases hat with hat | hat
  · rw [hat]; exact h.ne
  · rw [hat]; intro e; have hlt : lit < W.heap.size := h.row.2.2.1; cases e; omega
theorem own_reads {w : World} {base : Nat} {v : Value} {xs : List ByteArray} (h : w.ownsRow base 9 1 v xs.length (xs.map Value.string)) : ∃ d cap, v = .slice d xs.length cap ∧ Reads w d xs := by
  rcases h.2 with ⟨rfl, hn⟩ | ⟨g, cap, cur, rfl, hb, hg, hnc, hcm, hcs, htake⟩
  · have : xs = [] := List.eq_nil_of_length_eq_zero hn
    subst this
    exact ⟨none, 0, rfl, .inl rfl⟩
  · refine ⟨some ⟨g, 0, none⟩, cap, rfl, .inr ⟨g, 0, rfl, (Array.getElem?_eq_some_iff.1 hg).1, fun i hi => ?_⟩⟩
    have hx : (xs.map Value.string)[i]? = some (.string (nth xs i)) := by
      unfold nth
      simp [hi]
    have hc := h.cells (g := g) rfl i _ hx
    have ea : (⟨g, 0, none⟩ : Addr).add i = ⟨g, 0 + i, none⟩ := by by_cases h : i = 0 <;> simp [Addr.add, h]
    rw [← ea]; exact hc

end Go.Proofs.Ytekcmpjjfnijmaa.Draw
namespace Go.Proofs.Ytekcmpjjfnijmaa.DrawL
open Go.RowKit
open Draw
open Labs LabS LabR Over Blk App
open LabT (infoL)

def Small (p : List Lab) : Prop := ∀ x ∈ p, x.1.size ≤ 100 ∧ x.2.size ≤ 100
theorem small_app {p q : List Lab} (h : Small p) (k : Small q) : Small (p ++ q) := fun x hx => by
  rcases List.mem_append.1 hx with h1 | h1
  · exact h x h1
  · exact k x h1
theorem small_one {a b : ByteArray} (h : a.size ≤ 100) (k : b.size ≤ 100) : Small [(a, b)] := fun x hx => by
  have : x = (a, b) := by simpa using hx
  subst this; exact ⟨h, k⟩
theorem small_nil : Small [] := fun x hx => by simp at hx
theorem flat_app (p q : List Lab) : flat (p ++ q) = flat p ++ flat q := by
  induction p with
  | nil => rfl
  | cons x p ih => rw [List.cons_append, flat, ih]; rfl

structure LSt (w : World) (c : Nat) (wr : World) (v : Value) (p : List Lab) : Prop where
  own : wr.ownsRow w.heap.size 94 2 v p.length (flat p)
  lies : ∃ g cap, v = .slice (some ⟨g, 0, none⟩) p.length cap
  cur : Cur wr c
  kept : Kept c w wr
  clt : c < w.heap.size
  fit : Small p
theorem LSt.lt {w : World} {c : Nat} {wr : World} {v : Value} {p : List Lab} (h : LSt w c wr v p) : ∀ k, v.ownBlock = some k → c < k := fun k hk => by
  have := (h.own.lt k hk).1; have := h.clt; omega
theorem LSt.keep {w : World} {c : Nat} {wr w' : World} {v : Value} {p : List Lab} (h : LSt w c wr v p) (hc : Cur w' c) (hk : Kept c wr w') : LSt w c w' v p :=
  ⟨h.own.kept hk.grown (by
      cases hv : v.ownBlock with
      | none => exact .inl rfl
      | some k => exact .inr (fun e => by have := h.lt k hv; cases e; omega)), h.lies, hc, h.kept.trans hk, h.clt, h.fit⟩
theorem LSt.alloc {w : World} {c : Nat} {wr : World} {v : Value} {p : List Lab} (h : LSt w c wr v p) (o : Obj) : LSt w c (wr.alloc o) v p :=
  h.keep (h.cur.alloc o) ((Kept.refl c wr).alloc o)
theorem kept_grown {c B : Nat} {w W w' : World} {row : Option Nat} (h : Kept c w W) (hg : W.grownBy w' row) (hr : ∀ k, row = some k → w.heap.size ≤ k) : Kept c w w' :=
  ⟨hg.os.trans h.os, hg.tape.trans h.tape, hg.output.trans h.output, Nat.le_trans h.size hg.size, fun k hk hc => (hg.block k (Nat.lt_of_lt_of_le hk h.size) (fun e => by have := hr k e.symm; omega)).trans (h.block k hk hc)⟩
theorem own_form {w : World} {B : Nat} {v : Value} {p : List Lab} (h : w.ownsRow B 94 2 v p.length (flat p)) (hp : 0 < p.length) : ∃ g cap, v = .slice (some ⟨g, 0, none⟩) p.length cap := by
  obtain ⟨g, c, e, _⟩ := h.form hp
  exact ⟨g, c, e⟩
theorem LSt.add {w : World} {c : Nat} {W w' : World} {v v' : Value} {p q : List Lab} {n m : Nat} {xs ys : List Value} (h : LSt w c W v p) (hn : n = p.length) (hm : m = q.length) (hx : xs = flat p) (hy : ys = flat q) (hf : Small q) (hq : 0 < q.length)
    (hown : w'.ownsRow w.heap.size 94 2 v' (n + m) (xs ++ ys)) (hg : W.grownBy w' v.ownBlock) : LSt w c w' v' (p ++ q) := by
  subst hn hm hx hy
  have ho : w'.ownsRow w.heap.size 94 2 v' (p ++ q).length (flat (p ++ q)) := by rw [flat_app, List.length_append]; exact hown
  exact ⟨ho, own_form ho (by simp; omega), h.cur.grown hg h.lt, kept_grown (B := 0) h.kept hg (fun k hk => (h.own.lt k hk).1), h.clt, small_app h.fit hf⟩
theorem LSt.cells {w : World} {c : Nat} {wr : World} {g cap : Nat} {p : List Lab} {n : Nat} (h : LSt w c wr (.slice (some ⟨g, 0, none⟩) n cap) p) {m : Nat} (hm : m < p.length) : wr.cell? ⟨g, m * 2, none⟩ = some (.string (nth p m).1) ∧ wr.cell? ⟨g, m * 2 + 1, none⟩ = some (.string (nth p m).2) := by
  have ea : ∀ j, (⟨g, 0, none⟩ : Addr).add j = ⟨g, j, none⟩ := fun j => by by_cases h : j = 0 <;> simp [Addr.add, h]
  have h0 := h.own.cells (g := g) rfl (m * 2) _ (flat_get p m hm).1
  have h1 := h.own.cells (g := g) rfl (m * 2 + 1) _ (flat_get p m hm).2
  rw [ea] at h0 h1
  exact ⟨h0, h1⟩
theorem LSt.blk {w : World} {c : Nat} {wr : World} {g cap : Nat} {p : List Lab} {n : Nat} (h : LSt w c wr (.slice (some ⟨g, 0, none⟩) n cap) p) : w.heap.size ≤ g ∧ g < wr.heap.size := h.own.lt g rfl
theorem LSt.warm {w : World} {c : Nat} {wr : World} {g cap : Nat} {p : List Lab} {n : Nat} (h : LSt w c wr (.slice (some ⟨g, 0, none⟩) n cap) p) (i : Nat) : wr.frozen? ⟨g, i, none⟩ = false := by
  rcases h.own.2 with ⟨e, _⟩ | ⟨g', cap', cur, e, _, hg, _⟩
  · cases e
  · cases e; exact Blk.frozen (T := 94) hg i
theorem LSt.reads {w : World} {c : Nat} {wr : World} {g cap : Nat} {p : List Lab} {n : Nat} (h : LSt w c wr (.slice (some ⟨g, 0, none⟩) n cap) p) : Reads wr (some ⟨g, 0, none⟩) p :=
  .inr ⟨g, 0, rfl, h.blk.2, fun i hi => by rw [Nat.zero_add]; exact h.cells hi⟩

theorem own_one {w : World} {B M : Nat} {x : Lab} (h : Blk w M #[.string x.1, .string x.2] 94) (hB : B ≤ M) : w.ownsRow B 94 2 (.slice (some ⟨M, 0, none⟩) 1 1) 1 (flat [x]) :=
  ⟨rfl, .inr ⟨M, 1, _, rfl, hB, h, Nat.le_refl _, by simp [maxLen], rfl, rfl⟩⟩
theorem lst_one {w : World} {c : Nat} {W : World} {x : Lab} (hc : Cur W c) (hk : Kept c w W) (hcl : c < w.heap.size) (hs : x.1.size ≤ 100 ∧ x.2.size ≤ 100) : LSt w c (W.alloc (.cells #[.string x.1, .string x.2] 94)) (.slice (some ⟨W.heap.size, 0, none⟩) 1 1) [x] :=
  ⟨own_one (Blk.new _ _ _) hk.size, ⟨_, _, rfl⟩, hc.alloc _, hk.alloc _, hcl, small_one hs.1 hs.2⟩

structure LLit (w : World) (c lit k : Nat) (wr : World) (v : Value) (p : List Lab) : Prop where
  st : LSt w c wr v p
  row : Row isStr wr ⟨lit, 0, none⟩ k c
  ne : v.ownBlock ≠ some lit
theorem LLit.keep {w : World} {c lit k : Nat} {wr w' : World} {v : Value} {p : List Lab} (h : LLit w c lit k wr v p) (hc : Cur w' c) (hk : Kept c wr w') : LLit w c lit k w' v p :=
  ⟨h.st.keep hc hk, h.row.keep hk, h.ne⟩
theorem LLit.alloc {w : World} {c lit k : Nat} {wr : World} {v : Value} {p : List Lab} (h : LLit w c lit k wr v p) (o : Obj) : LLit w c lit k (wr.alloc o) v p :=
  h.keep (h.st.cur.alloc o) ((Kept.refl c wr).alloc o)
theorem LLit.add {w : World} {c lit k : Nat} {W w' : World} {v v' : Value} {p q : List Lab} {n m : Nat} {xs ys : List Value} (h : LLit w c lit k W v p) (hn : n = p.length) (hm : m = q.length) (hx : xs = flat p) (hy : ys = flat q) (hf : Small q) (hq : 0 < q.length)
    (hown : w'.ownsRow w.heap.size 94 2 v' (n + m) (xs ++ ys)) (hg : W.grownBy w' v.ownBlock) (N : Nat) (hN : N = W.heap.size) (hat : v'.ownBlock = v.ownBlock ∨ v'.ownBlock = some N) : LLit w c lit k w' v' (p ++ q) := by
  subst hN
  refine ⟨h.st.add hn hm hx hy hf hq hown hg, h.row.grown hg (fun e => h.ne e.symm), ?_⟩
  rcases hat with hat | hat
  · rw [hat]; exact h.ne
  · rw [hat]; intro e; have hlt : lit < W.heap.size := h.row.2.2.1; cases e; omega

set_option maxHeartbeats 1600000 in
theorem l2Draw_any (c : Nat) (w : World) (hc : Cur w c) :
    Calls Try.prog 94 #[.pointer (some ⟨c, 0, none⟩)] w fun e w' => ∃ v, e = .returned v ∧ ∃ p, LSt w c w' v p ∧ 1 ≤ p.length ∧ p.length ≤ 4 := by
  have HC : Hid (Cur w c) := hc
  have HL : Hid (c < w.heap.size) := hc.lt
  clear hc
  obtain ⟨i0, hi, hz0, hz1, hz2⟩ := info_parts infoL
  go_enter Try.func94, Try.ntmps94
  go_wp2_with fail
  refine (str_any c w.heap.size 0 3 3 _ (HC.out.alloc _) ?_ (by decide) (by decide)).mono ?_
  · exact row_lit (by decide) rfl HL.out
  rintro e w1 ⟨⟨s, rfl, hs⟩, hc1, hk1⟩
  have HK1 : Hid (Kept c w w1) := ((Kept.refl c w).alloc _).trans hk1
  have HC1 : Hid (Cur w1 c) := hc1
  clear hc1 hk1
  go_wp2_with fail
  go_loopw [3, 13] (fun v i wr => ∃ (k : Nat) (p : List Lab), k ≤ 3 ∧ i = .int .i64 k ∧ 1 ≤ p.length ∧ p.length ≤ k + 1 ∧ LLit w c (w1.heap.size + 1) 3 wr v p) (fun _ i _ => 3 - (intOf i).toNat)
  case atStart =>
    refine ⟨0, [(⟨#[97, 112, 112]⟩, s)], by omega, rfl, by simp, by simp, ⟨(lst_one (x := (⟨#[97, 112, 112]⟩, s)) HC1.out HK1.out HL.out ⟨show (ByteArray.mk #[97, 112, 112]).size ≤ 100 by decide, hs⟩).alloc _, ?_, by simp [Value.ownBlock]⟩⟩
    refine row_lit_at (p := isStr) ?_ rfl ?_ (by simp)
    · decide
    · have := HK1.out.size; have := HL.out; simp; omega
  case round =>
    obtain ⟨k, p, hk, rfl, hp1, hp2, hst⟩ := hrel
    have HS : Hid (LLit w c (w1.heap.size + 1) 3 wr u3 p) := hst
    clear hst
    by_cases hlt : k < 3
    · have hlt' : (k : Int) < 3 := by omega
      obtain ⟨v, hv, hp⟩ := HS.out.row.2.2.2 k hlt
      obtain ⟨t, rfl, ht⟩ := str_of hp
      have hv' : wr.cell? ⟨w1.heap.size + 1, k, none⟩ = some (.string t) := by simpa using hv
      clear hv hp
      go_wp2_with fail
      refine (once_any _ 4 _ HS.out.st.cur (by decide) (by decide)).mono ?_
      rintro e w2 ⟨⟨b, rfl⟩, hc2, hk2⟩
      have HS2 : Hid (LLit w c (w1.heap.size + 1) 3 w2 u3 p) := HS.out.keep hc2 hk2
      clear hc2 hk2 hv'
      cases b with
      | true =>
        go_wp2_with fail
        refine (str_any c w2.heap.size 0 2 2 _ (HS2.out.st.cur.alloc _) ?_ (by decide) (by decide)).mono ?_
        · exact row_lit (by decide) rfl HS2.out.st.cur.lt
        rintro e w3 ⟨⟨y, rfl, hy⟩, hc3, hk3⟩
        have HS3 : Hid (LLit w c (w1.heap.size + 1) 3 w3 u3 p) := (HS2.out.alloc _).keep hc3 hk3
        clear hc3 hk3
        go_wp2_with (at_builtin; refine wpList_append_own_at _ rfl _ _ 24 rfl w.heap.size 94 i0 (.agg #[.string ByteArray.empty, .string ByteArray.empty]) 2 32 Try.underlying24 hi hz0 hz1 hz2 rfl (by decide) _ _ _ rfl (HS3.out.alloc _).st.own ⟨w3.heap.size, 0, none⟩ 1 1 [.string t, .string y] rfl rfl ?c1 ?c2 ?c3 ?c4 ?c5 ?_)
        case c1 => exact blk_news (Blk.new _ _ _)
        case c2 => exact flat_one [(t, y)]
        case c3 => unfold maxLen; omega
        case c4 => omega
        case c5 => have := HS3.out.st.kept.size; simp; omega
        intro v' w4 hown hg _ hat
        have HS4 : Hid (LLit w c (w1.heap.size + 1) 3 w4 v' (p ++ [(t, y)])) := (HS3.out.alloc _).add (q := [(t, y)]) rfl rfl rfl rfl (small_one ht hy) (by simp) hown hg _ (by simp) hat
        clear hown hg hat
        go_wp2
        go_roundw
        case rel => exact ⟨k + 1, p ++ [(t, y)], by omega, by go_num, by simp, by simp; omega, HS4.out⟩
        case measure => simp [intOf]; omega
      | false =>
        go_wp2
        go_roundw
        case rel => exact ⟨k + 1, p, by omega, by go_num, hp1, by omega, HS2.out⟩
        case measure => simp [intOf]; omega
    · have hge : ¬ (k : Int) < 3 := by omega
      go_wp2
      go_ret
      exact ⟨_, rfl, p, HS.out.st, hp1, by omega⟩

theorem grown_set (w : World) (g i : Nat) (v : Value) : w.grownBy (w.setCell ⟨g, i, none⟩ v) (some g) :=
  ⟨rfl, rfl, rfl, by simp [World.setCell], fun k _ hne => Below.heap_setCell _ _ _ _ (fun e => hne (by rw [e]))⟩
theorem LSt.put {w : World} {c : Nat} {wr : World} {g cap n : Nat} {p : List Lab} (h : LSt w c wr (.slice (some ⟨g, 0, none⟩) n cap) p) (hp : 0 < p.length) (s : ByteArray) (hs : s.size ≤ 100) :
    LSt w c (wr.setCell ⟨g, 1, none⟩ (.string s)) (.slice (some ⟨g, 0, none⟩) n cap) (((nth p 0).1, s) :: p.tail) := by
  obtain ⟨x, q, rfl⟩ : ∃ x q, p = x :: q := by cases p with | nil => simp at hp | cons x q => exact ⟨x, q, rfl⟩
  have hgl := h.blk
  have hgc : c ≠ g := by have := h.clt; omega
  refine ⟨⟨by simp [flat_len], ?_⟩, h.lies, ?_, ?_, h.clt, ?_⟩
  · rcases h.own.2 with ⟨e, _⟩ | ⟨g', cap', cur, e, hb, hg, hn, hcm, hcs, ht⟩
    · cases e
    · cases e
      refine .inr ⟨g, cap, cur.setIfInBounds 1 (.string s), rfl, hb, ?_, hn, hcm, by simpa using hcs, ?_⟩
      · exact Blk.set (T := 94) hg 1 (.string s)
      · rw [Array.toList_setIfInBounds, List.take_set]
        show (List.take ((x :: q).length * 2) cur.toList).set 1 (.string s) = flat ((x.1, s) :: q)
        rw [ht]
        rfl
  · exact h.cur.grown (grown_set wr g 1 _) (fun k hk => by cases hk; have := h.clt; omega)
  · exact kept_grown (B := 0) h.kept (grown_set wr g 1 _) (fun k hk => by cases hk; exact hgl.1)
  · intro y hy
    rcases List.mem_cons.1 hy with rfl | hy
    · exact ⟨(h.fit x (by simp)).1, hs⟩
    · exact h.fit y (by simp [show y ∈ q from hy])
theorem LSt.none_new {w : World} {c : Nat} {W : World} (hc : Cur W c) (hk : Kept c w W) (hcl : c < w.heap.size) : LSt w c (W.alloc (.cells #[] 94)) (.slice (some ⟨W.heap.size, 0, none⟩) 0 0) [] :=
  ⟨own_empty (Blk.new _ _ _) hk.size, ⟨_, _, rfl⟩, hc.alloc _, hk.alloc _, hcl, small_nil⟩

theorem LSt.ahead {w : World} {c : Nat} {W w' : World} {v v' : Value} {x : Lab} {p : List Lab} {xs ys : List Value} {n m : Nat} (h : LSt w c W v p) {u : Value} (hu : W.ownsRow w.heap.size 94 2 u n xs) (hn : n = 1) (hm : m = p.length) (hx : xs = flat [x]) (hy : ys = flat p) (hs : Small [x])
    (hown : w'.ownsRow w.heap.size 94 2 v' (n + m) (xs ++ ys)) (hg : W.grownBy w' u.ownBlock) : LSt w c w' v' (x :: p) := by
  subst hn hm hx hy
  have ho : w'.ownsRow w.heap.size 94 2 v' (x :: p).length (flat (x :: p)) := by
    rw [List.length_cons, Nat.add_comm]; exact hown
  exact ⟨ho, own_form ho (by simp), h.cur.grown hg (fun k hk => by have := (hu.lt k hk).1; have := h.clt; omega), kept_grown (B := 0) h.kept hg (fun k hk => (hu.lt k hk).1), h.clt, by
    intro y hy
    rcases List.mem_cons.1 hy with rfl | hy
    · exact hs _ (by simp)
    · exact h.fit y hy⟩
theorem LSt.src {w : World} {c : Nat} {wr : World} {g cap n : Nat} {p : List Lab} (h : LSt w c wr (.slice (some ⟨g, 0, none⟩) n cap) p) : ∀ j u, (flat p)[j]? = some u → wr.cell? ((⟨g, 0, none⟩ : Addr).add j) = some u := h.own.cells (g := g) rfl

set_option maxHeartbeats 1600000 in
theorem l2Any_any (c : Nat) (w : World) (hc : Cur w c) :
    Calls Try.prog 90 #[.pointer (some ⟨c, 0, none⟩)] w fun e w' => ∃ v, e = .returned v ∧ ∃ p, LSt w c w' v p ∧ p.length ≤ 8 := by
  have HC : Hid (Cur w c) := hc
  have HL : Hid (c < w.heap.size) := hc.lt
  clear hc
  obtain ⟨i0, hi, hz0, hz1, hz2⟩ := info_parts infoL
  go_enter Try.func90, Try.ntmps90
  go_wp2_with fail
  refine (l2Draw_any c w HC.out).mono ?_
  rintro e w1 ⟨v, rfl, p, hst, hp1, hp2⟩
  obtain ⟨g, cap, rfl⟩ := hst.lies
  have HS1 : Hid (LSt w c w1 (.slice (some ⟨g, 0, none⟩) p.length cap) p) := hst
  clear hst
  go_wp2_with fail
  refine (below_any c 10 _ HS1.out.cur (by decide) (by decide)).mono ?_
  rintro e w2 ⟨⟨x, rfl, hx0, hx1⟩, hc2, hk2⟩
  have HS2 : Hid (LSt w c w2 (.slice (some ⟨g, 0, none⟩) p.length cap) p) := HS1.out.keep hc2 hk2
  clear hc2 hk2
  by_cases e0 : x = 0
  · subst e0
    go_wp2_with fail
    refine (anyName_any c _ HS2.out.cur).mono ?_
    rintro e w3 ⟨⟨s, rfl, hs⟩, hc3, hk3⟩
    have HS3 : Hid (LSt w c w3 (.slice (some ⟨g, 0, none⟩) p.length cap) p) := HS2.out.keep hc3 hk3
    clear hc3 hk3
    go_wp2_with fail
    refine (anyPlain_any c _ HS3.out.cur).mono ?_
    rintro e w4 ⟨⟨t, rfl, ht⟩, hc4, hk4⟩
    have HS4 : Hid (LSt w c w4 (.slice (some ⟨g, 0, none⟩) p.length cap) p) := HS3.out.keep hc4 hk4
    clear hc4 hk4
    go_wp2_with (at_builtin; refine wpList_append_own_at _ rfl _ _ 24 rfl w.heap.size 94 i0 (.agg #[.string ByteArray.empty, .string ByteArray.empty]) 2 32 Try.underlying24 hi hz0 hz1 hz2 rfl (by decide) _ _ _ rfl (HS4.out.alloc _).own ⟨w4.heap.size, 0, none⟩ 1 1 [.string s, .string t] rfl rfl ?c1 ?c2 ?c3 ?c4 ?c5 ?_)
    case c1 => exact blk_news (Blk.new _ _ _)
    case c2 => exact flat_one [(s, t)]
    case c3 => unfold maxLen; omega
    case c4 => omega
    case c5 => have := HS4.out.kept.size; simp; omega
    intro v' w5 hown hg _ hat
    have HS5 : Hid (LSt w c w5 v' (p ++ [(s, t)])) := (HS4.out.alloc _).add (q := [(s, t)]) rfl rfl rfl rfl (small_one hs ht) (by simp) hown hg
    clear hown hg hat
    go_wp2
    go_ret
    exact ⟨_, rfl, _, HS5.out, by simp; omega⟩
  have d0 : (x == 0) = false := by simpa using e0
  by_cases e1 : x = 1
  · subst e1
    have HB : Hid (Blk (w2.alloc (.cells #[.string ⟨#[122, 122]⟩, .string ⟨#[49]⟩] 94)) w2.heap.size #[.string ⟨#[122, 122]⟩, .string ⟨#[49]⟩] 94) := Blk.new _ _ _
    have HO : Hid ((w2.alloc (.cells #[.string ⟨#[122, 122]⟩, .string ⟨#[49]⟩] 94)).ownsRow w.heap.size 94 2 (.slice (some ⟨w2.heap.size, 0, none⟩) 1 1) 1 (flat [(⟨#[122, 122]⟩, ⟨#[49]⟩)])) := own_one (x := (⟨#[122, 122]⟩, ⟨#[49]⟩)) HB.out HS2.out.kept.size
    go_wp2_with (at_builtin; refine wpList_append_own_at _ rfl _ _ 24 rfl w.heap.size 94 i0 (.agg #[.string ByteArray.empty, .string ByteArray.empty]) 2 32 Try.underlying24 hi hz0 hz1 hz2 rfl (by decide) _ _ _ rfl HO.out ⟨g, 0, none⟩ p.length cap (flat p) rfl (flat_len p) ?c1 (flat_one p) ?c3 ?c4 ?c5 ?_)
    case c1 => exact (HS2.out.alloc _).src
    case c3 => unfold maxLen; omega
    case c4 => omega
    case c5 => have := HS2.out.kept.size; simp; omega
    intro v' w3 hown hg _ hat
    have HS3 : Hid (LSt w c w3 v' ((⟨#[122, 122]⟩, ⟨#[49]⟩) :: p)) := (HS2.out.alloc _).ahead HO.out rfl rfl rfl rfl (small_one (by decide) (by decide)) hown hg
    clear hown hg hat HO HB
    go_wp2
    go_ret
    exact ⟨_, rfl, _, HS3.out, by simp; omega⟩
  have d1 : (x == 1) = false := by simpa using e1
  by_cases e2 : x = 2
  · subst e2
    obtain ⟨c0, c1⟩ := HS2.out.cells (m := 0) (by omega)
    have hpl : (0 : Int) < (p.length : Int) := by omega
    simp only [Nat.zero_mul, Nat.zero_add] at c0 c1
    go_wp2_with (at_builtin; refine wpList_append_own_at _ rfl _ _ 24 rfl w.heap.size 94 i0 (.agg #[.string ByteArray.empty, .string ByteArray.empty]) 2 32 Try.underlying24 hi hz0 hz1 hz2 rfl (by decide) _ _ _ rfl (HS2.out.alloc _).own ⟨w2.heap.size, 0, none⟩ 1 1 [.string (nth p 0).1, .string (nth p 0).2] rfl rfl ?c1 ?c2 ?c3 ?c4 ?c5 ?_)
    case c1 => exact blk_news (Blk.new _ _ _)
    case c2 => exact flat_one [nth p 0]
    case c3 => unfold maxLen; omega
    case c4 => omega
    case c5 => have := HS2.out.kept.size; simp; omega
    intro v' w3 hown hg _ hat
    have HS3 : Hid (LSt w c w3 v' (p ++ [nth p 0])) := (HS2.out.alloc _).add (q := [nth p 0]) rfl rfl rfl rfl (fun y hy => by
      have e : y = nth p 0 := by simpa using hy
      rw [e]; exact HS2.out.fit _ (by rw [nth_eq (by omega)]; exact List.getElem_mem _)) (by simp) hown hg
    clear hown hg hat c0 c1
    go_wp2
    go_ret
    exact ⟨_, rfl, _, HS3.out, by simp; omega⟩
  have d2 : (x == 2) = false := by simpa using e2
  by_cases e3 : x = 3
  · subst e3
    go_wp2_with (at_builtin; refine wpList_append_own_at _ rfl _ _ 24 rfl w.heap.size 94 i0 (.agg #[.string ByteArray.empty, .string ByteArray.empty]) 2 32 Try.underlying24 hi hz0 hz1 hz2 rfl (by decide) _ _ _ rfl (HS2.out.alloc _).own ⟨w2.heap.size, 0, none⟩ 4 4 (flat [(⟨#[122, 117]⟩, ByteArray.empty), (⟨#[122, 118]⟩, ByteArray.empty), (⟨#[122, 119]⟩, ByteArray.empty), (⟨#[122, 120]⟩, ByteArray.empty)]) rfl rfl ?c1 (flat_one _) ?c3 ?c4 ?c5 ?_)
    case c1 => exact blk_news (Blk.new _ _ _)
    case c3 => unfold maxLen; omega
    case c4 => omega
    case c5 => have := HS2.out.kept.size; simp; omega
    intro v' w3 hown hg _ hat
    have HS3 : Hid (LSt w c w3 v' (p ++ [(⟨#[122, 117]⟩, ByteArray.empty), (⟨#[122, 118]⟩, ByteArray.empty), (⟨#[122, 119]⟩, ByteArray.empty), (⟨#[122, 120]⟩, ByteArray.empty)])) := (HS2.out.alloc _).add (q := [(⟨#[122, 117]⟩, ByteArray.empty), (⟨#[122, 118]⟩, ByteArray.empty), (⟨#[122, 119]⟩, ByteArray.empty), (⟨#[122, 120]⟩, ByteArray.empty)]) rfl rfl rfl rfl (fun y hy => by
      simp only [List.mem_cons, List.not_mem_nil, or_false] at hy
      rcases hy with rfl | rfl | rfl | rfl <;> exact ⟨by decide, by decide⟩) (by simp) hown hg
    clear hown hg hat
    go_wp2
    go_ret
    exact ⟨_, rfl, _, HS3.out, by simp; omega⟩
  have d3 : (x == 3) = false := by simpa using e3
  by_cases e4 : x = 4
  · subst e4
    go_wp2_with fail
    refine (anyPlain_any c _ HS2.out.cur).mono ?_
    rintro e w3 ⟨⟨t, rfl, ht⟩, hc3, hk3⟩
    have hS3 : LSt w c w3 (.slice (some ⟨g, 0, none⟩) p.length cap) p := HS2.out.keep hc3 hk3
    have HS3 : Hid (LSt w c w3 (.slice (some ⟨g, 0, none⟩) p.length cap) p) := hS3
    obtain ⟨c0, c1⟩ := hS3.cells (m := 0) (by omega)
    have hpl : (0 : Int) < (p.length : Int) := by omega
    simp only [Nat.zero_mul, Nat.zero_add] at c0 c1
    have f1 : w3.frozen? ⟨g, 1, none⟩ = false := hS3.warm 1
    have HS4 : Hid (LSt w c (w3.setCell ⟨g, 1, none⟩ (.string t)) (.slice (some ⟨g, 0, none⟩) p.length cap) (((nth p 0).1, t) :: p.tail)) := hS3.put (by omega) t ht
    clear hc3 hk3 hS3
    go_wp2
    go_ret
    exact ⟨_, rfl, _, HS4.out, by simp; omega⟩
  have d4 : (x == 4) = false := by simpa using e4
  by_cases e5 : x = 5
  · subst e5
    go_wp2
    go_ret
    exact ⟨_, rfl, _, LSt.none_new HS2.out.cur HS2.out.kept HL.out, by simp⟩
  have d5 : (x == 5) = false := by simpa using e5
  go_wp2
  go_ret
  exact ⟨_, rfl, _, HS2.out, by omega⟩
end Go.Proofs.Ytekcmpjjfnijmaa.DrawL
namespace Go.Proofs.Ytekcmpjjfnijmaa.DrawT
open Go.RowKit
open Draw
open Labs LabS Over DrawL

theorem small_fits {p : List Lab} (h : Small p) : ∀ i, i < p.length → (nth p i).1.size ≤ maxLen ∧ (nth p i).2.size ≤ maxLen := fun i hi => by
  rw [nth_eq hi]
  have := h _ (List.getElem_mem hi)
  unfold maxLen
  exact ⟨by omega, by omega⟩
end Go.Proofs.Ytekcmpjjfnijmaa.DrawT
namespace Go.Proofs.Ytekcmpjjfnijmaa.DrawA
open Go.RowKit
open Draw
open Labs LabS LabR Over Blk App DrawL DrawT Alm AlmM
open LabT (infoL Held held_reads)

theorem blk_kept {c M : Nat} {w w' : World} {cs : Array Value} {T : TypeId} (h : Blk w M cs T) (hk : Kept c w w') (hne : M ≠ c) : Blk w' M cs T := by
  have hl := h.lt
  unfold Blk at *
  rw [hk.block M hl hne]; exact h
theorem lst_base {w W wr : World} {c : Nat} {v : Value} {p : List Lab} (h : LSt W c wr v p) (hk : Kept c w W) (hc : c < w.heap.size) : LSt w c wr v p :=
  ⟨Go.Joins.ownsRow_le h.own hk.size, h.lies, h.cur, hk.trans h.kept, hc, h.fit⟩
theorem lst_other {w wr : World} {c : Nat} {v : Value} {p : List Lab} (h : LSt w c wr v p) {B : Nat} (hB : w.heap.size ≤ B) (hne : v.ownBlock ≠ some B) (i : Nat) (u : Value) : LSt w c (wr.setCell ⟨B, i, none⟩ u) v p :=
  ⟨h.own.kept (grown_set wr B i u) (.inr hne), h.lies, h.cur.grown (grown_set wr B i u) (fun k hk => by cases hk; have := h.clt; omega), kept_grown (B := 0) h.kept (grown_set wr B i u) (fun k hk => by cases hk; exact hB), h.clt, h.fit⟩
theorem lst_other4 {w wr : World} {c : Nat} {v : Value} {p : List Lab} (h : LSt w c wr v p) {B : Nat} (hB : w.heap.size ≤ B) (hne : v.ownBlock ≠ some B) (u0 u1 u2 u3 : Value) : LSt w c ((((wr.setCell ⟨B, 0, none⟩ u0).setCell ⟨B, 1, none⟩ u1).setCell ⟨B, 2, none⟩ u2).setCell ⟨B, 3, none⟩ u3) v p :=
  lst_other (lst_other (lst_other (lst_other h hB hne 0 u0) hB hne 1 u1) hB hne 2 u2) hB hne 3 u3
theorem own_ne {g n c B : Nat} (h : g ≠ B) : (Value.slice (some ⟨g, 0, none⟩) n c).ownBlock ≠ some B := fun e => h (Option.some.inj e)
theorem wrapB (x : Int) : -9223372036854775808 ≤ IntKind.i64.wrap x ∧ IntKind.i64.wrap x ≤ 9223372036854775807 := by
  rw [IntKind.wrap_i64]; omega
def I64 (x : Int) : Prop := -9223372036854775808 ≤ x ∧ x ≤ 9223372036854775807

set_option maxRecDepth 100000 in
set_option maxHeartbeats 1600000 in
theorem l4Draw_any (c : Nat) (w : World) (hc : Cur w c) :
    Calls Try.prog 51 #[.pointer (some ⟨c, 0, none⟩)] w fun r w' => ∃ (g cap : Nat) (p : List Lab) (s e : Int) (n : ByteArray), r = .returned (.agg #[.slice (some ⟨g, 0, none⟩) p.length cap, .int .i64 s, .int .i64 e, .string n]) ∧ LSt w c w' (.slice (some ⟨g, 0, none⟩) p.length cap) p ∧ p.length ≤ 8 ∧ I64 s ∧ I64 e ∧ n.size ≤ 100 := by
  have HC : Hid (Cur w c) := hc
  have HL : Hid (c < w.heap.size) := hc.lt
  clear hc
  go_enter Try.func51, Try.ntmps51
  go_wp2_with fail
  refine (l2Draw_any c _ (HC.out.alloc _)).mono ?_
  rintro r w1 ⟨v, rfl, p, hst, hp1, hp2⟩
  obtain ⟨g, cap, rfl⟩ := hst.lies
  have HG : Hid (w.heap.size < g ∧ g < w1.heap.size) := by have := hst.blk; simp at this; exact ⟨by omega, this.2⟩
  have HR1 : Hid (Blk w1 w.heap.size #[.slice none 0 0, .int .i64 0, .int .i64 0, .string ⟨#[]⟩] 29) := blk_kept (Blk.new _ _ _) hst.kept (by have := HL.out; omega)
  have HS1 : Hid (LSt w c w1 (.slice (some ⟨g, 0, none⟩) p.length cap) p) := lst_base hst ((Kept.refl c w).alloc _) HL.out
  clear hst
  go_wp2_with fail
  refine (below_any c 8 _ HS1.out.cur (by decide) (by decide)).mono ?_
  rintro r w2 ⟨⟨s, rfl, hs0, hs1⟩, hc2, hk2⟩
  have HS2 : Hid (LSt w c w2 (.slice (some ⟨g, 0, none⟩) p.length cap) p) := HS1.out.keep hc2 hk2
  have HR2 : Hid (Blk w2 w.heap.size #[.slice none 0 0, .int .i64 0, .int .i64 0, .string ⟨#[]⟩] 29) := blk_kept HR1.out hk2 (by have := HL.out; omega)
  have HZ2 : Hid (w1.heap.size ≤ w2.heap.size) := hk2.size
  clear hc2 hk2
  go_wp2_with fail
  refine (plainS_any c _ HS2.out.cur).mono ?_
  rintro r w3 ⟨⟨n, rfl, hn⟩, hc3, hk3⟩
  have HS3 : Hid (LSt w c w3 (.slice (some ⟨g, 0, none⟩) p.length cap) p) := HS2.out.keep hc3 hk3
  have HR3 : Hid (Blk w3 w.heap.size #[.slice none 0 0, .int .i64 0, .int .i64 0, .string ⟨#[]⟩] 29) := blk_kept HR2.out hk3 (by have := HL.out; omega)
  have HN : Hid (w.heap.size < w3.heap.size ∧ g < w3.heap.size ∧ c < w3.heap.size) := by
    have h1 := HG.out; have h2 := HZ2.out; have h3 := hk3.size; have h4 := HL.out
    exact ⟨by omega, by omega, by omega⟩
  clear hc3 hk3 HS1 HS2 HR1 HR2 HZ2
  go_wp2
  generalize hz : w3.alloc (.cells #[.slice (some ⟨g, 0, none⟩) p.length cap, .int .i64 s, .int .i64 0, .string n] 29) = z
  have HSz : Hid (LSt w c z (.slice (some ⟨g, 0, none⟩) p.length cap) p) := by rw [← hz]; exact HS3.out.alloc _
  have HRz : Hid (Blk z w.heap.size #[.slice none 0 0, .int .i64 0, .int .i64 0, .string ⟨#[]⟩] 29) := by rw [← hz]; exact HR3.out.alloc _
  have HAz : Hid (Blk z w3.heap.size #[.slice (some ⟨g, 0, none⟩) p.length cap, .int .i64 s, .int .i64 0, .string n] 29) := by rw [← hz]; exact Blk.new _ _ _
  clear hz HS3 HR3
  generalize w3.heap.size = A at HN HAz ⊢
  have a1 : z.cell? ⟨A, 1, none⟩ = some (.int .i64 s) := HAz.out.cell 1
  have HK : Hid (∀ (o : Obj) (w4 : World), Cur w4 c → Kept c (z.alloc o) w4 → LSt w c w4 (.slice (some ⟨g, 0, none⟩) p.length cap) p ∧ Blk w4 A #[.slice (some ⟨g, 0, none⟩) p.length cap, .int .i64 s, .int .i64 0, .string n] 29 ∧ Blk w4 w.heap.size #[.slice none 0 0, .int .i64 0, .int .i64 0, .string ⟨#[]⟩] 29) := fun o w4 hc h => by
    have h0 := HN.out; have h1 := HL.out
    exact ⟨(HSz.out.alloc o).keep hc h, blk_kept (HAz.out.alloc o) h (by omega), blk_kept (HRz.out.alloc o) h (by omega)⟩
  have HCz : Hid (Cur z c) := HSz.out.cur
  have HI : Hid (Calls Try.prog 92 #[.pointer (some ⟨c, 0, none⟩), .slice (some ⟨z.heap.size, 0, none⟩) 5 5] (z.alloc (.cells #[.int .i64 0, .int .i64 2, .int .i64 5, .int .i64 20, .int .i64 60] 3)).drew fun e w4 => (∃ x : Int, e = .returned (.int .i64 x) ∧ -9223372036854775808 ≤ x ∧ x ≤ 9223372036854775807) ∧ Cur w4 c ∧ Kept c (z.alloc (.cells #[.int .i64 0, .int .i64 2, .int .i64 5, .int .i64 20, .int .i64 60] 3)) w4) := by
    refine (int_any c z.heap.size 0 5 5 _ ?_ ?_ (by decide) (by decide)).mono fun e w4 h => ⟨h.1, h.2.1, ⟨h.2.2.os, h.2.2.tape, h.2.2.output, h.2.2.size, h.2.2.block⟩⟩
    · exact HCz.out.alloc _
    · exact row_lit (w := z) (by decide) rfl HCz.out.lt
  have kz : z.drew.cell? ⟨A, 1, none⟩ = some (.int .i64 s) := a1
  go_region_held3 (fun w' => w'.cell? ⟨A, 1, none⟩ = some (.int .i64 s)) (first | exact kz | exact Blk.cell (HAz.out.alloc _) 1 | exact hA4.cell 1 | exact (hA4.set 2 _).cell 1 | (go_keep; done)) (first
    | (go_at_call 92; (with_reducible refine HI.out.mono ?_); rintro r w4 ⟨⟨x, rfl, hx⟩, hc4, hk4⟩; (have hA3 := HK.out _ w4 hc4 hk4); (have hA4 := hA3.2.1); (have n2 : w4.cell? ⟨A, 2, none⟩ = some (.int .i64 0) := hA4.cell 2); (have f2 := hA4.frozen 2)))
  have HS4 : Hid (LSt w c w4 (.slice (some ⟨g, 0, none⟩) p.length cap) p) := hA3.1
  have hR := hA3.2.2
  have hA := hA4
  clear n2 f2 hA3 hA4 hc4 hk4 kz a1
  have HE : Hid (I64 (IntKind.i64.wrap (s + x))) := wrapB _
  generalize IntKind.i64.wrap (s + x) = y at HE ⊢
  have A0 : w4.cell? ⟨A, 0, none⟩ = some (.slice (some ⟨g, 0, none⟩) p.length cap) := hA.cell 0
  have A1 : w4.cell? ⟨A, 1, none⟩ = some (.int .i64 s) := hA.cell 1
  have A2 : w4.cell? ⟨A, 2, none⟩ = some (.int .i64 0) := hA.cell 2
  have A3 : w4.cell? ⟨A, 3, none⟩ = some (.string n) := hA.cell 3
  have fA0 := hA.frozen 0
  have fA1 := hA.frozen 1
  have fA2 := hA.frozen 2
  have fA3 := hA.frozen 3
  have R0 : w4.cell? ⟨w.heap.size, 0, none⟩ = some (.slice none 0 0) := hR.cell 0
  have R1 : w4.cell? ⟨w.heap.size, 1, none⟩ = some (.int .i64 0) := hR.cell 1
  have R2 : w4.cell? ⟨w.heap.size, 2, none⟩ = some (.int .i64 0) := hR.cell 2
  have R3 : w4.cell? ⟨w.heap.size, 3, none⟩ = some (.string ⟨#[]⟩) := hR.cell 3
  have fR0 := hR.frozen 0
  have fR1 := hR.frozen 1
  have fR2 := hR.frozen 2
  have fR3 := hR.frozen 3
  have d1 : ¬ A = w.heap.size := by have := HN.out; omega
  have d2 : ¬ w.heap.size = A := by have := HN.out; omega
  clear hA hR
  go_wp2
  refine bodyPost_ret (v := .agg #[.slice (some ⟨g, 0, none⟩) p.length cap, .int .i64 s, .int .i64 y, .string n]) (by simp [results, Try.results51, go_sem, R0, R1, R2, R3]) rfl ?_
  have h0 := HN.out; have h1 := HG.out; have h2 := HL.out
  exact ⟨g, cap, p, s, y, n, rfl, lst_other4 (lst_other HS4.out (by omega) (own_ne (by omega)) _ _) (Nat.le_refl _) (own_ne (by omega)) _ _ _ _, by omega, ⟨by omega, by omega⟩, HE.out, hn⟩

set_option maxRecDepth 100000 in
set_option maxHeartbeats 3200000 in
theorem l4Any_any (c : Nat) (w : World) (hc : Cur w c) :
    Calls Try.prog 93 #[.pointer (some ⟨c, 0, none⟩)] w fun r w' => ∃ (g cap : Nat) (p : List Lab) (s e : Int) (n : ByteArray), r = .returned (.agg #[.slice (some ⟨g, 0, none⟩) p.length cap, .int .i64 s, .int .i64 e, .string n]) ∧ LSt w c w' (.slice (some ⟨g, 0, none⟩) p.length cap) p ∧ p.length ≤ 8 ∧ I64 s ∧ I64 e ∧ n.size ≤ 100 := by
  have HC : Hid (Cur w c) := hc
  have HL : Hid (c < w.heap.size) := hc.lt
  clear hc
  go_enter Try.func93, Try.ntmps93
  go_wp2_with fail
  refine (l4Draw_any c _ (HC.out.alloc _)).mono ?_
  rintro r w1 ⟨g, cap, p, s, e, n, rfl, hst, hp, hs, he, hn⟩
  have HG : Hid (w.heap.size < g ∧ g < w1.heap.size) := by have := hst.blk; simp at this; exact ⟨by omega, this.2⟩
  have HR1 : Hid (Blk w1 w.heap.size #[.slice none 0 0, .int .i64 0, .int .i64 0, .string ⟨#[]⟩] 29) := blk_kept (Blk.new _ _ _) hst.kept (by have := HL.out; omega)
  have HS1 : Hid (LSt w c w1 (.slice (some ⟨g, 0, none⟩) p.length cap) p) := lst_base hst ((Kept.refl c w).alloc _) HL.out
  have HI : Hid (p.length ≤ 8 ∧ I64 s ∧ I64 e ∧ n.size ≤ 100) := ⟨hp, hs, he, hn⟩
  clear hst hp hs he hn
  go_wp2_with fail
  refine (below_any c 12 _ (HS1.out.cur.alloc _) (by decide) (by decide)).mono ?_
  rintro r w2 ⟨⟨x, rfl, hx0, hx1⟩, hc2, hk2⟩
  have HN : Hid (w.heap.size < g ∧ g < w1.heap.size ∧ w1.heap.size < w2.heap.size) := by
    have h1 := HG.out; have h2 := hk2.size; simp at h2
    exact ⟨by omega, by omega, by omega⟩
  have HS2 : Hid (LSt w c w2 (.slice (some ⟨g, 0, none⟩) p.length cap) p) := (HS1.out.alloc _).keep hc2 hk2
  have HA2 : Hid (Blk w2 w1.heap.size #[.slice (some ⟨g, 0, none⟩) p.length cap, .int .i64 s, .int .i64 e, .string n] 29) := blk_kept (Blk.new _ _ _) hk2 (by have := HL.out; have := HN.out; omega)
  have HR2 : Hid (Blk w2 w.heap.size #[.slice none 0 0, .int .i64 0, .int .i64 0, .string ⟨#[]⟩] 29) := blk_kept (HR1.out.alloc _) hk2 (by have := HL.out; omega)
  clear hc2 hk2 HS1 HR1 HG
  generalize w1.heap.size = A at HN HA2 ⊢
  have HAc : Hid (A ≠ c ∧ w.heap.size ≠ c) := by have := HL.out; have := HN.out; exact ⟨by omega, by omega⟩
  by_cases e0 : x = 0
  · subst e0
    go_wp2_with fail
    refine (l2Any_any c _ HS2.out.cur).mono ?_
    rintro r w3 ⟨v, rfl, q, hst, hq⟩
    obtain ⟨g', cap', rfl⟩ := hst.lies
    have HG' : Hid (A < g') := by have := hst.blk; have := HN.out; show A < g'; omega
    have hA := blk_kept HA2.out hst.kept HAc.out.1
    have hR := blk_kept HR2.out hst.kept HAc.out.2
    have HS3 : Hid (LSt w c w3 (.slice (some ⟨g', 0, none⟩) q.length cap') q) := lst_base hst HS2.out.kept HL.out
    clear hst
    have A0 : w3.cell? ⟨A, 0, none⟩ = some (.slice (some ⟨g, 0, none⟩) p.length cap) := hA.cell 0
    have A1 : w3.cell? ⟨A, 1, none⟩ = some (.int .i64 s) := hA.cell 1
    have A2 : w3.cell? ⟨A, 2, none⟩ = some (.int .i64 e) := hA.cell 2
    have A3 : w3.cell? ⟨A, 3, none⟩ = some (.string n) := hA.cell 3
    have fA0 := hA.frozen 0
    have fA1 := hA.frozen 1
    have fA2 := hA.frozen 2
    have fA3 := hA.frozen 3
    have R0 : w3.cell? ⟨w.heap.size, 0, none⟩ = some (.slice none 0 0) := hR.cell 0
    have R1 : w3.cell? ⟨w.heap.size, 1, none⟩ = some (.int .i64 0) := hR.cell 1
    have R2 : w3.cell? ⟨w.heap.size, 2, none⟩ = some (.int .i64 0) := hR.cell 2
    have R3 : w3.cell? ⟨w.heap.size, 3, none⟩ = some (.string ⟨#[]⟩) := hR.cell 3
    have fR0 := hR.frozen 0
    have fR1 := hR.frozen 1
    have fR2 := hR.frozen 2
    have fR3 := hR.frozen 3
    have d1 : ¬ A = w.heap.size := by have := HN.out; omega
    have d2 : ¬ w.heap.size = A := by have := HN.out; omega
    clear hA hR
    go_wp2
    refine bodyPost_ret (v := .agg #[.slice (some ⟨g', 0, none⟩) q.length cap', .int .i64 s, .int .i64 e, .string n]) (by simp [results, Try.results93, go_sem, R0, R1, R2, R3]) rfl ?_
    have h0 := HN.out; have h3 := HG'.out; have h2 := HL.out
    exact ⟨g', cap', q, s, e, n, rfl, lst_other4 (lst_other HS3.out (by omega) (own_ne (by have := HG'.out; omega)) _ _) (Nat.le_refl _) (own_ne (by omega)) _ _ _ _, hq, HI.out.2.1, HI.out.2.2.1, HI.out.2.2.2⟩
  have d0' : (x == 0) = false := by simpa using e0
  by_cases e1 : x = 1
  · subst e1
    go_wp2_with fail
    refine (int_any c _ _ _ _ _ ?hc ?hr ?h1 ?h2).mono ?_
    case hc => exact HS2.out.cur.alloc _
    case hr => exact row_lit (by decide) rfl HS2.out.cur.lt
    case h1 => decide
    case h2 => decide
    rintro r w3 ⟨⟨y, rfl, hy⟩, hc3, hk3⟩
    have HY : Hid (I64 y) := hy
    have hA := blk_kept (HA2.out.alloc _) hk3 HAc.out.1
    have hR := blk_kept (HR2.out.alloc _) hk3 HAc.out.2
    have HS3 : Hid (LSt w c w3 (.slice (some ⟨g, 0, none⟩) p.length cap) p) := (HS2.out.alloc _).keep hc3 hk3
    clear hc3 hk3 hy
    have A0 : w3.cell? ⟨A, 0, none⟩ = some (.slice (some ⟨g, 0, none⟩) p.length cap) := hA.cell 0
    have A1 : w3.cell? ⟨A, 1, none⟩ = some (.int .i64 s) := hA.cell 1
    have A2 : w3.cell? ⟨A, 2, none⟩ = some (.int .i64 e) := hA.cell 2
    have A3 : w3.cell? ⟨A, 3, none⟩ = some (.string n) := hA.cell 3
    have fA0 := hA.frozen 0
    have fA1 := hA.frozen 1
    have fA2 := hA.frozen 2
    have fA3 := hA.frozen 3
    have R0 : w3.cell? ⟨w.heap.size, 0, none⟩ = some (.slice none 0 0) := hR.cell 0
    have R1 : w3.cell? ⟨w.heap.size, 1, none⟩ = some (.int .i64 0) := hR.cell 1
    have R2 : w3.cell? ⟨w.heap.size, 2, none⟩ = some (.int .i64 0) := hR.cell 2
    have R3 : w3.cell? ⟨w.heap.size, 3, none⟩ = some (.string ⟨#[]⟩) := hR.cell 3
    have fR0 := hR.frozen 0
    have fR1 := hR.frozen 1
    have fR2 := hR.frozen 2
    have fR3 := hR.frozen 3
    have d1 : ¬ A = w.heap.size := by have := HN.out; omega
    have d2 : ¬ w.heap.size = A := by have := HN.out; omega
    clear hA hR
    go_wp2
    refine bodyPost_ret (v := .agg #[.slice (some ⟨g, 0, none⟩) p.length cap, .int .i64 y, .int .i64 e, .string n]) (by simp [results, Try.results93, go_sem, R0, R1, R2, R3]) rfl ?_
    have h0 := HN.out; have h2 := HL.out
    exact ⟨g, cap, p, y, e, n, rfl, lst_other4 (lst_other HS3.out (by omega) (own_ne (by omega)) _ _) (Nat.le_refl _) (own_ne (by omega)) _ _ _ _, HI.out.1, HY.out, HI.out.2.2.1, HI.out.2.2.2⟩
  have d1' : (x == 1) = false := by simpa using e1
  by_cases e2 : x = 2
  · subst e2
    go_wp2_with fail
    refine (raw_any c _ HS2.out.cur).mono ?_
    rintro r w3 ⟨⟨y, rfl, hy⟩, hc3, hk3⟩
    have HY : Hid (I64 y) := hy
    have hA := blk_kept HA2.out hk3 HAc.out.1
    have hR := blk_kept HR2.out hk3 HAc.out.2
    have HS3 : Hid (LSt w c w3 (.slice (some ⟨g, 0, none⟩) p.length cap) p) := HS2.out.keep hc3 hk3
    clear hc3 hk3 hy
    have A0 : w3.cell? ⟨A, 0, none⟩ = some (.slice (some ⟨g, 0, none⟩) p.length cap) := hA.cell 0
    have A1 : w3.cell? ⟨A, 1, none⟩ = some (.int .i64 s) := hA.cell 1
    have A2 : w3.cell? ⟨A, 2, none⟩ = some (.int .i64 e) := hA.cell 2
    have A3 : w3.cell? ⟨A, 3, none⟩ = some (.string n) := hA.cell 3
    have fA0 := hA.frozen 0
    have fA1 := hA.frozen 1
    have fA2 := hA.frozen 2
    have fA3 := hA.frozen 3
    have R0 : w3.cell? ⟨w.heap.size, 0, none⟩ = some (.slice none 0 0) := hR.cell 0
    have R1 : w3.cell? ⟨w.heap.size, 1, none⟩ = some (.int .i64 0) := hR.cell 1
    have R2 : w3.cell? ⟨w.heap.size, 2, none⟩ = some (.int .i64 0) := hR.cell 2
    have R3 : w3.cell? ⟨w.heap.size, 3, none⟩ = some (.string ⟨#[]⟩) := hR.cell 3
    have fR0 := hR.frozen 0
    have fR1 := hR.frozen 1
    have fR2 := hR.frozen 2
    have fR3 := hR.frozen 3
    have d1 : ¬ A = w.heap.size := by have := HN.out; omega
    have d2 : ¬ w.heap.size = A := by have := HN.out; omega
    clear hA hR
    go_wp2
    refine bodyPost_ret (v := .agg #[.slice (some ⟨g, 0, none⟩) p.length cap, .int .i64 s, .int .i64 y, .string n]) (by simp [results, Try.results93, go_sem, R0, R1, R2, R3]) rfl ?_
    have h0 := HN.out; have h2 := HL.out
    exact ⟨g, cap, p, s, y, n, rfl, lst_other4 (lst_other HS3.out (by omega) (own_ne (by omega)) _ _) (Nat.le_refl _) (own_ne (by omega)) _ _ _ _, HI.out.1, HI.out.2.1, HY.out, HI.out.2.2.2⟩
  have d2' : (x == 2) = false := by simpa using e2
  by_cases e3 : x = 3
  · subst e3
    go_wp2_with fail
    refine (anyPlain_any c _ HS2.out.cur).mono ?_
    rintro r w3 ⟨⟨t, rfl, ht⟩, hc3, hk3⟩
    have HY : Hid (t.size ≤ 100) := ht
    have hA := blk_kept HA2.out hk3 HAc.out.1
    have hR := blk_kept HR2.out hk3 HAc.out.2
    have HS3 : Hid (LSt w c w3 (.slice (some ⟨g, 0, none⟩) p.length cap) p) := HS2.out.keep hc3 hk3
    clear hc3 hk3 ht
    have A0 : w3.cell? ⟨A, 0, none⟩ = some (.slice (some ⟨g, 0, none⟩) p.length cap) := hA.cell 0
    have A1 : w3.cell? ⟨A, 1, none⟩ = some (.int .i64 s) := hA.cell 1
    have A2 : w3.cell? ⟨A, 2, none⟩ = some (.int .i64 e) := hA.cell 2
    have A3 : w3.cell? ⟨A, 3, none⟩ = some (.string n) := hA.cell 3
    have fA0 := hA.frozen 0
    have fA1 := hA.frozen 1
    have fA2 := hA.frozen 2
    have fA3 := hA.frozen 3
    have R0 : w3.cell? ⟨w.heap.size, 0, none⟩ = some (.slice none 0 0) := hR.cell 0
    have R1 : w3.cell? ⟨w.heap.size, 1, none⟩ = some (.int .i64 0) := hR.cell 1
    have R2 : w3.cell? ⟨w.heap.size, 2, none⟩ = some (.int .i64 0) := hR.cell 2
    have R3 : w3.cell? ⟨w.heap.size, 3, none⟩ = some (.string ⟨#[]⟩) := hR.cell 3
    have fR0 := hR.frozen 0
    have fR1 := hR.frozen 1
    have fR2 := hR.frozen 2
    have fR3 := hR.frozen 3
    have d1 : ¬ A = w.heap.size := by have := HN.out; omega
    have d2 : ¬ w.heap.size = A := by have := HN.out; omega
    clear hA hR
    go_wp2
    refine bodyPost_ret (v := .agg #[.slice (some ⟨g, 0, none⟩) p.length cap, .int .i64 s, .int .i64 e, .string t]) (by simp [results, Try.results93, go_sem, R0, R1, R2, R3]) rfl ?_
    have h0 := HN.out; have h2 := HL.out
    exact ⟨g, cap, p, s, e, t, rfl, lst_other4 (lst_other HS3.out (by omega) (own_ne (by omega)) _ _) (Nat.le_refl _) (own_ne (by omega)) _ _ _ _, HI.out.1, HI.out.2.1, HI.out.2.2.1, HY.out⟩
  have d3' : (x == 3) = false := by simpa using e3
  have hA := HA2.out
  have hR := HR2.out
  have A0 : w2.cell? ⟨A, 0, none⟩ = some (.slice (some ⟨g, 0, none⟩) p.length cap) := hA.cell 0
  have A1 : w2.cell? ⟨A, 1, none⟩ = some (.int .i64 s) := hA.cell 1
  have A2 : w2.cell? ⟨A, 2, none⟩ = some (.int .i64 e) := hA.cell 2
  have A3 : w2.cell? ⟨A, 3, none⟩ = some (.string n) := hA.cell 3
  have fA0 := hA.frozen 0
  have fA1 := hA.frozen 1
  have fA2 := hA.frozen 2
  have fA3 := hA.frozen 3
  have R0 : w2.cell? ⟨w.heap.size, 0, none⟩ = some (.slice none 0 0) := hR.cell 0
  have R1 : w2.cell? ⟨w.heap.size, 1, none⟩ = some (.int .i64 0) := hR.cell 1
  have R2 : w2.cell? ⟨w.heap.size, 2, none⟩ = some (.int .i64 0) := hR.cell 2
  have R3 : w2.cell? ⟨w.heap.size, 3, none⟩ = some (.string ⟨#[]⟩) := hR.cell 3
  have fR0 := hR.frozen 0
  have fR1 := hR.frozen 1
  have fR2 := hR.frozen 2
  have fR3 := hR.frozen 3
  have d1 : ¬ A = w.heap.size := by have := HN.out; omega
  have d2 : ¬ w.heap.size = A := by have := HN.out; omega
  clear hA hR
  go_wp2
  refine bodyPost_ret (v := .agg #[.slice (some ⟨g, 0, none⟩) p.length cap, .int .i64 s, .int .i64 e, .string n]) (by simp [results, Try.results93, go_sem, R0, R1, R2, R3]) rfl ?_
  have h0 := HN.out; have h2 := HL.out
  exact ⟨g, cap, p, s, e, n, rfl, lst_other4 HS2.out (Nat.le_refl _) (own_ne (by omega)) _ _ _ _, HI.out.1, HI.out.2.1, HI.out.2.2.1, HI.out.2.2.2⟩

theorem kept_set {c M : Nat} {w W : World} (h : Kept c w W) (hM : w.heap.size ≤ M) (i : Nat) (v : Value) : Kept c w (W.setCell ⟨M, i, none⟩ v) :=
  kept_grown (B := 0) h (grown_set W M i v) (fun k hk => by cases hk; exact hM)
end Go.Proofs.Ytekcmpjjfnijmaa.DrawA
namespace Go.Proofs.Ytekcmpjjfnijmaa.DrawB
open Go.RowKit
open Draw
open Labs LabS LabR Over Blk App DrawL DrawT Alm AlmM DrawA
open LabT (infoL Held held_reads)

structure Drawn (w : World) (g : Nat) (p : List Lab) (s e : Int) (n : ByteArray) : Prop where
  reads : Reads w (some ⟨g, 0, none⟩) p
  few : p.length ≤ 8
  small : Small p
  sb : I64 s
  eb : I64 e
  note : n.size ≤ 100
theorem Drawn.below {w w' : World} {g : Nat} {p : List Lab} {s e : Int} {n : ByteArray} (h : Drawn w g p s e n) (hb : Below w.heap.size w w') : Drawn w' g p s e n :=
  ⟨h.reads.below hb, h.few, h.small, h.sb, h.eb, h.note⟩
theorem Drawn.al {w : World} {g : Nat} {p : List Lab} {s e : Int} {n : ByteArray} (h : Drawn w g p s e n) : AlIn w (some ⟨g, 0, none⟩) p s e n :=
  ⟨h.reads, by have := h.few; unfold maxLen; omega, small_fits h.small, h.sb, h.eb, by have := h.note; unfold maxLen; omega⟩
theorem Drawn.len {w : World} {g : Nat} {p : List Lab} {s e : Int} {n : ByteArray} (h : Drawn w g p s e n) : p.length ≤ maxLen := h.al.len
theorem Drawn.mid {w : World} {g : Nat} {p : List Lab} {s e : Int} {n : ByteArray} (h : Drawn w g p s e n) : p.length ≤ 1048576 := by have := h.few; omega

theorem kept_drew {c : Nat} {w w' : World} (h : Kept c w.drew w') : Kept c w w' := ⟨h.os, h.tape, h.output, h.size, h.block⟩
end Go.Proofs.Ytekcmpjjfnijmaa.DrawB
namespace Go.Proofs.Ytekcmpjjfnijmaa.DrawC
open Go.RowKit
open Draw
open Labs LabS Over Blk App DrawL DrawT Alms AlmM DrawA DrawB Rws ChnI ChnC ChnP ChnK
open LabT (Held held_reads)

theorem grown_bel {w w' : World} (h : Below w.heap.size w w') : w.grownBy w' none := ⟨h.os, h.tape, h.output, h.size, fun k hk _ => h.block k hk⟩
theorem cur_bel {w w' : World} {c : Nat} (h : Cur w c) (hb : Below w.heap.size w w') : Cur w' c := h.grown (grown_bel hb) (fun k hk => by cases hk)
theorem kept_bel {c : Nat} {w w' : World} (h : Below w.heap.size w w') : Kept c w w' := ⟨h.os, h.tape, h.output, h.size, fun k hk _ => h.block k hk⟩
theorem cur_set {w : World} {c A : Nat} (h : Cur w c) (hne : c < A) (i : Nat) (v : Value) : Cur (w.setCell ⟨A, i, none⟩ v) c := h.grown (grown_set w A i v) (fun k hk => by cases hk; exact hne)
theorem kept_set {w wr : World} {c A : Nat} (h : Kept c w wr) (hA : w.heap.size ≤ A) (i : Nat) (v : Value) : Kept c w (wr.setCell ⟨A, i, none⟩ v) := kept_grown (B := 0) h (grown_set wr A i v) (fun k hk => by cases hk; exact hA)
theorem own_kept {c lo : Nat} {w w' : World} {x : ARow} (h : OwnA lo w x) (hk : Kept c w w') (hc : c < lo) : OwnA lo w' x := by
  obtain ⟨h1, h2, ds, hb, h3⟩ := h
  exact ⟨h1, h2, ds, blk_kept hb hk (by omega), h3⟩
theorem ab_kept {c lo : Nat} {w w' : World} {M cap : Nat} {rs : List ARow} (h : AB lo w M cap rs) (hk : Kept c w w') (hc : c < lo) : AB lo w' M cap rs := by
  obtain ⟨cur, h1, h2⟩ := h.outer
  exact ⟨h.at', h.cap, ⟨cur, blk_kept h1 hk (by have := h.at'; omega), h2⟩, fun x hx => own_kept (h.rows x hx) hk hc, h.ne⟩
theorem own_lst {W w' : World} {c g cap : Nat} {p : List Lab} {s e : Int} {n : ByteArray} (h : LSt W c w' (.slice (some ⟨g, 0, none⟩) p.length cap) p) (hp : p.length ≤ 8) : OwnA W.heap.size w' (g, cap, ⟨p, s, e, n⟩) := by
  rcases h.own.2 with ⟨e', _⟩ | ⟨g', c', cur, e', hb, hcur, hcc, _, hz, ht⟩
  · cases e'
  · cases e'
    refine ⟨hb, by show p.length ≤ _; omega, cur, hcur, by show p.length * 2 ≤ _; rw [hz]; omega, fun j hj => ?_⟩
    have hj' : j < p.length := hj
    have h2 := LabR.flat_get p j hj'
    have hl := LabR.flat_len p
    rw [← ht, List.getElem?_take_of_lt (by omega), List.getElem?_take_of_lt (by omega)] at h2
    simpa using h2

def Fine (x : PAl) : Prop := FitA x ∧ x.l.length ≤ 8
def Fines (P : List PAl) : Prop := ∀ x ∈ P, Fine x
theorem fine_of {p : List Lab} {s e : Int} {n : ByteArray} (hp : p.length ≤ 8) (hf : Small p) (hs : I64 s) (he : I64 e) (hn : n.size ≤ 100) : Fine ⟨p, s, e, n⟩ :=
  ⟨⟨by show p.length ≤ _; unfold maxLen; omega, small_fits hf, hs, he, by show n.size ≤ _; unfold maxLen; omega⟩, hp⟩
theorem nthP_mem {P : List PAl} {i : Nat} (h : i < P.length) : nthP P i ∈ P := by rw [nthP_eq h]; exact List.getElem_mem _
theorem fines_app {P : List PAl} {a : PAl} (h : Fines P) (ha : Fine a) : Fines (P ++ [a]) := fun x hx => by
  rcases List.mem_append.1 hx with h1 | h1
  · exact h x h1
  · have : x = a := by simpa using h1
    subst this; exact ha
theorem Fines.fits {P : List PAl} (h : Fines P) : FitsP P := fits_of fun x hx => (h x hx).1
theorem Fines.lens {P : List PAl} (h : Fines P) : LenM P := fun i hi => by have := (h _ (nthP_mem hi)).2; omega
end Go.Proofs.Ytekcmpjjfnijmaa.DrawC
