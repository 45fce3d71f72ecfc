/-
  PROVED: the contract of spec.DrawInOrder: it returns a slice of at most five strings in memory of its own, and nothing that was there is changed.
  PROVED: the contracts of the drawing of labels: l2Draw and l2Any hand back a row of the call's own with a few small labels; the cursor goes on, all else is as it was.
  PROVED: the contract of spec.DrawSetLess: two slices of a few small labels in memory of its own; nothing that was there is changed.
  PROVED: the contracts of the drawing of alarms: l4Draw, l4Any, l4Pair and what is drawn by them: alarms with a few small labels in memory of their own; nothing that was there is changed but the cursor.
  PROVED: the contracts of the draws of alarms that FnMerges and FnAlarms begin with: alarms with a few small labels in memory of their own; nothing that was there is changed.
  Small alarms and rows of them beside the drawing cursor.
  PROVED: the contract of spec.l7Labels over a row of alarms: labels that were drawn, or a copy of those of an alarm of the row, in memory of their own.
  PROVED: in a drawn region an operation may be taken first where it yields its value in every world that meets S, also where one operation, which waits for it, leaves S (S is asked behind each operation but that one).
  PROVED: the contracts of the drawing of names and of lists of alarms: l5By, l5Any, l5List, and of the draws that FnKeys begins with; nothing that was there is changed.
  PROVED: over two alarms and a slice of strings in memory spec.Together and impl.Together answer alike: whether both have the same labels by these names; nothing that was there is changed.
  PROVED: the contract of spec.l11Draw: a group with a few small alarms in memory of its own; nothing that was there is changed but the cursor.
  PROVED: the contract of spec.l11Any: a group, right or bent, in memory of its own; nothing that was there is changed but the cursor.
  PROVED: the contracts of the draws of chapter 11: groups, batches, what comes beside them, in new memory.
-/
import Derived.Test.YtgncimlojbnbfaaGreatQDrawW
import Derived.Test.YtgncimlojbnbfaaGreatQLabR
import Derived.Test.YtgncimlojbnbfaaGreatQApp
import Derived.Test.YtgncimlojbnbfaaGreatQAlmM
import Derived.Deep.RegionHeld3
import Derived.Test.YtgncimlojbnbfaaGreatQLawB
import Derived.Test.YtgncimlojbnbfaaGreatQLsO
import Derived.Test.YtgncimlojbnbfaaGreatQPro
import Derived.Test.YtgncimlojbnbfaaGreatQLst
import Derived.Test.YtgncimlojbnbfaaGreatQTk
import Derived.Test.YtgncimlojbnbfaaGreatQGrpJ
import Derived.Test.YtgncimlojbnbfaaGreatQGrpC
import Derived.Test.YtgncimlojbnbfaaGreatQGrpF
set_option linter.unusedVariables false
namespace Go.Proofs.YtgncimlojbnbfaaGreat.Draw
open Go.RowKit StrB

theorem Kept.grown {c : Nat} {w w' : World} (h : Kept c w w') : w.grownBy w' (some c) :=
  ⟨h.os, h.tape, h.output, h.size, fun k hk hne => h.block k hk (fun e => hne (by rw [e]))⟩
theorem Bytes.grown {w w' : World} {a : Option Addr} {len c : Nat} {row : Option Nat} (h : Bytes w a len c) (hg : w.grownBy w' row) (hr : ∀ k, row = some k → c < k) (hc : c ≤ w.heap.size) : Bytes w' a len c := by
  rcases h with h | ⟨b, off, rfl, hb, hz⟩
  · exact .inl h
  · exact .inr ⟨b, off, rfl, hb, fun j hj => by
      obtain ⟨z, h1, h2⟩ := hz j hj
      exact ⟨z, hg.cell h1 (fun e => by have := hr b e.symm; omega), h2⟩⟩
theorem Cur.grown {w w' : World} {c : Nat} {row : Option Nat} (h : Cur w c) (hg : w.grownBy w' row) (hr : ∀ k, row = some k → c < k) : Cur w' c := by
  obtain ⟨a, len, cap, i, h, h0, h1, h2, f1, f2, hi, hl, hb, hlt⟩ := h
  have hne : some c ≠ row := fun e => by have := hr c e.symm; omega
  have hblk := hg.block c hlt hne
  exact ⟨a, len, cap, i, h, hg.cell h0 hne, hg.cell h1 hne, hg.cell h2 hne, by rw [World.frozen?_of_block (w := w) (a := ⟨c, 1, none⟩) hblk]; exact f1, by rw [World.frozen?_of_block (w := w) (a := ⟨c, 2, none⟩) hblk]; exact f2, hi, hl, hb.grown hg hr (by omega), Nat.lt_of_lt_of_le hlt hg.size⟩
theorem Row.grown {p : Value → Bool} {w w' : World} {a : Addr} {len c : Nat} {row : Option Nat} (h : Row p w a len c) (hg : w.grownBy w' row) (hr : some a.block ≠ row) : Row p w' a len c :=
  ⟨h.1, h.2.1, Nat.lt_of_lt_of_le h.2.2.1 hg.size, fun j hj => by
    obtain ⟨v, h1, h2⟩ := h.2.2.2 j hj
    exact ⟨v, hg.cell (a := ⟨a.block, a.off + j, none⟩) h1 hr, h2⟩⟩

theorem row_lit_at {p : Value → Bool} {w : World} {arr : Array Value} {T : TypeId} {c n b : Nat} (h : arr.toList.all p = true) (hn : arr.size = n) (hc : c < w.heap.size) (hb : b = w.heap.size) : Row p (w.alloc (.cells arr T)) ⟨b, 0, none⟩ n c := by
  subst hb
  exact row_lit h hn hc
end Go.Proofs.YtgncimlojbnbfaaGreat.Draw
namespace Go.Proofs.YtgncimlojbnbfaaGreat.DrawL
open Go.RowKit
open Draw
open Labs LabS LabR Over Blk App
open LabT (infoL)

def Small (p : List Lab) : Prop := ∀ x ∈ p, x.1.size ≤ 100 ∧ x.2.size ≤ 100
theorem small_app {p q : List Lab} (h : Small p) (k : Small q) : Small (p ++ q) := fun x hx => by
  rcases List.mem_append.1 hx with h1 | h1
  · exact h x h1
  · exact k x h1
theorem small_one {a b : ByteArray} (h : a.size ≤ 100) (k : b.size ≤ 100) : Small [(a, b)] := fun x hx => by
  have : x = (a, b) := by simpa using hx
  subst this; exact ⟨h, k⟩
theorem small_nil : Small [] := fun x hx => by simp at hx
theorem flat_app (p q : List Lab) : flat (p ++ q) = flat p ++ flat q := by
  induction p with
  | nil => rfl
  | cons x p ih => rw [List.cons_append, flat, ih]; rfl

structure LSt (w : World) (c : Nat) (wr : World) (v : Value) (p : List Lab) : Prop where
  own : wr.ownsRow w.heap.size 99 2 v p.length (flat p)
  lies : ∃ g cap, v = .slice (some ⟨g, 0, none⟩) p.length cap
  cur : Cur wr c
  kept : Kept c w wr
  clt : c < w.heap.size
  fit : Small p
theorem LSt.lt {w : World} {c : Nat} {wr : World} {v : Value} {p : List Lab} (h : LSt w c wr v p) : ∀ k, v.ownBlock = some k → c < k := fun k hk => by
  have := (h.own.lt k hk).1; have := h.clt; omega
theorem LSt.keep {w : World} {c : Nat} {wr w' : World} {v : Value} {p : List Lab} (h : LSt w c wr v p) (hc : Cur w' c) (hk : Kept c wr w') : LSt w c w' v p :=
  ⟨h.own.kept hk.grown (by
      cases hv : v.ownBlock with
      | none => exact .inl rfl
      | some k => exact .inr (fun e => by have := h.lt k hv; cases e; omega)), h.lies, hc, h.kept.trans hk, h.clt, h.fit⟩
theorem LSt.alloc {w : World} {c : Nat} {wr : World} {v : Value} {p : List Lab} (h : LSt w c wr v p) (o : Obj) : LSt w c (wr.alloc o) v p :=
  h.keep (h.cur.alloc o) ((Kept.refl c wr).alloc o)
theorem kept_grown {c B : Nat} {w W w' : World} {row : Option Nat} (h : Kept c w W) (hg : W.grownBy w' row) (hr : ∀ k, row = some k → w.heap.size ≤ k) : Kept c w w' :=
  ⟨hg.os.trans h.os, hg.tape.trans h.tape, hg.output.trans h.output, Nat.le_trans h.size hg.size, fun k hk hc => (hg.block k (Nat.lt_of_lt_of_le hk h.size) (fun e => by have := hr k e.symm; omega)).trans (h.block k hk hc)⟩
theorem own_form {w : World} {B : Nat} {v : Value} {p : List Lab} (h : w.ownsRow B 99 2 v p.length (flat p)) (hp : 0 < p.length) : ∃ g cap, v = .slice (some ⟨g, 0, none⟩) p.length cap := by
  obtain ⟨g, c, e, _⟩ := h.form hp
  exact ⟨g, c, e⟩
theorem LSt.add {w : World} {c : Nat} {W w' : World} {v v' : Value} {p q : List Lab} {n m : Nat} {xs ys : List Value} (h : LSt w c W v p) (hn : n = p.length) (hm : m = q.length) (hx : xs = flat p) (hy : ys = flat q) (hf : Small q) (hq : 0 < q.length)
    (hown : w'.ownsRow w.heap.size 99 2 v' (n + m) (xs ++ ys)) (hg : W.grownBy w' v.ownBlock) : LSt w c w' v' (p ++ q) := by
  subst hn hm hx hy
  have ho : w'.ownsRow w.heap.size 99 2 v' (p ++ q).length (flat (p ++ q)) := by rw [flat_app, List.length_append]; exact hown
  exact ⟨ho, own_form ho (by simp; omega), h.cur.grown hg h.lt, kept_grown (B := 0) h.kept hg (fun k hk => (h.own.lt k hk).1), h.clt, small_app h.fit hf⟩
theorem LSt.cells {w : World} {c : Nat} {wr : World} {g cap : Nat} {p : List Lab} {n : Nat} (h : LSt w c wr (.slice (some ⟨g, 0, none⟩) n cap) p) {m : Nat} (hm : m < p.length) : wr.cell? ⟨g, m * 2, none⟩ = some (.string (nth p m).1) ∧ wr.cell? ⟨g, m * 2 + 1, none⟩ = some (.string (nth p m).2) := by
  have ea : ∀ j, (⟨g, 0, none⟩ : Addr).add j = ⟨g, j, none⟩ := fun j => by by_cases h : j = 0 <;> simp [Addr.add, h]
  have h0 := h.own.cells (g := g) rfl (m * 2) _ (flat_get p m hm).1
  have h1 := h.own.cells (g := g) rfl (m * 2 + 1) _ (flat_get p m hm).2
  rw [ea] at h0 h1
  exact ⟨h0, h1⟩
theorem LSt.blk {w : World} {c : Nat} {wr : World} {g cap : Nat} {p : List Lab} {n : Nat} (h : LSt w c wr (.slice (some ⟨g, 0, none⟩) n cap) p) : w.heap.size ≤ g ∧ g < wr.heap.size := h.own.lt g rfl
theorem LSt.warm {w : World} {c : Nat} {wr : World} {g cap : Nat} {p : List Lab} {n : Nat} (h : LSt w c wr (.slice (some ⟨g, 0, none⟩) n cap) p) (i : Nat) : wr.frozen? ⟨g, i, none⟩ = false := by
  rcases h.own.2 with ⟨e, _⟩ | ⟨g', cap', cur, e, _, hg, _⟩
  · cases e
  · cases e; exact Blk.frozen (T := 99) hg i
theorem own_one {w : World} {B M : Nat} {x : Lab} (h : Blk w M #[.string x.1, .string x.2] 99) (hB : B ≤ M) : w.ownsRow B 99 2 (.slice (some ⟨M, 0, none⟩) 1 1) 1 (flat [x]) :=
  ⟨rfl, .inr ⟨M, 1, _, rfl, hB, h, Nat.le_refl _, by simp [maxLen], rfl, rfl⟩⟩
theorem lst_one {w : World} {c : Nat} {W : World} {x : Lab} (hc : Cur W c) (hk : Kept c w W) (hcl : c < w.heap.size) (hs : x.1.size ≤ 100 ∧ x.2.size ≤ 100) : LSt w c (W.alloc (.cells #[.string x.1, .string x.2] 99)) (.slice (some ⟨W.heap.size, 0, none⟩) 1 1) [x] :=
  ⟨own_one (Blk.new _ _ _) hk.size, ⟨_, _, rfl⟩, hc.alloc _, hk.alloc _, hcl, small_one hs.1 hs.2⟩

structure LLit (w : World) (c lit k : Nat) (wr : World) (v : Value) (p : List Lab) : Prop where
  st : LSt w c wr v p
  row : Row isStr wr ⟨lit, 0, none⟩ k c
  ne : v.ownBlock ≠ some lit
theorem LLit.keep {w : World} {c lit k : Nat} {wr w' : World} {v : Value} {p : List Lab} (h : LLit w c lit k wr v p) (hc : Cur w' c) (hk : Kept c wr w') : LLit w c lit k w' v p :=
  ⟨h.st.keep hc hk, h.row.keep hk, h.ne⟩
theorem LLit.alloc {w : World} {c lit k : Nat} {wr : World} {v : Value} {p : List Lab} (h : LLit w c lit k wr v p) (o : Obj) : LLit w c lit k (wr.alloc o) v p :=
  h.keep (h.st.cur.alloc o) ((Kept.refl c wr).alloc o)
theorem LLit.add {w : World} {c lit k : Nat} {W w' : World} {v v' : Value} {p q : List Lab} {n m : Nat} {xs ys : List Value} (h : LLit w c lit k W v p) (hn : n = p.length) (hm : m = q.length) (hx : xs = flat p) (hy : ys = flat q) (hf : Small q) (hq : 0 < q.length)
    (hown : w'.ownsRow w.heap.size 99 2 v' (n + m) (xs ++ ys)) (hg : W.grownBy w' v.ownBlock) (N : Nat) (hN : N = W.heap.size) (hat : v'.ownBlock = v.ownBlock ∨ v'.ownBlock = some N) : LLit w c lit k w' v' (p ++ q) := by
  subst hN
  refine ⟨h.st.add hn hm hx hy hf hq hown hg, h.row.grown hg (fun e => h.ne e.symm), ?_⟩
  rcases hat with hat | hat
  · rw [hat]; exact h.ne
  · rw [hat]; intro e; have hlt : lit < W.heap.size := h.row.2.2.1; cases e; omega

set_option maxHeartbeats 1600000 in
theorem l2Draw_any (c : Nat) (w : World) (hc : Cur w c) :
    Calls Tryz.prog 42 #[.pointer (some ⟨c, 0, none⟩)] w fun e w' => ∃ v, e = .returned v ∧ ∃ p, LSt w c w' v p ∧ 1 ≤ p.length ∧ p.length ≤ 4 := by
  have HC : Hid (Cur w c) := hc
  have HL : Hid (c < w.heap.size) := hc.lt
  clear hc
  obtain ⟨i0, hi, hz0, hz1, hz2⟩ := info_parts infoL
  go_enter Tryz.func42, Tryz.ntmps42
  go_wp2_with fail
  refine (str_any c w.heap.size 0 3 3 _ (HC.out.alloc _) ?_ (by decide) (by decide)).mono ?_
  · exact row_lit (by decide) rfl HL.out
  rintro e w1 ⟨⟨s, rfl, hs⟩, hc1, hk1⟩
  have HK1 : Hid (Kept c w w1) := ((Kept.refl c w).alloc _).trans hk1
  have HC1 : Hid (Cur w1 c) := hc1
  clear hc1 hk1
  go_wp2_with fail
  go_loopw [3, 13] (fun v i wr => ∃ (k : Nat) (p : List Lab), k ≤ 3 ∧ i = .int .i64 k ∧ 1 ≤ p.length ∧ p.length ≤ k + 1 ∧ LLit w c (w1.heap.size + 1) 3 wr v p) (fun _ i _ => 3 - (intOf i).toNat)
  case atStart =>
    refine ⟨0, [(⟨#[97, 112, 112]⟩, s)], by omega, rfl, by simp, by simp, ⟨(lst_one (x := (⟨#[97, 112, 112]⟩, s)) HC1.out HK1.out HL.out ⟨show (ByteArray.mk #[97, 112, 112]).size ≤ 100 by decide, hs⟩).alloc _, ?_, by simp [Value.ownBlock]⟩⟩
    refine row_lit_at (p := isStr) ?_ rfl ?_ (by simp)
    · decide
    · have := HK1.out.size; have := HL.out; simp; omega
  case round =>
    obtain ⟨k, p, hk, rfl, hp1, hp2, hst⟩ := hrel
    have HS : Hid (LLit w c (w1.heap.size + 1) 3 wr u3 p) := hst
    clear hst
    by_cases hlt : k < 3
    · have hlt' : (k : Int) < 3 := by omega
      obtain ⟨v, hv, hp⟩ := HS.out.row.2.2.2 k hlt
      obtain ⟨t, rfl, ht⟩ := str_of hp
      have hv' : wr.cell? ⟨w1.heap.size + 1, k, none⟩ = some (.string t) := by simpa using hv
      clear hv hp
      go_wp2_with fail
      refine (once_any _ 4 _ HS.out.st.cur (by decide) (by decide)).mono ?_
      rintro e w2 ⟨⟨b, rfl⟩, hc2, hk2⟩
      have HS2 : Hid (LLit w c (w1.heap.size + 1) 3 w2 u3 p) := HS.out.keep hc2 hk2
      clear hc2 hk2 hv'
      cases b with
      | true =>
        go_wp2_with fail
        refine (str_any c w2.heap.size 0 2 2 _ (HS2.out.st.cur.alloc _) ?_ (by decide) (by decide)).mono ?_
        · exact row_lit (by decide) rfl HS2.out.st.cur.lt
        rintro e w3 ⟨⟨y, rfl, hy⟩, hc3, hk3⟩
        have HS3 : Hid (LLit w c (w1.heap.size + 1) 3 w3 u3 p) := (HS2.out.alloc _).keep hc3 hk3
        clear hc3 hk3
        go_wp2_with (at_builtin; refine wpList_append_own_at _ rfl _ _ 25 rfl w.heap.size 99 i0 (.agg #[.string ByteArray.empty, .string ByteArray.empty]) 2 32 Tryz.underlying25 hi hz0 hz1 hz2 rfl (by decide) _ _ _ rfl (HS3.out.alloc _).st.own ⟨w3.heap.size, 0, none⟩ 1 1 [.string t, .string y] rfl rfl ?c1 ?c2 ?c3 ?c4 ?c5 ?_)
        case c1 => exact blk_news (Blk.new _ _ _)
        case c2 => exact flat_one [(t, y)]
        case c3 => unfold maxLen; omega
        case c4 => omega
        case c5 => have := HS3.out.st.kept.size; simp; omega
        intro v' w4 hown hg _ hat
        have HS4 : Hid (LLit w c (w1.heap.size + 1) 3 w4 v' (p ++ [(t, y)])) := (HS3.out.alloc _).add (q := [(t, y)]) rfl rfl rfl rfl (small_one ht hy) (by simp) hown hg _ (by simp) hat
        clear hown hg hat
        go_wp2
        go_roundw
        case rel => exact ⟨k + 1, p ++ [(t, y)], by omega, by go_num, by simp, by simp; omega, HS4.out⟩
        case measure => simp [intOf]; omega
      | false =>
        go_wp2
        go_roundw
        case rel => exact ⟨k + 1, p, by omega, by go_num, hp1, by omega, HS2.out⟩
        case measure => simp [intOf]; omega
    · have hge : ¬ (k : Int) < 3 := by omega
      go_wp2
      go_ret
      exact ⟨_, rfl, p, HS.out.st, hp1, by omega⟩

theorem grown_set (w : World) (g i : Nat) (v : Value) : w.grownBy (w.setCell ⟨g, i, none⟩ v) (some g) :=
  ⟨rfl, rfl, rfl, by simp [World.setCell], fun k _ hne => Below.heap_setCell _ _ _ _ (fun e => hne (by rw [e]))⟩
theorem LSt.put {w : World} {c : Nat} {wr : World} {g cap n : Nat} {p : List Lab} (h : LSt w c wr (.slice (some ⟨g, 0, none⟩) n cap) p) (hp : 0 < p.length) (s : ByteArray) (hs : s.size ≤ 100) :
    LSt w c (wr.setCell ⟨g, 1, none⟩ (.string s)) (.slice (some ⟨g, 0, none⟩) n cap) (((nth p 0).1, s) :: p.tail) := by
  obtain ⟨x, q, rfl⟩ : ∃ x q, p = x :: q := by cases p with | nil => simp at hp | cons x q => exact ⟨x, q, rfl⟩
  have hgl := h.blk
  have hgc : c ≠ g := by have := h.clt; omega
  refine ⟨⟨by simp [flat_len], ?_⟩, h.lies, ?_, ?_, h.clt, ?_⟩
  · rcases h.own.2 with ⟨e, _⟩ | ⟨g', cap', cur, e, hb, hg, hn, hcm, hcs, ht⟩
    · cases e
    · cases e
      refine .inr ⟨g, cap, cur.setIfInBounds 1 (.string s), rfl, hb, ?_, hn, hcm, by simpa using hcs, ?_⟩
      · exact Blk.set (T := 99) hg 1 (.string s)
      · rw [Array.toList_setIfInBounds, List.take_set]
        show (List.take ((x :: q).length * 2) cur.toList).set 1 (.string s) = flat ((x.1, s) :: q)
        rw [ht]
        rfl
  · exact h.cur.grown (grown_set wr g 1 _) (fun k hk => by cases hk; have := h.clt; omega)
  · exact kept_grown (B := 0) h.kept (grown_set wr g 1 _) (fun k hk => by cases hk; exact hgl.1)
  · intro y hy
    rcases List.mem_cons.1 hy with rfl | hy
    · exact ⟨(h.fit x (by simp)).1, hs⟩
    · exact h.fit y (by simp [show y ∈ q from hy])
theorem LSt.none_new {w : World} {c : Nat} {W : World} (hc : Cur W c) (hk : Kept c w W) (hcl : c < w.heap.size) : LSt w c (W.alloc (.cells #[] 99)) (.slice (some ⟨W.heap.size, 0, none⟩) 0 0) [] :=
  ⟨own_empty (Blk.new _ _ _) hk.size, ⟨_, _, rfl⟩, hc.alloc _, hk.alloc _, hcl, small_nil⟩

theorem LSt.ahead {w : World} {c : Nat} {W w' : World} {v v' : Value} {x : Lab} {p : List Lab} {xs ys : List Value} {n m : Nat} (h : LSt w c W v p) {u : Value} (hu : W.ownsRow w.heap.size 99 2 u n xs) (hn : n = 1) (hm : m = p.length) (hx : xs = flat [x]) (hy : ys = flat p) (hs : Small [x])
    (hown : w'.ownsRow w.heap.size 99 2 v' (n + m) (xs ++ ys)) (hg : W.grownBy w' u.ownBlock) : LSt w c w' v' (x :: p) := by
  subst hn hm hx hy
  have ho : w'.ownsRow w.heap.size 99 2 v' (x :: p).length (flat (x :: p)) := by
    rw [List.length_cons, Nat.add_comm]; exact hown
  exact ⟨ho, own_form ho (by simp), h.cur.grown hg (fun k hk => by have := (hu.lt k hk).1; have := h.clt; omega), kept_grown (B := 0) h.kept hg (fun k hk => (hu.lt k hk).1), h.clt, by
    intro y hy
    rcases List.mem_cons.1 hy with rfl | hy
    · exact hs _ (by simp)
    · exact h.fit y hy⟩
theorem LSt.src {w : World} {c : Nat} {wr : World} {g cap n : Nat} {p : List Lab} (h : LSt w c wr (.slice (some ⟨g, 0, none⟩) n cap) p) : ∀ j u, (flat p)[j]? = some u → wr.cell? ((⟨g, 0, none⟩ : Addr).add j) = some u := h.own.cells (g := g) rfl

set_option maxHeartbeats 1600000 in
theorem l2Any_any (c : Nat) (w : World) (hc : Cur w c) :
    Calls Tryz.prog 90 #[.pointer (some ⟨c, 0, none⟩)] w fun e w' => ∃ v, e = .returned v ∧ ∃ p, LSt w c w' v p ∧ p.length ≤ 8 := by
  have HC : Hid (Cur w c) := hc
  have HL : Hid (c < w.heap.size) := hc.lt
  clear hc
  obtain ⟨i0, hi, hz0, hz1, hz2⟩ := info_parts infoL
  go_enter Tryz.func90, Tryz.ntmps90
  go_wp2_with fail
  refine (l2Draw_any c w HC.out).mono ?_
  rintro e w1 ⟨v, rfl, p, hst, hp1, hp2⟩
  obtain ⟨g, cap, rfl⟩ := hst.lies
  have HS1 : Hid (LSt w c w1 (.slice (some ⟨g, 0, none⟩) p.length cap) p) := hst
  clear hst
  go_wp2_with fail
  refine (below_any c 10 _ HS1.out.cur (by decide) (by decide)).mono ?_
  rintro e w2 ⟨⟨x, rfl, hx0, hx1⟩, hc2, hk2⟩
  have HS2 : Hid (LSt w c w2 (.slice (some ⟨g, 0, none⟩) p.length cap) p) := HS1.out.keep hc2 hk2
  clear hc2 hk2
  by_cases e0 : x = 0
  · subst e0
    go_wp2_with fail
    refine (anyName_any c _ HS2.out.cur).mono ?_
    rintro e w3 ⟨⟨s, rfl, hs⟩, hc3, hk3⟩
    have HS3 : Hid (LSt w c w3 (.slice (some ⟨g, 0, none⟩) p.length cap) p) := HS2.out.keep hc3 hk3
    clear hc3 hk3
    go_wp2_with fail
    refine (anyPlain_any c _ HS3.out.cur).mono ?_
    rintro e w4 ⟨⟨t, rfl, ht⟩, hc4, hk4⟩
    have HS4 : Hid (LSt w c w4 (.slice (some ⟨g, 0, none⟩) p.length cap) p) := HS3.out.keep hc4 hk4
    clear hc4 hk4
    go_wp2_with (at_builtin; refine wpList_append_own_at _ rfl _ _ 25 rfl w.heap.size 99 i0 (.agg #[.string ByteArray.empty, .string ByteArray.empty]) 2 32 Tryz.underlying25 hi hz0 hz1 hz2 rfl (by decide) _ _ _ rfl (HS4.out.alloc _).own ⟨w4.heap.size, 0, none⟩ 1 1 [.string s, .string t] rfl rfl ?c1 ?c2 ?c3 ?c4 ?c5 ?_)
    case c1 => exact blk_news (Blk.new _ _ _)
    case c2 => exact flat_one [(s, t)]
    case c3 => unfold maxLen; omega
    case c4 => omega
    case c5 => have := HS4.out.kept.size; simp; omega
    intro v' w5 hown hg _ hat
    have HS5 : Hid (LSt w c w5 v' (p ++ [(s, t)])) := (HS4.out.alloc _).add (q := [(s, t)]) rfl rfl rfl rfl (small_one hs ht) (by simp) hown hg
    clear hown hg hat
    go_wp2
    go_ret
    exact ⟨_, rfl, _, HS5.out, by simp; omega⟩
  have d0 : (x == 0) = false := by simpa using e0
  by_cases e1 : x = 1
  · subst e1
    have HB : Hid (Blk (w2.alloc (.cells #[.string ⟨#[122, 122]⟩, .string ⟨#[49]⟩] 99)) w2.heap.size #[.string ⟨#[122, 122]⟩, .string ⟨#[49]⟩] 99) := Blk.new _ _ _
    have HO : Hid ((w2.alloc (.cells #[.string ⟨#[122, 122]⟩, .string ⟨#[49]⟩] 99)).ownsRow w.heap.size 99 2 (.slice (some ⟨w2.heap.size, 0, none⟩) 1 1) 1 (flat [(⟨#[122, 122]⟩, ⟨#[49]⟩)])) := own_one (x := (⟨#[122, 122]⟩, ⟨#[49]⟩)) HB.out HS2.out.kept.size
    go_wp2_with (at_builtin; refine wpList_append_own_at _ rfl _ _ 25 rfl w.heap.size 99 i0 (.agg #[.string ByteArray.empty, .string ByteArray.empty]) 2 32 Tryz.underlying25 hi hz0 hz1 hz2 rfl (by decide) _ _ _ rfl HO.out ⟨g, 0, none⟩ p.length cap (flat p) rfl (flat_len p) ?c1 (flat_one p) ?c3 ?c4 ?c5 ?_)
    case c1 => exact (HS2.out.alloc _).src
    case c3 => unfold maxLen; omega
    case c4 => omega
    case c5 => have := HS2.out.kept.size; simp; omega
    intro v' w3 hown hg _ hat
    have HS3 : Hid (LSt w c w3 v' ((⟨#[122, 122]⟩, ⟨#[49]⟩) :: p)) := (HS2.out.alloc _).ahead HO.out rfl rfl rfl rfl (small_one (by decide) (by decide)) hown hg
    clear hown hg hat HO HB
    go_wp2
    go_ret
    exact ⟨_, rfl, _, HS3.out, by simp; omega⟩
  have d1 : (x == 1) = false := by simpa using e1
  by_cases e2 : x = 2
  · subst e2
    obtain ⟨c0, c1⟩ := HS2.out.cells (m := 0) (by omega)
    have hpl : (0 : Int) < (p.length : Int) := by omega
    simp only [Nat.zero_mul, Nat.zero_add] at c0 c1
    go_wp2_with (at_builtin; refine wpList_append_own_at _ rfl _ _ 25 rfl w.heap.size 99 i0 (.agg #[.string ByteArray.empty, .string ByteArray.empty]) 2 32 Tryz.underlying25 hi hz0 hz1 hz2 rfl (by decide) _ _ _ rfl (HS2.out.alloc _).own ⟨w2.heap.size, 0, none⟩ 1 1 [.string (nth p 0).1, .string (nth p 0).2] rfl rfl ?c1 ?c2 ?c3 ?c4 ?c5 ?_)
    case c1 => exact blk_news (Blk.new _ _ _)
    case c2 => exact flat_one [nth p 0]
    case c3 => unfold maxLen; omega
    case c4 => omega
    case c5 => have := HS2.out.kept.size; simp; omega
    intro v' w3 hown hg _ hat
    have HS3 : Hid (LSt w c w3 v' (p ++ [nth p 0])) := (HS2.out.alloc _).add (q := [nth p 0]) rfl rfl rfl rfl (fun y hy => by
      have e : y = nth p 0 := by simpa using hy
      rw [e]; exact HS2.out.fit _ (by rw [nth_eq (by omega)]; exact List.getElem_mem _)) (by simp) hown hg
    clear hown hg hat c0 c1
    go_wp2
    go_ret
    exact ⟨_, rfl, _, HS3.out, by simp; omega⟩
  have d2 : (x == 2) = false := by simpa using e2
  by_cases e3 : x = 3
  · subst e3
    go_wp2_with (at_builtin; refine wpList_append_own_at _ rfl _ _ 25 rfl w.heap.size 99 i0 (.agg #[.string ByteArray.empty, .string ByteArray.empty]) 2 32 Tryz.underlying25 hi hz0 hz1 hz2 rfl (by decide) _ _ _ rfl (HS2.out.alloc _).own ⟨w2.heap.size, 0, none⟩ 4 4 (flat [(⟨#[122, 117]⟩, ByteArray.empty), (⟨#[122, 118]⟩, ByteArray.empty), (⟨#[122, 119]⟩, ByteArray.empty), (⟨#[122, 120]⟩, ByteArray.empty)]) rfl rfl ?c1 (flat_one _) ?c3 ?c4 ?c5 ?_)
    case c1 => exact blk_news (Blk.new _ _ _)
    case c3 => unfold maxLen; omega
    case c4 => omega
    case c5 => have := HS2.out.kept.size; simp; omega
    intro v' w3 hown hg _ hat
    have HS3 : Hid (LSt w c w3 v' (p ++ [(⟨#[122, 117]⟩, ByteArray.empty), (⟨#[122, 118]⟩, ByteArray.empty), (⟨#[122, 119]⟩, ByteArray.empty), (⟨#[122, 120]⟩, ByteArray.empty)])) := (HS2.out.alloc _).add (q := [(⟨#[122, 117]⟩, ByteArray.empty), (⟨#[122, 118]⟩, ByteArray.empty), (⟨#[122, 119]⟩, ByteArray.empty), (⟨#[122, 120]⟩, ByteArray.empty)]) rfl rfl rfl rfl (fun y hy => by
      simp only [List.mem_cons, List.not_mem_nil, or_false] at hy
      rcases hy with rfl | rfl | rfl | rfl <;> exact ⟨by decide, by decide⟩) (by simp) hown hg
    clear hown hg hat
    go_wp2
    go_ret
    exact ⟨_, rfl, _, HS3.out, by simp; omega⟩
  have d3 : (x == 3) = false := by simpa using e3
  by_cases e4 : x = 4
  · subst e4
    go_wp2_with fail
    refine (anyPlain_any c _ HS2.out.cur).mono ?_
    rintro e w3 ⟨⟨t, rfl, ht⟩, hc3, hk3⟩
    have hS3 : LSt w c w3 (.slice (some ⟨g, 0, none⟩) p.length cap) p := HS2.out.keep hc3 hk3
    have HS3 : Hid (LSt w c w3 (.slice (some ⟨g, 0, none⟩) p.length cap) p) := hS3
    obtain ⟨c0, c1⟩ := hS3.cells (m := 0) (by omega)
    have hpl : (0 : Int) < (p.length : Int) := by omega
    simp only [Nat.zero_mul, Nat.zero_add] at c0 c1
    have f1 : w3.frozen? ⟨g, 1, none⟩ = false := hS3.warm 1
    have HS4 : Hid (LSt w c (w3.setCell ⟨g, 1, none⟩ (.string t)) (.slice (some ⟨g, 0, none⟩) p.length cap) (((nth p 0).1, t) :: p.tail)) := hS3.put (by omega) t ht
    clear hc3 hk3 hS3
    go_wp2
    go_ret
    exact ⟨_, rfl, _, HS4.out, by simp; omega⟩
  have d4 : (x == 4) = false := by simpa using e4
  by_cases e5 : x = 5
  · subst e5
    go_wp2
    go_ret
    exact ⟨_, rfl, _, LSt.none_new HS2.out.cur HS2.out.kept HL.out, by simp⟩
  have d5 : (x == 5) = false := by simpa using e5
  go_wp2
  go_ret
  exact ⟨_, rfl, _, HS2.out, by omega⟩
end Go.Proofs.YtgncimlojbnbfaaGreat.DrawL
namespace Go.Proofs.YtgncimlojbnbfaaGreat.DrawT
open Go.RowKit
open Draw
open Labs LabS Over DrawL

theorem small_fits {p : List Lab} (h : Small p) : ∀ i, i < p.length → (nth p i).1.size ≤ maxLen ∧ (nth p i).2.size ≤ maxLen := fun i hi => by
  rw [nth_eq hi]
  have := h _ (List.getElem_mem hi)
  unfold maxLen
  exact ⟨by omega, by omega⟩
end Go.Proofs.YtgncimlojbnbfaaGreat.DrawT
namespace Go.Proofs.YtgncimlojbnbfaaGreat.DrawA
open Go.RowKit
open Draw
open Labs LabS LabR Over Blk App DrawL DrawT Alm AlmM
open LabT (infoL Held held_reads)

theorem blk_kept {c M : Nat} {w w' : World} {cs : Array Value} {T : TypeId} (h : Blk w M cs T) (hk : Kept c w w') (hne : M ≠ c) : Blk w' M cs T := by
  have hl := h.lt
  unfold Blk at *
  rw [hk.block M hl hne]; exact h
theorem lst_base {w W wr : World} {c : Nat} {v : Value} {p : List Lab} (h : LSt W c wr v p) (hk : Kept c w W) (hc : c < w.heap.size) : LSt w c wr v p :=
  ⟨Go.Joins.ownsRow_le h.own hk.size, h.lies, h.cur, hk.trans h.kept, hc, h.fit⟩
theorem lst_other {w wr : World} {c : Nat} {v : Value} {p : List Lab} (h : LSt w c wr v p) {B : Nat} (hB : w.heap.size ≤ B) (hne : v.ownBlock ≠ some B) (i : Nat) (u : Value) : LSt w c (wr.setCell ⟨B, i, none⟩ u) v p :=
  ⟨h.own.kept (grown_set wr B i u) (.inr hne), h.lies, h.cur.grown (grown_set wr B i u) (fun k hk => by cases hk; have := h.clt; omega), kept_grown (B := 0) h.kept (grown_set wr B i u) (fun k hk => by cases hk; exact hB), h.clt, h.fit⟩
theorem lst_other4 {w wr : World} {c : Nat} {v : Value} {p : List Lab} (h : LSt w c wr v p) {B : Nat} (hB : w.heap.size ≤ B) (hne : v.ownBlock ≠ some B) (u0 u1 u2 u3 : Value) : LSt w c ((((wr.setCell ⟨B, 0, none⟩ u0).setCell ⟨B, 1, none⟩ u1).setCell ⟨B, 2, none⟩ u2).setCell ⟨B, 3, none⟩ u3) v p :=
  lst_other (lst_other (lst_other (lst_other h hB hne 0 u0) hB hne 1 u1) hB hne 2 u2) hB hne 3 u3
theorem own_ne {g n c B : Nat} (h : g ≠ B) : (Value.slice (some ⟨g, 0, none⟩) n c).ownBlock ≠ some B := fun e => h (Option.some.inj e)
theorem wrapB (x : Int) : -9223372036854775808 ≤ IntKind.i64.wrap x ∧ IntKind.i64.wrap x ≤ 9223372036854775807 := by
  rw [IntKind.wrap_i64]; omega
def I64 (x : Int) : Prop := -9223372036854775808 ≤ x ∧ x ≤ 9223372036854775807

set_option maxRecDepth 100000 in
set_option maxHeartbeats 1600000 in
theorem l4Draw_any (c : Nat) (w : World) (hc : Cur w c) :
    Calls Tryz.prog 29 #[.pointer (some ⟨c, 0, none⟩)] w fun r w' => ∃ (g cap : Nat) (p : List Lab) (s e : Int) (n : ByteArray), r = .returned (.agg #[.slice (some ⟨g, 0, none⟩) p.length cap, .int .i64 s, .int .i64 e, .string n]) ∧ LSt w c w' (.slice (some ⟨g, 0, none⟩) p.length cap) p ∧ p.length ≤ 8 ∧ I64 s ∧ I64 e ∧ n.size ≤ 100 := by
  have HC : Hid (Cur w c) := hc
  have HL : Hid (c < w.heap.size) := hc.lt
  clear hc
  go_enter Tryz.func29, Tryz.ntmps29
  go_wp2_with fail
  refine (l2Draw_any c _ (HC.out.alloc _)).mono ?_
  rintro r w1 ⟨v, rfl, p, hst, hp1, hp2⟩
  obtain ⟨g, cap, rfl⟩ := hst.lies
  have HG : Hid (w.heap.size < g ∧ g < w1.heap.size) := by have := hst.blk; simp at this; exact ⟨by omega, this.2⟩
  have HR1 : Hid (Blk w1 w.heap.size #[.slice none 0 0, .int .i64 0, .int .i64 0, .string ⟨#[]⟩] 27) := blk_kept (Blk.new _ _ _) hst.kept (by have := HL.out; omega)
  have HS1 : Hid (LSt w c w1 (.slice (some ⟨g, 0, none⟩) p.length cap) p) := lst_base hst ((Kept.refl c w).alloc _) HL.out
  clear hst
  go_wp2_with fail
  refine (below_any c 8 _ HS1.out.cur (by decide) (by decide)).mono ?_
  rintro r w2 ⟨⟨s, rfl, hs0, hs1⟩, hc2, hk2⟩
  have HS2 : Hid (LSt w c w2 (.slice (some ⟨g, 0, none⟩) p.length cap) p) := HS1.out.keep hc2 hk2
  have HR2 : Hid (Blk w2 w.heap.size #[.slice none 0 0, .int .i64 0, .int .i64 0, .string ⟨#[]⟩] 27) := blk_kept HR1.out hk2 (by have := HL.out; omega)
  have HZ2 : Hid (w1.heap.size ≤ w2.heap.size) := hk2.size
  clear hc2 hk2
  go_wp2_with fail
  refine (plainS_any c _ HS2.out.cur).mono ?_
  rintro r w3 ⟨⟨n, rfl, hn⟩, hc3, hk3⟩
  have HS3 : Hid (LSt w c w3 (.slice (some ⟨g, 0, none⟩) p.length cap) p) := HS2.out.keep hc3 hk3
  have HR3 : Hid (Blk w3 w.heap.size #[.slice none 0 0, .int .i64 0, .int .i64 0, .string ⟨#[]⟩] 27) := blk_kept HR2.out hk3 (by have := HL.out; omega)
  have HN : Hid (w.heap.size < w3.heap.size ∧ g < w3.heap.size ∧ c < w3.heap.size) := by
    have h1 := HG.out; have h2 := HZ2.out; have h3 := hk3.size; have h4 := HL.out
    exact ⟨by omega, by omega, by omega⟩
  clear hc3 hk3 HS1 HS2 HR1 HR2 HZ2
  go_wp2
  generalize hz : w3.alloc (.cells #[.slice (some ⟨g, 0, none⟩) p.length cap, .int .i64 s, .int .i64 0, .string n] 27) = z
  have HSz : Hid (LSt w c z (.slice (some ⟨g, 0, none⟩) p.length cap) p) := by rw [← hz]; exact HS3.out.alloc _
  have HRz : Hid (Blk z w.heap.size #[.slice none 0 0, .int .i64 0, .int .i64 0, .string ⟨#[]⟩] 27) := by rw [← hz]; exact HR3.out.alloc _
  have HAz : Hid (Blk z w3.heap.size #[.slice (some ⟨g, 0, none⟩) p.length cap, .int .i64 s, .int .i64 0, .string n] 27) := by rw [← hz]; exact Blk.new _ _ _
  clear hz HS3 HR3
  generalize w3.heap.size = A at HN HAz ⊢
  have a1 : z.cell? ⟨A, 1, none⟩ = some (.int .i64 s) := HAz.out.cell 1
  have HK : Hid (∀ (o : Obj) (w4 : World), Cur w4 c → Kept c (z.alloc o) w4 → LSt w c w4 (.slice (some ⟨g, 0, none⟩) p.length cap) p ∧ Blk w4 A #[.slice (some ⟨g, 0, none⟩) p.length cap, .int .i64 s, .int .i64 0, .string n] 27 ∧ Blk w4 w.heap.size #[.slice none 0 0, .int .i64 0, .int .i64 0, .string ⟨#[]⟩] 27) := fun o w4 hc h => by
    have h0 := HN.out; have h1 := HL.out
    exact ⟨(HSz.out.alloc o).keep hc h, blk_kept (HAz.out.alloc o) h (by omega), blk_kept (HRz.out.alloc o) h (by omega)⟩
  have HCz : Hid (Cur z c) := HSz.out.cur
  have HI : Hid (Calls Tryz.prog 58 #[.pointer (some ⟨c, 0, none⟩), .slice (some ⟨z.heap.size, 0, none⟩) 5 5] (z.alloc (.cells #[.int .i64 0, .int .i64 2, .int .i64 5, .int .i64 20, .int .i64 60] 3)).drew fun e w4 => (∃ x : Int, e = .returned (.int .i64 x) ∧ -9223372036854775808 ≤ x ∧ x ≤ 9223372036854775807) ∧ Cur w4 c ∧ Kept c (z.alloc (.cells #[.int .i64 0, .int .i64 2, .int .i64 5, .int .i64 20, .int .i64 60] 3)) w4) := by
    refine (int_any c z.heap.size 0 5 5 _ ?_ ?_ (by decide) (by decide)).mono fun e w4 h => ⟨h.1, h.2.1, ⟨h.2.2.os, h.2.2.tape, h.2.2.output, h.2.2.size, h.2.2.block⟩⟩
    · exact HCz.out.alloc _
    · exact row_lit (w := z) (by decide) rfl HCz.out.lt
  have kz : z.drew.cell? ⟨A, 1, none⟩ = some (.int .i64 s) := a1
  go_region_held3 (fun w' => w'.cell? ⟨A, 1, none⟩ = some (.int .i64 s)) (first | exact kz | exact Blk.cell (HAz.out.alloc _) 1 | exact hA4.cell 1 | exact (hA4.set 2 _).cell 1 | (go_keep; done)) (first
    | (go_at_call 58; (with_reducible refine HI.out.mono ?_); rintro r w4 ⟨⟨x, rfl, hx⟩, hc4, hk4⟩; (have hA3 := HK.out _ w4 hc4 hk4); (have hA4 := hA3.2.1); (have n2 : w4.cell? ⟨A, 2, none⟩ = some (.int .i64 0) := hA4.cell 2); (have f2 := hA4.frozen 2)))
  have HS4 : Hid (LSt w c w4 (.slice (some ⟨g, 0, none⟩) p.length cap) p) := hA3.1
  have hR := hA3.2.2
  have hA := hA4
  clear n2 f2 hA3 hA4 hc4 hk4 kz a1
  have HE : Hid (I64 (IntKind.i64.wrap (s + x))) := wrapB _
  generalize IntKind.i64.wrap (s + x) = y at HE ⊢
  have A0 : w4.cell? ⟨A, 0, none⟩ = some (.slice (some ⟨g, 0, none⟩) p.length cap) := hA.cell 0
  have A1 : w4.cell? ⟨A, 1, none⟩ = some (.int .i64 s) := hA.cell 1
  have A2 : w4.cell? ⟨A, 2, none⟩ = some (.int .i64 0) := hA.cell 2
  have A3 : w4.cell? ⟨A, 3, none⟩ = some (.string n) := hA.cell 3
  have fA0 := hA.frozen 0
  have fA1 := hA.frozen 1
  have fA2 := hA.frozen 2
  have fA3 := hA.frozen 3
  have R0 : w4.cell? ⟨w.heap.size, 0, none⟩ = some (.slice none 0 0) := hR.cell 0
  have R1 : w4.cell? ⟨w.heap.size, 1, none⟩ = some (.int .i64 0) := hR.cell 1
  have R2 : w4.cell? ⟨w.heap.size, 2, none⟩ = some (.int .i64 0) := hR.cell 2
  have R3 : w4.cell? ⟨w.heap.size, 3, none⟩ = some (.string ⟨#[]⟩) := hR.cell 3
  have fR0 := hR.frozen 0
  have fR1 := hR.frozen 1
  have fR2 := hR.frozen 2
  have fR3 := hR.frozen 3
  have d1 : ¬ A = w.heap.size := by have := HN.out; omega
  have d2 : ¬ w.heap.size = A := by have := HN.out; omega
  clear hA hR
  go_wp2
  refine bodyPost_ret (v := .agg #[.slice (some ⟨g, 0, none⟩) p.length cap, .int .i64 s, .int .i64 y, .string n]) (by simp [results, Tryz.results29, go_sem, R0, R1, R2, R3]) rfl ?_
  have h0 := HN.out; have h1 := HG.out; have h2 := HL.out
  exact ⟨g, cap, p, s, y, n, rfl, lst_other4 (lst_other HS4.out (by omega) (own_ne (by omega)) _ _) (Nat.le_refl _) (own_ne (by omega)) _ _ _ _, by omega, ⟨by omega, by omega⟩, HE.out, hn⟩

set_option maxRecDepth 100000 in
set_option maxHeartbeats 3200000 in
theorem l4Any_any (c : Nat) (w : World) (hc : Cur w c) :
    Calls Tryz.prog 92 #[.pointer (some ⟨c, 0, none⟩)] w fun r w' => ∃ (g cap : Nat) (p : List Lab) (s e : Int) (n : ByteArray), r = .returned (.agg #[.slice (some ⟨g, 0, none⟩) p.length cap, .int .i64 s, .int .i64 e, .string n]) ∧ LSt w c w' (.slice (some ⟨g, 0, none⟩) p.length cap) p ∧ p.length ≤ 8 ∧ I64 s ∧ I64 e ∧ n.size ≤ 100 := by
  have HC : Hid (Cur w c) := hc
  have HL : Hid (c < w.heap.size) := hc.lt
  clear hc
  go_enter Tryz.func92, Tryz.ntmps92
  go_wp2_with fail
  refine (l4Draw_any c _ (HC.out.alloc _)).mono ?_
  rintro r w1 ⟨g, cap, p, s, e, n, rfl, hst, hp, hs, he, hn⟩
  have HG : Hid (w.heap.size < g ∧ g < w1.heap.size) := by have := hst.blk; simp at this; exact ⟨by omega, this.2⟩
  have HR1 : Hid (Blk w1 w.heap.size #[.slice none 0 0, .int .i64 0, .int .i64 0, .string ⟨#[]⟩] 27) := blk_kept (Blk.new _ _ _) hst.kept (by have := HL.out; omega)
  have HS1 : Hid (LSt w c w1 (.slice (some ⟨g, 0, none⟩) p.length cap) p) := lst_base hst ((Kept.refl c w).alloc _) HL.out
  have HI : Hid (p.length ≤ 8 ∧ I64 s ∧ I64 e ∧ n.size ≤ 100) := ⟨hp, hs, he, hn⟩
  clear hst hp hs he hn
  go_wp2_with fail
  refine (below_any c 12 _ (HS1.out.cur.alloc _) (by decide) (by decide)).mono ?_
  rintro r w2 ⟨⟨x, rfl, hx0, hx1⟩, hc2, hk2⟩
  have HN : Hid (w.heap.size < g ∧ g < w1.heap.size ∧ w1.heap.size < w2.heap.size) := by
    have h1 := HG.out; have h2 := hk2.size; simp at h2
    exact ⟨by omega, by omega, by omega⟩
  have HS2 : Hid (LSt w c w2 (.slice (some ⟨g, 0, none⟩) p.length cap) p) := (HS1.out.alloc _).keep hc2 hk2
  have HA2 : Hid (Blk w2 w1.heap.size #[.slice (some ⟨g, 0, none⟩) p.length cap, .int .i64 s, .int .i64 e, .string n] 27) := blk_kept (Blk.new _ _ _) hk2 (by have := HL.out; have := HN.out; omega)
  have HR2 : Hid (Blk w2 w.heap.size #[.slice none 0 0, .int .i64 0, .int .i64 0, .string ⟨#[]⟩] 27) := blk_kept (HR1.out.alloc _) hk2 (by have := HL.out; omega)
  clear hc2 hk2 HS1 HR1 HG
  generalize w1.heap.size = A at HN HA2 ⊢
  have HAc : Hid (A ≠ c ∧ w.heap.size ≠ c) := by have := HL.out; have := HN.out; exact ⟨by omega, by omega⟩
  by_cases e0 : x = 0
  · subst e0
    go_wp2_with fail
    refine (l2Any_any c _ HS2.out.cur).mono ?_
    rintro r w3 ⟨v, rfl, q, hst, hq⟩
    obtain ⟨g', cap', rfl⟩ := hst.lies
    have HG' : Hid (A < g') := by have := hst.blk; have := HN.out; show A < g'; omega
    have hA := blk_kept HA2.out hst.kept HAc.out.1
    have hR := blk_kept HR2.out hst.kept HAc.out.2
    have HS3 : Hid (LSt w c w3 (.slice (some ⟨g', 0, none⟩) q.length cap') q) := lst_base hst HS2.out.kept HL.out
    clear hst
    have A0 : w3.cell? ⟨A, 0, none⟩ = some (.slice (some ⟨g, 0, none⟩) p.length cap) := hA.cell 0
    have A1 : w3.cell? ⟨A, 1, none⟩ = some (.int .i64 s) := hA.cell 1
    have A2 : w3.cell? ⟨A, 2, none⟩ = some (.int .i64 e) := hA.cell 2
    have A3 : w3.cell? ⟨A, 3, none⟩ = some (.string n) := hA.cell 3
    have fA0 := hA.frozen 0
    have fA1 := hA.frozen 1
    have fA2 := hA.frozen 2
    have fA3 := hA.frozen 3
    have R0 : w3.cell? ⟨w.heap.size, 0, none⟩ = some (.slice none 0 0) := hR.cell 0
    have R1 : w3.cell? ⟨w.heap.size, 1, none⟩ = some (.int .i64 0) := hR.cell 1
    have R2 : w3.cell? ⟨w.heap.size, 2, none⟩ = some (.int .i64 0) := hR.cell 2
    have R3 : w3.cell? ⟨w.heap.size, 3, none⟩ = some (.string ⟨#[]⟩) := hR.cell 3
    have fR0 := hR.frozen 0
    have fR1 := hR.frozen 1
    have fR2 := hR.frozen 2
    have fR3 := hR.frozen 3
    have d1 : ¬ A = w.heap.size := by have := HN.out; omega
    have d2 : ¬ w.heap.size = A := by have := HN.out; omega
    clear hA hR
    go_wp2
    refine bodyPost_ret (v := .agg #[.slice (some ⟨g', 0, none⟩) q.length cap', .int .i64 s, .int .i64 e, .string n]) (by simp [results, Tryz.results92, go_sem, R0, R1, R2, R3]) rfl ?_
    have h0 := HN.out; have h3 := HG'.out; have h2 := HL.out
    exact ⟨g', cap', q, s, e, n, rfl, lst_other4 (lst_other HS3.out (by omega) (own_ne (by have := HG'.out; omega)) _ _) (Nat.le_refl _) (own_ne (by omega)) _ _ _ _, hq, HI.out.2.1, HI.out.2.2.1, HI.out.2.2.2⟩
  have d0' : (x == 0) = false := by simpa using e0
  by_cases e1 : x = 1
  · subst e1
    go_wp2_with fail
    refine (int_any c _ _ _ _ _ ?hc ?hr ?h1 ?h2).mono ?_
    case hc => exact HS2.out.cur.alloc _
    case hr => exact row_lit (by decide) rfl HS2.out.cur.lt
    case h1 => decide
    case h2 => decide
    rintro r w3 ⟨⟨y, rfl, hy⟩, hc3, hk3⟩
    have HY : Hid (I64 y) := hy
    have hA := blk_kept (HA2.out.alloc _) hk3 HAc.out.1
    have hR := blk_kept (HR2.out.alloc _) hk3 HAc.out.2
    have HS3 : Hid (LSt w c w3 (.slice (some ⟨g, 0, none⟩) p.length cap) p) := (HS2.out.alloc _).keep hc3 hk3
    clear hc3 hk3 hy
    have A0 : w3.cell? ⟨A, 0, none⟩ = some (.slice (some ⟨g, 0, none⟩) p.length cap) := hA.cell 0
    have A1 : w3.cell? ⟨A, 1, none⟩ = some (.int .i64 s) := hA.cell 1
    have A2 : w3.cell? ⟨A, 2, none⟩ = some (.int .i64 e) := hA.cell 2
    have A3 : w3.cell? ⟨A, 3, none⟩ = some (.string n) := hA.cell 3
    have fA0 := hA.frozen 0
    have fA1 := hA.frozen 1
    have fA2 := hA.frozen 2
    have fA3 := hA.frozen 3
    have R0 : w3.cell? ⟨w.heap.size, 0, none⟩ = some (.slice none 0 0) := hR.cell 0
    have R1 : w3.cell? ⟨w.heap.size, 1, none⟩ = some (.int .i64 0) := hR.cell 1
    have R2 : w3.cell? ⟨w.heap.size, 2, none⟩ = some (.int .i64 0) := hR.cell 2
    have R3 : w3.cell? ⟨w.heap.size, 3, none⟩ = some (.string ⟨#[]⟩) := hR.cell 3
    have fR0 := hR.frozen 0
    have fR1 := hR.frozen 1
    have fR2 := hR.frozen 2
    have fR3 := hR.frozen 3
    have d1 : ¬ A = w.heap.size := by have := HN.out; omega
    have d2 : ¬ w.heap.size = A := by have := HN.out; omega
    clear hA hR
    go_wp2
    refine bodyPost_ret (v := .agg #[.slice (some ⟨g, 0, none⟩) p.length cap, .int .i64 y, .int .i64 e, .string n]) (by simp [results, Tryz.results92, go_sem, R0, R1, R2, R3]) rfl ?_
    have h0 := HN.out; have h2 := HL.out
    exact ⟨g, cap, p, y, e, n, rfl, lst_other4 (lst_other HS3.out (by omega) (own_ne (by omega)) _ _) (Nat.le_refl _) (own_ne (by omega)) _ _ _ _, HI.out.1, HY.out, HI.out.2.2.1, HI.out.2.2.2⟩
  have d1' : (x == 1) = false := by simpa using e1
  by_cases e2 : x = 2
  · subst e2
    go_wp2_with fail
    refine (raw_any c _ HS2.out.cur).mono ?_
    rintro r w3 ⟨⟨y, rfl, hy⟩, hc3, hk3⟩
    have HY : Hid (I64 y) := hy
    have hA := blk_kept HA2.out hk3 HAc.out.1
    have hR := blk_kept HR2.out hk3 HAc.out.2
    have HS3 : Hid (LSt w c w3 (.slice (some ⟨g, 0, none⟩) p.length cap) p) := HS2.out.keep hc3 hk3
    clear hc3 hk3 hy
    have A0 : w3.cell? ⟨A, 0, none⟩ = some (.slice (some ⟨g, 0, none⟩) p.length cap) := hA.cell 0
    have A1 : w3.cell? ⟨A, 1, none⟩ = some (.int .i64 s) := hA.cell 1
    have A2 : w3.cell? ⟨A, 2, none⟩ = some (.int .i64 e) := hA.cell 2
    have A3 : w3.cell? ⟨A, 3, none⟩ = some (.string n) := hA.cell 3
    have fA0 := hA.frozen 0
    have fA1 := hA.frozen 1
    have fA2 := hA.frozen 2
    have fA3 := hA.frozen 3
    have R0 : w3.cell? ⟨w.heap.size, 0, none⟩ = some (.slice none 0 0) := hR.cell 0
    have R1 : w3.cell? ⟨w.heap.size, 1, none⟩ = some (.int .i64 0) := hR.cell 1
    have R2 : w3.cell? ⟨w.heap.size, 2, none⟩ = some (.int .i64 0) := hR.cell 2
    have R3 : w3.cell? ⟨w.heap.size, 3, none⟩ = some (.string ⟨#[]⟩) := hR.cell 3
    have fR0 := hR.frozen 0
    have fR1 := hR.frozen 1
    have fR2 := hR.frozen 2
    have fR3 := hR.frozen 3
    have d1 : ¬ A = w.heap.size := by have := HN.out; omega
    have d2 : ¬ w.heap.size = A := by have := HN.out; omega
    clear hA hR
    go_wp2
    refine bodyPost_ret (v := .agg #[.slice (some ⟨g, 0, none⟩) p.length cap, .int .i64 s, .int .i64 y, .string n]) (by simp [results, Tryz.results92, go_sem, R0, R1, R2, R3]) rfl ?_
    have h0 := HN.out; have h2 := HL.out
    exact ⟨g, cap, p, s, y, n, rfl, lst_other4 (lst_other HS3.out (by omega) (own_ne (by omega)) _ _) (Nat.le_refl _) (own_ne (by omega)) _ _ _ _, HI.out.1, HI.out.2.1, HY.out, HI.out.2.2.2⟩
  have d2' : (x == 2) = false := by simpa using e2
  by_cases e3 : x = 3
  · subst e3
    go_wp2_with fail
    refine (anyPlain_any c _ HS2.out.cur).mono ?_
    rintro r w3 ⟨⟨t, rfl, ht⟩, hc3, hk3⟩
    have HY : Hid (t.size ≤ 100) := ht
    have hA := blk_kept HA2.out hk3 HAc.out.1
    have hR := blk_kept HR2.out hk3 HAc.out.2
    have HS3 : Hid (LSt w c w3 (.slice (some ⟨g, 0, none⟩) p.length cap) p) := HS2.out.keep hc3 hk3
    clear hc3 hk3 ht
    have A0 : w3.cell? ⟨A, 0, none⟩ = some (.slice (some ⟨g, 0, none⟩) p.length cap) := hA.cell 0
    have A1 : w3.cell? ⟨A, 1, none⟩ = some (.int .i64 s) := hA.cell 1
    have A2 : w3.cell? ⟨A, 2, none⟩ = some (.int .i64 e) := hA.cell 2
    have A3 : w3.cell? ⟨A, 3, none⟩ = some (.string n) := hA.cell 3
    have fA0 := hA.frozen 0
    have fA1 := hA.frozen 1
    have fA2 := hA.frozen 2
    have fA3 := hA.frozen 3
    have R0 : w3.cell? ⟨w.heap.size, 0, none⟩ = some (.slice none 0 0) := hR.cell 0
    have R1 : w3.cell? ⟨w.heap.size, 1, none⟩ = some (.int .i64 0) := hR.cell 1
    have R2 : w3.cell? ⟨w.heap.size, 2, none⟩ = some (.int .i64 0) := hR.cell 2
    have R3 : w3.cell? ⟨w.heap.size, 3, none⟩ = some (.string ⟨#[]⟩) := hR.cell 3
    have fR0 := hR.frozen 0
    have fR1 := hR.frozen 1
    have fR2 := hR.frozen 2
    have fR3 := hR.frozen 3
    have d1 : ¬ A = w.heap.size := by have := HN.out; omega
    have d2 : ¬ w.heap.size = A := by have := HN.out; omega
    clear hA hR
    go_wp2
    refine bodyPost_ret (v := .agg #[.slice (some ⟨g, 0, none⟩) p.length cap, .int .i64 s, .int .i64 e, .string t]) (by simp [results, Tryz.results92, go_sem, R0, R1, R2, R3]) rfl ?_
    have h0 := HN.out; have h2 := HL.out
    exact ⟨g, cap, p, s, e, t, rfl, lst_other4 (lst_other HS3.out (by omega) (own_ne (by omega)) _ _) (Nat.le_refl _) (own_ne (by omega)) _ _ _ _, HI.out.1, HI.out.2.1, HI.out.2.2.1, HY.out⟩
  have d3' : (x == 3) = false := by simpa using e3
  have hA := HA2.out
  have hR := HR2.out
  have A0 : w2.cell? ⟨A, 0, none⟩ = some (.slice (some ⟨g, 0, none⟩) p.length cap) := hA.cell 0
  have A1 : w2.cell? ⟨A, 1, none⟩ = some (.int .i64 s) := hA.cell 1
  have A2 : w2.cell? ⟨A, 2, none⟩ = some (.int .i64 e) := hA.cell 2
  have A3 : w2.cell? ⟨A, 3, none⟩ = some (.string n) := hA.cell 3
  have fA0 := hA.frozen 0
  have fA1 := hA.frozen 1
  have fA2 := hA.frozen 2
  have fA3 := hA.frozen 3
  have R0 : w2.cell? ⟨w.heap.size, 0, none⟩ = some (.slice none 0 0) := hR.cell 0
  have R1 : w2.cell? ⟨w.heap.size, 1, none⟩ = some (.int .i64 0) := hR.cell 1
  have R2 : w2.cell? ⟨w.heap.size, 2, none⟩ = some (.int .i64 0) := hR.cell 2
  have R3 : w2.cell? ⟨w.heap.size, 3, none⟩ = some (.string ⟨#[]⟩) := hR.cell 3
  have fR0 := hR.frozen 0
  have fR1 := hR.frozen 1
  have fR2 := hR.frozen 2
  have fR3 := hR.frozen 3
  have d1 : ¬ A = w.heap.size := by have := HN.out; omega
  have d2 : ¬ w.heap.size = A := by have := HN.out; omega
  clear hA hR
  go_wp2
  refine bodyPost_ret (v := .agg #[.slice (some ⟨g, 0, none⟩) p.length cap, .int .i64 s, .int .i64 e, .string n]) (by simp [results, Tryz.results92, go_sem, R0, R1, R2, R3]) rfl ?_
  have h0 := HN.out; have h2 := HL.out
  exact ⟨g, cap, p, s, e, n, rfl, lst_other4 HS2.out (Nat.le_refl _) (own_ne (by omega)) _ _ _ _, HI.out.1, HI.out.2.1, HI.out.2.2.1, HI.out.2.2.2⟩

end Go.Proofs.YtgncimlojbnbfaaGreat.DrawA
namespace Go.Proofs.YtgncimlojbnbfaaGreat.DrawB
open Go.RowKit
open Draw
open Labs LabS LabR Over Blk App DrawL DrawT Alm AlmM DrawA
open LabT (infoL Held held_reads)

theorem kept_drew {c : Nat} {w w' : World} (h : Kept c w.drew w') : Kept c w w' := ⟨h.os, h.tape, h.output, h.size, h.block⟩
end Go.Proofs.YtgncimlojbnbfaaGreat.DrawB
namespace Go.Proofs.YtgncimlojbnbfaaGreat.DrawC
open Go.RowKit
open Draw
open Labs LabS Over Blk App DrawL DrawT Alms AlmM DrawA DrawB Rws ChnI ChnC ChnP ChnK
open LabT (Held held_reads)

theorem grown_bel {w w' : World} (h : Below w.heap.size w w') : w.grownBy w' none := ⟨h.os, h.tape, h.output, h.size, fun k hk _ => h.block k hk⟩
theorem cur_bel {w w' : World} {c : Nat} (h : Cur w c) (hb : Below w.heap.size w w') : Cur w' c := h.grown (grown_bel hb) (fun k hk => by cases hk)
theorem kept_bel {c : Nat} {w w' : World} (h : Below w.heap.size w w') : Kept c w w' := ⟨h.os, h.tape, h.output, h.size, fun k hk _ => h.block k hk⟩
theorem cur_set {w : World} {c A : Nat} (h : Cur w c) (hne : c < A) (i : Nat) (v : Value) : Cur (w.setCell ⟨A, i, none⟩ v) c := h.grown (grown_set w A i v) (fun k hk => by cases hk; exact hne)
theorem kept_set {w wr : World} {c A : Nat} (h : Kept c w wr) (hA : w.heap.size ≤ A) (i : Nat) (v : Value) : Kept c w (wr.setCell ⟨A, i, none⟩ v) := kept_grown (B := 0) h (grown_set wr A i v) (fun k hk => by cases hk; exact hA)
theorem own_kept {c lo : Nat} {w w' : World} {x : ARow} (h : OwnA lo w x) (hk : Kept c w w') (hc : c < lo) : OwnA lo w' x := by
  obtain ⟨h1, h2, ds, hb, h3⟩ := h
  exact ⟨h1, h2, ds, blk_kept hb hk (by omega), h3⟩
theorem ab_kept {c lo : Nat} {w w' : World} {M cap : Nat} {rs : List ARow} (h : AB lo w M cap rs) (hk : Kept c w w') (hc : c < lo) : AB lo w' M cap rs := by
  obtain ⟨cur, h1, h2⟩ := h.outer
  exact ⟨h.at', h.cap, ⟨cur, blk_kept h1 hk (by have := h.at'; omega), h2⟩, fun x hx => own_kept (h.rows x hx) hk hc, h.ne⟩
theorem own_lst {W w' : World} {c g cap : Nat} {p : List Lab} {s e : Int} {n : ByteArray} (h : LSt W c w' (.slice (some ⟨g, 0, none⟩) p.length cap) p) (hp : p.length ≤ 8) : OwnA W.heap.size w' (g, cap, ⟨p, s, e, n⟩) := by
  rcases h.own.2 with ⟨e', _⟩ | ⟨g', c', cur, e', hb, hcur, hcc, _, hz, ht⟩
  · cases e'
  · cases e'
    refine ⟨hb, by show p.length ≤ _; omega, cur, hcur, by show p.length * 2 ≤ _; rw [hz]; omega, fun j hj => ?_⟩
    have hj' : j < p.length := hj
    have h2 := LabR.flat_get p j hj'
    have hl := LabR.flat_len p
    rw [← ht, List.getElem?_take_of_lt (by omega), List.getElem?_take_of_lt (by omega)] at h2
    simpa using h2

def Fine (x : PAl) : Prop := FitA x ∧ x.l.length ≤ 8
def Fines (P : List PAl) : Prop := ∀ x ∈ P, Fine x
theorem fine_of {p : List Lab} {s e : Int} {n : ByteArray} (hp : p.length ≤ 8) (hf : Small p) (hs : I64 s) (he : I64 e) (hn : n.size ≤ 100) : Fine ⟨p, s, e, n⟩ :=
  ⟨⟨by show p.length ≤ _; unfold maxLen; omega, small_fits hf, hs, he, by show n.size ≤ _; unfold maxLen; omega⟩, hp⟩
theorem nthP_mem {P : List PAl} {i : Nat} (h : i < P.length) : nthP P i ∈ P := by rw [nthP_eq h]; exact List.getElem_mem _
theorem fines_nil : Fines [] := fun x hx => by simp at hx
theorem fines_app {P : List PAl} {a : PAl} (h : Fines P) (ha : Fine a) : Fines (P ++ [a]) := fun x hx => by
  rcases List.mem_append.1 hx with h1 | h1
  · exact h x h1
  · have : x = a := by simpa using h1
    subst this; exact ha
theorem Fines.lens {P : List PAl} (h : Fines P) : LenM P := fun i hi => by have := (h _ (nthP_mem hi)).2; omega
end Go.Proofs.YtgncimlojbnbfaaGreat.DrawC
namespace Go.Proofs.YtgncimlojbnbfaaGreat.LbD
open Go.RowKit
open Draw
open Labs LabS Over Blk App DrawL DrawT Alms AlmM DrawA DrawB Rws ChnI ChnC ChnP ChnK DrawC
open LabT (Held infoL)
open LabR (flat flat_len flat_one)
end Go.Proofs.YtgncimlojbnbfaaGreat.LbD
namespace Go.Proofs.YtgncimlojbnbfaaGreat.Hld
open Go.RowKit
section
variable {P : Program} {md : Region.Mode} {ops : Array Oper} {Q : Exit → Act → World → Prop} {S : World → Prop} {z : Nat}
def anyL (P : Program) (md : Region.Mode) (ops : Array Oper) (Q : Exit → Act → World → Prop) (S : World → Prop) (z : Nat) (n : Nat) (li : Array Bool) (a : Act) (w : World) : Prop :=
  match n with
  | 0 => Region.ready md ops li = [] ∧ Q .normal a w
  | m + 1 => (Region.ready md ops li = [] → Q .normal a w) ∧ ∀ i, i ∈ Region.ready md ops li → wpOp P ops Q i (fun a' w' => (i ≠ z → S w') ∧ anyL P md ops Q S z m (li.setIfInBounds i true) a' w') a w
theorem anyL_any : ∀ (n : Nat) (li : Array Bool) (a : Act) (w : World), anyL P md ops Q S z n li a w → wpAny P md ops Q n li a w := by
  intro n
  induction n with
  | zero => intro li a w h; exact h
  | succ n ih => intro li a w h; exact ⟨h.1, fun i hi => wpOp_mono (fun a' w' k => ih _ a' w' k.2) (h.2 i hi)⟩
theorem not_listed {li : Array Bool} {i : Nat} {oj : Oper} (hr : i ∈ Region.ready md ops li) (hall : ∀ e ∈ oj.after, Region.binds md e = true → li.getD e.on false = true) : ∀ e ∈ oj.after, Region.binds md e = true → e.on ≠ i := fun e he hb q => by
  have x1 := hall e he hb
  have x0 := (mem_ready.1 hr).1
  rw [q] at x1
  by_cases h : i < li.size
  · simp [h] at x0 x1; rw [x0] at x1; cases x1
  · simp [Array.getElem?_eq_none (Nat.le_of_not_lt h)] at x1
theorem anyL_first {i : Nat} {oi : Oper} {v : Value} (hi : ops[i]? = some oi) (hsel : ∀ (j : Nat) (o : Oper) cs b, ops[j]? = some o → o.op ≠ .select cs b) (hQ : ∀ c a w, Q (.panic c) (a.put oi.dst v) w → Q (.panic c) a w) (hz : ∀ oz, ops[z]? = some oz → ∃ e ∈ oz.after, Region.binds md e = true ∧ e.on = i) (n : Nat) : ∀ (li : Array Bool) (a : Act) (w : World),
    (∀ j oj, ops[j]? = some oj → j ≠ i → li.getD j true = false → (∀ e ∈ oj.after, Region.binds md e = true → e.on ≠ i) → oi.apart ops oj = true) → i ∈ Region.ready md ops li → YieldsIf P ops S oi v a → S w → anyL P md ops Q S z n (li.setIfInBounds i true) (a.put oi.dst v) w → anyL P md ops Q S z (n + 1) li a w := by
  induction n with
  | zero =>
    intro li a w _ hr hy hS H
    refine ⟨fun h => (by rw [h] at hr; cases hr), fun j hj => ?_⟩
    by_cases e : j = i
    · subst e; exact hy.wpOp hi hS ⟨fun _ => hS, H⟩
    · have k := ready_mono hj e
      rw [H.1] at k; cases k
  | succ n ih =>
    intro li a w hfree hr hy hS H
    refine ⟨fun h => (by rw [h] at hr; cases hr), fun j hj => ?_⟩
    by_cases e : j = i
    · subst e; exact hy.wpOp hi hS ⟨fun _ => hS, H⟩
    · obtain ⟨hun, oj, hoj, hall⟩ := mem_ready.1 hj
      have hnot := not_listed (oj := oj) hr hall
      have hjz : j ≠ z := fun q => by
        subst q
        obtain ⟨d, hd, hb, ho⟩ := hz oj hoj
        exact hnot d hd hb ho
      have k := wpOp_putIf (S := S) hoj (hfree j oj hoj e hun hnot) (fun cs b => hsel i oi cs b hi) (fun cs b => hsel j oj cs b hoj) hQ hy (H.2 j (ready_mono hj e))
      refine wpOp_mono (fun a' w' h3 => ?_) k
      have hS' := h3.2.1 hjz
      refine ⟨fun _ => hS', ih (li.setIfInBounds j true) a' w' (fun m om hm hmi hun' hno => hfree m om hm hmi ?_ hno) (ready_mono hr (Ne.symm e)) h3.1 hS' ?_⟩
      · by_cases q : j = m
        · subst q; exact hun
        · rw [getD_set_ne true q] at hun'; exact hun'
      · rw [Array.setIfInBounds_comm _ _ e]
        exact h3.2.2
def waits (md : Region.Mode) (ops : Array Oper) (z i : Nat) : Bool := (ops[z]?.map fun o => o.after.any fun e => Region.binds md e && e.on == i).getD true
theorem waits_spec {i : Nat} (h : waits md ops z i = true) : ∀ oz, ops[z]? = some oz → ∃ e ∈ oz.after, Region.binds md e = true ∧ e.on = i := fun oz hz => by
  unfold waits at h
  rw [hz] at h
  simp only [Option.map_some, Option.getD_some, Array.any_eq_true, Bool.and_eq_true, beq_iff_eq] at h
  obtain ⟨k, hk, h1, h2⟩ := h
  exact ⟨_, Array.getElem_mem hk, h1, h2⟩
theorem anyL_take {i : Nat} {oi : Oper} {v : Value} {n : Nat} {li : Array Bool} {a : Act} {w : World} (hi : ops[i]? = some oi) (hs : Region.noSelect ops = true) (hf : Region.free md ops li i = true) (hr : (Region.ready md ops li).contains i = true) (hw : waits md ops z i = true) (hQ : ∀ c a w, Q (.panic c) (a.put oi.dst v) w → Q (.panic c) a w) (hy : YieldsIf P ops S oi v a) (hS : S w) (h : anyL P md ops Q S z n (li.setIfInBounds i true) (a.put oi.dst v) w) : anyL P md ops Q S z (n + 1) li a w :=
  anyL_first hi (Region.noSelect_spec hs) hQ (waits_spec hw) n li a w (Region.free_spec hi hf) (by simpa using hr) hy hS h
theorem anyL_done {li : Array Bool} {a : Act} {w : World} (hr : Region.ready md ops li = []) (h : Q .normal a w) (n : Nat) : anyL P md ops Q S z n li a w := by
  cases n with
  | zero => exact ⟨hr, h⟩
  | succ n => exact ⟨fun _ => h, fun i hi => (by rw [hr] at hi; cases hi)⟩
def AllL (P : Program) (md : Region.Mode) (ops : Array Oper) (Q : Exit → Act → World → Prop) (S : World → Prop) (z n : Nat) (li : Array Bool) (a : Act) (w : World) (rs : List Nat) : Prop :=
  ∀ i, i ∈ rs → wpOp P ops Q i (fun a' w' => (i ≠ z → S w') ∧ anyL P md ops Q S z n (li.setIfInBounds i true) a' w') a w
theorem AllL.nil {n : Nat} {li : Array Bool} {a : Act} {w : World} : AllL P md ops Q S z n li a w [] := fun _ h => by cases h
theorem AllL.cons {n : Nat} {li : Array Bool} {a : Act} {w : World} {i : Nat} {o : Oper} {rs : List Nat} (ho : ops[i]? = some o)
    (h : ∀ K : Act → World → Prop, Shut (∀ a w, S w → (S w → anyL P md ops Q S z n (li.setIfInBounds i true) a w) → K a w) → if Region.wanted o (yielded ops a.tmps) = true then Oper.wp P o a w K Q else K (a.put o.dst undef) w)
    (hs : AllL P md ops Q S z n li a w rs) : AllL P md ops Q S z n li a w (i :: rs) := fun j hj => by
  rcases List.mem_cons.1 hj with rfl | hj
  · exact wpOp_step ho (fun K hK => h K (fun a w hS hW => hK a w ⟨fun _ => hS, hW hS⟩))
  · exact hs j hj
theorem AllL.last {n : Nat} {li : Array Bool} {a : Act} {w : World} {o : Oper} (ho : ops[z]? = some o)
    (h : ∀ K : Act → World → Prop, Shut (∀ a w, anyL P md ops Q S z n (li.setIfInBounds z true) a w → K a w) → if Region.wanted o (yielded ops a.tmps) = true then Oper.wp P o a w K Q else K (a.put o.dst undef) w) : AllL P md ops Q S z n li a w [z] := fun j hj => by
  have e := List.mem_singleton.1 hj
  subst e
  exact wpOp_step ho (fun K hK => h K (fun a w hW => hK a w ⟨fun h => absurd rfl h, hW⟩))
theorem anyL_ready {rs : List Nat} {n : Nat} {li : Array Bool} {a : Act} {w : World} (hr : Region.ready md ops li = rs) (hne : rs ≠ []) (h : AllL P md ops Q S z n li a w rs) : anyL P md ops Q S z (n + 1) li a w :=
  ⟨fun q => absurd (hr.symm.trans q) hne, fun i hi => h i (hr ▸ hi)⟩
theorem wp_region_LH {id : Nat} {a : Act} {w : World} (hm : P.follows .mixedOrders = true) (hS : S w.drew) (h : S w.drew → anyL P .any ops Q S z ops.size (Array.replicate ops.size false) a w.drew) : (Code.region id ops true).wp P Q a w := wp_region_any hm (anyL_any _ _ _ _ (h hS))
end
end Go.Proofs.YtgncimlojbnbfaaGreat.Hld
namespace Go.Proofs.YtgncimlojbnbfaaGreat.DrawK
open Go.RowKit
open Draw
open Labs LabS Over Blk App DrawL DrawT DrawA DrawB
open Pro (RdS nthS)
open LabT (Held held_reads)
open Alms (PAl nthP RdA FitsP FitA sumL At nthP_eq infoA)
open StrT (FitsS)

structure SSt (w : World) (c : Nat) (wr : World) (v : Value) (xs : List ByteArray) : Prop where
  own : wr.ownsRow w.heap.size 9 1 v xs.length (xs.map Value.string)
  lies : ∃ g cap, v = .slice (some ⟨g, 0, none⟩) xs.length cap
  cur : Cur wr c
  kept : Kept c w wr
  clt : c < w.heap.size
  fit : ∀ s ∈ xs, s.size ≤ 100
theorem sst_new {w : World} {c : Nat} {W : World} (xs : List ByteArray) (cs : Array Value) (n : Nat) (hc : Cur W c) (hk : Kept c w W) (hcl : c < w.heap.size) (he : cs.toList = xs.map Value.string) (hn : n = xs.length) (h5 : xs.length ≤ 5) (hf : ∀ s ∈ xs, s.size ≤ 100) :
    SSt w c (W.alloc (.cells cs 9)) (.slice (some ⟨W.heap.size, 0, none⟩) n n) xs := by
  subst hn
  have hs : cs.size = xs.length := by rw [← Array.length_toList, he, List.length_map]
  refine ⟨⟨by simp, .inr ⟨W.heap.size, xs.length, cs, rfl, hk.size, Blk.new _ _ _, Nat.le_refl _, by unfold maxLen; omega, by omega, ?_⟩⟩, ⟨_, _, rfl⟩, hc.alloc _, hk.alloc _, hcl, hf⟩
  rw [he]
  exact List.take_of_length_le (by simp)
set_option maxHeartbeats 800000 in
theorem l5By_any (c : Nat) (w : World) (hc : Cur w c) :
    Calls Tryz.prog 27 #[.pointer (some ⟨c, 0, none⟩)] w fun e w' => ∃ v, e = .returned v ∧ ∃ xs, SSt w c w' v xs ∧ xs.length ≤ 2 := by
  have HC : Hid (Cur w c) := hc
  have HL : Hid (c < w.heap.size) := hc.lt
  clear hc
  go_enter Tryz.func27, Tryz.ntmps27
  go_wp2_with fail
  refine (below_any c 5 _ HC.out (by decide) (by decide)).mono ?_
  rintro e w1 ⟨⟨x, rfl, hx0, hx1⟩, hc1, hk1⟩
  have HS : Hid (Cur w1 c ∧ Kept c w w1) := ⟨hc1, hk1⟩
  clear hc1 hk1
  by_cases e0 : x = 0
  · subst e0
    go_wp2
    go_ret
    exact ⟨_, rfl, [], sst_new [] #[] 0 HS.out.1 HS.out.2 HL.out rfl rfl (by simp) (fun s hs => by simp at hs), by simp⟩
  have d0 : (x == 0) = false := by simpa using e0
  by_cases e1 : x = 1
  · subst e1
    go_wp2
    go_ret
    exact ⟨_, rfl, [⟨#[97, 112, 112]⟩, ⟨#[115, 101, 118]⟩], sst_new [⟨#[97, 112, 112]⟩, ⟨#[115, 101, 118]⟩] #[.string ⟨#[97, 112, 112]⟩, .string ⟨#[115, 101, 118]⟩] 2 HS.out.1 HS.out.2 HL.out rfl rfl (by simp) (fun s hs => by
      simp only [List.mem_cons, List.not_mem_nil, or_false] at hs
      rcases hs with rfl | rfl <;> decide), by simp⟩
  have d1 : (x == 1) = false := by simpa using e1
  by_cases e2 : x = 2
  · subst e2
    go_wp2
    go_ret
    exact ⟨_, rfl, [⟨#[104, 111, 115, 116]⟩], sst_new [⟨#[104, 111, 115, 116]⟩] #[.string ⟨#[104, 111, 115, 116]⟩] 1 HS.out.1 HS.out.2 HL.out rfl rfl (by simp) (fun s hs => by
      simp only [List.mem_cons, List.not_mem_nil, or_false] at hs
      rcases hs with rfl; decide), by simp⟩
  have d2 : (x == 2) = false := by simpa using e2
  go_wp2
  go_ret
  exact ⟨_, rfl, [⟨#[97, 112, 112]⟩], sst_new [⟨#[97, 112, 112]⟩] #[.string ⟨#[97, 112, 112]⟩] 1 HS.out.1 HS.out.2 HL.out rfl rfl (by simp) (fun s hs => by
      simp only [List.mem_cons, List.not_mem_nil, or_false] at hs
      rcases hs with rfl; decide), by simp⟩

abbrev ARow := Nat × Nat × PAl
def flatA : List ARow → List Value
  | [] => []
  | x :: l => .slice (some ⟨x.1, 0, none⟩) x.2.2.l.length x.2.1 :: .int .i64 x.2.2.s :: .int .i64 x.2.2.e :: .string x.2.2.n :: flatA l
def nthA (l : List ARow) (i : Nat) : ARow := l.getD i (0, 0, ⟨[], 0, 0, ByteArray.empty⟩)
structure OwnA (lo : Nat) (w : World) (x : ARow) : Prop where
  at' : lo ≤ x.1
  blk : ∃ ds : Array Value, Blk w x.1 ds 99 ∧ Held ds x.2.2.l x.2.2.l.length
  few : x.2.2.l.length ≤ 8
  small : Small x.2.2.l
  sb : I64 x.2.2.s
  eb : I64 x.2.2.e
  note : x.2.2.n.size ≤ 100
def pals (xs : List ARow) : List PAl := xs.map fun x => x.2.2
end Go.Proofs.YtgncimlojbnbfaaGreat.DrawK
namespace Go.Proofs.YtgncimlojbnbfaaGreat.Tog
open Go.RowKit
open Labs LabS Pro Over Blk
open StrB (retB)
open LabR (Own)

def togB (l l' : List Lab) (by' : List ByteArray) : Bool := decide (projB l by' = projB l' by')

set_option maxRecDepth 100000 in
set_option maxHeartbeats 3200000 in
theorem specTog_any (a a' b : Option Addr) (cap cap' capb : Nat) (l l' : List Lab) (s e s' e' : Int) (n n' : ByteArray) (by' : List ByteArray) (w : World) (hr : Reads w a l) (hr' : Reads w a' l') (hb : RdS w b by') (hl : l.length ≤ 1048576) (hl' : l'.length ≤ 1048576) (hlb : by'.length ≤ maxLen) :
    Calls Tryz.prog 110 #[.agg #[.slice a l.length cap, .int .i64 s, .int .i64 e, .string n], .agg #[.slice a' l'.length cap', .int .i64 s', .int .i64 e', .string n'], .slice b by'.length capb] w fun r w' => r = .returned (.bool (togB l l' by')) ∧ Below w.heap.size w w' := by
  have HR : Hid (Reads w a l ∧ Reads w a' l' ∧ RdS w b by' ∧ l.length ≤ 1048576 ∧ l'.length ≤ 1048576 ∧ by'.length ≤ maxLen) := ⟨hr, hr', hb, hl, hl', hlb⟩
  have HM : Hid ((projB l by').length ≤ maxLen ∧ (projB l' by').length ≤ maxLen) := ⟨Nat.le_trans (proj_len l by') (by unfold maxLen; omega), Nat.le_trans (proj_len l' by') (by unfold maxLen; omega)⟩
  clear hr hr' hb hl hl' hlb
  go_enter Tryz.func110, Tryz.ntmps110
  go_wp2_with fail
  generalize hz : (w.alloc (.cells #[.slice a l.length cap, .int .i64 s, .int .i64 e, .string n] 27)).alloc (.cells #[.slice a' l'.length cap', .int .i64 s', .int .i64 e', .string n'] 27) = z
  have hP : Blk z w.heap.size #[.slice a l.length cap, .int .i64 s, .int .i64 e, .string n] 27 := by rw [← hz]; exact (Blk.new _ _ _).alloc _
  have hQ : Blk z (w.heap.size + 1) #[.slice a' l'.length cap', .int .i64 s', .int .i64 e', .string n'] 27 := by rw [← hz]; exact Blk.new_at (by simp)
  have HB : Hid (Below w.heap.size w z) := by rw [← hz]; exact Go.Joins.below_alloc2 w _ _
  clear hz
  have kz : Below z.heap.size z z.drew := (Below.refl _ _).drew
  have HS : Hid (∀ w', Below z.heap.size z w' → Below z.heap.size z w' ∧ w'.cell? ⟨w.heap.size, 0, none⟩ = some (.slice a l.length cap) ∧ w'.cell? ⟨w.heap.size, 1, none⟩ = some (.int .i64 s) ∧ w'.cell? ⟨w.heap.size, 2, none⟩ = some (.int .i64 e) ∧ w'.cell? ⟨w.heap.size, 3, none⟩ = some (.string n) ∧ w'.cell? ⟨w.heap.size + 1, 0, none⟩ = some (.slice a' l'.length cap') ∧ w'.cell? ⟨w.heap.size + 1, 1, none⟩ = some (.int .i64 s') ∧ w'.cell? ⟨w.heap.size + 1, 2, none⟩ = some (.int .i64 e') ∧ w'.cell? ⟨w.heap.size + 1, 3, none⟩ = some (.string n')) :=
    fun w' h => ⟨h, (h.cell hP.lt).trans (hP.cell 0), (h.cell hP.lt).trans (hP.cell 1), (h.cell hP.lt).trans (hP.cell 2), (h.cell hP.lt).trans (hP.cell 3), (h.cell hQ.lt).trans (hQ.cell 0), (h.cell hQ.lt).trans (hQ.cell 1), (h.cell hQ.lt).trans (hQ.cell 2), (h.cell hQ.lt).trans (hQ.cell 3)⟩
  have C1 : Hid (∀ x, Below z.heap.size z x → Calls Tryz.prog 35 #[.agg #[.slice a l.length cap, .int .i64 s, .int .i64 e, .string n], .slice b by'.length capb] x fun r w' => (∃ M c, r = .returned (.slice (some ⟨M, 0, none⟩) (projB l by').length c) ∧ Own x w' M (projB l by')) ∧ Below x.heap.size x w') := fun x hx => specKey_any a b cap capb l s e n by' x (HR.out.1.below (grow_on HB.out hx)) (HR.out.2.2.1.below (grow_on HB.out hx)) HR.out.2.2.2.1 HR.out.2.2.2.2.2
  have C2 : Hid (∀ x, Below z.heap.size z x → Calls Tryz.prog 35 #[.agg #[.slice a' l'.length cap', .int .i64 s', .int .i64 e', .string n'], .slice b by'.length capb] x fun r w' => (∃ M c, r = .returned (.slice (some ⟨M, 0, none⟩) (projB l' by').length c) ∧ Own x w' M (projB l' by')) ∧ Below x.heap.size x w') := fun x hx => specKey_any a' b cap' capb l' s' e' n' by' x (HR.out.2.1.below (grow_on HB.out hx)) (HR.out.2.2.1.below (grow_on HB.out hx)) HR.out.2.2.2.2.1 HR.out.2.2.2.2.2
  go_region_held3 (fun w' => Below z.heap.size z w' ∧ w'.cell? ⟨w.heap.size, 0, none⟩ = some (.slice a l.length cap) ∧ w'.cell? ⟨w.heap.size, 1, none⟩ = some (.int .i64 s) ∧ w'.cell? ⟨w.heap.size, 2, none⟩ = some (.int .i64 e) ∧ w'.cell? ⟨w.heap.size, 3, none⟩ = some (.string n) ∧ w'.cell? ⟨w.heap.size + 1, 0, none⟩ = some (.slice a' l'.length cap') ∧ w'.cell? ⟨w.heap.size + 1, 1, none⟩ = some (.int .i64 s') ∧ w'.cell? ⟨w.heap.size + 1, 2, none⟩ = some (.int .i64 e') ∧ w'.cell? ⟨w.heap.size + 1, 3, none⟩ = some (.string n')) (first | with_reducible exact HS.out _ kz | with_reducible exact HS.out _ hz1 | with_reducible exact HS.out _ hz2 | with_reducible exact HS.out _ hz3 | (go_keep; done)) (first
    | (go_at_call 49; (refine (calls_drew (specSame_any _ _ _ _ (projB l by') (projB l' by') _ ((own_reads ho1).below hy2) (own_reads ho2) HM.out.1 HM.out.2)).mono ?_); rintro r wy3 ⟨rfl, hy3⟩; (have hz3 : Below z.heap.size z wy3 := grow_on hz2 hy3))
    | (go_at_call 35; (with_reducible refine (C2.out _ hz1).mono ?_); rintro r wy2 ⟨⟨M2, c2, rfl, ho2⟩, hy2⟩; (have hz2 : Below z.heap.size z wy2 := grow_on hz1 hy2))
    | (go_at_call 35; (with_reducible refine (C1.out _ kz).mono ?_); rintro r wy1 ⟨⟨M1, c1, rfl, ho1⟩, hy1⟩; (have hz1 : Below z.heap.size z wy1 := grow_on kz hy1)))
  have H3 : Hid (Below w.heap.size w wy3) := grow_on HB.out hz3
  clear hz1 hz2 hz3 hy1 hy2 hy3 ho1 ho2 kz hP hQ
  go_wp2
  go_ret
  exact ⟨rfl, H3.out⟩
end Go.Proofs.YtgncimlojbnbfaaGreat.Tog
namespace Go.Proofs.YtgncimlojbnbfaaGreat.GrpW
open Go.RowKit
open Draw
open Labs LabS Over Blk App DrawL DrawT Alms AlmM DrawA DrawB Rws ChnI ChnC ChnP ChnK DrawC Grp GrpJ Chs
open LabT (Held held_reads Fits)
open Pro (projB RdS)
open StrT (HeldS heldS_reads)
open Tog (togB)

theorem blk_tne {w : World} {a b : Nat} {cs ds : Array Value} {T U : TypeId} (h : Blk w a cs T) (k : Blk w b ds U) (hne : T ≠ U) : a ≠ b := fun e => by
  subst e
  unfold Blk at h k
  rw [h] at k
  injection k with k
  injection k with _ k
  exact hne k
theorem ownA_moved {lo : Nat} {w w' : World} {x : ARow} (h : OwnA lo w x) (hm : Moved w w') : OwnA lo w' x := by
  obtain ⟨h1, h2, ds, hb, h3⟩ := h
  exact ⟨h1, h2, ds, hm.L hb, h3⟩
theorem ownL_moved {lo : Nat} {w w' : World} {K : Nat} {key : List Lab} (h : OwnL lo w K key) (hm : Moved w w') : OwnL lo w' K key := by
  obtain ⟨h1, cs, h2, h3⟩ := h
  exact ⟨h1, cs, hm.L h2, h3⟩
theorem ownL_kept {c lo : Nat} {w w' : World} {K : Nat} {key : List Lab} (h : OwnL lo w K key) (hk : Kept c w w') (hc : c < lo) : OwnL lo w' K key := by
  obtain ⟨h1, cs, h2, h3⟩ := h
  exact ⟨h1, cs, blk_kept h2 hk (by omega), h3⟩
theorem AB.one {lo : Nat} {w : World} {M : Nat} {x : ARow} (h : Blk w M #[.slice (some ⟨x.1, 0, none⟩) x.2.2.l.length x.2.1, .int .i64 x.2.2.s, .int .i64 x.2.2.e, .string x.2.2.n] 27) (hl : lo ≤ M) (hx : OwnA lo w x) : AB lo w M 1 [x] :=
  ⟨hl, ⟨by simp, by unfold maxLen; omega⟩, ⟨_, h, rfl, fun i hi => by
    have e : i = 0 := by simp at hi; exact hi
    subst e
    exact ⟨rfl, rfl, rfl, rfl⟩⟩, fun y hy => by rw [List.mem_singleton.1 hy]; exact hx, List.pairwise_singleton _ _⟩
theorem ab_movedX {lo : Nat} {w w' : World} {M c : Nat} {rs : List ARow} (h : AB lo w M c rs) (hm : Moved w w') : AB lo w' M c rs := by
  obtain ⟨cur, h1, h2⟩ := h.outer
  exact ⟨h.at', h.cap, ⟨cur, hm.A h1, h2⟩, fun x hx => ownA_moved (h.rows x hx) hm, h.ne⟩
theorem OwnL.blk' {lo : Nat} {w : World} {K : Nat} {key : List Lab} (h : OwnL lo w K key) : ∃ cs : Array Value, Blk w K cs 99 := by obtain ⟨_, cs, h, _⟩ := h; exact ⟨cs, h⟩
theorem ne_one {lo : Nat} {w : World} {K M c : Nat} {key : List Lab} {x : ARow} (h : OwnL lo w K key) (k : AB lo w M c [x]) (hx : K ≠ x.1) : ¬ blks M [x] K := fun hb => by
  obtain ⟨cs, h1⟩ := OwnL.blk' h
  obtain ⟨cur, h2, _⟩ := k.outer
  rcases hb with hb | ⟨y, hy, hb⟩
  · exact absurd hb (blk_tne h1 h2 (by decide))
  · rw [List.mem_singleton.1 hy] at hb; exact hx hb.symm
def ByK (w : World) (gb : Nat) (by' : List ByteArray) : Prop := ∃ cs : Array Value, Blk w gb cs 9 ∧ HeldS cs by'
theorem ByK.rd {w : World} {gb : Nat} {by' : List ByteArray} (h : ByK w gb by') : RdS w (some ⟨gb, 0, none⟩) by' := by obtain ⟨cs, h1, h2⟩ := h; exact heldS_reads h1 h2
theorem ByK.keep {c : Nat} {w w' : World} {gb : Nat} {by' : List ByteArray} (h : ByK w gb by') (hk : Kept c w w') (hne : gb ≠ c) : ByK w' gb by' := by obtain ⟨cs, h1, h2⟩ := h; exact ⟨cs, blk_kept h1 hk hne, h2⟩
theorem ByK.set {w : World} {gb N : Nat} {by' : List ByteArray} (h : ByK w gb by') (hne : N ≠ gb) (i : Nat) (v : Value) : ByK (w.setCell ⟨N, i, none⟩ v) gb by' := by obtain ⟨cs, h1, h2⟩ := h; exact ⟨cs, h1.set_other (p := ⟨N, i, none⟩) hne v, h2⟩
theorem moved5 {W : World} {N : Nat} {cs : Array Value} (hN : Blk W N cs 53) (v0 v1 v2 v3 v4 : Value) : Moved W (((((W.setCell ⟨N, 0, none⟩ (v0)).setCell ⟨N, 1, none⟩ (v1)).setCell ⟨N, 2, none⟩ (v2)).setCell ⟨N, 3, none⟩ (v3)).setCell ⟨N, 4, none⟩ (v4)) :=
  ((((Moved.set hN (by decide) (by decide) 0 v0).trans (Moved.set (hN.set 0 v0) (by decide) (by decide) 1 v1)).trans (Moved.set ((hN.set 0 v0).set 1 v1) (by decide) (by decide) 2 v2)).trans (Moved.set (((hN.set 0 v0).set 1 v1).set 2 v2) (by decide) (by decide) 3 v3)).trans (Moved.set ((((hN.set 0 v0).set 1 v1).set 2 v2).set 3 v3) (by decide) (by decide) 4 v4)
theorem blk5 {W : World} {N R : Nat} {cs : Array Value} {T : TypeId} (h : Blk W R cs T) (hne : N ≠ R) (v0 v1 v2 v3 v4 : Value) : Blk (((((W.setCell ⟨N, 0, none⟩ (v0)).setCell ⟨N, 1, none⟩ (v1)).setCell ⟨N, 2, none⟩ (v2)).setCell ⟨N, 3, none⟩ (v3)).setCell ⟨N, 4, none⟩ (v4)) R cs T :=
  ((((h.set_other (p := ⟨N, 0, none⟩) hne v0).set_other (p := ⟨N, 1, none⟩) hne v1).set_other (p := ⟨N, 2, none⟩) hne v2).set_other (p := ⟨N, 3, none⟩) hne v3).set_other (p := ⟨N, 4, none⟩) hne v4
theorem put5 {W : World} {N : Nat} {x0 x1 x2 x3 x4 : Value} {T : TypeId} (h : Blk W N #[x0, x1, x2, x3, x4] T) (v0 v1 v2 v3 v4 : Value) : Blk (((((W.setCell ⟨N, 0, none⟩ (v0)).setCell ⟨N, 1, none⟩ (v1)).setCell ⟨N, 2, none⟩ (v2)).setCell ⟨N, 3, none⟩ (v3)).setCell ⟨N, 4, none⟩ (v4)) N #[v0, v1, v2, v3, v4] T := ((((h.set 0 _).set 1 _).set 2 _).set 3 _).set 4 _
theorem fits_proj {l : List Lab} {by' : List ByteArray} (h : Fits l) : Fits (projB l by') := fun i hi => by
  have hm : nth (projB l by') i ∈ projB l by' := by
    have e : nth (projB l by') i = (projB l by')[i] := by unfold nth; simp [hi]
    rw [e]; exact List.getElem_mem _
  obtain ⟨j, hj, e⟩ := List.getElem_of_mem (List.mem_filter.1 hm).1
  have h2 := h j hj
  have e2 : nth l j = l[j] := by unfold nth; simp [hj]
  rw [← e, ← e2]; exact h2
theorem fines_join {P : List PAl} {a : PAl} (h : Fines P) (ha : Fine a) : Fines (joinG P a) := by
  unfold joinG
  split
  · intro x hx
    rcases List.mem_or_eq_of_mem_set hx with h1 | h1
    · exact h x h1
    · subst h1; exact ha
  · intro x hx
    rcases List.mem_append.1 hx with h1 | h1
    · exact h x (List.mem_of_mem_take h1)
    · rcases List.mem_cons.1 h1 with h1 | h1
      · subst h1; exact ha
      · exact h x (List.mem_of_mem_drop h1)

structure Pre (w : World) (c gb A : Nat) (x : ARow) (by' : List ByteArray) (W : World) : Prop where
  cur : Cur W c
  kept : Kept c w W
  clt : c < w.heap.size
  names : ByK W gb by'
  gbl : gb ≠ c ∧ gb < w.heap.size
  bl : by'.length ≤ maxLen
  hA : w.heap.size < A ∧ A < W.heap.size
  bR : Blk W w.heap.size #[.int .i64 0, .slice none 0 0, .int .i64 0, .int .i64 0, .slice none 0 0] 53
  bA : Blk W A #[.slice (some ⟨x.1, 0, none⟩) x.2.2.l.length x.2.1, .int .i64 x.2.2.s, .int .i64 x.2.2.e, .string x.2.2.n] 27
  xo : OwnA (w.heap.size + 1) W x
  xf : Fine x.2.2
theorem Pre.keep {w : World} {c gb A : Nat} {x : ARow} {by' : List ByteArray} {W W' : World} (h : Pre w c gb A x by' W) (hc : Cur W' c) (hk : Kept c W W') : Pre w c gb A x by' W' := by
  have h0 := h.clt; have h1 := h.hA
  exact ⟨hc, h.kept.trans hk, h0, h.names.keep hk h.gbl.1, h.gbl, h.bl, ⟨h1.1, Nat.lt_of_lt_of_le h1.2 hk.size⟩, blk_kept h.bR hk (by omega), blk_kept h.bA hk (by omega), own_kept h.xo hk (by omega), h.xf⟩
theorem Pre.grow {w : World} {c gb A : Nat} {x : ARow} {by' : List ByteArray} {W W' : World} (h : Pre w c gb A x by' W) (hb : Below W.heap.size W W') : Pre w c gb A x by' W' := h.keep (cur_bel h.cur hb) (kept_bel hb)
theorem Pre.put {w : World} {c gb A : Nat} {x : ARow} {by' : List ByteArray} {W : World} (h : Pre w c gb A x by' W) {N : Nat} {cs : Array Value} (hN : Blk W N cs 53) (hlt : w.heap.size < N) (v0 v1 v2 v3 v4 : Value) : Pre w c gb A x by' (((((W.setCell ⟨N, 0, none⟩ (v0)).setCell ⟨N, 1, none⟩ (v1)).setCell ⟨N, 2, none⟩ (v2)).setCell ⟨N, 3, none⟩ (v3)).setCell ⟨N, 4, none⟩ (v4)) := by
  have h0 := h.clt; have h1 := h.hA; have h2 := h.gbl
  have hm := moved5 hN v0 v1 v2 v3 v4
  exact ⟨cur_set (cur_set (cur_set (cur_set (cur_set h.cur (by omega) _ _) (by omega) _ _) (by omega) _ _) (by omega) _ _) (by omega) _ _, DrawC.kept_set (DrawC.kept_set (DrawC.kept_set (DrawC.kept_set (DrawC.kept_set h.kept (by omega) _ _) (by omega) _ _) (by omega) _ _) (by omega) _ _) (by omega) _ _, h0, ((((h.names.set (by omega) 0 v0).set (by omega) 1 v1).set (by omega) 2 v2).set (by omega) 3 v3).set (by omega) 4 v4, h2, h.bl, by simpa using h1, blk5 h.bR (by omega) _ _ _ _ _, hm.A h.bA, ownA_moved h.xo hm, h.xf⟩
structure GSt (w : World) (c gb A G : Nat) (x : ARow) (by' : List ByteArray) (n b : Int) (key : List Lab) (W : World) (K kc M cap : Nat) (rs : List ARow) : Prop where
  pre : Pre w c gb A x by' W
  bO : Blk W G #[.int .i64 n, .slice (some ⟨K, 0, none⟩) key.length kc, .int .i64 b, .int .i64 (-1), .slice (some ⟨M, 0, none⟩) rs.length cap] 53
  hO : w.heap.size < G
  key : OwnL (w.heap.size + 1) W K key
  row : AB (w.heap.size + 1) W M cap rs
  ne : ¬ blks M rs K
  fine : Fines (pals rs)
theorem GSt.keep {w : World} {c gb A G : Nat} {x : ARow} {by' : List ByteArray} {n b : Int} {key : List Lab} {W W' : World} {K kc M cap : Nat} {rs : List ARow} (h : GSt w c gb A G x by' n b key W K kc M cap rs) (hc : Cur W' c) (hk : Kept c W W') : GSt w c gb A G x by' n b key W' K kc M cap rs := by
  have h0 := h.pre.clt; have h1 := h.hO
  exact ⟨h.pre.keep hc hk, blk_kept h.bO hk (by omega), h1, ownL_kept h.key hk (by omega), ab_kept h.row hk (by omega), h.ne, h.fine⟩
theorem GSt.grow {w : World} {c gb A G : Nat} {x : ARow} {by' : List ByteArray} {n b : Int} {key : List Lab} {W W' : World} {K kc M cap : Nat} {rs : List ARow} (h : GSt w c gb A G x by' n b key W K kc M cap rs) (hb : Below W.heap.size W W') : GSt w c gb A G x by' n b key W' K kc M cap rs := h.keep (cur_bel h.pre.cur hb) (kept_bel hb)
theorem GSt.put {w : World} {c gb A G : Nat} {x : ARow} {by' : List ByteArray} {n b : Int} {key : List Lab} {W : World} {K kc M cap K' kc' M' cap' : Nat} {rs rs' : List ARow} (h : GSt w c gb A G x by' n b key W K kc M cap rs) (hk : OwnL (w.heap.size + 1) W K' key) (hr : AB (w.heap.size + 1) W M' cap' rs') (hne : ¬ blks M' rs' K') (hf : Fines (pals rs')) :
    GSt w c gb A G x by' n b key (((((W.setCell ⟨G, 0, none⟩ (.int .i64 n)).setCell ⟨G, 1, none⟩ (.slice (some ⟨K', 0, none⟩) key.length kc')).setCell ⟨G, 2, none⟩ (.int .i64 b)).setCell ⟨G, 3, none⟩ (.int .i64 (-1))).setCell ⟨G, 4, none⟩ (.slice (some ⟨M', 0, none⟩) rs'.length cap')) K' kc' M' cap' rs' := by
  have hm := moved5 h.bO (.int .i64 n) (.slice (some ⟨K', 0, none⟩) key.length kc') (.int .i64 b) (.int .i64 (-1)) (.slice (some ⟨M', 0, none⟩) rs'.length cap')
  exact ⟨h.pre.put h.bO h.hO _ _ _ _ _, put5 h.bO _ _ _ _ _, h.hO, ownL_moved hk hm, ab_movedX hr hm, hne, hf⟩
structure DG (w : World) (c : Nat) (W : World) (K M cap : Nat) (key : List Lab) (rs : List ARow) : Prop where
  cur : Cur W c
  kept : Kept c w W
  clt : c < w.heap.size
  key : OwnL (w.heap.size + 1) W K key
  row : AB (w.heap.size + 1) W M cap rs
  ne : ¬ blks M rs K
  fine : Fines (pals rs)
theorem GSt.dg {w : World} {c gb A G : Nat} {x : ARow} {by' : List ByteArray} {n b : Int} {key : List Lab} {W : World} {K kc M cap : Nat} {rs : List ARow} (h : GSt w c gb A G x by' n b key W K kc M cap rs) : DG w c W K M cap key rs := ⟨h.pre.cur, h.pre.kept, h.pre.clt, h.key, h.row, h.ne, h.fine⟩
theorem DG.set1 {w : World} {c : Nat} {W : World} {K M cap : Nat} {key : List Lab} {rs : List ARow} (h : DG w c W K M cap key rs) {N : Nat} {cs : Array Value} (hN : Blk W N cs 53) (hlt : w.heap.size ≤ N) (i : Nat) (v : Value) : DG w c (W.setCell ⟨N, i, none⟩ v) K M cap key rs := by
  have h0 := h.clt
  have hm := Moved.set hN (by decide) (by decide) i v
  exact ⟨cur_set h.cur (by omega) _ _, DrawC.kept_set h.kept (by omega) _ _, h0, ownL_moved h.key hm, ab_movedX h.row hm, h.ne, h.fine⟩
theorem DG.set5 {w : World} {c : Nat} {W : World} {K M cap : Nat} {key : List Lab} {rs : List ARow} (h : DG w c W K M cap key rs) {N : Nat} {cs : Array Value} (hN : Blk W N cs 53) (hlt : w.heap.size ≤ N) (v0 v1 v2 v3 v4 : Value) : DG w c (((((W.setCell ⟨N, 0, none⟩ (v0)).setCell ⟨N, 1, none⟩ (v1)).setCell ⟨N, 2, none⟩ (v2)).setCell ⟨N, 3, none⟩ (v3)).setCell ⟨N, 4, none⟩ (v4)) K M cap key rs :=
  ((((h.set1 hN hlt 0 v0).set1 (hN.set 0 v0) hlt 1 v1).set1 ((hN.set 0 v0).set 1 v1) hlt 2 v2).set1 (((hN.set 0 v0).set 1 v1).set 2 v2) hlt 3 v3).set1 ((((hN.set 0 v0).set 1 v1).set 2 v2).set 3 v3) hlt 4 v4
def Nums (n b t : Int) : Prop := (0 ≤ n ∧ n ≤ 4) ∧ (0 ≤ b ∧ b ≤ 4) ∧ -1 ≤ t ∧ t ≤ 12
theorem joinR (n b t : Int) (K kc : Nat) (key : List Lab) (M cap : Nat) (rs : List ARow) (g cp : Nat) (x : PAl) (w : World) (hk : Reads w (some ⟨K, 0, none⟩) key) (hkl : key.length ≤ 1048576) (hr : RdN w (some ⟨M, 0, none⟩) (pals rs)) (hl : rs.length ≤ 1048576) (hs : LenM (pals rs)) (hc : rs.length ≤ cap ∧ cap ≤ maxLen) (hx : Reads w (some ⟨g, 0, none⟩) x.l) (hxl : x.l.length ≤ 1048576) :
    Calls Tryz.prog 36 #[.agg #[.int .i64 n, .slice (some ⟨K, 0, none⟩) key.length kc, .int .i64 b, .int .i64 t, .slice (some ⟨M, 0, none⟩) rs.length cap], .agg #[.slice (some ⟨g, 0, none⟩) x.l.length cp, .int .i64 x.s, .int .i64 x.e, .string x.n]] w fun e w' => (∃ Ke kd M c rs', e = .returned (.agg #[.int .i64 n, .slice (some ⟨Ke, 0, none⟩) key.length kd, .int .i64 b, .int .i64 t, .slice (some ⟨M, 0, none⟩) rs'.length c]) ∧ GB w.heap.size w' Ke key M 0 rs' ∧ AB w.heap.size w' M c rs' ∧ pals rs' = joinG (pals rs) x) ∧ Below w.heap.size w w' := by
  have h := specJoin_any n b t K 0 kc key M 0 cap (pals rs) g 0 cp x w hk hkl hr (by rw [Rws.pals_len]; exact hl) hs (by rw [Rws.pals_len]; exact hc) hx hxl
  rw [Rws.pals_len] at h
  exact h
def KeyF (key : List Lab) : Prop := Fits key ∧ key.length ≤ 8

set_option maxRecDepth 100000 in
set_option maxHeartbeats 6400000 in
theorem l11Draw_any (c gb capb : Nat) (by' : List ByteArray) (w : World) (hc : Cur w c) (hb : ByK w gb by') (hgb : gb ≠ c ∧ gb < w.heap.size) (hbl : by'.length ≤ maxLen) :
    Calls Tryz.prog 89 #[.pointer (some ⟨c, 0, none⟩), .slice (some ⟨gb, 0, none⟩) by'.length capb] w fun r w' => ∃ (n b t : Int) (K kc M cap : Nat) (key : List Lab) (rs : List ARow), r = .returned (.agg #[.int .i64 n, .slice (some ⟨K, 0, none⟩) key.length kc, .int .i64 b, .int .i64 t, .slice (some ⟨M, 0, none⟩) rs.length cap]) ∧ DG w c w' K M cap key rs ∧ Nums n b t ∧ KeyF key ∧ rs.length ≤ 8 := by
  have HC : Hid (Cur w c) := hc
  have HL : Hid (c < w.heap.size) := hc.lt
  have HB : Hid (ByK w gb by' ∧ (gb ≠ c ∧ gb < w.heap.size) ∧ by'.length ≤ maxLen) := ⟨hb, hgb, hbl⟩
  clear hc hb hgb hbl
  go_enter Tryz.func89, Tryz.ntmps89
  go_wp2_with fail
  refine (l4Draw_any c _ (HC.out.alloc _)).mono ?_
  rintro r w1 ⟨g, cp, p, s, e, t, rfl, hst, hp, hs, he, hn⟩
  obtain ⟨x, hx⟩ : ∃ x : ARow, x = (g, cp, ⟨p, s, e, t⟩) := ⟨_, rfl⟩
  have P1 : Hid (∀ o, Pre w c gb w1.heap.size x by' (w1.alloc o) ∨ True) := fun _ => .inr trivial
  have HP : Hid (Pre w c gb w1.heap.size x by' (w1.alloc (.cells #[.slice (some ⟨x.1, 0, none⟩) x.2.2.l.length x.2.1, .int .i64 x.2.2.s, .int .i64 x.2.2.e, .string x.2.2.n] 27))) := by
    have h0 := HL.out
    have hk : Kept c (w.alloc (.cells #[.int .i64 0, .slice none 0 0, .int .i64 0, .int .i64 0, .slice none 0 0] 53)) w1 := hst.kept
    have hk1 : Kept c w w1 := ((Kept.refl c w).alloc _).trans hk
    have hz := hk.size
    simp at hz
    refine ⟨hst.cur.alloc _, hk1.alloc _, h0, (HB.out.1.keep (hk1.alloc _) HB.out.2.1.1), HB.out.2.1, HB.out.2.2, ⟨by omega, by simp⟩, (blk_kept (Blk.new _ _ _) hk (by omega)).alloc _, Blk.new _ _ _, ?_, ?_⟩
    · rw [hx]; exact ((own_lst hst hp).down (by simp)).grow (Go.Joins.below_alloc1 w1 _)
    · rw [hx]; exact fine_of hp hst.fit hs he hn
  clear P1 hst hp hs he hn
  have e1 : p.length = x.2.2.l.length := by rw [hx]
  have e2 : (some (⟨g, 0, none⟩ : Addr)) = some ⟨x.1, 0, none⟩ := by rw [hx]
  obtain ⟨E1, E2, E3, E4, E5, E6⟩ : g = x.1 ∧ cp = x.2.1 ∧ p = x.2.2.l ∧ s = x.2.2.s ∧ e = x.2.2.e ∧ t = x.2.2.n := by rw [hx]; exact ⟨rfl, rfl, rfl, rfl, rfl, rfl⟩
  clear e1 e2
  subst E1 E2 E3 E4 E5 E6
  clear hx
  go_upto_region 2 with fail
  generalize hz : w1.alloc (.cells #[.slice (some ⟨x.1, 0, none⟩) x.2.2.l.length x.2.1, .int .i64 x.2.2.s, .int .i64 x.2.2.e, .string x.2.2.n] 27) = z at HP ⊢
  clear hz
  generalize w1.heap.size = A at HP ⊢
  have HX : Hid (∀ w', Pre w c gb A x by' w' → w'.cell? ⟨A, 0, none⟩ = some (.slice (some ⟨x.1, 0, none⟩) x.2.2.l.length x.2.1) ∧ w'.cell? ⟨A, 1, none⟩ = some (.int .i64 x.2.2.s) ∧ w'.cell? ⟨A, 2, none⟩ = some (.int .i64 x.2.2.e) ∧ w'.cell? ⟨A, 3, none⟩ = some (.string x.2.2.n)) := fun w' h => ⟨h.bA.cell 0, h.bA.cell 1, h.bA.cell 2, h.bA.cell 3⟩
  go_cut [6] from 12 to 22 (fun s6 wx => ∃ (G : Nat) (n b : Int) (K kc M : Nat), s6 = .pointer (some ⟨G, 0, none⟩) ∧ GSt w c gb A G x by' n b (projB x.2.2.l by') wx K kc M 1 [x] ∧ (0 ≤ n ∧ n ≤ 4) ∧ (0 ≤ b ∧ b ≤ 4))
  case first =>
    have HP0 : Hid (Pre w c gb A x by' z.drew) := HP.out.keep (Cur.drewN HP.out.cur 1) (kept_bel (Below.refl _ _).drew)
    refine wp_region_held_drew (S := fun w' => w'.cell? ⟨A, 0, none⟩ = some (.slice (some ⟨x.1, 0, none⟩) x.2.2.l.length x.2.1) ∧ w'.cell? ⟨A, 1, none⟩ = some (.int .i64 x.2.2.s) ∧ w'.cell? ⟨A, 2, none⟩ = some (.int .i64 x.2.2.e) ∧ w'.cell? ⟨A, 3, none⟩ = some (.string x.2.2.n)) (by kernel_rfl) (HX.out _ HP0.out) (fun hHeld => ?_)
    generalize z.drew = z0 at HP0 hHeld ⊢
    refine tk 0 ⟨some 12, .move (.tmp 0), 54, "l11_group.go:73", #[], none⟩ hHeld ?_
    try go_frame
    refine tk 2 ⟨some 14, .load 27 (.tmp 5), 27, "l11_group.go:73", #[], none⟩ hHeld ?_
    try go_frame
    refine tk 3 ⟨some 15, .move (.tmp 1), 28, "l11_group.go:73", #[], none⟩ hHeld ?_
    try go_frame
    refine tk 5 ⟨some 17, .move (.tmp 0), 54, "l11_group.go:73", #[], none⟩ hHeld ?_
    try go_frame
    refine tk 7 ⟨some 19, .load 27 (.tmp 5), 27, "l11_group.go:73", #[], none⟩ hHeld ?_
    try go_frame
    refine wpAnyH_ready (rs := [1, 8, 10]) (by kernel_rfl) (by simp) ?_
    refine AllReadyH.cons (o := ⟨some 13, .call { callee := .value (.func 30), args := #[.tmp 12, .const (.int .i64 5)], argTypes := #[54, 3] }, 3, "l11_group.go:73", #[⟨0, .data⟩], none⟩) rfl (fun Kx hK => ?_) ?_
    ·
      go_simp
      refine (below_any c 5 _ HP0.out.cur (by decide) (by decide)).mono ?_
      rintro r z1 ⟨⟨n, rfl, h0, h1⟩, hc, hk⟩
      have FN : Hid (0 ≤ n ∧ n ≤ 4) := ⟨h0, by omega⟩
      have HP1 : Hid (Pre w c gb A x by' z1) := HP0.out.keep hc hk
      clear h0 h1 hc hk
      try dsimp only
      clear hHeld
      refine hK.out _ _ (HX.out _ HP1.out) (fun hHeld => ?_)
      clear hK Kx
      try go_frame
      refine wpAnyH_ready (rs := [4, 8, 10]) (by kernel_rfl) (by simp) ?_
      refine AllReadyH.cons (o := ⟨some 16, .call { callee := .value (.func 35), args := #[.tmp 14, .tmp 15], argTypes := #[27, 28] }, 25, "l11_group.go:73", #[⟨2, .data⟩, ⟨3, .data⟩, ⟨1, .chain⟩], none⟩) rfl (fun Kx hK => ?_) ?_
      ·
        go_simp
        refine (Pro.specKey_any _ _ _ _ x.2.2.l x.2.2.s x.2.2.e x.2.2.n by' _ HP1.out.xo.reads HP1.out.names.rd (by have := HP1.out.xf.2; omega) HP1.out.bl).mono ?_
        rintro r z2 ⟨⟨K, kc, rfl, hO⟩, hb⟩
        have hk := kept_bel (c := c) hb
        have hc := cur_bel HP1.out.cur hb
        have HK2 : Hid (OwnL (w.heap.size + 1) z2 K (projB x.2.2.l by')) := ⟨Nat.le_trans (by have := HP1.out.hA; omega) hO.1, hO.2⟩
        have NX : Hid (K ≠ x.1) := fun e => by
          obtain ⟨_, _, ds, hx, _⟩ := HP1.out.xo
          have := hx.lt; have := hO.1; omega
        have HP2 : Hid (Pre w c gb A x by' z2) := HP1.out.keep hc hk
        clear hO hb hk hc
        try dsimp only
        clear hHeld
        refine hK.out _ _ (HX.out _ HP2.out) (fun hHeld => ?_)
        clear hK Kx
        try go_frame
        refine wpAnyH_ready (rs := [6, 8, 10]) (by kernel_rfl) (by simp) ?_
        refine AllReadyH.cons (o := ⟨some 18, .call { callee := .value (.func 30), args := #[.tmp 17, .const (.int .i64 5)], argTypes := #[54, 3] }, 3, "l11_group.go:73", #[⟨5, .data⟩, ⟨4, .chain⟩], none⟩) rfl (fun Kx hK => ?_) ?_
        ·
          go_simp
          refine (below_any c 5 _ HP2.out.cur (by decide) (by decide)).mono ?_
          rintro r z3 ⟨⟨b, rfl, h0, h1⟩, hc, hk⟩
          have FB : Hid (0 ≤ b ∧ b ≤ 4) := ⟨h0, by omega⟩
          have HP3 : Hid (Pre w c gb A x by' z3) := HP2.out.keep hc hk
          have HK3 : Hid (OwnL (w.heap.size + 1) z3 K (projB x.2.2.l by')) := ownL_kept HK2.out hk (by have := HL.out; omega)
          clear h0 h1 hc hk
          try dsimp only
          clear hHeld
          refine hK.out _ _ (HX.out _ HP3.out) (fun hHeld => ?_)
          clear hK Kx
          try go_frame
          refine wpAnyH_ready (rs := [8, 10]) (by kernel_rfl) (by simp) ?_
          refine AllReadyH.cons (o := ⟨some 20, .buildSlice 35 1 #[(0, .tmp 19)], 35, "l11_group.go:73", #[⟨7, .data⟩], none⟩) rfl (fun Kx hK => ?_) ?_
          ·
            go_simp
            obtain ⟨z4, hz4⟩ : ∃ v, v = z3.alloc (.cells #[.slice (some ⟨x.1, 0, none⟩) x.2.2.l.length x.2.1, .int .i64 x.2.2.s, .int .i64 x.2.2.e, .string x.2.2.n] 27) := ⟨_, rfl⟩
            rw [← hz4]
            have hk : Kept c z3 z4 := by rw [hz4]; exact kept_bel (Go.Joins.below_alloc1 _ _)
            have hc : Cur z4 c := by rw [hz4]; exact HP3.out.cur.alloc _
            have HP4 : Hid (Pre w c gb A x by' z4) := HP3.out.keep hc hk
            have HK4 : Hid (OwnL (w.heap.size + 1) z4 K (projB x.2.2.l by')) := ownL_kept HK3.out hk (by have := HL.out; omega)
            have HM4 : Hid (AB (w.heap.size + 1) z4 z3.heap.size 1 [x]) := AB.one (by rw [hz4]; exact Blk.new _ _ _) (by have := HP3.out.hA; omega) HP4.out.xo
            have HN4 : Hid (¬ blks z3.heap.size [x] K) := ne_one HK4.out HM4.out NX.out
            clear hz4 hk hc
            clear hHeld
            refine hK.out _ _ (HX.out _ HP4.out) (fun hHeld => ?_)
            clear hK Kx
            try go_frame
            refine wpAnyH_ready (rs := [9, 10]) (by kernel_rfl) (by simp) ?_
            refine AllReadyH.cons (o := ⟨some 21, .build 53 #[(0, .tmp 13), (1, .tmp 16), (2, .tmp 18), (3, .const (.int .i64 (-1))), (4, .tmp 20)], 53, "l11_group.go:73", #[⟨1, .data⟩, ⟨4, .data⟩, ⟨6, .data⟩, ⟨8, .data⟩], none⟩) rfl (fun Kx hK => ?_) ?_
            ·
              go_simp
              clear hHeld
              refine hK.out _ _ (HX.out _ HP4.out) (fun hHeld => ?_)
              clear hK Kx
              try go_frame
              refine rd1 10 ⟨some 6, .alloc 53, 0, "l11_group.go:73", #[], none⟩ (fun Kx hK => ?_)
              go_simp
              obtain ⟨z5, hz5⟩ : ∃ v, v = z4.alloc (.cells #[.int .i64 0, .slice none 0 0, .int .i64 0, .int .i64 0, .slice none 0 0] 53) := ⟨_, rfl⟩
              rw [← hz5]
              have hk : Kept c z4 z5 := by rw [hz5]; exact kept_bel (Go.Joins.below_alloc1 _ _)
              have hc : Cur z5 c := by rw [hz5]; exact HP4.out.cur.alloc _
              have HP5 : Hid (Pre w c gb A x by' z5) := HP4.out.keep hc hk
              have HK5 : Hid (OwnL (w.heap.size + 1) z5 K (projB x.2.2.l by')) := ownL_kept HK4.out hk (by have := HL.out; omega)
              have HM5 : Hid (AB (w.heap.size + 1) z5 z3.heap.size 1 [x]) := ab_kept HM4.out hk (by have := HL.out; omega)
              have HN5 : Hid (¬ blks z3.heap.size [x] K) := HN4.out
              have HO5 : Hid (Blk z5 z4.heap.size #[.int .i64 0, .slice none 0 0, .int .i64 0, .int .i64 0, .slice none 0 0] 53 ∧ w.heap.size < z4.heap.size) := ⟨by rw [hz5]; exact Blk.new _ _ _, by have := HP4.out.hA; omega⟩
              clear hz5 hk hc
              clear hHeld
              refine hK.out _ _ (HX.out _ HP5.out) (fun hHeld => ?_)
              clear hK Kx
              try go_frame
              refine rd1 11 ⟨none, .store 53 (.tmp 6) (.tmp 21), 0, "l11_group.go:73", #[⟨10, .data⟩, ⟨9, .data⟩, ⟨6, .chain⟩, ⟨0, .phase⟩, ⟨1, .phase⟩, ⟨2, .phase⟩, ⟨3, .phase⟩, ⟨4, .phase⟩, ⟨5, .phase⟩, ⟨6, .phase⟩, ⟨7, .phase⟩, ⟨8, .phase⟩, ⟨9, .phase⟩, ⟨10, .phase⟩], none⟩ (fun Kx hK => ?_)
              have n0' : z5.cell? ⟨z4.heap.size, 0, none⟩ = some (.int .i64 0) := HO5.out.1.cell 0
              have m0' := HO5.out.1.frozen 0
              have n1' : z5.cell? ⟨z4.heap.size, 1, none⟩ = some (.slice none 0 0) := HO5.out.1.cell 1
              have m1' := HO5.out.1.frozen 1
              have n2' : z5.cell? ⟨z4.heap.size, 2, none⟩ = some (.int .i64 0) := HO5.out.1.cell 2
              have m2' := HO5.out.1.frozen 2
              have n3' : z5.cell? ⟨z4.heap.size, 3, none⟩ = some (.int .i64 0) := HO5.out.1.cell 3
              have m3' := HO5.out.1.frozen 3
              have n4' : z5.cell? ⟨z4.heap.size, 4, none⟩ = some (.slice none 0 0) := HO5.out.1.cell 4
              have m4' := HO5.out.1.frozen 4
              go_simp
              clear n0' m0' n1' m1' n2' m2' n3' m3' n4' m4' hHeld
              have hz := HP5.out.put HO5.out.1 HO5.out.2 (.int .i64 n) (.slice (some ⟨K, 0, none⟩) (projB x.2.2.l by').length kc) (.int .i64 b) (.int .i64 (-1)) (.slice (some ⟨z3.heap.size, 0, none⟩) [x].length 1)
              refine hK.out _ _ (HX.out _ hz) (fun hHeld => ?_)
              clear hK hz
              try go_frame
              refine wpAnyH_done (by kernel_rfl) ?_ _
              go_wp2_with fail
              go_meet
              exact ⟨_, n, b, K, kc, _, rfl, ⟨HP5.out.put HO5.out.1 HO5.out.2 _ _ _ _ _, put5 HO5.out.1 _ _ _ _ _, HO5.out.2, ownL_moved HK5.out (moved5 HO5.out.1 _ _ _ _ _), ab_movedX HM5.out (moved5 HO5.out.1 _ _ _ _ _), HN5.out, fun y hy => by rw [List.mem_singleton.1 (show y ∈ [x.2.2] from hy)]; exact HP5.out.xf⟩, FN.out, FB.out⟩
            refine AllReadyH.cons (o := ⟨some 6, .alloc 53, 0, "l11_group.go:73", #[], none⟩) rfl (fun Kx hK => ?_) AllReadyH.nil
            go_simp
            obtain ⟨z5, hz5⟩ : ∃ v, v = z4.alloc (.cells #[.int .i64 0, .slice none 0 0, .int .i64 0, .int .i64 0, .slice none 0 0] 53) := ⟨_, rfl⟩
            rw [← hz5]
            have hk : Kept c z4 z5 := by rw [hz5]; exact kept_bel (Go.Joins.below_alloc1 _ _)
            have hc : Cur z5 c := by rw [hz5]; exact HP4.out.cur.alloc _
            have HP5 : Hid (Pre w c gb A x by' z5) := HP4.out.keep hc hk
            have HK5 : Hid (OwnL (w.heap.size + 1) z5 K (projB x.2.2.l by')) := ownL_kept HK4.out hk (by have := HL.out; omega)
            have HM5 : Hid (AB (w.heap.size + 1) z5 z3.heap.size 1 [x]) := ab_kept HM4.out hk (by have := HL.out; omega)
            have HN5 : Hid (¬ blks z3.heap.size [x] K) := HN4.out
            have HO5 : Hid (Blk z5 z4.heap.size #[.int .i64 0, .slice none 0 0, .int .i64 0, .int .i64 0, .slice none 0 0] 53 ∧ w.heap.size < z4.heap.size) := ⟨by rw [hz5]; exact Blk.new _ _ _, by have := HP4.out.hA; omega⟩
            clear hz5 hk hc
            clear hHeld
            refine hK.out _ _ (HX.out _ HP5.out) (fun hHeld => ?_)
            clear hK Kx
            try go_frame
            refine rd1 9 ⟨some 21, .build 53 #[(0, .tmp 13), (1, .tmp 16), (2, .tmp 18), (3, .const (.int .i64 (-1))), (4, .tmp 20)], 53, "l11_group.go:73", #[⟨1, .data⟩, ⟨4, .data⟩, ⟨6, .data⟩, ⟨8, .data⟩], none⟩ (fun Kx hK => ?_)
            go_simp
            clear hHeld
            refine hK.out _ _ (HX.out _ HP5.out) (fun hHeld => ?_)
            clear hK Kx
            try go_frame
            refine rd1 11 ⟨none, .store 53 (.tmp 6) (.tmp 21), 0, "l11_group.go:73", #[⟨10, .data⟩, ⟨9, .data⟩, ⟨6, .chain⟩, ⟨0, .phase⟩, ⟨1, .phase⟩, ⟨2, .phase⟩, ⟨3, .phase⟩, ⟨4, .phase⟩, ⟨5, .phase⟩, ⟨6, .phase⟩, ⟨7, .phase⟩, ⟨8, .phase⟩, ⟨9, .phase⟩, ⟨10, .phase⟩], none⟩ (fun Kx hK => ?_)
            have n0' : z5.cell? ⟨z4.heap.size, 0, none⟩ = some (.int .i64 0) := HO5.out.1.cell 0
            have m0' := HO5.out.1.frozen 0
            have n1' : z5.cell? ⟨z4.heap.size, 1, none⟩ = some (.slice none 0 0) := HO5.out.1.cell 1
            have m1' := HO5.out.1.frozen 1
            have n2' : z5.cell? ⟨z4.heap.size, 2, none⟩ = some (.int .i64 0) := HO5.out.1.cell 2
            have m2' := HO5.out.1.frozen 2
            have n3' : z5.cell? ⟨z4.heap.size, 3, none⟩ = some (.int .i64 0) := HO5.out.1.cell 3
            have m3' := HO5.out.1.frozen 3
            have n4' : z5.cell? ⟨z4.heap.size, 4, none⟩ = some (.slice none 0 0) := HO5.out.1.cell 4
            have m4' := HO5.out.1.frozen 4
            go_simp
            clear n0' m0' n1' m1' n2' m2' n3' m3' n4' m4' hHeld
            have hz := HP5.out.put HO5.out.1 HO5.out.2 (.int .i64 n) (.slice (some ⟨K, 0, none⟩) (projB x.2.2.l by').length kc) (.int .i64 b) (.int .i64 (-1)) (.slice (some ⟨z3.heap.size, 0, none⟩) [x].length 1)
            refine hK.out _ _ (HX.out _ hz) (fun hHeld => ?_)
            clear hK hz
            try go_frame
            refine wpAnyH_done (by kernel_rfl) ?_ _
            go_wp2_with fail
            go_meet
            exact ⟨_, n, b, K, kc, _, rfl, ⟨HP5.out.put HO5.out.1 HO5.out.2 _ _ _ _ _, put5 HO5.out.1 _ _ _ _ _, HO5.out.2, ownL_moved HK5.out (moved5 HO5.out.1 _ _ _ _ _), ab_movedX HM5.out (moved5 HO5.out.1 _ _ _ _ _), HN5.out, fun y hy => by rw [List.mem_singleton.1 (show y ∈ [x.2.2] from hy)]; exact HP5.out.xf⟩, FN.out, FB.out⟩
          refine AllReadyH.cons (o := ⟨some 6, .alloc 53, 0, "l11_group.go:73", #[], none⟩) rfl (fun Kx hK => ?_) AllReadyH.nil
          go_simp
          obtain ⟨z4, hz4⟩ : ∃ v, v = z3.alloc (.cells #[.int .i64 0, .slice none 0 0, .int .i64 0, .int .i64 0, .slice none 0 0] 53) := ⟨_, rfl⟩
          rw [← hz4]
          have hk : Kept c z3 z4 := by rw [hz4]; exact kept_bel (Go.Joins.below_alloc1 _ _)
          have hc : Cur z4 c := by rw [hz4]; exact HP3.out.cur.alloc _
          have HP4 : Hid (Pre w c gb A x by' z4) := HP3.out.keep hc hk
          have HK4 : Hid (OwnL (w.heap.size + 1) z4 K (projB x.2.2.l by')) := ownL_kept HK3.out hk (by have := HL.out; omega)
          have HO4 : Hid (Blk z4 z3.heap.size #[.int .i64 0, .slice none 0 0, .int .i64 0, .int .i64 0, .slice none 0 0] 53 ∧ w.heap.size < z3.heap.size) := ⟨by rw [hz4]; exact Blk.new _ _ _, by have := HP3.out.hA; omega⟩
          clear hz4 hk hc
          clear hHeld
          refine hK.out _ _ (HX.out _ HP4.out) (fun hHeld => ?_)
          clear hK Kx
          try go_frame
          refine rd1 8 ⟨some 20, .buildSlice 35 1 #[(0, .tmp 19)], 35, "l11_group.go:73", #[⟨7, .data⟩], none⟩ (fun Kx hK => ?_)
          go_simp
          obtain ⟨z5, hz5⟩ : ∃ v, v = z4.alloc (.cells #[.slice (some ⟨x.1, 0, none⟩) x.2.2.l.length x.2.1, .int .i64 x.2.2.s, .int .i64 x.2.2.e, .string x.2.2.n] 27) := ⟨_, rfl⟩
          rw [← hz5]
          have hk : Kept c z4 z5 := by rw [hz5]; exact kept_bel (Go.Joins.below_alloc1 _ _)
          have hc : Cur z5 c := by rw [hz5]; exact HP4.out.cur.alloc _
          have HP5 : Hid (Pre w c gb A x by' z5) := HP4.out.keep hc hk
          have HK5 : Hid (OwnL (w.heap.size + 1) z5 K (projB x.2.2.l by')) := ownL_kept HK4.out hk (by have := HL.out; omega)
          have HO5 : Hid (Blk z5 z3.heap.size #[.int .i64 0, .slice none 0 0, .int .i64 0, .int .i64 0, .slice none 0 0] 53 ∧ w.heap.size < z3.heap.size) := ⟨blk_kept HO4.out.1 hk (by have := HL.out; have := HO4.out.2; omega), HO4.out.2⟩
          have HM5 : Hid (AB (w.heap.size + 1) z5 z4.heap.size 1 [x]) := AB.one (by rw [hz5]; exact Blk.new _ _ _) (by have := HP4.out.hA; omega) HP5.out.xo
          have HN5 : Hid (¬ blks z4.heap.size [x] K) := ne_one HK5.out HM5.out NX.out
          clear hz5 hk hc
          clear hHeld
          refine hK.out _ _ (HX.out _ HP5.out) (fun hHeld => ?_)
          clear hK Kx
          try go_frame
          refine rd1 9 ⟨some 21, .build 53 #[(0, .tmp 13), (1, .tmp 16), (2, .tmp 18), (3, .const (.int .i64 (-1))), (4, .tmp 20)], 53, "l11_group.go:73", #[⟨1, .data⟩, ⟨4, .data⟩, ⟨6, .data⟩, ⟨8, .data⟩], none⟩ (fun Kx hK => ?_)
          go_simp
          clear hHeld
          refine hK.out _ _ (HX.out _ HP5.out) (fun hHeld => ?_)
          clear hK Kx
          try go_frame
          refine rd1 11 ⟨none, .store 53 (.tmp 6) (.tmp 21), 0, "l11_group.go:73", #[⟨10, .data⟩, ⟨9, .data⟩, ⟨6, .chain⟩, ⟨0, .phase⟩, ⟨1, .phase⟩, ⟨2, .phase⟩, ⟨3, .phase⟩, ⟨4, .phase⟩, ⟨5, .phase⟩, ⟨6, .phase⟩, ⟨7, .phase⟩, ⟨8, .phase⟩, ⟨9, .phase⟩, ⟨10, .phase⟩], none⟩ (fun Kx hK => ?_)
          have n0' : z5.cell? ⟨z3.heap.size, 0, none⟩ = some (.int .i64 0) := HO5.out.1.cell 0
          have m0' := HO5.out.1.frozen 0
          have n1' : z5.cell? ⟨z3.heap.size, 1, none⟩ = some (.slice none 0 0) := HO5.out.1.cell 1
          have m1' := HO5.out.1.frozen 1
          have n2' : z5.cell? ⟨z3.heap.size, 2, none⟩ = some (.int .i64 0) := HO5.out.1.cell 2
          have m2' := HO5.out.1.frozen 2
          have n3' : z5.cell? ⟨z3.heap.size, 3, none⟩ = some (.int .i64 0) := HO5.out.1.cell 3
          have m3' := HO5.out.1.frozen 3
          have n4' : z5.cell? ⟨z3.heap.size, 4, none⟩ = some (.slice none 0 0) := HO5.out.1.cell 4
          have m4' := HO5.out.1.frozen 4
          go_simp
          clear n0' m0' n1' m1' n2' m2' n3' m3' n4' m4' hHeld
          have hz := HP5.out.put HO5.out.1 HO5.out.2 (.int .i64 n) (.slice (some ⟨K, 0, none⟩) (projB x.2.2.l by').length kc) (.int .i64 b) (.int .i64 (-1)) (.slice (some ⟨z4.heap.size, 0, none⟩) [x].length 1)
          refine hK.out _ _ (HX.out _ hz) (fun hHeld => ?_)
          clear hK hz
          try go_frame
          refine wpAnyH_done (by kernel_rfl) ?_ _
          go_wp2_with fail
          go_meet
          exact ⟨_, n, b, K, kc, _, rfl, ⟨HP5.out.put HO5.out.1 HO5.out.2 _ _ _ _ _, put5 HO5.out.1 _ _ _ _ _, HO5.out.2, ownL_moved HK5.out (moved5 HO5.out.1 _ _ _ _ _), ab_movedX HM5.out (moved5 HO5.out.1 _ _ _ _ _), HN5.out, fun y hy => by rw [List.mem_singleton.1 (show y ∈ [x.2.2] from hy)]; exact HP5.out.xf⟩, FN.out, FB.out⟩
        refine AllReadyH.cons (o := ⟨some 20, .buildSlice 35 1 #[(0, .tmp 19)], 35, "l11_group.go:73", #[⟨7, .data⟩], none⟩) rfl (fun Kx hK => ?_) ?_
        ·
          go_simp
          obtain ⟨z3, hz3⟩ : ∃ v, v = z2.alloc (.cells #[.slice (some ⟨x.1, 0, none⟩) x.2.2.l.length x.2.1, .int .i64 x.2.2.s, .int .i64 x.2.2.e, .string x.2.2.n] 27) := ⟨_, rfl⟩
          rw [← hz3]
          have hk : Kept c z2 z3 := by rw [hz3]; exact kept_bel (Go.Joins.below_alloc1 _ _)
          have hc : Cur z3 c := by rw [hz3]; exact HP2.out.cur.alloc _
          have HP3 : Hid (Pre w c gb A x by' z3) := HP2.out.keep hc hk
          have HK3 : Hid (OwnL (w.heap.size + 1) z3 K (projB x.2.2.l by')) := ownL_kept HK2.out hk (by have := HL.out; omega)
          have HM3 : Hid (AB (w.heap.size + 1) z3 z2.heap.size 1 [x]) := AB.one (by rw [hz3]; exact Blk.new _ _ _) (by have := HP2.out.hA; omega) HP3.out.xo
          have HN3 : Hid (¬ blks z2.heap.size [x] K) := ne_one HK3.out HM3.out NX.out
          clear hz3 hk hc
          clear hHeld
          refine hK.out _ _ (HX.out _ HP3.out) (fun hHeld => ?_)
          clear hK Kx
          try go_frame
          refine wpAnyH_ready (rs := [6, 10]) (by kernel_rfl) (by simp) ?_
          refine AllReadyH.cons (o := ⟨some 18, .call { callee := .value (.func 30), args := #[.tmp 17, .const (.int .i64 5)], argTypes := #[54, 3] }, 3, "l11_group.go:73", #[⟨5, .data⟩, ⟨4, .chain⟩], none⟩) rfl (fun Kx hK => ?_) ?_
          ·
            go_simp
            refine (below_any c 5 _ HP3.out.cur (by decide) (by decide)).mono ?_
            rintro r z4 ⟨⟨b, rfl, h0, h1⟩, hc, hk⟩
            have FB : Hid (0 ≤ b ∧ b ≤ 4) := ⟨h0, by omega⟩
            have HP4 : Hid (Pre w c gb A x by' z4) := HP3.out.keep hc hk
            have HK4 : Hid (OwnL (w.heap.size + 1) z4 K (projB x.2.2.l by')) := ownL_kept HK3.out hk (by have := HL.out; omega)
            have HM4 : Hid (AB (w.heap.size + 1) z4 z2.heap.size 1 [x]) := ab_kept HM3.out hk (by have := HL.out; omega)
            have HN4 : Hid (¬ blks z2.heap.size [x] K) := HN3.out
            clear h0 h1 hc hk
            try dsimp only
            clear hHeld
            refine hK.out _ _ (HX.out _ HP4.out) (fun hHeld => ?_)
            clear hK Kx
            try go_frame
            refine wpAnyH_ready (rs := [9, 10]) (by kernel_rfl) (by simp) ?_
            refine AllReadyH.cons (o := ⟨some 21, .build 53 #[(0, .tmp 13), (1, .tmp 16), (2, .tmp 18), (3, .const (.int .i64 (-1))), (4, .tmp 20)], 53, "l11_group.go:73", #[⟨1, .data⟩, ⟨4, .data⟩, ⟨6, .data⟩, ⟨8, .data⟩], none⟩) rfl (fun Kx hK => ?_) ?_
            ·
              go_simp
              clear hHeld
              refine hK.out _ _ (HX.out _ HP4.out) (fun hHeld => ?_)
              clear hK Kx
              try go_frame
              refine rd1 10 ⟨some 6, .alloc 53, 0, "l11_group.go:73", #[], none⟩ (fun Kx hK => ?_)
              go_simp
              obtain ⟨z5, hz5⟩ : ∃ v, v = z4.alloc (.cells #[.int .i64 0, .slice none 0 0, .int .i64 0, .int .i64 0, .slice none 0 0] 53) := ⟨_, rfl⟩
              rw [← hz5]
              have hk : Kept c z4 z5 := by rw [hz5]; exact kept_bel (Go.Joins.below_alloc1 _ _)
              have hc : Cur z5 c := by rw [hz5]; exact HP4.out.cur.alloc _
              have HP5 : Hid (Pre w c gb A x by' z5) := HP4.out.keep hc hk
              have HK5 : Hid (OwnL (w.heap.size + 1) z5 K (projB x.2.2.l by')) := ownL_kept HK4.out hk (by have := HL.out; omega)
              have HM5 : Hid (AB (w.heap.size + 1) z5 z2.heap.size 1 [x]) := ab_kept HM4.out hk (by have := HL.out; omega)
              have HN5 : Hid (¬ blks z2.heap.size [x] K) := HN4.out
              have HO5 : Hid (Blk z5 z4.heap.size #[.int .i64 0, .slice none 0 0, .int .i64 0, .int .i64 0, .slice none 0 0] 53 ∧ w.heap.size < z4.heap.size) := ⟨by rw [hz5]; exact Blk.new _ _ _, by have := HP4.out.hA; omega⟩
              clear hz5 hk hc
              clear hHeld
              refine hK.out _ _ (HX.out _ HP5.out) (fun hHeld => ?_)
              clear hK Kx
              try go_frame
              refine rd1 11 ⟨none, .store 53 (.tmp 6) (.tmp 21), 0, "l11_group.go:73", #[⟨10, .data⟩, ⟨9, .data⟩, ⟨6, .chain⟩, ⟨0, .phase⟩, ⟨1, .phase⟩, ⟨2, .phase⟩, ⟨3, .phase⟩, ⟨4, .phase⟩, ⟨5, .phase⟩, ⟨6, .phase⟩, ⟨7, .phase⟩, ⟨8, .phase⟩, ⟨9, .phase⟩, ⟨10, .phase⟩], none⟩ (fun Kx hK => ?_)
              have n0' : z5.cell? ⟨z4.heap.size, 0, none⟩ = some (.int .i64 0) := HO5.out.1.cell 0
              have m0' := HO5.out.1.frozen 0
              have n1' : z5.cell? ⟨z4.heap.size, 1, none⟩ = some (.slice none 0 0) := HO5.out.1.cell 1
              have m1' := HO5.out.1.frozen 1
              have n2' : z5.cell? ⟨z4.heap.size, 2, none⟩ = some (.int .i64 0) := HO5.out.1.cell 2
              have m2' := HO5.out.1.frozen 2
              have n3' : z5.cell? ⟨z4.heap.size, 3, none⟩ = some (.int .i64 0) := HO5.out.1.cell 3
              have m3' := HO5.out.1.frozen 3
              have n4' : z5.cell? ⟨z4.heap.size, 4, none⟩ = some (.slice none 0 0) := HO5.out.1.cell 4
              have m4' := HO5.out.1.frozen 4
              go_simp
              clear n0' m0' n1' m1' n2' m2' n3' m3' n4' m4' hHeld
              have hz := HP5.out.put HO5.out.1 HO5.out.2 (.int .i64 n) (.slice (some ⟨K, 0, none⟩) (projB x.2.2.l by').length kc) (.int .i64 b) (.int .i64 (-1)) (.slice (some ⟨z2.heap.size, 0, none⟩) [x].length 1)
              refine hK.out _ _ (HX.out _ hz) (fun hHeld => ?_)
              clear hK hz
              try go_frame
              refine wpAnyH_done (by kernel_rfl) ?_ _
              go_wp2_with fail
              go_meet
              exact ⟨_, n, b, K, kc, _, rfl, ⟨HP5.out.put HO5.out.1 HO5.out.2 _ _ _ _ _, put5 HO5.out.1 _ _ _ _ _, HO5.out.2, ownL_moved HK5.out (moved5 HO5.out.1 _ _ _ _ _), ab_movedX HM5.out (moved5 HO5.out.1 _ _ _ _ _), HN5.out, fun y hy => by rw [List.mem_singleton.1 (show y ∈ [x.2.2] from hy)]; exact HP5.out.xf⟩, FN.out, FB.out⟩
            refine AllReadyH.cons (o := ⟨some 6, .alloc 53, 0, "l11_group.go:73", #[], none⟩) rfl (fun Kx hK => ?_) AllReadyH.nil
            go_simp
            obtain ⟨z5, hz5⟩ : ∃ v, v = z4.alloc (.cells #[.int .i64 0, .slice none 0 0, .int .i64 0, .int .i64 0, .slice none 0 0] 53) := ⟨_, rfl⟩
            rw [← hz5]
            have hk : Kept c z4 z5 := by rw [hz5]; exact kept_bel (Go.Joins.below_alloc1 _ _)
            have hc : Cur z5 c := by rw [hz5]; exact HP4.out.cur.alloc _
            have HP5 : Hid (Pre w c gb A x by' z5) := HP4.out.keep hc hk
            have HK5 : Hid (OwnL (w.heap.size + 1) z5 K (projB x.2.2.l by')) := ownL_kept HK4.out hk (by have := HL.out; omega)
            have HM5 : Hid (AB (w.heap.size + 1) z5 z2.heap.size 1 [x]) := ab_kept HM4.out hk (by have := HL.out; omega)
            have HN5 : Hid (¬ blks z2.heap.size [x] K) := HN4.out
            have HO5 : Hid (Blk z5 z4.heap.size #[.int .i64 0, .slice none 0 0, .int .i64 0, .int .i64 0, .slice none 0 0] 53 ∧ w.heap.size < z4.heap.size) := ⟨by rw [hz5]; exact Blk.new _ _ _, by have := HP4.out.hA; omega⟩
            clear hz5 hk hc
            clear hHeld
            refine hK.out _ _ (HX.out _ HP5.out) (fun hHeld => ?_)
            clear hK Kx
            try go_frame
            refine rd1 9 ⟨some 21, .build 53 #[(0, .tmp 13), (1, .tmp 16), (2, .tmp 18), (3, .const (.int .i64 (-1))), (4, .tmp 20)], 53, "l11_group.go:73", #[⟨1, .data⟩, ⟨4, .data⟩, ⟨6, .data⟩, ⟨8, .data⟩], none⟩ (fun Kx hK => ?_)
            go_simp
            clear hHeld
            refine hK.out _ _ (HX.out _ HP5.out) (fun hHeld => ?_)
            clear hK Kx
            try go_frame
            refine rd1 11 ⟨none, .store 53 (.tmp 6) (.tmp 21), 0, "l11_group.go:73", #[⟨10, .data⟩, ⟨9, .data⟩, ⟨6, .chain⟩, ⟨0, .phase⟩, ⟨1, .phase⟩, ⟨2, .phase⟩, ⟨3, .phase⟩, ⟨4, .phase⟩, ⟨5, .phase⟩, ⟨6, .phase⟩, ⟨7, .phase⟩, ⟨8, .phase⟩, ⟨9, .phase⟩, ⟨10, .phase⟩], none⟩ (fun Kx hK => ?_)
            have n0' : z5.cell? ⟨z4.heap.size, 0, none⟩ = some (.int .i64 0) := HO5.out.1.cell 0
            have m0' := HO5.out.1.frozen 0
            have n1' : z5.cell? ⟨z4.heap.size, 1, none⟩ = some (.slice none 0 0) := HO5.out.1.cell 1
            have m1' := HO5.out.1.frozen 1
            have n2' : z5.cell? ⟨z4.heap.size, 2, none⟩ = some (.int .i64 0) := HO5.out.1.cell 2
            have m2' := HO5.out.1.frozen 2
            have n3' : z5.cell? ⟨z4.heap.size, 3, none⟩ = some (.int .i64 0) := HO5.out.1.cell 3
            have m3' := HO5.out.1.frozen 3
            have n4' : z5.cell? ⟨z4.heap.size, 4, none⟩ = some (.slice none 0 0) := HO5.out.1.cell 4
            have m4' := HO5.out.1.frozen 4
            go_simp
            clear n0' m0' n1' m1' n2' m2' n3' m3' n4' m4' hHeld
            have hz := HP5.out.put HO5.out.1 HO5.out.2 (.int .i64 n) (.slice (some ⟨K, 0, none⟩) (projB x.2.2.l by').length kc) (.int .i64 b) (.int .i64 (-1)) (.slice (some ⟨z2.heap.size, 0, none⟩) [x].length 1)
            refine hK.out _ _ (HX.out _ hz) (fun hHeld => ?_)
            clear hK hz
            try go_frame
            refine wpAnyH_done (by kernel_rfl) ?_ _
            go_wp2_with fail
            go_meet
            exact ⟨_, n, b, K, kc, _, rfl, ⟨HP5.out.put HO5.out.1 HO5.out.2 _ _ _ _ _, put5 HO5.out.1 _ _ _ _ _, HO5.out.2, ownL_moved HK5.out (moved5 HO5.out.1 _ _ _ _ _), ab_movedX HM5.out (moved5 HO5.out.1 _ _ _ _ _), HN5.out, fun y hy => by rw [List.mem_singleton.1 (show y ∈ [x.2.2] from hy)]; exact HP5.out.xf⟩, FN.out, FB.out⟩
          refine AllReadyH.cons (o := ⟨some 6, .alloc 53, 0, "l11_group.go:73", #[], none⟩) rfl (fun Kx hK => ?_) AllReadyH.nil
          go_simp
          obtain ⟨z4, hz4⟩ : ∃ v, v = z3.alloc (.cells #[.int .i64 0, .slice none 0 0, .int .i64 0, .int .i64 0, .slice none 0 0] 53) := ⟨_, rfl⟩
          rw [← hz4]
          have hk : Kept c z3 z4 := by rw [hz4]; exact kept_bel (Go.Joins.below_alloc1 _ _)
          have hc : Cur z4 c := by rw [hz4]; exact HP3.out.cur.alloc _
          have HP4 : Hid (Pre w c gb A x by' z4) := HP3.out.keep hc hk
          have HK4 : Hid (OwnL (w.heap.size + 1) z4 K (projB x.2.2.l by')) := ownL_kept HK3.out hk (by have := HL.out; omega)
          have HM4 : Hid (AB (w.heap.size + 1) z4 z2.heap.size 1 [x]) := ab_kept HM3.out hk (by have := HL.out; omega)
          have HN4 : Hid (¬ blks z2.heap.size [x] K) := HN3.out
          have HO4 : Hid (Blk z4 z3.heap.size #[.int .i64 0, .slice none 0 0, .int .i64 0, .int .i64 0, .slice none 0 0] 53 ∧ w.heap.size < z3.heap.size) := ⟨by rw [hz4]; exact Blk.new _ _ _, by have := HP3.out.hA; omega⟩
          clear hz4 hk hc
          clear hHeld
          refine hK.out _ _ (HX.out _ HP4.out) (fun hHeld => ?_)
          clear hK Kx
          try go_frame
          refine rd1 6 ⟨some 18, .call { callee := .value (.func 30), args := #[.tmp 17, .const (.int .i64 5)], argTypes := #[54, 3] }, 3, "l11_group.go:73", #[⟨5, .data⟩, ⟨4, .chain⟩], none⟩ (fun Kx hK => ?_)
          go_simp
          refine (below_any c 5 _ HP4.out.cur (by decide) (by decide)).mono ?_
          rintro r z5 ⟨⟨b, rfl, h0, h1⟩, hc, hk⟩
          have FB : Hid (0 ≤ b ∧ b ≤ 4) := ⟨h0, by omega⟩
          have HP5 : Hid (Pre w c gb A x by' z5) := HP4.out.keep hc hk
          have HK5 : Hid (OwnL (w.heap.size + 1) z5 K (projB x.2.2.l by')) := ownL_kept HK4.out hk (by have := HL.out; omega)
          have HM5 : Hid (AB (w.heap.size + 1) z5 z2.heap.size 1 [x]) := ab_kept HM4.out hk (by have := HL.out; omega)
          have HO5 : Hid (Blk z5 z3.heap.size #[.int .i64 0, .slice none 0 0, .int .i64 0, .int .i64 0, .slice none 0 0] 53 ∧ w.heap.size < z3.heap.size) := ⟨blk_kept HO4.out.1 hk (by have := HL.out; have := HO4.out.2; omega), HO4.out.2⟩
          have HN5 : Hid (¬ blks z2.heap.size [x] K) := HN4.out
          clear h0 h1 hc hk
          try dsimp only
          clear hHeld
          refine hK.out _ _ (HX.out _ HP5.out) (fun hHeld => ?_)
          clear hK Kx
          try go_frame
          refine rd1 9 ⟨some 21, .build 53 #[(0, .tmp 13), (1, .tmp 16), (2, .tmp 18), (3, .const (.int .i64 (-1))), (4, .tmp 20)], 53, "l11_group.go:73", #[⟨1, .data⟩, ⟨4, .data⟩, ⟨6, .data⟩, ⟨8, .data⟩], none⟩ (fun Kx hK => ?_)
          go_simp
          clear hHeld
          refine hK.out _ _ (HX.out _ HP5.out) (fun hHeld => ?_)
          clear hK Kx
          try go_frame
          refine rd1 11 ⟨none, .store 53 (.tmp 6) (.tmp 21), 0, "l11_group.go:73", #[⟨10, .data⟩, ⟨9, .data⟩, ⟨6, .chain⟩, ⟨0, .phase⟩, ⟨1, .phase⟩, ⟨2, .phase⟩, ⟨3, .phase⟩, ⟨4, .phase⟩, ⟨5, .phase⟩, ⟨6, .phase⟩, ⟨7, .phase⟩, ⟨8, .phase⟩, ⟨9, .phase⟩, ⟨10, .phase⟩], none⟩ (fun Kx hK => ?_)
          have n0' : z5.cell? ⟨z3.heap.size, 0, none⟩ = some (.int .i64 0) := HO5.out.1.cell 0
          have m0' := HO5.out.1.frozen 0
          have n1' : z5.cell? ⟨z3.heap.size, 1, none⟩ = some (.slice none 0 0) := HO5.out.1.cell 1
          have m1' := HO5.out.1.frozen 1
          have n2' : z5.cell? ⟨z3.heap.size, 2, none⟩ = some (.int .i64 0) := HO5.out.1.cell 2
          have m2' := HO5.out.1.frozen 2
          have n3' : z5.cell? ⟨z3.heap.size, 3, none⟩ = some (.int .i64 0) := HO5.out.1.cell 3
          have m3' := HO5.out.1.frozen 3
          have n4' : z5.cell? ⟨z3.heap.size, 4, none⟩ = some (.slice none 0 0) := HO5.out.1.cell 4
          have m4' := HO5.out.1.frozen 4
          go_simp
          clear n0' m0' n1' m1' n2' m2' n3' m3' n4' m4' hHeld
          have hz := HP5.out.put HO5.out.1 HO5.out.2 (.int .i64 n) (.slice (some ⟨K, 0, none⟩) (projB x.2.2.l by').length kc) (.int .i64 b) (.int .i64 (-1)) (.slice (some ⟨z2.heap.size, 0, none⟩) [x].length 1)
          refine hK.out _ _ (HX.out _ hz) (fun hHeld => ?_)
          clear hK hz
          try go_frame
          refine wpAnyH_done (by kernel_rfl) ?_ _
          go_wp2_with fail
          go_meet
          exact ⟨_, n, b, K, kc, _, rfl, ⟨HP5.out.put HO5.out.1 HO5.out.2 _ _ _ _ _, put5 HO5.out.1 _ _ _ _ _, HO5.out.2, ownL_moved HK5.out (moved5 HO5.out.1 _ _ _ _ _), ab_movedX HM5.out (moved5 HO5.out.1 _ _ _ _ _), HN5.out, fun y hy => by rw [List.mem_singleton.1 (show y ∈ [x.2.2] from hy)]; exact HP5.out.xf⟩, FN.out, FB.out⟩
        refine AllReadyH.cons (o := ⟨some 6, .alloc 53, 0, "l11_group.go:73", #[], none⟩) rfl (fun Kx hK => ?_) AllReadyH.nil
        go_simp
        obtain ⟨z3, hz3⟩ : ∃ v, v = z2.alloc (.cells #[.int .i64 0, .slice none 0 0, .int .i64 0, .int .i64 0, .slice none 0 0] 53) := ⟨_, rfl⟩
        rw [← hz3]
        have hk : Kept c z2 z3 := by rw [hz3]; exact kept_bel (Go.Joins.below_alloc1 _ _)
        have hc : Cur z3 c := by rw [hz3]; exact HP2.out.cur.alloc _
        have HP3 : Hid (Pre w c gb A x by' z3) := HP2.out.keep hc hk
        have HK3 : Hid (OwnL (w.heap.size + 1) z3 K (projB x.2.2.l by')) := ownL_kept HK2.out hk (by have := HL.out; omega)
        have HO3 : Hid (Blk z3 z2.heap.size #[.int .i64 0, .slice none 0 0, .int .i64 0, .int .i64 0, .slice none 0 0] 53 ∧ w.heap.size < z2.heap.size) := ⟨by rw [hz3]; exact Blk.new _ _ _, by have := HP2.out.hA; omega⟩
        clear hz3 hk hc
        clear hHeld
        refine hK.out _ _ (HX.out _ HP3.out) (fun hHeld => ?_)
        clear hK Kx
        try go_frame
        refine wpAnyH_ready (rs := [6, 8]) (by kernel_rfl) (by simp) ?_
        refine AllReadyH.cons (o := ⟨some 18, .call { callee := .value (.func 30), args := #[.tmp 17, .const (.int .i64 5)], argTypes := #[54, 3] }, 3, "l11_group.go:73", #[⟨5, .data⟩, ⟨4, .chain⟩], none⟩) rfl (fun Kx hK => ?_) ?_
        ·
          go_simp
          refine (below_any c 5 _ HP3.out.cur (by decide) (by decide)).mono ?_
          rintro r z4 ⟨⟨b, rfl, h0, h1⟩, hc, hk⟩
          have FB : Hid (0 ≤ b ∧ b ≤ 4) := ⟨h0, by omega⟩
          have HP4 : Hid (Pre w c gb A x by' z4) := HP3.out.keep hc hk
          have HK4 : Hid (OwnL (w.heap.size + 1) z4 K (projB x.2.2.l by')) := ownL_kept HK3.out hk (by have := HL.out; omega)
          have HO4 : Hid (Blk z4 z2.heap.size #[.int .i64 0, .slice none 0 0, .int .i64 0, .int .i64 0, .slice none 0 0] 53 ∧ w.heap.size < z2.heap.size) := ⟨blk_kept HO3.out.1 hk (by have := HL.out; have := HO3.out.2; omega), HO3.out.2⟩
          clear h0 h1 hc hk
          try dsimp only
          clear hHeld
          refine hK.out _ _ (HX.out _ HP4.out) (fun hHeld => ?_)
          clear hK Kx
          try go_frame
          refine rd1 8 ⟨some 20, .buildSlice 35 1 #[(0, .tmp 19)], 35, "l11_group.go:73", #[⟨7, .data⟩], none⟩ (fun Kx hK => ?_)
          go_simp
          obtain ⟨z5, hz5⟩ : ∃ v, v = z4.alloc (.cells #[.slice (some ⟨x.1, 0, none⟩) x.2.2.l.length x.2.1, .int .i64 x.2.2.s, .int .i64 x.2.2.e, .string x.2.2.n] 27) := ⟨_, rfl⟩
          rw [← hz5]
          have hk : Kept c z4 z5 := by rw [hz5]; exact kept_bel (Go.Joins.below_alloc1 _ _)
          have hc : Cur z5 c := by rw [hz5]; exact HP4.out.cur.alloc _
          have HP5 : Hid (Pre w c gb A x by' z5) := HP4.out.keep hc hk
          have HK5 : Hid (OwnL (w.heap.size + 1) z5 K (projB x.2.2.l by')) := ownL_kept HK4.out hk (by have := HL.out; omega)
          have HO5 : Hid (Blk z5 z2.heap.size #[.int .i64 0, .slice none 0 0, .int .i64 0, .int .i64 0, .slice none 0 0] 53 ∧ w.heap.size < z2.heap.size) := ⟨blk_kept HO4.out.1 hk (by have := HL.out; have := HO4.out.2; omega), HO4.out.2⟩
          have HM5 : Hid (AB (w.heap.size + 1) z5 z4.heap.size 1 [x]) := AB.one (by rw [hz5]; exact Blk.new _ _ _) (by have := HP4.out.hA; omega) HP5.out.xo
          have HN5 : Hid (¬ blks z4.heap.size [x] K) := ne_one HK5.out HM5.out NX.out
          clear hz5 hk hc
          clear hHeld
          refine hK.out _ _ (HX.out _ HP5.out) (fun hHeld => ?_)
          clear hK Kx
          try go_frame
          refine rd1 9 ⟨some 21, .build 53 #[(0, .tmp 13), (1, .tmp 16), (2, .tmp 18), (3, .const (.int .i64 (-1))), (4, .tmp 20)], 53, "l11_group.go:73", #[⟨1, .data⟩, ⟨4, .data⟩, ⟨6, .data⟩, ⟨8, .data⟩], none⟩ (fun Kx hK => ?_)
          go_simp
          clear hHeld
          refine hK.out _ _ (HX.out _ HP5.out) (fun hHeld => ?_)
          clear hK Kx
          try go_frame
          refine rd1 11 ⟨none, .store 53 (.tmp 6) (.tmp 21), 0, "l11_group.go:73", #[⟨10, .data⟩, ⟨9, .data⟩, ⟨6, .chain⟩, ⟨0, .phase⟩, ⟨1, .phase⟩, ⟨2, .phase⟩, ⟨3, .phase⟩, ⟨4, .phase⟩, ⟨5, .phase⟩, ⟨6, .phase⟩, ⟨7, .phase⟩, ⟨8, .phase⟩, ⟨9, .phase⟩, ⟨10, .phase⟩], none⟩ (fun Kx hK => ?_)
          have n0' : z5.cell? ⟨z2.heap.size, 0, none⟩ = some (.int .i64 0) := HO5.out.1.cell 0
          have m0' := HO5.out.1.frozen 0
          have n1' : z5.cell? ⟨z2.heap.size, 1, none⟩ = some (.slice none 0 0) := HO5.out.1.cell 1
          have m1' := HO5.out.1.frozen 1
          have n2' : z5.cell? ⟨z2.heap.size, 2, none⟩ = some (.int .i64 0) := HO5.out.1.cell 2
          have m2' := HO5.out.1.frozen 2
          have n3' : z5.cell? ⟨z2.heap.size, 3, none⟩ = some (.int .i64 0) := HO5.out.1.cell 3
          have m3' := HO5.out.1.frozen 3
          have n4' : z5.cell? ⟨z2.heap.size, 4, none⟩ = some (.slice none 0 0) := HO5.out.1.cell 4
          have m4' := HO5.out.1.frozen 4
          go_simp
          clear n0' m0' n1' m1' n2' m2' n3' m3' n4' m4' hHeld
          have hz := HP5.out.put HO5.out.1 HO5.out.2 (.int .i64 n) (.slice (some ⟨K, 0, none⟩) (projB x.2.2.l by').length kc) (.int .i64 b) (.int .i64 (-1)) (.slice (some ⟨z4.heap.size, 0, none⟩) [x].length 1)
          refine hK.out _ _ (HX.out _ hz) (fun hHeld => ?_)
          clear hK hz
          try go_frame
          refine wpAnyH_done (by kernel_rfl) ?_ _
          go_wp2_with fail
          go_meet
          exact ⟨_, n, b, K, kc, _, rfl, ⟨HP5.out.put HO5.out.1 HO5.out.2 _ _ _ _ _, put5 HO5.out.1 _ _ _ _ _, HO5.out.2, ownL_moved HK5.out (moved5 HO5.out.1 _ _ _ _ _), ab_movedX HM5.out (moved5 HO5.out.1 _ _ _ _ _), HN5.out, fun y hy => by rw [List.mem_singleton.1 (show y ∈ [x.2.2] from hy)]; exact HP5.out.xf⟩, FN.out, FB.out⟩
        refine AllReadyH.cons (o := ⟨some 20, .buildSlice 35 1 #[(0, .tmp 19)], 35, "l11_group.go:73", #[⟨7, .data⟩], none⟩) rfl (fun Kx hK => ?_) AllReadyH.nil
        go_simp
        obtain ⟨z4, hz4⟩ : ∃ v, v = z3.alloc (.cells #[.slice (some ⟨x.1, 0, none⟩) x.2.2.l.length x.2.1, .int .i64 x.2.2.s, .int .i64 x.2.2.e, .string x.2.2.n] 27) := ⟨_, rfl⟩
        rw [← hz4]
        have hk : Kept c z3 z4 := by rw [hz4]; exact kept_bel (Go.Joins.below_alloc1 _ _)
        have hc : Cur z4 c := by rw [hz4]; exact HP3.out.cur.alloc _
        have HP4 : Hid (Pre w c gb A x by' z4) := HP3.out.keep hc hk
        have HK4 : Hid (OwnL (w.heap.size + 1) z4 K (projB x.2.2.l by')) := ownL_kept HK3.out hk (by have := HL.out; omega)
        have HO4 : Hid (Blk z4 z2.heap.size #[.int .i64 0, .slice none 0 0, .int .i64 0, .int .i64 0, .slice none 0 0] 53 ∧ w.heap.size < z2.heap.size) := ⟨blk_kept HO3.out.1 hk (by have := HL.out; have := HO3.out.2; omega), HO3.out.2⟩
        have HM4 : Hid (AB (w.heap.size + 1) z4 z3.heap.size 1 [x]) := AB.one (by rw [hz4]; exact Blk.new _ _ _) (by have := HP3.out.hA; omega) HP4.out.xo
        have HN4 : Hid (¬ blks z3.heap.size [x] K) := ne_one HK4.out HM4.out NX.out
        clear hz4 hk hc
        clear hHeld
        refine hK.out _ _ (HX.out _ HP4.out) (fun hHeld => ?_)
        clear hK Kx
        try go_frame
        refine rd1 6 ⟨some 18, .call { callee := .value (.func 30), args := #[.tmp 17, .const (.int .i64 5)], argTypes := #[54, 3] }, 3, "l11_group.go:73", #[⟨5, .data⟩, ⟨4, .chain⟩], none⟩ (fun Kx hK => ?_)
        go_simp
        refine (below_any c 5 _ HP4.out.cur (by decide) (by decide)).mono ?_
        rintro r z5 ⟨⟨b, rfl, h0, h1⟩, hc, hk⟩
        have FB : Hid (0 ≤ b ∧ b ≤ 4) := ⟨h0, by omega⟩
        have HP5 : Hid (Pre w c gb A x by' z5) := HP4.out.keep hc hk
        have HK5 : Hid (OwnL (w.heap.size + 1) z5 K (projB x.2.2.l by')) := ownL_kept HK4.out hk (by have := HL.out; omega)
        have HM5 : Hid (AB (w.heap.size + 1) z5 z3.heap.size 1 [x]) := ab_kept HM4.out hk (by have := HL.out; omega)
        have HO5 : Hid (Blk z5 z2.heap.size #[.int .i64 0, .slice none 0 0, .int .i64 0, .int .i64 0, .slice none 0 0] 53 ∧ w.heap.size < z2.heap.size) := ⟨blk_kept HO4.out.1 hk (by have := HL.out; have := HO4.out.2; omega), HO4.out.2⟩
        have HN5 : Hid (¬ blks z3.heap.size [x] K) := HN4.out
        clear h0 h1 hc hk
        try dsimp only
        clear hHeld
        refine hK.out _ _ (HX.out _ HP5.out) (fun hHeld => ?_)
        clear hK Kx
        try go_frame
        refine rd1 9 ⟨some 21, .build 53 #[(0, .tmp 13), (1, .tmp 16), (2, .tmp 18), (3, .const (.int .i64 (-1))), (4, .tmp 20)], 53, "l11_group.go:73", #[⟨1, .data⟩, ⟨4, .data⟩, ⟨6, .data⟩, ⟨8, .data⟩], none⟩ (fun Kx hK => ?_)
        go_simp
        clear hHeld
        refine hK.out _ _ (HX.out _ HP5.out) (fun hHeld => ?_)
        clear hK Kx
        try go_frame
        refine rd1 11 ⟨none, .store 53 (.tmp 6) (.tmp 21), 0, "l11_group.go:73", #[⟨10, .data⟩, ⟨9, .data⟩, ⟨6, .chain⟩, ⟨0, .phase⟩, ⟨1, .phase⟩, ⟨2, .phase⟩, ⟨3, .phase⟩, ⟨4, .phase⟩, ⟨5, .phase⟩, ⟨6, .phase⟩, ⟨7, .phase⟩, ⟨8, .phase⟩, ⟨9, .phase⟩, ⟨10, .phase⟩], none⟩ (fun Kx hK => ?_)
        have n0' : z5.cell? ⟨z2.heap.size, 0, none⟩ = some (.int .i64 0) := HO5.out.1.cell 0
        have m0' := HO5.out.1.frozen 0
        have n1' : z5.cell? ⟨z2.heap.size, 1, none⟩ = some (.slice none 0 0) := HO5.out.1.cell 1
        have m1' := HO5.out.1.frozen 1
        have n2' : z5.cell? ⟨z2.heap.size, 2, none⟩ = some (.int .i64 0) := HO5.out.1.cell 2
        have m2' := HO5.out.1.frozen 2
        have n3' : z5.cell? ⟨z2.heap.size, 3, none⟩ = some (.int .i64 0) := HO5.out.1.cell 3
        have m3' := HO5.out.1.frozen 3
        have n4' : z5.cell? ⟨z2.heap.size, 4, none⟩ = some (.slice none 0 0) := HO5.out.1.cell 4
        have m4' := HO5.out.1.frozen 4
        go_simp
        clear n0' m0' n1' m1' n2' m2' n3' m3' n4' m4' hHeld
        have hz := HP5.out.put HO5.out.1 HO5.out.2 (.int .i64 n) (.slice (some ⟨K, 0, none⟩) (projB x.2.2.l by').length kc) (.int .i64 b) (.int .i64 (-1)) (.slice (some ⟨z3.heap.size, 0, none⟩) [x].length 1)
        refine hK.out _ _ (HX.out _ hz) (fun hHeld => ?_)
        clear hK hz
        try go_frame
        refine wpAnyH_done (by kernel_rfl) ?_ _
        go_wp2_with fail
        go_meet
        exact ⟨_, n, b, K, kc, _, rfl, ⟨HP5.out.put HO5.out.1 HO5.out.2 _ _ _ _ _, put5 HO5.out.1 _ _ _ _ _, HO5.out.2, ownL_moved HK5.out (moved5 HO5.out.1 _ _ _ _ _), ab_movedX HM5.out (moved5 HO5.out.1 _ _ _ _ _), HN5.out, fun y hy => by rw [List.mem_singleton.1 (show y ∈ [x.2.2] from hy)]; exact HP5.out.xf⟩, FN.out, FB.out⟩
      refine AllReadyH.cons (o := ⟨some 20, .buildSlice 35 1 #[(0, .tmp 19)], 35, "l11_group.go:73", #[⟨7, .data⟩], none⟩) rfl (fun Kx hK => ?_) ?_
      ·
        go_simp
        obtain ⟨z2, hz2⟩ : ∃ v, v = z1.alloc (.cells #[.slice (some ⟨x.1, 0, none⟩) x.2.2.l.length x.2.1, .int .i64 x.2.2.s, .int .i64 x.2.2.e, .string x.2.2.n] 27) := ⟨_, rfl⟩
        rw [← hz2]
        have hk : Kept c z1 z2 := by rw [hz2]; exact kept_bel (Go.Joins.below_alloc1 _ _)
        have hc : Cur z2 c := by rw [hz2]; exact HP1.out.cur.alloc _
        have HP2 : Hid (Pre w c gb A x by' z2) := HP1.out.keep hc hk
        have HM2 : Hid (AB (w.heap.size + 1) z2 z1.heap.size 1 [x]) := AB.one (by rw [hz2]; exact Blk.new _ _ _) (by have := HP1.out.hA; omega) HP2.out.xo
        clear hz2 hk hc
        clear hHeld
        refine hK.out _ _ (HX.out _ HP2.out) (fun hHeld => ?_)
        clear hK Kx
        try go_frame
        refine wpAnyH_ready (rs := [4, 10]) (by kernel_rfl) (by simp) ?_
        refine AllReadyH.cons (o := ⟨some 16, .call { callee := .value (.func 35), args := #[.tmp 14, .tmp 15], argTypes := #[27, 28] }, 25, "l11_group.go:73", #[⟨2, .data⟩, ⟨3, .data⟩, ⟨1, .chain⟩], none⟩) rfl (fun Kx hK => ?_) ?_
        ·
          go_simp
          refine (Pro.specKey_any _ _ _ _ x.2.2.l x.2.2.s x.2.2.e x.2.2.n by' _ HP2.out.xo.reads HP2.out.names.rd (by have := HP2.out.xf.2; omega) HP2.out.bl).mono ?_
          rintro r z3 ⟨⟨K, kc, rfl, hO⟩, hb⟩
          have hk := kept_bel (c := c) hb
          have hc := cur_bel HP2.out.cur hb
          have HK3 : Hid (OwnL (w.heap.size + 1) z3 K (projB x.2.2.l by')) := ⟨Nat.le_trans (by have := HP2.out.hA; omega) hO.1, hO.2⟩
          have NX : Hid (K ≠ x.1) := fun e => by
            obtain ⟨_, _, ds, hx, _⟩ := HP2.out.xo
            have := hx.lt; have := hO.1; omega
          have HP3 : Hid (Pre w c gb A x by' z3) := HP2.out.keep hc hk
          have HM3 : Hid (AB (w.heap.size + 1) z3 z1.heap.size 1 [x]) := ab_kept HM2.out hk (by have := HL.out; omega)
          have HN3 : Hid (¬ blks z1.heap.size [x] K) := ne_one HK3.out HM3.out NX.out
          clear hO hb hk hc
          try dsimp only
          clear hHeld
          refine hK.out _ _ (HX.out _ HP3.out) (fun hHeld => ?_)
          clear hK Kx
          try go_frame
          refine wpAnyH_ready (rs := [6, 10]) (by kernel_rfl) (by simp) ?_
          refine AllReadyH.cons (o := ⟨some 18, .call { callee := .value (.func 30), args := #[.tmp 17, .const (.int .i64 5)], argTypes := #[54, 3] }, 3, "l11_group.go:73", #[⟨5, .data⟩, ⟨4, .chain⟩], none⟩) rfl (fun Kx hK => ?_) ?_
          ·
            go_simp
            refine (below_any c 5 _ HP3.out.cur (by decide) (by decide)).mono ?_
            rintro r z4 ⟨⟨b, rfl, h0, h1⟩, hc, hk⟩
            have FB : Hid (0 ≤ b ∧ b ≤ 4) := ⟨h0, by omega⟩
            have HP4 : Hid (Pre w c gb A x by' z4) := HP3.out.keep hc hk
            have HK4 : Hid (OwnL (w.heap.size + 1) z4 K (projB x.2.2.l by')) := ownL_kept HK3.out hk (by have := HL.out; omega)
            have HM4 : Hid (AB (w.heap.size + 1) z4 z1.heap.size 1 [x]) := ab_kept HM3.out hk (by have := HL.out; omega)
            have HN4 : Hid (¬ blks z1.heap.size [x] K) := HN3.out
            clear h0 h1 hc hk
            try dsimp only
            clear hHeld
            refine hK.out _ _ (HX.out _ HP4.out) (fun hHeld => ?_)
            clear hK Kx
            try go_frame
            refine wpAnyH_ready (rs := [9, 10]) (by kernel_rfl) (by simp) ?_
            refine AllReadyH.cons (o := ⟨some 21, .build 53 #[(0, .tmp 13), (1, .tmp 16), (2, .tmp 18), (3, .const (.int .i64 (-1))), (4, .tmp 20)], 53, "l11_group.go:73", #[⟨1, .data⟩, ⟨4, .data⟩, ⟨6, .data⟩, ⟨8, .data⟩], none⟩) rfl (fun Kx hK => ?_) ?_
            ·
              go_simp
              clear hHeld
              refine hK.out _ _ (HX.out _ HP4.out) (fun hHeld => ?_)
              clear hK Kx
              try go_frame
              refine rd1 10 ⟨some 6, .alloc 53, 0, "l11_group.go:73", #[], none⟩ (fun Kx hK => ?_)
              go_simp
              obtain ⟨z5, hz5⟩ : ∃ v, v = z4.alloc (.cells #[.int .i64 0, .slice none 0 0, .int .i64 0, .int .i64 0, .slice none 0 0] 53) := ⟨_, rfl⟩
              rw [← hz5]
              have hk : Kept c z4 z5 := by rw [hz5]; exact kept_bel (Go.Joins.below_alloc1 _ _)
              have hc : Cur z5 c := by rw [hz5]; exact HP4.out.cur.alloc _
              have HP5 : Hid (Pre w c gb A x by' z5) := HP4.out.keep hc hk
              have HK5 : Hid (OwnL (w.heap.size + 1) z5 K (projB x.2.2.l by')) := ownL_kept HK4.out hk (by have := HL.out; omega)
              have HM5 : Hid (AB (w.heap.size + 1) z5 z1.heap.size 1 [x]) := ab_kept HM4.out hk (by have := HL.out; omega)
              have HN5 : Hid (¬ blks z1.heap.size [x] K) := HN4.out
              have HO5 : Hid (Blk z5 z4.heap.size #[.int .i64 0, .slice none 0 0, .int .i64 0, .int .i64 0, .slice none 0 0] 53 ∧ w.heap.size < z4.heap.size) := ⟨by rw [hz5]; exact Blk.new _ _ _, by have := HP4.out.hA; omega⟩
              clear hz5 hk hc
              clear hHeld
              refine hK.out _ _ (HX.out _ HP5.out) (fun hHeld => ?_)
              clear hK Kx
              try go_frame
              refine rd1 11 ⟨none, .store 53 (.tmp 6) (.tmp 21), 0, "l11_group.go:73", #[⟨10, .data⟩, ⟨9, .data⟩, ⟨6, .chain⟩, ⟨0, .phase⟩, ⟨1, .phase⟩, ⟨2, .phase⟩, ⟨3, .phase⟩, ⟨4, .phase⟩, ⟨5, .phase⟩, ⟨6, .phase⟩, ⟨7, .phase⟩, ⟨8, .phase⟩, ⟨9, .phase⟩, ⟨10, .phase⟩], none⟩ (fun Kx hK => ?_)
              have n0' : z5.cell? ⟨z4.heap.size, 0, none⟩ = some (.int .i64 0) := HO5.out.1.cell 0
              have m0' := HO5.out.1.frozen 0
              have n1' : z5.cell? ⟨z4.heap.size, 1, none⟩ = some (.slice none 0 0) := HO5.out.1.cell 1
              have m1' := HO5.out.1.frozen 1
              have n2' : z5.cell? ⟨z4.heap.size, 2, none⟩ = some (.int .i64 0) := HO5.out.1.cell 2
              have m2' := HO5.out.1.frozen 2
              have n3' : z5.cell? ⟨z4.heap.size, 3, none⟩ = some (.int .i64 0) := HO5.out.1.cell 3
              have m3' := HO5.out.1.frozen 3
              have n4' : z5.cell? ⟨z4.heap.size, 4, none⟩ = some (.slice none 0 0) := HO5.out.1.cell 4
              have m4' := HO5.out.1.frozen 4
              go_simp
              clear n0' m0' n1' m1' n2' m2' n3' m3' n4' m4' hHeld
              have hz := HP5.out.put HO5.out.1 HO5.out.2 (.int .i64 n) (.slice (some ⟨K, 0, none⟩) (projB x.2.2.l by').length kc) (.int .i64 b) (.int .i64 (-1)) (.slice (some ⟨z1.heap.size, 0, none⟩) [x].length 1)
              refine hK.out _ _ (HX.out _ hz) (fun hHeld => ?_)
              clear hK hz
              try go_frame
              refine wpAnyH_done (by kernel_rfl) ?_ _
              go_wp2_with fail
              go_meet
              exact ⟨_, n, b, K, kc, _, rfl, ⟨HP5.out.put HO5.out.1 HO5.out.2 _ _ _ _ _, put5 HO5.out.1 _ _ _ _ _, HO5.out.2, ownL_moved HK5.out (moved5 HO5.out.1 _ _ _ _ _), ab_movedX HM5.out (moved5 HO5.out.1 _ _ _ _ _), HN5.out, fun y hy => by rw [List.mem_singleton.1 (show y ∈ [x.2.2] from hy)]; exact HP5.out.xf⟩, FN.out, FB.out⟩
            refine AllReadyH.cons (o := ⟨some 6, .alloc 53, 0, "l11_group.go:73", #[], none⟩) rfl (fun Kx hK => ?_) AllReadyH.nil
            go_simp
            obtain ⟨z5, hz5⟩ : ∃ v, v = z4.alloc (.cells #[.int .i64 0, .slice none 0 0, .int .i64 0, .int .i64 0, .slice none 0 0] 53) := ⟨_, rfl⟩
            rw [← hz5]
            have hk : Kept c z4 z5 := by rw [hz5]; exact kept_bel (Go.Joins.below_alloc1 _ _)
            have hc : Cur z5 c := by rw [hz5]; exact HP4.out.cur.alloc _
            have HP5 : Hid (Pre w c gb A x by' z5) := HP4.out.keep hc hk
            have HK5 : Hid (OwnL (w.heap.size + 1) z5 K (projB x.2.2.l by')) := ownL_kept HK4.out hk (by have := HL.out; omega)
            have HM5 : Hid (AB (w.heap.size + 1) z5 z1.heap.size 1 [x]) := ab_kept HM4.out hk (by have := HL.out; omega)
            have HN5 : Hid (¬ blks z1.heap.size [x] K) := HN4.out
            have HO5 : Hid (Blk z5 z4.heap.size #[.int .i64 0, .slice none 0 0, .int .i64 0, .int .i64 0, .slice none 0 0] 53 ∧ w.heap.size < z4.heap.size) := ⟨by rw [hz5]; exact Blk.new _ _ _, by have := HP4.out.hA; omega⟩
            clear hz5 hk hc
            clear hHeld
            refine hK.out _ _ (HX.out _ HP5.out) (fun hHeld => ?_)
            clear hK Kx
            try go_frame
            refine rd1 9 ⟨some 21, .build 53 #[(0, .tmp 13), (1, .tmp 16), (2, .tmp 18), (3, .const (.int .i64 (-1))), (4, .tmp 20)], 53, "l11_group.go:73", #[⟨1, .data⟩, ⟨4, .data⟩, ⟨6, .data⟩, ⟨8, .data⟩], none⟩ (fun Kx hK => ?_)
            go_simp
            clear hHeld
            refine hK.out _ _ (HX.out _ HP5.out) (fun hHeld => ?_)
            clear hK Kx
            try go_frame
            refine rd1 11 ⟨none, .store 53 (.tmp 6) (.tmp 21), 0, "l11_group.go:73", #[⟨10, .data⟩, ⟨9, .data⟩, ⟨6, .chain⟩, ⟨0, .phase⟩, ⟨1, .phase⟩, ⟨2, .phase⟩, ⟨3, .phase⟩, ⟨4, .phase⟩, ⟨5, .phase⟩, ⟨6, .phase⟩, ⟨7, .phase⟩, ⟨8, .phase⟩, ⟨9, .phase⟩, ⟨10, .phase⟩], none⟩ (fun Kx hK => ?_)
            have n0' : z5.cell? ⟨z4.heap.size, 0, none⟩ = some (.int .i64 0) := HO5.out.1.cell 0
            have m0' := HO5.out.1.frozen 0
            have n1' : z5.cell? ⟨z4.heap.size, 1, none⟩ = some (.slice none 0 0) := HO5.out.1.cell 1
            have m1' := HO5.out.1.frozen 1
            have n2' : z5.cell? ⟨z4.heap.size, 2, none⟩ = some (.int .i64 0) := HO5.out.1.cell 2
            have m2' := HO5.out.1.frozen 2
            have n3' : z5.cell? ⟨z4.heap.size, 3, none⟩ = some (.int .i64 0) := HO5.out.1.cell 3
            have m3' := HO5.out.1.frozen 3
            have n4' : z5.cell? ⟨z4.heap.size, 4, none⟩ = some (.slice none 0 0) := HO5.out.1.cell 4
            have m4' := HO5.out.1.frozen 4
            go_simp
            clear n0' m0' n1' m1' n2' m2' n3' m3' n4' m4' hHeld
            have hz := HP5.out.put HO5.out.1 HO5.out.2 (.int .i64 n) (.slice (some ⟨K, 0, none⟩) (projB x.2.2.l by').length kc) (.int .i64 b) (.int .i64 (-1)) (.slice (some ⟨z1.heap.size, 0, none⟩) [x].length 1)
            refine hK.out _ _ (HX.out _ hz) (fun hHeld => ?_)
            clear hK hz
            try go_frame
            refine wpAnyH_done (by kernel_rfl) ?_ _
            go_wp2_with fail
            go_meet
            exact ⟨_, n, b, K, kc, _, rfl, ⟨HP5.out.put HO5.out.1 HO5.out.2 _ _ _ _ _, put5 HO5.out.1 _ _ _ _ _, HO5.out.2, ownL_moved HK5.out (moved5 HO5.out.1 _ _ _ _ _), ab_movedX HM5.out (moved5 HO5.out.1 _ _ _ _ _), HN5.out, fun y hy => by rw [List.mem_singleton.1 (show y ∈ [x.2.2] from hy)]; exact HP5.out.xf⟩, FN.out, FB.out⟩
          refine AllReadyH.cons (o := ⟨some 6, .alloc 53, 0, "l11_group.go:73", #[], none⟩) rfl (fun Kx hK => ?_) AllReadyH.nil
          go_simp
          obtain ⟨z4, hz4⟩ : ∃ v, v = z3.alloc (.cells #[.int .i64 0, .slice none 0 0, .int .i64 0, .int .i64 0, .slice none 0 0] 53) := ⟨_, rfl⟩
          rw [← hz4]
          have hk : Kept c z3 z4 := by rw [hz4]; exact kept_bel (Go.Joins.below_alloc1 _ _)
          have hc : Cur z4 c := by rw [hz4]; exact HP3.out.cur.alloc _
          have HP4 : Hid (Pre w c gb A x by' z4) := HP3.out.keep hc hk
          have HK4 : Hid (OwnL (w.heap.size + 1) z4 K (projB x.2.2.l by')) := ownL_kept HK3.out hk (by have := HL.out; omega)
          have HM4 : Hid (AB (w.heap.size + 1) z4 z1.heap.size 1 [x]) := ab_kept HM3.out hk (by have := HL.out; omega)
          have HN4 : Hid (¬ blks z1.heap.size [x] K) := HN3.out
          have HO4 : Hid (Blk z4 z3.heap.size #[.int .i64 0, .slice none 0 0, .int .i64 0, .int .i64 0, .slice none 0 0] 53 ∧ w.heap.size < z3.heap.size) := ⟨by rw [hz4]; exact Blk.new _ _ _, by have := HP3.out.hA; omega⟩
          clear hz4 hk hc
          clear hHeld
          refine hK.out _ _ (HX.out _ HP4.out) (fun hHeld => ?_)
          clear hK Kx
          try go_frame
          refine rd1 6 ⟨some 18, .call { callee := .value (.func 30), args := #[.tmp 17, .const (.int .i64 5)], argTypes := #[54, 3] }, 3, "l11_group.go:73", #[⟨5, .data⟩, ⟨4, .chain⟩], none⟩ (fun Kx hK => ?_)
          go_simp
          refine (below_any c 5 _ HP4.out.cur (by decide) (by decide)).mono ?_
          rintro r z5 ⟨⟨b, rfl, h0, h1⟩, hc, hk⟩
          have FB : Hid (0 ≤ b ∧ b ≤ 4) := ⟨h0, by omega⟩
          have HP5 : Hid (Pre w c gb A x by' z5) := HP4.out.keep hc hk
          have HK5 : Hid (OwnL (w.heap.size + 1) z5 K (projB x.2.2.l by')) := ownL_kept HK4.out hk (by have := HL.out; omega)
          have HM5 : Hid (AB (w.heap.size + 1) z5 z1.heap.size 1 [x]) := ab_kept HM4.out hk (by have := HL.out; omega)
          have HO5 : Hid (Blk z5 z3.heap.size #[.int .i64 0, .slice none 0 0, .int .i64 0, .int .i64 0, .slice none 0 0] 53 ∧ w.heap.size < z3.heap.size) := ⟨blk_kept HO4.out.1 hk (by have := HL.out; have := HO4.out.2; omega), HO4.out.2⟩
          have HN5 : Hid (¬ blks z1.heap.size [x] K) := HN4.out
          clear h0 h1 hc hk
          try dsimp only
          clear hHeld
          refine hK.out _ _ (HX.out _ HP5.out) (fun hHeld => ?_)
          clear hK Kx
          try go_frame
          refine rd1 9 ⟨some 21, .build 53 #[(0, .tmp 13), (1, .tmp 16), (2, .tmp 18), (3, .const (.int .i64 (-1))), (4, .tmp 20)], 53, "l11_group.go:73", #[⟨1, .data⟩, ⟨4, .data⟩, ⟨6, .data⟩, ⟨8, .data⟩], none⟩ (fun Kx hK => ?_)
          go_simp
          clear hHeld
          refine hK.out _ _ (HX.out _ HP5.out) (fun hHeld => ?_)
          clear hK Kx
          try go_frame
          refine rd1 11 ⟨none, .store 53 (.tmp 6) (.tmp 21), 0, "l11_group.go:73", #[⟨10, .data⟩, ⟨9, .data⟩, ⟨6, .chain⟩, ⟨0, .phase⟩, ⟨1, .phase⟩, ⟨2, .phase⟩, ⟨3, .phase⟩, ⟨4, .phase⟩, ⟨5, .phase⟩, ⟨6, .phase⟩, ⟨7, .phase⟩, ⟨8, .phase⟩, ⟨9, .phase⟩, ⟨10, .phase⟩], none⟩ (fun Kx hK => ?_)
          have n0' : z5.cell? ⟨z3.heap.size, 0, none⟩ = some (.int .i64 0) := HO5.out.1.cell 0
          have m0' := HO5.out.1.frozen 0
          have n1' : z5.cell? ⟨z3.heap.size, 1, none⟩ = some (.slice none 0 0) := HO5.out.1.cell 1
          have m1' := HO5.out.1.frozen 1
          have n2' : z5.cell? ⟨z3.heap.size, 2, none⟩ = some (.int .i64 0) := HO5.out.1.cell 2
          have m2' := HO5.out.1.frozen 2
          have n3' : z5.cell? ⟨z3.heap.size, 3, none⟩ = some (.int .i64 0) := HO5.out.1.cell 3
          have m3' := HO5.out.1.frozen 3
          have n4' : z5.cell? ⟨z3.heap.size, 4, none⟩ = some (.slice none 0 0) := HO5.out.1.cell 4
          have m4' := HO5.out.1.frozen 4
          go_simp
          clear n0' m0' n1' m1' n2' m2' n3' m3' n4' m4' hHeld
          have hz := HP5.out.put HO5.out.1 HO5.out.2 (.int .i64 n) (.slice (some ⟨K, 0, none⟩) (projB x.2.2.l by').length kc) (.int .i64 b) (.int .i64 (-1)) (.slice (some ⟨z1.heap.size, 0, none⟩) [x].length 1)
          refine hK.out _ _ (HX.out _ hz) (fun hHeld => ?_)
          clear hK hz
          try go_frame
          refine wpAnyH_done (by kernel_rfl) ?_ _
          go_wp2_with fail
          go_meet
          exact ⟨_, n, b, K, kc, _, rfl, ⟨HP5.out.put HO5.out.1 HO5.out.2 _ _ _ _ _, put5 HO5.out.1 _ _ _ _ _, HO5.out.2, ownL_moved HK5.out (moved5 HO5.out.1 _ _ _ _ _), ab_movedX HM5.out (moved5 HO5.out.1 _ _ _ _ _), HN5.out, fun y hy => by rw [List.mem_singleton.1 (show y ∈ [x.2.2] from hy)]; exact HP5.out.xf⟩, FN.out, FB.out⟩
        refine AllReadyH.cons (o := ⟨some 6, .alloc 53, 0, "l11_group.go:73", #[], none⟩) rfl (fun Kx hK => ?_) AllReadyH.nil
        go_simp
        obtain ⟨z3, hz3⟩ : ∃ v, v = z2.alloc (.cells #[.int .i64 0, .slice none 0 0, .int .i64 0, .int .i64 0, .slice none 0 0] 53) := ⟨_, rfl⟩
        rw [← hz3]
        have hk : Kept c z2 z3 := by rw [hz3]; exact kept_bel (Go.Joins.below_alloc1 _ _)
        have hc : Cur z3 c := by rw [hz3]; exact HP2.out.cur.alloc _
        have HP3 : Hid (Pre w c gb A x by' z3) := HP2.out.keep hc hk
        have HM3 : Hid (AB (w.heap.size + 1) z3 z1.heap.size 1 [x]) := ab_kept HM2.out hk (by have := HL.out; omega)
        have HO3 : Hid (Blk z3 z2.heap.size #[.int .i64 0, .slice none 0 0, .int .i64 0, .int .i64 0, .slice none 0 0] 53 ∧ w.heap.size < z2.heap.size) := ⟨by rw [hz3]; exact Blk.new _ _ _, by have := HP2.out.hA; omega⟩
        clear hz3 hk hc
        clear hHeld
        refine hK.out _ _ (HX.out _ HP3.out) (fun hHeld => ?_)
        clear hK Kx
        try go_frame
        refine rd1 4 ⟨some 16, .call { callee := .value (.func 35), args := #[.tmp 14, .tmp 15], argTypes := #[27, 28] }, 25, "l11_group.go:73", #[⟨2, .data⟩, ⟨3, .data⟩, ⟨1, .chain⟩], none⟩ (fun Kx hK => ?_)
        go_simp
        refine (Pro.specKey_any _ _ _ _ x.2.2.l x.2.2.s x.2.2.e x.2.2.n by' _ HP3.out.xo.reads HP3.out.names.rd (by have := HP3.out.xf.2; omega) HP3.out.bl).mono ?_
        rintro r z4 ⟨⟨K, kc, rfl, hO⟩, hb⟩
        have hk := kept_bel (c := c) hb
        have hc := cur_bel HP3.out.cur hb
        have HK4 : Hid (OwnL (w.heap.size + 1) z4 K (projB x.2.2.l by')) := ⟨Nat.le_trans (by have := HP3.out.hA; omega) hO.1, hO.2⟩
        have NX : Hid (K ≠ x.1) := fun e => by
          obtain ⟨_, _, ds, hx, _⟩ := HP3.out.xo
          have := hx.lt; have := hO.1; omega
        have HP4 : Hid (Pre w c gb A x by' z4) := HP3.out.keep hc hk
        have HM4 : Hid (AB (w.heap.size + 1) z4 z1.heap.size 1 [x]) := ab_kept HM3.out hk (by have := HL.out; omega)
        have HO4 : Hid (Blk z4 z2.heap.size #[.int .i64 0, .slice none 0 0, .int .i64 0, .int .i64 0, .slice none 0 0] 53 ∧ w.heap.size < z2.heap.size) := ⟨blk_kept HO3.out.1 hk (by have := HL.out; have := HO3.out.2; omega), HO3.out.2⟩
        have HN4 : Hid (¬ blks z1.heap.size [x] K) := ne_one HK4.out HM4.out NX.out
        clear hO hb hk hc
        try dsimp only
        clear hHeld
        refine hK.out _ _ (HX.out _ HP4.out) (fun hHeld => ?_)
        clear hK Kx
        try go_frame
        refine rd1 6 ⟨some 18, .call { callee := .value (.func 30), args := #[.tmp 17, .const (.int .i64 5)], argTypes := #[54, 3] }, 3, "l11_group.go:73", #[⟨5, .data⟩, ⟨4, .chain⟩], none⟩ (fun Kx hK => ?_)
        go_simp
        refine (below_any c 5 _ HP4.out.cur (by decide) (by decide)).mono ?_
        rintro r z5 ⟨⟨b, rfl, h0, h1⟩, hc, hk⟩
        have FB : Hid (0 ≤ b ∧ b ≤ 4) := ⟨h0, by omega⟩
        have HP5 : Hid (Pre w c gb A x by' z5) := HP4.out.keep hc hk
        have HK5 : Hid (OwnL (w.heap.size + 1) z5 K (projB x.2.2.l by')) := ownL_kept HK4.out hk (by have := HL.out; omega)
        have HM5 : Hid (AB (w.heap.size + 1) z5 z1.heap.size 1 [x]) := ab_kept HM4.out hk (by have := HL.out; omega)
        have HO5 : Hid (Blk z5 z2.heap.size #[.int .i64 0, .slice none 0 0, .int .i64 0, .int .i64 0, .slice none 0 0] 53 ∧ w.heap.size < z2.heap.size) := ⟨blk_kept HO4.out.1 hk (by have := HL.out; have := HO4.out.2; omega), HO4.out.2⟩
        have HN5 : Hid (¬ blks z1.heap.size [x] K) := HN4.out
        clear h0 h1 hc hk
        try dsimp only
        clear hHeld
        refine hK.out _ _ (HX.out _ HP5.out) (fun hHeld => ?_)
        clear hK Kx
        try go_frame
        refine rd1 9 ⟨some 21, .build 53 #[(0, .tmp 13), (1, .tmp 16), (2, .tmp 18), (3, .const (.int .i64 (-1))), (4, .tmp 20)], 53, "l11_group.go:73", #[⟨1, .data⟩, ⟨4, .data⟩, ⟨6, .data⟩, ⟨8, .data⟩], none⟩ (fun Kx hK => ?_)
        go_simp
        clear hHeld
        refine hK.out _ _ (HX.out _ HP5.out) (fun hHeld => ?_)
        clear hK Kx
        try go_frame
        refine rd1 11 ⟨none, .store 53 (.tmp 6) (.tmp 21), 0, "l11_group.go:73", #[⟨10, .data⟩, ⟨9, .data⟩, ⟨6, .chain⟩, ⟨0, .phase⟩, ⟨1, .phase⟩, ⟨2, .phase⟩, ⟨3, .phase⟩, ⟨4, .phase⟩, ⟨5, .phase⟩, ⟨6, .phase⟩, ⟨7, .phase⟩, ⟨8, .phase⟩, ⟨9, .phase⟩, ⟨10, .phase⟩], none⟩ (fun Kx hK => ?_)
        have n0' : z5.cell? ⟨z2.heap.size, 0, none⟩ = some (.int .i64 0) := HO5.out.1.cell 0
        have m0' := HO5.out.1.frozen 0
        have n1' : z5.cell? ⟨z2.heap.size, 1, none⟩ = some (.slice none 0 0) := HO5.out.1.cell 1
        have m1' := HO5.out.1.frozen 1
        have n2' : z5.cell? ⟨z2.heap.size, 2, none⟩ = some (.int .i64 0) := HO5.out.1.cell 2
        have m2' := HO5.out.1.frozen 2
        have n3' : z5.cell? ⟨z2.heap.size, 3, none⟩ = some (.int .i64 0) := HO5.out.1.cell 3
        have m3' := HO5.out.1.frozen 3
        have n4' : z5.cell? ⟨z2.heap.size, 4, none⟩ = some (.slice none 0 0) := HO5.out.1.cell 4
        have m4' := HO5.out.1.frozen 4
        go_simp
        clear n0' m0' n1' m1' n2' m2' n3' m3' n4' m4' hHeld
        have hz := HP5.out.put HO5.out.1 HO5.out.2 (.int .i64 n) (.slice (some ⟨K, 0, none⟩) (projB x.2.2.l by').length kc) (.int .i64 b) (.int .i64 (-1)) (.slice (some ⟨z1.heap.size, 0, none⟩) [x].length 1)
        refine hK.out _ _ (HX.out _ hz) (fun hHeld => ?_)
        clear hK hz
        try go_frame
        refine wpAnyH_done (by kernel_rfl) ?_ _
        go_wp2_with fail
        go_meet
        exact ⟨_, n, b, K, kc, _, rfl, ⟨HP5.out.put HO5.out.1 HO5.out.2 _ _ _ _ _, put5 HO5.out.1 _ _ _ _ _, HO5.out.2, ownL_moved HK5.out (moved5 HO5.out.1 _ _ _ _ _), ab_movedX HM5.out (moved5 HO5.out.1 _ _ _ _ _), HN5.out, fun y hy => by rw [List.mem_singleton.1 (show y ∈ [x.2.2] from hy)]; exact HP5.out.xf⟩, FN.out, FB.out⟩
      refine AllReadyH.cons (o := ⟨some 6, .alloc 53, 0, "l11_group.go:73", #[], none⟩) rfl (fun Kx hK => ?_) AllReadyH.nil
      go_simp
      obtain ⟨z2, hz2⟩ : ∃ v, v = z1.alloc (.cells #[.int .i64 0, .slice none 0 0, .int .i64 0, .int .i64 0, .slice none 0 0] 53) := ⟨_, rfl⟩
      rw [← hz2]
      have hk : Kept c z1 z2 := by rw [hz2]; exact kept_bel (Go.Joins.below_alloc1 _ _)
      have hc : Cur z2 c := by rw [hz2]; exact HP1.out.cur.alloc _
      have HP2 : Hid (Pre w c gb A x by' z2) := HP1.out.keep hc hk
      have HO2 : Hid (Blk z2 z1.heap.size #[.int .i64 0, .slice none 0 0, .int .i64 0, .int .i64 0, .slice none 0 0] 53 ∧ w.heap.size < z1.heap.size) := ⟨by rw [hz2]; exact Blk.new _ _ _, by have := HP1.out.hA; omega⟩
      clear hz2 hk hc
      clear hHeld
      refine hK.out _ _ (HX.out _ HP2.out) (fun hHeld => ?_)
      clear hK Kx
      try go_frame
      refine wpAnyH_ready (rs := [4, 8]) (by kernel_rfl) (by simp) ?_
      refine AllReadyH.cons (o := ⟨some 16, .call { callee := .value (.func 35), args := #[.tmp 14, .tmp 15], argTypes := #[27, 28] }, 25, "l11_group.go:73", #[⟨2, .data⟩, ⟨3, .data⟩, ⟨1, .chain⟩], none⟩) rfl (fun Kx hK => ?_) ?_
      ·
        go_simp
        refine (Pro.specKey_any _ _ _ _ x.2.2.l x.2.2.s x.2.2.e x.2.2.n by' _ HP2.out.xo.reads HP2.out.names.rd (by have := HP2.out.xf.2; omega) HP2.out.bl).mono ?_
        rintro r z3 ⟨⟨K, kc, rfl, hO⟩, hb⟩
        have hk := kept_bel (c := c) hb
        have hc := cur_bel HP2.out.cur hb
        have HK3 : Hid (OwnL (w.heap.size + 1) z3 K (projB x.2.2.l by')) := ⟨Nat.le_trans (by have := HP2.out.hA; omega) hO.1, hO.2⟩
        have NX : Hid (K ≠ x.1) := fun e => by
          obtain ⟨_, _, ds, hx, _⟩ := HP2.out.xo
          have := hx.lt; have := hO.1; omega
        have HP3 : Hid (Pre w c gb A x by' z3) := HP2.out.keep hc hk
        have HO3 : Hid (Blk z3 z1.heap.size #[.int .i64 0, .slice none 0 0, .int .i64 0, .int .i64 0, .slice none 0 0] 53 ∧ w.heap.size < z1.heap.size) := ⟨blk_kept HO2.out.1 hk (by have := HL.out; have := HO2.out.2; omega), HO2.out.2⟩
        clear hO hb hk hc
        try dsimp only
        clear hHeld
        refine hK.out _ _ (HX.out _ HP3.out) (fun hHeld => ?_)
        clear hK Kx
        try go_frame
        refine wpAnyH_ready (rs := [6, 8]) (by kernel_rfl) (by simp) ?_
        refine AllReadyH.cons (o := ⟨some 18, .call { callee := .value (.func 30), args := #[.tmp 17, .const (.int .i64 5)], argTypes := #[54, 3] }, 3, "l11_group.go:73", #[⟨5, .data⟩, ⟨4, .chain⟩], none⟩) rfl (fun Kx hK => ?_) ?_
        ·
          go_simp
          refine (below_any c 5 _ HP3.out.cur (by decide) (by decide)).mono ?_
          rintro r z4 ⟨⟨b, rfl, h0, h1⟩, hc, hk⟩
          have FB : Hid (0 ≤ b ∧ b ≤ 4) := ⟨h0, by omega⟩
          have HP4 : Hid (Pre w c gb A x by' z4) := HP3.out.keep hc hk
          have HK4 : Hid (OwnL (w.heap.size + 1) z4 K (projB x.2.2.l by')) := ownL_kept HK3.out hk (by have := HL.out; omega)
          have HO4 : Hid (Blk z4 z1.heap.size #[.int .i64 0, .slice none 0 0, .int .i64 0, .int .i64 0, .slice none 0 0] 53 ∧ w.heap.size < z1.heap.size) := ⟨blk_kept HO3.out.1 hk (by have := HL.out; have := HO3.out.2; omega), HO3.out.2⟩
          clear h0 h1 hc hk
          try dsimp only
          clear hHeld
          refine hK.out _ _ (HX.out _ HP4.out) (fun hHeld => ?_)
          clear hK Kx
          try go_frame
          refine rd1 8 ⟨some 20, .buildSlice 35 1 #[(0, .tmp 19)], 35, "l11_group.go:73", #[⟨7, .data⟩], none⟩ (fun Kx hK => ?_)
          go_simp
          obtain ⟨z5, hz5⟩ : ∃ v, v = z4.alloc (.cells #[.slice (some ⟨x.1, 0, none⟩) x.2.2.l.length x.2.1, .int .i64 x.2.2.s, .int .i64 x.2.2.e, .string x.2.2.n] 27) := ⟨_, rfl⟩
          rw [← hz5]
          have hk : Kept c z4 z5 := by rw [hz5]; exact kept_bel (Go.Joins.below_alloc1 _ _)
          have hc : Cur z5 c := by rw [hz5]; exact HP4.out.cur.alloc _
          have HP5 : Hid (Pre w c gb A x by' z5) := HP4.out.keep hc hk
          have HK5 : Hid (OwnL (w.heap.size + 1) z5 K (projB x.2.2.l by')) := ownL_kept HK4.out hk (by have := HL.out; omega)
          have HO5 : Hid (Blk z5 z1.heap.size #[.int .i64 0, .slice none 0 0, .int .i64 0, .int .i64 0, .slice none 0 0] 53 ∧ w.heap.size < z1.heap.size) := ⟨blk_kept HO4.out.1 hk (by have := HL.out; have := HO4.out.2; omega), HO4.out.2⟩
          have HM5 : Hid (AB (w.heap.size + 1) z5 z4.heap.size 1 [x]) := AB.one (by rw [hz5]; exact Blk.new _ _ _) (by have := HP4.out.hA; omega) HP5.out.xo
          have HN5 : Hid (¬ blks z4.heap.size [x] K) := ne_one HK5.out HM5.out NX.out
          clear hz5 hk hc
          clear hHeld
          refine hK.out _ _ (HX.out _ HP5.out) (fun hHeld => ?_)
          clear hK Kx
          try go_frame
          refine rd1 9 ⟨some 21, .build 53 #[(0, .tmp 13), (1, .tmp 16), (2, .tmp 18), (3, .const (.int .i64 (-1))), (4, .tmp 20)], 53, "l11_group.go:73", #[⟨1, .data⟩, ⟨4, .data⟩, ⟨6, .data⟩, ⟨8, .data⟩], none⟩ (fun Kx hK => ?_)
          go_simp
          clear hHeld
          refine hK.out _ _ (HX.out _ HP5.out) (fun hHeld => ?_)
          clear hK Kx
          try go_frame
          refine rd1 11 ⟨none, .store 53 (.tmp 6) (.tmp 21), 0, "l11_group.go:73", #[⟨10, .data⟩, ⟨9, .data⟩, ⟨6, .chain⟩, ⟨0, .phase⟩, ⟨1, .phase⟩, ⟨2, .phase⟩, ⟨3, .phase⟩, ⟨4, .phase⟩, ⟨5, .phase⟩, ⟨6, .phase⟩, ⟨7, .phase⟩, ⟨8, .phase⟩, ⟨9, .phase⟩, ⟨10, .phase⟩], none⟩ (fun Kx hK => ?_)
          have n0' : z5.cell? ⟨z1.heap.size, 0, none⟩ = some (.int .i64 0) := HO5.out.1.cell 0
          have m0' := HO5.out.1.frozen 0
          have n1' : z5.cell? ⟨z1.heap.size, 1, none⟩ = some (.slice none 0 0) := HO5.out.1.cell 1
          have m1' := HO5.out.1.frozen 1
          have n2' : z5.cell? ⟨z1.heap.size, 2, none⟩ = some (.int .i64 0) := HO5.out.1.cell 2
          have m2' := HO5.out.1.frozen 2
          have n3' : z5.cell? ⟨z1.heap.size, 3, none⟩ = some (.int .i64 0) := HO5.out.1.cell 3
          have m3' := HO5.out.1.frozen 3
          have n4' : z5.cell? ⟨z1.heap.size, 4, none⟩ = some (.slice none 0 0) := HO5.out.1.cell 4
          have m4' := HO5.out.1.frozen 4
          go_simp
          clear n0' m0' n1' m1' n2' m2' n3' m3' n4' m4' hHeld
          have hz := HP5.out.put HO5.out.1 HO5.out.2 (.int .i64 n) (.slice (some ⟨K, 0, none⟩) (projB x.2.2.l by').length kc) (.int .i64 b) (.int .i64 (-1)) (.slice (some ⟨z4.heap.size, 0, none⟩) [x].length 1)
          refine hK.out _ _ (HX.out _ hz) (fun hHeld => ?_)
          clear hK hz
          try go_frame
          refine wpAnyH_done (by kernel_rfl) ?_ _
          go_wp2_with fail
          go_meet
          exact ⟨_, n, b, K, kc, _, rfl, ⟨HP5.out.put HO5.out.1 HO5.out.2 _ _ _ _ _, put5 HO5.out.1 _ _ _ _ _, HO5.out.2, ownL_moved HK5.out (moved5 HO5.out.1 _ _ _ _ _), ab_movedX HM5.out (moved5 HO5.out.1 _ _ _ _ _), HN5.out, fun y hy => by rw [List.mem_singleton.1 (show y ∈ [x.2.2] from hy)]; exact HP5.out.xf⟩, FN.out, FB.out⟩
        refine AllReadyH.cons (o := ⟨some 20, .buildSlice 35 1 #[(0, .tmp 19)], 35, "l11_group.go:73", #[⟨7, .data⟩], none⟩) rfl (fun Kx hK => ?_) AllReadyH.nil
        go_simp
        obtain ⟨z4, hz4⟩ : ∃ v, v = z3.alloc (.cells #[.slice (some ⟨x.1, 0, none⟩) x.2.2.l.length x.2.1, .int .i64 x.2.2.s, .int .i64 x.2.2.e, .string x.2.2.n] 27) := ⟨_, rfl⟩
        rw [← hz4]
        have hk : Kept c z3 z4 := by rw [hz4]; exact kept_bel (Go.Joins.below_alloc1 _ _)
        have hc : Cur z4 c := by rw [hz4]; exact HP3.out.cur.alloc _
        have HP4 : Hid (Pre w c gb A x by' z4) := HP3.out.keep hc hk
        have HK4 : Hid (OwnL (w.heap.size + 1) z4 K (projB x.2.2.l by')) := ownL_kept HK3.out hk (by have := HL.out; omega)
        have HO4 : Hid (Blk z4 z1.heap.size #[.int .i64 0, .slice none 0 0, .int .i64 0, .int .i64 0, .slice none 0 0] 53 ∧ w.heap.size < z1.heap.size) := ⟨blk_kept HO3.out.1 hk (by have := HL.out; have := HO3.out.2; omega), HO3.out.2⟩
        have HM4 : Hid (AB (w.heap.size + 1) z4 z3.heap.size 1 [x]) := AB.one (by rw [hz4]; exact Blk.new _ _ _) (by have := HP3.out.hA; omega) HP4.out.xo
        have HN4 : Hid (¬ blks z3.heap.size [x] K) := ne_one HK4.out HM4.out NX.out
        clear hz4 hk hc
        clear hHeld
        refine hK.out _ _ (HX.out _ HP4.out) (fun hHeld => ?_)
        clear hK Kx
        try go_frame
        refine rd1 6 ⟨some 18, .call { callee := .value (.func 30), args := #[.tmp 17, .const (.int .i64 5)], argTypes := #[54, 3] }, 3, "l11_group.go:73", #[⟨5, .data⟩, ⟨4, .chain⟩], none⟩ (fun Kx hK => ?_)
        go_simp
        refine (below_any c 5 _ HP4.out.cur (by decide) (by decide)).mono ?_
        rintro r z5 ⟨⟨b, rfl, h0, h1⟩, hc, hk⟩
        have FB : Hid (0 ≤ b ∧ b ≤ 4) := ⟨h0, by omega⟩
        have HP5 : Hid (Pre w c gb A x by' z5) := HP4.out.keep hc hk
        have HK5 : Hid (OwnL (w.heap.size + 1) z5 K (projB x.2.2.l by')) := ownL_kept HK4.out hk (by have := HL.out; omega)
        have HM5 : Hid (AB (w.heap.size + 1) z5 z3.heap.size 1 [x]) := ab_kept HM4.out hk (by have := HL.out; omega)
        have HO5 : Hid (Blk z5 z1.heap.size #[.int .i64 0, .slice none 0 0, .int .i64 0, .int .i64 0, .slice none 0 0] 53 ∧ w.heap.size < z1.heap.size) := ⟨blk_kept HO4.out.1 hk (by have := HL.out; have := HO4.out.2; omega), HO4.out.2⟩
        have HN5 : Hid (¬ blks z3.heap.size [x] K) := HN4.out
        clear h0 h1 hc hk
        try dsimp only
        clear hHeld
        refine hK.out _ _ (HX.out _ HP5.out) (fun hHeld => ?_)
        clear hK Kx
        try go_frame
        refine rd1 9 ⟨some 21, .build 53 #[(0, .tmp 13), (1, .tmp 16), (2, .tmp 18), (3, .const (.int .i64 (-1))), (4, .tmp 20)], 53, "l11_group.go:73", #[⟨1, .data⟩, ⟨4, .data⟩, ⟨6, .data⟩, ⟨8, .data⟩], none⟩ (fun Kx hK => ?_)
        go_simp
        clear hHeld
        refine hK.out _ _ (HX.out _ HP5.out) (fun hHeld => ?_)
        clear hK Kx
        try go_frame
        refine rd1 11 ⟨none, .store 53 (.tmp 6) (.tmp 21), 0, "l11_group.go:73", #[⟨10, .data⟩, ⟨9, .data⟩, ⟨6, .chain⟩, ⟨0, .phase⟩, ⟨1, .phase⟩, ⟨2, .phase⟩, ⟨3, .phase⟩, ⟨4, .phase⟩, ⟨5, .phase⟩, ⟨6, .phase⟩, ⟨7, .phase⟩, ⟨8, .phase⟩, ⟨9, .phase⟩, ⟨10, .phase⟩], none⟩ (fun Kx hK => ?_)
        have n0' : z5.cell? ⟨z1.heap.size, 0, none⟩ = some (.int .i64 0) := HO5.out.1.cell 0
        have m0' := HO5.out.1.frozen 0
        have n1' : z5.cell? ⟨z1.heap.size, 1, none⟩ = some (.slice none 0 0) := HO5.out.1.cell 1
        have m1' := HO5.out.1.frozen 1
        have n2' : z5.cell? ⟨z1.heap.size, 2, none⟩ = some (.int .i64 0) := HO5.out.1.cell 2
        have m2' := HO5.out.1.frozen 2
        have n3' : z5.cell? ⟨z1.heap.size, 3, none⟩ = some (.int .i64 0) := HO5.out.1.cell 3
        have m3' := HO5.out.1.frozen 3
        have n4' : z5.cell? ⟨z1.heap.size, 4, none⟩ = some (.slice none 0 0) := HO5.out.1.cell 4
        have m4' := HO5.out.1.frozen 4
        go_simp
        clear n0' m0' n1' m1' n2' m2' n3' m3' n4' m4' hHeld
        have hz := HP5.out.put HO5.out.1 HO5.out.2 (.int .i64 n) (.slice (some ⟨K, 0, none⟩) (projB x.2.2.l by').length kc) (.int .i64 b) (.int .i64 (-1)) (.slice (some ⟨z3.heap.size, 0, none⟩) [x].length 1)
        refine hK.out _ _ (HX.out _ hz) (fun hHeld => ?_)
        clear hK hz
        try go_frame
        refine wpAnyH_done (by kernel_rfl) ?_ _
        go_wp2_with fail
        go_meet
        exact ⟨_, n, b, K, kc, _, rfl, ⟨HP5.out.put HO5.out.1 HO5.out.2 _ _ _ _ _, put5 HO5.out.1 _ _ _ _ _, HO5.out.2, ownL_moved HK5.out (moved5 HO5.out.1 _ _ _ _ _), ab_movedX HM5.out (moved5 HO5.out.1 _ _ _ _ _), HN5.out, fun y hy => by rw [List.mem_singleton.1 (show y ∈ [x.2.2] from hy)]; exact HP5.out.xf⟩, FN.out, FB.out⟩
      refine AllReadyH.cons (o := ⟨some 20, .buildSlice 35 1 #[(0, .tmp 19)], 35, "l11_group.go:73", #[⟨7, .data⟩], none⟩) rfl (fun Kx hK => ?_) AllReadyH.nil
      go_simp
      obtain ⟨z3, hz3⟩ : ∃ v, v = z2.alloc (.cells #[.slice (some ⟨x.1, 0, none⟩) x.2.2.l.length x.2.1, .int .i64 x.2.2.s, .int .i64 x.2.2.e, .string x.2.2.n] 27) := ⟨_, rfl⟩
      rw [← hz3]
      have hk : Kept c z2 z3 := by rw [hz3]; exact kept_bel (Go.Joins.below_alloc1 _ _)
      have hc : Cur z3 c := by rw [hz3]; exact HP2.out.cur.alloc _
      have HP3 : Hid (Pre w c gb A x by' z3) := HP2.out.keep hc hk
      have HO3 : Hid (Blk z3 z1.heap.size #[.int .i64 0, .slice none 0 0, .int .i64 0, .int .i64 0, .slice none 0 0] 53 ∧ w.heap.size < z1.heap.size) := ⟨blk_kept HO2.out.1 hk (by have := HL.out; have := HO2.out.2; omega), HO2.out.2⟩
      have HM3 : Hid (AB (w.heap.size + 1) z3 z2.heap.size 1 [x]) := AB.one (by rw [hz3]; exact Blk.new _ _ _) (by have := HP2.out.hA; omega) HP3.out.xo
      clear hz3 hk hc
      clear hHeld
      refine hK.out _ _ (HX.out _ HP3.out) (fun hHeld => ?_)
      clear hK Kx
      try go_frame
      refine rd1 4 ⟨some 16, .call { callee := .value (.func 35), args := #[.tmp 14, .tmp 15], argTypes := #[27, 28] }, 25, "l11_group.go:73", #[⟨2, .data⟩, ⟨3, .data⟩, ⟨1, .chain⟩], none⟩ (fun Kx hK => ?_)
      go_simp
      refine (Pro.specKey_any _ _ _ _ x.2.2.l x.2.2.s x.2.2.e x.2.2.n by' _ HP3.out.xo.reads HP3.out.names.rd (by have := HP3.out.xf.2; omega) HP3.out.bl).mono ?_
      rintro r z4 ⟨⟨K, kc, rfl, hO⟩, hb⟩
      have hk := kept_bel (c := c) hb
      have hc := cur_bel HP3.out.cur hb
      have HK4 : Hid (OwnL (w.heap.size + 1) z4 K (projB x.2.2.l by')) := ⟨Nat.le_trans (by have := HP3.out.hA; omega) hO.1, hO.2⟩
      have NX : Hid (K ≠ x.1) := fun e => by
        obtain ⟨_, _, ds, hx, _⟩ := HP3.out.xo
        have := hx.lt; have := hO.1; omega
      have HP4 : Hid (Pre w c gb A x by' z4) := HP3.out.keep hc hk
      have HM4 : Hid (AB (w.heap.size + 1) z4 z2.heap.size 1 [x]) := ab_kept HM3.out hk (by have := HL.out; omega)
      have HO4 : Hid (Blk z4 z1.heap.size #[.int .i64 0, .slice none 0 0, .int .i64 0, .int .i64 0, .slice none 0 0] 53 ∧ w.heap.size < z1.heap.size) := ⟨blk_kept HO3.out.1 hk (by have := HL.out; have := HO3.out.2; omega), HO3.out.2⟩
      have HN4 : Hid (¬ blks z2.heap.size [x] K) := ne_one HK4.out HM4.out NX.out
      clear hO hb hk hc
      try dsimp only
      clear hHeld
      refine hK.out _ _ (HX.out _ HP4.out) (fun hHeld => ?_)
      clear hK Kx
      try go_frame
      refine rd1 6 ⟨some 18, .call { callee := .value (.func 30), args := #[.tmp 17, .const (.int .i64 5)], argTypes := #[54, 3] }, 3, "l11_group.go:73", #[⟨5, .data⟩, ⟨4, .chain⟩], none⟩ (fun Kx hK => ?_)
      go_simp
      refine (below_any c 5 _ HP4.out.cur (by decide) (by decide)).mono ?_
      rintro r z5 ⟨⟨b, rfl, h0, h1⟩, hc, hk⟩
      have FB : Hid (0 ≤ b ∧ b ≤ 4) := ⟨h0, by omega⟩
      have HP5 : Hid (Pre w c gb A x by' z5) := HP4.out.keep hc hk
      have HK5 : Hid (OwnL (w.heap.size + 1) z5 K (projB x.2.2.l by')) := ownL_kept HK4.out hk (by have := HL.out; omega)
      have HM5 : Hid (AB (w.heap.size + 1) z5 z2.heap.size 1 [x]) := ab_kept HM4.out hk (by have := HL.out; omega)
      have HO5 : Hid (Blk z5 z1.heap.size #[.int .i64 0, .slice none 0 0, .int .i64 0, .int .i64 0, .slice none 0 0] 53 ∧ w.heap.size < z1.heap.size) := ⟨blk_kept HO4.out.1 hk (by have := HL.out; have := HO4.out.2; omega), HO4.out.2⟩
      have HN5 : Hid (¬ blks z2.heap.size [x] K) := HN4.out
      clear h0 h1 hc hk
      try dsimp only
      clear hHeld
      refine hK.out _ _ (HX.out _ HP5.out) (fun hHeld => ?_)
      clear hK Kx
      try go_frame
      refine rd1 9 ⟨some 21, .build 53 #[(0, .tmp 13), (1, .tmp 16), (2, .tmp 18), (3, .const (.int .i64 (-1))), (4, .tmp 20)], 53, "l11_group.go:73", #[⟨1, .data⟩, ⟨4, .data⟩, ⟨6, .data⟩, ⟨8, .data⟩], none⟩ (fun Kx hK => ?_)
      go_simp
      clear hHeld
      refine hK.out _ _ (HX.out _ HP5.out) (fun hHeld => ?_)
      clear hK Kx
      try go_frame
      refine rd1 11 ⟨none, .store 53 (.tmp 6) (.tmp 21), 0, "l11_group.go:73", #[⟨10, .data⟩, ⟨9, .data⟩, ⟨6, .chain⟩, ⟨0, .phase⟩, ⟨1, .phase⟩, ⟨2, .phase⟩, ⟨3, .phase⟩, ⟨4, .phase⟩, ⟨5, .phase⟩, ⟨6, .phase⟩, ⟨7, .phase⟩, ⟨8, .phase⟩, ⟨9, .phase⟩, ⟨10, .phase⟩], none⟩ (fun Kx hK => ?_)
      have n0' : z5.cell? ⟨z1.heap.size, 0, none⟩ = some (.int .i64 0) := HO5.out.1.cell 0
      have m0' := HO5.out.1.frozen 0
      have n1' : z5.cell? ⟨z1.heap.size, 1, none⟩ = some (.slice none 0 0) := HO5.out.1.cell 1
      have m1' := HO5.out.1.frozen 1
      have n2' : z5.cell? ⟨z1.heap.size, 2, none⟩ = some (.int .i64 0) := HO5.out.1.cell 2
      have m2' := HO5.out.1.frozen 2
      have n3' : z5.cell? ⟨z1.heap.size, 3, none⟩ = some (.int .i64 0) := HO5.out.1.cell 3
      have m3' := HO5.out.1.frozen 3
      have n4' : z5.cell? ⟨z1.heap.size, 4, none⟩ = some (.slice none 0 0) := HO5.out.1.cell 4
      have m4' := HO5.out.1.frozen 4
      go_simp
      clear n0' m0' n1' m1' n2' m2' n3' m3' n4' m4' hHeld
      have hz := HP5.out.put HO5.out.1 HO5.out.2 (.int .i64 n) (.slice (some ⟨K, 0, none⟩) (projB x.2.2.l by').length kc) (.int .i64 b) (.int .i64 (-1)) (.slice (some ⟨z2.heap.size, 0, none⟩) [x].length 1)
      refine hK.out _ _ (HX.out _ hz) (fun hHeld => ?_)
      clear hK hz
      try go_frame
      refine wpAnyH_done (by kernel_rfl) ?_ _
      go_wp2_with fail
      go_meet
      exact ⟨_, n, b, K, kc, _, rfl, ⟨HP5.out.put HO5.out.1 HO5.out.2 _ _ _ _ _, put5 HO5.out.1 _ _ _ _ _, HO5.out.2, ownL_moved HK5.out (moved5 HO5.out.1 _ _ _ _ _), ab_movedX HM5.out (moved5 HO5.out.1 _ _ _ _ _), HN5.out, fun y hy => by rw [List.mem_singleton.1 (show y ∈ [x.2.2] from hy)]; exact HP5.out.xf⟩, FN.out, FB.out⟩
    refine AllReadyH.cons (o := ⟨some 20, .buildSlice 35 1 #[(0, .tmp 19)], 35, "l11_group.go:73", #[⟨7, .data⟩], none⟩) rfl (fun Kx hK => ?_) ?_
    ·
      go_simp
      obtain ⟨z1, hz1⟩ : ∃ v, v = z0.alloc (.cells #[.slice (some ⟨x.1, 0, none⟩) x.2.2.l.length x.2.1, .int .i64 x.2.2.s, .int .i64 x.2.2.e, .string x.2.2.n] 27) := ⟨_, rfl⟩
      rw [← hz1]
      have hk : Kept c z0 z1 := by rw [hz1]; exact kept_bel (Go.Joins.below_alloc1 _ _)
      have hc : Cur z1 c := by rw [hz1]; exact HP0.out.cur.alloc _
      have HP1 : Hid (Pre w c gb A x by' z1) := HP0.out.keep hc hk
      have HM1 : Hid (AB (w.heap.size + 1) z1 z0.heap.size 1 [x]) := AB.one (by rw [hz1]; exact Blk.new _ _ _) (by have := HP0.out.hA; omega) HP1.out.xo
      clear hz1 hk hc
      clear hHeld
      refine hK.out _ _ (HX.out _ HP1.out) (fun hHeld => ?_)
      clear hK Kx
      try go_frame
      refine wpAnyH_ready (rs := [1, 10]) (by kernel_rfl) (by simp) ?_
      refine AllReadyH.cons (o := ⟨some 13, .call { callee := .value (.func 30), args := #[.tmp 12, .const (.int .i64 5)], argTypes := #[54, 3] }, 3, "l11_group.go:73", #[⟨0, .data⟩], none⟩) rfl (fun Kx hK => ?_) ?_
      ·
        go_simp
        refine (below_any c 5 _ HP1.out.cur (by decide) (by decide)).mono ?_
        rintro r z2 ⟨⟨n, rfl, h0, h1⟩, hc, hk⟩
        have FN : Hid (0 ≤ n ∧ n ≤ 4) := ⟨h0, by omega⟩
        have HP2 : Hid (Pre w c gb A x by' z2) := HP1.out.keep hc hk
        have HM2 : Hid (AB (w.heap.size + 1) z2 z0.heap.size 1 [x]) := ab_kept HM1.out hk (by have := HL.out; omega)
        clear h0 h1 hc hk
        try dsimp only
        clear hHeld
        refine hK.out _ _ (HX.out _ HP2.out) (fun hHeld => ?_)
        clear hK Kx
        try go_frame
        refine wpAnyH_ready (rs := [4, 10]) (by kernel_rfl) (by simp) ?_
        refine AllReadyH.cons (o := ⟨some 16, .call { callee := .value (.func 35), args := #[.tmp 14, .tmp 15], argTypes := #[27, 28] }, 25, "l11_group.go:73", #[⟨2, .data⟩, ⟨3, .data⟩, ⟨1, .chain⟩], none⟩) rfl (fun Kx hK => ?_) ?_
        ·
          go_simp
          refine (Pro.specKey_any _ _ _ _ x.2.2.l x.2.2.s x.2.2.e x.2.2.n by' _ HP2.out.xo.reads HP2.out.names.rd (by have := HP2.out.xf.2; omega) HP2.out.bl).mono ?_
          rintro r z3 ⟨⟨K, kc, rfl, hO⟩, hb⟩
          have hk := kept_bel (c := c) hb
          have hc := cur_bel HP2.out.cur hb
          have HK3 : Hid (OwnL (w.heap.size + 1) z3 K (projB x.2.2.l by')) := ⟨Nat.le_trans (by have := HP2.out.hA; omega) hO.1, hO.2⟩
          have NX : Hid (K ≠ x.1) := fun e => by
            obtain ⟨_, _, ds, hx, _⟩ := HP2.out.xo
            have := hx.lt; have := hO.1; omega
          have HP3 : Hid (Pre w c gb A x by' z3) := HP2.out.keep hc hk
          have HM3 : Hid (AB (w.heap.size + 1) z3 z0.heap.size 1 [x]) := ab_kept HM2.out hk (by have := HL.out; omega)
          have HN3 : Hid (¬ blks z0.heap.size [x] K) := ne_one HK3.out HM3.out NX.out
          clear hO hb hk hc
          try dsimp only
          clear hHeld
          refine hK.out _ _ (HX.out _ HP3.out) (fun hHeld => ?_)
          clear hK Kx
          try go_frame
          refine wpAnyH_ready (rs := [6, 10]) (by kernel_rfl) (by simp) ?_
          refine AllReadyH.cons (o := ⟨some 18, .call { callee := .value (.func 30), args := #[.tmp 17, .const (.int .i64 5)], argTypes := #[54, 3] }, 3, "l11_group.go:73", #[⟨5, .data⟩, ⟨4, .chain⟩], none⟩) rfl (fun Kx hK => ?_) ?_
          ·
            go_simp
            refine (below_any c 5 _ HP3.out.cur (by decide) (by decide)).mono ?_
            rintro r z4 ⟨⟨b, rfl, h0, h1⟩, hc, hk⟩
            have FB : Hid (0 ≤ b ∧ b ≤ 4) := ⟨h0, by omega⟩
            have HP4 : Hid (Pre w c gb A x by' z4) := HP3.out.keep hc hk
            have HK4 : Hid (OwnL (w.heap.size + 1) z4 K (projB x.2.2.l by')) := ownL_kept HK3.out hk (by have := HL.out; omega)
            have HM4 : Hid (AB (w.heap.size + 1) z4 z0.heap.size 1 [x]) := ab_kept HM3.out hk (by have := HL.out; omega)
            have HN4 : Hid (¬ blks z0.heap.size [x] K) := HN3.out
            clear h0 h1 hc hk
            try dsimp only
            clear hHeld
            refine hK.out _ _ (HX.out _ HP4.out) (fun hHeld => ?_)
            clear hK Kx
            try go_frame
            refine wpAnyH_ready (rs := [9, 10]) (by kernel_rfl) (by simp) ?_
            refine AllReadyH.cons (o := ⟨some 21, .build 53 #[(0, .tmp 13), (1, .tmp 16), (2, .tmp 18), (3, .const (.int .i64 (-1))), (4, .tmp 20)], 53, "l11_group.go:73", #[⟨1, .data⟩, ⟨4, .data⟩, ⟨6, .data⟩, ⟨8, .data⟩], none⟩) rfl (fun Kx hK => ?_) ?_
            ·
              go_simp
              clear hHeld
              refine hK.out _ _ (HX.out _ HP4.out) (fun hHeld => ?_)
              clear hK Kx
              try go_frame
              refine rd1 10 ⟨some 6, .alloc 53, 0, "l11_group.go:73", #[], none⟩ (fun Kx hK => ?_)
              go_simp
              obtain ⟨z5, hz5⟩ : ∃ v, v = z4.alloc (.cells #[.int .i64 0, .slice none 0 0, .int .i64 0, .int .i64 0, .slice none 0 0] 53) := ⟨_, rfl⟩
              rw [← hz5]
              have hk : Kept c z4 z5 := by rw [hz5]; exact kept_bel (Go.Joins.below_alloc1 _ _)
              have hc : Cur z5 c := by rw [hz5]; exact HP4.out.cur.alloc _
              have HP5 : Hid (Pre w c gb A x by' z5) := HP4.out.keep hc hk
              have HK5 : Hid (OwnL (w.heap.size + 1) z5 K (projB x.2.2.l by')) := ownL_kept HK4.out hk (by have := HL.out; omega)
              have HM5 : Hid (AB (w.heap.size + 1) z5 z0.heap.size 1 [x]) := ab_kept HM4.out hk (by have := HL.out; omega)
              have HN5 : Hid (¬ blks z0.heap.size [x] K) := HN4.out
              have HO5 : Hid (Blk z5 z4.heap.size #[.int .i64 0, .slice none 0 0, .int .i64 0, .int .i64 0, .slice none 0 0] 53 ∧ w.heap.size < z4.heap.size) := ⟨by rw [hz5]; exact Blk.new _ _ _, by have := HP4.out.hA; omega⟩
              clear hz5 hk hc
              clear hHeld
              refine hK.out _ _ (HX.out _ HP5.out) (fun hHeld => ?_)
              clear hK Kx
              try go_frame
              refine rd1 11 ⟨none, .store 53 (.tmp 6) (.tmp 21), 0, "l11_group.go:73", #[⟨10, .data⟩, ⟨9, .data⟩, ⟨6, .chain⟩, ⟨0, .phase⟩, ⟨1, .phase⟩, ⟨2, .phase⟩, ⟨3, .phase⟩, ⟨4, .phase⟩, ⟨5, .phase⟩, ⟨6, .phase⟩, ⟨7, .phase⟩, ⟨8, .phase⟩, ⟨9, .phase⟩, ⟨10, .phase⟩], none⟩ (fun Kx hK => ?_)
              have n0' : z5.cell? ⟨z4.heap.size, 0, none⟩ = some (.int .i64 0) := HO5.out.1.cell 0
              have m0' := HO5.out.1.frozen 0
              have n1' : z5.cell? ⟨z4.heap.size, 1, none⟩ = some (.slice none 0 0) := HO5.out.1.cell 1
              have m1' := HO5.out.1.frozen 1
              have n2' : z5.cell? ⟨z4.heap.size, 2, none⟩ = some (.int .i64 0) := HO5.out.1.cell 2
              have m2' := HO5.out.1.frozen 2
              have n3' : z5.cell? ⟨z4.heap.size, 3, none⟩ = some (.int .i64 0) := HO5.out.1.cell 3
              have m3' := HO5.out.1.frozen 3
              have n4' : z5.cell? ⟨z4.heap.size, 4, none⟩ = some (.slice none 0 0) := HO5.out.1.cell 4
              have m4' := HO5.out.1.frozen 4
              go_simp
              clear n0' m0' n1' m1' n2' m2' n3' m3' n4' m4' hHeld
              have hz := HP5.out.put HO5.out.1 HO5.out.2 (.int .i64 n) (.slice (some ⟨K, 0, none⟩) (projB x.2.2.l by').length kc) (.int .i64 b) (.int .i64 (-1)) (.slice (some ⟨z0.heap.size, 0, none⟩) [x].length 1)
              refine hK.out _ _ (HX.out _ hz) (fun hHeld => ?_)
              clear hK hz
              try go_frame
              refine wpAnyH_done (by kernel_rfl) ?_ _
              go_wp2_with fail
              go_meet
              exact ⟨_, n, b, K, kc, _, rfl, ⟨HP5.out.put HO5.out.1 HO5.out.2 _ _ _ _ _, put5 HO5.out.1 _ _ _ _ _, HO5.out.2, ownL_moved HK5.out (moved5 HO5.out.1 _ _ _ _ _), ab_movedX HM5.out (moved5 HO5.out.1 _ _ _ _ _), HN5.out, fun y hy => by rw [List.mem_singleton.1 (show y ∈ [x.2.2] from hy)]; exact HP5.out.xf⟩, FN.out, FB.out⟩
            refine AllReadyH.cons (o := ⟨some 6, .alloc 53, 0, "l11_group.go:73", #[], none⟩) rfl (fun Kx hK => ?_) AllReadyH.nil
            go_simp
            obtain ⟨z5, hz5⟩ : ∃ v, v = z4.alloc (.cells #[.int .i64 0, .slice none 0 0, .int .i64 0, .int .i64 0, .slice none 0 0] 53) := ⟨_, rfl⟩
            rw [← hz5]
            have hk : Kept c z4 z5 := by rw [hz5]; exact kept_bel (Go.Joins.below_alloc1 _ _)
            have hc : Cur z5 c := by rw [hz5]; exact HP4.out.cur.alloc _
            have HP5 : Hid (Pre w c gb A x by' z5) := HP4.out.keep hc hk
            have HK5 : Hid (OwnL (w.heap.size + 1) z5 K (projB x.2.2.l by')) := ownL_kept HK4.out hk (by have := HL.out; omega)
            have HM5 : Hid (AB (w.heap.size + 1) z5 z0.heap.size 1 [x]) := ab_kept HM4.out hk (by have := HL.out; omega)
            have HN5 : Hid (¬ blks z0.heap.size [x] K) := HN4.out
            have HO5 : Hid (Blk z5 z4.heap.size #[.int .i64 0, .slice none 0 0, .int .i64 0, .int .i64 0, .slice none 0 0] 53 ∧ w.heap.size < z4.heap.size) := ⟨by rw [hz5]; exact Blk.new _ _ _, by have := HP4.out.hA; omega⟩
            clear hz5 hk hc
            clear hHeld
            refine hK.out _ _ (HX.out _ HP5.out) (fun hHeld => ?_)
            clear hK Kx
            try go_frame
            refine rd1 9 ⟨some 21, .build 53 #[(0, .tmp 13), (1, .tmp 16), (2, .tmp 18), (3, .const (.int .i64 (-1))), (4, .tmp 20)], 53, "l11_group.go:73", #[⟨1, .data⟩, ⟨4, .data⟩, ⟨6, .data⟩, ⟨8, .data⟩], none⟩ (fun Kx hK => ?_)
            go_simp
            clear hHeld
            refine hK.out _ _ (HX.out _ HP5.out) (fun hHeld => ?_)
            clear hK Kx
            try go_frame
            refine rd1 11 ⟨none, .store 53 (.tmp 6) (.tmp 21), 0, "l11_group.go:73", #[⟨10, .data⟩, ⟨9, .data⟩, ⟨6, .chain⟩, ⟨0, .phase⟩, ⟨1, .phase⟩, ⟨2, .phase⟩, ⟨3, .phase⟩, ⟨4, .phase⟩, ⟨5, .phase⟩, ⟨6, .phase⟩, ⟨7, .phase⟩, ⟨8, .phase⟩, ⟨9, .phase⟩, ⟨10, .phase⟩], none⟩ (fun Kx hK => ?_)
            have n0' : z5.cell? ⟨z4.heap.size, 0, none⟩ = some (.int .i64 0) := HO5.out.1.cell 0
            have m0' := HO5.out.1.frozen 0
            have n1' : z5.cell? ⟨z4.heap.size, 1, none⟩ = some (.slice none 0 0) := HO5.out.1.cell 1
            have m1' := HO5.out.1.frozen 1
            have n2' : z5.cell? ⟨z4.heap.size, 2, none⟩ = some (.int .i64 0) := HO5.out.1.cell 2
            have m2' := HO5.out.1.frozen 2
            have n3' : z5.cell? ⟨z4.heap.size, 3, none⟩ = some (.int .i64 0) := HO5.out.1.cell 3
            have m3' := HO5.out.1.frozen 3
            have n4' : z5.cell? ⟨z4.heap.size, 4, none⟩ = some (.slice none 0 0) := HO5.out.1.cell 4
            have m4' := HO5.out.1.frozen 4
            go_simp
            clear n0' m0' n1' m1' n2' m2' n3' m3' n4' m4' hHeld
            have hz := HP5.out.put HO5.out.1 HO5.out.2 (.int .i64 n) (.slice (some ⟨K, 0, none⟩) (projB x.2.2.l by').length kc) (.int .i64 b) (.int .i64 (-1)) (.slice (some ⟨z0.heap.size, 0, none⟩) [x].length 1)
            refine hK.out _ _ (HX.out _ hz) (fun hHeld => ?_)
            clear hK hz
            try go_frame
            refine wpAnyH_done (by kernel_rfl) ?_ _
            go_wp2_with fail
            go_meet
            exact ⟨_, n, b, K, kc, _, rfl, ⟨HP5.out.put HO5.out.1 HO5.out.2 _ _ _ _ _, put5 HO5.out.1 _ _ _ _ _, HO5.out.2, ownL_moved HK5.out (moved5 HO5.out.1 _ _ _ _ _), ab_movedX HM5.out (moved5 HO5.out.1 _ _ _ _ _), HN5.out, fun y hy => by rw [List.mem_singleton.1 (show y ∈ [x.2.2] from hy)]; exact HP5.out.xf⟩, FN.out, FB.out⟩
          refine AllReadyH.cons (o := ⟨some 6, .alloc 53, 0, "l11_group.go:73", #[], none⟩) rfl (fun Kx hK => ?_) AllReadyH.nil
          go_simp
          obtain ⟨z4, hz4⟩ : ∃ v, v = z3.alloc (.cells #[.int .i64 0, .slice none 0 0, .int .i64 0, .int .i64 0, .slice none 0 0] 53) := ⟨_, rfl⟩
          rw [← hz4]
          have hk : Kept c z3 z4 := by rw [hz4]; exact kept_bel (Go.Joins.below_alloc1 _ _)
          have hc : Cur z4 c := by rw [hz4]; exact HP3.out.cur.alloc _
          have HP4 : Hid (Pre w c gb A x by' z4) := HP3.out.keep hc hk
          have HK4 : Hid (OwnL (w.heap.size + 1) z4 K (projB x.2.2.l by')) := ownL_kept HK3.out hk (by have := HL.out; omega)
          have HM4 : Hid (AB (w.heap.size + 1) z4 z0.heap.size 1 [x]) := ab_kept HM3.out hk (by have := HL.out; omega)
          have HN4 : Hid (¬ blks z0.heap.size [x] K) := HN3.out
          have HO4 : Hid (Blk z4 z3.heap.size #[.int .i64 0, .slice none 0 0, .int .i64 0, .int .i64 0, .slice none 0 0] 53 ∧ w.heap.size < z3.heap.size) := ⟨by rw [hz4]; exact Blk.new _ _ _, by have := HP3.out.hA; omega⟩
          clear hz4 hk hc
          clear hHeld
          refine hK.out _ _ (HX.out _ HP4.out) (fun hHeld => ?_)
          clear hK Kx
          try go_frame
          refine rd1 6 ⟨some 18, .call { callee := .value (.func 30), args := #[.tmp 17, .const (.int .i64 5)], argTypes := #[54, 3] }, 3, "l11_group.go:73", #[⟨5, .data⟩, ⟨4, .chain⟩], none⟩ (fun Kx hK => ?_)
          go_simp
          refine (below_any c 5 _ HP4.out.cur (by decide) (by decide)).mono ?_
          rintro r z5 ⟨⟨b, rfl, h0, h1⟩, hc, hk⟩
          have FB : Hid (0 ≤ b ∧ b ≤ 4) := ⟨h0, by omega⟩
          have HP5 : Hid (Pre w c gb A x by' z5) := HP4.out.keep hc hk
          have HK5 : Hid (OwnL (w.heap.size + 1) z5 K (projB x.2.2.l by')) := ownL_kept HK4.out hk (by have := HL.out; omega)
          have HM5 : Hid (AB (w.heap.size + 1) z5 z0.heap.size 1 [x]) := ab_kept HM4.out hk (by have := HL.out; omega)
          have HO5 : Hid (Blk z5 z3.heap.size #[.int .i64 0, .slice none 0 0, .int .i64 0, .int .i64 0, .slice none 0 0] 53 ∧ w.heap.size < z3.heap.size) := ⟨blk_kept HO4.out.1 hk (by have := HL.out; have := HO4.out.2; omega), HO4.out.2⟩
          have HN5 : Hid (¬ blks z0.heap.size [x] K) := HN4.out
          clear h0 h1 hc hk
          try dsimp only
          clear hHeld
          refine hK.out _ _ (HX.out _ HP5.out) (fun hHeld => ?_)
          clear hK Kx
          try go_frame
          refine rd1 9 ⟨some 21, .build 53 #[(0, .tmp 13), (1, .tmp 16), (2, .tmp 18), (3, .const (.int .i64 (-1))), (4, .tmp 20)], 53, "l11_group.go:73", #[⟨1, .data⟩, ⟨4, .data⟩, ⟨6, .data⟩, ⟨8, .data⟩], none⟩ (fun Kx hK => ?_)
          go_simp
          clear hHeld
          refine hK.out _ _ (HX.out _ HP5.out) (fun hHeld => ?_)
          clear hK Kx
          try go_frame
          refine rd1 11 ⟨none, .store 53 (.tmp 6) (.tmp 21), 0, "l11_group.go:73", #[⟨10, .data⟩, ⟨9, .data⟩, ⟨6, .chain⟩, ⟨0, .phase⟩, ⟨1, .phase⟩, ⟨2, .phase⟩, ⟨3, .phase⟩, ⟨4, .phase⟩, ⟨5, .phase⟩, ⟨6, .phase⟩, ⟨7, .phase⟩, ⟨8, .phase⟩, ⟨9, .phase⟩, ⟨10, .phase⟩], none⟩ (fun Kx hK => ?_)
          have n0' : z5.cell? ⟨z3.heap.size, 0, none⟩ = some (.int .i64 0) := HO5.out.1.cell 0
          have m0' := HO5.out.1.frozen 0
          have n1' : z5.cell? ⟨z3.heap.size, 1, none⟩ = some (.slice none 0 0) := HO5.out.1.cell 1
          have m1' := HO5.out.1.frozen 1
          have n2' : z5.cell? ⟨z3.heap.size, 2, none⟩ = some (.int .i64 0) := HO5.out.1.cell 2
          have m2' := HO5.out.1.frozen 2
          have n3' : z5.cell? ⟨z3.heap.size, 3, none⟩ = some (.int .i64 0) := HO5.out.1.cell 3
          have m3' := HO5.out.1.frozen 3
          have n4' : z5.cell? ⟨z3.heap.size, 4, none⟩ = some (.slice none 0 0) := HO5.out.1.cell 4
          have m4' := HO5.out.1.frozen 4
          go_simp
          clear n0' m0' n1' m1' n2' m2' n3' m3' n4' m4' hHeld
          have hz := HP5.out.put HO5.out.1 HO5.out.2 (.int .i64 n) (.slice (some ⟨K, 0, none⟩) (projB x.2.2.l by').length kc) (.int .i64 b) (.int .i64 (-1)) (.slice (some ⟨z0.heap.size, 0, none⟩) [x].length 1)
          refine hK.out _ _ (HX.out _ hz) (fun hHeld => ?_)
          clear hK hz
          try go_frame
          refine wpAnyH_done (by kernel_rfl) ?_ _
          go_wp2_with fail
          go_meet
          exact ⟨_, n, b, K, kc, _, rfl, ⟨HP5.out.put HO5.out.1 HO5.out.2 _ _ _ _ _, put5 HO5.out.1 _ _ _ _ _, HO5.out.2, ownL_moved HK5.out (moved5 HO5.out.1 _ _ _ _ _), ab_movedX HM5.out (moved5 HO5.out.1 _ _ _ _ _), HN5.out, fun y hy => by rw [List.mem_singleton.1 (show y ∈ [x.2.2] from hy)]; exact HP5.out.xf⟩, FN.out, FB.out⟩
        refine AllReadyH.cons (o := ⟨some 6, .alloc 53, 0, "l11_group.go:73", #[], none⟩) rfl (fun Kx hK => ?_) AllReadyH.nil
        go_simp
        obtain ⟨z3, hz3⟩ : ∃ v, v = z2.alloc (.cells #[.int .i64 0, .slice none 0 0, .int .i64 0, .int .i64 0, .slice none 0 0] 53) := ⟨_, rfl⟩
        rw [← hz3]
        have hk : Kept c z2 z3 := by rw [hz3]; exact kept_bel (Go.Joins.below_alloc1 _ _)
        have hc : Cur z3 c := by rw [hz3]; exact HP2.out.cur.alloc _
        have HP3 : Hid (Pre w c gb A x by' z3) := HP2.out.keep hc hk
        have HM3 : Hid (AB (w.heap.size + 1) z3 z0.heap.size 1 [x]) := ab_kept HM2.out hk (by have := HL.out; omega)
        have HO3 : Hid (Blk z3 z2.heap.size #[.int .i64 0, .slice none 0 0, .int .i64 0, .int .i64 0, .slice none 0 0] 53 ∧ w.heap.size < z2.heap.size) := ⟨by rw [hz3]; exact Blk.new _ _ _, by have := HP2.out.hA; omega⟩
        clear hz3 hk hc
        clear hHeld
        refine hK.out _ _ (HX.out _ HP3.out) (fun hHeld => ?_)
        clear hK Kx
        try go_frame
        refine rd1 4 ⟨some 16, .call { callee := .value (.func 35), args := #[.tmp 14, .tmp 15], argTypes := #[27, 28] }, 25, "l11_group.go:73", #[⟨2, .data⟩, ⟨3, .data⟩, ⟨1, .chain⟩], none⟩ (fun Kx hK => ?_)
        go_simp
        refine (Pro.specKey_any _ _ _ _ x.2.2.l x.2.2.s x.2.2.e x.2.2.n by' _ HP3.out.xo.reads HP3.out.names.rd (by have := HP3.out.xf.2; omega) HP3.out.bl).mono ?_
        rintro r z4 ⟨⟨K, kc, rfl, hO⟩, hb⟩
        have hk := kept_bel (c := c) hb
        have hc := cur_bel HP3.out.cur hb
        have HK4 : Hid (OwnL (w.heap.size + 1) z4 K (projB x.2.2.l by')) := ⟨Nat.le_trans (by have := HP3.out.hA; omega) hO.1, hO.2⟩
        have NX : Hid (K ≠ x.1) := fun e => by
          obtain ⟨_, _, ds, hx, _⟩ := HP3.out.xo
          have := hx.lt; have := hO.1; omega
        have HP4 : Hid (Pre w c gb A x by' z4) := HP3.out.keep hc hk
        have HM4 : Hid (AB (w.heap.size + 1) z4 z0.heap.size 1 [x]) := ab_kept HM3.out hk (by have := HL.out; omega)
        have HO4 : Hid (Blk z4 z2.heap.size #[.int .i64 0, .slice none 0 0, .int .i64 0, .int .i64 0, .slice none 0 0] 53 ∧ w.heap.size < z2.heap.size) := ⟨blk_kept HO3.out.1 hk (by have := HL.out; have := HO3.out.2; omega), HO3.out.2⟩
        have HN4 : Hid (¬ blks z0.heap.size [x] K) := ne_one HK4.out HM4.out NX.out
        clear hO hb hk hc
        try dsimp only
        clear hHeld
        refine hK.out _ _ (HX.out _ HP4.out) (fun hHeld => ?_)
        clear hK Kx
        try go_frame
        refine rd1 6 ⟨some 18, .call { callee := .value (.func 30), args := #[.tmp 17, .const (.int .i64 5)], argTypes := #[54, 3] }, 3, "l11_group.go:73", #[⟨5, .data⟩, ⟨4, .chain⟩], none⟩ (fun Kx hK => ?_)
        go_simp
        refine (below_any c 5 _ HP4.out.cur (by decide) (by decide)).mono ?_
        rintro r z5 ⟨⟨b, rfl, h0, h1⟩, hc, hk⟩
        have FB : Hid (0 ≤ b ∧ b ≤ 4) := ⟨h0, by omega⟩
        have HP5 : Hid (Pre w c gb A x by' z5) := HP4.out.keep hc hk
        have HK5 : Hid (OwnL (w.heap.size + 1) z5 K (projB x.2.2.l by')) := ownL_kept HK4.out hk (by have := HL.out; omega)
        have HM5 : Hid (AB (w.heap.size + 1) z5 z0.heap.size 1 [x]) := ab_kept HM4.out hk (by have := HL.out; omega)
        have HO5 : Hid (Blk z5 z2.heap.size #[.int .i64 0, .slice none 0 0, .int .i64 0, .int .i64 0, .slice none 0 0] 53 ∧ w.heap.size < z2.heap.size) := ⟨blk_kept HO4.out.1 hk (by have := HL.out; have := HO4.out.2; omega), HO4.out.2⟩
        have HN5 : Hid (¬ blks z0.heap.size [x] K) := HN4.out
        clear h0 h1 hc hk
        try dsimp only
        clear hHeld
        refine hK.out _ _ (HX.out _ HP5.out) (fun hHeld => ?_)
        clear hK Kx
        try go_frame
        refine rd1 9 ⟨some 21, .build 53 #[(0, .tmp 13), (1, .tmp 16), (2, .tmp 18), (3, .const (.int .i64 (-1))), (4, .tmp 20)], 53, "l11_group.go:73", #[⟨1, .data⟩, ⟨4, .data⟩, ⟨6, .data⟩, ⟨8, .data⟩], none⟩ (fun Kx hK => ?_)
        go_simp
        clear hHeld
        refine hK.out _ _ (HX.out _ HP5.out) (fun hHeld => ?_)
        clear hK Kx
        try go_frame
        refine rd1 11 ⟨none, .store 53 (.tmp 6) (.tmp 21), 0, "l11_group.go:73", #[⟨10, .data⟩, ⟨9, .data⟩, ⟨6, .chain⟩, ⟨0, .phase⟩, ⟨1, .phase⟩, ⟨2, .phase⟩, ⟨3, .phase⟩, ⟨4, .phase⟩, ⟨5, .phase⟩, ⟨6, .phase⟩, ⟨7, .phase⟩, ⟨8, .phase⟩, ⟨9, .phase⟩, ⟨10, .phase⟩], none⟩ (fun Kx hK => ?_)
        have n0' : z5.cell? ⟨z2.heap.size, 0, none⟩ = some (.int .i64 0) := HO5.out.1.cell 0
        have m0' := HO5.out.1.frozen 0
        have n1' : z5.cell? ⟨z2.heap.size, 1, none⟩ = some (.slice none 0 0) := HO5.out.1.cell 1
        have m1' := HO5.out.1.frozen 1
        have n2' : z5.cell? ⟨z2.heap.size, 2, none⟩ = some (.int .i64 0) := HO5.out.1.cell 2
        have m2' := HO5.out.1.frozen 2
        have n3' : z5.cell? ⟨z2.heap.size, 3, none⟩ = some (.int .i64 0) := HO5.out.1.cell 3
        have m3' := HO5.out.1.frozen 3
        have n4' : z5.cell? ⟨z2.heap.size, 4, none⟩ = some (.slice none 0 0) := HO5.out.1.cell 4
        have m4' := HO5.out.1.frozen 4
        go_simp
        clear n0' m0' n1' m1' n2' m2' n3' m3' n4' m4' hHeld
        have hz := HP5.out.put HO5.out.1 HO5.out.2 (.int .i64 n) (.slice (some ⟨K, 0, none⟩) (projB x.2.2.l by').length kc) (.int .i64 b) (.int .i64 (-1)) (.slice (some ⟨z0.heap.size, 0, none⟩) [x].length 1)
        refine hK.out _ _ (HX.out _ hz) (fun hHeld => ?_)
        clear hK hz
        try go_frame
        refine wpAnyH_done (by kernel_rfl) ?_ _
        go_wp2_with fail
        go_meet
        exact ⟨_, n, b, K, kc, _, rfl, ⟨HP5.out.put HO5.out.1 HO5.out.2 _ _ _ _ _, put5 HO5.out.1 _ _ _ _ _, HO5.out.2, ownL_moved HK5.out (moved5 HO5.out.1 _ _ _ _ _), ab_movedX HM5.out (moved5 HO5.out.1 _ _ _ _ _), HN5.out, fun y hy => by rw [List.mem_singleton.1 (show y ∈ [x.2.2] from hy)]; exact HP5.out.xf⟩, FN.out, FB.out⟩
      refine AllReadyH.cons (o := ⟨some 6, .alloc 53, 0, "l11_group.go:73", #[], none⟩) rfl (fun Kx hK => ?_) AllReadyH.nil
      go_simp
      obtain ⟨z2, hz2⟩ : ∃ v, v = z1.alloc (.cells #[.int .i64 0, .slice none 0 0, .int .i64 0, .int .i64 0, .slice none 0 0] 53) := ⟨_, rfl⟩
      rw [← hz2]
      have hk : Kept c z1 z2 := by rw [hz2]; exact kept_bel (Go.Joins.below_alloc1 _ _)
      have hc : Cur z2 c := by rw [hz2]; exact HP1.out.cur.alloc _
      have HP2 : Hid (Pre w c gb A x by' z2) := HP1.out.keep hc hk
      have HM2 : Hid (AB (w.heap.size + 1) z2 z0.heap.size 1 [x]) := ab_kept HM1.out hk (by have := HL.out; omega)
      have HO2 : Hid (Blk z2 z1.heap.size #[.int .i64 0, .slice none 0 0, .int .i64 0, .int .i64 0, .slice none 0 0] 53 ∧ w.heap.size < z1.heap.size) := ⟨by rw [hz2]; exact Blk.new _ _ _, by have := HP1.out.hA; omega⟩
      clear hz2 hk hc
      clear hHeld
      refine hK.out _ _ (HX.out _ HP2.out) (fun hHeld => ?_)
      clear hK Kx
      try go_frame
      refine rd1 1 ⟨some 13, .call { callee := .value (.func 30), args := #[.tmp 12, .const (.int .i64 5)], argTypes := #[54, 3] }, 3, "l11_group.go:73", #[⟨0, .data⟩], none⟩ (fun Kx hK => ?_)
      go_simp
      refine (below_any c 5 _ HP2.out.cur (by decide) (by decide)).mono ?_
      rintro r z3 ⟨⟨n, rfl, h0, h1⟩, hc, hk⟩
      have FN : Hid (0 ≤ n ∧ n ≤ 4) := ⟨h0, by omega⟩
      have HP3 : Hid (Pre w c gb A x by' z3) := HP2.out.keep hc hk
      have HM3 : Hid (AB (w.heap.size + 1) z3 z0.heap.size 1 [x]) := ab_kept HM2.out hk (by have := HL.out; omega)
      have HO3 : Hid (Blk z3 z1.heap.size #[.int .i64 0, .slice none 0 0, .int .i64 0, .int .i64 0, .slice none 0 0] 53 ∧ w.heap.size < z1.heap.size) := ⟨blk_kept HO2.out.1 hk (by have := HL.out; have := HO2.out.2; omega), HO2.out.2⟩
      clear h0 h1 hc hk
      try dsimp only
      clear hHeld
      refine hK.out _ _ (HX.out _ HP3.out) (fun hHeld => ?_)
      clear hK Kx
      try go_frame
      refine rd1 4 ⟨some 16, .call { callee := .value (.func 35), args := #[.tmp 14, .tmp 15], argTypes := #[27, 28] }, 25, "l11_group.go:73", #[⟨2, .data⟩, ⟨3, .data⟩, ⟨1, .chain⟩], none⟩ (fun Kx hK => ?_)
      go_simp
      refine (Pro.specKey_any _ _ _ _ x.2.2.l x.2.2.s x.2.2.e x.2.2.n by' _ HP3.out.xo.reads HP3.out.names.rd (by have := HP3.out.xf.2; omega) HP3.out.bl).mono ?_
      rintro r z4 ⟨⟨K, kc, rfl, hO⟩, hb⟩
      have hk := kept_bel (c := c) hb
      have hc := cur_bel HP3.out.cur hb
      have HK4 : Hid (OwnL (w.heap.size + 1) z4 K (projB x.2.2.l by')) := ⟨Nat.le_trans (by have := HP3.out.hA; omega) hO.1, hO.2⟩
      have NX : Hid (K ≠ x.1) := fun e => by
        obtain ⟨_, _, ds, hx, _⟩ := HP3.out.xo
        have := hx.lt; have := hO.1; omega
      have HP4 : Hid (Pre w c gb A x by' z4) := HP3.out.keep hc hk
      have HM4 : Hid (AB (w.heap.size + 1) z4 z0.heap.size 1 [x]) := ab_kept HM3.out hk (by have := HL.out; omega)
      have HO4 : Hid (Blk z4 z1.heap.size #[.int .i64 0, .slice none 0 0, .int .i64 0, .int .i64 0, .slice none 0 0] 53 ∧ w.heap.size < z1.heap.size) := ⟨blk_kept HO3.out.1 hk (by have := HL.out; have := HO3.out.2; omega), HO3.out.2⟩
      have HN4 : Hid (¬ blks z0.heap.size [x] K) := ne_one HK4.out HM4.out NX.out
      clear hO hb hk hc
      try dsimp only
      clear hHeld
      refine hK.out _ _ (HX.out _ HP4.out) (fun hHeld => ?_)
      clear hK Kx
      try go_frame
      refine rd1 6 ⟨some 18, .call { callee := .value (.func 30), args := #[.tmp 17, .const (.int .i64 5)], argTypes := #[54, 3] }, 3, "l11_group.go:73", #[⟨5, .data⟩, ⟨4, .chain⟩], none⟩ (fun Kx hK => ?_)
      go_simp
      refine (below_any c 5 _ HP4.out.cur (by decide) (by decide)).mono ?_
      rintro r z5 ⟨⟨b, rfl, h0, h1⟩, hc, hk⟩
      have FB : Hid (0 ≤ b ∧ b ≤ 4) := ⟨h0, by omega⟩
      have HP5 : Hid (Pre w c gb A x by' z5) := HP4.out.keep hc hk
      have HK5 : Hid (OwnL (w.heap.size + 1) z5 K (projB x.2.2.l by')) := ownL_kept HK4.out hk (by have := HL.out; omega)
      have HM5 : Hid (AB (w.heap.size + 1) z5 z0.heap.size 1 [x]) := ab_kept HM4.out hk (by have := HL.out; omega)
      have HO5 : Hid (Blk z5 z1.heap.size #[.int .i64 0, .slice none 0 0, .int .i64 0, .int .i64 0, .slice none 0 0] 53 ∧ w.heap.size < z1.heap.size) := ⟨blk_kept HO4.out.1 hk (by have := HL.out; have := HO4.out.2; omega), HO4.out.2⟩
      have HN5 : Hid (¬ blks z0.heap.size [x] K) := HN4.out
      clear h0 h1 hc hk
      try dsimp only
      clear hHeld
      refine hK.out _ _ (HX.out _ HP5.out) (fun hHeld => ?_)
      clear hK Kx
      try go_frame
      refine rd1 9 ⟨some 21, .build 53 #[(0, .tmp 13), (1, .tmp 16), (2, .tmp 18), (3, .const (.int .i64 (-1))), (4, .tmp 20)], 53, "l11_group.go:73", #[⟨1, .data⟩, ⟨4, .data⟩, ⟨6, .data⟩, ⟨8, .data⟩], none⟩ (fun Kx hK => ?_)
      go_simp
      clear hHeld
      refine hK.out _ _ (HX.out _ HP5.out) (fun hHeld => ?_)
      clear hK Kx
      try go_frame
      refine rd1 11 ⟨none, .store 53 (.tmp 6) (.tmp 21), 0, "l11_group.go:73", #[⟨10, .data⟩, ⟨9, .data⟩, ⟨6, .chain⟩, ⟨0, .phase⟩, ⟨1, .phase⟩, ⟨2, .phase⟩, ⟨3, .phase⟩, ⟨4, .phase⟩, ⟨5, .phase⟩, ⟨6, .phase⟩, ⟨7, .phase⟩, ⟨8, .phase⟩, ⟨9, .phase⟩, ⟨10, .phase⟩], none⟩ (fun Kx hK => ?_)
      have n0' : z5.cell? ⟨z1.heap.size, 0, none⟩ = some (.int .i64 0) := HO5.out.1.cell 0
      have m0' := HO5.out.1.frozen 0
      have n1' : z5.cell? ⟨z1.heap.size, 1, none⟩ = some (.slice none 0 0) := HO5.out.1.cell 1
      have m1' := HO5.out.1.frozen 1
      have n2' : z5.cell? ⟨z1.heap.size, 2, none⟩ = some (.int .i64 0) := HO5.out.1.cell 2
      have m2' := HO5.out.1.frozen 2
      have n3' : z5.cell? ⟨z1.heap.size, 3, none⟩ = some (.int .i64 0) := HO5.out.1.cell 3
      have m3' := HO5.out.1.frozen 3
      have n4' : z5.cell? ⟨z1.heap.size, 4, none⟩ = some (.slice none 0 0) := HO5.out.1.cell 4
      have m4' := HO5.out.1.frozen 4
      go_simp
      clear n0' m0' n1' m1' n2' m2' n3' m3' n4' m4' hHeld
      have hz := HP5.out.put HO5.out.1 HO5.out.2 (.int .i64 n) (.slice (some ⟨K, 0, none⟩) (projB x.2.2.l by').length kc) (.int .i64 b) (.int .i64 (-1)) (.slice (some ⟨z0.heap.size, 0, none⟩) [x].length 1)
      refine hK.out _ _ (HX.out _ hz) (fun hHeld => ?_)
      clear hK hz
      try go_frame
      refine wpAnyH_done (by kernel_rfl) ?_ _
      go_wp2_with fail
      go_meet
      exact ⟨_, n, b, K, kc, _, rfl, ⟨HP5.out.put HO5.out.1 HO5.out.2 _ _ _ _ _, put5 HO5.out.1 _ _ _ _ _, HO5.out.2, ownL_moved HK5.out (moved5 HO5.out.1 _ _ _ _ _), ab_movedX HM5.out (moved5 HO5.out.1 _ _ _ _ _), HN5.out, fun y hy => by rw [List.mem_singleton.1 (show y ∈ [x.2.2] from hy)]; exact HP5.out.xf⟩, FN.out, FB.out⟩
    refine AllReadyH.cons (o := ⟨some 6, .alloc 53, 0, "l11_group.go:73", #[], none⟩) rfl (fun Kx hK => ?_) AllReadyH.nil
    go_simp
    obtain ⟨z1, hz1⟩ : ∃ v, v = z0.alloc (.cells #[.int .i64 0, .slice none 0 0, .int .i64 0, .int .i64 0, .slice none 0 0] 53) := ⟨_, rfl⟩
    rw [← hz1]
    have hk : Kept c z0 z1 := by rw [hz1]; exact kept_bel (Go.Joins.below_alloc1 _ _)
    have hc : Cur z1 c := by rw [hz1]; exact HP0.out.cur.alloc _
    have HP1 : Hid (Pre w c gb A x by' z1) := HP0.out.keep hc hk
    have HO1 : Hid (Blk z1 z0.heap.size #[.int .i64 0, .slice none 0 0, .int .i64 0, .int .i64 0, .slice none 0 0] 53 ∧ w.heap.size < z0.heap.size) := ⟨by rw [hz1]; exact Blk.new _ _ _, by have := HP0.out.hA; omega⟩
    clear hz1 hk hc
    clear hHeld
    refine hK.out _ _ (HX.out _ HP1.out) (fun hHeld => ?_)
    clear hK Kx
    try go_frame
    refine wpAnyH_ready (rs := [1, 8]) (by kernel_rfl) (by simp) ?_
    refine AllReadyH.cons (o := ⟨some 13, .call { callee := .value (.func 30), args := #[.tmp 12, .const (.int .i64 5)], argTypes := #[54, 3] }, 3, "l11_group.go:73", #[⟨0, .data⟩], none⟩) rfl (fun Kx hK => ?_) ?_
    ·
      go_simp
      refine (below_any c 5 _ HP1.out.cur (by decide) (by decide)).mono ?_
      rintro r z2 ⟨⟨n, rfl, h0, h1⟩, hc, hk⟩
      have FN : Hid (0 ≤ n ∧ n ≤ 4) := ⟨h0, by omega⟩
      have HP2 : Hid (Pre w c gb A x by' z2) := HP1.out.keep hc hk
      have HO2 : Hid (Blk z2 z0.heap.size #[.int .i64 0, .slice none 0 0, .int .i64 0, .int .i64 0, .slice none 0 0] 53 ∧ w.heap.size < z0.heap.size) := ⟨blk_kept HO1.out.1 hk (by have := HL.out; have := HO1.out.2; omega), HO1.out.2⟩
      clear h0 h1 hc hk
      try dsimp only
      clear hHeld
      refine hK.out _ _ (HX.out _ HP2.out) (fun hHeld => ?_)
      clear hK Kx
      try go_frame
      refine wpAnyH_ready (rs := [4, 8]) (by kernel_rfl) (by simp) ?_
      refine AllReadyH.cons (o := ⟨some 16, .call { callee := .value (.func 35), args := #[.tmp 14, .tmp 15], argTypes := #[27, 28] }, 25, "l11_group.go:73", #[⟨2, .data⟩, ⟨3, .data⟩, ⟨1, .chain⟩], none⟩) rfl (fun Kx hK => ?_) ?_
      ·
        go_simp
        refine (Pro.specKey_any _ _ _ _ x.2.2.l x.2.2.s x.2.2.e x.2.2.n by' _ HP2.out.xo.reads HP2.out.names.rd (by have := HP2.out.xf.2; omega) HP2.out.bl).mono ?_
        rintro r z3 ⟨⟨K, kc, rfl, hO⟩, hb⟩
        have hk := kept_bel (c := c) hb
        have hc := cur_bel HP2.out.cur hb
        have HK3 : Hid (OwnL (w.heap.size + 1) z3 K (projB x.2.2.l by')) := ⟨Nat.le_trans (by have := HP2.out.hA; omega) hO.1, hO.2⟩
        have NX : Hid (K ≠ x.1) := fun e => by
          obtain ⟨_, _, ds, hx, _⟩ := HP2.out.xo
          have := hx.lt; have := hO.1; omega
        have HP3 : Hid (Pre w c gb A x by' z3) := HP2.out.keep hc hk
        have HO3 : Hid (Blk z3 z0.heap.size #[.int .i64 0, .slice none 0 0, .int .i64 0, .int .i64 0, .slice none 0 0] 53 ∧ w.heap.size < z0.heap.size) := ⟨blk_kept HO2.out.1 hk (by have := HL.out; have := HO2.out.2; omega), HO2.out.2⟩
        clear hO hb hk hc
        try dsimp only
        clear hHeld
        refine hK.out _ _ (HX.out _ HP3.out) (fun hHeld => ?_)
        clear hK Kx
        try go_frame
        refine wpAnyH_ready (rs := [6, 8]) (by kernel_rfl) (by simp) ?_
        refine AllReadyH.cons (o := ⟨some 18, .call { callee := .value (.func 30), args := #[.tmp 17, .const (.int .i64 5)], argTypes := #[54, 3] }, 3, "l11_group.go:73", #[⟨5, .data⟩, ⟨4, .chain⟩], none⟩) rfl (fun Kx hK => ?_) ?_
        ·
          go_simp
          refine (below_any c 5 _ HP3.out.cur (by decide) (by decide)).mono ?_
          rintro r z4 ⟨⟨b, rfl, h0, h1⟩, hc, hk⟩
          have FB : Hid (0 ≤ b ∧ b ≤ 4) := ⟨h0, by omega⟩
          have HP4 : Hid (Pre w c gb A x by' z4) := HP3.out.keep hc hk
          have HK4 : Hid (OwnL (w.heap.size + 1) z4 K (projB x.2.2.l by')) := ownL_kept HK3.out hk (by have := HL.out; omega)
          have HO4 : Hid (Blk z4 z0.heap.size #[.int .i64 0, .slice none 0 0, .int .i64 0, .int .i64 0, .slice none 0 0] 53 ∧ w.heap.size < z0.heap.size) := ⟨blk_kept HO3.out.1 hk (by have := HL.out; have := HO3.out.2; omega), HO3.out.2⟩
          clear h0 h1 hc hk
          try dsimp only
          clear hHeld
          refine hK.out _ _ (HX.out _ HP4.out) (fun hHeld => ?_)
          clear hK Kx
          try go_frame
          refine rd1 8 ⟨some 20, .buildSlice 35 1 #[(0, .tmp 19)], 35, "l11_group.go:73", #[⟨7, .data⟩], none⟩ (fun Kx hK => ?_)
          go_simp
          obtain ⟨z5, hz5⟩ : ∃ v, v = z4.alloc (.cells #[.slice (some ⟨x.1, 0, none⟩) x.2.2.l.length x.2.1, .int .i64 x.2.2.s, .int .i64 x.2.2.e, .string x.2.2.n] 27) := ⟨_, rfl⟩
          rw [← hz5]
          have hk : Kept c z4 z5 := by rw [hz5]; exact kept_bel (Go.Joins.below_alloc1 _ _)
          have hc : Cur z5 c := by rw [hz5]; exact HP4.out.cur.alloc _
          have HP5 : Hid (Pre w c gb A x by' z5) := HP4.out.keep hc hk
          have HK5 : Hid (OwnL (w.heap.size + 1) z5 K (projB x.2.2.l by')) := ownL_kept HK4.out hk (by have := HL.out; omega)
          have HO5 : Hid (Blk z5 z0.heap.size #[.int .i64 0, .slice none 0 0, .int .i64 0, .int .i64 0, .slice none 0 0] 53 ∧ w.heap.size < z0.heap.size) := ⟨blk_kept HO4.out.1 hk (by have := HL.out; have := HO4.out.2; omega), HO4.out.2⟩
          have HM5 : Hid (AB (w.heap.size + 1) z5 z4.heap.size 1 [x]) := AB.one (by rw [hz5]; exact Blk.new _ _ _) (by have := HP4.out.hA; omega) HP5.out.xo
          have HN5 : Hid (¬ blks z4.heap.size [x] K) := ne_one HK5.out HM5.out NX.out
          clear hz5 hk hc
          clear hHeld
          refine hK.out _ _ (HX.out _ HP5.out) (fun hHeld => ?_)
          clear hK Kx
          try go_frame
          refine rd1 9 ⟨some 21, .build 53 #[(0, .tmp 13), (1, .tmp 16), (2, .tmp 18), (3, .const (.int .i64 (-1))), (4, .tmp 20)], 53, "l11_group.go:73", #[⟨1, .data⟩, ⟨4, .data⟩, ⟨6, .data⟩, ⟨8, .data⟩], none⟩ (fun Kx hK => ?_)
          go_simp
          clear hHeld
          refine hK.out _ _ (HX.out _ HP5.out) (fun hHeld => ?_)
          clear hK Kx
          try go_frame
          refine rd1 11 ⟨none, .store 53 (.tmp 6) (.tmp 21), 0, "l11_group.go:73", #[⟨10, .data⟩, ⟨9, .data⟩, ⟨6, .chain⟩, ⟨0, .phase⟩, ⟨1, .phase⟩, ⟨2, .phase⟩, ⟨3, .phase⟩, ⟨4, .phase⟩, ⟨5, .phase⟩, ⟨6, .phase⟩, ⟨7, .phase⟩, ⟨8, .phase⟩, ⟨9, .phase⟩, ⟨10, .phase⟩], none⟩ (fun Kx hK => ?_)
          have n0' : z5.cell? ⟨z0.heap.size, 0, none⟩ = some (.int .i64 0) := HO5.out.1.cell 0
          have m0' := HO5.out.1.frozen 0
          have n1' : z5.cell? ⟨z0.heap.size, 1, none⟩ = some (.slice none 0 0) := HO5.out.1.cell 1
          have m1' := HO5.out.1.frozen 1
          have n2' : z5.cell? ⟨z0.heap.size, 2, none⟩ = some (.int .i64 0) := HO5.out.1.cell 2
          have m2' := HO5.out.1.frozen 2
          have n3' : z5.cell? ⟨z0.heap.size, 3, none⟩ = some (.int .i64 0) := HO5.out.1.cell 3
          have m3' := HO5.out.1.frozen 3
          have n4' : z5.cell? ⟨z0.heap.size, 4, none⟩ = some (.slice none 0 0) := HO5.out.1.cell 4
          have m4' := HO5.out.1.frozen 4
          go_simp
          clear n0' m0' n1' m1' n2' m2' n3' m3' n4' m4' hHeld
          have hz := HP5.out.put HO5.out.1 HO5.out.2 (.int .i64 n) (.slice (some ⟨K, 0, none⟩) (projB x.2.2.l by').length kc) (.int .i64 b) (.int .i64 (-1)) (.slice (some ⟨z4.heap.size, 0, none⟩) [x].length 1)
          refine hK.out _ _ (HX.out _ hz) (fun hHeld => ?_)
          clear hK hz
          try go_frame
          refine wpAnyH_done (by kernel_rfl) ?_ _
          go_wp2_with fail
          go_meet
          exact ⟨_, n, b, K, kc, _, rfl, ⟨HP5.out.put HO5.out.1 HO5.out.2 _ _ _ _ _, put5 HO5.out.1 _ _ _ _ _, HO5.out.2, ownL_moved HK5.out (moved5 HO5.out.1 _ _ _ _ _), ab_movedX HM5.out (moved5 HO5.out.1 _ _ _ _ _), HN5.out, fun y hy => by rw [List.mem_singleton.1 (show y ∈ [x.2.2] from hy)]; exact HP5.out.xf⟩, FN.out, FB.out⟩
        refine AllReadyH.cons (o := ⟨some 20, .buildSlice 35 1 #[(0, .tmp 19)], 35, "l11_group.go:73", #[⟨7, .data⟩], none⟩) rfl (fun Kx hK => ?_) AllReadyH.nil
        go_simp
        obtain ⟨z4, hz4⟩ : ∃ v, v = z3.alloc (.cells #[.slice (some ⟨x.1, 0, none⟩) x.2.2.l.length x.2.1, .int .i64 x.2.2.s, .int .i64 x.2.2.e, .string x.2.2.n] 27) := ⟨_, rfl⟩
        rw [← hz4]
        have hk : Kept c z3 z4 := by rw [hz4]; exact kept_bel (Go.Joins.below_alloc1 _ _)
        have hc : Cur z4 c := by rw [hz4]; exact HP3.out.cur.alloc _
        have HP4 : Hid (Pre w c gb A x by' z4) := HP3.out.keep hc hk
        have HK4 : Hid (OwnL (w.heap.size + 1) z4 K (projB x.2.2.l by')) := ownL_kept HK3.out hk (by have := HL.out; omega)
        have HO4 : Hid (Blk z4 z0.heap.size #[.int .i64 0, .slice none 0 0, .int .i64 0, .int .i64 0, .slice none 0 0] 53 ∧ w.heap.size < z0.heap.size) := ⟨blk_kept HO3.out.1 hk (by have := HL.out; have := HO3.out.2; omega), HO3.out.2⟩
        have HM4 : Hid (AB (w.heap.size + 1) z4 z3.heap.size 1 [x]) := AB.one (by rw [hz4]; exact Blk.new _ _ _) (by have := HP3.out.hA; omega) HP4.out.xo
        have HN4 : Hid (¬ blks z3.heap.size [x] K) := ne_one HK4.out HM4.out NX.out
        clear hz4 hk hc
        clear hHeld
        refine hK.out _ _ (HX.out _ HP4.out) (fun hHeld => ?_)
        clear hK Kx
        try go_frame
        refine rd1 6 ⟨some 18, .call { callee := .value (.func 30), args := #[.tmp 17, .const (.int .i64 5)], argTypes := #[54, 3] }, 3, "l11_group.go:73", #[⟨5, .data⟩, ⟨4, .chain⟩], none⟩ (fun Kx hK => ?_)
        go_simp
        refine (below_any c 5 _ HP4.out.cur (by decide) (by decide)).mono ?_
        rintro r z5 ⟨⟨b, rfl, h0, h1⟩, hc, hk⟩
        have FB : Hid (0 ≤ b ∧ b ≤ 4) := ⟨h0, by omega⟩
        have HP5 : Hid (Pre w c gb A x by' z5) := HP4.out.keep hc hk
        have HK5 : Hid (OwnL (w.heap.size + 1) z5 K (projB x.2.2.l by')) := ownL_kept HK4.out hk (by have := HL.out; omega)
        have HM5 : Hid (AB (w.heap.size + 1) z5 z3.heap.size 1 [x]) := ab_kept HM4.out hk (by have := HL.out; omega)
        have HO5 : Hid (Blk z5 z0.heap.size #[.int .i64 0, .slice none 0 0, .int .i64 0, .int .i64 0, .slice none 0 0] 53 ∧ w.heap.size < z0.heap.size) := ⟨blk_kept HO4.out.1 hk (by have := HL.out; have := HO4.out.2; omega), HO4.out.2⟩
        have HN5 : Hid (¬ blks z3.heap.size [x] K) := HN4.out
        clear h0 h1 hc hk
        try dsimp only
        clear hHeld
        refine hK.out _ _ (HX.out _ HP5.out) (fun hHeld => ?_)
        clear hK Kx
        try go_frame
        refine rd1 9 ⟨some 21, .build 53 #[(0, .tmp 13), (1, .tmp 16), (2, .tmp 18), (3, .const (.int .i64 (-1))), (4, .tmp 20)], 53, "l11_group.go:73", #[⟨1, .data⟩, ⟨4, .data⟩, ⟨6, .data⟩, ⟨8, .data⟩], none⟩ (fun Kx hK => ?_)
        go_simp
        clear hHeld
        refine hK.out _ _ (HX.out _ HP5.out) (fun hHeld => ?_)
        clear hK Kx
        try go_frame
        refine rd1 11 ⟨none, .store 53 (.tmp 6) (.tmp 21), 0, "l11_group.go:73", #[⟨10, .data⟩, ⟨9, .data⟩, ⟨6, .chain⟩, ⟨0, .phase⟩, ⟨1, .phase⟩, ⟨2, .phase⟩, ⟨3, .phase⟩, ⟨4, .phase⟩, ⟨5, .phase⟩, ⟨6, .phase⟩, ⟨7, .phase⟩, ⟨8, .phase⟩, ⟨9, .phase⟩, ⟨10, .phase⟩], none⟩ (fun Kx hK => ?_)
        have n0' : z5.cell? ⟨z0.heap.size, 0, none⟩ = some (.int .i64 0) := HO5.out.1.cell 0
        have m0' := HO5.out.1.frozen 0
        have n1' : z5.cell? ⟨z0.heap.size, 1, none⟩ = some (.slice none 0 0) := HO5.out.1.cell 1
        have m1' := HO5.out.1.frozen 1
        have n2' : z5.cell? ⟨z0.heap.size, 2, none⟩ = some (.int .i64 0) := HO5.out.1.cell 2
        have m2' := HO5.out.1.frozen 2
        have n3' : z5.cell? ⟨z0.heap.size, 3, none⟩ = some (.int .i64 0) := HO5.out.1.cell 3
        have m3' := HO5.out.1.frozen 3
        have n4' : z5.cell? ⟨z0.heap.size, 4, none⟩ = some (.slice none 0 0) := HO5.out.1.cell 4
        have m4' := HO5.out.1.frozen 4
        go_simp
        clear n0' m0' n1' m1' n2' m2' n3' m3' n4' m4' hHeld
        have hz := HP5.out.put HO5.out.1 HO5.out.2 (.int .i64 n) (.slice (some ⟨K, 0, none⟩) (projB x.2.2.l by').length kc) (.int .i64 b) (.int .i64 (-1)) (.slice (some ⟨z3.heap.size, 0, none⟩) [x].length 1)
        refine hK.out _ _ (HX.out _ hz) (fun hHeld => ?_)
        clear hK hz
        try go_frame
        refine wpAnyH_done (by kernel_rfl) ?_ _
        go_wp2_with fail
        go_meet
        exact ⟨_, n, b, K, kc, _, rfl, ⟨HP5.out.put HO5.out.1 HO5.out.2 _ _ _ _ _, put5 HO5.out.1 _ _ _ _ _, HO5.out.2, ownL_moved HK5.out (moved5 HO5.out.1 _ _ _ _ _), ab_movedX HM5.out (moved5 HO5.out.1 _ _ _ _ _), HN5.out, fun y hy => by rw [List.mem_singleton.1 (show y ∈ [x.2.2] from hy)]; exact HP5.out.xf⟩, FN.out, FB.out⟩
      refine AllReadyH.cons (o := ⟨some 20, .buildSlice 35 1 #[(0, .tmp 19)], 35, "l11_group.go:73", #[⟨7, .data⟩], none⟩) rfl (fun Kx hK => ?_) AllReadyH.nil
      go_simp
      obtain ⟨z3, hz3⟩ : ∃ v, v = z2.alloc (.cells #[.slice (some ⟨x.1, 0, none⟩) x.2.2.l.length x.2.1, .int .i64 x.2.2.s, .int .i64 x.2.2.e, .string x.2.2.n] 27) := ⟨_, rfl⟩
      rw [← hz3]
      have hk : Kept c z2 z3 := by rw [hz3]; exact kept_bel (Go.Joins.below_alloc1 _ _)
      have hc : Cur z3 c := by rw [hz3]; exact HP2.out.cur.alloc _
      have HP3 : Hid (Pre w c gb A x by' z3) := HP2.out.keep hc hk
      have HO3 : Hid (Blk z3 z0.heap.size #[.int .i64 0, .slice none 0 0, .int .i64 0, .int .i64 0, .slice none 0 0] 53 ∧ w.heap.size < z0.heap.size) := ⟨blk_kept HO2.out.1 hk (by have := HL.out; have := HO2.out.2; omega), HO2.out.2⟩
      have HM3 : Hid (AB (w.heap.size + 1) z3 z2.heap.size 1 [x]) := AB.one (by rw [hz3]; exact Blk.new _ _ _) (by have := HP2.out.hA; omega) HP3.out.xo
      clear hz3 hk hc
      clear hHeld
      refine hK.out _ _ (HX.out _ HP3.out) (fun hHeld => ?_)
      clear hK Kx
      try go_frame
      refine rd1 4 ⟨some 16, .call { callee := .value (.func 35), args := #[.tmp 14, .tmp 15], argTypes := #[27, 28] }, 25, "l11_group.go:73", #[⟨2, .data⟩, ⟨3, .data⟩, ⟨1, .chain⟩], none⟩ (fun Kx hK => ?_)
      go_simp
      refine (Pro.specKey_any _ _ _ _ x.2.2.l x.2.2.s x.2.2.e x.2.2.n by' _ HP3.out.xo.reads HP3.out.names.rd (by have := HP3.out.xf.2; omega) HP3.out.bl).mono ?_
      rintro r z4 ⟨⟨K, kc, rfl, hO⟩, hb⟩
      have hk := kept_bel (c := c) hb
      have hc := cur_bel HP3.out.cur hb
      have HK4 : Hid (OwnL (w.heap.size + 1) z4 K (projB x.2.2.l by')) := ⟨Nat.le_trans (by have := HP3.out.hA; omega) hO.1, hO.2⟩
      have NX : Hid (K ≠ x.1) := fun e => by
        obtain ⟨_, _, ds, hx, _⟩ := HP3.out.xo
        have := hx.lt; have := hO.1; omega
      have HP4 : Hid (Pre w c gb A x by' z4) := HP3.out.keep hc hk
      have HM4 : Hid (AB (w.heap.size + 1) z4 z2.heap.size 1 [x]) := ab_kept HM3.out hk (by have := HL.out; omega)
      have HO4 : Hid (Blk z4 z0.heap.size #[.int .i64 0, .slice none 0 0, .int .i64 0, .int .i64 0, .slice none 0 0] 53 ∧ w.heap.size < z0.heap.size) := ⟨blk_kept HO3.out.1 hk (by have := HL.out; have := HO3.out.2; omega), HO3.out.2⟩
      have HN4 : Hid (¬ blks z2.heap.size [x] K) := ne_one HK4.out HM4.out NX.out
      clear hO hb hk hc
      try dsimp only
      clear hHeld
      refine hK.out _ _ (HX.out _ HP4.out) (fun hHeld => ?_)
      clear hK Kx
      try go_frame
      refine rd1 6 ⟨some 18, .call { callee := .value (.func 30), args := #[.tmp 17, .const (.int .i64 5)], argTypes := #[54, 3] }, 3, "l11_group.go:73", #[⟨5, .data⟩, ⟨4, .chain⟩], none⟩ (fun Kx hK => ?_)
      go_simp
      refine (below_any c 5 _ HP4.out.cur (by decide) (by decide)).mono ?_
      rintro r z5 ⟨⟨b, rfl, h0, h1⟩, hc, hk⟩
      have FB : Hid (0 ≤ b ∧ b ≤ 4) := ⟨h0, by omega⟩
      have HP5 : Hid (Pre w c gb A x by' z5) := HP4.out.keep hc hk
      have HK5 : Hid (OwnL (w.heap.size + 1) z5 K (projB x.2.2.l by')) := ownL_kept HK4.out hk (by have := HL.out; omega)
      have HM5 : Hid (AB (w.heap.size + 1) z5 z2.heap.size 1 [x]) := ab_kept HM4.out hk (by have := HL.out; omega)
      have HO5 : Hid (Blk z5 z0.heap.size #[.int .i64 0, .slice none 0 0, .int .i64 0, .int .i64 0, .slice none 0 0] 53 ∧ w.heap.size < z0.heap.size) := ⟨blk_kept HO4.out.1 hk (by have := HL.out; have := HO4.out.2; omega), HO4.out.2⟩
      have HN5 : Hid (¬ blks z2.heap.size [x] K) := HN4.out
      clear h0 h1 hc hk
      try dsimp only
      clear hHeld
      refine hK.out _ _ (HX.out _ HP5.out) (fun hHeld => ?_)
      clear hK Kx
      try go_frame
      refine rd1 9 ⟨some 21, .build 53 #[(0, .tmp 13), (1, .tmp 16), (2, .tmp 18), (3, .const (.int .i64 (-1))), (4, .tmp 20)], 53, "l11_group.go:73", #[⟨1, .data⟩, ⟨4, .data⟩, ⟨6, .data⟩, ⟨8, .data⟩], none⟩ (fun Kx hK => ?_)
      go_simp
      clear hHeld
      refine hK.out _ _ (HX.out _ HP5.out) (fun hHeld => ?_)
      clear hK Kx
      try go_frame
      refine rd1 11 ⟨none, .store 53 (.tmp 6) (.tmp 21), 0, "l11_group.go:73", #[⟨10, .data⟩, ⟨9, .data⟩, ⟨6, .chain⟩, ⟨0, .phase⟩, ⟨1, .phase⟩, ⟨2, .phase⟩, ⟨3, .phase⟩, ⟨4, .phase⟩, ⟨5, .phase⟩, ⟨6, .phase⟩, ⟨7, .phase⟩, ⟨8, .phase⟩, ⟨9, .phase⟩, ⟨10, .phase⟩], none⟩ (fun Kx hK => ?_)
      have n0' : z5.cell? ⟨z0.heap.size, 0, none⟩ = some (.int .i64 0) := HO5.out.1.cell 0
      have m0' := HO5.out.1.frozen 0
      have n1' : z5.cell? ⟨z0.heap.size, 1, none⟩ = some (.slice none 0 0) := HO5.out.1.cell 1
      have m1' := HO5.out.1.frozen 1
      have n2' : z5.cell? ⟨z0.heap.size, 2, none⟩ = some (.int .i64 0) := HO5.out.1.cell 2
      have m2' := HO5.out.1.frozen 2
      have n3' : z5.cell? ⟨z0.heap.size, 3, none⟩ = some (.int .i64 0) := HO5.out.1.cell 3
      have m3' := HO5.out.1.frozen 3
      have n4' : z5.cell? ⟨z0.heap.size, 4, none⟩ = some (.slice none 0 0) := HO5.out.1.cell 4
      have m4' := HO5.out.1.frozen 4
      go_simp
      clear n0' m0' n1' m1' n2' m2' n3' m3' n4' m4' hHeld
      have hz := HP5.out.put HO5.out.1 HO5.out.2 (.int .i64 n) (.slice (some ⟨K, 0, none⟩) (projB x.2.2.l by').length kc) (.int .i64 b) (.int .i64 (-1)) (.slice (some ⟨z2.heap.size, 0, none⟩) [x].length 1)
      refine hK.out _ _ (HX.out _ hz) (fun hHeld => ?_)
      clear hK hz
      try go_frame
      refine wpAnyH_done (by kernel_rfl) ?_ _
      go_wp2_with fail
      go_meet
      exact ⟨_, n, b, K, kc, _, rfl, ⟨HP5.out.put HO5.out.1 HO5.out.2 _ _ _ _ _, put5 HO5.out.1 _ _ _ _ _, HO5.out.2, ownL_moved HK5.out (moved5 HO5.out.1 _ _ _ _ _), ab_movedX HM5.out (moved5 HO5.out.1 _ _ _ _ _), HN5.out, fun y hy => by rw [List.mem_singleton.1 (show y ∈ [x.2.2] from hy)]; exact HP5.out.xf⟩, FN.out, FB.out⟩
    refine AllReadyH.cons (o := ⟨some 20, .buildSlice 35 1 #[(0, .tmp 19)], 35, "l11_group.go:73", #[⟨7, .data⟩], none⟩) rfl (fun Kx hK => ?_) AllReadyH.nil
    go_simp
    obtain ⟨z2, hz2⟩ : ∃ v, v = z1.alloc (.cells #[.slice (some ⟨x.1, 0, none⟩) x.2.2.l.length x.2.1, .int .i64 x.2.2.s, .int .i64 x.2.2.e, .string x.2.2.n] 27) := ⟨_, rfl⟩
    rw [← hz2]
    have hk : Kept c z1 z2 := by rw [hz2]; exact kept_bel (Go.Joins.below_alloc1 _ _)
    have hc : Cur z2 c := by rw [hz2]; exact HP1.out.cur.alloc _
    have HP2 : Hid (Pre w c gb A x by' z2) := HP1.out.keep hc hk
    have HO2 : Hid (Blk z2 z0.heap.size #[.int .i64 0, .slice none 0 0, .int .i64 0, .int .i64 0, .slice none 0 0] 53 ∧ w.heap.size < z0.heap.size) := ⟨blk_kept HO1.out.1 hk (by have := HL.out; have := HO1.out.2; omega), HO1.out.2⟩
    have HM2 : Hid (AB (w.heap.size + 1) z2 z1.heap.size 1 [x]) := AB.one (by rw [hz2]; exact Blk.new _ _ _) (by have := HP1.out.hA; omega) HP2.out.xo
    clear hz2 hk hc
    clear hHeld
    refine hK.out _ _ (HX.out _ HP2.out) (fun hHeld => ?_)
    clear hK Kx
    try go_frame
    refine rd1 1 ⟨some 13, .call { callee := .value (.func 30), args := #[.tmp 12, .const (.int .i64 5)], argTypes := #[54, 3] }, 3, "l11_group.go:73", #[⟨0, .data⟩], none⟩ (fun Kx hK => ?_)
    go_simp
    refine (below_any c 5 _ HP2.out.cur (by decide) (by decide)).mono ?_
    rintro r z3 ⟨⟨n, rfl, h0, h1⟩, hc, hk⟩
    have FN : Hid (0 ≤ n ∧ n ≤ 4) := ⟨h0, by omega⟩
    have HP3 : Hid (Pre w c gb A x by' z3) := HP2.out.keep hc hk
    have HM3 : Hid (AB (w.heap.size + 1) z3 z1.heap.size 1 [x]) := ab_kept HM2.out hk (by have := HL.out; omega)
    have HO3 : Hid (Blk z3 z0.heap.size #[.int .i64 0, .slice none 0 0, .int .i64 0, .int .i64 0, .slice none 0 0] 53 ∧ w.heap.size < z0.heap.size) := ⟨blk_kept HO2.out.1 hk (by have := HL.out; have := HO2.out.2; omega), HO2.out.2⟩
    clear h0 h1 hc hk
    try dsimp only
    clear hHeld
    refine hK.out _ _ (HX.out _ HP3.out) (fun hHeld => ?_)
    clear hK Kx
    try go_frame
    refine rd1 4 ⟨some 16, .call { callee := .value (.func 35), args := #[.tmp 14, .tmp 15], argTypes := #[27, 28] }, 25, "l11_group.go:73", #[⟨2, .data⟩, ⟨3, .data⟩, ⟨1, .chain⟩], none⟩ (fun Kx hK => ?_)
    go_simp
    refine (Pro.specKey_any _ _ _ _ x.2.2.l x.2.2.s x.2.2.e x.2.2.n by' _ HP3.out.xo.reads HP3.out.names.rd (by have := HP3.out.xf.2; omega) HP3.out.bl).mono ?_
    rintro r z4 ⟨⟨K, kc, rfl, hO⟩, hb⟩
    have hk := kept_bel (c := c) hb
    have hc := cur_bel HP3.out.cur hb
    have HK4 : Hid (OwnL (w.heap.size + 1) z4 K (projB x.2.2.l by')) := ⟨Nat.le_trans (by have := HP3.out.hA; omega) hO.1, hO.2⟩
    have NX : Hid (K ≠ x.1) := fun e => by
      obtain ⟨_, _, ds, hx, _⟩ := HP3.out.xo
      have := hx.lt; have := hO.1; omega
    have HP4 : Hid (Pre w c gb A x by' z4) := HP3.out.keep hc hk
    have HM4 : Hid (AB (w.heap.size + 1) z4 z1.heap.size 1 [x]) := ab_kept HM3.out hk (by have := HL.out; omega)
    have HO4 : Hid (Blk z4 z0.heap.size #[.int .i64 0, .slice none 0 0, .int .i64 0, .int .i64 0, .slice none 0 0] 53 ∧ w.heap.size < z0.heap.size) := ⟨blk_kept HO3.out.1 hk (by have := HL.out; have := HO3.out.2; omega), HO3.out.2⟩
    have HN4 : Hid (¬ blks z1.heap.size [x] K) := ne_one HK4.out HM4.out NX.out
    clear hO hb hk hc
    try dsimp only
    clear hHeld
    refine hK.out _ _ (HX.out _ HP4.out) (fun hHeld => ?_)
    clear hK Kx
    try go_frame
    refine rd1 6 ⟨some 18, .call { callee := .value (.func 30), args := #[.tmp 17, .const (.int .i64 5)], argTypes := #[54, 3] }, 3, "l11_group.go:73", #[⟨5, .data⟩, ⟨4, .chain⟩], none⟩ (fun Kx hK => ?_)
    go_simp
    refine (below_any c 5 _ HP4.out.cur (by decide) (by decide)).mono ?_
    rintro r z5 ⟨⟨b, rfl, h0, h1⟩, hc, hk⟩
    have FB : Hid (0 ≤ b ∧ b ≤ 4) := ⟨h0, by omega⟩
    have HP5 : Hid (Pre w c gb A x by' z5) := HP4.out.keep hc hk
    have HK5 : Hid (OwnL (w.heap.size + 1) z5 K (projB x.2.2.l by')) := ownL_kept HK4.out hk (by have := HL.out; omega)
    have HM5 : Hid (AB (w.heap.size + 1) z5 z1.heap.size 1 [x]) := ab_kept HM4.out hk (by have := HL.out; omega)
    have HO5 : Hid (Blk z5 z0.heap.size #[.int .i64 0, .slice none 0 0, .int .i64 0, .int .i64 0, .slice none 0 0] 53 ∧ w.heap.size < z0.heap.size) := ⟨blk_kept HO4.out.1 hk (by have := HL.out; have := HO4.out.2; omega), HO4.out.2⟩
    have HN5 : Hid (¬ blks z1.heap.size [x] K) := HN4.out
    clear h0 h1 hc hk
    try dsimp only
    clear hHeld
    refine hK.out _ _ (HX.out _ HP5.out) (fun hHeld => ?_)
    clear hK Kx
    try go_frame
    refine rd1 9 ⟨some 21, .build 53 #[(0, .tmp 13), (1, .tmp 16), (2, .tmp 18), (3, .const (.int .i64 (-1))), (4, .tmp 20)], 53, "l11_group.go:73", #[⟨1, .data⟩, ⟨4, .data⟩, ⟨6, .data⟩, ⟨8, .data⟩], none⟩ (fun Kx hK => ?_)
    go_simp
    clear hHeld
    refine hK.out _ _ (HX.out _ HP5.out) (fun hHeld => ?_)
    clear hK Kx
    try go_frame
    refine rd1 11 ⟨none, .store 53 (.tmp 6) (.tmp 21), 0, "l11_group.go:73", #[⟨10, .data⟩, ⟨9, .data⟩, ⟨6, .chain⟩, ⟨0, .phase⟩, ⟨1, .phase⟩, ⟨2, .phase⟩, ⟨3, .phase⟩, ⟨4, .phase⟩, ⟨5, .phase⟩, ⟨6, .phase⟩, ⟨7, .phase⟩, ⟨8, .phase⟩, ⟨9, .phase⟩, ⟨10, .phase⟩], none⟩ (fun Kx hK => ?_)
    have n0' : z5.cell? ⟨z0.heap.size, 0, none⟩ = some (.int .i64 0) := HO5.out.1.cell 0
    have m0' := HO5.out.1.frozen 0
    have n1' : z5.cell? ⟨z0.heap.size, 1, none⟩ = some (.slice none 0 0) := HO5.out.1.cell 1
    have m1' := HO5.out.1.frozen 1
    have n2' : z5.cell? ⟨z0.heap.size, 2, none⟩ = some (.int .i64 0) := HO5.out.1.cell 2
    have m2' := HO5.out.1.frozen 2
    have n3' : z5.cell? ⟨z0.heap.size, 3, none⟩ = some (.int .i64 0) := HO5.out.1.cell 3
    have m3' := HO5.out.1.frozen 3
    have n4' : z5.cell? ⟨z0.heap.size, 4, none⟩ = some (.slice none 0 0) := HO5.out.1.cell 4
    have m4' := HO5.out.1.frozen 4
    go_simp
    clear n0' m0' n1' m1' n2' m2' n3' m3' n4' m4' hHeld
    have hz := HP5.out.put HO5.out.1 HO5.out.2 (.int .i64 n) (.slice (some ⟨K, 0, none⟩) (projB x.2.2.l by').length kc) (.int .i64 b) (.int .i64 (-1)) (.slice (some ⟨z1.heap.size, 0, none⟩) [x].length 1)
    refine hK.out _ _ (HX.out _ hz) (fun hHeld => ?_)
    clear hK hz
    try go_frame
    refine wpAnyH_done (by kernel_rfl) ?_ _
    go_wp2_with fail
    go_meet
    exact ⟨_, n, b, K, kc, _, rfl, ⟨HP5.out.put HO5.out.1 HO5.out.2 _ _ _ _ _, put5 HO5.out.1 _ _ _ _ _, HO5.out.2, ownL_moved HK5.out (moved5 HO5.out.1 _ _ _ _ _), ab_movedX HM5.out (moved5 HO5.out.1 _ _ _ _ _), HN5.out, fun y hy => by rw [List.mem_singleton.1 (show y ∈ [x.2.2] from hy)]; exact HP5.out.xf⟩, FN.out, FB.out⟩
  case rest =>
    obtain ⟨G, n, b, K0, kc0, M0, rfl, hst, hn, hb⟩ := hcut
    obtain ⟨wx, hwc⟩ : ∃ x, x = wc := ⟨_, rfl⟩
    subst hwc
    have HG0 : Hid (GSt w c gb A G x by' n b (projB x.2.2.l by') wx K0 kc0 M0 1 [x]) := hst
    have HNB : Hid ((0 ≤ n ∧ n ≤ 4) ∧ (0 ≤ b ∧ b ≤ 4)) := ⟨hn, hb⟩
    have HKF : Hid (KeyF (projB x.2.2.l by')) := ⟨fits_proj HG0.out.pre.xf.1.fits, Nat.le_trans (Pro.proj_len _ _) HG0.out.pre.xf.2⟩
    clear hst hn hb HX HP HC HB
    generalize projB x.2.2.l by' = key at HG0 HKF ⊢
    go_wp2_with fail
    refine (below_any c 8 _ HG0.out.pre.cur (by decide) (by decide)).mono ?_
    rintro r w2 ⟨⟨j0, rfl, hj0, hj1⟩, hc2, hk2⟩
    have HG1 : Hid (GSt w c gb A G x by' n b key w2 K0 kc0 M0 1 [x]) := HG0.out.keep hc2 hk2
    have HJ : Hid (0 ≤ j0 ∧ j0 ≤ 7) := ⟨hj0, by omega⟩
    clear hc2 hk2 hj0 hj1 HG0
    go_wp2
    go_loopw [7] (fun i wr => ∃ (j : Int) (K kc M cap : Nat) (rs : List ARow), i = .int .i64 j ∧ 0 ≤ j ∧ j ≤ 7 ∧ GSt w c gb A G x by' n b key wr K kc M cap rs ∧ (rs.length : Int) + j ≤ 8) (fun i _ => (intOf i).toNat)
    case atStart => exact ⟨j0, K0, kc0, M0, 1, [x], rfl, HJ.out.1, HJ.out.2, HG1.out, by have := HJ.out.2; simp; omega⟩
    case round =>
      clear HG1 HJ
      obtain ⟨j, K, kc, M, cap, rs, rfl, hj1, hj2, hst, hle⟩ := hrel
      have HS : Hid (GSt w c gb A G x by' n b key wr K kc M cap rs) := hst
      have HR : Hid ((rs.length : Int) + j ≤ 8) := hle
      clear hst hle
      by_cases hj : 0 < j
      · have hj' : (j > 0) := hj
        go_wp2_with fail
        refine (l4Draw_any c _ HS.out.pre.cur).mono ?_
        rintro r w1 ⟨g, cp, p, s, e, t, rfl, hst, hp, hs, he, hn⟩
        have HS1 : Hid (GSt w c gb A G x by' n b key w1 K kc M cap rs) := HS.out.keep hst.cur hst.kept
        have HY1 : Hid (OwnA (w.heap.size + 1) w1 (g, cp, ⟨p, s, e, t⟩) ∧ Fine ⟨p, s, e, t⟩) := ⟨(own_lst hst hp).down (by have := HS.out.pre.hA; omega), fine_of hp hst.fit hs he hn⟩
        clear hst hp hs he hn
        have a0 : (w1.alloc (.cells #[.slice (some ⟨g, 0, none⟩) p.length cp, .int .i64 s, .int .i64 e, .string t] 27)).cell? ⟨A, 0, none⟩ = some (.slice (some ⟨x.1, 0, none⟩) x.2.2.l.length x.2.1) := (HS1.out.pre.bA.alloc _).cell 0
        have a1 : (w1.alloc (.cells #[.slice (some ⟨g, 0, none⟩) p.length cp, .int .i64 s, .int .i64 e, .string t] 27)).cell? ⟨A, 1, none⟩ = some (.int .i64 x.2.2.s) := (HS1.out.pre.bA.alloc _).cell 1
        have a2 : (w1.alloc (.cells #[.slice (some ⟨g, 0, none⟩) p.length cp, .int .i64 s, .int .i64 e, .string t] 27)).cell? ⟨A, 2, none⟩ = some (.int .i64 x.2.2.e) := (HS1.out.pre.bA.alloc _).cell 2
        have a3 : (w1.alloc (.cells #[.slice (some ⟨g, 0, none⟩) p.length cp, .int .i64 s, .int .i64 e, .string t] 27)).cell? ⟨A, 3, none⟩ = some (.string x.2.2.n) := (HS1.out.pre.bA.alloc _).cell 3
        go_wp2_with fail
        refine (Tog.specTog_any _ _ _ _ _ _ x.2.2.l p x.2.2.s x.2.2.e s e x.2.2.n t by' _ ((HS1.out.pre.grow (Go.Joins.below_alloc1 w1 _)).xo.reads) ((HY1.out.1.grow (Go.Joins.below_alloc1 w1 _)).reads) ((HS1.out.pre.grow (Go.Joins.below_alloc1 w1 _)).names.rd) (by have := HS1.out.pre.xf.2; omega) (Nat.le_trans HY1.out.2.2 (by omega)) HS1.out.pre.bl).mono ?_
        rintro r w2 ⟨rfl, hb⟩
        have HS2 : Hid (GSt w c gb A G x by' n b key w2 K kc M cap rs) := (HS1.out.grow (Go.Joins.below_alloc1 w1 _)).grow hb
        have HY2 : Hid (OwnA (w.heap.size + 1) w2 (g, cp, ⟨p, s, e, t⟩) ∧ Fine ⟨p, s, e, t⟩) := ⟨(HY1.out.1.grow (Go.Joins.below_alloc1 w1 _)).grow hb, HY1.out.2⟩
        have HB2 : Hid (Blk w2 w1.heap.size #[.slice (some ⟨g, 0, none⟩) p.length cp, .int .i64 s, .int .i64 e, .string t] 27) := (Blk.new _ _ _).grow hb
        clear hb a0 a1 a2 a3 HS1 HY1
        generalize w1.heap.size = B at HB2 ⊢
        by_cases ht : togB x.2.2.l p by' = true
        · skip
          have o0 : w2.cell? ⟨G, 0, none⟩ = some (.int .i64 n) := HS2.out.bO.cell 0
          have o1 : w2.cell? ⟨G, 1, none⟩ = some (.slice (some ⟨K, 0, none⟩) key.length kc) := HS2.out.bO.cell 1
          have o2 : w2.cell? ⟨G, 2, none⟩ = some (.int .i64 b) := HS2.out.bO.cell 2
          have o3 : w2.cell? ⟨G, 3, none⟩ = some (.int .i64 (-1)) := HS2.out.bO.cell 3
          have o4 : w2.cell? ⟨G, 4, none⟩ = some (.slice (some ⟨M, 0, none⟩) rs.length cap) := HS2.out.bO.cell 4
          have y0 : w2.cell? ⟨B, 0, none⟩ = some (.slice (some ⟨g, 0, none⟩) p.length cp) := HB2.out.cell 0
          have y1 : w2.cell? ⟨B, 1, none⟩ = some (.int .i64 s) := HB2.out.cell 1
          have y2 : w2.cell? ⟨B, 2, none⟩ = some (.int .i64 e) := HB2.out.cell 2
          have y3 : w2.cell? ⟨B, 3, none⟩ = some (.string t) := HB2.out.cell 3
          go_wp2_with fail
          refine (joinR n b (-1) K kc key M cap rs g cp ⟨p, s, e, t⟩ w2 HS2.out.key.rd (by have := HKF.out.2; omega) HS2.out.row.rd (by have := HR.out; omega) HS2.out.fine.lens HS2.out.row.cap HY2.out.1.reads (Nat.le_trans HY2.out.2.2 (by omega))).mono ?_
          rintro r w3 ⟨⟨K', kc', M', cap', rs', rfl, hG, hA, hP⟩, hb⟩
          have HS3 : Hid (GSt w c gb A G x by' n b key w3 K kc M cap rs) := HS2.out.grow hb
          have hlo : w.heap.size + 1 ≤ w2.heap.size := by have := HS2.out.pre.hA; omega
          have HN3 : Hid (OwnL (w.heap.size + 1) w3 K' key ∧ AB (w.heap.size + 1) w3 M' cap' rs' ∧ ¬ blks M' rs' K' ∧ Fines (pals rs') ∧ rs'.length ≤ rs.length + 1) := ⟨hG.key.down hlo, hA.down hlo, hG.ne, by rw [hP]; exact fines_join HS2.out.fine HY2.out.2, by have h := join_len (pals rs) ⟨p, s, e, t⟩; rw [← hP, Rws.pals_len, Rws.pals_len] at h; exact h⟩
          clear hG hA hP hb hlo o0 o1 o2 o3 o4 y0 y1 y2 y3
          go_upto_region 9 with fail
          obtain ⟨w4, hw4⟩ : ∃ v, v = w3.alloc (.cells #[.int .i64 n, .slice (some ⟨K', 0, none⟩) key.length kc', .int .i64 b, .int .i64 (-1), .slice (some ⟨M', 0, none⟩) rs'.length cap'] 53) := ⟨_, rfl⟩
          rw [← hw4]
          have HX4 : Hid (Blk w4 w3.heap.size #[.int .i64 n, .slice (some ⟨K', 0, none⟩) key.length kc', .int .i64 b, .int .i64 (-1), .slice (some ⟨M', 0, none⟩) rs'.length cap'] 53) := by rw [hw4]; exact Blk.new _ _ _
          have HS4 : Hid (GSt w c gb A G x by' n b key w4 K kc M cap rs) := by rw [hw4]; exact HS3.out.grow (Go.Joins.below_alloc1 w3 _)
          have HN4 : Hid (OwnL (w.heap.size + 1) w4 K' key ∧ AB (w.heap.size + 1) w4 M' cap' rs') := by rw [hw4]; exact ⟨HN3.out.1.grow (Go.Joins.below_alloc1 w3 _), HN3.out.2.1.grow (Go.Joins.below_alloc1 w3 _)⟩
          clear hw4
          generalize w3.heap.size = X at HX4 ⊢
          have q0 : w4.cell? ⟨X, 0, none⟩ = some (.int .i64 n) := HX4.out.cell 0
          have q1 : w4.cell? ⟨X, 1, none⟩ = some (.slice (some ⟨K', 0, none⟩) key.length kc') := HX4.out.cell 1
          have q2 : w4.cell? ⟨X, 2, none⟩ = some (.int .i64 b) := HX4.out.cell 2
          have q3 : w4.cell? ⟨X, 3, none⟩ = some (.int .i64 (-1)) := HX4.out.cell 3
          have q4 : w4.cell? ⟨X, 4, none⟩ = some (.slice (some ⟨M', 0, none⟩) rs'.length cap') := HX4.out.cell 4
          have o0 : w4.cell? ⟨G, 0, none⟩ = some (.int .i64 n) := HS4.out.bO.cell 0
          have fo0 := HS4.out.bO.frozen 0
          have o1 : w4.cell? ⟨G, 1, none⟩ = some (.slice (some ⟨K, 0, none⟩) key.length kc) := HS4.out.bO.cell 1
          have fo1 := HS4.out.bO.frozen 1
          have o2 : w4.cell? ⟨G, 2, none⟩ = some (.int .i64 b) := HS4.out.bO.cell 2
          have fo2 := HS4.out.bO.frozen 2
          have o3 : w4.cell? ⟨G, 3, none⟩ = some (.int .i64 (-1)) := HS4.out.bO.cell 3
          have fo3 := HS4.out.bO.frozen 3
          have o4 : w4.cell? ⟨G, 4, none⟩ = some (.slice (some ⟨M, 0, none⟩) rs.length cap) := HS4.out.bO.cell 4
          have fo4 := HS4.out.bO.frozen 4
          go_wp2
          go_roundw
          case rel => exact ⟨j - 1, K', kc', M', cap', rs', by go_num, by omega, by omega, HS4.out.put HN4.out.1 HN4.out.2 HN3.out.2.2.1 HN3.out.2.2.2.1, by have := HR.out; have := HN3.out.2.2.2.2; omega⟩
          case measure => simp [intOf]; omega
        · have ht' : togB x.2.2.l p by' = false := by simpa using ht
          go_wp2
          go_roundw
          case rel => exact ⟨j - 1, K, kc, M, cap, rs, by go_num, by omega, by omega, HS2.out, by have := HR.out; omega⟩
          case measure => simp [intOf]; omega
      · have hj' : ¬ (j > 0) := by omega
        have H8 : Hid (rs.length ≤ 8) := by have := HR.out; unfold Hid; omega
        go_wp2_with fail
        refine (once_any c 2 _ HS.out.pre.cur (by decide) (by decide)).mono ?_
        rintro r w1 ⟨⟨f, rfl⟩, hc1, hk1⟩
        have HS1 : Hid (GSt w c gb A G x by' n b key w1 K kc M cap rs) := HS.out.keep hc1 hk1
        clear hc1 hk1 HS
        cases f with
        | false =>
          have o0 : w1.cell? ⟨G, 0, none⟩ = some (.int .i64 n) := HS1.out.bO.cell 0
          have o1 : w1.cell? ⟨G, 1, none⟩ = some (.slice (some ⟨K, 0, none⟩) key.length kc) := HS1.out.bO.cell 1
          have o2 : w1.cell? ⟨G, 2, none⟩ = some (.int .i64 b) := HS1.out.bO.cell 2
          have o3 : w1.cell? ⟨G, 3, none⟩ = some (.int .i64 (-1)) := HS1.out.bO.cell 3
          have o4 : w1.cell? ⟨G, 4, none⟩ = some (.slice (some ⟨M, 0, none⟩) rs.length cap) := HS1.out.bO.cell 4
          have r0 : w1.cell? ⟨w.heap.size, 0, none⟩ = some (.int .i64 0) := HS1.out.pre.bR.cell 0
          have fr0 := HS1.out.pre.bR.frozen 0
          have r1 : w1.cell? ⟨w.heap.size, 1, none⟩ = some (.slice none 0 0) := HS1.out.pre.bR.cell 1
          have fr1 := HS1.out.pre.bR.frozen 1
          have r2 : w1.cell? ⟨w.heap.size, 2, none⟩ = some (.int .i64 0) := HS1.out.pre.bR.cell 2
          have fr2 := HS1.out.pre.bR.frozen 2
          have r3 : w1.cell? ⟨w.heap.size, 3, none⟩ = some (.int .i64 0) := HS1.out.pre.bR.cell 3
          have fr3 := HS1.out.pre.bR.frozen 3
          have r4 : w1.cell? ⟨w.heap.size, 4, none⟩ = some (.slice none 0 0) := HS1.out.pre.bR.cell 4
          have fr4 := HS1.out.pre.bR.frozen 4
          have hs := put5 HS1.out.pre.bR (.int .i64 n) (.slice (some ⟨K, 0, none⟩) key.length kc) (.int .i64 b) (.int .i64 (-1)) (.slice (some ⟨M, 0, none⟩) rs.length cap)
          have s0 := hs.cell 0
          have s1 := hs.cell 1
          have s2 := hs.cell 2
          have s3 := hs.cell 3
          have s4 := hs.cell 4
          go_wp2
          refine bodyPost_ret (v := .agg #[.int .i64 n, .slice (some ⟨K, 0, none⟩) key.length kc, .int .i64 b, .int .i64 (-1), .slice (some ⟨M, 0, none⟩) rs.length cap]) (by simp [results, Tryz.results89, go_sem, s0, s1, s2, s3, s4]) rfl ?_
          exact ⟨n, b, (-1), K, kc, M, cap, key, rs, rfl, HS1.out.dg.set5 HS1.out.pre.bR (Nat.le_refl _) _ _ _ _ _, ⟨HNB.out.1, HNB.out.2, by omega, by omega⟩, HKF.out, H8.out⟩
        | true =>
          go_wp2
          have hd : GSt w c gb A G x by' n b key w1.drew K kc M cap rs := HS1.out.keep (Cur.drewN HS1.out.pre.cur 1) (kept_bel (Below.refl _ _).drew)
          have kz : w1.drew.cell? ⟨G, 2, none⟩ = some (.int .i64 b) := hd.bO.cell 2
          have HKe : Hid (∀ w4, Cur w4 c → Kept c w1.drew w4 → GSt w c gb A G x by' n b key w4 K kc M cap rs) := fun w4 hc hk => hd.keep hc hk
          have HI : Hid (Calls Tryz.prog 30 #[.pointer (some ⟨c, 0, none⟩), .int .i64 9] w1.drew fun e w' => (∃ x : Int, e = .returned (.int .i64 x) ∧ 0 ≤ x ∧ x < 9) ∧ Cur w' c ∧ Kept c w1.drew w') := below_any c 9 _ hd.pre.cur (by decide) (by decide)
          clear hd
          go_region_held3 (fun w' => w'.cell? ⟨G, 2, none⟩ = some (.int .i64 b)) (first | exact kz | exact hA4.cell 2 | exact (hA4.set 3 _).cell 2 | (go_keep; done)) (first
            | (go_at_call 30; (with_reducible refine HI.out.mono ?_); rintro r w4 ⟨⟨d, rfl, hd0, hd1⟩, hc4, hk4⟩; (have hG4 := HKe.out w4 hc4 hk4); (have hA4 := hG4.bO); (have n3 : w4.cell? ⟨G, 3, none⟩ = some (.int .i64 (-1)) := hA4.cell 3); (have f3 := hA4.frozen 3)))
          have HE : Hid (-1 ≤ IntKind.i64.wrap (b + d) ∧ IntKind.i64.wrap (b + d) ≤ 12) := by have := HNB.out.2; rw [IntKind.wrap_i64]; unfold Hid; omega
          have H4 : Hid (GSt w c gb A G x by' n b key w4 K kc M cap rs) := hG4
          clear hG4 hA4 n3 f3 hc4 hk4 hd0 hd1 kz HKe HI
          generalize IntKind.i64.wrap (b + d) = t at HE ⊢
          obtain ⟨w5, hw5⟩ : ∃ v, v = w4.setCell ⟨G, 3, none⟩ (.int .i64 t) := ⟨_, rfl⟩
          rw [← hw5]
          have H5 : Hid (DG w c w5 K M cap key rs) := by rw [hw5]; exact H4.out.dg.set1 H4.out.bO (Nat.le_of_lt H4.out.hO) _ _
          have HO5 : Hid (Blk w5 G #[.int .i64 n, .slice (some ⟨K, 0, none⟩) key.length kc, .int .i64 b, .int .i64 t, .slice (some ⟨M, 0, none⟩) rs.length cap] 53) := by rw [hw5]; exact H4.out.bO.set 3 _
          have HR5 : Hid (Blk w5 w.heap.size #[.int .i64 0, .slice none 0 0, .int .i64 0, .int .i64 0, .slice none 0 0] 53) := by rw [hw5]; exact H4.out.pre.bR.set_other (p := ⟨G, 3, none⟩) (by have := H4.out.hO; show G ≠ _; omega) _
          clear hw5 H4
          have o0 : w5.cell? ⟨G, 0, none⟩ = some (.int .i64 n) := HO5.out.cell 0
          have o1 : w5.cell? ⟨G, 1, none⟩ = some (.slice (some ⟨K, 0, none⟩) key.length kc) := HO5.out.cell 1
          have o2 : w5.cell? ⟨G, 2, none⟩ = some (.int .i64 b) := HO5.out.cell 2
          have o3 : w5.cell? ⟨G, 3, none⟩ = some (.int .i64 t) := HO5.out.cell 3
          have o4 : w5.cell? ⟨G, 4, none⟩ = some (.slice (some ⟨M, 0, none⟩) rs.length cap) := HO5.out.cell 4
          have r0 : w5.cell? ⟨w.heap.size, 0, none⟩ = some (.int .i64 0) := HR5.out.cell 0
          have fr0 := HR5.out.frozen 0
          have r1 : w5.cell? ⟨w.heap.size, 1, none⟩ = some (.slice none 0 0) := HR5.out.cell 1
          have fr1 := HR5.out.frozen 1
          have r2 : w5.cell? ⟨w.heap.size, 2, none⟩ = some (.int .i64 0) := HR5.out.cell 2
          have fr2 := HR5.out.frozen 2
          have r3 : w5.cell? ⟨w.heap.size, 3, none⟩ = some (.int .i64 0) := HR5.out.cell 3
          have fr3 := HR5.out.frozen 3
          have r4 : w5.cell? ⟨w.heap.size, 4, none⟩ = some (.slice none 0 0) := HR5.out.cell 4
          have fr4 := HR5.out.frozen 4
          have hs := put5 HR5.out (.int .i64 n) (.slice (some ⟨K, 0, none⟩) key.length kc) (.int .i64 b) (.int .i64 t) (.slice (some ⟨M, 0, none⟩) rs.length cap)
          have s0 := hs.cell 0
          have s1 := hs.cell 1
          have s2 := hs.cell 2
          have s3 := hs.cell 3
          have s4 := hs.cell 4
          go_wp2
          refine bodyPost_ret (v := .agg #[.int .i64 n, .slice (some ⟨K, 0, none⟩) key.length kc, .int .i64 b, .int .i64 t, .slice (some ⟨M, 0, none⟩) rs.length cap]) (by simp [results, Tryz.results89, go_sem, s0, s1, s2, s3, s4]) rfl ?_
          exact ⟨n, b, t, K, kc, M, cap, key, rs, rfl, H5.out.set5 HR5.out (Nat.le_refl _) _ _ _ _ _, ⟨HNB.out.1, HNB.out.2, HE.out.1, HE.out.2⟩, HKF.out, H8.out⟩
end Go.Proofs.YtgncimlojbnbfaaGreat.GrpW
namespace Go.Proofs.YtgncimlojbnbfaaGreat.GrpX
open Go.RowKit
open Draw
open Labs LabS Over Blk App DrawL DrawT Alms AlmM DrawA DrawB Rws ChnI ChnC ChnP ChnK DrawC Grp GrpJ GrpW Chs
open LabT (Held held_reads Fits)

structure HSt (w : World) (c X : Nat) (n b t : Int) (key : List Lab) (W : World) (K kc M cap : Nat) (rs : List ARow) : Prop where
  dg : DG w c W K M cap key rs
  bR : Blk W w.heap.size #[.int .i64 0, .slice none 0 0, .int .i64 0, .int .i64 0, .slice none 0 0] 53
  bO : Blk W X #[.int .i64 n, .slice (some ⟨K, 0, none⟩) key.length kc, .int .i64 b, .int .i64 t, .slice (some ⟨M, 0, none⟩) rs.length cap] 53
  hX : w.heap.size < X
theorem HSt.keep {w : World} {c X : Nat} {n b t : Int} {key : List Lab} {W : World} {K kc M cap : Nat} {rs : List ARow} (h : HSt w c X n b t key W K kc M cap rs) {W' : World} (hc : Cur W' c) (hk : Kept c W W') : HSt w c X n b t key W' K kc M cap rs := by
  have h0 := h.dg.clt; have h1 := h.hX
  exact ⟨⟨hc, h.dg.kept.trans hk, h0, ownL_kept h.dg.key hk (by omega), ab_kept h.dg.row hk (by omega), h.dg.ne, h.dg.fine⟩, blk_kept h.bR hk (by omega), blk_kept h.bO hk (by omega), h1⟩
theorem HSt.grow {w : World} {c X : Nat} {n b t : Int} {key : List Lab} {W : World} {K kc M cap : Nat} {rs : List ARow} (h : HSt w c X n b t key W K kc M cap rs) {W' : World} (hb : Below W.heap.size W W') : HSt w c X n b t key W' K kc M cap rs := h.keep (cur_bel h.dg.cur hb) (kept_bel hb)
theorem HSt.setN {w : World} {c X : Nat} {n b t : Int} {key : List Lab} {W : World} {K kc M cap : Nat} {rs : List ARow} (h : HSt w c X n b t key W K kc M cap rs) (v : Int) : HSt w c X v b t key (W.setCell ⟨X, 0, none⟩ (.int .i64 v)) K kc M cap rs :=
  ⟨h.dg.set1 h.bO (Nat.le_of_lt h.hX) _ _, h.bR.set_other (p := ⟨X, 0, none⟩) (by have := h.hX; show X ≠ _; omega) _, h.bO.set 0 _, h.hX⟩
theorem HSt.setB {w : World} {c X : Nat} {n b t : Int} {key : List Lab} {W : World} {K kc M cap : Nat} {rs : List ARow} (h : HSt w c X n b t key W K kc M cap rs) (v : Int) : HSt w c X n v t key (W.setCell ⟨X, 2, none⟩ (.int .i64 v)) K kc M cap rs :=
  ⟨h.dg.set1 h.bO (Nat.le_of_lt h.hX) _ _, h.bR.set_other (p := ⟨X, 2, none⟩) (by have := h.hX; show X ≠ _; omega) _, h.bO.set 2 _, h.hX⟩
theorem HSt.setT {w : World} {c X : Nat} {n b t : Int} {key : List Lab} {W : World} {K kc M cap : Nat} {rs : List ARow} (h : HSt w c X n b t key W K kc M cap rs) (v : Int) : HSt w c X n b v key (W.setCell ⟨X, 3, none⟩ (.int .i64 v)) K kc M cap rs :=
  ⟨h.dg.set1 h.bO (Nat.le_of_lt h.hX) _ _, h.bR.set_other (p := ⟨X, 3, none⟩) (by have := h.hX; show X ≠ _; omega) _, h.bO.set 3 _, h.hX⟩
theorem HSt.setK {w : World} {c X : Nat} {n b t : Int} {key : List Lab} {W : World} {K kc M cap : Nat} {rs : List ARow} (h : HSt w c X n b t key W K kc M cap rs) {K' kc' : Nat} {key' : List Lab} (hk : OwnL (w.heap.size + 1) W K' key') (hn : ¬ blks M rs K') : HSt w c X n b t key' (W.setCell ⟨X, 1, none⟩ (.slice (some ⟨K', 0, none⟩) key'.length kc')) K' kc' M cap rs := by
  have hd := h.dg.set1 h.bO (Nat.le_of_lt h.hX) 1 (.slice (some ⟨K', 0, none⟩) key'.length kc')
  exact ⟨⟨hd.cur, hd.kept, hd.clt, ownL_moved hk (Moved.set h.bO (by decide) (by decide) 1 _), hd.row, hn, hd.fine⟩, h.bR.set_other (p := ⟨X, 1, none⟩) (by have := h.hX; show X ≠ _; omega) _, h.bO.set 1 _, h.hX⟩
theorem set4_of {w : World} {c X : Nat} {n b t : Int} {key : List Lab} {W : World} {K kc M cap M' cap' : Nat} {ln : Nat} {rs' : List ARow} (hc : Cur W c) (hk : Kept c w W) (hl : c < w.heap.size) (hR : Blk W w.heap.size #[.int .i64 0, .slice none 0 0, .int .i64 0, .int .i64 0, .slice none 0 0] 53) (hO : Blk W X #[.int .i64 n, .slice (some ⟨K, 0, none⟩) key.length kc, .int .i64 b, .int .i64 t, .slice (some ⟨M, 0, none⟩) ln cap] 53) (hX : w.heap.size < X) (hK : OwnL (w.heap.size + 1) W K key) (hA : AB (w.heap.size + 1) W M' cap' rs') (hn : ¬ blks M' rs' K) (hf : Fines (pals rs')) :
    HSt w c X n b t key (W.setCell ⟨X, 4, none⟩ (.slice (some ⟨M', 0, none⟩) rs'.length cap')) K kc M' cap' rs' := by
  have hm := Moved.set hO (by decide) (by decide) 4 (.slice (some ⟨M', 0, none⟩) rs'.length cap')
  exact ⟨⟨cur_set hc (by omega) _ _, DrawC.kept_set hk (by omega) _ _, hl, ownL_moved hK hm, ab_movedX hA hm, hn, hf⟩, hR.set_other (p := ⟨X, 4, none⟩) (by show X ≠ _; omega) _, hO.set 4 _, hX⟩
theorem ab_nil {lo M : Nat} {w : World} (h : Blk w M #[] 27) (hl : lo ≤ M) : AB lo w M 0 [] := ⟨hl, ⟨by simp, by unfold maxLen; omega⟩, ⟨#[], h, rfl, fun i hi => by simp at hi⟩, fun x hx => by simp at hx, List.Pairwise.nil⟩
theorem ne_young {lo : Nat} {w : World} {K M c : Nat} {rs : List ARow} (h : AB lo w M c rs) (hK : w.heap.size ≤ K) : ¬ blks M rs K := fun hb => by have := blks_high h K hb; omega
theorem ownL_lst {W w' : World} {c g cap : Nat} {p : List Lab} (h : LSt W c w' (.slice (some ⟨g, 0, none⟩) p.length cap) p) (hp : p.length ≤ 8) : OwnL W.heap.size w' g p := by
  obtain ⟨h1, h2, ds, h3, h4, h5⟩ := own_lst (s := 0) (e := 0) (n := ByteArray.empty) h hp
  exact ⟨h1, ds, h3, h4, h5⟩
def NumA (n b t : Int) : Prop := (-1 ≤ n ∧ n ≤ 4) ∧ I64 b ∧ I64 t
theorem num_a {n b t : Int} (h : Nums n b t) : NumA n b t := by
  obtain ⟨h1, h2, h3, h4⟩ := h
  exact ⟨⟨by omega, by omega⟩, ⟨by omega, by omega⟩, ⟨by omega, by omega⟩⟩
set_option maxRecDepth 100000 in
set_option maxHeartbeats 6400000 in
theorem l11Any_any (c gb capb : Nat) (by' : List ByteArray) (w : World) (hc : Cur w c) (hb : ByK w gb by') (hgb : gb ≠ c ∧ gb < w.heap.size) (hbl : by'.length ≤ maxLen) :
    Calls Tryz.prog 56 #[.pointer (some ⟨c, 0, none⟩), .slice (some ⟨gb, 0, none⟩) by'.length capb] w fun r w' => ∃ (n b t : Int) (K kc M cap : Nat) (key : List Lab) (rs : List ARow), r = .returned (.agg #[.int .i64 n, .slice (some ⟨K, 0, none⟩) key.length kc, .int .i64 b, .int .i64 t, .slice (some ⟨M, 0, none⟩) rs.length cap]) ∧ DG w c w' K M cap key rs ∧ NumA n b t ∧ KeyF key ∧ rs.length ≤ 9 := by
  have HC : Hid (Cur w c) := hc
  have HL : Hid (c < w.heap.size) := hc.lt
  have HB : Hid (ByK w gb by' ∧ (gb ≠ c ∧ gb < w.heap.size) ∧ by'.length ≤ maxLen) := ⟨hb, hgb, hbl⟩
  clear hc hb hgb hbl
  obtain ⟨i0, hi, hz0, hz1, hz2⟩ := info_parts infoA
  go_enter Tryz.func56, Tryz.ntmps56
  go_wp2_with fail
  refine (l11Draw_any c gb capb by' _ (HC.out.alloc _) (HB.out.1.keep ((Kept.refl c w).alloc _) HB.out.2.1.1) ⟨HB.out.2.1.1, by have := HB.out.2.1.2; simp; omega⟩ HB.out.2.2).mono ?_
  rintro r w1 ⟨n, b, t, K, kc, M, cap, key, rs, rfl, hd, hn, hk, h8⟩
  have HD1 : Hid (DG w c w1 K M cap key rs) := by
    have h0 := HL.out
    exact ⟨hd.cur, ((Kept.refl c w).alloc _).trans hd.kept, h0, hd.key.down (by simp), hd.row.down (by simp), hd.ne, hd.fine⟩
  have HR1 : Hid (Blk w1 w.heap.size #[.int .i64 0, .slice none 0 0, .int .i64 0, .int .i64 0, .slice none 0 0] 53) := blk_kept (Blk.new _ _ _) hd.kept (by have := HL.out; omega)
  have HN : Hid (NumA n b t) := num_a hn
  have HKF : Hid (KeyF key) := hk
  have H8 : Hid (rs.length ≤ 8) := h8
  clear hd hn hk h8 HB
  go_wp2_with fail
  refine (below_any c 14 _ (HD1.out.cur.alloc _) (by decide) (by decide)).mono ?_
  rintro r w2 ⟨⟨z, rfl, hz0', hz1'⟩, hc2, hk2⟩
  have HX : Hid (HSt w c w1.heap.size n b t key w2 K kc M cap rs) := by
    have h0 := HL.out; have h1 := HR1.out.lt
    have h2 : HSt w c w1.heap.size n b t key (w1.alloc (.cells #[.int .i64 n, .slice (some ⟨K, 0, none⟩) key.length kc, .int .i64 b, .int .i64 t, .slice (some ⟨M, 0, none⟩) rs.length cap] 53)) K kc M cap rs :=
      ⟨⟨HD1.out.cur.alloc _, HD1.out.kept.alloc _, h0, HD1.out.key.grow (Go.Joins.below_alloc1 w1 _), HD1.out.row.grow (Go.Joins.below_alloc1 w1 _), HD1.out.ne, HD1.out.fine⟩, HR1.out.alloc _, Blk.new _ _ _, h1⟩
    exact h2.keep hc2 hk2
  clear hc2 hk2 HD1 HR1 HC
  generalize w1.heap.size = X at HX ⊢
  by_cases e0 : z = 0
  · subst e0
    have q0 : w2.cell? ⟨X, 0, none⟩ = some (.int .i64 n) := HX.out.bO.cell 0
    have g0 := HX.out.bO.frozen 0
    have H4 : Hid (HSt w c X (-1) b t key (w2.setCell ⟨X, 0, none⟩ (.int .i64 (-1))) K kc M cap rs) := HX.out.setN (-1)
    go_upto_region 15 with fail
    clear q0 g0 HX
    generalize w2.setCell ⟨X, 0, none⟩ (.int .i64 (-1)) = W3 at H4 ⊢
    have o0 : W3.cell? ⟨X, 0, none⟩ = some (.int .i64 (-1)) := H4.out.bO.cell 0
    have o1 : W3.cell? ⟨X, 1, none⟩ = some (.slice (some ⟨K, 0, none⟩) key.length kc) := H4.out.bO.cell 1
    have o2 : W3.cell? ⟨X, 2, none⟩ = some (.int .i64 b) := H4.out.bO.cell 2
    have o3 : W3.cell? ⟨X, 3, none⟩ = some (.int .i64 t) := H4.out.bO.cell 3
    have o4 : W3.cell? ⟨X, 4, none⟩ = some (.slice (some ⟨M, 0, none⟩) rs.length cap) := H4.out.bO.cell 4
    have r0 : W3.cell? ⟨w.heap.size, 0, none⟩ = some (.int .i64 0) := H4.out.bR.cell 0
    have fr0 := H4.out.bR.frozen 0
    have r1 : W3.cell? ⟨w.heap.size, 1, none⟩ = some (.slice none 0 0) := H4.out.bR.cell 1
    have fr1 := H4.out.bR.frozen 1
    have r2 : W3.cell? ⟨w.heap.size, 2, none⟩ = some (.int .i64 0) := H4.out.bR.cell 2
    have fr2 := H4.out.bR.frozen 2
    have r3 : W3.cell? ⟨w.heap.size, 3, none⟩ = some (.int .i64 0) := H4.out.bR.cell 3
    have fr3 := H4.out.bR.frozen 3
    have r4 : W3.cell? ⟨w.heap.size, 4, none⟩ = some (.slice none 0 0) := H4.out.bR.cell 4
    have fr4 := H4.out.bR.frozen 4
    have hs := put5 H4.out.bR (.int .i64 (-1)) (.slice (some ⟨K, 0, none⟩) key.length kc) (.int .i64 b) (.int .i64 t) (.slice (some ⟨M, 0, none⟩) rs.length cap)
    have s0 := hs.cell 0
    have s1 := hs.cell 1
    have s2 := hs.cell 2
    have s3 := hs.cell 3
    have s4 := hs.cell 4
    go_wp2
    refine bodyPost_ret (v := .agg #[.int .i64 (-1), .slice (some ⟨K, 0, none⟩) key.length kc, .int .i64 b, .int .i64 t, .slice (some ⟨M, 0, none⟩) rs.length cap]) (by simp [results, Tryz.results56, go_sem, s0, s1, s2, s3, s4]) rfl ?_
    exact ⟨(-1), b, t, K, kc, M, cap, key, _, rfl, H4.out.dg.set5 H4.out.bR (Nat.le_refl _) _ _ _ _ _, ⟨⟨by omega, by omega⟩, HN.out.2.1, HN.out.2.2⟩, HKF.out, by have := H8.out; omega⟩
  have d0' : (z == 0) = false := by simpa using e0
  by_cases e1 : z = 1
  · subst e1
    go_wp2_with fail
    refine (l2Any_any c _ HX.out.dg.cur).mono ?_
    rintro r w3 ⟨v, rfl, p, hst, hp⟩
    obtain ⟨g, cg, rfl⟩ := hst.lies
    have HX3 : Hid (HSt w c X n b t key w3 K kc M cap rs) := HX.out.keep hst.cur hst.kept
    have HO3 : Hid (OwnL (w.heap.size + 1) w3 g p ∧ ¬ blks M rs g ∧ KeyF p) := ⟨(ownL_lst hst hp).down (by have := HX.out.dg.kept.size; have := HX.out.bO.lt; have := HX.out.hX; omega), ne_young HX.out.dg.row hst.blk.1, small_fits hst.fit, hp⟩
    clear hst hp HX
    have q1 : w3.cell? ⟨X, 1, none⟩ = some (.slice (some ⟨K, 0, none⟩) key.length kc) := HX3.out.bO.cell 1
    have g1 := HX3.out.bO.frozen 1
    have H4 : Hid (HSt w c X n b t p (w3.setCell ⟨X, 1, none⟩ (.slice (some ⟨g, 0, none⟩) p.length cg)) g cg M cap rs) := HX3.out.setK HO3.out.1 HO3.out.2.1
    go_upto_region 15 with fail
    clear q1 g1 HX3
    generalize w3.setCell ⟨X, 1, none⟩ (.slice (some ⟨g, 0, none⟩) p.length cg) = W3 at H4 ⊢
    have o0 : W3.cell? ⟨X, 0, none⟩ = some (.int .i64 n) := H4.out.bO.cell 0
    have o1 : W3.cell? ⟨X, 1, none⟩ = some (.slice (some ⟨g, 0, none⟩) p.length cg) := H4.out.bO.cell 1
    have o2 : W3.cell? ⟨X, 2, none⟩ = some (.int .i64 b) := H4.out.bO.cell 2
    have o3 : W3.cell? ⟨X, 3, none⟩ = some (.int .i64 t) := H4.out.bO.cell 3
    have o4 : W3.cell? ⟨X, 4, none⟩ = some (.slice (some ⟨M, 0, none⟩) rs.length cap) := H4.out.bO.cell 4
    have r0 : W3.cell? ⟨w.heap.size, 0, none⟩ = some (.int .i64 0) := H4.out.bR.cell 0
    have fr0 := H4.out.bR.frozen 0
    have r1 : W3.cell? ⟨w.heap.size, 1, none⟩ = some (.slice none 0 0) := H4.out.bR.cell 1
    have fr1 := H4.out.bR.frozen 1
    have r2 : W3.cell? ⟨w.heap.size, 2, none⟩ = some (.int .i64 0) := H4.out.bR.cell 2
    have fr2 := H4.out.bR.frozen 2
    have r3 : W3.cell? ⟨w.heap.size, 3, none⟩ = some (.int .i64 0) := H4.out.bR.cell 3
    have fr3 := H4.out.bR.frozen 3
    have r4 : W3.cell? ⟨w.heap.size, 4, none⟩ = some (.slice none 0 0) := H4.out.bR.cell 4
    have fr4 := H4.out.bR.frozen 4
    have hs := put5 H4.out.bR (.int .i64 n) (.slice (some ⟨g, 0, none⟩) p.length cg) (.int .i64 b) (.int .i64 t) (.slice (some ⟨M, 0, none⟩) rs.length cap)
    have s0 := hs.cell 0
    have s1 := hs.cell 1
    have s2 := hs.cell 2
    have s3 := hs.cell 3
    have s4 := hs.cell 4
    go_wp2
    refine bodyPost_ret (v := .agg #[.int .i64 n, .slice (some ⟨g, 0, none⟩) p.length cg, .int .i64 b, .int .i64 t, .slice (some ⟨M, 0, none⟩) rs.length cap]) (by simp [results, Tryz.results56, go_sem, s0, s1, s2, s3, s4]) rfl ?_
    exact ⟨n, b, t, g, cg, M, cap, p, _, rfl, H4.out.dg.set5 H4.out.bR (Nat.le_refl _) _ _ _ _ _, HN.out, HO3.out.2.2, by have := H8.out; omega⟩
  have d1' : (z == 1) = false := by simpa using e1
  by_cases e2 : z = 2
  · subst e2
    go_wp2_with fail
    refine (raw_any c _ HX.out.dg.cur).mono ?_
    rintro r w3 ⟨⟨v, rfl, hv0, hv1⟩, hc3, hk3⟩
    have HX3 : Hid (HSt w c X n b t key w3 K kc M cap rs) := HX.out.keep hc3 hk3
    have HV : Hid (I64 v) := ⟨hv0, hv1⟩
    clear hc3 hk3 hv0 hv1 HX
    have q2 : w3.cell? ⟨X, 2, none⟩ = some (.int .i64 b) := HX3.out.bO.cell 2
    have g2 := HX3.out.bO.frozen 2
    have H4 : Hid (HSt w c X n v t key (w3.setCell ⟨X, 2, none⟩ (.int .i64 v)) K kc M cap rs) := HX3.out.setB v
    go_upto_region 15 with fail
    clear q2 g2 HX3
    generalize w3.setCell ⟨X, 2, none⟩ (.int .i64 v) = W3 at H4 ⊢
    have o0 : W3.cell? ⟨X, 0, none⟩ = some (.int .i64 n) := H4.out.bO.cell 0
    have o1 : W3.cell? ⟨X, 1, none⟩ = some (.slice (some ⟨K, 0, none⟩) key.length kc) := H4.out.bO.cell 1
    have o2 : W3.cell? ⟨X, 2, none⟩ = some (.int .i64 v) := H4.out.bO.cell 2
    have o3 : W3.cell? ⟨X, 3, none⟩ = some (.int .i64 t) := H4.out.bO.cell 3
    have o4 : W3.cell? ⟨X, 4, none⟩ = some (.slice (some ⟨M, 0, none⟩) rs.length cap) := H4.out.bO.cell 4
    have r0 : W3.cell? ⟨w.heap.size, 0, none⟩ = some (.int .i64 0) := H4.out.bR.cell 0
    have fr0 := H4.out.bR.frozen 0
    have r1 : W3.cell? ⟨w.heap.size, 1, none⟩ = some (.slice none 0 0) := H4.out.bR.cell 1
    have fr1 := H4.out.bR.frozen 1
    have r2 : W3.cell? ⟨w.heap.size, 2, none⟩ = some (.int .i64 0) := H4.out.bR.cell 2
    have fr2 := H4.out.bR.frozen 2
    have r3 : W3.cell? ⟨w.heap.size, 3, none⟩ = some (.int .i64 0) := H4.out.bR.cell 3
    have fr3 := H4.out.bR.frozen 3
    have r4 : W3.cell? ⟨w.heap.size, 4, none⟩ = some (.slice none 0 0) := H4.out.bR.cell 4
    have fr4 := H4.out.bR.frozen 4
    have hs := put5 H4.out.bR (.int .i64 n) (.slice (some ⟨K, 0, none⟩) key.length kc) (.int .i64 v) (.int .i64 t) (.slice (some ⟨M, 0, none⟩) rs.length cap)
    have s0 := hs.cell 0
    have s1 := hs.cell 1
    have s2 := hs.cell 2
    have s3 := hs.cell 3
    have s4 := hs.cell 4
    go_wp2
    refine bodyPost_ret (v := .agg #[.int .i64 n, .slice (some ⟨K, 0, none⟩) key.length kc, .int .i64 v, .int .i64 t, .slice (some ⟨M, 0, none⟩) rs.length cap]) (by simp [results, Tryz.results56, go_sem, s0, s1, s2, s3, s4]) rfl ?_
    exact ⟨n, v, t, K, kc, M, cap, key, _, rfl, H4.out.dg.set5 H4.out.bR (Nat.le_refl _) _ _ _ _ _, ⟨HN.out.1, HV.out, HN.out.2.2⟩, HKF.out, by have := H8.out; omega⟩
  have d2' : (z == 2) = false := by simpa using e2
  by_cases e3 : z = 3
  · subst e3
    go_wp2_with fail
    refine (int_any c w2.heap.size 0 3 3 _ (HX.out.dg.cur.alloc _) (row_lit (w := w2) (by decide) rfl HX.out.dg.cur.lt) (by decide) (by decide)).mono ?_
    rintro r w3 ⟨⟨v, rfl, hv0, hv1⟩, hc3, hk3⟩
    have HX3 : Hid (HSt w c X n b t key w3 K kc M cap rs) := (HX.out.grow (Go.Joins.below_alloc1 w2 _)).keep hc3 hk3
    have HV : Hid (I64 v) := ⟨hv0, hv1⟩
    clear hc3 hk3 hv0 hv1 HX
    have q3 : w3.cell? ⟨X, 3, none⟩ = some (.int .i64 t) := HX3.out.bO.cell 3
    have g3 := HX3.out.bO.frozen 3
    have H4 : Hid (HSt w c X n b v key (w3.setCell ⟨X, 3, none⟩ (.int .i64 v)) K kc M cap rs) := HX3.out.setT v
    go_upto_region 15 with fail
    clear q3 g3 HX3
    generalize w3.setCell ⟨X, 3, none⟩ (.int .i64 v) = W3 at H4 ⊢
    have o0 : W3.cell? ⟨X, 0, none⟩ = some (.int .i64 n) := H4.out.bO.cell 0
    have o1 : W3.cell? ⟨X, 1, none⟩ = some (.slice (some ⟨K, 0, none⟩) key.length kc) := H4.out.bO.cell 1
    have o2 : W3.cell? ⟨X, 2, none⟩ = some (.int .i64 b) := H4.out.bO.cell 2
    have o3 : W3.cell? ⟨X, 3, none⟩ = some (.int .i64 v) := H4.out.bO.cell 3
    have o4 : W3.cell? ⟨X, 4, none⟩ = some (.slice (some ⟨M, 0, none⟩) rs.length cap) := H4.out.bO.cell 4
    have r0 : W3.cell? ⟨w.heap.size, 0, none⟩ = some (.int .i64 0) := H4.out.bR.cell 0
    have fr0 := H4.out.bR.frozen 0
    have r1 : W3.cell? ⟨w.heap.size, 1, none⟩ = some (.slice none 0 0) := H4.out.bR.cell 1
    have fr1 := H4.out.bR.frozen 1
    have r2 : W3.cell? ⟨w.heap.size, 2, none⟩ = some (.int .i64 0) := H4.out.bR.cell 2
    have fr2 := H4.out.bR.frozen 2
    have r3 : W3.cell? ⟨w.heap.size, 3, none⟩ = some (.int .i64 0) := H4.out.bR.cell 3
    have fr3 := H4.out.bR.frozen 3
    have r4 : W3.cell? ⟨w.heap.size, 4, none⟩ = some (.slice none 0 0) := H4.out.bR.cell 4
    have fr4 := H4.out.bR.frozen 4
    have hs := put5 H4.out.bR (.int .i64 n) (.slice (some ⟨K, 0, none⟩) key.length kc) (.int .i64 b) (.int .i64 v) (.slice (some ⟨M, 0, none⟩) rs.length cap)
    have s0 := hs.cell 0
    have s1 := hs.cell 1
    have s2 := hs.cell 2
    have s3 := hs.cell 3
    have s4 := hs.cell 4
    go_wp2
    refine bodyPost_ret (v := .agg #[.int .i64 n, .slice (some ⟨K, 0, none⟩) key.length kc, .int .i64 b, .int .i64 v, .slice (some ⟨M, 0, none⟩) rs.length cap]) (by simp [results, Tryz.results56, go_sem, s0, s1, s2, s3, s4]) rfl ?_
    exact ⟨n, b, v, K, kc, M, cap, key, _, rfl, H4.out.dg.set5 H4.out.bR (Nat.le_refl _) _ _ _ _ _, ⟨HN.out.1, HN.out.2.1, HV.out⟩, HKF.out, by have := H8.out; omega⟩
  have d3' : (z == 3) = false := by simpa using e3
  by_cases e4 : z = 4
  · subst e4
    have HC : Hid (Calls Tryz.prog 92 #[.pointer (some ⟨c, 0, none⟩)] w2.drew fun r w' => ∃ y : ARow, r = .returned (.agg #[.slice (some ⟨y.1, 0, none⟩) y.2.2.l.length y.2.1, .int .i64 y.2.2.s, .int .i64 y.2.2.e, .string y.2.2.n]) ∧ HSt w c X n b t key w' K kc M cap rs ∧ OwnA (w.heap.size + 1) w' y ∧ w2.heap.size ≤ y.1 ∧ Fine y.2.2) := (l4Any_any c w2.drew (Cur.drewN HX.out.dg.cur 1)).mono fun r w' ⟨g1, cp, p, s, e, n, hr, hst, hp, hs, he, hn⟩ => ⟨(g1, cp, ⟨p, s, e, n⟩), hr, HX.out.keep hst.cur (kept_drew hst.kept), (own_lst hst hp).down (by have := HX.out.bO.lt; have := HX.out.hX; show _ ≤ w2.drew.heap.size; simp; omega), hst.blk.1, fine_of hp hst.fit hs he hn⟩
    have HS : Hid (∀ w', HSt w c X n b t key w' K kc M cap rs → w'.cell? ⟨X, 4, none⟩ = some (.slice (some ⟨M, 0, none⟩) rs.length cap)) := fun w' h => h.bO.cell 4
    go_upto_region 12 with fail
    refine Hld.wp_region_LH (S := fun w' => w'.cell? ⟨X, 4, none⟩ = some (.slice (some ⟨M, 0, none⟩) rs.length cap)) (z := 7) (by kernel_rfl) (HS.out _ (HX.out.keep (Cur.drewN HX.out.dg.cur 1) (kept_bel (Below.refl _ _).drew))) (fun hHeld => ?_)
    refine Hld.anyL_take (i := 0) (oi := ⟨some 32, .fieldAddr 53 (.tmp 5) 4, 0, "l11_group.go:99", #[], none⟩) (v := ?vd121) rfl (by kernel_rfl) (by kernel_rfl) (by kernel_rfl) (by kernel_rfl) (fun _ _ _ h => h) (Or.inl ⟨by rfl, ?hyd121⟩) hHeld ?_
    case hyd121 => (intro w hSw; (try dsimp only at hSw); go_simp <;> with_reducible rfl)
    try go_frame
    refine Hld.anyL_take (i := 1) (oi := ⟨some 33, .load 35 (.tmp 32), 35, "l11_group.go:99", #[⟨0, .data⟩], none⟩) (v := ?vd122) rfl (by kernel_rfl) (by kernel_rfl) (by kernel_rfl) (by kernel_rfl) (fun _ _ _ h => h) (Or.inl ⟨by rfl, ?hyd122⟩) hHeld ?_
    case hyd122 => (intro w hSw; (try dsimp only at hSw); go_simp <;> with_reducible rfl)
    try go_frame
    refine Hld.anyL_take (i := 2) (oi := ⟨some 34, .move (.tmp 0), 54, "l11_group.go:99", #[], none⟩) (v := ?vd123) rfl (by kernel_rfl) (by kernel_rfl) (by kernel_rfl) (by kernel_rfl) (fun _ _ _ h => h) (Or.inl ⟨by rfl, ?hyd123⟩) hHeld ?_
    case hyd123 => (intro w hSw; (try dsimp only at hSw); go_simp <;> with_reducible rfl)
    try go_frame
    refine Hld.anyL_ready (rs := [3]) (by kernel_rfl) (by simp) ?_
    refine Hld.AllL.cons (o := ⟨some 35, .call { callee := .value (.func 92), args := #[.tmp 34], argTypes := #[54] }, 27, "l11_group.go:99", #[⟨2, .data⟩], none⟩) rfl (fun Kx hK => ?_) Hld.AllL.nil
    go_simp
    refine HC.out.mono ?_
    rintro r wyc ⟨y, rfl, hx, hy, hyl, hyf⟩
    have HXc : Hid (HSt w c X n b t key wyc K kc M cap rs) := hx
    have HY : Hid (OwnA (w.heap.size + 1) wyc y ∧ w2.heap.size ≤ y.1 ∧ Fine y.2.2) := ⟨hy, hyl, hyf⟩
    clear hx hy hyl hyf
    try dsimp only
    clear hHeld
    refine hK.out _ _ (HS.out _ HXc.out) (fun hHeld => ?_)
    clear hK Kx
    try go_frame
    refine Hld.anyL_ready (rs := [4]) (by kernel_rfl) (by simp) ?_
    refine Hld.AllL.cons (o := ⟨some 36, .buildSlice 35 1 #[(0, .tmp 35)], 35, "l11_group.go:99", #[⟨3, .data⟩], none⟩) rfl (fun Kx hK => ?_) Hld.AllL.nil
    go_simp
    clear hHeld
    refine hK.out _ _ (HS.out _ (HXc.out.grow (Go.Joins.below_alloc1 wyc _))) (fun hHeld => ?_)
    clear hK Kx
    try go_frame
    refine Hld.anyL_ready (rs := [5]) (by kernel_rfl) (by simp) ?_
    refine Hld.AllL.cons (o := ⟨some 37, .call { callee := .builtin .append, args := #[.tmp 33, .tmp 36], argTypes := #[35, 35] }, 35, "l11_group.go:99", #[⟨1, .data⟩, ⟨4, .data⟩, ⟨3, .chain⟩], none⟩) rfl (fun Kx hK => ?_) Hld.AllL.nil
    have hXd : HSt w c X n b t key (wyc.alloc (.cells #[.slice (some ⟨y.1, 0, none⟩) y.2.2.l.length y.2.1, .int .i64 y.2.2.s, .int .i64 y.2.2.e, .string y.2.2.n] 27)) K kc M cap rs := HXc.out.grow (Go.Joins.below_alloc1 wyc _)
    obtain ⟨xs, hox, hxl, hxs⟩ := hXd.dg.row.own
    refine step_appB rfl _ _ 35 rfl 27 i0 (.agg #[.slice none 0 0, .int .i64 0, .int .i64 0, .string ByteArray.empty]) 4 56 Tryz.underlying35 hi hz0 hz1 hz2 rfl (by decide) (w.heap.size + 1) ?qb (.slice (some ⟨M, 0, none⟩) rs.length cap) rs.length xs rfl hox ⟨wyc.heap.size, 0, none⟩ 1 1 (rowV y) rfl rfl (blk_news (Blk.new _ _ _)) (row_one _) ?qc ?qd ?_
    case qb => have := hXd.bO.lt; have := hXd.hX; omega
    case qc => have := H8.out; unfold maxLen; omega
    case qd => have := H8.out; omega
    intro v' wya hown hg hat
    obtain ⟨M3, c3, e3, hAB⟩ := hXd.dg.row.app (HY.out.1.grow (Go.Joins.below_alloc1 wyc _)) (fun x hx => by have := (HX.out.dg.row.rows x hx).lt; have := HY.out.2.1; omega) hxl hxs hown hg
    subst e3
    have HOLD : Hid (Cur wya c ∧ Kept c w wya ∧ Blk wya w.heap.size #[.int .i64 0, .slice none 0 0, .int .i64 0, .int .i64 0, .slice none 0 0] 53 ∧ Blk wya X #[.int .i64 n, .slice (some ⟨K, 0, none⟩) key.length kc, .int .i64 b, .int .i64 t, .slice (some ⟨M, 0, none⟩) rs.length cap] 53 ∧ OwnL (w.heap.size + 1) wya K key ∧ ¬ blks M3 (rs ++ [y]) K) := by
      have h0 := hXd.dg.clt; have h1 := hXd.hX
      have hrow : ∀ k, (Value.slice (some ⟨M, 0, none⟩) rs.length cap).ownBlock = some k → w.heap.size + 1 ≤ k ∧ X ≠ k ∧ k ≠ K := fun k hk => by
        cases hk
        obtain ⟨cu, hcu, _⟩ := hXd.dg.row.outer
        obtain ⟨_, cs, hcs, _⟩ := hXd.dg.key
        exact ⟨hXd.dg.row.at', blk_tne hXd.bO hcu (by decide), blk_tne hcu hcs (by decide)⟩
      have hKl : OwnL (w.heap.size + 1) wya K key := by
        obtain ⟨h2, cs, h3, h4⟩ := hXd.dg.key
        exact ⟨h2, cs, blk_far h3 hg (fun e => (hrow _ e.symm).2.2 rfl), h4⟩
      refine ⟨hXd.dg.cur.grown hg (fun k hk => by have := (hrow k hk).1; omega), kept_grown (B := 0) hXd.dg.kept hg (fun k hk => by have := (hrow k hk).1; omega), blk_far hXd.bR hg (fun e => by have := (hrow _ e.symm).1; omega), blk_far hXd.bO hg (fun e => (hrow _ e.symm).2.1 rfl), hKl, fun hb => ?_⟩
      rcases hb with hb | ⟨x, hx, hb⟩
      · obtain ⟨_, cs, hcs, _⟩ := hKl
        obtain ⟨cu, hcu, _⟩ := hAB.outer
        exact absurd hb (blk_tne hcs hcu (by decide))
      · rcases List.mem_append.1 hx with hx | hx
        · exact HX.out.dg.ne (.inr ⟨x, hx, hb⟩)
        · rw [List.mem_singleton.1 hx] at hb
          have h5 := HX.out.dg.key.lt; have h6 := HY.out.2.1; omega
    have HAB : Hid (AB (w.heap.size + 1) wya M3 c3 (rs ++ [y])) := hAB
    have HFY : Hid (Fines (pals (rs ++ [y]))) := by rw [Rws.pals_app]; exact fines_app HX.out.dg.fine HY.out.2.2
    clear hown hg hat hXd hox hxl hxs hAB
    clear hHeld
    refine hK.out _ _ (HOLD.out.2.2.2.1.cell 4) (fun hHeld => ?_)
    clear hK Kx
    try go_frame
    refine Hld.anyL_take (i := 6) (oi := ⟨some 38, .fieldAddr 53 (.tmp 5) 4, 0, "l11_group.go:99", #[⟨0, .phase⟩, ⟨1, .phase⟩, ⟨2, .phase⟩, ⟨3, .phase⟩, ⟨4, .phase⟩, ⟨5, .phase⟩], none⟩) (v := ?vd127) rfl (by kernel_rfl) (by kernel_rfl) (by kernel_rfl) (by kernel_rfl) (fun _ _ _ h => h) (Or.inl ⟨by rfl, ?hyd127⟩) hHeld ?_
    case hyd127 => (intro w hSw; (try dsimp only at hSw); go_simp <;> with_reducible rfl)
    try go_frame
    refine Hld.anyL_ready (rs := [7]) (by kernel_rfl) (by simp) ?_
    refine Hld.AllL.last (o := ⟨none, .store 35 (.tmp 38) (.tmp 37), 0, "l11_group.go:99", #[⟨6, .data⟩, ⟨5, .data⟩, ⟨5, .chain⟩, ⟨0, .phase⟩, ⟨1, .phase⟩, ⟨2, .phase⟩, ⟨3, .phase⟩, ⟨4, .phase⟩, ⟨5, .phase⟩], none⟩) rfl (fun Kx hK => ?_)
    have cD : wya.cell? ⟨X, 4, none⟩ = some (.slice (some ⟨M, 0, none⟩) rs.length cap) := HOLD.out.2.2.2.1.cell 4
    have fD := HOLD.out.2.2.2.1.frozen 4
    go_simp
    clear cD fD
    refine hK.out _ _ ?_
    clear hK Kx hHeld
    try go_frame
    refine Hld.anyL_done (by kernel_rfl) ?_ _
    have HXZ : Hid (HSt w c X n b t key (wya.setCell ⟨X, 4, none⟩ (.slice (some ⟨M3, 0, none⟩) (rs.length + 1) c3)) K kc M3 c3 (rs ++ [y])) := by
      have h := set4_of (n := n) (b := b) (t := t) (kc := kc) HOLD.out.1 HOLD.out.2.1 HL.out HOLD.out.2.2.1 HOLD.out.2.2.2.1 HX.out.hX HOLD.out.2.2.2.2.1 HAB.out HOLD.out.2.2.2.2.2 HFY.out
      simp only [List.length_append, List.length_singleton] at h
      exact h
    clear HOLD HAB HFY HXc HY HX
    generalize wya.setCell ⟨X, 4, none⟩ (.slice (some ⟨M3, 0, none⟩) (rs.length + 1) c3) = W3 at HXZ ⊢
    have HLEN : Hid ((rs ++ [y]).length = rs.length + 1) := by simp [Hid]
    have HX8 : Hid (Blk W3 X #[.int .i64 n, .slice (some ⟨K, 0, none⟩) key.length kc, .int .i64 b, .int .i64 t, .slice (some ⟨M3, 0, none⟩) (rs.length + 1) c3] 53) := by have h := HXZ.out.bO; simp only [List.length_append, List.length_singleton] at h; exact h
    have o0 : W3.cell? ⟨X, 0, none⟩ = some (.int .i64 n) := HX8.out.cell 0
    have o1 : W3.cell? ⟨X, 1, none⟩ = some (.slice (some ⟨K, 0, none⟩) key.length kc) := HX8.out.cell 1
    have o2 : W3.cell? ⟨X, 2, none⟩ = some (.int .i64 b) := HX8.out.cell 2
    have o3 : W3.cell? ⟨X, 3, none⟩ = some (.int .i64 t) := HX8.out.cell 3
    have o4 : W3.cell? ⟨X, 4, none⟩ = some (.slice (some ⟨M3, 0, none⟩) (rs.length + 1) c3) := HX8.out.cell 4
    have r0 : W3.cell? ⟨w.heap.size, 0, none⟩ = some (.int .i64 0) := HXZ.out.bR.cell 0
    have fr0 := HXZ.out.bR.frozen 0
    have r1 : W3.cell? ⟨w.heap.size, 1, none⟩ = some (.slice none 0 0) := HXZ.out.bR.cell 1
    have fr1 := HXZ.out.bR.frozen 1
    have r2 : W3.cell? ⟨w.heap.size, 2, none⟩ = some (.int .i64 0) := HXZ.out.bR.cell 2
    have fr2 := HXZ.out.bR.frozen 2
    have r3 : W3.cell? ⟨w.heap.size, 3, none⟩ = some (.int .i64 0) := HXZ.out.bR.cell 3
    have fr3 := HXZ.out.bR.frozen 3
    have r4 : W3.cell? ⟨w.heap.size, 4, none⟩ = some (.slice none 0 0) := HXZ.out.bR.cell 4
    have fr4 := HXZ.out.bR.frozen 4
    have hs := put5 HXZ.out.bR (.int .i64 n) (.slice (some ⟨K, 0, none⟩) key.length kc) (.int .i64 b) (.int .i64 t) (.slice (some ⟨M3, 0, none⟩) (rs.length + 1) c3)
    have s0 := hs.cell 0
    have s1 := hs.cell 1
    have s2 := hs.cell 2
    have s3 := hs.cell 3
    have s4 := hs.cell 4
    go_wp2
    refine bodyPost_ret (v := .agg #[.int .i64 n, .slice (some ⟨K, 0, none⟩) key.length kc, .int .i64 b, .int .i64 t, .slice (some ⟨M3, 0, none⟩) (rs.length + 1) c3]) (by simp [results, Tryz.results56, go_sem, s0, s1, s2, s3, s4]) rfl ?_
    exact ⟨n, b, t, K, kc, M3, c3, key, rs ++ [y], by rw [HLEN.out], HXZ.out.dg.set5 HXZ.out.bR (Nat.le_refl _) _ _ _ _ _, HN.out, HKF.out, by rw [HLEN.out]; have := H8.out; omega⟩
  have d4' : (z == 4) = false := by simpa using e4
  by_cases e5 : z = 5
  · subst e5
    have hXd : HSt w c X n b t key (w2.alloc (.cells #[] 27)) K kc M cap rs := HX.out.grow (Go.Joins.below_alloc1 w2 _)
    have hE : Blk (w2.alloc (.cells #[] 27)) w2.heap.size #[] 27 := Blk.new _ _ _
    have H4 : Hid (HSt w c X n b t key ((w2.alloc (.cells #[] 27)).setCell ⟨X, 4, none⟩ (.slice (some ⟨w2.heap.size, 0, none⟩) ([] : List ARow).length 0)) K kc w2.heap.size 0 []) := set4_of hXd.dg.cur hXd.dg.kept HL.out hXd.bR hXd.bO hXd.hX hXd.dg.key (ab_nil hE (by have := HX.out.bO.lt; have := HX.out.hX; omega)) (fun hb => by
      rcases hb with hb | ⟨x, hx, _⟩
      · have := HX.out.dg.key.lt; omega
      · simp at hx) (fun x hx => by simp [pals] at hx)
    have q4 : (w2.alloc (.cells #[] 27)).cell? ⟨X, 4, none⟩ = some (.slice (some ⟨M, 0, none⟩) rs.length cap) := hXd.bO.cell 4
    have g4 := hXd.bO.frozen 4
    clear hXd hE HX
    go_upto_region 15 with fail
    clear q4 g4
    change HSt w c X n b t key ((w2.alloc (.cells #[] 27)).setCell ⟨X, 4, none⟩ (.slice (some ⟨w2.heap.size, 0, none⟩) 0 0)) K kc w2.heap.size 0 [] at H4
    generalize (w2.alloc (.cells #[] 27)).setCell ⟨X, 4, none⟩ (.slice (some ⟨w2.heap.size, 0, none⟩) 0 0) = W3 at H4 ⊢
    generalize w2.heap.size = M5 at H4 ⊢
    replace H4 : Hid (HSt w c X n b t key W3 K kc M5 0 []) := H4
    have o0 : W3.cell? ⟨X, 0, none⟩ = some (.int .i64 n) := H4.out.bO.cell 0
    have o1 : W3.cell? ⟨X, 1, none⟩ = some (.slice (some ⟨K, 0, none⟩) key.length kc) := H4.out.bO.cell 1
    have o2 : W3.cell? ⟨X, 2, none⟩ = some (.int .i64 b) := H4.out.bO.cell 2
    have o3 : W3.cell? ⟨X, 3, none⟩ = some (.int .i64 t) := H4.out.bO.cell 3
    have o4 : W3.cell? ⟨X, 4, none⟩ = some (.slice (some ⟨M5, 0, none⟩) 0 0) := H4.out.bO.cell 4
    have r0 : W3.cell? ⟨w.heap.size, 0, none⟩ = some (.int .i64 0) := H4.out.bR.cell 0
    have fr0 := H4.out.bR.frozen 0
    have r1 : W3.cell? ⟨w.heap.size, 1, none⟩ = some (.slice none 0 0) := H4.out.bR.cell 1
    have fr1 := H4.out.bR.frozen 1
    have r2 : W3.cell? ⟨w.heap.size, 2, none⟩ = some (.int .i64 0) := H4.out.bR.cell 2
    have fr2 := H4.out.bR.frozen 2
    have r3 : W3.cell? ⟨w.heap.size, 3, none⟩ = some (.int .i64 0) := H4.out.bR.cell 3
    have fr3 := H4.out.bR.frozen 3
    have r4 : W3.cell? ⟨w.heap.size, 4, none⟩ = some (.slice none 0 0) := H4.out.bR.cell 4
    have fr4 := H4.out.bR.frozen 4
    have hs := put5 H4.out.bR (.int .i64 n) (.slice (some ⟨K, 0, none⟩) key.length kc) (.int .i64 b) (.int .i64 t) (.slice (some ⟨M5, 0, none⟩) 0 0)
    have s0 := hs.cell 0
    have s1 := hs.cell 1
    have s2 := hs.cell 2
    have s3 := hs.cell 3
    have s4 := hs.cell 4
    go_wp2
    refine bodyPost_ret (v := .agg #[.int .i64 n, .slice (some ⟨K, 0, none⟩) key.length kc, .int .i64 b, .int .i64 t, .slice (some ⟨M5, 0, none⟩) 0 0]) (by simp [results, Tryz.results56, go_sem, s0, s1, s2, s3, s4]) rfl ?_
    exact ⟨n, b, t, K, kc, M5, 0, key, _, rfl, H4.out.dg.set5 H4.out.bR (Nat.le_refl _) _ _ _ _ _, HN.out, HKF.out, by simp⟩
  have d5' : (z == 5) = false := by simpa using e5
  go_upto_region 15 with fail
  have o0 : w2.cell? ⟨X, 0, none⟩ = some (.int .i64 n) := HX.out.bO.cell 0
  have o1 : w2.cell? ⟨X, 1, none⟩ = some (.slice (some ⟨K, 0, none⟩) key.length kc) := HX.out.bO.cell 1
  have o2 : w2.cell? ⟨X, 2, none⟩ = some (.int .i64 b) := HX.out.bO.cell 2
  have o3 : w2.cell? ⟨X, 3, none⟩ = some (.int .i64 t) := HX.out.bO.cell 3
  have o4 : w2.cell? ⟨X, 4, none⟩ = some (.slice (some ⟨M, 0, none⟩) rs.length cap) := HX.out.bO.cell 4
  have r0 : w2.cell? ⟨w.heap.size, 0, none⟩ = some (.int .i64 0) := HX.out.bR.cell 0
  have fr0 := HX.out.bR.frozen 0
  have r1 : w2.cell? ⟨w.heap.size, 1, none⟩ = some (.slice none 0 0) := HX.out.bR.cell 1
  have fr1 := HX.out.bR.frozen 1
  have r2 : w2.cell? ⟨w.heap.size, 2, none⟩ = some (.int .i64 0) := HX.out.bR.cell 2
  have fr2 := HX.out.bR.frozen 2
  have r3 : w2.cell? ⟨w.heap.size, 3, none⟩ = some (.int .i64 0) := HX.out.bR.cell 3
  have fr3 := HX.out.bR.frozen 3
  have r4 : w2.cell? ⟨w.heap.size, 4, none⟩ = some (.slice none 0 0) := HX.out.bR.cell 4
  have fr4 := HX.out.bR.frozen 4
  have hs := put5 HX.out.bR (.int .i64 n) (.slice (some ⟨K, 0, none⟩) key.length kc) (.int .i64 b) (.int .i64 t) (.slice (some ⟨M, 0, none⟩) rs.length cap)
  have s0 := hs.cell 0
  have s1 := hs.cell 1
  have s2 := hs.cell 2
  have s3 := hs.cell 3
  have s4 := hs.cell 4
  go_wp2
  refine bodyPost_ret (v := .agg #[.int .i64 n, .slice (some ⟨K, 0, none⟩) key.length kc, .int .i64 b, .int .i64 t, .slice (some ⟨M, 0, none⟩) rs.length cap]) (by simp [results, Tryz.results56, go_sem, s0, s1, s2, s3, s4]) rfl ?_
  exact ⟨n, b, t, K, kc, M, cap, key, _, rfl, HX.out.dg.set5 HX.out.bR (Nat.le_refl _) _ _ _ _ _, HN.out, HKF.out, by have := H8.out; omega⟩
end Go.Proofs.YtgncimlojbnbfaaGreat.GrpX
namespace Go.Proofs.YtgncimlojbnbfaaGreat.GrpY
open Go.RowKit
open Draw
open Labs LabS Over Blk App DrawL DrawT Alms AlmM DrawA DrawB Rws ChnI ChnC ChnP ChnK DrawC Grp GrpJ GrpW GrpX Chs
open LabT (Held held_reads Fits)
open Pro (RdS)
open StrT (HeldS heldS_reads)

def DAl (w : World) (g : Nat) (x : PAl) : Prop := Reads w (some ⟨g, 0, none⟩) x.l ∧ Fine x
theorem DAl.below {w w' : World} {g : Nat} {x : PAl} (h : DAl w g x) (hb : Below w.heap.size w w') : DAl w' g x := ⟨h.1.below hb, h.2⟩
theorem own_under {lo : Nat} {w : World} {x : ARow} {A : Nat} (h : OwnA lo w x) (hA : A < lo) (i : Nat) (v : Value) : OwnA lo (w.setCell ⟨A, i, none⟩ v) x := own_set h (by have := h.1; omega) i v
theorem byk_of {w wr : World} {c : Nat} {v : Value} {xs : List ByteArray} (h : DrawK.SSt w c wr v xs) : ∃ gb gc, v = .slice (some ⟨gb, 0, none⟩) xs.length gc ∧ ByK wr gb xs ∧ w.heap.size ≤ gb ∧ gb < wr.heap.size := by
  obtain ⟨g, cp, rfl⟩ := h.lies
  have hl := h.own.lt g rfl
  refine ⟨g, cp, rfl, ?_, hl⟩
  rcases h.own.2 with ⟨e, _⟩ | ⟨g', c', cur, e, _, hgb, _, _, hz, ht⟩
  · cases e
  · cases e
    refine ⟨cur, hgb, fun j hj => ?_⟩
    have hx : (xs.map Value.string)[j]? = some (.string (StrB.nth xs j)) := by
      rw [StrT.nthS_eq hj]; simp [hj]
    rw [← ht, List.getElem?_take_of_lt (by omega)] at hx
    simpa using hx

theorem set_low {B : Nat} {w w' : World} {A : Nat} (h : Below B w w') (hA : B ≤ A) (i : Nat) (v : Value) : Below B w (w'.setCell ⟨A, i, none⟩ v) := h.setCell (p := ⟨A, i, none⟩) hA v
end Go.Proofs.YtgncimlojbnbfaaGreat.GrpY
