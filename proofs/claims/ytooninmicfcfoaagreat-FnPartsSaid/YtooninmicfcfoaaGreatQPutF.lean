/-
  PROVED: what FindIn answers, case by case, of both sides; what an alarm that was found is; marks and their search in an alarm without labels.
  PROVED: how many alarms and labels a part's chains have where one alarm more was put into them, and that each of them is of its kind.
  PROVED: the contract of spec.DrawInOrder: it returns a slice of at most five strings in memory of its own, and nothing that was there is changed.
  PROVED: the contracts of the drawing of labels: l2Draw and l2Any hand back a row of the call's own with a few small labels; the cursor goes on, all else is as it was.
  PROVED: the contract of spec.DrawSetLess: two slices of a few small labels in memory of its own; nothing that was there is changed.
  PROVED: the contracts of the drawing of alarms: l4Draw, l4Any, l4Pair and what is drawn by them: alarms with a few small labels in memory of their own; nothing that was there is changed but the cursor.
  PROVED: the contracts of the draws of alarms that FnMerges and FnAlarms begin with: alarms with a few small labels in memory of their own; nothing that was there is changed.
  Small alarms and rows of them beside the drawing cursor.
  PROVED: the contracts of the drawing of chains, l6Draw first: a chain with a few small alarms in memory of its own; nothing that was there is changed but the cursor.
  PROVED: the contract of l6Any: a drawn chain, bent or not, in memory of its own; nothing that was there is changed but the cursor.
  PROVED: the contracts of the draws of chapter 6: chains, bent or not, and what comes beside them, in new memory.
  PROVED: the contract of l7Draw: a part with a few small alarms in memory of its own; nothing that was there is changed but the cursor.
  PROVED: the contract of l7Any: a drawn part, bent or not, in memory of its own; nothing that was there is changed but the cursor.
  PROVED: the contracts of the draws of chapter 7: parts, bent or not, and what comes beside them, in new memory.
  PROVED: on plain lists of chains: what was put is found, by its labels, merged with what was there; what is swept away and what is left are all there was, and nothing that is left is over.
-/
import Derived.Test.YtooninmicfcfoaaGreatQPrtZ
import Derived.Test.YtooninmicfcfoaaGreatQPrtW
import Derived.Test.YtooninmicfcfoaaGreatQPrt
import Derived.Test.YtooninmicfcfoaaGreatQPrtC
import Derived.Test.YtooninmicfcfoaaGreatQDrawW
import Derived.Test.YtooninmicfcfoaaGreatQLst
import Derived.Test.YtooninmicfcfoaaGreatQApp
import Derived.Deep.RegionHeld3
import Derived.Test.YtooninmicfcfoaaGreatQLawB
import Derived.Test.YtooninmicfcfoaaGreatQPrtV
import Derived.Test.YtooninmicfcfoaaGreatQPrtS
import Derived.Test.YtooninmicfcfoaaGreatQPrtX
import Derived.Test.YtooninmicfcfoaaGreatQPrtY
set_option linter.unusedVariables false
namespace Go.Proofs.YtooninmicfcfoaaGreat.PrtJ
open Go.RowKit
open Labs LabS Alms AlmS AlmM Over Blk App Rws ChnC ChnK Chs Prt PrtO PrtF
open Fing (fingerB)
theorem find_in {C : List PCh} {l : List Lab} {x : PAl} (h : findB C l = some x) : ∃ c ∈ C, ∃ i, i < c.P.length ∧ x = nthP c.P i := by
  rcases at_cases C (fingerB l) with ⟨h0, _⟩ | ⟨k, h0, _, hk, _⟩
  · rw [find_1 h0] at h; cases h
  · rcases idx_cases (nthC C k).P l with ⟨_, h2⟩ | ⟨i, _, hi, h3, h4⟩
    · rw [find_2 h0 h2] at h; cases h
    · rw [find_3 h0 h4 h3 hi] at h
      exact ⟨_, nthC_mem hk, i, hi, (Option.some.inj h).symm⟩
theorem specFind_no (hd vr : Int) (a a' : Option Addr) (cap cap' : Nat) (C : List PCh) (l : List Lab) (w : World) (hr : RdG RdN w a C) (hr' : Reads w a' l) (hl : C.length ≤ 1048576) (hs : Small C) (hll : l.length ≤ maxLen) (hlf : LabT.Fits l) (hF : findB C l = none) :
    Calls Tryz.prog 13 #[.agg #[.int .i64 hd, .int .i64 vr, .slice a C.length cap], .slice a' l.length cap'] w fun e w' => e = .returned (.tuple #[.agg #[.slice none 0 0, .int .i64 0, .int .i64 0, .string ByteArray.empty], .bool false]) ∧ Below w.heap.size w w' :=
  (specFind_any hd vr a a' cap cap' C l w hr hr' hl hs hll hlf).mono fun e w' h => by
    rw [hF] at h
    exact h
theorem specFind_yes (hd vr : Int) (a a' : Option Addr) (cap cap' : Nat) (C : List PCh) (l : List Lab) (x : PAl) (w : World) (hr : RdG RdN w a C) (hr' : Reads w a' l) (hl : C.length ≤ 1048576) (hs : Small C) (hll : l.length ≤ maxLen) (hlf : LabT.Fits l) (hF : findB C l = some x) :
    Calls Tryz.prog 13 #[.agg #[.int .i64 hd, .int .i64 vr, .slice a C.length cap], .slice a' l.length cap'] w fun e w' => (∃ M c, e = .returned (.tuple #[.agg #[.slice (some ⟨M, 0, none⟩) x.l.length c, .int .i64 x.s, .int .i64 x.e, .string x.n], .bool true]) ∧ LabR.Own w w' M x.l) ∧ Below w.heap.size w w' :=
  (specFind_any hd vr a a' cap cap' C l w hr hr' hl hs hll hlf).mono fun e w' h => by
    rw [hF] at h
    exact h
end Go.Proofs.YtooninmicfcfoaaGreat.PrtJ
namespace Go.Proofs.YtooninmicfcfoaaGreat.PutS
open Go.RowKit
open Labs LabS Alms AlmM Over Blk App Rws ChnI ChnC ChnP ChnK Chs Prt PrtO PrtF PrtC
open Fing (fingerB)
theorem sumC_set : ∀ (C : List PCh) (k : Nat) (y : PCh), k < C.length → sumC (C.set k y) + ((nthC C k).P.length + sumL (nthC C k).P) = sumC C + (y.P.length + sumL y.P)
  | [], k, y, h => by simp at h
  | x :: C, 0, y, h => by simp [sumC, nthC]; omega
  | x :: C, k + 1, y, h => by
    have ih := sumC_set C k y (by simpa using h)
    have e : nthC (x :: C) (k + 1) = nthC C k := by simp [nthC]
    rw [List.set_cons_succ, sumC, sumC, e]; omega
theorem putC_sum (C : List PCh) (x : PAl) : sumC (putC C x) ≤ sumC C + 1 + x.l.length ∧ (putC C x).length ≤ C.length + 1 := by
  rcases at_cases C (fingerB x.l : Int) with ⟨h0, h1, h2⟩ | ⟨k, h0, h1, hk, h3, h4⟩
  · rw [(put_none h0).1]
    have h := sumC_app (C.take (posB C (fingerB x.l))) (C.drop (posB C (fingerB x.l)))
    rw [List.take_append_drop] at h
    rw [sumC_app, sumC]
    refine ⟨by simp [sumL]; omega, by simp; omega⟩
  · rw [(put_some h0).1]
    have h := sumC_set C k ⟨(nthC C k).f, putL (nthC C k).P x⟩ hk
    have h5 := put_sum (nthC C k).P x
    simp only at h
    exact ⟨by omega, by simp⟩
end Go.Proofs.YtooninmicfcfoaaGreat.PutS
namespace Go.Proofs.YtooninmicfcfoaaGreat.Draw
open Go.RowKit StrB

theorem Kept.grown {c : Nat} {w w' : World} (h : Kept c w w') : w.grownBy w' (some c) :=
  ⟨h.os, h.tape, h.output, h.size, fun k hk hne => h.block k hk (fun e => hne (by rw [e]))⟩
theorem Bytes.grown {w w' : World} {a : Option Addr} {len c : Nat} {row : Option Nat} (h : Bytes w a len c) (hg : w.grownBy w' row) (hr : ∀ k, row = some k → c < k) (hc : c ≤ w.heap.size) : Bytes w' a len c := by
  rcases h with h | ⟨b, off, rfl, hb, hz⟩
  · exact .inl h
  · exact .inr ⟨b, off, rfl, hb, fun j hj => by
      obtain ⟨z, h1, h2⟩ := hz j hj
      exact ⟨z, hg.cell h1 (fun e => by have := hr b e.symm; omega), h2⟩⟩
theorem Cur.grown {w w' : World} {c : Nat} {row : Option Nat} (h : Cur w c) (hg : w.grownBy w' row) (hr : ∀ k, row = some k → c < k) : Cur w' c := by
  obtain ⟨a, len, cap, i, h, h0, h1, h2, f1, f2, hi, hl, hb, hlt⟩ := h
  have hne : some c ≠ row := fun e => by have := hr c e.symm; omega
  have hblk := hg.block c hlt hne
  exact ⟨a, len, cap, i, h, hg.cell h0 hne, hg.cell h1 hne, hg.cell h2 hne, by rw [World.frozen?_of_block (w := w) (a := ⟨c, 1, none⟩) hblk]; exact f1, by rw [World.frozen?_of_block (w := w) (a := ⟨c, 2, none⟩) hblk]; exact f2, hi, hl, hb.grown hg hr (by omega), Nat.lt_of_lt_of_le hlt hg.size⟩
theorem Row.grown {p : Value → Bool} {w w' : World} {a : Addr} {len c : Nat} {row : Option Nat} (h : Row p w a len c) (hg : w.grownBy w' row) (hr : some a.block ≠ row) : Row p w' a len c :=
  ⟨h.1, h.2.1, Nat.lt_of_lt_of_le h.2.2.1 hg.size, fun j hj => by
    obtain ⟨v, h1, h2⟩ := h.2.2.2 j hj
    exact ⟨v, hg.cell (a := ⟨a.block, a.off + j, none⟩) h1 hr, h2⟩⟩

theorem row_lit_at {p : Value → Bool} {w : World} {arr : Array Value} {T : TypeId} {c n b : Nat} (h : arr.toList.all p = true) (hn : arr.size = n) (hc : c < w.heap.size) (hb : b = w.heap.size) : Row p (w.alloc (.cells arr T)) ⟨b, 0, none⟩ n c := by
  subst hb
  exact row_lit h hn hc
end Go.Proofs.YtooninmicfcfoaaGreat.Draw
namespace Go.Proofs.YtooninmicfcfoaaGreat.DrawL
open Go.RowKit
open Draw
open Labs LabS LabR Over Blk App
open LabT (infoL)

def Small (p : List Lab) : Prop := ∀ x ∈ p, x.1.size ≤ 100 ∧ x.2.size ≤ 100
theorem small_app {p q : List Lab} (h : Small p) (k : Small q) : Small (p ++ q) := fun x hx => by
  rcases List.mem_append.1 hx with h1 | h1
  · exact h x h1
  · exact k x h1
theorem small_one {a b : ByteArray} (h : a.size ≤ 100) (k : b.size ≤ 100) : Small [(a, b)] := fun x hx => by
  have : x = (a, b) := by simpa using hx
  subst this; exact ⟨h, k⟩
theorem small_nil : Small [] := fun x hx => by simp at hx
theorem flat_app (p q : List Lab) : flat (p ++ q) = flat p ++ flat q := by
  induction p with
  | nil => rfl
  | cons x p ih => rw [List.cons_append, flat, ih]; rfl

structure LSt (w : World) (c : Nat) (wr : World) (v : Value) (p : List Lab) : Prop where
  own : wr.ownsRow w.heap.size 127 2 v p.length (flat p)
  lies : ∃ g cap, v = .slice (some ⟨g, 0, none⟩) p.length cap
  cur : Cur wr c
  kept : Kept c w wr
  clt : c < w.heap.size
  fit : Small p
theorem LSt.lt {w : World} {c : Nat} {wr : World} {v : Value} {p : List Lab} (h : LSt w c wr v p) : ∀ k, v.ownBlock = some k → c < k := fun k hk => by
  have := (h.own.lt k hk).1; have := h.clt; omega
theorem LSt.keep {w : World} {c : Nat} {wr w' : World} {v : Value} {p : List Lab} (h : LSt w c wr v p) (hc : Cur w' c) (hk : Kept c wr w') : LSt w c w' v p :=
  ⟨h.own.kept hk.grown (by
      cases hv : v.ownBlock with
      | none => exact .inl rfl
      | some k => exact .inr (fun e => by have := h.lt k hv; cases e; omega)), h.lies, hc, h.kept.trans hk, h.clt, h.fit⟩
theorem LSt.alloc {w : World} {c : Nat} {wr : World} {v : Value} {p : List Lab} (h : LSt w c wr v p) (o : Obj) : LSt w c (wr.alloc o) v p :=
  h.keep (h.cur.alloc o) ((Kept.refl c wr).alloc o)
theorem kept_grown {c B : Nat} {w W w' : World} {row : Option Nat} (h : Kept c w W) (hg : W.grownBy w' row) (hr : ∀ k, row = some k → w.heap.size ≤ k) : Kept c w w' :=
  ⟨hg.os.trans h.os, hg.tape.trans h.tape, hg.output.trans h.output, Nat.le_trans h.size hg.size, fun k hk hc => (hg.block k (Nat.lt_of_lt_of_le hk h.size) (fun e => by have := hr k e.symm; omega)).trans (h.block k hk hc)⟩
theorem own_form {w : World} {B : Nat} {v : Value} {p : List Lab} (h : w.ownsRow B 127 2 v p.length (flat p)) (hp : 0 < p.length) : ∃ g cap, v = .slice (some ⟨g, 0, none⟩) p.length cap := by
  obtain ⟨g, c, e, _⟩ := h.form hp
  exact ⟨g, c, e⟩
theorem LSt.add {w : World} {c : Nat} {W w' : World} {v v' : Value} {p q : List Lab} {n m : Nat} {xs ys : List Value} (h : LSt w c W v p) (hn : n = p.length) (hm : m = q.length) (hx : xs = flat p) (hy : ys = flat q) (hf : Small q) (hq : 0 < q.length)
    (hown : w'.ownsRow w.heap.size 127 2 v' (n + m) (xs ++ ys)) (hg : W.grownBy w' v.ownBlock) : LSt w c w' v' (p ++ q) := by
  subst hn hm hx hy
  have ho : w'.ownsRow w.heap.size 127 2 v' (p ++ q).length (flat (p ++ q)) := by rw [flat_app, List.length_append]; exact hown
  exact ⟨ho, own_form ho (by simp; omega), h.cur.grown hg h.lt, kept_grown (B := 0) h.kept hg (fun k hk => (h.own.lt k hk).1), h.clt, small_app h.fit hf⟩
theorem LSt.cells {w : World} {c : Nat} {wr : World} {g cap : Nat} {p : List Lab} {n : Nat} (h : LSt w c wr (.slice (some ⟨g, 0, none⟩) n cap) p) {m : Nat} (hm : m < p.length) : wr.cell? ⟨g, m * 2, none⟩ = some (.string (nth p m).1) ∧ wr.cell? ⟨g, m * 2 + 1, none⟩ = some (.string (nth p m).2) := by
  have ea : ∀ j, (⟨g, 0, none⟩ : Addr).add j = ⟨g, j, none⟩ := fun j => by by_cases h : j = 0 <;> simp [Addr.add, h]
  have h0 := h.own.cells (g := g) rfl (m * 2) _ (flat_get p m hm).1
  have h1 := h.own.cells (g := g) rfl (m * 2 + 1) _ (flat_get p m hm).2
  rw [ea] at h0 h1
  exact ⟨h0, h1⟩
theorem LSt.blk {w : World} {c : Nat} {wr : World} {g cap : Nat} {p : List Lab} {n : Nat} (h : LSt w c wr (.slice (some ⟨g, 0, none⟩) n cap) p) : w.heap.size ≤ g ∧ g < wr.heap.size := h.own.lt g rfl
theorem LSt.warm {w : World} {c : Nat} {wr : World} {g cap : Nat} {p : List Lab} {n : Nat} (h : LSt w c wr (.slice (some ⟨g, 0, none⟩) n cap) p) (i : Nat) : wr.frozen? ⟨g, i, none⟩ = false := by
  rcases h.own.2 with ⟨e, _⟩ | ⟨g', cap', cur, e, _, hg, _⟩
  · cases e
  · cases e; exact Blk.frozen (T := 127) hg i
theorem own_one {w : World} {B M : Nat} {x : Lab} (h : Blk w M #[.string x.1, .string x.2] 127) (hB : B ≤ M) : w.ownsRow B 127 2 (.slice (some ⟨M, 0, none⟩) 1 1) 1 (flat [x]) :=
  ⟨rfl, .inr ⟨M, 1, _, rfl, hB, h, Nat.le_refl _, by simp [maxLen], rfl, rfl⟩⟩
theorem lst_one {w : World} {c : Nat} {W : World} {x : Lab} (hc : Cur W c) (hk : Kept c w W) (hcl : c < w.heap.size) (hs : x.1.size ≤ 100 ∧ x.2.size ≤ 100) : LSt w c (W.alloc (.cells #[.string x.1, .string x.2] 127)) (.slice (some ⟨W.heap.size, 0, none⟩) 1 1) [x] :=
  ⟨own_one (Blk.new _ _ _) hk.size, ⟨_, _, rfl⟩, hc.alloc _, hk.alloc _, hcl, small_one hs.1 hs.2⟩

structure LLit (w : World) (c lit k : Nat) (wr : World) (v : Value) (p : List Lab) : Prop where
  st : LSt w c wr v p
  row : Row isStr wr ⟨lit, 0, none⟩ k c
  ne : v.ownBlock ≠ some lit
theorem LLit.keep {w : World} {c lit k : Nat} {wr w' : World} {v : Value} {p : List Lab} (h : LLit w c lit k wr v p) (hc : Cur w' c) (hk : Kept c wr w') : LLit w c lit k w' v p :=
  ⟨h.st.keep hc hk, h.row.keep hk, h.ne⟩
theorem LLit.alloc {w : World} {c lit k : Nat} {wr : World} {v : Value} {p : List Lab} (h : LLit w c lit k wr v p) (o : Obj) : LLit w c lit k (wr.alloc o) v p :=
  h.keep (h.st.cur.alloc o) ((Kept.refl c wr).alloc o)
theorem LLit.add {w : World} {c lit k : Nat} {W w' : World} {v v' : Value} {p q : List Lab} {n m : Nat} {xs ys : List Value} (h : LLit w c lit k W v p) (hn : n = p.length) (hm : m = q.length) (hx : xs = flat p) (hy : ys = flat q) (hf : Small q) (hq : 0 < q.length)
    (hown : w'.ownsRow w.heap.size 127 2 v' (n + m) (xs ++ ys)) (hg : W.grownBy w' v.ownBlock) (N : Nat) (hN : N = W.heap.size) (hat : v'.ownBlock = v.ownBlock ∨ v'.ownBlock = some N) : LLit w c lit k w' v' (p ++ q) := by
  subst hN
  refine ⟨h.st.add hn hm hx hy hf hq hown hg, h.row.grown hg (fun e => h.ne e.symm), ?_⟩
  rcases hat with hat | hat
  · rw [hat]; exact h.ne
  · rw [hat]; intro e; have hlt : lit < W.heap.size := h.row.2.2.1; cases e; omega

set_option maxHeartbeats 1600000 in
theorem l2Draw_any (c : Nat) (w : World) (hc : Cur w c) :
    Calls Tryz.prog 104 #[.pointer (some ⟨c, 0, none⟩)] w fun e w' => ∃ v, e = .returned v ∧ ∃ p, LSt w c w' v p ∧ 1 ≤ p.length ∧ p.length ≤ 4 := by
  have HC : Hid (Cur w c) := hc
  have HL : Hid (c < w.heap.size) := hc.lt
  clear hc
  obtain ⟨i0, hi, hz0, hz1, hz2⟩ := info_parts infoL
  go_enter Tryz.func104, Tryz.ntmps104
  go_wp2_with fail
  refine (str_any c w.heap.size 0 3 3 _ (HC.out.alloc _) ?_ (by decide) (by decide)).mono ?_
  · exact row_lit (by decide) rfl HL.out
  rintro e w1 ⟨⟨s, rfl, hs⟩, hc1, hk1⟩
  have HK1 : Hid (Kept c w w1) := ((Kept.refl c w).alloc _).trans hk1
  have HC1 : Hid (Cur w1 c) := hc1
  clear hc1 hk1
  go_wp2_with fail
  go_loopw [3, 13] (fun v i wr => ∃ (k : Nat) (p : List Lab), k ≤ 3 ∧ i = .int .i64 k ∧ 1 ≤ p.length ∧ p.length ≤ k + 1 ∧ LLit w c (w1.heap.size + 1) 3 wr v p) (fun _ i _ => 3 - (intOf i).toNat)
  case atStart =>
    refine ⟨0, [(⟨#[97, 112, 112]⟩, s)], by omega, rfl, by simp, by simp, ⟨(lst_one (x := (⟨#[97, 112, 112]⟩, s)) HC1.out HK1.out HL.out ⟨show (ByteArray.mk #[97, 112, 112]).size ≤ 100 by decide, hs⟩).alloc _, ?_, by simp [Value.ownBlock]⟩⟩
    refine row_lit_at (p := isStr) ?_ rfl ?_ (by simp)
    · decide
    · have := HK1.out.size; have := HL.out; simp; omega
  case round =>
    obtain ⟨k, p, hk, rfl, hp1, hp2, hst⟩ := hrel
    have HS : Hid (LLit w c (w1.heap.size + 1) 3 wr u3 p) := hst
    clear hst
    by_cases hlt : k < 3
    · have hlt' : (k : Int) < 3 := by omega
      obtain ⟨v, hv, hp⟩ := HS.out.row.2.2.2 k hlt
      obtain ⟨t, rfl, ht⟩ := str_of hp
      have hv' : wr.cell? ⟨w1.heap.size + 1, k, none⟩ = some (.string t) := by simpa using hv
      clear hv hp
      go_wp2_with fail
      refine (once_any _ 4 _ HS.out.st.cur (by decide) (by decide)).mono ?_
      rintro e w2 ⟨⟨b, rfl⟩, hc2, hk2⟩
      have HS2 : Hid (LLit w c (w1.heap.size + 1) 3 w2 u3 p) := HS.out.keep hc2 hk2
      clear hc2 hk2 hv'
      cases b with
      | true =>
        go_wp2_with fail
        refine (str_any c w2.heap.size 0 2 2 _ (HS2.out.st.cur.alloc _) ?_ (by decide) (by decide)).mono ?_
        · exact row_lit (by decide) rfl HS2.out.st.cur.lt
        rintro e w3 ⟨⟨y, rfl, hy⟩, hc3, hk3⟩
        have HS3 : Hid (LLit w c (w1.heap.size + 1) 3 w3 u3 p) := (HS2.out.alloc _).keep hc3 hk3
        clear hc3 hk3
        go_wp2_with (at_builtin; refine wpList_append_own_at _ rfl _ _ 27 rfl w.heap.size 127 i0 (.agg #[.string ByteArray.empty, .string ByteArray.empty]) 2 32 Tryz.underlying27 hi hz0 hz1 hz2 rfl (by decide) _ _ _ rfl (HS3.out.alloc _).st.own ⟨w3.heap.size, 0, none⟩ 1 1 [.string t, .string y] rfl rfl ?c1 ?c2 ?c3 ?c4 ?c5 ?_)
        case c1 => exact blk_news (Blk.new _ _ _)
        case c2 => exact flat_one [(t, y)]
        case c3 => unfold maxLen; omega
        case c4 => omega
        case c5 => have := HS3.out.st.kept.size; simp; omega
        intro v' w4 hown hg _ hat
        have HS4 : Hid (LLit w c (w1.heap.size + 1) 3 w4 v' (p ++ [(t, y)])) := (HS3.out.alloc _).add (q := [(t, y)]) rfl rfl rfl rfl (small_one ht hy) (by simp) hown hg _ (by simp) hat
        clear hown hg hat
        go_wp2
        go_roundw
        case rel => exact ⟨k + 1, p ++ [(t, y)], by omega, by go_num, by simp, by simp; omega, HS4.out⟩
        case measure => simp [intOf]; omega
      | false =>
        go_wp2
        go_roundw
        case rel => exact ⟨k + 1, p, by omega, by go_num, hp1, by omega, HS2.out⟩
        case measure => simp [intOf]; omega
    · have hge : ¬ (k : Int) < 3 := by omega
      go_wp2
      go_ret
      exact ⟨_, rfl, p, HS.out.st, hp1, by omega⟩

theorem grown_set (w : World) (g i : Nat) (v : Value) : w.grownBy (w.setCell ⟨g, i, none⟩ v) (some g) :=
  ⟨rfl, rfl, rfl, by simp [World.setCell], fun k _ hne => Below.heap_setCell _ _ _ _ (fun e => hne (by rw [e]))⟩
theorem LSt.put {w : World} {c : Nat} {wr : World} {g cap n : Nat} {p : List Lab} (h : LSt w c wr (.slice (some ⟨g, 0, none⟩) n cap) p) (hp : 0 < p.length) (s : ByteArray) (hs : s.size ≤ 100) :
    LSt w c (wr.setCell ⟨g, 1, none⟩ (.string s)) (.slice (some ⟨g, 0, none⟩) n cap) (((nth p 0).1, s) :: p.tail) := by
  obtain ⟨x, q, rfl⟩ : ∃ x q, p = x :: q := by cases p with | nil => simp at hp | cons x q => exact ⟨x, q, rfl⟩
  have hgl := h.blk
  have hgc : c ≠ g := by have := h.clt; omega
  refine ⟨⟨by simp [flat_len], ?_⟩, h.lies, ?_, ?_, h.clt, ?_⟩
  · rcases h.own.2 with ⟨e, _⟩ | ⟨g', cap', cur, e, hb, hg, hn, hcm, hcs, ht⟩
    · cases e
    · cases e
      refine .inr ⟨g, cap, cur.setIfInBounds 1 (.string s), rfl, hb, ?_, hn, hcm, by simpa using hcs, ?_⟩
      · exact Blk.set (T := 127) hg 1 (.string s)
      · rw [Array.toList_setIfInBounds, List.take_set]
        show (List.take ((x :: q).length * 2) cur.toList).set 1 (.string s) = flat ((x.1, s) :: q)
        rw [ht]
        rfl
  · exact h.cur.grown (grown_set wr g 1 _) (fun k hk => by cases hk; have := h.clt; omega)
  · exact kept_grown (B := 0) h.kept (grown_set wr g 1 _) (fun k hk => by cases hk; exact hgl.1)
  · intro y hy
    rcases List.mem_cons.1 hy with rfl | hy
    · exact ⟨(h.fit x (by simp)).1, hs⟩
    · exact h.fit y (by simp [show y ∈ q from hy])
theorem LSt.none_new {w : World} {c : Nat} {W : World} (hc : Cur W c) (hk : Kept c w W) (hcl : c < w.heap.size) : LSt w c (W.alloc (.cells #[] 127)) (.slice (some ⟨W.heap.size, 0, none⟩) 0 0) [] :=
  ⟨own_empty (Blk.new _ _ _) hk.size, ⟨_, _, rfl⟩, hc.alloc _, hk.alloc _, hcl, small_nil⟩

theorem LSt.ahead {w : World} {c : Nat} {W w' : World} {v v' : Value} {x : Lab} {p : List Lab} {xs ys : List Value} {n m : Nat} (h : LSt w c W v p) {u : Value} (hu : W.ownsRow w.heap.size 127 2 u n xs) (hn : n = 1) (hm : m = p.length) (hx : xs = flat [x]) (hy : ys = flat p) (hs : Small [x])
    (hown : w'.ownsRow w.heap.size 127 2 v' (n + m) (xs ++ ys)) (hg : W.grownBy w' u.ownBlock) : LSt w c w' v' (x :: p) := by
  subst hn hm hx hy
  have ho : w'.ownsRow w.heap.size 127 2 v' (x :: p).length (flat (x :: p)) := by
    rw [List.length_cons, Nat.add_comm]; exact hown
  exact ⟨ho, own_form ho (by simp), h.cur.grown hg (fun k hk => by have := (hu.lt k hk).1; have := h.clt; omega), kept_grown (B := 0) h.kept hg (fun k hk => (hu.lt k hk).1), h.clt, by
    intro y hy
    rcases List.mem_cons.1 hy with rfl | hy
    · exact hs _ (by simp)
    · exact h.fit y hy⟩
theorem LSt.src {w : World} {c : Nat} {wr : World} {g cap n : Nat} {p : List Lab} (h : LSt w c wr (.slice (some ⟨g, 0, none⟩) n cap) p) : ∀ j u, (flat p)[j]? = some u → wr.cell? ((⟨g, 0, none⟩ : Addr).add j) = some u := h.own.cells (g := g) rfl

set_option maxHeartbeats 1600000 in
theorem l2Any_any (c : Nat) (w : World) (hc : Cur w c) :
    Calls Tryz.prog 177 #[.pointer (some ⟨c, 0, none⟩)] w fun e w' => ∃ v, e = .returned v ∧ ∃ p, LSt w c w' v p ∧ p.length ≤ 8 := by
  have HC : Hid (Cur w c) := hc
  have HL : Hid (c < w.heap.size) := hc.lt
  clear hc
  obtain ⟨i0, hi, hz0, hz1, hz2⟩ := info_parts infoL
  go_enter Tryz.func177, Tryz.ntmps177
  go_wp2_with fail
  refine (l2Draw_any c w HC.out).mono ?_
  rintro e w1 ⟨v, rfl, p, hst, hp1, hp2⟩
  obtain ⟨g, cap, rfl⟩ := hst.lies
  have HS1 : Hid (LSt w c w1 (.slice (some ⟨g, 0, none⟩) p.length cap) p) := hst
  clear hst
  go_wp2_with fail
  refine (below_any c 10 _ HS1.out.cur (by decide) (by decide)).mono ?_
  rintro e w2 ⟨⟨x, rfl, hx0, hx1⟩, hc2, hk2⟩
  have HS2 : Hid (LSt w c w2 (.slice (some ⟨g, 0, none⟩) p.length cap) p) := HS1.out.keep hc2 hk2
  clear hc2 hk2
  by_cases e0 : x = 0
  · subst e0
    go_wp2_with fail
    refine (anyName_any c _ HS2.out.cur).mono ?_
    rintro e w3 ⟨⟨s, rfl, hs⟩, hc3, hk3⟩
    have HS3 : Hid (LSt w c w3 (.slice (some ⟨g, 0, none⟩) p.length cap) p) := HS2.out.keep hc3 hk3
    clear hc3 hk3
    go_wp2_with fail
    refine (anyPlain_any c _ HS3.out.cur).mono ?_
    rintro e w4 ⟨⟨t, rfl, ht⟩, hc4, hk4⟩
    have HS4 : Hid (LSt w c w4 (.slice (some ⟨g, 0, none⟩) p.length cap) p) := HS3.out.keep hc4 hk4
    clear hc4 hk4
    go_wp2_with (at_builtin; refine wpList_append_own_at _ rfl _ _ 27 rfl w.heap.size 127 i0 (.agg #[.string ByteArray.empty, .string ByteArray.empty]) 2 32 Tryz.underlying27 hi hz0 hz1 hz2 rfl (by decide) _ _ _ rfl (HS4.out.alloc _).own ⟨w4.heap.size, 0, none⟩ 1 1 [.string s, .string t] rfl rfl ?c1 ?c2 ?c3 ?c4 ?c5 ?_)
    case c1 => exact blk_news (Blk.new _ _ _)
    case c2 => exact flat_one [(s, t)]
    case c3 => unfold maxLen; omega
    case c4 => omega
    case c5 => have := HS4.out.kept.size; simp; omega
    intro v' w5 hown hg _ hat
    have HS5 : Hid (LSt w c w5 v' (p ++ [(s, t)])) := (HS4.out.alloc _).add (q := [(s, t)]) rfl rfl rfl rfl (small_one hs ht) (by simp) hown hg
    clear hown hg hat
    go_wp2
    go_ret
    exact ⟨_, rfl, _, HS5.out, by simp; omega⟩
  have d0 : (x == 0) = false := by simpa using e0
  by_cases e1 : x = 1
  · subst e1
    have HB : Hid (Blk (w2.alloc (.cells #[.string ⟨#[122, 122]⟩, .string ⟨#[49]⟩] 127)) w2.heap.size #[.string ⟨#[122, 122]⟩, .string ⟨#[49]⟩] 127) := Blk.new _ _ _
    have HO : Hid ((w2.alloc (.cells #[.string ⟨#[122, 122]⟩, .string ⟨#[49]⟩] 127)).ownsRow w.heap.size 127 2 (.slice (some ⟨w2.heap.size, 0, none⟩) 1 1) 1 (flat [(⟨#[122, 122]⟩, ⟨#[49]⟩)])) := own_one (x := (⟨#[122, 122]⟩, ⟨#[49]⟩)) HB.out HS2.out.kept.size
    go_wp2_with (at_builtin; refine wpList_append_own_at _ rfl _ _ 27 rfl w.heap.size 127 i0 (.agg #[.string ByteArray.empty, .string ByteArray.empty]) 2 32 Tryz.underlying27 hi hz0 hz1 hz2 rfl (by decide) _ _ _ rfl HO.out ⟨g, 0, none⟩ p.length cap (flat p) rfl (flat_len p) ?c1 (flat_one p) ?c3 ?c4 ?c5 ?_)
    case c1 => exact (HS2.out.alloc _).src
    case c3 => unfold maxLen; omega
    case c4 => omega
    case c5 => have := HS2.out.kept.size; simp; omega
    intro v' w3 hown hg _ hat
    have HS3 : Hid (LSt w c w3 v' ((⟨#[122, 122]⟩, ⟨#[49]⟩) :: p)) := (HS2.out.alloc _).ahead HO.out rfl rfl rfl rfl (small_one (by decide) (by decide)) hown hg
    clear hown hg hat HO HB
    go_wp2
    go_ret
    exact ⟨_, rfl, _, HS3.out, by simp; omega⟩
  have d1 : (x == 1) = false := by simpa using e1
  by_cases e2 : x = 2
  · subst e2
    obtain ⟨c0, c1⟩ := HS2.out.cells (m := 0) (by omega)
    have hpl : (0 : Int) < (p.length : Int) := by omega
    simp only [Nat.zero_mul, Nat.zero_add] at c0 c1
    go_wp2_with (at_builtin; refine wpList_append_own_at _ rfl _ _ 27 rfl w.heap.size 127 i0 (.agg #[.string ByteArray.empty, .string ByteArray.empty]) 2 32 Tryz.underlying27 hi hz0 hz1 hz2 rfl (by decide) _ _ _ rfl (HS2.out.alloc _).own ⟨w2.heap.size, 0, none⟩ 1 1 [.string (nth p 0).1, .string (nth p 0).2] rfl rfl ?c1 ?c2 ?c3 ?c4 ?c5 ?_)
    case c1 => exact blk_news (Blk.new _ _ _)
    case c2 => exact flat_one [nth p 0]
    case c3 => unfold maxLen; omega
    case c4 => omega
    case c5 => have := HS2.out.kept.size; simp; omega
    intro v' w3 hown hg _ hat
    have HS3 : Hid (LSt w c w3 v' (p ++ [nth p 0])) := (HS2.out.alloc _).add (q := [nth p 0]) rfl rfl rfl rfl (fun y hy => by
      have e : y = nth p 0 := by simpa using hy
      rw [e]; exact HS2.out.fit _ (by rw [nth_eq (by omega)]; exact List.getElem_mem _)) (by simp) hown hg
    clear hown hg hat c0 c1
    go_wp2
    go_ret
    exact ⟨_, rfl, _, HS3.out, by simp; omega⟩
  have d2 : (x == 2) = false := by simpa using e2
  by_cases e3 : x = 3
  · subst e3
    go_wp2_with (at_builtin; refine wpList_append_own_at _ rfl _ _ 27 rfl w.heap.size 127 i0 (.agg #[.string ByteArray.empty, .string ByteArray.empty]) 2 32 Tryz.underlying27 hi hz0 hz1 hz2 rfl (by decide) _ _ _ rfl (HS2.out.alloc _).own ⟨w2.heap.size, 0, none⟩ 4 4 (flat [(⟨#[122, 117]⟩, ByteArray.empty), (⟨#[122, 118]⟩, ByteArray.empty), (⟨#[122, 119]⟩, ByteArray.empty), (⟨#[122, 120]⟩, ByteArray.empty)]) rfl rfl ?c1 (flat_one _) ?c3 ?c4 ?c5 ?_)
    case c1 => exact blk_news (Blk.new _ _ _)
    case c3 => unfold maxLen; omega
    case c4 => omega
    case c5 => have := HS2.out.kept.size; simp; omega
    intro v' w3 hown hg _ hat
    have HS3 : Hid (LSt w c w3 v' (p ++ [(⟨#[122, 117]⟩, ByteArray.empty), (⟨#[122, 118]⟩, ByteArray.empty), (⟨#[122, 119]⟩, ByteArray.empty), (⟨#[122, 120]⟩, ByteArray.empty)])) := (HS2.out.alloc _).add (q := [(⟨#[122, 117]⟩, ByteArray.empty), (⟨#[122, 118]⟩, ByteArray.empty), (⟨#[122, 119]⟩, ByteArray.empty), (⟨#[122, 120]⟩, ByteArray.empty)]) rfl rfl rfl rfl (fun y hy => by
      simp only [List.mem_cons, List.not_mem_nil, or_false] at hy
      rcases hy with rfl | rfl | rfl | rfl <;> exact ⟨by decide, by decide⟩) (by simp) hown hg
    clear hown hg hat
    go_wp2
    go_ret
    exact ⟨_, rfl, _, HS3.out, by simp; omega⟩
  have d3 : (x == 3) = false := by simpa using e3
  by_cases e4 : x = 4
  · subst e4
    go_wp2_with fail
    refine (anyPlain_any c _ HS2.out.cur).mono ?_
    rintro e w3 ⟨⟨t, rfl, ht⟩, hc3, hk3⟩
    have hS3 : LSt w c w3 (.slice (some ⟨g, 0, none⟩) p.length cap) p := HS2.out.keep hc3 hk3
    have HS3 : Hid (LSt w c w3 (.slice (some ⟨g, 0, none⟩) p.length cap) p) := hS3
    obtain ⟨c0, c1⟩ := hS3.cells (m := 0) (by omega)
    have hpl : (0 : Int) < (p.length : Int) := by omega
    simp only [Nat.zero_mul, Nat.zero_add] at c0 c1
    have f1 : w3.frozen? ⟨g, 1, none⟩ = false := hS3.warm 1
    have HS4 : Hid (LSt w c (w3.setCell ⟨g, 1, none⟩ (.string t)) (.slice (some ⟨g, 0, none⟩) p.length cap) (((nth p 0).1, t) :: p.tail)) := hS3.put (by omega) t ht
    clear hc3 hk3 hS3
    go_wp2
    go_ret
    exact ⟨_, rfl, _, HS4.out, by simp; omega⟩
  have d4 : (x == 4) = false := by simpa using e4
  by_cases e5 : x = 5
  · subst e5
    go_wp2
    go_ret
    exact ⟨_, rfl, _, LSt.none_new HS2.out.cur HS2.out.kept HL.out, by simp⟩
  have d5 : (x == 5) = false := by simpa using e5
  go_wp2
  go_ret
  exact ⟨_, rfl, _, HS2.out, by omega⟩
end Go.Proofs.YtooninmicfcfoaaGreat.DrawL
namespace Go.Proofs.YtooninmicfcfoaaGreat.DrawT
open Go.RowKit
open Draw
open Labs LabS Over DrawL

theorem small_fits {p : List Lab} (h : Small p) : ∀ i, i < p.length → (nth p i).1.size ≤ maxLen ∧ (nth p i).2.size ≤ maxLen := fun i hi => by
  rw [nth_eq hi]
  have := h _ (List.getElem_mem hi)
  unfold maxLen
  exact ⟨by omega, by omega⟩
end Go.Proofs.YtooninmicfcfoaaGreat.DrawT
namespace Go.Proofs.YtooninmicfcfoaaGreat.DrawA
open Go.RowKit
open Draw
open Labs LabS LabR Over Blk App DrawL DrawT Alm AlmM
open LabT (infoL Held held_reads)

theorem blk_kept {c M : Nat} {w w' : World} {cs : Array Value} {T : TypeId} (h : Blk w M cs T) (hk : Kept c w w') (hne : M ≠ c) : Blk w' M cs T := by
  have hl := h.lt
  unfold Blk at *
  rw [hk.block M hl hne]; exact h
theorem lst_base {w W wr : World} {c : Nat} {v : Value} {p : List Lab} (h : LSt W c wr v p) (hk : Kept c w W) (hc : c < w.heap.size) : LSt w c wr v p :=
  ⟨Go.Joins.ownsRow_le h.own hk.size, h.lies, h.cur, hk.trans h.kept, hc, h.fit⟩
theorem lst_other {w wr : World} {c : Nat} {v : Value} {p : List Lab} (h : LSt w c wr v p) {B : Nat} (hB : w.heap.size ≤ B) (hne : v.ownBlock ≠ some B) (i : Nat) (u : Value) : LSt w c (wr.setCell ⟨B, i, none⟩ u) v p :=
  ⟨h.own.kept (grown_set wr B i u) (.inr hne), h.lies, h.cur.grown (grown_set wr B i u) (fun k hk => by cases hk; have := h.clt; omega), kept_grown (B := 0) h.kept (grown_set wr B i u) (fun k hk => by cases hk; exact hB), h.clt, h.fit⟩
theorem lst_other4 {w wr : World} {c : Nat} {v : Value} {p : List Lab} (h : LSt w c wr v p) {B : Nat} (hB : w.heap.size ≤ B) (hne : v.ownBlock ≠ some B) (u0 u1 u2 u3 : Value) : LSt w c ((((wr.setCell ⟨B, 0, none⟩ u0).setCell ⟨B, 1, none⟩ u1).setCell ⟨B, 2, none⟩ u2).setCell ⟨B, 3, none⟩ u3) v p :=
  lst_other (lst_other (lst_other (lst_other h hB hne 0 u0) hB hne 1 u1) hB hne 2 u2) hB hne 3 u3
theorem own_ne {g n c B : Nat} (h : g ≠ B) : (Value.slice (some ⟨g, 0, none⟩) n c).ownBlock ≠ some B := fun e => h (Option.some.inj e)
theorem wrapB (x : Int) : -9223372036854775808 ≤ IntKind.i64.wrap x ∧ IntKind.i64.wrap x ≤ 9223372036854775807 := by
  rw [IntKind.wrap_i64]; omega
def I64 (x : Int) : Prop := -9223372036854775808 ≤ x ∧ x ≤ 9223372036854775807

set_option maxRecDepth 100000 in
set_option maxHeartbeats 1600000 in
theorem l4Draw_any (c : Nat) (w : World) (hc : Cur w c) :
    Calls Tryz.prog 62 #[.pointer (some ⟨c, 0, none⟩)] w fun r w' => ∃ (g cap : Nat) (p : List Lab) (s e : Int) (n : ByteArray), r = .returned (.agg #[.slice (some ⟨g, 0, none⟩) p.length cap, .int .i64 s, .int .i64 e, .string n]) ∧ LSt w c w' (.slice (some ⟨g, 0, none⟩) p.length cap) p ∧ p.length ≤ 8 ∧ I64 s ∧ I64 e ∧ n.size ≤ 100 := by
  have HC : Hid (Cur w c) := hc
  have HL : Hid (c < w.heap.size) := hc.lt
  clear hc
  go_enter Tryz.func62, Tryz.ntmps62
  go_wp2_with fail
  refine (l2Draw_any c _ (HC.out.alloc _)).mono ?_
  rintro r w1 ⟨v, rfl, p, hst, hp1, hp2⟩
  obtain ⟨g, cap, rfl⟩ := hst.lies
  have HG : Hid (w.heap.size < g ∧ g < w1.heap.size) := by have := hst.blk; simp at this; exact ⟨by omega, this.2⟩
  have HR1 : Hid (Blk w1 w.heap.size #[.slice none 0 0, .int .i64 0, .int .i64 0, .string ⟨#[]⟩] 29) := blk_kept (Blk.new _ _ _) hst.kept (by have := HL.out; omega)
  have HS1 : Hid (LSt w c w1 (.slice (some ⟨g, 0, none⟩) p.length cap) p) := lst_base hst ((Kept.refl c w).alloc _) HL.out
  clear hst
  go_wp2_with fail
  refine (below_any c 8 _ HS1.out.cur (by decide) (by decide)).mono ?_
  rintro r w2 ⟨⟨s, rfl, hs0, hs1⟩, hc2, hk2⟩
  have HS2 : Hid (LSt w c w2 (.slice (some ⟨g, 0, none⟩) p.length cap) p) := HS1.out.keep hc2 hk2
  have HR2 : Hid (Blk w2 w.heap.size #[.slice none 0 0, .int .i64 0, .int .i64 0, .string ⟨#[]⟩] 29) := blk_kept HR1.out hk2 (by have := HL.out; omega)
  have HZ2 : Hid (w1.heap.size ≤ w2.heap.size) := hk2.size
  clear hc2 hk2
  go_wp2_with fail
  refine (plainS_any c _ HS2.out.cur).mono ?_
  rintro r w3 ⟨⟨n, rfl, hn⟩, hc3, hk3⟩
  have HS3 : Hid (LSt w c w3 (.slice (some ⟨g, 0, none⟩) p.length cap) p) := HS2.out.keep hc3 hk3
  have HR3 : Hid (Blk w3 w.heap.size #[.slice none 0 0, .int .i64 0, .int .i64 0, .string ⟨#[]⟩] 29) := blk_kept HR2.out hk3 (by have := HL.out; omega)
  have HN : Hid (w.heap.size < w3.heap.size ∧ g < w3.heap.size ∧ c < w3.heap.size) := by
    have h1 := HG.out; have h2 := HZ2.out; have h3 := hk3.size; have h4 := HL.out
    exact ⟨by omega, by omega, by omega⟩
  clear hc3 hk3 HS1 HS2 HR1 HR2 HZ2
  go_wp2
  generalize hz : w3.alloc (.cells #[.slice (some ⟨g, 0, none⟩) p.length cap, .int .i64 s, .int .i64 0, .string n] 29) = z
  have HSz : Hid (LSt w c z (.slice (some ⟨g, 0, none⟩) p.length cap) p) := by rw [← hz]; exact HS3.out.alloc _
  have HRz : Hid (Blk z w.heap.size #[.slice none 0 0, .int .i64 0, .int .i64 0, .string ⟨#[]⟩] 29) := by rw [← hz]; exact HR3.out.alloc _
  have HAz : Hid (Blk z w3.heap.size #[.slice (some ⟨g, 0, none⟩) p.length cap, .int .i64 s, .int .i64 0, .string n] 29) := by rw [← hz]; exact Blk.new _ _ _
  clear hz HS3 HR3
  generalize w3.heap.size = A at HN HAz ⊢
  have a1 : z.cell? ⟨A, 1, none⟩ = some (.int .i64 s) := HAz.out.cell 1
  have HK : Hid (∀ (o : Obj) (w4 : World), Cur w4 c → Kept c (z.alloc o) w4 → LSt w c w4 (.slice (some ⟨g, 0, none⟩) p.length cap) p ∧ Blk w4 A #[.slice (some ⟨g, 0, none⟩) p.length cap, .int .i64 s, .int .i64 0, .string n] 29 ∧ Blk w4 w.heap.size #[.slice none 0 0, .int .i64 0, .int .i64 0, .string ⟨#[]⟩] 29) := fun o w4 hc h => by
    have h0 := HN.out; have h1 := HL.out
    exact ⟨(HSz.out.alloc o).keep hc h, blk_kept (HAz.out.alloc o) h (by omega), blk_kept (HRz.out.alloc o) h (by omega)⟩
  have HCz : Hid (Cur z c) := HSz.out.cur
  have HI : Hid (Calls Tryz.prog 77 #[.pointer (some ⟨c, 0, none⟩), .slice (some ⟨z.heap.size, 0, none⟩) 5 5] (z.alloc (.cells #[.int .i64 0, .int .i64 2, .int .i64 5, .int .i64 20, .int .i64 60] 3)).drew fun e w4 => (∃ x : Int, e = .returned (.int .i64 x) ∧ -9223372036854775808 ≤ x ∧ x ≤ 9223372036854775807) ∧ Cur w4 c ∧ Kept c (z.alloc (.cells #[.int .i64 0, .int .i64 2, .int .i64 5, .int .i64 20, .int .i64 60] 3)) w4) := by
    refine (int_any c z.heap.size 0 5 5 _ ?_ ?_ (by decide) (by decide)).mono fun e w4 h => ⟨h.1, h.2.1, ⟨h.2.2.os, h.2.2.tape, h.2.2.output, h.2.2.size, h.2.2.block⟩⟩
    · exact HCz.out.alloc _
    · exact row_lit (w := z) (by decide) rfl HCz.out.lt
  have kz : z.drew.cell? ⟨A, 1, none⟩ = some (.int .i64 s) := a1
  go_region_held3 (fun w' => w'.cell? ⟨A, 1, none⟩ = some (.int .i64 s)) (first | exact kz | exact Blk.cell (HAz.out.alloc _) 1 | exact hA4.cell 1 | exact (hA4.set 2 _).cell 1 | (go_keep; done)) (first
    | (go_at_call 77; (with_reducible refine HI.out.mono ?_); rintro r w4 ⟨⟨x, rfl, hx⟩, hc4, hk4⟩; (have hA3 := HK.out _ w4 hc4 hk4); (have hA4 := hA3.2.1); (have n2 : w4.cell? ⟨A, 2, none⟩ = some (.int .i64 0) := hA4.cell 2); (have f2 := hA4.frozen 2)))
  have HS4 : Hid (LSt w c w4 (.slice (some ⟨g, 0, none⟩) p.length cap) p) := hA3.1
  have hR := hA3.2.2
  have hA := hA4
  clear n2 f2 hA3 hA4 hc4 hk4 kz a1
  have HE : Hid (I64 (IntKind.i64.wrap (s + x))) := wrapB _
  generalize IntKind.i64.wrap (s + x) = y at HE ⊢
  have A0 : w4.cell? ⟨A, 0, none⟩ = some (.slice (some ⟨g, 0, none⟩) p.length cap) := hA.cell 0
  have A1 : w4.cell? ⟨A, 1, none⟩ = some (.int .i64 s) := hA.cell 1
  have A2 : w4.cell? ⟨A, 2, none⟩ = some (.int .i64 0) := hA.cell 2
  have A3 : w4.cell? ⟨A, 3, none⟩ = some (.string n) := hA.cell 3
  have fA0 := hA.frozen 0
  have fA1 := hA.frozen 1
  have fA2 := hA.frozen 2
  have fA3 := hA.frozen 3
  have R0 : w4.cell? ⟨w.heap.size, 0, none⟩ = some (.slice none 0 0) := hR.cell 0
  have R1 : w4.cell? ⟨w.heap.size, 1, none⟩ = some (.int .i64 0) := hR.cell 1
  have R2 : w4.cell? ⟨w.heap.size, 2, none⟩ = some (.int .i64 0) := hR.cell 2
  have R3 : w4.cell? ⟨w.heap.size, 3, none⟩ = some (.string ⟨#[]⟩) := hR.cell 3
  have fR0 := hR.frozen 0
  have fR1 := hR.frozen 1
  have fR2 := hR.frozen 2
  have fR3 := hR.frozen 3
  have d1 : ¬ A = w.heap.size := by have := HN.out; omega
  have d2 : ¬ w.heap.size = A := by have := HN.out; omega
  clear hA hR
  go_wp2
  refine bodyPost_ret (v := .agg #[.slice (some ⟨g, 0, none⟩) p.length cap, .int .i64 s, .int .i64 y, .string n]) (by simp [results, Tryz.results62, go_sem, R0, R1, R2, R3]) rfl ?_
  have h0 := HN.out; have h1 := HG.out; have h2 := HL.out
  exact ⟨g, cap, p, s, y, n, rfl, lst_other4 (lst_other HS4.out (by omega) (own_ne (by omega)) _ _) (Nat.le_refl _) (own_ne (by omega)) _ _ _ _, by omega, ⟨by omega, by omega⟩, HE.out, hn⟩

set_option maxRecDepth 100000 in
set_option maxHeartbeats 3200000 in
theorem l4Any_any (c : Nat) (w : World) (hc : Cur w c) :
    Calls Tryz.prog 157 #[.pointer (some ⟨c, 0, none⟩)] w fun r w' => ∃ (g cap : Nat) (p : List Lab) (s e : Int) (n : ByteArray), r = .returned (.agg #[.slice (some ⟨g, 0, none⟩) p.length cap, .int .i64 s, .int .i64 e, .string n]) ∧ LSt w c w' (.slice (some ⟨g, 0, none⟩) p.length cap) p ∧ p.length ≤ 8 ∧ I64 s ∧ I64 e ∧ n.size ≤ 100 := by
  have HC : Hid (Cur w c) := hc
  have HL : Hid (c < w.heap.size) := hc.lt
  clear hc
  go_enter Tryz.func157, Tryz.ntmps157
  go_wp2_with fail
  refine (l4Draw_any c _ (HC.out.alloc _)).mono ?_
  rintro r w1 ⟨g, cap, p, s, e, n, rfl, hst, hp, hs, he, hn⟩
  have HG : Hid (w.heap.size < g ∧ g < w1.heap.size) := by have := hst.blk; simp at this; exact ⟨by omega, this.2⟩
  have HR1 : Hid (Blk w1 w.heap.size #[.slice none 0 0, .int .i64 0, .int .i64 0, .string ⟨#[]⟩] 29) := blk_kept (Blk.new _ _ _) hst.kept (by have := HL.out; omega)
  have HS1 : Hid (LSt w c w1 (.slice (some ⟨g, 0, none⟩) p.length cap) p) := lst_base hst ((Kept.refl c w).alloc _) HL.out
  have HI : Hid (p.length ≤ 8 ∧ I64 s ∧ I64 e ∧ n.size ≤ 100) := ⟨hp, hs, he, hn⟩
  clear hst hp hs he hn
  go_wp2_with fail
  refine (below_any c 12 _ (HS1.out.cur.alloc _) (by decide) (by decide)).mono ?_
  rintro r w2 ⟨⟨x, rfl, hx0, hx1⟩, hc2, hk2⟩
  have HN : Hid (w.heap.size < g ∧ g < w1.heap.size ∧ w1.heap.size < w2.heap.size) := by
    have h1 := HG.out; have h2 := hk2.size; simp at h2
    exact ⟨by omega, by omega, by omega⟩
  have HS2 : Hid (LSt w c w2 (.slice (some ⟨g, 0, none⟩) p.length cap) p) := (HS1.out.alloc _).keep hc2 hk2
  have HA2 : Hid (Blk w2 w1.heap.size #[.slice (some ⟨g, 0, none⟩) p.length cap, .int .i64 s, .int .i64 e, .string n] 29) := blk_kept (Blk.new _ _ _) hk2 (by have := HL.out; have := HN.out; omega)
  have HR2 : Hid (Blk w2 w.heap.size #[.slice none 0 0, .int .i64 0, .int .i64 0, .string ⟨#[]⟩] 29) := blk_kept (HR1.out.alloc _) hk2 (by have := HL.out; omega)
  clear hc2 hk2 HS1 HR1 HG
  generalize w1.heap.size = A at HN HA2 ⊢
  have HAc : Hid (A ≠ c ∧ w.heap.size ≠ c) := by have := HL.out; have := HN.out; exact ⟨by omega, by omega⟩
  by_cases e0 : x = 0
  · subst e0
    go_wp2_with fail
    refine (l2Any_any c _ HS2.out.cur).mono ?_
    rintro r w3 ⟨v, rfl, q, hst, hq⟩
    obtain ⟨g', cap', rfl⟩ := hst.lies
    have HG' : Hid (A < g') := by have := hst.blk; have := HN.out; show A < g'; omega
    have hA := blk_kept HA2.out hst.kept HAc.out.1
    have hR := blk_kept HR2.out hst.kept HAc.out.2
    have HS3 : Hid (LSt w c w3 (.slice (some ⟨g', 0, none⟩) q.length cap') q) := lst_base hst HS2.out.kept HL.out
    clear hst
    have A0 : w3.cell? ⟨A, 0, none⟩ = some (.slice (some ⟨g, 0, none⟩) p.length cap) := hA.cell 0
    have A1 : w3.cell? ⟨A, 1, none⟩ = some (.int .i64 s) := hA.cell 1
    have A2 : w3.cell? ⟨A, 2, none⟩ = some (.int .i64 e) := hA.cell 2
    have A3 : w3.cell? ⟨A, 3, none⟩ = some (.string n) := hA.cell 3
    have fA0 := hA.frozen 0
    have fA1 := hA.frozen 1
    have fA2 := hA.frozen 2
    have fA3 := hA.frozen 3
    have R0 : w3.cell? ⟨w.heap.size, 0, none⟩ = some (.slice none 0 0) := hR.cell 0
    have R1 : w3.cell? ⟨w.heap.size, 1, none⟩ = some (.int .i64 0) := hR.cell 1
    have R2 : w3.cell? ⟨w.heap.size, 2, none⟩ = some (.int .i64 0) := hR.cell 2
    have R3 : w3.cell? ⟨w.heap.size, 3, none⟩ = some (.string ⟨#[]⟩) := hR.cell 3
    have fR0 := hR.frozen 0
    have fR1 := hR.frozen 1
    have fR2 := hR.frozen 2
    have fR3 := hR.frozen 3
    have d1 : ¬ A = w.heap.size := by have := HN.out; omega
    have d2 : ¬ w.heap.size = A := by have := HN.out; omega
    clear hA hR
    go_wp2
    refine bodyPost_ret (v := .agg #[.slice (some ⟨g', 0, none⟩) q.length cap', .int .i64 s, .int .i64 e, .string n]) (by simp [results, Tryz.results157, go_sem, R0, R1, R2, R3]) rfl ?_
    have h0 := HN.out; have h3 := HG'.out; have h2 := HL.out
    exact ⟨g', cap', q, s, e, n, rfl, lst_other4 (lst_other HS3.out (by omega) (own_ne (by have := HG'.out; omega)) _ _) (Nat.le_refl _) (own_ne (by omega)) _ _ _ _, hq, HI.out.2.1, HI.out.2.2.1, HI.out.2.2.2⟩
  have d0' : (x == 0) = false := by simpa using e0
  by_cases e1 : x = 1
  · subst e1
    go_wp2_with fail
    refine (int_any c _ _ _ _ _ ?hc ?hr ?h1 ?h2).mono ?_
    case hc => exact HS2.out.cur.alloc _
    case hr => exact row_lit (by decide) rfl HS2.out.cur.lt
    case h1 => decide
    case h2 => decide
    rintro r w3 ⟨⟨y, rfl, hy⟩, hc3, hk3⟩
    have HY : Hid (I64 y) := hy
    have hA := blk_kept (HA2.out.alloc _) hk3 HAc.out.1
    have hR := blk_kept (HR2.out.alloc _) hk3 HAc.out.2
    have HS3 : Hid (LSt w c w3 (.slice (some ⟨g, 0, none⟩) p.length cap) p) := (HS2.out.alloc _).keep hc3 hk3
    clear hc3 hk3 hy
    have A0 : w3.cell? ⟨A, 0, none⟩ = some (.slice (some ⟨g, 0, none⟩) p.length cap) := hA.cell 0
    have A1 : w3.cell? ⟨A, 1, none⟩ = some (.int .i64 s) := hA.cell 1
    have A2 : w3.cell? ⟨A, 2, none⟩ = some (.int .i64 e) := hA.cell 2
    have A3 : w3.cell? ⟨A, 3, none⟩ = some (.string n) := hA.cell 3
    have fA0 := hA.frozen 0
    have fA1 := hA.frozen 1
    have fA2 := hA.frozen 2
    have fA3 := hA.frozen 3
    have R0 : w3.cell? ⟨w.heap.size, 0, none⟩ = some (.slice none 0 0) := hR.cell 0
    have R1 : w3.cell? ⟨w.heap.size, 1, none⟩ = some (.int .i64 0) := hR.cell 1
    have R2 : w3.cell? ⟨w.heap.size, 2, none⟩ = some (.int .i64 0) := hR.cell 2
    have R3 : w3.cell? ⟨w.heap.size, 3, none⟩ = some (.string ⟨#[]⟩) := hR.cell 3
    have fR0 := hR.frozen 0
    have fR1 := hR.frozen 1
    have fR2 := hR.frozen 2
    have fR3 := hR.frozen 3
    have d1 : ¬ A = w.heap.size := by have := HN.out; omega
    have d2 : ¬ w.heap.size = A := by have := HN.out; omega
    clear hA hR
    go_wp2
    refine bodyPost_ret (v := .agg #[.slice (some ⟨g, 0, none⟩) p.length cap, .int .i64 y, .int .i64 e, .string n]) (by simp [results, Tryz.results157, go_sem, R0, R1, R2, R3]) rfl ?_
    have h0 := HN.out; have h2 := HL.out
    exact ⟨g, cap, p, y, e, n, rfl, lst_other4 (lst_other HS3.out (by omega) (own_ne (by omega)) _ _) (Nat.le_refl _) (own_ne (by omega)) _ _ _ _, HI.out.1, HY.out, HI.out.2.2.1, HI.out.2.2.2⟩
  have d1' : (x == 1) = false := by simpa using e1
  by_cases e2 : x = 2
  · subst e2
    go_wp2_with fail
    refine (raw_any c _ HS2.out.cur).mono ?_
    rintro r w3 ⟨⟨y, rfl, hy⟩, hc3, hk3⟩
    have HY : Hid (I64 y) := hy
    have hA := blk_kept HA2.out hk3 HAc.out.1
    have hR := blk_kept HR2.out hk3 HAc.out.2
    have HS3 : Hid (LSt w c w3 (.slice (some ⟨g, 0, none⟩) p.length cap) p) := HS2.out.keep hc3 hk3
    clear hc3 hk3 hy
    have A0 : w3.cell? ⟨A, 0, none⟩ = some (.slice (some ⟨g, 0, none⟩) p.length cap) := hA.cell 0
    have A1 : w3.cell? ⟨A, 1, none⟩ = some (.int .i64 s) := hA.cell 1
    have A2 : w3.cell? ⟨A, 2, none⟩ = some (.int .i64 e) := hA.cell 2
    have A3 : w3.cell? ⟨A, 3, none⟩ = some (.string n) := hA.cell 3
    have fA0 := hA.frozen 0
    have fA1 := hA.frozen 1
    have fA2 := hA.frozen 2
    have fA3 := hA.frozen 3
    have R0 : w3.cell? ⟨w.heap.size, 0, none⟩ = some (.slice none 0 0) := hR.cell 0
    have R1 : w3.cell? ⟨w.heap.size, 1, none⟩ = some (.int .i64 0) := hR.cell 1
    have R2 : w3.cell? ⟨w.heap.size, 2, none⟩ = some (.int .i64 0) := hR.cell 2
    have R3 : w3.cell? ⟨w.heap.size, 3, none⟩ = some (.string ⟨#[]⟩) := hR.cell 3
    have fR0 := hR.frozen 0
    have fR1 := hR.frozen 1
    have fR2 := hR.frozen 2
    have fR3 := hR.frozen 3
    have d1 : ¬ A = w.heap.size := by have := HN.out; omega
    have d2 : ¬ w.heap.size = A := by have := HN.out; omega
    clear hA hR
    go_wp2
    refine bodyPost_ret (v := .agg #[.slice (some ⟨g, 0, none⟩) p.length cap, .int .i64 s, .int .i64 y, .string n]) (by simp [results, Tryz.results157, go_sem, R0, R1, R2, R3]) rfl ?_
    have h0 := HN.out; have h2 := HL.out
    exact ⟨g, cap, p, s, y, n, rfl, lst_other4 (lst_other HS3.out (by omega) (own_ne (by omega)) _ _) (Nat.le_refl _) (own_ne (by omega)) _ _ _ _, HI.out.1, HI.out.2.1, HY.out, HI.out.2.2.2⟩
  have d2' : (x == 2) = false := by simpa using e2
  by_cases e3 : x = 3
  · subst e3
    go_wp2_with fail
    refine (anyPlain_any c _ HS2.out.cur).mono ?_
    rintro r w3 ⟨⟨t, rfl, ht⟩, hc3, hk3⟩
    have HY : Hid (t.size ≤ 100) := ht
    have hA := blk_kept HA2.out hk3 HAc.out.1
    have hR := blk_kept HR2.out hk3 HAc.out.2
    have HS3 : Hid (LSt w c w3 (.slice (some ⟨g, 0, none⟩) p.length cap) p) := HS2.out.keep hc3 hk3
    clear hc3 hk3 ht
    have A0 : w3.cell? ⟨A, 0, none⟩ = some (.slice (some ⟨g, 0, none⟩) p.length cap) := hA.cell 0
    have A1 : w3.cell? ⟨A, 1, none⟩ = some (.int .i64 s) := hA.cell 1
    have A2 : w3.cell? ⟨A, 2, none⟩ = some (.int .i64 e) := hA.cell 2
    have A3 : w3.cell? ⟨A, 3, none⟩ = some (.string n) := hA.cell 3
    have fA0 := hA.frozen 0
    have fA1 := hA.frozen 1
    have fA2 := hA.frozen 2
    have fA3 := hA.frozen 3
    have R0 : w3.cell? ⟨w.heap.size, 0, none⟩ = some (.slice none 0 0) := hR.cell 0
    have R1 : w3.cell? ⟨w.heap.size, 1, none⟩ = some (.int .i64 0) := hR.cell 1
    have R2 : w3.cell? ⟨w.heap.size, 2, none⟩ = some (.int .i64 0) := hR.cell 2
    have R3 : w3.cell? ⟨w.heap.size, 3, none⟩ = some (.string ⟨#[]⟩) := hR.cell 3
    have fR0 := hR.frozen 0
    have fR1 := hR.frozen 1
    have fR2 := hR.frozen 2
    have fR3 := hR.frozen 3
    have d1 : ¬ A = w.heap.size := by have := HN.out; omega
    have d2 : ¬ w.heap.size = A := by have := HN.out; omega
    clear hA hR
    go_wp2
    refine bodyPost_ret (v := .agg #[.slice (some ⟨g, 0, none⟩) p.length cap, .int .i64 s, .int .i64 e, .string t]) (by simp [results, Tryz.results157, go_sem, R0, R1, R2, R3]) rfl ?_
    have h0 := HN.out; have h2 := HL.out
    exact ⟨g, cap, p, s, e, t, rfl, lst_other4 (lst_other HS3.out (by omega) (own_ne (by omega)) _ _) (Nat.le_refl _) (own_ne (by omega)) _ _ _ _, HI.out.1, HI.out.2.1, HI.out.2.2.1, HY.out⟩
  have d3' : (x == 3) = false := by simpa using e3
  have hA := HA2.out
  have hR := HR2.out
  have A0 : w2.cell? ⟨A, 0, none⟩ = some (.slice (some ⟨g, 0, none⟩) p.length cap) := hA.cell 0
  have A1 : w2.cell? ⟨A, 1, none⟩ = some (.int .i64 s) := hA.cell 1
  have A2 : w2.cell? ⟨A, 2, none⟩ = some (.int .i64 e) := hA.cell 2
  have A3 : w2.cell? ⟨A, 3, none⟩ = some (.string n) := hA.cell 3
  have fA0 := hA.frozen 0
  have fA1 := hA.frozen 1
  have fA2 := hA.frozen 2
  have fA3 := hA.frozen 3
  have R0 : w2.cell? ⟨w.heap.size, 0, none⟩ = some (.slice none 0 0) := hR.cell 0
  have R1 : w2.cell? ⟨w.heap.size, 1, none⟩ = some (.int .i64 0) := hR.cell 1
  have R2 : w2.cell? ⟨w.heap.size, 2, none⟩ = some (.int .i64 0) := hR.cell 2
  have R3 : w2.cell? ⟨w.heap.size, 3, none⟩ = some (.string ⟨#[]⟩) := hR.cell 3
  have fR0 := hR.frozen 0
  have fR1 := hR.frozen 1
  have fR2 := hR.frozen 2
  have fR3 := hR.frozen 3
  have d1 : ¬ A = w.heap.size := by have := HN.out; omega
  have d2 : ¬ w.heap.size = A := by have := HN.out; omega
  clear hA hR
  go_wp2
  refine bodyPost_ret (v := .agg #[.slice (some ⟨g, 0, none⟩) p.length cap, .int .i64 s, .int .i64 e, .string n]) (by simp [results, Tryz.results157, go_sem, R0, R1, R2, R3]) rfl ?_
  have h0 := HN.out; have h2 := HL.out
  exact ⟨g, cap, p, s, e, n, rfl, lst_other4 HS2.out (Nat.le_refl _) (own_ne (by omega)) _ _ _ _, HI.out.1, HI.out.2.1, HI.out.2.2.1, HI.out.2.2.2⟩

theorem reads_drew {w : World} {a : Option Addr} {p : List Lab} (h : Reads w a p) : Reads w.drew a p := h
end Go.Proofs.YtooninmicfcfoaaGreat.DrawA
namespace Go.Proofs.YtooninmicfcfoaaGreat.DrawB
open Go.RowKit
open Draw
open Labs LabS LabR Over Blk App DrawL DrawT Alm AlmM DrawA
open LabT (infoL Held held_reads)

theorem kept_drew {c : Nat} {w w' : World} (h : Kept c w.drew w') : Kept c w w' := ⟨h.os, h.tape, h.output, h.size, h.block⟩
end Go.Proofs.YtooninmicfcfoaaGreat.DrawB
namespace Go.Proofs.YtooninmicfcfoaaGreat.DrawC
open Go.RowKit
open Draw
open Labs LabS Over Blk App DrawL DrawT Alms AlmM DrawA DrawB Rws ChnI ChnC ChnP ChnK
open LabT (Held held_reads)

theorem grown_bel {w w' : World} (h : Below w.heap.size w w') : w.grownBy w' none := ⟨h.os, h.tape, h.output, h.size, fun k hk _ => h.block k hk⟩
theorem cur_bel {w w' : World} {c : Nat} (h : Cur w c) (hb : Below w.heap.size w w') : Cur w' c := h.grown (grown_bel hb) (fun k hk => by cases hk)
theorem kept_bel {c : Nat} {w w' : World} (h : Below w.heap.size w w') : Kept c w w' := ⟨h.os, h.tape, h.output, h.size, fun k hk _ => h.block k hk⟩
theorem cur_set {w : World} {c A : Nat} (h : Cur w c) (hne : c < A) (i : Nat) (v : Value) : Cur (w.setCell ⟨A, i, none⟩ v) c := h.grown (grown_set w A i v) (fun k hk => by cases hk; exact hne)
theorem kept_set {w wr : World} {c A : Nat} (h : Kept c w wr) (hA : w.heap.size ≤ A) (i : Nat) (v : Value) : Kept c w (wr.setCell ⟨A, i, none⟩ v) := kept_grown (B := 0) h (grown_set wr A i v) (fun k hk => by cases hk; exact hA)
theorem own_kept {c lo : Nat} {w w' : World} {x : ARow} (h : OwnA lo w x) (hk : Kept c w w') (hc : c < lo) : OwnA lo w' x := by
  obtain ⟨h1, h2, ds, hb, h3⟩ := h
  exact ⟨h1, h2, ds, blk_kept hb hk (by omega), h3⟩
theorem ab_kept {c lo : Nat} {w w' : World} {M cap : Nat} {rs : List ARow} (h : AB lo w M cap rs) (hk : Kept c w w') (hc : c < lo) : AB lo w' M cap rs := by
  obtain ⟨cur, h1, h2⟩ := h.outer
  exact ⟨h.at', h.cap, ⟨cur, blk_kept h1 hk (by have := h.at'; omega), h2⟩, fun x hx => own_kept (h.rows x hx) hk hc, h.ne⟩
theorem own_lst {W w' : World} {c g cap : Nat} {p : List Lab} {s e : Int} {n : ByteArray} (h : LSt W c w' (.slice (some ⟨g, 0, none⟩) p.length cap) p) (hp : p.length ≤ 8) : OwnA W.heap.size w' (g, cap, ⟨p, s, e, n⟩) := by
  rcases h.own.2 with ⟨e', _⟩ | ⟨g', c', cur, e', hb, hcur, hcc, _, hz, ht⟩
  · cases e'
  · cases e'
    refine ⟨hb, by show p.length ≤ _; omega, cur, hcur, by show p.length * 2 ≤ _; rw [hz]; omega, fun j hj => ?_⟩
    have hj' : j < p.length := hj
    have h2 := LabR.flat_get p j hj'
    have hl := LabR.flat_len p
    rw [← ht, List.getElem?_take_of_lt (by omega), List.getElem?_take_of_lt (by omega)] at h2
    simpa using h2

def Fine (x : PAl) : Prop := FitA x ∧ x.l.length ≤ 8
def Fines (P : List PAl) : Prop := ∀ x ∈ P, Fine x
theorem fine_of {p : List Lab} {s e : Int} {n : ByteArray} (hp : p.length ≤ 8) (hf : Small p) (hs : I64 s) (he : I64 e) (hn : n.size ≤ 100) : Fine ⟨p, s, e, n⟩ :=
  ⟨⟨by show p.length ≤ _; unfold maxLen; omega, small_fits hf, hs, he, by show n.size ≤ _; unfold maxLen; omega⟩, hp⟩
theorem nthP_mem {P : List PAl} {i : Nat} (h : i < P.length) : nthP P i ∈ P := by rw [nthP_eq h]; exact List.getElem_mem _
theorem fines_nil : Fines [] := fun x hx => by simp at hx
theorem fines_app {P : List PAl} {a : PAl} (h : Fines P) (ha : Fine a) : Fines (P ++ [a]) := fun x hx => by
  rcases List.mem_append.1 hx with h1 | h1
  · exact h x h1
  · have : x = a := by simpa using h1
    subst this; exact ha
theorem Fines.fits {P : List PAl} (h : Fines P) : FitsP P := fits_of fun x hx => (h x hx).1
theorem Fines.lens {P : List PAl} (h : Fines P) : LenM P := fun i hi => by have := (h _ (nthP_mem hi)).2; omega
end Go.Proofs.YtooninmicfcfoaaGreat.DrawC
namespace Go.Proofs.YtooninmicfcfoaaGreat.DrawC
open Go.RowKit
open Draw
open Labs LabS Over Blk App DrawL DrawT Alms AlmM DrawA DrawB Rws ChnI ChnC ChnP ChnS ChnU ChnK
open LabT (Held held_reads)
open Fing (fingerB)

theorem fines_put {P : List PAl} {a : PAl} (h : Fines P) (ha : Fine a) : Fines (putL P a) := by
  rcases idxTo_cases P a.l P.length with hm | ⟨k, hk, he, hj⟩
  · rw [(put_miss hm).1]; exact fines_app h ha
  · rw [(put_hit hj he hk).1]
    intro x hx
    rcases List.mem_or_eq_of_mem_set hx with h1 | h1
    · exact h x h1
    · subst h1; exact ⟨fit_merge (h _ (nthP_mem hk)).1 ha.1, ha.2⟩
structure DSt (w : World) (c A O : Nat) (f : Int) (wr : World) (a : Option Addr) (cap : Nat) (rs : List ARow) (x : ARow) : Prop where
  cur : Cur wr c
  kept : Kept c w wr
  clt : c < w.heap.size
  ord : w.heap.size < A ∧ A < O ∧ O < wr.heap.size
  bR : Blk wr w.heap.size #[.int .i64 0, .slice none 0 0] 96
  bA : Blk wr A #[.slice (some ⟨x.1, 0, none⟩) x.2.2.l.length x.2.1, .int .i64 x.2.2.s, .int .i64 x.2.2.e, .string x.2.2.n] 29
  bO : Blk wr O #[.int .i64 f, .slice a rs.length cap] 96
  xo : OwnA w.heap.size wr x
  xf : Fine x.2.2
  list : (a = none ∧ rs = []) ∨ ∃ M, a = some ⟨M, 0, none⟩ ∧ AB (O + 1) wr M cap rs
  fine : Fines (pals rs)
  few : rs.length ≤ 4
theorem DSt.keep {w : World} {c A O : Nat} {f : Int} {wr w' : World} {a : Option Addr} {cap : Nat} {rs : List ARow} {x : ARow} (h : DSt w c A O f wr a cap rs x) (hc : Cur w' c) (hk : Kept c wr w') : DSt w c A O f w' a cap rs x :=
  ⟨hc, h.kept.trans hk, h.clt, ⟨h.ord.1, h.ord.2.1, Nat.lt_of_lt_of_le h.ord.2.2 hk.size⟩, blk_kept h.bR hk (by have := h.clt; omega), blk_kept h.bA hk (by have := h.clt; have := h.ord; omega), blk_kept h.bO hk (by have := h.clt; have := h.ord; omega), own_kept h.xo hk h.clt, h.xf,
    h.list.imp id (fun ⟨M, e, hab⟩ => ⟨M, e, ab_kept hab hk (by have := h.clt; have := h.ord; omega)⟩), h.fine, h.few⟩
theorem DSt.grow {w : World} {c A O : Nat} {f : Int} {wr w' : World} {a : Option Addr} {cap : Nat} {rs : List ARow} {x : ARow} (h : DSt w c A O f wr a cap rs x) (hb : Below wr.heap.size wr w') : DSt w c A O f w' a cap rs x := h.keep (cur_bel h.cur hb) (kept_bel hb)
theorem DSt.rd {w : World} {c A O : Nat} {f : Int} {wr : World} {a : Option Addr} {cap : Nat} {rs : List ARow} {x : ARow} (h : DSt w c A O f wr a cap rs x) : RdN wr a (pals rs) := by
  rcases h.list with ⟨_, e⟩ | ⟨M, e, hab⟩
  · exact .inl (by rw [e]; rfl)
  · rw [e]; exact hab.rd
theorem DSt.other {w : World} {c A O : Nat} {f : Int} {wr : World} {a : Option Addr} {cap : Nat} {rs : List ARow} {x : ARow} (h : DSt w c A O f wr a cap rs x) {y : ARow} (hy : OwnA w.heap.size wr y) (hf : Fine y.2.2) :
    DSt w c A O f ((((wr.setCell ⟨A, 0, none⟩ (.slice (some ⟨y.1, 0, none⟩) y.2.2.l.length y.2.1)).setCell ⟨A, 1, none⟩ (.int .i64 y.2.2.s)).setCell ⟨A, 2, none⟩ (.int .i64 y.2.2.e)).setCell ⟨A, 3, none⟩ (.string y.2.2.n)) a cap rs y := by
  have h0 := h.clt; have h1 := h.ord
  have hne : A ≠ y.1 := by
    obtain ⟨_, _, ds, hb, _⟩ := hy
    exact blkA_ne h.bA hb
  refine ⟨cur_set (cur_set (cur_set (cur_set h.cur (by omega) _ _) (by omega) _ _) (by omega) _ _) (by omega) _ _, kept_set (kept_set (kept_set (kept_set h.kept (by omega) _ _) (by omega) _ _) (by omega) _ _) (by omega) _ _, h0, by simpa using h1, Alm.blk4 h.bR (by omega) _ _ _ _, (((h.bA.set 0 _).set 1 _).set 2 _).set 3 _, Alm.blk4 h.bO (by omega) _ _ _ _, own_set (own_set (own_set (own_set hy hne _ _) hne _ _) hne _ _) hne _ _, hf, h.list.imp id (fun ⟨M, e, hab⟩ => ⟨M, e, ab_under (ab_under (ab_under (ab_under hab (by omega) _ _) (by omega) _ _) (by omega) _ _) (by omega) _ _⟩), h.fine, h.few⟩
theorem DSt.put {w : World} {c A O : Nat} {f : Int} {wr w' : World} {a : Option Addr} {cap : Nat} {rs : List ARow} {x : ARow} (h : DSt w c A O f wr a cap rs x) (h4 : rs.length < 4) (hb : Below wr.heap.size wr w') {M cap' : Nat} {rs' : List ARow} (hab : AB wr.heap.size w' M cap' rs') (hp : pals rs' = putL (pals rs) x.2.2) :
    DSt w c A O f ((w'.setCell ⟨O, 0, none⟩ (.int .i64 f)).setCell ⟨O, 1, none⟩ (.slice (some ⟨M, 0, none⟩) rs'.length cap')) (some ⟨M, 0, none⟩) cap' rs' x ∧ rs' ≠ [] := by
  have hg := h.grow hb
  have h0 := hg.clt; have h1 := hg.ord; have h2 := h.ord
  have hne : O ≠ x.1 := by
    obtain ⟨_, _, ds, hb, _⟩ := hg.xo
    exact chain_label hg.bO hb
  have hl := (put_sum (pals rs) x.2.2).2
  rw [← hp, pals_len, pals_len] at hl
  have hn : rs' ≠ [] := fun e => by
    have hz : (putL (pals rs) x.2.2).length = 0 := by rw [← hp, e]; rfl
    rcases idxTo_cases (pals rs) x.2.2.l (pals rs).length with hm | ⟨k, hk, he, hj⟩
    · rw [(put_miss hm).1] at hz; simp at hz
    · rw [(put_hit hj he hk).1] at hz; simp at hz; rw [hz] at hk; simp at hk
  exact ⟨⟨cur_set (cur_set hg.cur (by omega) _ _) (by omega) _ _, kept_set (kept_set hg.kept (by omega) _ _) (by omega) _ _, h0, by simpa using h1, (hg.bR.set_other (by show O ≠ _; omega) _).set_other (by show O ≠ _; omega) _, (hg.bA.set_other (by show O ≠ _; omega) _).set_other (by show O ≠ _; omega) _, (hg.bO.set 0 _).set 1 _, own_set (own_set hg.xo hne _ _) hne _ _, hg.xf, .inr ⟨M, rfl, ab_under (ab_under (hab.down (by omega)) (by omega) _ _) (by omega) _ _⟩, by rw [hp]; exact fines_put h.fine h.xf, by omega⟩, hn⟩

structure CDr (w : World) (c : Nat) (wr : World) (M cap : Nat) (rs : List ARow) : Prop where
  ab : AB (w.heap.size + 1) wr M cap rs
  cur : Cur wr c
  kept : Kept c w wr
  clt : c < w.heap.size
  fine : Fines (pals rs)

set_option maxRecDepth 100000 in
set_option maxHeartbeats 3200000 in
theorem l6Draw_any (c : Nat) (w : World) (hc : Cur w c) :
    Calls Tryz.prog 156 #[.pointer (some ⟨c, 0, none⟩)] w fun r w' => ∃ (f : Int) (M cap : Nat) (rs : List ARow), r = .returned (.agg #[.int .i64 f, .slice (some ⟨M, 0, none⟩) rs.length cap]) ∧ CDr w c w' M cap rs ∧ 0 < rs.length ∧ rs.length ≤ 4 ∧ I64 f := by
  have HC : Hid (Cur w c) := hc
  have HL : Hid (c < w.heap.size) := hc.lt
  clear hc
  go_enter Tryz.func156, Tryz.ntmps156
  go_wp2_with fail
  refine (l4Draw_any c _ (HC.out.alloc _)).mono ?_
  rintro r w1 ⟨g, cp, p, s, e, n, rfl, hst, hp, hs, he, hn⟩
  have HF : Hid (Fine ⟨p, s, e, n⟩) := fine_of hp hst.fit hs he hn
  have HX1 : Hid (OwnA w.heap.size w1 (g, cp, ⟨p, s, e, n⟩)) := (own_lst hst hp).down (by simp)
  have HR1 : Hid (Blk w1 w.heap.size #[.int .i64 0, .slice none 0 0] 96) := blk_kept (Blk.new _ _ _) hst.kept (by have := HL.out; omega)
  have HC1 : Hid (Cur w1 c) := hst.cur
  have HK1 : Hid (Kept c w w1) := ((Kept.refl c w).alloc _).trans hst.kept
  clear hst hp hs he hn
  generalize hDo : Obj.cells #[.slice (some ⟨g, 0, none⟩) p.length cp, .int .i64 s, .int .i64 e, .string n] 29 = Do
  have xA0 : (w1.alloc Do).cell? ⟨w1.heap.size, 0, none⟩ = some (.slice (some ⟨g, 0, none⟩) p.length cp) := by rw [← hDo]; exact (Blk.new w1 _ _).cell 0
  subst hDo
  go_wp2_with fail
  refine (Fing.specFinger_any _ _ _ _ ((HX1.out.grow (Go.Joins.below_alloc1 w1 _)).reads) HF.out.1.len HF.out.1.fits).mono ?_
  rintro r w2 ⟨rfl, hb⟩
  have HR2 : Hid (Blk w2 w.heap.size #[.int .i64 0, .slice none 0 0] 96) := (HR1.out.alloc _).grow hb
  have HA2 : Hid (Blk w2 w1.heap.size #[.slice (some ⟨g, 0, none⟩) p.length cp, .int .i64 s, .int .i64 e, .string n] 29) := (Blk.new w1 _ _).grow hb
  have HX2 : Hid (OwnA w.heap.size w2 (g, cp, ⟨p, s, e, n⟩)) := (HX1.out.grow (Go.Joins.below_alloc1 w1 _)).grow hb
  have HC2 : Hid (Cur w2 c) := cur_bel (HC1.out.alloc _) hb
  have HK2 : Hid (Kept c w w2) := (HK1.out.alloc _).trans (kept_bel hb)
  have HN2 : Hid (w.heap.size < w1.heap.size ∧ w1.heap.size < w2.heap.size) := ⟨HR1.out.lt, HA2.out.lt⟩
  clear hb xA0 HX1 HR1 HC1 HK1
  go_wp2_with fail
  refine (below_any c 30 _ (HC2.out.alloc _) (by decide) (by decide)).mono ?_
  rintro r w3 ⟨⟨j0, rfl, hj0, hj1⟩, hc3, hk3⟩
  have HFX : Hid (I64 (fingerB p : Int)) := by have := Fing.finger_lt p; exact ⟨by omega, by omega⟩
  generalize hfx : (fingerB p : Int) = fx at *
  have HS3 : Hid (DSt w c w1.heap.size w2.heap.size fx w3 none 0 [] (g, cp, ⟨p, s, e, n⟩)) := by
    have h0 := HN2.out; have h1 := HL.out
    have hs := hk3.size
    simp at hs
    exact ⟨hc3, (HK2.out.alloc _).trans hk3, h1, ⟨h0.1, h0.2, by omega⟩, blk_kept (HR2.out.alloc _) hk3 (by omega), blk_kept (HA2.out.alloc _) hk3 (by omega), blk_kept (Blk.new _ _ _) hk3 (by omega), own_kept (HX2.out.grow (Go.Joins.below_alloc1 w2 _)) hk3 h1, HF.out, .inl ⟨rfl, rfl⟩, fines_nil, by simp⟩
  have HJ : Hid (0 ≤ j0 ∧ j0 ≤ 29) := ⟨hj0, by omega⟩
  clear hc3 hk3 hj0 hj1 HX2 HR2 HA2 HC2 HK2 HN2
  generalize w1.heap.size = A at HS3 ⊢
  generalize w2.heap.size = O at HS3 ⊢
  go_wp2
  go_loopw [5] (fun i wr => ∃ (j : Int) (a : Option Addr) (cap : Nat) (rs : List ARow) (x : ARow), i = .int .i64 j ∧ -1 ≤ j ∧ j ≤ 29 ∧ DSt w c A O fx wr a cap rs x ∧ (rs = [] → (fingerB x.2.2.l : Int) = fx ∧ 0 ≤ j)) (fun i _ => (intOf i + 1).toNat)
  case atStart => exact ⟨j0, none, 0, [], (g, cp, ⟨p, s, e, n⟩), rfl, by have := HJ.out; omega, HJ.out.2, HS3.out, fun _ => ⟨hfx, HJ.out.1⟩⟩
  case round =>
    clear hfx HF HS3 HJ
    obtain ⟨j, a, cap, rs, x, rfl, hj1, hj2, hst, hfirst⟩ := hrel
    have HS : Hid (DSt w c A O fx wr a cap rs x) := hst
    have HFi : Hid (rs = [] → (fingerB x.2.2.l : Int) = fx ∧ 0 ≤ j) := hfirst
    clear hst hfirst
    by_cases hj : 0 ≤ j
    · have hj' : (j ≥ 0) := hj
      have hne := Grown.some wr
      have HO : Hid (A < wr.heap.size ∧ O < wr.heap.size) := by have := HS.out.ord; exact ⟨by omega, by omega⟩
      have a0 : ∀ q : Grown wr, q.out.cell? ⟨A, 0, none⟩ = some (.slice (some ⟨x.1, 0, none⟩) x.2.2.l.length x.2.1) := fun q => q.cell HO.out.1 (HS.out.bA.cell 0)
      have o0 : ∀ q : Grown wr, q.out.cell? ⟨O, 0, none⟩ = some (.int .i64 fx) := fun q => q.cell HO.out.2 (HS.out.bO.cell 0)
      have o1 : ∀ q : Grown wr, q.out.cell? ⟨O, 1, none⟩ = some (.slice a rs.length cap) := fun q => q.cell HO.out.2 (HS.out.bO.cell 1)
      have HC1 : ∀ q : Grown wr, Hid (Calls Tryz.prog 70 #[.slice (some ⟨x.1, 0, none⟩) x.2.2.l.length x.2.1] q.out fun e w' => e = .returned (.int .i64 (fingerB x.2.2.l)) ∧ Below q.out.heap.size q.out w') := fun q => Fing.specFinger_any _ _ _ _ (HS.out.xo.reads.below q.bel) HS.out.xf.1.len HS.out.xf.1.fits
      have HGo : Hid (∀ (w5 : World) (a : Option Addr) (cap : Nat) (rs : List ARow), DSt w c A O fx w5 a cap rs x → Calls Tryz.prog 62 #[.pointer (some ⟨c, 0, none⟩)] w5 fun r w' => ∃ (y : ARow), r = .returned (.agg #[.slice (some ⟨y.1, 0, none⟩) y.2.2.l.length y.2.1, .int .i64 y.2.2.s, .int .i64 y.2.2.e, .string y.2.2.n]) ∧ DSt w c A O fx w' a cap rs x ∧ OwnA w.heap.size w' y ∧ Fine y.2.2) := fun w5 a cap rs hd => (l4Draw_any c w5 hd.cur).mono fun r w' ⟨g, cp, p, s, e, n, hr, hst, hp, hs, he, hn⟩ => ⟨(g, cp, ⟨p, s, e, n⟩), hr, hd.keep hst.cur hst.kept, (own_lst hst hp).down hd.kept.size, fine_of hp hst.fit hs he hn⟩
      by_cases hF : (fingerB x.2.2.l : Int) = fx
      · by_cases h4 : rs.length < 4
        · have h4' : (rs.length : Int) < 4 := by omega
          go_wp2
          refine wp_over (z := wr) (by kernel_rfl) (by kernel_rfl) (Below.refl _ _) ?_
          repeat (go_big_quiet_step (first | (go_at_call 70; exact call_over (HC1 _).out)))
          refine wpQuiet_nil ?_
          intro w4 hw4
          have HS4 : Hid (DSt w c A O fx w4 a cap rs x) := HS.out.grow (over_bel hw4)
          clear hw4 hne HC1 a0 o0 o1 HO
          have o0 : w4.cell? ⟨O, 0, none⟩ = some (.int .i64 fx) := HS4.out.bO.cell 0
          have o1 : w4.cell? ⟨O, 1, none⟩ = some (.slice a rs.length cap) := HS4.out.bO.cell 1
          have q0 : w4.cell? ⟨A, 0, none⟩ = some (.slice (some ⟨x.1, 0, none⟩) x.2.2.l.length x.2.1) := HS4.out.bA.cell 0
          have q1 : w4.cell? ⟨A, 1, none⟩ = some (.int .i64 x.2.2.s) := HS4.out.bA.cell 1
          have q2 : w4.cell? ⟨A, 2, none⟩ = some (.int .i64 x.2.2.e) := HS4.out.bA.cell 2
          have q3 : w4.cell? ⟨A, 3, none⟩ = some (.string x.2.2.n) := HS4.out.bA.cell 3
          have HPC : Hid (Calls Tryz.prog 72 #[.agg #[.int .i64 fx, .slice a rs.length cap], .agg #[.slice (some ⟨x.1, 0, none⟩) x.2.2.l.length x.2.1, .int .i64 x.2.2.s, .int .i64 x.2.2.e, .string x.2.2.n]] w4 fun e w' => (∃ M c rs', e = .returned (.tuple #[.agg #[.int .i64 fx, .slice (some ⟨M, 0, none⟩) rs'.length c], .bool (isNew (pals rs) x.2.2.l)]) ∧ AB w4.heap.size w' M c rs' ∧ pals rs' = putL (pals rs) x.2.2) ∧ Below w4.heap.size w4 w') := by
            have h := specPut_any fx a cap (pals rs) x.1 0 x.2.1 x.2.2 w4 HS4.out.rd HS4.out.xo.reads (by rw [pals_len]; omega) HS4.out.fine.lens (by have := HS4.out.xf.2; omega)
            rw [pals_len] at h
            exact h
          go_wp2_with fail
          refine HPC.out.mono ?_
          rintro r w5 ⟨⟨M, c', rs', rfl, hab, hp⟩, hb⟩
          have hO5 := HS4.out.bO.grow hb
          have p0 : w5.cell? ⟨O, 0, none⟩ = some (.int .i64 fx) := hO5.cell 0
          have p1 : w5.cell? ⟨O, 1, none⟩ = some (.slice a rs.length cap) := hO5.cell 1
          have fp0 := hO5.frozen 0
          have fp1 := hO5.frozen 1
          have HS5 : Hid (DSt w c A O fx ((w5.setCell ⟨O, 0, none⟩ (.int .i64 fx)).setCell ⟨O, 1, none⟩ (.slice (some ⟨M, 0, none⟩) rs'.length c')) (some ⟨M, 0, none⟩) c' rs' x ∧ rs' ≠ []) := HS4.out.put h4 hb hab hp
          have HN : Hid (rs' ≠ []) := HS5.out.2
          clear hab hp hb hO5 HPC o0 o1 q0 q1 q2 q3
          go_wp2_with fail
          refine (HGo.out _ _ _ _ HS5.out.1).mono ?_
          rintro r w6 ⟨y, rfl, hd, hy, hyf⟩
          have HS6 : Hid (DSt w c A O fx w6 _ _ _ x) := hd
          have HY6 : Hid (OwnA w.heap.size w6 y ∧ Fine y.2.2) := ⟨hy, hyf⟩
          have q0 : w6.cell? ⟨A, 0, none⟩ = some (.slice (some ⟨x.1, 0, none⟩) x.2.2.l.length x.2.1) := hd.bA.cell 0
          have q1 : w6.cell? ⟨A, 1, none⟩ = some (.int .i64 x.2.2.s) := hd.bA.cell 1
          have q2 : w6.cell? ⟨A, 2, none⟩ = some (.int .i64 x.2.2.e) := hd.bA.cell 2
          have q3 : w6.cell? ⟨A, 3, none⟩ = some (.string x.2.2.n) := hd.bA.cell 3
          have g0 := hd.bA.frozen 0
          have g1 := hd.bA.frozen 1
          have g2 := hd.bA.frozen 2
          have g3 := hd.bA.frozen 3
          clear hd hy hyf
          go_wp2
          go_roundw
          case rel => exact ⟨j - 1, _, _, _, y, by go_num, by omega, by omega, HS6.out.other HY6.out.1 HY6.out.2, fun e => absurd e HN.out⟩
          case measure => simp [intOf]; omega
        · have h4' : ¬ (rs.length : Int) < 4 := by omega
          have HN : Hid (rs ≠ []) := fun e => by rw [e] at h4; simp at h4
          go_wp2
          refine wp_over (z := wr) (by kernel_rfl) (by kernel_rfl) (Below.refl _ _) ?_
          repeat (go_big_quiet_step (first | (go_at_call 70; exact call_over (HC1 _).out)))
          refine wpQuiet_nil ?_
          intro w4 hw4
          have HS4 : Hid (DSt w c A O fx w4 a cap rs x) := HS.out.grow (over_bel hw4)
          clear hw4 hne HC1 a0 o0 o1 HO
          go_wp2_with fail
          refine (HGo.out _ _ _ _ HS4.out).mono ?_
          rintro r w6 ⟨y, rfl, hd, hy, hyf⟩
          have HS6 : Hid (DSt w c A O fx w6 _ _ _ x) := hd
          have HY6 : Hid (OwnA w.heap.size w6 y ∧ Fine y.2.2) := ⟨hy, hyf⟩
          have q0 : w6.cell? ⟨A, 0, none⟩ = some (.slice (some ⟨x.1, 0, none⟩) x.2.2.l.length x.2.1) := hd.bA.cell 0
          have q1 : w6.cell? ⟨A, 1, none⟩ = some (.int .i64 x.2.2.s) := hd.bA.cell 1
          have q2 : w6.cell? ⟨A, 2, none⟩ = some (.int .i64 x.2.2.e) := hd.bA.cell 2
          have q3 : w6.cell? ⟨A, 3, none⟩ = some (.string x.2.2.n) := hd.bA.cell 3
          have g0 := hd.bA.frozen 0
          have g1 := hd.bA.frozen 1
          have g2 := hd.bA.frozen 2
          have g3 := hd.bA.frozen 3
          clear hd hy hyf
          go_wp2
          go_roundw
          case rel => exact ⟨j - 1, _, _, _, y, by go_num, by omega, by omega, HS6.out.other HY6.out.1 HY6.out.2, fun e => absurd e HN.out⟩
          case measure => simp [intOf]; omega
      · have hF1 : ((fingerB x.2.2.l : Int) == fx) = false := by simpa using hF
        have HN : Hid (rs ≠ []) := fun e => hF (HFi.out e).1
        go_wp2
        refine wp_over (z := wr) (by kernel_rfl) (by kernel_rfl) (Below.refl _ _) ?_
        repeat (go_big_quiet_step (first | (go_at_call 70; exact call_over (HC1 _).out)))
        refine wpQuiet_nil ?_
        intro w4 hw4
        have HS4 : Hid (DSt w c A O fx w4 a cap rs x) := HS.out.grow (over_bel hw4)
        clear hw4 hne HC1 a0 o0 o1 HO
        go_wp2_with fail
        refine (HGo.out _ _ _ _ HS4.out).mono ?_
        rintro r w6 ⟨y, rfl, hd, hy, hyf⟩
        have HS6 : Hid (DSt w c A O fx w6 _ _ _ x) := hd
        have HY6 : Hid (OwnA w.heap.size w6 y ∧ Fine y.2.2) := ⟨hy, hyf⟩
        have q0 : w6.cell? ⟨A, 0, none⟩ = some (.slice (some ⟨x.1, 0, none⟩) x.2.2.l.length x.2.1) := hd.bA.cell 0
        have q1 : w6.cell? ⟨A, 1, none⟩ = some (.int .i64 x.2.2.s) := hd.bA.cell 1
        have q2 : w6.cell? ⟨A, 2, none⟩ = some (.int .i64 x.2.2.e) := hd.bA.cell 2
        have q3 : w6.cell? ⟨A, 3, none⟩ = some (.string x.2.2.n) := hd.bA.cell 3
        have g0 := hd.bA.frozen 0
        have g1 := hd.bA.frozen 1
        have g2 := hd.bA.frozen 2
        have g3 := hd.bA.frozen 3
        clear hd hy hyf
        go_wp2
        go_roundw
        case rel => exact ⟨j - 1, _, _, _, y, by go_num, by omega, by omega, HS6.out.other HY6.out.1 HY6.out.2, fun e => absurd e HN.out⟩
        case measure => simp [intOf]; omega
    · have hj' : ¬ (j ≥ 0) := by omega
      have hr0 : 0 < rs.length := by
        rcases rs with _ | ⟨y, ys⟩
        · exact absurd (HFi.out rfl).2 hj
        · simp
      have o0 : wr.cell? ⟨O, 0, none⟩ = some (.int .i64 fx) := HS.out.bO.cell 0
      have o1 : wr.cell? ⟨O, 1, none⟩ = some (.slice a rs.length cap) := HS.out.bO.cell 1
      have r0 : wr.cell? ⟨w.heap.size, 0, none⟩ = some (.int .i64 0) := HS.out.bR.cell 0
      have r1 : wr.cell? ⟨w.heap.size, 1, none⟩ = some (.slice none 0 0) := HS.out.bR.cell 1
      have f0 := HS.out.bR.frozen 0
      have f1 := HS.out.bR.frozen 1
      go_wp2
      have hs : Blk ((wr.setCell ⟨w.heap.size, 0, none⟩ (.int .i64 fx)).setCell ⟨w.heap.size, 1, none⟩ (.slice a rs.length cap)) w.heap.size #[.int .i64 fx, .slice a rs.length cap] 96 := (HS.out.bR.set 0 _).set 1 _
      have s0 := hs.cell 0
      have s1 := hs.cell 1
      refine bodyPost_ret (v := .agg #[.int .i64 fx, .slice a rs.length cap]) (by simp [results, Tryz.results156, go_sem, s0, s1]) rfl ?_
      have h0 := HS.out.clt; have h1 := HS.out.ord
      rcases HS.out.list with ⟨_, e⟩ | ⟨M, e, hab⟩
      · rw [e] at hr0; simp at hr0
      · subst e
        exact ⟨fx, M, cap, rs, rfl, ⟨ab_under (ab_under (hab.down (by omega)) (by omega) _ _) (by omega) _ _, cur_set (cur_set HS.out.cur h0 _ _) h0 _ _, kept_set (kept_set HS.out.kept (Nat.le_refl _) _ _) (Nat.le_refl _) _ _, h0, HS.out.fine⟩, hr0, HS.out.few, HFX.out⟩
end Go.Proofs.YtooninmicfcfoaaGreat.DrawC
namespace Go.Proofs.YtooninmicfcfoaaGreat.DrawD
open Go.RowKit
open Draw
open Labs LabS Over Blk App DrawL DrawT Alms AlmM DrawA DrawB Rws ChnI ChnC ChnP ChnS ChnU ChnK DrawC

structure XSt (w : World) (c X : Nat) (f : Int) (wr : World) (u : Value) (M cap : Nat) (rs : List ARow) : Prop where
  cur : Cur wr c
  kept : Kept c w wr
  clt : c < w.heap.size
  ord : w.heap.size < X ∧ X < wr.heap.size
  bR : Blk wr w.heap.size #[.int .i64 0, .slice none 0 0] 96
  bX : Blk wr X #[.int .i64 f, u] 96
  ab : AB (w.heap.size + 1) wr M cap rs
  fine : Fines (pals rs)
theorem XSt.keep {w : World} {c X : Nat} {f : Int} {wr w' : World} {u : Value} {M cap : Nat} {rs : List ARow} (h : XSt w c X f wr u M cap rs) (hc : Cur w' c) (hk : Kept c wr w') : XSt w c X f w' u M cap rs :=
  ⟨hc, h.kept.trans hk, h.clt, ⟨h.ord.1, Nat.lt_of_lt_of_le h.ord.2 hk.size⟩, blk_kept h.bR hk (by have := h.clt; omega), blk_kept h.bX hk (by have := h.clt; have := h.ord; omega), ab_kept h.ab hk (by have := h.clt; omega), h.fine⟩
theorem XSt.grow {w : World} {c X : Nat} {f : Int} {wr w' : World} {u : Value} {M cap : Nat} {rs : List ARow} (h : XSt w c X f wr u M cap rs) (hb : Below wr.heap.size wr w') : XSt w c X f w' u M cap rs := h.keep (cur_bel h.cur hb) (kept_bel hb)
theorem XSt.setF {w : World} {c X : Nat} {f : Int} {wr : World} {u : Value} {M cap : Nat} {rs : List ARow} (h : XSt w c X f wr u M cap rs) (y : Int) : XSt w c X y (wr.setCell ⟨X, 0, none⟩ (.int .i64 y)) u M cap rs := by
  have h0 := h.clt; have h1 := h.ord
  exact ⟨cur_set h.cur (by omega) _ _, DrawC.kept_set h.kept (by omega) _ _, h0, by simpa using h1, h.bR.set_other (by show X ≠ _; omega) _, h.bX.set 0 _, ab_set1 h.ab h.bX _ _, h.fine⟩
theorem XSt.setL {w : World} {c X : Nat} {f : Int} {wr : World} {u : Value} {M cap : Nat} {rs : List ARow} (h : XSt w c X f wr u M cap rs) (u' : Value) : XSt w c X f (wr.setCell ⟨X, 1, none⟩ u') u' M cap rs := by
  have h0 := h.clt; have h1 := h.ord
  exact ⟨cur_set h.cur (by omega) _ _, DrawC.kept_set h.kept (by omega) _ _, h0, by simpa using h1, h.bR.set_other (by show X ≠ _; omega) _, h.bX.set 1 _, ab_set1 h.ab h.bX _ _, h.fine⟩
theorem XSt.fin {w : World} {c X : Nat} {f : Int} {wr : World} {u : Value} {M cap : Nat} {rs : List ARow} (h : XSt w c X f wr u M cap rs) (v0 v1 : Value) : CDr w c ((wr.setCell ⟨w.heap.size, 0, none⟩ v0).setCell ⟨w.heap.size, 1, none⟩ v1) M cap rs :=
  ⟨ab_under (ab_under h.ab (by omega) _ _) (by omega) _ _, cur_set (cur_set h.cur h.clt _ _) h.clt _ _, DrawC.kept_set (DrawC.kept_set h.kept (Nat.le_refl _) _ _) (Nat.le_refl _) _ _, h.clt, h.fine⟩
theorem XSt.app {w : World} {c X : Nat} {f : Int} {W w' : World} {u v' : Value} {M cap : Nat} {rs : List ARow} {y : ARow} {xs : List Value} (h : XSt w c X f W u M cap rs) (hy : OwnA (w.heap.size + 1) W y) (hf : Fine y.2.2) (hne : ∀ x ∈ rs, x.1 ≠ y.1) (hl : xs.length = rs.length * 4) (hxs : ∀ i, i < rs.length → Four (fun k => xs[k]?) i (nthA rs i))
    (hown : w'.ownsRow (w.heap.size + 1) 29 4 v' (rs.length + 1) (xs ++ rowV y)) (hg : W.grownBy w' (some M)) : ∃ M' c', v' = .slice (some ⟨M', 0, none⟩) (rs.length + 1) c' ∧ XSt w c X f w' u M' c' (rs ++ [y]) := by
  have h0 := h.clt; have h1 := h.ord; have h2 := h.ab.at'
  obtain ⟨cu, hcu, _⟩ := h.ab.outer
  obtain ⟨M', c', e, hab⟩ := h.ab.app hy hne hl hxs hown hg
  refine ⟨M', c', e, h.cur.grown hg (fun k hk => by cases hk; omega), kept_grown (B := 0) h.kept hg (fun k hk => by cases hk; omega), h0, ⟨h1.1, Nat.lt_of_lt_of_le h1.2 hg.size⟩, blk_far h.bR hg (fun e => by have := Option.some.inj e; omega), blk_far h.bX hg (fun e => chain_alarm h.bX hcu (Option.some.inj e)), hab, ?_⟩
  rw [pals_app]; exact fines_app h.fine hf
theorem retA {M n n' c : Nat} {f : Int} (h : n = n') : Ending.returned (.agg #[.int .i64 f, .slice (some ⟨M, 0, none⟩) n c]) = .returned (.agg #[.int .i64 f, .slice (some ⟨M, 0, none⟩) n' c]) := by rw [h]

set_option maxRecDepth 100000 in
set_option maxHeartbeats 3200000 in
theorem l6Any_any (c : Nat) (w : World) (hc : Cur w c) :
    Calls Tryz.prog 117 #[.pointer (some ⟨c, 0, none⟩)] w fun r w' => ∃ (f : Int) (M cap : Nat) (rs : List ARow), r = .returned (.agg #[.int .i64 f, .slice (some ⟨M, 0, none⟩) rs.length cap]) ∧ CDr w c w' M cap rs ∧ rs.length ≤ 5 ∧ I64 f := by
  have HC : Hid (Cur w c) := hc
  have HL : Hid (c < w.heap.size) := hc.lt
  clear hc
  obtain ⟨i0, hi, hz0, hz1, hz2⟩ := info_parts infoA
  go_enter Tryz.func117, Tryz.ntmps117
  go_wp2_with fail
  refine (l6Draw_any c _ (HC.out.alloc _)).mono ?_
  rintro r w1 ⟨f, M, cap, rs, rfl, hd, hr0, hr4, hfb⟩
  have HFB : Hid (I64 f) := hfb
  clear hfb
  have HD1 : Hid (CDr (w.alloc (.cells #[.int .i64 0, .slice none 0 0] 96)) c w1 M cap rs) := hd
  have HR1 : Hid (Blk w1 w.heap.size #[.int .i64 0, .slice none 0 0] 96) := blk_kept (Blk.new _ _ _) hd.kept (by have := HL.out; omega)
  clear hd
  go_wp2_with fail
  refine (below_any c 8 _ (HD1.out.cur.alloc _) (by decide) (by decide)).mono ?_
  rintro r w2 ⟨⟨z, rfl, hz0', hz1'⟩, hc2, hk2⟩
  have HX : Hid (XSt w c w1.heap.size f w2 (.slice (some ⟨M, 0, none⟩) rs.length cap) M cap rs) := by
    have h0 := HL.out; have h1 := HR1.out.lt
    have h2 := hk2.size
    simp at h2
    exact ⟨hc2, ((((Kept.refl c w).alloc _).trans HD1.out.kept).alloc _).trans hk2, h0, ⟨h1, by omega⟩, blk_kept (HR1.out.alloc _) hk2 (by omega), blk_kept (Blk.new w1 _ _) hk2 (by omega), ab_kept ((HD1.out.ab.grow (Go.Joins.below_alloc1 w1 _)).down (by simp)) hk2 (by omega), HD1.out.fine⟩
  clear hc2 hk2 HD1 HR1
  generalize w1.heap.size = X at HX ⊢
  by_cases e0 : z = 0
  · subst e0
    go_wp2_with fail
    refine (below_any c 33 _ HX.out.cur (by decide) (by decide)).mono ?_
    rintro r w3 ⟨⟨y, rfl, hy0, hy1⟩, hc3, hk3⟩
    clear HFB
    have HFB : Hid (I64 y) := ⟨by omega, by omega⟩
    clear hy0 hy1
    have HX3 : Hid (XSt w c X f w3 (.slice (some ⟨M, 0, none⟩) rs.length cap) M cap rs) := HX.out.keep hc3 hk3
    have q0 : w3.cell? ⟨X, 0, none⟩ = some (.int .i64 f) := HX3.out.bX.cell 0
    have g0 := HX3.out.bX.frozen 0
    clear hc3 hk3
    go_upto_region 11 with fail
    have HX4 : Hid (XSt w c X y (w3.setCell ⟨X, 0, none⟩ (.int .i64 y)) (.slice (some ⟨M, 0, none⟩) rs.length cap) M cap rs) := HX3.out.setF y
    clear q0 g0
    generalize w3.setCell ⟨X, 0, none⟩ (.int .i64 y) = W3 at *
    have r0 : W3.cell? ⟨w.heap.size, 0, none⟩ = some (.int .i64 0) := HX4.out.bR.cell 0
    have r1 : W3.cell? ⟨w.heap.size, 1, none⟩ = some (.slice none 0 0) := HX4.out.bR.cell 1
    have f0 := HX4.out.bR.frozen 0
    have f1 := HX4.out.bR.frozen 1
    have x0 : W3.cell? ⟨X, 0, none⟩ = some (.int .i64 y) := HX4.out.bX.cell 0
    have x1 : W3.cell? ⟨X, 1, none⟩ = some (.slice (some ⟨M, 0, none⟩) rs.length cap) := HX4.out.bX.cell 1
    go_wp2
    have hs : Blk ((W3.setCell ⟨w.heap.size, 0, none⟩ (.int .i64 y)).setCell ⟨w.heap.size, 1, none⟩ (.slice (some ⟨M, 0, none⟩) rs.length cap)) w.heap.size #[.int .i64 y, .slice (some ⟨M, 0, none⟩) rs.length cap] 96 := (HX4.out.bR.set 0 _).set 1 _
    have s0 := hs.cell 0
    have s1 := hs.cell 1
    refine bodyPost_ret (v := .agg #[.int .i64 y, .slice (some ⟨M, 0, none⟩) rs.length cap]) (by simp [results, Tryz.results117, go_sem, s0, s1]) rfl ?_
    exact ⟨y, M, cap, rs, rfl, HX4.out.fin _ _, by omega, HFB.out⟩
  have d0' : (z == 0) = false := by simpa using e0
  by_cases e1 : z = 1
  · subst e1
    have HC : Hid (Calls Tryz.prog 157 #[.pointer (some ⟨c, 0, none⟩)] w2.drew fun r w' => ∃ y : ARow, r = .returned (.agg #[.slice (some ⟨y.1, 0, none⟩) y.2.2.l.length y.2.1, .int .i64 y.2.2.s, .int .i64 y.2.2.e, .string y.2.2.n]) ∧ XSt w c X f w' (.slice (some ⟨M, 0, none⟩) rs.length cap) M cap rs ∧ OwnA (w.heap.size + 1) w' y ∧ w2.heap.size ≤ y.1 ∧ Fine y.2.2) := (l4Any_any c w2.drew (Cur.drewN HX.out.cur 1)).mono fun r w' ⟨g, cp, p, s, e, n, hr, hst, hp, hs, he, hn⟩ => ⟨(g, cp, ⟨p, s, e, n⟩), hr, HX.out.keep hst.cur (kept_drew hst.kept), (own_lst hst hp).down (by have := HX.out.ord; show _ ≤ w2.drew.heap.size; simp; omega), hst.blk.1, fine_of hp hst.fit hs he hn⟩
    go_upto_region 6 with fail
    refine wp_region_held_drew (S := fun w' => True) (by kernel_rfl) trivial (fun hHeld => ?_)
    refine wpAnyH_take (i := 0) (oi := { dst := some 15, op := Op.fieldAddr 96 (Operand.tmp 3) 1, type := 0, pos := "l06_chain.go:79", after := #[], guard := none }) (v := ?vd11) rfl (by kernel_rfl) (by kernel_rfl) (by kernel_rfl) (fun _ _ _ h => h) (Or.inl ⟨by rfl, ?hyd11⟩) hHeld ?_
    case hyd11 => (intro w hSw; (try dsimp only at hSw); go_simp <;> with_reducible rfl)
    try simp only [Act.put, List.setIfInBounds_toArray, List.set_cons_zero, List.set_cons_succ]
    refine wpAnyH_take (i := 2) (oi := { dst := some 17, op := Op.move (Operand.tmp 0), type := 82, pos := "l06_chain.go:79", after := #[], guard := none }) (v := ?vd12) rfl (by kernel_rfl) (by kernel_rfl) (by kernel_rfl) (fun _ _ _ h => h) (Or.inl ⟨by rfl, ?hyd12⟩) hHeld ?_
    case hyd12 => (intro w hSw; (try dsimp only at hSw); go_simp <;> with_reducible rfl)
    try simp only [Act.put, List.setIfInBounds_toArray, List.set_cons_zero, List.set_cons_succ]
    refine wpAnyH_ready (rs := [1, 3]) (by kernel_rfl) (by simp) ?_
    refine AllReadyH.cons (o := { dst := some 16, op := Op.load 40 (Operand.tmp 15), type := 40, pos := "l06_chain.go:79", after := #[{ on := 0, ground := Ground.data }], guard := none }) rfl (fun K hK => ?_) ?_
    ·
      have cD : w2.drew.cell? ⟨X, 1, none⟩ = some (.slice (some ⟨M, 0, none⟩) rs.length cap) := (HX.out.bX.drew).cell 1
      go_simp
      clear cD
      clear hHeld
      refine hK.out _ _ trivial (fun hHeld => ?_)
      clear hK K
      try simp only [Act.put, List.setIfInBounds_toArray, List.set_cons_zero, List.set_cons_succ]
      
      refine wpAnyH_ready (rs := [3]) (by kernel_rfl) (by simp) ?_
      refine AllReadyH.cons (o := { dst := some 18, op := Op.call { callee := Callee.value (Operand.func 157), args := #[Operand.tmp 17], argTypes := #[82] }, type := 29, pos := "l06_chain.go:79", after := #[{ on := 2, ground := Ground.data }], guard := none }) rfl (fun K hK => ?_) AllReadyH.nil
      go_simp
      refine HC.out.mono ?_
      rintro r wyc ⟨y, rfl, hx, hy, hyl, hyf⟩
      have HXc : Hid (XSt w c X f wyc (.slice (some ⟨M, 0, none⟩) rs.length cap) M cap rs) := hx
      have HY : Hid (OwnA (w.heap.size + 1) wyc y ∧ w2.heap.size ≤ y.1 ∧ Fine y.2.2) := ⟨hy, hyl, hyf⟩
      clear hx hy hyl hyf
      clear hHeld
      refine hK.out _ _ trivial (fun hHeld => ?_)
      clear hK K
      try simp only [Act.put, List.setIfInBounds_toArray, List.set_cons_zero, List.set_cons_succ]
      
      refine wpAnyH_ready (rs := [4]) (by kernel_rfl) (by simp) ?_
      refine AllReadyH.cons (o := { dst := some 19, op := Op.buildSlice 40 1 #[(0, Operand.tmp 18)], type := 40, pos := "l06_chain.go:79", after := #[{ on := 3, ground := Ground.data }], guard := none }) rfl (fun K hK => ?_) AllReadyH.nil
      go_simp
      clear hHeld
      refine hK.out _ _ trivial (fun hHeld => ?_)
      clear hK K
      try simp only [Act.put, List.setIfInBounds_toArray, List.set_cons_zero, List.set_cons_succ]
      
      refine wpAnyH_ready (rs := [5]) (by kernel_rfl) (by simp) ?_
      refine AllReadyH.cons (o := { dst := some 20, op := Op.call { callee := Callee.builtin Builtin.append, args := #[Operand.tmp 16, Operand.tmp 19], argTypes := #[40, 40] }, type := 40, pos := "l06_chain.go:79", after := #[{ on := 1, ground := Ground.data }, { on := 4, ground := Ground.data }, { on := 3, ground := Ground.chain }], guard := none }) rfl (fun K hK => ?_) AllReadyH.nil
      have hXd : XSt w c X f (wyc.alloc (.cells #[.slice (some ⟨y.1, 0, none⟩) y.2.2.l.length y.2.1, .int .i64 y.2.2.s, .int .i64 y.2.2.e, .string y.2.2.n] 29)) (.slice (some ⟨M, 0, none⟩) rs.length cap) M cap rs := HXc.out.grow (Go.Joins.below_alloc1 wyc _)
      obtain ⟨xs, hox, hxl, hxs⟩ := hXd.ab.own
      refine step_appB rfl _ _ 40 rfl 29 i0 (.agg #[.slice none 0 0, .int .i64 0, .int .i64 0, .string ByteArray.empty]) 4 56 Tryz.underlying40 hi hz0 hz1 hz2 rfl (by decide) (w.heap.size + 1) ?k11b (.slice (some ⟨M, 0, none⟩) rs.length cap) rs.length xs rfl hox ⟨wyc.heap.size, 0, none⟩ 1 1 (rowV y) rfl rfl (blk_news (Blk.new _ _ _)) (row_one _) ?k11c ?k11d ?_
      case k11b => have := hXd.ord; omega
      case k11c => unfold maxLen; omega
      case k11d => omega
      intro v' wya hown hg hat
      obtain ⟨M3, c3, e3, hXA⟩ := hXd.app (HY.out.1.grow (Go.Joins.below_alloc1 wyc _)) HY.out.2.2 (fun x hx => by have := (HX.out.ab.rows x hx).lt; have := HY.out.2.1; omega) hxl hxs hown hg
      subst e3
      have HXA : Hid (XSt w c X f wya (.slice (some ⟨M, 0, none⟩) rs.length cap) M3 c3 (rs ++ [y])) := hXA
      clear hown hg hat hXA hXd hox hxl hxs
      clear hHeld
      refine hK.out _ _ trivial (fun hHeld => ?_)
      clear hK K
      try simp only [Act.put, List.setIfInBounds_toArray, List.set_cons_zero, List.set_cons_succ]
      
      refine wpAnyH_take (i := 6) (oi := { dst := some 21, op := Op.fieldAddr 96 (Operand.tmp 3) 1, type := 0, pos := "l06_chain.go:79", after := #[{ on := 0, ground := Ground.phase }, { on := 1, ground := Ground.phase }, { on := 2, ground := Ground.phase }, { on := 3, ground := Ground.phase }, { on := 4, ground := Ground.phase }, { on := 5, ground := Ground.phase }], guard := none }) (v := ?vd17) rfl (by kernel_rfl) (by kernel_rfl) (by kernel_rfl) (fun _ _ _ h => h) (Or.inl ⟨by rfl, ?hyd17⟩) hHeld ?_
      case hyd17 => (intro w hSw; (try dsimp only at hSw); go_simp <;> with_reducible rfl)
      try simp only [Act.put, List.setIfInBounds_toArray, List.set_cons_zero, List.set_cons_succ]
      refine wpAnyH_ready (rs := [7]) (by kernel_rfl) (by simp) ?_
      refine AllReadyH.cons (o := { dst := none, op := Op.store 40 (Operand.tmp 21) (Operand.tmp 20), type := 0, pos := "l06_chain.go:79", after := #[{ on := 6, ground := Ground.data }, { on := 5, ground := Ground.data }, { on := 5, ground := Ground.chain }, { on := 0, ground := Ground.phase }, { on := 1, ground := Ground.phase }, { on := 2, ground := Ground.phase }, { on := 3, ground := Ground.phase }, { on := 4, ground := Ground.phase }, { on := 5, ground := Ground.phase }], guard := none }) rfl (fun K hK => ?_) AllReadyH.nil
      have cD : wya.cell? ⟨X, 1, none⟩ = some (.slice (some ⟨M, 0, none⟩) rs.length cap) := HXA.out.bX.cell 1
      have fD := HXA.out.bX.frozen 1
      go_simp
      clear cD fD
      clear hHeld
      refine hK.out _ _ trivial (fun hHeld => ?_)
      clear hK K
      try simp only [Act.put, List.setIfInBounds_toArray, List.set_cons_zero, List.set_cons_succ]
      
      refine wpAnyH_done (by kernel_rfl) ?_ _
      have HXZ : Hid (XSt w c X f (wya.setCell ⟨X, 1, none⟩ (.slice (some ⟨M3, 0, none⟩) (rs.length + 1) c3)) (.slice (some ⟨M3, 0, none⟩) (rs.length + 1) c3) M3 c3 (rs ++ [y])) := HXA.out.setL _
      clear hHeld HXA HXc HY
      generalize wya.setCell ⟨X, 1, none⟩ (.slice (some ⟨M3, 0, none⟩) (rs.length + 1) c3) = W3 at *
      have r0 : W3.cell? ⟨w.heap.size, 0, none⟩ = some (.int .i64 0) := HXZ.out.bR.cell 0
      have r1 : W3.cell? ⟨w.heap.size, 1, none⟩ = some (.slice none 0 0) := HXZ.out.bR.cell 1
      have f0 := HXZ.out.bR.frozen 0
      have f1 := HXZ.out.bR.frozen 1
      have x0 : W3.cell? ⟨X, 0, none⟩ = some (.int .i64 f) := HXZ.out.bX.cell 0
      have x1 : W3.cell? ⟨X, 1, none⟩ = some (.slice (some ⟨M3, 0, none⟩) (rs.length + 1) c3) := HXZ.out.bX.cell 1
      go_wp2
      have hs : Blk ((W3.setCell ⟨w.heap.size, 0, none⟩ (.int .i64 f)).setCell ⟨w.heap.size, 1, none⟩ (.slice (some ⟨M3, 0, none⟩) (rs.length + 1) c3)) w.heap.size #[.int .i64 f, .slice (some ⟨M3, 0, none⟩) (rs.length + 1) c3] 96 := (HXZ.out.bR.set 0 _).set 1 _
      have s0 := hs.cell 0
      have s1 := hs.cell 1
      refine bodyPost_ret (v := .agg #[.int .i64 f, .slice (some ⟨M3, 0, none⟩) (rs.length + 1) c3]) (by simp [results, Tryz.results117, go_sem, s0, s1]) rfl ?_
      exact ⟨f, M3, c3, rs ++ [y], retA (by simp), HXZ.out.fin _ _, by simp; omega, HFB.out⟩
    refine AllReadyH.cons (o := { dst := some 18, op := Op.call { callee := Callee.value (Operand.func 157), args := #[Operand.tmp 17], argTypes := #[82] }, type := 29, pos := "l06_chain.go:79", after := #[{ on := 2, ground := Ground.data }], guard := none }) rfl (fun K hK => ?_) AllReadyH.nil
    go_simp
    refine HC.out.mono ?_
    rintro r wyc ⟨y, rfl, hx, hy, hyl, hyf⟩
    have HXc : Hid (XSt w c X f wyc (.slice (some ⟨M, 0, none⟩) rs.length cap) M cap rs) := hx
    have HY : Hid (OwnA (w.heap.size + 1) wyc y ∧ w2.heap.size ≤ y.1 ∧ Fine y.2.2) := ⟨hy, hyl, hyf⟩
    clear hx hy hyl hyf
    clear hHeld
    refine hK.out _ _ trivial (fun hHeld => ?_)
    clear hK K
    try simp only [Act.put, List.setIfInBounds_toArray, List.set_cons_zero, List.set_cons_succ]
    
    refine wpAnyH_ready (rs := [1, 4]) (by kernel_rfl) (by simp) ?_
    refine AllReadyH.cons (o := { dst := some 16, op := Op.load 40 (Operand.tmp 15), type := 40, pos := "l06_chain.go:79", after := #[{ on := 0, ground := Ground.data }], guard := none }) rfl (fun K hK => ?_) ?_
    ·
      have cD : wyc.cell? ⟨X, 1, none⟩ = some (.slice (some ⟨M, 0, none⟩) rs.length cap) := (HXc.out.bX).cell 1
      go_simp
      clear cD
      clear hHeld
      refine hK.out _ _ trivial (fun hHeld => ?_)
      clear hK K
      try simp only [Act.put, List.setIfInBounds_toArray, List.set_cons_zero, List.set_cons_succ]
      
      refine wpAnyH_ready (rs := [4]) (by kernel_rfl) (by simp) ?_
      refine AllReadyH.cons (o := { dst := some 19, op := Op.buildSlice 40 1 #[(0, Operand.tmp 18)], type := 40, pos := "l06_chain.go:79", after := #[{ on := 3, ground := Ground.data }], guard := none }) rfl (fun K hK => ?_) AllReadyH.nil
      go_simp
      clear hHeld
      refine hK.out _ _ trivial (fun hHeld => ?_)
      clear hK K
      try simp only [Act.put, List.setIfInBounds_toArray, List.set_cons_zero, List.set_cons_succ]
      
      refine wpAnyH_ready (rs := [5]) (by kernel_rfl) (by simp) ?_
      refine AllReadyH.cons (o := { dst := some 20, op := Op.call { callee := Callee.builtin Builtin.append, args := #[Operand.tmp 16, Operand.tmp 19], argTypes := #[40, 40] }, type := 40, pos := "l06_chain.go:79", after := #[{ on := 1, ground := Ground.data }, { on := 4, ground := Ground.data }, { on := 3, ground := Ground.chain }], guard := none }) rfl (fun K hK => ?_) AllReadyH.nil
      have hXd : XSt w c X f (wyc.alloc (.cells #[.slice (some ⟨y.1, 0, none⟩) y.2.2.l.length y.2.1, .int .i64 y.2.2.s, .int .i64 y.2.2.e, .string y.2.2.n] 29)) (.slice (some ⟨M, 0, none⟩) rs.length cap) M cap rs := HXc.out.grow (Go.Joins.below_alloc1 wyc _)
      obtain ⟨xs, hox, hxl, hxs⟩ := hXd.ab.own
      refine step_appB rfl _ _ 40 rfl 29 i0 (.agg #[.slice none 0 0, .int .i64 0, .int .i64 0, .string ByteArray.empty]) 4 56 Tryz.underlying40 hi hz0 hz1 hz2 rfl (by decide) (w.heap.size + 1) ?k12b (.slice (some ⟨M, 0, none⟩) rs.length cap) rs.length xs rfl hox ⟨wyc.heap.size, 0, none⟩ 1 1 (rowV y) rfl rfl (blk_news (Blk.new _ _ _)) (row_one _) ?k12c ?k12d ?_
      case k12b => have := hXd.ord; omega
      case k12c => unfold maxLen; omega
      case k12d => omega
      intro v' wya hown hg hat
      obtain ⟨M3, c3, e3, hXA⟩ := hXd.app (HY.out.1.grow (Go.Joins.below_alloc1 wyc _)) HY.out.2.2 (fun x hx => by have := (HX.out.ab.rows x hx).lt; have := HY.out.2.1; omega) hxl hxs hown hg
      subst e3
      have HXA : Hid (XSt w c X f wya (.slice (some ⟨M, 0, none⟩) rs.length cap) M3 c3 (rs ++ [y])) := hXA
      clear hown hg hat hXA hXd hox hxl hxs
      clear hHeld
      refine hK.out _ _ trivial (fun hHeld => ?_)
      clear hK K
      try simp only [Act.put, List.setIfInBounds_toArray, List.set_cons_zero, List.set_cons_succ]
      
      refine wpAnyH_take (i := 6) (oi := { dst := some 21, op := Op.fieldAddr 96 (Operand.tmp 3) 1, type := 0, pos := "l06_chain.go:79", after := #[{ on := 0, ground := Ground.phase }, { on := 1, ground := Ground.phase }, { on := 2, ground := Ground.phase }, { on := 3, ground := Ground.phase }, { on := 4, ground := Ground.phase }, { on := 5, ground := Ground.phase }], guard := none }) (v := ?vd113) rfl (by kernel_rfl) (by kernel_rfl) (by kernel_rfl) (fun _ _ _ h => h) (Or.inl ⟨by rfl, ?hyd113⟩) hHeld ?_
      case hyd113 => (intro w hSw; (try dsimp only at hSw); go_simp <;> with_reducible rfl)
      try simp only [Act.put, List.setIfInBounds_toArray, List.set_cons_zero, List.set_cons_succ]
      refine wpAnyH_ready (rs := [7]) (by kernel_rfl) (by simp) ?_
      refine AllReadyH.cons (o := { dst := none, op := Op.store 40 (Operand.tmp 21) (Operand.tmp 20), type := 0, pos := "l06_chain.go:79", after := #[{ on := 6, ground := Ground.data }, { on := 5, ground := Ground.data }, { on := 5, ground := Ground.chain }, { on := 0, ground := Ground.phase }, { on := 1, ground := Ground.phase }, { on := 2, ground := Ground.phase }, { on := 3, ground := Ground.phase }, { on := 4, ground := Ground.phase }, { on := 5, ground := Ground.phase }], guard := none }) rfl (fun K hK => ?_) AllReadyH.nil
      have cD : wya.cell? ⟨X, 1, none⟩ = some (.slice (some ⟨M, 0, none⟩) rs.length cap) := HXA.out.bX.cell 1
      have fD := HXA.out.bX.frozen 1
      go_simp
      clear cD fD
      clear hHeld
      refine hK.out _ _ trivial (fun hHeld => ?_)
      clear hK K
      try simp only [Act.put, List.setIfInBounds_toArray, List.set_cons_zero, List.set_cons_succ]
      
      refine wpAnyH_done (by kernel_rfl) ?_ _
      have HXZ : Hid (XSt w c X f (wya.setCell ⟨X, 1, none⟩ (.slice (some ⟨M3, 0, none⟩) (rs.length + 1) c3)) (.slice (some ⟨M3, 0, none⟩) (rs.length + 1) c3) M3 c3 (rs ++ [y])) := HXA.out.setL _
      clear hHeld HXA HXc HY
      generalize wya.setCell ⟨X, 1, none⟩ (.slice (some ⟨M3, 0, none⟩) (rs.length + 1) c3) = W3 at *
      have r0 : W3.cell? ⟨w.heap.size, 0, none⟩ = some (.int .i64 0) := HXZ.out.bR.cell 0
      have r1 : W3.cell? ⟨w.heap.size, 1, none⟩ = some (.slice none 0 0) := HXZ.out.bR.cell 1
      have f0 := HXZ.out.bR.frozen 0
      have f1 := HXZ.out.bR.frozen 1
      have x0 : W3.cell? ⟨X, 0, none⟩ = some (.int .i64 f) := HXZ.out.bX.cell 0
      have x1 : W3.cell? ⟨X, 1, none⟩ = some (.slice (some ⟨M3, 0, none⟩) (rs.length + 1) c3) := HXZ.out.bX.cell 1
      go_wp2
      have hs : Blk ((W3.setCell ⟨w.heap.size, 0, none⟩ (.int .i64 f)).setCell ⟨w.heap.size, 1, none⟩ (.slice (some ⟨M3, 0, none⟩) (rs.length + 1) c3)) w.heap.size #[.int .i64 f, .slice (some ⟨M3, 0, none⟩) (rs.length + 1) c3] 96 := (HXZ.out.bR.set 0 _).set 1 _
      have s0 := hs.cell 0
      have s1 := hs.cell 1
      refine bodyPost_ret (v := .agg #[.int .i64 f, .slice (some ⟨M3, 0, none⟩) (rs.length + 1) c3]) (by simp [results, Tryz.results117, go_sem, s0, s1]) rfl ?_
      exact ⟨f, M3, c3, rs ++ [y], retA (by simp), HXZ.out.fin _ _, by simp; omega, HFB.out⟩
    refine AllReadyH.cons (o := { dst := some 19, op := Op.buildSlice 40 1 #[(0, Operand.tmp 18)], type := 40, pos := "l06_chain.go:79", after := #[{ on := 3, ground := Ground.data }], guard := none }) rfl (fun K hK => ?_) AllReadyH.nil
    go_simp
    clear hHeld
    refine hK.out _ _ trivial (fun hHeld => ?_)
    clear hK K
    try simp only [Act.put, List.setIfInBounds_toArray, List.set_cons_zero, List.set_cons_succ]
    
    refine wpAnyH_ready (rs := [1]) (by kernel_rfl) (by simp) ?_
    refine AllReadyH.cons (o := { dst := some 16, op := Op.load 40 (Operand.tmp 15), type := 40, pos := "l06_chain.go:79", after := #[{ on := 0, ground := Ground.data }], guard := none }) rfl (fun K hK => ?_) AllReadyH.nil
    have cD : (wyc.alloc (.cells #[.slice (some ⟨y.1, 0, none⟩) y.2.2.l.length y.2.1, .int .i64 y.2.2.s, .int .i64 y.2.2.e, .string y.2.2.n] 29)).cell? ⟨X, 1, none⟩ = some (.slice (some ⟨M, 0, none⟩) rs.length cap) := ((HXc.out.bX.alloc _)).cell 1
    go_simp
    clear cD
    clear hHeld
    refine hK.out _ _ trivial (fun hHeld => ?_)
    clear hK K
    try simp only [Act.put, List.setIfInBounds_toArray, List.set_cons_zero, List.set_cons_succ]
    
    refine wpAnyH_ready (rs := [5]) (by kernel_rfl) (by simp) ?_
    refine AllReadyH.cons (o := { dst := some 20, op := Op.call { callee := Callee.builtin Builtin.append, args := #[Operand.tmp 16, Operand.tmp 19], argTypes := #[40, 40] }, type := 40, pos := "l06_chain.go:79", after := #[{ on := 1, ground := Ground.data }, { on := 4, ground := Ground.data }, { on := 3, ground := Ground.chain }], guard := none }) rfl (fun K hK => ?_) AllReadyH.nil
    have hXd : XSt w c X f (wyc.alloc (.cells #[.slice (some ⟨y.1, 0, none⟩) y.2.2.l.length y.2.1, .int .i64 y.2.2.s, .int .i64 y.2.2.e, .string y.2.2.n] 29)) (.slice (some ⟨M, 0, none⟩) rs.length cap) M cap rs := HXc.out.grow (Go.Joins.below_alloc1 wyc _)
    obtain ⟨xs, hox, hxl, hxs⟩ := hXd.ab.own
    refine step_appB rfl _ _ 40 rfl 29 i0 (.agg #[.slice none 0 0, .int .i64 0, .int .i64 0, .string ByteArray.empty]) 4 56 Tryz.underlying40 hi hz0 hz1 hz2 rfl (by decide) (w.heap.size + 1) ?k13b (.slice (some ⟨M, 0, none⟩) rs.length cap) rs.length xs rfl hox ⟨wyc.heap.size, 0, none⟩ 1 1 (rowV y) rfl rfl (blk_news (Blk.new _ _ _)) (row_one _) ?k13c ?k13d ?_
    case k13b => have := hXd.ord; omega
    case k13c => unfold maxLen; omega
    case k13d => omega
    intro v' wya hown hg hat
    obtain ⟨M3, c3, e3, hXA⟩ := hXd.app (HY.out.1.grow (Go.Joins.below_alloc1 wyc _)) HY.out.2.2 (fun x hx => by have := (HX.out.ab.rows x hx).lt; have := HY.out.2.1; omega) hxl hxs hown hg
    subst e3
    have HXA : Hid (XSt w c X f wya (.slice (some ⟨M, 0, none⟩) rs.length cap) M3 c3 (rs ++ [y])) := hXA
    clear hown hg hat hXA hXd hox hxl hxs
    clear hHeld
    refine hK.out _ _ trivial (fun hHeld => ?_)
    clear hK K
    try simp only [Act.put, List.setIfInBounds_toArray, List.set_cons_zero, List.set_cons_succ]
    
    refine wpAnyH_take (i := 6) (oi := { dst := some 21, op := Op.fieldAddr 96 (Operand.tmp 3) 1, type := 0, pos := "l06_chain.go:79", after := #[{ on := 0, ground := Ground.phase }, { on := 1, ground := Ground.phase }, { on := 2, ground := Ground.phase }, { on := 3, ground := Ground.phase }, { on := 4, ground := Ground.phase }, { on := 5, ground := Ground.phase }], guard := none }) (v := ?vd118) rfl (by kernel_rfl) (by kernel_rfl) (by kernel_rfl) (fun _ _ _ h => h) (Or.inl ⟨by rfl, ?hyd118⟩) hHeld ?_
    case hyd118 => (intro w hSw; (try dsimp only at hSw); go_simp <;> with_reducible rfl)
    try simp only [Act.put, List.setIfInBounds_toArray, List.set_cons_zero, List.set_cons_succ]
    refine wpAnyH_ready (rs := [7]) (by kernel_rfl) (by simp) ?_
    refine AllReadyH.cons (o := { dst := none, op := Op.store 40 (Operand.tmp 21) (Operand.tmp 20), type := 0, pos := "l06_chain.go:79", after := #[{ on := 6, ground := Ground.data }, { on := 5, ground := Ground.data }, { on := 5, ground := Ground.chain }, { on := 0, ground := Ground.phase }, { on := 1, ground := Ground.phase }, { on := 2, ground := Ground.phase }, { on := 3, ground := Ground.phase }, { on := 4, ground := Ground.phase }, { on := 5, ground := Ground.phase }], guard := none }) rfl (fun K hK => ?_) AllReadyH.nil
    have cD : wya.cell? ⟨X, 1, none⟩ = some (.slice (some ⟨M, 0, none⟩) rs.length cap) := HXA.out.bX.cell 1
    have fD := HXA.out.bX.frozen 1
    go_simp
    clear cD fD
    clear hHeld
    refine hK.out _ _ trivial (fun hHeld => ?_)
    clear hK K
    try simp only [Act.put, List.setIfInBounds_toArray, List.set_cons_zero, List.set_cons_succ]
    
    refine wpAnyH_done (by kernel_rfl) ?_ _
    have HXZ : Hid (XSt w c X f (wya.setCell ⟨X, 1, none⟩ (.slice (some ⟨M3, 0, none⟩) (rs.length + 1) c3)) (.slice (some ⟨M3, 0, none⟩) (rs.length + 1) c3) M3 c3 (rs ++ [y])) := HXA.out.setL _
    clear hHeld HXA HXc HY
    generalize wya.setCell ⟨X, 1, none⟩ (.slice (some ⟨M3, 0, none⟩) (rs.length + 1) c3) = W3 at *
    have r0 : W3.cell? ⟨w.heap.size, 0, none⟩ = some (.int .i64 0) := HXZ.out.bR.cell 0
    have r1 : W3.cell? ⟨w.heap.size, 1, none⟩ = some (.slice none 0 0) := HXZ.out.bR.cell 1
    have f0 := HXZ.out.bR.frozen 0
    have f1 := HXZ.out.bR.frozen 1
    have x0 : W3.cell? ⟨X, 0, none⟩ = some (.int .i64 f) := HXZ.out.bX.cell 0
    have x1 : W3.cell? ⟨X, 1, none⟩ = some (.slice (some ⟨M3, 0, none⟩) (rs.length + 1) c3) := HXZ.out.bX.cell 1
    go_wp2
    have hs : Blk ((W3.setCell ⟨w.heap.size, 0, none⟩ (.int .i64 f)).setCell ⟨w.heap.size, 1, none⟩ (.slice (some ⟨M3, 0, none⟩) (rs.length + 1) c3)) w.heap.size #[.int .i64 f, .slice (some ⟨M3, 0, none⟩) (rs.length + 1) c3] 96 := (HXZ.out.bR.set 0 _).set 1 _
    have s0 := hs.cell 0
    have s1 := hs.cell 1
    refine bodyPost_ret (v := .agg #[.int .i64 f, .slice (some ⟨M3, 0, none⟩) (rs.length + 1) c3]) (by simp [results, Tryz.results117, go_sem, s0, s1]) rfl ?_
    exact ⟨f, M3, c3, rs ++ [y], retA (by simp), HXZ.out.fin _ _, by simp; omega, HFB.out⟩
  have d1' : (z == 1) = false := by simpa using e1
  by_cases e2 : z = 2
  · subst e2
    obtain ⟨cu, hcu, hcs, h4⟩ := HX.out.ab.outer
    have h40 := h4 0 hr0
    unfold Four at h40
    have HAl : Hid (w2.drew.cell? ⟨M, 0, none⟩ = some (.slice (some ⟨(nthA rs 0).1, 0, none⟩) (nthA rs 0).2.2.l.length (nthA rs 0).2.1) ∧ w2.drew.cell? ⟨M, 1, none⟩ = some (.int .i64 (nthA rs 0).2.2.s) ∧ w2.drew.cell? ⟨M, 2, none⟩ = some (.int .i64 (nthA rs 0).2.2.e) ∧ w2.drew.cell? ⟨M, 3, none⟩ = some (.string (nthA rs 0).2.2.n)) := ⟨(hcu.drew.cell 0).trans h40.1, (hcu.drew.cell 1).trans h40.2.1, (hcu.drew.cell 2).trans h40.2.2.1, (hcu.drew.cell 3).trans h40.2.2.2⟩
    clear h40 h4 hcs hcu
    have hri : (0 : Int) < (rs.length : Int) := by omega
    have HC : Hid (Calls Tryz.prog 73 #[.agg #[.slice (some ⟨(nthA rs 0).1, 0, none⟩) (nthA rs 0).2.2.l.length (nthA rs 0).2.1, .int .i64 (nthA rs 0).2.2.s, .int .i64 (nthA rs 0).2.2.e, .string (nthA rs 0).2.2.n]] w2.drew fun r w' => ∃ y : ARow, r = .returned (.agg #[.slice (some ⟨y.1, 0, none⟩) y.2.2.l.length y.2.1, .int .i64 y.2.2.s, .int .i64 y.2.2.e, .string y.2.2.n]) ∧ XSt w c X f w' (.slice (some ⟨M, 0, none⟩) rs.length cap) M cap rs ∧ OwnA (w.heap.size + 1) w' y ∧ w2.heap.size ≤ y.1 ∧ Fine y.2.2) := by
      have ho := HX.out.ab.rows _ (nthA_mem hr0)
      have hfi : Fine (nthA rs 0).2.2 := by rw [← pals_nth hr0]; exact HX.out.fine _ (nthP_mem (by rw [pals_len]; exact hr0))
      exact (copyS_any _ _ _ _ _ _ _ w2.drew (reads_drew ho.reads) ho.2.1).mono fun r w' ⟨⟨Mx, cx, hr, hO⟩, hb⟩ => ⟨(Mx, cx, (nthA rs 0).2.2), hr, HX.out.grow (grow_on ((Below.refl _ _).drew) hb), (own_of_copy hO ho.2.1).down (by have := HX.out.ord; show _ ≤ w2.drew.heap.size; simp; omega), hO.1, hfi⟩
    go_upto_region 8 with fail
    refine wp_region_held_drew (S := fun w' => True) (by kernel_rfl) trivial (fun hHeld => ?_)
    refine wpAnyH_take (i := 0) (oi := { dst := some 24, op := Op.fieldAddr 96 (Operand.tmp 3) 1, type := 0, pos := "l06_chain.go:81", after := #[], guard := none }) (v := ?vd21) rfl (by kernel_rfl) (by kernel_rfl) (by kernel_rfl) (fun _ _ _ h => h) (Or.inl ⟨by rfl, ?hyd21⟩) hHeld ?_
    case hyd21 => (intro w hSw; (try dsimp only at hSw); go_simp <;> with_reducible rfl)
    try simp only [Act.put, List.setIfInBounds_toArray, List.set_cons_zero, List.set_cons_succ]
    refine wpAnyH_take (i := 2) (oi := { dst := some 26, op := Op.fieldAddr 96 (Operand.tmp 3) 1, type := 0, pos := "l06_chain.go:81", after := #[], guard := none }) (v := ?vd22) rfl (by kernel_rfl) (by kernel_rfl) (by kernel_rfl) (fun _ _ _ h => h) (Or.inl ⟨by rfl, ?hyd22⟩) hHeld ?_
    case hyd22 => (intro w hSw; (try dsimp only at hSw); go_simp <;> with_reducible rfl)
    try simp only [Act.put, List.setIfInBounds_toArray, List.set_cons_zero, List.set_cons_succ]
    refine wpAnyH_ready (rs := [1, 3]) (by kernel_rfl) (by simp) ?_
    refine AllReadyH.cons (o := { dst := some 25, op := Op.load 40 (Operand.tmp 24), type := 40, pos := "l06_chain.go:81", after := #[{ on := 0, ground := Ground.data }], guard := none }) rfl (fun K hK => ?_) ?_
    ·
      have cD : w2.drew.cell? ⟨X, 1, none⟩ = some (.slice (some ⟨M, 0, none⟩) rs.length cap) := (HX.out.bX.drew).cell 1
      go_simp
      clear cD
      clear hHeld
      refine hK.out _ _ trivial (fun hHeld => ?_)
      clear hK K
      try simp only [Act.put, List.setIfInBounds_toArray, List.set_cons_zero, List.set_cons_succ]
      
      refine wpAnyH_ready (rs := [3]) (by kernel_rfl) (by simp) ?_
      refine AllReadyH.cons (o := { dst := some 27, op := Op.load 40 (Operand.tmp 26), type := 40, pos := "l06_chain.go:81", after := #[{ on := 2, ground := Ground.data }], guard := none }) rfl (fun K hK => ?_) AllReadyH.nil
      have cD : w2.drew.cell? ⟨X, 1, none⟩ = some (.slice (some ⟨M, 0, none⟩) rs.length cap) := (HX.out.bX.drew).cell 1
      go_simp
      clear cD
      clear hHeld
      refine hK.out _ _ trivial (fun hHeld => ?_)
      clear hK K
      try simp only [Act.put, List.setIfInBounds_toArray, List.set_cons_zero, List.set_cons_succ]
      
      refine wpAnyH_take (i := 4) (oi := { dst := some 28, op := Op.indexAddr 40 (Operand.tmp 27) (Operand.const (Value.int IntKind.i64 0)), type := 0, pos := "l06_chain.go:81", after := #[{ on := 3, ground := Ground.data }], guard := none }) (v := ?vd25) rfl (by kernel_rfl) (by kernel_rfl) (by kernel_rfl) (fun _ _ _ h => h) (Or.inl ⟨by rfl, ?hyd25⟩) hHeld ?_
      case hyd25 => (intro w hSw; (try dsimp only at hSw); go_simp <;> with_reducible rfl)
      try simp only [Act.put, List.setIfInBounds_toArray, List.set_cons_zero, List.set_cons_succ]
      refine wpAnyH_ready (rs := [5]) (by kernel_rfl) (by simp) ?_
      refine AllReadyH.cons (o := { dst := some 29, op := Op.load 29 (Operand.tmp 28), type := 29, pos := "l06_chain.go:81", after := #[{ on := 4, ground := Ground.data }], guard := none }) rfl (fun K hK => ?_) AllReadyH.nil
      have y0 := HAl.out.1
      have y1 := HAl.out.2.1
      have y2 := HAl.out.2.2.1
      have y3 := HAl.out.2.2.2
      go_simp
      clear y0 y1 y2 y3
      clear hHeld
      refine hK.out _ _ trivial (fun hHeld => ?_)
      clear hK K
      try simp only [Act.put, List.setIfInBounds_toArray, List.set_cons_zero, List.set_cons_succ]
      
      refine wpAnyH_ready (rs := [6]) (by kernel_rfl) (by simp) ?_
      refine AllReadyH.cons (o := { dst := some 30, op := Op.call { callee := Callee.value (Operand.func 73), args := #[Operand.tmp 29], argTypes := #[29] }, type := 29, pos := "l06_chain.go:81", after := #[{ on := 5, ground := Ground.data }], guard := none }) rfl (fun K hK => ?_) AllReadyH.nil
      go_simp
      refine HC.out.mono ?_
      rintro r wyc ⟨y, rfl, hx, hy, hyl, hyf⟩
      have HXc : Hid (XSt w c X f wyc (.slice (some ⟨M, 0, none⟩) rs.length cap) M cap rs) := hx
      have HY : Hid (OwnA (w.heap.size + 1) wyc y ∧ w2.heap.size ≤ y.1 ∧ Fine y.2.2) := ⟨hy, hyl, hyf⟩
      clear hx hy hyl hyf
      clear hHeld
      refine hK.out _ _ trivial (fun hHeld => ?_)
      clear hK K
      try simp only [Act.put, List.setIfInBounds_toArray, List.set_cons_zero, List.set_cons_succ]
      
      refine wpAnyH_ready (rs := [7]) (by kernel_rfl) (by simp) ?_
      refine AllReadyH.cons (o := { dst := some 31, op := Op.buildSlice 40 1 #[(0, Operand.tmp 30)], type := 40, pos := "l06_chain.go:81", after := #[{ on := 6, ground := Ground.data }], guard := none }) rfl (fun K hK => ?_) AllReadyH.nil
      go_simp
      clear hHeld
      refine hK.out _ _ trivial (fun hHeld => ?_)
      clear hK K
      try simp only [Act.put, List.setIfInBounds_toArray, List.set_cons_zero, List.set_cons_succ]
      
      refine wpAnyH_ready (rs := [8]) (by kernel_rfl) (by simp) ?_
      refine AllReadyH.cons (o := { dst := some 32, op := Op.call { callee := Callee.builtin Builtin.append, args := #[Operand.tmp 25, Operand.tmp 31], argTypes := #[40, 40] }, type := 40, pos := "l06_chain.go:81", after := #[{ on := 1, ground := Ground.data }, { on := 7, ground := Ground.data }, { on := 6, ground := Ground.chain }], guard := none }) rfl (fun K hK => ?_) AllReadyH.nil
      have hXd : XSt w c X f (wyc.alloc (.cells #[.slice (some ⟨y.1, 0, none⟩) y.2.2.l.length y.2.1, .int .i64 y.2.2.s, .int .i64 y.2.2.e, .string y.2.2.n] 29)) (.slice (some ⟨M, 0, none⟩) rs.length cap) M cap rs := HXc.out.grow (Go.Joins.below_alloc1 wyc _)
      obtain ⟨xs, hox, hxl, hxs⟩ := hXd.ab.own
      refine step_appB rfl _ _ 40 rfl 29 i0 (.agg #[.slice none 0 0, .int .i64 0, .int .i64 0, .string ByteArray.empty]) 4 56 Tryz.underlying40 hi hz0 hz1 hz2 rfl (by decide) (w.heap.size + 1) ?k21b (.slice (some ⟨M, 0, none⟩) rs.length cap) rs.length xs rfl hox ⟨wyc.heap.size, 0, none⟩ 1 1 (rowV y) rfl rfl (blk_news (Blk.new _ _ _)) (row_one _) ?k21c ?k21d ?_
      case k21b => have := hXd.ord; omega
      case k21c => unfold maxLen; omega
      case k21d => omega
      intro v' wya hown hg hat
      obtain ⟨M3, c3, e3, hXA⟩ := hXd.app (HY.out.1.grow (Go.Joins.below_alloc1 wyc _)) HY.out.2.2 (fun x hx => by have := (HX.out.ab.rows x hx).lt; have := HY.out.2.1; omega) hxl hxs hown hg
      subst e3
      have HXA : Hid (XSt w c X f wya (.slice (some ⟨M, 0, none⟩) rs.length cap) M3 c3 (rs ++ [y])) := hXA
      clear hown hg hat hXA hXd hox hxl hxs
      clear hHeld
      refine hK.out _ _ trivial (fun hHeld => ?_)
      clear hK K
      try simp only [Act.put, List.setIfInBounds_toArray, List.set_cons_zero, List.set_cons_succ]
      
      refine wpAnyH_take (i := 9) (oi := { dst := some 33, op := Op.fieldAddr 96 (Operand.tmp 3) 1, type := 0, pos := "l06_chain.go:81", after := #[{ on := 0, ground := Ground.phase }, { on := 1, ground := Ground.phase }, { on := 2, ground := Ground.phase }, { on := 3, ground := Ground.phase }, { on := 4, ground := Ground.phase }, { on := 5, ground := Ground.phase }, { on := 6, ground := Ground.phase }, { on := 7, ground := Ground.phase }, { on := 8, ground := Ground.phase }], guard := none }) (v := ?vd210) rfl (by kernel_rfl) (by kernel_rfl) (by kernel_rfl) (fun _ _ _ h => h) (Or.inl ⟨by rfl, ?hyd210⟩) hHeld ?_
      case hyd210 => (intro w hSw; (try dsimp only at hSw); go_simp <;> with_reducible rfl)
      try simp only [Act.put, List.setIfInBounds_toArray, List.set_cons_zero, List.set_cons_succ]
      refine wpAnyH_ready (rs := [10]) (by kernel_rfl) (by simp) ?_
      refine AllReadyH.cons (o := { dst := none, op := Op.store 40 (Operand.tmp 33) (Operand.tmp 32), type := 0, pos := "l06_chain.go:81", after := #[{ on := 9, ground := Ground.data }, { on := 8, ground := Ground.data }, { on := 8, ground := Ground.chain }, { on := 0, ground := Ground.phase }, { on := 1, ground := Ground.phase }, { on := 2, ground := Ground.phase }, { on := 3, ground := Ground.phase }, { on := 4, ground := Ground.phase }, { on := 5, ground := Ground.phase }, { on := 6, ground := Ground.phase }, { on := 7, ground := Ground.phase }, { on := 8, ground := Ground.phase }], guard := none }) rfl (fun K hK => ?_) AllReadyH.nil
      have cD : wya.cell? ⟨X, 1, none⟩ = some (.slice (some ⟨M, 0, none⟩) rs.length cap) := HXA.out.bX.cell 1
      have fD := HXA.out.bX.frozen 1
      go_simp
      clear cD fD
      clear hHeld
      refine hK.out _ _ trivial (fun hHeld => ?_)
      clear hK K
      try simp only [Act.put, List.setIfInBounds_toArray, List.set_cons_zero, List.set_cons_succ]
      
      refine wpAnyH_done (by kernel_rfl) ?_ _
      have HXZ : Hid (XSt w c X f (wya.setCell ⟨X, 1, none⟩ (.slice (some ⟨M3, 0, none⟩) (rs.length + 1) c3)) (.slice (some ⟨M3, 0, none⟩) (rs.length + 1) c3) M3 c3 (rs ++ [y])) := HXA.out.setL _
      clear hHeld HXA HXc HY
      generalize wya.setCell ⟨X, 1, none⟩ (.slice (some ⟨M3, 0, none⟩) (rs.length + 1) c3) = W3 at *
      have r0 : W3.cell? ⟨w.heap.size, 0, none⟩ = some (.int .i64 0) := HXZ.out.bR.cell 0
      have r1 : W3.cell? ⟨w.heap.size, 1, none⟩ = some (.slice none 0 0) := HXZ.out.bR.cell 1
      have f0 := HXZ.out.bR.frozen 0
      have f1 := HXZ.out.bR.frozen 1
      have x0 : W3.cell? ⟨X, 0, none⟩ = some (.int .i64 f) := HXZ.out.bX.cell 0
      have x1 : W3.cell? ⟨X, 1, none⟩ = some (.slice (some ⟨M3, 0, none⟩) (rs.length + 1) c3) := HXZ.out.bX.cell 1
      go_wp2
      have hs : Blk ((W3.setCell ⟨w.heap.size, 0, none⟩ (.int .i64 f)).setCell ⟨w.heap.size, 1, none⟩ (.slice (some ⟨M3, 0, none⟩) (rs.length + 1) c3)) w.heap.size #[.int .i64 f, .slice (some ⟨M3, 0, none⟩) (rs.length + 1) c3] 96 := (HXZ.out.bR.set 0 _).set 1 _
      have s0 := hs.cell 0
      have s1 := hs.cell 1
      refine bodyPost_ret (v := .agg #[.int .i64 f, .slice (some ⟨M3, 0, none⟩) (rs.length + 1) c3]) (by simp [results, Tryz.results117, go_sem, s0, s1]) rfl ?_
      exact ⟨f, M3, c3, rs ++ [y], retA (by simp), HXZ.out.fin _ _, by simp; omega, HFB.out⟩
    refine AllReadyH.cons (o := { dst := some 27, op := Op.load 40 (Operand.tmp 26), type := 40, pos := "l06_chain.go:81", after := #[{ on := 2, ground := Ground.data }], guard := none }) rfl (fun K hK => ?_) AllReadyH.nil
    have cD : w2.drew.cell? ⟨X, 1, none⟩ = some (.slice (some ⟨M, 0, none⟩) rs.length cap) := (HX.out.bX.drew).cell 1
    go_simp
    clear cD
    clear hHeld
    refine hK.out _ _ trivial (fun hHeld => ?_)
    clear hK K
    try simp only [Act.put, List.setIfInBounds_toArray, List.set_cons_zero, List.set_cons_succ]
    
    refine wpAnyH_take (i := 4) (oi := { dst := some 28, op := Op.indexAddr 40 (Operand.tmp 27) (Operand.const (Value.int IntKind.i64 0)), type := 0, pos := "l06_chain.go:81", after := #[{ on := 3, ground := Ground.data }], guard := none }) (v := ?vd213) rfl (by kernel_rfl) (by kernel_rfl) (by kernel_rfl) (fun _ _ _ h => h) (Or.inl ⟨by rfl, ?hyd213⟩) hHeld ?_
    case hyd213 => (intro w hSw; (try dsimp only at hSw); go_simp <;> with_reducible rfl)
    try simp only [Act.put, List.setIfInBounds_toArray, List.set_cons_zero, List.set_cons_succ]
    refine wpAnyH_ready (rs := [1, 5]) (by kernel_rfl) (by simp) ?_
    refine AllReadyH.cons (o := { dst := some 25, op := Op.load 40 (Operand.tmp 24), type := 40, pos := "l06_chain.go:81", after := #[{ on := 0, ground := Ground.data }], guard := none }) rfl (fun K hK => ?_) ?_
    ·
      have cD : w2.drew.cell? ⟨X, 1, none⟩ = some (.slice (some ⟨M, 0, none⟩) rs.length cap) := (HX.out.bX.drew).cell 1
      go_simp
      clear cD
      clear hHeld
      refine hK.out _ _ trivial (fun hHeld => ?_)
      clear hK K
      try simp only [Act.put, List.setIfInBounds_toArray, List.set_cons_zero, List.set_cons_succ]
      
      refine wpAnyH_ready (rs := [5]) (by kernel_rfl) (by simp) ?_
      refine AllReadyH.cons (o := { dst := some 29, op := Op.load 29 (Operand.tmp 28), type := 29, pos := "l06_chain.go:81", after := #[{ on := 4, ground := Ground.data }], guard := none }) rfl (fun K hK => ?_) AllReadyH.nil
      have y0 := HAl.out.1
      have y1 := HAl.out.2.1
      have y2 := HAl.out.2.2.1
      have y3 := HAl.out.2.2.2
      go_simp
      clear y0 y1 y2 y3
      clear hHeld
      refine hK.out _ _ trivial (fun hHeld => ?_)
      clear hK K
      try simp only [Act.put, List.setIfInBounds_toArray, List.set_cons_zero, List.set_cons_succ]
      
      refine wpAnyH_ready (rs := [6]) (by kernel_rfl) (by simp) ?_
      refine AllReadyH.cons (o := { dst := some 30, op := Op.call { callee := Callee.value (Operand.func 73), args := #[Operand.tmp 29], argTypes := #[29] }, type := 29, pos := "l06_chain.go:81", after := #[{ on := 5, ground := Ground.data }], guard := none }) rfl (fun K hK => ?_) AllReadyH.nil
      go_simp
      refine HC.out.mono ?_
      rintro r wyc ⟨y, rfl, hx, hy, hyl, hyf⟩
      have HXc : Hid (XSt w c X f wyc (.slice (some ⟨M, 0, none⟩) rs.length cap) M cap rs) := hx
      have HY : Hid (OwnA (w.heap.size + 1) wyc y ∧ w2.heap.size ≤ y.1 ∧ Fine y.2.2) := ⟨hy, hyl, hyf⟩
      clear hx hy hyl hyf
      clear hHeld
      refine hK.out _ _ trivial (fun hHeld => ?_)
      clear hK K
      try simp only [Act.put, List.setIfInBounds_toArray, List.set_cons_zero, List.set_cons_succ]
      
      refine wpAnyH_ready (rs := [7]) (by kernel_rfl) (by simp) ?_
      refine AllReadyH.cons (o := { dst := some 31, op := Op.buildSlice 40 1 #[(0, Operand.tmp 30)], type := 40, pos := "l06_chain.go:81", after := #[{ on := 6, ground := Ground.data }], guard := none }) rfl (fun K hK => ?_) AllReadyH.nil
      go_simp
      clear hHeld
      refine hK.out _ _ trivial (fun hHeld => ?_)
      clear hK K
      try simp only [Act.put, List.setIfInBounds_toArray, List.set_cons_zero, List.set_cons_succ]
      
      refine wpAnyH_ready (rs := [8]) (by kernel_rfl) (by simp) ?_
      refine AllReadyH.cons (o := { dst := some 32, op := Op.call { callee := Callee.builtin Builtin.append, args := #[Operand.tmp 25, Operand.tmp 31], argTypes := #[40, 40] }, type := 40, pos := "l06_chain.go:81", after := #[{ on := 1, ground := Ground.data }, { on := 7, ground := Ground.data }, { on := 6, ground := Ground.chain }], guard := none }) rfl (fun K hK => ?_) AllReadyH.nil
      have hXd : XSt w c X f (wyc.alloc (.cells #[.slice (some ⟨y.1, 0, none⟩) y.2.2.l.length y.2.1, .int .i64 y.2.2.s, .int .i64 y.2.2.e, .string y.2.2.n] 29)) (.slice (some ⟨M, 0, none⟩) rs.length cap) M cap rs := HXc.out.grow (Go.Joins.below_alloc1 wyc _)
      obtain ⟨xs, hox, hxl, hxs⟩ := hXd.ab.own
      refine step_appB rfl _ _ 40 rfl 29 i0 (.agg #[.slice none 0 0, .int .i64 0, .int .i64 0, .string ByteArray.empty]) 4 56 Tryz.underlying40 hi hz0 hz1 hz2 rfl (by decide) (w.heap.size + 1) ?k22b (.slice (some ⟨M, 0, none⟩) rs.length cap) rs.length xs rfl hox ⟨wyc.heap.size, 0, none⟩ 1 1 (rowV y) rfl rfl (blk_news (Blk.new _ _ _)) (row_one _) ?k22c ?k22d ?_
      case k22b => have := hXd.ord; omega
      case k22c => unfold maxLen; omega
      case k22d => omega
      intro v' wya hown hg hat
      obtain ⟨M3, c3, e3, hXA⟩ := hXd.app (HY.out.1.grow (Go.Joins.below_alloc1 wyc _)) HY.out.2.2 (fun x hx => by have := (HX.out.ab.rows x hx).lt; have := HY.out.2.1; omega) hxl hxs hown hg
      subst e3
      have HXA : Hid (XSt w c X f wya (.slice (some ⟨M, 0, none⟩) rs.length cap) M3 c3 (rs ++ [y])) := hXA
      clear hown hg hat hXA hXd hox hxl hxs
      clear hHeld
      refine hK.out _ _ trivial (fun hHeld => ?_)
      clear hK K
      try simp only [Act.put, List.setIfInBounds_toArray, List.set_cons_zero, List.set_cons_succ]
      
      refine wpAnyH_take (i := 9) (oi := { dst := some 33, op := Op.fieldAddr 96 (Operand.tmp 3) 1, type := 0, pos := "l06_chain.go:81", after := #[{ on := 0, ground := Ground.phase }, { on := 1, ground := Ground.phase }, { on := 2, ground := Ground.phase }, { on := 3, ground := Ground.phase }, { on := 4, ground := Ground.phase }, { on := 5, ground := Ground.phase }, { on := 6, ground := Ground.phase }, { on := 7, ground := Ground.phase }, { on := 8, ground := Ground.phase }], guard := none }) (v := ?vd219) rfl (by kernel_rfl) (by kernel_rfl) (by kernel_rfl) (fun _ _ _ h => h) (Or.inl ⟨by rfl, ?hyd219⟩) hHeld ?_
      case hyd219 => (intro w hSw; (try dsimp only at hSw); go_simp <;> with_reducible rfl)
      try simp only [Act.put, List.setIfInBounds_toArray, List.set_cons_zero, List.set_cons_succ]
      refine wpAnyH_ready (rs := [10]) (by kernel_rfl) (by simp) ?_
      refine AllReadyH.cons (o := { dst := none, op := Op.store 40 (Operand.tmp 33) (Operand.tmp 32), type := 0, pos := "l06_chain.go:81", after := #[{ on := 9, ground := Ground.data }, { on := 8, ground := Ground.data }, { on := 8, ground := Ground.chain }, { on := 0, ground := Ground.phase }, { on := 1, ground := Ground.phase }, { on := 2, ground := Ground.phase }, { on := 3, ground := Ground.phase }, { on := 4, ground := Ground.phase }, { on := 5, ground := Ground.phase }, { on := 6, ground := Ground.phase }, { on := 7, ground := Ground.phase }, { on := 8, ground := Ground.phase }], guard := none }) rfl (fun K hK => ?_) AllReadyH.nil
      have cD : wya.cell? ⟨X, 1, none⟩ = some (.slice (some ⟨M, 0, none⟩) rs.length cap) := HXA.out.bX.cell 1
      have fD := HXA.out.bX.frozen 1
      go_simp
      clear cD fD
      clear hHeld
      refine hK.out _ _ trivial (fun hHeld => ?_)
      clear hK K
      try simp only [Act.put, List.setIfInBounds_toArray, List.set_cons_zero, List.set_cons_succ]
      
      refine wpAnyH_done (by kernel_rfl) ?_ _
      have HXZ : Hid (XSt w c X f (wya.setCell ⟨X, 1, none⟩ (.slice (some ⟨M3, 0, none⟩) (rs.length + 1) c3)) (.slice (some ⟨M3, 0, none⟩) (rs.length + 1) c3) M3 c3 (rs ++ [y])) := HXA.out.setL _
      clear hHeld HXA HXc HY
      generalize wya.setCell ⟨X, 1, none⟩ (.slice (some ⟨M3, 0, none⟩) (rs.length + 1) c3) = W3 at *
      have r0 : W3.cell? ⟨w.heap.size, 0, none⟩ = some (.int .i64 0) := HXZ.out.bR.cell 0
      have r1 : W3.cell? ⟨w.heap.size, 1, none⟩ = some (.slice none 0 0) := HXZ.out.bR.cell 1
      have f0 := HXZ.out.bR.frozen 0
      have f1 := HXZ.out.bR.frozen 1
      have x0 : W3.cell? ⟨X, 0, none⟩ = some (.int .i64 f) := HXZ.out.bX.cell 0
      have x1 : W3.cell? ⟨X, 1, none⟩ = some (.slice (some ⟨M3, 0, none⟩) (rs.length + 1) c3) := HXZ.out.bX.cell 1
      go_wp2
      have hs : Blk ((W3.setCell ⟨w.heap.size, 0, none⟩ (.int .i64 f)).setCell ⟨w.heap.size, 1, none⟩ (.slice (some ⟨M3, 0, none⟩) (rs.length + 1) c3)) w.heap.size #[.int .i64 f, .slice (some ⟨M3, 0, none⟩) (rs.length + 1) c3] 96 := (HXZ.out.bR.set 0 _).set 1 _
      have s0 := hs.cell 0
      have s1 := hs.cell 1
      refine bodyPost_ret (v := .agg #[.int .i64 f, .slice (some ⟨M3, 0, none⟩) (rs.length + 1) c3]) (by simp [results, Tryz.results117, go_sem, s0, s1]) rfl ?_
      exact ⟨f, M3, c3, rs ++ [y], retA (by simp), HXZ.out.fin _ _, by simp; omega, HFB.out⟩
    refine AllReadyH.cons (o := { dst := some 29, op := Op.load 29 (Operand.tmp 28), type := 29, pos := "l06_chain.go:81", after := #[{ on := 4, ground := Ground.data }], guard := none }) rfl (fun K hK => ?_) AllReadyH.nil
    have y0 := HAl.out.1
    have y1 := HAl.out.2.1
    have y2 := HAl.out.2.2.1
    have y3 := HAl.out.2.2.2
    go_simp
    clear y0 y1 y2 y3
    clear hHeld
    refine hK.out _ _ trivial (fun hHeld => ?_)
    clear hK K
    try simp only [Act.put, List.setIfInBounds_toArray, List.set_cons_zero, List.set_cons_succ]
    
    refine wpAnyH_ready (rs := [1, 6]) (by kernel_rfl) (by simp) ?_
    refine AllReadyH.cons (o := { dst := some 25, op := Op.load 40 (Operand.tmp 24), type := 40, pos := "l06_chain.go:81", after := #[{ on := 0, ground := Ground.data }], guard := none }) rfl (fun K hK => ?_) ?_
    ·
      have cD : w2.drew.cell? ⟨X, 1, none⟩ = some (.slice (some ⟨M, 0, none⟩) rs.length cap) := (HX.out.bX.drew).cell 1
      go_simp
      clear cD
      clear hHeld
      refine hK.out _ _ trivial (fun hHeld => ?_)
      clear hK K
      try simp only [Act.put, List.setIfInBounds_toArray, List.set_cons_zero, List.set_cons_succ]
      
      refine wpAnyH_ready (rs := [6]) (by kernel_rfl) (by simp) ?_
      refine AllReadyH.cons (o := { dst := some 30, op := Op.call { callee := Callee.value (Operand.func 73), args := #[Operand.tmp 29], argTypes := #[29] }, type := 29, pos := "l06_chain.go:81", after := #[{ on := 5, ground := Ground.data }], guard := none }) rfl (fun K hK => ?_) AllReadyH.nil
      go_simp
      refine HC.out.mono ?_
      rintro r wyc ⟨y, rfl, hx, hy, hyl, hyf⟩
      have HXc : Hid (XSt w c X f wyc (.slice (some ⟨M, 0, none⟩) rs.length cap) M cap rs) := hx
      have HY : Hid (OwnA (w.heap.size + 1) wyc y ∧ w2.heap.size ≤ y.1 ∧ Fine y.2.2) := ⟨hy, hyl, hyf⟩
      clear hx hy hyl hyf
      clear hHeld
      refine hK.out _ _ trivial (fun hHeld => ?_)
      clear hK K
      try simp only [Act.put, List.setIfInBounds_toArray, List.set_cons_zero, List.set_cons_succ]
      
      refine wpAnyH_ready (rs := [7]) (by kernel_rfl) (by simp) ?_
      refine AllReadyH.cons (o := { dst := some 31, op := Op.buildSlice 40 1 #[(0, Operand.tmp 30)], type := 40, pos := "l06_chain.go:81", after := #[{ on := 6, ground := Ground.data }], guard := none }) rfl (fun K hK => ?_) AllReadyH.nil
      go_simp
      clear hHeld
      refine hK.out _ _ trivial (fun hHeld => ?_)
      clear hK K
      try simp only [Act.put, List.setIfInBounds_toArray, List.set_cons_zero, List.set_cons_succ]
      
      refine wpAnyH_ready (rs := [8]) (by kernel_rfl) (by simp) ?_
      refine AllReadyH.cons (o := { dst := some 32, op := Op.call { callee := Callee.builtin Builtin.append, args := #[Operand.tmp 25, Operand.tmp 31], argTypes := #[40, 40] }, type := 40, pos := "l06_chain.go:81", after := #[{ on := 1, ground := Ground.data }, { on := 7, ground := Ground.data }, { on := 6, ground := Ground.chain }], guard := none }) rfl (fun K hK => ?_) AllReadyH.nil
      have hXd : XSt w c X f (wyc.alloc (.cells #[.slice (some ⟨y.1, 0, none⟩) y.2.2.l.length y.2.1, .int .i64 y.2.2.s, .int .i64 y.2.2.e, .string y.2.2.n] 29)) (.slice (some ⟨M, 0, none⟩) rs.length cap) M cap rs := HXc.out.grow (Go.Joins.below_alloc1 wyc _)
      obtain ⟨xs, hox, hxl, hxs⟩ := hXd.ab.own
      refine step_appB rfl _ _ 40 rfl 29 i0 (.agg #[.slice none 0 0, .int .i64 0, .int .i64 0, .string ByteArray.empty]) 4 56 Tryz.underlying40 hi hz0 hz1 hz2 rfl (by decide) (w.heap.size + 1) ?k23b (.slice (some ⟨M, 0, none⟩) rs.length cap) rs.length xs rfl hox ⟨wyc.heap.size, 0, none⟩ 1 1 (rowV y) rfl rfl (blk_news (Blk.new _ _ _)) (row_one _) ?k23c ?k23d ?_
      case k23b => have := hXd.ord; omega
      case k23c => unfold maxLen; omega
      case k23d => omega
      intro v' wya hown hg hat
      obtain ⟨M3, c3, e3, hXA⟩ := hXd.app (HY.out.1.grow (Go.Joins.below_alloc1 wyc _)) HY.out.2.2 (fun x hx => by have := (HX.out.ab.rows x hx).lt; have := HY.out.2.1; omega) hxl hxs hown hg
      subst e3
      have HXA : Hid (XSt w c X f wya (.slice (some ⟨M, 0, none⟩) rs.length cap) M3 c3 (rs ++ [y])) := hXA
      clear hown hg hat hXA hXd hox hxl hxs
      clear hHeld
      refine hK.out _ _ trivial (fun hHeld => ?_)
      clear hK K
      try simp only [Act.put, List.setIfInBounds_toArray, List.set_cons_zero, List.set_cons_succ]
      
      refine wpAnyH_take (i := 9) (oi := { dst := some 33, op := Op.fieldAddr 96 (Operand.tmp 3) 1, type := 0, pos := "l06_chain.go:81", after := #[{ on := 0, ground := Ground.phase }, { on := 1, ground := Ground.phase }, { on := 2, ground := Ground.phase }, { on := 3, ground := Ground.phase }, { on := 4, ground := Ground.phase }, { on := 5, ground := Ground.phase }, { on := 6, ground := Ground.phase }, { on := 7, ground := Ground.phase }, { on := 8, ground := Ground.phase }], guard := none }) (v := ?vd226) rfl (by kernel_rfl) (by kernel_rfl) (by kernel_rfl) (fun _ _ _ h => h) (Or.inl ⟨by rfl, ?hyd226⟩) hHeld ?_
      case hyd226 => (intro w hSw; (try dsimp only at hSw); go_simp <;> with_reducible rfl)
      try simp only [Act.put, List.setIfInBounds_toArray, List.set_cons_zero, List.set_cons_succ]
      refine wpAnyH_ready (rs := [10]) (by kernel_rfl) (by simp) ?_
      refine AllReadyH.cons (o := { dst := none, op := Op.store 40 (Operand.tmp 33) (Operand.tmp 32), type := 0, pos := "l06_chain.go:81", after := #[{ on := 9, ground := Ground.data }, { on := 8, ground := Ground.data }, { on := 8, ground := Ground.chain }, { on := 0, ground := Ground.phase }, { on := 1, ground := Ground.phase }, { on := 2, ground := Ground.phase }, { on := 3, ground := Ground.phase }, { on := 4, ground := Ground.phase }, { on := 5, ground := Ground.phase }, { on := 6, ground := Ground.phase }, { on := 7, ground := Ground.phase }, { on := 8, ground := Ground.phase }], guard := none }) rfl (fun K hK => ?_) AllReadyH.nil
      have cD : wya.cell? ⟨X, 1, none⟩ = some (.slice (some ⟨M, 0, none⟩) rs.length cap) := HXA.out.bX.cell 1
      have fD := HXA.out.bX.frozen 1
      go_simp
      clear cD fD
      clear hHeld
      refine hK.out _ _ trivial (fun hHeld => ?_)
      clear hK K
      try simp only [Act.put, List.setIfInBounds_toArray, List.set_cons_zero, List.set_cons_succ]
      
      refine wpAnyH_done (by kernel_rfl) ?_ _
      have HXZ : Hid (XSt w c X f (wya.setCell ⟨X, 1, none⟩ (.slice (some ⟨M3, 0, none⟩) (rs.length + 1) c3)) (.slice (some ⟨M3, 0, none⟩) (rs.length + 1) c3) M3 c3 (rs ++ [y])) := HXA.out.setL _
      clear hHeld HXA HXc HY
      generalize wya.setCell ⟨X, 1, none⟩ (.slice (some ⟨M3, 0, none⟩) (rs.length + 1) c3) = W3 at *
      have r0 : W3.cell? ⟨w.heap.size, 0, none⟩ = some (.int .i64 0) := HXZ.out.bR.cell 0
      have r1 : W3.cell? ⟨w.heap.size, 1, none⟩ = some (.slice none 0 0) := HXZ.out.bR.cell 1
      have f0 := HXZ.out.bR.frozen 0
      have f1 := HXZ.out.bR.frozen 1
      have x0 : W3.cell? ⟨X, 0, none⟩ = some (.int .i64 f) := HXZ.out.bX.cell 0
      have x1 : W3.cell? ⟨X, 1, none⟩ = some (.slice (some ⟨M3, 0, none⟩) (rs.length + 1) c3) := HXZ.out.bX.cell 1
      go_wp2
      have hs : Blk ((W3.setCell ⟨w.heap.size, 0, none⟩ (.int .i64 f)).setCell ⟨w.heap.size, 1, none⟩ (.slice (some ⟨M3, 0, none⟩) (rs.length + 1) c3)) w.heap.size #[.int .i64 f, .slice (some ⟨M3, 0, none⟩) (rs.length + 1) c3] 96 := (HXZ.out.bR.set 0 _).set 1 _
      have s0 := hs.cell 0
      have s1 := hs.cell 1
      refine bodyPost_ret (v := .agg #[.int .i64 f, .slice (some ⟨M3, 0, none⟩) (rs.length + 1) c3]) (by simp [results, Tryz.results117, go_sem, s0, s1]) rfl ?_
      exact ⟨f, M3, c3, rs ++ [y], retA (by simp), HXZ.out.fin _ _, by simp; omega, HFB.out⟩
    refine AllReadyH.cons (o := { dst := some 30, op := Op.call { callee := Callee.value (Operand.func 73), args := #[Operand.tmp 29], argTypes := #[29] }, type := 29, pos := "l06_chain.go:81", after := #[{ on := 5, ground := Ground.data }], guard := none }) rfl (fun K hK => ?_) AllReadyH.nil
    go_simp
    refine HC.out.mono ?_
    rintro r wyc ⟨y, rfl, hx, hy, hyl, hyf⟩
    have HXc : Hid (XSt w c X f wyc (.slice (some ⟨M, 0, none⟩) rs.length cap) M cap rs) := hx
    have HY : Hid (OwnA (w.heap.size + 1) wyc y ∧ w2.heap.size ≤ y.1 ∧ Fine y.2.2) := ⟨hy, hyl, hyf⟩
    clear hx hy hyl hyf
    clear hHeld
    refine hK.out _ _ trivial (fun hHeld => ?_)
    clear hK K
    try simp only [Act.put, List.setIfInBounds_toArray, List.set_cons_zero, List.set_cons_succ]
    
    refine wpAnyH_ready (rs := [1, 7]) (by kernel_rfl) (by simp) ?_
    refine AllReadyH.cons (o := { dst := some 25, op := Op.load 40 (Operand.tmp 24), type := 40, pos := "l06_chain.go:81", after := #[{ on := 0, ground := Ground.data }], guard := none }) rfl (fun K hK => ?_) ?_
    ·
      have cD : wyc.cell? ⟨X, 1, none⟩ = some (.slice (some ⟨M, 0, none⟩) rs.length cap) := (HXc.out.bX).cell 1
      go_simp
      clear cD
      clear hHeld
      refine hK.out _ _ trivial (fun hHeld => ?_)
      clear hK K
      try simp only [Act.put, List.setIfInBounds_toArray, List.set_cons_zero, List.set_cons_succ]
      
      refine wpAnyH_ready (rs := [7]) (by kernel_rfl) (by simp) ?_
      refine AllReadyH.cons (o := { dst := some 31, op := Op.buildSlice 40 1 #[(0, Operand.tmp 30)], type := 40, pos := "l06_chain.go:81", after := #[{ on := 6, ground := Ground.data }], guard := none }) rfl (fun K hK => ?_) AllReadyH.nil
      go_simp
      clear hHeld
      refine hK.out _ _ trivial (fun hHeld => ?_)
      clear hK K
      try simp only [Act.put, List.setIfInBounds_toArray, List.set_cons_zero, List.set_cons_succ]
      
      refine wpAnyH_ready (rs := [8]) (by kernel_rfl) (by simp) ?_
      refine AllReadyH.cons (o := { dst := some 32, op := Op.call { callee := Callee.builtin Builtin.append, args := #[Operand.tmp 25, Operand.tmp 31], argTypes := #[40, 40] }, type := 40, pos := "l06_chain.go:81", after := #[{ on := 1, ground := Ground.data }, { on := 7, ground := Ground.data }, { on := 6, ground := Ground.chain }], guard := none }) rfl (fun K hK => ?_) AllReadyH.nil
      have hXd : XSt w c X f (wyc.alloc (.cells #[.slice (some ⟨y.1, 0, none⟩) y.2.2.l.length y.2.1, .int .i64 y.2.2.s, .int .i64 y.2.2.e, .string y.2.2.n] 29)) (.slice (some ⟨M, 0, none⟩) rs.length cap) M cap rs := HXc.out.grow (Go.Joins.below_alloc1 wyc _)
      obtain ⟨xs, hox, hxl, hxs⟩ := hXd.ab.own
      refine step_appB rfl _ _ 40 rfl 29 i0 (.agg #[.slice none 0 0, .int .i64 0, .int .i64 0, .string ByteArray.empty]) 4 56 Tryz.underlying40 hi hz0 hz1 hz2 rfl (by decide) (w.heap.size + 1) ?k24b (.slice (some ⟨M, 0, none⟩) rs.length cap) rs.length xs rfl hox ⟨wyc.heap.size, 0, none⟩ 1 1 (rowV y) rfl rfl (blk_news (Blk.new _ _ _)) (row_one _) ?k24c ?k24d ?_
      case k24b => have := hXd.ord; omega
      case k24c => unfold maxLen; omega
      case k24d => omega
      intro v' wya hown hg hat
      obtain ⟨M3, c3, e3, hXA⟩ := hXd.app (HY.out.1.grow (Go.Joins.below_alloc1 wyc _)) HY.out.2.2 (fun x hx => by have := (HX.out.ab.rows x hx).lt; have := HY.out.2.1; omega) hxl hxs hown hg
      subst e3
      have HXA : Hid (XSt w c X f wya (.slice (some ⟨M, 0, none⟩) rs.length cap) M3 c3 (rs ++ [y])) := hXA
      clear hown hg hat hXA hXd hox hxl hxs
      clear hHeld
      refine hK.out _ _ trivial (fun hHeld => ?_)
      clear hK K
      try simp only [Act.put, List.setIfInBounds_toArray, List.set_cons_zero, List.set_cons_succ]
      
      refine wpAnyH_take (i := 9) (oi := { dst := some 33, op := Op.fieldAddr 96 (Operand.tmp 3) 1, type := 0, pos := "l06_chain.go:81", after := #[{ on := 0, ground := Ground.phase }, { on := 1, ground := Ground.phase }, { on := 2, ground := Ground.phase }, { on := 3, ground := Ground.phase }, { on := 4, ground := Ground.phase }, { on := 5, ground := Ground.phase }, { on := 6, ground := Ground.phase }, { on := 7, ground := Ground.phase }, { on := 8, ground := Ground.phase }], guard := none }) (v := ?vd232) rfl (by kernel_rfl) (by kernel_rfl) (by kernel_rfl) (fun _ _ _ h => h) (Or.inl ⟨by rfl, ?hyd232⟩) hHeld ?_
      case hyd232 => (intro w hSw; (try dsimp only at hSw); go_simp <;> with_reducible rfl)
      try simp only [Act.put, List.setIfInBounds_toArray, List.set_cons_zero, List.set_cons_succ]
      refine wpAnyH_ready (rs := [10]) (by kernel_rfl) (by simp) ?_
      refine AllReadyH.cons (o := { dst := none, op := Op.store 40 (Operand.tmp 33) (Operand.tmp 32), type := 0, pos := "l06_chain.go:81", after := #[{ on := 9, ground := Ground.data }, { on := 8, ground := Ground.data }, { on := 8, ground := Ground.chain }, { on := 0, ground := Ground.phase }, { on := 1, ground := Ground.phase }, { on := 2, ground := Ground.phase }, { on := 3, ground := Ground.phase }, { on := 4, ground := Ground.phase }, { on := 5, ground := Ground.phase }, { on := 6, ground := Ground.phase }, { on := 7, ground := Ground.phase }, { on := 8, ground := Ground.phase }], guard := none }) rfl (fun K hK => ?_) AllReadyH.nil
      have cD : wya.cell? ⟨X, 1, none⟩ = some (.slice (some ⟨M, 0, none⟩) rs.length cap) := HXA.out.bX.cell 1
      have fD := HXA.out.bX.frozen 1
      go_simp
      clear cD fD
      clear hHeld
      refine hK.out _ _ trivial (fun hHeld => ?_)
      clear hK K
      try simp only [Act.put, List.setIfInBounds_toArray, List.set_cons_zero, List.set_cons_succ]
      
      refine wpAnyH_done (by kernel_rfl) ?_ _
      have HXZ : Hid (XSt w c X f (wya.setCell ⟨X, 1, none⟩ (.slice (some ⟨M3, 0, none⟩) (rs.length + 1) c3)) (.slice (some ⟨M3, 0, none⟩) (rs.length + 1) c3) M3 c3 (rs ++ [y])) := HXA.out.setL _
      clear hHeld HXA HXc HY
      generalize wya.setCell ⟨X, 1, none⟩ (.slice (some ⟨M3, 0, none⟩) (rs.length + 1) c3) = W3 at *
      have r0 : W3.cell? ⟨w.heap.size, 0, none⟩ = some (.int .i64 0) := HXZ.out.bR.cell 0
      have r1 : W3.cell? ⟨w.heap.size, 1, none⟩ = some (.slice none 0 0) := HXZ.out.bR.cell 1
      have f0 := HXZ.out.bR.frozen 0
      have f1 := HXZ.out.bR.frozen 1
      have x0 : W3.cell? ⟨X, 0, none⟩ = some (.int .i64 f) := HXZ.out.bX.cell 0
      have x1 : W3.cell? ⟨X, 1, none⟩ = some (.slice (some ⟨M3, 0, none⟩) (rs.length + 1) c3) := HXZ.out.bX.cell 1
      go_wp2
      have hs : Blk ((W3.setCell ⟨w.heap.size, 0, none⟩ (.int .i64 f)).setCell ⟨w.heap.size, 1, none⟩ (.slice (some ⟨M3, 0, none⟩) (rs.length + 1) c3)) w.heap.size #[.int .i64 f, .slice (some ⟨M3, 0, none⟩) (rs.length + 1) c3] 96 := (HXZ.out.bR.set 0 _).set 1 _
      have s0 := hs.cell 0
      have s1 := hs.cell 1
      refine bodyPost_ret (v := .agg #[.int .i64 f, .slice (some ⟨M3, 0, none⟩) (rs.length + 1) c3]) (by simp [results, Tryz.results117, go_sem, s0, s1]) rfl ?_
      exact ⟨f, M3, c3, rs ++ [y], retA (by simp), HXZ.out.fin _ _, by simp; omega, HFB.out⟩
    refine AllReadyH.cons (o := { dst := some 31, op := Op.buildSlice 40 1 #[(0, Operand.tmp 30)], type := 40, pos := "l06_chain.go:81", after := #[{ on := 6, ground := Ground.data }], guard := none }) rfl (fun K hK => ?_) AllReadyH.nil
    go_simp
    clear hHeld
    refine hK.out _ _ trivial (fun hHeld => ?_)
    clear hK K
    try simp only [Act.put, List.setIfInBounds_toArray, List.set_cons_zero, List.set_cons_succ]
    
    refine wpAnyH_ready (rs := [1]) (by kernel_rfl) (by simp) ?_
    refine AllReadyH.cons (o := { dst := some 25, op := Op.load 40 (Operand.tmp 24), type := 40, pos := "l06_chain.go:81", after := #[{ on := 0, ground := Ground.data }], guard := none }) rfl (fun K hK => ?_) AllReadyH.nil
    have cD : (wyc.alloc (.cells #[.slice (some ⟨y.1, 0, none⟩) y.2.2.l.length y.2.1, .int .i64 y.2.2.s, .int .i64 y.2.2.e, .string y.2.2.n] 29)).cell? ⟨X, 1, none⟩ = some (.slice (some ⟨M, 0, none⟩) rs.length cap) := ((HXc.out.bX.alloc _)).cell 1
    go_simp
    clear cD
    clear hHeld
    refine hK.out _ _ trivial (fun hHeld => ?_)
    clear hK K
    try simp only [Act.put, List.setIfInBounds_toArray, List.set_cons_zero, List.set_cons_succ]
    
    refine wpAnyH_ready (rs := [8]) (by kernel_rfl) (by simp) ?_
    refine AllReadyH.cons (o := { dst := some 32, op := Op.call { callee := Callee.builtin Builtin.append, args := #[Operand.tmp 25, Operand.tmp 31], argTypes := #[40, 40] }, type := 40, pos := "l06_chain.go:81", after := #[{ on := 1, ground := Ground.data }, { on := 7, ground := Ground.data }, { on := 6, ground := Ground.chain }], guard := none }) rfl (fun K hK => ?_) AllReadyH.nil
    have hXd : XSt w c X f (wyc.alloc (.cells #[.slice (some ⟨y.1, 0, none⟩) y.2.2.l.length y.2.1, .int .i64 y.2.2.s, .int .i64 y.2.2.e, .string y.2.2.n] 29)) (.slice (some ⟨M, 0, none⟩) rs.length cap) M cap rs := HXc.out.grow (Go.Joins.below_alloc1 wyc _)
    obtain ⟨xs, hox, hxl, hxs⟩ := hXd.ab.own
    refine step_appB rfl _ _ 40 rfl 29 i0 (.agg #[.slice none 0 0, .int .i64 0, .int .i64 0, .string ByteArray.empty]) 4 56 Tryz.underlying40 hi hz0 hz1 hz2 rfl (by decide) (w.heap.size + 1) ?k25b (.slice (some ⟨M, 0, none⟩) rs.length cap) rs.length xs rfl hox ⟨wyc.heap.size, 0, none⟩ 1 1 (rowV y) rfl rfl (blk_news (Blk.new _ _ _)) (row_one _) ?k25c ?k25d ?_
    case k25b => have := hXd.ord; omega
    case k25c => unfold maxLen; omega
    case k25d => omega
    intro v' wya hown hg hat
    obtain ⟨M3, c3, e3, hXA⟩ := hXd.app (HY.out.1.grow (Go.Joins.below_alloc1 wyc _)) HY.out.2.2 (fun x hx => by have := (HX.out.ab.rows x hx).lt; have := HY.out.2.1; omega) hxl hxs hown hg
    subst e3
    have HXA : Hid (XSt w c X f wya (.slice (some ⟨M, 0, none⟩) rs.length cap) M3 c3 (rs ++ [y])) := hXA
    clear hown hg hat hXA hXd hox hxl hxs
    clear hHeld
    refine hK.out _ _ trivial (fun hHeld => ?_)
    clear hK K
    try simp only [Act.put, List.setIfInBounds_toArray, List.set_cons_zero, List.set_cons_succ]
    
    refine wpAnyH_take (i := 9) (oi := { dst := some 33, op := Op.fieldAddr 96 (Operand.tmp 3) 1, type := 0, pos := "l06_chain.go:81", after := #[{ on := 0, ground := Ground.phase }, { on := 1, ground := Ground.phase }, { on := 2, ground := Ground.phase }, { on := 3, ground := Ground.phase }, { on := 4, ground := Ground.phase }, { on := 5, ground := Ground.phase }, { on := 6, ground := Ground.phase }, { on := 7, ground := Ground.phase }, { on := 8, ground := Ground.phase }], guard := none }) (v := ?vd237) rfl (by kernel_rfl) (by kernel_rfl) (by kernel_rfl) (fun _ _ _ h => h) (Or.inl ⟨by rfl, ?hyd237⟩) hHeld ?_
    case hyd237 => (intro w hSw; (try dsimp only at hSw); go_simp <;> with_reducible rfl)
    try simp only [Act.put, List.setIfInBounds_toArray, List.set_cons_zero, List.set_cons_succ]
    refine wpAnyH_ready (rs := [10]) (by kernel_rfl) (by simp) ?_
    refine AllReadyH.cons (o := { dst := none, op := Op.store 40 (Operand.tmp 33) (Operand.tmp 32), type := 0, pos := "l06_chain.go:81", after := #[{ on := 9, ground := Ground.data }, { on := 8, ground := Ground.data }, { on := 8, ground := Ground.chain }, { on := 0, ground := Ground.phase }, { on := 1, ground := Ground.phase }, { on := 2, ground := Ground.phase }, { on := 3, ground := Ground.phase }, { on := 4, ground := Ground.phase }, { on := 5, ground := Ground.phase }, { on := 6, ground := Ground.phase }, { on := 7, ground := Ground.phase }, { on := 8, ground := Ground.phase }], guard := none }) rfl (fun K hK => ?_) AllReadyH.nil
    have cD : wya.cell? ⟨X, 1, none⟩ = some (.slice (some ⟨M, 0, none⟩) rs.length cap) := HXA.out.bX.cell 1
    have fD := HXA.out.bX.frozen 1
    go_simp
    clear cD fD
    clear hHeld
    refine hK.out _ _ trivial (fun hHeld => ?_)
    clear hK K
    try simp only [Act.put, List.setIfInBounds_toArray, List.set_cons_zero, List.set_cons_succ]
    
    refine wpAnyH_done (by kernel_rfl) ?_ _
    have HXZ : Hid (XSt w c X f (wya.setCell ⟨X, 1, none⟩ (.slice (some ⟨M3, 0, none⟩) (rs.length + 1) c3)) (.slice (some ⟨M3, 0, none⟩) (rs.length + 1) c3) M3 c3 (rs ++ [y])) := HXA.out.setL _
    clear hHeld HXA HXc HY
    generalize wya.setCell ⟨X, 1, none⟩ (.slice (some ⟨M3, 0, none⟩) (rs.length + 1) c3) = W3 at *
    have r0 : W3.cell? ⟨w.heap.size, 0, none⟩ = some (.int .i64 0) := HXZ.out.bR.cell 0
    have r1 : W3.cell? ⟨w.heap.size, 1, none⟩ = some (.slice none 0 0) := HXZ.out.bR.cell 1
    have f0 := HXZ.out.bR.frozen 0
    have f1 := HXZ.out.bR.frozen 1
    have x0 : W3.cell? ⟨X, 0, none⟩ = some (.int .i64 f) := HXZ.out.bX.cell 0
    have x1 : W3.cell? ⟨X, 1, none⟩ = some (.slice (some ⟨M3, 0, none⟩) (rs.length + 1) c3) := HXZ.out.bX.cell 1
    go_wp2
    have hs : Blk ((W3.setCell ⟨w.heap.size, 0, none⟩ (.int .i64 f)).setCell ⟨w.heap.size, 1, none⟩ (.slice (some ⟨M3, 0, none⟩) (rs.length + 1) c3)) w.heap.size #[.int .i64 f, .slice (some ⟨M3, 0, none⟩) (rs.length + 1) c3] 96 := (HXZ.out.bR.set 0 _).set 1 _
    have s0 := hs.cell 0
    have s1 := hs.cell 1
    refine bodyPost_ret (v := .agg #[.int .i64 f, .slice (some ⟨M3, 0, none⟩) (rs.length + 1) c3]) (by simp [results, Tryz.results117, go_sem, s0, s1]) rfl ?_
    exact ⟨f, M3, c3, rs ++ [y], retA (by simp), HXZ.out.fin _ _, by simp; omega, HFB.out⟩
  have d2' : (z == 2) = false := by simpa using e2
  by_cases e3 : z = 3
  · subst e3
    have HXa : Hid (XSt w c X f (w2.alloc (.cells #[] 29)) (.slice (some ⟨M, 0, none⟩) rs.length cap) M cap rs) := HX.out.grow (Go.Joins.below_alloc1 w2 _)
    have HXb : Hid (XSt w c X f (w2.alloc (.cells #[] 29)) (.slice (some ⟨M, 0, none⟩) rs.length cap) w2.heap.size 0 []) := ⟨HXa.out.cur, HXa.out.kept, HXa.out.clt, HXa.out.ord, HXa.out.bR, HXa.out.bX, AB.nil (Blk.new _ _ _) (by have := HX.out.ord; omega), fines_nil⟩
    have HXZ : Hid (XSt w c X f ((w2.alloc (.cells #[] 29)).setCell ⟨X, 1, none⟩ (.slice (some ⟨w2.heap.size, 0, none⟩) 0 0)) (.slice (some ⟨w2.heap.size, 0, none⟩) 0 0) w2.heap.size 0 []) := HXb.out.setL _
    have q1 : (w2.alloc (.cells #[] 29)).cell? ⟨X, 1, none⟩ = some (.slice (some ⟨M, 0, none⟩) rs.length cap) := HXa.out.bX.cell 1
    have g1 := HXa.out.bX.frozen 1
    go_upto_region 11 with fail
    clear q1 g1 HXa HXb
    generalize (w2.alloc (.cells #[] 29)).setCell ⟨X, 1, none⟩ (.slice (some ⟨w2.heap.size, 0, none⟩) 0 0) = W3 at *
    have r0 : W3.cell? ⟨w.heap.size, 0, none⟩ = some (.int .i64 0) := HXZ.out.bR.cell 0
    have r1 : W3.cell? ⟨w.heap.size, 1, none⟩ = some (.slice none 0 0) := HXZ.out.bR.cell 1
    have f0 := HXZ.out.bR.frozen 0
    have f1 := HXZ.out.bR.frozen 1
    have x0 : W3.cell? ⟨X, 0, none⟩ = some (.int .i64 f) := HXZ.out.bX.cell 0
    have x1 : W3.cell? ⟨X, 1, none⟩ = some (.slice (some ⟨w2.heap.size, 0, none⟩) 0 0) := HXZ.out.bX.cell 1
    go_wp2
    have hs : Blk ((W3.setCell ⟨w.heap.size, 0, none⟩ (.int .i64 f)).setCell ⟨w.heap.size, 1, none⟩ (.slice (some ⟨w2.heap.size, 0, none⟩) 0 0)) w.heap.size #[.int .i64 f, .slice (some ⟨w2.heap.size, 0, none⟩) 0 0] 96 := (HXZ.out.bR.set 0 _).set 1 _
    have s0 := hs.cell 0
    have s1 := hs.cell 1
    refine bodyPost_ret (v := .agg #[.int .i64 f, .slice (some ⟨w2.heap.size, 0, none⟩) 0 0]) (by simp [results, Tryz.results117, go_sem, s0, s1]) rfl ?_
    exact ⟨f, w2.heap.size, 0, [], rfl, HXZ.out.fin _ _, by simp, HFB.out⟩
  have d3' : (z == 3) = false := by simpa using e3
  go_upto_region 11 with fail
  have r0 : w2.cell? ⟨w.heap.size, 0, none⟩ = some (.int .i64 0) := HX.out.bR.cell 0
  have r1 : w2.cell? ⟨w.heap.size, 1, none⟩ = some (.slice none 0 0) := HX.out.bR.cell 1
  have f0 := HX.out.bR.frozen 0
  have f1 := HX.out.bR.frozen 1
  have x0 : w2.cell? ⟨X, 0, none⟩ = some (.int .i64 f) := HX.out.bX.cell 0
  have x1 : w2.cell? ⟨X, 1, none⟩ = some (.slice (some ⟨M, 0, none⟩) rs.length cap) := HX.out.bX.cell 1
  go_wp2
  have hs : Blk ((w2.setCell ⟨w.heap.size, 0, none⟩ (.int .i64 f)).setCell ⟨w.heap.size, 1, none⟩ (.slice (some ⟨M, 0, none⟩) rs.length cap)) w.heap.size #[.int .i64 f, .slice (some ⟨M, 0, none⟩) rs.length cap] 96 := (HX.out.bR.set 0 _).set 1 _
  have s0 := hs.cell 0
  have s1 := hs.cell 1
  refine bodyPost_ret (v := .agg #[.int .i64 f, .slice (some ⟨M, 0, none⟩) rs.length cap]) (by simp [results, Tryz.results117, go_sem, s0, s1]) rfl ?_
  exact ⟨f, M, cap, rs, rfl, HX.out.fin _ _, by omega, HFB.out⟩
end Go.Proofs.YtooninmicfcfoaaGreat.DrawD
namespace Go.Proofs.YtooninmicfcfoaaGreat.DrawE
open Go.RowKit
open Draw
open Labs LabS Over Blk App DrawL DrawT Alms AlmM DrawA DrawB Rws ChnI ChnC ChnP ChnS ChnU ChnK DrawC DrawD
open LabT (Held infoL)
open LabR (flat flat_len flat_one)

def DAl (w : World) (g : Nat) (x : PAl) : Prop := Reads w (some ⟨g, 0, none⟩) x.l ∧ Fine x
theorem DAl.below {w w' : World} {g : Nat} {x : PAl} (h : DAl w g x) (hb : Below w.heap.size w w') : DAl w' g x := ⟨h.1.below hb, h.2⟩

theorem ab_clear {lo : Nat} {w : World} {A M cap : Nat} {rs : List ARow} (h : AB lo w M cap rs) (hA : A ≠ M) (hr : ∀ x ∈ rs, x.1 ≠ A) (i : Nat) (v : Value) : AB lo (w.setCell ⟨A, i, none⟩ v) M cap rs := by
  obtain ⟨cur, h1, h2⟩ := h.outer
  exact ⟨h.at', h.cap, ⟨cur, h1.set_other hA v, h2⟩, fun x hx => own_set (h.rows x hx) (fun e => hr x hx e.symm) i v, h.ne⟩
end Go.Proofs.YtooninmicfcfoaaGreat.DrawE
namespace Go.Proofs.YtooninmicfcfoaaGreat.DrawG
open Go.RowKit
open Draw
open Labs LabS Over Blk App DrawL DrawT Alms AlmM DrawA DrawB Rws ChnI ChnC ChnP ChnK DrawC DrawD DrawE Chs Prt PrtF PrtC
open LabT (Held held_reads)
open Fing (fingerB)

theorem cb_kept {c lo : Nat} {w w' : World} {M cap : Nat} {cs : List CRow} (h : CB lo w M cap cs) (hk : Kept c w w') (hc : c < lo) : CB lo w' M cap cs := by
  obtain ⟨cur, h1, h2⟩ := h.outer
  exact ⟨h.at', h.cap, ⟨cur, blk_kept h1 hk (by have := h.at'; omega), h2⟩, ⟨fun x hx => ab_kept (h.rows.rows x hx) hk hc, h.rows.ne⟩⟩
theorem cb_under {lo : Nat} {w : World} {A M cap : Nat} {cs : List CRow} (h : CB lo w M cap cs) (hA : A < lo) (i : Nat) (v : Value) : CB lo (w.setCell ⟨A, i, none⟩ v) M cap cs := by
  obtain ⟨cur, h1, h2⟩ := h.outer
  exact ⟨h.at', h.cap, ⟨cur, h1.set_other (by have := h.at'; show A ≠ M; omega) v, h2⟩, ⟨fun x hx => ab_under (h.rows.rows x hx) hA i v, h.rows.ne⟩⟩
def PL (lo : Nat) (w : World) (a : Option Addr) (cap : Nat) (cs : List CRow) : Prop := (a = none ∧ cap = 0 ∧ cs = []) ∨ ∃ M, a = some ⟨M, 0, none⟩ ∧ CB lo w M cap cs
theorem PL.grow {lo : Nat} {w w' : World} {a : Option Addr} {cap : Nat} {cs : List CRow} (h : PL lo w a cap cs) (hb : Below w.heap.size w w') : PL lo w' a cap cs := h.imp id fun ⟨M, e, k⟩ => ⟨M, e, k.grow hb⟩
theorem PL.keep {c lo : Nat} {w w' : World} {a : Option Addr} {cap : Nat} {cs : List CRow} (h : PL lo w a cap cs) (hk : Kept c w w') (hc : c < lo) : PL lo w' a cap cs := h.imp id fun ⟨M, e, k⟩ => ⟨M, e, cb_kept k hk hc⟩
theorem PL.under {lo : Nat} {w : World} {A : Nat} {a : Option Addr} {cap : Nat} {cs : List CRow} (h : PL lo w a cap cs) (hA : A < lo) (i : Nat) (v : Value) : PL lo (w.setCell ⟨A, i, none⟩ v) a cap cs := h.imp id fun ⟨M, e, k⟩ => ⟨M, e, cb_under k hA i v⟩
theorem PL.down {lo lo' : Nat} {w : World} {a : Option Addr} {cap : Nat} {cs : List CRow} (h : PL lo w a cap cs) (hl : lo' ≤ lo) : PL lo' w a cap cs := h.imp id fun ⟨M, e, k⟩ => ⟨M, e, k.down hl⟩
theorem PL.rn {lo : Nat} {w : World} {a : Option Addr} {cap : Nat} {cs : List CRow} (h : PL lo w a cap cs) : RdG RdN w a (chs cs) := by
  rcases h with ⟨_, _, e⟩ | ⟨M, e, k⟩
  · exact .inl (by rw [e]; rfl)
  · rw [e]; exact k.rn
def FinC (n : Nat) (C : List PCh) : Prop := ∀ x ∈ C, Fines x.P ∧ x.P.length ≤ n ∧ DrawA.I64 x.f
theorem FinC.mono {n m : Nat} {C : List PCh} (h : FinC n C) (hm : n ≤ m) : FinC m C := fun x hx => ⟨(h x hx).1, Nat.le_trans (h x hx).2.1 hm, (h x hx).2.2⟩
theorem FinC.fits {n : Nat} {C : List PCh} (h : FinC n C) (hn : n ≤ 1000) : FitsC C := fun x hx => ⟨(h x hx).2.2, by have := (h x hx).2.1; unfold maxLen; omega, (h x hx).1.fits⟩
theorem FinC.small {n : Nat} {C : List PCh} (h : FinC n C) (hn : n ≤ 1000) : PrtO.Small C := fun x hx => ⟨by have := (h x hx).2.1; omega, (h x hx).1.lens⟩
theorem fines_sum {P : List PAl} (h : Fines P) : sumL P ≤ 8 * P.length := by
  induction P with
  | nil => simp [sumL]
  | cons x P ih =>
    have h1 := (h x (by simp)).2
    have h2 := ih fun y hy => h y (by simp [hy])
    simp [sumL]; omega
theorem FinC.sum {n : Nat} {C : List PCh} (h : FinC n C) : sumC C ≤ C.length * (9 * n) := by
  induction C with
  | nil => simp [sumC]
  | cons x C ih =>
    have h1 := fines_sum (h x (by simp)).1
    have h2 := (h x (by simp)).2.1
    have h3 := ih fun y hy => h y (by simp [hy])
    have e : (C.length + 1) * (9 * n) = C.length * (9 * n) + 9 * n := Nat.succ_mul _ _
    rw [sumC, List.length_cons, e]; omega
theorem FinC.nil (n : Nat) : FinC n [] := fun x hx => by simp at hx
theorem FinC.app {n : Nat} {C : List PCh} {y : PCh} (h : FinC n C) (hy : Fines y.P ∧ y.P.length ≤ n ∧ DrawA.I64 y.f) : FinC n (C ++ [y]) := fun x hx => by
  rcases List.mem_append.1 hx with h1 | h1
  · exact h x h1
  · rw [List.mem_singleton.1 h1]; exact hy
theorem finC_put {n : Nat} {C : List PCh} {x : PAl} (h : FinC n C) (hx : Fine x) : FinC (n + 1) (putC C x) := by
  rcases at_cases C (fingerB x.l : Int) with ⟨h0, h1, h2⟩ | ⟨k, h0, h1, hk, h3, h4⟩
  · rw [(put_none h0).1]
    intro y hy
    rcases List.mem_append.1 hy with hy | hy
    · exact (h.mono (Nat.le_succ n)) y (List.mem_of_mem_take hy)
    · rcases List.mem_cons.1 hy with hy | hy
      · subst hy
        have := Fing.finger_lt x.l
        exact ⟨fun z hz => by rw [List.mem_singleton.1 hz]; exact hx, by simp, ⟨by show -9223372036854775808 ≤ ((fingerB x.l : Nat) : Int); omega, by show ((fingerB x.l : Nat) : Int) ≤ _; omega⟩⟩
      · exact (h.mono (Nat.le_succ n)) y (List.mem_of_mem_drop hy)
  · rw [(put_some h0).1]
    intro y hy
    rcases List.mem_or_eq_of_mem_set hy with hy | hy
    · exact (h.mono (Nat.le_succ n)) y hy
    · subst hy
      have hm := h _ (nthC_mem hk)
      have h5 := (put_sum (nthC C k).P x).2
      exact ⟨fines_put hm.1 hx, by show (putL _ _).length ≤ _; omega, hm.2.2⟩

structure GSt (w : World) (c : Nat) (wr : World) (vr : Int) (a : Option Addr) (cap : Nat) (cs : List CRow) : Prop where
  cur : Cur wr c
  kept : Kept c w wr
  clt : c < w.heap.size
  size : w.heap.size + 2 ≤ wr.heap.size
  bR : Blk wr w.heap.size #[.int .i64 0, .int .i64 0, .slice none 0 0] 26
  bP : Blk wr (w.heap.size + 1) #[.int .i64 (-1), .int .i64 vr, .slice a cs.length cap] 26
  list : PL (w.heap.size + 2) wr a cap cs
theorem GSt.keep {w : World} {c : Nat} {wr w' : World} {vr : Int} {a : Option Addr} {cap : Nat} {cs : List CRow} (h : GSt w c wr vr a cap cs) (hc : Cur w' c) (hk : Kept c wr w') : GSt w c w' vr a cap cs := by
  have h0 := h.clt; have h1 := h.size
  exact ⟨hc, h.kept.trans hk, h0, Nat.le_trans h1 hk.size, blk_kept h.bR hk (by omega), blk_kept h.bP hk (by omega), h.list.keep hk (by omega)⟩
theorem GSt.grow {w : World} {c : Nat} {wr w' : World} {vr : Int} {a : Option Addr} {cap : Nat} {cs : List CRow} (h : GSt w c wr vr a cap cs) (hb : Below wr.heap.size wr w') : GSt w c w' vr a cap cs := h.keep (cur_bel h.cur hb) (kept_bel hb)
theorem GSt.put {w : World} {c : Nat} {wr : World} {vr : Int} {a : Option Addr} {cap : Nat} {cs : List CRow} (h : GSt w c wr vr a cap cs) (vr' : Int) {M' cap' : Nat} {cs' : List CRow} (hl : CB (w.heap.size + 2) wr M' cap' cs') :
    GSt w c (((wr.setCell ⟨w.heap.size + 1, 0, none⟩ (.int .i64 (-1))).setCell ⟨w.heap.size + 1, 1, none⟩ (.int .i64 vr')).setCell ⟨w.heap.size + 1, 2, none⟩ (.slice (some ⟨M', 0, none⟩) cs'.length cap')) vr' (some ⟨M', 0, none⟩) cap' cs' := by
  have h0 := h.clt; have h1 := h.size
  refine ⟨cur_set (cur_set (cur_set h.cur (by omega) _ _) (by omega) _ _) (by omega) _ _, DrawC.kept_set (DrawC.kept_set (DrawC.kept_set h.kept (by omega) _ _) (by omega) _ _) (by omega) _ _, h0, by simpa using h1, ?_, put3 h.bP _ _ _, .inr ⟨M', rfl, cb_under (cb_under (cb_under hl (by omega) _ _) (by omega) _ _) (by omega) _ _⟩⟩
  have hne : w.heap.size + 1 ≠ w.heap.size := by omega
  exact ((h.bR.set_other (p := ⟨w.heap.size + 1, 0, none⟩) hne _).set_other (p := ⟨w.heap.size + 1, 1, none⟩) hne _).set_other (p := ⟨w.heap.size + 1, 2, none⟩) hne _
structure PDr (w : World) (c : Nat) (wr : World) (a : Option Addr) (cap : Nat) (cs : List CRow) : Prop where
  list : PL (w.heap.size + 1) wr a cap cs
  cur : Cur wr c
  kept : Kept c w wr
  clt : c < w.heap.size
  fine : FinC 7 (chs cs)
theorem wrap_up {v : Int} (h0 : 0 ≤ v) (h1 : v ≤ 100) : IntKind.i64.wrap (v + 1) = v + 1 := by rw [IntKind.wrap_i64]; omega
set_option maxRecDepth 100000 in
set_option maxHeartbeats 3200000 in
theorem l7Draw_any (c : Nat) (i n : Int) (w : World) (hc : Cur w c) (hn : DrawA.I64 n) :
    Calls Tryz.prog 116 #[.pointer (some ⟨c, 0, none⟩), .int .i64 i, .int .i64 n] w fun r w' => ∃ (vr : Int) (a : Option Addr) (cap : Nat) (cs : List CRow), r = .returned (.agg #[.int .i64 (-1), .int .i64 vr, .slice a cs.length cap]) ∧ PDr w c w' a cap cs ∧ cs.length ≤ 7 ∧ 0 ≤ vr ∧ vr ≤ 7 := by
  have HC : Hid (Cur w c) := hc
  have HL : Hid (c < w.heap.size) := hc.lt
  have HN : Hid (DrawA.I64 n) := hn
  clear hc hn
  go_enter Tryz.func116, Tryz.ntmps116
  go_wp2_with fail
  refine (below_any c 8 _ ((HC.out.alloc _).alloc _) (by decide) (by decide)).mono ?_
  rintro r w1 ⟨⟨k0, rfl, hk0, hk1⟩, hc1, hk1'⟩
  have HS1 : Hid (GSt w c w1 0 none 0 []) := by
    have h0 := HL.out
    have hs := hk1'.size
    simp at hs
    exact ⟨hc1, (((Kept.refl c w).alloc _).alloc _).trans hk1', h0, by omega, blk_kept ((Blk.new _ _ _).alloc _) hk1' (by omega), blk_kept (Blk.new_at (by simp)) hk1' (by omega), .inl ⟨rfl, rfl, rfl⟩⟩
  have HK : Hid (0 ≤ k0 ∧ k0 ≤ 7) := ⟨hk0, by omega⟩
  clear hc1 hk1' hk0 hk1
  go_wp2
  go_loopw [8] (fun i wr => ∃ (k m : Nat) (vr : Int) (a : Option Addr) (cap : Nat) (cs : List CRow), i = .int .i64 k ∧ m + k ≤ 7 ∧ GSt w c wr vr a cap cs ∧ cs.length ≤ m ∧ FinC m (chs cs) ∧ 0 ≤ vr ∧ vr ≤ m) (fun i _ => (intOf i).toNat)
  case atStart =>
    obtain ⟨kk, rfl⟩ := Int.eq_ofNat_of_zero_le HK.out.1
    exact ⟨kk, 0, 0, none, 0, [], rfl, by have := HK.out.2; omega, HS1.out, by simp, FinC.nil _, by omega, by omega⟩
  case round =>
    clear HS1 HK
    obtain ⟨k, m, vr, a, cap, cs, rfl, hmk, hst, hcl, hfi, hv0, hv1⟩ := hrel
    have HS : Hid (GSt w c wr vr a cap cs) := hst
    have HF : Hid (cs.length ≤ m ∧ FinC m (chs cs) ∧ 0 ≤ vr ∧ vr ≤ m ∧ m + k ≤ 7) := ⟨hcl, hfi, hv0, hv1, hmk⟩
    clear hst hcl hfi hv0 hv1 hmk
    by_cases hk : 0 < k
    · have hk' : (k : Int) > 0 := by omega
      obtain ⟨j, rfl⟩ : ∃ j, k = j + 1 := ⟨k - 1, by omega⟩
      have ek : ((j + 1 : Nat) : Int) = (j : Int) + 1 := by omega
      rw [ek] at hk' ⊢
      have hj7 : (j : Int) ≤ 7 := by have := HF.out; omega
      go_wp2_with fail
      refine (l4Draw_any c wr HS.out.cur).mono ?_
      rintro r w2 ⟨g, cp, p, s, e, t, rfl, hst, hp, hs, he, ht⟩
      have HX : Hid (Fine ⟨p, s, e, t⟩) := fine_of hp hst.fit hs he ht
      have HX2 : Hid (OwnA (w.heap.size + 2) w2 (g, cp, ⟨p, s, e, t⟩)) := (own_lst hst hp).down HS.out.size
      have HS2 : Hid (GSt w c w2 vr a cap cs) := HS.out.keep hst.cur hst.kept
      clear hst hp hs he ht HS
      obtain ⟨W3, hW3⟩ : ∃ W3, w2.alloc (.cells #[.slice (some ⟨g, 0, none⟩) p.length cp, .int .i64 s, .int .i64 e, .string t] 29) = W3 := ⟨_, rfl⟩
      have hb3 : Below w2.heap.size w2 W3 := by rw [← hW3]; exact Go.Joins.below_alloc1 w2 _
      have HA3 : Hid (Blk W3 w2.heap.size #[.slice (some ⟨g, 0, none⟩) p.length cp, .int .i64 s, .int .i64 e, .string t] 29) := by rw [← hW3]; exact Blk.new _ _ _
      have HS3 : Hid (GSt w c W3 vr a cap cs) := HS2.out.grow hb3
      have HX3 : Hid (OwnA (w.heap.size + 2) W3 (g, cp, ⟨p, s, e, t⟩)) := HX2.out.grow hb3
      have a0 : W3.cell? ⟨w2.heap.size, 0, none⟩ = some (.slice (some ⟨g, 0, none⟩) p.length cp) := HA3.out.cell 0
      clear hb3 HS2 HX2
      go_wp2_with fail
      refine (Fing.specFinger_any _ _ _ _ HX3.out.reads HX.out.1.len HX.out.1.fits).mono ?_
      rintro r w4 ⟨rfl, hb4⟩
      have HA4 : Hid (Blk w4 w2.heap.size #[.slice (some ⟨g, 0, none⟩) p.length cp, .int .i64 s, .int .i64 e, .string t] 29) := HA3.out.grow hb4
      have HS4 : Hid (GSt w c w4 vr a cap cs) := HS3.out.grow hb4
      have HX4 : Hid (OwnA (w.heap.size + 2) w4 (g, cp, ⟨p, s, e, t⟩)) := HX3.out.grow hb4
      clear hb4 a0 hW3 HA3 HS3 HX3
      go_wp2_with fail
      refine (Sums.specPart_any _ n w4 (by omega) (by have := Fing.finger_lt p; omega) HN.out.1 HN.out.2).mono ?_
      rintro r w5 ⟨rfl, hw5⟩
      subst hw5
      generalize Sums.partB (fingerB p : Int) n = q
      by_cases hqi : q = i
      · subst hqi
        have p0 : w5.cell? ⟨w.heap.size + 1, 0, none⟩ = some (.int .i64 (-1)) := HS4.out.bP.cell 0
        have p1 : w5.cell? ⟨w.heap.size + 1, 1, none⟩ = some (.int .i64 vr) := HS4.out.bP.cell 1
        have p2 : w5.cell? ⟨w.heap.size + 1, 2, none⟩ = some (.slice a cs.length cap) := HS4.out.bP.cell 2
        have a0 : w5.cell? ⟨w2.heap.size, 0, none⟩ = some (.slice (some ⟨g, 0, none⟩) p.length cp) := HA4.out.cell 0
        have a1 : w5.cell? ⟨w2.heap.size, 1, none⟩ = some (.int .i64 s) := HA4.out.cell 1
        have a2 : w5.cell? ⟨w2.heap.size, 2, none⟩ = some (.int .i64 e) := HA4.out.cell 2
        have a3 : w5.cell? ⟨w2.heap.size, 3, none⟩ = some (.string t) := HA4.out.cell 3
        obtain ⟨vu, hvu⟩ : ∃ vu, vr + 1 = vu := ⟨_, rfl⟩
        have HVU : Hid (vr + 1 = vu) := hvu
        obtain ⟨nu, hnu⟩ : ∃ nu, newC (chs cs) ⟨p, s, e, t⟩ = nu := ⟨_, rfl⟩
        have HPC : Hid (Calls Tryz.prog 10 #[.agg #[.int .i64 (-1), .int .i64 vr, .slice a cs.length cap], .agg #[.slice (some ⟨g, 0, none⟩) p.length cp, .int .i64 s, .int .i64 e, .string t]] w5 fun r w' => (∃ M c' cs', r = .returned (.tuple #[.agg #[.int .i64 (-1), .int .i64 vu, .slice (some ⟨M, 0, none⟩) cs'.length c'], .bool nu]) ∧ CB w5.heap.size w' M c' cs' ∧ chs cs' = putC (chs cs) ⟨p, s, e, t⟩) ∧ Below w5.heap.size w5 w') := by
          have hf := HF.out
          have hl : (chs cs).length ≤ 7 := by rw [chs_len]; omega
          have hsum := hf.2.1.sum
          have hsum2 : (chs cs).length * (9 * m) ≤ 7 * 63 := Nat.mul_le_mul hl (by omega)
          have h := PrtV.specPut_any (-1) vr a cap (chs cs) g 0 cp ⟨p, s, e, t⟩ w5 HS4.out.list.rn HX4.out.reads (by omega) (hf.2.1.small (by omega)) (by omega) (by have := HX.out.2; omega) HX.out.1.fits
          rw [chs_len, wrap_up hf.2.2.1 (by omega), hvu, hnu] at h
          exact h
        clear hvu hnu
        go_wp2_with fail
        refine HPC.out.mono ?_
        rintro r w6 ⟨⟨M, c', cs', rfl, hab, hp⟩, hb⟩
        have hP6 := HS4.out.bP.grow hb
        have q0 : w6.cell? ⟨w.heap.size + 1, 0, none⟩ = some (.int .i64 (-1)) := hP6.cell 0
        have q1 : w6.cell? ⟨w.heap.size + 1, 1, none⟩ = some (.int .i64 vr) := hP6.cell 1
        have q2 : w6.cell? ⟨w.heap.size + 1, 2, none⟩ = some (.slice a cs.length cap) := hP6.cell 2
        have f0 := hP6.frozen 0
        have f1 := hP6.frozen 1
        have f2 := hP6.frozen 2
        have HS6 : Hid (GSt w c (((w6.setCell ⟨w.heap.size + 1, 0, none⟩ (.int .i64 (-1))).setCell ⟨w.heap.size + 1, 1, none⟩ (.int .i64 vu)).setCell ⟨w.heap.size + 1, 2, none⟩ (.slice (some ⟨M, 0, none⟩) cs'.length c')) vu (some ⟨M, 0, none⟩) c' cs') := (HS4.out.grow hb).put vu (hab.down HS4.out.size)
        have HF6 : Hid (cs'.length ≤ m + 1 ∧ FinC (m + 1) (chs cs')) := by
          have h1 := (PutS.putC_sum (chs cs) ⟨p, s, e, t⟩).2
          rw [← hp, chs_len, chs_len] at h1
          have h2 := HF.out.1
          exact ⟨by omega, by rw [hp]; exact finC_put HF.out.2.1 HX.out⟩
        clear hab hp hb hP6 HPC p0 p1 p2 a0 a1 a2 a3 HS4 HX4 HA4
        go_wp2
        go_roundw
        case rel => exact ⟨j, m + 1, vu, some ⟨M, 0, none⟩, c', cs', by go_num, by have := HF.out; omega, HS6.out, HF6.out.1, HF6.out.2, by have := HF.out; have := HVU.out; omega, by have := HF.out; have := HVU.out; omega⟩
        case measure => first | (simp [intOf]; done) | (simp [intOf]; omega)
      · have hq1 : (q == i) = false := by simpa using hqi
        go_wp2
        go_roundw
        case rel => exact ⟨j, m, vr, a, cap, cs, by go_num, by have := HF.out; omega, HS4.out, HF.out.1, HF.out.2.1, HF.out.2.2.1, HF.out.2.2.2.1⟩
        case measure => first | (simp [intOf]; done) | (simp [intOf]; omega)
    · have hk' : ¬ (k : Int) > 0 := by omega
      have p0 : wr.cell? ⟨w.heap.size + 1, 0, none⟩ = some (.int .i64 (-1)) := HS.out.bP.cell 0
      have p1 : wr.cell? ⟨w.heap.size + 1, 1, none⟩ = some (.int .i64 vr) := HS.out.bP.cell 1
      have p2 : wr.cell? ⟨w.heap.size + 1, 2, none⟩ = some (.slice a cs.length cap) := HS.out.bP.cell 2
      have r0 : wr.cell? ⟨w.heap.size, 0, none⟩ = some (.int .i64 0) := HS.out.bR.cell 0
      have r1 : wr.cell? ⟨w.heap.size, 1, none⟩ = some (.int .i64 0) := HS.out.bR.cell 1
      have r2 : wr.cell? ⟨w.heap.size, 2, none⟩ = some (.slice none 0 0) := HS.out.bR.cell 2
      have f0 := HS.out.bR.frozen 0
      have f1 := HS.out.bR.frozen 1
      have f2 := HS.out.bR.frozen 2
      go_wp2
      have hs := put3 HS.out.bR (.int .i64 (-1)) (.int .i64 vr) (.slice a cs.length cap)
      have s0 := hs.cell 0
      have s1 := hs.cell 1
      have s2 := hs.cell 2
      refine bodyPost_ret (v := .agg #[.int .i64 (-1), .int .i64 vr, .slice a cs.length cap]) (by simp [results, Tryz.results116, go_sem, s0, s1, s2]) rfl ?_
      have h0 := HS.out.clt
      have hf := HF.out
      exact ⟨vr, a, cap, cs, rfl, ⟨(((HS.out.list.down (by omega)).under (by omega) _ _).under (by omega) _ _).under (by omega) _ _, cur_set (cur_set (cur_set HS.out.cur h0 _ _) h0 _ _) h0 _ _, DrawC.kept_set (DrawC.kept_set (DrawC.kept_set HS.out.kept (Nat.le_refl _) _ _) (Nat.le_refl _) _ _) (Nat.le_refl _) _ _, h0, hf.2.1.mono (by omega)⟩, by omega, hf.2.2.1, by omega⟩
end Go.Proofs.YtooninmicfcfoaaGreat.DrawG
namespace Go.Proofs.YtooninmicfcfoaaGreat.DrawH
open Go.RowKit
open Draw
open Labs LabS Over Blk App DrawL DrawT Alms AlmM DrawA DrawB Rws ChnI ChnC ChnP ChnU ChnK DrawC DrawD DrawE Chs Prt PrtF PrtC DrawG

theorem PL.set {lo : Nat} {w : World} {a : Option Addr} {cap N : Nat} {cs : List CRow} {ds : Array Value} (h : PL lo w a cap cs) (hN : Blk w N ds 26) (i : Nat) (v : Value) : PL lo (w.setCell ⟨N, i, none⟩ v) a cap cs := h.imp id fun ⟨M, e, k⟩ => ⟨M, e, CB.set' k hN i v⟩
theorem PL.row {lo : Nat} {w : World} {a : Option Addr} {cap n : Nat} {cs : List CRow} (h : PL lo w a cap cs) : ∀ k, (Value.slice a n cap).ownBlock = some k → lo ≤ k ∧ ∃ cu, Blk w k cu 96 := fun k hk => by
  rcases h with ⟨e, _, _⟩ | ⟨M, e, hc⟩
  · rw [e] at hk; cases hk
  · rw [e] at hk
    cases hk
    obtain ⟨cu, h1, _⟩ := hc.outer
    exact ⟨hc.at', cu, h1⟩
theorem PL.own {lo : Nat} {w : World} {a : Option Addr} {cap : Nat} {cs : List CRow} (h : PL lo w a cap cs) : ∃ xs : List Value, w.ownsRow lo 96 2 (.slice a cs.length cap) cs.length xs ∧ xs.length = cs.length * 2 ∧ ∀ i, i < cs.length → Cel (fun k => xs[k]?) i (nthR cs i) := by
  rcases h with ⟨e, e2, e3⟩ | ⟨M, e, hc⟩
  · subst e e2 e3
    exact ⟨[], ⟨rfl, .inl ⟨rfl, rfl⟩⟩, rfl, fun i hi => by simp at hi⟩
  · subst e; exact hc.own
theorem PL.app {lo : Nat} {W w' : World} {a : Option Addr} {cap : Nat} {cs : List CRow} {x : CRow} {xs : List Value} {v' : Value} (h : PL lo W a cap cs) (hx : AB lo W x.M x.c x.rs) (hne : ∀ y ∈ cs, ∀ k, blks y.M y.rs k → ¬ blks x.M x.rs k) (hl : xs.length = cs.length * 2) (hxs : ∀ i, i < cs.length → Cel (fun k => xs[k]?) i (nthR cs i))
    (hown : w'.ownsRow lo 96 2 v' (cs.length + 1) (xs ++ rowC x)) (hg : W.grownBy w' (Value.slice a cs.length cap).ownBlock) : ∃ M' c', v' = .slice (some ⟨M', 0, none⟩) (cs.length + 1) c' ∧ CB lo w' M' c' (cs ++ [x]) := by
  rcases h with ⟨e, e2, e3⟩ | ⟨M, e, hc⟩
  · subst e e2 e3
    have hmv : Moved W w' := ⟨fun b => blk_far b hg (fun e => by cases e), fun b => blk_far b hg (fun e => by cases e)⟩
    rcases hown.2 with ⟨_, e⟩ | ⟨g, cap, cur, e, hb, hgb, hcc, hm, hz, ht⟩
    · simp at e
    · have hx0 : xs = [] := List.eq_nil_of_length_eq_zero (by simpa using hl)
      subst hx0
      refine ⟨g, cap, e, hb, ⟨by simpa using hcc, hm⟩, ⟨cur, hgb, hz, fun i hi => ?_⟩, (RowsC.nil lo W).app hx (fun y hy => by simp at hy) |>.moved hmv⟩
      have e0 : i = 0 := by simp at hi; exact hi
      subst e0
      have hr : ∀ j, j < 2 → cur[j]? = (rowC x)[j]? := fun j hj => by
        have : ([] ++ rowC x)[j]? = cur[j]? := by rw [← ht, List.getElem?_take_of_lt (by simp; omega)]; simp
        rw [← this]; rfl
      exact ⟨hr 0 (by omega), hr 1 (by omega)⟩
  · subst e; exact hc.app hx hne hl hxs hown hg
structure HSt (w : World) (c X : Nat) (wr : World) (hd vr : Int) (u : Value) (a : Option Addr) (cap : Nat) (cs : List CRow) : Prop where
  cur : Cur wr c
  kept : Kept c w wr
  clt : c < w.heap.size
  ord : w.heap.size < X ∧ X < wr.heap.size
  bR : Blk wr w.heap.size #[.int .i64 0, .int .i64 0, .slice none 0 0] 26
  bX : Blk wr X #[.int .i64 hd, .int .i64 vr, u] 26
  list : PL (w.heap.size + 1) wr a cap cs
  fine : FinC 7 (chs cs)
theorem HSt.keep {w : World} {c X : Nat} {wr w' : World} {hd vr : Int} {u : Value} {a : Option Addr} {cap : Nat} {cs : List CRow} (h : HSt w c X wr hd vr u a cap cs) (hc : Cur w' c) (hk : Kept c wr w') : HSt w c X w' hd vr u a cap cs := by
  have h0 := h.clt; have h1 := h.ord
  exact ⟨hc, h.kept.trans hk, h0, ⟨h1.1, Nat.lt_of_lt_of_le h1.2 hk.size⟩, blk_kept h.bR hk (by omega), blk_kept h.bX hk (by omega), h.list.keep hk (by omega), h.fine⟩
theorem HSt.grow {w : World} {c X : Nat} {wr w' : World} {hd vr : Int} {u : Value} {a : Option Addr} {cap : Nat} {cs : List CRow} (h : HSt w c X wr hd vr u a cap cs) (hb : Below wr.heap.size wr w') : HSt w c X w' hd vr u a cap cs := h.keep (cur_bel h.cur hb) (kept_bel hb)
theorem HSt.set0 {w : World} {c X : Nat} {wr : World} {hd vr : Int} {u : Value} {a : Option Addr} {cap : Nat} {cs : List CRow} (h : HSt w c X wr hd vr u a cap cs) (y : Int) : HSt w c X (wr.setCell ⟨X, 0, none⟩ (.int .i64 y)) y vr u a cap cs := by
  have h0 := h.clt; have h1 := h.ord
  exact ⟨cur_set h.cur (by omega) _ _, DrawC.kept_set h.kept (by omega) _ _, h0, by simpa using h1, h.bR.set_other (by show X ≠ _; omega) _, h.bX.set 0 _, PL.set h.list h.bX _ _, h.fine⟩
theorem HSt.set1 {w : World} {c X : Nat} {wr : World} {hd vr : Int} {u : Value} {a : Option Addr} {cap : Nat} {cs : List CRow} (h : HSt w c X wr hd vr u a cap cs) (y : Int) : HSt w c X (wr.setCell ⟨X, 1, none⟩ (.int .i64 y)) hd y u a cap cs := by
  have h0 := h.clt; have h1 := h.ord
  exact ⟨cur_set h.cur (by omega) _ _, DrawC.kept_set h.kept (by omega) _ _, h0, by simpa using h1, h.bR.set_other (by show X ≠ _; omega) _, h.bX.set 1 _, PL.set h.list h.bX _ _, h.fine⟩
theorem HSt.set2 {w : World} {c X : Nat} {wr : World} {hd vr : Int} {u : Value} {a : Option Addr} {cap : Nat} {cs : List CRow} (h : HSt w c X wr hd vr u a cap cs) (u' : Value) : HSt w c X (wr.setCell ⟨X, 2, none⟩ u') hd vr u' a cap cs := by
  have h0 := h.clt; have h1 := h.ord
  exact ⟨cur_set h.cur (by omega) _ _, DrawC.kept_set h.kept (by omega) _ _, h0, by simpa using h1, h.bR.set_other (by show X ≠ _; omega) _, h.bX.set 2 _, PL.set h.list h.bX _ _, h.fine⟩
theorem HSt.fin {w : World} {c X : Nat} {wr : World} {hd vr : Int} {u : Value} {a : Option Addr} {cap : Nat} {cs : List CRow} (h : HSt w c X wr hd vr u a cap cs) (v0 v1 v2 : Value) : PDr w c (((wr.setCell ⟨w.heap.size, 0, none⟩ v0).setCell ⟨w.heap.size, 1, none⟩ v1).setCell ⟨w.heap.size, 2, none⟩ v2) a cap cs :=
  ⟨((h.list.under (by omega) _ _).under (by omega) _ _).under (by omega) _ _, cur_set (cur_set (cur_set h.cur h.clt _ _) h.clt _ _) h.clt _ _, DrawC.kept_set (DrawC.kept_set (DrawC.kept_set h.kept (Nat.le_refl _) _ _) (Nat.le_refl _) _ _) (Nat.le_refl _) _ _, h.clt, h.fine⟩
theorem HSt.app {w : World} {c X : Nat} {W w' : World} {hd vr : Int} {u : Value} {a : Option Addr} {cap : Nat} {cs : List CRow} {x : CRow} {xs : List Value} {v' : Value} (h : HSt w c X W hd vr u a cap cs) (hx : AB (w.heap.size + 1) W x.M x.c x.rs) (hne : ∀ y ∈ cs, ∀ k, blks y.M y.rs k → ¬ blks x.M x.rs k) (hf : Fines x.ch.P ∧ x.ch.P.length ≤ 7 ∧ DrawA.I64 x.ch.f) (hl : xs.length = cs.length * 2) (hxs : ∀ i, i < cs.length → Cel (fun k => xs[k]?) i (nthR cs i))
    (hown : w'.ownsRow (w.heap.size + 1) 96 2 v' (cs.length + 1) (xs ++ rowC x)) (hg : W.grownBy w' (Value.slice a cs.length cap).ownBlock) : ∃ M' c', v' = .slice (some ⟨M', 0, none⟩) (cs.length + 1) c' ∧ HSt w c X w' hd vr u (some ⟨M', 0, none⟩) c' (cs ++ [x]) := by
  have h0 := h.clt; have h1 := h.ord
  obtain ⟨M', c', e, hcb⟩ := PL.app h.list hx hne hl hxs hown hg
  refine ⟨M', c', e, h.cur.grown hg (fun k hk => by have := (PL.row h.list k hk).1; omega), kept_grown (B := 0) h.kept hg (fun k hk => by have := (PL.row h.list k hk).1; omega), h0, ⟨h1.1, Nat.lt_of_lt_of_le h1.2 hg.size⟩, blk_far h.bR hg (fun e => by have := (PL.row h.list _ e.symm).1; omega), blk_far h.bX hg (fun e => by obtain ⟨_, cu, hcu⟩ := PL.row h.list _ e.symm; exact blkT_ne h.bX hcu (by decide) rfl), .inr ⟨M', rfl, hcb⟩, ?_⟩
  rw [chs_app]; exact h.fine.app hf
theorem PL.high {lo : Nat} {w : World} {a : Option Addr} {cap : Nat} {cs : List CRow} (h : PL lo w a cap cs) : ∀ y ∈ cs, ∀ k, blks y.M y.rs k → k < w.heap.size := fun y hy k hk => by
  rcases h with ⟨_, _, e⟩ | ⟨M, _, hc⟩
  · rw [e] at hy; simp at hy
  · exact blks_high (hc.rows.rows y hy) k hk
theorem retP {M n n' c : Nat} {hd vr : Int} (h : n = n') : Ending.returned (.agg #[.int .i64 hd, .int .i64 vr, .slice (some ⟨M, 0, none⟩) n c]) = .returned (.agg #[.int .i64 hd, .int .i64 vr, .slice (some ⟨M, 0, none⟩) n' c]) := by rw [h]
set_option maxRecDepth 100000 in
set_option maxHeartbeats 3200000 in
theorem l7Any_any (c : Nat) (i n : Int) (w : World) (hc : Cur w c) (hn : DrawA.I64 n) :
    Calls Tryz.prog 61 #[.pointer (some ⟨c, 0, none⟩), .int .i64 i, .int .i64 n] w fun r w' => ∃ (hd vr : Int) (a : Option Addr) (cap : Nat) (cs : List CRow), r = .returned (.agg #[.int .i64 hd, .int .i64 vr, .slice a cs.length cap]) ∧ PDr w c w' a cap cs ∧ cs.length ≤ 8 ∧ DrawA.I64 hd ∧ -1 ≤ vr ∧ vr ≤ 7 := by
  have HC : Hid (Cur w c) := hc
  have HL : Hid (c < w.heap.size) := hc.lt
  have HN : Hid (DrawA.I64 n) := hn
  clear hc hn
  obtain ⟨j0, hj, hy0, hy1, hy2⟩ := info_parts infoC
  have HI : Hid (Tryz.prog.info? 96 = some j0 ∧ j0.zero = some (.agg #[.int .i64 0, .slice none 0 0]) ∧ j0.size = 2 ∧ j0.bytes = 32) := ⟨hj, hy0, hy1, hy2⟩
  clear hj hy0 hy1 hy2
  go_enter Tryz.func61, Tryz.ntmps61
  go_wp2_with fail
  refine (l7Draw_any c i n _ (HC.out.alloc _) HN.out).mono ?_
  rintro r w1 ⟨vr, a, cap, cs, rfl, hd, hc7, hv0, hv7⟩
  have HD1 : Hid (PDr (w.alloc (.cells #[.int .i64 0, .int .i64 0, .slice none 0 0] 26)) c w1 a cap cs) := hd
  have HR1 : Hid (Blk w1 w.heap.size #[.int .i64 0, .int .i64 0, .slice none 0 0] 26) := blk_kept (Blk.new _ _ _) hd.kept (by have := HL.out; omega)
  clear hd
  go_wp2_with fail
  refine (below_any c 12 _ (HD1.out.cur.alloc _) (by decide) (by decide)).mono ?_
  rintro r w2 ⟨⟨z, rfl, hz0', hz1'⟩, hc2, hk2⟩
  have HX : Hid (HSt w c w1.heap.size w2 (-1) vr (.slice a cs.length cap) a cap cs) := by
    have h0 := HL.out; have h1 := HR1.out.lt
    have h2 := hk2.size
    simp at h2
    exact ⟨hc2, ((((Kept.refl c w).alloc _).trans HD1.out.kept).alloc _).trans hk2, h0, ⟨h1, by omega⟩, blk_kept (HR1.out.alloc _) hk2 (by omega), blk_kept (Blk.new w1 _ _) hk2 (by omega), ((HD1.out.list.grow (Go.Joins.below_alloc1 w1 _)).down (by simp)).keep hk2 (by omega), HD1.out.fine⟩
  have HV : Hid (cs.length ≤ 7 ∧ 0 ≤ vr ∧ vr ≤ 7) := ⟨hc7, hv0, hv7⟩
  clear hc2 hk2 HD1 HR1 hc7 hv0 hv7
  generalize w1.heap.size = X at HX ⊢
  by_cases e0 : z = 0
  · subst e0
    go_wp2_with fail
    refine (int_any c _ 0 3 3 (w2.alloc (.cells #[.int .i64 (-2), .int .i64 4, .int .i64 5] 3)) (HX.out.cur.alloc _) (row_lit (w := w2) (by decide) rfl HX.out.cur.lt) (by decide) (by decide)).mono ?_
    rintro r w3 ⟨⟨y, rfl, hy0, hy1⟩, hc3, hk3⟩
    have HX3 : Hid (HSt w c X w3 (-1) vr (.slice a cs.length cap) a cap cs) := (HX.out.grow (Go.Joins.below_alloc1 w2 _)).keep hc3 hk3
    have HY : Hid (DrawA.I64 y) := ⟨hy0, hy1⟩
    have q0 : w3.cell? ⟨X, 0, none⟩ = some (.int .i64 (-1)) := HX3.out.bX.cell 0
    have g0 := HX3.out.bX.frozen 0
    clear hc3 hk3 hy0 hy1
    go_upto_region 12 with fail
    have HX4 : Hid (HSt w c X (w3.setCell ⟨X, 0, none⟩ (.int .i64 y)) y vr (.slice a cs.length cap) a cap cs) := HX3.out.set0 y
    clear q0 g0
    generalize w3.setCell ⟨X, 0, none⟩ (.int .i64 y) = W3 at *
    have r0 : W3.cell? ⟨w.heap.size, 0, none⟩ = some (.int .i64 0) := HX4.out.bR.cell 0
    have r1 : W3.cell? ⟨w.heap.size, 1, none⟩ = some (.int .i64 0) := HX4.out.bR.cell 1
    have r2 : W3.cell? ⟨w.heap.size, 2, none⟩ = some (.slice none 0 0) := HX4.out.bR.cell 2
    have fr0 := HX4.out.bR.frozen 0
    have fr1 := HX4.out.bR.frozen 1
    have fr2 := HX4.out.bR.frozen 2
    have x0 : W3.cell? ⟨X, 0, none⟩ = some (.int .i64 y) := HX4.out.bX.cell 0
    have x1 : W3.cell? ⟨X, 1, none⟩ = some (.int .i64 vr) := HX4.out.bX.cell 1
    have x2 : W3.cell? ⟨X, 2, none⟩ = some (.slice a cs.length cap) := HX4.out.bX.cell 2
    go_wp2
    have hs := put3 HX4.out.bR (.int .i64 y) (.int .i64 vr) (.slice a cs.length cap)
    have s0 := hs.cell 0
    have s1 := hs.cell 1
    have s2 := hs.cell 2
    refine bodyPost_ret (v := .agg #[.int .i64 y, .int .i64 vr, .slice a cs.length cap]) (by simp [results, Tryz.results61, go_sem, s0, s1, s2]) rfl ?_
    exact ⟨y, vr, a, cap, cs, rfl, HX4.out.fin _ _ _, by have := HV.out; omega, HY.out, by have := HV.out; omega, by have := HV.out; omega⟩
  have d0' : (z == 0) = false := by simpa using e0
  by_cases e1 : z = 1
  · subst e1
    have q1 : w2.cell? ⟨X, 1, none⟩ = some (.int .i64 vr) := HX.out.bX.cell 1
    have g1 := HX.out.bX.frozen 1
    go_upto_region 12 with fail
    have HX4 : Hid (HSt w c X (w2.setCell ⟨X, 1, none⟩ (.int .i64 (-1))) (-1) (-1) (.slice a cs.length cap) a cap cs) := HX.out.set1 (-1)
    clear q1 g1
    generalize w2.setCell ⟨X, 1, none⟩ (.int .i64 (-1)) = W3 at *
    have r0 : W3.cell? ⟨w.heap.size, 0, none⟩ = some (.int .i64 0) := HX4.out.bR.cell 0
    have r1 : W3.cell? ⟨w.heap.size, 1, none⟩ = some (.int .i64 0) := HX4.out.bR.cell 1
    have r2 : W3.cell? ⟨w.heap.size, 2, none⟩ = some (.slice none 0 0) := HX4.out.bR.cell 2
    have fr0 := HX4.out.bR.frozen 0
    have fr1 := HX4.out.bR.frozen 1
    have fr2 := HX4.out.bR.frozen 2
    have x0 : W3.cell? ⟨X, 0, none⟩ = some (.int .i64 (-1)) := HX4.out.bX.cell 0
    have x1 : W3.cell? ⟨X, 1, none⟩ = some (.int .i64 (-1)) := HX4.out.bX.cell 1
    have x2 : W3.cell? ⟨X, 2, none⟩ = some (.slice a cs.length cap) := HX4.out.bX.cell 2
    go_wp2
    have hs := put3 HX4.out.bR (.int .i64 (-1)) (.int .i64 (-1)) (.slice a cs.length cap)
    have s0 := hs.cell 0
    have s1 := hs.cell 1
    have s2 := hs.cell 2
    refine bodyPost_ret (v := .agg #[.int .i64 (-1), .int .i64 (-1), .slice a cs.length cap]) (by simp [results, Tryz.results61, go_sem, s0, s1, s2]) rfl ?_
    exact ⟨(-1), (-1), a, cap, cs, rfl, HX4.out.fin _ _ _, by have := HV.out; omega, ⟨by omega, by omega⟩, by omega, by omega⟩
  have d1' : (z == 1) = false := by simpa using e1
  by_cases e2 : z = 2
  · subst e2
    have HCa : Hid (Calls Tryz.prog 117 #[.pointer (some ⟨c, 0, none⟩)] w2.drew fun r w' => ∃ (f2 : Int) (M2 cap2 : Nat) (rs2 : List ARow), r = .returned (.agg #[.int .i64 f2, .slice (some ⟨M2, 0, none⟩) rs2.length cap2]) ∧ HSt w c X w' (-1) vr (.slice a cs.length cap) a cap cs ∧ AB (w.heap.size + 1) w' M2 cap2 rs2 ∧ (∀ y ∈ cs, ∀ k, blks y.M y.rs k → ¬ blks M2 rs2 k) ∧ Fines (pals rs2) ∧ rs2.length ≤ 7 ∧ DrawA.I64 f2) := (l6Any_any c w2.drew (Cur.drewN HX.out.cur 1)).mono fun r w' ⟨f2, M2, c2, rs2, hr, hd, h5, hf⟩ => by
      have hk := kept_drew hd.kept
      exact ⟨f2, M2, c2, rs2, hr, HX.out.keep hd.cur hk, hd.ab.down (by have := HX.out.ord; show _ ≤ w2.drew.heap.size + 1; simp; omega), fun y hy k h1 h2 => by have h3 := PL.high HX.out.list y hy k h1; have h4 := blks_low hd.ab k h2; simp at h4; omega, hd.fine, by omega, hf⟩
    go_upto_region 8 with fail
    refine Hld.wp_region_LH (z := 7) (S := fun w' => w'.cell? ⟨X, 2, none⟩ = some (.slice a cs.length cap)) (by kernel_rfl) (HX.out.bX.drew.cell 2) (fun hHeld => ?_)
    refine Hld.anyL_take (i := 0) (oi := { dst := some 25, op := Op.fieldAddr 26 (Operand.tmp 7) 2, type := 0, pos := "l07_part.go:119", after := #[], guard := none }) (v := ?vha1) rfl (by kernel_rfl) (by kernel_rfl) (by kernel_rfl) (by kernel_rfl) (fun _ _ _ h => h) (Or.inl ⟨by rfl, ?hyha1⟩) hHeld ?_
    case hyha1 => (intro w hSw; (try dsimp only at hSw); go_simp <;> with_reducible rfl)
    try simp only [Act.put, List.setIfInBounds_toArray, List.set_cons_zero, List.set_cons_succ]
    refine Hld.anyL_take (i := 1) (oi := { dst := some 26, op := Op.load 24 (Operand.tmp 25), type := 24, pos := "l07_part.go:119", after := #[{ on := 0, ground := Ground.data }], guard := none }) (v := ?vha2) rfl (by kernel_rfl) (by kernel_rfl) (by kernel_rfl) (by kernel_rfl) (fun _ _ _ h => h) (Or.inl ⟨by rfl, ?hyha2⟩) hHeld ?_
    case hyha2 => (intro w hSw; (try dsimp only at hSw); go_simp <;> with_reducible rfl)
    try simp only [Act.put, List.setIfInBounds_toArray, List.set_cons_zero, List.set_cons_succ]
    refine Hld.anyL_take (i := 2) (oi := { dst := some 27, op := Op.move (Operand.tmp 0), type := 82, pos := "l07_part.go:119", after := #[], guard := none }) (v := ?vha3) rfl (by kernel_rfl) (by kernel_rfl) (by kernel_rfl) (by kernel_rfl) (fun _ _ _ h => h) (Or.inl ⟨by rfl, ?hyha3⟩) hHeld ?_
    case hyha3 => (intro w hSw; (try dsimp only at hSw); go_simp <;> with_reducible rfl)
    try simp only [Act.put, List.setIfInBounds_toArray, List.set_cons_zero, List.set_cons_succ]
    refine Hld.anyL_ready (rs := [3]) (by kernel_rfl) (by simp) ?_
    refine Hld.AllL.cons (o := { dst := some 28, op := Op.call { callee := Callee.value (Operand.func 117), args := #[Operand.tmp 27], argTypes := #[82] }, type := 96, pos := "l07_part.go:119", after := #[{ on := 2, ground := Ground.data }], guard := none }) rfl (fun K hK => ?_) Hld.AllL.nil
    go_simp
    refine HCa.out.mono ?_
    rintro r wyc ⟨f2, M2, cap2, rs2, rfl, hx, hab, hne, hfi, h7, hf2⟩
    have HXc : Hid (HSt w c X wyc (-1) vr (.slice a cs.length cap) a cap cs) := hx
    have HY : Hid (AB (w.heap.size + 1) wyc M2 cap2 rs2 ∧ (∀ y ∈ cs, ∀ k, blks y.M y.rs k → ¬ blks M2 rs2 k) ∧ Fines (pals rs2) ∧ rs2.length ≤ 7 ∧ DrawA.I64 f2) := ⟨hab, hne, hfi, h7, hf2⟩
    clear hx hab hne hfi h7 hf2
    clear hHeld
    refine hK.out _ _ (HXc.out.bX.cell 2) (fun hHeld => ?_)
    clear hK K
    try simp only [Act.put, List.setIfInBounds_toArray, List.set_cons_zero, List.set_cons_succ]
    refine Hld.anyL_ready (rs := [4]) (by kernel_rfl) (by simp) ?_
    refine Hld.AllL.cons (o := { dst := some 29, op := Op.buildSlice 24 1 #[(0, Operand.tmp 28)], type := 24, pos := "l07_part.go:119", after := #[{ on := 3, ground := Ground.data }], guard := none }) rfl (fun K hK => ?_) Hld.AllL.nil
    go_simp
    clear hHeld
    refine hK.out _ _ ((HXc.out.grow (Go.Joins.below_alloc1 wyc _)).bX.cell 2) (fun hHeld => ?_)
    clear hK K
    try simp only [Act.put, List.setIfInBounds_toArray, List.set_cons_zero, List.set_cons_succ]
    refine Hld.anyL_ready (rs := [5]) (by kernel_rfl) (by simp) ?_
    refine Hld.AllL.cons (o := { dst := some 30, op := Op.call { callee := Callee.builtin Builtin.append, args := #[Operand.tmp 26, Operand.tmp 29], argTypes := #[24, 24] }, type := 24, pos := "l07_part.go:119", after := #[{ on := 1, ground := Ground.data }, { on := 4, ground := Ground.data }, { on := 3, ground := Ground.chain }], guard := none }) rfl (fun K hK => ?_) Hld.AllL.nil
    have hXd : HSt w c X (wyc.alloc (.cells #[.int .i64 f2, .slice (some ⟨M2, 0, none⟩) rs2.length cap2] 96)) (-1) vr (.slice a cs.length cap) a cap cs := HXc.out.grow (Go.Joins.below_alloc1 wyc _)
    obtain ⟨xs, hox, hxl, hxs⟩ := PL.own hXd.list
    refine step_appB rfl _ _ 24 rfl 96 j0 (.agg #[.int .i64 0, .slice none 0 0]) 2 32 Tryz.underlying24 HI.out.1 HI.out.2.1 HI.out.2.2.1 HI.out.2.2.2 rfl (by decide) (w.heap.size + 1) ?hakb (.slice a cs.length cap) cs.length xs rfl hox ⟨wyc.heap.size, 0, none⟩ 1 1 (rowC (⟨f2, M2, cap2, rs2⟩ : CRow)) rfl rfl (blk_news (Blk.new wyc _ _)) (rowC_one _) ?hakc ?hakd ?_
    case hakb => have := hXd.ord; omega
    case hakc => have := HV.out; unfold maxLen; omega
    case hakd => have := HV.out; omega
    intro v' wya hown hg hat
    obtain ⟨M3, c3, e3, hXA⟩ := hXd.app (x := (⟨f2, M2, cap2, rs2⟩ : CRow)) (HY.out.1.grow (Go.Joins.below_alloc1 wyc _)) HY.out.2.1 ⟨HY.out.2.2.1, by show (pals rs2).length ≤ 7; rw [pals_len]; exact HY.out.2.2.2.1, HY.out.2.2.2.2⟩ hxl hxs hown hg
    subst e3
    have HXA : Hid (HSt w c X wya (-1) vr (.slice a cs.length cap) (some ⟨M3, 0, none⟩) c3 (cs ++ [(⟨f2, M2, cap2, rs2⟩ : CRow)])) := hXA
    clear hown hg hat hXA hXd hox hxl hxs
    clear hHeld
    refine hK.out _ _ (HXA.out.bX.cell 2) (fun hHeld => ?_)
    clear hK K
    try simp only [Act.put, List.setIfInBounds_toArray, List.set_cons_zero, List.set_cons_succ]
    refine Hld.anyL_take (i := 6) (oi := { dst := some 31, op := Op.fieldAddr 26 (Operand.tmp 7) 2, type := 0, pos := "l07_part.go:119", after := #[{ on := 0, ground := Ground.phase }, { on := 1, ground := Ground.phase }, { on := 2, ground := Ground.phase }, { on := 3, ground := Ground.phase }, { on := 4, ground := Ground.phase }, { on := 5, ground := Ground.phase }], guard := none }) (v := ?vha7) rfl (by kernel_rfl) (by kernel_rfl) (by kernel_rfl) (by kernel_rfl) (fun _ _ _ h => h) (Or.inl ⟨by rfl, ?hyha7⟩) hHeld ?_
    case hyha7 => (intro w hSw; (try dsimp only at hSw); go_simp <;> with_reducible rfl)
    try simp only [Act.put, List.setIfInBounds_toArray, List.set_cons_zero, List.set_cons_succ]
    refine Hld.anyL_ready (rs := [7]) (by kernel_rfl) (by simp) ?_
    refine Hld.AllL.last (o := { dst := none, op := Op.store 24 (Operand.tmp 31) (Operand.tmp 30), type := 0, pos := "l07_part.go:119", after := #[{ on := 6, ground := Ground.data }, { on := 5, ground := Ground.data }, { on := 5, ground := Ground.chain }, { on := 0, ground := Ground.phase }, { on := 1, ground := Ground.phase }, { on := 2, ground := Ground.phase }, { on := 3, ground := Ground.phase }, { on := 4, ground := Ground.phase }, { on := 5, ground := Ground.phase }], guard := none }) rfl (fun K hK => ?_)
    have cD : wya.cell? ⟨X, 2, none⟩ = some (.slice a cs.length cap) := HXA.out.bX.cell 2
    have fD := HXA.out.bX.frozen 2
    go_simp
    refine hK.out _ _ ?_
    clear hK K cD fD
    try simp only [Act.put, List.setIfInBounds_toArray, List.set_cons_zero, List.set_cons_succ]
    refine Hld.anyL_done (by kernel_rfl) ?_ _
    have HXZ : Hid (HSt w c X (wya.setCell ⟨X, 2, none⟩ (.slice (some ⟨M3, 0, none⟩) (cs.length + 1) c3)) (-1) vr (.slice (some ⟨M3, 0, none⟩) (cs.length + 1) c3) (some ⟨M3, 0, none⟩) c3 (cs ++ [(⟨f2, M2, cap2, rs2⟩ : CRow)])) := HXA.out.set2 _
    clear hHeld HXA HXc HY
    generalize wya.setCell ⟨X, 2, none⟩ (.slice (some ⟨M3, 0, none⟩) (cs.length + 1) c3) = W3 at *
    have r0 : W3.cell? ⟨w.heap.size, 0, none⟩ = some (.int .i64 0) := HXZ.out.bR.cell 0
    have r1 : W3.cell? ⟨w.heap.size, 1, none⟩ = some (.int .i64 0) := HXZ.out.bR.cell 1
    have r2 : W3.cell? ⟨w.heap.size, 2, none⟩ = some (.slice none 0 0) := HXZ.out.bR.cell 2
    have fr0 := HXZ.out.bR.frozen 0
    have fr1 := HXZ.out.bR.frozen 1
    have fr2 := HXZ.out.bR.frozen 2
    have x0 : W3.cell? ⟨X, 0, none⟩ = some (.int .i64 (-1)) := HXZ.out.bX.cell 0
    have x1 : W3.cell? ⟨X, 1, none⟩ = some (.int .i64 vr) := HXZ.out.bX.cell 1
    have x2 : W3.cell? ⟨X, 2, none⟩ = some (.slice (some ⟨M3, 0, none⟩) (cs.length + 1) c3) := HXZ.out.bX.cell 2
    go_wp2
    have hs := put3 HXZ.out.bR (.int .i64 (-1)) (.int .i64 vr) (.slice (some ⟨M3, 0, none⟩) (cs.length + 1) c3)
    have s0 := hs.cell 0
    have s1 := hs.cell 1
    have s2 := hs.cell 2
    refine bodyPost_ret (v := .agg #[.int .i64 (-1), .int .i64 vr, .slice (some ⟨M3, 0, none⟩) (cs.length + 1) c3]) (by simp [results, Tryz.results61, go_sem, s0, s1, s2]) rfl ?_
    exact ⟨(-1), vr, some ⟨M3, 0, none⟩, c3, cs ++ [(⟨f2, M2, cap2, rs2⟩ : CRow)], retP (by simp), HXZ.out.fin _ _ _, by simp; have := HV.out; omega, ⟨by omega, by omega⟩, by have := HV.out; omega, by have := HV.out; omega⟩
  have d2' : (z == 2) = false := by simpa using e2
  by_cases e3 : z = 3
  · subst e3
    have x2 : w2.cell? ⟨X, 2, none⟩ = some (.slice a cs.length cap) := HX.out.bX.cell 2
    by_cases hr0 : 0 < cs.length
    ·
      have hr0' : (cs.length : Int) > 0 := by omega
      have hr0x : (0 : Int) < (cs.length : Int) := by omega
      obtain ⟨M, ea, hcb⟩ : ∃ M, a = some ⟨M, 0, none⟩ ∧ CB (w.heap.size + 1) w2 M cap cs := by
        rcases HX.out.list with ⟨_, _, e⟩ | h
        · rw [e] at hr0; simp at hr0
        · exact h
      subst ea
      obtain ⟨cur, hcu, hcz, hcel⟩ := hcb.outer
      obtain ⟨y0, y1⟩ := hcel 0 hr0
      have hx0 : (nthR cs 0).ch ∈ chs cs := List.mem_map.2 ⟨_, nthR_mem hr0, rfl⟩
      have hfx := HX.out.fine _ hx0
      have hab0 := hcb.rows.rows _ (nthR_mem hr0)
      have HY0 : Hid (w2.drew.cell? ⟨M, 0, none⟩ = some (.int .i64 (nthR cs 0).f) ∧ w2.drew.cell? ⟨M, 1, none⟩ = some (.slice (some ⟨(nthR cs 0).M, 0, none⟩) (nthR cs 0).rs.length (nthR cs 0).c)) := ⟨(hcu.drew.cell 0).trans y0, (hcu.drew.cell 1).trans y1⟩
      have HCa : Hid (Calls Tryz.prog 118 #[.agg #[.int .i64 (nthR cs 0).f, .slice (some ⟨(nthR cs 0).M, 0, none⟩) (nthR cs 0).rs.length (nthR cs 0).c]] w2.drew fun r w' => ∃ (f2 : Int) (M2 cap2 : Nat) (rs2 : List ARow), r = .returned (.agg #[.int .i64 f2, .slice (some ⟨M2, 0, none⟩) rs2.length cap2]) ∧ HSt w c X w' (-1) vr (.slice (some ⟨M, 0, none⟩) cs.length cap) (some ⟨M, 0, none⟩) cap cs ∧ AB (w.heap.size + 1) w' M2 cap2 rs2 ∧ (∀ y ∈ cs, ∀ k, blks y.M y.rs k → ¬ blks M2 rs2 k) ∧ Fines (pals rs2) ∧ rs2.length ≤ 7 ∧ DrawA.I64 f2) := by
        have h := l6Copy_any (nthR cs 0).f (some ⟨(nthR cs 0).M, 0, none⟩) (nthR cs 0).c (pals (nthR cs 0).rs) w2.drew (hab0.rd.below (Below.refl _ _).drew) (by have h7 : (pals (nthR cs 0).rs).length ≤ 7 := hfx.2.1; omega) hfx.1.lens
        rw [pals_len] at h
        refine h.mono fun r w' ⟨⟨M2, c2, rs2, hr, hab, hp⟩, hb⟩ => ?_
        have hb' : Below w2.heap.size w2 w' := grow_on (Below.refl _ _).drew hb
        have h7 : (pals (nthR cs 0).rs).length ≤ 7 := hfx.2.1
        rw [← hp, pals_len] at h7
        exact ⟨(nthR cs 0).f, M2, c2, rs2, hr, HX.out.grow hb', hab.down (by have := HX.out.ord; show _ ≤ w2.drew.heap.size + 2; simp; omega), fun y hy k h1 h2 => by have h3 := PL.high HX.out.list y hy k h1; have h4 := blks_low hab k h2; simp at h4; omega, by rw [hp]; exact hfx.1, h7, hfx.2.2⟩
      clear hcu hcz hcel y0 y1 hx0 hfx hab0 hcb
      go_upto_region 11 with fail
      refine Hld.wp_region_LH (z := 10) (S := fun w' => w'.cell? ⟨X, 2, none⟩ = some (.slice (some ⟨M, 0, none⟩) cs.length cap)) (by kernel_rfl) (HX.out.bX.drew.cell 2) (fun hHeld => ?_)
      refine Hld.anyL_take (i := 0) (oi := { dst := some 38, op := Op.fieldAddr 26 (Operand.tmp 7) 2, type := 0, pos := "l07_part.go:122", after := #[], guard := none }) (v := ?vhb1) rfl (by kernel_rfl) (by kernel_rfl) (by kernel_rfl) (by kernel_rfl) (fun _ _ _ h => h) (Or.inl ⟨by rfl, ?hyhb1⟩) hHeld ?_
      case hyhb1 => (intro w hSw; (try dsimp only at hSw); go_simp <;> with_reducible rfl)
      try simp only [Act.put, List.setIfInBounds_toArray, List.set_cons_zero, List.set_cons_succ]
      refine Hld.anyL_take (i := 1) (oi := { dst := some 39, op := Op.load 24 (Operand.tmp 38), type := 24, pos := "l07_part.go:122", after := #[{ on := 0, ground := Ground.data }], guard := none }) (v := ?vhb2) rfl (by kernel_rfl) (by kernel_rfl) (by kernel_rfl) (by kernel_rfl) (fun _ _ _ h => h) (Or.inl ⟨by rfl, ?hyhb2⟩) hHeld ?_
      case hyhb2 => (intro w hSw; (try dsimp only at hSw); go_simp <;> with_reducible rfl)
      try simp only [Act.put, List.setIfInBounds_toArray, List.set_cons_zero, List.set_cons_succ]
      refine Hld.anyL_take (i := 2) (oi := { dst := some 40, op := Op.fieldAddr 26 (Operand.tmp 7) 2, type := 0, pos := "l07_part.go:122", after := #[], guard := none }) (v := ?vhb3) rfl (by kernel_rfl) (by kernel_rfl) (by kernel_rfl) (by kernel_rfl) (fun _ _ _ h => h) (Or.inl ⟨by rfl, ?hyhb3⟩) hHeld ?_
      case hyhb3 => (intro w hSw; (try dsimp only at hSw); go_simp <;> with_reducible rfl)
      try simp only [Act.put, List.setIfInBounds_toArray, List.set_cons_zero, List.set_cons_succ]
      refine Hld.anyL_take (i := 3) (oi := { dst := some 41, op := Op.load 24 (Operand.tmp 40), type := 24, pos := "l07_part.go:122", after := #[{ on := 2, ground := Ground.data }], guard := none }) (v := ?vhb4) rfl (by kernel_rfl) (by kernel_rfl) (by kernel_rfl) (by kernel_rfl) (fun _ _ _ h => h) (Or.inl ⟨by rfl, ?hyhb4⟩) hHeld ?_
      case hyhb4 => (intro w hSw; (try dsimp only at hSw); go_simp <;> with_reducible rfl)
      try simp only [Act.put, List.setIfInBounds_toArray, List.set_cons_zero, List.set_cons_succ]
      refine Hld.anyL_take (i := 4) (oi := { dst := some 42, op := Op.indexAddr 24 (Operand.tmp 41) (Operand.const (Value.int IntKind.i64 0)), type := 0, pos := "l07_part.go:122", after := #[{ on := 3, ground := Ground.data }], guard := none }) (v := ?vhb5) rfl (by kernel_rfl) (by kernel_rfl) (by kernel_rfl) (by kernel_rfl) (fun _ _ _ h => h) (Or.inl ⟨by rfl, ?hyhb5⟩) hHeld ?_
      case hyhb5 => (intro w hSw; (try dsimp only at hSw); go_simp <;> with_reducible rfl)
      try simp only [Act.put, List.setIfInBounds_toArray, List.set_cons_zero, List.set_cons_succ]
      refine Hld.anyL_ready (rs := [5]) (by kernel_rfl) (by simp) ?_
      refine Hld.AllL.cons (o := { dst := some 43, op := Op.load 96 (Operand.tmp 42), type := 96, pos := "l07_part.go:122", after := #[{ on := 4, ground := Ground.data }], guard := none }) rfl (fun K hK => ?_) Hld.AllL.nil
      have y0 := HY0.out.1
      have y1 := HY0.out.2
      go_simp
      clear y0 y1
      clear hHeld
      refine hK.out _ _ (HX.out.bX.drew.cell 2) (fun hHeld => ?_)
      clear hK K
      try simp only [Act.put, List.setIfInBounds_toArray, List.set_cons_zero, List.set_cons_succ]
      refine Hld.anyL_ready (rs := [6]) (by kernel_rfl) (by simp) ?_
      refine Hld.AllL.cons (o := { dst := some 44, op := Op.call { callee := Callee.value (Operand.func 118), args := #[Operand.tmp 43], argTypes := #[96] }, type := 96, pos := "l07_part.go:122", after := #[{ on := 5, ground := Ground.data }], guard := none }) rfl (fun K hK => ?_) Hld.AllL.nil
      go_simp
      refine HCa.out.mono ?_
      rintro r wyc ⟨f2, M2, cap2, rs2, rfl, hx, hab, hne, hfi, h7, hf2⟩
      have HXc : Hid (HSt w c X wyc (-1) vr (.slice (some ⟨M, 0, none⟩) cs.length cap) (some ⟨M, 0, none⟩) cap cs) := hx
      have HY : Hid (AB (w.heap.size + 1) wyc M2 cap2 rs2 ∧ (∀ y ∈ cs, ∀ k, blks y.M y.rs k → ¬ blks M2 rs2 k) ∧ Fines (pals rs2) ∧ rs2.length ≤ 7 ∧ DrawA.I64 f2) := ⟨hab, hne, hfi, h7, hf2⟩
      clear hx hab hne hfi h7 hf2
      clear hHeld
      refine hK.out _ _ (HXc.out.bX.cell 2) (fun hHeld => ?_)
      clear hK K
      try simp only [Act.put, List.setIfInBounds_toArray, List.set_cons_zero, List.set_cons_succ]
      refine Hld.anyL_ready (rs := [7]) (by kernel_rfl) (by simp) ?_
      refine Hld.AllL.cons (o := { dst := some 45, op := Op.buildSlice 24 1 #[(0, Operand.tmp 44)], type := 24, pos := "l07_part.go:122", after := #[{ on := 6, ground := Ground.data }], guard := none }) rfl (fun K hK => ?_) Hld.AllL.nil
      go_simp
      clear hHeld
      refine hK.out _ _ ((HXc.out.grow (Go.Joins.below_alloc1 wyc _)).bX.cell 2) (fun hHeld => ?_)
      clear hK K
      try simp only [Act.put, List.setIfInBounds_toArray, List.set_cons_zero, List.set_cons_succ]
      refine Hld.anyL_ready (rs := [8]) (by kernel_rfl) (by simp) ?_
      refine Hld.AllL.cons (o := { dst := some 46, op := Op.call { callee := Callee.builtin Builtin.append, args := #[Operand.tmp 39, Operand.tmp 45], argTypes := #[24, 24] }, type := 24, pos := "l07_part.go:122", after := #[{ on := 1, ground := Ground.data }, { on := 7, ground := Ground.data }, { on := 6, ground := Ground.chain }], guard := none }) rfl (fun K hK => ?_) Hld.AllL.nil
      have hXd : HSt w c X (wyc.alloc (.cells #[.int .i64 f2, .slice (some ⟨M2, 0, none⟩) rs2.length cap2] 96)) (-1) vr (.slice (some ⟨M, 0, none⟩) cs.length cap) (some ⟨M, 0, none⟩) cap cs := HXc.out.grow (Go.Joins.below_alloc1 wyc _)
      obtain ⟨xs, hox, hxl, hxs⟩ := PL.own hXd.list
      refine step_appB rfl _ _ 24 rfl 96 j0 (.agg #[.int .i64 0, .slice none 0 0]) 2 32 Tryz.underlying24 HI.out.1 HI.out.2.1 HI.out.2.2.1 HI.out.2.2.2 rfl (by decide) (w.heap.size + 1) ?hbkb (.slice (some ⟨M, 0, none⟩) cs.length cap) cs.length xs rfl hox ⟨wyc.heap.size, 0, none⟩ 1 1 (rowC (⟨f2, M2, cap2, rs2⟩ : CRow)) rfl rfl (blk_news (Blk.new wyc _ _)) (rowC_one _) ?hbkc ?hbkd ?_
      case hbkb => have := hXd.ord; omega
      case hbkc => have := HV.out; unfold maxLen; omega
      case hbkd => have := HV.out; omega
      intro v' wya hown hg hat
      obtain ⟨M3, c3, e3, hXA⟩ := hXd.app (x := (⟨f2, M2, cap2, rs2⟩ : CRow)) (HY.out.1.grow (Go.Joins.below_alloc1 wyc _)) HY.out.2.1 ⟨HY.out.2.2.1, by show (pals rs2).length ≤ 7; rw [pals_len]; exact HY.out.2.2.2.1, HY.out.2.2.2.2⟩ hxl hxs hown hg
      subst e3
      have HXA : Hid (HSt w c X wya (-1) vr (.slice (some ⟨M, 0, none⟩) cs.length cap) (some ⟨M3, 0, none⟩) c3 (cs ++ [(⟨f2, M2, cap2, rs2⟩ : CRow)])) := hXA
      clear hown hg hat hXA hXd hox hxl hxs
      clear hHeld
      refine hK.out _ _ (HXA.out.bX.cell 2) (fun hHeld => ?_)
      clear hK K
      try simp only [Act.put, List.setIfInBounds_toArray, List.set_cons_zero, List.set_cons_succ]
      refine Hld.anyL_take (i := 9) (oi := { dst := some 47, op := Op.fieldAddr 26 (Operand.tmp 7) 2, type := 0, pos := "l07_part.go:122", after := #[{ on := 0, ground := Ground.phase }, { on := 1, ground := Ground.phase }, { on := 2, ground := Ground.phase }, { on := 3, ground := Ground.phase }, { on := 4, ground := Ground.phase }, { on := 5, ground := Ground.phase }, { on := 6, ground := Ground.phase }, { on := 7, ground := Ground.phase }, { on := 8, ground := Ground.phase }], guard := none }) (v := ?vhb10) rfl (by kernel_rfl) (by kernel_rfl) (by kernel_rfl) (by kernel_rfl) (fun _ _ _ h => h) (Or.inl ⟨by rfl, ?hyhb10⟩) hHeld ?_
      case hyhb10 => (intro w hSw; (try dsimp only at hSw); go_simp <;> with_reducible rfl)
      try simp only [Act.put, List.setIfInBounds_toArray, List.set_cons_zero, List.set_cons_succ]
      refine Hld.anyL_ready (rs := [10]) (by kernel_rfl) (by simp) ?_
      refine Hld.AllL.last (o := { dst := none, op := Op.store 24 (Operand.tmp 47) (Operand.tmp 46), type := 0, pos := "l07_part.go:122", after := #[{ on := 9, ground := Ground.data }, { on := 8, ground := Ground.data }, { on := 8, ground := Ground.chain }, { on := 0, ground := Ground.phase }, { on := 1, ground := Ground.phase }, { on := 2, ground := Ground.phase }, { on := 3, ground := Ground.phase }, { on := 4, ground := Ground.phase }, { on := 5, ground := Ground.phase }, { on := 6, ground := Ground.phase }, { on := 7, ground := Ground.phase }, { on := 8, ground := Ground.phase }], guard := none }) rfl (fun K hK => ?_)
      have cD : wya.cell? ⟨X, 2, none⟩ = some (.slice (some ⟨M, 0, none⟩) cs.length cap) := HXA.out.bX.cell 2
      have fD := HXA.out.bX.frozen 2
      go_simp
      refine hK.out _ _ ?_
      clear hK K cD fD
      try simp only [Act.put, List.setIfInBounds_toArray, List.set_cons_zero, List.set_cons_succ]
      refine Hld.anyL_done (by kernel_rfl) ?_ _
      have HXZ : Hid (HSt w c X (wya.setCell ⟨X, 2, none⟩ (.slice (some ⟨M3, 0, none⟩) (cs.length + 1) c3)) (-1) vr (.slice (some ⟨M3, 0, none⟩) (cs.length + 1) c3) (some ⟨M3, 0, none⟩) c3 (cs ++ [(⟨f2, M2, cap2, rs2⟩ : CRow)])) := HXA.out.set2 _
      clear hHeld HXA HXc HY
      generalize wya.setCell ⟨X, 2, none⟩ (.slice (some ⟨M3, 0, none⟩) (cs.length + 1) c3) = W3 at *
      have r0 : W3.cell? ⟨w.heap.size, 0, none⟩ = some (.int .i64 0) := HXZ.out.bR.cell 0
      have r1 : W3.cell? ⟨w.heap.size, 1, none⟩ = some (.int .i64 0) := HXZ.out.bR.cell 1
      have r2 : W3.cell? ⟨w.heap.size, 2, none⟩ = some (.slice none 0 0) := HXZ.out.bR.cell 2
      have fr0 := HXZ.out.bR.frozen 0
      have fr1 := HXZ.out.bR.frozen 1
      have fr2 := HXZ.out.bR.frozen 2
      have x0 : W3.cell? ⟨X, 0, none⟩ = some (.int .i64 (-1)) := HXZ.out.bX.cell 0
      have x1 : W3.cell? ⟨X, 1, none⟩ = some (.int .i64 vr) := HXZ.out.bX.cell 1
      have x2 : W3.cell? ⟨X, 2, none⟩ = some (.slice (some ⟨M3, 0, none⟩) (cs.length + 1) c3) := HXZ.out.bX.cell 2
      go_wp2
      have hs := put3 HXZ.out.bR (.int .i64 (-1)) (.int .i64 vr) (.slice (some ⟨M3, 0, none⟩) (cs.length + 1) c3)
      have s0 := hs.cell 0
      have s1 := hs.cell 1
      have s2 := hs.cell 2
      refine bodyPost_ret (v := .agg #[.int .i64 (-1), .int .i64 vr, .slice (some ⟨M3, 0, none⟩) (cs.length + 1) c3]) (by simp [results, Tryz.results61, go_sem, s0, s1, s2]) rfl ?_
      exact ⟨(-1), vr, some ⟨M3, 0, none⟩, c3, cs ++ [(⟨f2, M2, cap2, rs2⟩ : CRow)], retP (by simp), HXZ.out.fin _ _ _, by simp; have := HV.out; omega, ⟨by omega, by omega⟩, by have := HV.out; omega, by have := HV.out; omega⟩
    ·
      have hr0' : ¬ (cs.length : Int) > 0 := by omega
      go_upto_region 12 with fail
      clear x2
      have r0 : w2.cell? ⟨w.heap.size, 0, none⟩ = some (.int .i64 0) := HX.out.bR.cell 0
      have r1 : w2.cell? ⟨w.heap.size, 1, none⟩ = some (.int .i64 0) := HX.out.bR.cell 1
      have r2 : w2.cell? ⟨w.heap.size, 2, none⟩ = some (.slice none 0 0) := HX.out.bR.cell 2
      have fr0 := HX.out.bR.frozen 0
      have fr1 := HX.out.bR.frozen 1
      have fr2 := HX.out.bR.frozen 2
      have x0 : w2.cell? ⟨X, 0, none⟩ = some (.int .i64 (-1)) := HX.out.bX.cell 0
      have x1 : w2.cell? ⟨X, 1, none⟩ = some (.int .i64 vr) := HX.out.bX.cell 1
      have x2 : w2.cell? ⟨X, 2, none⟩ = some (.slice a cs.length cap) := HX.out.bX.cell 2
      go_wp2
      have hs := put3 HX.out.bR (.int .i64 (-1)) (.int .i64 vr) (.slice a cs.length cap)
      have s0 := hs.cell 0
      have s1 := hs.cell 1
      have s2 := hs.cell 2
      refine bodyPost_ret (v := .agg #[.int .i64 (-1), .int .i64 vr, .slice a cs.length cap]) (by simp [results, Tryz.results61, go_sem, s0, s1, s2]) rfl ?_
      exact ⟨(-1), vr, a, cap, cs, rfl, HX.out.fin _ _ _, by have := HV.out; omega, ⟨by omega, by omega⟩, by have := HV.out; omega, by have := HV.out; omega⟩
  have d3' : (z == 3) = false := by simpa using e3
  go_upto_region 12 with fail
  have r0 : w2.cell? ⟨w.heap.size, 0, none⟩ = some (.int .i64 0) := HX.out.bR.cell 0
  have r1 : w2.cell? ⟨w.heap.size, 1, none⟩ = some (.int .i64 0) := HX.out.bR.cell 1
  have r2 : w2.cell? ⟨w.heap.size, 2, none⟩ = some (.slice none 0 0) := HX.out.bR.cell 2
  have fr0 := HX.out.bR.frozen 0
  have fr1 := HX.out.bR.frozen 1
  have fr2 := HX.out.bR.frozen 2
  have x0 : w2.cell? ⟨X, 0, none⟩ = some (.int .i64 (-1)) := HX.out.bX.cell 0
  have x1 : w2.cell? ⟨X, 1, none⟩ = some (.int .i64 vr) := HX.out.bX.cell 1
  have x2 : w2.cell? ⟨X, 2, none⟩ = some (.slice a cs.length cap) := HX.out.bX.cell 2
  go_wp2
  have hs := put3 HX.out.bR (.int .i64 (-1)) (.int .i64 vr) (.slice a cs.length cap)
  have s0 := hs.cell 0
  have s1 := hs.cell 1
  have s2 := hs.cell 2
  refine bodyPost_ret (v := .agg #[.int .i64 (-1), .int .i64 vr, .slice a cs.length cap]) (by simp [results, Tryz.results61, go_sem, s0, s1, s2]) rfl ?_
  exact ⟨(-1), vr, a, cap, cs, rfl, HX.out.fin _ _ _, by have := HV.out; omega, ⟨by omega, by omega⟩, by have := HV.out; omega, by have := HV.out; omega⟩
end Go.Proofs.YtooninmicfcfoaaGreat.DrawH
namespace Go.Proofs.YtooninmicfcfoaaGreat.DrawI
open Go.RowKit
open Draw
open Labs LabS Over Blk App DrawL DrawT Alms AlmM DrawA DrawB Rws ChnI ChnC ChnP ChnU ChnK DrawC DrawD DrawE Chs Prt PrtF PrtC DrawG DrawH
open LabT (Held infoL)
open LabR (flat flat_len flat_one)

structure QDr (w : World) (c : Nat) (wr : World) (g cap : Nat) (q : List Lab) : Prop where
  own : OwnA w.heap.size wr (g, cap, ⟨q, 0, 0, ByteArray.empty⟩)
  cur : Cur wr c
  kept : Kept c w wr
  fits : LabT.Fits q
  few : q.length ≤ 8
theorem qdr_of {w w1 wr : World} {c g cap : Nat} {p : List Lab} (hk : Kept c w w1) (h : LSt w1 c wr (.slice (some ⟨g, 0, none⟩) p.length cap) p) (hp : p.length ≤ 8) : QDr w c wr g cap p :=
  ⟨(own_lst h hp).down hk.size, h.cur, hk.trans h.kept, small_fits h.fit, hp⟩
set_option maxRecDepth 100000 in
set_option maxHeartbeats 1600000 in
theorem l7Labels_any (c M cap lo : Nat) (rs : List ARow) (w : World) (hc : Cur w c) (hab : AB lo w M cap rs) (hlo : c < lo) (hf : Fines (pals rs)) (hr : rs.length ≤ 1000) :
    Calls Tryz.prog 63 #[.pointer (some ⟨c, 0, none⟩), .slice (some ⟨M, 0, none⟩) rs.length cap] w fun r w' => ∃ (g cg : Nat) (q : List Lab), r = .returned (.slice (some ⟨g, 0, none⟩) q.length cg) ∧ QDr w c w' g cg q := by
  have HC : Hid (Cur w c) := hc
  have HA : Hid (AB lo w M cap rs ∧ c < lo ∧ Fines (pals rs)) := ⟨hab, hlo, hf⟩
  clear hc hab hlo hf
  obtain ⟨i0, hi, hz0, hz1, hz2⟩ := info_parts infoL
  by_cases hr0 : 0 < rs.length
  · have hr0' : (rs.length : Int) > 0 := by omega
    go_enter Tryz.func63, Tryz.ntmps63
    go_wp2_with fail
    refine (once_any c 3 _ HC.out (by decide) (by decide)).mono ?_
    rintro r w1 ⟨⟨b, rfl⟩, hc1, hk1⟩
    have HC1 : Hid (Cur w1 c ∧ Kept c w w1) := ⟨hc1, hk1⟩
    clear hc1 hk1
    cases b with
    | true =>
      go_wp2_with fail
      refine (l2Draw_any c _ HC1.out.1).mono ?_
      rintro r w2 ⟨v, rfl, p, hst, hp1, hp2⟩
      obtain ⟨g, cg, rfl⟩ := hst.lies
      have HQ : Hid (QDr w c w2 g cg p) := qdr_of HC1.out.2 hst (by omega)
      clear hst
      go_wp2
      go_ret
      exact ⟨g, cg, p, rfl, HQ.out⟩
    | false =>
      go_wp2_with fail
      refine (below_any c (rs.length : Int) _ (HC1.out.1.alloc _) (by omega) (by omega)).mono ?_
      rintro r w2 ⟨⟨z, rfl, hz0', hz1'⟩, hc2, hk2⟩
      obtain ⟨k, rfl⟩ := Int.eq_ofNat_of_zero_le hz0'
      have hkl : k < rs.length := by omega
      have hA2 : AB lo w2 M cap rs := ab_kept ((ab_kept HA.out.1 HC1.out.2 HA.out.2.1).grow (Go.Joins.below_alloc1 w1 _)) hk2 HA.out.2.1
      have HE : Hid (Blk w2 w1.heap.size #[] 127) := blk_kept (Blk.new w1 _ _) hk2 (by have := HC1.out.1.lt; omega)
      have HK2 : Hid (Cur w2 c ∧ Kept c w w2 ∧ w.heap.size ≤ w1.heap.size ∧ c < w.heap.size ∧ w1.heap.size < w2.heap.size) := ⟨hc2, (HC1.out.2.alloc _).trans hk2, HC1.out.2.size, HC.out.lt, HE.out.lt⟩
      obtain ⟨cu, hcu, hcs, h4⟩ := hA2.outer
      have h40 := h4 k hkl
      unfold Four at h40
      have y0 : w2.cell? ⟨M, k * 4, none⟩ = some (.slice (some ⟨(nthA rs k).1, 0, none⟩) (nthA rs k).2.2.l.length (nthA rs k).2.1) := (hcu.cell _).trans h40.1
      have hfk : Fine (nthA rs k).2.2 := by rw [← pals_nth hkl]; exact HA.out.2.2 _ (nthP_mem (by rw [pals_len]; exact hkl))
      have HFk : Hid (Fine (nthA rs k).2.2) := hfk
      have h8 : (nthA rs k).2.2.l.length ≤ 8 := hfk.2
      have HRd : Hid (Reads w2 (some ⟨(nthA rs k).1, 0, none⟩) (nthA rs k).2.2.l) := (hA2.rows _ (nthA_mem hkl)).reads
      have hk' : (k : Int) < (rs.length : Int) := by omega
      clear hz0' hz1' hc2 hk2 hA2 hcu hcs h4 h40 hfk
      go_wp2_with (at_builtin; refine wpList_append_own_at _ rfl _ _ 27 rfl w.heap.size 127 i0 (.agg #[.string ByteArray.empty, .string ByteArray.empty]) 2 32 Tryz.underlying27 hi hz0 hz1 hz2 rfl (by decide) _ _ _ rfl (own_empty HE.out HK2.out.2.2.1) ⟨(nthA rs k).1, 0, none⟩ (nthA rs k).2.2.l.length (nthA rs k).2.1 (flat (nthA rs k).2.2.l) rfl (flat_len _) (src_of HRd.out) (flat_one _) ?c3 ?c4 ?c5 ?_)
      case c3 => unfold maxLen; omega
      case c4 => omega
      case c5 => have := HK2.out; omega
      intro v' w3 hown hg hnil hat
      try rw [Nat.zero_add] at hown
      try rw [List.nil_append] at hown
      obtain ⟨Ml, cl, hv⟩ : ∃ g' c', v' = .slice (some ⟨g', 0, none⟩) (nthA rs k).2.2.l.length c' := by
        rcases hown.2 with ⟨e, _⟩ | ⟨g', c', cur, e, _⟩
        · exact absurd e hnil
        · exact ⟨g', c', e⟩
      subst hv
      have HQ : Hid (QDr w c w3 Ml cl (nthA rs k).2.2.l) := by
        obtain ⟨h1, cs, h2, h3, h5⟩ := own_row hown
        exact ⟨⟨h1, by show (nthA rs k).2.2.l.length ≤ _; omega, cs, h2, h3, h5⟩, HK2.out.1.grown hg (fun q hq => by cases hq; have := HK2.out; show c < w1.heap.size; omega), kept_grown (B := 0) HK2.out.2.1 hg (fun q hq => by cases hq; exact HK2.out.2.2.1), HFk.out.1.fits, HFk.out.2⟩
      clear hown hg hnil hat
      go_wp2
      go_ret
      exact ⟨Ml, cl, (nthA rs k).2.2.l, rfl, HQ.out⟩
  · have hr0' : ¬ (rs.length : Int) > 0 := by omega
    go_enter Tryz.func63, Tryz.ntmps63
    go_wp2_with fail
    refine (l2Draw_any c _ HC.out).mono ?_
    rintro r w2 ⟨v, rfl, p, hst, hp1, hp2⟩
    obtain ⟨g, cg, rfl⟩ := hst.lies
    have HQ : Hid (QDr w c w2 g cg p) := qdr_of (Kept.refl c w) hst (by omega)
    clear hst
    go_wp2
    go_ret
    exact ⟨g, cg, p, rfl, HQ.out⟩

def DPt (w : World) (a : Option Addr) (C : List PCh) : Prop := RdG RdN w a C ∧ FinC 7 C ∧ C.length ≤ 8
theorem dpt_of {lo : Nat} {w : World} {a : Option Addr} {cap : Nat} {cs : List CRow} (h : PL lo w a cap cs) (hf : FinC 7 (chs cs)) (h8 : cs.length ≤ 8) : DPt w a (chs cs) := ⟨h.rn, hf, by rw [chs_len]; exact h8⟩
theorem DPt.sum {w : World} {a : Option Addr} {C : List PCh} (h : DPt w a C) : sumC C ≤ 504 := by
  have h1 := h.2.1.sum
  have h2 : C.length * (9 * 7) ≤ 8 * 63 := Nat.mul_le_mul h.2.2 (by omega)
  omega
theorem finC_all {n : Nat} {C : List PCh} (h : FinC n C) : Fines (PrtA.allC C) := fun x hx => by
  obtain ⟨c, hc, h2⟩ := PrtA.allC_mem hx
  exact (h c hc).1 x h2
def Nums (hd vr : Int) : Prop := DrawA.I64 hd ∧ -1 ≤ vr ∧ vr ≤ 7
structure JSt (w : World) (c X : Nat) (wr : World) (hd vr : Int) (a : Option Addr) (cap : Nat) (cs : List CRow) : Prop where
  cur : Cur wr c
  low : Below w.heap.size w wr
  ord : w.heap.size < c ∧ c < X ∧ X < wr.heap.size
  bR : Blk wr w.heap.size #[.int .i64 0, .int .i64 0, .slice none 0 0] 26
  bX : Blk wr X #[.int .i64 hd, .int .i64 vr, .slice a cs.length cap] 26
  list : PL (c + 1) wr a cap cs
  fine : FinC 7 (chs cs)
  few : cs.length ≤ 8
  nums : Nums hd vr
theorem JSt.keep {w : World} {c X : Nat} {wr w' : World} {hd vr : Int} {a : Option Addr} {cap : Nat} {cs : List CRow} (h : JSt w c X wr hd vr a cap cs) (hc : Cur w' c) (hk : Kept c wr w') : JSt w c X w' hd vr a cap cs := by
  have h1 := h.ord
  exact ⟨hc, h.low.trans (hk.below (by omega) h.low.size), ⟨h1.1, h1.2.1, Nat.lt_of_lt_of_le h1.2.2 hk.size⟩, blk_kept h.bR hk (by omega), blk_kept h.bX hk (by omega), h.list.keep hk (by omega), h.fine, h.few, h.nums⟩
theorem JSt.grow {w : World} {c X : Nat} {wr w' : World} {hd vr : Int} {a : Option Addr} {cap : Nat} {cs : List CRow} (h : JSt w c X wr hd vr a cap cs) (hb : Below wr.heap.size wr w') : JSt w c X w' hd vr a cap cs := h.keep (cur_bel h.cur hb) (kept_bel hb)
theorem jst_of {w w1 w2 : World} {c : Nat} {hd vr : Int} {a : Option Addr} {cap : Nat} {cs : List CRow} (hc : w.heap.size < c) (hl : Below w.heap.size w w1) (hR : Blk w1 w.heap.size #[.int .i64 0, .int .i64 0, .slice none 0 0] 26) (h : PDr w1 c w2 a cap cs) (h8 : cs.length ≤ 8) (hn : Nums hd vr) : JSt w c w2.heap.size (w2.alloc (.cells #[.int .i64 hd, .int .i64 vr, .slice a cs.length cap] 26)) hd vr a cap cs := by
  have h0 := h.clt
  have h1 := h.kept.size
  exact ⟨h.cur.alloc _, (hl.trans (h.kept.below (by omega) hl.size)).alloc (by omega) _, ⟨hc, by omega, by simp⟩, (blk_kept hR h.kept (by omega)).alloc _, Blk.new _ _ _, (h.list.grow (Go.Joins.below_alloc1 w2 _)).down (by omega), h.fine, h8, hn⟩
theorem alarmsJ {w : World} {c X : Nat} {wr : World} {hd vr : Int} {a : Option Addr} {cap : Nat} {cs : List CRow} (h : JSt w c X wr hd vr a cap cs) {z : World} (hz : Below wr.heap.size wr z) :
    Calls Tryz.prog 28 #[.agg #[.int .i64 hd, .int .i64 vr, .slice a cs.length cap]] z fun r w' => (∃ M c2 rs, r = .returned (.slice (some ⟨M, 0, none⟩) rs.length c2) ∧ AB z.heap.size w' M c2 rs ∧ Fines (pals rs) ∧ rs.length ≤ 1000) ∧ Below z.heap.size z w' := by
  have hdp := dpt_of h.list h.fine h.few
  have hs := hdp.sum
  have h1 := PrtA.specAll_any hd vr a cap (chs cs) z (hdp.1.below stays_rn hz) (by have := hdp.2.2; omega) (hdp.2.1.small (by omega)) (by omega)
  rw [chs_len] at h1
  refine h1.mono fun r w' ⟨⟨M, c2, rs, hr, hab, hp⟩, hb⟩ => ⟨⟨M, c2, rs, hr, hab, by rw [hp]; exact finC_all hdp.2.1, ?_⟩, hb⟩
  have h2 := PrtA.allC_sum (chs cs)
  rw [← pals_len, hp]; omega
theorem ab_clearT {lo : Nat} {w : World} {N M cap : Nat} {rs : List ARow} {ds : Array Value} (h : AB lo w M cap rs) (hN : Blk w N ds 29) (hne : N ≠ M) (i : Nat) (v : Value) : AB lo (w.setCell ⟨N, i, none⟩ v) M cap rs := by
  refine ab_clear h hne (fun x hx e => ?_) i v
  obtain ⟨_, _, es, hb, _⟩ := h.rows x hx
  exact blkA_ne hN hb e.symm
theorem pl_clear {lo : Nat} {w : World} {a : Option Addr} {cap N : Nat} {cs : List CRow} {ds : Array Value} (h : PL lo w a cap cs) (hN : Blk w N ds 29) (hne : ∀ y ∈ cs, N ≠ y.M) (i : Nat) (v : Value) : PL lo (w.setCell ⟨N, i, none⟩ v) a cap cs := h.imp id fun ⟨M, e, k⟩ => ⟨M, e, by
  obtain ⟨cur, h1, h2⟩ := k.outer
  exact ⟨k.at', k.cap, ⟨cur, h1.set_other (blkT_ne hN h1 (by decide)) v, h2⟩, ⟨fun x hx => ab_clearT (k.rows.rows x hx) hN (hne x hx) i v, k.rows.ne⟩⟩⟩
theorem PL.rowM {lo : Nat} {w : World} {a : Option Addr} {cap : Nat} {cs : List CRow} (h : PL lo w a cap cs) : ∀ y ∈ cs, y.M < w.heap.size := fun y hy => PL.high h y hy y.M (.inl rfl)
theorem retP1 {a : Option Addr} {n n' c : Nat} {hd vr : Int} {v : Value} (h : n = n') : Ending.returned (.tuple #[.agg #[.int .i64 hd, .int .i64 vr, .slice a n c], v]) = .returned (.tuple #[.agg #[.int .i64 hd, .int .i64 vr, .slice a n' c], v]) := by rw [h]
theorem retP2 {a : Option Addr} {n n' c : Nat} {hd vr : Int} {v u : Value} (h : n = n') : Ending.returned (.tuple #[.agg #[.int .i64 hd, .int .i64 vr, .slice a n c], v, u]) = .returned (.tuple #[.agg #[.int .i64 hd, .int .i64 vr, .slice a n' c], v, u]) := by rw [h]
theorem blk3 {w : World} {M N : Nat} {cs : Array Value} {T : TypeId} (h : Blk w N cs T) (hne : M ≠ N) (v0 v1 v2 : Value) : Blk (((w.setCell ⟨M, 0, none⟩ v0).setCell ⟨M, 1, none⟩ v1).setCell ⟨M, 2, none⟩ v2) N cs T := ((h.set_other hne v0).set_other hne v1).set_other hne v2
theorem pl3 {lo : Nat} {w : World} {A : Nat} {a : Option Addr} {cap : Nat} {cs : List CRow} (h : PL lo w a cap cs) (hA : A < lo) (v0 v1 v2 : Value) : PL lo (((w.setCell ⟨A, 0, none⟩ v0).setCell ⟨A, 1, none⟩ v1).setCell ⟨A, 2, none⟩ v2) a cap cs := ((h.under hA _ _).under hA _ _).under hA _ _
theorem pl4 {lo : Nat} {w : World} {A : Nat} {a : Option Addr} {cap : Nat} {cs : List CRow} (h : PL lo w a cap cs) (hA : A < lo) (v0 v1 v2 v3 : Value) : PL lo ((((w.setCell ⟨A, 0, none⟩ v0).setCell ⟨A, 1, none⟩ v1).setCell ⟨A, 2, none⟩ v2).setCell ⟨A, 3, none⟩ v3) a cap cs := (pl3 h hA _ _ _).under hA _ _
theorem own3 {lo : Nat} {w : World} {x : ARow} {A : Nat} (h : OwnA lo w x) (hA : A < lo) (v0 v1 v2 : Value) : OwnA lo (((w.setCell ⟨A, 0, none⟩ v0).setCell ⟨A, 1, none⟩ v1).setCell ⟨A, 2, none⟩ v2) x := by
  have hne : A ≠ x.1 := by have := h.1; omega
  exact own_set (own_set (own_set h hne _ _) hne _ _) hne _ _
set_option maxRecDepth 100000 in
set_option maxHeartbeats 3200000 in
theorem drawPartOk_any (a : Option Addr) (len cap : Nat) (w : World) (hl : len ≤ maxLen) (hb : Bytes w a len w.heap.size) :
    Calls Tryz.prog 17 #[.slice a len cap] w fun r w' => (∃ (hd vr : Int) (a : Option Addr) (cap : Nat) (C : List PCh) (i n : Int), r = .returned (.tuple #[.agg #[.int .i64 hd, .int .i64 vr, .slice a C.length cap], .int .i64 i, .int .i64 n]) ∧ DPt w' a C ∧ Nums hd vr ∧ DrawA.I64 n) ∧ Below w.heap.size w w' := by
  have HB : Hid (Bytes w a len w.heap.size) := hb
  have HL : Hid (len ≤ maxLen) := hl
  clear hb hl
  go_enter Tryz.func17, Tryz.ntmps17
  go_wp2_with fail
  refine (new_any a len cap _ HL.out (LawB.bytes_up HB.out (Go.Joins.below_alloc1 w _))).mono ?_
  rintro r w1 ⟨rfl, hc1, hb1⟩
  have HC1 : Hid (Cur w1 (w.heap.size + 1)) := by simp at hc1; exact hc1
  have HR1 : Hid (Blk w1 w.heap.size #[.int .i64 0, .int .i64 0, .slice none 0 0] 26) := (Blk.new _ _ _).grow hb1
  have HB1 : Hid (Below w.heap.size w w1) := grow_on (Go.Joins.below_alloc1 w _) hb1
  clear hc1 hb1 HB HL
  go_wp2_with fail
  refine (below_any (w.heap.size + 1) 3 _ HC1.out (by decide) (by decide)).mono ?_
  rintro r wa ⟨⟨n0, rfl, hn0, hn1⟩, hca, hka⟩
  have HRa : Hid (Blk wa w.heap.size #[.int .i64 0, .int .i64 0, .slice none 0 0] 26) := blk_kept HR1.out hka (by omega)
  have HBa : Hid (Below w.heap.size w wa) := HB1.out.trans (hka.below (by omega) HB1.out.size)
  have HCa : Hid (Cur wa (w.heap.size + 1)) := hca
  clear hca hka HR1 HB1 HC1
  obtain ⟨n, en⟩ : ∃ n, 1 + n0 = n := ⟨_, rfl⟩
  have hn2 : 1 ≤ n ∧ n ≤ 3 := by omega
  have ew : IntKind.i64.wrap (1 + n0) = n := by rw [IntKind.wrap_i64]; omega
  clear hn0 hn1
  go_wp2_with fail
  clear ew
  try rw [en]
  clear en
  refine (below_any (w.heap.size + 1) n _ HCa.out (by omega) (by omega)).mono ?_
  rintro r w1 ⟨⟨i, rfl, hi0, hi1⟩, hcb, hkb⟩
  have HR1 : Hid (Blk w1 w.heap.size #[.int .i64 0, .int .i64 0, .slice none 0 0] 26) := blk_kept HRa.out hkb (by omega)
  have HB1 : Hid (Below w.heap.size w w1) := HBa.out.trans (hkb.below (by omega) HBa.out.size)
  have HC1 : Hid (Cur w1 (w.heap.size + 1)) := hcb
  clear hcb hkb HRa HBa HCa
  go_wp2_with fail
  refine (l7Any_any (w.heap.size + 1) i n _ HC1.out ⟨by omega, by omega⟩).mono ?_
  rintro r w2 ⟨hd, vr, a, cap, cs, rfl, hpd, h8, hn1, hn2, hn3⟩
  have HY2 : Hid (JSt w (w.heap.size + 1) w2.heap.size (w2.alloc (.cells #[.int .i64 hd, .int .i64 vr, .slice a cs.length cap] 26)) hd vr a cap cs) := jst_of (by omega) HB1.out HR1.out hpd h8 ⟨hn1, hn2, hn3⟩
  clear hpd HC1 HR1 HB1 hn1 hn3
  go_wp2_with fail
  refine (once_any (w.heap.size + 1) 8 _ HY2.out.cur (by decide) (by decide)).mono ?_
  rintro r w3 ⟨⟨b, rfl⟩, hc3, hk3⟩
  have HY : Hid (JSt w (w.heap.size + 1) w2.heap.size w3 hd vr a cap cs) := HY2.out.keep hc3 hk3
  clear hc3 hk3 HY2
  generalize w2.heap.size = X at HY ⊢
  have x0 : w3.cell? ⟨X, 0, none⟩ = some (.int .i64 hd) := HY.out.bX.cell 0
  have x1 : w3.cell? ⟨X, 1, none⟩ = some (.int .i64 vr) := HY.out.bX.cell 1
  have x2 : w3.cell? ⟨X, 2, none⟩ = some (.slice a cs.length cap) := HY.out.bX.cell 2
  have r0 : w3.cell? ⟨w.heap.size, 0, none⟩ = some (.int .i64 0) := HY.out.bR.cell 0
  have frr0 := HY.out.bR.frozen 0
  have r1 : w3.cell? ⟨w.heap.size, 1, none⟩ = some (.int .i64 0) := HY.out.bR.cell 1
  have frr1 := HY.out.bR.frozen 1
  have r2 : w3.cell? ⟨w.heap.size, 2, none⟩ = some (.slice none 0 0) := HY.out.bR.cell 2
  have frr2 := HY.out.bR.frozen 2
  cases b with
  | true =>
    have ew : IntKind.i64.wrap (n + 1) = n + 1 := by rw [IntKind.wrap_i64]; omega
    go_wp2
    have hs := put3 HY.out.bR (.int .i64 hd) (.int .i64 vr) (.slice a cs.length cap)
    have s0 := hs.cell 0
    have s1 := hs.cell 1
    have s2 := hs.cell 2
    refine bodyPost_ret (v := .tuple #[.agg #[.int .i64 hd, .int .i64 vr, .slice a cs.length cap], .int .i64 i, .int .i64 (n + 1)]) (by simp [results, Tryz.results17, go_sem, s0, s1, s2]) rfl ?_
    exact ⟨⟨hd, vr, a, cap, chs cs, i, (n + 1), retP2 (chs_len cs).symm, dpt_of (pl3 HY.out.list (by omega) _ _ _) HY.out.fine HY.out.few, HY.out.nums, by omega, by omega⟩, set3 HY.out.low (Nat.le_refl _) _ _ _⟩
  | false =>
    go_wp2
    have hs := put3 HY.out.bR (.int .i64 hd) (.int .i64 vr) (.slice a cs.length cap)
    have s0 := hs.cell 0
    have s1 := hs.cell 1
    have s2 := hs.cell 2
    refine bodyPost_ret (v := .tuple #[.agg #[.int .i64 hd, .int .i64 vr, .slice a cs.length cap], .int .i64 i, .int .i64 n]) (by simp [results, Tryz.results17, go_sem, s0, s1, s2]) rfl ?_
    exact ⟨⟨hd, vr, a, cap, chs cs, i, n, retP2 (chs_len cs).symm, dpt_of (pl3 HY.out.list (by omega) _ _ _) HY.out.fine HY.out.few, HY.out.nums, by omega, by omega⟩, set3 HY.out.low (Nat.le_refl _) _ _ _⟩
set_option maxRecDepth 100000 in
set_option maxHeartbeats 3200000 in
theorem drawSweep_any (a : Option Addr) (len cap : Nat) (w : World) (hl : len ≤ maxLen) (hb : Bytes w a len w.heap.size) :
    Calls Tryz.prog 14 #[.slice a len cap] w fun r w' => (∃ (hd vr : Int) (a : Option Addr) (cap : Nat) (C : List PCh) (now : Int), r = .returned (.tuple #[.agg #[.int .i64 hd, .int .i64 vr, .slice a C.length cap], .int .i64 now]) ∧ DPt w' a C ∧ Nums hd vr ∧ DrawA.I64 now) ∧ Below w.heap.size w w' := by
  have HB : Hid (Bytes w a len w.heap.size) := hb
  have HL : Hid (len ≤ maxLen) := hl
  clear hb hl
  go_enter Tryz.func14, Tryz.ntmps14
  go_wp2_with fail
  refine (new_any a len cap _ HL.out (LawB.bytes_up HB.out (Go.Joins.below_alloc1 w _))).mono ?_
  rintro r w1 ⟨rfl, hc1, hb1⟩
  have HC1 : Hid (Cur w1 (w.heap.size + 1)) := by simp at hc1; exact hc1
  have HR1 : Hid (Blk w1 w.heap.size #[.int .i64 0, .int .i64 0, .slice none 0 0] 26) := (Blk.new _ _ _).grow hb1
  have HB1 : Hid (Below w.heap.size w w1) := grow_on (Go.Joins.below_alloc1 w _) hb1
  clear hc1 hb1 HB HL
  go_wp2_with fail
  refine (l7Any_any (w.heap.size + 1) 0 1 _ HC1.out ⟨by omega, by omega⟩).mono ?_
  rintro r wya ⟨hd, vr, a, cap, cs, rfl, hpd, h8, hn1, hn2, hn3⟩
  have HK : Hid (Kept (w.heap.size + 1) w1 wya) := hpd.kept
  have HA : Hid (PL (w.heap.size + 2) wya a cap cs ∧ Cur wya (w.heap.size + 1) ∧ FinC 7 (chs cs)) := ⟨hpd.list.down (by have := hpd.clt; omega), hpd.cur, hpd.fine⟩
  clear hpd
  go_wp2_with fail
  refine (int_any (w.heap.size + 1) _ 0 6 6 (wya.alloc (.cells #[.int .i64 0, .int .i64 3, .int .i64 8, .int .i64 12, .int .i64 30, .int .i64 100] 3)) (HA.out.2.1.alloc _) (row_lit (w := wya) (by decide) rfl HA.out.2.1.lt) (by decide) (by decide)).mono ?_
  rintro r wyi ⟨⟨now, rfl, hno⟩, hci, hki⟩
  have HKi : Hid (Kept (w.heap.size + 1) w1 wyi) := (HK.out.alloc _).trans hki
  have HAi : Hid (PL (w.heap.size + 2) wyi a cap cs ∧ FinC 7 (chs cs)) := ⟨(HA.out.1.grow (Go.Joins.below_alloc1 wya _)).keep hki (by omega), HA.out.2.2⟩
  have HRi : Hid (Blk wyi w.heap.size #[.int .i64 0, .int .i64 0, .slice none 0 0] 26) := blk_kept HR1.out HKi.out (by omega)
  have r0 : wyi.cell? ⟨w.heap.size, 0, none⟩ = some (.int .i64 0) := HRi.out.cell 0
  have frr0 := HRi.out.frozen 0
  have r1 : wyi.cell? ⟨w.heap.size, 1, none⟩ = some (.int .i64 0) := HRi.out.cell 1
  have frr1 := HRi.out.frozen 1
  have r2 : wyi.cell? ⟨w.heap.size, 2, none⟩ = some (.slice none 0 0) := HRi.out.cell 2
  have frr2 := HRi.out.frozen 2
  clear hci hki
  go_wp2
  have hs := put3 HRi.out (.int .i64 hd) (.int .i64 vr) (.slice a cs.length cap)
  have s0 := hs.cell 0
  have s1 := hs.cell 1
  have s2 := hs.cell 2
  refine bodyPost_ret (v := .tuple #[.agg #[.int .i64 hd, .int .i64 vr, .slice a cs.length cap], .int .i64 now]) (by simp [results, Tryz.results14, go_sem, s0, s1, s2]) rfl ?_
  exact ⟨⟨hd, vr, a, cap, chs cs, now, retP1 (chs_len cs).symm, dpt_of (pl3 HAi.out.1 (by omega) _ _ _) HAi.out.2 h8, ⟨hn1, hn2, hn3⟩, hno⟩, set3 (HB1.out.trans (HKi.out.below (by omega) HB1.out.size)) (Nat.le_refl _) _ _ _⟩
set_option maxRecDepth 100000 in
set_option maxHeartbeats 3200000 in
theorem drawFind_any (a : Option Addr) (len cap : Nat) (w : World) (hl : len ≤ maxLen) (hb : Bytes w a len w.heap.size) :
    Calls Tryz.prog 11 #[.slice a len cap] w fun r w' => (∃ (hd vr : Int) (a : Option Addr) (cap : Nat) (C : List PCh) (g c2 : Nat) (q : List Lab), r = .returned (.tuple #[.agg #[.int .i64 hd, .int .i64 vr, .slice a C.length cap], .slice (some ⟨g, 0, none⟩) q.length c2]) ∧ DPt w' a C ∧ Nums hd vr ∧ Reads w' (some ⟨g, 0, none⟩) q ∧ LabT.Fits q ∧ q.length ≤ 8) ∧ Below w.heap.size w w' := by
  have HB : Hid (Bytes w a len w.heap.size) := hb
  have HL : Hid (len ≤ maxLen) := hl
  clear hb hl
  go_enter Tryz.func11, Tryz.ntmps11
  go_wp2_with fail
  refine (new_any a len cap _ HL.out (LawB.bytes_up HB.out (Go.Joins.below_alloc1 w _))).mono ?_
  rintro r w1 ⟨rfl, hc1, hb1⟩
  have HC1 : Hid (Cur w1 (w.heap.size + 1)) := by simp at hc1; exact hc1
  have HR1 : Hid (Blk w1 w.heap.size #[.int .i64 0, .int .i64 0, .slice none 0 0] 26) := (Blk.new _ _ _).grow hb1
  have HB1 : Hid (Below w.heap.size w w1) := grow_on (Go.Joins.below_alloc1 w _) hb1
  clear hc1 hb1 HB HL
  go_wp2_with fail
  refine (l7Any_any (w.heap.size + 1) 0 1 _ HC1.out ⟨by omega, by omega⟩).mono ?_
  rintro r w2 ⟨hd, vr, a, cap, cs, rfl, hpd, h8, hn1, hn2, hn3⟩
  have HY2 : Hid (JSt w (w.heap.size + 1) w2.heap.size (w2.alloc (.cells #[.int .i64 hd, .int .i64 vr, .slice a cs.length cap] 26)) hd vr a cap cs) := jst_of (by omega) HB1.out HR1.out hpd h8 ⟨hn1, hn2, hn3⟩
  clear hpd HC1 HR1 HB1 hn1 hn2 hn3 h8
  go_upto_region 3 with fail
  obtain ⟨w3, hw3⟩ : ∃ w3, w2.alloc (.cells #[.int .i64 hd, .int .i64 vr, .slice a cs.length cap] 26) = w3 := ⟨_, rfl⟩
  rw [hw3] at HY2 ⊢
  have HY : Hid (JSt w (w.heap.size + 1) w2.heap.size w3 hd vr a cap cs) := HY2.out
  clear hw3 HY2
  generalize w2.heap.size = X at HY ⊢
  have HS : Hid (∀ w', Blk w' X #[.int .i64 hd, .int .i64 vr, .slice a cs.length cap] 26 → w'.cell? ⟨X, 0, none⟩ = some (.int .i64 hd) ∧ w'.cell? ⟨X, 1, none⟩ = some (.int .i64 vr) ∧ w'.cell? ⟨X, 2, none⟩ = some (.slice a cs.length cap)) := fun w' h => ⟨h.cell 0, h.cell 1, h.cell 2⟩
  refine wp_region_held_drew (S := fun w' => w'.cell? ⟨X, 0, none⟩ = some (.int .i64 hd) ∧ w'.cell? ⟨X, 1, none⟩ = some (.int .i64 vr) ∧ w'.cell? ⟨X, 2, none⟩ = some (.slice a cs.length cap)) (by kernel_rfl) (HS.out _ HY.out.bX.drew) (fun hHeld => ?_)
  refine wpAnyH_take (i := 0) (oi := { dst := some 10, op := Op.load 26 (Operand.tmp 5), type := 26, pos := "l07_part.go:159", after := #[], guard := none }) (v := ?vf0) rfl (by kernel_rfl) (by kernel_rfl) (by kernel_rfl) (fun _ _ _ h => h) (Or.inl ⟨by rfl, ?hyf0⟩) hHeld ?_
  case hyf0 => (intro w hSw; (try dsimp only at hSw); go_simp <;> with_reducible rfl)
  try simp only [Act.put, List.setIfInBounds_toArray, List.set_cons_zero, List.set_cons_succ]
  refine wpAnyH_take (i := 1) (oi := { dst := some 11, op := Op.move (Operand.tmp 4), type := 82, pos := "l07_part.go:159", after := #[], guard := none }) (v := ?vf1) rfl (by kernel_rfl) (by kernel_rfl) (by kernel_rfl) (fun _ _ _ h => h) (Or.inl ⟨by rfl, ?hyf1⟩) hHeld ?_
  case hyf1 => (intro w hSw; (try dsimp only at hSw); go_simp <;> with_reducible rfl)
  try simp only [Act.put, List.setIfInBounds_toArray, List.set_cons_zero, List.set_cons_succ]
  refine wpAnyH_take (i := 2) (oi := { dst := some 12, op := Op.load 26 (Operand.tmp 5), type := 26, pos := "l07_part.go:159", after := #[], guard := none }) (v := ?vf2) rfl (by kernel_rfl) (by kernel_rfl) (by kernel_rfl) (fun _ _ _ h => h) (Or.inl ⟨by rfl, ?hyf2⟩) hHeld ?_
  case hyf2 => (intro w hSw; (try dsimp only at hSw); go_simp <;> with_reducible rfl)
  try simp only [Act.put, List.setIfInBounds_toArray, List.set_cons_zero, List.set_cons_succ]
  refine wpAnyH_ready (rs := [3]) (by kernel_rfl) (by simp) ?_
  refine AllReadyH.cons (o := { dst := some 13, op := Op.call { callee := Callee.value (Operand.func 28), args := #[Operand.tmp 12], argTypes := #[26] }, type := 40, pos := "l07_part.go:159", after := #[{ on := 2, ground := Ground.data }], guard := none }) rfl (fun K hK => ?_) AllReadyH.nil
  go_simp
  refine (alarmsJ HY.out (Below.refl _ _).drew).mono ?_
  rintro r wyf3 ⟨⟨AM, Ac, Ar, rfl, hab, hfi, hal⟩, hy⟩
  have HY4 : Hid (JSt w (w.heap.size + 1) X wyf3 hd vr a cap cs) := HY.out.grow (grow_on (Below.refl _ _).drew hy)
  have HAB : Hid (AB (w.heap.size + 2) wyf3 AM Ac Ar ∧ Fines (pals Ar) ∧ Ar.length ≤ 1000) := ⟨hab.down (by have := HY.out.ord; simp; omega), hfi, hal⟩
  clear hab hfi hal hy
  clear hHeld
  refine hK.out _ _ (HS.out _ HY4.out.bX) (fun hHeld => ?_)
  clear hK K
  try simp only [Act.put, List.setIfInBounds_toArray, List.set_cons_zero, List.set_cons_succ]
  refine wpAnyH_ready (rs := [4]) (by kernel_rfl) (by simp) ?_
  refine AllReadyH.cons (o := { dst := some 14, op := Op.call { callee := Callee.value (Operand.func 63), args := #[Operand.tmp 11, Operand.tmp 13], argTypes := #[82, 40] }, type := 27, pos := "l07_part.go:159", after := #[{ on := 1, ground := Ground.data }, { on := 3, ground := Ground.data }, { on := 3, ground := Ground.chain }], guard := none }) rfl (fun K hK => ?_) AllReadyH.nil
  go_simp
  refine (l7Labels_any (w.heap.size + 1) AM Ac (w.heap.size + 2) Ar wyf3 HY4.out.cur HAB.out.1 (by omega) HAB.out.2.1 HAB.out.2.2).mono ?_
  rintro r wyf4 ⟨g, cg, q, rfl, hq⟩
  have HY5 : Hid (JSt w (w.heap.size + 1) X wyf4 hd vr a cap cs) := HY4.out.keep hq.cur hq.kept
  have HQ : Hid (OwnA (w.heap.size + 2) wyf4 (g, cg, ⟨q, 0, 0, ByteArray.empty⟩) ∧ LabT.Fits q ∧ q.length ≤ 8) := ⟨hq.own.down (by have := HY4.out.ord; omega), hq.fits, hq.few⟩
  have hneX : w.heap.size ≠ X := by have := HY.out.ord; omega
  clear hq
  clear hHeld
  refine hK.out _ _ (HS.out _ HY5.out.bX) (fun hHeld => ?_)
  clear hK K
  try simp only [Act.put, List.setIfInBounds_toArray, List.set_cons_zero, List.set_cons_succ]
  have r0 : wyf4.cell? ⟨w.heap.size, 0, none⟩ = some (.int .i64 0) := HY5.out.bR.cell 0
  have frr0 := HY5.out.bR.frozen 0
  have r1 : wyf4.cell? ⟨w.heap.size, 1, none⟩ = some (.int .i64 0) := HY5.out.bR.cell 1
  have frr1 := HY5.out.bR.frozen 1
  have r2 : wyf4.cell? ⟨w.heap.size, 2, none⟩ = some (.slice none 0 0) := HY5.out.bR.cell 2
  have frr2 := HY5.out.bR.frozen 2
  refine wpAnyH_ready (rs := [5]) (by kernel_rfl) (by simp) ?_
  refine AllReadyH.cons (o := { dst := none, op := Op.store 26 (Operand.tmp 2) (Operand.tmp 10), type := 0, pos := "l07_part.go:159", after := #[{ on := 0, ground := Ground.data }, { on := 4, ground := Ground.chain }, { on := 0, ground := Ground.phase }, { on := 1, ground := Ground.textOnly Departure.lateStores }, { on := 2, ground := Ground.textOnly Departure.lateStores }, { on := 3, ground := Ground.textOnly Departure.lateStoresUnsure }, { on := 4, ground := Ground.textOnly Departure.lateStoresUnsure }], guard := none }) rfl (fun K hK => ?_) AllReadyH.nil
  go_simp
  clear hHeld
  refine hK.out _ _ (HS.out _ (blk3 HY5.out.bX hneX _ _ _)) (fun hHeld => ?_)
  clear hK K
  try simp only [Act.put, List.setIfInBounds_toArray, List.set_cons_zero, List.set_cons_succ]
  refine wpAnyH_ready (rs := [6]) (by kernel_rfl) (by simp) ?_
  refine AllReadyH.cons (o := { dst := some 3, op := Op.assign (Operand.tmp 14), type := 27, pos := "l07_part.go:159", after := #[{ on := 4, ground := Ground.data }, { on := 5, ground := Ground.chain }, { on := 0, ground := Ground.phase }, { on := 1, ground := Ground.phase }, { on := 2, ground := Ground.phase }, { on := 3, ground := Ground.phase }, { on := 4, ground := Ground.phase }, { on := 5, ground := Ground.phase }], guard := none }) rfl (fun K hK => ?_) AllReadyH.nil
  go_simp
  clear hHeld
  refine hK.out _ _ (HS.out _ (blk3 HY5.out.bX hneX _ _ _)) (fun hHeld => ?_)
  clear hK K
  try simp only [Act.put, List.setIfInBounds_toArray, List.set_cons_zero, List.set_cons_succ]
  refine wpAnyH_done (by kernel_rfl) ?_ _
  go_wp2
  have hs := put3 HY5.out.bR (.int .i64 hd) (.int .i64 vr) (.slice a cs.length cap)
  have s0 := hs.cell 0
  have s1 := hs.cell 1
  have s2 := hs.cell 2
  refine bodyPost_ret (v := .tuple #[.agg #[.int .i64 hd, .int .i64 vr, .slice a cs.length cap], .slice (some ⟨g, 0, none⟩) q.length cg]) (by simp [results, Tryz.results11, go_sem, s0, s1, s2]) rfl ?_
  exact ⟨⟨hd, vr, a, cap, chs cs, g, cg, q, retP1 (chs_len cs).symm, dpt_of (pl3 HY5.out.list (by omega) _ _ _) HY5.out.fine HY5.out.few, HY5.out.nums, (own3 HQ.out.1 (by omega) _ _ _).reads, HQ.out.2.1, HQ.out.2.2⟩, set3 HY5.out.low (Nat.le_refl _) _ _ _⟩
set_option maxRecDepth 100000 in
set_option maxHeartbeats 3200000 in
theorem drawSameP_any (a : Option Addr) (len cap : Nat) (w : World) (hl : len ≤ maxLen) (hb : Bytes w a len w.heap.size) :
    Calls Tryz.prog 18 #[.slice a len cap] w fun r w' => (∃ (hd vr : Int) (a : Option Addr) (cap : Nat) (C : List PCh) (hd2 vr2 : Int) (a2 : Option Addr) (cap2 : Nat) (D : List PCh), r = .returned (.tuple #[.agg #[.int .i64 hd, .int .i64 vr, .slice a C.length cap], .agg #[.int .i64 hd2, .int .i64 vr2, .slice a2 D.length cap2]]) ∧ DPt w' a C ∧ DPt w' a2 D) ∧ Below w.heap.size w w' := by
  have HB : Hid (Bytes w a len w.heap.size) := hb
  have HL : Hid (len ≤ maxLen) := hl
  clear hb hl
  go_enter Tryz.func18, Tryz.ntmps18
  go_wp2_with fail
  refine (new_any a len cap _ HL.out (LawB.bytes_up HB.out (Go.Joins.below_alloc2 w _ _))).mono ?_
  rintro r w1 ⟨rfl, hc1, hb1⟩
  have HC1 : Hid (Cur w1 (w.heap.size + 2)) := by simp at hc1; exact hc1
  have HR1 : Hid (Blk w1 w.heap.size #[.int .i64 0, .int .i64 0, .slice none 0 0] 26) := ((Blk.new _ _ _).alloc _).grow hb1
  have HV1 : Hid (Blk w1 (w.heap.size + 1) #[.int .i64 0, .int .i64 0, .slice none 0 0] 26) := (Blk.new_at (by simp)).grow hb1
  have HB1 : Hid (Below w.heap.size w w1) := grow_on (Go.Joins.below_alloc2 w _ _) hb1
  clear hc1 hb1 HB HL
  go_wp2_with fail
  refine (l7Any_any (w.heap.size + 2) 0 1 _ HC1.out ⟨by omega, by omega⟩).mono ?_
  rintro r w2 ⟨hd, vr, a, cap, cs, rfl, hpd, h8, hn1, hn2, hn3⟩
  have HY2 : Hid (JSt w (w.heap.size + 2) w2.heap.size (w2.alloc (.cells #[.int .i64 hd, .int .i64 vr, .slice a cs.length cap] 26)) hd vr a cap cs) := jst_of (by omega) HB1.out HR1.out hpd h8 ⟨hn1, hn2, hn3⟩
  have HV2 : Hid (Blk (w2.alloc (.cells #[.int .i64 hd, .int .i64 vr, .slice a cs.length cap] 26)) (w.heap.size + 1) #[.int .i64 0, .int .i64 0, .slice none 0 0] 26) := (blk_kept HV1.out hpd.kept (by omega)).alloc _
  clear hpd HC1 HR1 HB1 HV1 hn1 hn2 hn3 h8
  go_wp2_with fail
  refine (once_any (w.heap.size + 2) 2 _ HY2.out.cur (by decide) (by decide)).mono ?_
  rintro r w3 ⟨⟨b, rfl⟩, hc3, hk3⟩
  have HY : Hid (JSt w (w.heap.size + 2) w2.heap.size w3 hd vr a cap cs) := HY2.out.keep hc3 hk3
  have HV : Hid (Blk w3 (w.heap.size + 1) #[.int .i64 0, .int .i64 0, .slice none 0 0] 26) := blk_kept HV2.out hk3 (by omega)
  clear hc3 hk3 HY2 HV2
  generalize w2.heap.size = X at HY ⊢
  have HS : Hid (∀ w', Blk w' X #[.int .i64 hd, .int .i64 vr, .slice a cs.length cap] 26 → w'.cell? ⟨X, 0, none⟩ = some (.int .i64 hd) ∧ w'.cell? ⟨X, 1, none⟩ = some (.int .i64 vr) ∧ w'.cell? ⟨X, 2, none⟩ = some (.slice a cs.length cap)) := fun w' h => ⟨h.cell 0, h.cell 1, h.cell 2⟩
  cases b with
  | true =>
    have HCb : Hid (Calls Tryz.prog 69 #[.agg #[.int .i64 hd, .int .i64 vr, .slice a cs.length cap]] w3.drew fun r w' => ∃ (hd2 vr2 : Int) (a2 : Option Addr) (cap2 : Nat) (cs2 : List CRow), r = .returned (.agg #[.int .i64 hd2, .int .i64 vr2, .slice a2 cs2.length cap2]) ∧ JSt w (w.heap.size + 2) X w' hd vr a cap cs ∧ Blk w' (w.heap.size + 1) #[.int .i64 0, .int .i64 0, .slice none 0 0] 26 ∧ PL (w.heap.size + 3) w' a2 cap2 cs2 ∧ FinC 7 (chs cs2) ∧ cs2.length ≤ 8) := by
      have hdp := dpt_of HY.out.list HY.out.fine HY.out.few
      have h := l7Copy_any hd vr a cap (chs cs) w3.drew (hdp.1.below stays_rn (Below.refl _ _).drew) (by have := hdp.2.2; omega) (hdp.2.1.small (by omega))
      rw [chs_len] at h
      refine h.mono fun r w' ⟨⟨M2, c2, cs2, hr, hcb, hp⟩, hb⟩ => ?_
      have hb' : Below w3.heap.size w3 w' := grow_on (Below.refl _ _).drew hb
      exact ⟨hd, vr, some ⟨M2, 0, none⟩, c2, cs2, hr, HY.out.grow hb', HV.out.grow hb', .inr ⟨M2, rfl, hcb.down (by have := HY.out.ord; show _ ≤ w3.drew.heap.size; simp; omega)⟩, by rw [hp]; exact HY.out.fine, by rw [← chs_len, hp, chs_len]; exact HY.out.few⟩
    go_upto_region 4 with fail
    refine wp_region_held_drew (S := fun w' => w'.cell? ⟨X, 0, none⟩ = some (.int .i64 hd) ∧ w'.cell? ⟨X, 1, none⟩ = some (.int .i64 vr) ∧ w'.cell? ⟨X, 2, none⟩ = some (.slice a cs.length cap)) (by kernel_rfl) (HS.out _ HY.out.bX.drew) (fun hHeld => ?_)
    refine wpAnyH_take (i := 0) (oi := { dst := some 12, op := Op.load 26 (Operand.tmp 5), type := 26, pos := "l07_part.go:143", after := #[], guard := none }) (v := ?vs40) rfl (by kernel_rfl) (by kernel_rfl) (by kernel_rfl) (fun _ _ _ h => h) (Or.inl ⟨by rfl, ?hys40⟩) hHeld ?_
    case hys40 => (intro w hSw; (try dsimp only at hSw); go_simp <;> with_reducible rfl)
    try simp only [Act.put, List.setIfInBounds_toArray, List.set_cons_zero, List.set_cons_succ]
    refine wpAnyH_take (i := 1) (oi := { dst := some 13, op := Op.load 26 (Operand.tmp 5), type := 26, pos := "l07_part.go:143", after := #[], guard := none }) (v := ?vs41) rfl (by kernel_rfl) (by kernel_rfl) (by kernel_rfl) (fun _ _ _ h => h) (Or.inl ⟨by rfl, ?hys41⟩) hHeld ?_
    case hys41 => (intro w hSw; (try dsimp only at hSw); go_simp <;> with_reducible rfl)
    try simp only [Act.put, List.setIfInBounds_toArray, List.set_cons_zero, List.set_cons_succ]
    refine wpAnyH_ready (rs := [2]) (by kernel_rfl) (by simp) ?_
    refine AllReadyH.cons (o := { dst := some 14, op := Op.call { callee := Callee.value (Operand.func 69), args := #[Operand.tmp 13], argTypes := #[26] }, type := 26, pos := "l07_part.go:143", after := #[{ on := 1, ground := Ground.data }], guard := none }) rfl (fun K hK => ?_) AllReadyH.nil
    go_simp
    refine (HCb.out).mono ?_
    rintro r wys42 ⟨hd2, vr2, a2, cap2, cs2, rfl, hy, hv, hpl, hfi, h8⟩
    have HY4 : Hid (JSt w (w.heap.size + 2) X wys42 hd vr a cap cs) := hy
    have HV4 : Hid (Blk wys42 (w.heap.size + 1) #[.int .i64 0, .int .i64 0, .slice none 0 0] 26) := hv
    have HAB : Hid (PL (w.heap.size + 3) wys42 a2 cap2 cs2 ∧ FinC 7 (chs cs2) ∧ cs2.length ≤ 8) := ⟨hpl, hfi, h8⟩
    have hneX : w.heap.size ≠ X ∧ w.heap.size + 1 ≠ X := by have := hy.ord; exact ⟨by omega, by omega⟩
    have r0 : wys42.cell? ⟨w.heap.size, 0, none⟩ = some (.int .i64 0) := hy.bR.cell 0
    have frr0 := hy.bR.frozen 0
    have r1 : wys42.cell? ⟨w.heap.size, 1, none⟩ = some (.int .i64 0) := hy.bR.cell 1
    have frr1 := hy.bR.frozen 1
    have r2 : wys42.cell? ⟨w.heap.size, 2, none⟩ = some (.slice none 0 0) := hy.bR.cell 2
    have frr2 := hy.bR.frozen 2
    have v0 : wys42.cell? ⟨w.heap.size + 1, 0, none⟩ = some (.int .i64 0) := hv.cell 0
    have frv0 := hv.frozen 0
    have v1 : wys42.cell? ⟨w.heap.size + 1, 1, none⟩ = some (.int .i64 0) := hv.cell 1
    have frv1 := hv.frozen 1
    have v2 : wys42.cell? ⟨w.heap.size + 1, 2, none⟩ = some (.slice none 0 0) := hv.cell 2
    have frv2 := hv.frozen 2
    clear hy hv hpl hfi h8
    clear hHeld
    refine hK.out _ _ (HS.out _ HY4.out.bX) (fun hHeld => ?_)
    clear hK K
    try simp only [Act.put, List.setIfInBounds_toArray, List.set_cons_zero, List.set_cons_succ]
    refine wpAnyH_ready (rs := [3]) (by kernel_rfl) (by simp) ?_
    refine AllReadyH.cons (o := { dst := none, op := Op.store 26 (Operand.tmp 2) (Operand.tmp 12), type := 0, pos := "l07_part.go:143", after := #[{ on := 0, ground := Ground.data }, { on := 2, ground := Ground.chain }, { on := 0, ground := Ground.phase }, { on := 1, ground := Ground.textOnly Departure.lateStores }, { on := 2, ground := Ground.textOnly Departure.lateStoresUnsure }], guard := none }) rfl (fun K hK => ?_) AllReadyH.nil
    go_simp
    clear hHeld
    refine hK.out _ _ (HS.out _ (blk3 HY4.out.bX hneX.1 _ _ _)) (fun hHeld => ?_)
    clear hK K
    try simp only [Act.put, List.setIfInBounds_toArray, List.set_cons_zero, List.set_cons_succ]
    refine wpAnyH_ready (rs := [4]) (by kernel_rfl) (by simp) ?_
    refine AllReadyH.cons (o := { dst := none, op := Op.store 26 (Operand.tmp 3) (Operand.tmp 14), type := 0, pos := "l07_part.go:143", after := #[{ on := 2, ground := Ground.data }, { on := 3, ground := Ground.chain }, { on := 0, ground := Ground.phase }, { on := 1, ground := Ground.phase }, { on := 2, ground := Ground.phase }, { on := 3, ground := Ground.phase }], guard := none }) rfl (fun K hK => ?_) AllReadyH.nil
    go_simp
    clear hHeld
    refine hK.out _ _ (HS.out _ (blk3 (blk3 HY4.out.bX hneX.1 _ _ _) hneX.2 _ _ _)) (fun hHeld => ?_)
    clear hK K
    try simp only [Act.put, List.setIfInBounds_toArray, List.set_cons_zero, List.set_cons_succ]
    refine wpAnyH_done (by kernel_rfl) ?_ _
    go_wp2
    have hs : Blk ((((((wys42.setCell ⟨w.heap.size, 0, none⟩ (.int .i64 hd)).setCell ⟨w.heap.size, 1, none⟩ (.int .i64 vr)).setCell ⟨w.heap.size, 2, none⟩ (.slice a cs.length cap)).setCell ⟨w.heap.size + 1, 0, none⟩ (.int .i64 hd2)).setCell ⟨w.heap.size + 1, 1, none⟩ (.int .i64 vr2)).setCell ⟨w.heap.size + 1, 2, none⟩ (.slice a2 cs2.length cap2)) w.heap.size #[.int .i64 hd, .int .i64 vr, .slice a cs.length cap] 26 := blk3 (put3 HY4.out.bR _ _ _) (by omega) _ _ _
    have ht : Blk ((((((wys42.setCell ⟨w.heap.size, 0, none⟩ (.int .i64 hd)).setCell ⟨w.heap.size, 1, none⟩ (.int .i64 vr)).setCell ⟨w.heap.size, 2, none⟩ (.slice a cs.length cap)).setCell ⟨w.heap.size + 1, 0, none⟩ (.int .i64 hd2)).setCell ⟨w.heap.size + 1, 1, none⟩ (.int .i64 vr2)).setCell ⟨w.heap.size + 1, 2, none⟩ (.slice a2 cs2.length cap2)) (w.heap.size + 1) #[.int .i64 hd2, .int .i64 vr2, .slice a2 cs2.length cap2] 26 := put3 (blk3 HV4.out (by omega) _ _ _) _ _ _
    have s0 := hs.cell 0
    have s1 := hs.cell 1
    have s2 := hs.cell 2
    have t0 := ht.cell 0
    have t1 := ht.cell 1
    have t2 := ht.cell 2
    refine bodyPost_ret (v := .tuple #[.agg #[.int .i64 hd, .int .i64 vr, .slice a cs.length cap], .agg #[.int .i64 hd2, .int .i64 vr2, .slice a2 cs2.length cap2]]) (by simp [results, Tryz.results18, go_sem, s0, s1, s2, t0, t1, t2]) rfl ?_
    exact ⟨⟨hd, vr, a, cap, chs cs, hd2, vr2, a2, cap2, chs cs2, by rw [chs_len, chs_len], dpt_of (pl3 (pl3 HY4.out.list (by omega) _ _ _) (by omega) _ _ _) HY4.out.fine HY4.out.few, dpt_of (pl3 (pl3 HAB.out.1 (by omega) _ _ _) (by omega) _ _ _) HAB.out.2.1 HAB.out.2.2⟩, set3 (set3 HY4.out.low (Nat.le_refl _) _ _ _) (by omega) _ _ _⟩
  | false =>
    have HCb : Hid (Calls Tryz.prog 61 #[.pointer (some ⟨w.heap.size + 2, 0, none⟩), .int .i64 0, .int .i64 1] w3.drew fun r w' => ∃ (hd2 vr2 : Int) (a2 : Option Addr) (cap2 : Nat) (cs2 : List CRow), r = .returned (.agg #[.int .i64 hd2, .int .i64 vr2, .slice a2 cs2.length cap2]) ∧ JSt w (w.heap.size + 2) X w' hd vr a cap cs ∧ Blk w' (w.heap.size + 1) #[.int .i64 0, .int .i64 0, .slice none 0 0] 26 ∧ PL (w.heap.size + 3) w' a2 cap2 cs2 ∧ FinC 7 (chs cs2) ∧ cs2.length ≤ 8) := by
      refine (l7Any_any (w.heap.size + 2) 0 1 w3.drew (Cur.drewN HY.out.cur 1) ⟨by omega, by omega⟩).mono fun r w' ⟨hd2, vr2, a2, c2, cs2, hr, hpd, h8, _⟩ => ?_
      have hk := kept_drew hpd.kept
      exact ⟨hd2, vr2, a2, c2, cs2, hr, HY.out.keep hpd.cur hk, blk_kept HV.out hk (by omega), hpd.list.down (by have := HY.out.ord; show _ ≤ w3.drew.heap.size + 1; simp; omega), hpd.fine, h8⟩
    go_upto_region 5 with fail
    refine wp_region_held_drew (S := fun w' => w'.cell? ⟨X, 0, none⟩ = some (.int .i64 hd) ∧ w'.cell? ⟨X, 1, none⟩ = some (.int .i64 vr) ∧ w'.cell? ⟨X, 2, none⟩ = some (.slice a cs.length cap)) (by kernel_rfl) (HS.out _ HY.out.bX.drew) (fun hHeld => ?_)
    refine wpAnyH_take (i := 0) (oi := { dst := some 15, op := Op.load 26 (Operand.tmp 5), type := 26, pos := "l07_part.go:145", after := #[], guard := none }) (v := ?vs50) rfl (by kernel_rfl) (by kernel_rfl) (by kernel_rfl) (fun _ _ _ h => h) (Or.inl ⟨by rfl, ?hys50⟩) hHeld ?_
    case hys50 => (intro w hSw; (try dsimp only at hSw); go_simp <;> with_reducible rfl)
    try simp only [Act.put, List.setIfInBounds_toArray, List.set_cons_zero, List.set_cons_succ]
    refine wpAnyH_take (i := 1) (oi := { dst := some 16, op := Op.move (Operand.tmp 4), type := 82, pos := "l07_part.go:145", after := #[], guard := none }) (v := ?vs51) rfl (by kernel_rfl) (by kernel_rfl) (by kernel_rfl) (fun _ _ _ h => h) (Or.inl ⟨by rfl, ?hys51⟩) hHeld ?_
    case hys51 => (intro w hSw; (try dsimp only at hSw); go_simp <;> with_reducible rfl)
    try simp only [Act.put, List.setIfInBounds_toArray, List.set_cons_zero, List.set_cons_succ]
    refine wpAnyH_ready (rs := [2]) (by kernel_rfl) (by simp) ?_
    refine AllReadyH.cons (o := { dst := some 17, op := Op.call { callee := Callee.value (Operand.func 61), args := #[Operand.tmp 16, Operand.const (Value.int IntKind.i64 0), Operand.const (Value.int IntKind.i64 1)], argTypes := #[82, 3, 3] }, type := 26, pos := "l07_part.go:145", after := #[{ on := 1, ground := Ground.data }], guard := none }) rfl (fun K hK => ?_) AllReadyH.nil
    go_simp
    refine (HCb.out).mono ?_
    rintro r wys52 ⟨hd2, vr2, a2, cap2, cs2, rfl, hy, hv, hpl, hfi, h8⟩
    have HY4 : Hid (JSt w (w.heap.size + 2) X wys52 hd vr a cap cs) := hy
    have HV4 : Hid (Blk wys52 (w.heap.size + 1) #[.int .i64 0, .int .i64 0, .slice none 0 0] 26) := hv
    have HAB : Hid (PL (w.heap.size + 3) wys52 a2 cap2 cs2 ∧ FinC 7 (chs cs2) ∧ cs2.length ≤ 8) := ⟨hpl, hfi, h8⟩
    have hneX : w.heap.size ≠ X ∧ w.heap.size + 1 ≠ X := by have := hy.ord; exact ⟨by omega, by omega⟩
    have r0 : wys52.cell? ⟨w.heap.size, 0, none⟩ = some (.int .i64 0) := hy.bR.cell 0
    have frr0 := hy.bR.frozen 0
    have r1 : wys52.cell? ⟨w.heap.size, 1, none⟩ = some (.int .i64 0) := hy.bR.cell 1
    have frr1 := hy.bR.frozen 1
    have r2 : wys52.cell? ⟨w.heap.size, 2, none⟩ = some (.slice none 0 0) := hy.bR.cell 2
    have frr2 := hy.bR.frozen 2
    have v0 : wys52.cell? ⟨w.heap.size + 1, 0, none⟩ = some (.int .i64 0) := hv.cell 0
    have frv0 := hv.frozen 0
    have v1 : wys52.cell? ⟨w.heap.size + 1, 1, none⟩ = some (.int .i64 0) := hv.cell 1
    have frv1 := hv.frozen 1
    have v2 : wys52.cell? ⟨w.heap.size + 1, 2, none⟩ = some (.slice none 0 0) := hv.cell 2
    have frv2 := hv.frozen 2
    clear hy hv hpl hfi h8
    clear hHeld
    refine hK.out _ _ (HS.out _ HY4.out.bX) (fun hHeld => ?_)
    clear hK K
    try simp only [Act.put, List.setIfInBounds_toArray, List.set_cons_zero, List.set_cons_succ]
    refine wpAnyH_ready (rs := [3]) (by kernel_rfl) (by simp) ?_
    refine AllReadyH.cons (o := { dst := none, op := Op.store 26 (Operand.tmp 2) (Operand.tmp 15), type := 0, pos := "l07_part.go:145", after := #[{ on := 0, ground := Ground.data }, { on := 2, ground := Ground.chain }, { on := 0, ground := Ground.phase }, { on := 1, ground := Ground.textOnly Departure.lateStores }, { on := 2, ground := Ground.textOnly Departure.lateStoresUnsure }], guard := none }) rfl (fun K hK => ?_) AllReadyH.nil
    go_simp
    clear hHeld
    refine hK.out _ _ (HS.out _ (blk3 HY4.out.bX hneX.1 _ _ _)) (fun hHeld => ?_)
    clear hK K
    try simp only [Act.put, List.setIfInBounds_toArray, List.set_cons_zero, List.set_cons_succ]
    refine wpAnyH_ready (rs := [4]) (by kernel_rfl) (by simp) ?_
    refine AllReadyH.cons (o := { dst := none, op := Op.store 26 (Operand.tmp 3) (Operand.tmp 17), type := 0, pos := "l07_part.go:145", after := #[{ on := 2, ground := Ground.data }, { on := 3, ground := Ground.chain }, { on := 0, ground := Ground.phase }, { on := 1, ground := Ground.phase }, { on := 2, ground := Ground.phase }, { on := 3, ground := Ground.phase }], guard := none }) rfl (fun K hK => ?_) AllReadyH.nil
    go_simp
    clear hHeld
    refine hK.out _ _ (HS.out _ (blk3 (blk3 HY4.out.bX hneX.1 _ _ _) hneX.2 _ _ _)) (fun hHeld => ?_)
    clear hK K
    try simp only [Act.put, List.setIfInBounds_toArray, List.set_cons_zero, List.set_cons_succ]
    refine wpAnyH_done (by kernel_rfl) ?_ _
    go_wp2
    have hs : Blk ((((((wys52.setCell ⟨w.heap.size, 0, none⟩ (.int .i64 hd)).setCell ⟨w.heap.size, 1, none⟩ (.int .i64 vr)).setCell ⟨w.heap.size, 2, none⟩ (.slice a cs.length cap)).setCell ⟨w.heap.size + 1, 0, none⟩ (.int .i64 hd2)).setCell ⟨w.heap.size + 1, 1, none⟩ (.int .i64 vr2)).setCell ⟨w.heap.size + 1, 2, none⟩ (.slice a2 cs2.length cap2)) w.heap.size #[.int .i64 hd, .int .i64 vr, .slice a cs.length cap] 26 := blk3 (put3 HY4.out.bR _ _ _) (by omega) _ _ _
    have ht : Blk ((((((wys52.setCell ⟨w.heap.size, 0, none⟩ (.int .i64 hd)).setCell ⟨w.heap.size, 1, none⟩ (.int .i64 vr)).setCell ⟨w.heap.size, 2, none⟩ (.slice a cs.length cap)).setCell ⟨w.heap.size + 1, 0, none⟩ (.int .i64 hd2)).setCell ⟨w.heap.size + 1, 1, none⟩ (.int .i64 vr2)).setCell ⟨w.heap.size + 1, 2, none⟩ (.slice a2 cs2.length cap2)) (w.heap.size + 1) #[.int .i64 hd2, .int .i64 vr2, .slice a2 cs2.length cap2] 26 := put3 (blk3 HV4.out (by omega) _ _ _) _ _ _
    have s0 := hs.cell 0
    have s1 := hs.cell 1
    have s2 := hs.cell 2
    have t0 := ht.cell 0
    have t1 := ht.cell 1
    have t2 := ht.cell 2
    refine bodyPost_ret (v := .tuple #[.agg #[.int .i64 hd, .int .i64 vr, .slice a cs.length cap], .agg #[.int .i64 hd2, .int .i64 vr2, .slice a2 cs2.length cap2]]) (by simp [results, Tryz.results18, go_sem, s0, s1, s2, t0, t1, t2]) rfl ?_
    exact ⟨⟨hd, vr, a, cap, chs cs, hd2, vr2, a2, cap2, chs cs2, by rw [chs_len, chs_len], dpt_of (pl3 (pl3 HY4.out.list (by omega) _ _ _) (by omega) _ _ _) HY4.out.fine HY4.out.few, dpt_of (pl3 (pl3 HAB.out.1 (by omega) _ _ _) (by omega) _ _ _) HAB.out.2.1 HAB.out.2.2⟩, set3 (set3 HY4.out.low (Nat.le_refl _) _ _ _) (by omega) _ _ _⟩
set_option maxRecDepth 100000 in
set_option maxHeartbeats 3200000 in
theorem drawPutIn_any (a : Option Addr) (len cap : Nat) (w : World) (hl : len ≤ maxLen) (hb : Bytes w a len w.heap.size) :
    Calls Tryz.prog 8 #[.slice a len cap] w fun r w' => (∃ (hd vr : Int) (a : Option Addr) (cap : Nat) (C : List PCh) (g c2 : Nat) (x : PAl), r = .returned (.tuple #[.agg #[.int .i64 hd, .int .i64 vr, .slice a C.length cap], .agg #[.slice (some ⟨g, 0, none⟩) x.l.length c2, .int .i64 x.s, .int .i64 x.e, .string x.n]]) ∧ DPt w' a C ∧ Nums hd vr ∧ DAl w' g x) ∧ Below w.heap.size w w' := by
  have HB : Hid (Bytes w a len w.heap.size) := hb
  have HL : Hid (len ≤ maxLen) := hl
  clear hb hl
  go_enter Tryz.func8, Tryz.ntmps8
  go_wp2_with fail
  refine (new_any a len cap _ HL.out (LawB.bytes_up HB.out (Go.Joins.below_alloc2 w _ _))).mono ?_
  rintro r w1 ⟨rfl, hc1, hb1⟩
  have HC1 : Hid (Cur w1 (w.heap.size + 2)) := by simp at hc1; exact hc1
  have HR1 : Hid (Blk w1 w.heap.size #[.int .i64 0, .int .i64 0, .slice none 0 0] 26) := ((Blk.new _ _ _).alloc _).grow hb1
  have HV1 : Hid (Blk w1 (w.heap.size + 1) #[.slice none 0 0, .int .i64 0, .int .i64 0, .string ⟨#[]⟩] 29) := (Blk.new_at (by simp)).grow hb1
  have HB1 : Hid (Below w.heap.size w w1) := grow_on (Go.Joins.below_alloc2 w _ _) hb1
  clear hc1 hb1 HB HL
  go_wp2_with fail
  refine (l7Any_any (w.heap.size + 2) 0 1 _ HC1.out ⟨by omega, by omega⟩).mono ?_
  rintro r w2 ⟨hd, vr, a, cap, cs, rfl, hpd, h8, hn1, hn2, hn3⟩
  have HY2 : Hid (JSt w (w.heap.size + 2) w2.heap.size (w2.alloc (.cells #[.int .i64 hd, .int .i64 vr, .slice a cs.length cap] 26)) hd vr a cap cs) := jst_of (by omega) HB1.out HR1.out hpd h8 ⟨hn1, hn2, hn3⟩
  have HV2 : Hid (Blk (w2.alloc (.cells #[.int .i64 hd, .int .i64 vr, .slice a cs.length cap] 26)) (w.heap.size + 1) #[.slice none 0 0, .int .i64 0, .int .i64 0, .string ⟨#[]⟩] 29) := (blk_kept HV1.out hpd.kept (by omega)).alloc _
  clear hpd HC1 HR1 HB1 HV1 hn1 hn2 hn3 h8
  go_wp2_with fail
  refine (l4Draw_any (w.heap.size + 2) _ HY2.out.cur).mono ?_
  rintro r w4 ⟨g, cg, p, s, e, n, rfl, hst, hp, hs, he, hn⟩
  have HF : Hid (Fine ⟨p, s, e, n⟩) := fine_of hp hst.fit hs he hn
  have HY4 : Hid (JSt w (w.heap.size + 2) w2.heap.size w4 hd vr a cap cs) := HY2.out.keep hst.cur hst.kept
  have HV4 : Hid (Blk w4 (w.heap.size + 1) #[.slice none 0 0, .int .i64 0, .int .i64 0, .string ⟨#[]⟩] 29) := blk_kept HV2.out hst.kept (by omega)
  clear hst hp hs he hn HY2 HV2
  generalize w2.heap.size = X at HY4 ⊢
  obtain ⟨w5, hw5⟩ : ∃ w5, w4.alloc (.cells #[.slice (some ⟨g, 0, none⟩) p.length cg, .int .i64 s, .int .i64 e, .string n] 29) = w5 := ⟨_, rfl⟩
  have hb5 : Below w4.heap.size w4 w5 := by rw [← hw5]; exact Go.Joins.below_alloc1 w4 _
  have HY5 : Hid (JSt w (w.heap.size + 2) X w5 hd vr a cap cs) := HY4.out.grow hb5
  have HV5 : Hid (Blk w5 (w.heap.size + 1) #[.slice none 0 0, .int .i64 0, .int .i64 0, .string ⟨#[]⟩] 29) := HV4.out.grow hb5
  have HA5 : Hid (Blk w5 w4.heap.size #[.slice (some ⟨g, 0, none⟩) p.length cg, .int .i64 s, .int .i64 e, .string n] 29) := by rw [← hw5]; exact Blk.new _ _ _
  have HXA : Hid (X < w4.heap.size ∧ w4.heap.size < w5.heap.size) := ⟨HY4.out.ord.2.2, HA5.out.lt⟩
  have HPA : Hid (∀ y ∈ cs, w4.heap.size ≠ y.M) := fun y hy e => by have := PL.rowM HY4.out.list y hy; omega
  have x0 : w5.cell? ⟨X, 0, none⟩ = some (.int .i64 hd) := HY5.out.bX.cell 0
  have x1 : w5.cell? ⟨X, 1, none⟩ = some (.int .i64 vr) := HY5.out.bX.cell 1
  have x2 : w5.cell? ⟨X, 2, none⟩ = some (.slice a cs.length cap) := HY5.out.bX.cell 2
  clear hb5 HY4 HV4
  go_wp2_with fail
  refine (alarmsJ HY5.out (Below.refl _ _)).mono ?_
  rintro r w6 ⟨⟨AM, Ac, Ar, rfl, hab, hfi, hal⟩, hb6⟩
  have HY6 : Hid (JSt w (w.heap.size + 2) X w6 hd vr a cap cs) := HY5.out.grow hb6
  have HV6 : Hid (Blk w6 (w.heap.size + 1) #[.slice none 0 0, .int .i64 0, .int .i64 0, .string ⟨#[]⟩] 29) := HV5.out.grow hb6
  have HA6 : Hid (Blk w6 w4.heap.size #[.slice (some ⟨g, 0, none⟩) p.length cg, .int .i64 s, .int .i64 e, .string n] 29) := HA5.out.grow hb6
  have HR6 : Hid (AB (w.heap.size + 3) w6 AM Ac Ar ∧ Fines (pals Ar) ∧ Ar.length ≤ 1000 ∧ w4.heap.size < w6.heap.size) := ⟨hab.down (by have := HY5.out.ord; omega), hfi, hal, HA6.out.lt⟩
  clear hab hfi hal hb6 hw5 x0 x1 x2 HY5 HV5 HA5
  go_wp2_with fail
  refine (l7Labels_any (w.heap.size + 2) AM Ac (w.heap.size + 3) Ar w6 HY6.out.cur HR6.out.1 (by omega) HR6.out.2.1 HR6.out.2.2.1).mono ?_
  rintro r w7 ⟨g2, cg2, q, rfl, hq⟩
  have HY7 : Hid (JSt w (w.heap.size + 2) X w7 hd vr a cap cs) := HY6.out.keep hq.cur hq.kept
  have HV7 : Hid (Blk w7 (w.heap.size + 1) #[.slice none 0 0, .int .i64 0, .int .i64 0, .string ⟨#[]⟩] 29) := blk_kept HV6.out hq.kept (by omega)
  have HA7 : Hid (Blk w7 w4.heap.size #[.slice (some ⟨g, 0, none⟩) p.length cg, .int .i64 s, .int .i64 e, .string n] 29) := blk_kept HA6.out hq.kept (by have := HXA.out; have := HY6.out.ord; omega)
  have HQ : Hid (OwnA (w4.heap.size + 1) w7 (g2, cg2, ⟨q, s, e, n⟩) ∧ LabT.Fits q ∧ q.length ≤ 8) := ⟨by obtain ⟨h1, h2, h3⟩ := hq.own; exact ⟨Nat.le_trans HR6.out.2.2.2 h1, h2, h3⟩, hq.fits, hq.few⟩
  clear hq HY6 HV6 HA6 HR6
  generalize w4.heap.size = A at HXA HA7 HQ HPA ⊢
  have c0 : w7.cell? ⟨A, 0, none⟩ = some (.slice (some ⟨g, 0, none⟩) p.length cg) := HA7.out.cell 0
  have fc := HA7.out.frozen 0
  go_upto_region 5 with fail
  clear c0 fc
  obtain ⟨W3, hW3⟩ : ∃ W3, w7.setCell ⟨A, 0, none⟩ (.slice (some ⟨g2, 0, none⟩) q.length cg2) = W3 := ⟨_, rfl⟩
  have hA0 := HXA.out
  have hA1 := HY7.out.ord
  have hneA : A ≠ X := by omega
  have HY : Hid (JSt w (w.heap.size + 2) X W3 hd vr a cap cs) := by
    rw [← hW3]
    exact ⟨cur_set HY7.out.cur (by omega) _ _, set_low HY7.out.low (by omega) _ _, by simpa using HY7.out.ord, HY7.out.bR.set_other (by show A ≠ _; omega) _, HY7.out.bX.set_other hneA _, pl_clear HY7.out.list HA7.out (HPA.out) _ _, HY7.out.fine, HY7.out.few, HY7.out.nums⟩
  have HV : Hid (Blk W3 (w.heap.size + 1) #[.slice none 0 0, .int .i64 0, .int .i64 0, .string ⟨#[]⟩] 29) := by rw [← hW3]; exact HV7.out.set_other (by show A ≠ _; omega) _
  have HA : Hid (Blk W3 A #[.slice (some ⟨g2, 0, none⟩) q.length cg2, .int .i64 s, .int .i64 e, .string n] 29) := by rw [← hW3]; exact HA7.out.set 0 _
  have HO : Hid (OwnA (w.heap.size + 3) W3 (g2, cg2, ⟨q, s, e, n⟩)) := by
    rw [← hW3]
    have hne : A ≠ g2 := by have h : A + 1 ≤ g2 := HQ.out.1.1; omega
    exact own_set (HQ.out.1.down (by omega)) hne _ _
  have HFx : Hid (Fine ⟨q, s, e, n⟩) := ⟨⟨by have := HQ.out.2.2; show q.length ≤ _; unfold maxLen; omega, HQ.out.2.1, HF.out.1.sb, HF.out.1.eb, HF.out.1.note⟩, HQ.out.2.2⟩
  rw [hW3]
  clear hW3 HY7 HV7 HA7 HQ HF HPA
  have HSA : Hid (∀ w', Blk w' X #[.int .i64 hd, .int .i64 vr, .slice a cs.length cap] 26 → Blk w' A #[.slice (some ⟨g2, 0, none⟩) q.length cg2, .int .i64 s, .int .i64 e, .string n] 29 → w'.cell? ⟨X, 0, none⟩ = some (.int .i64 hd) ∧ w'.cell? ⟨X, 1, none⟩ = some (.int .i64 vr) ∧ w'.cell? ⟨X, 2, none⟩ = some (.slice a cs.length cap) ∧ w'.cell? ⟨A, 0, none⟩ = some (.slice (some ⟨g2, 0, none⟩) q.length cg2) ∧ w'.cell? ⟨A, 1, none⟩ = some (.int .i64 s) ∧ w'.cell? ⟨A, 2, none⟩ = some (.int .i64 e) ∧ w'.cell? ⟨A, 3, none⟩ = some (.string n)) := fun w' h k => ⟨h.cell 0, h.cell 1, h.cell 2, k.cell 0, k.cell 1, k.cell 2, k.cell 3⟩
  have hnX : w.heap.size ≠ X ∧ w.heap.size + 1 ≠ X ∧ w.heap.size ≠ A ∧ w.heap.size + 1 ≠ A := ⟨by omega, by omega, by omega, by omega⟩
  have r0 : W3.cell? ⟨w.heap.size, 0, none⟩ = some (.int .i64 0) := HY.out.bR.cell 0
  have frr0 := HY.out.bR.frozen 0
  have r1 : W3.cell? ⟨w.heap.size, 1, none⟩ = some (.int .i64 0) := HY.out.bR.cell 1
  have frr1 := HY.out.bR.frozen 1
  have r2 : W3.cell? ⟨w.heap.size, 2, none⟩ = some (.slice none 0 0) := HY.out.bR.cell 2
  have frr2 := HY.out.bR.frozen 2
  have v0 : W3.cell? ⟨w.heap.size + 1, 0, none⟩ = some (.slice none 0 0) := HV.out.cell 0
  have frv0 := HV.out.frozen 0
  have v1 : W3.cell? ⟨w.heap.size + 1, 1, none⟩ = some (.int .i64 0) := HV.out.cell 1
  have frv1 := HV.out.frozen 1
  have v2 : W3.cell? ⟨w.heap.size + 1, 2, none⟩ = some (.int .i64 0) := HV.out.cell 2
  have frv2 := HV.out.frozen 2
  have v3 : W3.cell? ⟨w.heap.size + 1, 3, none⟩ = some (.string ⟨#[]⟩) := HV.out.cell 3
  have frv3 := HV.out.frozen 3
  refine wp_region_held_drew (S := fun w' => w'.cell? ⟨X, 0, none⟩ = some (.int .i64 hd) ∧ w'.cell? ⟨X, 1, none⟩ = some (.int .i64 vr) ∧ w'.cell? ⟨X, 2, none⟩ = some (.slice a cs.length cap) ∧ w'.cell? ⟨A, 0, none⟩ = some (.slice (some ⟨g2, 0, none⟩) q.length cg2) ∧ w'.cell? ⟨A, 1, none⟩ = some (.int .i64 s) ∧ w'.cell? ⟨A, 2, none⟩ = some (.int .i64 e) ∧ w'.cell? ⟨A, 3, none⟩ = some (.string n)) (by kernel_rfl) (HSA.out _ HY.out.bX.drew HA.out.drew) (fun hHeld => ?_)
  refine wpAnyH_take (i := 0) (oi := { dst := some 18, op := Op.load 26 (Operand.tmp 5), type := 26, pos := "l07_part.go:167", after := #[], guard := none }) (v := ?vu0) rfl (by kernel_rfl) (by kernel_rfl) (by kernel_rfl) (fun _ _ _ h => h) (Or.inl ⟨by rfl, ?hyu0⟩) hHeld ?_
  case hyu0 => (intro w hSw; (try dsimp only at hSw); go_simp <;> with_reducible rfl)
  try simp only [Act.put, List.setIfInBounds_toArray, List.set_cons_zero, List.set_cons_succ]
  refine wpAnyH_take (i := 1) (oi := { dst := some 19, op := Op.load 29 (Operand.tmp 6), type := 29, pos := "l07_part.go:167", after := #[{ on := 2, ground := Ground.gcOnly Departure.lateStores }], guard := none }) (v := ?vu1) rfl (by kernel_rfl) (by kernel_rfl) (by kernel_rfl) (fun _ _ _ h => h) (Or.inl ⟨by rfl, ?hyu1⟩) hHeld ?_
  case hyu1 => (intro w hSw; (try dsimp only at hSw); go_simp <;> with_reducible rfl)
  try simp only [Act.put, List.setIfInBounds_toArray, List.set_cons_zero, List.set_cons_succ]
  refine wpAnyH_ready (rs := [2]) (by kernel_rfl) (by simp) ?_
  refine AllReadyH.cons (o := { dst := none, op := Op.store 26 (Operand.tmp 2) (Operand.tmp 18), type := 0, pos := "l07_part.go:167", after := #[{ on := 0, ground := Ground.data }, { on := 0, ground := Ground.phase }, { on := 1, ground := Ground.textOnly Departure.lateStores }], guard := none }) rfl (fun K hK => ?_) AllReadyH.nil
  go_simp
  clear hHeld
  refine hK.out _ _ (HSA.out _ (blk3 HY.out.bX hnX.1 _ _ _).drew (blk3 HA.out hnX.2.2.1 _ _ _).drew) (fun hHeld => ?_)
  clear hK K
  try simp only [Act.put, List.setIfInBounds_toArray, List.set_cons_zero, List.set_cons_succ]
  refine wpAnyH_ready (rs := [3]) (by kernel_rfl) (by simp) ?_
  refine AllReadyH.cons (o := { dst := none, op := Op.store 29 (Operand.tmp 3) (Operand.tmp 19), type := 0, pos := "l07_part.go:167", after := #[{ on := 1, ground := Ground.data }, { on := 2, ground := Ground.chain }, { on := 0, ground := Ground.phase }, { on := 1, ground := Ground.phase }, { on := 2, ground := Ground.phase }], guard := none }) rfl (fun K hK => ?_) AllReadyH.nil
  go_simp
  clear hHeld
  refine hK.out _ _ (HSA.out _ (Alm.blk4 (blk3 HY.out.bX hnX.1 _ _ _) hnX.2.1 _ _ _ _).drew (Alm.blk4 (blk3 HA.out hnX.2.2.1 _ _ _) hnX.2.2.2 _ _ _ _).drew) (fun hHeld => ?_)
  clear hK K
  try simp only [Act.put, List.setIfInBounds_toArray, List.set_cons_zero, List.set_cons_succ]
  refine wpAnyH_done (by kernel_rfl) ?_ _
  clear hHeld
  go_wp2
  have hs : Blk (((((((W3.setCell ⟨w.heap.size, 0, none⟩ (.int .i64 hd)).setCell ⟨w.heap.size, 1, none⟩ (.int .i64 vr)).setCell ⟨w.heap.size, 2, none⟩ (.slice a cs.length cap)).setCell ⟨w.heap.size + 1, 0, none⟩ (.slice (some ⟨g2, 0, none⟩) q.length cg2)).setCell ⟨w.heap.size + 1, 1, none⟩ (.int .i64 s)).setCell ⟨w.heap.size + 1, 2, none⟩ (.int .i64 e)).setCell ⟨w.heap.size + 1, 3, none⟩ (.string n)).drew w.heap.size #[.int .i64 hd, .int .i64 vr, .slice a cs.length cap] 26 := (Alm.blk4 (put3 HY.out.bR _ _ _) (by omega) _ _ _ _).drew
  have ht : Blk (((((((W3.setCell ⟨w.heap.size, 0, none⟩ (.int .i64 hd)).setCell ⟨w.heap.size, 1, none⟩ (.int .i64 vr)).setCell ⟨w.heap.size, 2, none⟩ (.slice a cs.length cap)).setCell ⟨w.heap.size + 1, 0, none⟩ (.slice (some ⟨g2, 0, none⟩) q.length cg2)).setCell ⟨w.heap.size + 1, 1, none⟩ (.int .i64 s)).setCell ⟨w.heap.size + 1, 2, none⟩ (.int .i64 e)).setCell ⟨w.heap.size + 1, 3, none⟩ (.string n)).drew (w.heap.size + 1) #[.slice (some ⟨g2, 0, none⟩) q.length cg2, .int .i64 s, .int .i64 e, .string n] 29 := (((((blk3 HV.out (by omega) _ _ _).set 0 _).set 1 _).set 2 _).set 3 _).drew
  have s0 := hs.cell 0
  have s1 := hs.cell 1
  have s2 := hs.cell 2
  have t0 := ht.cell 0
  have t1 := ht.cell 1
  have t2 := ht.cell 2
  have t3 := ht.cell 3
  refine bodyPost_ret (v := .tuple #[.agg #[.int .i64 hd, .int .i64 vr, .slice a cs.length cap], .agg #[.slice (some ⟨g2, 0, none⟩) q.length cg2, .int .i64 s, .int .i64 e, .string n]]) (by simp [results, Tryz.results8, go_sem, s0, s1, s2, t0, t1, t2, t3]) rfl ?_
  have hg1 : w.heap.size + 1 ≠ g2 := by have h : w.heap.size + 3 ≤ g2 := HO.out.1; omega
  exact ⟨⟨hd, vr, a, cap, chs cs, g2, cg2, ⟨q, s, e, n⟩, retP1 (chs_len cs).symm, dpt_of ((pl4 (pl3 HY.out.list (by omega) _ _ _) (by omega) _ _ _ _).grow (Below.refl _ _).drew) HY.out.fine HY.out.few, HY.out.nums, ((own_set (own_set (own_set (own_set (own3 HO.out (by omega) _ _ _) hg1 _ _) hg1 _ _) hg1 _ _) hg1 _ _).grow (Below.refl _ _).drew).reads, HFx.out⟩, (Alm.set4 (set3 HY.out.low (Nat.le_refl _) _ _ _) (by omega) _ _ _ _).drew⟩
end Go.Proofs.YtooninmicfcfoaaGreat.DrawI
namespace Go.Proofs.YtooninmicfcfoaaGreat.PutF
open Go.RowKit
open Labs LabS Alms AlmS Over Blk Rws ChnI ChnC ChnP ChnK DrawC DrawE Chs Prt PrtF PrtC DrawG DrawI
open Fing (fingerB)
open LabT (held_reads)
open PrtA (allC allC_sum allC_mem)
open PrtW (sweep1 sweepTo gonesTo verS verS_0 verS_1 sweep1_no sweep1_yes)

theorem at_is {C : List PCh} {f : Int} {k : Nat} (hk : k < C.length) (he : (nthC C k).f = f) (hj : ∀ j, j < k → (nthC C j).f ≠ f) : atO C f = some k := by
  rcases at_cases C f with ⟨_, _, h2⟩ | ⟨q, h0, _, hq, h3, h4⟩
  · exact absurd he (h2 k hk)
  · have e : q = k := by
      rcases Nat.lt_trichotomy q k with h | h | h
      · exact absurd h3 (hj q h)
      · exact h
      · exact absurd he (h4 k h)
    rw [h0, e]
theorem nthC_ins {C : List PCh} {x : PCh} {k i : Nat} (hk : k ≤ C.length) : nthC (C.take k ++ x :: C.drop k) i = if i < k then nthC C i else if i = k then x else nthC C (i - 1) := by
  unfold nthC
  have hl : (C.take k).length = k := by simp; omega
  by_cases h : i < k
  · rw [if_pos h, List.getD_eq_getElem?_getD, List.getElem?_append_left (by omega), List.getElem?_take_of_lt h, List.getD_eq_getElem?_getD]
  · rw [if_neg h, List.getD_eq_getElem?_getD, List.getElem?_append_right (by omega), hl]
    by_cases e : i = k
    · rw [if_pos e, e, Nat.sub_self]; rfl
    · rw [if_neg e, show i - k = (i - k - 1) + 1 by omega, List.getElem?_cons_succ, List.getElem?_drop, show k + (i - k - 1) = i - 1 by omega, List.getD_eq_getElem?_getD]
theorem nthC_set {C : List PCh} {x : PCh} {k i : Nat} (hi : i < C.length) : nthC (C.set k x) i = if i = k then x else nthC C i := by
  rw [nthC_eq (by simpa using hi), nthC_eq hi, List.getElem_set]
  by_cases e : k = i
  · subst e; simp
  · rw [if_neg e, if_neg (fun h => e h.symm)]
theorem nthP_app_eq (P : List PAl) (x : PAl) : nthP (P ++ [x]) P.length = x := by unfold nthP; simp [List.getD]
theorem nthP_app_lt {P : List PAl} {x : PAl} {i : Nat} (h : i < P.length) : nthP (P ++ [x]) i = nthP P i := by unfold nthP; simp [List.getD, List.getElem?_append_left h]
theorem nthP_set_ne {P : List PAl} {x : PAl} {i k : Nat} (h : i ≠ k) : nthP (P.set k x) i = nthP P i := by unfold nthP; simp [List.getD, List.getElem?_set_ne (Ne.symm h)]
theorem nthP_set_eq {P : List PAl} {x : PAl} {k : Nat} (h : k < P.length) : nthP (P.set k x) k = x := by unfold nthP; simp [List.getD, List.getElem?_set_self h]
theorem find_put (C : List PCh) (x : PAl) : (findB C x.l = none ∧ newC C x = true ∧ findB (putC C x) x.l = some x) ∨ ∃ y, findB C x.l = some y ∧ newC C x = false ∧ findB (putC C x) x.l = some (mergeX y x) := by
  rcases at_cases C (fingerB x.l : Int) with ⟨h0, _, h2⟩ | ⟨k, h0, _, hk, h3, h4⟩
  · refine .inl ⟨find_1 h0, (put_none h0).2, ?_⟩
    rw [(put_none h0).1]
    have hp := pos_le C (fingerB x.l : Int)
    have hn : nthC (C.take (posB C (fingerB x.l)) ++ ⟨fingerB x.l, [x]⟩ :: C.drop (posB C (fingerB x.l))) (posB C (fingerB x.l)) = ⟨fingerB x.l, [x]⟩ := by rw [nthC_ins hp, if_neg (by omega), if_pos rfl]
    have ha : atO (C.take (posB C (fingerB x.l)) ++ ⟨fingerB x.l, [x]⟩ :: C.drop (posB C (fingerB x.l))) (fingerB x.l) = some (posB C (fingerB x.l)) := at_is (by simp; omega) (by rw [hn]) (fun j hj => by rw [nthC_ins hp, if_pos hj]; exact h2 j (by omega))
    have h := find_3 (i := 0) ha (fun j hj => by omega) (by rw [hn]; rfl) (by rw [hn]; simp)
    rw [hn] at h
    exact h
  · have hat : ∀ y : PCh, y.f = (nthC C k).f → atO (C.set k y) (fingerB x.l) = some k := fun y hy => at_is (by simpa using hk) (by rw [nthC_set hk, if_pos rfl, hy, h3]) (fun j hj => by rw [nthC_set (by omega), if_neg (by omega)]; exact h4 j hj)
    have hnk : ∀ y : PCh, nthC (C.set k y) k = y := fun y => by rw [nthC_set hk, if_pos rfl]
    rcases idx_cases (nthC C k).P x.l with ⟨_, hm⟩ | ⟨i, _, hi, he, hj⟩
    · refine .inl ⟨find_2 h0 hm, (put_some h0).2.trans (put_miss hm).2, ?_⟩
      rw [(put_some h0).1, (put_miss hm).1]
      have h := find_3 (i := (nthC C k).P.length) (hat ⟨(nthC C k).f, (nthC C k).P ++ [x]⟩ rfl) (fun j hj => by rw [hnk]; show (nthP (_ ++ [x]) j).l ≠ _; rw [nthP_app_lt hj]; exact hm j hj) (by rw [hnk]; show (nthP (_ ++ [x]) _).l = _; rw [nthP_app_eq]) (by rw [hnk]; simp)
      rw [hnk] at h
      rw [h]
      show some (nthP (_ ++ [x]) _) = _
      rw [nthP_app_eq]
    · refine .inr ⟨nthP (nthC C k).P i, find_3 h0 hj he hi, (put_some h0).2.trans (put_hit hj he hi).2, ?_⟩
      rw [(put_some h0).1, (put_hit hj he hi).1]
      have h := find_3 (i := i) (hat ⟨(nthC C k).f, (nthC C k).P.set i (mergeX (nthP (nthC C k).P i) x)⟩ rfl) (fun j hj' => by rw [hnk]; show (nthP (List.set _ _ _) j).l ≠ _; rw [nthP_set_ne (by omega)]; exact hj j hj') (by rw [hnk]; show (nthP (List.set _ _ _) _).l = _; rw [nthP_set_eq hi]; rfl) (by rw [hnk]; simpa using hi)
      rw [hnk] at h
      rw [h]
      show some (nthP (List.set _ _ _) _) = _
      rw [nthP_set_eq hi]
theorem sweep_all (C : List PCh) (now : Int) : sweepTo C now C.length = C.filterMap (sweep1 now) := by unfold sweepTo; rw [List.take_length]
theorem gones_all (C : List PCh) (now : Int) : gonesTo C now C.length = C.flatMap fun x => goneTo x.P now x.P.length := by unfold gonesTo; rw [List.take_length]
theorem sweep_len (C : List PCh) (now : Int) : (allC (sweepTo C now C.length)).length + (gonesTo C now C.length).length = (allC C).length := by
  rw [sweep_all, gones_all]
  induction C with
  | nil => simp [allC]
  | cons x C ih =>
    have hd := drop_len x.P now x.P.length
    rw [List.take_length] at hd
    rw [List.flatMap_cons, List.length_append, allC, List.length_append]
    by_cases h : (leftTo x.P now x.P.length).length = 0
    · rw [List.filterMap_cons_none (sweep1_no h)]; omega
    · rw [List.filterMap_cons_some (sweep1_yes h), allC, List.length_append]; simp only; omega
theorem sweep_mem {C : List PCh} {now : Int} {c : PCh} (h : c ∈ sweepTo C now C.length) : ∃ x ∈ C, c.f = x.f ∧ c.P = leftTo x.P now x.P.length := by
  rw [sweep_all] at h
  obtain ⟨x, hx, hs⟩ := List.mem_filterMap.1 h
  by_cases h0 : (leftTo x.P now x.P.length).length = 0
  · rw [sweep1_no h0] at hs; cases hs
  · rw [sweep1_yes h0] at hs
    cases hs
    exact ⟨x, hx, rfl, rfl⟩
theorem left_mem {P : List PAl} {now : Int} {k : Nat} {y : PAl} (h : y ∈ leftTo P now k) : y ∈ P ∧ overB y.e now = false := by
  unfold leftTo at h
  obtain ⟨h1, h2⟩ := List.mem_filter.1 h
  exact ⟨List.mem_of_mem_take h1, by simpa using h2⟩
theorem gone_mem {P : List PAl} {now : Int} {k : Nat} {y : PAl} (h : y ∈ goneTo P now k) : y ∈ P := by
  unfold goneTo at h
  exact List.mem_of_mem_take (List.mem_filter.1 h).1
theorem sweep_over {C : List PCh} {now : Int} {y : PAl} (h : y ∈ allC (sweepTo C now C.length)) : overB y.e now = false := by
  obtain ⟨c, hc, hy⟩ := allC_mem h
  obtain ⟨x, _, _, e⟩ := sweep_mem hc
  rw [e] at hy
  exact (left_mem hy).2
theorem sweep_fin {n : Nat} {C : List PCh} {now : Int} (h : FinC n C) : FinC n (sweepTo C now C.length) ∧ Fines (gonesTo C now C.length) := by
  refine ⟨fun c hc => ?_, fun y hy => ?_⟩
  · obtain ⟨x, hx, e1, e2⟩ := sweep_mem hc
    have hq := h x hx
    have hd := drop_len x.P now x.P.length
    rw [List.take_length] at hd
    rw [e1, e2]
    exact ⟨fun y hy => hq.1 y (left_mem hy).1, by omega, hq.2.2⟩
  · rw [gones_all] at hy
    obtain ⟨x, hx, hy⟩ := List.mem_flatMap.1 hy
    exact (h x hx).1 y (gone_mem hy)

def Pt (w : World) (a : Option Addr) (C : List PCh) : Prop := RdG RdN w a C ∧ FinC 8 C ∧ C.length ≤ 9
theorem Pt.below {w w' : World} {a : Option Addr} {C : List PCh} (h : Pt w a C) (hb : Below w.heap.size w w') : Pt w' a C := ⟨h.1.below stays_rn hb, h.2⟩
theorem pt_of {w : World} {a : Option Addr} {C : List PCh} (h : DPt w a C) : Pt w a C := ⟨h.1, h.2.1.mono (by omega), by have := h.2.2; omega⟩
theorem Pt.sum {w : World} {a : Option Addr} {C : List PCh} (h : Pt w a C) : sumC C ≤ 648 := by
  have h1 := h.2.1.sum
  have h2 : C.length * (9 * 8) ≤ 9 * 72 := Nat.mul_le_mul h.2.2 (by omega)
  omega
theorem Pt.small {w : World} {a : Option Addr} {C : List PCh} (h : Pt w a C) : PrtO.Small C := h.2.1.small (by omega)
theorem Pt.fits {w : World} {a : Option Addr} {C : List PCh} (h : Pt w a C) : FitsC C := h.2.1.fits (by omega)
def zeroA : PAl := ⟨[], 0, 0, ByteArray.empty⟩
def findD (C : List PCh) (l : List Lab) : PAl := (findB C l).getD zeroA
theorem fine_zero : Fine zeroA := ⟨⟨by simp [zeroA], fun i hi => by simp [zeroA] at hi, by simp [zeroA], by simp [zeroA], Nat.zero_le _⟩, by simp [zeroA]⟩
theorem fine_find {n : Nat} {C : List PCh} (h : FinC n C) (l : List Lab) : Fine (findD C l) := by
  unfold findD
  cases hf : findB C l with
  | none => exact fine_zero
  | some x =>
    obtain ⟨c, hc, i, hi, rfl⟩ := PrtJ.find_in hf
    exact (h c hc).1 _ (nthP_mem hi)
theorem own_reads {w w' : World} {M : Nat} {p : List Lab} (h : LabR.Own w w' M p) : Reads w' (some ⟨M, 0, none⟩) p := by
  obtain ⟨_, cs, hk, _, hh⟩ := h
  exact held_reads hk hh
theorem reads_nil (w : World) (a : Option Addr) : Reads w a [] := .inl rfl
theorem implFindR (hd vr : Int) (a a' : Option Addr) (cap cap' : Nat) (C : List PCh) (l : List Lab) (w : World) (hP : Pt w a C) (hr : Reads w a' l) (hl : l.length ≤ 8) (hf : LabT.Fits l) {Y : PAl} {ok : Bool} (hY : findD C l = Y) (hk : (findB C l).isSome = ok) :
    Calls Tryz.prog 12 #[.agg #[.int .i64 hd, .int .i64 vr, .slice a C.length cap], .slice a' l.length cap'] w fun e w' => (∃ b c, e = .returned (.tuple #[.agg #[.slice b Y.l.length c, .int .i64 Y.s, .int .i64 Y.e, .string Y.n], .bool ok]) ∧ Reads w' b Y.l) ∧ Below w.heap.size w w' := by
  subst hY hk
  refine (PrtI.implFind_any hd vr a a' cap cap' C l w hP.1.rd hr (by have := hP.2.2; omega) hP.small (by unfold maxLen; omega) hf).mono fun e w' h => ?_
  unfold findD
  cases hb : findB C l with
  | none =>
    rw [hb] at h
    exact ⟨⟨none, 0, h.1, reads_nil _ _⟩, h.2⟩
  | some x =>
    rw [hb] at h
    obtain ⟨⟨M, c, he, ho⟩, hb'⟩ := h
    exact ⟨⟨some ⟨M, 0, none⟩, c, he, own_reads ho⟩, hb'⟩
theorem specFindR (hd vr : Int) (a a' : Option Addr) (cap cap' : Nat) (C : List PCh) (l : List Lab) (w : World) (hP : Pt w a C) (hr : Reads w a' l) (hl : l.length ≤ 8) (hf : LabT.Fits l) {Y : PAl} {ok : Bool} (hY : findD C l = Y) (hk : (findB C l).isSome = ok) :
    Calls Tryz.prog 13 #[.agg #[.int .i64 hd, .int .i64 vr, .slice a C.length cap], .slice a' l.length cap'] w fun e w' => (∃ b c, e = .returned (.tuple #[.agg #[.slice b Y.l.length c, .int .i64 Y.s, .int .i64 Y.e, .string Y.n], .bool ok]) ∧ Reads w' b Y.l) ∧ Below w.heap.size w w' := by
  subst hY hk
  refine (PrtF.specFind_any hd vr a a' cap cap' C l w hP.1 hr (by have := hP.2.2; omega) hP.small (by unfold maxLen; omega) hf).mono fun e w' h => ?_
  unfold findD
  cases hb : findB C l with
  | none =>
    rw [hb] at h
    exact ⟨⟨none, 0, h.1, reads_nil _ _⟩, h.2⟩
  | some x =>
    rw [hb] at h
    obtain ⟨⟨M, c, he, ho⟩, hb'⟩ := h
    exact ⟨⟨some ⟨M, 0, none⟩, c, he, own_reads ho⟩, hb'⟩
theorem implPutR (hd vr : Int) (a : Option Addr) (cap : Nat) (C : List PCh) (g cap' : Nat) (x : PAl) (w : World) (hP : Pt w a C) (hx : DAl w g x) {Q : List PCh} {nu : Bool} {vu : Int} (hQ : putC C x = Q) (hn : newC C x = nu) (hv : IntKind.i64.wrap (vr + 1) = vu) :
    Calls Tryz.prog 9 #[.agg #[.int .i64 hd, .int .i64 vr, .slice a C.length cap], .agg #[.slice (some ⟨g, 0, none⟩) x.l.length cap', .int .i64 x.s, .int .i64 x.e, .string x.n]] w fun e w' => (∃ M c, e = .returned (.tuple #[.agg #[.int .i64 hd, .int .i64 vu, .slice (some ⟨M, 0, none⟩) Q.length c], .bool nu]) ∧ RdG RdN w' (some ⟨M, 0, none⟩) Q) ∧ Below w.heap.size w w' := by
  subst hQ hn hv
  refine (PrtZ.implPut_any hd vr a cap C g 0 cap' x w hP.1.rd hx.1 (by have := hP.2.2; omega) hP.small (by have := hP.sum; have := hP.2.2; omega) (by have := hx.2.2; omega) hx.2.1.fits).mono fun e w' ⟨⟨M, c, cs, he, hcb, hp⟩, hb⟩ => ⟨⟨M, c, by rw [he, ← hp, chs_len], by rw [← hp]; exact hcb.rn⟩, hb⟩
theorem specPutR (hd vr : Int) (a : Option Addr) (cap : Nat) (C : List PCh) (g cap' : Nat) (x : PAl) (w : World) (hP : Pt w a C) (hx : DAl w g x) {Q : List PCh} {nu : Bool} {vu : Int} (hQ : putC C x = Q) (hn : newC C x = nu) (hv : IntKind.i64.wrap (vr + 1) = vu) :
    Calls Tryz.prog 10 #[.agg #[.int .i64 hd, .int .i64 vr, .slice a C.length cap], .agg #[.slice (some ⟨g, 0, none⟩) x.l.length cap', .int .i64 x.s, .int .i64 x.e, .string x.n]] w fun e w' => (∃ M c, e = .returned (.tuple #[.agg #[.int .i64 hd, .int .i64 vu, .slice (some ⟨M, 0, none⟩) Q.length c], .bool nu]) ∧ RdG RdN w' (some ⟨M, 0, none⟩) Q) ∧ Below w.heap.size w w' := by
  subst hQ hn hv
  refine (PrtV.specPut_any hd vr a cap C g 0 cap' x w hP.1 hx.1 (by have := hP.2.2; omega) hP.small (by have := hP.sum; have := hP.2.2; omega) (by have := hx.2.2; omega) hx.2.1.fits).mono fun e w' ⟨⟨M, c, cs, he, hcb, hp⟩, hb⟩ => ⟨⟨M, c, by rw [he, ← hp, chs_len], by rw [← hp]; exact hcb.rn⟩, hb⟩
theorem fin_put {C : List PCh} {x : PAl} (h : FinC 7 C ∧ C.length ≤ 8) (hx : Fine x) : FinC 8 (putC C x) ∧ (putC C x).length ≤ 9 := ⟨finC_put h.1 hx, by have := (PutS.putC_sum C x).2; have := h.2; omega⟩
theorem implSweepR (hd vr now : Int) (a : Option Addr) (cap : Nat) (C : List PCh) (w : World) (hP : Pt w a C) {SW : List PCh} {GO : List PAl} {vs : Int} (hS : sweepTo C now C.length = SW) (hG : gonesTo C now C.length = GO) (hv : verS vr GO.length = vs) :
    Calls Tryz.prog 15 #[.agg #[.int .i64 hd, .int .i64 vr, .slice a C.length cap], .int .i64 now] w fun e w' => (∃ M c Md cd, e = .returned (.tuple #[.agg #[.int .i64 hd, .int .i64 vs, .slice (some ⟨M, 0, none⟩) SW.length c], .slice (some ⟨Md, 0, none⟩) GO.length cd]) ∧ RdG RdN w' (some ⟨M, 0, none⟩) SW ∧ RdN w' (some ⟨Md, 0, none⟩) GO) ∧ Below w.heap.size w w' := by
  subst hS hG hv
  refine (PrtY.implSweep_any hd vr now a cap C w hP.1.rd (by have := hP.2.2; omega) hP.small (by have := hP.sum; omega)).mono fun e w' ⟨⟨M, c, cs, Md, cd, rs, he, hcb, hab, h1, h2, _⟩, hb⟩ => ⟨⟨M, c, Md, cd, by rw [he, ← h1, ← h2, chs_len, pals_len], by rw [← h1]; exact hcb.rn, by rw [← h2]; exact hab.rd⟩, hb⟩
theorem specSweepR (hd vr now : Int) (a : Option Addr) (cap : Nat) (C : List PCh) (w : World) (hP : Pt w a C) {SW : List PCh} {GO : List PAl} {vs : Int} (hS : sweepTo C now C.length = SW) (hG : gonesTo C now C.length = GO) (hv : verS vr GO.length = vs) :
    Calls Tryz.prog 16 #[.agg #[.int .i64 hd, .int .i64 vr, .slice a C.length cap], .int .i64 now] w fun e w' => (∃ M c Md cd, e = .returned (.tuple #[.agg #[.int .i64 hd, .int .i64 vs, .slice (some ⟨M, 0, none⟩) SW.length c], .slice (some ⟨Md, 0, none⟩) GO.length cd]) ∧ RdG RdN w' (some ⟨M, 0, none⟩) SW ∧ RdN w' (some ⟨Md, 0, none⟩) GO) ∧ Below w.heap.size w w' := by
  subst hS hG hv
  refine (PrtX.specSweep_any hd vr now a cap C w hP.1 (by have := hP.2.2; omega) hP.small (by have := hP.sum; omega)).mono fun e w' ⟨⟨M, c, cs, Md, cd, rs, he, hcb, hab, h1, h2⟩, hb⟩ => ⟨⟨M, c, Md, cd, by rw [he, ← h1, ← h2, chs_len, pals_len], by rw [← h1]; exact hcb.rn, by rw [← h2]; exact hab.rd⟩, hb⟩
theorem implAllR (hd vr : Int) (a : Option Addr) (cap : Nat) (C : List PCh) (w : World) (hP : Pt w a C) {AL : List PAl} (hA : allC C = AL) :
    Calls Tryz.prog 26 #[.agg #[.int .i64 hd, .int .i64 vr, .slice a C.length cap]] w fun e w' => (∃ M c, e = .returned (.slice (some ⟨M, 0, none⟩) AL.length c) ∧ RdN w' (some ⟨M, 0, none⟩) AL) ∧ Below w.heap.size w w' := by
  subst hA
  refine (PrtA.implAll_any hd vr a cap C w hP.1.rd (by have := hP.2.2; omega) hP.small (by have := hP.sum; omega)).mono fun e w' ⟨⟨M, c, rs, he, hab, hp⟩, hb⟩ => ⟨⟨M, c, by rw [he, ← hp, pals_len], by rw [← hp]; exact hab.rd⟩, hb⟩
theorem specAllR (hd vr : Int) (a : Option Addr) (cap : Nat) (C : List PCh) (w : World) (hP : Pt w a C) {AL : List PAl} (hA : allC C = AL) :
    Calls Tryz.prog 28 #[.agg #[.int .i64 hd, .int .i64 vr, .slice a C.length cap]] w fun e w' => (∃ M c, e = .returned (.slice (some ⟨M, 0, none⟩) AL.length c) ∧ RdN w' (some ⟨M, 0, none⟩) AL) ∧ Below w.heap.size w w' := by
  subst hA
  refine (PrtA.specAll_any hd vr a cap C w hP.1 (by have := hP.2.2; omega) hP.small (by have := hP.sum; omega)).mono fun e w' ⟨⟨M, c, rs, he, hab, hp⟩, hb⟩ => ⟨⟨M, c, by rw [he, ← hp, pals_len], by rw [← hp]; exact hab.rd⟩, hb⟩
theorem ver_tell {vr : Int} {n : Nat} (h0 : -1 ≤ vr) (h1 : vr ≤ 7) : (verS vr n != vr) = decide ((n : Int) > 0) := by
  by_cases h : n = 0
  · rw [verS_0 h, h]; simp
  · rw [verS_1 h, IntKind.wrap_i64]
    have e : (vr + 1 + 9223372036854775808) % 18446744073709551616 - 9223372036854775808 = vr + 1 := by omega
    have h2 : ((n : Int) > 0) := by omega
    rw [decide_eq_true h2]
    simp; omega
end Go.Proofs.YtooninmicfcfoaaGreat.PutF
