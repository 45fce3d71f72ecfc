/-
  PROVED: the marks that markPartS writes lie in the parts' own memory alone, and heldPartS finds them.
  PROVED: spec.StoreNew and impl.StoreNew give as many parts of nothing as a plain function says, in memory of their own; nothing that was there is changed.
  PROVED: the contract of spec.DrawInOrder: it returns a slice of at most five strings in memory of its own, and nothing that was there is changed.
  PROVED: the contracts of the drawing of labels: l2Draw and l2Any hand back a row of the call's own with a few small labels; the cursor goes on, all else is as it was.
  PROVED: the contract of spec.DrawSetLess: two slices of a few small labels in memory of its own; nothing that was there is changed.
  PROVED: the contracts of the drawing of alarms: l4Draw, l4Any, l4Pair and what is drawn by them: alarms with a few small labels in memory of their own; nothing that was there is changed but the cursor.
  PROVED: the contracts of the draws of alarms that FnMerges and FnAlarms begin with: alarms with a few small labels in memory of their own; nothing that was there is changed.
  Small alarms and rows of them beside the drawing cursor.
  PROVED: the contracts of the drawing of chains, l6Draw first: a chain with a few small alarms in memory of its own; nothing that was there is changed but the cursor.
  PROVED: the contract of l6Any: a drawn chain, bent or not, in memory of its own; nothing that was there is changed but the cursor.
  PROVED: the contracts of the draws of chapter 6: chains, bent or not, and what comes beside them, in new memory.
  PROVED: the contract of l7Draw: a part with a few small alarms in memory of its own; nothing that was there is changed but the cursor.
  PROVED: the contract of l7Any: a drawn part, bent or not, in memory of its own; nothing that was there is changed but the cursor.
  PROVED: the contracts of the draws of chapter 7: parts, bent or not, and what comes beside them, in new memory.
  PROVED: the labels that l2Draw draws are a set, and the alarms that l4Draw draws are right; nothing that was there is changed but the cursor.
  PROVED: the contract of l8Draw: a right store with a few small alarms in memory of its own; nothing that was there is changed but the cursor.
  PROVED: the labels that l7Labels draws beside right alarms are a set, and the contract of DrawStore.
  PROVED: the contract of DrawStore: a right store and a right alarm, in new memory.
  PROVED: the functions of chapter 8 at right stores, as the law of stores calls them.
-/
import Derived.Test.YtooninmicfcfoaaGreatQSts
import Derived.Test.YtooninmicfcfoaaGreatQStsC
import Derived.Test.YtooninmicfcfoaaGreatQDrawW
import Derived.Test.YtooninmicfcfoaaGreatQLabR
import Derived.Test.YtooninmicfcfoaaGreatQApp
import Derived.Test.YtooninmicfcfoaaGreatQLst
import Derived.Deep.RegionHeld3
import Derived.Test.YtooninmicfcfoaaGreatQStwD
import Derived.Test.YtooninmicfcfoaaGreatQPrt
import Derived.Test.YtooninmicfcfoaaGreatQRgt
import Derived.Test.YtooninmicfcfoaaGreatQStsA
set_option linter.unusedVariables false
namespace Go.Proofs.YtooninmicfcfoaaGreat.StsM
open Go.RowKit
open Labs LabS Alms AlmM Over Blk App Rws ChnI ChnC ChnP ChnK Chs Prt PrtM Sts

def PRow.M (x : PRow) : Nat := match x.a with
  | some ad => ad.block
  | none => 0
def blksS (M : Nat) (ps : List PRow) (k : Nat) : Prop := k = M ∨ ∃ x ∈ ps, blksP x k
theorem blksS_low {lo : Nat} {w : World} {M c : Nat} {ps : List PRow} (h : PB lo w M c ps) (k : Nat) (hk : blksS M ps k) : lo ≤ k := by
  rcases hk with rfl | ⟨x, hx, hk⟩
  · exact h.at'
  · exact blksP_low (h.rows x hx) k hk
theorem blksS_high {lo : Nat} {w : World} {M c : Nat} {ps : List PRow} (h : PB lo w M c ps) (k : Nat) (hk : blksS M ps k) : k < w.heap.size := by
  rcases hk with rfl | ⟨x, hx, hk⟩
  · exact h.lt
  · exact blksP_high (h.rows x hx) k hk
theorem po_only {S : Nat → Prop} {lo : Nat} {w w' : World} {x : PRow} (h : PO lo w x.a x.c x.cs) (ho : Only S w w') (hn : ∀ k, blksP x k → ¬ S k) : PO lo w' x.a x.c x.cs := by
  rcases h with h | ⟨M, e, h⟩
  · exact .inl h
  · exact .inr ⟨M, e, cb_only h ho fun k hk => hn k ⟨M, e, hk⟩⟩
theorem pb_only {S : Nat → Prop} {lo : Nat} {w w' : World} {M c : Nat} {ps : List PRow} (h : PB lo w M c ps) (ho : Only S w w') (hn : ∀ k, blksS M ps k → ¬ S k) : PB lo w' M c ps := by
  obtain ⟨cur, h1, h2⟩ := h.outer
  exact ⟨h.at', h.cap, ⟨cur, ho.blk h1 (hn _ (.inl rfl)), h2⟩, fun x hx => po_only (h.rows x hx) ho fun k hk => hn k (.inr ⟨x, hx, hk⟩)⟩
def Fine8 (ps : List PRow) : Prop := ∀ x ∈ ps, x.cs.length ≤ 2000000 ∧ ∀ y ∈ x.cs, y.rs.length ≤ 2000000 ∧ ∀ z ∈ y.rs, z.2.2.l.length ≤ 1048576
theorem fine8 {lo : Nat} {w : World} {M c : Nat} {ps : List PRow} {S : List PPt} (h : PB lo w M c ps) (hp : pts ps = S) (hs : sumT S ≤ 2000000) : Fine8 ps := fun x hx => by
  have hm : x.pt ∈ S := by rw [← hp]; exact List.mem_map.2 ⟨x, hx, rfl⟩
  have h1 := sumT_mem hm
  have h2 : x.pt.C = chs x.cs := rfl
  rw [h2, chs_len] at h1
  refine ⟨by omega, fun y hy => ?_⟩
  have h3 : y.ch ∈ chs x.cs := List.mem_map.2 ⟨y, hy, rfl⟩
  have h4 := sumC_mem h3
  have h5 : y.ch.P = pals y.rs := rfl
  rw [h5, pals_len] at h4
  refine ⟨by omega, fun z hz => ?_⟩
  rcases h.rows x hx with ⟨_, _, e⟩ | ⟨N, _, hcb⟩
  · rw [e] at hy; simp at hy
  · exact ((hcb.rows.rows y hy).rows z hz).2.1
end Go.Proofs.YtooninmicfcfoaaGreat.StsM
namespace Go.Proofs.YtooninmicfcfoaaGreat.StsN
open Go.RowKit
open Labs LabS Alms AlmM Over Blk App Rws ChnI ChnC ChnP ChnK Chs Prt PrtM Sts StsC

def lenV : Value → Nat
  | .slice _ n _ => n
  | _ => 0
def noneP : PPt := ⟨-1, 0, []⟩
def noneR : PRow := ⟨-1, 0, none, 0, []⟩
def newN (n : Int) : Nat := if 1 ≤ n ∧ n ≤ 3 then n.toNat else 1
theorem newN_cases (n : Int) : (newN n = 1 ∧ (n < 1 ∨ 3 < n ∨ n = 1)) ∨ (newN n = 2 ∧ n = 2) ∨ (newN n = 3 ∧ n = 3) := by
  unfold newN
  split
  · have : n = 1 ∨ n = 2 ∨ n = 3 := by omega
    rcases this with rfl | rfl | rfl
    · exact .inl ⟨rfl, by omega⟩
    · exact .inr (.inl ⟨rfl, rfl⟩)
    · exact .inr (.inr ⟨rfl, rfl⟩)
  · exact .inl ⟨rfl, by omega⟩
theorem newN_le (n : Int) : 1 ≤ newN n ∧ newN n ≤ 3 := by rcases newN_cases n with h | h | h <;> omega
theorem none_nth {k i : Nat} (h : i < k) : nthT (List.replicate k noneP) i = noneP := by rw [nthT_eq (by simpa using h)]; simp
theorem none_pts (k : Nat) : pts (List.replicate k noneR) = List.replicate k noneP := by simp [pts, noneR, noneP, PRow.pt, chs]
theorem none_sum (k : Nat) : sumT (List.replicate k noneP) = 0 := by
  induction k with
  | zero => rfl
  | succ k ih => rw [List.replicate_succ, sumT, ih]; rfl
theorem none_fits (k : Nat) : FitsT (List.replicate k noneP) := fun x hx => by
  rw [List.eq_of_mem_replicate hx]
  exact ⟨⟨by decide, by decide⟩, ⟨by decide, by decide⟩, by simp [noneP], fun y hy => by simp [noneP] at hy⟩
theorem PB.new (lo : Nat) {w : World} {M : Nat} (h : Blk w M #[.int .i64 (-1), .int .i64 0, .slice none 0 0] 26) (hl : lo ≤ M) : PB lo w M 1 [noneR] :=
  ⟨hl, ⟨by simp, by simp [maxLen]⟩, ⟨_, h, rfl, fun i hi => by
    have : i = 0 := by simpa using hi
    subst this
    exact ⟨rfl, rfl, rfl⟩⟩, fun x hx => by rw [List.mem_singleton.1 hx]; exact .inl ⟨rfl, rfl, rfl⟩⟩
theorem repl_app (k : Nat) : List.replicate k noneR ++ [noneR] = List.replicate (k + 1) noneR := by rw [List.replicate_succ']

set_option maxHeartbeats 1600000 in
theorem specNew_any (n : Int) (w : World) (hn : I64 n) :
    Calls Tryz.prog 50 #[.int .i64 n] w fun e w' => (∃ M c, e = .returned (.slice (some ⟨M, 0, none⟩) (newN n) c) ∧ PB w.heap.size w' M c (List.replicate (newN n) noneR)) ∧ Below w.heap.size w w' := by
  obtain ⟨i0, hi, hz0, hz1, hz2⟩ := info_parts infoP
  go_enter Tryz.func50, Tryz.ntmps50
  go_wp2
  go_loopw [3] (fun v w' => ∃ (k M c : Nat), v = .slice (some ⟨M, 0, none⟩) k c ∧ 1 ≤ k ∧ k ≤ newN n ∧ PB w.heap.size w' M c (List.replicate k noneR) ∧ Below w.heap.size w w') (fun v _ => 3 - lenV v)
  case atStart => exact ⟨1, w.heap.size, 1, rfl, Nat.le_refl _, (newN_le n).1, PB.new _ (Blk.new _ _ _) (Nat.le_refl _), Go.Joins.below_alloc1 w _⟩
  case round =>
    obtain ⟨k, M, c, rfl, hk1, hk2, hab, hb⟩ := hrel
    have HAB : Hid (PB w.heap.size wr M c (List.replicate k noneR) ∧ Below w.heap.size w wr) := ⟨hab, hb⟩
    have hk3 : k ≤ 3 := by have := (newN_le n).2; omega
    clear hab hb
    by_cases hlt : k < newN n
    · have hlt1 : (k : Int) < n := by rcases newN_cases n with h | h | h <;> omega
      have hlt2 : n ≤ 3 := by rcases newN_cases n with h | h | h <;> omega
      obtain ⟨xs, hox, hxl, hxs⟩ := HAB.out.1.own
      rw [List.length_replicate] at hox hxl
      have HOX : Hid (∀ o1, (wr.alloc o1).ownsRow w.heap.size 26 3 (.slice (some ⟨M, 0, none⟩) k c) k xs) := fun o1 => own_grow hox (Go.Joins.below_alloc1 wr o1)
      have HXS : Hid (xs.length = (List.replicate k noneR).length * 3 ∧ ∀ i, i < (List.replicate k noneR).length → Cel3 (fun k => xs[k]?) i (nthQ (List.replicate k noneR) i)) := ⟨by rw [List.length_replicate]; exact hxl, hxs⟩
      clear hox hxl hxs
      go_wp2_with (at_builtin; refine wpList_append_own_at _ rfl _ _ 54 rfl w.heap.size 26 i0 (.agg #[.int .i64 0, .int .i64 0, .slice none 0 0]) 3 40 Tryz.underlying54 hi hz0 hz1 hz2 rfl (by decide) _ _ _ rfl (HOX.out _) ⟨wr.heap.size, 0, none⟩ 1 1 (rowP noneR) rfl rfl ?c1 (rowP_one _) ?c3 ?c4 ?c5 ?_)
      case c1 => exact blk_news (Blk.new _ _ _)
      case c3 => unfold maxLen; omega
      case c4 => omega
      case c5 => have := HAB.out.2.size; simp; omega
      intro v' w2 hown hg hnil hat
      have hown' : w2.ownsRow w.heap.size 26 3 v' ((List.replicate k noneR).length + 1) (xs ++ rowP noneR) := by rw [List.length_replicate]; exact hown
      obtain ⟨M3, c3, rfl, hAB3⟩ := (HAB.out.1.grow (Go.Joins.below_alloc1 wr _)).app (x := noneR) (.inl ⟨rfl, rfl, rfl⟩) HXS.out.1 HXS.out.2 hown' hg
      rw [repl_app] at hAB3
      have HAB3 : Hid (PB w.heap.size w2 M3 c3 (List.replicate (k + 1) noneR)) := hAB3
      have HB3 : Hid (Below w.heap.size w w2) := (grow_on HAB.out.2 (Go.Joins.below_alloc1 wr _)).grown hg (by have := HAB.out.2.size; simp; omega) (fun k e => by have h : M = k := Option.some.inj e; have := HAB.out.1.at'; omega)
      clear hown hown' hg hnil hat hAB3
      rw [List.length_replicate]
      go_wp2
      go_roundw
      case rel => exact ⟨k + 1, M3, c3, rfl, by omega, by omega, HAB3.out, HB3.out⟩
      case measure => simp [lenV]; omega
    · have HE : Hid (k = newN n) := by show k = newN n; omega
      have hfin : Hid ((∃ M' c', Ending.returned (.slice (some ⟨M, 0, none⟩) k c) = .returned (.slice (some ⟨M', 0, none⟩) (newN n) c') ∧ PB w.heap.size wr M' c' (List.replicate (newN n) noneR)) ∧ Below w.heap.size w wr) := ⟨⟨M, c, by rw [HE.out], by rw [← HE.out]; exact HAB.out.1⟩, HAB.out.2⟩
      by_cases h1 : (k : Int) < n
      · have h2 : ¬ n ≤ 3 := by rcases newN_cases n with h | h | h <;> omega
        go_wp2
        go_ret
        exact hfin.out
      · go_wp2
        go_ret
        exact hfin.out

end Go.Proofs.YtooninmicfcfoaaGreat.StsN
namespace Go.Proofs.YtooninmicfcfoaaGreat.Draw
open Go.RowKit StrB

theorem Kept.grown {c : Nat} {w w' : World} (h : Kept c w w') : w.grownBy w' (some c) :=
  ⟨h.os, h.tape, h.output, h.size, fun k hk hne => h.block k hk (fun e => hne (by rw [e]))⟩
theorem Bytes.grown {w w' : World} {a : Option Addr} {len c : Nat} {row : Option Nat} (h : Bytes w a len c) (hg : w.grownBy w' row) (hr : ∀ k, row = some k → c < k) (hc : c ≤ w.heap.size) : Bytes w' a len c := by
  rcases h with h | ⟨b, off, rfl, hb, hz⟩
  · exact .inl h
  · exact .inr ⟨b, off, rfl, hb, fun j hj => by
      obtain ⟨z, h1, h2⟩ := hz j hj
      exact ⟨z, hg.cell h1 (fun e => by have := hr b e.symm; omega), h2⟩⟩
theorem Cur.grown {w w' : World} {c : Nat} {row : Option Nat} (h : Cur w c) (hg : w.grownBy w' row) (hr : ∀ k, row = some k → c < k) : Cur w' c := by
  obtain ⟨a, len, cap, i, h, h0, h1, h2, f1, f2, hi, hl, hb, hlt⟩ := h
  have hne : some c ≠ row := fun e => by have := hr c e.symm; omega
  have hblk := hg.block c hlt hne
  exact ⟨a, len, cap, i, h, hg.cell h0 hne, hg.cell h1 hne, hg.cell h2 hne, by rw [World.frozen?_of_block (w := w) (a := ⟨c, 1, none⟩) hblk]; exact f1, by rw [World.frozen?_of_block (w := w) (a := ⟨c, 2, none⟩) hblk]; exact f2, hi, hl, hb.grown hg hr (by omega), Nat.lt_of_lt_of_le hlt hg.size⟩
theorem Row.grown {p : Value → Bool} {w w' : World} {a : Addr} {len c : Nat} {row : Option Nat} (h : Row p w a len c) (hg : w.grownBy w' row) (hr : some a.block ≠ row) : Row p w' a len c :=
  ⟨h.1, h.2.1, Nat.lt_of_lt_of_le h.2.2.1 hg.size, fun j hj => by
    obtain ⟨v, h1, h2⟩ := h.2.2.2 j hj
    exact ⟨v, hg.cell (a := ⟨a.block, a.off + j, none⟩) h1 hr, h2⟩⟩

structure St (w : World) (c lit : Nat) (wr : World) (v : Value) (xs : List ByteArray) : Prop where
  own : wr.ownsRow (c + 1) 9 1 v xs.length (xs.map Value.string)
  ne : v.ownBlock ≠ some lit
  cur : Cur wr c
  row : Row isStr wr ⟨lit, 0, none⟩ 4 c
  low : Below c w wr
end Go.Proofs.YtooninmicfcfoaaGreat.Draw
namespace Go.Proofs.YtooninmicfcfoaaGreat.DrawL
open Go.RowKit
open Draw
open Labs LabS LabR Over Blk App
open LabT (infoL)

def Small (p : List Lab) : Prop := ∀ x ∈ p, x.1.size ≤ 100 ∧ x.2.size ≤ 100
theorem small_app {p q : List Lab} (h : Small p) (k : Small q) : Small (p ++ q) := fun x hx => by
  rcases List.mem_append.1 hx with h1 | h1
  · exact h x h1
  · exact k x h1
theorem small_one {a b : ByteArray} (h : a.size ≤ 100) (k : b.size ≤ 100) : Small [(a, b)] := fun x hx => by
  have : x = (a, b) := by simpa using hx
  subst this; exact ⟨h, k⟩
theorem flat_app (p q : List Lab) : flat (p ++ q) = flat p ++ flat q := by
  induction p with
  | nil => rfl
  | cons x p ih => rw [List.cons_append, flat, ih]; rfl

structure LSt (w : World) (c : Nat) (wr : World) (v : Value) (p : List Lab) : Prop where
  own : wr.ownsRow w.heap.size 127 2 v p.length (flat p)
  lies : ∃ g cap, v = .slice (some ⟨g, 0, none⟩) p.length cap
  cur : Cur wr c
  kept : Kept c w wr
  clt : c < w.heap.size
  fit : Small p
theorem LSt.lt {w : World} {c : Nat} {wr : World} {v : Value} {p : List Lab} (h : LSt w c wr v p) : ∀ k, v.ownBlock = some k → c < k := fun k hk => by
  have := (h.own.lt k hk).1; have := h.clt; omega
theorem LSt.keep {w : World} {c : Nat} {wr w' : World} {v : Value} {p : List Lab} (h : LSt w c wr v p) (hc : Cur w' c) (hk : Kept c wr w') : LSt w c w' v p :=
  ⟨h.own.kept hk.grown (by
      cases hv : v.ownBlock with
      | none => exact .inl rfl
      | some k => exact .inr (fun e => by have := h.lt k hv; cases e; omega)), h.lies, hc, h.kept.trans hk, h.clt, h.fit⟩
theorem LSt.alloc {w : World} {c : Nat} {wr : World} {v : Value} {p : List Lab} (h : LSt w c wr v p) (o : Obj) : LSt w c (wr.alloc o) v p :=
  h.keep (h.cur.alloc o) ((Kept.refl c wr).alloc o)
theorem kept_grown {c B : Nat} {w W w' : World} {row : Option Nat} (h : Kept c w W) (hg : W.grownBy w' row) (hr : ∀ k, row = some k → w.heap.size ≤ k) : Kept c w w' :=
  ⟨hg.os.trans h.os, hg.tape.trans h.tape, hg.output.trans h.output, Nat.le_trans h.size hg.size, fun k hk hc => (hg.block k (Nat.lt_of_lt_of_le hk h.size) (fun e => by have := hr k e.symm; omega)).trans (h.block k hk hc)⟩
theorem own_form {w : World} {B : Nat} {v : Value} {p : List Lab} (h : w.ownsRow B 127 2 v p.length (flat p)) (hp : 0 < p.length) : ∃ g cap, v = .slice (some ⟨g, 0, none⟩) p.length cap := by
  obtain ⟨g, c, e, _⟩ := h.form hp
  exact ⟨g, c, e⟩
theorem LSt.add {w : World} {c : Nat} {W w' : World} {v v' : Value} {p q : List Lab} {n m : Nat} {xs ys : List Value} (h : LSt w c W v p) (hn : n = p.length) (hm : m = q.length) (hx : xs = flat p) (hy : ys = flat q) (hf : Small q) (hq : 0 < q.length)
    (hown : w'.ownsRow w.heap.size 127 2 v' (n + m) (xs ++ ys)) (hg : W.grownBy w' v.ownBlock) : LSt w c w' v' (p ++ q) := by
  subst hn hm hx hy
  have ho : w'.ownsRow w.heap.size 127 2 v' (p ++ q).length (flat (p ++ q)) := by rw [flat_app, List.length_append]; exact hown
  exact ⟨ho, own_form ho (by simp; omega), h.cur.grown hg h.lt, kept_grown (B := 0) h.kept hg (fun k hk => (h.own.lt k hk).1), h.clt, small_app h.fit hf⟩
theorem LSt.blk {w : World} {c : Nat} {wr : World} {g cap : Nat} {p : List Lab} {n : Nat} (h : LSt w c wr (.slice (some ⟨g, 0, none⟩) n cap) p) : w.heap.size ≤ g ∧ g < wr.heap.size := h.own.lt g rfl
theorem own_one {w : World} {B M : Nat} {x : Lab} (h : Blk w M #[.string x.1, .string x.2] 127) (hB : B ≤ M) : w.ownsRow B 127 2 (.slice (some ⟨M, 0, none⟩) 1 1) 1 (flat [x]) :=
  ⟨rfl, .inr ⟨M, 1, _, rfl, hB, h, Nat.le_refl _, by simp [maxLen], rfl, rfl⟩⟩
theorem lst_one {w : World} {c : Nat} {W : World} {x : Lab} (hc : Cur W c) (hk : Kept c w W) (hcl : c < w.heap.size) (hs : x.1.size ≤ 100 ∧ x.2.size ≤ 100) : LSt w c (W.alloc (.cells #[.string x.1, .string x.2] 127)) (.slice (some ⟨W.heap.size, 0, none⟩) 1 1) [x] :=
  ⟨own_one (Blk.new _ _ _) hk.size, ⟨_, _, rfl⟩, hc.alloc _, hk.alloc _, hcl, small_one hs.1 hs.2⟩

theorem grown_set (w : World) (g i : Nat) (v : Value) : w.grownBy (w.setCell ⟨g, i, none⟩ v) (some g) :=
  ⟨rfl, rfl, rfl, by simp [World.setCell], fun k _ hne => Below.heap_setCell _ _ _ _ (fun e => hne (by rw [e]))⟩
end Go.Proofs.YtooninmicfcfoaaGreat.DrawL
namespace Go.Proofs.YtooninmicfcfoaaGreat.DrawT
open Go.RowKit
open Draw
open Labs LabS Over DrawL

theorem small_fits {p : List Lab} (h : Small p) : ∀ i, i < p.length → (nth p i).1.size ≤ maxLen ∧ (nth p i).2.size ≤ maxLen := fun i hi => by
  rw [nth_eq hi]
  have := h _ (List.getElem_mem hi)
  unfold maxLen
  exact ⟨by omega, by omega⟩
end Go.Proofs.YtooninmicfcfoaaGreat.DrawT
namespace Go.Proofs.YtooninmicfcfoaaGreat.DrawA
open Go.RowKit
open Draw
open Labs LabS LabR Over Blk App DrawL DrawT Alm AlmM
open LabT (infoL Held held_reads)

theorem blk_kept {c M : Nat} {w w' : World} {cs : Array Value} {T : TypeId} (h : Blk w M cs T) (hk : Kept c w w') (hne : M ≠ c) : Blk w' M cs T := by
  have hl := h.lt
  unfold Blk at *
  rw [hk.block M hl hne]; exact h
theorem lst_base {w W wr : World} {c : Nat} {v : Value} {p : List Lab} (h : LSt W c wr v p) (hk : Kept c w W) (hc : c < w.heap.size) : LSt w c wr v p :=
  ⟨Go.Joins.ownsRow_le h.own hk.size, h.lies, h.cur, hk.trans h.kept, hc, h.fit⟩
theorem lst_other {w wr : World} {c : Nat} {v : Value} {p : List Lab} (h : LSt w c wr v p) {B : Nat} (hB : w.heap.size ≤ B) (hne : v.ownBlock ≠ some B) (i : Nat) (u : Value) : LSt w c (wr.setCell ⟨B, i, none⟩ u) v p :=
  ⟨h.own.kept (grown_set wr B i u) (.inr hne), h.lies, h.cur.grown (grown_set wr B i u) (fun k hk => by cases hk; have := h.clt; omega), kept_grown (B := 0) h.kept (grown_set wr B i u) (fun k hk => by cases hk; exact hB), h.clt, h.fit⟩
theorem lst_other4 {w wr : World} {c : Nat} {v : Value} {p : List Lab} (h : LSt w c wr v p) {B : Nat} (hB : w.heap.size ≤ B) (hne : v.ownBlock ≠ some B) (u0 u1 u2 u3 : Value) : LSt w c ((((wr.setCell ⟨B, 0, none⟩ u0).setCell ⟨B, 1, none⟩ u1).setCell ⟨B, 2, none⟩ u2).setCell ⟨B, 3, none⟩ u3) v p :=
  lst_other (lst_other (lst_other (lst_other h hB hne 0 u0) hB hne 1 u1) hB hne 2 u2) hB hne 3 u3
theorem own_ne {g n c B : Nat} (h : g ≠ B) : (Value.slice (some ⟨g, 0, none⟩) n c).ownBlock ≠ some B := fun e => h (Option.some.inj e)
def I64 (x : Int) : Prop := -9223372036854775808 ≤ x ∧ x ≤ 9223372036854775807

end Go.Proofs.YtooninmicfcfoaaGreat.DrawA
namespace Go.Proofs.YtooninmicfcfoaaGreat.DrawB
open Go.RowKit
open Draw
open Labs LabS LabR Over Blk App DrawL DrawT Alm AlmM DrawA
open LabT (infoL Held held_reads)

end Go.Proofs.YtooninmicfcfoaaGreat.DrawB
namespace Go.Proofs.YtooninmicfcfoaaGreat.DrawC
open Go.RowKit
open Draw
open Labs LabS Over Blk App DrawL DrawT Alms AlmM DrawA DrawB Rws ChnI ChnC ChnP ChnK
open LabT (Held held_reads)

theorem grown_bel {w w' : World} (h : Below w.heap.size w w') : w.grownBy w' none := ⟨h.os, h.tape, h.output, h.size, fun k hk _ => h.block k hk⟩
theorem cur_bel {w w' : World} {c : Nat} (h : Cur w c) (hb : Below w.heap.size w w') : Cur w' c := h.grown (grown_bel hb) (fun k hk => by cases hk)
theorem kept_bel {c : Nat} {w w' : World} (h : Below w.heap.size w w') : Kept c w w' := ⟨h.os, h.tape, h.output, h.size, fun k hk _ => h.block k hk⟩
theorem cur_set {w : World} {c A : Nat} (h : Cur w c) (hne : c < A) (i : Nat) (v : Value) : Cur (w.setCell ⟨A, i, none⟩ v) c := h.grown (grown_set w A i v) (fun k hk => by cases hk; exact hne)
theorem own_kept {c lo : Nat} {w w' : World} {x : ARow} (h : OwnA lo w x) (hk : Kept c w w') (hc : c < lo) : OwnA lo w' x := by
  obtain ⟨h1, h2, ds, hb, h3⟩ := h
  exact ⟨h1, h2, ds, blk_kept hb hk (by omega), h3⟩
theorem ab_kept {c lo : Nat} {w w' : World} {M cap : Nat} {rs : List ARow} (h : AB lo w M cap rs) (hk : Kept c w w') (hc : c < lo) : AB lo w' M cap rs := by
  obtain ⟨cur, h1, h2⟩ := h.outer
  exact ⟨h.at', h.cap, ⟨cur, blk_kept h1 hk (by have := h.at'; omega), h2⟩, fun x hx => own_kept (h.rows x hx) hk hc, h.ne⟩
theorem own_lst {W w' : World} {c g cap : Nat} {p : List Lab} {s e : Int} {n : ByteArray} (h : LSt W c w' (.slice (some ⟨g, 0, none⟩) p.length cap) p) (hp : p.length ≤ 8) : OwnA W.heap.size w' (g, cap, ⟨p, s, e, n⟩) := by
  rcases h.own.2 with ⟨e', _⟩ | ⟨g', c', cur, e', hb, hcur, hcc, _, hz, ht⟩
  · cases e'
  · cases e'
    refine ⟨hb, by show p.length ≤ _; omega, cur, hcur, by show p.length * 2 ≤ _; rw [hz]; omega, fun j hj => ?_⟩
    have hj' : j < p.length := hj
    have h2 := LabR.flat_get p j hj'
    have hl := LabR.flat_len p
    rw [← ht, List.getElem?_take_of_lt (by omega), List.getElem?_take_of_lt (by omega)] at h2
    simpa using h2

def Fine (x : PAl) : Prop := FitA x ∧ x.l.length ≤ 8
def Fines (P : List PAl) : Prop := ∀ x ∈ P, Fine x
theorem fine_of {p : List Lab} {s e : Int} {n : ByteArray} (hp : p.length ≤ 8) (hf : Small p) (hs : I64 s) (he : I64 e) (hn : n.size ≤ 100) : Fine ⟨p, s, e, n⟩ :=
  ⟨⟨by show p.length ≤ _; unfold maxLen; omega, small_fits hf, hs, he, by show n.size ≤ _; unfold maxLen; omega⟩, hp⟩
theorem nthP_mem {P : List PAl} {i : Nat} (h : i < P.length) : nthP P i ∈ P := by rw [nthP_eq h]; exact List.getElem_mem _
theorem fines_app {P : List PAl} {a : PAl} (h : Fines P) (ha : Fine a) : Fines (P ++ [a]) := fun x hx => by
  rcases List.mem_append.1 hx with h1 | h1
  · exact h x h1
  · have : x = a := by simpa using h1
    subst this; exact ha
end Go.Proofs.YtooninmicfcfoaaGreat.DrawC
namespace Go.Proofs.YtooninmicfcfoaaGreat.DrawC
open Go.RowKit
open Draw
open Labs LabS Over Blk App DrawL DrawT Alms AlmM DrawA DrawB Rws ChnI ChnC ChnP ChnS ChnU ChnK
open LabT (Held held_reads)
open Fing (fingerB)

theorem fines_put {P : List PAl} {a : PAl} (h : Fines P) (ha : Fine a) : Fines (putL P a) := by
  rcases idxTo_cases P a.l P.length with hm | ⟨k, hk, he, hj⟩
  · rw [(put_miss hm).1]; exact fines_app h ha
  · rw [(put_hit hj he hk).1]
    intro x hx
    rcases List.mem_or_eq_of_mem_set hx with h1 | h1
    · exact h x h1
    · subst h1; exact ⟨fit_merge (h _ (nthP_mem hk)).1 ha.1, ha.2⟩
end Go.Proofs.YtooninmicfcfoaaGreat.DrawC
namespace Go.Proofs.YtooninmicfcfoaaGreat.DrawD
open Go.RowKit
open Draw
open Labs LabS Over Blk App DrawL DrawT Alms AlmM DrawA DrawB Rws ChnI ChnC ChnP ChnS ChnU ChnK DrawC

end Go.Proofs.YtooninmicfcfoaaGreat.DrawD
namespace Go.Proofs.YtooninmicfcfoaaGreat.DrawE
open Go.RowKit
open Draw
open Labs LabS Over Blk App DrawL DrawT Alms AlmM DrawA DrawB Rws ChnI ChnC ChnP ChnS ChnU ChnK DrawC DrawD
open LabT (Held infoL)
open LabR (flat flat_len flat_one)

def DAl (w : World) (g : Nat) (x : PAl) : Prop := Reads w (some ⟨g, 0, none⟩) x.l ∧ Fine x
theorem DAl.below {w w' : World} {g : Nat} {x : PAl} (h : DAl w g x) (hb : Below w.heap.size w w') : DAl w' g x := ⟨h.1.below hb, h.2⟩

end Go.Proofs.YtooninmicfcfoaaGreat.DrawE
namespace Go.Proofs.YtooninmicfcfoaaGreat.DrawG
open Go.RowKit
open Draw
open Labs LabS Over Blk App DrawL DrawT Alms AlmM DrawA DrawB Rws ChnI ChnC ChnP ChnK DrawC DrawD DrawE Chs Prt PrtF PrtC
open LabT (Held held_reads)
open Fing (fingerB)

theorem cb_kept {c lo : Nat} {w w' : World} {M cap : Nat} {cs : List CRow} (h : CB lo w M cap cs) (hk : Kept c w w') (hc : c < lo) : CB lo w' M cap cs := by
  obtain ⟨cur, h1, h2⟩ := h.outer
  exact ⟨h.at', h.cap, ⟨cur, blk_kept h1 hk (by have := h.at'; omega), h2⟩, ⟨fun x hx => ab_kept (h.rows.rows x hx) hk hc, h.rows.ne⟩⟩
def PL (lo : Nat) (w : World) (a : Option Addr) (cap : Nat) (cs : List CRow) : Prop := (a = none ∧ cap = 0 ∧ cs = []) ∨ ∃ M, a = some ⟨M, 0, none⟩ ∧ CB lo w M cap cs
def FinC (n : Nat) (C : List PCh) : Prop := ∀ x ∈ C, Fines x.P ∧ x.P.length ≤ n ∧ DrawA.I64 x.f
theorem FinC.mono {n m : Nat} {C : List PCh} (h : FinC n C) (hm : n ≤ m) : FinC m C := fun x hx => ⟨(h x hx).1, Nat.le_trans (h x hx).2.1 hm, (h x hx).2.2⟩
theorem FinC.nil (n : Nat) : FinC n [] := fun x hx => by simp at hx
theorem finC_put {n : Nat} {C : List PCh} {x : PAl} (h : FinC n C) (hx : Fine x) : FinC (n + 1) (putC C x) := by
  rcases at_cases C (fingerB x.l : Int) with ⟨h0, h1, h2⟩ | ⟨k, h0, h1, hk, h3, h4⟩
  · rw [(put_none h0).1]
    intro y hy
    rcases List.mem_append.1 hy with hy | hy
    · exact (h.mono (Nat.le_succ n)) y (List.mem_of_mem_take hy)
    · rcases List.mem_cons.1 hy with hy | hy
      · subst hy
        have := Fing.finger_lt x.l
        exact ⟨fun z hz => by rw [List.mem_singleton.1 hz]; exact hx, by simp, ⟨by show -9223372036854775808 ≤ ((fingerB x.l : Nat) : Int); omega, by show ((fingerB x.l : Nat) : Int) ≤ _; omega⟩⟩
      · exact (h.mono (Nat.le_succ n)) y (List.mem_of_mem_drop hy)
  · rw [(put_some h0).1]
    intro y hy
    rcases List.mem_or_eq_of_mem_set hy with hy | hy
    · exact (h.mono (Nat.le_succ n)) y hy
    · subst hy
      have hm := h _ (nthC_mem hk)
      have h5 := (put_sum (nthC C k).P x).2
      exact ⟨fines_put hm.1 hx, by show (putL _ _).length ≤ _; omega, hm.2.2⟩

end Go.Proofs.YtooninmicfcfoaaGreat.DrawG
namespace Go.Proofs.YtooninmicfcfoaaGreat.DrawH
open Go.RowKit
open Draw
open Labs LabS Over Blk App DrawL DrawT Alms AlmM DrawA DrawB Rws ChnI ChnC ChnP ChnU ChnK DrawC DrawD DrawE Chs Prt PrtF PrtC DrawG

structure HSt (w : World) (c X : Nat) (wr : World) (hd vr : Int) (u : Value) (a : Option Addr) (cap : Nat) (cs : List CRow) : Prop where
  cur : Cur wr c
  kept : Kept c w wr
  clt : c < w.heap.size
  ord : w.heap.size < X ∧ X < wr.heap.size
  bR : Blk wr w.heap.size #[.int .i64 0, .int .i64 0, .slice none 0 0] 26
  bX : Blk wr X #[.int .i64 hd, .int .i64 vr, u] 26
  list : PL (w.heap.size + 1) wr a cap cs
  fine : FinC 7 (chs cs)
end Go.Proofs.YtooninmicfcfoaaGreat.DrawH
namespace Go.Proofs.YtooninmicfcfoaaGreat.DrawI
open Go.RowKit
open Draw
open Labs LabS Over Blk App DrawL DrawT Alms AlmM DrawA DrawB Rws ChnI ChnC ChnP ChnU ChnK DrawC DrawD DrawE Chs Prt PrtF PrtC DrawG DrawH
open LabT (Held infoL)
open LabR (flat flat_len flat_one)

structure QDr (w : World) (c : Nat) (wr : World) (g cap : Nat) (q : List Lab) : Prop where
  own : OwnA w.heap.size wr (g, cap, ⟨q, 0, 0, ByteArray.empty⟩)
  cur : Cur wr c
  kept : Kept c w wr
  fits : LabT.Fits q
  few : q.length ≤ 8
theorem qdr_of {w w1 wr : World} {c g cap : Nat} {p : List Lab} (hk : Kept c w w1) (h : LSt w1 c wr (.slice (some ⟨g, 0, none⟩) p.length cap) p) (hp : p.length ≤ 8) : QDr w c wr g cap p :=
  ⟨(own_lst h hp).down hk.size, h.cur, hk.trans h.kept, small_fits h.fit, hp⟩
end Go.Proofs.YtooninmicfcfoaaGreat.DrawI
namespace Go.Proofs.YtooninmicfcfoaaGreat.DrawS
open Go.RowKit
open Draw
open Labs LabS Over Blk App DrawL DrawT Alms AlmM DrawA
open LabO (setB okAt set_good)
open LabR (flat flat_one flat_len flat_get)
open LabT (infoL)
open AlmS (alarmB)
open Names (nameB plainB)
open StrB (lessB)

def strP (p : ByteArray → Bool) : Value → Bool | .string s => p s && decide (s.size ≤ 100) | _ => false
def intP (p : Int → Bool) : Value → Bool | .int .i64 n => p n | _ => false
theorem strP_of {p : ByteArray → Bool} {v : Value} (h : strP p v = true) : ∃ s : ByteArray, v = .string s ∧ p s = true ∧ s.size ≤ 100 := by
  unfold strP at h
  split at h
  · rw [Bool.and_eq_true] at h; exact ⟨_, rfl, h.1, of_decide_eq_true h.2⟩
  · cases h
theorem intP_of {p : Int → Bool} {v : Value} (h : intP p v = true) : ∃ n : Int, v = .int .i64 n ∧ p n = true := by
  unfold intP at h
  split at h
  · exact ⟨_, rfl, h⟩
  · cases h
set_option maxHeartbeats 400000 in
theorem strQ_any (p : ByteArray → Bool) (c b off len cap : Nat) (w : World) (hc : Cur w c) (hr : Row (strP p) w ⟨b, off, none⟩ len c) (h1 : 0 < len) (h2 : len ≤ 256) :
    Calls Tryz.prog 145 #[.pointer (some ⟨c, 0, none⟩), .slice (some ⟨b, off, none⟩) len cap] w fun e w' => (∃ s : ByteArray, e = .returned (.string s) ∧ p s = true ∧ s.size ≤ 100) ∧ Cur w' c ∧ Kept c w w' := by
  have HC : Hid (Cur w c) := hc
  have HR : Hid (Row (strP p) w ⟨b, off, none⟩ len c) := hr
  clear hc hr
  go_enter Tryz.func145, Tryz.ntmps145
  go_wp2_with fail
  refine (below_any c (len : Int) _ HC.out (by omega) (by omega)).mono ?_
  rintro e w1 ⟨⟨x, rfl, hx0, hx1⟩, hc1, hk1⟩
  have HC1 : Hid (Cur w1 c ∧ Kept c w w1) := ⟨hc1, hk1⟩
  obtain ⟨k, rfl⟩ := Int.eq_ofNat_of_zero_le hx0
  obtain ⟨v, hv, hp⟩ := (HR.out.keep hk1).2.2.2 k (by omega)
  obtain ⟨s, rfl, hs⟩ := strP_of hp
  have HS : Hid _ := hs
  clear hc1 hk1 hp hs
  go_wp2
  go_ret
  exact ⟨⟨_, rfl, HS.out⟩, HC1.out⟩
set_option maxHeartbeats 400000 in
theorem intQ_any (p : Int → Bool) (c b off len cap : Nat) (w : World) (hc : Cur w c) (hr : Row (intP p) w ⟨b, off, none⟩ len c) (h1 : 0 < len) (h2 : len ≤ 256) :
    Calls Tryz.prog 77 #[.pointer (some ⟨c, 0, none⟩), .slice (some ⟨b, off, none⟩) len cap] w fun e w' => (∃ n : Int, e = .returned (.int .i64 n) ∧ p n = true) ∧ Cur w' c ∧ Kept c w w' := by
  have HC : Hid (Cur w c) := hc
  have HR : Hid (Row (intP p) w ⟨b, off, none⟩ len c) := hr
  clear hc hr
  go_enter Tryz.func77, Tryz.ntmps77
  go_wp2_with fail
  refine (below_any c (len : Int) _ HC.out (by omega) (by omega)).mono ?_
  rintro e w1 ⟨⟨x, rfl, hx0, hx1⟩, hc1, hk1⟩
  have HC1 : Hid (Cur w1 c ∧ Kept c w w1) := ⟨hc1, hk1⟩
  obtain ⟨k, rfl⟩ := Int.eq_ofNat_of_zero_le hx0
  obtain ⟨v, hv, hp⟩ := (HR.out.keep hk1).2.2.2 k (by omega)
  obtain ⟨s, rfl, hs⟩ := intP_of hp
  have HS : Hid _ := hs
  clear hc1 hk1 hp hs
  go_wp2
  go_ret
  exact ⟨⟨_, rfl, HS.out⟩, HC1.out⟩
set_option maxHeartbeats 400000 in
theorem plainQ_any (c : Nat) (w : World) (hc : Cur w c) :
    Calls Tryz.prog 119 #[.pointer (some ⟨c, 0, none⟩)] w fun e w' => (∃ s : ByteArray, e = .returned (.string s) ∧ plainB s = true ∧ s.size ≤ 100) ∧ Cur w' c ∧ Kept c w w' := by
  have HC : Hid (Cur w c) := hc
  clear hc
  go_enter Tryz.func119, Tryz.ntmps119
  go_wp2_with fail
  refine (strQ_any plainB c _ _ _ _ _ ?hc ?hr ?h1 ?h2).mono ?_
  case hc => exact HC.out.alloc _
  case hr => exact row_lit (by decide +kernel) rfl HC.out.lt
  case h1 => decide
  case h2 => decide
  rintro e w1 ⟨⟨n, rfl, hn, hn2⟩, hc1, hk1⟩
  have HC1 : Hid (Cur w1 c ∧ Kept c w w1) := ⟨hc1, ((Kept.refl c w).alloc _).trans hk1⟩
  have HN : Hid (plainB n = true ∧ n.size ≤ 100) := ⟨hn, hn2⟩
  clear hc1 hk1 hn hn2
  go_wp2
  go_ret
  exact ⟨⟨_, rfl, HN.out⟩, HC1.out⟩
theorem set_app {p : List Lab} {x : Lab} (h : setB p = true) (hx : labB x = true) (hl : p.length < 4) (hn : 0 < p.length → lessB (nth p (p.length - 1)).1 x.1 = true) : setB (p ++ [x]) = true := by
  have ho : ∀ j, j < (p ++ [x]).length → okAt (p ++ [x]) j = true := fun j hj => by
    by_cases e : j < p.length
    · have h1 := LabV.set_at h e
      unfold okAt at h1 ⊢
      rw [LabP.nth_left e]
      by_cases e0 : j = 0
      · subst e0; simpa using h1
      · rw [LabP.nth_left (show j - 1 < p.length by omega)]; exact h1
    · have ej : j = p.length := by simp at hj; omega
      subst ej
      unfold okAt
      have e1 : nth (p ++ [x]) p.length = x := by rw [LabP.nth_right (Nat.le_refl _), Nat.sub_self]; rfl
      rw [e1, hx]
      by_cases e0 : p.length = 0
      · simp [e0]
      · rw [LabP.nth_left (show p.length - 1 < p.length by omega), hn (by omega)]; simp
  rw [set_good ho]
  simp; omega
def nm3 : Nat → ByteArray
  | 0 => ⟨#[104, 111, 115, 116]⟩
  | 1 => ⟨#[115, 101, 118]⟩
  | _ => ⟨#[122, 111, 110, 101]⟩
theorem nm_name {j : Nat} (hj : j < 3) : nameB (nm3 j) = true := by
  have : j = 0 ∨ j = 1 ∨ j = 2 := by omega
  rcases this with rfl | rfl | rfl <;> decide +kernel
theorem app_name : nameB ⟨#[97, 112, 112]⟩ = true := by decide +kernel
theorem lab_of {x : Lab} (h1 : nameB x.1 = true) (h2 : plainB x.2 = true) : labB x = true := by unfold labB; rw [h1, h2]; rfl
theorem nm_lab {j : Nat} {y : ByteArray} (hj : j < 3) (hy : plainB y = true) : labB (nm3 j, y) = true := lab_of (nm_name hj) hy
theorem nm_less {i j : Nat} (h : i < j) (hj : j < 3) : lessB (nm3 i) (nm3 j) = true := by
  have : (i = 0 ∧ j = 1) ∨ (i = 0 ∧ j = 2) ∨ (i = 1 ∧ j = 2) := by omega
  rcases this with ⟨rfl, rfl⟩ | ⟨rfl, rfl⟩ | ⟨rfl, rfl⟩ <;> decide +kernel
theorem nm_app {j : Nat} (hj : j < 3) : lessB ⟨#[97, 112, 112]⟩ (nm3 j) = true := by
  have : j = 0 ∨ j = 1 ∨ j = 2 := by omega
  rcases this with rfl | rfl | rfl <;> decide +kernel
def strEq (s : ByteArray) : ByteArray → Bool := fun t => decide (t = s)
structure LLx (w : World) (c lit : Nat) (wr : World) (v : Value) (p : List Lab) : Prop where
  st : LSt w c wr v p
  row : ∀ j, j < 3 → Row (strP (strEq (nm3 j))) wr ⟨lit, j, none⟩ 1 c
  ne : v.ownBlock ≠ some lit
theorem LLx.keep {w : World} {c lit : Nat} {wr w' : World} {v : Value} {p : List Lab} (h : LLx w c lit wr v p) (hc : Cur w' c) (hk : Kept c wr w') : LLx w c lit w' v p :=
  ⟨h.st.keep hc hk, fun j hj => (h.row j hj).keep hk, h.ne⟩
theorem LLx.alloc {w : World} {c lit : Nat} {wr : World} {v : Value} {p : List Lab} (h : LLx w c lit wr v p) (o : Obj) : LLx w c lit (wr.alloc o) v p :=
  h.keep (h.st.cur.alloc o) ((Kept.refl c wr).alloc o)
theorem LLx.add {w : World} {c lit : Nat} {W w' : World} {v v' : Value} {p q : List Lab} {n m : Nat} {xs ys : List Value} (h : LLx w c lit W v p) (hn : n = p.length) (hm : m = q.length) (hx : xs = flat p) (hy : ys = flat q) (hf : Small q) (hq : 0 < q.length)
    (hown : w'.ownsRow w.heap.size 127 2 v' (n + m) (xs ++ ys)) (hg : W.grownBy w' v.ownBlock) (N : Nat) (hN : N = W.heap.size) (hat : v'.ownBlock = v.ownBlock ∨ v'.ownBlock = some N) : LLx w c lit w' v' (p ++ q) := by
  subst hN
  refine ⟨h.st.add hn hm hx hy hf hq hown hg, fun j hj => (h.row j hj).grown hg (fun e => h.ne e.symm), ?_⟩
  rcases hat with hat | hat
  · rw [hat]; exact h.ne
  · rw [hat]; intro e; have hlt : lit < W.heap.size := (h.row 0 (by omega)).2.2.1; cases e; omega
theorem llx_row {w : World} {c b : Nat} {T : TypeId} (hc : c < w.heap.size) (hb : b = w.heap.size) : ∀ j, j < 3 → Row (strP (strEq (nm3 j))) (w.alloc (.cells #[.string ⟨#[104, 111, 115, 116]⟩, .string ⟨#[115, 101, 118]⟩, .string ⟨#[122, 111, 110, 101]⟩] T)) ⟨b, j, none⟩ 1 c := fun j hj => by
  subst hb
  refine ⟨rfl, by show w.heap.size ≠ c; omega, by simp, fun i hi => ?_⟩
  have hi0 : i = 0 := by omega
  subst hi0
  have : j = 0 ∨ j = 1 ∨ j = 2 := by omega
  rcases this with rfl | rfl | rfl
  · exact ⟨.string ⟨#[104, 111, 115, 116]⟩, by rw [World.cell?_alloc_new]; rfl, by decide +kernel⟩
  · exact ⟨.string ⟨#[115, 101, 118]⟩, by rw [World.cell?_alloc_new]; rfl, by decide +kernel⟩
  · exact ⟨.string ⟨#[122, 111, 110, 101]⟩, by rw [World.cell?_alloc_new]; rfl, by decide +kernel⟩
set_option maxHeartbeats 1600000 in
theorem l2DrawS_any (c : Nat) (w : World) (hc : Cur w c) :
    Calls Tryz.prog 104 #[.pointer (some ⟨c, 0, none⟩)] w fun e w' => ∃ v, e = .returned v ∧ ∃ p, LSt w c w' v p ∧ 1 ≤ p.length ∧ p.length ≤ 4 ∧ setB p = true := by
  have HC : Hid (Cur w c) := hc
  have HL : Hid (c < w.heap.size) := hc.lt
  clear hc
  obtain ⟨i0, hi, hz0, hz1, hz2⟩ := info_parts infoL
  go_enter Tryz.func104, Tryz.ntmps104
  go_wp2_with fail
  refine (strQ_any plainB c w.heap.size 0 3 3 _ (HC.out.alloc _) ?_ (by decide) (by decide)).mono ?_
  · exact row_lit (by decide +kernel) rfl HL.out
  rintro e w1 ⟨⟨s, rfl, hsp, hs⟩, hc1, hk1⟩
  have HSP : Hid (plainB s = true) := hsp
  clear hsp
  have HK1 : Hid (Kept c w w1) := ((Kept.refl c w).alloc _).trans hk1
  have HC1 : Hid (Cur w1 c) := hc1
  clear hc1 hk1
  go_wp2_with fail
  go_loopw [3, 13] (fun v i wr => ∃ (k : Nat) (p : List Lab), k ≤ 3 ∧ i = .int .i64 k ∧ 1 ≤ p.length ∧ p.length ≤ k + 1 ∧ setB p = true ∧ (∀ j, k ≤ j → j < 3 → lessB (nth p (p.length - 1)).1 (nm3 j) = true) ∧ LLx w c (w1.heap.size + 1) wr v p) (fun _ i _ => 3 - (intOf i).toNat)
  case atStart =>
    refine ⟨0, [(⟨#[97, 112, 112]⟩, s)], by omega, rfl, by simp, by simp, set_app (p := []) (by decide +kernel) (lab_of app_name HSP.out) (by simp) (fun h => by simp at h), fun j _ hj => nm_app hj, ⟨(lst_one (x := (⟨#[97, 112, 112]⟩, s)) HC1.out HK1.out HL.out ⟨show (ByteArray.mk #[97, 112, 112]).size ≤ 100 by decide, hs⟩).alloc _, ?_, by simp [Value.ownBlock]⟩⟩
    exact llx_row (by have := HK1.out.size; have := HL.out; simp; omega) (by simp)
  case round =>
    obtain ⟨k, p, hk, rfl, hp1, hp2, hsb, hnx, hst⟩ := hrel
    have HSB : Hid (setB p = true ∧ ∀ j, k ≤ j → j < 3 → lessB (nth p (p.length - 1)).1 (nm3 j) = true) := ⟨hsb, hnx⟩
    clear hsb hnx
    have HS : Hid (LLx w c (w1.heap.size + 1) wr u3 p) := hst
    clear hst
    by_cases hlt : k < 3
    · have hlt' : (k : Int) < 3 := by omega
      obtain ⟨v, hv, hp⟩ := (HS.out.row k hlt).2.2.2 0 (by omega)
      obtain ⟨t, rfl, hte, ht⟩ := strP_of hp
      have hT : t = nm3 k := of_decide_eq_true hte
      have HT : Hid (t = nm3 k) := hT
      clear hT
      have hv' : wr.cell? ⟨w1.heap.size + 1, k, none⟩ = some (.string t) := by simpa using hv
      clear hv hp hte
      go_wp2_with fail
      refine (once_any _ 4 _ HS.out.st.cur (by decide) (by decide)).mono ?_
      rintro e w2 ⟨⟨b, rfl⟩, hc2, hk2⟩
      have HS2 : Hid (LLx w c (w1.heap.size + 1) w2 u3 p) := HS.out.keep hc2 hk2
      clear hc2 hk2 hv'
      cases b with
      | true =>
        go_wp2_with fail
        refine (strQ_any plainB c w2.heap.size 0 2 2 _ (HS2.out.st.cur.alloc _) ?_ (by decide) (by decide)).mono ?_
        · exact row_lit (by decide +kernel) rfl HS2.out.st.cur.lt
        rintro e w3 ⟨⟨y, rfl, hyp, hy⟩, hc3, hk3⟩
        have HYP : Hid (plainB y = true) := hyp
        clear hyp
        have HS3 : Hid (LLx w c (w1.heap.size + 1) w3 u3 p) := (HS2.out.alloc _).keep hc3 hk3
        clear hc3 hk3
        go_wp2_with (at_builtin; refine wpList_append_own_at _ rfl _ _ 27 rfl w.heap.size 127 i0 (.agg #[.string ByteArray.empty, .string ByteArray.empty]) 2 32 Tryz.underlying27 hi hz0 hz1 hz2 rfl (by decide) _ _ _ rfl (HS3.out.alloc _).st.own ⟨w3.heap.size, 0, none⟩ 1 1 [.string t, .string y] rfl rfl ?c1 ?c2 ?c3 ?c4 ?c5 ?_)
        case c1 => exact blk_news (Blk.new _ _ _)
        case c2 => exact flat_one [(t, y)]
        case c3 => unfold maxLen; omega
        case c4 => omega
        case c5 => have := HS3.out.st.kept.size; simp; omega
        intro v' w4 hown hg _ hat
        have HS4 : Hid (LLx w c (w1.heap.size + 1) w4 v' (p ++ [(t, y)])) := (HS3.out.alloc _).add (q := [(t, y)]) rfl rfl rfl rfl (small_one ht hy) (by simp) hown hg _ (by simp) hat
        clear hown hg hat
        go_wp2
        go_roundw
        case rel =>
          refine ⟨k + 1, p ++ [(t, y)], by omega, by go_num, by simp, by simp; omega, ?_, ?_, HS4.out⟩
          · rw [HT.out]
            exact set_app HSB.out.1 (nm_lab hlt HYP.out) (by omega) (fun _ => HSB.out.2 k (Nat.le_refl _) hlt)
          · intro j hj hj3
            have e1 : nth (p ++ [(t, y)]) ((p ++ [(t, y)]).length - 1) = (t, y) := by rw [show (p ++ [(t, y)]).length - 1 = p.length by simp, LabP.nth_right (Nat.le_refl _), Nat.sub_self]; rfl
            rw [e1, HT.out]
            exact nm_less (by omega) hj3
        case measure => simp [intOf]; omega
      | false =>
        go_wp2
        go_roundw
        case rel => exact ⟨k + 1, p, by omega, by go_num, hp1, by omega, HSB.out.1, fun j h1 h2 => HSB.out.2 j (by omega) h2, HS2.out⟩
        case measure => simp [intOf]; omega
    · have hge : ¬ (k : Int) < 3 := by omega
      go_wp2
      go_ret
      exact ⟨_, rfl, p, HS.out.st, hp1, by omega, HSB.out.1⟩

set_option maxRecDepth 100000 in
set_option maxHeartbeats 1600000 in
theorem l4DrawS_any (c : Nat) (w : World) (hc : Cur w c) :
    Calls Tryz.prog 62 #[.pointer (some ⟨c, 0, none⟩)] w fun r w' => ∃ (g cap : Nat) (p : List Lab) (s e : Int) (n : ByteArray), r = .returned (.agg #[.slice (some ⟨g, 0, none⟩) p.length cap, .int .i64 s, .int .i64 e, .string n]) ∧ LSt w c w' (.slice (some ⟨g, 0, none⟩) p.length cap) p ∧ p.length ≤ 4 ∧ alarmB p s e n = true ∧ n.size ≤ 100 := by
  have HC : Hid (Cur w c) := hc
  have HL : Hid (c < w.heap.size) := hc.lt
  clear hc
  go_enter Tryz.func62, Tryz.ntmps62
  go_wp2_with fail
  refine (l2DrawS_any c _ (HC.out.alloc _)).mono ?_
  rintro r w1 ⟨v, rfl, p, hst, hp1, hp2, hsb⟩
  have HSB : Hid (setB p = true) := hsb
  clear hsb
  obtain ⟨g, cap, rfl⟩ := hst.lies
  have HG : Hid (w.heap.size < g ∧ g < w1.heap.size) := by have := hst.blk; simp at this; exact ⟨by omega, this.2⟩
  have HR1 : Hid (Blk w1 w.heap.size #[.slice none 0 0, .int .i64 0, .int .i64 0, .string ⟨#[]⟩] 29) := blk_kept (Blk.new _ _ _) hst.kept (by have := HL.out; omega)
  have HS1 : Hid (LSt w c w1 (.slice (some ⟨g, 0, none⟩) p.length cap) p) := lst_base hst ((Kept.refl c w).alloc _) HL.out
  clear hst
  go_wp2_with fail
  refine (below_any c 8 _ HS1.out.cur (by decide) (by decide)).mono ?_
  rintro r w2 ⟨⟨s, rfl, hs0, hs1⟩, hc2, hk2⟩
  have HS2 : Hid (LSt w c w2 (.slice (some ⟨g, 0, none⟩) p.length cap) p) := HS1.out.keep hc2 hk2
  have HR2 : Hid (Blk w2 w.heap.size #[.slice none 0 0, .int .i64 0, .int .i64 0, .string ⟨#[]⟩] 29) := blk_kept HR1.out hk2 (by have := HL.out; omega)
  have HZ2 : Hid (w1.heap.size ≤ w2.heap.size) := hk2.size
  clear hc2 hk2
  go_wp2_with fail
  refine (plainQ_any c _ HS2.out.cur).mono ?_
  rintro r w3 ⟨⟨n, rfl, hnp, hn⟩, hc3, hk3⟩
  have HNP : Hid (plainB n = true) := hnp
  clear hnp
  have HS3 : Hid (LSt w c w3 (.slice (some ⟨g, 0, none⟩) p.length cap) p) := HS2.out.keep hc3 hk3
  have HR3 : Hid (Blk w3 w.heap.size #[.slice none 0 0, .int .i64 0, .int .i64 0, .string ⟨#[]⟩] 29) := blk_kept HR2.out hk3 (by have := HL.out; omega)
  have HN : Hid (w.heap.size < w3.heap.size ∧ g < w3.heap.size ∧ c < w3.heap.size) := by
    have h1 := HG.out; have h2 := HZ2.out; have h3 := hk3.size; have h4 := HL.out
    exact ⟨by omega, by omega, by omega⟩
  clear hc3 hk3 HS1 HS2 HR1 HR2 HZ2
  go_wp2
  generalize hz : w3.alloc (.cells #[.slice (some ⟨g, 0, none⟩) p.length cap, .int .i64 s, .int .i64 0, .string n] 29) = z
  have HSz : Hid (LSt w c z (.slice (some ⟨g, 0, none⟩) p.length cap) p) := by rw [← hz]; exact HS3.out.alloc _
  have HRz : Hid (Blk z w.heap.size #[.slice none 0 0, .int .i64 0, .int .i64 0, .string ⟨#[]⟩] 29) := by rw [← hz]; exact HR3.out.alloc _
  have HAz : Hid (Blk z w3.heap.size #[.slice (some ⟨g, 0, none⟩) p.length cap, .int .i64 s, .int .i64 0, .string n] 29) := by rw [← hz]; exact Blk.new _ _ _
  clear hz HS3 HR3
  generalize w3.heap.size = A at HN HAz ⊢
  have a1 : z.cell? ⟨A, 1, none⟩ = some (.int .i64 s) := HAz.out.cell 1
  have HK : Hid (∀ (o : Obj) (w4 : World), Cur w4 c → Kept c (z.alloc o) w4 → LSt w c w4 (.slice (some ⟨g, 0, none⟩) p.length cap) p ∧ Blk w4 A #[.slice (some ⟨g, 0, none⟩) p.length cap, .int .i64 s, .int .i64 0, .string n] 29 ∧ Blk w4 w.heap.size #[.slice none 0 0, .int .i64 0, .int .i64 0, .string ⟨#[]⟩] 29) := fun o w4 hc h => by
    have h0 := HN.out; have h1 := HL.out
    exact ⟨(HSz.out.alloc o).keep hc h, blk_kept (HAz.out.alloc o) h (by omega), blk_kept (HRz.out.alloc o) h (by omega)⟩
  have HCz : Hid (Cur z c) := HSz.out.cur
  have HI : Hid (Calls Tryz.prog 77 #[.pointer (some ⟨c, 0, none⟩), .slice (some ⟨z.heap.size, 0, none⟩) 5 5] (z.alloc (.cells #[.int .i64 0, .int .i64 2, .int .i64 5, .int .i64 20, .int .i64 60] 3)).drew fun e w4 => (∃ x : Int, e = .returned (.int .i64 x) ∧ (decide (0 ≤ x ∧ x ≤ 60)) = true) ∧ Cur w4 c ∧ Kept c (z.alloc (.cells #[.int .i64 0, .int .i64 2, .int .i64 5, .int .i64 20, .int .i64 60] 3)) w4) := by
    refine (intQ_any (fun x => decide (0 ≤ x ∧ x ≤ 60)) c z.heap.size 0 5 5 _ ?_ ?_ (by decide) (by decide)).mono fun e w4 h => ⟨h.1, h.2.1, ⟨h.2.2.os, h.2.2.tape, h.2.2.output, h.2.2.size, h.2.2.block⟩⟩
    · exact HCz.out.alloc _
    · exact row_lit (w := z) (by decide +kernel) rfl HCz.out.lt
  have kz : z.drew.cell? ⟨A, 1, none⟩ = some (.int .i64 s) := a1
  go_region_held3 (fun w' => w'.cell? ⟨A, 1, none⟩ = some (.int .i64 s)) (first | exact kz | exact Blk.cell (HAz.out.alloc _) 1 | exact hA4.cell 1 | exact (hA4.set 2 _).cell 1 | (go_keep; done)) (first
    | (go_at_call 77; (with_reducible refine HI.out.mono ?_); rintro r w4 ⟨⟨x, rfl, hx⟩, hc4, hk4⟩; (have hA3 := HK.out _ w4 hc4 hk4); (have hA4 := hA3.2.1); (have n2 : w4.cell? ⟨A, 2, none⟩ = some (.int .i64 0) := hA4.cell 2); (have f2 := hA4.frozen 2)))
  have HS4 : Hid (LSt w c w4 (.slice (some ⟨g, 0, none⟩) p.length cap) p) := hA3.1
  have hR := hA3.2.2
  have hA := hA4
  clear n2 f2 hA3 hA4 hc4 hk4 kz a1
  have hx60 := of_decide_eq_true hx
  have HE : Hid (s ≤ IntKind.i64.wrap (s + x) ∧ IntKind.i64.wrap (s + x) ≤ 99999) := by rw [IntKind.wrap_i64]; exact ⟨by omega, by omega⟩
  clear hx60
  generalize IntKind.i64.wrap (s + x) = y at HE ⊢
  have A0 : w4.cell? ⟨A, 0, none⟩ = some (.slice (some ⟨g, 0, none⟩) p.length cap) := hA.cell 0
  have A1 : w4.cell? ⟨A, 1, none⟩ = some (.int .i64 s) := hA.cell 1
  have A2 : w4.cell? ⟨A, 2, none⟩ = some (.int .i64 0) := hA.cell 2
  have A3 : w4.cell? ⟨A, 3, none⟩ = some (.string n) := hA.cell 3
  have fA0 := hA.frozen 0
  have fA1 := hA.frozen 1
  have fA2 := hA.frozen 2
  have fA3 := hA.frozen 3
  have R0 : w4.cell? ⟨w.heap.size, 0, none⟩ = some (.slice none 0 0) := hR.cell 0
  have R1 : w4.cell? ⟨w.heap.size, 1, none⟩ = some (.int .i64 0) := hR.cell 1
  have R2 : w4.cell? ⟨w.heap.size, 2, none⟩ = some (.int .i64 0) := hR.cell 2
  have R3 : w4.cell? ⟨w.heap.size, 3, none⟩ = some (.string ⟨#[]⟩) := hR.cell 3
  have fR0 := hR.frozen 0
  have fR1 := hR.frozen 1
  have fR2 := hR.frozen 2
  have fR3 := hR.frozen 3
  have d1 : ¬ A = w.heap.size := by have := HN.out; omega
  have d2 : ¬ w.heap.size = A := by have := HN.out; omega
  clear hA hR
  go_wp2
  refine bodyPost_ret (v := .agg #[.slice (some ⟨g, 0, none⟩) p.length cap, .int .i64 s, .int .i64 y, .string n]) (by simp [results, Tryz.results62, go_sem, R0, R1, R2, R3]) rfl ?_
  have h0 := HN.out; have h1 := HG.out; have h2 := HL.out
  refine ⟨g, cap, p, s, y, n, rfl, lst_other4 (lst_other HS4.out (by omega) (own_ne (by omega)) _ _) (Nat.le_refl _) (own_ne (by omega)) _ _ _ _, hp2, ?_, hn⟩
  unfold alarmB
  rw [HSB.out, HNP.out]
  have h3 := HE.out
  simp
  omega

end Go.Proofs.YtooninmicfcfoaaGreat.DrawS
namespace Go.Proofs.YtooninmicfcfoaaGreat.DrwT
open Go.RowKit
open Draw
open Labs LabS Over Blk App DrawL DrawT Alms AlmM DrawA Rws ChnK DrawC DrawG Chs Prt PrtC Sts StsN StsP Rgt DrawS
open AlmS (alarmB)
open LabT (Held held_reads)

theorem sumT_set : ∀ (S : List PPt) (k : Nat) (y : PPt), k < S.length → sumT (S.set k y) + ((nthT S k).C.length + sumC (nthT S k).C) = sumT S + (y.C.length + sumC y.C)
  | [], k, y, h => by simp at h
  | p :: S, 0, y, h => by simp [sumT, nthT]; omega
  | p :: S, k + 1, y, h => by
    have ih := sumT_set S k y (by simpa using h)
    have e : nthT (p :: S) (k + 1) = nthT S k := by unfold nthT; simp
    rw [List.set_cons_succ, sumT, sumT, e]; omega
theorem putS_sum (S : List PPt) (x : PAl) : sumT (putS S x) ≤ sumT S + 2 + x.l.length := by
  by_cases h : S.length = 0
  · rw [(putS_0 h).1]; omega
  · have hk := StsH.home_lt (l := x.l) (show 0 < S.length by omega)
    rw [(putS_1 h rfl).1]
    have h1 := sumT_set S _ (putT (nthT S (StsH.homeN S.length x.l)) x) hk
    have h2 := PutS.putC_sum (nthT S (StsH.homeN S.length x.l)).C x
    have h3 : (putT (nthT S (StsH.homeN S.length x.l)) x).C = PrtC.putC (nthT S (StsH.homeN S.length x.l)).C x := rfl
    rw [h3] at h1
    omega
theorem wrapI (x : Int) : DrawA.I64 (IntKind.i64.wrap x) := by rw [IntKind.wrap_i64]; exact ⟨by omega, by omega⟩
theorem putS_fits {S : List PPt} {x : PAl} (hf : FitsT S) (hs : sumT S ≤ 1048576) (hx : FitA x) : FitsT (putS S x) := by
  by_cases h : S.length = 0
  · rw [(putS_0 h).1]; exact hf
  · have hk := StsH.home_lt (l := x.l) (show 0 < S.length by omega)
    rw [(putS_1 h rfl).1]
    intro p hp
    rcases List.mem_or_eq_of_mem_set hp with hp | rfl
    · exact hf p hp
    · have h0 := sumT_nth hk
      have hq := hf _ (nthT_mem hk)
      have h2 := PutS.putC_sum (nthT S (StsH.homeN S.length x.l)).C x
      have h3 : (putT (nthT S (StsH.homeN S.length x.l)) x).C = PrtC.putC (nthT S (StsH.homeN S.length x.l)).C x := rfl
      exact ⟨hq.hb, wrapI _, by rw [h3]; unfold maxLen; omega, by rw [h3]; exact PutS.fitsC_put hq.fits (small_of (by omega)) hx⟩
structure Gd (m : Nat) (S : List PPt) : Prop where
  rst : RSt S
  vr : ∀ k, k < S.length → (nthT S k).vr ≤ m
  fits : FitsT S
  sum : sumT S ≤ 10 * m
  few : ∀ p ∈ S, FinC m p.C
theorem Gd.new {n : Nat} (h : 1 ≤ n ∧ n ≤ 3) : Gd 0 (List.replicate n noneP) :=
  ⟨rst_new h, fun k hk => by rw [none_nth (by simpa using hk)]; decide, none_fits n, by rw [none_sum]; omega, fun p hp => by rw [(List.mem_replicate.1 hp).2]; exact FinC.nil _⟩
theorem Gd.put {m : Nat} {S : List PPt} {x : PAl} (h : Gd m S) (hm : m ≤ 900) (hx : okA x = true) (hf : Fine x) : Gd (m + 1) (putS S x) := by
  have hs := h.sum
  refine ⟨rst_put h.rst hx fun k hk => by have := h.vr k hk; omega, fun k hk => ?_, putS_fits h.fits (by omega) hf.1, ?_, ?_⟩
  · have hne : ¬ S.length = 0 := by have := h.rst.len; omega
    rw [putS_len] at hk
    rw [(putS_1 hne rfl).1, nthT_set hk]
    have h1 := h.vr k hk
    have h2 := (h.rst.pt k hk).2.2
    split
    · rename_i e
      subst e
      show IntKind.i64.wrap ((nthT S _).vr + 1) ≤ _
      rw [IntKind.wrap_i64]
      omega
    · omega
  · have := putS_sum S x
    have := hf.2
    omega
  · have hne : ¬ S.length = 0 := by have := h.rst.len; omega
    have hk := StsH.home_lt (l := x.l) (show 0 < S.length by omega)
    rw [(putS_1 hne rfl).1]
    intro p hp
    rcases List.mem_or_eq_of_mem_set hp with hp | rfl
    · exact (h.few p hp).mono (Nat.le_succ m)
    · exact finC_put (h.few _ (nthT_mem hk)) hf
theorem Gd.all {m : Nat} {S : List PPt} (h : Gd m S) {x : PAl} (hx : x ∈ StsA.allT S) : Fine x ∧ okA x = true := by
  obtain ⟨p, hp, hx⟩ := StsA.allT_mem hx
  obtain ⟨c, hc, hx⟩ := PrtA.allC_mem hx
  refine ⟨(h.few p hp c hc).1 x hx, ?_⟩
  obtain ⟨k, hk, rfl⟩ := List.mem_iff_getElem.1 hp
  have h1 := (h.rst.pt k hk).1
  rw [nthT_eq hk] at h1
  obtain ⟨j, hj, rfl⟩ := List.mem_iff_getElem.1 hc
  have h2 := h1.ch j hj
  rw [nthC_eq hj] at h2
  obtain ⟨i, hi, rfl⟩ := List.mem_iff_getElem.1 hx
  have h3 := h2.ok i hi
  rwa [nthP_eq hi] at h3
theorem po_kept {c lo : Nat} {w w' : World} {a : Option Addr} {cap : Nat} {cs : List CRow} (h : PO lo w a cap cs) (hk : Kept c w w') (hc : c < lo) : PO lo w' a cap cs := h.imp id fun ⟨M, e, k⟩ => ⟨M, e, cb_kept k hk hc⟩
theorem pb_kept {c lo : Nat} {w w' : World} {M cap : Nat} {ps : List PRow} (h : PB lo w M cap ps) (hk : Kept c w w') (hc : c < lo) : PB lo w' M cap ps := by
  obtain ⟨cur, h1, h2⟩ := h.outer
  exact ⟨h.at', h.cap, ⟨cur, blk_kept h1 hk (by have := h.at'; omega), h2⟩, fun x hx => po_kept (h.rows x hx) hk hc⟩
structure HSt (w : World) (c : Nat) (wr : World) (M cap : Nat) (ps : List PRow) : Prop where
  cur : Cur wr c
  kept : Kept c w wr
  clt : c < w.heap.size
  pb : PB w.heap.size wr M cap ps
theorem HSt.keep {w : World} {c : Nat} {wr w' : World} {M cap : Nat} {ps : List PRow} (h : HSt w c wr M cap ps) (hc : Cur w' c) (hk : Kept c wr w') : HSt w c w' M cap ps :=
  ⟨hc, h.kept.trans hk, h.clt, pb_kept h.pb hk h.clt⟩
theorem ok_fine {p : List Lab} {s e : Int} {n : ByteArray} (h : alarmB p s e n = true) (hp : p.length ≤ 8) (hf : Small p) (hn : n.size ≤ 100) : Fine ⟨p, s, e, n⟩ := by
  unfold alarmB at h
  simp only [Bool.and_eq_true, decide_eq_true_eq] at h
  obtain ⟨_, _, h1, h2, h3, _⟩ := h
  exact fine_of hp hf ⟨by omega, by omega⟩ ⟨by omega, by omega⟩ hn
set_option maxRecDepth 100000 in
set_option maxHeartbeats 3200000 in
theorem l8Draw_any (c : Nat) (w : World) (hc : Cur w c) :
    Calls Tryz.prog 96 #[.pointer (some ⟨c, 0, none⟩)] w fun r w' => ∃ (M cap : Nat) (ps : List PRow), r = .returned (.slice (some ⟨M, 0, none⟩) ps.length cap) ∧ HSt w c w' M cap ps ∧ Gd 7 (pts ps) := by
  have HC : Hid (Cur w c) := hc
  have HL : Hid (c < w.heap.size) := hc.lt
  clear hc
  go_enter Tryz.func96, Tryz.ntmps96
  go_wp2_with fail
  refine (below_any c 3 _ HC.out (by decide) (by decide)).mono ?_
  rintro r w1 ⟨⟨k0, rfl, hk0, hk1⟩, hc1, hk1'⟩
  have HC1 : Hid (Cur w1 c ∧ Kept c w w1) := ⟨hc1, hk1'⟩
  have HK0 : Hid (0 ≤ k0 ∧ k0 ≤ 2) := ⟨hk0, by omega⟩
  clear hc1 hk1' hk0 hk1
  go_wp2_with fail
  have HN0 : Hid (1 ≤ wrap64 (1 + k0) ∧ wrap64 (1 + k0) ≤ 3) := by
    have h := HK0.out
    unfold wrap64
    exact ⟨by omega, by omega⟩
  generalize wrap64 (1 + k0) = n0 at HN0 ⊢
  refine (specNew_any n0 w1 ⟨by have := HN0.out; omega, by have := HN0.out; omega⟩).mono ?_
  rintro r w2 ⟨⟨M, cap, rfl, hpb⟩, hb⟩
  have HS2 : Hid (HSt w c w2 M cap (List.replicate (newN n0) noneR)) := ⟨cur_bel HC1.out.1 hb, HC1.out.2.trans (kept_bel hb), HL.out, hpb.down HC1.out.2.size⟩
  have HG2 : Hid (Gd 0 (pts (List.replicate (newN n0) noneR))) := by rw [none_pts]; exact Gd.new (newN_le n0)
  obtain ⟨ps0, hps0⟩ : ∃ ps0, List.replicate (newN n0) noneR = ps0 := ⟨_, rfl⟩
  have hl0 : newN n0 = ps0.length := by rw [← hps0]; simp
  rw [hps0] at HS2 HG2
  rw [hl0]
  clear hpb hb hps0 hl0 HC1 HN0 HK0
  go_wp2_with fail
  refine (below_any c 8 _ HS2.out.cur (by decide) (by decide)).mono ?_
  rintro r w3 ⟨⟨k0, rfl, hk0, hk1⟩, hc1, hk1'⟩
  have HS3 : Hid (HSt w c w3 M cap ps0) := HS2.out.keep hc1 hk1'
  have HK : Hid (0 ≤ k0 ∧ k0 ≤ 7) := ⟨hk0, by omega⟩
  clear hc1 hk1' hk0 hk1 HS2
  go_wp2
  go_loopw [3, 4] (fun l i wr => ∃ (k m : Nat) (M cap : Nat) (ps : List PRow), l = .slice (some ⟨M, 0, none⟩) ps.length cap ∧ i = .int .i64 k ∧ m + k ≤ 7 ∧ HSt w c wr M cap ps ∧ Gd m (pts ps)) (fun _ i _ => (intOf i).toNat)
  case atStart =>
    obtain ⟨kk, rfl⟩ := Int.eq_ofNat_of_zero_le HK.out.1
    exact ⟨kk, 0, M, cap, ps0, rfl, rfl, by have := HK.out.2; omega, HS3.out, HG2.out⟩
  case round =>
    clear HS3 HK HG2
    obtain ⟨k, m, M, cap, ps, rfl, rfl, hmk, hst, hgd⟩ := hrel
    have HS : Hid (HSt w c wr M cap ps) := hst
    have HF : Hid (Gd m (pts ps) ∧ m + k ≤ 7) := ⟨hgd, hmk⟩
    clear hst hgd hmk
    by_cases hk : 0 < k
    · have hk' : (k : Int) > 0 := by omega
      obtain ⟨j, rfl⟩ : ∃ j, k = j + 1 := ⟨k - 1, by omega⟩
      have ek : ((j + 1 : Nat) : Int) = (j : Int) + 1 := by omega
      rw [ek] at hk' ⊢
      have hj7 : (j : Int) ≤ 7 := by have := HF.out.2; omega
      go_wp2_with fail
      refine (l4DrawS_any c wr HS.out.cur).mono ?_
      rintro r w2 ⟨g, cp, p, s, e, t, rfl, hst, hp, hok, ht⟩
      have HX : Hid (Fine ⟨p, s, e, t⟩) := ok_fine hok (by omega) hst.fit ht
      have HO : Hid (okA ⟨p, s, e, t⟩ = true) := hok
      have HX2 : Hid (OwnA w.heap.size w2 (g, cp, ⟨p, s, e, t⟩)) := (own_lst hst (by omega)).down HS.out.kept.size
      have HS2 : Hid (HSt w c w2 M cap ps) := HS.out.keep hst.cur hst.kept
      clear hst hp hok ht HS
      obtain ⟨nu, hnu⟩ : ∃ nu, freshS (pts ps) ⟨p, s, e, t⟩ = nu := ⟨_, rfl⟩
      have HPC : Hid (Calls Tryz.prog 38 #[.slice (some ⟨M, 0, none⟩) ps.length cap, .agg #[.slice (some ⟨g, 0, none⟩) p.length cp, .int .i64 s, .int .i64 e, .string t]] w2 fun r w' => (∃ M c, r = .returned (.tuple #[.slice (some ⟨M, 0, none⟩) ps.length c, .bool nu]) ∧ ∃ ps', PB w2.heap.size w' M c ps' ∧ pts ps' = putS (pts ps) ⟨p, s, e, t⟩ ∧ Own8 ps') ∧ Below w2.heap.size w2 w') := by
        have hg := HF.out
        have h1 := hg.1.rst.len
        have h2 := hg.1.sum
        have h := StsP.specPutA_any (some ⟨M, 0, none⟩) cap (pts ps) g 0 cp ⟨p, s, e, t⟩ w2 HS2.out.pb.rn HX2.out.reads (by omega) (by omega) (by have := HX.out.2; omega) HX.out.1.fits
        rw [hnu, pts_len] at h
        exact h
      clear hnu
      go_wp2_with fail
      refine HPC.out.mono ?_
      rintro r w6 ⟨⟨M', c', rfl, ps', hpb, hpt, -⟩, hb⟩
      have hln : ps.length = ps'.length := by
        have h := congrArg List.length hpt
        rw [putS_len, pts_len, pts_len] at h
        exact h.symm
      have HS6 : Hid (HSt w c w6 M' c' ps') := ⟨cur_bel HS2.out.cur hb, HS2.out.kept.trans (kept_bel hb), HS2.out.clt, hpb.down HS2.out.kept.size⟩
      have HG6 : Hid (Gd (m + 1) (pts ps')) := by rw [hpt]; exact HF.out.1.put (by have := HF.out.2; omega) HO.out HX.out
      rw [hln]
      clear hpb hpt hb HPC hln HS2 HX2
      go_wp2
      go_roundw
      case rel => exact ⟨j, m + 1, M', c', ps', rfl, by go_num, by have := HF.out.2; omega, HS6.out, HG6.out⟩
      case measure => first | (simp [intOf]; done) | (simp [intOf]; omega)
    · have hk' : ¬ (k : Int) > 0 := by omega
      go_wp2
      go_ret
      have hg := HF.out
      have h1 := hg.1.sum
      exact ⟨M, cap, ps, rfl, HS.out, ⟨hg.1.rst, fun i hi => by have := hg.1.vr i hi; omega, hg.1.fits, by omega, fun p hp => (hg.1.few p hp).mono (by omega)⟩⟩
end Go.Proofs.YtooninmicfcfoaaGreat.DrwT
namespace Go.Proofs.YtooninmicfcfoaaGreat.DrwU
open Go.RowKit
open Draw
open Labs LabS Over Blk App DrawL DrawT Alms AlmM DrawA DrawB Rws ChnI ChnC ChnP ChnU ChnK DrawC DrawD DrawE Chs Prt PrtF PrtC DrawG DrawH
open DrawI DrawS DrwT Rgt
open LabO (setB)
open AlmS (alarmB)
open LabT (Held infoL)
open LabR (flat flat_len flat_one)

theorem ok_set {x : PAl} (h : okA x = true) : 0 < x.l.length ∧ setB x.l = true := by
  unfold okA alarmB at h
  simp only [Bool.and_eq_true, decide_eq_true_eq] at h
  exact ⟨h.2.1, h.1⟩
theorem ok_with {x : PAl} (h : okA x = true) {q : List Lab} (h0 : 0 < q.length) (hq : setB q = true) : okA ⟨q, x.s, x.e, x.n⟩ = true := by
  unfold okA alarmB at h ⊢
  simp only [Bool.and_eq_true, decide_eq_true_eq] at h ⊢
  exact ⟨hq, h0, h.2.2⟩
set_option maxRecDepth 100000 in
set_option maxHeartbeats 1600000 in
theorem l7LabelsS_any (c M cap lo : Nat) (rs : List ARow) (w : World) (hc : Cur w c) (hab : AB lo w M cap rs) (hlo : c < lo) (hf : ∀ x ∈ pals rs, Fine x ∧ okA x = true) (hr : rs.length ≤ 1000) :
    Calls Tryz.prog 63 #[.pointer (some ⟨c, 0, none⟩), .slice (some ⟨M, 0, none⟩) rs.length cap] w fun r w' => ∃ (g cg : Nat) (q : List Lab), r = .returned (.slice (some ⟨g, 0, none⟩) q.length cg) ∧ QDr w c w' g cg q ∧ 0 < q.length ∧ setB q = true := by
  have HC : Hid (Cur w c) := hc
  have HA : Hid (AB lo w M cap rs ∧ c < lo ∧ (∀ x ∈ pals rs, Fine x ∧ okA x = true)) := ⟨hab, hlo, hf⟩
  clear hc hab hlo hf
  obtain ⟨i0, hi, hz0, hz1, hz2⟩ := info_parts infoL
  by_cases hr0 : 0 < rs.length
  · have hr0' : (rs.length : Int) > 0 := by omega
    go_enter Tryz.func63, Tryz.ntmps63
    go_wp2_with fail
    refine (once_any c 3 _ HC.out (by decide) (by decide)).mono ?_
    rintro r w1 ⟨⟨b, rfl⟩, hc1, hk1⟩
    have HC1 : Hid (Cur w1 c ∧ Kept c w w1) := ⟨hc1, hk1⟩
    clear hc1 hk1
    cases b with
    | true =>
      go_wp2_with fail
      refine (l2DrawS_any c _ HC1.out.1).mono ?_
      rintro r w2 ⟨v, rfl, p, hst, hp1, hp2, hsb⟩
      obtain ⟨g, cg, rfl⟩ := hst.lies
      have HQ : Hid (QDr w c w2 g cg p ∧ 0 < p.length ∧ setB p = true) := ⟨qdr_of HC1.out.2 hst (by omega), by omega, hsb⟩
      clear hst hsb hp1
      go_wp2
      go_ret
      exact ⟨g, cg, p, rfl, HQ.out⟩
    | false =>
      go_wp2_with fail
      refine (below_any c (rs.length : Int) _ (HC1.out.1.alloc _) (by omega) (by omega)).mono ?_
      rintro r w2 ⟨⟨z, rfl, hz0', hz1'⟩, hc2, hk2⟩
      obtain ⟨k, rfl⟩ := Int.eq_ofNat_of_zero_le hz0'
      have hkl : k < rs.length := by omega
      have hA2 : AB lo w2 M cap rs := ab_kept ((ab_kept HA.out.1 HC1.out.2 HA.out.2.1).grow (Go.Joins.below_alloc1 w1 _)) hk2 HA.out.2.1
      have HE : Hid (Blk w2 w1.heap.size #[] 127) := blk_kept (Blk.new w1 _ _) hk2 (by have := HC1.out.1.lt; omega)
      have HK2 : Hid (Cur w2 c ∧ Kept c w w2 ∧ w.heap.size ≤ w1.heap.size ∧ c < w.heap.size ∧ w1.heap.size < w2.heap.size) := ⟨hc2, (HC1.out.2.alloc _).trans hk2, HC1.out.2.size, HC.out.lt, HE.out.lt⟩
      obtain ⟨cu, hcu, hcs, h4⟩ := hA2.outer
      have h40 := h4 k hkl
      unfold Four at h40
      have y0 : w2.cell? ⟨M, k * 4, none⟩ = some (.slice (some ⟨(nthA rs k).1, 0, none⟩) (nthA rs k).2.2.l.length (nthA rs k).2.1) := (hcu.cell _).trans h40.1
      have hfo : Fine (nthA rs k).2.2 ∧ okA (nthA rs k).2.2 = true := by rw [← pals_nth hkl]; exact HA.out.2.2 _ (nthP_mem (by rw [pals_len]; exact hkl))
      have hfk := hfo.1
      have HOk : Hid (okA (nthA rs k).2.2 = true) := hfo.2
      have HFk : Hid (Fine (nthA rs k).2.2) := hfk
      have h8 : (nthA rs k).2.2.l.length ≤ 8 := hfk.2
      have HRd : Hid (Reads w2 (some ⟨(nthA rs k).1, 0, none⟩) (nthA rs k).2.2.l) := (hA2.rows _ (nthA_mem hkl)).reads
      have hk' : (k : Int) < (rs.length : Int) := by omega
      clear hz0' hz1' hc2 hk2 hA2 hcu hcs h4 h40 hfk hfo
      go_wp2_with (at_builtin; refine wpList_append_own_at _ rfl _ _ 27 rfl w.heap.size 127 i0 (.agg #[.string ByteArray.empty, .string ByteArray.empty]) 2 32 Tryz.underlying27 hi hz0 hz1 hz2 rfl (by decide) _ _ _ rfl (own_empty HE.out HK2.out.2.2.1) ⟨(nthA rs k).1, 0, none⟩ (nthA rs k).2.2.l.length (nthA rs k).2.1 (flat (nthA rs k).2.2.l) rfl (flat_len _) (src_of HRd.out) (flat_one _) ?c3 ?c4 ?c5 ?_)
      case c3 => unfold maxLen; omega
      case c4 => omega
      case c5 => have := HK2.out; omega
      intro v' w3 hown hg hnil hat
      try rw [Nat.zero_add] at hown
      try rw [List.nil_append] at hown
      obtain ⟨Ml, cl, hv⟩ : ∃ g' c', v' = .slice (some ⟨g', 0, none⟩) (nthA rs k).2.2.l.length c' := by
        rcases hown.2 with ⟨e, _⟩ | ⟨g', c', cur, e, _⟩
        · exact absurd e hnil
        · exact ⟨g', c', e⟩
      subst hv
      have HQ : Hid (QDr w c w3 Ml cl (nthA rs k).2.2.l) := by
        obtain ⟨h1, cs, h2, h3, h5⟩ := own_row hown
        exact ⟨⟨h1, by show (nthA rs k).2.2.l.length ≤ _; omega, cs, h2, h3, h5⟩, HK2.out.1.grown hg (fun q hq => by cases hq; have := HK2.out; show c < w1.heap.size; omega), kept_grown (B := 0) HK2.out.2.1 hg (fun q hq => by cases hq; exact HK2.out.2.2.1), HFk.out.1.fits, HFk.out.2⟩
      clear hown hg hnil hat
      go_wp2
      go_ret
      exact ⟨Ml, cl, (nthA rs k).2.2.l, rfl, HQ.out, ok_set HOk.out⟩
  · have hr0' : ¬ (rs.length : Int) > 0 := by omega
    go_enter Tryz.func63, Tryz.ntmps63
    go_wp2_with fail
    refine (l2DrawS_any c _ HC.out).mono ?_
    rintro r w2 ⟨v, rfl, p, hst, hp1, hp2, hsb⟩
    obtain ⟨g, cg, rfl⟩ := hst.lies
    have HQ : Hid (QDr w c w2 g cg p ∧ 0 < p.length ∧ setB p = true) := ⟨qdr_of (Kept.refl c w) hst (by omega), by omega, hsb⟩
    clear hst hsb hp1
    go_wp2
    go_ret
    exact ⟨g, cg, p, rfl, HQ.out⟩

end Go.Proofs.YtooninmicfcfoaaGreat.DrwU
namespace Go.Proofs.YtooninmicfcfoaaGreat.DrwV
open Go.RowKit
open Draw
open Labs LabS Over Blk App DrawL DrawT Alms AlmM DrawA DrawB Rws ChnI ChnC ChnP ChnU ChnK DrawC DrawD DrawE Chs Prt PrtF PrtC DrawG DrawH
open DrawI DrawS DrwT DrwU Rgt Sts StsM StsA
open SrtP (sortP sort_perm)
open LabO (setB)
open AlmS (alarmB)
open LabT (Held infoL)
open LabR (flat flat_len flat_one)


structure VSt (w : World) (wr : World) (M cap : Nat) (ps : List PRow) : Prop where
  cur : Cur wr (w.heap.size + 1)
  low : Below w.heap.size w wr
  ord : w.heap.size + 1 < wr.heap.size
  bV : Blk wr w.heap.size #[.slice none 0 0, .int .i64 0, .int .i64 0, .string ⟨#[]⟩] 29
  pb : PB (w.heap.size + 2) wr M cap ps
theorem VSt.keep {w wr w' : World} {M cap : Nat} {ps : List PRow} (h : VSt w wr M cap ps) (hc : Cur w' (w.heap.size + 1)) (hk : Kept (w.heap.size + 1) wr w') : VSt w w' M cap ps := by
  have h1 := h.ord
  exact ⟨hc, h.low.trans (hk.below (by omega) h.low.size), Nat.lt_of_lt_of_le h1 hk.size, blk_kept h.bV hk (by omega), pb_kept h.pb hk (by omega)⟩
theorem VSt.grow {w wr w' : World} {M cap : Nat} {ps : List PRow} (h : VSt w wr M cap ps) (hb : Below wr.heap.size wr w') : VSt w w' M cap ps := h.keep (cur_bel h.cur hb) (kept_bel hb)
theorem pb_set {lo A : Nat} {w : World} {M cap : Nat} {ps : List PRow} (h : PB lo w M cap ps) (hA : ∀ k, blksS M ps k → k ≠ A) (i : Nat) (v : Value) : PB lo (w.setCell ⟨A, i, none⟩ v) M cap ps :=
  pb_only (S := fun k => k = A) h (Only.set (S := fun k => k = A) (Only.refl _ w) rfl i v) hA
set_option maxRecDepth 100000 in
set_option maxHeartbeats 1600000 in
theorem drawStore_any (a : Option Addr) (len cap : Nat) (w : World) (hl : len ≤ maxLen) (hb : Bytes w a len w.heap.size) :
    Calls Tryz.prog 29 #[.slice a len cap] w fun r w' => (∃ (M c : Nat) (ps : List PRow) (g c2 : Nat) (x : PAl), r = .returned (.tuple #[.slice (some ⟨M, 0, none⟩) ps.length c, .agg #[.slice (some ⟨g, 0, none⟩) x.l.length c2, .int .i64 x.s, .int .i64 x.e, .string x.n]]) ∧ PB w.heap.size w' M c ps ∧ Gd 7 (pts ps) ∧ OwnA w.heap.size w' (g, c2, x) ∧ Fine x ∧ okA x = true) ∧ Below w.heap.size w w' := by
  have HB : Hid (Bytes w a len w.heap.size) := hb
  have HL : Hid (len ≤ maxLen) := hl
  clear hb hl
  go_enter Tryz.func29, Tryz.ntmps29
  go_wp2_with fail
  refine (new_any a len cap _ HL.out (LawB.bytes_up HB.out (Go.Joins.below_alloc1 w _))).mono ?_
  rintro r w1 ⟨rfl, hc1, hb1⟩
  have HC1 : Hid (Cur w1 (w.heap.size + 1)) := by simp at hc1; exact hc1
  have HV1 : Hid (Blk w1 w.heap.size #[.slice none 0 0, .int .i64 0, .int .i64 0, .string ⟨#[]⟩] 29) := (Blk.new _ _ _).grow hb1
  have HB1 : Hid (Below w.heap.size w w1) := grow_on (Go.Joins.below_alloc1 w _) hb1
  clear hc1 hb1 HB HL
  go_wp2_with fail
  refine (l8Draw_any (w.heap.size + 1) _ HC1.out).mono ?_
  rintro r w2 ⟨M, cap, ps, rfl, hpd, hgd⟩
  have HG : Hid (Gd 7 (pts ps)) := hgd
  have HY2 : Hid (VSt w w2 M cap ps) := by
    have h1 := HC1.out.lt
    have h2 := hpd.kept.size
    exact ⟨hpd.cur, HB1.out.trans (hpd.kept.below (by omega) HB1.out.size), by omega, blk_kept HV1.out hpd.kept (by omega), hpd.pb.down (by omega)⟩
  clear hpd HC1 HB1 HV1 hgd
  go_wp2_with fail
  refine (l4DrawS_any (w.heap.size + 1) _ HY2.out.cur).mono ?_
  rintro r w4 ⟨g, cg, p, s, e, n, rfl, hst, hp, hok, hn⟩
  have HF : Hid (Fine ⟨p, s, e, n⟩ ∧ okA ⟨p, s, e, n⟩ = true) := ⟨ok_fine hok (by omega) hst.fit hn, hok⟩
  have HY4 : Hid (VSt w w4 M cap ps) := HY2.out.keep hst.cur hst.kept
  clear hst hp hok hn HY2
  obtain ⟨w5, hw5⟩ : ∃ w5, w4.alloc (.cells #[.slice (some ⟨g, 0, none⟩) p.length cg, .int .i64 s, .int .i64 e, .string n] 29) = w5 := ⟨_, rfl⟩
  have hb5 : Below w4.heap.size w4 w5 := by rw [← hw5]; exact Go.Joins.below_alloc1 w4 _
  have HY5 : Hid (VSt w w5 M cap ps) := HY4.out.grow hb5
  have HA5 : Hid (Blk w5 w4.heap.size #[.slice (some ⟨g, 0, none⟩) p.length cg, .int .i64 s, .int .i64 e, .string n] 29) := by rw [← hw5]; exact Blk.new _ _ _
  have HXA : Hid (w.heap.size + 1 < w4.heap.size ∧ w4.heap.size < w5.heap.size) := ⟨HY4.out.ord, HA5.out.lt⟩
  have HPA : Hid (∀ k, blksS M ps k → k ≠ w4.heap.size) := fun k hk e => by have := blksS_high HY4.out.pb k hk; omega
  have HAL : Hid (Calls Tryz.prog 47 #[.slice (some ⟨M, 0, none⟩) ps.length cap] w5 fun e w' => (∃ M c rs, e = .returned (.slice (some ⟨M, 0, none⟩) rs.length c) ∧ AB w5.heap.size w' M c rs ∧ pals rs = sortP (allT (pts ps))) ∧ Below w5.heap.size w5 w') := by
    have h1 := HG.out.rst.len
    have h2 := HG.out.sum
    have h := specAllS_any (some ⟨M, 0, none⟩) cap (pts ps) w5 HY5.out.pb.rn (by omega) (by omega)
    rw [pts_len] at h
    exact h
  clear hb5 HY4
  go_wp2_with fail
  refine HAL.out.mono ?_
  rintro r w6 ⟨⟨AM, Ac, Ar, rfl, hab, hal⟩, hb6⟩
  have HY6 : Hid (VSt w w6 M cap ps) := HY5.out.grow hb6
  have HA6 : Hid (Blk w6 w4.heap.size #[.slice (some ⟨g, 0, none⟩) p.length cg, .int .i64 s, .int .i64 e, .string n] 29) := HA5.out.grow hb6
  have HR6 : Hid (AB (w.heap.size + 2) w6 AM Ac Ar ∧ (∀ x ∈ pals Ar, Fine x ∧ okA x = true) ∧ Ar.length ≤ 1000 ∧ w4.heap.size < w6.heap.size) := by
    refine ⟨hab.down (by have := HY5.out.ord; omega), fun x hx => HG.out.all ((sort_perm _).mem_iff.2 (by rw [← hal]; exact hx)), ?_, HA6.out.lt⟩
    have h1 := (sort_perm (allT (pts ps))).length_eq
    have h2 := allT_sum (pts ps)
    have h3 := HG.out.sum
    have h4 := congrArg List.length hal
    rw [pals_len] at h4
    omega
  clear hab hal hb6 hw5 HY5 HA5 HAL
  go_wp2_with fail
  refine (l7LabelsS_any (w.heap.size + 1) AM Ac (w.heap.size + 2) Ar w6 HY6.out.cur HR6.out.1 (by omega) HR6.out.2.1 HR6.out.2.2.1).mono ?_
  rintro r w7 ⟨g2, cg2, q, rfl, hq, hq0, hqs⟩
  have HY7 : Hid (VSt w w7 M cap ps) := HY6.out.keep hq.cur hq.kept
  have HA7 : Hid (Blk w7 w4.heap.size #[.slice (some ⟨g, 0, none⟩) p.length cg, .int .i64 s, .int .i64 e, .string n] 29) := blk_kept HA6.out hq.kept (by have := HXA.out; omega)
  have HQ : Hid (OwnA (w4.heap.size + 1) w7 (g2, cg2, ⟨q, s, e, n⟩) ∧ LabT.Fits q ∧ q.length ≤ 8 ∧ okA ⟨q, s, e, n⟩ = true) := ⟨by obtain ⟨h1, h2, h3⟩ := hq.own; exact ⟨Nat.le_trans HR6.out.2.2.2 h1, h2, h3⟩, hq.fits, hq.few, ok_with HF.out.2 hq0 hqs⟩
  clear hq hq0 hqs HY6 HA6 HR6
  generalize w4.heap.size = A at HXA HA7 HQ HPA ⊢
  have c0 : w7.cell? ⟨A, 0, none⟩ = some (.slice (some ⟨g, 0, none⟩) p.length cg) := HA7.out.cell 0
  have fc := HA7.out.frozen 0
  go_upto_region 5 with fail
  clear c0 fc
  obtain ⟨W3, hW3⟩ : ∃ W3, w7.setCell ⟨A, 0, none⟩ (.slice (some ⟨g2, 0, none⟩) q.length cg2) = W3 := ⟨_, rfl⟩
  have hA0 := HXA.out
  have HY : Hid (VSt w W3 M cap ps) := by
    rw [← hW3]
    exact ⟨cur_set HY7.out.cur (by omega) _ _, set_low HY7.out.low (by omega) _ _, by simpa using HY7.out.ord, HY7.out.bV.set_other (by show A ≠ _; omega) _, pb_set HY7.out.pb HPA.out _ _⟩
  have HA : Hid (Blk W3 A #[.slice (some ⟨g2, 0, none⟩) q.length cg2, .int .i64 s, .int .i64 e, .string n] 29) := by rw [← hW3]; exact HA7.out.set 0 _
  have HO : Hid (OwnA (w.heap.size + 2) W3 (g2, cg2, ⟨q, s, e, n⟩)) := by
    rw [← hW3]
    have hne : A ≠ g2 := by have h : A + 1 ≤ g2 := HQ.out.1.1; omega
    exact own_set (HQ.out.1.down (by omega)) hne _ _
  have HFx : Hid (Fine ⟨q, s, e, n⟩ ∧ okA ⟨q, s, e, n⟩ = true) := ⟨⟨⟨by have := HQ.out.2.2.1; show q.length ≤ _; unfold maxLen; omega, HQ.out.2.1, HF.out.1.1.sb, HF.out.1.1.eb, HF.out.1.1.note⟩, HQ.out.2.2.1⟩, HQ.out.2.2.2⟩
  rw [hW3]
  clear hW3 HY7 HA7 HQ HF HPA
  have d1 : ¬ A = w.heap.size := by omega
  have d2 : ¬ w.heap.size = A := by omega
  have a0 : W3.cell? ⟨A, 0, none⟩ = some (.slice (some ⟨g2, 0, none⟩) q.length cg2) := HA.out.cell 0
  have a1 : W3.cell? ⟨A, 1, none⟩ = some (.int .i64 s) := HA.out.cell 1
  have a2 : W3.cell? ⟨A, 2, none⟩ = some (.int .i64 e) := HA.out.cell 2
  have a3 : W3.cell? ⟨A, 3, none⟩ = some (.string n) := HA.out.cell 3
  have v0 : W3.cell? ⟨w.heap.size, 0, none⟩ = some (.slice none 0 0) := HY.out.bV.cell 0
  have fv0 := HY.out.bV.frozen 0
  have v1 : W3.cell? ⟨w.heap.size, 1, none⟩ = some (.int .i64 0) := HY.out.bV.cell 1
  have fv1 := HY.out.bV.frozen 1
  have v2 : W3.cell? ⟨w.heap.size, 2, none⟩ = some (.int .i64 0) := HY.out.bV.cell 2
  have fv2 := HY.out.bV.frozen 2
  have v3 : W3.cell? ⟨w.heap.size, 3, none⟩ = some (.string ⟨#[]⟩) := HY.out.bV.cell 3
  have fv3 := HY.out.bV.frozen 3
  go_region
  go_wp2
  have ht := (Alm.put4 HY.out.bV (.slice (some ⟨g2, 0, none⟩) q.length cg2) (.int .i64 s) (.int .i64 e) (.string n)).drew
  have t0 := ht.cell 0
  have t1 := ht.cell 1
  have t2 := ht.cell 2
  have t3 := ht.cell 3
  refine bodyPost_ret (v := .tuple #[.slice (some ⟨M, 0, none⟩) ps.length cap, .agg #[.slice (some ⟨g2, 0, none⟩) q.length cg2, .int .i64 s, .int .i64 e, .string n]]) (by simp [results, Tryz.results29, go_sem, t0, t1, t2, t3]) rfl ?_
  have hg1 : w.heap.size ≠ g2 := by have h : w.heap.size + 2 ≤ g2 := HO.out.1; omega
  have hg2 : ∀ k, blksS M ps k → k ≠ w.heap.size := fun k hk => by have := blksS_low HY.out.pb k hk; omega
  exact ⟨⟨M, cap, ps, g2, cg2, ⟨q, s, e, n⟩, rfl, ((pb_set (pb_set (pb_set (pb_set HY.out.pb hg2 _ _) hg2 _ _) hg2 _ _) hg2 _ _).down (by omega)).grow (Below.refl _ _).drew, HG.out, ((own_set (own_set (own_set (own_set HO.out hg1 _ _) hg1 _ _) hg1 _ _) hg1 _ _).down (by omega)).grow (Below.refl _ _).drew, HFx.out⟩, (Alm.set4 HY.out.low (Nat.le_refl _) _ _ _ _).drew⟩
end Go.Proofs.YtooninmicfcfoaaGreat.DrwV
namespace Go.Proofs.YtooninmicfcfoaaGreat.DrwW
open Go.RowKit
open Draw
open Labs LabS Over Blk App DrawL DrawT Alms AlmM DrawA DrawB Rws ChnI ChnC ChnP ChnU ChnK DrawC DrawD DrawE Chs Prt PrtF PrtC DrawG DrawH
open DrawI DrawS DrwT DrwU Rgt Sts StsM StsA DrwV StsF StsP StsO StsK
open SrtP (sortP sort_perm)
open LabO (setB)
open AlmS (alarmB)
open LabT (Held infoL)
open LabR (flat flat_len flat_one)



def St (m : Nat) (w : World) (a : Option Addr) (S : List PPt) : Prop := RdS RdA w a S ∧ Gd m S ∧ m ≤ 900
theorem St.below {m : Nat} {w w' : World} {a : Option Addr} {S : List PPt} (h : St m w a S) (hb : Below w.heap.size w w') : St m w' a S := ⟨h.1.below stays_rd hb, h.2⟩
theorem St.len {m : Nat} {w : World} {a : Option Addr} {S : List PPt} (h : St m w a S) : S.length ≤ 1048576 := by have := h.2.1.rst.len; omega
theorem St.sum {m : Nat} {w : World} {a : Option Addr} {S : List PPt} (h : St m w a S) : sumT S ≤ 1048576 := by have := h.2.1.sum; have := h.2.2; omega
def zeroA : PAl := ⟨[], 0, 0, ByteArray.empty⟩
def findSD (S : List PPt) (l : List Lab) : PAl := (findS S l).getD zeroA
theorem own_reads {w w' : World} {M : Nat} {p : List Lab} (h : LabR.Own w w' M p) : Reads w' (some ⟨M, 0, none⟩) p := by
  obtain ⟨_, cs, hk, _, hh⟩ := h
  exact LabT.held_reads hk hh
theorem findR {m : Nat} (a a' : Option Addr) (cap cap' : Nat) (S : List PPt) (l : List Lab) (w : World) (hS : St m w a S) (hr : Reads w a' l) (hl : l.length ≤ 8) (hf : LabT.Fits l) {Y : PAl} {ok : Bool} (hY : findSD S l = Y) (hk : (findS S l).isSome = ok) :
    Calls Tryz.prog 31 #[.slice a S.length cap, .slice a' l.length cap'] w fun e w' => (∃ b c, e = .returned (.tuple #[.agg #[.slice b Y.l.length c, .int .i64 Y.s, .int .i64 Y.e, .string Y.n], .bool ok]) ∧ Reads w' b Y.l) ∧ Below w.heap.size w w' := by
  subst hY hk
  refine (implFindA_any a a' cap cap' S l w hS.1 hr hS.len hS.sum (by unfold maxLen; omega) hf).mono fun e w' h => ?_
  unfold findSD
  cases hb : findS S l with
  | none =>
    rw [hb] at h
    exact ⟨⟨none, 0, h.1, .inl rfl⟩, h.2⟩
  | some x =>
    rw [hb] at h
    obtain ⟨⟨M, c, he, ho⟩, hb'⟩ := h
    exact ⟨⟨some ⟨M, 0, none⟩, c, he, own_reads ho⟩, hb'⟩
theorem putR {m : Nat} (a : Option Addr) (cap : Nat) (S : List PPt) (g cap' : Nat) (x : PAl) (w : World) (hS : St m w a S) (hm : m ≤ 800) (hx : Reads w (some ⟨g, 0, none⟩) x.l) (hf : Fine x) (ho : okA x = true) {Q : List PPt} {nu : Bool} (hQ : putS S x = Q) (hn : freshS S x = nu) :
    Calls Tryz.prog 30 #[.slice a S.length cap, .agg #[.slice (some ⟨g, 0, none⟩) x.l.length cap', .int .i64 x.s, .int .i64 x.e, .string x.n]] w fun e w' => (∃ M c, e = .returned (.tuple #[.slice (some ⟨M, 0, none⟩) Q.length c, .bool nu]) ∧ St (m + 1) w' (some ⟨M, 0, none⟩) Q) ∧ Below w.heap.size w w' := by
  subst hQ hn
  refine (implPutA_any a cap S g 0 cap' x w hS.1 hx hS.len hS.sum (by have := hf.2; omega) hf.1.fits).mono fun e w' h => ?_
  obtain ⟨⟨M, c, he, ps, hp, hq, _⟩, hb⟩ := h
  refine ⟨⟨M, c, by rw [putS_len]; exact he, ?_, hS.2.1.put (by omega) ho hf, by omega⟩, hb⟩
  rw [← hq]; exact hp.rd
theorem storeR {m : Nat} (a : Option Addr) (cap : Nat) (S : List PPt) (w : World) (hS : St m w a S) :
    Calls Tryz.prog 33 #[.slice a S.length cap] w fun e w' => e = .returned (.bool true) ∧ Below w.heap.size w w' := by
  have h := implStore_any a cap S w hS.1 hS.len hS.2.1.fits hS.sum
  rw [(rst_iff S).2 hS.2.1.rst] at h
  exact h
theorem countR {m : Nat} (a : Option Addr) (cap : Nat) (S : List PPt) (w : World) (hS : St m w a S) {n : Nat} (hn : cntT S = n) :
    Calls Tryz.prog 35 #[.slice a S.length cap] w fun e w' => e = .returned (.int .i64 n) ∧ Below w.heap.size w w' := by
  subst hn
  exact implCount_any a cap S w hS.1 hS.len hS.sum
theorem allR {m : Nat} (a : Option Addr) (cap : Nat) (S : List PPt) (w : World) (hS : St m w a S) {P : List PAl} (hP : sortP (allT S) = P) :
    Calls Tryz.prog 32 #[.slice a S.length cap] w fun e w' => (∃ M c, e = .returned (.slice (some ⟨M, 0, none⟩) P.length c) ∧ RdN w' (some ⟨M, 0, none⟩) P) ∧ Below w.heap.size w w' := by
  subst hP
  refine (implAllS_any a cap S w hS.1 hS.len hS.sum).mono fun e w' h => ?_
  obtain ⟨⟨M, c, rs, he, hab, hp⟩, hb⟩ := h
  refine ⟨⟨M, c, ?_, ?_⟩, hb⟩
  · rw [← hp, pals_len]; exact he
  · rw [← hp]; exact hab.rd
theorem all_facts {m : Nat} {S : List PPt} (h : Gd m S) {P : List PAl} (hP : sortP (allT S) = P) : P.length = cntT S ∧ (∀ x ∈ P, Fine x ∧ findS S x.l = some x) ∧ P.Pairwise fun a b => LabL.slB a.l b.l = true := by
  subst hP
  refine ⟨by rw [← (sort_perm _).length_eq, cnt_allT], fun x hx => ?_, rst_sort h.rst⟩
  have hm := (sort_perm _).mem_iff.2 hx
  exact ⟨(h.all hm).1, rst_find h.rst hm⟩
end Go.Proofs.YtooninmicfcfoaaGreat.DrwW
