/-
  PROVED: the contract of spec.DrawInOrder: it returns a slice of at most five strings in memory of its own, and nothing that was there is changed.
-/
import Derived.Test.YtcjhieknmblbbaaDrawW
namespace Go.Proofs.Ytcjhieknmblbbaa.Draw
open Go.RowKit Go.Proofs.Ytcjhieknmblbbaa.StrB
set_option linter.unusedVariables false

theorem Kept.grown {c : Nat} {w w' : World} (h : Kept c w w') : w.grownBy w' (some c) :=
  ⟨h.os, h.tape, h.output, h.size, fun k hk hne => h.block k hk (fun e => hne (by rw [e]))⟩
theorem infoS : (Try.prog.info? 9).map (fun i => (i.zero, i.size, i.bytes)) = some (some (.string ByteArray.empty), 1, 16) := by kernel_rfl

theorem Bytes.grown {w w' : World} {a : Option Addr} {len c : Nat} {row : Option Nat} (h : Bytes w a len c) (hg : w.grownBy w' row) (hr : ∀ k, row = some k → c < k) (hc : c ≤ w.heap.size) : Bytes w' a len c := by
  rcases h with h | ⟨b, off, rfl, hb, hz⟩
  · exact .inl h
  · exact .inr ⟨b, off, rfl, hb, fun j hj => by
      obtain ⟨z, h1, h2⟩ := hz j hj
      exact ⟨z, hg.cell h1 (fun e => by have := hr b e.symm; omega), h2⟩⟩
theorem Cur.grown {w w' : World} {c : Nat} {row : Option Nat} (h : Cur w c) (hg : w.grownBy w' row) (hr : ∀ k, row = some k → c < k) : Cur w' c := by
  obtain ⟨a, len, cap, i, h, h0, h1, h2, f1, f2, hi, hl, hb, hlt⟩ := h
  have hne : some c ≠ row := fun e => by have := hr c e.symm; omega
  have hblk := hg.block c hlt hne
  exact ⟨a, len, cap, i, h, hg.cell h0 hne, hg.cell h1 hne, hg.cell h2 hne, by rw [World.frozen?_of_block (w := w) (a := ⟨c, 1, none⟩) hblk]; exact f1, by rw [World.frozen?_of_block (w := w) (a := ⟨c, 2, none⟩) hblk]; exact f2, hi, hl, hb.grown hg hr (by omega), Nat.lt_of_lt_of_le hlt hg.size⟩
theorem Row.grown {p : Value → Bool} {w w' : World} {a : Addr} {len c : Nat} {row : Option Nat} (h : Row p w a len c) (hg : w.grownBy w' row) (hr : some a.block ≠ row) : Row p w' a len c :=
  ⟨h.1, h.2.1, Nat.lt_of_lt_of_le h.2.2.1 hg.size, fun j hj => by
    obtain ⟨v, h1, h2⟩ := h.2.2.2 j hj
    exact ⟨v, hg.cell (a := ⟨a.block, a.off + j, none⟩) h1 hr, h2⟩⟩

theorem row_lit_at {p : Value → Bool} {w : World} {arr : Array Value} {T : TypeId} {c n b : Nat} (h : arr.toList.all p = true) (hn : arr.size = n) (hc : c < w.heap.size) (hb : b = w.heap.size) : Row p (w.alloc (.cells arr T)) ⟨b, 0, none⟩ n c := by
  subst hb
  exact row_lit h hn hc
/-- what holds at each round: the gathered strings in a row of the call's own, the cursor, the literal, and all that is older -/
structure St (w : World) (c lit : Nat) (wr : World) (v : Value) (xs : List ByteArray) : Prop where
  own : wr.ownsRow (c + 1) 9 1 v xs.length (xs.map Value.string)
  ne : v.ownBlock ≠ some lit
  cur : Cur wr c
  row : Row isStr wr ⟨lit, 0, none⟩ 4 c
  low : Below c w wr
theorem St.lt {w : World} {c lit : Nat} {wr : World} {v : Value} {xs : List ByteArray} (h : St w c lit wr v xs) : ∀ k, v.ownBlock = some k → c < k := fun k hk => by
  have := (h.own.lt k hk).1; omega
theorem St.keep {w : World} {c lit : Nat} {wr w' : World} {v : Value} {xs : List ByteArray} (h : St w c lit wr v xs) (hc : Cur w' c) (hk : Kept c wr w') : St w c lit w' v xs :=
  ⟨h.own.kept hk.grown (by
      cases hv : v.ownBlock with
      | none => exact .inl rfl
      | some k => exact .inr (fun e => by have := h.lt k hv; cases e; omega)), h.ne, hc, h.row.keep hk, h.low.trans (hk.below (Nat.le_refl _) (Nat.le_of_lt h.cur.lt))⟩
theorem St.alloc {w : World} {c lit : Nat} {wr : World} {v : Value} {xs : List ByteArray} (h : St w c lit wr v xs) (o : Obj) : St w c lit (wr.alloc o) v xs :=
  h.keep (h.cur.alloc o) ((Kept.refl c wr).alloc o)
theorem St.add {w : World} {c lit : Nat} {W w' : World} {v v' : Value} {xs : List ByteArray} (h : St w c lit W v xs) (s : ByteArray)
    (hown : w'.ownsRow (c + 1) 9 1 v' (xs.length + 1) (xs.map Value.string ++ [.string s])) (hg : W.grownBy w' v.ownBlock) (n : Nat) (hn : n = W.heap.size) (hat : v'.ownBlock = v.ownBlock ∨ v'.ownBlock = some n) : St w c lit w' v' (xs ++ [s]) := by
  subst hn
  refine ⟨by simpa using hown, ?_, h.cur.grown hg h.lt, h.row.grown hg (fun e => h.ne e.symm), h.low.trans ⟨hg.os, hg.tape, hg.output, hg.size, fun k hk => hg.block k (Nat.lt_trans hk h.cur.lt) (fun e => by have := h.lt k e.symm; omega)⟩⟩
  rcases hat with hat | hat
  · rw [hat]; exact h.ne
  · rw [hat]; intro e; have hlt : lit < W.heap.size := h.row.2.2.1; cases e; omega
theorem own_reads {w : World} {base : Nat} {v : Value} {xs : List ByteArray} (h : w.ownsRow base 9 1 v xs.length (xs.map Value.string)) : ∃ d cap, v = .slice d xs.length cap ∧ Reads w d xs := by
  rcases h.2 with ⟨rfl, hn⟩ | ⟨g, cap, cur, rfl, hb, hg, hnc, hcm, hcs, htake⟩
  · have : xs = [] := List.eq_nil_of_length_eq_zero hn
    subst this
    exact ⟨none, 0, rfl, .inl rfl⟩
  · refine ⟨some ⟨g, 0, none⟩, cap, rfl, .inr ⟨g, 0, rfl, (Array.getElem?_eq_some_iff.1 hg).1, fun i hi => ?_⟩⟩
    have hx : (xs.map Value.string)[i]? = some (.string (nth xs i)) := by
      unfold nth
      simp [hi]
    have hc := h.cells (g := g) rfl i _ hx
    have ea : (⟨g, 0, none⟩ : Addr).add i = ⟨g, 0 + i, none⟩ := by by_cases h : i = 0 <;> simp [Addr.add, h]
    rw [← ea]; exact hc

end Go.Proofs.Ytcjhieknmblbbaa.Draw
