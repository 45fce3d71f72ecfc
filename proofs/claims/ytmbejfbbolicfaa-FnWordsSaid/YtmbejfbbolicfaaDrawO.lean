/-
  PROVED: the contract of spec.DrawInOrder: it returns a slice of at most five strings in memory of its own, and nothing that was there is changed.
-/
import Derived.Test.YtmbejfbbolicfaaDrawW
namespace Go.Proofs.Ytmbejfbbolicfaa.Draw
open Go.RowKit Go.Proofs.Ytmbejfbbolicfaa.StrB
set_option linter.unusedVariables false

theorem Kept.grown {c : Nat} {w w' : World} (h : Kept c w w') : w.grownBy w' (some c) :=
  ⟨h.os, h.tape, h.output, h.size, fun k hk hne => h.block k hk (fun e => hne (by rw [e]))⟩
theorem infoS : (Try.prog.info? 9).map (fun i => (i.zero, i.size, i.bytes)) = some (some (.string ByteArray.empty), 1, 16) := by kernel_rfl

theorem Bytes.grown {w w' : World} {a : Option Addr} {len c : Nat} {row : Option Nat} (h : Bytes w a len c) (hg : w.grownBy w' row) (hr : ∀ k, row = some k → c < k) (hc : c ≤ w.heap.size) : Bytes w' a len c := by
  rcases h with h | ⟨b, off, rfl, hb, hz⟩
  · exact .inl h
  · exact .inr ⟨b, off, rfl, hb, fun j hj => by
      obtain ⟨z, h1, h2⟩ := hz j hj
      exact ⟨z, hg.cell h1 (fun e => by have := hr b e.symm; omega), h2⟩⟩
theorem Cur.grown {w w' : World} {c : Nat} {row : Option Nat} (h : Cur w c) (hg : w.grownBy w' row) (hr : ∀ k, row = some k → c < k) : Cur w' c := by
  obtain ⟨a, len, cap, i, h, h0, h1, h2, f1, f2, hi, hl, hb, hlt⟩ := h
  have hne : some c ≠ row := fun e => by have := hr c e.symm; omega
  have hblk := hg.block c hlt hne
  exact ⟨a, len, cap, i, h, hg.cell h0 hne, hg.cell h1 hne, hg.cell h2 hne, by rw [World.frozen?_of_block (w := w) (a := ⟨c, 1, none⟩) hblk]; exact f1, by rw [World.frozen?_of_block (w := w) (a := ⟨c, 2, none⟩) hblk]; exact f2, hi, hl, hb.grown hg hr (by omega), Nat.lt_of_lt_of_le hlt hg.size⟩
theorem Row.grown {p : Value → Bool} {w w' : World} {a : Addr} {len c : Nat} {row : Option Nat} (h : Row p w a len c) (hg : w.grownBy w' row) (hr : some a.block ≠ row) : Row p w' a len c :=
  ⟨h.1, h.2.1, Nat.lt_of_lt_of_le h.2.2.1 hg.size, fun j hj => by
    obtain ⟨v, h1, h2⟩ := h.2.2.2 j hj
    exact ⟨v, hg.cell (a := ⟨a.block, a.off + j, none⟩) h1 hr, h2⟩⟩

theorem row_lit_at {p : Value → Bool} {w : World} {arr : Array Value} {T : TypeId} {c n b : Nat} (h : arr.toList.all p = true) (hn : arr.size = n) (hc : c < w.heap.size) (hb : b = w.heap.size) : Row p (w.alloc (.cells arr T)) ⟨b, 0, none⟩ n c := by
  subst hb
  exact row_lit h hn hc
/-- what holds at each round: the gathered strings in a row of the call's own, the cursor, the literal, and all that is older -/
structure St (w : World) (c lit : Nat) (wr : World) (v : Value) (xs : List ByteArray) : Prop where
  own : wr.ownsRow (c + 1) 9 1 v xs.length (xs.map Value.string)
  ne : v.ownBlock ≠ some lit
  cur : Cur wr c
  row : Row isStr wr ⟨lit, 0, none⟩ 4 c
  low : Below c w wr
theorem St.lt {w : World} {c lit : Nat} {wr : World} {v : Value} {xs : List ByteArray} (h : St w c lit wr v xs) : ∀ k, v.ownBlock = some k → c < k := fun k hk => by
  have := (h.own.lt k hk).1; omega
theorem St.keep {w : World} {c lit : Nat} {wr w' : World} {v : Value} {xs : List ByteArray} (h : St w c lit wr v xs) (hc : Cur w' c) (hk : Kept c wr w') : St w c lit w' v xs :=
  ⟨h.own.kept hk.grown (by
      cases hv : v.ownBlock with
      | none => exact .inl rfl
      | some k => exact .inr (fun e => by have := h.lt k hv; cases e; omega)), h.ne, hc, h.row.keep hk, h.low.trans (hk.below (Nat.le_refl _) (Nat.le_of_lt h.cur.lt))⟩
theorem St.alloc {w : World} {c lit : Nat} {wr : World} {v : Value} {xs : List ByteArray} (h : St w c lit wr v xs) (o : Obj) : St w c lit (wr.alloc o) v xs :=
  h.keep (h.cur.alloc o) ((Kept.refl c wr).alloc o)
theorem St.add {w : World} {c lit : Nat} {W w' : World} {v v' : Value} {xs : List ByteArray} (h : St w c lit W v xs) (s : ByteArray)
    (hown : w'.ownsRow (c + 1) 9 1 v' (xs.length + 1) (xs.map Value.string ++ [.string s])) (hg : W.grownBy w' v.ownBlock) (n : Nat) (hn : n = W.heap.size) (hat : v'.ownBlock = v.ownBlock ∨ v'.ownBlock = some n) : St w c lit w' v' (xs ++ [s]) := by
  subst hn
  refine ⟨by simpa using hown, ?_, h.cur.grown hg h.lt, h.row.grown hg (fun e => h.ne e.symm), h.low.trans ⟨hg.os, hg.tape, hg.output, hg.size, fun k hk => hg.block k (Nat.lt_trans hk h.cur.lt) (fun e => by have := h.lt k e.symm; omega)⟩⟩
  rcases hat with hat | hat
  · rw [hat]; exact h.ne
  · rw [hat]; intro e; have hlt : lit < W.heap.size := h.row.2.2.1; cases e; omega
theorem own_reads {w : World} {base : Nat} {v : Value} {xs : List ByteArray} (h : w.ownsRow base 9 1 v xs.length (xs.map Value.string)) : ∃ d cap, v = .slice d xs.length cap ∧ Reads w d xs := by
  rcases h.2 with ⟨rfl, hn⟩ | ⟨g, cap, cur, rfl, hb, hg, hnc, hcm, hcs, htake⟩
  · have : xs = [] := List.eq_nil_of_length_eq_zero hn
    subst this
    exact ⟨none, 0, rfl, .inl rfl⟩
  · refine ⟨some ⟨g, 0, none⟩, cap, rfl, .inr ⟨g, 0, rfl, (Array.getElem?_eq_some_iff.1 hg).1, fun i hi => ?_⟩⟩
    have hx : (xs.map Value.string)[i]? = some (.string (nth xs i)) := by
      unfold nth
      simp [hi]
    have hc := h.cells (g := g) rfl i _ hx
    have ea : (⟨g, 0, none⟩ : Addr).add i = ⟨g, 0 + i, none⟩ := by by_cases h : i = 0 <;> simp [Addr.add, h]
    rw [← ea]; exact hc

set_option maxHeartbeats 1000000 in
theorem drawOrd_any (a : Option Addr) (len cap : Nat) (w : World) (hl : len ≤ maxLen) (hb : Bytes w a len w.heap.size) :
    Calls Try.prog 8 #[.slice a len cap] w fun e w' => (∃ (d : Option Addr) (cap' : Nat) (l : List ByteArray), e = .returned (.slice d l.length cap') ∧ l.length ≤ 5 ∧ Reads w' d l) ∧ Below w.heap.size w w' := by
  have HB : Hid (Bytes w a len w.heap.size) := hb
  have HL : Hid (len ≤ maxLen) := hl
  clear hb hl
  obtain ⟨i0, hi, hz0, hz1, hz2⟩ := info_parts infoS
  go_enter Try.func8, Try.ntmps8
  go_wp2_with fail
  refine (new_any a len cap _ HL.out HB.out).mono ?_
  rintro e w1 ⟨rfl, hc1, hb1⟩
  have HC1 : Hid (Cur w1 w.heap.size ∧ Below w.heap.size w w1) := ⟨hc1, hb1⟩
  clear hc1 hb1
  go_wp2_with fail
  go_loopw [4, 12] (fun v i wr => ∃ (k : Nat) (xs : List ByteArray), k ≤ 4 ∧ i = .int .i64 k ∧ xs.length ≤ k ∧ St w w.heap.size (w1.heap.size + 1) wr v xs) (fun _ i _ => 4 - (intOf i).toNat)
  case atStart =>
    refine ⟨0, [], by omega, rfl, Nat.le_refl _, ⟨?_, ?_, ?_, ?_, ?_⟩⟩
    · exact (World.ownsRow_made w1 #[] 0 HC1.out.1.lt (by simp [maxLen]) rfl).alloc _
    · simp [Value.ownBlock]
    · exact (HC1.out.1.alloc _).alloc _
    · refine row_lit_at (p := isStr) (w := w1.alloc (.cells #[] 9)) ?_ rfl ?_ (by simp)
      · decide
      · simp; exact Nat.lt_succ_of_lt HC1.out.1.lt
    · exact (HC1.out.2.alloc HC1.out.2.size _).alloc (by simp; exact Nat.le_succ_of_le HC1.out.2.size) _
  case round =>
    obtain ⟨k, xs, hk, rfl, hx, hst⟩ := hrel
    have HS : Hid (St w w.heap.size (w1.heap.size + 1) wr u4 xs) := hst
    clear hst
    by_cases hlt : k < 4
    · have hlt' : (k : Int) < 4 := by omega
      obtain ⟨v, hv, hp⟩ := HS.out.row.2.2.2 k hlt
      obtain ⟨s, rfl, hs⟩ := str_of hp
      have hv' : wr.cell? ⟨w1.heap.size + 1, k, none⟩ = some (.string s) := by simpa using hv
      clear hv hp
      go_wp2_with fail
      refine (once_any _ 2 _ HS.out.cur (by decide) (by decide)).mono ?_
      rintro e w2 ⟨⟨b, rfl⟩, hc2, hk2⟩
      have HS2 : Hid (St w w.heap.size (w1.heap.size + 1) w2 u4 xs) := HS.out.keep hc2 hk2
      clear hc2 hk2
      cases b with
      | true =>
        go_wp2_with (at_builtin; refine wpList_append_own_at _ rfl _ _ 27 rfl (w.heap.size + 1) 9 i0 (.string ByteArray.empty) 1 16 Try.underlying27 hi hz0 hz1 hz2 rfl (by decide) _ _ _ rfl (HS2.out.own.alloc _) ⟨w2.heap.size, 0, none⟩ 1 1 [.string s] rfl rfl ?c1 ?c2 ?c3 ?c4 ?c5 ?_)
        case c1 => exact cell_one_new _ _ _
        case c2 => intro u hu; simp at hu; subst hu; rfl
        case c3 => unfold maxLen; omega
        case c4 => omega
        case c5 => have := HS2.out.cur.lt; simp; omega
        intro v' w3 hown hg _ hat
        have HS3 : Hid (St w w.heap.size (w1.heap.size + 1) w3 v' (xs ++ [s])) := (HS2.out.alloc _).add s hown hg _ (by simp) hat
        clear hown hg hat
        go_wp2
        go_roundw
        case rel => exact ⟨k + 1, xs ++ [s], by omega, by go_num, by simp; omega, HS3.out⟩
        case measure => simp [intOf]; omega
      | false =>
        go_wp2
        go_roundw
        case rel => exact ⟨k + 1, xs, by omega, by go_num, by omega, HS2.out⟩
        case measure => simp [intOf]; omega
    · have hge : ¬ (k : Int) < 4 := by omega
      go_wp2_with fail
      refine (once_any _ 3 _ HS.out.cur (by decide) (by decide)).mono ?_
      rintro e w2 ⟨⟨b, rfl⟩, hc2, hk2⟩
      have HS2 : Hid (St w w.heap.size (w1.heap.size + 1) w2 u4 xs) := HS.out.keep hc2 hk2
      clear hc2 hk2
      cases b with
      | true =>
        go_wp2_with fail
        refine (anyName_any _ _ HS2.out.cur).mono ?_
        rintro e w3 ⟨⟨s, rfl, hs⟩, hc3, hk3⟩
        have HS3 : Hid (St w w.heap.size (w1.heap.size + 1) w3 u4 xs) := HS2.out.keep hc3 hk3
        clear hc3 hk3
        go_wp2_with (at_builtin; refine wpList_append_own_at _ rfl _ _ 27 rfl (w.heap.size + 1) 9 i0 (.string ByteArray.empty) 1 16 Try.underlying27 hi hz0 hz1 hz2 rfl (by decide) _ _ _ rfl (HS3.out.own.alloc _) ⟨w3.heap.size, 0, none⟩ 1 1 [.string s] rfl rfl ?c1 ?c2 ?c3 ?c4 ?c5 ?_)
        case c1 => exact cell_one_new _ _ _
        case c2 => intro u hu; simp at hu; subst hu; rfl
        case c3 => unfold maxLen; omega
        case c4 => omega
        case c5 => have := HS3.out.cur.lt; simp; omega
        intro v' w4 hown hg _ hat
        have HS4 : Hid (St w w.heap.size (w1.heap.size + 1) w4 v' (xs ++ [s])) := (HS3.out.alloc _).add s hown hg _ (by simp) hat
        clear hown hg hat
        go_wp2
        go_ret
        obtain ⟨d, cap', rfl, hr⟩ := own_reads HS4.out.own
        exact ⟨⟨d, cap', xs ++ [s], rfl, by simp; omega, hr⟩, HS4.out.low⟩
      | false =>
        go_wp2
        go_ret
        obtain ⟨d, cap', rfl, hr⟩ := own_reads HS2.out.own
        exact ⟨⟨d, cap', xs, rfl, by omega, hr⟩, HS2.out.low⟩
end Go.Proofs.Ytmbejfbbolicfaa.Draw
