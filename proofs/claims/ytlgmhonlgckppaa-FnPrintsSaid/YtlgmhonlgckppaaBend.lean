/-
  PROVED: the contract of spec.l3Bend: whatever it draws it answers a short string; the cursor goes on, all else is as it was.
-/
import Derived.Test.YtlgmhonlgckppaaDrawL
import Derived.Test.YtlgmhonlgckppaaSetP
import Derived.Deep.RegionLaw
import Derived.Laws.IdiomStrings
namespace Go.Proofs.Ytlgmhonlgckppaa.Bend
open Go.RowKit
open Go.Proofs.Ytlgmhonlgckppaa.Draw
open Go.Proofs.Ytlgmhonlgckppaa.SetP (mk bs bs_mk mk_bs size_mk bs_len)
set_option linter.unusedVariables false

/-- bytes in a block from its first cell on, and none of them frozen -/
def Byt (w : World) (M : Nat) (xs : List UInt8) : Prop := ∀ j (hj : j < xs.length), w.cell? ⟨M, j, none⟩ = some (.int .u8 (xs[j].toNat : Int)) ∧ w.frozen? ⟨M, j, none⟩ = false
theorem frozen_of {w w' : World} {M : Nat} (h : w'.heap[M]? = w.heap[M]?) (j : Nat) : w'.frozen? ⟨M, j, none⟩ = w.frozen? ⟨M, j, none⟩ := by unfold World.frozen?; rw [h]
theorem cell_of {w w' : World} {M : Nat} (h : w'.heap[M]? = w.heap[M]?) (j : Nat) : w'.cell? ⟨M, j, none⟩ = w.cell? ⟨M, j, none⟩ := World.cell?_of_block h
theorem Byt.keep {w w' : World} {M c : Nat} {xs : List UInt8} (h : Byt w M xs) (hk : Kept c w w') (hM : M < w.heap.size) (hne : M ≠ c) : Byt w' M xs := fun j hj => by
  have e := hk.block M hM hne
  rw [cell_of e, frozen_of e]
  exact h j hj
theorem Byt.take {w : World} {M : Nat} {xs : List UInt8} (h : Byt w M xs) (n : Nat) : Byt w M (xs.take n) := fun j hj => by
  have hj' : j < xs.length := by simp at hj; omega
  rw [List.getElem_take]
  exact h j hj'
theorem byt_new (w : World) (s : ByteArray) (cap : Nat) (T : TypeId) : Byt (w.drew.alloc (.cells (bytesRow s cap) T ((bytesRow s cap).size, (bytesRow s cap).size + 1))) w.heap.size (bs s) := fun j hj => by
  rw [bs_len] at hj
  have hc := World.cell?_alloc_mark w.drew (bytesRow s cap) T ((bytesRow s cap).size, (bytesRow s cap).size + 1) j
  have hz : j < s.data.size := hj
  refine ⟨hc.trans ?_, ?_⟩
  · unfold bytesRow
    rw [Array.getElem?_append_left (by simpa using hz)]
    simp
    exact ⟨s.data[j], by simp, rfl⟩
  · have e : (w.drew.alloc (.cells (bytesRow s cap) T ((bytesRow s cap).size, (bytesRow s cap).size + 1))).heap[w.heap.size]? = some (.cells (bytesRow s cap) T ((bytesRow s cap).size, (bytesRow s cap).size + 1)) := by
      show (w.heap.push _)[w.heap.size]? = _
      simp
    unfold World.frozen?
    rw [e]
    have : ¬ (bytesRow s cap).size ≤ j := by
      unfold bytesRow
      simp
      omega
    simp [this]
theorem add0 (M j : Nat) : (⟨M, 0, none⟩ : Addr).add j = ⟨M, j, none⟩ := by by_cases h : j = 0 <;> simp [Addr.add, h]
theorem Byt.back {w : World} {M cap : Nat} {xs : List UInt8} (h : Byt w M xs) : (convert 22 9 (.slice (some ⟨M, 0, none⟩) xs.length cap)).run Try.prog w = .ok (.string (mk xs)) w :=
  run_convert_bytes_back (P := Try.prog) w 22 9 5 ⟨M, 0, none⟩ cap xs Try.underlying22 Try.underlying5 Try.underlying9 fun j hj => by rw [add0]; exact (h j hj).1
theorem wrap8 (x : Int) : ∃ b : UInt8, IntKind.u8.wrap x = (b.toNat : Int) := by
  refine ⟨UInt8.ofNat (x % 256).toNat, ?_⟩
  rw [IntKind.wrap_u8]
  simp
  omega
theorem Byt.set {w : World} {M i : Nat} {xs : List UInt8} (h : Byt w M xs) (b : UInt8) : Byt (w.setCell ⟨M, i, none⟩ (.int .u8 (b.toNat : Int))) M (xs.set i b) := fun j hj => by
  have hj' : j < xs.length := by simpa using hj
  obtain ⟨h1, h2⟩ := h j hj'
  refine ⟨?_, by rw [World.frozen?_setCell]; exact h2⟩
  by_cases e : i = j
  · subst e
    rw [cell_same _ _ _ _ _ h1, List.getElem_set_self]
  · rw [cell_other _ _ _ _ _ e, List.getElem_set_ne e]
    exact h1
theorem infoU : (Try.prog.info? 5).map (fun i => (i.zero, i.size, i.bytes)) = some (some (.int .u8 0), 1, 1) := by kernel_rfl
/-- the cells that are moved one to the left -/
def moved (xs : List UInt8) (i : Nat) : List Value := (xs.drop (i + 1)).map fun b => Value.int .u8 (b.toNat : Int)
theorem moved_len (xs : List UInt8) (i : Nat) : (moved xs i).length = xs.length - (i + 1) := by simp [moved]
theorem moved_get {xs : List UInt8} {i j : Nat} (h : i + 1 + j < xs.length) : (moved xs i)[j]? = some (.int .u8 ((xs[i + 1 + j]).toNat : Int)) := by
  simp [moved, h]
theorem grown_trans {a b d : World} {row : Option Nat} (h : a.grownBy b row) (k : b.grownBy d row) : a.grownBy d row :=
  ⟨k.os.trans h.os, k.tape.trans h.tape, k.output.trans h.output, Nat.le_trans h.size k.size, fun j hj hn => (k.block j (Nat.lt_of_lt_of_le hj h.size) hn).trans (h.block j hj hn)⟩
theorem grown_sets (M : Nat) : ∀ (vs : List Value) (o : Nat) (w : World), w.grownBy (w.setCells M o vs) (some M)
  | [], o, w => ⟨rfl, rfl, rfl, Nat.le_refl _, fun _ _ _ => rfl⟩
  | v :: vs, o, w => grown_trans (DrawL.grown_set w M o v) (grown_sets M vs (o + 1) (w.setCell ⟨M, o, none⟩ v))
theorem Byt.del {w : World} {M i : Nat} {xs : List UInt8} (h : Byt w M xs) (hi : i < xs.length) : Byt (w.setCells M i (moved xs i)) M (xs.take i ++ xs.drop (i + 1)) := fun j hj => by
  have hl := moved_len xs i
  have hj' : j < xs.length - 1 := by simp at hj; omega
  rw [World.frozen?_setCells]
  refine ⟨?_, (h j (by omega)).2⟩
  by_cases e : j < i
  · rw [World.cell?_setCells_out M _ _ _ _ (fun _ _ => Or.inl e), (h j (by omega)).1, List.getElem_append_left (by simp; omega), List.getElem_take]
  · have hin := World.cell?_setCells_in M (moved xs i) i w (fun k hk => by rw [(h (i + k) (by omega)).1]; rfl) (j - i) (by omega)
    have hg := moved_get (xs := xs) (i := i) (j := j - i) (by omega)
    rw [List.getElem?_eq_getElem (by omega)] at hg
    rw [Option.some.inj hg] at hin
    rw [show i + (j - i) = j by omega] at hin
    rw [hin]
    simp only [Option.some.injEq, Value.int.injEq, true_and]
    rw [List.getElem_append_right (by simp; omega), List.getElem_drop]
    congr 3
    simp; omega
/-- the bytes of the call's own, the cursor, and all that is older -/
structure BSt (w : World) (c M : Nat) (wr : World) (xs : List UInt8) : Prop where
  byt : Byt wr M xs
  cur : Cur wr c
  kept : Kept c w wr
  clt : c < w.heap.size
  ge : w.heap.size ≤ M
  lt : M < wr.heap.size
theorem BSt.keep {w : World} {c M : Nat} {wr w' : World} {xs : List UInt8} (h : BSt w c M wr xs) (hc : Cur w' c) (hk : Kept c wr w') : BSt w c M w' xs :=
  ⟨h.byt.keep hk h.lt (by have := h.clt; have := h.ge; omega), hc, h.kept.trans hk, h.clt, h.ge, Nat.lt_of_lt_of_le h.lt hk.size⟩
theorem BSt.alloc {w : World} {c M : Nat} {wr : World} {xs : List UInt8} (h : BSt w c M wr xs) (o : Obj) : BSt w c M (wr.alloc o) xs := h.keep (h.cur.alloc o) ((Kept.refl c wr).alloc o)
theorem BSt.drew {w : World} {c M : Nat} {wr : World} {xs : List UInt8} (h : BSt w c M wr xs) : BSt w c M wr.drew xs := ⟨h.byt, h.cur, h.kept.drew, h.clt, h.ge, h.lt⟩
theorem BSt.grown {w : World} {c M : Nat} {wr w' : World} {xs ys : List UInt8} (h : BSt w c M wr xs) (hg : wr.grownBy w' (some M)) (hb : Byt w' M ys) : BSt w c M w' ys :=
  ⟨hb, h.cur.grown hg (fun k hk => by cases hk; have := h.clt; have := h.ge; omega), DrawL.kept_grown (B := 0) h.kept hg (fun k hk => by cases hk; exact h.ge), h.clt, h.ge, Nat.lt_of_lt_of_le h.lt hg.size⟩
theorem BSt.set {w : World} {c M i : Nat} {wr : World} {xs : List UInt8} (h : BSt w c M wr xs) (b : UInt8) : BSt w c M (wr.setCell ⟨M, i, none⟩ (.int .u8 (b.toNat : Int))) (xs.set i b) := h.grown (DrawL.grown_set _ _ _ _) (h.byt.set b)
theorem BSt.del {w : World} {c M i : Nat} {wr : World} {xs : List UInt8} (h : BSt w c M wr xs) (hi : i < xs.length) : BSt w c M (wr.setCells M i (moved xs i)) (xs.take i ++ xs.drop (i + 1)) := h.grown (grown_sets M _ _ _) (h.byt.del hi)
theorem bst_new {w : World} {c : Nat} (s : ByteArray) (cap : Nat) (T : TypeId) (hc : Cur w c) : BSt w c w.heap.size (w.drew.alloc (.cells (bytesRow s cap) T ((bytesRow s cap).size, (bytesRow s cap).size + 1))) (bs s) :=
  ⟨byt_new w s cap T, (hc.drewN 1).alloc _, ((Kept.refl c w).drew).alloc _, hc.lt, Nat.le_refl _, by show _ < (w.heap.push _).size; simp⟩
theorem hidB {p : Prop} (h : p) : Hid p := h
theorem BSt.back {w : World} {c M n cap : Nat} {wr : World} {xs : List UInt8} (h : BSt w c M wr xs) (hn : n = xs.length) : (convert 22 9 (.slice (some ⟨M, 0, none⟩) n cap)).run Try.prog wr = .ok (.string (SetP.mk xs)) wr := by
  subst hn
  exact h.byt.back

set_option maxHeartbeats 1600000 in
set_option maxRecDepth 100000 in
theorem bend_any (c : Nat) (s : ByteArray) (w : World) (hc : Cur w c) (hs : s.size ≤ 100) :
    Calls Try.prog 42 #[.pointer (some ⟨c, 0, none⟩), .string s] w fun e w' => (∃ t : ByteArray, e = .returned (.string t) ∧ t.size ≤ 100) ∧ Cur w' c ∧ Kept c w w' := by
  have hcv := run_bytes_of_string (P := Try.prog) w 9 22 5 s Try.underlying9 Try.underlying22 Try.underlying5
  have hge := grownCap_ge w s.size 0 5
  have hmx := grownCap_le_maxLen w s.size 0 5 (by unfold maxLen; omega)
  unfold maxLen at hmx
  generalize grownCap w s.size 0 5 = cp at hcv hge hmx
  have HB0 : Hid (BSt w c w.heap.size (w.drew.alloc (.cells (bytesRow s cp) 5 ((bytesRow s cp).size, (bytesRow s cp).size + 1))) (bs s)) := bst_new s cp 5 hc
  have HZ : Hid (s.size = (bs s).length) := (bs_len s).symm
  generalize hw1 : w.drew.alloc (.cells (bytesRow s cp) 5 ((bytesRow s cp).size, (bytesRow s cp).size + 1)) = w1 at hcv HB0
  clear hw1 hc
  by_cases h0 : s.size = 0
  · go_enter Try.func42, Try.ntmps42
    go_wp2
    go_ret
    exact ⟨⟨_, rfl, hs⟩, HB0.out.cur, HB0.out.kept⟩
  · have h0' : ¬ (s.size : Int) = 0 := by omega
    go_enter Try.func42, Try.ntmps42
    go_wp2_with fail
    clear hcv
    refine (below_any c _ _ HB0.out.cur (by omega) (by omega)).mono ?_
    rintro e w2 ⟨⟨x, rfl, hx0, hx1⟩, hc1, hk1⟩
    have HB2 : Hid (BSt w c w.heap.size w2 (bs s)) := HB0.out.keep hc1 hk1
    clear hc1 hk1
    obtain ⟨i, rfl⟩ := Int.eq_ofNat_of_zero_le hx0
    go_wp2_with fail
    refine (below_any c _ _ HB2.out.cur (by omega) (by omega)).mono ?_
    rintro e w3 ⟨⟨y, rfl, hy0, hy1⟩, hc1, hk1⟩
    have HB3 : Hid (BSt w c w.heap.size w3 (bs s)) := HB2.out.keep hc1 hk1
    clear hc1 hk1
    have hi : i < s.size := by omega
    by_cases hq0 : y = 0
    · subst hq0
      go_wp2_with fail
      refine (int_any c w3.heap.size 0 8 8 _ (HB3.out.cur.alloc _) ?_ (by decide) (by decide)).mono ?_
      · exact row_lit (by decide) rfl HB3.out.cur.lt
      rintro e w4 ⟨⟨n, rfl, hn0, hn1⟩, hc1, hk1⟩
      have HB4 : Hid (BSt w c w.heap.size w4 (bs s)) := (HB3.out.alloc _).keep hc1 hk1
      clear hc1 hk1
      obtain ⟨b, hb⟩ := wrap8 n
      obtain ⟨c4, f4⟩ := HB4.out.byt i (by have := HZ.out; omega)
      have HB5 := hidB (HB4.out.set (i := i) b)
      have hcv2 := HB5.out.back (n := s.size) (cap := cp) (by have := HZ.out; simpa using this)
      have HZ5 : Hid ((mk ((bs s).set i b)).size ≤ 100) := by show _ ≤ _; rw [size_mk, List.length_set, ← HZ.out]; exact hs
      go_wp2
      go_ret
      exact ⟨⟨_, rfl, HZ5.out⟩, HB5.out.cur, HB5.out.kept⟩
    · by_cases hq1 : y = 1
      · subst hq1
        obtain ⟨i0, hi0, hz0, hz1, hz2⟩ := info_parts infoU
        have HX : Hid (i < (bs s).length) := by show _ < _; rw [← HZ.out]; exact hi
        have HBd := hidB (HB3.out.drew.del HX.out)
        obtain ⟨A, hA, hnews⟩ : ∃ A : Addr, (if cp = i + 1 then some (⟨w.heap.size, 0, none⟩ : Addr) else some ⟨w.heap.size, i + 1, none⟩) = some A ∧ Hid (∀ j u, (moved (bs s) i)[j]? = some u → w3.drew.cell? (A.add j) = some u) := by
          by_cases h : cp = i + 1
          · refine ⟨⟨w.heap.size, 0, none⟩, by simp [h], fun j u hu => ?_⟩
            have h0 : (moved (bs s) i).length = 0 := by rw [moved_len, ← HZ.out]; omega
            rw [List.length_eq_zero_iff.1 h0] at hu
            simp at hu
          · refine ⟨⟨w.heap.size, i + 1, none⟩, by simp [h], fun j u hu => ?_⟩
            have hj : j < (moved (bs s) i).length := (List.getElem?_eq_some_iff.1 hu).1
            rw [moved_len] at hj
            rw [moved_get (by omega)] at hu
            rw [Addr.add_lit]
            exact (HB3.out.byt (i + 1 + j) (by omega)).1.trans hu
        have s1 : Hid ((moved (bs s) i).length = (s.size - (i + 1)) * 1) := by show _ = _; rw [Nat.mul_one, moved_len, ← HZ.out]
        have s2 : Hid (∀ u ∈ moved (bs s) i, u.oneCell' = true) := by
          intro u hu
          obtain ⟨x, _, rfl⟩ := List.mem_map.1 hu
          rfl
        have s3 : Hid (∀ j, j < (moved (bs s) i).length → (w3.drew.cell? ⟨w.heap.size, 0 + i * 1 + j, none⟩).isSome = true ∧ w3.drew.frozen? ⟨w.heap.size, 0 + i * 1 + j, none⟩ = false) := by
          intro j hj
          rw [moved_len] at hj
          rw [Nat.mul_one, Nat.zero_add]
          have := HB3.out.byt (i + j) (by omega)
          exact ⟨by show (w3.cell? _).isSome = true; rw [this.1]; rfl, this.2⟩
        have hic : i ≤ cp := by omega
        have hwr : IntKind.i64.wrap ((i : Int) + 1) = (i : Int) + 1 := by rw [IntKind.wrap_i64]; omega
        have hp0 : (0 : Int) ≤ (i : Int) + 1 := by omega
        have hp1 : (i : Int) + 1 ≤ (s.size : Int) := by omega
        have hp2 : ((i : Int) + 1).toNat = i + 1 := by omega
        have hcv2 := HBd.out.back (n := i + (s.size - (i + 1))) (cap := cp) (by have := HZ.out; simp; omega)
        have HZ5 : Hid ((mk ((bs s).take i ++ (bs s).drop (i + 1))).size ≤ 100) := by show _ ≤ _; rw [size_mk]; have := HZ.out; simp; omega
        generalize mk ((bs s).take i ++ (bs s).drop (i + 1)) = t at HZ5 hcv2
        go_wp2_with fail
        go_region_law (refine step_append_room rfl (.tmp 32) (.tmp 36) 22 rfl 5 i0 1 Try.underlying22 hi0 hz1 w.heap.size 0 i cp (by simp [Act.eval, Act.put]) A (s.size - (i + 1)) (cp - (i + 1)) (moved (bs s) i) (by simp [Act.eval, Act.put]) s1.out hnews.out s2.out (by omega) s3.out ?_)
        go_wp2
        go_ret
        exact ⟨⟨_, rfl, HZ5.out⟩, HBd.out.cur, HBd.out.kept⟩
      · have hcv2 := HB3.out.back (n := s.size) (cap := cp) HZ.out
        go_wp2
        go_ret
        exact ⟨⟨_, rfl, by rw [mk_bs]; exact hs⟩, HB3.out.cur, HB3.out.kept⟩
end Go.Proofs.Ytlgmhonlgckppaa.Bend
