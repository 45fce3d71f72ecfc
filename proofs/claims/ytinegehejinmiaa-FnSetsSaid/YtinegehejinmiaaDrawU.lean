/-
  PROVED: the contracts of the drawings that laws.FnSets begins with: DrawSortSet, DrawSetOk, DrawLabelOk, DrawSameSet, DrawValOf: a few small labels in memory of their own; nothing that was there is changed.
-/
import Derived.Test.YtinegehejinmiaaDrawT
namespace Go.Proofs.Ytinegehejinmiaa.DrawU
open Go.RowKit
open Go.Proofs.Ytinegehejinmiaa.Draw
open Go.Proofs.Ytinegehejinmiaa.Labs Go.Proofs.Ytinegehejinmiaa.LabS Go.Proofs.Ytinegehejinmiaa.LabR Go.Proofs.Ytinegehejinmiaa.Over Go.Proofs.Ytinegehejinmiaa.Blk Go.Proofs.Ytinegehejinmiaa.App Go.Proofs.Ytinegehejinmiaa.DrawL Go.Proofs.Ytinegehejinmiaa.DrawT
open Go.Proofs.Ytinegehejinmiaa.LabT (infoL)
set_option linter.unusedVariables false


theorem drawSetOk_any (a : Option Addr) (len cap : Nat) (w : World) (hl : len ≤ maxLen) (hb : Bytes w a len w.heap.size) :
    Calls Try.prog 12 #[.slice a len cap] w fun e w' => (∃ (g c : Nat) (p : List Lab), e = .returned (.slice (some ⟨g, 0, none⟩) p.length c) ∧ Reads w' (some ⟨g, 0, none⟩) p ∧ p.length ≤ 8 ∧ Small p) ∧ Below w.heap.size w w' := by
  have HB : Hid (Bytes w a len w.heap.size) := hb
  have HL : Hid (len ≤ maxLen) := hl
  clear hb hl
  obtain ⟨i0, hi, hz0, hz1, hz2⟩ := info_parts infoL
  go_enter Try.func12, Try.ntmps12
  go_wp2_with fail
  refine (new_any a len cap _ HL.out HB.out).mono ?_
  rintro e w1 ⟨rfl, hc1, hb1⟩
  have HC1 : Hid (Cur w1 w.heap.size ∧ Below w.heap.size w w1) := ⟨hc1, hb1⟩
  clear hc1 hb1
  go_wp2_with fail
  refine (l2Any_any _ _ HC1.out.1).mono ?_
  rintro e w2 ⟨v, rfl, p, hst, hp⟩
  obtain ⟨g, c, rfl⟩ := hst.lies
  have HS2 : Hid (LSt w1 w.heap.size w2 (.slice (some ⟨g, 0, none⟩) p.length c) p) := hst
  clear hst
  go_wp2
  go_ret
  exact ⟨⟨g, c, p, rfl, HS2.out.reads, hp, HS2.out.fit⟩, low_of HC1.out.2 HC1.out.1.lt HS2.out.kept⟩

theorem drawValOf_any (a : Option Addr) (len cap : Nat) (w : World) (hl : len ≤ maxLen) (hb : Bytes w a len w.heap.size) :
    Calls Try.prog 15 #[.slice a len cap] w fun e w' => (∃ (g c : Nat) (p : List Lab) (s : ByteArray), e = .returned (.tuple #[.slice (some ⟨g, 0, none⟩) p.length c, .string s]) ∧ Reads w' (some ⟨g, 0, none⟩) p ∧ p.length ≤ 8 ∧ Small p ∧ s.size ≤ 100) ∧ Below w.heap.size w w' := by
  have HB : Hid (Bytes w a len w.heap.size) := hb
  have HL : Hid (len ≤ maxLen) := hl
  clear hb hl
  obtain ⟨i0, hi, hz0, hz1, hz2⟩ := info_parts infoL
  go_enter Try.func15, Try.ntmps15
  go_wp2_with fail
  refine (new_any a len cap _ HL.out HB.out).mono ?_
  rintro e w1 ⟨rfl, hc1, hb1⟩
  have HC1 : Hid (Cur w1 w.heap.size ∧ Below w.heap.size w w1) := ⟨hc1, hb1⟩
  clear hc1 hb1
  go_wp2_with fail
  refine (l2Any_any _ _ HC1.out.1).mono ?_
  rintro e w2 ⟨v, rfl, p, hst, hp⟩
  obtain ⟨g, c, rfl⟩ := hst.lies
  have HS2 : Hid (LSt w1 w.heap.size w2 (.slice (some ⟨g, 0, none⟩) p.length c) p) := hst
  clear hst
  go_wp2_with fail
  refine (anyName_any _ _ HS2.out.cur).mono ?_
  rintro e w3 ⟨⟨s, rfl, hs⟩, hc3, hk3⟩
  have HS3 : Hid (LSt w1 w.heap.size w3 (.slice (some ⟨g, 0, none⟩) p.length c) p) := HS2.out.keep hc3 hk3
  clear hc3 hk3
  go_wp2
  go_ret2
  exact ⟨⟨g, c, p, s, rfl, HS3.out.reads, hp, HS3.out.fit, hs⟩, low_of HC1.out.2 HC1.out.1.lt HS3.out.kept⟩

theorem drawLabelOk_any (a : Option Addr) (len cap : Nat) (w : World) (hl : len ≤ maxLen) (hb : Bytes w a len w.heap.size) :
    Calls Try.prog 13 #[.slice a len cap] w fun e w' => (∃ x : Lab, e = .returned (.agg #[.string x.1, .string x.2]) ∧ x.1.size ≤ 100 ∧ x.2.size ≤ 100) ∧ Below w.heap.size w w' := by
  have hb' : ∀ o, Bytes (w.alloc o) a len (w.alloc o).heap.size := fun o => by
    rcases hb with h | ⟨b, off, rfl, hlt, hz⟩
    · exact .inl h
    · exact .inr ⟨b, off, rfl, by simp; omega, fun j hj => by rw [World.cell?_alloc_lt _ _ _ hlt]; exact hz j hj⟩
  have HB : ∀ o, Hid (Bytes (w.alloc o) a len (w.alloc o).heap.size) := hb'
  have HL : Hid (len ≤ maxLen) := hl
  clear hb hl hb'
  go_enter Try.func13, Try.ntmps13
  go_wp2_with fail
  refine (new_any a len cap _ HL.out (HB _).out).mono ?_
  rintro e w1 ⟨rfl, hc1, hb1⟩
  have e1 : ∀ (o : Obj), (w.alloc o).heap.size = w.heap.size + 1 := fun o => by simp
  have c0 : w1.cell? ⟨w.heap.size, 0, none⟩ = some (.string ByteArray.empty) := by rw [hb1.cell (by simp)]; simp; rfl
  have c1 : w1.cell? ⟨w.heap.size, 1, none⟩ = some (.string ByteArray.empty) := by rw [hb1.cell (by simp)]; simp; rfl
  have f0 : w1.frozen? ⟨w.heap.size, 0, none⟩ = false := by rw [hb1.frozen (by simp)]; exact (Blk.new _ _ _).frozen 0
  have f1 : w1.frozen? ⟨w.heap.size, 1, none⟩ = false := by rw [hb1.frozen (by simp)]; exact (Blk.new _ _ _).frozen 1
  have HB1 : Hid (Below w.heap.size w w1) := grow_on ((Below.refl _ _).alloc (Nat.le_refl _) _) hb1
  rw [e1] at hc1
  have HC1 : Hid (Cur w1 (w.heap.size + 1)) := hc1
  clear hc1 hb1 e1
  go_wp2_with fail
  refine (anyName_any _ _ HC1.out).mono ?_
  rintro e w2 ⟨⟨s, rfl, hs⟩, hc2, hk2⟩
  have HC2 : Hid (Cur w2 (w.heap.size + 1)) := hc2
  have HK2 : Hid (Kept (w.heap.size + 1) w1 w2) := hk2
  clear hc2 hk2
  go_wp2_with fail
  refine (anyPlain_any _ _ HC2.out).mono ?_
  rintro e w3 ⟨⟨t, rfl, ht⟩, hc3, hk3⟩
  have hk : Kept (w.heap.size + 1) w1 w3 := HK2.out.trans hk3
  have hlt : w.heap.size < w1.heap.size := by have := HC1.out.lt; omega
  have d0 : w3.cell? ⟨w.heap.size, 0, none⟩ = some (.string ByteArray.empty) := by rw [hk.cell hlt (by simp)]; exact c0
  have d1 : w3.cell? ⟨w.heap.size, 1, none⟩ = some (.string ByteArray.empty) := by rw [hk.cell hlt (by simp)]; exact c1
  have g0 : w3.frozen? ⟨w.heap.size, 0, none⟩ = false := by rw [World.frozen?_of_block (w := w1) (hk.block _ hlt (by simp))]; exact f0
  have g1 : w3.frozen? ⟨w.heap.size, 1, none⟩ = false := by rw [World.frozen?_of_block (w := w1) (hk.block _ hlt (by simp))]; exact f1
  have HB3 : Hid (Below w.heap.size w w3) := HB1.out.trans (hk.below (by omega) HB1.out.size)
  clear hk hk3 hc3 c0 c1 f0 f1
  have r0 : ((w3.setCell ⟨w.heap.size, 0, none⟩ (.string s)).setCell ⟨w.heap.size, 1, none⟩ (.string t)).cell? ⟨w.heap.size, 0, none⟩ = some (.string s) := by
    rw [cell_other _ _ 1 0 _ (by decide)]; exact cell_same _ _ _ _ _ d0
  have r1 : ((w3.setCell ⟨w.heap.size, 0, none⟩ (.string s)).setCell ⟨w.heap.size, 1, none⟩ (.string t)).cell? ⟨w.heap.size, 1, none⟩ = some (.string t) :=
    cell_same _ _ _ _ _ (by rw [cell_other _ _ 0 1 _ (by decide)]; exact d1)
  go_wp2
  exact bodyPost_ret (v := .agg #[.string s, .string t]) (by simp [results, Try.results13, go_sem, r0, r1]) rfl ⟨⟨(s, t), rfl, hs, ht⟩, (HB3.out.setCell (Nat.le_refl _) _).setCell (Nat.le_refl _) _⟩

set_option maxHeartbeats 800000 in
theorem drawSameSet_any (a : Option Addr) (len cap : Nat) (w : World) (hl : len ≤ maxLen) (hb : Bytes w a len w.heap.size) :
    Calls Try.prog 14 #[.slice a len cap] w fun e w' => (∃ (g c g' c' : Nat) (p q : List Lab), e = .returned (.tuple #[.slice (some ⟨g, 0, none⟩) p.length c, .slice (some ⟨g', 0, none⟩) q.length c']) ∧ Reads w' (some ⟨g, 0, none⟩) p ∧ Reads w' (some ⟨g', 0, none⟩) q ∧ p.length ≤ 8 ∧ q.length ≤ 8 ∧ Small p ∧ Small q) ∧ Below w.heap.size w w' := by
  have HB : Hid (Bytes w a len w.heap.size) := hb
  have HL : Hid (len ≤ maxLen) := hl
  clear hb hl
  obtain ⟨i0, hi, hz0, hz1, hz2⟩ := info_parts infoL
  go_enter Try.func14, Try.ntmps14
  go_wp2_with fail
  refine (new_any a len cap _ HL.out HB.out).mono ?_
  rintro e w1 ⟨rfl, hc1, hb1⟩
  have HC1 : Hid (Cur w1 w.heap.size ∧ Below w.heap.size w w1) := ⟨hc1, hb1⟩
  clear hc1 hb1
  go_wp2_with fail
  refine (l2Any_any _ _ HC1.out.1).mono ?_
  rintro e w2 ⟨v, rfl, p, hst, hp⟩
  obtain ⟨g, c, rfl⟩ := hst.lies
  have HS2 : Hid (LSt w1 w.heap.size w2 (.slice (some ⟨g, 0, none⟩) p.length c) p) := hst
  clear hst
  go_wp2_with fail
  refine (once_any _ 2 _ HS2.out.cur (by decide) (by decide)).mono ?_
  rintro e w3 ⟨⟨b, rfl⟩, hc3, hk3⟩
  have HS3 : Hid (LSt w1 w.heap.size w3 (.slice (some ⟨g, 0, none⟩) p.length c) p) := HS2.out.keep hc3 hk3
  clear hc3 hk3
  cases b with
  | false =>
    go_wp2_with fail
    refine (l2Any_any _ _ HS3.out.cur).mono ?_
    rintro e w4 ⟨v, rfl, q, hst, hq⟩
    obtain ⟨g', c', rfl⟩ := hst.lies
    have HS4 : Hid (LSt w3 w.heap.size w4 (.slice (some ⟨g', 0, none⟩) q.length c') q) := hst
    have HS5 : Hid (LSt w1 w.heap.size w4 (.slice (some ⟨g, 0, none⟩) p.length c) p) := HS3.out.keep hst.cur hst.kept
    clear hst
    go_wp2
    go_ret2
    exact ⟨⟨g, c, g', c', p, q, rfl, HS5.out.reads, HS4.out.reads, hp, hq, HS5.out.fit, HS4.out.fit⟩, low_of HC1.out.2 HC1.out.1.lt HS5.out.kept⟩
  | true =>
    have HO : Hid ((w3.alloc (.cells #[] 29)).ownsRow w3.heap.size 29 2 (.slice (some ⟨w3.heap.size, 0, none⟩) 0 0) 0 []) := own_empty (Blk.new _ _ _) (Nat.le_refl _)
    go_wp2_with (at_builtin; refine wpList_append_own_at _ rfl _ _ 24 rfl w3.heap.size 29 i0 (.agg #[.string ByteArray.empty, .string ByteArray.empty]) 2 32 Try.underlying24 hi hz0 hz1 hz2 rfl (by decide) _ _ _ rfl HO.out ⟨g, 0, none⟩ p.length c (flat p) rfl (flat_len p) ?c1 (flat_one p) ?c3 ?c4 ?c5 ?_)
    case c1 => exact (HS3.out.alloc _).src
    case c3 => unfold maxLen; omega
    case c4 => omega
    case c5 => simp
    intro v' w4 hown hg hnil _
    have hlow : Below w3.heap.size w3 w4 := ((Below.refl _ _).alloc (Nat.le_refl _) _).grown hg (by simp) (fun k hk => (HO.out.lt k hk).1)
    have hpl : w4.ownsRow w3.heap.size 29 2 v' p.length (flat p) := hown
    obtain ⟨g', c', hv⟩ : ∃ g' c', v' = .slice (some ⟨g', 0, none⟩) p.length c' := by
      rcases hpl.2 with ⟨e, _⟩ | ⟨g', c', cur, e, _⟩
      · exact absurd e hnil
      · exact ⟨g', c', e⟩
    subst hv
    have HR : Hid (Reads w4 (some ⟨g', 0, none⟩) p) := .inr ⟨g', 0, rfl, (hpl.lt g' rfl).2, fun i hi => by
      have ea : ∀ j, (⟨g', 0, none⟩ : Addr).add j = ⟨g', j, none⟩ := fun j => by by_cases h : j = 0 <;> simp [Addr.add, h]
      have h0 := hpl.cells (g := g') rfl (i * 2) _ (flat_get p i hi).1
      have h1 := hpl.cells (g := g') rfl (i * 2 + 1) _ (flat_get p i hi).2
      rw [ea] at h0 h1
      rw [Nat.zero_add]; exact ⟨h0, h1⟩⟩
    have HR0 : Hid (Reads w4 (some ⟨g, 0, none⟩) p) := HS3.out.reads.below hlow
    have HB4 : Hid (Below w.heap.size w w4) := grow_on (low_of HC1.out.2 HC1.out.1.lt HS3.out.kept) hlow
    clear hown hg hnil hlow hpl HO
    go_wp2
    go_ret2
    exact ⟨⟨g, c, g', c', p, p, rfl, HR0.out, HR.out, hp, hp, HS3.out.fit, HS3.out.fit⟩, HB4.out⟩

/-- one label of the row written anew -/
theorem flat_set : ∀ (p : List Lab) (m : Nat) (y : Lab), flat (p.set m y) = ((flat p).set (m * 2) (.string y.1)).set (m * 2 + 1) (.string y.2)
  | [], m, y => by simp [flat]
  | x :: p, 0, y => by simp [flat]
  | x :: p, m + 1, y => by
    have e : (m + 1) * 2 = m * 2 + 1 + 1 := by omega
    rw [List.set_cons_succ, flat, flat_set p m y, e]
    rfl
theorem lst_set {w : World} {c : Nat} {wr : World} {g cap n : Nat} {p : List Lab} (h : LSt w c wr (.slice (some ⟨g, 0, none⟩) n cap) p) (m : Nat) (y : Lab) (hy : y.1.size ≤ 100 ∧ y.2.size ≤ 100) :
    LSt w c ((wr.setCell ⟨g, m * 2, none⟩ (.string y.1)).setCell ⟨g, m * 2 + 1, none⟩ (.string y.2)) (.slice (some ⟨g, 0, none⟩) n cap) (p.set m y) := by
  have hgl := h.blk
  have hcl := h.clt
  have hg2 : wr.grownBy ((wr.setCell ⟨g, m * 2, none⟩ (.string y.1)).setCell ⟨g, m * 2 + 1, none⟩ (.string y.2)) (some g) :=
    ⟨rfl, rfl, rfl, by simp [World.setCell], fun k hk hne => ((grown_set _ g _ _).block k (by simpa [World.setCell] using hk) hne).trans ((grown_set wr g _ _).block k hk hne)⟩
  refine ⟨⟨by rw [List.length_set, flat_len, List.length_set], ?_⟩, by rw [List.length_set]; exact h.lies, h.cur.grown hg2 (fun k hk => by cases hk; omega), kept_grown (B := 0) h.kept hg2 (fun k hk => by cases hk; exact hgl.1), hcl, ?_⟩
  · rcases h.own.2 with ⟨e, _⟩ | ⟨g', cap', cur, e, hb, hg, hn, hcm, hcs, ht⟩
    · cases e
    · cases e
      rw [List.length_set]
      refine .inr ⟨g, cap, (cur.setIfInBounds (m * 2) (.string y.1)).setIfInBounds (m * 2 + 1) (.string y.2), rfl, hb, ?_, hn, hcm, by simpa using hcs, ?_⟩
      · exact Blk.set (T := 29) (Blk.set (T := 29) hg _ _) _ _
      · rw [Array.toList_setIfInBounds, Array.toList_setIfInBounds, List.take_set, List.take_set, ht, flat_set]
  · intro x hx
    rcases List.mem_or_eq_of_mem_set hx with h1 | h1
    · exact h.fit x h1
    · rw [h1]; exact hy

set_option maxRecDepth 100000 in
set_option maxHeartbeats 1600000 in
theorem drawSortSet_any (a : Option Addr) (len cap : Nat) (w : World) (hl : len ≤ maxLen) (hb : Bytes w a len w.heap.size) :
    Calls Try.prog 9 #[.slice a len cap] w fun e w' => (∃ (g c : Nat) (p : List Lab), e = .returned (.slice (some ⟨g, 0, none⟩) p.length c) ∧ Reads w' (some ⟨g, 0, none⟩) p ∧ p.length ≤ 8 ∧ Small p) ∧ Below w.heap.size w w' := by
  have HB : Hid (Bytes w a len w.heap.size) := hb
  have HL : Hid (len ≤ maxLen) := hl
  clear hb hl
  obtain ⟨i0, hi, hz0, hz1, hz2⟩ := info_parts infoL
  go_enter Try.func9, Try.ntmps9
  go_wp2_with fail
  refine (new_any a len cap _ HL.out HB.out).mono ?_
  rintro e w1 ⟨rfl, hc1, hb1⟩
  have HC1 : Hid (Cur w1 w.heap.size ∧ Below w.heap.size w w1) := ⟨hc1, hb1⟩
  clear hc1 hb1
  go_wp2_with fail
  refine (l2Any_any _ _ HC1.out.1).mono ?_
  rintro e w2 ⟨v, rfl, p, hst, hp⟩
  obtain ⟨g, c, rfl⟩ := hst.lies
  have HS2 : Hid (LSt w1 w.heap.size w2 (.slice (some ⟨g, 0, none⟩) p.length c) p) := hst
  clear hst
  generalize hnn : p.length = n at *
  have HS2' : Hid (∃ q : List Lab, q.length = n ∧ LSt w1 w.heap.size w2 (.slice (some ⟨g, 0, none⟩) n c) q) := ⟨p, hnn, HS2.out⟩
  clear HS2 hnn
  go_wp2
  go_loopw [5] (fun i wr => ∃ (k : Int) (q : List Lab), i = .int .i64 k ∧ k < (n : Int) ∧ -1 ≤ k ∧ q.length = n ∧ LSt w1 w.heap.size wr (.slice (some ⟨g, 0, none⟩) n c) q) (fun i _ => (intOf i).toNat)
  case atStart =>
    obtain ⟨q, hq, hs⟩ := HS2'.out
    exact ⟨_, q, rfl, by omega, by omega, hq, hs⟩
  case round =>
    obtain ⟨k, q, rfl, hk, hk1, hq, hst⟩ := hrel
    have HS : Hid (LSt w1 w.heap.size wr (.slice (some ⟨g, 0, none⟩) n c) q) := hst
    clear hst
    by_cases hlt : 0 < k
    · obtain ⟨i, rfl⟩ := Int.eq_ofNat_of_zero_le (show 0 ≤ k by omega)
      go_wp2_with fail
      refine (below_any _ ((i : Int) + 1) _ HS.out.cur (by omega) (by omega)).mono ?_
      rintro e w3 ⟨⟨x, rfl, hx0, hx1⟩, hc3, hk3⟩
      obtain ⟨j, rfl⟩ := Int.eq_ofNat_of_zero_le hx0
      have hS3 : LSt w1 w.heap.size w3 (.slice (some ⟨g, 0, none⟩) n c) q := HS.out.keep hc3 hk3
      have HS3 : Hid (LSt w1 w.heap.size w3 (.slice (some ⟨g, 0, none⟩) n c) q) := hS3
      clear hc3 hk3
      have hin : i < q.length := by omega
      have hjn : j < q.length := by omega
      have hi1 : (i : Int) < (n : Int) := by omega
      have hj1 : (j : Int) < (n : Int) := by omega
      have hgr : g < w3.heap.size := hS3.blk.2
      obtain ⟨a0, a1⟩ := hS3.cells (m := i) hin
      obtain ⟨b0, b1⟩ := hS3.cells (m := j) hjn
      have fa0 := hS3.warm (i * 2)
      have fa1 := hS3.warm (i * 2 + 1)
      have fit : ∀ m, m < q.length → (nth q m).1.size ≤ 100 ∧ (nth q m).2.size ≤ 100 := fun m hm => by rw [nth_eq hm]; exact hS3.fit _ (List.getElem_mem hm)
      have hS8 := lst_set hS3 i (nth q j) (fit j hjn)
      obtain ⟨d0, d1⟩ := hS8.cells (m := j) (by rw [List.length_set]; exact hjn)
      have fd0 := hS8.warm (j * 2)
      have fd1 := hS8.warm (j * 2 + 1)
      have HS9 : Hid (LSt w1 w.heap.size _ (.slice (some ⟨g, 0, none⟩) n c) ((q.set i (nth q j)).set j (nth q i))) := lst_set hS8 j (nth q i) (fit i hin)
      clear hS3 hS8 fit
      go_wp2
      go_roundw
      case rel => exact ⟨_, _, rfl, by omega, by omega, by rw [List.length_set, List.length_set]; exact hq, HS9.out.alloc _⟩
      case measure => simp [intOf]; omega
    · have hge : ¬ 0 < k := hlt
      have HE : Hid (∃ q : List Lab, n = q.length ∧ LSt w1 w.heap.size wr (.slice (some ⟨g, 0, none⟩) q.length c) q) := ⟨q, hq.symm, by rw [hq]; exact HS.out⟩
      go_wp2
      go_ret
      obtain ⟨r, hr, hs⟩ := HE.out
      exact ⟨⟨g, c, r, by rw [← hr]; rfl, hs.reads, by omega, hs.fit⟩, low_of HC1.out.2 HC1.out.1.lt hs.kept⟩
end Go.Proofs.Ytinegehejinmiaa.DrawU
