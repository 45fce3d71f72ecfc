/-
  PROVED: the contracts of the drawing of alarms: l4Draw, l4Any, l4Pair and what is drawn by them: alarms with a few small labels in memory of their own; nothing that was there is changed but the cursor.
-/
import Derived.Test.YtcopckbpflmmeaaDrawT
import Derived.Test.YtcopckbpflmmeaaAlmM
import Derived.Deep.RegionHeld3
namespace Go.Proofs.Ytcopckbpflmmeaa.DrawA
open Go.RowKit
open Go.Proofs.Ytcopckbpflmmeaa.Draw
open Go.Proofs.Ytcopckbpflmmeaa.Labs Go.Proofs.Ytcopckbpflmmeaa.LabS Go.Proofs.Ytcopckbpflmmeaa.LabR Go.Proofs.Ytcopckbpflmmeaa.Over Go.Proofs.Ytcopckbpflmmeaa.Blk Go.Proofs.Ytcopckbpflmmeaa.App Go.Proofs.Ytcopckbpflmmeaa.DrawL Go.Proofs.Ytcopckbpflmmeaa.DrawT Go.Proofs.Ytcopckbpflmmeaa.Alm Go.Proofs.Ytcopckbpflmmeaa.AlmM
open Go.Proofs.Ytcopckbpflmmeaa.LabT (infoL Held held_reads)
set_option linter.unusedVariables false

theorem blk_kept {c M : Nat} {w w' : World} {cs : Array Value} {T : TypeId} (h : Blk w M cs T) (hk : Kept c w w') (hne : M ≠ c) : Blk w' M cs T := by
  have hl := h.lt
  unfold Blk at *
  rw [hk.block M hl hne]; exact h
/-- the row seen from an older world -/
theorem lst_base {w W wr : World} {c : Nat} {v : Value} {p : List Lab} (h : LSt W c wr v p) (hk : Kept c w W) (hc : c < w.heap.size) : LSt w c wr v p :=
  ⟨Go.Joins.ownsRow_le h.own hk.size, h.lies, h.cur, hk.trans h.kept, hc, h.fit⟩
/-- a cell of a younger block that is not the row's is written -/
theorem lst_other {w wr : World} {c : Nat} {v : Value} {p : List Lab} (h : LSt w c wr v p) {B : Nat} (hB : w.heap.size ≤ B) (hne : v.ownBlock ≠ some B) (i : Nat) (u : Value) : LSt w c (wr.setCell ⟨B, i, none⟩ u) v p :=
  ⟨h.own.kept (grown_set wr B i u) (.inr hne), h.lies, h.cur.grown (grown_set wr B i u) (fun k hk => by cases hk; have := h.clt; omega), kept_grown (B := 0) h.kept (grown_set wr B i u) (fun k hk => by cases hk; exact hB), h.clt, h.fit⟩
theorem lst_other4 {w wr : World} {c : Nat} {v : Value} {p : List Lab} (h : LSt w c wr v p) {B : Nat} (hB : w.heap.size ≤ B) (hne : v.ownBlock ≠ some B) (u0 u1 u2 u3 : Value) : LSt w c ((((wr.setCell ⟨B, 0, none⟩ u0).setCell ⟨B, 1, none⟩ u1).setCell ⟨B, 2, none⟩ u2).setCell ⟨B, 3, none⟩ u3) v p :=
  lst_other (lst_other (lst_other (lst_other h hB hne 0 u0) hB hne 1 u1) hB hne 2 u2) hB hne 3 u3
theorem own_ne {g n c B : Nat} (h : g ≠ B) : (Value.slice (some ⟨g, 0, none⟩) n c).ownBlock ≠ some B := fun e => h (Option.some.inj e)
theorem wrapB (x : Int) : -9223372036854775808 ≤ IntKind.i64.wrap x ∧ IntKind.i64.wrap x ≤ 9223372036854775807 := by
  rw [IntKind.wrap_i64]; omega
/-- a number of the int's own -/
def I64 (x : Int) : Prop := -9223372036854775808 ≤ x ∧ x ≤ 9223372036854775807

set_option maxRecDepth 100000 in
set_option maxHeartbeats 1600000 in
theorem l4Draw_any (c : Nat) (w : World) (hc : Cur w c) :
    Calls Try.prog 43 #[.pointer (some ⟨c, 0, none⟩)] w fun r w' => ∃ (g cap : Nat) (p : List Lab) (s e : Int) (n : ByteArray), r = .returned (.agg #[.slice (some ⟨g, 0, none⟩) p.length cap, .int .i64 s, .int .i64 e, .string n]) ∧ LSt w c w' (.slice (some ⟨g, 0, none⟩) p.length cap) p ∧ p.length ≤ 8 ∧ I64 s ∧ I64 e ∧ n.size ≤ 100 := by
  have HC : Hid (Cur w c) := hc
  have HL : Hid (c < w.heap.size) := hc.lt
  clear hc
  go_enter Try.func43, Try.ntmps43
  go_wp2_with fail
  refine (l2Draw_any c _ (HC.out.alloc _)).mono ?_
  rintro r w1 ⟨v, rfl, p, hst, hp1, hp2⟩
  obtain ⟨g, cap, rfl⟩ := hst.lies
  have HG : Hid (w.heap.size < g ∧ g < w1.heap.size) := by have := hst.blk; simp at this; exact ⟨by omega, this.2⟩
  have HR1 : Hid (Blk w1 w.heap.size #[.slice none 0 0, .int .i64 0, .int .i64 0, .string ⟨#[]⟩] 29) := blk_kept (Blk.new _ _ _) hst.kept (by have := HL.out; omega)
  have HS1 : Hid (LSt w c w1 (.slice (some ⟨g, 0, none⟩) p.length cap) p) := lst_base hst ((Kept.refl c w).alloc _) HL.out
  clear hst
  go_wp2_with fail
  refine (below_any c 8 _ HS1.out.cur (by decide) (by decide)).mono ?_
  rintro r w2 ⟨⟨s, rfl, hs0, hs1⟩, hc2, hk2⟩
  have HS2 : Hid (LSt w c w2 (.slice (some ⟨g, 0, none⟩) p.length cap) p) := HS1.out.keep hc2 hk2
  have HR2 : Hid (Blk w2 w.heap.size #[.slice none 0 0, .int .i64 0, .int .i64 0, .string ⟨#[]⟩] 29) := blk_kept HR1.out hk2 (by have := HL.out; omega)
  have HZ2 : Hid (w1.heap.size ≤ w2.heap.size) := hk2.size
  clear hc2 hk2
  go_wp2_with fail
  refine (plainS_any c _ HS2.out.cur).mono ?_
  rintro r w3 ⟨⟨n, rfl, hn⟩, hc3, hk3⟩
  have HS3 : Hid (LSt w c w3 (.slice (some ⟨g, 0, none⟩) p.length cap) p) := HS2.out.keep hc3 hk3
  have HR3 : Hid (Blk w3 w.heap.size #[.slice none 0 0, .int .i64 0, .int .i64 0, .string ⟨#[]⟩] 29) := blk_kept HR2.out hk3 (by have := HL.out; omega)
  have HN : Hid (w.heap.size < w3.heap.size ∧ g < w3.heap.size ∧ c < w3.heap.size) := by
    have h1 := HG.out; have h2 := HZ2.out; have h3 := hk3.size; have h4 := HL.out
    exact ⟨by omega, by omega, by omega⟩
  clear hc3 hk3 HS1 HS2 HR1 HR2 HZ2
  go_wp2
  generalize hz : w3.alloc (.cells #[.slice (some ⟨g, 0, none⟩) p.length cap, .int .i64 s, .int .i64 0, .string n] 29) = z
  have HSz : Hid (LSt w c z (.slice (some ⟨g, 0, none⟩) p.length cap) p) := by rw [← hz]; exact HS3.out.alloc _
  have HRz : Hid (Blk z w.heap.size #[.slice none 0 0, .int .i64 0, .int .i64 0, .string ⟨#[]⟩] 29) := by rw [← hz]; exact HR3.out.alloc _
  have HAz : Hid (Blk z w3.heap.size #[.slice (some ⟨g, 0, none⟩) p.length cap, .int .i64 s, .int .i64 0, .string n] 29) := by rw [← hz]; exact Blk.new _ _ _
  clear hz HS3 HR3
  generalize w3.heap.size = A at HN HAz ⊢
  have a1 : z.cell? ⟨A, 1, none⟩ = some (.int .i64 s) := HAz.out.cell 1
  have HK : Hid (∀ (o : Obj) (w4 : World), Cur w4 c → Kept c (z.alloc o) w4 → LSt w c w4 (.slice (some ⟨g, 0, none⟩) p.length cap) p ∧ Blk w4 A #[.slice (some ⟨g, 0, none⟩) p.length cap, .int .i64 s, .int .i64 0, .string n] 29 ∧ Blk w4 w.heap.size #[.slice none 0 0, .int .i64 0, .int .i64 0, .string ⟨#[]⟩] 29) := fun o w4 hc h => by
    have h0 := HN.out; have h1 := HL.out
    exact ⟨(HSz.out.alloc o).keep hc h, blk_kept (HAz.out.alloc o) h (by omega), blk_kept (HRz.out.alloc o) h (by omega)⟩
  have HCz : Hid (Cur z c) := HSz.out.cur
  have HI : Hid (Calls Try.prog 51 #[.pointer (some ⟨c, 0, none⟩), .slice (some ⟨z.heap.size, 0, none⟩) 5 5] (z.alloc (.cells #[.int .i64 0, .int .i64 2, .int .i64 5, .int .i64 20, .int .i64 60] 3)).drew fun e w4 => (∃ x : Int, e = .returned (.int .i64 x) ∧ -9223372036854775808 ≤ x ∧ x ≤ 9223372036854775807) ∧ Cur w4 c ∧ Kept c (z.alloc (.cells #[.int .i64 0, .int .i64 2, .int .i64 5, .int .i64 20, .int .i64 60] 3)) w4) := by
    refine (int_any c z.heap.size 0 5 5 _ ?_ ?_ (by decide) (by decide)).mono fun e w4 h => ⟨h.1, h.2.1, ⟨h.2.2.os, h.2.2.tape, h.2.2.output, h.2.2.size, h.2.2.block⟩⟩
    · exact HCz.out.alloc _
    · exact row_lit (w := z) (by decide) rfl HCz.out.lt
  have kz : z.drew.cell? ⟨A, 1, none⟩ = some (.int .i64 s) := a1
  go_region_held3 (fun w' => w'.cell? ⟨A, 1, none⟩ = some (.int .i64 s)) (first | exact kz | exact Blk.cell (HAz.out.alloc _) 1 | exact hA4.cell 1 | exact (hA4.set 2 _).cell 1 | (go_keep; done)) (first
    | (go_at_call 51; (with_reducible refine HI.out.mono ?_); rintro r w4 ⟨⟨x, rfl, hx⟩, hc4, hk4⟩; (have hA3 := HK.out _ w4 hc4 hk4); (have hA4 := hA3.2.1); (have n2 : w4.cell? ⟨A, 2, none⟩ = some (.int .i64 0) := hA4.cell 2); (have f2 := hA4.frozen 2)))
  have HS4 : Hid (LSt w c w4 (.slice (some ⟨g, 0, none⟩) p.length cap) p) := hA3.1
  have hR := hA3.2.2
  have hA := hA4
  clear n2 f2 hA3 hA4 hc4 hk4 kz a1
  have HE : Hid (I64 (IntKind.i64.wrap (s + x))) := wrapB _
  generalize IntKind.i64.wrap (s + x) = y at HE ⊢
  have A0 : w4.cell? ⟨A, 0, none⟩ = some (.slice (some ⟨g, 0, none⟩) p.length cap) := hA.cell 0
  have A1 : w4.cell? ⟨A, 1, none⟩ = some (.int .i64 s) := hA.cell 1
  have A2 : w4.cell? ⟨A, 2, none⟩ = some (.int .i64 0) := hA.cell 2
  have A3 : w4.cell? ⟨A, 3, none⟩ = some (.string n) := hA.cell 3
  have fA0 := hA.frozen 0
  have fA1 := hA.frozen 1
  have fA2 := hA.frozen 2
  have fA3 := hA.frozen 3
  have R0 : w4.cell? ⟨w.heap.size, 0, none⟩ = some (.slice none 0 0) := hR.cell 0
  have R1 : w4.cell? ⟨w.heap.size, 1, none⟩ = some (.int .i64 0) := hR.cell 1
  have R2 : w4.cell? ⟨w.heap.size, 2, none⟩ = some (.int .i64 0) := hR.cell 2
  have R3 : w4.cell? ⟨w.heap.size, 3, none⟩ = some (.string ⟨#[]⟩) := hR.cell 3
  have fR0 := hR.frozen 0
  have fR1 := hR.frozen 1
  have fR2 := hR.frozen 2
  have fR3 := hR.frozen 3
  have d1 : ¬ A = w.heap.size := by have := HN.out; omega
  have d2 : ¬ w.heap.size = A := by have := HN.out; omega
  clear hA hR
  go_wp2
  refine bodyPost_ret (v := .agg #[.slice (some ⟨g, 0, none⟩) p.length cap, .int .i64 s, .int .i64 y, .string n]) (by simp [results, Try.results43, go_sem, R0, R1, R2, R3]) rfl ?_
  have h0 := HN.out; have h1 := HG.out; have h2 := HL.out
  exact ⟨g, cap, p, s, y, n, rfl, lst_other4 (lst_other HS4.out (by omega) (own_ne (by omega)) _ _) (Nat.le_refl _) (own_ne (by omega)) _ _ _ _, by omega, ⟨by omega, by omega⟩, HE.out, hn⟩

set_option maxRecDepth 100000 in
set_option maxHeartbeats 3200000 in
theorem l4Any_any (c : Nat) (w : World) (hc : Cur w c) :
    Calls Try.prog 87 #[.pointer (some ⟨c, 0, none⟩)] w fun r w' => ∃ (g cap : Nat) (p : List Lab) (s e : Int) (n : ByteArray), r = .returned (.agg #[.slice (some ⟨g, 0, none⟩) p.length cap, .int .i64 s, .int .i64 e, .string n]) ∧ LSt w c w' (.slice (some ⟨g, 0, none⟩) p.length cap) p ∧ p.length ≤ 8 ∧ I64 s ∧ I64 e ∧ n.size ≤ 100 := by
  have HC : Hid (Cur w c) := hc
  have HL : Hid (c < w.heap.size) := hc.lt
  clear hc
  go_enter Try.func87, Try.ntmps87
  go_wp2_with fail
  refine (l4Draw_any c _ (HC.out.alloc _)).mono ?_
  rintro r w1 ⟨g, cap, p, s, e, n, rfl, hst, hp, hs, he, hn⟩
  have HG : Hid (w.heap.size < g ∧ g < w1.heap.size) := by have := hst.blk; simp at this; exact ⟨by omega, this.2⟩
  have HR1 : Hid (Blk w1 w.heap.size #[.slice none 0 0, .int .i64 0, .int .i64 0, .string ⟨#[]⟩] 29) := blk_kept (Blk.new _ _ _) hst.kept (by have := HL.out; omega)
  have HS1 : Hid (LSt w c w1 (.slice (some ⟨g, 0, none⟩) p.length cap) p) := lst_base hst ((Kept.refl c w).alloc _) HL.out
  have HI : Hid (p.length ≤ 8 ∧ I64 s ∧ I64 e ∧ n.size ≤ 100) := ⟨hp, hs, he, hn⟩
  clear hst hp hs he hn
  go_wp2_with fail
  refine (below_any c 12 _ (HS1.out.cur.alloc _) (by decide) (by decide)).mono ?_
  rintro r w2 ⟨⟨x, rfl, hx0, hx1⟩, hc2, hk2⟩
  have HN : Hid (w.heap.size < g ∧ g < w1.heap.size ∧ w1.heap.size < w2.heap.size) := by
    have h1 := HG.out; have h2 := hk2.size; simp at h2
    exact ⟨by omega, by omega, by omega⟩
  have HS2 : Hid (LSt w c w2 (.slice (some ⟨g, 0, none⟩) p.length cap) p) := (HS1.out.alloc _).keep hc2 hk2
  have HA2 : Hid (Blk w2 w1.heap.size #[.slice (some ⟨g, 0, none⟩) p.length cap, .int .i64 s, .int .i64 e, .string n] 29) := blk_kept (Blk.new _ _ _) hk2 (by have := HL.out; have := HN.out; omega)
  have HR2 : Hid (Blk w2 w.heap.size #[.slice none 0 0, .int .i64 0, .int .i64 0, .string ⟨#[]⟩] 29) := blk_kept (HR1.out.alloc _) hk2 (by have := HL.out; omega)
  clear hc2 hk2 HS1 HR1 HG
  generalize w1.heap.size = A at HN HA2 ⊢
  have HAc : Hid (A ≠ c ∧ w.heap.size ≠ c) := by have := HL.out; have := HN.out; exact ⟨by omega, by omega⟩
  by_cases e0 : x = 0
  · subst e0
    go_wp2_with fail
    refine (l2Any_any c _ HS2.out.cur).mono ?_
    rintro r w3 ⟨v, rfl, q, hst, hq⟩
    obtain ⟨g', cap', rfl⟩ := hst.lies
    have HG' : Hid (A < g') := by have := hst.blk; have := HN.out; show A < g'; omega
    have hA := blk_kept HA2.out hst.kept HAc.out.1
    have hR := blk_kept HR2.out hst.kept HAc.out.2
    have HS3 : Hid (LSt w c w3 (.slice (some ⟨g', 0, none⟩) q.length cap') q) := lst_base hst HS2.out.kept HL.out
    clear hst
    have A0 : w3.cell? ⟨A, 0, none⟩ = some (.slice (some ⟨g, 0, none⟩) p.length cap) := hA.cell 0
    have A1 : w3.cell? ⟨A, 1, none⟩ = some (.int .i64 s) := hA.cell 1
    have A2 : w3.cell? ⟨A, 2, none⟩ = some (.int .i64 e) := hA.cell 2
    have A3 : w3.cell? ⟨A, 3, none⟩ = some (.string n) := hA.cell 3
    have fA0 := hA.frozen 0
    have fA1 := hA.frozen 1
    have fA2 := hA.frozen 2
    have fA3 := hA.frozen 3
    have R0 : w3.cell? ⟨w.heap.size, 0, none⟩ = some (.slice none 0 0) := hR.cell 0
    have R1 : w3.cell? ⟨w.heap.size, 1, none⟩ = some (.int .i64 0) := hR.cell 1
    have R2 : w3.cell? ⟨w.heap.size, 2, none⟩ = some (.int .i64 0) := hR.cell 2
    have R3 : w3.cell? ⟨w.heap.size, 3, none⟩ = some (.string ⟨#[]⟩) := hR.cell 3
    have fR0 := hR.frozen 0
    have fR1 := hR.frozen 1
    have fR2 := hR.frozen 2
    have fR3 := hR.frozen 3
    have d1 : ¬ A = w.heap.size := by have := HN.out; omega
    have d2 : ¬ w.heap.size = A := by have := HN.out; omega
    clear hA hR
    go_wp2
    refine bodyPost_ret (v := .agg #[.slice (some ⟨g', 0, none⟩) q.length cap', .int .i64 s, .int .i64 e, .string n]) (by simp [results, Try.results87, go_sem, R0, R1, R2, R3]) rfl ?_
    have h0 := HN.out; have h3 := HG'.out; have h2 := HL.out
    exact ⟨g', cap', q, s, e, n, rfl, lst_other4 (lst_other HS3.out (by omega) (own_ne (by have := HG'.out; omega)) _ _) (Nat.le_refl _) (own_ne (by omega)) _ _ _ _, hq, HI.out.2.1, HI.out.2.2.1, HI.out.2.2.2⟩
  have d0' : (x == 0) = false := by simpa using e0
  by_cases e1 : x = 1
  · subst e1
    go_wp2_with fail
    refine (int_any c _ _ _ _ _ ?hc ?hr ?h1 ?h2).mono ?_
    case hc => exact HS2.out.cur.alloc _
    case hr => exact row_lit (by decide) rfl HS2.out.cur.lt
    case h1 => decide
    case h2 => decide
    rintro r w3 ⟨⟨y, rfl, hy⟩, hc3, hk3⟩
    have HY : Hid (I64 y) := hy
    have hA := blk_kept (HA2.out.alloc _) hk3 HAc.out.1
    have hR := blk_kept (HR2.out.alloc _) hk3 HAc.out.2
    have HS3 : Hid (LSt w c w3 (.slice (some ⟨g, 0, none⟩) p.length cap) p) := (HS2.out.alloc _).keep hc3 hk3
    clear hc3 hk3 hy
    have A0 : w3.cell? ⟨A, 0, none⟩ = some (.slice (some ⟨g, 0, none⟩) p.length cap) := hA.cell 0
    have A1 : w3.cell? ⟨A, 1, none⟩ = some (.int .i64 s) := hA.cell 1
    have A2 : w3.cell? ⟨A, 2, none⟩ = some (.int .i64 e) := hA.cell 2
    have A3 : w3.cell? ⟨A, 3, none⟩ = some (.string n) := hA.cell 3
    have fA0 := hA.frozen 0
    have fA1 := hA.frozen 1
    have fA2 := hA.frozen 2
    have fA3 := hA.frozen 3
    have R0 : w3.cell? ⟨w.heap.size, 0, none⟩ = some (.slice none 0 0) := hR.cell 0
    have R1 : w3.cell? ⟨w.heap.size, 1, none⟩ = some (.int .i64 0) := hR.cell 1
    have R2 : w3.cell? ⟨w.heap.size, 2, none⟩ = some (.int .i64 0) := hR.cell 2
    have R3 : w3.cell? ⟨w.heap.size, 3, none⟩ = some (.string ⟨#[]⟩) := hR.cell 3
    have fR0 := hR.frozen 0
    have fR1 := hR.frozen 1
    have fR2 := hR.frozen 2
    have fR3 := hR.frozen 3
    have d1 : ¬ A = w.heap.size := by have := HN.out; omega
    have d2 : ¬ w.heap.size = A := by have := HN.out; omega
    clear hA hR
    go_wp2
    refine bodyPost_ret (v := .agg #[.slice (some ⟨g, 0, none⟩) p.length cap, .int .i64 y, .int .i64 e, .string n]) (by simp [results, Try.results87, go_sem, R0, R1, R2, R3]) rfl ?_
    have h0 := HN.out; have h2 := HL.out
    exact ⟨g, cap, p, y, e, n, rfl, lst_other4 (lst_other HS3.out (by omega) (own_ne (by omega)) _ _) (Nat.le_refl _) (own_ne (by omega)) _ _ _ _, HI.out.1, HY.out, HI.out.2.2.1, HI.out.2.2.2⟩
  have d1' : (x == 1) = false := by simpa using e1
  by_cases e2 : x = 2
  · subst e2
    go_wp2_with fail
    refine (raw_any c _ HS2.out.cur).mono ?_
    rintro r w3 ⟨⟨y, rfl, hy⟩, hc3, hk3⟩
    have HY : Hid (I64 y) := hy
    have hA := blk_kept HA2.out hk3 HAc.out.1
    have hR := blk_kept HR2.out hk3 HAc.out.2
    have HS3 : Hid (LSt w c w3 (.slice (some ⟨g, 0, none⟩) p.length cap) p) := HS2.out.keep hc3 hk3
    clear hc3 hk3 hy
    have A0 : w3.cell? ⟨A, 0, none⟩ = some (.slice (some ⟨g, 0, none⟩) p.length cap) := hA.cell 0
    have A1 : w3.cell? ⟨A, 1, none⟩ = some (.int .i64 s) := hA.cell 1
    have A2 : w3.cell? ⟨A, 2, none⟩ = some (.int .i64 e) := hA.cell 2
    have A3 : w3.cell? ⟨A, 3, none⟩ = some (.string n) := hA.cell 3
    have fA0 := hA.frozen 0
    have fA1 := hA.frozen 1
    have fA2 := hA.frozen 2
    have fA3 := hA.frozen 3
    have R0 : w3.cell? ⟨w.heap.size, 0, none⟩ = some (.slice none 0 0) := hR.cell 0
    have R1 : w3.cell? ⟨w.heap.size, 1, none⟩ = some (.int .i64 0) := hR.cell 1
    have R2 : w3.cell? ⟨w.heap.size, 2, none⟩ = some (.int .i64 0) := hR.cell 2
    have R3 : w3.cell? ⟨w.heap.size, 3, none⟩ = some (.string ⟨#[]⟩) := hR.cell 3
    have fR0 := hR.frozen 0
    have fR1 := hR.frozen 1
    have fR2 := hR.frozen 2
    have fR3 := hR.frozen 3
    have d1 : ¬ A = w.heap.size := by have := HN.out; omega
    have d2 : ¬ w.heap.size = A := by have := HN.out; omega
    clear hA hR
    go_wp2
    refine bodyPost_ret (v := .agg #[.slice (some ⟨g, 0, none⟩) p.length cap, .int .i64 s, .int .i64 y, .string n]) (by simp [results, Try.results87, go_sem, R0, R1, R2, R3]) rfl ?_
    have h0 := HN.out; have h2 := HL.out
    exact ⟨g, cap, p, s, y, n, rfl, lst_other4 (lst_other HS3.out (by omega) (own_ne (by omega)) _ _) (Nat.le_refl _) (own_ne (by omega)) _ _ _ _, HI.out.1, HI.out.2.1, HY.out, HI.out.2.2.2⟩
  have d2' : (x == 2) = false := by simpa using e2
  by_cases e3 : x = 3
  · subst e3
    go_wp2_with fail
    refine (anyPlain_any c _ HS2.out.cur).mono ?_
    rintro r w3 ⟨⟨t, rfl, ht⟩, hc3, hk3⟩
    have HY : Hid (t.size ≤ 100) := ht
    have hA := blk_kept HA2.out hk3 HAc.out.1
    have hR := blk_kept HR2.out hk3 HAc.out.2
    have HS3 : Hid (LSt w c w3 (.slice (some ⟨g, 0, none⟩) p.length cap) p) := HS2.out.keep hc3 hk3
    clear hc3 hk3 ht
    have A0 : w3.cell? ⟨A, 0, none⟩ = some (.slice (some ⟨g, 0, none⟩) p.length cap) := hA.cell 0
    have A1 : w3.cell? ⟨A, 1, none⟩ = some (.int .i64 s) := hA.cell 1
    have A2 : w3.cell? ⟨A, 2, none⟩ = some (.int .i64 e) := hA.cell 2
    have A3 : w3.cell? ⟨A, 3, none⟩ = some (.string n) := hA.cell 3
    have fA0 := hA.frozen 0
    have fA1 := hA.frozen 1
    have fA2 := hA.frozen 2
    have fA3 := hA.frozen 3
    have R0 : w3.cell? ⟨w.heap.size, 0, none⟩ = some (.slice none 0 0) := hR.cell 0
    have R1 : w3.cell? ⟨w.heap.size, 1, none⟩ = some (.int .i64 0) := hR.cell 1
    have R2 : w3.cell? ⟨w.heap.size, 2, none⟩ = some (.int .i64 0) := hR.cell 2
    have R3 : w3.cell? ⟨w.heap.size, 3, none⟩ = some (.string ⟨#[]⟩) := hR.cell 3
    have fR0 := hR.frozen 0
    have fR1 := hR.frozen 1
    have fR2 := hR.frozen 2
    have fR3 := hR.frozen 3
    have d1 : ¬ A = w.heap.size := by have := HN.out; omega
    have d2 : ¬ w.heap.size = A := by have := HN.out; omega
    clear hA hR
    go_wp2
    refine bodyPost_ret (v := .agg #[.slice (some ⟨g, 0, none⟩) p.length cap, .int .i64 s, .int .i64 e, .string t]) (by simp [results, Try.results87, go_sem, R0, R1, R2, R3]) rfl ?_
    have h0 := HN.out; have h2 := HL.out
    exact ⟨g, cap, p, s, e, t, rfl, lst_other4 (lst_other HS3.out (by omega) (own_ne (by omega)) _ _) (Nat.le_refl _) (own_ne (by omega)) _ _ _ _, HI.out.1, HI.out.2.1, HI.out.2.2.1, HY.out⟩
  have d3' : (x == 3) = false := by simpa using e3
  have hA := HA2.out
  have hR := HR2.out
  have A0 : w2.cell? ⟨A, 0, none⟩ = some (.slice (some ⟨g, 0, none⟩) p.length cap) := hA.cell 0
  have A1 : w2.cell? ⟨A, 1, none⟩ = some (.int .i64 s) := hA.cell 1
  have A2 : w2.cell? ⟨A, 2, none⟩ = some (.int .i64 e) := hA.cell 2
  have A3 : w2.cell? ⟨A, 3, none⟩ = some (.string n) := hA.cell 3
  have fA0 := hA.frozen 0
  have fA1 := hA.frozen 1
  have fA2 := hA.frozen 2
  have fA3 := hA.frozen 3
  have R0 : w2.cell? ⟨w.heap.size, 0, none⟩ = some (.slice none 0 0) := hR.cell 0
  have R1 : w2.cell? ⟨w.heap.size, 1, none⟩ = some (.int .i64 0) := hR.cell 1
  have R2 : w2.cell? ⟨w.heap.size, 2, none⟩ = some (.int .i64 0) := hR.cell 2
  have R3 : w2.cell? ⟨w.heap.size, 3, none⟩ = some (.string ⟨#[]⟩) := hR.cell 3
  have fR0 := hR.frozen 0
  have fR1 := hR.frozen 1
  have fR2 := hR.frozen 2
  have fR3 := hR.frozen 3
  have d1 : ¬ A = w.heap.size := by have := HN.out; omega
  have d2 : ¬ w.heap.size = A := by have := HN.out; omega
  clear hA hR
  go_wp2
  refine bodyPost_ret (v := .agg #[.slice (some ⟨g, 0, none⟩) p.length cap, .int .i64 s, .int .i64 e, .string n]) (by simp [results, Try.results87, go_sem, R0, R1, R2, R3]) rfl ?_
  have h0 := HN.out; have h2 := HL.out
  exact ⟨g, cap, p, s, e, n, rfl, lst_other4 HS2.out (Nat.le_refl _) (own_ne (by omega)) _ _ _ _, HI.out.1, HI.out.2.1, HI.out.2.2.1, HI.out.2.2.2⟩

theorem reads_kept {c : Nat} {w w' : World} {g : Nat} {p : List Lab} (h : Reads w (some ⟨g, 0, none⟩) p) (hk : Kept c w w') (hne : g ≠ c) : Reads w' (some ⟨g, 0, none⟩) p := by
  rcases h with h | ⟨b, off, e, hlt, hc⟩
  · exact .inl h
  · cases e
    exact .inr ⟨g, 0, rfl, Nat.lt_of_lt_of_le hlt hk.size, fun i hi => by rw [hk.cell (p := ⟨g, 0 + i * 2, none⟩) hlt hne, hk.cell (p := ⟨g, 0 + i * 2 + 1, none⟩) hlt hne]; exact hc i hi⟩

theorem reads_drew {w : World} {a : Option Addr} {p : List Lab} (h : Reads w a p) : Reads w.drew a p := h
theorem reads_set {w : World} {M g : Nat} {p : List Lab} (h : Reads w (some ⟨g, 0, none⟩) p) (hne : g ≠ M) (i : Nat) (v : Value) : Reads (w.setCell ⟨M, i, none⟩ v) (some ⟨g, 0, none⟩) p :=
  reads_kept (c := M) h ((Kept.refl M w).setCell i v) hne
theorem reads_set4 {w : World} {M g : Nat} {p : List Lab} (h : Reads w (some ⟨g, 0, none⟩) p) (hne : g ≠ M) (v0 v1 v2 v3 : Value) : Reads ((((w.setCell ⟨M, 0, none⟩ v0).setCell ⟨M, 1, none⟩ v1).setCell ⟨M, 2, none⟩ v2).setCell ⟨M, 3, none⟩ v3) (some ⟨g, 0, none⟩) p :=
  reads_set (reads_set (reads_set (reads_set h hne _ _) hne _ _) hne _ _) hne _ _
theorem kept_set {c M : Nat} {w W : World} (h : Kept c w W) (hM : w.heap.size ≤ M) (i : Nat) (v : Value) : Kept c w (W.setCell ⟨M, i, none⟩ v) :=
  kept_grown (B := 0) h (grown_set W M i v) (fun k hk => by cases hk; exact hM)
theorem kept_set4 {c M : Nat} {w W : World} (h : Kept c w W) (hM : w.heap.size ≤ M) (v0 v1 v2 v3 : Value) : Kept c w ((((W.setCell ⟨M, 0, none⟩ v0).setCell ⟨M, 1, none⟩ v1).setCell ⟨M, 2, none⟩ v2).setCell ⟨M, 3, none⟩ v3) :=
  kept_set (kept_set (kept_set (kept_set h hM _ _) hM _ _) hM _ _) hM _ _
theorem kept_below {c : Nat} {w W w' : World} (h : Kept c w W) (hb : Below W.heap.size W w') : Kept c w w' :=
  h.trans ⟨hb.os, hb.tape, hb.output, hb.size, fun k hk _ => hb.block k hk⟩
end Go.Proofs.Ytcopckbpflmmeaa.DrawA
