/-
  PROVED: the draws of chapter 10: rows of timers in memory of their own, of at most seventeen; timers, numbers; nothing that was there is changed.
-/
import Derived.Test.YtcjhieknmblbbaaHpX
import Derived.Test.YtcjhieknmblbbaaLawB
namespace Go.Proofs.Ytcjhieknmblbbaa.HpY
open Go.RowKit
open Go.Proofs.Ytcjhieknmblbbaa.Hp Go.Proofs.Ytcjhieknmblbbaa.Tms Go.Proofs.Ytcjhieknmblbbaa.TmO Go.Proofs.Ytcjhieknmblbbaa.TmR Go.Proofs.Ytcjhieknmblbbaa.HpS Go.Proofs.Ytcjhieknmblbbaa.HpD Go.Proofs.Ytcjhieknmblbbaa.HpT Go.Proofs.Ytcjhieknmblbbaa.HpO Go.Proofs.Ytcjhieknmblbbaa.HpW Go.Proofs.Ytcjhieknmblbbaa.HpX Go.Proofs.Ytcjhieknmblbbaa.Over Go.Proofs.Ytcjhieknmblbbaa.Blk Go.Proofs.Ytcjhieknmblbbaa.App Go.Proofs.Ytcjhieknmblbbaa.Draw
set_option linter.unusedVariables false
/-- a drawn row of timers -/
def RT (w w' : World) (M k : Nat) (l : List Tm) : Prop := OT w.heap.size w' M k l ∧ l.length ≤ 17
theorem rt_of {w w1 w' : World} {c M k : Nat} {l : List Tm} (h : DH w1 c w' M k l) (hs : w.heap.size ≤ w1.heap.size) (hl : l.length ≤ 17) : RT w w' M k l := ⟨h.row.down hs, hl⟩
theorem ot_other {lo M k R : Nat} {w : World} {l : List Tm} (h : OT lo w M k l) (hR : R ≠ M) (i : Nat) (v : Value) : OT lo (w.setCell ⟨R, i, none⟩ v) M k l :=
  ⟨h.lo, h.le, h.cap, by obtain ⟨cs, h1, h2⟩ := h.row; exact ⟨cs, h1.set_other (p := ⟨R, i, none⟩) hR v, h2⟩⟩
theorem below_new {B R : Nat} {w w' : World} (h : Below B w w') (hR : B ≤ R) (i : Nat) (v : Value) : Below B w (w'.setCell ⟨R, i, none⟩ v) := h.setCell (p := ⟨R, i, none⟩) hR v
theorem retR {M k : Nat} {l : List Tm} {x : Tm} : Ending.returned (.tuple #[.slice (some ⟨M, 0, none⟩) l.length k, .agg #[.int .i64 x.1, .int .i64 x.2]]) = .returned (.tuple #[.slice (some ⟨M, 0, none⟩) l.length k, .agg #[.int .i64 x.1, .int .i64 x.2]]) := rfl
set_option maxRecDepth 100000 in
set_option maxHeartbeats 1600000 in
theorem drawHeapOk_any (a : Option Addr) (len cap : Nat) (w : World) (hl : len ≤ maxLen) (hb : Bytes w a len w.heap.size) :
    Calls Try.prog 22 #[.slice a len cap] w fun e w' => (∃ (M k : Nat) (l : List Tm), e = .returned (.slice (some ⟨M, 0, none⟩) l.length k) ∧ RT w w' M k l) ∧ Below w.heap.size w w' := by
  have HB : Hid (Bytes w a len w.heap.size) := hb
  have HL : Hid (len ≤ maxLen) := hl
  clear hb hl
  go_enter Try.func22, Try.ntmps22
  go_wp2_with fail
  refine (new_any a len cap _ HL.out HB.out).mono ?_
  rintro r w1 ⟨rfl, hc1, hb1⟩
  have HC1 : Hid (Cur w1 w.heap.size) := by exact hc1
  have HB1 : Hid (Below w.heap.size w w1) := hb1
  have HC0 : Hid (w.heap.size ≤ w1.heap.size) := hb1.size
  clear hc1 hb1
  go_wp2_with fail
  refine (l10Any_any w.heap.size _ HC1.out).mono ?_
  rintro r w2 ⟨M, k, l, rfl, hd, hl⟩
  have HD : Hid (DH w1 w.heap.size w2 M k l) := hd
  have HLL : Hid (l.length ≤ 17) := hl
  clear hd hl
  go_wp2
  go_ret
  exact ⟨⟨M, k, l, rfl, rt_of HD.out HC0.out HLL.out⟩, HB1.out.trans (HD.out.kept.below (Nat.le_refl _) HC0.out)⟩
set_option maxRecDepth 100000 in
set_option maxHeartbeats 1600000 in
theorem drawHeapTake_any (a : Option Addr) (len cap : Nat) (w : World) (hl : len ≤ maxLen) (hb : Bytes w a len w.heap.size) :
    Calls Try.prog 19 #[.slice a len cap] w fun e w' => (∃ (M k : Nat) (l : List Tm), e = .returned (.slice (some ⟨M, 0, none⟩) l.length k) ∧ RT w w' M k l) ∧ Below w.heap.size w w' := by
  have HB : Hid (Bytes w a len w.heap.size) := hb
  have HL : Hid (len ≤ maxLen) := hl
  clear hb hl
  go_enter Try.func19, Try.ntmps19
  go_wp2_with fail
  refine (new_any a len cap _ HL.out HB.out).mono ?_
  rintro r w1 ⟨rfl, hc1, hb1⟩
  have HC1 : Hid (Cur w1 w.heap.size) := by exact hc1
  have HB1 : Hid (Below w.heap.size w w1) := hb1
  have HC0 : Hid (w.heap.size ≤ w1.heap.size) := hb1.size
  clear hc1 hb1
  go_wp2_with fail
  refine (l10Any_any w.heap.size _ HC1.out).mono ?_
  rintro r w2 ⟨M, k, l, rfl, hd, hl⟩
  have HD : Hid (DH w1 w.heap.size w2 M k l) := hd
  have HLL : Hid (l.length ≤ 17) := hl
  clear hd hl
  go_wp2
  go_ret
  exact ⟨⟨M, k, l, rfl, rt_of HD.out HC0.out HLL.out⟩, HB1.out.trans (HD.out.kept.below (Nat.le_refl _) HC0.out)⟩
set_option maxRecDepth 100000 in
set_option maxHeartbeats 1600000 in
theorem drawSorted_any (a : Option Addr) (len cap : Nat) (w : World) (hl : len ≤ maxLen) (hb : Bytes w a len w.heap.size) :
    Calls Try.prog 23 #[.slice a len cap] w fun e w' => (∃ (M k : Nat) (l : List Tm), e = .returned (.slice (some ⟨M, 0, none⟩) l.length k) ∧ RT w w' M k l) ∧ Below w.heap.size w w' := by
  have HB : Hid (Bytes w a len w.heap.size) := hb
  have HL : Hid (len ≤ maxLen) := hl
  clear hb hl
  go_enter Try.func23, Try.ntmps23
  go_wp2_with fail
  refine (new_any a len cap _ HL.out HB.out).mono ?_
  rintro r w1 ⟨rfl, hc1, hb1⟩
  have HC1 : Hid (Cur w1 w.heap.size) := by exact hc1
  have HB1 : Hid (Below w.heap.size w w1) := hb1
  have HC0 : Hid (w.heap.size ≤ w1.heap.size) := hb1.size
  clear hc1 hb1
  go_wp2_with fail
  refine (l10Any_any w.heap.size _ HC1.out).mono ?_
  rintro r w2 ⟨M, k, l, rfl, hd, hl⟩
  have HD : Hid (DH w1 w.heap.size w2 M k l) := hd
  have HLL : Hid (l.length ≤ 17) := hl
  clear hd hl
  go_wp2
  go_ret
  exact ⟨⟨M, k, l, rfl, rt_of HD.out HC0.out HLL.out⟩, HB1.out.trans (HD.out.kept.below (Nat.le_refl _) HC0.out)⟩
set_option maxRecDepth 100000 in
set_option maxHeartbeats 1600000 in
theorem drawHeapDrop_any (a : Option Addr) (len cap : Nat) (w : World) (hl : len ≤ maxLen) (hb : Bytes w a len w.heap.size) :
    Calls Try.prog 21 #[.slice a len cap] w fun e w' => (∃ (M k : Nat) (l : List Tm) (n : Int), e = .returned (.tuple #[.slice (some ⟨M, 0, none⟩) l.length k, .int .i64 n]) ∧ RT w w' M k l) ∧ Below w.heap.size w w' := by
  have HB : Hid (Bytes w a len w.heap.size) := hb
  have HL : Hid (len ≤ maxLen) := hl
  clear hb hl
  go_enter Try.func21, Try.ntmps21
  go_wp2_with fail
  refine (new_any a len cap _ HL.out HB.out).mono ?_
  rintro r w1 ⟨rfl, hc1, hb1⟩
  have HC1 : Hid (Cur w1 w.heap.size) := by exact hc1
  have HB1 : Hid (Below w.heap.size w w1) := hb1
  have HC0 : Hid (w.heap.size ≤ w1.heap.size) := hb1.size
  clear hc1 hb1
  go_wp2_with fail
  refine (l10Any_any w.heap.size _ HC1.out).mono ?_
  rintro r w2 ⟨M, k, l, rfl, hd, hl⟩
  have HD : Hid (DH w1 w.heap.size w2 M k l) := hd
  have HLL : Hid (l.length ≤ 17) := hl
  clear hd hl
  go_wp2_with fail
  refine (below_any w.heap.size 9 _ HD.out.cur (by decide) (by decide)).mono ?_
  rintro r w3 ⟨⟨n, rfl, hn0, hn1⟩, hc3, hk3⟩
  have HD3 : Hid (DH w1 w.heap.size w3 M k l) := dh_hold HD.out hc3 hk3
  clear hc3 hk3 hn0 hn1
  go_wp2
  go_ret2
  exact ⟨⟨M, k, l, n, rfl, rt_of HD3.out HC0.out HLL.out⟩, HB1.out.trans (HD3.out.kept.below (Nat.le_refl _) HC0.out)⟩
set_option maxRecDepth 100000 in
set_option maxHeartbeats 1600000 in
theorem drawHeapPut_any (a : Option Addr) (len cap : Nat) (w : World) (hl : len ≤ maxLen) (hb : Bytes w a len w.heap.size) :
    Calls Try.prog 18 #[.slice a len cap] w fun e w' => (∃ (M k : Nat) (l : List Tm) (x : Tm), e = .returned (.tuple #[.slice (some ⟨M, 0, none⟩) l.length k, .agg #[.int .i64 x.1, .int .i64 x.2]]) ∧ RT w w' M k l) ∧ Below w.heap.size w w' := by
  have HB : Hid (Bytes w a len w.heap.size) := hb
  have HL : Hid (len ≤ maxLen) := hl
  clear hb hl
  go_enter Try.func18, Try.ntmps18
  go_wp2_with fail
  refine (new_any a len cap _ HL.out (LawB.bytes_up HB.out (Go.Joins.below_alloc1 w _))).mono ?_
  rintro r w1 ⟨rfl, hc1, hb1⟩
  have HC1 : Hid (Cur w1 (w.heap.size + 1)) := by simp at hc1; exact hc1
  have HB1 : Hid (Below w.heap.size w w1) := grow_on (Go.Joins.below_alloc1 w _) hb1
  have HR1 : Hid (Blk w1 w.heap.size #[.int .i64 0, .int .i64 0] 26) := ((Blk.new _ _ _)).grow hb1
  have HC0 : Hid (w.heap.size + 1 ≤ w1.heap.size) := by have := hc1.lt; have := hb1.size; simp at this; unfold Hid; omega
  clear hc1 hb1
  go_wp2_with fail
  refine (l10Any_any (w.heap.size + 1) _ HC1.out).mono ?_
  rintro r w2 ⟨M, k, l, rfl, hd, hl⟩
  have HD : Hid (DH w1 (w.heap.size + 1) w2 M k l) := hd
  have HLL : Hid (l.length ≤ 17) := hl
  clear hd hl
  go_wp2_with fail
  refine (l10Timer_any (w.heap.size + 1) _ HD.out.cur).mono ?_
  rintro r w3 ⟨⟨x, rfl, hx⟩, hc3, hk3⟩
  have HX : Hid (Small x) := hx
  have HD3 : Hid (DH w1 (w.heap.size + 1) w3 M k l) := dh_hold HD.out hc3 hk3
  have hR := blk_hold HR1.out HD3.out.kept (by omega)
  have HR3 : Hid (Blk w3 w.heap.size #[.int .i64 0, .int .i64 0] 26) := hR
  have z0 : w3.cell? ⟨w.heap.size, 0, none⟩ = some (.int .i64 0) := hR.cell 0
  have z1 : w3.cell? ⟨w.heap.size, 1, none⟩ = some (.int .i64 0) := hR.cell 1
  have f0 := hR.frozen 0
  have f1 := hR.frozen 1
  clear hc3 hk3 hx hR HD
  go_wp2
  have hs : Blk ((w3.setCell ⟨w.heap.size, 0, none⟩ (.int .i64 x.1)).setCell ⟨w.heap.size, 1, none⟩ (.int .i64 x.2)) w.heap.size #[.int .i64 x.1, .int .i64 x.2] 26 := (HR3.out.set 0 _).set 1 _
  have r0 := hs.cell 0
  have r1 := hs.cell 1
  refine bodyPost_ret (v := .tuple #[.slice (some ⟨M, 0, none⟩) l.length k, .agg #[.int .i64 x.1, .int .i64 x.2]]) (by simp [results, Try.results18, go_sem, r0, r1]) rfl ?_
  have hne : w.heap.size ≠ M := by have := HD3.out.row.lo; have := HC0.out; omega
  exact ⟨⟨M, k, l, x, rfl, ⟨ot_other (ot_other (HD3.out.row.down (by have := HC0.out; omega)) hne _ _) hne _ _, HLL.out⟩⟩, below_new (below_new (HB1.out.trans (HD3.out.kept.below (by omega) (by have := HC0.out; omega))) (Nat.le_refl _) _ _) (Nat.le_refl _) _ _⟩
set_option maxRecDepth 100000 in
set_option maxHeartbeats 1600000 in
theorem drawHeap_any (a : Option Addr) (len cap : Nat) (w : World) (hl : len ≤ maxLen) (hb : Bytes w a len w.heap.size) :
    Calls Try.prog 10 #[.slice a len cap] w fun e w' => (∃ (M k : Nat) (l : List Tm) (x : Tm), e = .returned (.tuple #[.slice (some ⟨M, 0, none⟩) l.length k, .agg #[.int .i64 x.1, .int .i64 x.2]]) ∧ RT w w' M k l ∧ Heap l ∧ Smalls l ∧ l.length ≤ 8 ∧ Small x) ∧ Below w.heap.size w w' := by
  have HB : Hid (Bytes w a len w.heap.size) := hb
  have HL : Hid (len ≤ maxLen) := hl
  clear hb hl
  go_enter Try.func10, Try.ntmps10
  go_wp2_with fail
  refine (new_any a len cap _ HL.out (LawB.bytes_up HB.out (Go.Joins.below_alloc1 w _))).mono ?_
  rintro r w1 ⟨rfl, hc1, hb1⟩
  have HC1 : Hid (Cur w1 (w.heap.size + 1)) := by simp at hc1; exact hc1
  have HB1 : Hid (Below w.heap.size w w1) := grow_on (Go.Joins.below_alloc1 w _) hb1
  have HR1 : Hid (Blk w1 w.heap.size #[.int .i64 0, .int .i64 0] 26) := ((Blk.new _ _ _)).grow hb1
  have HC0 : Hid (w.heap.size + 1 ≤ w1.heap.size) := by have := hc1.lt; have := hb1.size; simp at this; unfold Hid; omega
  clear hc1 hb1
  go_wp2_with fail
  refine (l10Draw_any (w.heap.size + 1) _ HC1.out).mono ?_
  rintro r w2 ⟨M, k, l, rfl, hd, hh, hs, hl⟩
  have HD : Hid (DH w1 (w.heap.size + 1) w2 M k l) := hd
  have HLL : Hid (Heap l ∧ Smalls l ∧ l.length ≤ 8) := ⟨hh, hs, hl⟩
  clear hd hl hh hs
  go_wp2_with fail
  refine (l10Timer_any (w.heap.size + 1) _ HD.out.cur).mono ?_
  rintro r w3 ⟨⟨x, rfl, hx⟩, hc3, hk3⟩
  have HX : Hid (Small x) := hx
  have HD3 : Hid (DH w1 (w.heap.size + 1) w3 M k l) := dh_hold HD.out hc3 hk3
  have hR := blk_hold HR1.out HD3.out.kept (by omega)
  have HR3 : Hid (Blk w3 w.heap.size #[.int .i64 0, .int .i64 0] 26) := hR
  have z0 : w3.cell? ⟨w.heap.size, 0, none⟩ = some (.int .i64 0) := hR.cell 0
  have z1 : w3.cell? ⟨w.heap.size, 1, none⟩ = some (.int .i64 0) := hR.cell 1
  have f0 := hR.frozen 0
  have f1 := hR.frozen 1
  clear hc3 hk3 hx hR HD
  go_wp2
  have hs : Blk ((w3.setCell ⟨w.heap.size, 0, none⟩ (.int .i64 x.1)).setCell ⟨w.heap.size, 1, none⟩ (.int .i64 x.2)) w.heap.size #[.int .i64 x.1, .int .i64 x.2] 26 := (HR3.out.set 0 _).set 1 _
  have r0 := hs.cell 0
  have r1 := hs.cell 1
  refine bodyPost_ret (v := .tuple #[.slice (some ⟨M, 0, none⟩) l.length k, .agg #[.int .i64 x.1, .int .i64 x.2]]) (by simp [results, Try.results10, go_sem, r0, r1]) rfl ?_
  have hne : w.heap.size ≠ M := by have := HD3.out.row.lo; have := HC0.out; omega
  exact ⟨⟨M, k, l, x, rfl, ⟨ot_other (ot_other (HD3.out.row.down (by have := HC0.out; omega)) hne _ _) hne _ _, by have := HLL.out.2.2; omega⟩, HLL.out.1, HLL.out.2.1, HLL.out.2.2, HX.out⟩, below_new (below_new (HB1.out.trans (HD3.out.kept.below (by omega) (by have := HC0.out; omega))) (Nat.le_refl _) _ _) (Nat.le_refl _) _ _⟩
set_option maxRecDepth 100000 in
set_option maxHeartbeats 1600000 in
theorem drawBefore_any (a : Option Addr) (len cap : Nat) (w : World) (hl : len ≤ maxLen) (hb : Bytes w a len w.heap.size) :
    Calls Try.prog 24 #[.slice a len cap] w fun e w' => (∃ (x y : Tm), e = .returned (.tuple #[.agg #[.int .i64 x.1, .int .i64 x.2], .agg #[.int .i64 y.1, .int .i64 y.2]])) ∧ Below w.heap.size w w' := by
  have HB : Hid (Bytes w a len w.heap.size) := hb
  have HL : Hid (len ≤ maxLen) := hl
  clear hb hl
  go_enter Try.func24, Try.ntmps24
  go_wp2_with fail
  refine (new_any a len cap _ HL.out (LawB.bytes_up HB.out (Go.Joins.below_alloc2 w _ _))).mono ?_
  rintro r w1 ⟨rfl, hc1, hb1⟩
  have HC1 : Hid (Cur w1 (w.heap.size + 2)) := by simp at hc1; exact hc1
  have HB1 : Hid (Below w.heap.size w w1) := grow_on (Go.Joins.below_alloc2 w _ _) hb1
  have HR1 : Hid (Blk w1 w.heap.size #[.int .i64 0, .int .i64 0] 26) := (((Blk.new _ _ _).alloc _)).grow hb1
  have HS1 : Hid (Blk w1 (w.heap.size + 1) #[.int .i64 0, .int .i64 0] 26) := (Blk.new_at (by simp)).grow hb1
  have HC0 : Hid (w.heap.size + 2 ≤ w1.heap.size) := by have := hc1.lt; have := hb1.size; simp at this; unfold Hid; omega
  clear hc1 hb1
  go_wp2_with fail
  refine (l10Timer_any (w.heap.size + 2) _ HC1.out).mono ?_
  rintro r w2 ⟨⟨x, rfl, hx⟩, hc2, hk2⟩
  have H2 : Hid (Cur w2 (w.heap.size + 2) ∧ Kept (w.heap.size + 2) w1 w2) := ⟨hc2, hk2⟩
  clear hc2 hk2 hx
  go_wp2_with fail
  refine (l10Timer_any (w.heap.size + 2) _ (H2.out.1.alloc _)).mono ?_
  rintro r w3 ⟨⟨y, rfl, hy⟩, hc3, hk3⟩
  have H3 : Hid (Cur w3 (w.heap.size + 2) ∧ Kept (w.heap.size + 2) w1 w3 ∧ Blk w3 w2.heap.size #[.int .i64 x.1, .int .i64 x.2] 26 ∧ w1.heap.size ≤ w2.heap.size) := ⟨hc3, (H2.out.2.alloc _).trans hk3, blk_hold (Blk.new _ _ _) hk3 (by have := H2.out.1.lt; omega), H2.out.2.size⟩
  clear hc3 hk3 hy H2
  go_wp2_with fail
  refine (once_any (w.heap.size + 2) 2 _ (H3.out.1.alloc _) (by decide) (by decide)).mono ?_
  rintro r w4 ⟨⟨b, rfl⟩, hc4, hk4⟩
  have hA : Blk w4 w2.heap.size #[.int .i64 x.1, .int .i64 x.2] 26 := blk_hold (H3.out.2.2.1.alloc _) hk4 (by have := H3.out.2.2.2; have := HC1.out.lt; omega)
  have hY : Blk w4 w3.heap.size #[.int .i64 y.1, .int .i64 y.2] 26 := blk_hold (Blk.new _ _ _) hk4 (by have := H3.out.1.lt; omega)
  have hK : Kept (w.heap.size + 2) w1 w4 := (H3.out.2.1.alloc _).trans hk4
  have hR := blk_hold HR1.out hK (by omega)
  have hS := blk_hold HS1.out hK (by omega)
  have hlt : w2.heap.size < w3.heap.size := H3.out.2.2.1.lt
  have hlo : w.heap.size + 2 ≤ w2.heap.size := by have := H3.out.2.2.2; have := HC0.out; omega
  have H4 : Hid (Kept (w.heap.size + 2) w1 w4 ∧ Blk w4 w2.heap.size #[.int .i64 x.1, .int .i64 x.2] 26 ∧ Blk w4 w3.heap.size #[.int .i64 y.1, .int .i64 y.2] 26 ∧ Blk w4 w.heap.size #[.int .i64 0, .int .i64 0] 26 ∧ Blk w4 (w.heap.size + 1) #[.int .i64 0, .int .i64 0] 26) := ⟨hK, hA, hY, hR, hS⟩
  have a0 : w4.cell? ⟨w2.heap.size, 0, none⟩ = some (.int .i64 x.1) := hA.cell 0
  have a1 : w4.cell? ⟨w2.heap.size, 1, none⟩ = some (.int .i64 x.2) := hA.cell 1
  have y0 : w4.cell? ⟨w3.heap.size, 0, none⟩ = some (.int .i64 y.1) := hY.cell 0
  have y1 : w4.cell? ⟨w3.heap.size, 1, none⟩ = some (.int .i64 y.2) := hY.cell 1
  have z0 : w4.cell? ⟨w.heap.size, 0, none⟩ = some (.int .i64 0) := hR.cell 0
  have z1 : w4.cell? ⟨w.heap.size, 1, none⟩ = some (.int .i64 0) := hR.cell 1
  have s0 : w4.cell? ⟨w.heap.size + 1, 0, none⟩ = some (.int .i64 0) := hS.cell 0
  have s1 : w4.cell? ⟨w.heap.size + 1, 1, none⟩ = some (.int .i64 0) := hS.cell 1
  have fy0 := hY.frozen 0
  have fz0 := hR.frozen 0
  have fz1 := hR.frozen 1
  have fs0 := hS.frozen 0
  have fs1 := hS.frozen 1
  have n1 : w2.heap.size ≠ w3.heap.size := by omega
  have n2 : w.heap.size ≠ w2.heap.size := by omega
  have n3 : w.heap.size ≠ w3.heap.size := by omega
  have n4 : w.heap.size + 1 ≠ w2.heap.size := by omega
  have n5 : w.heap.size + 1 ≠ w3.heap.size := by omega
  clear hA hY hK hR hS hk4 hc4
  
  cases b with
  | false =>
    have FR := H4.out.2.2.2.1
    have FS := H4.out.2.2.2.2
    have FB : Below w.heap.size w w4 := HB1.out.trans (H4.out.1.below (by omega) (by have := HC0.out; omega))
    clear H4
    go_upto_region 6 with fail
    go_region
    go_wp2_with fail
    have hs : Blk ((((w4.setCell ⟨w.heap.size, 0, none⟩ (.int .i64 x.1)).setCell ⟨w.heap.size, 1, none⟩ (.int .i64 x.2)).setCell ⟨w.heap.size + 1, 0, none⟩ (.int .i64 y.1)).setCell ⟨w.heap.size + 1, 1, none⟩ (.int .i64 y.2)).drew w.heap.size #[.int .i64 x.1, .int .i64 x.2] 26 := ((((FR.set 0 _).set 1 _).set_other (p := ⟨w.heap.size + 1, 0, none⟩) (show w.heap.size + 1 ≠ w.heap.size by omega) _).set_other (p := ⟨w.heap.size + 1, 1, none⟩) (show w.heap.size + 1 ≠ w.heap.size by omega) _).drew
    have ht : Blk ((((w4.setCell ⟨w.heap.size, 0, none⟩ (.int .i64 x.1)).setCell ⟨w.heap.size, 1, none⟩ (.int .i64 x.2)).setCell ⟨w.heap.size + 1, 0, none⟩ (.int .i64 y.1)).setCell ⟨w.heap.size + 1, 1, none⟩ (.int .i64 y.2)).drew (w.heap.size + 1) #[.int .i64 y.1, .int .i64 y.2] 26 := ((((FS.set_other (p := ⟨w.heap.size, 0, none⟩) (show w.heap.size ≠ w.heap.size + 1 by omega) _).set_other (p := ⟨w.heap.size, 1, none⟩) (show w.heap.size ≠ w.heap.size + 1 by omega) _).set 0 _).set 1 _).drew
    have r0 := hs.cell 0
    have r1 := hs.cell 1
    have t0 := ht.cell 0
    have t1 := ht.cell 1
    refine bodyPost_ret (v := .tuple #[.agg #[.int .i64 x.1, .int .i64 x.2], .agg #[.int .i64 y.1, .int .i64 y.2]]) (by simp [results, Try.results24, go_sem, r0, r1, t0, t1]) rfl ?_
    exact ⟨⟨x, (y.1, y.2), rfl⟩, (below_new (below_new (below_new (below_new FB (Nat.le_refl _) _ _) (Nat.le_refl _) _ _) (Nat.le_succ _) _ _) (Nat.le_succ _) _ _).drew⟩
  | true =>
    go_upto_region 6 with fail
    generalize hW : w4.setCell ⟨w3.heap.size, 0, none⟩ (.int .i64 x.1) = w5
    have hA : Blk w5 w2.heap.size #[.int .i64 x.1, .int .i64 x.2] 26 := by rw [← hW]; exact H4.out.2.1.set_other (p := ⟨w3.heap.size, 0, none⟩) (show w3.heap.size ≠ w2.heap.size by omega) _
    have hY : Blk w5 w3.heap.size #[.int .i64 x.1, .int .i64 y.2] 26 := by rw [← hW]; exact H4.out.2.2.1.set 0 _
    have FR : Blk w5 w.heap.size #[.int .i64 0, .int .i64 0] 26 := by rw [← hW]; exact H4.out.2.2.2.1.set_other (p := ⟨w3.heap.size, 0, none⟩) (show w3.heap.size ≠ w.heap.size by omega) _
    have FS : Blk w5 (w.heap.size + 1) #[.int .i64 0, .int .i64 0] 26 := by rw [← hW]; exact H4.out.2.2.2.2.set_other (p := ⟨w3.heap.size, 0, none⟩) (show w3.heap.size ≠ w.heap.size + 1 by omega) _
    have FB : Below w.heap.size w w5 := by rw [← hW]; exact below_new (HB1.out.trans (H4.out.1.below (by omega) (by have := HC0.out; omega))) (by omega) _ _
    clear hW H4 a0 a1 y0 y1 z0 z1 s0 s1 fy0 fz0 fz1 fs0 fs1
    have a0 : w5.cell? ⟨w2.heap.size, 0, none⟩ = some (.int .i64 x.1) := hA.cell 0
    have a1 : w5.cell? ⟨w2.heap.size, 1, none⟩ = some (.int .i64 x.2) := hA.cell 1
    have y0 : w5.cell? ⟨w3.heap.size, 0, none⟩ = some (.int .i64 x.1) := hY.cell 0
    have y1 : w5.cell? ⟨w3.heap.size, 1, none⟩ = some (.int .i64 y.2) := hY.cell 1
    have z0 : w5.cell? ⟨w.heap.size, 0, none⟩ = some (.int .i64 0) := FR.cell 0
    have z1 : w5.cell? ⟨w.heap.size, 1, none⟩ = some (.int .i64 0) := FR.cell 1
    have s0 : w5.cell? ⟨w.heap.size + 1, 0, none⟩ = some (.int .i64 0) := FS.cell 0
    have s1 : w5.cell? ⟨w.heap.size + 1, 1, none⟩ = some (.int .i64 0) := FS.cell 1
    have fz0 := FR.frozen 0
    have fz1 := FR.frozen 1
    have fs0 := FS.frozen 0
    have fs1 := FS.frozen 1
    go_upto_region 6 with fail
    go_region
    go_wp2_with fail
    have hs : Blk ((((w5.setCell ⟨w.heap.size, 0, none⟩ (.int .i64 x.1)).setCell ⟨w.heap.size, 1, none⟩ (.int .i64 x.2)).setCell ⟨w.heap.size + 1, 0, none⟩ (.int .i64 x.1)).setCell ⟨w.heap.size + 1, 1, none⟩ (.int .i64 y.2)).drew w.heap.size #[.int .i64 x.1, .int .i64 x.2] 26 := ((((FR.set 0 _).set 1 _).set_other (p := ⟨w.heap.size + 1, 0, none⟩) (show w.heap.size + 1 ≠ w.heap.size by omega) _).set_other (p := ⟨w.heap.size + 1, 1, none⟩) (show w.heap.size + 1 ≠ w.heap.size by omega) _).drew
    have ht : Blk ((((w5.setCell ⟨w.heap.size, 0, none⟩ (.int .i64 x.1)).setCell ⟨w.heap.size, 1, none⟩ (.int .i64 x.2)).setCell ⟨w.heap.size + 1, 0, none⟩ (.int .i64 x.1)).setCell ⟨w.heap.size + 1, 1, none⟩ (.int .i64 y.2)).drew (w.heap.size + 1) #[.int .i64 x.1, .int .i64 y.2] 26 := ((((FS.set_other (p := ⟨w.heap.size, 0, none⟩) (show w.heap.size ≠ w.heap.size + 1 by omega) _).set_other (p := ⟨w.heap.size, 1, none⟩) (show w.heap.size ≠ w.heap.size + 1 by omega) _).set 0 _).set 1 _).drew
    have r0 := hs.cell 0
    have r1 := hs.cell 1
    have t0 := ht.cell 0
    have t1 := ht.cell 1
    refine bodyPost_ret (v := .tuple #[.agg #[.int .i64 x.1, .int .i64 x.2], .agg #[.int .i64 x.1, .int .i64 y.2]]) (by simp [results, Try.results24, go_sem, r0, r1, t0, t1]) rfl ?_
    exact ⟨⟨x, (x.1, y.2), rfl⟩, (below_new (below_new (below_new (below_new FB (Nat.le_refl _) _ _) (Nat.le_refl _) _ _) (Nat.le_succ _) _ _) (Nat.le_succ _) _ _).drew⟩
end Go.Proofs.Ytcjhieknmblbbaa.HpY
