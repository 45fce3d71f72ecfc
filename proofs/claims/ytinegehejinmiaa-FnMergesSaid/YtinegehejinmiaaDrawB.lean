/-
  PROVED: the contracts of the draws of alarms that FnMerges and FnAlarms begin with: alarms with a few small labels in memory of their own; nothing that was there is changed.
-/
import Derived.Test.YtinegehejinmiaaDrawA
import Derived.Test.YtinegehejinmiaaLawB
namespace Go.Proofs.Ytinegehejinmiaa.DrawB
open Go.RowKit
open Go.Proofs.Ytinegehejinmiaa.Draw
open Go.Proofs.Ytinegehejinmiaa.Labs Go.Proofs.Ytinegehejinmiaa.LabS Go.Proofs.Ytinegehejinmiaa.LabR Go.Proofs.Ytinegehejinmiaa.Over Go.Proofs.Ytinegehejinmiaa.Blk Go.Proofs.Ytinegehejinmiaa.App Go.Proofs.Ytinegehejinmiaa.DrawL Go.Proofs.Ytinegehejinmiaa.DrawT Go.Proofs.Ytinegehejinmiaa.Alm Go.Proofs.Ytinegehejinmiaa.AlmM Go.Proofs.Ytinegehejinmiaa.DrawA
open Go.Proofs.Ytinegehejinmiaa.LabT (infoL Held held_reads)
set_option linter.unusedVariables false

/-- an alarm that was drawn -/
structure Drawn (w : World) (g : Nat) (p : List Lab) (s e : Int) (n : ByteArray) : Prop where
  reads : Reads w (some ⟨g, 0, none⟩) p
  few : p.length ≤ 8
  small : Small p
  sb : I64 s
  eb : I64 e
  note : n.size ≤ 100
theorem Drawn.below {w w' : World} {g : Nat} {p : List Lab} {s e : Int} {n : ByteArray} (h : Drawn w g p s e n) (hb : Below w.heap.size w w') : Drawn w' g p s e n :=
  ⟨h.reads.below hb, h.few, h.small, h.sb, h.eb, h.note⟩
theorem Drawn.al {w : World} {g : Nat} {p : List Lab} {s e : Int} {n : ByteArray} (h : Drawn w g p s e n) : AlIn w (some ⟨g, 0, none⟩) p s e n :=
  ⟨h.reads, by have := h.few; unfold maxLen; omega, small_fits h.small, h.sb, h.eb, by have := h.note; unfold maxLen; omega⟩
theorem Drawn.len {w : World} {g : Nat} {p : List Lab} {s e : Int} {n : ByteArray} (h : Drawn w g p s e n) : p.length ≤ maxLen := h.al.len
theorem Drawn.mid {w : World} {g : Nat} {p : List Lab} {s e : Int} {n : ByteArray} (h : Drawn w g p s e n) : p.length ≤ 1048576 := by have := h.few; omega

set_option maxRecDepth 100000 in
set_option maxHeartbeats 1600000 in
theorem drawMerge_any (a : Option Addr) (len cap : Nat) (w : World) (hl : len ≤ maxLen) (hb : Bytes w a len w.heap.size) :
    Calls Try.prog 42 #[.slice a len cap] w fun r w' => (∃ (g cap : Nat) (p : List Lab) (s e : Int) (n : ByteArray) (g' cap' : Nat) (q : List Lab) (s' e' : Int) (n' : ByteArray), r = .returned (.tuple #[.agg #[.slice (some ⟨g, 0, none⟩) p.length cap, .int .i64 s, .int .i64 e, .string n], .agg #[.slice (some ⟨g', 0, none⟩) q.length cap', .int .i64 s', .int .i64 e', .string n']]) ∧ Drawn w' g p s e n ∧ Drawn w' g' q s' e' n') ∧ Below w.heap.size w w' := by
  have HB : Hid (Bytes w a len w.heap.size) := hb
  have HL : Hid (len ≤ maxLen) := hl
  clear hb hl
  go_enter Try.func42, Try.ntmps42
  go_wp2_with fail
  refine (new_any a len cap _ HL.out (LawB.bytes_up HB.out (Go.Joins.below_alloc2 w _ _))).mono ?_
  rintro r w1 ⟨rfl, hc1, hb1⟩
  have HC1 : Hid (Cur w1 (w.heap.size + 2)) := by simp at hc1; exact hc1
  have HR1 : Hid (Blk w1 w.heap.size #[.slice none 0 0, .int .i64 0, .int .i64 0, .string ⟨#[]⟩] 49) := ((Blk.new _ _ _).alloc _).grow hb1
  have HV1 : Hid (Blk w1 (w.heap.size + 1) #[.slice none 0 0, .int .i64 0, .int .i64 0, .string ⟨#[]⟩] 49) := (Blk.new_at (by simp)).grow hb1
  have HB1 : Hid (Below w.heap.size w w1) := grow_on (Go.Joins.below_alloc2 w _ _) hb1
  have HN1 : Hid (w.heap.size + 2 < w1.heap.size) := HC1.out.lt
  clear hc1 hb1
  go_wp2_with fail
  refine (l4Pair_any (w.heap.size + 2) _ HC1.out).mono ?_
  rintro r w2 ⟨⟨g, c1, p, s, e, n, g', c2, q, s', e', n', rfl, hr, hr', hp, hq, hg, hg'⟩, hk⟩
  have HG : Hid (w.heap.size + 2 < g ∧ w.heap.size + 2 < g') := ⟨Nat.lt_of_lt_of_le HN1.out hg, Nat.lt_of_lt_of_le HN1.out hg'⟩
  have HP : Hid (Reads w2 (some ⟨g, 0, none⟩) p ∧ Reads w2 (some ⟨g', 0, none⟩) q) := ⟨hr, hr'⟩
  have HI : Hid (p.length ≤ 8 ∧ Small p ∧ I64 s ∧ I64 e ∧ n.size ≤ 100) := hp
  have HJ : Hid (q.length ≤ 8 ∧ Small q ∧ I64 s' ∧ I64 e' ∧ n'.size ≤ 100) := hq
  have HB2 : Hid (Below w.heap.size w w2) := HB1.out.trans (hk.below (by omega) HB1.out.size)
  have hR := blk_kept HR1.out hk (by omega)
  have hV := blk_kept HV1.out hk (by omega)
  have R0 : w2.cell? ⟨w.heap.size, 0, none⟩ = some (.slice none 0 0) := hR.cell 0
  have R1 : w2.cell? ⟨w.heap.size, 1, none⟩ = some (.int .i64 0) := hR.cell 1
  have R2 : w2.cell? ⟨w.heap.size, 2, none⟩ = some (.int .i64 0) := hR.cell 2
  have R3 : w2.cell? ⟨w.heap.size, 3, none⟩ = some (.string ⟨#[]⟩) := hR.cell 3
  have fR0 := hR.frozen 0
  have fR1 := hR.frozen 1
  have fR2 := hR.frozen 2
  have fR3 := hR.frozen 3
  have V0 : w2.cell? ⟨w.heap.size + 1, 0, none⟩ = some (.slice none 0 0) := hV.cell 0
  have V1 : w2.cell? ⟨w.heap.size + 1, 1, none⟩ = some (.int .i64 0) := hV.cell 1
  have V2 : w2.cell? ⟨w.heap.size + 1, 2, none⟩ = some (.int .i64 0) := hV.cell 2
  have V3 : w2.cell? ⟨w.heap.size + 1, 3, none⟩ = some (.string ⟨#[]⟩) := hV.cell 3
  have fV0 := hV.frozen 0
  have fV1 := hV.frozen 1
  have fV2 := hV.frozen 2
  have fV3 := hV.frozen 3
  clear hr hr' hp hq hg hg' hk hR hV HR1 HV1 HC1
  go_wp2
  refine bodyPost_ret (v := .tuple #[.agg #[.slice (some ⟨g, 0, none⟩) p.length c1, .int .i64 s, .int .i64 e, .string n], .agg #[.slice (some ⟨g', 0, none⟩) q.length c2, .int .i64 s', .int .i64 e', .string n']]) (by simp [results, Try.results42, go_sem, R0, R1, R2, R3, V0, V1, V2, V3]) rfl ?_
  have h0 := HG.out
  have hi := HI.out
  have hj := HJ.out
  exact ⟨⟨g, c1, p, s, e, n, g', c2, q, s', e', n', rfl, ⟨reads_set4 (reads_set4 HP.out.1 (by omega) _ _ _ _) (by omega) _ _ _ _, hi.1, hi.2.1, hi.2.2.1, hi.2.2.2.1, hi.2.2.2.2⟩, ⟨reads_set4 (reads_set4 HP.out.2 (by omega) _ _ _ _) (by omega) _ _ _ _, hj.1, hj.2.1, hj.2.2.1, hj.2.2.2.1, hj.2.2.2.2⟩⟩, Alm.set4 (Alm.set4 HB2.out (Nat.le_refl _) _ _ _ _) (by omega) _ _ _ _⟩
set_option maxRecDepth 100000 in
set_option maxHeartbeats 1600000 in
theorem drawTouch_any (a : Option Addr) (len cap : Nat) (w : World) (hl : len ≤ maxLen) (hb : Bytes w a len w.heap.size) :
    Calls Try.prog 44 #[.slice a len cap] w fun r w' => (∃ (g cap : Nat) (p : List Lab) (s e : Int) (n : ByteArray) (g' cap' : Nat) (q : List Lab) (s' e' : Int) (n' : ByteArray), r = .returned (.tuple #[.agg #[.slice (some ⟨g, 0, none⟩) p.length cap, .int .i64 s, .int .i64 e, .string n], .agg #[.slice (some ⟨g', 0, none⟩) q.length cap', .int .i64 s', .int .i64 e', .string n']]) ∧ Drawn w' g p s e n ∧ Drawn w' g' q s' e' n') ∧ Below w.heap.size w w' := by
  have HB : Hid (Bytes w a len w.heap.size) := hb
  have HL : Hid (len ≤ maxLen) := hl
  clear hb hl
  go_enter Try.func44, Try.ntmps44
  go_wp2_with fail
  refine (new_any a len cap _ HL.out (LawB.bytes_up HB.out (Go.Joins.below_alloc2 w _ _))).mono ?_
  rintro r w1 ⟨rfl, hc1, hb1⟩
  have HC1 : Hid (Cur w1 (w.heap.size + 2)) := by simp at hc1; exact hc1
  have HR1 : Hid (Blk w1 w.heap.size #[.slice none 0 0, .int .i64 0, .int .i64 0, .string ⟨#[]⟩] 49) := ((Blk.new _ _ _).alloc _).grow hb1
  have HV1 : Hid (Blk w1 (w.heap.size + 1) #[.slice none 0 0, .int .i64 0, .int .i64 0, .string ⟨#[]⟩] 49) := (Blk.new_at (by simp)).grow hb1
  have HB1 : Hid (Below w.heap.size w w1) := grow_on (Go.Joins.below_alloc2 w _ _) hb1
  have HN1 : Hid (w.heap.size + 2 < w1.heap.size) := HC1.out.lt
  clear hc1 hb1
  go_wp2_with fail
  refine (l4Pair_any (w.heap.size + 2) _ HC1.out).mono ?_
  rintro r w2 ⟨⟨g, c1, p, s, e, n, g', c2, q, s', e', n', rfl, hr, hr', hp, hq, hg, hg'⟩, hk⟩
  have HG : Hid (w.heap.size + 2 < g ∧ w.heap.size + 2 < g') := ⟨Nat.lt_of_lt_of_le HN1.out hg, Nat.lt_of_lt_of_le HN1.out hg'⟩
  have HP : Hid (Reads w2 (some ⟨g, 0, none⟩) p ∧ Reads w2 (some ⟨g', 0, none⟩) q) := ⟨hr, hr'⟩
  have HI : Hid (p.length ≤ 8 ∧ Small p ∧ I64 s ∧ I64 e ∧ n.size ≤ 100) := hp
  have HJ : Hid (q.length ≤ 8 ∧ Small q ∧ I64 s' ∧ I64 e' ∧ n'.size ≤ 100) := hq
  have HB2 : Hid (Below w.heap.size w w2) := HB1.out.trans (hk.below (by omega) HB1.out.size)
  have hR := blk_kept HR1.out hk (by omega)
  have hV := blk_kept HV1.out hk (by omega)
  have R0 : w2.cell? ⟨w.heap.size, 0, none⟩ = some (.slice none 0 0) := hR.cell 0
  have R1 : w2.cell? ⟨w.heap.size, 1, none⟩ = some (.int .i64 0) := hR.cell 1
  have R2 : w2.cell? ⟨w.heap.size, 2, none⟩ = some (.int .i64 0) := hR.cell 2
  have R3 : w2.cell? ⟨w.heap.size, 3, none⟩ = some (.string ⟨#[]⟩) := hR.cell 3
  have fR0 := hR.frozen 0
  have fR1 := hR.frozen 1
  have fR2 := hR.frozen 2
  have fR3 := hR.frozen 3
  have V0 : w2.cell? ⟨w.heap.size + 1, 0, none⟩ = some (.slice none 0 0) := hV.cell 0
  have V1 : w2.cell? ⟨w.heap.size + 1, 1, none⟩ = some (.int .i64 0) := hV.cell 1
  have V2 : w2.cell? ⟨w.heap.size + 1, 2, none⟩ = some (.int .i64 0) := hV.cell 2
  have V3 : w2.cell? ⟨w.heap.size + 1, 3, none⟩ = some (.string ⟨#[]⟩) := hV.cell 3
  have fV0 := hV.frozen 0
  have fV1 := hV.frozen 1
  have fV2 := hV.frozen 2
  have fV3 := hV.frozen 3
  clear hr hr' hp hq hg hg' hk hR hV HR1 HV1 HC1
  go_wp2
  refine bodyPost_ret (v := .tuple #[.agg #[.slice (some ⟨g, 0, none⟩) p.length c1, .int .i64 s, .int .i64 e, .string n], .agg #[.slice (some ⟨g', 0, none⟩) q.length c2, .int .i64 s', .int .i64 e', .string n']]) (by simp [results, Try.results44, go_sem, R0, R1, R2, R3, V0, V1, V2, V3]) rfl ?_
  have h0 := HG.out
  have hi := HI.out
  have hj := HJ.out
  exact ⟨⟨g, c1, p, s, e, n, g', c2, q, s', e', n', rfl, ⟨reads_set4 (reads_set4 HP.out.1 (by omega) _ _ _ _) (by omega) _ _ _ _, hi.1, hi.2.1, hi.2.2.1, hi.2.2.2.1, hi.2.2.2.2⟩, ⟨reads_set4 (reads_set4 HP.out.2 (by omega) _ _ _ _) (by omega) _ _ _ _, hj.1, hj.2.1, hj.2.2.1, hj.2.2.2.1, hj.2.2.2.2⟩⟩, Alm.set4 (Alm.set4 HB2.out (Nat.le_refl _) _ _ _ _) (by omega) _ _ _ _⟩

theorem cells4 {w : World} {M : Nat} {v0 v1 v2 v3 : Value} {T : TypeId} (h : Blk w M #[v0, v1, v2, v3] T) : w.cell? ⟨M, 0, none⟩ = some v0 ∧ w.cell? ⟨M, 1, none⟩ = some v1 ∧ w.cell? ⟨M, 2, none⟩ = some v2 ∧ w.cell? ⟨M, 3, none⟩ = some v3 := ⟨h.cell 0, h.cell 1, h.cell 2, h.cell 3⟩
theorem kept_drew {c : Nat} {w w' : World} (h : Kept c w.drew w') : Kept c w w' := ⟨h.os, h.tape, h.output, h.size, h.block⟩
theorem drawn_set4 {w : World} {M g : Nat} {p : List Lab} {s e : Int} {n : ByteArray} (h : Drawn w g p s e n) (hne : g ≠ M) (v0 v1 v2 v3 : Value) : Drawn ((((w.setCell ⟨M, 0, none⟩ v0).setCell ⟨M, 1, none⟩ v1).setCell ⟨M, 2, none⟩ v2).setCell ⟨M, 3, none⟩ v3) g p s e n :=
  ⟨reads_set4 h.reads hne _ _ _ _, h.few, h.small, h.sb, h.eb, h.note⟩
theorem drawn_kept {c : Nat} {w w' : World} {g : Nat} {p : List Lab} {s e : Int} {n : ByteArray} (h : Drawn w g p s e n) (hk : Kept c w w') (hne : g ≠ c) : Drawn w' g p s e n :=
  ⟨reads_kept h.reads hk hne, h.few, h.small, h.sb, h.eb, h.note⟩
theorem row5 {w : World} {c : Nat} {e y : Int} {T : TypeId} (he : I64 e) (hy : I64 y) (hc : c < w.heap.size) : Row isInt (w.alloc (.cells #[.int .i64 e, .int .i64 y, .int .i64 0, .int .i64 10, .int .i64 (-1)] T)).drew ⟨w.heap.size, 0, none⟩ 5 c := by
  have h : (#[Value.int .i64 e, .int .i64 y, .int .i64 0, .int .i64 10, .int .i64 (-1)] : Array Value).toList.all isInt = true := by
    unfold I64 at he hy
    simp [isInt, he.1, he.2, hy.1, hy.2]
  exact row_lit (w := w) h rfl hc
end Go.Proofs.Ytinegehejinmiaa.DrawB
