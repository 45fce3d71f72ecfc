/-
  PROVED: the contracts of the draws of alarms that FnMerges and FnAlarms begin with: alarms with a few small labels in memory of their own; nothing that was there is changed.
-/
import Derived.Test.YtinegehejinmiaaDoorDrawA
import Derived.Test.YtinegehejinmiaaDoorLawB
namespace Go.Proofs.YtinegehejinmiaaDoor.DrawB
open Go.RowKit
open Go.Proofs.YtinegehejinmiaaDoor.Draw
open Go.Proofs.YtinegehejinmiaaDoor.Labs Go.Proofs.YtinegehejinmiaaDoor.LabS Go.Proofs.YtinegehejinmiaaDoor.LabR Go.Proofs.YtinegehejinmiaaDoor.Over Go.Proofs.YtinegehejinmiaaDoor.Blk Go.Proofs.YtinegehejinmiaaDoor.App Go.Proofs.YtinegehejinmiaaDoor.DrawL Go.Proofs.YtinegehejinmiaaDoor.DrawT Go.Proofs.YtinegehejinmiaaDoor.Alm Go.Proofs.YtinegehejinmiaaDoor.AlmM Go.Proofs.YtinegehejinmiaaDoor.DrawA
open Go.Proofs.YtinegehejinmiaaDoor.LabT (infoL Held held_reads)
set_option linter.unusedVariables false

/-- an alarm that was drawn -/
structure Drawn (w : World) (g : Nat) (p : List Lab) (s e : Int) (n : ByteArray) : Prop where
  reads : Reads w (some ⟨g, 0, none⟩) p
  few : p.length ≤ 8
  small : Small p
  sb : I64 s
  eb : I64 e
  note : n.size ≤ 100
theorem Drawn.below {w w' : World} {g : Nat} {p : List Lab} {s e : Int} {n : ByteArray} (h : Drawn w g p s e n) (hb : Below w.heap.size w w') : Drawn w' g p s e n :=
  ⟨h.reads.below hb, h.few, h.small, h.sb, h.eb, h.note⟩
theorem Drawn.al {w : World} {g : Nat} {p : List Lab} {s e : Int} {n : ByteArray} (h : Drawn w g p s e n) : AlIn w (some ⟨g, 0, none⟩) p s e n :=
  ⟨h.reads, by have := h.few; unfold maxLen; omega, small_fits h.small, h.sb, h.eb, by have := h.note; unfold maxLen; omega⟩
theorem Drawn.len {w : World} {g : Nat} {p : List Lab} {s e : Int} {n : ByteArray} (h : Drawn w g p s e n) : p.length ≤ maxLen := h.al.len
theorem Drawn.mid {w : World} {g : Nat} {p : List Lab} {s e : Int} {n : ByteArray} (h : Drawn w g p s e n) : p.length ≤ 1048576 := by have := h.few; omega

set_option maxRecDepth 100000 in
set_option maxHeartbeats 1600000 in
theorem drawAlarmOk_any (a : Option Addr) (len cap : Nat) (w : World) (hl : len ≤ maxLen) (hb : Bytes w a len w.heap.size) :
    Calls Tryd.prog 5 #[.slice a len cap] w fun r w' => (∃ (g cap : Nat) (p : List Lab) (s e : Int) (n : ByteArray), r = .returned (.agg #[.slice (some ⟨g, 0, none⟩) p.length cap, .int .i64 s, .int .i64 e, .string n]) ∧ Drawn w' g p s e n) ∧ Below w.heap.size w w' := by
  have HB : Hid (Bytes w a len w.heap.size) := hb
  have HL : Hid (len ≤ maxLen) := hl
  clear hb hl
  go_enter Tryd.func5, Tryd.ntmps5
  go_wp2_with fail
  refine (new_any a len cap _ HL.out (LawB.bytes_up HB.out (Go.Joins.below_alloc1 w _))).mono ?_
  rintro r w1 ⟨rfl, hc1, hb1⟩
  have HC1 : Hid (Cur w1 (w.heap.size + 1)) := by simp at hc1; exact hc1
  have HR1 : Hid (Blk w1 w.heap.size #[.slice none 0 0, .int .i64 0, .int .i64 0, .string ⟨#[]⟩] 26) := (Blk.new _ _ _).grow hb1
  have HB1 : Hid (Below w.heap.size w w1) := grow_on (Go.Joins.below_alloc1 w _) hb1
  clear hc1 hb1
  go_wp2_with fail
  refine (l4Any_any (w.heap.size + 1) _ HC1.out).mono ?_
  rintro r w2 ⟨g, c1, p, s, e, n, rfl, hst, hp, hs, he, hn⟩
  have HG : Hid (w.heap.size + 1 < g) := Nat.lt_of_lt_of_le HC1.out.lt hst.blk.1
  have HD : Hid (Drawn w2 g p s e n) := ⟨hst.reads, hp, hst.fit, hs, he, hn⟩
  have HB2 : Hid (Below w.heap.size w w2) := HB1.out.trans (hst.kept.below (by omega) HB1.out.size)
  have hR := blk_kept HR1.out hst.kept (by omega)
  have R0 : w2.cell? ⟨w.heap.size, 0, none⟩ = some (.slice none 0 0) := hR.cell 0
  have R1 : w2.cell? ⟨w.heap.size, 1, none⟩ = some (.int .i64 0) := hR.cell 1
  have R2 : w2.cell? ⟨w.heap.size, 2, none⟩ = some (.int .i64 0) := hR.cell 2
  have R3 : w2.cell? ⟨w.heap.size, 3, none⟩ = some (.string ⟨#[]⟩) := hR.cell 3
  have fR0 := hR.frozen 0
  have fR1 := hR.frozen 1
  have fR2 := hR.frozen 2
  have fR3 := hR.frozen 3
  clear hst hp hs he hn hR HR1 HC1
  go_wp2
  refine bodyPost_ret (v := .agg #[.slice (some ⟨g, 0, none⟩) p.length c1, .int .i64 s, .int .i64 e, .string n]) (by simp [results, Tryd.results5, go_sem, R0, R1, R2, R3]) rfl ?_
  have h0 := HG.out
  have hd := HD.out
  exact ⟨⟨g, c1, p, s, e, n, rfl, reads_set4 hd.reads (by omega) _ _ _ _, hd.few, hd.small, hd.sb, hd.eb, hd.note⟩, Alm.set4 HB2.out (Nat.le_refl _) _ _ _ _⟩
set_option maxRecDepth 100000 in
set_option maxHeartbeats 1600000 in
theorem drawAlarmText_any (a : Option Addr) (len cap : Nat) (w : World) (hl : len ≤ maxLen) (hb : Bytes w a len w.heap.size) :
    Calls Tryd.prog 8 #[.slice a len cap] w fun r w' => (∃ (g cap : Nat) (p : List Lab) (s e : Int) (n : ByteArray), r = .returned (.agg #[.slice (some ⟨g, 0, none⟩) p.length cap, .int .i64 s, .int .i64 e, .string n]) ∧ Drawn w' g p s e n) ∧ Below w.heap.size w w' := by
  have HB : Hid (Bytes w a len w.heap.size) := hb
  have HL : Hid (len ≤ maxLen) := hl
  clear hb hl
  go_enter Tryd.func8, Tryd.ntmps8
  go_wp2_with fail
  refine (new_any a len cap _ HL.out (LawB.bytes_up HB.out (Go.Joins.below_alloc1 w _))).mono ?_
  rintro r w1 ⟨rfl, hc1, hb1⟩
  have HC1 : Hid (Cur w1 (w.heap.size + 1)) := by simp at hc1; exact hc1
  have HR1 : Hid (Blk w1 w.heap.size #[.slice none 0 0, .int .i64 0, .int .i64 0, .string ⟨#[]⟩] 26) := (Blk.new _ _ _).grow hb1
  have HB1 : Hid (Below w.heap.size w w1) := grow_on (Go.Joins.below_alloc1 w _) hb1
  clear hc1 hb1
  go_wp2_with fail
  refine (l4Any_any (w.heap.size + 1) _ HC1.out).mono ?_
  rintro r w2 ⟨g, c1, p, s, e, n, rfl, hst, hp, hs, he, hn⟩
  have HG : Hid (w.heap.size + 1 < g) := Nat.lt_of_lt_of_le HC1.out.lt hst.blk.1
  have HD : Hid (Drawn w2 g p s e n) := ⟨hst.reads, hp, hst.fit, hs, he, hn⟩
  have HB2 : Hid (Below w.heap.size w w2) := HB1.out.trans (hst.kept.below (by omega) HB1.out.size)
  have hR := blk_kept HR1.out hst.kept (by omega)
  have R0 : w2.cell? ⟨w.heap.size, 0, none⟩ = some (.slice none 0 0) := hR.cell 0
  have R1 : w2.cell? ⟨w.heap.size, 1, none⟩ = some (.int .i64 0) := hR.cell 1
  have R2 : w2.cell? ⟨w.heap.size, 2, none⟩ = some (.int .i64 0) := hR.cell 2
  have R3 : w2.cell? ⟨w.heap.size, 3, none⟩ = some (.string ⟨#[]⟩) := hR.cell 3
  have fR0 := hR.frozen 0
  have fR1 := hR.frozen 1
  have fR2 := hR.frozen 2
  have fR3 := hR.frozen 3
  clear hst hp hs he hn hR HR1 HC1
  go_wp2
  refine bodyPost_ret (v := .agg #[.slice (some ⟨g, 0, none⟩) p.length c1, .int .i64 s, .int .i64 e, .string n]) (by simp [results, Tryd.results8, go_sem, R0, R1, R2, R3]) rfl ?_
  have h0 := HG.out
  have hd := HD.out
  exact ⟨⟨g, c1, p, s, e, n, rfl, reads_set4 hd.reads (by omega) _ _ _ _, hd.few, hd.small, hd.sb, hd.eb, hd.note⟩, Alm.set4 HB2.out (Nat.le_refl _) _ _ _ _⟩

theorem cells4 {w : World} {M : Nat} {v0 v1 v2 v3 : Value} {T : TypeId} (h : Blk w M #[v0, v1, v2, v3] T) : w.cell? ⟨M, 0, none⟩ = some v0 ∧ w.cell? ⟨M, 1, none⟩ = some v1 ∧ w.cell? ⟨M, 2, none⟩ = some v2 ∧ w.cell? ⟨M, 3, none⟩ = some v3 := ⟨h.cell 0, h.cell 1, h.cell 2, h.cell 3⟩
theorem kept_drew {c : Nat} {w w' : World} (h : Kept c w.drew w') : Kept c w w' := ⟨h.os, h.tape, h.output, h.size, h.block⟩
theorem drawn_set4 {w : World} {M g : Nat} {p : List Lab} {s e : Int} {n : ByteArray} (h : Drawn w g p s e n) (hne : g ≠ M) (v0 v1 v2 v3 : Value) : Drawn ((((w.setCell ⟨M, 0, none⟩ v0).setCell ⟨M, 1, none⟩ v1).setCell ⟨M, 2, none⟩ v2).setCell ⟨M, 3, none⟩ v3) g p s e n :=
  ⟨reads_set4 h.reads hne _ _ _ _, h.few, h.small, h.sb, h.eb, h.note⟩
theorem drawn_kept {c : Nat} {w w' : World} {g : Nat} {p : List Lab} {s e : Int} {n : ByteArray} (h : Drawn w g p s e n) (hk : Kept c w w') (hne : g ≠ c) : Drawn w' g p s e n :=
  ⟨reads_kept h.reads hk hne, h.few, h.small, h.sb, h.eb, h.note⟩
set_option maxRecDepth 100000 in
set_option maxHeartbeats 3200000 in
theorem drawSame_any (a : Option Addr) (len cap : Nat) (w : World) (hl : len ≤ maxLen) (hb : Bytes w a len w.heap.size) :
    Calls Tryd.prog 6 #[.slice a len cap] w fun r w' => (∃ (g cap : Nat) (p : List Lab) (s e : Int) (n : ByteArray) (g' cap' : Nat) (q : List Lab) (s' e' : Int) (n' : ByteArray), r = .returned (.tuple #[.agg #[.slice (some ⟨g, 0, none⟩) p.length cap, .int .i64 s, .int .i64 e, .string n], .agg #[.slice (some ⟨g', 0, none⟩) q.length cap', .int .i64 s', .int .i64 e', .string n']]) ∧ Drawn w' g p s e n ∧ Drawn w' g' q s' e' n') ∧ Below w.heap.size w w' := by
  have HB : Hid (Bytes w a len w.heap.size) := hb
  have HL : Hid (len ≤ maxLen) := hl
  clear hb hl
  go_enter Tryd.func6, Tryd.ntmps6
  go_wp2_with fail
  refine (new_any a len cap _ HL.out (LawB.bytes_up HB.out (Go.Joins.below_alloc2 w _ _))).mono ?_
  rintro r w1 ⟨rfl, hc1, hb1⟩
  have HC1 : Hid (Cur w1 (w.heap.size + 2)) := by simp at hc1; exact hc1
  have HR1 : Hid (Blk w1 w.heap.size #[.slice none 0 0, .int .i64 0, .int .i64 0, .string ⟨#[]⟩] 26) := ((Blk.new _ _ _).alloc _).grow hb1
  have HV1 : Hid (Blk w1 (w.heap.size + 1) #[.slice none 0 0, .int .i64 0, .int .i64 0, .string ⟨#[]⟩] 26) := (Blk.new_at (by simp)).grow hb1
  have HB1 : Hid (Below w.heap.size w w1) := grow_on (Go.Joins.below_alloc2 w _ _) hb1
  clear hc1 hb1
  go_wp2_with fail
  refine (l4Any_any (w.heap.size + 2) _ HC1.out).mono ?_
  rintro r w2 ⟨g, c1, p, s, e, n, rfl, hst, hp, hs, he, hn⟩
  have HN : Hid (w.heap.size + 2 < g ∧ g < w2.heap.size) := ⟨Nat.lt_of_lt_of_le HC1.out.lt hst.blk.1, hst.blk.2⟩
  have HD2 : Hid (Drawn w2 g p s e n) := ⟨hst.reads, hp, hst.fit, hs, he, hn⟩
  have HC2 : Hid (Cur w2 (w.heap.size + 2)) := hst.cur
  have HB2 : Hid (Below w.heap.size w w2) := HB1.out.trans (hst.kept.below (by omega) HB1.out.size)
  have HR2 : Hid (Blk w2 w.heap.size #[.slice none 0 0, .int .i64 0, .int .i64 0, .string ⟨#[]⟩] 26) := blk_kept HR1.out hst.kept (by omega)
  have HV2 : Hid (Blk w2 (w.heap.size + 1) #[.slice none 0 0, .int .i64 0, .int .i64 0, .string ⟨#[]⟩] 26) := blk_kept HV1.out hst.kept (by omega)
  clear hst hp hs he hn HR1 HC1 HB1 HV1
  go_wp2_with fail
  refine (once_any (w.heap.size + 2) 2 _ (HC2.out.alloc _) (by decide) (by decide)).mono ?_
  rintro r w3 ⟨⟨b, rfl⟩, hc3, hk3⟩
  have hA3 : Blk w3 w2.heap.size #[.slice (some ⟨g, 0, none⟩) p.length c1, .int .i64 s, .int .i64 e, .string n] 26 := blk_kept (Blk.new _ _ _) hk3 (by have := HN.out; omega)
  have HA3 : Hid (Blk w3 w2.heap.size #[.slice (some ⟨g, 0, none⟩) p.length c1, .int .i64 s, .int .i64 e, .string n] 26) := hA3
  have HR3 : Hid (Blk w3 w.heap.size #[.slice none 0 0, .int .i64 0, .int .i64 0, .string ⟨#[]⟩] 26) := blk_kept (HR2.out.alloc _) hk3 (by omega)
  have HV3 : Hid (Blk w3 (w.heap.size + 1) #[.slice none 0 0, .int .i64 0, .int .i64 0, .string ⟨#[]⟩] 26) := blk_kept (HV2.out.alloc _) hk3 (by omega)
  have HD3 : Hid (Drawn w3 g p s e n) := drawn_kept (HD2.out.below (Go.Joins.below_alloc1 w2 _)) hk3 (by have := HN.out; omega)
  have HB3 : Hid (Below w.heap.size w w3) := (HB2.out.alloc HB2.out.size _).trans (hk3.below (by omega) (by have := HB2.out.size; simp; omega))
  have HC3 : Hid (Cur w3 (w.heap.size + 2)) := hc3
  have HNN : Hid (w.heap.size + 2 < g ∧ g < w2.heap.size ∧ w2.heap.size < w3.heap.size) := ⟨HN.out.1, HN.out.2, hA3.lt⟩
  clear hc3 hk3 hA3 HN HD2 HC2 HB2 HR2 HV2
  generalize w2.heap.size = A at HA3 HNN ⊢
  have d1 : ¬ A = w.heap.size := by have := HNN.out; omega
  have d2 : ¬ w.heap.size = A := by have := HNN.out; omega
  have d3 : ¬ A = w.heap.size + 1 := by have := HNN.out; omega
  have d4 : ¬ w.heap.size + 1 = A := by have := HNN.out; omega
  cases b with
  | true =>
    have HCP : Hid (Calls Tryd.prog 20 #[.agg #[.slice (some ⟨g, 0, none⟩) p.length c1, .int .i64 s, .int .i64 e, .string n]] w3.drew fun r w' => (∃ M c, r = .returned (.agg #[.slice (some ⟨M, 0, none⟩) p.length c, .int .i64 s, .int .i64 e, .string n]) ∧ Own w3.drew w' M p) ∧ Below w3.heap.size w3.drew w') := copyS_any g 0 c1 p s e n w3.drew (reads_drew HD3.out.reads) HD3.out.mid
    go_wp2
    go_region_held3 (fun w' => w'.cell? ⟨A, 0, none⟩ = some (.slice (some ⟨g, 0, none⟩) p.length c1) ∧ w'.cell? ⟨A, 1, none⟩ = some (.int .i64 s) ∧ w'.cell? ⟨A, 2, none⟩ = some (.int .i64 e) ∧ w'.cell? ⟨A, 3, none⟩ = some (.string n)) (first | (with_reducible exact cells4 (Blk.drew HA3.out)) | (with_reducible exact cells4 hA4) | (with_reducible exact cells4 (Alm.blk4 hA4 (by omega) _ _ _ _)) | (with_reducible exact cells4 (Alm.blk4 (Alm.blk4 hA4 (by omega) _ _ _ _) (by omega) _ _ _ _)) | (go_keep; done)) (first
      | (go_at_call 20; (with_reducible refine HCP.out.mono ?_); rintro r w4 ⟨⟨M, c2, rfl, hM, cs, hk, hs, hh⟩, hb⟩; (have hb4 : Below w3.heap.size w3 w4 := grow_on ((Below.refl _ _).drew) hb); (have hA4 := HA3.out.grow hb4); (have hR := HR3.out.grow hb4); (have hV := HV3.out.grow hb4)
         have R0 : w4.cell? ⟨w.heap.size, 0, none⟩ = some (.slice none 0 0) := hR.cell 0
         have R1 : w4.cell? ⟨w.heap.size, 1, none⟩ = some (.int .i64 0) := hR.cell 1
         have R2 : w4.cell? ⟨w.heap.size, 2, none⟩ = some (.int .i64 0) := hR.cell 2
         have R3 : w4.cell? ⟨w.heap.size, 3, none⟩ = some (.string ⟨#[]⟩) := hR.cell 3
         have fR0 := hR.frozen 0
         have fR1 := hR.frozen 1
         have fR2 := hR.frozen 2
         have fR3 := hR.frozen 3
         have V0 : w4.cell? ⟨w.heap.size + 1, 0, none⟩ = some (.slice none 0 0) := hV.cell 0
         have V1 : w4.cell? ⟨w.heap.size + 1, 1, none⟩ = some (.int .i64 0) := hV.cell 1
         have V2 : w4.cell? ⟨w.heap.size + 1, 2, none⟩ = some (.int .i64 0) := hV.cell 2
         have V3 : w4.cell? ⟨w.heap.size + 1, 3, none⟩ = some (.string ⟨#[]⟩) := hV.cell 3
         have fV0 := hV.frozen 0
         have fV1 := hV.frozen 1
         have fV2 := hV.frozen 2
         have fV3 := hV.frozen 3))
    have HD4 : Hid (Drawn w4 g p s e n) := HD3.out.below hb4
    have HE4 : Hid (Drawn w4 M p s e n) := ⟨held_reads hk hh, HD3.out.few, HD3.out.small, HD3.out.sb, HD3.out.eb, HD3.out.note⟩
    have HM : Hid (w3.heap.size ≤ M) := hM
    have HB4 : Hid (Below w.heap.size w w4) := grow_on HB3.out hb4
    clear hb4 hb hA4 hR hV hk hs hh hM HCP
    go_wp2
    refine bodyPost_ret (v := .tuple #[.agg #[.slice (some ⟨g, 0, none⟩) p.length c1, .int .i64 s, .int .i64 e, .string n], .agg #[.slice (some ⟨M, 0, none⟩) p.length c2, .int .i64 s, .int .i64 e, .string n]]) (by simp [results, Tryd.results6, go_sem, R0, R1, R2, R3, V0, V1, V2, V3]) rfl ?_
    have h0 := HNN.out
    have h1 := HM.out
    exact ⟨⟨g, c1, p, s, e, n, M, c2, p, s, e, n, rfl, drawn_set4 (drawn_set4 HD4.out (by omega) _ _ _ _) (by omega) _ _ _ _, drawn_set4 (drawn_set4 HE4.out (by omega) _ _ _ _) (by omega) _ _ _ _⟩, Alm.set4 (Alm.set4 HB4.out (Nat.le_refl _) _ _ _ _) (by omega) _ _ _ _⟩
  | false =>
    have HCP : Hid (Calls Tryd.prog 18 #[.pointer (some ⟨w.heap.size + 2, 0, none⟩)] w3.drew fun r w' => ∃ (g cap : Nat) (p : List Lab) (s e : Int) (n : ByteArray), r = .returned (.agg #[.slice (some ⟨g, 0, none⟩) p.length cap, .int .i64 s, .int .i64 e, .string n]) ∧ LSt w3.drew (w.heap.size + 2) w' (.slice (some ⟨g, 0, none⟩) p.length cap) p ∧ p.length ≤ 8 ∧ I64 s ∧ I64 e ∧ n.size ≤ 100) := l4Any_any (w.heap.size + 2) w3.drew (Cur.drewN HC3.out 1)
    go_wp2
    go_region_held3 (fun w' => w'.cell? ⟨A, 0, none⟩ = some (.slice (some ⟨g, 0, none⟩) p.length c1) ∧ w'.cell? ⟨A, 1, none⟩ = some (.int .i64 s) ∧ w'.cell? ⟨A, 2, none⟩ = some (.int .i64 e) ∧ w'.cell? ⟨A, 3, none⟩ = some (.string n)) (first | (with_reducible exact cells4 (Blk.drew HA3.out)) | (with_reducible exact cells4 hA4) | (with_reducible exact cells4 (Alm.blk4 hA4 (by omega) _ _ _ _)) | (with_reducible exact cells4 (Alm.blk4 (Alm.blk4 hA4 (by omega) _ _ _ _) (by omega) _ _ _ _)) | (go_keep; done)) (first
      | (go_at_call 18; refine HCP.out.mono ?_; rintro r w4 ⟨g', c2, q, s', e', n', rfl, hst, hp, hs, he, hn⟩; (have hk4 := kept_drew hst.kept); (have hA4 := blk_kept HA3.out hk4 (by have := HNN.out; omega)); (have hR := blk_kept HR3.out hk4 (by omega)); (have hV := blk_kept HV3.out hk4 (by omega))
         have R0 : w4.cell? ⟨w.heap.size, 0, none⟩ = some (.slice none 0 0) := hR.cell 0
         have R1 : w4.cell? ⟨w.heap.size, 1, none⟩ = some (.int .i64 0) := hR.cell 1
         have R2 : w4.cell? ⟨w.heap.size, 2, none⟩ = some (.int .i64 0) := hR.cell 2
         have R3 : w4.cell? ⟨w.heap.size, 3, none⟩ = some (.string ⟨#[]⟩) := hR.cell 3
         have fR0 := hR.frozen 0
         have fR1 := hR.frozen 1
         have fR2 := hR.frozen 2
         have fR3 := hR.frozen 3
         have V0 : w4.cell? ⟨w.heap.size + 1, 0, none⟩ = some (.slice none 0 0) := hV.cell 0
         have V1 : w4.cell? ⟨w.heap.size + 1, 1, none⟩ = some (.int .i64 0) := hV.cell 1
         have V2 : w4.cell? ⟨w.heap.size + 1, 2, none⟩ = some (.int .i64 0) := hV.cell 2
         have V3 : w4.cell? ⟨w.heap.size + 1, 3, none⟩ = some (.string ⟨#[]⟩) := hV.cell 3
         have fV0 := hV.frozen 0
         have fV1 := hV.frozen 1
         have fV2 := hV.frozen 2
         have fV3 := hV.frozen 3))
    have HD4 : Hid (Drawn w4 g p s e n) := drawn_kept HD3.out hk4 (by have := HNN.out; omega)
    have HE4 : Hid (Drawn w4 g' q s' e' n') := ⟨hst.reads, hp, hst.fit, hs, he, hn⟩
    have HM : Hid (w3.heap.size ≤ g') := hst.blk.1
    have HB4 : Hid (Below w.heap.size w w4) := HB3.out.trans (hk4.below (by omega) HB3.out.size)
    clear hk4 hst hp hs he hn hA4 hR hV HCP
    go_wp2
    refine bodyPost_ret (v := .tuple #[.agg #[.slice (some ⟨g, 0, none⟩) p.length c1, .int .i64 s, .int .i64 e, .string n], .agg #[.slice (some ⟨g', 0, none⟩) q.length c2, .int .i64 s', .int .i64 e', .string n']]) (by simp [results, Tryd.results6, go_sem, R0, R1, R2, R3, V0, V1, V2, V3]) rfl ?_
    have h0 := HNN.out
    have h1 := HM.out
    exact ⟨⟨g, c1, p, s, e, n, g', c2, q, s', e', n', rfl, drawn_set4 (drawn_set4 HD4.out (by omega) _ _ _ _) (by omega) _ _ _ _, drawn_set4 (drawn_set4 HE4.out (by omega) _ _ _ _) (by omega) _ _ _ _⟩, Alm.set4 (Alm.set4 HB4.out (Nat.le_refl _) _ _ _ _) (by omega) _ _ _ _⟩

theorem row5 {w : World} {c : Nat} {e y : Int} {T : TypeId} (he : I64 e) (hy : I64 y) (hc : c < w.heap.size) : Row isInt (w.alloc (.cells #[.int .i64 e, .int .i64 y, .int .i64 0, .int .i64 10, .int .i64 (-1)] T)).drew ⟨w.heap.size, 0, none⟩ 5 c := by
  have h : (#[Value.int .i64 e, .int .i64 y, .int .i64 0, .int .i64 10, .int .i64 (-1)] : Array Value).toList.all isInt = true := by
    unfold I64 at he hy
    simp [isInt, he.1, he.2, hy.1, hy.2]
  exact row_lit (w := w) h rfl hc
set_option maxRecDepth 100000 in
set_option maxHeartbeats 3200000 in
theorem drawOver_any (a : Option Addr) (len cap : Nat) (w : World) (hl : len ≤ maxLen) (hb : Bytes w a len w.heap.size) :
    Calls Tryd.prog 7 #[.slice a len cap] w fun r w' => (∃ (g cap : Nat) (p : List Lab) (s e : Int) (n : ByteArray) (now : Int), r = .returned (.tuple #[.agg #[.slice (some ⟨g, 0, none⟩) p.length cap, .int .i64 s, .int .i64 e, .string n], .int .i64 now]) ∧ Drawn w' g p s e n ∧ I64 now) ∧ Below w.heap.size w w' := by
  have HB : Hid (Bytes w a len w.heap.size) := hb
  have HL : Hid (len ≤ maxLen) := hl
  clear hb hl
  go_enter Tryd.func7, Tryd.ntmps7
  go_wp2_with fail
  refine (new_any a len cap _ HL.out (LawB.bytes_up HB.out (Go.Joins.below_alloc1 w _))).mono ?_
  rintro r w1 ⟨rfl, hc1, hb1⟩
  have HC1 : Hid (Cur w1 (w.heap.size + 1)) := by simp at hc1; exact hc1
  have HR1 : Hid (Blk w1 w.heap.size #[.slice none 0 0, .int .i64 0, .int .i64 0, .string ⟨#[]⟩] 26) := (Blk.new _ _ _).grow hb1
  have HB1 : Hid (Below w.heap.size w w1) := grow_on (Go.Joins.below_alloc1 w _) hb1
  clear hc1 hb1
  go_wp2_with fail
  refine (l4Any_any (w.heap.size + 1) _ HC1.out).mono ?_
  rintro r w2 ⟨g, c1, p, s, e, n, rfl, hst, hp, hs, he, hn⟩
  have HN : Hid (w.heap.size + 1 < g ∧ g < w2.heap.size) := ⟨Nat.lt_of_lt_of_le HC1.out.lt hst.blk.1, hst.blk.2⟩
  have HD2 : Hid (Drawn w2 g p s e n) := ⟨hst.reads, hp, hst.fit, hs, he, hn⟩
  have HC2 : Hid (Cur w2 (w.heap.size + 1)) := hst.cur
  have HB2 : Hid (Below w.heap.size w w2) := HB1.out.trans (hst.kept.below (by omega) HB1.out.size)
  have HR2 : Hid (Blk w2 w.heap.size #[.slice none 0 0, .int .i64 0, .int .i64 0, .string ⟨#[]⟩] 26) := blk_kept HR1.out hst.kept (by omega)
  clear hst hp hs he hn HR1 HC1 HB1
  go_wp2
  generalize hz : w2.alloc (.cells #[.slice (some ⟨g, 0, none⟩) p.length c1, .int .i64 s, .int .i64 e, .string n] 26) = w3
  have HA3 : Hid (Blk w3 w2.heap.size #[.slice (some ⟨g, 0, none⟩) p.length c1, .int .i64 s, .int .i64 e, .string n] 26) := by rw [← hz]; exact Blk.new _ _ _
  have HR3 : Hid (Blk w3 w.heap.size #[.slice none 0 0, .int .i64 0, .int .i64 0, .string ⟨#[]⟩] 26) := by rw [← hz]; exact HR2.out.alloc _
  have HD3 : Hid (Drawn w3 g p s e n) := by rw [← hz]; exact HD2.out.below (Go.Joins.below_alloc1 w2 _)
  have HB3 : Hid (Below w.heap.size w w3) := by rw [← hz]; exact HB2.out.alloc HB2.out.size _
  have HC3 : Hid (Cur w3 (w.heap.size + 1)) := by rw [← hz]; exact HC2.out.alloc _
  have HNN : Hid (w.heap.size + 1 < g ∧ g < w2.heap.size ∧ w2.heap.size < w3.heap.size) := ⟨HN.out.1, HN.out.2, HA3.out.lt⟩
  clear hz HN HD2 HC2 HB2 HR2
  generalize w2.heap.size = A at HA3 HNN ⊢
  have d1 : ¬ A = w.heap.size := by have := HNN.out; omega
  have d2 : ¬ w.heap.size = A := by have := HNN.out; omega
  have HI : Hid (∀ (y : Int) (T : TypeId), I64 y → Calls Tryd.prog 21 #[.pointer (some ⟨w.heap.size + 1, 0, none⟩), .slice (some ⟨w3.heap.size, 0, none⟩) 5 5] (w3.alloc (.cells #[.int .i64 e, .int .i64 y, .int .i64 0, .int .i64 10, .int .i64 (-1)] T)).drew fun r w4 => (∃ x : Int, r = .returned (.int .i64 x) ∧ I64 x) ∧ Kept (w.heap.size + 1) (w3.alloc (.cells #[.int .i64 e, .int .i64 y, .int .i64 0, .int .i64 10, .int .i64 (-1)] T)) w4) := fun y T hy =>
    (int_any (w.heap.size + 1) w3.heap.size 0 5 5 (w3.alloc (.cells #[.int .i64 e, .int .i64 y, .int .i64 0, .int .i64 10, .int .i64 (-1)] T)).drew (Cur.drewN (HC3.out.alloc _) 1) (row5 HD3.out.eb hy HC3.out.lt) (by decide) (by decide)).mono fun r w4 h => ⟨h.1, kept_drew h.2.2⟩
  go_region_held3 (fun w' => w'.cell? ⟨A, 0, none⟩ = some (.slice (some ⟨g, 0, none⟩) p.length c1) ∧ w'.cell? ⟨A, 1, none⟩ = some (.int .i64 s) ∧ w'.cell? ⟨A, 2, none⟩ = some (.int .i64 e) ∧ w'.cell? ⟨A, 3, none⟩ = some (.string n)) (first | (with_reducible exact cells4 (Blk.drew HA3.out)) | (with_reducible exact cells4 (Blk.drew (Blk.alloc HA3.out _))) | (with_reducible exact cells4 hA4) | (with_reducible exact cells4 (Alm.blk4 hA4 (by omega) _ _ _ _)) | (go_keep; done)) (first
    | (go_at_call 21; refine (HI.out _ _ (wrapB _)).mono ?_; rintro r w4 ⟨⟨x, rfl, hx⟩, hk4⟩; (have hA4 := blk_kept (HA3.out.alloc _) hk4 (by have := HNN.out; omega)); (have hR := blk_kept (HR3.out.alloc _) hk4 (by omega))
       have R0 : w4.cell? ⟨w.heap.size, 0, none⟩ = some (.slice none 0 0) := hR.cell 0
       have R1 : w4.cell? ⟨w.heap.size, 1, none⟩ = some (.int .i64 0) := hR.cell 1
       have R2 : w4.cell? ⟨w.heap.size, 2, none⟩ = some (.int .i64 0) := hR.cell 2
       have R3 : w4.cell? ⟨w.heap.size, 3, none⟩ = some (.string ⟨#[]⟩) := hR.cell 3
       have fR0 := hR.frozen 0
       have fR1 := hR.frozen 1
       have fR2 := hR.frozen 2
       have fR3 := hR.frozen 3))
  have HD4 : Hid (Drawn w4 g p s e n) := drawn_kept (HD3.out.below (Go.Joins.below_alloc1 w3 _)) hk4 (by have := HNN.out; omega)
  have HB4 : Hid (Below w.heap.size w w4) := (HB3.out.alloc HB3.out.size _).trans (hk4.below (by omega) (by have := HB3.out.size; simp; omega))
  have HX : Hid (I64 x) := hx
  clear hk4 hx hA4 hR HI
  go_wp2
  refine bodyPost_ret (v := .tuple #[.agg #[.slice (some ⟨g, 0, none⟩) p.length c1, .int .i64 s, .int .i64 e, .string n], .int .i64 x]) (by simp [results, Tryd.results7, go_sem, R0, R1, R2, R3]) rfl ?_
  have h0 := HNN.out
  exact ⟨⟨g, c1, p, s, e, n, x, rfl, drawn_set4 HD4.out (by omega) _ _ _ _, HX.out⟩, Alm.set4 HB4.out (Nat.le_refl _) _ _ _ _⟩
end Go.Proofs.YtinegehejinmiaaDoor.DrawB
