/-
  PROVED: over a part and an alarm in memory impl.PutIn gives the part with the alarm in it, as a plain function on lists of chains says, in memory of its own; nothing that was there is changed.
-/
import Derived.Test.YtcopckbpflmmeaaPrtR
import Derived.Deep.RegionHeld3
namespace Go.Proofs.Ytcopckbpflmmeaa.PrtZ
open Go.RowKit
open Go.Proofs.Ytcopckbpflmmeaa.Labs Go.Proofs.Ytcopckbpflmmeaa.LabS Go.Proofs.Ytcopckbpflmmeaa.Alms Go.Proofs.Ytcopckbpflmmeaa.AlmM Go.Proofs.Ytcopckbpflmmeaa.Over Go.Proofs.Ytcopckbpflmmeaa.Blk Go.Proofs.Ytcopckbpflmmeaa.App Go.Proofs.Ytcopckbpflmmeaa.Rws Go.Proofs.Ytcopckbpflmmeaa.ChnI Go.Proofs.Ytcopckbpflmmeaa.ChnC Go.Proofs.Ytcopckbpflmmeaa.ChnP Go.Proofs.Ytcopckbpflmmeaa.ChnK Go.Proofs.Ytcopckbpflmmeaa.Chs Go.Proofs.Ytcopckbpflmmeaa.Prt Go.Proofs.Ytcopckbpflmmeaa.PrtO Go.Proofs.Ytcopckbpflmmeaa.PrtF Go.Proofs.Ytcopckbpflmmeaa.PrtC Go.Proofs.Ytcopckbpflmmeaa.PrtH Go.Proofs.Ytcopckbpflmmeaa.PrtL Go.Proofs.Ytcopckbpflmmeaa.PrtN Go.Proofs.Ytcopckbpflmmeaa.PrtQ Go.Proofs.Ytcopckbpflmmeaa.PrtR Go.Proofs.Ytcopckbpflmmeaa.Mps
open Go.Proofs.Ytcopckbpflmmeaa.PrtI (shG_first shG_miss)
open Go.Proofs.Ytcopckbpflmmeaa.Fing (fingerB)
set_option linter.unusedVariables false

set_option maxRecDepth 100000 in
set_option maxHeartbeats 4000000 in
theorem implPut_any (hd vr : Int) (a : Option Addr) (cap : Nat) (C : List PCh) (g o cap' : Nat) (x : PAl) (w : World) (hr : RdG RdA w a C) (hx : Reads w (some ⟨g, o, none⟩) x.l) (hl : C.length ≤ 1048576) (hs : Small C) (hc : C.length + sumC C ≤ 1048576) (hxl : x.l.length ≤ 1048576) (hxf : LabT.Fits x.l) :
    Calls Try.prog 37 #[.agg #[.int .i64 hd, .int .i64 vr, .slice a C.length cap], .agg #[.slice (some ⟨g, o, none⟩) x.l.length cap', .int .i64 x.s, .int .i64 x.e, .string x.n]] w fun e w' => (∃ M c cs, e = .returned (.tuple #[.agg #[.int .i64 hd, .int .i64 (IntKind.i64.wrap (vr + 1)), .slice (some ⟨M, 0, none⟩) cs.length c], .bool (newC C x)]) ∧ CB w.heap.size w' M c cs ∧ chs cs = putC C x) ∧ Below w.heap.size w w' := by
  have HR : Hid (RdG RdA w a C ∧ Reads w (some ⟨g, o, none⟩) x.l ∧ Small C ∧ C.length + sumC C ≤ 1048576 ∧ x.l.length ≤ 1048576 ∧ LabT.Fits x.l) := ⟨hr, hx, hs, hc, hxl, hxf⟩
  clear hr hx hs hc hxl hxf
  obtain ⟨vu, hvu⟩ : ∃ vu, IntKind.i64.wrap (vr + 1) = vu := ⟨_, rfl⟩
  rw [hvu]
  go_enter Try.func37, Try.ntmps37
  go_wp2_with fail
  obtain ⟨W0, hW0⟩ : ∃ W0, ((w.alloc (.cells #[.int .i64 hd, .int .i64 vr, .slice a C.length cap] 68)).alloc (.cells #[.slice (some ⟨g, o, none⟩) x.l.length cap', .int .i64 x.s, .int .i64 x.e, .string x.n] 29)).alloc (.cells #[.int .i64 0, .int .i64 0, .slice none 0 0] 68) = W0 := ⟨_, rfl⟩
  have HW0 : Hid (Below w.heap.size w W0 ∧ Blk W0 w.heap.size #[.int .i64 hd, .int .i64 vr, .slice a C.length cap] 68 ∧ Blk W0 (w.heap.size + 1) #[.slice (some ⟨g, o, none⟩) x.l.length cap', .int .i64 x.s, .int .i64 x.e, .string x.n] 29 ∧ Blk W0 (w.heap.size + 2) #[.int .i64 0, .int .i64 0, .slice none 0 0] 68 ∧ W0.heap.size = w.heap.size + 3) := by
    rw [← hW0]
    exact ⟨Alm.below3 w _ _ _, ((Blk.new _ _ _).alloc _).alloc _, (Blk.new_at (by simp)).alloc _, Blk.new_at (by simp), by simp⟩
  rw [hW0]
  clear hW0
  refine (shelve_any a cap C W0 (HR.out.1.below stays_rd HW0.out.1) hl).mono ?_
  rintro e w2 ⟨⟨Mm, Ms, rfl, ad, cp, hsh⟩, hb2⟩
  obtain ⟨sc, hsc⟩ := hsh.slots
  obtain ⟨W3, hW3⟩ : ∃ W3, w2.alloc (.cells #[.map (some Mm), .slice (some ⟨Ms, 0, none⟩) C.length C.length] 110) = W3 := ⟨_, rfl⟩
  have hb3 : Below w2.heap.size w2 W3 := by rw [← hW3]; exact Go.Joins.below_alloc1 w2 _
  have H3 : Hid (Below W0.heap.size W0 W3 ∧ Blk W3 w2.heap.size #[.map (some Mm), .slice (some ⟨Ms, 0, none⟩) C.length C.length] 110 ∧ MapG TwoK W3 Mm (shG C (fun i => chV (nthC C i) (ad i) (cp i)) C.length) ∧ SlotsK W3 Ms C C.length sc ∧ W0.heap.size ≤ w2.heap.size) := ⟨grow_on hb2 hb3, by rw [← hW3]; exact Blk.new _ _ _, hsh.map.grow hb3, hsc.grow hb3, hb2.size⟩
  have HSH : Hid ((∀ i, i < C.length → RdA W0 (ad i) (nthC C i).P) ∧ W0.heap.size ≤ Mm ∧ W0.heap.size ≤ Ms) := ⟨hsh.reads, hsh.lm, hsh.ls⟩
  have a0 : W3.cell? ⟨w.heap.size + 1, 0, none⟩ = some (.slice (some ⟨g, o, none⟩) x.l.length cap') := (HW0.out.2.2.1.grow H3.out.1).cell 0
  clear hsh hsc hb2 hb3
  go_wp2_with fail
  refine (Fing.implFinger_any _ cap' x.l W3 (HR.out.2.1.below (grow_on HW0.out.1 H3.out.1)) (by have := HR.out.2.2.2.2.1; unfold maxLen; omega) HR.out.2.2.2.2.2).mono ?_
  rintro e w4 ⟨rfl, hb4⟩
  go_upto_region 3 with fail
  obtain ⟨W5, hW5⟩ : ∃ W5, w4.alloc (.cells #[.int .i64 (fingerB x.l : Int), .int .i64 0] 113) = W5 := ⟨_, rfl⟩
  have hb5 : Below W3.heap.size W3 W5 := by rw [← hW5]; exact grow_on hb4 (Go.Joins.below_alloc1 w4 _)
  have H5 : Hid (Below W0.heap.size W0 W5 ∧ Blk W5 w2.heap.size #[.map (some Mm), .slice (some ⟨Ms, 0, none⟩) C.length C.length] 110 ∧ MapG TwoK W5 Mm (shG C (fun i => chV (nthC C i) (ad i) (cp i)) C.length) ∧ SlotsK W5 Ms C C.length sc ∧ Blk W5 w4.heap.size #[.int .i64 (fingerB x.l : Int), .int .i64 0] 113 ∧ W0.heap.size ≤ w4.heap.size) := ⟨grow_on H3.out.1 hb5, H3.out.2.1.grow hb5, H3.out.2.2.1.grow hb5, H3.out.2.2.2.1.grow hb5, by rw [← hW5]; exact Blk.new _ _ _, Nat.le_trans H3.out.1.size hb4.size⟩
  have m0 : W5.cell? ⟨w2.heap.size, 0, none⟩ = some (.map (some Mm)) := H5.out.2.1.cell 0
  have t0 : W5.cell? ⟨w4.heap.size, 0, none⟩ = some (.int .i64 (fingerB x.l : Int)) := H5.out.2.2.2.2.1.cell 0
  have t1 : W5.cell? ⟨w4.heap.size, 1, none⟩ = some (.int .i64 0) := H5.out.2.2.2.2.1.cell 1
  clear hb4 hb5 a0 hW3
  try rw [hW5]
  clear hW5
  rcases at_cases C (fingerB x.l : Int) with ⟨h0, h1, h2⟩ | ⟨k, h0, h1, hk, h3, h4⟩
  · have HLk : Hid (shG C (fun i => chV (nthC C i) (ad i) (cp i)) C.length ((fingerB x.l : Int), 0) = none) := shG_miss h2
    obtain ⟨ks, hks⟩ : ∃ ks : List (Int × Int), ks = (keysC C).take (posB C (fingerB x.l : Int)) ++ ((fingerB x.l : Int), 0) :: (keysC C).drop (posB C (fingerB x.l : Int)) := ⟨_, rfl⟩
    have hpl := plan_none h0 h2 HR.out.2.2.1 HR.out.2.2.2.2.1 hks
    have HPl : Hid (Plan C x (putC C x) ks (fingerB x.l : Int) []) := hpl.1
    have HO : Hid (Others C x ks) := hpl.2
    have HKL : Hid (ks.length = C.length + 1 ∧ C.length + 1 ≤ 1048577) := ⟨by rw [hks]; have := pos_le C (fingerB x.l : Int); simp [keys_len]; omega, by omega⟩
    have HWS : Hid (∀ z, Blk z Ms sc 113 → Calls Try.prog 81 #[.slice (some ⟨Ms, 0, none⟩) C.length C.length, .agg #[.int .i64 (fingerB x.l : Int), .int .i64 0]] z fun e w' => (∃ M c, e = .returned (.slice (some ⟨M, 0, none⟩) ks.length c) ∧ SlotL w' M ks) ∧ Below z.heap.size z w') := fun z hz => by
      have h := withSlot_any Ms (keysC C) ((fingerB x.l : Int), 0) sc z hz (slots_flat H5.out.2.2.2.1) (by rw [keys_len]; exact hl)
      rw [gt_posB h2, ← hks, keys_len, ← HKL.out.1] at h
      exact h
    clear h0 h1 h2 hpl hks
    obtain ⟨W6, hW6⟩ : ∃ W6, W5.alloc (.cells #[.int .i64 0, .slice none 0 0] 26) = W6 := ⟨_, rfl⟩
    have HW6 : Hid (W5.alloc (.cells #[.int .i64 0, .slice none 0 0] 26) = W6) := hW6
    have hb6 : Below W5.heap.size W5 W6 := by rw [← hW6]; exact Go.Joins.below_alloc1 W5 _
    have hB6 : Blk W6 W5.heap.size #[.int .i64 0, .slice none 0 0] 26 := by rw [← hW6]; exact Blk.new _ _ _
    obtain ⟨W7, hW7⟩ : ∃ W7, (W6.setCell ⟨W5.heap.size, 0, none⟩ (.int .i64 (fingerB x.l : Int))).setCell ⟨W5.heap.size, 1, none⟩ (.slice none 0 0) = W7 := ⟨_, rfl⟩
    have H7 : Hid (Below W5.heap.size W5 W7 ∧ Blk W7 W5.heap.size #[.int .i64 (fingerB x.l : Int), .slice none 0 0] 26) := by rw [← hW7]; exact ⟨set2 hb6 (Nat.le_refl _) _ _, (hB6.set 0 _).set 1 _⟩
    have u0 : W6.cell? ⟨W5.heap.size, 0, none⟩ = some (.int .i64 0) := hB6.cell 0
    have u1 : W6.cell? ⟨W5.heap.size, 1, none⟩ = some (.slice none 0 0) := hB6.cell 1
    have f0 := hB6.frozen 0
    have f1 := hB6.frozen 1
    have s0 : W6.cell? ⟨w4.heap.size, 0, none⟩ = some (.int .i64 (fingerB x.l : Int)) := (H5.out.2.2.2.2.1.grow hb6).cell 0
    have r0 : W7.cell? ⟨w4.heap.size, 0, none⟩ = some (.int .i64 (fingerB x.l : Int)) := (H5.out.2.2.2.2.1.grow H7.out.1).cell 0
    have r1 : W7.cell? ⟨w4.heap.size, 1, none⟩ = some (.int .i64 0) := (H5.out.2.2.2.2.1.grow H7.out.1).cell 1
    have v1 : W7.cell? ⟨w2.heap.size, 1, none⟩ = some (.slice (some ⟨Ms, 0, none⟩) C.length C.length) := (H5.out.2.1.grow H7.out.1).cell 1
    clear hb6 hB6 hW6
    go_upto_region 4 with (at_lookup; refine wp_lookup _ rfl _ _ 107 true rfl 113 26 TwoK asked_slot Try.underlying107 (zeroC _) Mm (shG C (fun i => chV (nthC C i) (ad i) (cp i)) C.length) rfl H5.out.2.2.1 ((fingerB x.l : Int), 0) rfl (.tuple #[.agg #[.int .i64 0, .slice none 0 0], .bool false]) (by rw [HLk.out]; rfl) ?_)
    try rw [HW6.out]
    clear HW6 m0 t0 t1
    go_wp2_with fail
    refine (HWS.out W7 (H5.out.2.2.2.1.blk.grow H7.out.1)).mono ?_
    rintro e w8 ⟨⟨Mz, cz, rfl, hsl⟩, hb8⟩
    have hB8 := (H5.out.2.1.grow H7.out.1).grow hb8
    have p1 : w8.cell? ⟨w2.heap.size, 1, none⟩ = some (.slice (some ⟨Ms, 0, none⟩) C.length C.length) := hB8.cell 1
    have pf := hB8.frozen 1
    obtain ⟨Wt, hWt⟩ : ∃ Wt, w8.setCell ⟨w2.heap.size, 1, none⟩ (.slice (some ⟨Mz, 0, none⟩) ks.length cz) = Wt := ⟨_, rfl⟩
    have HT : Hid (Below W0.heap.size W0 Wt ∧ Blk Wt W5.heap.size #[.int .i64 (fingerB x.l : Int), .slice none 0 0] 26 ∧ Blk Wt w4.heap.size #[.int .i64 (fingerB x.l : Int), .int .i64 0] 113 ∧ Blk Wt w2.heap.size #[.map (some Mm), .slice (some ⟨Mz, 0, none⟩) ks.length cz] 110 ∧ MapG TwoK Wt Mm (shG C (fun i => chV (nthC C i) (ad i) (cp i)) C.length) ∧ SlotL Wt Mz ks ∧ RdA Wt none []) := by
      rw [← hWt]
      have hc := H7.out.2.grow hb8
      have ht := (H5.out.2.2.2.2.1.grow H7.out.1).grow hb8
      have hm := (H5.out.2.2.1.grow H7.out.1).grow hb8
      exact ⟨ChnI.set_low (grow_on (grow_on H5.out.1 H7.out.1) hb8) (by have := H3.out.2.2.2.2; omega) 1 _, hc.set_other (p := ⟨w2.heap.size, 1, none⟩) (blkT_ne hB8 hc (by decide)) _, ht.set_other (p := ⟨w2.heap.size, 1, none⟩) (blkT_ne hB8 ht (by decide)) _, hB8.set 1 _, hm.set (Ne.symm (Ne.symm (hm.ne_blk hB8))), slot_kept hsl (fun h => h.set_other (p := ⟨w2.heap.size, 1, none⟩) (blkT_ne hB8 h (by decide)) _), .inl rfl⟩
    have HN : Hid (W0.heap.size ≤ W5.heap.size) := H5.out.1.size
    have HPc : Hid (([] : List PAl).length ≤ 1048576 ∧ LenM []) := ⟨by simp, fun j hj => absurd hj (by simp)⟩
    clear u0 u1 f0 f1 s0 r0 r1 v1 hsl hb8 hB8

    have HAB : Hid (Blk Wt (w.heap.size + 1) #[.slice (some ⟨g, o, none⟩) x.l.length cap', .int .i64 x.s, .int .i64 x.e, .string x.n] 29) := HW0.out.2.2.1.grow HT.out.1
    have b0 : Wt.cell? ⟨W5.heap.size, 0, none⟩ = some (.int .i64 (fingerB x.l : Int)) := HT.out.2.1.cell 0
    have b1 : Wt.cell? ⟨W5.heap.size, 1, none⟩ = some (.slice none 0 0) := HT.out.2.1.cell 1
    have a0 : Wt.cell? ⟨w.heap.size + 1, 0, none⟩ = some (.slice (some ⟨g, o, none⟩) x.l.length cap') := HAB.out.cell 0
    have a1 : Wt.cell? ⟨w.heap.size + 1, 1, none⟩ = some (.int .i64 x.s) := HAB.out.cell 1
    have a2 : Wt.cell? ⟨w.heap.size + 1, 2, none⟩ = some (.int .i64 x.e) := HAB.out.cell 2
    have a3 : Wt.cell? ⟨w.heap.size + 1, 3, none⟩ = some (.string x.n) := HAB.out.cell 3
    go_wp2_with fail
    refine (ChnP.implPut_any (fingerB x.l : Int) none 0 [] g o cap' x Wt HT.out.2.2.2.2.2.2 (HR.out.2.1.below (grow_on HW0.out.1 HT.out.1)) HPc.out.1 HPc.out.2 HR.out.2.2.2.2.1).mono ?_
    rintro e w7 ⟨⟨M1, c1, rs1, rfl, hA, hp⟩, hb7⟩
    obtain ⟨W8, hW8⟩ : ∃ W8, (w7.setCell ⟨W5.heap.size, 0, none⟩ (.int .i64 (fingerB x.l : Int))).setCell ⟨W5.heap.size, 1, none⟩ (.slice (some ⟨M1, 0, none⟩) rs1.length c1) = W8 := ⟨_, rfl⟩
    have hB7 := HT.out.2.1.grow hb7
    have H8 : Hid (Below W0.heap.size W0 W8 ∧ Blk W8 W5.heap.size #[.int .i64 (fingerB x.l : Int), .slice (some ⟨M1, 0, none⟩) rs1.length c1] 26 ∧ Blk W8 w4.heap.size #[.int .i64 (fingerB x.l : Int), .int .i64 0] 113 ∧ Blk W8 w2.heap.size #[.map (some Mm), .slice (some ⟨Mz, 0, none⟩) ks.length cz] 110 ∧ MapG TwoK W8 Mm (shG C (fun i => chV (nthC C i) (ad i) (cp i)) C.length) ∧ SlotL W8 Mz ks ∧ AB Wt.heap.size W8 M1 c1 rs1) := by
      rw [← hW8]
      have n1 := blkT_ne hB7 (HT.out.2.2.1.grow hb7) (by decide)
      have n2 := blkT_ne hB7 (HT.out.2.2.2.1.grow hb7) (by decide)
      have n3 := (HT.out.2.2.2.2.1.grow hb7).ne_blk hB7
      exact ⟨set2 (grow_on HT.out.1 hb7) HN.out _ _, (hB7.set 0 _).set 1 _, ((HT.out.2.2.1.grow hb7).set_other (p := ⟨W5.heap.size, 0, none⟩) n1 _).set_other (p := ⟨W5.heap.size, 1, none⟩) n1 _, ((HT.out.2.2.2.1.grow hb7).set_other (p := ⟨W5.heap.size, 0, none⟩) n2 _).set_other (p := ⟨W5.heap.size, 1, none⟩) n2 _, ((HT.out.2.2.2.2.1.grow hb7).set n3).set n3, slot_kept (HT.out.2.2.2.2.2.1.grow hb7) (fun h => (h.set_other (p := ⟨W5.heap.size, 0, none⟩) (blkT_ne hB7 h (by decide)) _).set_other (p := ⟨W5.heap.size, 1, none⟩) (blkT_ne hB7 h (by decide)) _), ab_set2 hA hB7 _ _⟩
    have HL1 : Hid (rs1.length = (putL [] x).length ∧ pals rs1 = putL [] x) := ⟨by rw [← pals_len, hp], hp⟩
    have x0 : w7.cell? ⟨W5.heap.size, 0, none⟩ = some (.int .i64 (fingerB x.l : Int)) := hB7.cell 0
    have x1 : w7.cell? ⟨W5.heap.size, 1, none⟩ = some (.slice none 0 0) := hB7.cell 1
    have f0 := hB7.frozen 0
    have f1 := hB7.frozen 1
    have y0 : W8.cell? ⟨W5.heap.size, 0, none⟩ = some (.int .i64 (fingerB x.l : Int)) := H8.out.2.1.cell 0
    have y1 : W8.cell? ⟨W5.heap.size, 1, none⟩ = some (.slice (some ⟨M1, 0, none⟩) rs1.length c1) := H8.out.2.1.cell 1
    have k0 : W8.cell? ⟨w4.heap.size, 0, none⟩ = some (.int .i64 (fingerB x.l : Int)) := H8.out.2.2.1.cell 0
    have k1 : W8.cell? ⟨w4.heap.size, 1, none⟩ = some (.int .i64 0) := H8.out.2.2.1.cell 1
    have m1 : W8.cell? ⟨w2.heap.size, 0, none⟩ = some (.map (some Mm)) := H8.out.2.2.2.1.cell 0
    clear hA hp hb7 hB7 b0 b1 a0 a1 a2 a3
    go_wp2_with (at_mapUpdate; refine wp_update _ rfl _ _ _ 107 rfl 113 26 TwoK asked_slot Try.underlying107 Mm (shG C (fun i => chV (nthC C i) (ad i) (cp i)) C.length) rfl H8.out.2.2.2.2.1 ((fingerB x.l : Int), 0) (.agg #[.int .i64 (fingerB x.l : Int), .slice (some ⟨M1, 0, none⟩) rs1.length c1]) rfl rfl ?_)
    intro w9 hm9 hg9 hs9
    have hmp := H8.out.2.2.2.2.1
    have H9 : Hid (Below W0.heap.size W0 w9 ∧ Blk w9 w2.heap.size #[.map (some Mm), .slice (some ⟨Mz, 0, none⟩) ks.length cz] 110 ∧ MapG TwoK w9 Mm (updG (shG C (fun i => chV (nthC C i) (ad i) (cp i)) C.length) ((fingerB x.l : Int), 0) (some (.agg #[.int .i64 (fingerB x.l : Int), .slice (some ⟨M1, 0, none⟩) rs1.length c1]))) ∧ SlotL w9 Mz ks ∧ AB Wt.heap.size w9 M1 c1 rs1 ∧ Blk w9 w.heap.size #[.int .i64 hd, .int .i64 vr, .slice a C.length cap] 68 ∧ Blk w9 (w.heap.size + 2) #[.int .i64 0, .int .i64 0, .slice none 0 0] 68) := by
      have hb9 := mapDown H8.out.1 hg9 (Nat.le_refl _) HSH.out.2.1
      exact ⟨hb9, blk_map H8.out.2.2.2.1 hmp hg9, hm9, slot_kept H8.out.2.2.2.2.2.1 (fun h => blk_map h hmp hg9), Chs.ab_moved H8.out.2.2.2.2.2.2 (moved_map hmp hg9), HW0.out.2.1.grow hb9, HW0.out.2.2.2.1.grow hb9⟩
    clear hm9 hg9 hs9 hmp x0 x1 f0 f1 y0 y1 k0 k1 m1 hW8
    have HLA : Hid (∀ z, Below w9.heap.size w9 z → Calls Try.prog 82 #[.agg #[.map (some Mm), .slice (some ⟨Mz, 0, none⟩) ks.length cz]] z fun e w' => (∃ M c cs, e = .returned (.slice (some ⟨M, 0, none⟩) cs.length c) ∧ CB z.heap.size w' M c cs ∧ chs cs = putC C x) ∧ Below z.heap.size z w') := fun z hz => by
      have hln := HPl.out.len
      have h := laid_any Mm Mz cz _ ks ((putC C x).map some) z (H9.out.2.2.1.grow hz) (H9.out.2.2.2.1.grow hz) (by rw [List.length_map, hln]) (fun i hi => by
        rw [somes_nth (by omega)]
        by_cases e : nthK ks i = ((fingerB x.l : Int), 0)
        · rw [e, upd_at, HPl.out.here i (by omega) e]
          refine ⟨some ⟨M1, 0, none⟩, c1, by rw [HL1.out.1], ?_⟩
          have hrd := (H9.out.2.2.2.2.1.grow hz).rd.rd
          rw [HL1.out.2] at hrd
          exact hrd
        · rw [upd_no e]
          obtain ⟨j, hj, h1, h2⟩ := HO.out i hi e
          rw [h1, h2]
          exact ent_other (HSH.out.1 j hj) (grow_on H9.out.1 hz) (shG_at hj)) (by have := HKL.out.1; have := HKL.out.2; omega) (fun i y hi hv => by
        rw [somes_nth (by omega)] at hv
        cases hv
        exact HPl.out.lens i (by omega))
      have e : laidTo ((putC C x).map some) ks.length = putC C x := by have := laid_somes (putC C x); rw [List.length_map] at this; rw [hln]; exact this
      rw [e] at h
      exact h
    have HNW : Hid (isNew [] x.l = newC C x) := HPl.out.new
    go_upto_region 9 with fail
    have HS : Hid (∀ w', Blk w' w.heap.size #[.int .i64 hd, .int .i64 vr, .slice a C.length cap] 68 → Blk w' w2.heap.size #[.map (some Mm), .slice (some ⟨Mz, 0, none⟩) ks.length cz] 110 → w'.cell? ⟨w.heap.size, 0, none⟩ = some (.int .i64 hd) ∧ w'.cell? ⟨w.heap.size, 1, none⟩ = some (.int .i64 vr) ∧ w'.cell? ⟨w2.heap.size, 0, none⟩ = some (.map (some Mm)) ∧ w'.cell? ⟨w2.heap.size, 1, none⟩ = some (.slice (some ⟨Mz, 0, none⟩) ks.length cz)) := fun w' h k => ⟨h.cell 0, h.cell 1, k.cell 0, k.cell 1⟩
    refine wp_region_held_drew (S := fun w' => w'.cell? ⟨w.heap.size, 0, none⟩ = some (.int .i64 hd) ∧ w'.cell? ⟨w.heap.size, 1, none⟩ = some (.int .i64 vr) ∧ w'.cell? ⟨w2.heap.size, 0, none⟩ = some (.map (some Mm)) ∧ w'.cell? ⟨w2.heap.size, 1, none⟩ = some (.slice (some ⟨Mz, 0, none⟩) ks.length cz)) (by kernel_rfl) (HS.out _ H9.out.2.2.2.2.2.1.drew H9.out.2.1.drew) (fun hHeld => ?_)
    refine wpAnyH_take (i := 0) (oi := { dst := some 45, op := Op.fieldAddr 68 (Operand.tmp 2) 0, type := 0, pos := "l07_part.go:107", after := #[], guard := none }) (v := ?vy1) rfl (by kernel_rfl) (by kernel_rfl) (by kernel_rfl) (fun _ _ _ h => h) (Or.inl ⟨by rfl, ?hyy1⟩) hHeld ?_
    case hyy1 => (intro w hSw; (try dsimp only at hSw); go_simp <;> with_reducible rfl)
    try simp only [Act.put, List.setIfInBounds_toArray, List.set_cons_zero, List.set_cons_succ]
    refine wpAnyH_take (i := 1) (oi := { dst := some 46, op := Op.load 3 (Operand.tmp 45), type := 3, pos := "l07_part.go:107", after := #[{ on := 0, ground := Ground.data }], guard := none }) (v := ?vy2) rfl (by kernel_rfl) (by kernel_rfl) (by kernel_rfl) (fun _ _ _ h => h) (Or.inl ⟨by rfl, ?hyy2⟩) hHeld ?_
    case hyy2 => (intro w hSw; (try dsimp only at hSw); go_simp <;> with_reducible rfl)
    try simp only [Act.put, List.setIfInBounds_toArray, List.set_cons_zero, List.set_cons_succ]
    refine wpAnyH_take (i := 2) (oi := { dst := some 47, op := Op.fieldAddr 68 (Operand.tmp 2) 1, type := 0, pos := "l07_part.go:107", after := #[], guard := none }) (v := ?vy3) rfl (by kernel_rfl) (by kernel_rfl) (by kernel_rfl) (fun _ _ _ h => h) (Or.inl ⟨by rfl, ?hyy3⟩) hHeld ?_
    case hyy3 => (intro w hSw; (try dsimp only at hSw); go_simp <;> with_reducible rfl)
    try simp only [Act.put, List.setIfInBounds_toArray, List.set_cons_zero, List.set_cons_succ]
    refine wpAnyH_take (i := 3) (oi := { dst := some 48, op := Op.load 3 (Operand.tmp 47), type := 3, pos := "l07_part.go:107", after := #[{ on := 2, ground := Ground.data }], guard := none }) (v := ?vy4) rfl (by kernel_rfl) (by kernel_rfl) (by kernel_rfl) (fun _ _ _ h => h) (Or.inl ⟨by rfl, ?hyy4⟩) hHeld ?_
    case hyy4 => (intro w hSw; (try dsimp only at hSw); go_simp <;> with_reducible rfl)
    try simp only [Act.put, List.setIfInBounds_toArray, List.set_cons_zero, List.set_cons_succ]
    refine wpAnyH_take (i := 4) (oi := { dst := some 49, op := Op.binOp BinOp.add 3 (Operand.tmp 48) (Operand.const (Value.int IntKind.i64 1)) 3, type := 3, pos := "l07_part.go:107", after := #[{ on := 3, ground := Ground.data }], guard := none }) (v := ?vy5) rfl (by kernel_rfl) (by kernel_rfl) (by kernel_rfl) (fun _ _ _ h => h) (Or.inl ⟨by rfl, ?hyy5⟩) hHeld ?_
    case hyy5 => (intro w hSw; (try dsimp only at hSw); go_simp <;> with_reducible rfl)
    try simp only [Act.put, List.setIfInBounds_toArray, List.set_cons_zero, List.set_cons_succ]
    refine wpAnyH_take (i := 5) (oi := { dst := some 50, op := Op.load 110 (Operand.tmp 6), type := 110, pos := "l07_part.go:107", after := #[], guard := none }) (v := ?vy6) rfl (by kernel_rfl) (by kernel_rfl) (by kernel_rfl) (fun _ _ _ h => h) (Or.inl ⟨by rfl, ?hyy6⟩) hHeld ?_
    case hyy6 => (intro w hSw; (try dsimp only at hSw); go_simp <;> with_reducible rfl)
    try simp only [Act.put, List.setIfInBounds_toArray, List.set_cons_zero, List.set_cons_succ]
    refine wpAnyH_take (i := 8) (oi := { dst := some 53, op := Op.move (Operand.tmp 10), type := 4, pos := "l07_part.go:107", after := #[{ on := 9, ground := Ground.gcOnly Departure.lateStores }], guard := none }) (v := ?vy7) rfl (by kernel_rfl) (by kernel_rfl) (by kernel_rfl) (fun _ _ _ h => h) (Or.inl ⟨by rfl, ?hyy7⟩) hHeld ?_
    case hyy7 => (intro w hSw; (try dsimp only at hSw); go_simp <;> with_reducible rfl)
    try simp only [Act.put, List.setIfInBounds_toArray, List.set_cons_zero, List.set_cons_succ]
    refine wpAnyH_ready (rs := [6]) (by kernel_rfl) (by simp) ?_
    refine AllReadyH.cons (o := { dst := some 51, op := Op.call { callee := Callee.value (Operand.func 82), args := #[Operand.tmp 50], argTypes := #[110] }, type := 66, pos := "l07_part.go:107", after := #[{ on := 5, ground := Ground.data }], guard := none }) rfl (fun K hK => ?_) AllReadyH.nil
    go_simp
    refine (HLA.out _ (Below.refl w9.heap.size w9).drew).mono ?_
    rintro r wa ⟨⟨OM, Oc, Oz, rfl, hA, hP⟩, hy⟩
    have ZA : Hid (Below w9.heap.size w9 wa) := grow_on (Below.refl w9.heap.size w9).drew hy
    have OA : Hid (CB w9.heap.size wa OM Oc Oz ∧ chs Oz = putC C x) := ⟨hA, hP⟩
    clear hA hP hy
    clear hHeld
    refine hK.out _ _ (HS.out _ (H9.out.2.2.2.2.2.1.grow ZA.out) (H9.out.2.1.grow ZA.out)) (fun hHeld => ?_)
    clear hK K
    try simp only [Act.put, List.setIfInBounds_toArray, List.set_cons_zero, List.set_cons_succ]
    refine wpAnyH_take (i := 7) (oi := { dst := some 52, op := Op.build 68 #[(0, Operand.tmp 46), (1, Operand.tmp 49), (2, Operand.tmp 51)], type := 68, pos := "l07_part.go:107", after := #[{ on := 1, ground := Ground.data }, { on := 4, ground := Ground.data }, { on := 6, ground := Ground.data }], guard := none }) (v := ?vy9) rfl (by kernel_rfl) (by kernel_rfl) (by kernel_rfl) (fun _ _ _ h => h) (Or.inl ⟨by rfl, ?hyy9⟩) hHeld ?_
    case hyy9 => (intro w hSw; (try dsimp only at hSw); go_simp <;> with_reducible rfl)
    try simp only [Act.put, List.setIfInBounds_toArray, List.set_cons_zero, List.set_cons_succ]
    refine wpAnyH_ready (rs := [9]) (by kernel_rfl) (by simp) ?_
    refine AllReadyH.cons (o := { dst := none, op := Op.store 68 (Operand.tmp 4) (Operand.tmp 52), type := 0, pos := "l07_part.go:107", after := #[{ on := 7, ground := Ground.data }, { on := 6, ground := Ground.chain }, { on := 0, ground := Ground.phase }, { on := 1, ground := Ground.phase }, { on := 2, ground := Ground.phase }, { on := 3, ground := Ground.phase }, { on := 4, ground := Ground.phase }, { on := 5, ground := Ground.phase }, { on := 6, ground := Ground.phase }, { on := 7, ground := Ground.phase }, { on := 8, ground := Ground.textOnly Departure.lateStores }], guard := none }) rfl (fun K hK => ?_) AllReadyH.nil
    have hrb : Blk wa (w.heap.size + 2) #[.int .i64 0, .int .i64 0, .slice none 0 0] 68 := H9.out.2.2.2.2.2.2.grow ZA.out
    have n0 : wa.cell? ⟨w.heap.size + 2, 0, none⟩ = some (.int .i64 0) := hrb.cell 0
    have n1 : wa.cell? ⟨w.heap.size + 2, 1, none⟩ = some (.int .i64 0) := hrb.cell 1
    have n2 : wa.cell? ⟨w.heap.size + 2, 2, none⟩ = some (.slice none 0 0) := hrb.cell 2
    have m0 := hrb.frozen 0
    have m1 := hrb.frozen 1
    have m2 := hrb.frozen 2
    go_simp
    clear n0 n1 n2 m0 m1 m2 hHeld
    have q1 : w.heap.size + 2 ≠ w.heap.size := by omega
    have q2 : w.heap.size + 2 ≠ w2.heap.size := blkT_ne hrb (H9.out.2.1.grow ZA.out) (by decide)
    refine hK.out _ _ (HS.out _ ((((H9.out.2.2.2.2.2.1.grow ZA.out).set_other (p := ⟨w.heap.size + 2, 0, none⟩) q1 _).set_other (p := ⟨w.heap.size + 2, 1, none⟩) q1 _).set_other (p := ⟨w.heap.size + 2, 2, none⟩) q1 _) ((((H9.out.2.1.grow ZA.out).set_other (p := ⟨w.heap.size + 2, 0, none⟩) q2 _).set_other (p := ⟨w.heap.size + 2, 1, none⟩) q2 _).set_other (p := ⟨w.heap.size + 2, 2, none⟩) q2 _)) (fun hHeld => ?_)
    clear hK K q1 q2 hrb
    try simp only [Act.put, List.setIfInBounds_toArray, List.set_cons_zero, List.set_cons_succ]
    refine wpAnyH_take (i := 10) (oi := { dst := some 5, op := Op.assign (Operand.tmp 53), type := 4, pos := "l07_part.go:107", after := #[{ on := 8, ground := Ground.data }, { on := 9, ground := Ground.chain }, { on := 0, ground := Ground.phase }, { on := 1, ground := Ground.phase }, { on := 2, ground := Ground.phase }, { on := 3, ground := Ground.phase }, { on := 4, ground := Ground.phase }, { on := 5, ground := Ground.phase }, { on := 6, ground := Ground.phase }, { on := 7, ground := Ground.phase }, { on := 8, ground := Ground.phase }, { on := 9, ground := Ground.phase }], guard := none }) (v := ?vy11) rfl (by kernel_rfl) (by kernel_rfl) (by kernel_rfl) (fun _ _ _ h => h) (Or.inl ⟨by rfl, ?hyy11⟩) hHeld ?_
    case hyy11 => (intro w hSw; (try dsimp only at hSw); go_simp <;> with_reducible rfl)
    try simp only [Act.put, List.setIfInBounds_toArray, List.set_cons_zero, List.set_cons_succ]
    refine wpAnyH_done (by kernel_rfl) ?_ _
    go_wp2
    have hrb : Blk wa (w.heap.size + 2) #[.int .i64 0, .int .i64 0, .slice none 0 0] 68 := H9.out.2.2.2.2.2.2.grow ZA.out
    have hs := put3 hrb (.int .i64 hd) (.int .i64 vu) (.slice (some ⟨OM, 0, none⟩) Oz.length Oc)
    have s0 := hs.cell 0
    have s1 := hs.cell 1
    have s2 := hs.cell 2
    refine bodyPost_ret (v := .tuple #[.agg #[.int .i64 hd, .int .i64 vu, .slice (some ⟨OM, 0, none⟩) Oz.length Oc], .bool (isNew [] x.l)]) (by simp [results, Try.results37, go_sem, s0, s1, s2]) rfl ?_
    rw [HNW.out]
    refine ⟨⟨OM, Oc, Oz, ?_, (CB.set3 OA.out.1 hrb _ _ _).down (grow_on HW0.out.1 H9.out.1).size, OA.out.2⟩, set3 (grow_on (grow_on HW0.out.1 H9.out.1) ZA.out) (by omega) _ _ _⟩
    rfl
  · have HLk : Hid (shG C (fun i => chV (nthC C i) (ad i) (cp i)) C.length ((fingerB x.l : Int), 0) = some (chV (nthC C k) (ad k) (cp k))) := shG_first hk h3 h4
    have hck : (nthC C k).P.length + 1 ≤ 1048576 := by
      have h := HR.out.2.2.2.1
      have := sumC_nth hk
      omega
    have hpl := plan_some h0 hk h3 h4 HR.out.2.2.1 HR.out.2.2.2.2.1 hck
    obtain ⟨ks, hks⟩ : ∃ ks, keysC C = ks := ⟨_, rfl⟩
    have HKL : Hid (ks.length = C.length ∧ C.length ≤ 1048577) := ⟨by rw [← hks, keys_len], by omega⟩
    obtain ⟨Wt, hWt⟩ : ∃ Wt, W5.alloc (.cells #[.int .i64 (nthC C k).f, .slice (ad k) (nthC C k).P.length (cp k)] 26) = Wt := ⟨_, rfl⟩
    have hb6 : Below W5.heap.size W5 Wt := by rw [← hWt]; exact Go.Joins.below_alloc1 W5 _
    have hB6 : Blk Wt W5.heap.size #[.int .i64 (nthC C k).f, .slice (ad k) (nthC C k).P.length (cp k)] 26 := by rw [← hWt]; exact Blk.new _ _ _
    have hbW := grow_on H5.out.1 hb6
    have HWt : Hid (W5.alloc (.cells #[.int .i64 (nthC C k).f, .slice (ad k) (nthC C k).P.length (cp k)] 26) = Wt) := hWt
    have HT : Hid (Below W0.heap.size W0 Wt ∧ Blk Wt W5.heap.size #[.int .i64 (nthC C k).f, .slice (ad k) (nthC C k).P.length (cp k)] 26 ∧ Blk Wt w4.heap.size #[.int .i64 (fingerB x.l : Int), .int .i64 0] 113 ∧ Blk Wt w2.heap.size #[.map (some Mm), .slice (some ⟨Ms, 0, none⟩) C.length C.length] 110 ∧ MapG TwoK Wt Mm (shG C (fun i => chV (nthC C i) (ad i) (cp i)) C.length) ∧ SlotL Wt Ms ks ∧ RdA Wt (ad k) (nthC C k).P) := by
      refine ⟨hbW, hB6, H5.out.2.2.2.2.1.grow hb6, H5.out.2.1.grow hb6, H5.out.2.2.1.grow hb6, ?_, (HSH.out.1 k hk).below hbW⟩
      rw [← hks]; exact slot_of (r := []) (H5.out.2.2.2.1.blk.grow hb6) (by rw [slots_flat H5.out.2.2.2.1]; simp)
    have HPc : Hid ((nthC C k).P.length ≤ 1048576 ∧ LenM (nthC C k).P) := HR.out.2.2.1 _ (nthC_mem' hk)
    have HN : Hid (W0.heap.size ≤ W5.heap.size) := H5.out.1.size
    rw [hks] at hpl
    have HPl : Hid (Plan C x (putC C x) ks (nthC C k).f (nthC C k).P) := hpl.1
    have HO : Hid (Others C x ks) := hpl.2
    clear hks h0 h1 h3 h4 hb6 hB6 hbW hck hpl hWt
    go_upto_region 4 with (at_lookup; refine wp_lookup _ rfl _ _ 107 true rfl 113 26 TwoK asked_slot Try.underlying107 (zeroC _) Mm (shG C (fun i => chV (nthC C i) (ad i) (cp i)) C.length) rfl H5.out.2.2.1 ((fingerB x.l : Int), 0) rfl (.tuple #[.agg #[.int .i64 (nthC C k).f, .slice (ad k) (nthC C k).P.length (cp k)], .bool true]) (by rw [HLk.out]; rfl) ?_)
    try rw [HWt.out]
    clear HWt m0 t0 t1
    have HAB : Hid (Blk Wt (w.heap.size + 1) #[.slice (some ⟨g, o, none⟩) x.l.length cap', .int .i64 x.s, .int .i64 x.e, .string x.n] 29) := HW0.out.2.2.1.grow HT.out.1
    have b0 : Wt.cell? ⟨W5.heap.size, 0, none⟩ = some (.int .i64 (nthC C k).f) := HT.out.2.1.cell 0
    have b1 : Wt.cell? ⟨W5.heap.size, 1, none⟩ = some (.slice (ad k) (nthC C k).P.length (cp k)) := HT.out.2.1.cell 1
    have a0 : Wt.cell? ⟨w.heap.size + 1, 0, none⟩ = some (.slice (some ⟨g, o, none⟩) x.l.length cap') := HAB.out.cell 0
    have a1 : Wt.cell? ⟨w.heap.size + 1, 1, none⟩ = some (.int .i64 x.s) := HAB.out.cell 1
    have a2 : Wt.cell? ⟨w.heap.size + 1, 2, none⟩ = some (.int .i64 x.e) := HAB.out.cell 2
    have a3 : Wt.cell? ⟨w.heap.size + 1, 3, none⟩ = some (.string x.n) := HAB.out.cell 3
    go_wp2_with fail
    refine (ChnP.implPut_any (nthC C k).f (ad k) (cp k) (nthC C k).P g o cap' x Wt HT.out.2.2.2.2.2.2 (HR.out.2.1.below (grow_on HW0.out.1 HT.out.1)) HPc.out.1 HPc.out.2 HR.out.2.2.2.2.1).mono ?_
    rintro e w7 ⟨⟨M1, c1, rs1, rfl, hA, hp⟩, hb7⟩
    obtain ⟨W8, hW8⟩ : ∃ W8, (w7.setCell ⟨W5.heap.size, 0, none⟩ (.int .i64 (nthC C k).f)).setCell ⟨W5.heap.size, 1, none⟩ (.slice (some ⟨M1, 0, none⟩) rs1.length c1) = W8 := ⟨_, rfl⟩
    have hB7 := HT.out.2.1.grow hb7
    have H8 : Hid (Below W0.heap.size W0 W8 ∧ Blk W8 W5.heap.size #[.int .i64 (nthC C k).f, .slice (some ⟨M1, 0, none⟩) rs1.length c1] 26 ∧ Blk W8 w4.heap.size #[.int .i64 (fingerB x.l : Int), .int .i64 0] 113 ∧ Blk W8 w2.heap.size #[.map (some Mm), .slice (some ⟨Ms, 0, none⟩) C.length C.length] 110 ∧ MapG TwoK W8 Mm (shG C (fun i => chV (nthC C i) (ad i) (cp i)) C.length) ∧ SlotL W8 Ms ks ∧ AB Wt.heap.size W8 M1 c1 rs1) := by
      rw [← hW8]
      have n1 := blkT_ne hB7 (HT.out.2.2.1.grow hb7) (by decide)
      have n2 := blkT_ne hB7 (HT.out.2.2.2.1.grow hb7) (by decide)
      have n3 := (HT.out.2.2.2.2.1.grow hb7).ne_blk hB7
      exact ⟨set2 (grow_on HT.out.1 hb7) HN.out _ _, (hB7.set 0 _).set 1 _, ((HT.out.2.2.1.grow hb7).set_other (p := ⟨W5.heap.size, 0, none⟩) n1 _).set_other (p := ⟨W5.heap.size, 1, none⟩) n1 _, ((HT.out.2.2.2.1.grow hb7).set_other (p := ⟨W5.heap.size, 0, none⟩) n2 _).set_other (p := ⟨W5.heap.size, 1, none⟩) n2 _, ((HT.out.2.2.2.2.1.grow hb7).set n3).set n3, slot_kept (HT.out.2.2.2.2.2.1.grow hb7) (fun h => (h.set_other (p := ⟨W5.heap.size, 0, none⟩) (blkT_ne hB7 h (by decide)) _).set_other (p := ⟨W5.heap.size, 1, none⟩) (blkT_ne hB7 h (by decide)) _), ab_set2 hA hB7 _ _⟩
    have HL1 : Hid (rs1.length = (putL (nthC C k).P x).length ∧ pals rs1 = putL (nthC C k).P x) := ⟨by rw [← pals_len, hp], hp⟩
    have x0 : w7.cell? ⟨W5.heap.size, 0, none⟩ = some (.int .i64 (nthC C k).f) := hB7.cell 0
    have x1 : w7.cell? ⟨W5.heap.size, 1, none⟩ = some (.slice (ad k) (nthC C k).P.length (cp k)) := hB7.cell 1
    have f0 := hB7.frozen 0
    have f1 := hB7.frozen 1
    have y0 : W8.cell? ⟨W5.heap.size, 0, none⟩ = some (.int .i64 (nthC C k).f) := H8.out.2.1.cell 0
    have y1 : W8.cell? ⟨W5.heap.size, 1, none⟩ = some (.slice (some ⟨M1, 0, none⟩) rs1.length c1) := H8.out.2.1.cell 1
    have k0 : W8.cell? ⟨w4.heap.size, 0, none⟩ = some (.int .i64 (fingerB x.l : Int)) := H8.out.2.2.1.cell 0
    have k1 : W8.cell? ⟨w4.heap.size, 1, none⟩ = some (.int .i64 0) := H8.out.2.2.1.cell 1
    have m1 : W8.cell? ⟨w2.heap.size, 0, none⟩ = some (.map (some Mm)) := H8.out.2.2.2.1.cell 0
    clear hA hp hb7 hB7 b0 b1 a0 a1 a2 a3
    go_wp2_with (at_mapUpdate; refine wp_update _ rfl _ _ _ 107 rfl 113 26 TwoK asked_slot Try.underlying107 Mm (shG C (fun i => chV (nthC C i) (ad i) (cp i)) C.length) rfl H8.out.2.2.2.2.1 ((fingerB x.l : Int), 0) (.agg #[.int .i64 (nthC C k).f, .slice (some ⟨M1, 0, none⟩) rs1.length c1]) rfl rfl ?_)
    intro w9 hm9 hg9 hs9
    have hmp := H8.out.2.2.2.2.1
    have H9 : Hid (Below W0.heap.size W0 w9 ∧ Blk w9 w2.heap.size #[.map (some Mm), .slice (some ⟨Ms, 0, none⟩) C.length C.length] 110 ∧ MapG TwoK w9 Mm (updG (shG C (fun i => chV (nthC C i) (ad i) (cp i)) C.length) ((fingerB x.l : Int), 0) (some (.agg #[.int .i64 (nthC C k).f, .slice (some ⟨M1, 0, none⟩) rs1.length c1]))) ∧ SlotL w9 Ms ks ∧ AB Wt.heap.size w9 M1 c1 rs1 ∧ Blk w9 w.heap.size #[.int .i64 hd, .int .i64 vr, .slice a C.length cap] 68 ∧ Blk w9 (w.heap.size + 2) #[.int .i64 0, .int .i64 0, .slice none 0 0] 68) := by
      have hb9 := mapDown H8.out.1 hg9 (Nat.le_refl _) HSH.out.2.1
      exact ⟨hb9, blk_map H8.out.2.2.2.1 hmp hg9, hm9, slot_kept H8.out.2.2.2.2.2.1 (fun h => blk_map h hmp hg9), Chs.ab_moved H8.out.2.2.2.2.2.2 (moved_map hmp hg9), HW0.out.2.1.grow hb9, HW0.out.2.2.2.1.grow hb9⟩
    clear hm9 hg9 hs9 hmp x0 x1 f0 f1 y0 y1 k0 k1 m1 hW8
    have HLA : Hid (∀ z, Below w9.heap.size w9 z → Calls Try.prog 82 #[.agg #[.map (some Mm), .slice (some ⟨Ms, 0, none⟩) C.length C.length]] z fun e w' => (∃ M c cs, e = .returned (.slice (some ⟨M, 0, none⟩) cs.length c) ∧ CB z.heap.size w' M c cs ∧ chs cs = putC C x) ∧ Below z.heap.size z w') := fun z hz => by
      have hln := HPl.out.len
      have h := laid_any Mm Ms C.length _ ks ((putC C x).map some) z (H9.out.2.2.1.grow hz) (H9.out.2.2.2.1.grow hz) (by rw [List.length_map, hln]) (fun i hi => by
        rw [somes_nth (by omega)]
        by_cases e : nthK ks i = ((fingerB x.l : Int), 0)
        · rw [e, upd_at, HPl.out.here i (by omega) e]
          refine ⟨some ⟨M1, 0, none⟩, c1, by rw [HL1.out.1], ?_⟩
          have hrd := (H9.out.2.2.2.2.1.grow hz).rd.rd
          rw [HL1.out.2] at hrd
          exact hrd
        · rw [upd_no e]
          obtain ⟨j, hj, h1, h2⟩ := HO.out i hi e
          rw [h1, h2]
          exact ent_other (HSH.out.1 j hj) (grow_on H9.out.1 hz) (shG_at hj)) (by have := HKL.out.1; have := HKL.out.2; omega) (fun i y hi hv => by
        rw [somes_nth (by omega)] at hv
        cases hv
        exact HPl.out.lens i (by omega))
      have e : laidTo ((putC C x).map some) ks.length = putC C x := by have := laid_somes (putC C x); rw [List.length_map] at this; rw [hln]; exact this
      rw [e, HKL.out.1] at h
      exact h
    have HNW : Hid (isNew (nthC C k).P x.l = newC C x) := HPl.out.new
    go_upto_region 9 with fail
    have HS : Hid (∀ w', Blk w' w.heap.size #[.int .i64 hd, .int .i64 vr, .slice a C.length cap] 68 → Blk w' w2.heap.size #[.map (some Mm), .slice (some ⟨Ms, 0, none⟩) C.length C.length] 110 → w'.cell? ⟨w.heap.size, 0, none⟩ = some (.int .i64 hd) ∧ w'.cell? ⟨w.heap.size, 1, none⟩ = some (.int .i64 vr) ∧ w'.cell? ⟨w2.heap.size, 0, none⟩ = some (.map (some Mm)) ∧ w'.cell? ⟨w2.heap.size, 1, none⟩ = some (.slice (some ⟨Ms, 0, none⟩) C.length C.length)) := fun w' h k => ⟨h.cell 0, h.cell 1, k.cell 0, k.cell 1⟩
    refine wp_region_held_drew (S := fun w' => w'.cell? ⟨w.heap.size, 0, none⟩ = some (.int .i64 hd) ∧ w'.cell? ⟨w.heap.size, 1, none⟩ = some (.int .i64 vr) ∧ w'.cell? ⟨w2.heap.size, 0, none⟩ = some (.map (some Mm)) ∧ w'.cell? ⟨w2.heap.size, 1, none⟩ = some (.slice (some ⟨Ms, 0, none⟩) C.length C.length)) (by kernel_rfl) (HS.out _ H9.out.2.2.2.2.2.1.drew H9.out.2.1.drew) (fun hHeld => ?_)
    refine wpAnyH_take (i := 0) (oi := { dst := some 45, op := Op.fieldAddr 68 (Operand.tmp 2) 0, type := 0, pos := "l07_part.go:107", after := #[], guard := none }) (v := ?vz1) rfl (by kernel_rfl) (by kernel_rfl) (by kernel_rfl) (fun _ _ _ h => h) (Or.inl ⟨by rfl, ?hyz1⟩) hHeld ?_
    case hyz1 => (intro w hSw; (try dsimp only at hSw); go_simp <;> with_reducible rfl)
    try simp only [Act.put, List.setIfInBounds_toArray, List.set_cons_zero, List.set_cons_succ]
    refine wpAnyH_take (i := 1) (oi := { dst := some 46, op := Op.load 3 (Operand.tmp 45), type := 3, pos := "l07_part.go:107", after := #[{ on := 0, ground := Ground.data }], guard := none }) (v := ?vz2) rfl (by kernel_rfl) (by kernel_rfl) (by kernel_rfl) (fun _ _ _ h => h) (Or.inl ⟨by rfl, ?hyz2⟩) hHeld ?_
    case hyz2 => (intro w hSw; (try dsimp only at hSw); go_simp <;> with_reducible rfl)
    try simp only [Act.put, List.setIfInBounds_toArray, List.set_cons_zero, List.set_cons_succ]
    refine wpAnyH_take (i := 2) (oi := { dst := some 47, op := Op.fieldAddr 68 (Operand.tmp 2) 1, type := 0, pos := "l07_part.go:107", after := #[], guard := none }) (v := ?vz3) rfl (by kernel_rfl) (by kernel_rfl) (by kernel_rfl) (fun _ _ _ h => h) (Or.inl ⟨by rfl, ?hyz3⟩) hHeld ?_
    case hyz3 => (intro w hSw; (try dsimp only at hSw); go_simp <;> with_reducible rfl)
    try simp only [Act.put, List.setIfInBounds_toArray, List.set_cons_zero, List.set_cons_succ]
    refine wpAnyH_take (i := 3) (oi := { dst := some 48, op := Op.load 3 (Operand.tmp 47), type := 3, pos := "l07_part.go:107", after := #[{ on := 2, ground := Ground.data }], guard := none }) (v := ?vz4) rfl (by kernel_rfl) (by kernel_rfl) (by kernel_rfl) (fun _ _ _ h => h) (Or.inl ⟨by rfl, ?hyz4⟩) hHeld ?_
    case hyz4 => (intro w hSw; (try dsimp only at hSw); go_simp <;> with_reducible rfl)
    try simp only [Act.put, List.setIfInBounds_toArray, List.set_cons_zero, List.set_cons_succ]
    refine wpAnyH_take (i := 4) (oi := { dst := some 49, op := Op.binOp BinOp.add 3 (Operand.tmp 48) (Operand.const (Value.int IntKind.i64 1)) 3, type := 3, pos := "l07_part.go:107", after := #[{ on := 3, ground := Ground.data }], guard := none }) (v := ?vz5) rfl (by kernel_rfl) (by kernel_rfl) (by kernel_rfl) (fun _ _ _ h => h) (Or.inl ⟨by rfl, ?hyz5⟩) hHeld ?_
    case hyz5 => (intro w hSw; (try dsimp only at hSw); go_simp <;> with_reducible rfl)
    try simp only [Act.put, List.setIfInBounds_toArray, List.set_cons_zero, List.set_cons_succ]
    refine wpAnyH_take (i := 5) (oi := { dst := some 50, op := Op.load 110 (Operand.tmp 6), type := 110, pos := "l07_part.go:107", after := #[], guard := none }) (v := ?vz6) rfl (by kernel_rfl) (by kernel_rfl) (by kernel_rfl) (fun _ _ _ h => h) (Or.inl ⟨by rfl, ?hyz6⟩) hHeld ?_
    case hyz6 => (intro w hSw; (try dsimp only at hSw); go_simp <;> with_reducible rfl)
    try simp only [Act.put, List.setIfInBounds_toArray, List.set_cons_zero, List.set_cons_succ]
    refine wpAnyH_take (i := 8) (oi := { dst := some 53, op := Op.move (Operand.tmp 10), type := 4, pos := "l07_part.go:107", after := #[{ on := 9, ground := Ground.gcOnly Departure.lateStores }], guard := none }) (v := ?vz7) rfl (by kernel_rfl) (by kernel_rfl) (by kernel_rfl) (fun _ _ _ h => h) (Or.inl ⟨by rfl, ?hyz7⟩) hHeld ?_
    case hyz7 => (intro w hSw; (try dsimp only at hSw); go_simp <;> with_reducible rfl)
    try simp only [Act.put, List.setIfInBounds_toArray, List.set_cons_zero, List.set_cons_succ]
    refine wpAnyH_ready (rs := [6]) (by kernel_rfl) (by simp) ?_
    refine AllReadyH.cons (o := { dst := some 51, op := Op.call { callee := Callee.value (Operand.func 82), args := #[Operand.tmp 50], argTypes := #[110] }, type := 66, pos := "l07_part.go:107", after := #[{ on := 5, ground := Ground.data }], guard := none }) rfl (fun K hK => ?_) AllReadyH.nil
    go_simp
    refine (HLA.out _ (Below.refl w9.heap.size w9).drew).mono ?_
    rintro r wa ⟨⟨OM, Oc, Oz, rfl, hA, hP⟩, hy⟩
    have ZA : Hid (Below w9.heap.size w9 wa) := grow_on (Below.refl w9.heap.size w9).drew hy
    have OA : Hid (CB w9.heap.size wa OM Oc Oz ∧ chs Oz = putC C x) := ⟨hA, hP⟩
    clear hA hP hy
    clear hHeld
    refine hK.out _ _ (HS.out _ (H9.out.2.2.2.2.2.1.grow ZA.out) (H9.out.2.1.grow ZA.out)) (fun hHeld => ?_)
    clear hK K
    try simp only [Act.put, List.setIfInBounds_toArray, List.set_cons_zero, List.set_cons_succ]
    refine wpAnyH_take (i := 7) (oi := { dst := some 52, op := Op.build 68 #[(0, Operand.tmp 46), (1, Operand.tmp 49), (2, Operand.tmp 51)], type := 68, pos := "l07_part.go:107", after := #[{ on := 1, ground := Ground.data }, { on := 4, ground := Ground.data }, { on := 6, ground := Ground.data }], guard := none }) (v := ?vz9) rfl (by kernel_rfl) (by kernel_rfl) (by kernel_rfl) (fun _ _ _ h => h) (Or.inl ⟨by rfl, ?hyz9⟩) hHeld ?_
    case hyz9 => (intro w hSw; (try dsimp only at hSw); go_simp <;> with_reducible rfl)
    try simp only [Act.put, List.setIfInBounds_toArray, List.set_cons_zero, List.set_cons_succ]
    refine wpAnyH_ready (rs := [9]) (by kernel_rfl) (by simp) ?_
    refine AllReadyH.cons (o := { dst := none, op := Op.store 68 (Operand.tmp 4) (Operand.tmp 52), type := 0, pos := "l07_part.go:107", after := #[{ on := 7, ground := Ground.data }, { on := 6, ground := Ground.chain }, { on := 0, ground := Ground.phase }, { on := 1, ground := Ground.phase }, { on := 2, ground := Ground.phase }, { on := 3, ground := Ground.phase }, { on := 4, ground := Ground.phase }, { on := 5, ground := Ground.phase }, { on := 6, ground := Ground.phase }, { on := 7, ground := Ground.phase }, { on := 8, ground := Ground.textOnly Departure.lateStores }], guard := none }) rfl (fun K hK => ?_) AllReadyH.nil
    have hrb : Blk wa (w.heap.size + 2) #[.int .i64 0, .int .i64 0, .slice none 0 0] 68 := H9.out.2.2.2.2.2.2.grow ZA.out
    have n0 : wa.cell? ⟨w.heap.size + 2, 0, none⟩ = some (.int .i64 0) := hrb.cell 0
    have n1 : wa.cell? ⟨w.heap.size + 2, 1, none⟩ = some (.int .i64 0) := hrb.cell 1
    have n2 : wa.cell? ⟨w.heap.size + 2, 2, none⟩ = some (.slice none 0 0) := hrb.cell 2
    have m0 := hrb.frozen 0
    have m1 := hrb.frozen 1
    have m2 := hrb.frozen 2
    go_simp
    clear n0 n1 n2 m0 m1 m2 hHeld
    have q1 : w.heap.size + 2 ≠ w.heap.size := by omega
    have q2 : w.heap.size + 2 ≠ w2.heap.size := blkT_ne hrb (H9.out.2.1.grow ZA.out) (by decide)
    refine hK.out _ _ (HS.out _ ((((H9.out.2.2.2.2.2.1.grow ZA.out).set_other (p := ⟨w.heap.size + 2, 0, none⟩) q1 _).set_other (p := ⟨w.heap.size + 2, 1, none⟩) q1 _).set_other (p := ⟨w.heap.size + 2, 2, none⟩) q1 _) ((((H9.out.2.1.grow ZA.out).set_other (p := ⟨w.heap.size + 2, 0, none⟩) q2 _).set_other (p := ⟨w.heap.size + 2, 1, none⟩) q2 _).set_other (p := ⟨w.heap.size + 2, 2, none⟩) q2 _)) (fun hHeld => ?_)
    clear hK K q1 q2 hrb
    try simp only [Act.put, List.setIfInBounds_toArray, List.set_cons_zero, List.set_cons_succ]
    refine wpAnyH_take (i := 10) (oi := { dst := some 5, op := Op.assign (Operand.tmp 53), type := 4, pos := "l07_part.go:107", after := #[{ on := 8, ground := Ground.data }, { on := 9, ground := Ground.chain }, { on := 0, ground := Ground.phase }, { on := 1, ground := Ground.phase }, { on := 2, ground := Ground.phase }, { on := 3, ground := Ground.phase }, { on := 4, ground := Ground.phase }, { on := 5, ground := Ground.phase }, { on := 6, ground := Ground.phase }, { on := 7, ground := Ground.phase }, { on := 8, ground := Ground.phase }, { on := 9, ground := Ground.phase }], guard := none }) (v := ?vz11) rfl (by kernel_rfl) (by kernel_rfl) (by kernel_rfl) (fun _ _ _ h => h) (Or.inl ⟨by rfl, ?hyz11⟩) hHeld ?_
    case hyz11 => (intro w hSw; (try dsimp only at hSw); go_simp <;> with_reducible rfl)
    try simp only [Act.put, List.setIfInBounds_toArray, List.set_cons_zero, List.set_cons_succ]
    refine wpAnyH_done (by kernel_rfl) ?_ _
    go_wp2
    have hrb : Blk wa (w.heap.size + 2) #[.int .i64 0, .int .i64 0, .slice none 0 0] 68 := H9.out.2.2.2.2.2.2.grow ZA.out
    have hs := put3 hrb (.int .i64 hd) (.int .i64 vu) (.slice (some ⟨OM, 0, none⟩) Oz.length Oc)
    have s0 := hs.cell 0
    have s1 := hs.cell 1
    have s2 := hs.cell 2
    refine bodyPost_ret (v := .tuple #[.agg #[.int .i64 hd, .int .i64 vu, .slice (some ⟨OM, 0, none⟩) Oz.length Oc], .bool (isNew (nthC C k).P x.l)]) (by simp [results, Try.results37, go_sem, s0, s1, s2]) rfl ?_
    rw [HNW.out]
    refine ⟨⟨OM, Oc, Oz, ?_, (CB.set3 OA.out.1 hrb _ _ _).down (grow_on HW0.out.1 H9.out.1).size, OA.out.2⟩, set3 (grow_on (grow_on HW0.out.1 H9.out.1) ZA.out) (by omega) _ _ _⟩
    rfl
end Go.Proofs.Ytcopckbpflmmeaa.PrtZ
