/-
  PROVED: the contracts of what the exact laws call over one who listens: the size that szSub counts, the copy that toSub makes, that eqSub finds two of the same alike, the marks that markSub writes and heldSub finds; what one that came in is; impl.SubOk, spec.SubOk, impl.SameSub and spec.SameSub answer as plain functions on lists say.
-/
import Derived.Test.YtdmhccheaemkkaaLsO
import Derived.Test.YtdmhccheaemkkaaLsS
import Derived.Deep.DeepCutAuto
namespace Go.Proofs.Ytdmhccheaemkkaa.Sub
open Go.RowKit
open Go.ChangeShapes Go.WideShapes
open Go.Proofs.Ytdmhccheaemkkaa.Labs Go.Proofs.Ytdmhccheaemkkaa.LabS Go.Proofs.Ytdmhccheaemkkaa.Alms Go.Proofs.Ytdmhccheaemkkaa.AlmS Go.Proofs.Ytdmhccheaemkkaa.AlmM Go.Proofs.Ytdmhccheaemkkaa.Over Go.Proofs.Ytdmhccheaemkkaa.Blk Go.Proofs.Ytdmhccheaemkkaa.App Go.Proofs.Ytdmhccheaemkkaa.Rws Go.Proofs.Ytdmhccheaemkkaa.ChnI Go.Proofs.Ytdmhccheaemkkaa.ChnC Go.Proofs.Ytdmhccheaemkkaa.ChnK Go.Proofs.Ytdmhccheaemkkaa.Chs
open Go.Proofs.Ytdmhccheaemkkaa.StrB (retB)
open Go.Proofs.Ytdmhccheaemkkaa.Alm (at_par)
open Go.Proofs.Ytdmhccheaemkkaa.ChnP (set2)
set_option linter.unusedVariables false

theorem sz_any (g : Bool) (a : Option Addr) (cap : Nat) (P : List PAl) (left : Int) (w : World) (hr : RdA w a P) (hl : P.length ≤ maxLen) (hz : FitsP P) (h0 : 0 ≤ left) (h1 : left ≤ 1048576) :
    Calls Try.prog 31 #[.agg #[.slice a P.length cap, .bool g], .int .i64 left] w fun e w' => (∃ n : Int, e = .returned (.int .i64 n) ∧ n ≤ left ∧ (0 ≤ n → n + (P.length : Int) + (sumL P : Int) ≤ left)) ∧ Below w.heap.size w w' := by
  have HR : Hid (RdA w a P ∧ P.length ≤ maxLen ∧ FitsP P) := ⟨hr, hl, hz⟩
  clear hr hl hz
  go_enter Try.func31, Try.ntmps31
  go_wp2_with fail
  refine (Alms.sz_any a cap P left _ (HR.out.1.below (Go.Joins.below_alloc1 w _)) HR.out.2.1 HR.out.2.2 h0 h1).mono ?_
  rintro r w1 ⟨⟨n, rfl, hn, hn2⟩, hb⟩
  have HB : Hid (Below w.heap.size w w1) := grow_on (Go.Joins.below_alloc1 w _) hb
  have HN : Hid (0 ≤ n → n + (P.length : Int) + (sumL P : Int) ≤ left) := hn2
  clear hb hn2
  by_cases g : n < 0
  · go_wp2
    go_ret
    exact ⟨⟨-1, rfl, by omega, fun h => by omega⟩, HB.out⟩
  · go_wp2
    go_ret
    exact ⟨⟨_, rfl, hn, HN.out⟩, HB.out⟩

set_option maxHeartbeats 400000 in
theorem to_any (g : Bool) (a : Option Addr) (cap : Nat) (P : List PAl) (w : World) (hr : RdA w a P) (hl : P.length ≤ 1048576) (hs : sumL P ≤ 1048576) :
    Calls Try.prog 32 #[.agg #[.slice a P.length cap, .bool g]] w fun r w' => (∃ M rs, r = .returned (.agg #[.slice (some ⟨M, 0, none⟩) P.length P.length, .bool g]) ∧ AB (w.heap.size + 3) w' M P.length rs ∧ pals rs = P) ∧ Below w.heap.size w w' := by
  have HR : Hid (RdA w a P) := hr
  have HS : Hid (sumL P ≤ 1048576) := hs
  clear hr hs
  generalize hW0 : ((w.alloc (.cells #[.slice a P.length cap, .bool g] 52)).alloc (.cells #[.slice none 0 0, .bool false] 26)).alloc (.cells #[.slice none 0 0, .bool false] 26) = W0
  have HB0 : Hid (Below w.heap.size w W0) := by rw [← hW0]; exact Alm.below3 w _ _ _
  have P0 : Hid (Blk W0 w.heap.size #[.slice a P.length cap, .bool g] 52) := by rw [← hW0]; exact ((Blk.new _ _ _).alloc _).alloc _
  have R0 : Hid (Blk W0 (w.heap.size + 1) #[.slice none 0 0, .bool false] 26) := by rw [← hW0]; exact (Blk.new_at (by simp)).alloc _
  have O0 : Hid (Blk W0 (w.heap.size + 1 + 1) #[.slice none 0 0, .bool false] 26) := by rw [← hW0]; exact Blk.new_at (by simp)
  have HZ : Hid (W0.heap.size = w.heap.size + 3) := by show _ = _; rw [← hW0]; simp
  go_enter Try.func32, Try.ntmps32
  go_upto_region 2 with fail
  clear hW0
  have p0 : W0.cell? ⟨w.heap.size, 0, none⟩ = some (.slice a P.length cap) := P0.out.cell 0
  go_wp2_with fail
  refine (Alms.to_any a cap P _ (HR.out.below HB0.out) hl HS.out).mono ?_
  rintro r w1 ⟨rfl, ⟨cs, g', hC⟩, hb⟩
  rw [HZ.out] at hC
  obtain ⟨rs, hab, hp⟩ := copy_ab (lo := w.heap.size + 3) hC (by omega) hl (fun i hi => Nat.le_trans (sum_nth hi) HS.out)
  have HC : Hid (AB (w.heap.size + 3) w1 (w.heap.size + 3) P.length rs ∧ pals rs = P) := ⟨hab, hp⟩
  have HB : Hid (Below w.heap.size w w1) := grow_on HB0.out hb
  have RR : Hid (Blk w1 (w.heap.size + 1) #[.slice none 0 0, .bool false] 26) := R0.out.grow hb
  have OO : Hid (Blk w1 (w.heap.size + 1 + 1) #[.slice none 0 0, .bool false] 26) := O0.out.grow hb
  have p1 : w1.cell? ⟨w.heap.size, 1, none⟩ = some (.bool g) := (P0.out.grow hb).cell 1
  have o0 : w1.cell? ⟨w.heap.size + 1 + 1, 0, none⟩ = some (.slice none 0 0) := OO.out.cell 0
  have o1 : w1.cell? ⟨w.heap.size + 1 + 1, 1, none⟩ = some (.bool false) := OO.out.cell 1
  have fo0 := OO.out.frozen 0
  have fo1 := OO.out.frozen 1
  have r0 : w1.cell? ⟨w.heap.size + 1, 0, none⟩ = some (.slice none 0 0) := RR.out.cell 0
  have r1 : w1.cell? ⟨w.heap.size + 1, 1, none⟩ = some (.bool false) := RR.out.cell 1
  have f0 := RR.out.frozen 0
  have f1 := RR.out.frozen 1
  have HZ2 : w.heap.size + 3 = W0.heap.size := HZ.out.symm
  clear hb hC hab hp p0
  rw [HZ.out]
  clear HZ2
  go_wp2
  have hs : Blk ((((w1.setCell ⟨w.heap.size + 1 + 1, 0, none⟩ (.slice (some ⟨w.heap.size + 3, 0, none⟩) P.length P.length)).setCell ⟨w.heap.size + 1 + 1, 1, none⟩ (.bool g)).setCell ⟨w.heap.size + 1, 0, none⟩ (.slice (some ⟨w.heap.size + 3, 0, none⟩) P.length P.length)).setCell ⟨w.heap.size + 1, 1, none⟩ (.bool g)) (w.heap.size + 1) #[.slice (some ⟨w.heap.size + 3, 0, none⟩) P.length P.length, .bool g] 26 := (((RR.out.set_other (by show w.heap.size + 1 + 1 ≠ w.heap.size + 1; omega) _).set_other (by show w.heap.size + 1 + 1 ≠ w.heap.size + 1; omega) _).set 0 _).set 1 _
  have s0 := hs.cell 0
  have s1 := hs.cell 1
  refine bodyPost_ret (v := .agg #[.slice (some ⟨w.heap.size + 3, 0, none⟩) P.length P.length, .bool g]) (by simp [results, Try.results32, go_sem, s0, s1]) rfl ?_
  exact ⟨⟨w.heap.size + 3, rs, rfl, DrawC.ab_under (DrawC.ab_under (DrawC.ab_under (DrawC.ab_under HC.out.1 (A := w.heap.size + 1 + 1) (by omega) _ _) (A := w.heap.size + 1 + 1) (by omega) _ _) (A := w.heap.size + 1) (by omega) _ _) (A := w.heap.size + 1) (by omega) _ _, HC.out.2⟩, set2 (set2 HB.out (by omega) _ _) (Nat.le_add_right w.heap.size 1) _ _⟩

theorem eq_any (g : Bool) (a a' : Option Addr) (cap cap' : Nat) (P : List PAl) (w : World) (hr : RdA w a P) (hr' : RdA w a' P) (hl : P.length ≤ maxLen) (hz : FitsP P) :
    Calls Try.prog 33 #[.agg #[.slice a P.length cap, .bool g], .agg #[.slice a' P.length cap', .bool g]] w fun e w' => e = .returned (.bool true) ∧ Below w.heap.size w w' := by
  have HR : Hid (RdA w a P ∧ RdA w a' P ∧ P.length ≤ maxLen ∧ FitsP P) := ⟨hr, hr', hl, hz⟩
  clear hr hr' hl hz
  go_enter Try.func33, Try.ntmps33
  go_wp2_with fail
  refine (Alms.eq_any a a' cap cap' P _ (HR.out.1.below (Go.Joins.below_alloc2 w _ _)) (HR.out.2.1.below (Go.Joins.below_alloc2 w _ _)) HR.out.2.2.1 HR.out.2.2.2).mono ?_
  rintro r w1 ⟨rfl, hb⟩
  have hP : Blk w1 w.heap.size #[.slice a P.length cap, .bool g] 26 := ((Blk.new _ _ _).alloc _).grow hb
  have hQ : Blk w1 (w.heap.size + 1) #[.slice a' P.length cap', .bool g] 26 := (Blk.new_at (by simp)).grow hb
  have p1 : w1.cell? ⟨w.heap.size, 1, none⟩ = some (.bool g) := hP.cell 1
  have q1 : w1.cell? ⟨w.heap.size + 1, 1, none⟩ = some (.bool g) := hQ.cell 1
  have HB : Hid (Below w.heap.size w w1) := grow_on (Go.Joins.below_alloc2 w _ _) hb
  clear hb hP hQ
  cases g <;> (go_wp2; go_ret; exact ⟨rfl, HB.out⟩)

theorem mark_any (g : Bool) (M o k lo cap : Nat) (rs : List ARow) (w : World) (hAO : AO lo w M o rs) (hl : rs.length ≤ 2000000) (hk : 1 ≤ k) (hk2 : k + sumA rs ≤ 9000000) :
    Calls Try.prog 37 #[.agg #[.slice (some ⟨M, o, none⟩) rs.length cap, .bool g], .int .i64 k] w fun e w' => e = .returned (.int .i64 ((k + sumA rs : Nat) : Int)) ∧ MO w' M o rs k rs.length ∧ Only (blks M rs) w w' := by
  have HAO : Hid (AO lo w M o rs) := hAO
  clear hAO
  go_enter Try.func37, Try.ntmps37
  go_wp2_with fail
  refine (markO_any M o k lo cap rs _ (HAO.out.grow (Go.Joins.below_alloc1 w _)) hl hk hk2).mono ?_
  rintro r w1 ⟨rfl, hm, ho⟩
  have H : Hid (MO w1 M o rs k rs.length ∧ Only (blks M rs) w w1) := ⟨hm, Only.ahead (Go.Joins.below_alloc1 w _) ho⟩
  clear hm ho hk2
  generalize hz : k + sumA rs = z
  have HZ : Hid (k + sumA rs = z) := hz
  clear hz
  go_wp2
  go_ret
  exact ⟨Mark.retI (by have := HZ.out; omega), H.out⟩
theorem held_any (g : Bool) (M o k cap : Nat) (rs : List ARow) (w : World) (hM : MO w M o rs k rs.length) (hll : ∀ x ∈ rs, x.2.2.l.length ≤ 1048576) (hl : rs.length ≤ 2000000) (hk : 1 ≤ k) (hk2 : k + sumA rs ≤ 9000000) :
    Calls Try.prog 39 #[.agg #[.slice (some ⟨M, o, none⟩) rs.length cap, .bool g], .int .i64 k] w fun e w' => e = .returned (.int .i64 ((k + sumA rs : Nat) : Int)) ∧ Below w.heap.size w w' := by
  have HM : Hid (MO w M o rs k rs.length ∧ ∀ x ∈ rs, x.2.2.l.length ≤ 1048576) := ⟨hM, hll⟩
  clear hM hll
  go_enter Try.func39, Try.ntmps39
  go_wp2_with fail
  refine (heldO_any M o k cap rs _ (HM.out.1.grow (Go.Joins.below_alloc1 w _)) HM.out.2 hl hk hk2).mono ?_
  rintro r w1 ⟨rfl, hb⟩
  have H : Hid (Below w.heap.size w w1) := grow_on (Go.Joins.below_alloc1 w _) hb
  clear hb hk2
  generalize hz : k + sumA rs = z
  have HZ : Hid (k + sumA rs = z) := hz
  clear hz
  have hq : ¬ (z : Int) < 0 := by omega
  go_wp2
  go_ret
  exact ⟨Mark.retI (by have := HZ.out; omega), H.out⟩

theorem rdN_of {w w' : World} {M : Nat} {P : List PAl} {cs : Array Value} {g : Nat → Nat} (h : CopyA M w P P.length cs g) (hb : Below w.heap.size w w') (hl : P.length ≤ 1048576) (hs : LenM P) : RdN w' (some ⟨M, 0, none⟩) P := by
  obtain ⟨rs, hab, hp⟩ := copy_ab h (Nat.le_refl _) hl hs
  have h1 := hab.rd
  rw [hp] at h1
  exact h1.below hb
theorem cellsS : Try.prog.cellsOf 52 = 2 := by kernel_rfl
set_option maxRecDepth 100000 in
/-- one who listens that came in -/
theorem open_sub {H : Type} {enc : TypeId × Value → H} {W : World} {base b0 : Nat} {spare : Nat → Bool} {held : Bool} {r : Reach} {v : Value} {d : DataW H} {p : List MemPlace}
    (hv : Value.okWide Try.prog W r b0 52 v) (h : DataW.Trod enc Try.prog W base spare held 52 v d p) :
    ∃ (a : Option Addr) (cap : Nat) (P : List PAl) (g : Bool), v = .agg #[.slice a P.length cap, .bool g] ∧ RdA W a P ∧ P.length ≤ maxLen ∧ FitsP P := by
  obtain ⟨c0, c1, y0, y1, m, rfl, rfl, rfl, hy0, hy1⟩ := Go.Joins.open_agg2 Try.underlying52 (by kernel_rfl) cellsS hv h
  obtain ⟨a, len, cap, e0⟩ := Go.Joins.slice_form Try.underlying50 hy0
  obtain ⟨g, e1, _⟩ := DataW.trod_bool Try.underlying4 hy1
  simp at e0 e1
  subst e0 e1
  obtain ⟨P, rfl, hr, hl, hf⟩ := open_alarms (enc := enc) (W := W) (d := y0.1) (p := y0.2) ⟨m, by simpa [Value.cells] using hy0⟩
  exact ⟨a, cap, P, g, rfl, hr, hl, hf⟩

/-- whether all of them may be -/
def okX (x : PAl) : Bool := alarmB x.l x.s x.e x.n
def allB (P : List PAl) : Bool := P.all okX
theorem all_bad {P : List PAl} {k : Nat} (hk : k < P.length) (h : okX (nthP P k) = false) : allB P = false := by
  cases hq : allB P with
  | false => rfl
  | true =>
    have := List.all_eq_true.1 hq (nthP P k) (by rw [nthP_eq hk]; exact List.getElem_mem hk)
    rw [h] at this; cases this
theorem all_good {P : List PAl} (h : ∀ k, k < P.length → okX (nthP P k) = true) : allB P = true := List.all_eq_true.2 fun x hx => by
  obtain ⟨k, hk, rfl⟩ := List.getElem_of_mem hx
  have := h k hk
  rwa [nthP_eq hk] at this
/-- whether one who listens is right -/
def subB (P : List PAl) (g : Bool) : Bool := if g = true then decide (P.length = 0) else decide (P.length ≤ 3) && allB P
theorem sub_y (P : List PAl) : subB P true = decide (P.length = 0) := rfl
theorem sub_n (P : List PAl) : subB P false = (decide (P.length ≤ 3) && allB P) := rfl
set_option maxHeartbeats 800000 in
theorem alarmsOk_any (a : Option Addr) (cap : Nat) (P : List PAl) (w : World) (hr : RdA w a P) (hz : FitsP P) (hl : P.length ≤ 1048576) :
    Calls Try.prog 56 #[.slice a P.length cap] w fun e w' => e = .returned (.bool (allB P)) ∧ Below w.heap.size w w' := by
  have HR : Hid (RdA w a P ∧ FitsP P) := ⟨hr, hz⟩
  clear hr hz
  go_enter Try.func56, Try.ntmps56
  go_wp2
  go_loopw [7] (fun i w' => ∃ k : Nat, i = .int .i64 k ∧ k ≤ P.length ∧ (∀ j, j < k → okX (nthP P j) = true) ∧ Below w.heap.size w w') (fun i _ => P.length - (intOf i).toNat)
  case atStart => exact ⟨0, rfl, Nat.zero_le _, fun j h => by omega, Below.refl _ _⟩
  case round =>
    obtain ⟨k, rfl, hk, hu, hw0⟩ := hrel
    have HU : Hid (∀ j, j < k → okX (nthP P j) = true) := hu
    have HB : Hid (Below w.heap.size w wr) := hw0
    clear hw0 hu
    by_cases hlt : k < P.length
    · have hlt' : (k : Int) < (P.length : Int) := by omega
      obtain ⟨b, off, rfl, hb, ad, cp, hat⟩ := (HR.out.1.below HB.out).get hlt
      have x0 := hat.c0
      have x1 := hat.c1
      have x2 := hat.c2
      have x3 := hat.c3
      have HC : Hid (∀ y, Below wr.heap.size wr y → Calls Try.prog 80 #[.agg #[.slice ad (nthP P k).l.length cp, .int .i64 (nthP P k).s, .int .i64 (nthP P k).e, .string (nthP P k).n]] y fun e w' => e = .returned (.bool (okX (nthP P k))) ∧ Below y.heap.size y w') := fun y hy => implAlarm_any _ _ _ _ _ _ y ((HR.out.2 k hlt).al (hat.reads.below hy))
      clear hat
      cases hA : okX (nthP P k) with
      | false =>
        rw [hA] at HC
        have HE : Hid (allB P = false) := all_bad hlt hA
        clear hA
        go_wp2_with fail
        refine (HC.out _ (Go.Joins.below_alloc1 wr _)).mono ?_
        rintro e w2 ⟨rfl, hb2⟩
        have HB2 : Hid (Below w.heap.size w w2) := grow_on HB.out (grow_on (Go.Joins.below_alloc1 wr _) hb2)
        clear hb2 x0 x1 x2 x3 HC
        go_wp2
        go_ret
        exact ⟨retB HE.out.symm, HB2.out⟩
      | true =>
        rw [hA] at HC
        have HU1 : Hid (∀ j, j < k + 1 → okX (nthP P j) = true) := fun j hj => by
          by_cases e : j = k
          · subst e; exact hA
          · exact HU.out j (by omega)
        clear hA
        go_wp2_with fail
        refine (HC.out _ (Go.Joins.below_alloc1 wr _)).mono ?_
        rintro e w2 ⟨rfl, hb2⟩
        have HB2 : Hid (Below w.heap.size w w2) := grow_on HB.out (grow_on (Go.Joins.below_alloc1 wr _) hb2)
        clear hb2 x0 x1 x2 x3 HC
        go_wp2
        go_roundw
        case rel => exact ⟨k + 1, by go_num, by omega, HU1.out, HB2.out⟩
        case measure => simp [intOf]; omega
    · have hge : ¬ (k : Int) < (P.length : Int) := by omega
      have HE : Hid (allB P = true) := all_good fun j hj => HU.out j (by omega)
      go_wp2
      go_ret
      exact ⟨retB HE.out.symm, HB.out⟩

set_option maxHeartbeats 800000 in
theorem implSubOk_any (g : Bool) (a : Option Addr) (cap : Nat) (P : List PAl) (w : World) (hr : RdA w a P) (hz : FitsP P) (hl : P.length ≤ 1048576) :
    Calls Try.prog 21 #[.agg #[.slice a P.length cap, .bool g]] w fun e w' => e = .returned (.bool (subB P g)) ∧ Below w.heap.size w w' := by
  have HC : Hid (∀ y, Below w.heap.size w y → Calls Try.prog 56 #[.slice a P.length cap] y fun e w' => e = .returned (.bool (allB P)) ∧ Below y.heap.size y w') := fun y hy => alarmsOk_any a cap P y (hr.below hy) hz hl
  clear hr hz
  cases g with
  | true =>
    by_cases h0 : P.length = 0
    · have HE : Hid (subB P true = true) := by show _ = _; rw [sub_y]; exact decide_eq_true h0
      go_enter Try.func21, Try.ntmps21
      go_wp2
      go_ret
      exact ⟨retB HE.out.symm, Go.Joins.below_alloc1 w _⟩
    · have HE : Hid (subB P true = false) := by show _ = _; rw [sub_y]; exact decide_eq_false h0
      have h0' : ¬ (P.length : Int) = 0 := by omega
      have d0 : ((P.length : Int) == 0) = false := beq_eq_false_iff_ne.2 h0'
      go_enter Try.func21, Try.ntmps21
      go_wp2
      go_ret
      exact ⟨retB HE.out.symm, Go.Joins.below_alloc1 w _⟩
  | false =>
    by_cases h3 : P.length ≤ 3
    · have HE : Hid (subB P false = allB P) := by show _ = _; rw [sub_n, decide_eq_true h3]; rfl
      have h3' : (P.length : Int) ≤ 3 := by omega
      go_enter Try.func21, Try.ntmps21
      go_wp2_with fail
      refine (HC.out _ (Go.Joins.below_alloc1 w _)).mono ?_
      rintro e w2 ⟨rfl, hb2⟩
      have HB2 : Hid (Below w.heap.size w w2) := grow_on (Go.Joins.below_alloc1 w _) hb2
      clear hb2 HC
      go_wp2
      go_ret
      exact ⟨retB HE.out.symm, HB2.out⟩
    · have HE : Hid (subB P false = false) := by show _ = _; rw [sub_n, decide_eq_false h3]; rfl
      have h3' : ¬ (P.length : Int) ≤ 3 := by omega
      go_enter Try.func21, Try.ntmps21
      go_wp2
      go_ret
      exact ⟨retB HE.out.symm, Go.Joins.below_alloc1 w _⟩

theorem sub_bad {P : List PAl} (g : Bool) {k : Nat} (hk : k < P.length) (h : okX (nthP P k) = false) : subB P g = false := by
  cases g with
  | true => rw [sub_y]; exact decide_eq_false (by omega)
  | false => rw [sub_n, all_bad hk h, Bool.and_false]
theorem sub_all {P : List PAl} (g : Bool) (h : ∀ k, k < P.length → okX (nthP P k) = true) : subB P g = (decide (P.length ≤ 3) && (!g || decide (P.length = 0))) := by
  cases g with
  | true =>
    rw [sub_y]
    by_cases h0 : P.length = 0
    · have h3 : P.length ≤ 3 := by omega
      simp [h0]
    · simp [h0]
  | false => rw [sub_n, all_good h]; simp
set_option maxHeartbeats 1600000 in
theorem specSubOk_any (g : Bool) (a : Option Addr) (cap : Nat) (P : List PAl) (w : World) (hr : RdA w a P) (hz : FitsP P) (hl : P.length ≤ 1048576) :
    Calls Try.prog 22 #[.agg #[.slice a P.length cap, .bool g]] w fun e w' => e = .returned (.bool (subB P g)) ∧ Below w.heap.size w w' := by
  have HR : Hid (RdA w a P ∧ FitsP P) := ⟨hr, hz⟩
  clear hr hz
  go_enter Try.func22, Try.ntmps22
  go_wp2
  go_loopw [3] (fun i w' => ∃ k : Nat, i = .int .i64 k ∧ k ≤ P.length ∧ (∀ j, j < k → okX (nthP P j) = true) ∧ Below (w.alloc (.cells #[.slice a P.length cap, .bool g] 26)).heap.size (w.alloc (.cells #[.slice a P.length cap, .bool g] 26)) w') (fun i _ => P.length - (intOf i).toNat)
  case atStart => exact ⟨0, rfl, Nat.zero_le _, fun j h => by omega, Below.refl _ _⟩
  case round =>
    obtain ⟨k, rfl, hk, hu, hw0⟩ := hrel
    have HU : Hid (∀ j, j < k → okX (nthP P j) = true) := hu
    have HW : Hid (Below (w.alloc (.cells #[.slice a P.length cap, .bool g] 26)).heap.size (w.alloc (.cells #[.slice a P.length cap, .bool g] 26)) wr) := hw0
    have p0 : wr.cell? ⟨w.heap.size, 0, none⟩ = some (.slice a P.length cap) := at_par hw0 0 rfl
    have p1 : wr.cell? ⟨w.heap.size, 1, none⟩ = some (.bool g) := at_par hw0 1 rfl
    have HB : Hid (Below w.heap.size w wr) := grow_on (Go.Joins.below_alloc1 w _) hw0
    clear hw0 hu
    by_cases hlt : k < P.length
    · have hlt' : (k : Int) < (P.length : Int) := by omega
      obtain ⟨b, off, rfl, hb, ad, cp, hat⟩ := (HR.out.1.below HB.out).get hlt
      have x0 := hat.c0
      have x1 := hat.c1
      have x2 := hat.c2
      have x3 := hat.c3
      have HC : Hid (∀ y, Below wr.heap.size wr y → Calls Try.prog 57 #[.agg #[.slice ad (nthP P k).l.length cp, .int .i64 (nthP P k).s, .int .i64 (nthP P k).e, .string (nthP P k).n]] y fun e w' => e = .returned (.bool (okX (nthP P k))) ∧ Below y.heap.size y w') := fun y hy => specAlarm_any _ _ _ _ _ _ y ((HR.out.2 k hlt).al (hat.reads.below hy))
      clear hat
      cases hA : okX (nthP P k) with
      | false =>
        rw [hA] at HC
        have HE : Hid (subB P g = false) := sub_bad g hlt hA
        clear hA
        go_wp2_with fail
        refine (HC.out _ (Below.refl _ _)).mono ?_
        rintro e w2 ⟨rfl, hb2⟩
        have HB2 : Hid (Below w.heap.size w w2) := grow_on HB.out hb2
        clear hb2 x0 x1 x2 x3 HC p0 p1
        go_wp2
        go_ret
        exact ⟨retB HE.out.symm, HB2.out⟩
      | true =>
        rw [hA] at HC
        have HU1 : Hid (∀ j, j < k + 1 → okX (nthP P j) = true) := fun j hj => by
          by_cases e : j = k
          · subst e; exact hA
          · exact HU.out j (by omega)
        clear hA
        go_wp2_with fail
        refine (HC.out _ (Below.refl _ _)).mono ?_
        rintro e w2 ⟨rfl, hb2⟩
        have HW2 : Hid (Below (w.alloc (.cells #[.slice (some ⟨b, off, none⟩) P.length cap, .bool g] 26)).heap.size (w.alloc (.cells #[.slice (some ⟨b, off, none⟩) P.length cap, .bool g] 26)) w2) := grow_on HW.out hb2
        clear hb2 x0 x1 x2 x3 HC p0 p1
        go_wp2
        go_roundw
        case rel => exact ⟨k + 1, by go_num, by omega, HU1.out, HW2.out⟩
        case measure => simp [intOf]; omega
    · have hge : ¬ (k : Int) < (P.length : Int) := by omega
      have HE : Hid (subB P g = (decide (P.length ≤ 3) && (!g || decide (P.length = 0)))) := sub_all g fun j hj => HU.out j (by omega)
      by_cases h3 : P.length ≤ 3
      · have h3' : (P.length : Int) ≤ 3 := by omega
        cases g with
        | false =>
          have HF : Hid (subB P false = true) := by show _ = _; rw [HE.out]; simp [h3]
          clear h3
          go_wp2
          go_ret
          exact ⟨retB HF.out.symm, HB.out⟩
        | true =>
          by_cases h0 : P.length = 0
          · have HF : Hid (subB P true = true) := by show _ = _; rw [HE.out]; simp [h0]
            have h0' : (P.length : Int) = 0 := by omega
            clear h3
            go_wp2
            go_ret
            exact ⟨retB HF.out.symm, HB.out⟩
          · have HF : Hid (subB P true = false) := by show _ = _; rw [HE.out]; simp [h0]
            have h0' : ¬ (P.length : Int) = 0 := by omega
            have d0 : ((P.length : Int) == 0) = false := beq_eq_false_iff_ne.2 h0'
            clear h3
            go_wp2
            go_ret
            exact ⟨retB HF.out.symm, HB.out⟩
      · have h3' : ¬ (P.length : Int) ≤ 3 := by omega
        have HF : Hid (subB P g = false) := by show _ = _; rw [HE.out]; simp [h3]
        go_wp2
        go_ret
        exact ⟨retB HF.out.symm, HB.out⟩

/-- whether two who listen are the same -/
def sameSB (P : List PAl) (g : Bool) (Q : List PAl) (h : Bool) : Bool := decide (g = h) && sameLB P Q
theorem sameS_y {g h : Bool} {P Q : List PAl} (e : g = h) : sameSB P g Q h = sameLB P Q := by simp [sameSB, e]
theorem sameS_n {g h : Bool} {P Q : List PAl} (e : g ≠ h) : sameSB P g Q h = false := by simp [sameSB, e]
set_option maxHeartbeats 800000 in
theorem specSameS_any (g h : Bool) (a a' : Option Addr) (cap cap' : Nat) (P Q : List PAl) (w : World) (hr : RdA w a P) (hr' : RdA w a' Q) (hl : P.length ≤ 1048576) (hl' : Q.length ≤ 1048576) (hs : LenP P) (hs' : LenP Q) :
    Calls Try.prog 23 #[.agg #[.slice a P.length cap, .bool g], .agg #[.slice a' Q.length cap', .bool h]] w fun e w' => e = .returned (.bool (sameSB P g Q h)) ∧ Below w.heap.size w w' := by
  have HR : Hid (RdA w a P ∧ RdA w a' Q ∧ LenP P ∧ LenP Q) := ⟨hr, hr', hs, hs'⟩
  clear hr hr' hs hs'
  by_cases hf : g = h
  · have HE : Hid (sameSB P g Q h = sameLB P Q) := sameS_y hf
    subst hf
    have hd : (g == g) = true := by cases g <;> rfl
    cases g <;> (
      go_enter Try.func23, Try.ntmps23
      go_wp2_with fail
      refine (ChnS.l4Same_any a a' cap cap' P Q _ (HR.out.1.below (Go.Joins.below_alloc2 w _ _)) (HR.out.2.1.below (Go.Joins.below_alloc2 w _ _)) hl hl' HR.out.2.2.1 HR.out.2.2.2).mono ?_
      rintro e w2 ⟨rfl, hb⟩
      have HB : Hid (Below w.heap.size w w2) := grow_on (Go.Joins.below_alloc2 w _ _) hb
      clear hb
      go_wp2
      go_ret
      exact ⟨retB HE.out.symm, HB.out⟩)
  · have HE : Hid (sameSB P g Q h = false) := sameS_n hf
    cases g <;> cases h <;> first | exact absurd rfl hf | (
      go_enter Try.func23, Try.ntmps23
      go_wp2
      go_ret
      exact ⟨retB HE.out.symm, Go.Joins.below_alloc2 w _ _⟩)
set_option maxHeartbeats 800000 in
theorem implSameS_any (g h : Bool) (a a' : Option Addr) (cap cap' : Nat) (P Q : List PAl) (w : World) (hr : RdA w a P) (hr' : RdA w a' Q) (hl : P.length ≤ 1048576) (hl' : Q.length ≤ 1048576) (hs : LenP P) (hs' : LenP Q) :
    Calls Try.prog 18 #[.agg #[.slice a P.length cap, .bool g], .agg #[.slice a' Q.length cap', .bool h]] w fun e w' => e = .returned (.bool (sameSB P g Q h)) ∧ Below w.heap.size w w' := by
  have HR : Hid (RdA w a P ∧ RdA w a' Q ∧ LenP P ∧ LenP Q) := ⟨hr, hr', hs, hs'⟩
  clear hr hr' hs hs'
  by_cases hf : g = h
  · have HE : Hid (sameSB P g Q h = sameLB P Q) := sameS_y hf
    subst hf
    have hd : (g == g) = true := by cases g <;> rfl
    cases g <;> (
      go_enter Try.func18, Try.ntmps18
      go_wp2_with fail
      refine (ChnT.equalF_any a a' cap cap' P Q _ (HR.out.1.below (Go.Joins.below_alloc2 w _ _)) (HR.out.2.1.below (Go.Joins.below_alloc2 w _ _)) hl hl' HR.out.2.2.1 HR.out.2.2.2).mono ?_
      rintro e w2 ⟨rfl, hb⟩
      have HB : Hid (Below w.heap.size w w2) := grow_on (Go.Joins.below_alloc2 w _ _) hb
      clear hb
      go_wp2
      go_ret
      exact ⟨retB HE.out.symm, HB.out⟩)
  · have HE : Hid (sameSB P g Q h = false) := sameS_n hf
    cases g <;> cases h <;> first | exact absurd rfl hf | (
      go_enter Try.func18, Try.ntmps18
      go_wp2
      go_ret
      exact ⟨retB HE.out.symm, Go.Joins.below_alloc2 w _ _⟩)
end Go.Proofs.Ytdmhccheaemkkaa.Sub
