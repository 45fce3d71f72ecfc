/-
  PROVED: whatever the code, the law laws.FnSubs returns true and leaves the code as it was: a drawn listener that is told an alarm has it behind all that it had, or lags, where there is no room; each function of chapter 9 answers of what is drawn as the specification has it. No condition.
-/
import Derived.Test.YtdmhccheaemkkaaRows
import Derived.WalkKit
import Derived.ProofKit
import Derived.OpenShut
import Derived.ShutString
import Derived.ChangeOld
import Derived.Below
import Derived.WalkLawsBesides
import Derived.WalkSpells
import Derived.Test.YtdmhccheaemkkaaSubZ
import Derived.Deep.RegionHeld3
namespace Go.Proofs.Ytdmhccheaemkkaa.FnSubs
open Go.ChangeShapes Go.WideShapes Go.ChangeAt Go.RowKit
open Go.ChangeMaps (open_string shut_string)
set_option linter.unusedVariables false

open Go.Proofs.Ytdmhccheaemkkaa.Labs Go.Proofs.Ytdmhccheaemkkaa.LabS Go.Proofs.Ytdmhccheaemkkaa.Draw Go.Proofs.Ytdmhccheaemkkaa.LawB Go.Proofs.Ytdmhccheaemkkaa.Over Go.Proofs.Ytdmhccheaemkkaa.Blk Go.Proofs.Ytdmhccheaemkkaa.Alms Go.Proofs.Ytdmhccheaemkkaa.AlmS Go.Proofs.Ytdmhccheaemkkaa.Rws Go.Proofs.Ytdmhccheaemkkaa.ChnI Go.Proofs.Ytdmhccheaemkkaa.ChnC Go.Proofs.Ytdmhccheaemkkaa.Chs Go.Proofs.Ytdmhccheaemkkaa.DrawC Go.Proofs.Ytdmhccheaemkkaa.Que Go.Proofs.Ytdmhccheaemkkaa.Tel Go.Proofs.Ytdmhccheaemkkaa.Her Go.Proofs.Ytdmhccheaemkkaa.Subs Go.Proofs.Ytdmhccheaemkkaa.TelA Go.Proofs.Ytdmhccheaemkkaa.DrawQ Go.Proofs.Ytdmhccheaemkkaa.SubZ
open Go.Proofs.Ytdmhccheaemkkaa.Sub (sameSB implSameS_any specSameS_any subB implSubOk_any specSubOk_any)
set_option linter.unusedVariables false
theorem rdu_below {w w' : World} {a : Option Addr} {U : List PSb} (h : RdU RdN w a U) (hb : Below w.heap.size w w') : RdU RdN w' a U := h.below stays_rn hb
set_option maxRecDepth 100000 in
set_option maxHeartbeats 40000000 in
theorem core (a : Option Addr) (len cap : Nat) (w : World) (hl : len ≤ maxLen) (hb : Bytes w a len w.heap.size) :
    Calls Try.prog 3 #[.slice a len cap] w fun e w' => e = .returned (.bool true) ∧ Below w.heap.size w w' := by
  have HB : Hid (Bytes w a len w.heap.size) := hb
  have HL : Hid (len ≤ maxLen) := hl
  clear hb hl
  by_cases hbig : (1048576 : Int) < (len : Int)
  · have HC : Hid (Calls Try.prog 9 #[.slice a len cap] w fun e w' => e = .returned (.bool true) ∧ w' = w) := (big_any a len cap w HL.out).mono fun e w' h => ⟨h.1.trans (retB (decide_eq_true hbig)), h.2⟩
    go_enter Try.func3, Try.ntmps3
    go_wp2_with fail
    refine HC.out.mono ?_
    rintro e w1 ⟨rfl, rfl⟩
    go_wp2
    go_ret
    exact ⟨rfl, Below.refl _ _⟩
  have HC : Hid (Calls Try.prog 9 #[.slice a len cap] w fun e w' => e = .returned (.bool false) ∧ w' = w) := (big_any a len cap w HL.out).mono fun e w' h => ⟨h.1.trans (retB (decide_eq_false hbig)), h.2⟩
  go_enter Try.func3, Try.ntmps3
  go_wp2_with fail
  refine HC.out.mono ?_
  rintro e wq ⟨rfl, hw⟩
  obtain rfl := hw.symm
  clear HC hw
  have B_z0 : Hid (Below w.heap.size w w) := Below.refl _ _
  go_upto_region 3 with fail
  go_wp2_with fail
  refine (drawTell_any a len cap _ HL.out HB.out).mono ?_
  rintro e w1 ⟨⟨aS, cs, P, gs, ga, ca, x, rfl, hP, hx⟩, hb⟩
  have FP : Hid (Fines P ∧ P.length ≤ 4 ∧ Fine x) := ⟨hP.2.1, hP.2.2.1, hx.2⟩
  obtain ⟨TL, hTL⟩ : ∃ TL, (tellB P gs x).1 = TL := ⟨_, rfl⟩
  obtain ⟨TG, hTG⟩ : ∃ TG, (tellB P gs x).2 = TG := ⟨_, rfl⟩
  have ET : Hid (tellB P gs x = (TL, TG)) := by rw [← hTL, ← hTG]; exact rfl
  have FT : Hid (Fines TL ∧ TL.length ≤ 5) := tell_few FP.out.1 FP.out.2.2 FP.out.2.1 ET.out
  clear hTL hTG
  have NDP : Hid (DQ w1 aS cs P) := hP
  have NDX : Hid (DAl w1 ga x) := hx
  have B_w1 : Hid (Below w.heap.size w w1) := hb
  clear B_z0
  have DP_w1 : Hid (DQ w1 aS cs P) := NDP.out
  clear NDP
  have DX_w1 : Hid (DAl w1 ga x) := NDX.out
  clear NDX
  clear hb
  go_upto_region 4 with fail
  generalize hz : (w1.alloc (.cells #[.slice aS P.length cs, .bool gs] 26)).alloc (.cells #[.slice (some ⟨ga, 0, none⟩) x.l.length ca, .int .i64 x.s, .int .i64 x.e, .string x.n] 29) = z1
  have hbz : Below w1.heap.size w1 z1 := by rw [← hz]; exact Go.Joins.below_alloc2 w1 _ _
  have bS_z1 : Hid (Blk z1 w1.heap.size #[.slice aS P.length cs, .bool gs] 26) := by rw [← hz]; exact (Blk.new _ _ _).alloc _
  have bA_z1 : Hid (Blk z1 (w1.heap.size + 1) #[.slice (some ⟨ga, 0, none⟩) x.l.length ca, .int .i64 x.s, .int .i64 x.e, .string x.n] 29) := by rw [← hz]; exact Blk.new_at (by simp)
  clear hz
  have B_z1 : Hid (Below w.heap.size w z1) := grow_on B_w1.out hbz
  have DP_z1 : Hid (DQ z1 aS cs P) := DP_w1.out.below hbz
  have DX_z1 : Hid (DAl z1 ga x) := DX_w1.out.below hbz
  clear B_w1 DP_w1 DX_w1
  clear hbz
  have cbS0 : z1.cell? ⟨w1.heap.size, 0, none⟩ = some (.slice aS P.length cs) := bS_z1.out.cell 0
  have cbS1 : z1.cell? ⟨w1.heap.size, 1, none⟩ = some (.bool gs) := bS_z1.out.cell 1
  have cbA0 : z1.cell? ⟨(w1.heap.size + 1), 0, none⟩ = some (.slice (some ⟨ga, 0, none⟩) x.l.length ca) := bA_z1.out.cell 0
  have cbA1 : z1.cell? ⟨(w1.heap.size + 1), 1, none⟩ = some (.int .i64 x.s) := bA_z1.out.cell 1
  have cbA2 : z1.cell? ⟨(w1.heap.size + 1), 2, none⟩ = some (.int .i64 x.e) := bA_z1.out.cell 2
  have cbA3 : z1.cell? ⟨(w1.heap.size + 1), 3, none⟩ = some (.string x.n) := bA_z1.out.cell 3
  go_wp2_with fail
  refine (implTellZ DP_z1.out DX_z1.out ET.out).mono ?_
  rintro e w2 ⟨⟨Mx, cx, rfl, hr, hcx⟩, hb⟩
  clear cbS0 cbS1 cbA0 cbA1 cbA2 cbA3
  have FX : Hid (TL.length ≤ cx) := hcx
  clear hcx
  have NRX : Hid (RdN w2 (some ⟨Mx, 0, none⟩) TL) := hr
  have B_w2 : Hid (Below w.heap.size w w2) := grow_on B_z1.out hb
  have DP_w2 : Hid (DQ w2 aS cs P) := DP_z1.out.below hb
  have DX_w2 : Hid (DAl w2 ga x) := DX_z1.out.below hb
  have bS_w2 : Hid (Blk w2 w1.heap.size #[.slice aS P.length cs, .bool gs] 26) := bS_z1.out.grow hb
  have bA_w2 : Hid (Blk w2 (w1.heap.size + 1) #[.slice (some ⟨ga, 0, none⟩) x.l.length ca, .int .i64 x.s, .int .i64 x.e, .string x.n] 29) := bA_z1.out.grow hb
  clear B_z1 DP_z1 DX_z1 bS_z1 bA_z1
  have RX_w2 : Hid (RdN w2 (some ⟨Mx, 0, none⟩) TL) := NRX.out
  clear NRX
  clear hb
  go_upto_region 5 with fail
  generalize hz : w2.alloc (.cells #[.slice (some ⟨Mx, 0, none⟩) TL.length cx, .bool TG] 26) = z2
  have hbz : Below w2.heap.size w2 z2 := by rw [← hz]; exact Go.Joins.below_alloc1 w2 _
  have bX_z2 : Hid (Blk z2 w2.heap.size #[.slice (some ⟨Mx, 0, none⟩) TL.length cx, .bool TG] 26) := by rw [← hz]; exact (Blk.new _ _ _)
  clear hz
  have B_z2 : Hid (Below w.heap.size w z2) := grow_on B_w2.out hbz
  have DP_z2 : Hid (DQ z2 aS cs P) := DP_w2.out.below hbz
  have DX_z2 : Hid (DAl z2 ga x) := DX_w2.out.below hbz
  have bS_z2 : Hid (Blk z2 w1.heap.size #[.slice aS P.length cs, .bool gs] 26) := bS_w2.out.grow hbz
  have bA_z2 : Hid (Blk z2 (w1.heap.size + 1) #[.slice (some ⟨ga, 0, none⟩) x.l.length ca, .int .i64 x.s, .int .i64 x.e, .string x.n] 29) := bA_w2.out.grow hbz
  have RX_z2 : Hid (RdN z2 (some ⟨Mx, 0, none⟩) TL) := RX_w2.out.below hbz
  clear B_w2 DP_w2 DX_w2 bS_w2 bA_w2 RX_w2
  clear hbz
  go_wp2_with fail
  refine (drawHear_any a len cap _ HL.out (bytes_up HB.out B_z2.out)).mono ?_
  rintro e w3 ⟨⟨ah, ch, H, gh, rfl, hP⟩, hb⟩
  obtain ⟨HP, hHP⟩ : ∃ p, hearP H gh = p := ⟨_, rfl⟩
  obtain ⟨X, hX⟩ : ∃ p, hearX H gh = p := ⟨_, rfl⟩
  obtain ⟨hn, hN⟩ : ∃ p, hearN H gh = p := ⟨_, rfl⟩
  have EH : Hid (hearP H gh = HP ∧ hearX H gh = X ∧ hearN H gh = hn) := ⟨hHP, hX, hN⟩
  have FH : Hid (Fines HP ∧ HP.length ≤ 4 ∧ X.l.length ≤ maxLen) := hear_few hP.2.1 hP.2.2.1 hHP hX
  clear hHP hX hN
  have NDH : Hid (DQ w3 ah ch H) := hP
  have B_w3 : Hid (Below w.heap.size w w3) := grow_on B_z2.out hb
  have DP_w3 : Hid (DQ w3 aS cs P) := DP_z2.out.below hb
  have DX_w3 : Hid (DAl w3 ga x) := DX_z2.out.below hb
  have bS_w3 : Hid (Blk w3 w1.heap.size #[.slice aS P.length cs, .bool gs] 26) := bS_z2.out.grow hb
  have bA_w3 : Hid (Blk w3 (w1.heap.size + 1) #[.slice (some ⟨ga, 0, none⟩) x.l.length ca, .int .i64 x.s, .int .i64 x.e, .string x.n] 29) := bA_z2.out.grow hb
  have RX_w3 : Hid (RdN w3 (some ⟨Mx, 0, none⟩) TL) := RX_z2.out.below hb
  have bX_w3 : Hid (Blk w3 w2.heap.size #[.slice (some ⟨Mx, 0, none⟩) TL.length cx, .bool TG] 26) := bX_z2.out.grow hb
  clear B_z2 DP_z2 DX_z2 bS_z2 bA_z2 RX_z2 bX_z2
  have DH_w3 : Hid (DQ w3 ah ch H) := NDH.out
  clear NDH
  clear hb
  go_upto_region 6 with fail
  generalize hz : w3.alloc (.cells #[.slice ah H.length ch, .bool gh] 26) = z3
  have hbz : Below w3.heap.size w3 z3 := by rw [← hz]; exact Go.Joins.below_alloc1 w3 _
  have bH_z3 : Hid (Blk z3 w3.heap.size #[.slice ah H.length ch, .bool gh] 26) := by rw [← hz]; exact (Blk.new _ _ _)
  clear hz
  have B_z3 : Hid (Below w.heap.size w z3) := grow_on B_w3.out hbz
  have DP_z3 : Hid (DQ z3 aS cs P) := DP_w3.out.below hbz
  have DX_z3 : Hid (DAl z3 ga x) := DX_w3.out.below hbz
  have bS_z3 : Hid (Blk z3 w1.heap.size #[.slice aS P.length cs, .bool gs] 26) := bS_w3.out.grow hbz
  have bA_z3 : Hid (Blk z3 (w1.heap.size + 1) #[.slice (some ⟨ga, 0, none⟩) x.l.length ca, .int .i64 x.s, .int .i64 x.e, .string x.n] 29) := bA_w3.out.grow hbz
  have RX_z3 : Hid (RdN z3 (some ⟨Mx, 0, none⟩) TL) := RX_w3.out.below hbz
  have bX_z3 : Hid (Blk z3 w2.heap.size #[.slice (some ⟨Mx, 0, none⟩) TL.length cx, .bool TG] 26) := bX_w3.out.grow hbz
  have DH_z3 : Hid (DQ z3 ah ch H) := DH_w3.out.below hbz
  clear B_w3 DP_w3 DX_w3 bS_w3 bA_w3 RX_w3 bX_w3 DH_w3
  clear hbz
  have cbH0 : z3.cell? ⟨w3.heap.size, 0, none⟩ = some (.slice ah H.length ch) := bH_z3.out.cell 0
  have cbH1 : z3.cell? ⟨w3.heap.size, 1, none⟩ = some (.bool gh) := bH_z3.out.cell 1
  go_wp2_with fail
  refine (implHearZ DH_z3.out EH.out.1 EH.out.2.1 EH.out.2.2).mono ?_
  rintro e w4 ⟨⟨ay, cy, ey, dy, rfl, hr, hr'⟩, hb⟩
  clear cbH0 cbH1
  have NRy : Hid (RdN w4 ay HP) := hr
  have NLy : Hid (Reads w4 ey X.l) := hr'
  have B_w4 : Hid (Below w.heap.size w w4) := grow_on B_z3.out hb
  have DP_w4 : Hid (DQ w4 aS cs P) := DP_z3.out.below hb
  have DX_w4 : Hid (DAl w4 ga x) := DX_z3.out.below hb
  have bS_w4 : Hid (Blk w4 w1.heap.size #[.slice aS P.length cs, .bool gs] 26) := bS_z3.out.grow hb
  have bA_w4 : Hid (Blk w4 (w1.heap.size + 1) #[.slice (some ⟨ga, 0, none⟩) x.l.length ca, .int .i64 x.s, .int .i64 x.e, .string x.n] 29) := bA_z3.out.grow hb
  have RX_w4 : Hid (RdN w4 (some ⟨Mx, 0, none⟩) TL) := RX_z3.out.below hb
  have bX_w4 : Hid (Blk w4 w2.heap.size #[.slice (some ⟨Mx, 0, none⟩) TL.length cx, .bool TG] 26) := bX_z3.out.grow hb
  have DH_w4 : Hid (DQ w4 ah ch H) := DH_z3.out.below hb
  have bH_w4 : Hid (Blk w4 w3.heap.size #[.slice ah H.length ch, .bool gh] 26) := bH_z3.out.grow hb
  clear B_z3 DP_z3 DX_z3 bS_z3 bA_z3 RX_z3 bX_z3 DH_z3 bH_z3
  have Ry_w4 : Hid (RdN w4 ay HP) := NRy.out
  clear NRy
  have Ly_w4 : Hid (Reads w4 ey X.l) := NLy.out
  clear NLy
  clear hb
  go_upto_region 7 with fail
  generalize hz : (w4.alloc (.cells #[.slice ay HP.length cy, .bool false] 26)).alloc (.cells #[.slice ey X.l.length dy, .int .i64 X.s, .int .i64 X.e, .string X.n] 29) = z4
  have hbz : Below w4.heap.size w4 z4 := by rw [← hz]; exact Go.Joins.below_alloc2 w4 _ _
  have bY_z4 : Hid (Blk z4 w4.heap.size #[.slice ay HP.length cy, .bool false] 26) := by rw [← hz]; exact (Blk.new _ _ _).alloc _
  have bB_z4 : Hid (Blk z4 (w4.heap.size + 1) #[.slice ey X.l.length dy, .int .i64 X.s, .int .i64 X.e, .string X.n] 29) := by rw [← hz]; exact Blk.new_at (by simp)
  clear hz
  have B_z4 : Hid (Below w.heap.size w z4) := grow_on B_w4.out hbz
  have DP_z4 : Hid (DQ z4 aS cs P) := DP_w4.out.below hbz
  have DX_z4 : Hid (DAl z4 ga x) := DX_w4.out.below hbz
  have bS_z4 : Hid (Blk z4 w1.heap.size #[.slice aS P.length cs, .bool gs] 26) := bS_w4.out.grow hbz
  have bA_z4 : Hid (Blk z4 (w1.heap.size + 1) #[.slice (some ⟨ga, 0, none⟩) x.l.length ca, .int .i64 x.s, .int .i64 x.e, .string x.n] 29) := bA_w4.out.grow hbz
  have RX_z4 : Hid (RdN z4 (some ⟨Mx, 0, none⟩) TL) := RX_w4.out.below hbz
  have bX_z4 : Hid (Blk z4 w2.heap.size #[.slice (some ⟨Mx, 0, none⟩) TL.length cx, .bool TG] 26) := bX_w4.out.grow hbz
  have DH_z4 : Hid (DQ z4 ah ch H) := DH_w4.out.below hbz
  have bH_z4 : Hid (Blk z4 w3.heap.size #[.slice ah H.length ch, .bool gh] 26) := bH_w4.out.grow hbz
  have Ry_z4 : Hid (RdN z4 ay HP) := Ry_w4.out.below hbz
  have Ly_z4 : Hid (Reads z4 ey X.l) := Ly_w4.out.below hbz
  clear B_w4 DP_w4 DX_w4 bS_w4 bA_w4 RX_w4 bX_w4 DH_w4 bH_w4 Ry_w4 Ly_w4
  clear hbz
  have cbH0 : z4.cell? ⟨w3.heap.size, 0, none⟩ = some (.slice ah H.length ch) := bH_z4.out.cell 0
  have cbH1 : z4.cell? ⟨w3.heap.size, 1, none⟩ = some (.bool gh) := bH_z4.out.cell 1
  go_wp2_with fail
  refine (specHearZ DH_z4.out EH.out.1 EH.out.2.1 EH.out.2.2).mono ?_
  rintro e w5 ⟨⟨az, cz, ez, dz, rfl, hr, hr'⟩, hb⟩
  clear cbH0 cbH1
  have NRz : Hid (RdN w5 az HP) := hr
  have NLz : Hid (Reads w5 ez X.l) := hr'
  have B_w5 : Hid (Below w.heap.size w w5) := grow_on B_z4.out hb
  have DP_w5 : Hid (DQ w5 aS cs P) := DP_z4.out.below hb
  have DX_w5 : Hid (DAl w5 ga x) := DX_z4.out.below hb
  have bS_w5 : Hid (Blk w5 w1.heap.size #[.slice aS P.length cs, .bool gs] 26) := bS_z4.out.grow hb
  have bA_w5 : Hid (Blk w5 (w1.heap.size + 1) #[.slice (some ⟨ga, 0, none⟩) x.l.length ca, .int .i64 x.s, .int .i64 x.e, .string x.n] 29) := bA_z4.out.grow hb
  have RX_w5 : Hid (RdN w5 (some ⟨Mx, 0, none⟩) TL) := RX_z4.out.below hb
  have bX_w5 : Hid (Blk w5 w2.heap.size #[.slice (some ⟨Mx, 0, none⟩) TL.length cx, .bool TG] 26) := bX_z4.out.grow hb
  have DH_w5 : Hid (DQ w5 ah ch H) := DH_z4.out.below hb
  have bH_w5 : Hid (Blk w5 w3.heap.size #[.slice ah H.length ch, .bool gh] 26) := bH_z4.out.grow hb
  have Ry_w5 : Hid (RdN w5 ay HP) := Ry_z4.out.below hb
  have Ly_w5 : Hid (Reads w5 ey X.l) := Ly_z4.out.below hb
  have bY_w5 : Hid (Blk w5 w4.heap.size #[.slice ay HP.length cy, .bool false] 26) := bY_z4.out.grow hb
  have bB_w5 : Hid (Blk w5 (w4.heap.size + 1) #[.slice ey X.l.length dy, .int .i64 X.s, .int .i64 X.e, .string X.n] 29) := bB_z4.out.grow hb
  clear B_z4 DP_z4 DX_z4 bS_z4 bA_z4 RX_z4 bX_z4 DH_z4 bH_z4 Ry_z4 Ly_z4 bY_z4 bB_z4
  have Rz_w5 : Hid (RdN w5 az HP) := NRz.out
  clear NRz
  have Lz_w5 : Hid (Reads w5 ez X.l) := NLz.out
  clear NLz
  clear hb
  go_upto_region 8 with fail
  generalize hz : (w5.alloc (.cells #[.slice az HP.length cz, .bool false] 26)).alloc (.cells #[.slice ez X.l.length dz, .int .i64 X.s, .int .i64 X.e, .string X.n] 29) = z5
  have hbz : Below w5.heap.size w5 z5 := by rw [← hz]; exact Go.Joins.below_alloc2 w5 _ _
  have bZ_z5 : Hid (Blk z5 w5.heap.size #[.slice az HP.length cz, .bool false] 26) := by rw [← hz]; exact (Blk.new _ _ _).alloc _
  have bC_z5 : Hid (Blk z5 (w5.heap.size + 1) #[.slice ez X.l.length dz, .int .i64 X.s, .int .i64 X.e, .string X.n] 29) := by rw [← hz]; exact Blk.new_at (by simp)
  clear hz
  have B_z5 : Hid (Below w.heap.size w z5) := grow_on B_w5.out hbz
  have DP_z5 : Hid (DQ z5 aS cs P) := DP_w5.out.below hbz
  have DX_z5 : Hid (DAl z5 ga x) := DX_w5.out.below hbz
  have bS_z5 : Hid (Blk z5 w1.heap.size #[.slice aS P.length cs, .bool gs] 26) := bS_w5.out.grow hbz
  have bA_z5 : Hid (Blk z5 (w1.heap.size + 1) #[.slice (some ⟨ga, 0, none⟩) x.l.length ca, .int .i64 x.s, .int .i64 x.e, .string x.n] 29) := bA_w5.out.grow hbz
  have RX_z5 : Hid (RdN z5 (some ⟨Mx, 0, none⟩) TL) := RX_w5.out.below hbz
  have bX_z5 : Hid (Blk z5 w2.heap.size #[.slice (some ⟨Mx, 0, none⟩) TL.length cx, .bool TG] 26) := bX_w5.out.grow hbz
  have DH_z5 : Hid (DQ z5 ah ch H) := DH_w5.out.below hbz
  have bH_z5 : Hid (Blk z5 w3.heap.size #[.slice ah H.length ch, .bool gh] 26) := bH_w5.out.grow hbz
  have Ry_z5 : Hid (RdN z5 ay HP) := Ry_w5.out.below hbz
  have Ly_z5 : Hid (Reads z5 ey X.l) := Ly_w5.out.below hbz
  have bY_z5 : Hid (Blk z5 w4.heap.size #[.slice ay HP.length cy, .bool false] 26) := bY_w5.out.grow hbz
  have bB_z5 : Hid (Blk z5 (w4.heap.size + 1) #[.slice ey X.l.length dy, .int .i64 X.s, .int .i64 X.e, .string X.n] 29) := bB_w5.out.grow hbz
  have Rz_z5 : Hid (RdN z5 az HP) := Rz_w5.out.below hbz
  have Lz_z5 : Hid (Reads z5 ez X.l) := Lz_w5.out.below hbz
  clear B_w5 DP_w5 DX_w5 bS_w5 bA_w5 RX_w5 bX_w5 DH_w5 bH_w5 Ry_w5 Ly_w5 bY_w5 bB_w5 Rz_w5 Lz_w5
  clear hbz
  clear DH_z5
  clear bH_z5
  go_wp2_with fail
  refine (drawSubOk_any a len cap _ HL.out (bytes_up HB.out B_z5.out)).mono ?_
  rintro e w6 ⟨⟨ao, co, Po, go, rfl, hP⟩, hb⟩
  have NDO : Hid (DQ w6 ao co Po) := hP
  have B_w6 : Hid (Below w.heap.size w w6) := grow_on B_z5.out hb
  have DP_w6 : Hid (DQ w6 aS cs P) := DP_z5.out.below hb
  have DX_w6 : Hid (DAl w6 ga x) := DX_z5.out.below hb
  have bS_w6 : Hid (Blk w6 w1.heap.size #[.slice aS P.length cs, .bool gs] 26) := bS_z5.out.grow hb
  have bA_w6 : Hid (Blk w6 (w1.heap.size + 1) #[.slice (some ⟨ga, 0, none⟩) x.l.length ca, .int .i64 x.s, .int .i64 x.e, .string x.n] 29) := bA_z5.out.grow hb
  have RX_w6 : Hid (RdN w6 (some ⟨Mx, 0, none⟩) TL) := RX_z5.out.below hb
  have bX_w6 : Hid (Blk w6 w2.heap.size #[.slice (some ⟨Mx, 0, none⟩) TL.length cx, .bool TG] 26) := bX_z5.out.grow hb
  have Ry_w6 : Hid (RdN w6 ay HP) := Ry_z5.out.below hb
  have Ly_w6 : Hid (Reads w6 ey X.l) := Ly_z5.out.below hb
  have bY_w6 : Hid (Blk w6 w4.heap.size #[.slice ay HP.length cy, .bool false] 26) := bY_z5.out.grow hb
  have bB_w6 : Hid (Blk w6 (w4.heap.size + 1) #[.slice ey X.l.length dy, .int .i64 X.s, .int .i64 X.e, .string X.n] 29) := bB_z5.out.grow hb
  have Rz_w6 : Hid (RdN w6 az HP) := Rz_z5.out.below hb
  have Lz_w6 : Hid (Reads w6 ez X.l) := Lz_z5.out.below hb
  have bZ_w6 : Hid (Blk w6 w5.heap.size #[.slice az HP.length cz, .bool false] 26) := bZ_z5.out.grow hb
  have bC_w6 : Hid (Blk w6 (w5.heap.size + 1) #[.slice ez X.l.length dz, .int .i64 X.s, .int .i64 X.e, .string X.n] 29) := bC_z5.out.grow hb
  clear B_z5 DP_z5 DX_z5 bS_z5 bA_z5 RX_z5 bX_z5 Ry_z5 Ly_z5 bY_z5 bB_z5 Rz_z5 Lz_z5 bZ_z5 bC_z5
  have DO_w6 : Hid (DQ w6 ao co Po) := NDO.out
  clear NDO
  clear hb
  go_upto_region 9 with fail
  generalize hz : w6.alloc (.cells #[.slice ao Po.length co, .bool go] 26) = z6
  have hbz : Below w6.heap.size w6 z6 := by rw [← hz]; exact Go.Joins.below_alloc1 w6 _
  have bO_z6 : Hid (Blk z6 w6.heap.size #[.slice ao Po.length co, .bool go] 26) := by rw [← hz]; exact (Blk.new _ _ _)
  clear hz
  have B_z6 : Hid (Below w.heap.size w z6) := grow_on B_w6.out hbz
  have DP_z6 : Hid (DQ z6 aS cs P) := DP_w6.out.below hbz
  have DX_z6 : Hid (DAl z6 ga x) := DX_w6.out.below hbz
  have bS_z6 : Hid (Blk z6 w1.heap.size #[.slice aS P.length cs, .bool gs] 26) := bS_w6.out.grow hbz
  have bA_z6 : Hid (Blk z6 (w1.heap.size + 1) #[.slice (some ⟨ga, 0, none⟩) x.l.length ca, .int .i64 x.s, .int .i64 x.e, .string x.n] 29) := bA_w6.out.grow hbz
  have RX_z6 : Hid (RdN z6 (some ⟨Mx, 0, none⟩) TL) := RX_w6.out.below hbz
  have bX_z6 : Hid (Blk z6 w2.heap.size #[.slice (some ⟨Mx, 0, none⟩) TL.length cx, .bool TG] 26) := bX_w6.out.grow hbz
  have Ry_z6 : Hid (RdN z6 ay HP) := Ry_w6.out.below hbz
  have Ly_z6 : Hid (Reads z6 ey X.l) := Ly_w6.out.below hbz
  have bY_z6 : Hid (Blk z6 w4.heap.size #[.slice ay HP.length cy, .bool false] 26) := bY_w6.out.grow hbz
  have bB_z6 : Hid (Blk z6 (w4.heap.size + 1) #[.slice ey X.l.length dy, .int .i64 X.s, .int .i64 X.e, .string X.n] 29) := bB_w6.out.grow hbz
  have Rz_z6 : Hid (RdN z6 az HP) := Rz_w6.out.below hbz
  have Lz_z6 : Hid (Reads z6 ez X.l) := Lz_w6.out.below hbz
  have bZ_z6 : Hid (Blk z6 w5.heap.size #[.slice az HP.length cz, .bool false] 26) := bZ_w6.out.grow hbz
  have bC_z6 : Hid (Blk z6 (w5.heap.size + 1) #[.slice ez X.l.length dz, .int .i64 X.s, .int .i64 X.e, .string X.n] 29) := bC_w6.out.grow hbz
  have DO_z6 : Hid (DQ z6 ao co Po) := DO_w6.out.below hbz
  clear B_w6 DP_w6 DX_w6 bS_w6 bA_w6 RX_w6 bX_w6 Ry_w6 Ly_w6 bY_w6 bB_w6 Rz_w6 Lz_w6 bZ_w6 bC_w6 DO_w6
  clear hbz
  go_wp2_with fail
  refine (drawSame_any a len cap _ HL.out (bytes_up HB.out B_z6.out)).mono ?_
  rintro e w7 ⟨⟨au, cu, Pu, gu, av, cv, Pv, gv, rfl, hP, hQ⟩, hb⟩
  have NDU : Hid (DQ w7 au cu Pu) := hP
  have NDV : Hid (DQ w7 av cv Pv) := hQ
  have B_w7 : Hid (Below w.heap.size w w7) := grow_on B_z6.out hb
  have DP_w7 : Hid (DQ w7 aS cs P) := DP_z6.out.below hb
  have DX_w7 : Hid (DAl w7 ga x) := DX_z6.out.below hb
  have bS_w7 : Hid (Blk w7 w1.heap.size #[.slice aS P.length cs, .bool gs] 26) := bS_z6.out.grow hb
  have bA_w7 : Hid (Blk w7 (w1.heap.size + 1) #[.slice (some ⟨ga, 0, none⟩) x.l.length ca, .int .i64 x.s, .int .i64 x.e, .string x.n] 29) := bA_z6.out.grow hb
  have RX_w7 : Hid (RdN w7 (some ⟨Mx, 0, none⟩) TL) := RX_z6.out.below hb
  have bX_w7 : Hid (Blk w7 w2.heap.size #[.slice (some ⟨Mx, 0, none⟩) TL.length cx, .bool TG] 26) := bX_z6.out.grow hb
  have Ry_w7 : Hid (RdN w7 ay HP) := Ry_z6.out.below hb
  have Ly_w7 : Hid (Reads w7 ey X.l) := Ly_z6.out.below hb
  have bY_w7 : Hid (Blk w7 w4.heap.size #[.slice ay HP.length cy, .bool false] 26) := bY_z6.out.grow hb
  have bB_w7 : Hid (Blk w7 (w4.heap.size + 1) #[.slice ey X.l.length dy, .int .i64 X.s, .int .i64 X.e, .string X.n] 29) := bB_z6.out.grow hb
  have Rz_w7 : Hid (RdN w7 az HP) := Rz_z6.out.below hb
  have Lz_w7 : Hid (Reads w7 ez X.l) := Lz_z6.out.below hb
  have bZ_w7 : Hid (Blk w7 w5.heap.size #[.slice az HP.length cz, .bool false] 26) := bZ_z6.out.grow hb
  have bC_w7 : Hid (Blk w7 (w5.heap.size + 1) #[.slice ez X.l.length dz, .int .i64 X.s, .int .i64 X.e, .string X.n] 29) := bC_z6.out.grow hb
  have DO_w7 : Hid (DQ w7 ao co Po) := DO_z6.out.below hb
  have bO_w7 : Hid (Blk w7 w6.heap.size #[.slice ao Po.length co, .bool go] 26) := bO_z6.out.grow hb
  clear B_z6 DP_z6 DX_z6 bS_z6 bA_z6 RX_z6 bX_z6 Ry_z6 Ly_z6 bY_z6 bB_z6 Rz_z6 Lz_z6 bZ_z6 bC_z6 DO_z6 bO_z6
  have DU_w7 : Hid (DQ w7 au cu Pu) := NDU.out
  clear NDU
  have DV_w7 : Hid (DQ w7 av cv Pv) := NDV.out
  clear NDV
  clear hb
  go_upto_region 10 with fail
  generalize hz : (w7.alloc (.cells #[.slice au Pu.length cu, .bool gu] 26)).alloc (.cells #[.slice av Pv.length cv, .bool gv] 26) = z7
  have hbz : Below w7.heap.size w7 z7 := by rw [← hz]; exact Go.Joins.below_alloc2 w7 _ _
  have bU_z7 : Hid (Blk z7 w7.heap.size #[.slice au Pu.length cu, .bool gu] 26) := by rw [← hz]; exact (Blk.new _ _ _).alloc _
  have bV_z7 : Hid (Blk z7 (w7.heap.size + 1) #[.slice av Pv.length cv, .bool gv] 26) := by rw [← hz]; exact Blk.new_at (by simp)
  clear hz
  have B_z7 : Hid (Below w.heap.size w z7) := grow_on B_w7.out hbz
  have DP_z7 : Hid (DQ z7 aS cs P) := DP_w7.out.below hbz
  have DX_z7 : Hid (DAl z7 ga x) := DX_w7.out.below hbz
  have bS_z7 : Hid (Blk z7 w1.heap.size #[.slice aS P.length cs, .bool gs] 26) := bS_w7.out.grow hbz
  have bA_z7 : Hid (Blk z7 (w1.heap.size + 1) #[.slice (some ⟨ga, 0, none⟩) x.l.length ca, .int .i64 x.s, .int .i64 x.e, .string x.n] 29) := bA_w7.out.grow hbz
  have RX_z7 : Hid (RdN z7 (some ⟨Mx, 0, none⟩) TL) := RX_w7.out.below hbz
  have bX_z7 : Hid (Blk z7 w2.heap.size #[.slice (some ⟨Mx, 0, none⟩) TL.length cx, .bool TG] 26) := bX_w7.out.grow hbz
  have Ry_z7 : Hid (RdN z7 ay HP) := Ry_w7.out.below hbz
  have Ly_z7 : Hid (Reads z7 ey X.l) := Ly_w7.out.below hbz
  have bY_z7 : Hid (Blk z7 w4.heap.size #[.slice ay HP.length cy, .bool false] 26) := bY_w7.out.grow hbz
  have bB_z7 : Hid (Blk z7 (w4.heap.size + 1) #[.slice ey X.l.length dy, .int .i64 X.s, .int .i64 X.e, .string X.n] 29) := bB_w7.out.grow hbz
  have Rz_z7 : Hid (RdN z7 az HP) := Rz_w7.out.below hbz
  have Lz_z7 : Hid (Reads z7 ez X.l) := Lz_w7.out.below hbz
  have bZ_z7 : Hid (Blk z7 w5.heap.size #[.slice az HP.length cz, .bool false] 26) := bZ_w7.out.grow hbz
  have bC_z7 : Hid (Blk z7 (w5.heap.size + 1) #[.slice ez X.l.length dz, .int .i64 X.s, .int .i64 X.e, .string X.n] 29) := bC_w7.out.grow hbz
  have DO_z7 : Hid (DQ z7 ao co Po) := DO_w7.out.below hbz
  have bO_z7 : Hid (Blk z7 w6.heap.size #[.slice ao Po.length co, .bool go] 26) := bO_w7.out.grow hbz
  have DU_z7 : Hid (DQ z7 au cu Pu) := DU_w7.out.below hbz
  have DV_z7 : Hid (DQ z7 av cv Pv) := DV_w7.out.below hbz
  clear B_w7 DP_w7 DX_w7 bS_w7 bA_w7 RX_w7 bX_w7 Ry_w7 Ly_w7 bY_w7 bB_w7 Rz_w7 Lz_w7 bZ_w7 bC_w7 DO_w7 bO_w7 DU_w7 DV_w7
  clear hbz
  go_wp2_with fail
  refine (drawTellAll_any a len cap _ HL.out (bytes_up HB.out B_z7.out)).mono ?_
  rintro e w8 ⟨⟨Ml, cl, U, gd, cd, d, rfl, hU, hU3, hUf, hd⟩, hb⟩
  obtain ⟨V, hV⟩ : ∃ V, tellS U d = V := ⟨_, rfl⟩
  have FU : Hid (FewU U ∧ tellS U d = V ∧ FewU V) := ⟨⟨hU3, fun u hu => ⟨(hUf u hu).1, by have := (hUf u hu).2; omega⟩⟩, hV, few_tell ⟨hU3, hUf⟩ hd.2 hV⟩
  clear hV hU3 hUf
  have NRU : Hid (RdU RdN w8 (some ⟨Ml, 0, none⟩) U) := hU
  have NDD : Hid (DAl w8 gd d) := hd
  have B_w8 : Hid (Below w.heap.size w w8) := grow_on B_z7.out hb
  have DP_w8 : Hid (DQ w8 aS cs P) := DP_z7.out.below hb
  have DX_w8 : Hid (DAl w8 ga x) := DX_z7.out.below hb
  have bS_w8 : Hid (Blk w8 w1.heap.size #[.slice aS P.length cs, .bool gs] 26) := bS_z7.out.grow hb
  have bA_w8 : Hid (Blk w8 (w1.heap.size + 1) #[.slice (some ⟨ga, 0, none⟩) x.l.length ca, .int .i64 x.s, .int .i64 x.e, .string x.n] 29) := bA_z7.out.grow hb
  have RX_w8 : Hid (RdN w8 (some ⟨Mx, 0, none⟩) TL) := RX_z7.out.below hb
  have bX_w8 : Hid (Blk w8 w2.heap.size #[.slice (some ⟨Mx, 0, none⟩) TL.length cx, .bool TG] 26) := bX_z7.out.grow hb
  have Ry_w8 : Hid (RdN w8 ay HP) := Ry_z7.out.below hb
  have Ly_w8 : Hid (Reads w8 ey X.l) := Ly_z7.out.below hb
  have bY_w8 : Hid (Blk w8 w4.heap.size #[.slice ay HP.length cy, .bool false] 26) := bY_z7.out.grow hb
  have bB_w8 : Hid (Blk w8 (w4.heap.size + 1) #[.slice ey X.l.length dy, .int .i64 X.s, .int .i64 X.e, .string X.n] 29) := bB_z7.out.grow hb
  have Rz_w8 : Hid (RdN w8 az HP) := Rz_z7.out.below hb
  have Lz_w8 : Hid (Reads w8 ez X.l) := Lz_z7.out.below hb
  have bZ_w8 : Hid (Blk w8 w5.heap.size #[.slice az HP.length cz, .bool false] 26) := bZ_z7.out.grow hb
  have bC_w8 : Hid (Blk w8 (w5.heap.size + 1) #[.slice ez X.l.length dz, .int .i64 X.s, .int .i64 X.e, .string X.n] 29) := bC_z7.out.grow hb
  have DO_w8 : Hid (DQ w8 ao co Po) := DO_z7.out.below hb
  have bO_w8 : Hid (Blk w8 w6.heap.size #[.slice ao Po.length co, .bool go] 26) := bO_z7.out.grow hb
  have DU_w8 : Hid (DQ w8 au cu Pu) := DU_z7.out.below hb
  have DV_w8 : Hid (DQ w8 av cv Pv) := DV_z7.out.below hb
  have bU_w8 : Hid (Blk w8 w7.heap.size #[.slice au Pu.length cu, .bool gu] 26) := bU_z7.out.grow hb
  have bV_w8 : Hid (Blk w8 (w7.heap.size + 1) #[.slice av Pv.length cv, .bool gv] 26) := bV_z7.out.grow hb
  clear B_z7 DP_z7 DX_z7 bS_z7 bA_z7 RX_z7 bX_z7 Ry_z7 Ly_z7 bY_z7 bB_z7 Rz_z7 Lz_z7 bZ_z7 bC_z7 DO_z7 bO_z7 DU_z7 DV_z7 bU_z7 bV_z7
  have RU_w8 : Hid (RdU RdN w8 (some ⟨Ml, 0, none⟩) U) := NRU.out
  clear NRU
  have DD_w8 : Hid (DAl w8 gd d) := NDD.out
  clear NDD
  clear hb
  go_upto_region 11 with fail
  generalize hz : w8.alloc (.cells #[.slice (some ⟨gd, 0, none⟩) d.l.length cd, .int .i64 d.s, .int .i64 d.e, .string d.n] 29) = z8
  have hbz : Below w8.heap.size w8 z8 := by rw [← hz]; exact Go.Joins.below_alloc1 w8 _
  have bD_z8 : Hid (Blk z8 w8.heap.size #[.slice (some ⟨gd, 0, none⟩) d.l.length cd, .int .i64 d.s, .int .i64 d.e, .string d.n] 29) := by rw [← hz]; exact (Blk.new _ _ _)
  clear hz
  have B_z8 : Hid (Below w.heap.size w z8) := grow_on B_w8.out hbz
  have DP_z8 : Hid (DQ z8 aS cs P) := DP_w8.out.below hbz
  have DX_z8 : Hid (DAl z8 ga x) := DX_w8.out.below hbz
  have bS_z8 : Hid (Blk z8 w1.heap.size #[.slice aS P.length cs, .bool gs] 26) := bS_w8.out.grow hbz
  have bA_z8 : Hid (Blk z8 (w1.heap.size + 1) #[.slice (some ⟨ga, 0, none⟩) x.l.length ca, .int .i64 x.s, .int .i64 x.e, .string x.n] 29) := bA_w8.out.grow hbz
  have RX_z8 : Hid (RdN z8 (some ⟨Mx, 0, none⟩) TL) := RX_w8.out.below hbz
  have bX_z8 : Hid (Blk z8 w2.heap.size #[.slice (some ⟨Mx, 0, none⟩) TL.length cx, .bool TG] 26) := bX_w8.out.grow hbz
  have Ry_z8 : Hid (RdN z8 ay HP) := Ry_w8.out.below hbz
  have Ly_z8 : Hid (Reads z8 ey X.l) := Ly_w8.out.below hbz
  have bY_z8 : Hid (Blk z8 w4.heap.size #[.slice ay HP.length cy, .bool false] 26) := bY_w8.out.grow hbz
  have bB_z8 : Hid (Blk z8 (w4.heap.size + 1) #[.slice ey X.l.length dy, .int .i64 X.s, .int .i64 X.e, .string X.n] 29) := bB_w8.out.grow hbz
  have Rz_z8 : Hid (RdN z8 az HP) := Rz_w8.out.below hbz
  have Lz_z8 : Hid (Reads z8 ez X.l) := Lz_w8.out.below hbz
  have bZ_z8 : Hid (Blk z8 w5.heap.size #[.slice az HP.length cz, .bool false] 26) := bZ_w8.out.grow hbz
  have bC_z8 : Hid (Blk z8 (w5.heap.size + 1) #[.slice ez X.l.length dz, .int .i64 X.s, .int .i64 X.e, .string X.n] 29) := bC_w8.out.grow hbz
  have DO_z8 : Hid (DQ z8 ao co Po) := DO_w8.out.below hbz
  have bO_z8 : Hid (Blk z8 w6.heap.size #[.slice ao Po.length co, .bool go] 26) := bO_w8.out.grow hbz
  have DU_z8 : Hid (DQ z8 au cu Pu) := DU_w8.out.below hbz
  have DV_z8 : Hid (DQ z8 av cv Pv) := DV_w8.out.below hbz
  have bU_z8 : Hid (Blk z8 w7.heap.size #[.slice au Pu.length cu, .bool gu] 26) := bU_w8.out.grow hbz
  have bV_z8 : Hid (Blk z8 (w7.heap.size + 1) #[.slice av Pv.length cv, .bool gv] 26) := bV_w8.out.grow hbz
  have RU_z8 : Hid (RdU RdN z8 (some ⟨Ml, 0, none⟩) U) := RU_w8.out.below stays_rn hbz
  have DD_z8 : Hid (DAl z8 gd d) := DD_w8.out.below hbz
  clear B_w8 DP_w8 DX_w8 bS_w8 bA_w8 RX_w8 bX_w8 Ry_w8 Ly_w8 bY_w8 bB_w8 Rz_w8 Lz_w8 bZ_w8 bC_w8 DO_w8 bO_w8 DU_w8 DV_w8 bU_w8 bV_w8 RU_w8 DD_w8
  clear hbz
  have C3 : Hid (∀ (u : World), Below z8.heap.size z8 u → Calls Try.prog 19 #[.agg #[.slice aS P.length cs, .bool gs], .agg #[.slice (some ⟨ga, 0, none⟩) x.l.length ca, .int .i64 x.s, .int .i64 x.e, .string x.n]] u fun e w' => (∃ a' c, e = .returned (.agg #[.slice a' TL.length c, .bool TG]) ∧ RdN w' a' TL) ∧ Below u.heap.size u w') := fun u hu => specTellZ (DP_z8.out.below hu) (DX_z8.out.below hu) ET.out
  have C4 : Hid (∀ (u : World) (a' : Option Addr) (c' : Nat), Below z8.heap.size z8 u → RdN u a' TL → Calls Try.prog 18 #[.agg #[.slice (some ⟨Mx, 0, none⟩) TL.length cx, .bool TG], .agg #[.slice a' TL.length c', .bool TG]] u fun e w' => e = .returned (.bool true) ∧ Below u.heap.size u w') := fun u a' c' hu h => sameZ (RX_z8.out.below hu) h (by have := FT.out.2; omega) (finesP FT.out.1)
  have C9 : Hid (∀ (u : World), Below z8.heap.size z8 u → Calls Try.prog 18 #[.agg #[.slice ay HP.length cy, .bool false], .agg #[.slice az HP.length cz, .bool false]] u fun e w' => e = .returned (.bool true) ∧ Below u.heap.size u w') := fun u hu => sameZ (Ry_z8.out.below hu) (Rz_z8.out.below hu) (by have := FH.out.2; omega) (finesP FH.out.1)
  have C15 : Hid (∀ (u : World), Below z8.heap.size z8 u → Calls Try.prog 20 #[.agg #[.slice ey X.l.length dy, .int .i64 X.s, .int .i64 X.e, .string X.n], .agg #[.slice ez X.l.length dz, .int .i64 X.s, .int .i64 X.e, .string X.n]] u fun e w' => e = .returned (.bool true) ∧ Below u.heap.size u w') := fun u hu => (implSameA_any _ _ _ _ X.l X.l _ _ _ _ _ _ u (Ly_z8.out.below hu) (Lz_z8.out.below hu) FH.out.2.2 FH.out.2.2).mono fun e w' h => ⟨h.1.trans (retB (Alm.same_self _ _ _ _)), h.2⟩
  have C25 : Hid (∀ (u : World), Below z8.heap.size z8 u → Calls Try.prog 21 #[.agg #[.slice ao Po.length co, .bool go]] u fun e w' => e = .returned (.bool (subB Po go)) ∧ Below u.heap.size u w') := fun u hu => implSubOk_any go ao co Po u (DO_z8.out.1.rd.below hu) DO_z8.out.2.1.fits (by have := DO_z8.out.2.2.1; omega)
  have C27 : Hid (∀ (u : World), Below z8.heap.size z8 u → Calls Try.prog 22 #[.agg #[.slice ao Po.length co, .bool go]] u fun e w' => e = .returned (.bool (subB Po go)) ∧ Below u.heap.size u w') := fun u hu => specSubOk_any go ao co Po u (DO_z8.out.1.rd.below hu) DO_z8.out.2.1.fits (by have := DO_z8.out.2.2.1; omega)
  have C33 : Hid (∀ (u : World), Below z8.heap.size z8 u → Calls Try.prog 18 #[.agg #[.slice au Pu.length cu, .bool gu], .agg #[.slice av Pv.length cv, .bool gv]] u fun e w' => e = .returned (.bool (sameSB Pu gu Pv gv)) ∧ Below u.heap.size u w') := fun u hu => implSameS_any gu gv _ _ _ _ Pu Pv u (DU_z8.out.1.rd.below hu) (DV_z8.out.1.rd.below hu) (by have := DU_z8.out.2.2.1; omega) (by have := DV_z8.out.2.2.1; omega) (finesP DU_z8.out.2.1) (finesP DV_z8.out.2.1)
  have C36 : Hid (∀ (u : World), Below z8.heap.size z8 u → Calls Try.prog 23 #[.agg #[.slice au Pu.length cu, .bool gu], .agg #[.slice av Pv.length cv, .bool gv]] u fun e w' => e = .returned (.bool (sameSB Pu gu Pv gv)) ∧ Below u.heap.size u w') := fun u hu => specSameS_any gu gv _ _ _ _ Pu Pv u (DU_z8.out.1.rd.below hu) (DV_z8.out.1.rd.below hu) (by have := DU_z8.out.2.2.1; omega) (by have := DV_z8.out.2.2.1; omega) (finesP DU_z8.out.2.1) (finesP DV_z8.out.2.1)
  have C42 : Hid (∀ (u : World), Below z8.heap.size z8 u → Calls Try.prog 25 #[.slice (some ⟨Ml, 0, none⟩) U.length cl, .agg #[.slice (some ⟨gd, 0, none⟩) d.l.length cd, .int .i64 d.s, .int .i64 d.e, .string d.n]] u fun e w' => (∃ M c, e = .returned (.slice (some ⟨M, 0, none⟩) V.length c) ∧ RdU RdN w' (some ⟨M, 0, none⟩) V) ∧ Below u.heap.size u w') := fun u hu => implAllZ (rdu_below RU_z8.out hu) (DD_z8.out.below hu) FU.out.1 FU.out.2.1
  have C45 : Hid (∀ (u : World), Below z8.heap.size z8 u → Calls Try.prog 26 #[.slice (some ⟨Ml, 0, none⟩) U.length cl, .agg #[.slice (some ⟨gd, 0, none⟩) d.l.length cd, .int .i64 d.s, .int .i64 d.e, .string d.n]] u fun e w' => (∃ M c, e = .returned (.slice (some ⟨M, 0, none⟩) V.length c) ∧ RdU RdN w' (some ⟨M, 0, none⟩) V) ∧ Below u.heap.size u w') := fun u hu => specAllZ (rdu_below RU_z8.out hu) (DD_z8.out.below hu) FU.out.1 FU.out.2.1
  have C46 : Hid (∀ (u : World) (M c M' c' : Nat), RdU RdN u (some ⟨M, 0, none⟩) V → RdU RdN u (some ⟨M', 0, none⟩) V → Calls Try.prog 24 #[.slice (some ⟨M, 0, none⟩) V.length c, .slice (some ⟨M', 0, none⟩) V.length c'] u fun e w' => e = .returned (.bool true) ∧ Below u.heap.size u w') := fun u M c M' c' h h' => sameSubsZ _ _ c c' V u h.rd h'.rd FU.out.2.2
  have t1 : (subB Po go != subB Po go) = false := by simp
  have t2 : (sameSB Pu gu Pv gv != sameSB Pu gu Pv gv) = false := by simp
  have t3 : (hn != hn) = false := by simp
  have HS : Hid (∀ w', Below z8.heap.size z8 w' → Below z8.heap.size z8 w' ∧ w'.cell? ⟨w2.heap.size, 0, none⟩ = some (.slice (some ⟨Mx, 0, none⟩) TL.length cx) ∧ w'.cell? ⟨w2.heap.size, 1, none⟩ = some (.bool TG) ∧ w'.cell? ⟨w1.heap.size, 0, none⟩ = some (.slice aS P.length cs) ∧ w'.cell? ⟨w1.heap.size, 1, none⟩ = some (.bool gs) ∧ w'.cell? ⟨(w1.heap.size + 1), 0, none⟩ = some (.slice (some ⟨ga, 0, none⟩) x.l.length ca) ∧ w'.cell? ⟨(w1.heap.size + 1), 1, none⟩ = some (.int .i64 x.s) ∧ w'.cell? ⟨(w1.heap.size + 1), 2, none⟩ = some (.int .i64 x.e) ∧ w'.cell? ⟨(w1.heap.size + 1), 3, none⟩ = some (.string x.n) ∧ w'.cell? ⟨w4.heap.size, 0, none⟩ = some (.slice ay HP.length cy) ∧ w'.cell? ⟨w4.heap.size, 1, none⟩ = some (.bool false) ∧ w'.cell? ⟨w5.heap.size, 0, none⟩ = some (.slice az HP.length cz) ∧ w'.cell? ⟨w5.heap.size, 1, none⟩ = some (.bool false) ∧ w'.cell? ⟨(w4.heap.size + 1), 0, none⟩ = some (.slice ey X.l.length dy) ∧ w'.cell? ⟨(w4.heap.size + 1), 1, none⟩ = some (.int .i64 X.s) ∧ w'.cell? ⟨(w4.heap.size + 1), 2, none⟩ = some (.int .i64 X.e) ∧ w'.cell? ⟨(w4.heap.size + 1), 3, none⟩ = some (.string X.n) ∧ w'.cell? ⟨(w5.heap.size + 1), 0, none⟩ = some (.slice ez X.l.length dz) ∧ w'.cell? ⟨(w5.heap.size + 1), 1, none⟩ = some (.int .i64 X.s) ∧ w'.cell? ⟨(w5.heap.size + 1), 2, none⟩ = some (.int .i64 X.e) ∧ w'.cell? ⟨(w5.heap.size + 1), 3, none⟩ = some (.string X.n) ∧ w'.cell? ⟨w6.heap.size, 0, none⟩ = some (.slice ao Po.length co) ∧ w'.cell? ⟨w6.heap.size, 1, none⟩ = some (.bool go) ∧ w'.cell? ⟨w7.heap.size, 0, none⟩ = some (.slice au Pu.length cu) ∧ w'.cell? ⟨w7.heap.size, 1, none⟩ = some (.bool gu) ∧ w'.cell? ⟨(w7.heap.size + 1), 0, none⟩ = some (.slice av Pv.length cv) ∧ w'.cell? ⟨(w7.heap.size + 1), 1, none⟩ = some (.bool gv) ∧ w'.cell? ⟨w8.heap.size, 0, none⟩ = some (.slice (some ⟨gd, 0, none⟩) d.l.length cd) ∧ w'.cell? ⟨w8.heap.size, 1, none⟩ = some (.int .i64 d.s) ∧ w'.cell? ⟨w8.heap.size, 2, none⟩ = some (.int .i64 d.e) ∧ w'.cell? ⟨w8.heap.size, 3, none⟩ = some (.string d.n)) := fun w' h => ⟨h, (bX_z8.out.grow h).cell 0, (bX_z8.out.grow h).cell 1, (bS_z8.out.grow h).cell 0, (bS_z8.out.grow h).cell 1, (bA_z8.out.grow h).cell 0, (bA_z8.out.grow h).cell 1, (bA_z8.out.grow h).cell 2, (bA_z8.out.grow h).cell 3, (bY_z8.out.grow h).cell 0, (bY_z8.out.grow h).cell 1, (bZ_z8.out.grow h).cell 0, (bZ_z8.out.grow h).cell 1, (bB_z8.out.grow h).cell 0, (bB_z8.out.grow h).cell 1, (bB_z8.out.grow h).cell 2, (bB_z8.out.grow h).cell 3, (bC_z8.out.grow h).cell 0, (bC_z8.out.grow h).cell 1, (bC_z8.out.grow h).cell 2, (bC_z8.out.grow h).cell 3, (bO_z8.out.grow h).cell 0, (bO_z8.out.grow h).cell 1, (bU_z8.out.grow h).cell 0, (bU_z8.out.grow h).cell 1, (bV_z8.out.grow h).cell 0, (bV_z8.out.grow h).cell 1, (bD_z8.out.grow h).cell 0, (bD_z8.out.grow h).cell 1, (bD_z8.out.grow h).cell 2, (bD_z8.out.grow h).cell 3⟩
  go_upto_region 11 with fail
  refine wp_region_held_drew (S := fun w' => Below z8.heap.size z8 w' ∧ w'.cell? ⟨w2.heap.size, 0, none⟩ = some (.slice (some ⟨Mx, 0, none⟩) TL.length cx) ∧ w'.cell? ⟨w2.heap.size, 1, none⟩ = some (.bool TG) ∧ w'.cell? ⟨w1.heap.size, 0, none⟩ = some (.slice aS P.length cs) ∧ w'.cell? ⟨w1.heap.size, 1, none⟩ = some (.bool gs) ∧ w'.cell? ⟨(w1.heap.size + 1), 0, none⟩ = some (.slice (some ⟨ga, 0, none⟩) x.l.length ca) ∧ w'.cell? ⟨(w1.heap.size + 1), 1, none⟩ = some (.int .i64 x.s) ∧ w'.cell? ⟨(w1.heap.size + 1), 2, none⟩ = some (.int .i64 x.e) ∧ w'.cell? ⟨(w1.heap.size + 1), 3, none⟩ = some (.string x.n) ∧ w'.cell? ⟨w4.heap.size, 0, none⟩ = some (.slice ay HP.length cy) ∧ w'.cell? ⟨w4.heap.size, 1, none⟩ = some (.bool false) ∧ w'.cell? ⟨w5.heap.size, 0, none⟩ = some (.slice az HP.length cz) ∧ w'.cell? ⟨w5.heap.size, 1, none⟩ = some (.bool false) ∧ w'.cell? ⟨(w4.heap.size + 1), 0, none⟩ = some (.slice ey X.l.length dy) ∧ w'.cell? ⟨(w4.heap.size + 1), 1, none⟩ = some (.int .i64 X.s) ∧ w'.cell? ⟨(w4.heap.size + 1), 2, none⟩ = some (.int .i64 X.e) ∧ w'.cell? ⟨(w4.heap.size + 1), 3, none⟩ = some (.string X.n) ∧ w'.cell? ⟨(w5.heap.size + 1), 0, none⟩ = some (.slice ez X.l.length dz) ∧ w'.cell? ⟨(w5.heap.size + 1), 1, none⟩ = some (.int .i64 X.s) ∧ w'.cell? ⟨(w5.heap.size + 1), 2, none⟩ = some (.int .i64 X.e) ∧ w'.cell? ⟨(w5.heap.size + 1), 3, none⟩ = some (.string X.n) ∧ w'.cell? ⟨w6.heap.size, 0, none⟩ = some (.slice ao Po.length co) ∧ w'.cell? ⟨w6.heap.size, 1, none⟩ = some (.bool go) ∧ w'.cell? ⟨w7.heap.size, 0, none⟩ = some (.slice au Pu.length cu) ∧ w'.cell? ⟨w7.heap.size, 1, none⟩ = some (.bool gu) ∧ w'.cell? ⟨(w7.heap.size + 1), 0, none⟩ = some (.slice av Pv.length cv) ∧ w'.cell? ⟨(w7.heap.size + 1), 1, none⟩ = some (.bool gv) ∧ w'.cell? ⟨w8.heap.size, 0, none⟩ = some (.slice (some ⟨gd, 0, none⟩) d.l.length cd) ∧ w'.cell? ⟨w8.heap.size, 1, none⟩ = some (.int .i64 d.s) ∧ w'.cell? ⟨w8.heap.size, 2, none⟩ = some (.int .i64 d.e) ∧ w'.cell? ⟨w8.heap.size, 3, none⟩ = some (.string d.n)) (by kernel_rfl) (HS.out _ (Below.refl _ _).drew) (fun hHeld => ?_)
  refine wpAnyH_take (i := 0) (oi := { dst := some 54, op := Op.load 26 (Operand.tmp 5), type := 26, pos := "laws.go:427", after := #[], guard := none }) (v := ?vr0) rfl (by kernel_rfl) (by kernel_rfl) (by kernel_rfl) (fun _ _ _ h => h) (Or.inl ⟨by rfl, ?hyr0⟩) hHeld ?_
  case hyr0 => (intro w hSw; (try dsimp only at hSw); go_simp <;> with_reducible rfl)
  try simp only [Act.put, List.setIfInBounds_toArray, List.set_cons_zero, List.set_cons_succ]
  refine wpAnyH_take (i := 1) (oi := { dst := some 55, op := Op.load 26 (Operand.tmp 3), type := 26, pos := "laws.go:427", after := #[], guard := none }) (v := ?vr1) rfl (by kernel_rfl) (by kernel_rfl) (by kernel_rfl) (fun _ _ _ h => h) (Or.inl ⟨by rfl, ?hyr1⟩) hHeld ?_
  case hyr1 => (intro w hSw; (try dsimp only at hSw); go_simp <;> with_reducible rfl)
  try simp only [Act.put, List.setIfInBounds_toArray, List.set_cons_zero, List.set_cons_succ]
  refine wpAnyH_take (i := 2) (oi := { dst := some 56, op := Op.load 29 (Operand.tmp 4), type := 29, pos := "laws.go:427", after := #[], guard := none }) (v := ?vr2) rfl (by kernel_rfl) (by kernel_rfl) (by kernel_rfl) (fun _ _ _ h => h) (Or.inl ⟨by rfl, ?hyr2⟩) hHeld ?_
  case hyr2 => (intro w hSw; (try dsimp only at hSw); go_simp <;> with_reducible rfl)
  try simp only [Act.put, List.setIfInBounds_toArray, List.set_cons_zero, List.set_cons_succ]
  refine wpAnyH_ready (rs := [3]) (by kernel_rfl) (by simp) ?_
  refine AllReadyH.cons (o := { dst := some 57, op := Op.call { callee := Callee.value (Operand.func 19), args := #[Operand.tmp 55, Operand.tmp 56], argTypes := #[26, 29] }, type := 26, pos := "laws.go:427", after := #[{ on := 1, ground := Ground.data }, { on := 2, ground := Ground.data }], guard := none }) rfl (fun K hK => ?_) AllReadyH.nil
  go_simp
  refine (C3.out _ hHeld.1).mono ?_
  rintro r wvr3 ⟨⟨a3, c3, rfl, hr3⟩, hy⟩
  have HK3 : Hid (RdN wvr3 a3 TL) := hr3
  clear hr3
  have hz : Below z8.heap.size z8 wvr3 := grow_on hHeld.1 hy
  clear hHeld hy
  refine hK.out _ _ (HS.out _ hz) (fun hHeld => ?_)
  clear hK K hz
  try simp only [Act.put, List.setIfInBounds_toArray, List.set_cons_zero, List.set_cons_succ]
  refine wpAnyH_ready (rs := [4]) (by kernel_rfl) (by simp) ?_
  refine AllReadyH.cons (o := { dst := some 58, op := Op.call { callee := Callee.value (Operand.func 18), args := #[Operand.tmp 54, Operand.tmp 57], argTypes := #[26, 26] }, type := 4, pos := "laws.go:427", after := #[{ on := 0, ground := Ground.data }, { on := 3, ground := Ground.data }, { on := 3, ground := Ground.chain }], guard := none }) rfl (fun K hK => ?_) AllReadyH.nil
  go_simp
  refine (C4.out _ _ _ hHeld.1 HK3.out).mono ?_
  rintro r wvr4 ⟨rfl, hy⟩
  have hz : Below z8.heap.size z8 wvr4 := grow_on hHeld.1 hy
  clear hHeld hy
  refine hK.out _ _ (HS.out _ hz) (fun hHeld => ?_)
  clear hK K hz
  try simp only [Act.put, List.setIfInBounds_toArray, List.set_cons_zero, List.set_cons_succ]
  refine wpAnyH_take (i := 5) (oi := { dst := some 59, op := Op.unOp UnOp.not 4 (Operand.tmp 58), type := 4, pos := "laws.go:427", after := #[{ on := 4, ground := Ground.data }], guard := none }) (v := ?vr5) rfl (by kernel_rfl) (by kernel_rfl) (by kernel_rfl) (fun _ _ _ h => h) (Or.inl ⟨by rfl, ?hyr5⟩) hHeld ?_
  case hyr5 => (intro w hSw; (try dsimp only at hSw); go_simp <;> with_reducible rfl)
  try simp only [Act.put, List.setIfInBounds_toArray, List.set_cons_zero, List.set_cons_succ]
  refine wpAnyH_take (i := 6) (oi := { dst := some 60, op := Op.move (Operand.tmp 59), type := 4, pos := "laws.go:427", after := #[{ on := 5, ground := Ground.data }, { on := 4, ground := Ground.chain }], guard := none }) (v := ?vr6) rfl (by kernel_rfl) (by kernel_rfl) (by kernel_rfl) (fun _ _ _ h => h) (Or.inl ⟨by rfl, ?hyr6⟩) hHeld ?_
  case hyr6 => (intro w hSw; (try dsimp only at hSw); go_simp <;> with_reducible rfl)
  try simp only [Act.put, List.setIfInBounds_toArray, List.set_cons_zero, List.set_cons_succ]
  refine wpAnyH_take (i := 7) (oi := { dst := some 61, op := Op.load 26 (Operand.tmp 7), type := 26, pos := "laws.go:427", after := #[{ on := 6, ground := Ground.guard }], guard := some (6, false) }) (v := ?vr7) rfl (by kernel_rfl) (by kernel_rfl) (by kernel_rfl) (fun _ _ _ h => h) (Or.inl ⟨by rfl, ?hyr7⟩) hHeld ?_
  case hyr7 => (intro w hSw; (try dsimp only at hSw); go_simp <;> with_reducible rfl)
  try simp only [Act.put, List.setIfInBounds_toArray, List.set_cons_zero, List.set_cons_succ]
  refine wpAnyH_take (i := 8) (oi := { dst := some 62, op := Op.load 26 (Operand.tmp 10), type := 26, pos := "laws.go:427", after := #[{ on := 6, ground := Ground.guard }], guard := some (6, false) }) (v := ?vr8) rfl (by kernel_rfl) (by kernel_rfl) (by kernel_rfl) (fun _ _ _ h => h) (Or.inl ⟨by rfl, ?hyr8⟩) hHeld ?_
  case hyr8 => (intro w hSw; (try dsimp only at hSw); go_simp <;> with_reducible rfl)
  try simp only [Act.put, List.setIfInBounds_toArray, List.set_cons_zero, List.set_cons_succ]
  refine wpAnyH_ready (rs := [9]) (by kernel_rfl) (by simp) ?_
  refine AllReadyH.cons (o := { dst := some 63, op := Op.call { callee := Callee.value (Operand.func 18), args := #[Operand.tmp 61, Operand.tmp 62], argTypes := #[26, 26] }, type := 4, pos := "laws.go:427", after := #[{ on := 7, ground := Ground.data }, { on := 8, ground := Ground.data }, { on := 6, ground := Ground.chain }, { on := 6, ground := Ground.guard }], guard := some (6, false) }) rfl (fun K hK => ?_) AllReadyH.nil
  go_simp
  refine (C9.out _ hHeld.1).mono ?_
  rintro r wvr9 ⟨rfl, hy⟩
  have hz : Below z8.heap.size z8 wvr9 := grow_on hHeld.1 hy
  clear hHeld hy
  refine hK.out _ _ (HS.out _ hz) (fun hHeld => ?_)
  clear hK K hz
  try simp only [Act.put, List.setIfInBounds_toArray, List.set_cons_zero, List.set_cons_succ]
  refine wpAnyH_take (i := 10) (oi := { dst := some 64, op := Op.unOp UnOp.not 4 (Operand.tmp 63), type := 4, pos := "laws.go:427", after := #[{ on := 9, ground := Ground.data }, { on := 6, ground := Ground.guard }], guard := some (6, false) }) (v := ?vr10) rfl (by kernel_rfl) (by kernel_rfl) (by kernel_rfl) (fun _ _ _ h => h) (Or.inl ⟨by rfl, ?hyr10⟩) hHeld ?_
  case hyr10 => (intro w hSw; (try dsimp only at hSw); go_simp <;> with_reducible rfl)
  try simp only [Act.put, List.setIfInBounds_toArray, List.set_cons_zero, List.set_cons_succ]
  refine wpAnyH_take (i := 11) (oi := { dst := some 65, op := Op.pick (Operand.tmp 60) (Operand.const (Value.bool true)) (Operand.tmp 64), type := 4, pos := "laws.go:427", after := #[{ on := 6, ground := Ground.data }, { on := 10, ground := Ground.data }], guard := none }) (v := ?vr11) rfl (by kernel_rfl) (by kernel_rfl) (by kernel_rfl) (fun _ _ _ h => h) (Or.inl ⟨by rfl, ?hyr11⟩) hHeld ?_
  case hyr11 => (intro w hSw; (try dsimp only at hSw); go_simp <;> with_reducible rfl)
  try simp only [Act.put, List.setIfInBounds_toArray, List.set_cons_zero, List.set_cons_succ]
  refine wpAnyH_take (i := 12) (oi := { dst := some 66, op := Op.move (Operand.tmp 65), type := 4, pos := "laws.go:427", after := #[{ on := 11, ground := Ground.data }, { on := 9, ground := Ground.chain }], guard := none }) (v := ?vr12) rfl (by kernel_rfl) (by kernel_rfl) (by kernel_rfl) (fun _ _ _ h => h) (Or.inl ⟨by rfl, ?hyr12⟩) hHeld ?_
  case hyr12 => (intro w hSw; (try dsimp only at hSw); go_simp <;> with_reducible rfl)
  try simp only [Act.put, List.setIfInBounds_toArray, List.set_cons_zero, List.set_cons_succ]
  refine wpAnyH_take (i := 13) (oi := { dst := some 67, op := Op.load 29 (Operand.tmp 8), type := 29, pos := "laws.go:427", after := #[{ on := 12, ground := Ground.guard }], guard := some (12, false) }) (v := ?vr13) rfl (by kernel_rfl) (by kernel_rfl) (by kernel_rfl) (fun _ _ _ h => h) (Or.inl ⟨by rfl, ?hyr13⟩) hHeld ?_
  case hyr13 => (intro w hSw; (try dsimp only at hSw); go_simp <;> with_reducible rfl)
  try simp only [Act.put, List.setIfInBounds_toArray, List.set_cons_zero, List.set_cons_succ]
  refine wpAnyH_take (i := 14) (oi := { dst := some 68, op := Op.load 29 (Operand.tmp 11), type := 29, pos := "laws.go:427", after := #[{ on := 12, ground := Ground.guard }], guard := some (12, false) }) (v := ?vr14) rfl (by kernel_rfl) (by kernel_rfl) (by kernel_rfl) (fun _ _ _ h => h) (Or.inl ⟨by rfl, ?hyr14⟩) hHeld ?_
  case hyr14 => (intro w hSw; (try dsimp only at hSw); go_simp <;> with_reducible rfl)
  try simp only [Act.put, List.setIfInBounds_toArray, List.set_cons_zero, List.set_cons_succ]
  refine wpAnyH_ready (rs := [15]) (by kernel_rfl) (by simp) ?_
  refine AllReadyH.cons (o := { dst := some 69, op := Op.call { callee := Callee.value (Operand.func 20), args := #[Operand.tmp 67, Operand.tmp 68], argTypes := #[29, 29] }, type := 4, pos := "laws.go:427", after := #[{ on := 13, ground := Ground.data }, { on := 14, ground := Ground.data }, { on := 12, ground := Ground.chain }, { on := 12, ground := Ground.guard }], guard := some (12, false) }) rfl (fun K hK => ?_) AllReadyH.nil
  go_simp
  refine (C15.out _ hHeld.1).mono ?_
  rintro r wvr15 ⟨rfl, hy⟩
  have hz : Below z8.heap.size z8 wvr15 := grow_on hHeld.1 hy
  clear hHeld hy
  refine hK.out _ _ (HS.out _ hz) (fun hHeld => ?_)
  clear hK K hz
  try simp only [Act.put, List.setIfInBounds_toArray, List.set_cons_zero, List.set_cons_succ]
  refine wpAnyH_take (i := 16) (oi := { dst := some 70, op := Op.unOp UnOp.not 4 (Operand.tmp 69), type := 4, pos := "laws.go:427", after := #[{ on := 15, ground := Ground.data }, { on := 12, ground := Ground.guard }], guard := some (12, false) }) (v := ?vr16) rfl (by kernel_rfl) (by kernel_rfl) (by kernel_rfl) (fun _ _ _ h => h) (Or.inl ⟨by rfl, ?hyr16⟩) hHeld ?_
  case hyr16 => (intro w hSw; (try dsimp only at hSw); go_simp <;> with_reducible rfl)
  try simp only [Act.put, List.setIfInBounds_toArray, List.set_cons_zero, List.set_cons_succ]
  refine wpAnyH_take (i := 17) (oi := { dst := some 71, op := Op.pick (Operand.tmp 66) (Operand.const (Value.bool true)) (Operand.tmp 70), type := 4, pos := "laws.go:427", after := #[{ on := 12, ground := Ground.data }, { on := 16, ground := Ground.data }], guard := none }) (v := ?vr17) rfl (by kernel_rfl) (by kernel_rfl) (by kernel_rfl) (fun _ _ _ h => h) (Or.inl ⟨by rfl, ?hyr17⟩) hHeld ?_
  case hyr17 => (intro w hSw; (try dsimp only at hSw); go_simp <;> with_reducible rfl)
  try simp only [Act.put, List.setIfInBounds_toArray, List.set_cons_zero, List.set_cons_succ]
  refine wpAnyH_take (i := 18) (oi := { dst := some 72, op := Op.move (Operand.tmp 71), type := 4, pos := "laws.go:427", after := #[{ on := 17, ground := Ground.data }, { on := 15, ground := Ground.chain }], guard := none }) (v := ?vr18) rfl (by kernel_rfl) (by kernel_rfl) (by kernel_rfl) (fun _ _ _ h => h) (Or.inl ⟨by rfl, ?hyr18⟩) hHeld ?_
  case hyr18 => (intro w hSw; (try dsimp only at hSw); go_simp <;> with_reducible rfl)
  try simp only [Act.put, List.setIfInBounds_toArray, List.set_cons_zero, List.set_cons_succ]
  refine wpAnyH_take (i := 19) (oi := { dst := some 73, op := Op.move (Operand.tmp 9), type := 3, pos := "laws.go:427", after := #[{ on := 18, ground := Ground.guard }], guard := some (18, false) }) (v := ?vr19) rfl (by kernel_rfl) (by kernel_rfl) (by kernel_rfl) (fun _ _ _ h => h) (Or.inl ⟨by rfl, ?hyr19⟩) hHeld ?_
  case hyr19 => (intro w hSw; (try dsimp only at hSw); go_simp <;> with_reducible rfl)
  try simp only [Act.put, List.setIfInBounds_toArray, List.set_cons_zero, List.set_cons_succ]
  refine wpAnyH_take (i := 20) (oi := { dst := some 74, op := Op.move (Operand.tmp 12), type := 3, pos := "laws.go:427", after := #[{ on := 18, ground := Ground.guard }], guard := some (18, false) }) (v := ?vr20) rfl (by kernel_rfl) (by kernel_rfl) (by kernel_rfl) (fun _ _ _ h => h) (Or.inl ⟨by rfl, ?hyr20⟩) hHeld ?_
  case hyr20 => (intro w hSw; (try dsimp only at hSw); go_simp <;> with_reducible rfl)
  try simp only [Act.put, List.setIfInBounds_toArray, List.set_cons_zero, List.set_cons_succ]
  refine wpAnyH_take (i := 21) (oi := { dst := some 75, op := Op.binOp BinOp.neq 3 (Operand.tmp 73) (Operand.tmp 74) 3, type := 4, pos := "laws.go:427", after := #[{ on := 19, ground := Ground.data }, { on := 20, ground := Ground.data }, { on := 18, ground := Ground.guard }], guard := some (18, false) }) (v := ?vr21) rfl (by kernel_rfl) (by kernel_rfl) (by kernel_rfl) (fun _ _ _ h => h) (Or.inl ⟨by rfl, ?hyr21⟩) hHeld ?_
  case hyr21 => (intro w hSw; (try dsimp only at hSw); go_simp <;> with_reducible rfl)
  try simp only [Act.put, List.setIfInBounds_toArray, List.set_cons_zero, List.set_cons_succ]
  refine wpAnyH_take (i := 22) (oi := { dst := some 76, op := Op.pick (Operand.tmp 72) (Operand.const (Value.bool true)) (Operand.tmp 75), type := 4, pos := "laws.go:427", after := #[{ on := 18, ground := Ground.data }, { on := 21, ground := Ground.data }], guard := none }) (v := ?vr22) rfl (by kernel_rfl) (by kernel_rfl) (by kernel_rfl) (fun _ _ _ h => h) (Or.inl ⟨by rfl, ?hyr22⟩) hHeld ?_
  case hyr22 => (intro w hSw; (try dsimp only at hSw); go_simp <;> with_reducible rfl)
  try simp only [Act.put, List.setIfInBounds_toArray, List.set_cons_zero, List.set_cons_succ]
  refine wpAnyH_take (i := 23) (oi := { dst := some 77, op := Op.move (Operand.tmp 76), type := 4, pos := "laws.go:427", after := #[{ on := 22, ground := Ground.data }, { on := 18, ground := Ground.chain }], guard := none }) (v := ?vr23) rfl (by kernel_rfl) (by kernel_rfl) (by kernel_rfl) (fun _ _ _ h => h) (Or.inl ⟨by rfl, ?hyr23⟩) hHeld ?_
  case hyr23 => (intro w hSw; (try dsimp only at hSw); go_simp <;> with_reducible rfl)
  try simp only [Act.put, List.setIfInBounds_toArray, List.set_cons_zero, List.set_cons_succ]
  refine wpAnyH_take (i := 24) (oi := { dst := some 78, op := Op.load 26 (Operand.tmp 13), type := 26, pos := "laws.go:427", after := #[{ on := 23, ground := Ground.guard }], guard := some (23, false) }) (v := ?vr24) rfl (by kernel_rfl) (by kernel_rfl) (by kernel_rfl) (fun _ _ _ h => h) (Or.inl ⟨by rfl, ?hyr24⟩) hHeld ?_
  case hyr24 => (intro w hSw; (try dsimp only at hSw); go_simp <;> with_reducible rfl)
  try simp only [Act.put, List.setIfInBounds_toArray, List.set_cons_zero, List.set_cons_succ]
  refine wpAnyH_take (i := 26) (oi := { dst := some 80, op := Op.load 26 (Operand.tmp 13), type := 26, pos := "laws.go:427", after := #[{ on := 23, ground := Ground.guard }], guard := some (23, false) }) (v := ?vr26) rfl (by kernel_rfl) (by kernel_rfl) (by kernel_rfl) (fun _ _ _ h => h) (Or.inl ⟨by rfl, ?hyr26⟩) hHeld ?_
  case hyr26 => (intro w hSw; (try dsimp only at hSw); go_simp <;> with_reducible rfl)
  try simp only [Act.put, List.setIfInBounds_toArray, List.set_cons_zero, List.set_cons_succ]
  refine wpAnyH_ready (rs := [25]) (by kernel_rfl) (by simp) ?_
  refine AllReadyH.cons (o := { dst := some 79, op := Op.call { callee := Callee.value (Operand.func 21), args := #[Operand.tmp 78], argTypes := #[26] }, type := 4, pos := "laws.go:427", after := #[{ on := 24, ground := Ground.data }, { on := 23, ground := Ground.chain }, { on := 23, ground := Ground.guard }], guard := some (23, false) }) rfl (fun K hK => ?_) AllReadyH.nil
  go_simp
  refine (C25.out _ hHeld.1).mono ?_
  rintro r wvr25 ⟨rfl, hy⟩
  have hz : Below z8.heap.size z8 wvr25 := grow_on hHeld.1 hy
  clear hHeld hy
  refine hK.out _ _ (HS.out _ hz) (fun hHeld => ?_)
  clear hK K hz
  try simp only [Act.put, List.setIfInBounds_toArray, List.set_cons_zero, List.set_cons_succ]
  refine wpAnyH_ready (rs := [27]) (by kernel_rfl) (by simp) ?_
  refine AllReadyH.cons (o := { dst := some 81, op := Op.call { callee := Callee.value (Operand.func 22), args := #[Operand.tmp 80], argTypes := #[26] }, type := 4, pos := "laws.go:427", after := #[{ on := 26, ground := Ground.data }, { on := 25, ground := Ground.chain }, { on := 23, ground := Ground.guard }], guard := some (23, false) }) rfl (fun K hK => ?_) AllReadyH.nil
  go_simp
  refine (C27.out _ hHeld.1).mono ?_
  rintro r wvr27 ⟨rfl, hy⟩
  have hz : Below z8.heap.size z8 wvr27 := grow_on hHeld.1 hy
  clear hHeld hy
  refine hK.out _ _ (HS.out _ hz) (fun hHeld => ?_)
  clear hK K hz
  try simp only [Act.put, List.setIfInBounds_toArray, List.set_cons_zero, List.set_cons_succ]
  refine wpAnyH_take (i := 28) (oi := { dst := some 82, op := Op.binOp BinOp.neq 4 (Operand.tmp 79) (Operand.tmp 81) 4, type := 4, pos := "laws.go:427", after := #[{ on := 25, ground := Ground.data }, { on := 27, ground := Ground.data }, { on := 23, ground := Ground.guard }], guard := some (23, false) }) (v := ?vr28) rfl (by kernel_rfl) (by kernel_rfl) (by kernel_rfl) (fun _ _ _ h => h) (Or.inl ⟨by rfl, ?hyr28⟩) hHeld ?_
  case hyr28 => (intro w hSw; (try dsimp only at hSw); go_simp <;> with_reducible rfl)
  try simp only [Act.put, List.setIfInBounds_toArray, List.set_cons_zero, List.set_cons_succ]
  refine wpAnyH_take (i := 29) (oi := { dst := some 83, op := Op.pick (Operand.tmp 77) (Operand.const (Value.bool true)) (Operand.tmp 82), type := 4, pos := "laws.go:427", after := #[{ on := 23, ground := Ground.data }, { on := 28, ground := Ground.data }], guard := none }) (v := ?vr29) rfl (by kernel_rfl) (by kernel_rfl) (by kernel_rfl) (fun _ _ _ h => h) (Or.inl ⟨by rfl, ?hyr29⟩) hHeld ?_
  case hyr29 => (intro w hSw; (try dsimp only at hSw); go_simp <;> with_reducible rfl)
  try simp only [Act.put, List.setIfInBounds_toArray, List.set_cons_zero, List.set_cons_succ]
  refine wpAnyH_take (i := 30) (oi := { dst := some 84, op := Op.move (Operand.tmp 83), type := 4, pos := "laws.go:427", after := #[{ on := 29, ground := Ground.data }, { on := 27, ground := Ground.chain }], guard := none }) (v := ?vr30) rfl (by kernel_rfl) (by kernel_rfl) (by kernel_rfl) (fun _ _ _ h => h) (Or.inl ⟨by rfl, ?hyr30⟩) hHeld ?_
  case hyr30 => (intro w hSw; (try dsimp only at hSw); go_simp <;> with_reducible rfl)
  try simp only [Act.put, List.setIfInBounds_toArray, List.set_cons_zero, List.set_cons_succ]
  refine wpAnyH_take (i := 31) (oi := { dst := some 85, op := Op.load 26 (Operand.tmp 14), type := 26, pos := "laws.go:427", after := #[{ on := 30, ground := Ground.guard }], guard := some (30, false) }) (v := ?vr31) rfl (by kernel_rfl) (by kernel_rfl) (by kernel_rfl) (fun _ _ _ h => h) (Or.inl ⟨by rfl, ?hyr31⟩) hHeld ?_
  case hyr31 => (intro w hSw; (try dsimp only at hSw); go_simp <;> with_reducible rfl)
  try simp only [Act.put, List.setIfInBounds_toArray, List.set_cons_zero, List.set_cons_succ]
  refine wpAnyH_take (i := 32) (oi := { dst := some 86, op := Op.load 26 (Operand.tmp 15), type := 26, pos := "laws.go:427", after := #[{ on := 30, ground := Ground.guard }], guard := some (30, false) }) (v := ?vr32) rfl (by kernel_rfl) (by kernel_rfl) (by kernel_rfl) (fun _ _ _ h => h) (Or.inl ⟨by rfl, ?hyr32⟩) hHeld ?_
  case hyr32 => (intro w hSw; (try dsimp only at hSw); go_simp <;> with_reducible rfl)
  try simp only [Act.put, List.setIfInBounds_toArray, List.set_cons_zero, List.set_cons_succ]
  refine wpAnyH_take (i := 34) (oi := { dst := some 88, op := Op.load 26 (Operand.tmp 14), type := 26, pos := "laws.go:427", after := #[{ on := 30, ground := Ground.guard }], guard := some (30, false) }) (v := ?vr34) rfl (by kernel_rfl) (by kernel_rfl) (by kernel_rfl) (fun _ _ _ h => h) (Or.inl ⟨by rfl, ?hyr34⟩) hHeld ?_
  case hyr34 => (intro w hSw; (try dsimp only at hSw); go_simp <;> with_reducible rfl)
  try simp only [Act.put, List.setIfInBounds_toArray, List.set_cons_zero, List.set_cons_succ]
  refine wpAnyH_take (i := 35) (oi := { dst := some 89, op := Op.load 26 (Operand.tmp 15), type := 26, pos := "laws.go:427", after := #[{ on := 30, ground := Ground.guard }], guard := some (30, false) }) (v := ?vr35) rfl (by kernel_rfl) (by kernel_rfl) (by kernel_rfl) (fun _ _ _ h => h) (Or.inl ⟨by rfl, ?hyr35⟩) hHeld ?_
  case hyr35 => (intro w hSw; (try dsimp only at hSw); go_simp <;> with_reducible rfl)
  try simp only [Act.put, List.setIfInBounds_toArray, List.set_cons_zero, List.set_cons_succ]
  refine wpAnyH_ready (rs := [33]) (by kernel_rfl) (by simp) ?_
  refine AllReadyH.cons (o := { dst := some 87, op := Op.call { callee := Callee.value (Operand.func 18), args := #[Operand.tmp 85, Operand.tmp 86], argTypes := #[26, 26] }, type := 4, pos := "laws.go:427", after := #[{ on := 31, ground := Ground.data }, { on := 32, ground := Ground.data }, { on := 30, ground := Ground.chain }, { on := 30, ground := Ground.guard }], guard := some (30, false) }) rfl (fun K hK => ?_) AllReadyH.nil
  go_simp
  refine (C33.out _ hHeld.1).mono ?_
  rintro r wvr33 ⟨rfl, hy⟩
  have hz : Below z8.heap.size z8 wvr33 := grow_on hHeld.1 hy
  clear hHeld hy
  refine hK.out _ _ (HS.out _ hz) (fun hHeld => ?_)
  clear hK K hz
  try simp only [Act.put, List.setIfInBounds_toArray, List.set_cons_zero, List.set_cons_succ]
  refine wpAnyH_ready (rs := [36]) (by kernel_rfl) (by simp) ?_
  refine AllReadyH.cons (o := { dst := some 90, op := Op.call { callee := Callee.value (Operand.func 23), args := #[Operand.tmp 88, Operand.tmp 89], argTypes := #[26, 26] }, type := 4, pos := "laws.go:427", after := #[{ on := 34, ground := Ground.data }, { on := 35, ground := Ground.data }, { on := 33, ground := Ground.chain }, { on := 30, ground := Ground.guard }], guard := some (30, false) }) rfl (fun K hK => ?_) AllReadyH.nil
  go_simp
  refine (C36.out _ hHeld.1).mono ?_
  rintro r wvr36 ⟨rfl, hy⟩
  have hz : Below z8.heap.size z8 wvr36 := grow_on hHeld.1 hy
  clear hHeld hy
  refine hK.out _ _ (HS.out _ hz) (fun hHeld => ?_)
  clear hK K hz
  try simp only [Act.put, List.setIfInBounds_toArray, List.set_cons_zero, List.set_cons_succ]
  refine wpAnyH_take (i := 37) (oi := { dst := some 91, op := Op.binOp BinOp.neq 4 (Operand.tmp 87) (Operand.tmp 90) 4, type := 4, pos := "laws.go:427", after := #[{ on := 33, ground := Ground.data }, { on := 36, ground := Ground.data }, { on := 30, ground := Ground.guard }], guard := some (30, false) }) (v := ?vr37) rfl (by kernel_rfl) (by kernel_rfl) (by kernel_rfl) (fun _ _ _ h => h) (Or.inl ⟨by rfl, ?hyr37⟩) hHeld ?_
  case hyr37 => (intro w hSw; (try dsimp only at hSw); go_simp <;> with_reducible rfl)
  try simp only [Act.put, List.setIfInBounds_toArray, List.set_cons_zero, List.set_cons_succ]
  refine wpAnyH_take (i := 38) (oi := { dst := some 92, op := Op.pick (Operand.tmp 84) (Operand.const (Value.bool true)) (Operand.tmp 91), type := 4, pos := "laws.go:427", after := #[{ on := 30, ground := Ground.data }, { on := 37, ground := Ground.data }], guard := none }) (v := ?vr38) rfl (by kernel_rfl) (by kernel_rfl) (by kernel_rfl) (fun _ _ _ h => h) (Or.inl ⟨by rfl, ?hyr38⟩) hHeld ?_
  case hyr38 => (intro w hSw; (try dsimp only at hSw); go_simp <;> with_reducible rfl)
  try simp only [Act.put, List.setIfInBounds_toArray, List.set_cons_zero, List.set_cons_succ]
  refine wpAnyH_take (i := 39) (oi := { dst := some 93, op := Op.move (Operand.tmp 92), type := 4, pos := "laws.go:427", after := #[{ on := 38, ground := Ground.data }, { on := 36, ground := Ground.chain }], guard := none }) (v := ?vr39) rfl (by kernel_rfl) (by kernel_rfl) (by kernel_rfl) (fun _ _ _ h => h) (Or.inl ⟨by rfl, ?hyr39⟩) hHeld ?_
  case hyr39 => (intro w hSw; (try dsimp only at hSw); go_simp <;> with_reducible rfl)
  try simp only [Act.put, List.setIfInBounds_toArray, List.set_cons_zero, List.set_cons_succ]
  refine wpAnyH_take (i := 40) (oi := { dst := some 94, op := Op.move (Operand.tmp 16), type := 38, pos := "laws.go:427", after := #[{ on := 39, ground := Ground.guard }], guard := some (39, false) }) (v := ?vr40) rfl (by kernel_rfl) (by kernel_rfl) (by kernel_rfl) (fun _ _ _ h => h) (Or.inl ⟨by rfl, ?hyr40⟩) hHeld ?_
  case hyr40 => (intro w hSw; (try dsimp only at hSw); go_simp <;> with_reducible rfl)
  try simp only [Act.put, List.setIfInBounds_toArray, List.set_cons_zero, List.set_cons_succ]
  refine wpAnyH_take (i := 41) (oi := { dst := some 95, op := Op.load 29 (Operand.tmp 17), type := 29, pos := "laws.go:427", after := #[{ on := 39, ground := Ground.guard }], guard := some (39, false) }) (v := ?vr41) rfl (by kernel_rfl) (by kernel_rfl) (by kernel_rfl) (fun _ _ _ h => h) (Or.inl ⟨by rfl, ?hyr41⟩) hHeld ?_
  case hyr41 => (intro w hSw; (try dsimp only at hSw); go_simp <;> with_reducible rfl)
  try simp only [Act.put, List.setIfInBounds_toArray, List.set_cons_zero, List.set_cons_succ]
  refine wpAnyH_take (i := 43) (oi := { dst := some 97, op := Op.move (Operand.tmp 16), type := 38, pos := "laws.go:427", after := #[{ on := 39, ground := Ground.guard }], guard := some (39, false) }) (v := ?vr43) rfl (by kernel_rfl) (by kernel_rfl) (by kernel_rfl) (fun _ _ _ h => h) (Or.inl ⟨by rfl, ?hyr43⟩) hHeld ?_
  case hyr43 => (intro w hSw; (try dsimp only at hSw); go_simp <;> with_reducible rfl)
  try simp only [Act.put, List.setIfInBounds_toArray, List.set_cons_zero, List.set_cons_succ]
  refine wpAnyH_take (i := 44) (oi := { dst := some 98, op := Op.load 29 (Operand.tmp 17), type := 29, pos := "laws.go:427", after := #[{ on := 39, ground := Ground.guard }], guard := some (39, false) }) (v := ?vr44) rfl (by kernel_rfl) (by kernel_rfl) (by kernel_rfl) (fun _ _ _ h => h) (Or.inl ⟨by rfl, ?hyr44⟩) hHeld ?_
  case hyr44 => (intro w hSw; (try dsimp only at hSw); go_simp <;> with_reducible rfl)
  try simp only [Act.put, List.setIfInBounds_toArray, List.set_cons_zero, List.set_cons_succ]
  refine wpAnyH_ready (rs := [42]) (by kernel_rfl) (by simp) ?_
  refine AllReadyH.cons (o := { dst := some 96, op := Op.call { callee := Callee.value (Operand.func 25), args := #[Operand.tmp 94, Operand.tmp 95], argTypes := #[38, 29] }, type := 38, pos := "laws.go:427", after := #[{ on := 40, ground := Ground.data }, { on := 41, ground := Ground.data }, { on := 39, ground := Ground.chain }, { on := 39, ground := Ground.guard }], guard := some (39, false) }) rfl (fun K hK => ?_) AllReadyH.nil
  go_simp
  refine (C42.out _ hHeld.1).mono ?_
  rintro r wvr42 ⟨⟨M42, c42, rfl, hr42⟩, hy⟩
  have HK42 : Hid (RdU RdN wvr42 (some ⟨M42, 0, none⟩) V) := hr42
  clear hr42
  have hz : Below z8.heap.size z8 wvr42 := grow_on hHeld.1 hy
  clear hHeld hy
  refine hK.out _ _ (HS.out _ hz) (fun hHeld => ?_)
  clear hK K hz
  try simp only [Act.put, List.setIfInBounds_toArray, List.set_cons_zero, List.set_cons_succ]
  refine wpAnyH_ready (rs := [45]) (by kernel_rfl) (by simp) ?_
  refine AllReadyH.cons (o := { dst := some 99, op := Op.call { callee := Callee.value (Operand.func 26), args := #[Operand.tmp 97, Operand.tmp 98], argTypes := #[38, 29] }, type := 38, pos := "laws.go:427", after := #[{ on := 43, ground := Ground.data }, { on := 44, ground := Ground.data }, { on := 42, ground := Ground.chain }, { on := 39, ground := Ground.guard }], guard := some (39, false) }) rfl (fun K hK => ?_) AllReadyH.nil
  go_simp
  refine (C45.out _ hHeld.1).mono ?_
  rintro r wvr45 ⟨⟨M45, c45, rfl, hr45⟩, hy⟩
  have HK45 : Hid (RdU RdN wvr45 (some ⟨M42, 0, none⟩) V ∧ RdU RdN wvr45 (some ⟨M45, 0, none⟩) V) := ⟨rdu_below HK42.out hy, hr45⟩
  clear hr45
  have hz : Below z8.heap.size z8 wvr45 := grow_on hHeld.1 hy
  clear hHeld hy
  refine hK.out _ _ (HS.out _ hz) (fun hHeld => ?_)
  clear hK K hz
  try simp only [Act.put, List.setIfInBounds_toArray, List.set_cons_zero, List.set_cons_succ]
  refine wpAnyH_ready (rs := [46]) (by kernel_rfl) (by simp) ?_
  refine AllReadyH.cons (o := { dst := some 100, op := Op.call { callee := Callee.value (Operand.func 24), args := #[Operand.tmp 96, Operand.tmp 99], argTypes := #[38, 38] }, type := 4, pos := "laws.go:427", after := #[{ on := 42, ground := Ground.data }, { on := 45, ground := Ground.data }, { on := 45, ground := Ground.chain }, { on := 39, ground := Ground.guard }], guard := some (39, false) }) rfl (fun K hK => ?_) AllReadyH.nil
  go_simp
  refine (C46.out _ _ _ _ _ HK45.out.1 HK45.out.2).mono ?_
  rintro r wvr46 ⟨rfl, hy⟩
  have hz : Below z8.heap.size z8 wvr46 := grow_on hHeld.1 hy
  clear hHeld hy
  refine hK.out _ _ (HS.out _ hz) (fun hHeld => ?_)
  clear hK K hz
  try simp only [Act.put, List.setIfInBounds_toArray, List.set_cons_zero, List.set_cons_succ]
  refine wpAnyH_take (i := 47) (oi := { dst := some 101, op := Op.unOp UnOp.not 4 (Operand.tmp 100), type := 4, pos := "laws.go:427", after := #[{ on := 46, ground := Ground.data }, { on := 39, ground := Ground.guard }], guard := some (39, false) }) (v := ?vr47) rfl (by kernel_rfl) (by kernel_rfl) (by kernel_rfl) (fun _ _ _ h => h) (Or.inl ⟨by rfl, ?hyr47⟩) hHeld ?_
  case hyr47 => (intro w hSw; (try dsimp only at hSw); go_simp <;> with_reducible rfl)
  try simp only [Act.put, List.setIfInBounds_toArray, List.set_cons_zero, List.set_cons_succ]
  refine wpAnyH_take (i := 48) (oi := { dst := some 102, op := Op.pick (Operand.tmp 93) (Operand.const (Value.bool true)) (Operand.tmp 101), type := 4, pos := "laws.go:427", after := #[{ on := 39, ground := Ground.data }, { on := 47, ground := Ground.data }], guard := none }) (v := ?vr48) rfl (by kernel_rfl) (by kernel_rfl) (by kernel_rfl) (fun _ _ _ h => h) (Or.inl ⟨by rfl, ?hyr48⟩) hHeld ?_
  case hyr48 => (intro w hSw; (try dsimp only at hSw); go_simp <;> with_reducible rfl)
  try simp only [Act.put, List.setIfInBounds_toArray, List.set_cons_zero, List.set_cons_succ]
  refine wpAnyH_done (by kernel_rfl) ?_ _
  have hb := hHeld.1
  clear hHeld HS HK3 HK42 HK45 C3 C4 C9 C15 C25 C27 C33 C36 C42 C45 C46 t1 t2 t3
  clear Ry_z8
  clear Rz_z8
  clear Ly_z8
  clear Lz_z8
  clear DO_z8
  clear DU_z8
  clear DV_z8
  clear RU_z8
  clear DD_z8
  clear bY_z8
  clear bZ_z8
  clear bB_z8
  clear bC_z8
  clear bO_z8
  clear bU_z8
  clear bV_z8
  clear bD_z8
  have B_wvr46 : Hid (Below w.heap.size w wvr46) := grow_on B_z8.out hb
  have DP_wvr46 : Hid (DQ wvr46 aS cs P) := DP_z8.out.below hb
  have DX_wvr46 : Hid (DAl wvr46 ga x) := DX_z8.out.below hb
  have bS_wvr46 : Hid (Blk wvr46 w1.heap.size #[.slice aS P.length cs, .bool gs] 26) := bS_z8.out.grow hb
  have bA_wvr46 : Hid (Blk wvr46 (w1.heap.size + 1) #[.slice (some ⟨ga, 0, none⟩) x.l.length ca, .int .i64 x.s, .int .i64 x.e, .string x.n] 29) := bA_z8.out.grow hb
  have RX_wvr46 : Hid (RdN wvr46 (some ⟨Mx, 0, none⟩) TL) := RX_z8.out.below hb
  have bX_wvr46 : Hid (Blk wvr46 w2.heap.size #[.slice (some ⟨Mx, 0, none⟩) TL.length cx, .bool TG] 26) := bX_z8.out.grow hb
  clear B_z8 DP_z8 DX_z8 bS_z8 bA_z8 RX_z8 bX_z8
  clear hb FU FH EH
  cases gs with
  | true =>
    have EL : Hid (P = TL ∧ true = TG) := by have h := ET.out; rw [tell_lag] at h; injection h with h1 h2; exact ⟨h1, h2⟩
    have RP : Hid (RdN wvr46 aS TL) := by rw [← EL.out.1]; exact DP_wvr46.out.1
    have bP : Hid (Blk wvr46 w1.heap.size #[.slice aS TL.length cs, .bool true] 26) := by rw [← EL.out.1]; exact bS_wvr46.out
    have bQ : Hid (Blk wvr46 w2.heap.size #[.slice (some ⟨Mx, 0, none⟩) TL.length cx, .bool true] 26) := by have h := bX_wvr46.out; rw [← EL.out.2] at h; exact h
    clear EL ET DP_wvr46 DX_wvr46 bS_wvr46 bX_wvr46 bA_wvr46 FP
    have cS0 : wvr46.cell? ⟨w1.heap.size, 0, none⟩ = some (.slice aS TL.length cs) := bP.out.cell 0
    have cS1 : wvr46.cell? ⟨w1.heap.size, 1, none⟩ = some (.bool true) := bP.out.cell 1
    have cX0 : wvr46.cell? ⟨w2.heap.size, 0, none⟩ = some (.slice (some ⟨Mx, 0, none⟩) TL.length cx) := bQ.out.cell 0
    have cX1 : wvr46.cell? ⟨w2.heap.size, 1, none⟩ = some (.bool true) := bQ.out.cell 1
    have CS : Hid (Calls Try.prog 18 #[.agg #[.slice (some ⟨Mx, 0, none⟩) TL.length cx, .bool true], .agg #[.slice aS TL.length cs, .bool true]] wvr46 fun e w' => e = .returned (.bool true) ∧ Below wvr46.heap.size wvr46 w') := sameZ RX_wvr46.out RP.out (by have := FT.out.2; omega) (finesP FT.out.1)
    clear RP bP bQ FT RX_wvr46
    go_wp2_with fail
    refine CS.out.mono ?_
    rintro e wl ⟨rfl, hb⟩
    have HBZ : Hid (Below w.heap.size w wl) := grow_on B_wvr46.out hb
    clear hb CS
    go_wp2
    go_ret
    exact ⟨rfl, HBZ.out⟩
  | false =>
    by_cases h3 : 3 ≤ P.length
    ·
      have h3' : (P.length : Int) ≥ 3 := by omega
      have EL : Hid ([] = TL ∧ true = TG) := by have h := ET.out; rw [tell_full x h3] at h; injection h with h1 h2; exact ⟨h1, h2⟩
      have bQ : Hid (Blk wvr46 w2.heap.size #[.slice (some ⟨Mx, 0, none⟩) 0 cx, .bool true] 26) := by have h := bX_wvr46.out; rw [← EL.out.2, ← EL.out.1] at h; exact h
      have cbS0 : wvr46.cell? ⟨w1.heap.size, 0, none⟩ = some (.slice aS P.length cs) := bS_wvr46.out.cell 0
      have cbS1 : wvr46.cell? ⟨w1.heap.size, 1, none⟩ = some (.bool false) := bS_wvr46.out.cell 1
      have cX0 : wvr46.cell? ⟨w2.heap.size, 0, none⟩ = some (.slice (some ⟨Mx, 0, none⟩) 0 cx) := bQ.out.cell 0
      have cX1 : wvr46.cell? ⟨w2.heap.size, 1, none⟩ = some (.bool true) := bQ.out.cell 1
      have HBZ : Hid (Below w.heap.size w wvr46) := B_wvr46.out
      clear EL ET DP_wvr46 DX_wvr46 RX_wvr46 bS_wvr46 bX_wvr46 bA_wvr46 bQ FP FT
      go_wp2
      go_ret
      exact ⟨rfl, HBZ.out⟩
    ·
      have h3' : ¬ ((P.length : Int) ≥ 3) := by omega
      have EL : Hid (P ++ [x] = TL ∧ false = TG) := by have h := ET.out; rw [tell_room x h3] at h; injection h with h1 h2; exact ⟨h1, h2⟩
      have HN : Hid (TL.length = P.length + 1) := by show _ = _; rw [← EL.out.1]; simp
      have RT : Hid (RdN wvr46 (some ⟨Mx, 0, none⟩) (P ++ [x])) := by rw [EL.out.1]; exact RX_wvr46.out
      have bQ : Hid (Blk wvr46 w2.heap.size #[.slice (some ⟨Mx, 0, none⟩) (P.length + 1) cx, .bool false] 26) := by have h := bX_wvr46.out; rw [← EL.out.2, HN.out] at h; exact h
      obtain ⟨bb, oo, ee, hbX, gX, oX, cpX, hatX⟩ := RT.out.get (i := P.length) (by simp)
      cases ee
      rw [nthP_app_eq] at hatX
      have HAT : Hid (Reads wvr46 (some ⟨gX, oX, none⟩) x.l) := hatX.reads
      have rX0 : wvr46.cell? ⟨Mx, P.length * 4, none⟩ = some (.slice (some ⟨gX, oX, none⟩) x.l.length cpX) := by have := hatX.c0; rwa [Nat.zero_add] at this
      have rX1 : wvr46.cell? ⟨Mx, P.length * 4 + 1, none⟩ = some (.int .i64 x.s) := by have := hatX.c1; rwa [Nat.zero_add] at this
      have rX2 : wvr46.cell? ⟨Mx, P.length * 4 + 2, none⟩ = some (.int .i64 x.e) := by have := hatX.c2; rwa [Nat.zero_add] at this
      have rX3 : wvr46.cell? ⟨Mx, P.length * 4 + 3, none⟩ = some (.string x.n) := by have := hatX.c3; rwa [Nat.zero_add] at this
      have CA : Hid (∀ u, Below wvr46.heap.size wvr46 u → Calls Try.prog 20 #[.agg #[.slice (some ⟨gX, oX, none⟩) x.l.length cpX, .int .i64 x.s, .int .i64 x.e, .string x.n], .agg #[.slice (some ⟨ga, 0, none⟩) x.l.length ca, .int .i64 x.s, .int .i64 x.e, .string x.n]] u fun e w' => e = .returned (.bool true) ∧ Below u.heap.size u w') := fun u hu => (implSameA_any _ _ _ _ x.l x.l _ _ _ _ _ _ u (HAT.out.below hu) (DX_wvr46.out.1.below hu) (fine_max DX_wvr46.out.2) (fine_max DX_wvr46.out.2)).mono fun e w' h => ⟨h.1.trans (retB (Alm.same_self _ _ _ _)), h.2⟩
      have CL : Hid (∀ u (c c' : Nat), Below wvr46.heap.size wvr46 u → Calls Try.prog 27 #[.slice (some ⟨Mx, 0, none⟩) P.length c, .slice aS P.length c'] u fun e w' => e = .returned (.bool true) ∧ Below u.heap.size u w') := fun u c c' hu => sameListZ (rd_take (RT.out.below hu).rd) (DP_wvr46.out.1.rd.below hu) (by have := FP.out.2.1; omega) (finesP FP.out.1)
      have hw : IntKind.i64.wrap ((P.length : Int) + 1) = (P.length : Int) + 1 := by rw [IntKind.wrap_i64]; omega
      have hi1 : (P.length : Int) < ((P.length + 1 : Nat) : Int) := by omega
      have hi2 : (P.length : Int) < (P.length : Int) + 1 := by omega
      have hi5 : P.length ≤ cx := by have h1 := FX.out; have h2 := HN.out; omega
      have hi3 : (0 : Int) ≤ (P.length : Int) := by omega
      have he1 : (((P.length + 1 : Nat) : Int) == (P.length : Int) + 1) = true := by simp
      clear hatX EL ET HN FT RX_wvr46 bX_wvr46
      have cbS0 : wvr46.cell? ⟨w1.heap.size, 0, none⟩ = some (.slice aS P.length cs) := bS_wvr46.out.cell 0
      have cbS1 : wvr46.cell? ⟨w1.heap.size, 1, none⟩ = some (.bool false) := bS_wvr46.out.cell 1
      have HS : Hid (∀ w', Below wvr46.heap.size wvr46 w' → Below wvr46.heap.size wvr46 w' ∧ w'.cell? ⟨w1.heap.size, 0, none⟩ = some (.slice aS P.length cs) ∧ w'.cell? ⟨w1.heap.size, 1, none⟩ = some (.bool false) ∧ w'.cell? ⟨(w1.heap.size + 1), 0, none⟩ = some (.slice (some ⟨ga, 0, none⟩) x.l.length ca) ∧ w'.cell? ⟨(w1.heap.size + 1), 1, none⟩ = some (.int .i64 x.s) ∧ w'.cell? ⟨(w1.heap.size + 1), 2, none⟩ = some (.int .i64 x.e) ∧ w'.cell? ⟨(w1.heap.size + 1), 3, none⟩ = some (.string x.n) ∧ w'.cell? ⟨w2.heap.size, 0, none⟩ = some (.slice (some ⟨Mx, 0, none⟩) (P.length + 1) cx) ∧ w'.cell? ⟨Mx, P.length * 4, none⟩ = some (.slice (some ⟨gX, oX, none⟩) x.l.length cpX) ∧ w'.cell? ⟨Mx, P.length * 4 + 1, none⟩ = some (.int .i64 x.s) ∧ w'.cell? ⟨Mx, P.length * 4 + 2, none⟩ = some (.int .i64 x.e) ∧ w'.cell? ⟨Mx, P.length * 4 + 3, none⟩ = some (.string x.n)) := fun w' h => ⟨h, (bS_wvr46.out.grow h).cell 0, (bS_wvr46.out.grow h).cell 1, (bA_wvr46.out.grow h).cell 0, (bA_wvr46.out.grow h).cell 1, (bA_wvr46.out.grow h).cell 2, (bA_wvr46.out.grow h).cell 3, (bQ.out.grow h).cell 0, (h.cell (p := ⟨Mx, P.length * 4, none⟩) hbX).trans rX0, (h.cell (p := ⟨Mx, P.length * 4 + 1, none⟩) hbX).trans rX1, (h.cell (p := ⟨Mx, P.length * 4 + 2, none⟩) hbX).trans rX2, (h.cell (p := ⟨Mx, P.length * 4 + 3, none⟩) hbX).trans rX3⟩
      go_upto_region 17 with fail
      clear cbS0 cbS1
      refine wp_region_held_drew (S := fun w' => Below wvr46.heap.size wvr46 w' ∧ w'.cell? ⟨w1.heap.size, 0, none⟩ = some (.slice aS P.length cs) ∧ w'.cell? ⟨w1.heap.size, 1, none⟩ = some (.bool false) ∧ w'.cell? ⟨(w1.heap.size + 1), 0, none⟩ = some (.slice (some ⟨ga, 0, none⟩) x.l.length ca) ∧ w'.cell? ⟨(w1.heap.size + 1), 1, none⟩ = some (.int .i64 x.s) ∧ w'.cell? ⟨(w1.heap.size + 1), 2, none⟩ = some (.int .i64 x.e) ∧ w'.cell? ⟨(w1.heap.size + 1), 3, none⟩ = some (.string x.n) ∧ w'.cell? ⟨w2.heap.size, 0, none⟩ = some (.slice (some ⟨Mx, 0, none⟩) (P.length + 1) cx) ∧ w'.cell? ⟨Mx, P.length * 4, none⟩ = some (.slice (some ⟨gX, oX, none⟩) x.l.length cpX) ∧ w'.cell? ⟨Mx, P.length * 4 + 1, none⟩ = some (.int .i64 x.s) ∧ w'.cell? ⟨Mx, P.length * 4 + 2, none⟩ = some (.int .i64 x.e) ∧ w'.cell? ⟨Mx, P.length * 4 + 3, none⟩ = some (.string x.n)) (by kernel_rfl) (HS.out _ (Below.refl _ _).drew) (fun hHeld => ?_)
      refine wpAnyH_take (i := 0) (oi := { dst := some 120, op := Op.fieldAddr 26 (Operand.tmp 5) 0, type := 0, pos := "laws.go:436", after := #[], guard := none }) (v := ?ve0) rfl (by kernel_rfl) (by kernel_rfl) (by kernel_rfl) (fun _ _ _ h => h) (Or.inl ⟨by rfl, ?hye0⟩) hHeld ?_
      case hye0 => (intro w hSw; (try dsimp only at hSw); go_simp <;> with_reducible rfl)
      try simp only [Act.put, List.setIfInBounds_toArray, List.set_cons_zero, List.set_cons_succ]
      refine wpAnyH_take (i := 1) (oi := { dst := some 121, op := Op.load 24 (Operand.tmp 120), type := 24, pos := "laws.go:436", after := #[{ on := 0, ground := Ground.data }], guard := none }) (v := ?ve1) rfl (by kernel_rfl) (by kernel_rfl) (by kernel_rfl) (fun _ _ _ h => h) (Or.inl ⟨by rfl, ?hye1⟩) hHeld ?_
      case hye1 => (intro w hSw; (try dsimp only at hSw); go_simp <;> with_reducible rfl)
      try simp only [Act.put, List.setIfInBounds_toArray, List.set_cons_zero, List.set_cons_succ]
      refine wpAnyH_take (i := 2) (oi := { dst := some 122, op := Op.call { callee := Callee.builtin Builtin.len, args := #[Operand.tmp 121], argTypes := #[24] }, type := 3, pos := "laws.go:436", after := #[{ on := 1, ground := Ground.data }], guard := none }) (v := ?ve2) rfl (by kernel_rfl) (by kernel_rfl) (by kernel_rfl) (fun _ _ _ h => h) (Or.inl ⟨by rfl, ?hye2⟩) hHeld ?_
      case hye2 => (intro w hSw; (try dsimp only at hSw); go_simp <;> with_reducible rfl)
      try simp only [Act.put, List.setIfInBounds_toArray, List.set_cons_zero, List.set_cons_succ]
      refine wpAnyH_take (i := 3) (oi := { dst := some 123, op := Op.fieldAddr 26 (Operand.tmp 3) 0, type := 0, pos := "laws.go:436", after := #[], guard := none }) (v := ?ve3) rfl (by kernel_rfl) (by kernel_rfl) (by kernel_rfl) (fun _ _ _ h => h) (Or.inl ⟨by rfl, ?hye3⟩) hHeld ?_
      case hye3 => (intro w hSw; (try dsimp only at hSw); go_simp <;> with_reducible rfl)
      try simp only [Act.put, List.setIfInBounds_toArray, List.set_cons_zero, List.set_cons_succ]
      refine wpAnyH_take (i := 4) (oi := { dst := some 124, op := Op.load 24 (Operand.tmp 123), type := 24, pos := "laws.go:436", after := #[{ on := 3, ground := Ground.data }], guard := none }) (v := ?ve4) rfl (by kernel_rfl) (by kernel_rfl) (by kernel_rfl) (fun _ _ _ h => h) (Or.inl ⟨by rfl, ?hye4⟩) hHeld ?_
      case hye4 => (intro w hSw; (try dsimp only at hSw); go_simp <;> with_reducible rfl)
      try simp only [Act.put, List.setIfInBounds_toArray, List.set_cons_zero, List.set_cons_succ]
      refine wpAnyH_take (i := 5) (oi := { dst := some 125, op := Op.call { callee := Callee.builtin Builtin.len, args := #[Operand.tmp 124], argTypes := #[24] }, type := 3, pos := "laws.go:436", after := #[{ on := 4, ground := Ground.data }], guard := none }) (v := ?ve5) rfl (by kernel_rfl) (by kernel_rfl) (by kernel_rfl) (fun _ _ _ h => h) (Or.inl ⟨by rfl, ?hye5⟩) hHeld ?_
      case hye5 => (intro w hSw; (try dsimp only at hSw); go_simp <;> with_reducible rfl)
      try simp only [Act.put, List.setIfInBounds_toArray, List.set_cons_zero, List.set_cons_succ]
      refine wpAnyH_take (i := 6) (oi := { dst := some 126, op := Op.binOp BinOp.add 3 (Operand.tmp 125) (Operand.const (Value.int IntKind.i64 1)) 3, type := 3, pos := "laws.go:436", after := #[{ on := 5, ground := Ground.data }], guard := none }) (v := ?ve6) rfl (by kernel_rfl) (by kernel_rfl) (by kernel_rfl) (fun _ _ _ h => h) (Or.inl ⟨by rfl, ?hye6⟩) hHeld ?_
      case hye6 => (intro w hSw; (try dsimp only at hSw); go_simp <;> with_reducible rfl)
      try simp only [Act.put, List.setIfInBounds_toArray, List.set_cons_zero, List.set_cons_succ]
      refine wpAnyH_take (i := 7) (oi := { dst := some 127, op := Op.binOp BinOp.eql 3 (Operand.tmp 122) (Operand.tmp 126) 3, type := 4, pos := "laws.go:436", after := #[{ on := 2, ground := Ground.data }, { on := 6, ground := Ground.data }], guard := none }) (v := ?ve7) rfl (by kernel_rfl) (by kernel_rfl) (by kernel_rfl) (fun _ _ _ h => h) (Or.inl ⟨by rfl, ?hye7⟩) hHeld ?_
      case hye7 => (intro w hSw; (try dsimp only at hSw); go_simp <;> with_reducible rfl)
      try simp only [Act.put, List.setIfInBounds_toArray, List.set_cons_zero, List.set_cons_succ]
      refine wpAnyH_take (i := 8) (oi := { dst := some 128, op := Op.move (Operand.tmp 127), type := 4, pos := "laws.go:436", after := #[{ on := 7, ground := Ground.data }], guard := none }) (v := ?ve8) rfl (by kernel_rfl) (by kernel_rfl) (by kernel_rfl) (fun _ _ _ h => h) (Or.inl ⟨by rfl, ?hye8⟩) hHeld ?_
      case hye8 => (intro w hSw; (try dsimp only at hSw); go_simp <;> with_reducible rfl)
      try simp only [Act.put, List.setIfInBounds_toArray, List.set_cons_zero, List.set_cons_succ]
      refine wpAnyH_take (i := 9) (oi := { dst := some 129, op := Op.fieldAddr 26 (Operand.tmp 5) 0, type := 0, pos := "laws.go:436", after := #[{ on := 8, ground := Ground.guard }], guard := some (8, true) }) (v := ?ve9) rfl (by kernel_rfl) (by kernel_rfl) (by kernel_rfl) (fun _ _ _ h => h) (Or.inl ⟨by rfl, ?hye9⟩) hHeld ?_
      case hye9 => (intro w hSw; (try dsimp only at hSw); go_simp <;> with_reducible rfl)
      try simp only [Act.put, List.setIfInBounds_toArray, List.set_cons_zero, List.set_cons_succ]
      refine wpAnyH_take (i := 10) (oi := { dst := some 130, op := Op.load 24 (Operand.tmp 129), type := 24, pos := "laws.go:436", after := #[{ on := 9, ground := Ground.data }, { on := 8, ground := Ground.guard }], guard := some (8, true) }) (v := ?ve10) rfl (by kernel_rfl) (by kernel_rfl) (by kernel_rfl) (fun _ _ _ h => h) (Or.inl ⟨by rfl, ?hye10⟩) hHeld ?_
      case hye10 => (intro w hSw; (try dsimp only at hSw); go_simp <;> with_reducible rfl)
      try simp only [Act.put, List.setIfInBounds_toArray, List.set_cons_zero, List.set_cons_succ]
      refine wpAnyH_take (i := 11) (oi := { dst := some 131, op := Op.fieldAddr 26 (Operand.tmp 3) 0, type := 0, pos := "laws.go:436", after := #[{ on := 8, ground := Ground.guard }], guard := some (8, true) }) (v := ?ve11) rfl (by kernel_rfl) (by kernel_rfl) (by kernel_rfl) (fun _ _ _ h => h) (Or.inl ⟨by rfl, ?hye11⟩) hHeld ?_
      case hye11 => (intro w hSw; (try dsimp only at hSw); go_simp <;> with_reducible rfl)
      try simp only [Act.put, List.setIfInBounds_toArray, List.set_cons_zero, List.set_cons_succ]
      refine wpAnyH_take (i := 12) (oi := { dst := some 132, op := Op.load 24 (Operand.tmp 131), type := 24, pos := "laws.go:436", after := #[{ on := 11, ground := Ground.data }, { on := 8, ground := Ground.guard }], guard := some (8, true) }) (v := ?ve12) rfl (by kernel_rfl) (by kernel_rfl) (by kernel_rfl) (fun _ _ _ h => h) (Or.inl ⟨by rfl, ?hye12⟩) hHeld ?_
      case hye12 => (intro w hSw; (try dsimp only at hSw); go_simp <;> with_reducible rfl)
      try simp only [Act.put, List.setIfInBounds_toArray, List.set_cons_zero, List.set_cons_succ]
      refine wpAnyH_take (i := 13) (oi := { dst := some 133, op := Op.call { callee := Callee.builtin Builtin.len, args := #[Operand.tmp 132], argTypes := #[24] }, type := 3, pos := "laws.go:436", after := #[{ on := 12, ground := Ground.data }, { on := 8, ground := Ground.guard }], guard := some (8, true) }) (v := ?ve13) rfl (by kernel_rfl) (by kernel_rfl) (by kernel_rfl) (fun _ _ _ h => h) (Or.inl ⟨by rfl, ?hye13⟩) hHeld ?_
      case hye13 => (intro w hSw; (try dsimp only at hSw); go_simp <;> with_reducible rfl)
      try simp only [Act.put, List.setIfInBounds_toArray, List.set_cons_zero, List.set_cons_succ]
      refine wpAnyH_take (i := 14) (oi := { dst := some 134, op := Op.indexAddr 24 (Operand.tmp 130) (Operand.tmp 133), type := 0, pos := "laws.go:436", after := #[{ on := 10, ground := Ground.data }, { on := 13, ground := Ground.data }, { on := 8, ground := Ground.guard }], guard := some (8, true) }) (v := ?ve14) rfl (by kernel_rfl) (by kernel_rfl) (by kernel_rfl) (fun _ _ _ h => h) (Or.inl ⟨by rfl, ?hye14⟩) hHeld ?_
      case hye14 => (intro w hSw; (try dsimp only at hSw); go_simp <;> with_reducible rfl)
      try simp only [Act.put, List.setIfInBounds_toArray, List.set_cons_zero, List.set_cons_succ]
      refine wpAnyH_take (i := 15) (oi := { dst := some 135, op := Op.load 29 (Operand.tmp 134), type := 29, pos := "laws.go:436", after := #[{ on := 14, ground := Ground.data }, { on := 8, ground := Ground.guard }], guard := some (8, true) }) (v := ?ve15) rfl (by kernel_rfl) (by kernel_rfl) (by kernel_rfl) (fun _ _ _ h => h) (Or.inl ⟨by rfl, ?hye15⟩) hHeld ?_
      case hye15 => (intro w hSw; (try dsimp only at hSw); go_simp <;> with_reducible rfl)
      try simp only [Act.put, List.setIfInBounds_toArray, List.set_cons_zero, List.set_cons_succ]
      refine wpAnyH_take (i := 16) (oi := { dst := some 136, op := Op.load 29 (Operand.tmp 4), type := 29, pos := "laws.go:436", after := #[{ on := 8, ground := Ground.guard }], guard := some (8, true) }) (v := ?ve16) rfl (by kernel_rfl) (by kernel_rfl) (by kernel_rfl) (fun _ _ _ h => h) (Or.inl ⟨by rfl, ?hye16⟩) hHeld ?_
      case hye16 => (intro w hSw; (try dsimp only at hSw); go_simp <;> with_reducible rfl)
      try simp only [Act.put, List.setIfInBounds_toArray, List.set_cons_zero, List.set_cons_succ]
      refine wpAnyH_ready (rs := [17]) (by kernel_rfl) (by simp) ?_
      refine AllReadyH.cons (o := { dst := some 137, op := Op.call { callee := Callee.value (Operand.func 20), args := #[Operand.tmp 135, Operand.tmp 136], argTypes := #[29, 29] }, type := 4, pos := "laws.go:436", after := #[{ on := 15, ground := Ground.data }, { on := 16, ground := Ground.data }, { on := 8, ground := Ground.chain }, { on := 8, ground := Ground.guard }], guard := some (8, true) }) rfl (fun K hK => ?_) AllReadyH.nil
      go_simp
      refine (CA.out _ hHeld.1).mono ?_
      rintro r wve17 ⟨rfl, hy⟩
      have hz : Below wvr46.heap.size wvr46 wve17 := grow_on hHeld.1 hy
      clear hHeld hy
      refine hK.out _ _ (HS.out _ hz) (fun hHeld => ?_)
      clear hK K hz
      try simp only [Act.put, List.setIfInBounds_toArray, List.set_cons_zero, List.set_cons_succ]
      refine wpAnyH_take (i := 18) (oi := { dst := some 138, op := Op.pick (Operand.tmp 128) (Operand.tmp 137) (Operand.const (Value.bool false)), type := 4, pos := "laws.go:436", after := #[{ on := 8, ground := Ground.data }, { on := 17, ground := Ground.data }], guard := none }) (v := ?ve18) rfl (by kernel_rfl) (by kernel_rfl) (by kernel_rfl) (fun _ _ _ h => h) (Or.inl ⟨by rfl, ?hye18⟩) hHeld ?_
      case hye18 => (intro w hSw; (try dsimp only at hSw); go_simp <;> with_reducible rfl)
      try simp only [Act.put, List.setIfInBounds_toArray, List.set_cons_zero, List.set_cons_succ]
      refine wpAnyH_take (i := 19) (oi := { dst := some 139, op := Op.move (Operand.tmp 138), type := 4, pos := "laws.go:436", after := #[{ on := 18, ground := Ground.data }, { on := 17, ground := Ground.chain }], guard := none }) (v := ?ve19) rfl (by kernel_rfl) (by kernel_rfl) (by kernel_rfl) (fun _ _ _ h => h) (Or.inl ⟨by rfl, ?hye19⟩) hHeld ?_
      case hye19 => (intro w hSw; (try dsimp only at hSw); go_simp <;> with_reducible rfl)
      try simp only [Act.put, List.setIfInBounds_toArray, List.set_cons_zero, List.set_cons_succ]
      refine wpAnyH_take (i := 20) (oi := { dst := some 140, op := Op.fieldAddr 26 (Operand.tmp 5) 0, type := 0, pos := "laws.go:436", after := #[{ on := 19, ground := Ground.guard }], guard := some (19, true) }) (v := ?ve20) rfl (by kernel_rfl) (by kernel_rfl) (by kernel_rfl) (fun _ _ _ h => h) (Or.inl ⟨by rfl, ?hye20⟩) hHeld ?_
      case hye20 => (intro w hSw; (try dsimp only at hSw); go_simp <;> with_reducible rfl)
      try simp only [Act.put, List.setIfInBounds_toArray, List.set_cons_zero, List.set_cons_succ]
      refine wpAnyH_take (i := 21) (oi := { dst := some 141, op := Op.load 24 (Operand.tmp 140), type := 24, pos := "laws.go:436", after := #[{ on := 20, ground := Ground.data }, { on := 19, ground := Ground.guard }], guard := some (19, true) }) (v := ?ve21) rfl (by kernel_rfl) (by kernel_rfl) (by kernel_rfl) (fun _ _ _ h => h) (Or.inl ⟨by rfl, ?hye21⟩) hHeld ?_
      case hye21 => (intro w hSw; (try dsimp only at hSw); go_simp <;> with_reducible rfl)
      try simp only [Act.put, List.setIfInBounds_toArray, List.set_cons_zero, List.set_cons_succ]
      refine wpAnyH_take (i := 22) (oi := { dst := some 142, op := Op.fieldAddr 26 (Operand.tmp 3) 0, type := 0, pos := "laws.go:436", after := #[{ on := 19, ground := Ground.guard }], guard := some (19, true) }) (v := ?ve22) rfl (by kernel_rfl) (by kernel_rfl) (by kernel_rfl) (fun _ _ _ h => h) (Or.inl ⟨by rfl, ?hye22⟩) hHeld ?_
      case hye22 => (intro w hSw; (try dsimp only at hSw); go_simp <;> with_reducible rfl)
      try simp only [Act.put, List.setIfInBounds_toArray, List.set_cons_zero, List.set_cons_succ]
      refine wpAnyH_take (i := 23) (oi := { dst := some 143, op := Op.load 24 (Operand.tmp 142), type := 24, pos := "laws.go:436", after := #[{ on := 22, ground := Ground.data }, { on := 19, ground := Ground.guard }], guard := some (19, true) }) (v := ?ve23) rfl (by kernel_rfl) (by kernel_rfl) (by kernel_rfl) (fun _ _ _ h => h) (Or.inl ⟨by rfl, ?hye23⟩) hHeld ?_
      case hye23 => (intro w hSw; (try dsimp only at hSw); go_simp <;> with_reducible rfl)
      try simp only [Act.put, List.setIfInBounds_toArray, List.set_cons_zero, List.set_cons_succ]
      refine wpAnyH_take (i := 24) (oi := { dst := some 144, op := Op.call { callee := Callee.builtin Builtin.len, args := #[Operand.tmp 143], argTypes := #[24] }, type := 3, pos := "laws.go:436", after := #[{ on := 23, ground := Ground.data }, { on := 19, ground := Ground.guard }], guard := some (19, true) }) (v := ?ve24) rfl (by kernel_rfl) (by kernel_rfl) (by kernel_rfl) (fun _ _ _ h => h) (Or.inl ⟨by rfl, ?hye24⟩) hHeld ?_
      case hye24 => (intro w hSw; (try dsimp only at hSw); go_simp <;> with_reducible rfl)
      try simp only [Act.put, List.setIfInBounds_toArray, List.set_cons_zero, List.set_cons_succ]
      refine wpAnyH_take (i := 25) (oi := { dst := some 145, op := Op.slice 24 (Operand.tmp 141) none (some (Operand.tmp 144)) none, type := 24, pos := "laws.go:436", after := #[{ on := 21, ground := Ground.data }, { on := 24, ground := Ground.data }, { on := 19, ground := Ground.guard }], guard := some (19, true) }) (v := ?ve25) rfl (by kernel_rfl) (by kernel_rfl) (by kernel_rfl) (fun _ _ _ h => h) (Or.inl ⟨by rfl, ?hye25⟩) hHeld ?_
      case hye25 => (intro w hSw; (try dsimp only at hSw); go_simp <;> with_reducible rfl)
      try simp only [Act.put, List.setIfInBounds_toArray, List.set_cons_zero, List.set_cons_succ]
      refine wpAnyH_take (i := 26) (oi := { dst := some 146, op := Op.fieldAddr 26 (Operand.tmp 3) 0, type := 0, pos := "laws.go:436", after := #[{ on := 19, ground := Ground.guard }], guard := some (19, true) }) (v := ?ve26) rfl (by kernel_rfl) (by kernel_rfl) (by kernel_rfl) (fun _ _ _ h => h) (Or.inl ⟨by rfl, ?hye26⟩) hHeld ?_
      case hye26 => (intro w hSw; (try dsimp only at hSw); go_simp <;> with_reducible rfl)
      try simp only [Act.put, List.setIfInBounds_toArray, List.set_cons_zero, List.set_cons_succ]
      refine wpAnyH_take (i := 27) (oi := { dst := some 147, op := Op.load 24 (Operand.tmp 146), type := 24, pos := "laws.go:436", after := #[{ on := 26, ground := Ground.data }, { on := 19, ground := Ground.guard }], guard := some (19, true) }) (v := ?ve27) rfl (by kernel_rfl) (by kernel_rfl) (by kernel_rfl) (fun _ _ _ h => h) (Or.inl ⟨by rfl, ?hye27⟩) hHeld ?_
      case hye27 => (intro w hSw; (try dsimp only at hSw); go_simp <;> with_reducible rfl)
      try simp only [Act.put, List.setIfInBounds_toArray, List.set_cons_zero, List.set_cons_succ]
      refine wpAnyH_ready (rs := [28]) (by kernel_rfl) (by simp) ?_
      refine AllReadyH.cons (o := { dst := some 148, op := Op.call { callee := Callee.value (Operand.func 27), args := #[Operand.tmp 145, Operand.tmp 147], argTypes := #[24, 24] }, type := 4, pos := "laws.go:436", after := #[{ on := 25, ground := Ground.data }, { on := 27, ground := Ground.data }, { on := 19, ground := Ground.chain }, { on := 19, ground := Ground.guard }], guard := some (19, true) }) rfl (fun K hK => ?_) AllReadyH.nil
      go_simp
      refine (CL.out _ _ _ hHeld.1).mono ?_
      rintro r wve28 ⟨rfl, hy⟩
      have hz : Below wvr46.heap.size wvr46 wve28 := grow_on hHeld.1 hy
      clear hHeld hy
      refine hK.out _ _ (HS.out _ hz) (fun hHeld => ?_)
      clear hK K hz
      try simp only [Act.put, List.setIfInBounds_toArray, List.set_cons_zero, List.set_cons_succ]
      refine wpAnyH_take (i := 29) (oi := { dst := some 149, op := Op.pick (Operand.tmp 139) (Operand.tmp 148) (Operand.const (Value.bool false)), type := 4, pos := "laws.go:436", after := #[{ on := 19, ground := Ground.data }, { on := 28, ground := Ground.data }], guard := none }) (v := ?ve29) rfl (by kernel_rfl) (by kernel_rfl) (by kernel_rfl) (fun _ _ _ h => h) (Or.inl ⟨by rfl, ?hye29⟩) hHeld ?_
      case hye29 => (intro w hSw; (try dsimp only at hSw); go_simp <;> with_reducible rfl)
      try simp only [Act.put, List.setIfInBounds_toArray, List.set_cons_zero, List.set_cons_succ]
      refine wpAnyH_take (i := 30) (oi := { dst := some 2, op := Op.assign (Operand.tmp 149), type := 4, pos := "laws.go:436", after := #[{ on := 29, ground := Ground.data }, { on := 28, ground := Ground.chain }, { on := 0, ground := Ground.phase }, { on := 1, ground := Ground.phase }, { on := 2, ground := Ground.phase }, { on := 3, ground := Ground.phase }, { on := 4, ground := Ground.phase }, { on := 5, ground := Ground.phase }, { on := 6, ground := Ground.phase }, { on := 7, ground := Ground.phase }, { on := 8, ground := Ground.phase }, { on := 9, ground := Ground.phase }, { on := 10, ground := Ground.phase }, { on := 11, ground := Ground.phase }, { on := 12, ground := Ground.phase }, { on := 13, ground := Ground.phase }, { on := 14, ground := Ground.phase }, { on := 15, ground := Ground.phase }, { on := 16, ground := Ground.phase }, { on := 17, ground := Ground.phase }, { on := 18, ground := Ground.phase }, { on := 19, ground := Ground.phase }, { on := 20, ground := Ground.phase }, { on := 21, ground := Ground.phase }, { on := 22, ground := Ground.phase }, { on := 23, ground := Ground.phase }, { on := 24, ground := Ground.phase }, { on := 25, ground := Ground.phase }, { on := 26, ground := Ground.phase }, { on := 27, ground := Ground.phase }, { on := 28, ground := Ground.phase }, { on := 29, ground := Ground.phase }], guard := none }) (v := ?ve30) rfl (by kernel_rfl) (by kernel_rfl) (by kernel_rfl) (fun _ _ _ h => h) (Or.inl ⟨by rfl, ?hye30⟩) hHeld ?_
      case hye30 => (intro w hSw; (try dsimp only at hSw); go_simp <;> with_reducible rfl)
      try simp only [Act.put, List.setIfInBounds_toArray, List.set_cons_zero, List.set_cons_succ]
      refine wpAnyH_done (by kernel_rfl) ?_ _
      go_wp2
      go_ret
      exact ⟨rfl, grow_on B_wvr46.out hHeld.1⟩

theorem walk (a : Option Addr) (len cap : Nat) (zs : List Int) (w : World) (h : IsRow .u8 w a len cap zs) :
    Calls Try.prog 3 #[.slice a len cap] w fun e w' => e = .returned (.bool true) ∧ Below w.heap.size w w' := by
  obtain ⟨hl, hb⟩ := bytes_of h
  exact core a len cap w hl hb
theorem own : ownKnob Try.prog.godebug = none := by kernel_rfl
theorem laidOut : laidOutB Try.prog = true := by kernel_rfl
set_option maxRecDepth 100000 in
theorem lifted (os : Os) (started : os.Started) (H : Type) (enc : TypeId × Value → H) :
    ReturnsInHanded {} Try.checked os 3 .any (Rows.fnSubsSpec.pre6 enc Try.prog Try.f3 Rows.fnSubsRow.domain false) (Rows.fnSubsSpec.post enc Try.prog Try.f3 false true false false) := by
  refine returnsInHanded_of_change (C := Try.checked) own started (by kernel_rfl) Try.func3
    (ChangeSpec.witness6 (enc := enc) (C := Try.checked) false ⟨#[], #[.slice none 0 0], []⟩ 8 (by kernel_rfl) (by kernel_rfl) (by kernel_rfl) (by kernel_rfl)) ?_
  intro W base args ds gs before hval0 hW hcnd _
  have hval : ∀ (j : Nat) t v, Try.f3.params[j]? = some t → args[j]? = some v → Value.okWide Try.prog W .any base t v := hval0
  have hW' := hW
  obtain ⟨p, q, hA0, hV, rfl, hfz, hnd⟩ := hW
  have hA : DataW.TrodAll enc Try.prog W 0 (fun _ => true) true Try.f3.params.toList args.toList ds p := hA0
  rw [Try.params3] at hA hval
  obtain ⟨v0, vs0, d0, ds0, p0, q0, hargs, rfl, rfl, h0, r0⟩ := trodAll_cons hA
  obtain ⟨rfl, rfl, rfl⟩ := trodAll_nil r0
  obtain rfl : args = #[v0] := by cases args; simp_all
  obtain ⟨rfl, rfl⟩ := trodVars_none hV
  obtain ⟨a0, len0, cap0, rfl⟩ := okWide_slice Try.underlying22 (hval 0 22 v0 rfl rfl)
  have k0 := h0
  have lt0 : ∀ x ∈ p0, x.block < W.heap.size := by obtain ⟨m, hm⟩ := k0; exact DataW.trod_lt m _ _ _ hm
  obtain ⟨z0, w0⟩ : ∃ zs, IsRow .u8 W a0 len0 cap0 zs := by
    obtain ⟨fuel, hf⟩ := h0
    rcases open_ints Try.underlying22 Try.underlying5 (by kernel_rfl) hf with ⟨hcs, _⟩ | ⟨x, l, c, zs, hcs, _, hl, hm, hz, _, hcell, hwz⟩
    · simp [Value.cells] at hcs
      obtain ⟨rfl, rfl, rfl⟩ := hcs
      exact ⟨[], .inl ⟨rfl, rfl, rfl, rfl⟩⟩
    · simp [Value.cells] at hcs
      obtain ⟨rfl, rfl, rfl⟩ := hcs
      exact ⟨zs, .inr ⟨_, rfl, hl, hm, by simpa using hz, hcell, hwz⟩⟩
  clear hA0 hval0
  refine (walk a0 len0 cap0 z0 W w0).mono fun e W' ⟨he, bel⟩ => ?_
  subst he
  exact ⟨_, rfl, _, _, _, [], _, [], hW', trodAll_mk1 (shut_bool Try.underlying4 _), (trodAll_cons_mk (Below.trod laidOut (by kernel_rfl) (of_decide_eq_true (by kernel_rfl)) k0 bel lt0) trodAll_mk0), rfl, bel.frame _, fun h => by cases h⟩

theorem over : Rows.fnSubsRow.holds Try.pinned (OpenSpec.ofChange Rows.fnSubsSpec) :=
  OpenClaim.holds_of_wide 3 Try.f3 rfl rfl rfl rfl rfl rfl rfl ⟨rfl, rfl, rfl, rfl, rfl⟩ rfl rfl rfl rfl rfl (by kernel_rfl) Try.func3 (by kernel_rfl)
    (of_decide_eq_true (by kernel_rfl)) (by unfold Func.isWrapper; first | (rw [if_pos (by decide +kernel)]; kernel_rfl) | (rw [if_neg (by decide +kernel)]; exact ⟨rfl, rfl⟩))
    (fun os started H enc _ => lifted os started H enc)

end Go.Proofs.Ytdmhccheaemkkaa.FnSubs
namespace Go.Proofs.Ytdmhccheaemkkaa
theorem fnSubs_holds : Rows.FnSubsSaid := FnSubs.over
#print axioms fnSubs_holds
end Go.Proofs.Ytdmhccheaemkkaa
