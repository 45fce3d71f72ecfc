/-
  PROVED: over a chain in memory spec.DropOver answers as two plain functions on lists say, in memory of its own; nothing that was there is changed.
-/
import Derived.Test.YtcopckbpflmmeaaChnU
namespace Go.Proofs.Ytcopckbpflmmeaa.ChnV
open Go.RowKit
open Go.Proofs.Ytcopckbpflmmeaa.Labs Go.Proofs.Ytcopckbpflmmeaa.LabS Go.Proofs.Ytcopckbpflmmeaa.Alms Go.Proofs.Ytcopckbpflmmeaa.AlmS Go.Proofs.Ytcopckbpflmmeaa.AlmM Go.Proofs.Ytcopckbpflmmeaa.Over Go.Proofs.Ytcopckbpflmmeaa.Blk Go.Proofs.Ytcopckbpflmmeaa.App Go.Proofs.Ytcopckbpflmmeaa.Rws Go.Proofs.Ytcopckbpflmmeaa.ChnI Go.Proofs.Ytcopckbpflmmeaa.ChnC Go.Proofs.Ytcopckbpflmmeaa.ChnP Go.Proofs.Ytcopckbpflmmeaa.ChnD
set_option linter.unusedVariables false

/-- what is so between two rounds -/
structure MidS (w : World) (f : Int) (a : Option Addr) (n cap : Nat) (W : World) (M1 c1 : Nat) (rs1 : List ARow) (M2 c2 : Nat) (rs2 : List ARow) : Prop where
  two : Two w.heap.size W M1 c1 rs1 M2 c2 rs2
  low : w.heap.size + 2 ≤ M1 ∧ w.heap.size + 2 ≤ M2
  bch : Blk W w.heap.size #[.int .i64 f, .slice a n cap] 26
  bres : Blk W (w.heap.size + 1) #[.int .i64 0, .slice none 0 0] 26
  bleft : Blk W (w.heap.size + 1 + 1 + 1) #[.int .i64 f, .slice (some ⟨M1, 0, none⟩) rs1.length c1] 26
  below : Below w.heap.size w W
theorem MidS.grow {w : World} {f : Int} {a : Option Addr} {n cap : Nat} {W W' : World} {M1 c1 : Nat} {rs1 : List ARow} {M2 c2 : Nat} {rs2 : List ARow} (h : MidS w f a n cap W M1 c1 rs1 M2 c2 rs2) (hb : Below W.heap.size W W') : MidS w f a n cap W' M1 c1 rs1 M2 c2 rs2 :=
  ⟨h.two.grow hb, h.low, h.bch.grow hb, h.bres.grow hb, h.bleft.grow hb, grow_on h.below hb⟩
theorem left_o {P : List PAl} {now : Int} {k : Nat} (h : k < P.length) (ho : overB (nthP P k).e now = true) : leftTo P now (k + 1) = leftTo P now k ∧ goneTo P now (k + 1) = goneTo P now k ++ [nthP P k] := by rw [left_up h, gone_up h, if_pos ho, if_pos ho]; simp
theorem left_k {P : List PAl} {now : Int} {k : Nat} (h : k < P.length) (ho : overB (nthP P k).e now = false) : leftTo P now (k + 1) = leftTo P now k ++ [nthP P k] ∧ goneTo P now (k + 1) = goneTo P now k := by rw [left_up h, gone_up h, ho]; simp
theorem to_le {P : List PAl} {now : Int} {k : Nat} (h : k ≤ P.length) : (leftTo P now k).length ≤ P.length ∧ (goneTo P now k).length ≤ P.length := by
  have h1 := drop_len P now k
  have h2 : (P.take k).length ≤ P.length := by simp; omega
  exact ⟨by omega, by omega⟩
set_option maxRecDepth 100000 in
set_option maxHeartbeats 2000000 in
theorem specDrop_any (f : Int) (a : Option Addr) (cap : Nat) (P : List PAl) (now : Int) (w : World) (hr : RdN w a P) (hl : P.length ≤ 1048576) (hs : LenM P) :
    Calls Try.prog 14 #[.agg #[.int .i64 f, .slice a P.length cap], .int .i64 now] w fun e w' => (∃ M1 c1 rs1 M2 c2 rs2, e = .returned (.tuple #[.agg #[.int .i64 f, .slice (some ⟨M1, 0, none⟩) rs1.length c1], .slice (some ⟨M2, 0, none⟩) rs2.length c2]) ∧ Two w.heap.size w' M1 c1 rs1 M2 c2 rs2 ∧ pals rs1 = leftTo P now P.length ∧ pals rs2 = goneTo P now P.length) ∧ Below w.heap.size w w' := by
  have HR : Hid (RdN w a P ∧ LenM P) := ⟨hr, hs⟩
  clear hr hs
  obtain ⟨i0, hi, hz0, hz1, hz2⟩ := info_parts infoA
  go_enter Try.func14, Try.ntmps14
  go_wp2
  go_loopw [7, 8] (fun v i w' => ∃ (k M1 c1 : Nat) (rs1 : List ARow) (M2 c2 : Nat) (rs2 : List ARow), i = .int .i64 k ∧ k ≤ P.length ∧ v = .slice (some ⟨M2, 0, none⟩) rs2.length c2 ∧ MidS w f a P.length cap w' M1 c1 rs1 M2 c2 rs2 ∧ pals rs1 = leftTo P now k ∧ pals rs2 = goneTo P now k) (fun _ i _ => P.length - (intOf i).toNat)
  case atStart =>
    exact ⟨0, w.heap.size + 1 + 1, 0, [], w.heap.size + 1 + 1 + 1 + 1, 0, [], rfl, Nat.zero_le _, rfl, ⟨⟨AB.nil (((Blk.new_at (by simp)).alloc _).alloc _) (by omega), AB.nil (Blk.new_at (by simp)) (by omega), by omega, fun x hx => by simp at hx⟩, ⟨by omega, by omega⟩, ((((Blk.new _ _ _).alloc _).alloc _).alloc _).alloc _, (((Blk.new_at (by simp)).alloc _).alloc _).alloc _, (Blk.new_at (by simp)).alloc _, ((Alm.below3 w _ _ _).alloc (by simp; omega) _).alloc (by simp; omega) _⟩, rfl, rfl⟩
  case round =>
    obtain ⟨k, M1, c1, rs1, M2, c2, rs2, rfl, hk, rfl, hm, hp1, hp2⟩ := hrel
    have HM : Hid (MidS w f a P.length cap wr M1 c1 rs1 M2 c2 rs2) := hm
    have HP : Hid (pals rs1 = leftTo P now k ∧ pals rs2 = goneTo P now k) := ⟨hp1, hp2⟩
    have hll := to_le (now := now) hk
    rw [← hp1, ← hp2, pals_len, pals_len] at hll
    have hl1 : rs1.length ≤ 1048576 := by omega
    have hl2 : rs2.length ≤ 1048576 := by omega
    have q1 : wr.cell? ⟨w.heap.size, 1, none⟩ = some (.slice a P.length cap) := hm.bch.cell 1
    clear hm hp1 hp2 hll
    by_cases hlt : k < P.length
    · have hlt' : (k : Int) < (P.length : Int) := by omega
      obtain ⟨b, off, rfl, hb, g, o, cp, hat⟩ := (HR.out.1.below HM.out.below).get hlt
      have h2 := hat.c0
      have h3 := hat.c1
      have h4 := hat.c2
      have h5 := hat.c3
      have HC : Hid (Calls Try.prog 49 #[.agg #[.slice (some ⟨g, o, none⟩) (nthP P k).l.length cp, .int .i64 (nthP P k).s, .int .i64 (nthP P k).e, .string (nthP P k).n]] wr fun r w' => (∃ Mx c, r = .returned (.agg #[.slice (some ⟨Mx, 0, none⟩) (nthP P k).l.length c, .int .i64 (nthP P k).s, .int .i64 (nthP P k).e, .string (nthP P k).n]) ∧ LabR.Own wr w' Mx (nthP P k).l) ∧ Below wr.heap.size wr w') := copyS_any _ _ _ _ _ _ _ wr hat.reads (HR.out.2 k hlt)
      clear hat
      go_wp2_with fail
      refine HC.out.mono ?_
      rintro e w1 ⟨⟨Mx, cx, rfl, hO⟩, hb1⟩
      have HM1 : Hid (MidS w f (some ⟨b, off, none⟩) P.length cap w1 M1 c1 rs1 M2 c2 rs2) := HM.out.grow hb1
      have HO : Hid (OwnA w.heap.size w1 (Mx, cx, nthP P k) ∧ wr.heap.size ≤ Mx) := ⟨(own_of_copy hO (HR.out.2 k hlt)).down HM.out.below.size, hO.1⟩
      clear hb1 hO h2 h3 h4 h5 HC q1
      have HV : ∀ y, Hid (Calls Try.prog 54 #[.agg #[.slice (some ⟨Mx, 0, none⟩) (nthP P k).l.length cx, .int .i64 (nthP P k).s, .int .i64 (nthP P k).e, .string (nthP P k).n], .int .i64 now] y fun r w' => r = .returned (.bool (overB (nthP P k).e now)) ∧ Below y.heap.size y w') := fun y => specOver_any _ _ _ _ _ _
      cases hov : overB (nthP P k).e now with
      | true =>
        rw [hov] at HV
        have HE := left_o hlt hov
        have HEE : Hid _ := HE
        clear hov HE
        go_wp2_with fail
        refine (HV _).out.mono ?_
        rintro e w2 ⟨rfl, hb2⟩
        have XB : Hid (Blk w2 w1.heap.size #[.slice (some ⟨Mx, 0, none⟩) (nthP P k).l.length cx, .int .i64 (nthP P k).s, .int .i64 (nthP P k).e, .string (nthP P k).n] 29) := (Blk.new _ _ _).grow hb2
        replace hb2 := grow_on (Go.Joins.below_alloc1 w1 _) hb2
        have HM2 : Hid (MidS w f (some ⟨b, off, none⟩) P.length cap w2 M1 c1 rs1 M2 c2 rs2) := HM1.out.grow hb2
        have HO2 : Hid (OwnA w.heap.size w2 (Mx, cx, nthP P k)) := HO.out.1.grow hb2
        obtain ⟨xs, hox, hxl, hxs⟩ := HM2.out.two.b.own
        have HOX : Hid (∀ o1, (w2.alloc o1).ownsRow w.heap.size 29 4 (.slice (some ⟨M2, 0, none⟩) rs2.length c2) rs2.length xs) := fun o1 => own_grow hox (Go.Joins.below_alloc1 w2 o1)
        have HXS : Hid (xs.length = rs2.length * 4 ∧ ∀ i, i < rs2.length → Four (fun k => xs[k]?) i (nthA rs2 i)) := ⟨hxl, hxs⟩
        have z0 : w2.cell? ⟨w1.heap.size, 0, none⟩ = some (.slice (some ⟨Mx, 0, none⟩) (nthP P k).l.length cx) := XB.out.cell 0
        have z1 : w2.cell? ⟨w1.heap.size, 1, none⟩ = some (.int .i64 (nthP P k).s) := XB.out.cell 1
        have z2 : w2.cell? ⟨w1.heap.size, 2, none⟩ = some (.int .i64 (nthP P k).e) := XB.out.cell 2
        have z3 : w2.cell? ⟨w1.heap.size, 3, none⟩ = some (.string (nthP P k).n) := XB.out.cell 3
        have d1 : w2.cell? ⟨w.heap.size + 1 + 1 + 1, 1, none⟩ = some (.slice (some ⟨M1, 0, none⟩) rs1.length c1) := HM2.out.bleft.cell 1
        clear hox hxl hxs hb2 HM1
        go_wp2_with (at_builtin; refine wpList_append_own_at _ rfl _ _ 24 rfl w.heap.size 29 i0 (.agg #[.slice none 0 0, .int .i64 0, .int .i64 0, .string ByteArray.empty]) 4 56 Try.underlying24 hi hz0 hz1 hz2 rfl (by decide) _ _ _ rfl (HOX.out _) ⟨w2.heap.size, 0, none⟩ 1 1 (rowV (Mx, cx, nthP P k)) rfl rfl ?c1 (row_one _) ?c3 ?c4 ?c5 ?_)
        case c1 => exact blk_news (Blk.new _ _ _)
        case c3 => unfold maxLen; omega
        case c4 => omega
        case c5 => have := HM2.out.below.size; simp; omega
        intro v' w3 hown hg hnil hat
        have hU := Go.Joins.below_alloc1 w2 (.cells #[.slice (some ⟨Mx, 0, none⟩) (nthP P k).l.length cx, .int .i64 (nthP P k).s, .int .i64 (nthP P k).e, .string (nthP P k).n] 29)
        obtain ⟨cu, hcu, _⟩ := (HM2.out.two.grow hU).b.outer
        have hat2 : v'.ownBlock = some M2 ∨ v'.ownBlock = some (w2.alloc (.cells #[.slice (some ⟨Mx, 0, none⟩) (nthP P k).l.length cx, .int .i64 (nthP P k).s, .int .i64 (nthP P k).e, .string (nthP P k).n] 29)).heap.size := by
          rcases hat with h | h
          · exact .inl h
          · exact .inr (by rw [h]; simp)
        have hlow : ∀ {M' n' c'}, v' = .slice (some ⟨M', 0, none⟩) n' c' → w.heap.size + 2 ≤ M' := fun e => mid_low (W := w2.alloc (.cells #[.slice (some ⟨Mx, 0, none⟩) (nthP P k).l.length cx, .int .i64 (nthP P k).s, .int .i64 (nthP P k).e, .string (nthP P k).n] 29)) hat2 e HM2.out.low.2 (by have := HM2.out.bleft.lt; simp; omega)
        obtain ⟨M3, c3, e3, hT⟩ := (HM2.out.two.grow hU).symm.app (HO2.out.grow hU) (fun y hy => by have := (HM.out.two.b.rows y hy).lt; have := HO.out.2; show y.1 ≠ Mx; omega) (fun y hy => by have := (HM.out.two.a.rows y hy).lt; have := HO.out.2; show y.1 ≠ Mx; omega) HXS.out.1 HXS.out.2 hown hg hat2
        have HLo : Hid (w.heap.size + 2 ≤ M3) := hlow e3
        subst e3
        have HT : Hid (Two w.heap.size w3 M1 c1 rs1 M3 c3 (rs2 ++ [(Mx, cx, nthP P k)])) := hT.symm
        have B0 : Hid (Blk w3 w.heap.size #[.int .i64 f, .slice (some ⟨b, off, none⟩) P.length cap] 26) := blk_far (HM2.out.bch.grow hU) hg (fun e => chain_alarm (HM2.out.bch.grow hU) hcu (Option.some.inj e))
        have B1 : Hid (Blk w3 (w.heap.size + 1) #[.int .i64 0, .slice none 0 0] 26) := blk_far (HM2.out.bres.grow hU) hg (fun e => chain_alarm (HM2.out.bres.grow hU) hcu (Option.some.inj e))
        have B3 : Hid (Blk w3 (w.heap.size + 1 + 1 + 1) #[.int .i64 f, .slice (some ⟨M1, 0, none⟩) rs1.length c1] 26) := blk_far (HM2.out.bleft.grow hU) hg (fun e => chain_alarm (HM2.out.bleft.grow hU) hcu (Option.some.inj e))
        have HB3 : Hid (Below w.heap.size w w3) := (grow_on HM2.out.below hU).grown hg (by have := HM2.out.below.size; simp; omega) (fun k e => by have h : M2 = k := Option.some.inj e; have := HM2.out.low; omega)
        have HL3 : Hid ((rs2 ++ [(Mx, cx, nthP P k)]).length = rs2.length + 1) := by show _ = _; simp
        clear hown hg hnil hat hat2 hT hlow hcu hU z0 z1 z2 z3 d1
        have HMid : Hid (MidS w f (some ⟨b, off, none⟩) P.length cap w3 M1 c1 rs1 M3 c3 (rs2 ++ [(Mx, cx, nthP P k)])) := ⟨HT.out, ⟨HM2.out.low.1, HLo.out⟩, B0.out, B1.out, B3.out, HB3.out⟩
        go_wp2
        go_roundw
        case rel => exact ⟨k + 1, M1, c1, rs1, M3, c3, _, by go_num, by omega, by rw [HL3.out], HMid.out, HP.out.1.trans HEE.out.1.symm, by rw [pals_app, HP.out.2, HEE.out.2]⟩
        case measure => simp [intOf]; omega
      | false =>
        rw [hov] at HV
        have HE := left_k hlt hov
        have HEE : Hid _ := HE
        clear hov HE
        go_wp2_with fail
        refine (HV _).out.mono ?_
        rintro e w2 ⟨rfl, hb2⟩
        have XB : Hid (Blk w2 w1.heap.size #[.slice (some ⟨Mx, 0, none⟩) (nthP P k).l.length cx, .int .i64 (nthP P k).s, .int .i64 (nthP P k).e, .string (nthP P k).n] 29) := (Blk.new _ _ _).grow hb2
        replace hb2 := grow_on (Go.Joins.below_alloc1 w1 _) hb2
        have HM2 : Hid (MidS w f (some ⟨b, off, none⟩) P.length cap w2 M1 c1 rs1 M2 c2 rs2) := HM1.out.grow hb2
        have HO2 : Hid (OwnA w.heap.size w2 (Mx, cx, nthP P k)) := HO.out.1.grow hb2
        obtain ⟨xs, hox, hxl, hxs⟩ := HM2.out.two.a.own
        have HOX : Hid (∀ o1, (w2.alloc o1).ownsRow w.heap.size 29 4 (.slice (some ⟨M1, 0, none⟩) rs1.length c1) rs1.length xs) := fun o1 => own_grow hox (Go.Joins.below_alloc1 w2 o1)
        have HXS : Hid (xs.length = rs1.length * 4 ∧ ∀ i, i < rs1.length → Four (fun k => xs[k]?) i (nthA rs1 i)) := ⟨hxl, hxs⟩
        have z0 : w2.cell? ⟨w1.heap.size, 0, none⟩ = some (.slice (some ⟨Mx, 0, none⟩) (nthP P k).l.length cx) := XB.out.cell 0
        have z1 : w2.cell? ⟨w1.heap.size, 1, none⟩ = some (.int .i64 (nthP P k).s) := XB.out.cell 1
        have z2 : w2.cell? ⟨w1.heap.size, 2, none⟩ = some (.int .i64 (nthP P k).e) := XB.out.cell 2
        have z3 : w2.cell? ⟨w1.heap.size, 3, none⟩ = some (.string (nthP P k).n) := XB.out.cell 3
        have d1 : w2.cell? ⟨w.heap.size + 1 + 1 + 1, 1, none⟩ = some (.slice (some ⟨M1, 0, none⟩) rs1.length c1) := HM2.out.bleft.cell 1
        clear hox hxl hxs hb2 HM1
        go_wp2_with (at_builtin; refine wpList_append_own_at _ rfl _ _ 24 rfl w.heap.size 29 i0 (.agg #[.slice none 0 0, .int .i64 0, .int .i64 0, .string ByteArray.empty]) 4 56 Try.underlying24 hi hz0 hz1 hz2 rfl (by decide) _ _ _ rfl (HOX.out _) ⟨w2.heap.size, 0, none⟩ 1 1 (rowV (Mx, cx, nthP P k)) rfl rfl ?c1 (row_one _) ?c3 ?c4 ?c5 ?_)
        case c1 => exact blk_news (Blk.new _ _ _)
        case c3 => unfold maxLen; omega
        case c4 => omega
        case c5 => have := HM2.out.below.size; simp; omega
        intro v' w3 hown hg hnil hat
        have hU := Go.Joins.below_alloc1 w2 (.cells #[.slice (some ⟨Mx, 0, none⟩) (nthP P k).l.length cx, .int .i64 (nthP P k).s, .int .i64 (nthP P k).e, .string (nthP P k).n] 29)
        obtain ⟨cu, hcu, _⟩ := (HM2.out.two.grow hU).a.outer
        have hat2 : v'.ownBlock = some M1 ∨ v'.ownBlock = some (w2.alloc (.cells #[.slice (some ⟨Mx, 0, none⟩) (nthP P k).l.length cx, .int .i64 (nthP P k).s, .int .i64 (nthP P k).e, .string (nthP P k).n] 29)).heap.size := by
          rcases hat with h | h
          · exact .inl h
          · exact .inr (by rw [h]; simp)
        have hlow : ∀ {M' n' c'}, v' = .slice (some ⟨M', 0, none⟩) n' c' → w.heap.size + 2 ≤ M' := fun e => mid_low (W := w2.alloc (.cells #[.slice (some ⟨Mx, 0, none⟩) (nthP P k).l.length cx, .int .i64 (nthP P k).s, .int .i64 (nthP P k).e, .string (nthP P k).n] 29)) hat2 e HM2.out.low.1 (by have := HM2.out.bleft.lt; simp; omega)
        obtain ⟨M3, c3, e3, hT⟩ := (HM2.out.two.grow hU).app (HO2.out.grow hU) (fun y hy => by have := (HM.out.two.a.rows y hy).lt; have := HO.out.2; show y.1 ≠ Mx; omega) (fun y hy => by have := (HM.out.two.b.rows y hy).lt; have := HO.out.2; show y.1 ≠ Mx; omega) HXS.out.1 HXS.out.2 hown hg hat2
        have HLo : Hid (w.heap.size + 2 ≤ M3) := hlow e3
        subst e3
        have HT : Hid (Two w.heap.size w3 M3 c3 (rs1 ++ [(Mx, cx, nthP P k)]) M2 c2 rs2) := hT
        have B0 : Hid (Blk w3 w.heap.size #[.int .i64 f, .slice (some ⟨b, off, none⟩) P.length cap] 26) := blk_far (HM2.out.bch.grow hU) hg (fun e => chain_alarm (HM2.out.bch.grow hU) hcu (Option.some.inj e))
        have B1 : Hid (Blk w3 (w.heap.size + 1) #[.int .i64 0, .slice none 0 0] 26) := blk_far (HM2.out.bres.grow hU) hg (fun e => chain_alarm (HM2.out.bres.grow hU) hcu (Option.some.inj e))
        have B3 : Hid (Blk w3 (w.heap.size + 1 + 1 + 1) #[.int .i64 f, .slice (some ⟨M1, 0, none⟩) rs1.length c1] 26) := blk_far (HM2.out.bleft.grow hU) hg (fun e => chain_alarm (HM2.out.bleft.grow hU) hcu (Option.some.inj e))
        have HB3 : Hid (Below w.heap.size w w3) := (grow_on HM2.out.below hU).grown hg (by have := HM2.out.below.size; simp; omega) (fun k e => by have h : M1 = k := Option.some.inj e; have := HM2.out.low; omega)
        have HL3 : Hid ((rs1 ++ [(Mx, cx, nthP P k)]).length = rs1.length + 1) := by show _ = _; simp
        clear hown hg hnil hat hat2 hT hlow hcu hU z0 z1 z2 z3 d1
        have d3 : w3.cell? ⟨w.heap.size + 1 + 1 + 1, 1, none⟩ = some (.slice (some ⟨M1, 0, none⟩) rs1.length c1) := B3.out.cell 1
        have fd3 := B3.out.frozen 1
        have HMid : Hid (MidS w f (some ⟨b, off, none⟩) P.length cap (w3.setCell ⟨w.heap.size + 1 + 1 + 1, 1, none⟩ (.slice (some ⟨M3, 0, none⟩) (rs1.length + 1) c3)) M3 c3 (rs1 ++ [(Mx, cx, nthP P k)]) M2 c2 rs2) := ⟨HT.out.moved (fun k => k.set_other (chain_alarm B3.out k) _) (fun k => k.set_other (chain_label B3.out k) _), ⟨HLo.out, HM2.out.low.2⟩, B0.out.set_other (by show w.heap.size + 1 + 1 + 1 ≠ w.heap.size; omega) _, B1.out.set_other (by show w.heap.size + 1 + 1 + 1 ≠ w.heap.size + 1; omega) _, by have := B3.out.set 1 (.slice (some ⟨M3, 0, none⟩) (rs1.length + 1) c3); rw [HL3.out]; exact this, set_low HB3.out (by omega) _ _⟩
        go_wp2
        go_roundw
        case rel => exact ⟨k + 1, M3, c3, _, M2, c2, rs2, by go_num, by omega, rfl, HMid.out, by rw [pals_app, HP.out.1, HEE.out.1], HP.out.2.trans HEE.out.2.symm⟩
        case measure => simp [intOf]; omega
    · have hge : ¬ (k : Int) < (P.length : Int) := by omega
      have HF : Hid (pals rs1 = leftTo P now P.length ∧ pals rs2 = goneTo P now P.length) := by
        have e : k = P.length := by omega
        have := HP.out
        rwa [e] at this
      have l0 : wr.cell? ⟨w.heap.size + 1 + 1 + 1, 0, none⟩ = some (.int .i64 f) := HM.out.bleft.cell 0
      have l1 : wr.cell? ⟨w.heap.size + 1 + 1 + 1, 1, none⟩ = some (.slice (some ⟨M1, 0, none⟩) rs1.length c1) := HM.out.bleft.cell 1
      have r0 : wr.cell? ⟨w.heap.size + 1, 0, none⟩ = some (.int .i64 0) := HM.out.bres.cell 0
      have r1 : wr.cell? ⟨w.heap.size + 1, 1, none⟩ = some (.slice none 0 0) := HM.out.bres.cell 1
      have f0 := HM.out.bres.frozen 0
      have f1 := HM.out.bres.frozen 1
      go_wp2
      have hs : Blk ((wr.setCell ⟨w.heap.size + 1, 0, none⟩ (.int .i64 f)).setCell ⟨w.heap.size + 1, 1, none⟩ (.slice (some ⟨M1, 0, none⟩) rs1.length c1)) (w.heap.size + 1) #[.int .i64 f, .slice (some ⟨M1, 0, none⟩) rs1.length c1] 26 := (HM.out.bres.set 0 _).set 1 _
      have s0 := hs.cell 0
      have s1 := hs.cell 1
      refine bodyPost_ret (v := .tuple #[.agg #[.int .i64 f, .slice (some ⟨M1, 0, none⟩) rs1.length c1], .slice (some ⟨M2, 0, none⟩) rs2.length c2]) (by simp [results, Try.results14, go_sem, s0, s1]) rfl ?_
      exact ⟨⟨M1, c1, rs1, M2, c2, rs2, rfl, HM.out.two.moved (fun k => (k.set_other (chain_alarm HM.out.bres k) _).set_other (chain_alarm HM.out.bres k) _) (fun k => (k.set_other (chain_label HM.out.bres k) _).set_other (chain_label HM.out.bres k) _), HF.out⟩, ChnP.set2 HM.out.below (by omega) _ _⟩
end Go.Proofs.Ytcopckbpflmmeaa.ChnV
