/-
  PROVED: over any string spec.Sum and impl.Sum answer alike, as a plain function on its bytes says, between nought and 2 to the 32; spec.PartOf and impl.PartOf answer the remainder, nought at wrong input; nothing is changed.
  PROVED: over a slice of labels in memory spec.Finger and impl.Finger answer alike, between nought and 31, as a plain function says; so do spec.Alike and impl.Alike over two; nothing that was there is changed.
  PROVED: over a chain in memory impl.ChainOk answers as a plain function on lists says; nothing that was there is changed.
  PROVED: over chains in memory spec.InChain, spec.ChainOk, spec.SameChain and impl.SameChain answer as plain functions on lists say; nothing that was there is changed.
  PROVED: over two chains in memory spec.SameChain and impl.SameChain answer alike, as a plain function on lists says; spec.l4All and spec.l6Copy give the same alarms in memory of their own; nothing that was there is changed.
  PROVED: over chains in memory spec.l6Copy, spec.PutChain and spec.DropOver answer as plain functions on lists say, in memory of their own; nothing that was there is changed.
  PROVED: over a chain in memory spec.DropOver answers as two plain functions on lists say, in memory of its own; nothing that was there is changed.
  PROVED: the contracts of what the exact laws call over chains: the size that szChain counts, the copy that toChain makes, that eqChain finds two of the same alike, the marks that markAlarmS writes and heldAlarmS finds; what a chain that came in is.
  PROVED: slices of chains: what one that came in is; the size that szChainS and szPart count, the copy that toChainS and toPart make, that eqChainS and eqPart find two of the same alike; rows of chains in memory of a call's own, read, grown by an append, written at a place.
  PROVED: parts: what one that came in is; the copy that toPart makes, that eqChainS and eqPart find two of the same alike.
  PROVED: the marks that markChainS and markPart write lie in the chains' own memory alone, and heldChainS and heldPart find them.
  PROVED: over a part in memory spec.AlarmsIn and impl.AlarmsIn give all its alarms, chain by chain, in memory of their own; nothing that was there is changed.
  PROVED: what is left of a part's chains, and what goes, on plain lists; rows of alarms and of chains are kept while another row of alarms is written; over a part in memory spec.SweepIn answers so, in memory of its own; nothing that was there is changed.
-/
import Derived.Test.YtcopckbpflmmeabQTextS
import Derived.Laws.BitsAllLaws
import Derived.Test.YtcopckbpflmmeabQTextI
import Derived.Test.YtcopckbpflmmeabQChnI
import Derived.Test.YtcopckbpflmmeabQLsS
import Derived.Test.YtcopckbpflmmeabQLsA
import Derived.Test.YtcopckbpflmmeabQChnD
import Derived.Test.YtcopckbpflmmeabQLsK
set_option linter.unusedVariables false
namespace Go.Proofs.Ytcopckbpflmmeab.Sums
open Go.RowKit
open SetP (bs)

def stepU (h : Nat) (c : UInt8) : Nat := ((h ^^^ c.toNat) * 16777619) % 4294967296
def sumAt (s : ByteArray) (k : Nat) : Nat := ((bs s).take k).foldl stepU 2166136261
def sumB (s : ByteArray) : Nat := (bs s).foldl stepU 2166136261
theorem sum_all (s : ByteArray) : sumAt s s.size = sumB s := by
  unfold sumAt sumB
  rw [List.take_of_length_le]
  show s.data.toList.length ≤ s.data.size
  simp
theorem fold_up {f : Nat → UInt8 → Nat} {z : Nat} {s : ByteArray} {k : Nat} (h : k < s.size) : ((bs s).take (k + 1)).foldl f z = f (((bs s).take k).foldl f z) s[k] := by
  have hk : k < (bs s).length := by show k < s.data.toList.length; simpa using h
  rw [← List.take_append_getElem hk, List.foldl_append]
  rfl
theorem sum_up {s : ByteArray} {k : Nat} (h : k < s.size) : sumAt s (k + 1) = stepU (sumAt s k) s[k] := fold_up h
theorem retI {a b : Int} (h : a = b) : Ending.returned (.int .i64 a) = .returned (.int .i64 b) := by rw [h]
end Go.Proofs.Ytcopckbpflmmeab.Sums
namespace Go.Proofs.Ytcopckbpflmmeab.Fing
open Go.RowKit
open Labs LabS LabO SetP TextS TextI Sums
open Over

def foldB (x : Nat) : Nat := (x ^^^ (x / 65536)) % 32
def fingerB (l : List Lab) : Nat := foldB (sumB (setText l))
theorem retB {a b : Bool} (h : a = b) : Ending.returned (.bool a) = .returned (.bool b) := by rw [h]
end Go.Proofs.Ytcopckbpflmmeab.Fing
namespace Go.Proofs.Ytcopckbpflmmeab.ChnO
open Go.RowKit
open Labs LabS Alms AlmS Over Blk Rnd Plc Lop App Rws ChnI
open Fing (fingerB)
open StrB (retB)
attribute [local go_sem] Oper.semAt_some

end Go.Proofs.Ytcopckbpflmmeab.ChnO
namespace Go.Proofs.Ytcopckbpflmmeab.ChnS
open Go.RowKit
open Labs LabS Alms AlmS Over Blk Rws ChnI ChnO
open Fing (fingerB)
open StrB (retB)
open Alm (at_par)

end Go.Proofs.Ytcopckbpflmmeab.ChnS
namespace Go.Proofs.Ytcopckbpflmmeab.ChnT
open Go.RowKit
open Labs LabS Alms AlmS AlmM Over Blk App Rws ChnI ChnC ChnP ChnD ChnS
open StrB (retB)
open Alm (at_par)

end Go.Proofs.Ytcopckbpflmmeab.ChnT
namespace Go.Proofs.Ytcopckbpflmmeab.ChnU
open Go.RowKit
open Labs LabS Alms AlmS AlmM Over Blk App Rws ChnI ChnC ChnP ChnD ChnS ChnT

end Go.Proofs.Ytcopckbpflmmeab.ChnU
namespace Go.Proofs.Ytcopckbpflmmeab.ChnV
open Go.RowKit
open Labs LabS Alms AlmS AlmM Over Blk App Rws ChnI ChnC ChnP ChnD

structure MidS (w : World) (f : Int) (a : Option Addr) (n cap : Nat) (W : World) (M1 c1 : Nat) (rs1 : List ARow) (M2 c2 : Nat) (rs2 : List ARow) : Prop where
  two : Two w.heap.size W M1 c1 rs1 M2 c2 rs2
  low : w.heap.size + 2 ≤ M1 ∧ w.heap.size + 2 ≤ M2
  bch : Blk W w.heap.size #[.int .i64 f, .slice a n cap] 52
  bres : Blk W (w.heap.size + 1) #[.int .i64 0, .slice none 0 0] 52
  bleft : Blk W (w.heap.size + 1 + 1 + 1) #[.int .i64 f, .slice (some ⟨M1, 0, none⟩) rs1.length c1] 52
  below : Below w.heap.size w W
theorem MidS.grow {w : World} {f : Int} {a : Option Addr} {n cap : Nat} {W W' : World} {M1 c1 : Nat} {rs1 : List ARow} {M2 c2 : Nat} {rs2 : List ARow} (h : MidS w f a n cap W M1 c1 rs1 M2 c2 rs2) (hb : Below W.heap.size W W') : MidS w f a n cap W' M1 c1 rs1 M2 c2 rs2 :=
  ⟨h.two.grow hb, h.low, h.bch.grow hb, h.bres.grow hb, h.bleft.grow hb, grow_on h.below hb⟩
theorem left_o {P : List PAl} {now : Int} {k : Nat} (h : k < P.length) (ho : overB (nthP P k).e now = true) : leftTo P now (k + 1) = leftTo P now k ∧ goneTo P now (k + 1) = goneTo P now k ++ [nthP P k] := by rw [left_up h, gone_up h, if_pos ho, if_pos ho]; simp
theorem left_k {P : List PAl} {now : Int} {k : Nat} (h : k < P.length) (ho : overB (nthP P k).e now = false) : leftTo P now (k + 1) = leftTo P now k ++ [nthP P k] ∧ goneTo P now (k + 1) = goneTo P now k := by rw [left_up h, gone_up h, ho]; simp
theorem to_le {P : List PAl} {now : Int} {k : Nat} (h : k ≤ P.length) : (leftTo P now k).length ≤ P.length ∧ (goneTo P now k).length ≤ P.length := by
  have h1 := drop_len P now k
  have h2 : (P.take k).length ≤ P.length := by simp; omega
  exact ⟨by omega, by omega⟩
set_option maxRecDepth 100000 in
set_option maxHeartbeats 2000000 in
theorem specDrop_any (f : Int) (a : Option Addr) (cap : Nat) (P : List PAl) (now : Int) (w : World) (hr : RdN w a P) (hl : P.length ≤ 1048576) (hs : LenM P) :
    Calls Try.prog 29 #[.agg #[.int .i64 f, .slice a P.length cap], .int .i64 now] w fun e w' => (∃ M1 c1 rs1 M2 c2 rs2, e = .returned (.tuple #[.agg #[.int .i64 f, .slice (some ⟨M1, 0, none⟩) rs1.length c1], .slice (some ⟨M2, 0, none⟩) rs2.length c2]) ∧ Two w.heap.size w' M1 c1 rs1 M2 c2 rs2 ∧ pals rs1 = leftTo P now P.length ∧ pals rs2 = goneTo P now P.length) ∧ Below w.heap.size w w' := by
  have HR : Hid (RdN w a P ∧ LenM P) := ⟨hr, hs⟩
  clear hr hs
  obtain ⟨i0, hi, hz0, hz1, hz2⟩ := info_parts infoA
  go_enter Try.func29, Try.ntmps29
  go_wp2
  go_loopw [7, 8] (fun v i w' => ∃ (k M1 c1 : Nat) (rs1 : List ARow) (M2 c2 : Nat) (rs2 : List ARow), i = .int .i64 k ∧ k ≤ P.length ∧ v = .slice (some ⟨M2, 0, none⟩) rs2.length c2 ∧ MidS w f a P.length cap w' M1 c1 rs1 M2 c2 rs2 ∧ pals rs1 = leftTo P now k ∧ pals rs2 = goneTo P now k) (fun _ i _ => P.length - (intOf i).toNat)
  case atStart =>
    exact ⟨0, w.heap.size + 1 + 1, 0, [], w.heap.size + 1 + 1 + 1 + 1, 0, [], rfl, Nat.zero_le _, rfl, ⟨⟨AB.nil (((Blk.new_at (by simp)).alloc _).alloc _) (by omega), AB.nil (Blk.new_at (by simp)) (by omega), by omega, fun x hx => by simp at hx⟩, ⟨by omega, by omega⟩, ((((Blk.new _ _ _).alloc _).alloc _).alloc _).alloc _, (((Blk.new_at (by simp)).alloc _).alloc _).alloc _, (Blk.new_at (by simp)).alloc _, ((Alm.below3 w _ _ _).alloc (by simp; omega) _).alloc (by simp; omega) _⟩, rfl, rfl⟩
  case round =>
    obtain ⟨k, M1, c1, rs1, M2, c2, rs2, rfl, hk, rfl, hm, hp1, hp2⟩ := hrel
    have HM : Hid (MidS w f a P.length cap wr M1 c1 rs1 M2 c2 rs2) := hm
    have HP : Hid (pals rs1 = leftTo P now k ∧ pals rs2 = goneTo P now k) := ⟨hp1, hp2⟩
    have hll := to_le (now := now) hk
    rw [← hp1, ← hp2, pals_len, pals_len] at hll
    have hl1 : rs1.length ≤ 1048576 := by omega
    have hl2 : rs2.length ≤ 1048576 := by omega
    have q1 : wr.cell? ⟨w.heap.size, 1, none⟩ = some (.slice a P.length cap) := hm.bch.cell 1
    clear hm hp1 hp2 hll
    by_cases hlt : k < P.length
    · have hlt' : (k : Int) < (P.length : Int) := by omega
      obtain ⟨b, off, rfl, hb, g, o, cp, hat⟩ := (HR.out.1.below HM.out.below).get hlt
      have h2 := hat.c0
      have h3 := hat.c1
      have h4 := hat.c2
      have h5 := hat.c3
      have HC : Hid (Calls Try.prog 49 #[.agg #[.slice (some ⟨g, o, none⟩) (nthP P k).l.length cp, .int .i64 (nthP P k).s, .int .i64 (nthP P k).e, .string (nthP P k).n]] wr fun r w' => (∃ Mx c, r = .returned (.agg #[.slice (some ⟨Mx, 0, none⟩) (nthP P k).l.length c, .int .i64 (nthP P k).s, .int .i64 (nthP P k).e, .string (nthP P k).n]) ∧ LabR.Own wr w' Mx (nthP P k).l) ∧ Below wr.heap.size wr w') := copyS_any _ _ _ _ _ _ _ wr hat.reads (HR.out.2 k hlt)
      clear hat
      go_wp2_with fail
      refine HC.out.mono ?_
      rintro e w1 ⟨⟨Mx, cx, rfl, hO⟩, hb1⟩
      have HM1 : Hid (MidS w f (some ⟨b, off, none⟩) P.length cap w1 M1 c1 rs1 M2 c2 rs2) := HM.out.grow hb1
      have HO : Hid (OwnA w.heap.size w1 (Mx, cx, nthP P k) ∧ wr.heap.size ≤ Mx) := ⟨(own_of_copy hO (HR.out.2 k hlt)).down HM.out.below.size, hO.1⟩
      clear hb1 hO h2 h3 h4 h5 HC q1
      have HV : ∀ y, Hid (Calls Try.prog 50 #[.agg #[.slice (some ⟨Mx, 0, none⟩) (nthP P k).l.length cx, .int .i64 (nthP P k).s, .int .i64 (nthP P k).e, .string (nthP P k).n], .int .i64 now] y fun r w' => r = .returned (.bool (overB (nthP P k).e now)) ∧ Below y.heap.size y w') := fun y => specOver_any _ _ _ _ _ _
      cases hov : overB (nthP P k).e now with
      | true =>
        rw [hov] at HV
        have HE := left_o hlt hov
        have HEE : Hid _ := HE
        clear hov HE
        go_wp2_with fail
        refine (HV _).out.mono ?_
        rintro e w2 ⟨rfl, hb2⟩
        have XB : Hid (Blk w2 w1.heap.size #[.slice (some ⟨Mx, 0, none⟩) (nthP P k).l.length cx, .int .i64 (nthP P k).s, .int .i64 (nthP P k).e, .string (nthP P k).n] 68) := (Blk.new _ _ _).grow hb2
        replace hb2 := grow_on (Go.Joins.below_alloc1 w1 _) hb2
        have HM2 : Hid (MidS w f (some ⟨b, off, none⟩) P.length cap w2 M1 c1 rs1 M2 c2 rs2) := HM1.out.grow hb2
        have HO2 : Hid (OwnA w.heap.size w2 (Mx, cx, nthP P k)) := HO.out.1.grow hb2
        obtain ⟨xs, hox, hxl, hxs⟩ := HM2.out.two.b.own
        have HOX : Hid (∀ o1, (w2.alloc o1).ownsRow w.heap.size 68 4 (.slice (some ⟨M2, 0, none⟩) rs2.length c2) rs2.length xs) := fun o1 => own_grow hox (Go.Joins.below_alloc1 w2 o1)
        have HXS : Hid (xs.length = rs2.length * 4 ∧ ∀ i, i < rs2.length → Four (fun k => xs[k]?) i (nthA rs2 i)) := ⟨hxl, hxs⟩
        have z0 : w2.cell? ⟨w1.heap.size, 0, none⟩ = some (.slice (some ⟨Mx, 0, none⟩) (nthP P k).l.length cx) := XB.out.cell 0
        have z1 : w2.cell? ⟨w1.heap.size, 1, none⟩ = some (.int .i64 (nthP P k).s) := XB.out.cell 1
        have z2 : w2.cell? ⟨w1.heap.size, 2, none⟩ = some (.int .i64 (nthP P k).e) := XB.out.cell 2
        have z3 : w2.cell? ⟨w1.heap.size, 3, none⟩ = some (.string (nthP P k).n) := XB.out.cell 3
        have d1 : w2.cell? ⟨w.heap.size + 1 + 1 + 1, 1, none⟩ = some (.slice (some ⟨M1, 0, none⟩) rs1.length c1) := HM2.out.bleft.cell 1
        clear hox hxl hxs hb2 HM1
        go_wp2_with (at_builtin; refine wpList_append_own_at _ rfl _ _ 29 rfl w.heap.size 68 i0 (.agg #[.slice none 0 0, .int .i64 0, .int .i64 0, .string ByteArray.empty]) 4 56 Try.underlying29 hi hz0 hz1 hz2 rfl (by decide) _ _ _ rfl (HOX.out _) ⟨w2.heap.size, 0, none⟩ 1 1 (rowV (Mx, cx, nthP P k)) rfl rfl ?c1 (row_one _) ?c3 ?c4 ?c5 ?_)
        case c1 => exact blk_news (Blk.new _ _ _)
        case c3 => unfold maxLen; omega
        case c4 => omega
        case c5 => have := HM2.out.below.size; simp; omega
        intro v' w3 hown hg hnil hat
        have hU := Go.Joins.below_alloc1 w2 (.cells #[.slice (some ⟨Mx, 0, none⟩) (nthP P k).l.length cx, .int .i64 (nthP P k).s, .int .i64 (nthP P k).e, .string (nthP P k).n] 68)
        obtain ⟨cu, hcu, _⟩ := (HM2.out.two.grow hU).b.outer
        have hat2 : v'.ownBlock = some M2 ∨ v'.ownBlock = some (w2.alloc (.cells #[.slice (some ⟨Mx, 0, none⟩) (nthP P k).l.length cx, .int .i64 (nthP P k).s, .int .i64 (nthP P k).e, .string (nthP P k).n] 68)).heap.size := by
          rcases hat with h | h
          · exact .inl h
          · exact .inr (by rw [h]; simp)
        have hlow : ∀ {M' n' c'}, v' = .slice (some ⟨M', 0, none⟩) n' c' → w.heap.size + 2 ≤ M' := fun e => mid_low (W := w2.alloc (.cells #[.slice (some ⟨Mx, 0, none⟩) (nthP P k).l.length cx, .int .i64 (nthP P k).s, .int .i64 (nthP P k).e, .string (nthP P k).n] 68)) hat2 e HM2.out.low.2 (by have := HM2.out.bleft.lt; simp; omega)
        obtain ⟨M3, c3, e3, hT⟩ := (HM2.out.two.grow hU).symm.app (HO2.out.grow hU) (fun y hy => by have := (HM.out.two.b.rows y hy).lt; have := HO.out.2; show y.1 ≠ Mx; omega) (fun y hy => by have := (HM.out.two.a.rows y hy).lt; have := HO.out.2; show y.1 ≠ Mx; omega) HXS.out.1 HXS.out.2 hown hg hat2
        have HLo : Hid (w.heap.size + 2 ≤ M3) := hlow e3
        subst e3
        have HT : Hid (Two w.heap.size w3 M1 c1 rs1 M3 c3 (rs2 ++ [(Mx, cx, nthP P k)])) := hT.symm
        have B0 : Hid (Blk w3 w.heap.size #[.int .i64 f, .slice (some ⟨b, off, none⟩) P.length cap] 52) := blk_far (HM2.out.bch.grow hU) hg (fun e => chain_alarm (HM2.out.bch.grow hU) hcu (Option.some.inj e))
        have B1 : Hid (Blk w3 (w.heap.size + 1) #[.int .i64 0, .slice none 0 0] 52) := blk_far (HM2.out.bres.grow hU) hg (fun e => chain_alarm (HM2.out.bres.grow hU) hcu (Option.some.inj e))
        have B3 : Hid (Blk w3 (w.heap.size + 1 + 1 + 1) #[.int .i64 f, .slice (some ⟨M1, 0, none⟩) rs1.length c1] 52) := blk_far (HM2.out.bleft.grow hU) hg (fun e => chain_alarm (HM2.out.bleft.grow hU) hcu (Option.some.inj e))
        have HB3 : Hid (Below w.heap.size w w3) := (grow_on HM2.out.below hU).grown hg (by have := HM2.out.below.size; simp; omega) (fun k e => by have h : M2 = k := Option.some.inj e; have := HM2.out.low; omega)
        have HL3 : Hid ((rs2 ++ [(Mx, cx, nthP P k)]).length = rs2.length + 1) := by show _ = _; simp
        clear hown hg hnil hat hat2 hT hlow hcu hU z0 z1 z2 z3 d1
        have HMid : Hid (MidS w f (some ⟨b, off, none⟩) P.length cap w3 M1 c1 rs1 M3 c3 (rs2 ++ [(Mx, cx, nthP P k)])) := ⟨HT.out, ⟨HM2.out.low.1, HLo.out⟩, B0.out, B1.out, B3.out, HB3.out⟩
        go_wp2
        go_roundw
        case rel => exact ⟨k + 1, M1, c1, rs1, M3, c3, _, by go_num, by omega, by rw [HL3.out], HMid.out, HP.out.1.trans HEE.out.1.symm, by rw [pals_app, HP.out.2, HEE.out.2]⟩
        case measure => simp [intOf]; omega
      | false =>
        rw [hov] at HV
        have HE := left_k hlt hov
        have HEE : Hid _ := HE
        clear hov HE
        go_wp2_with fail
        refine (HV _).out.mono ?_
        rintro e w2 ⟨rfl, hb2⟩
        have XB : Hid (Blk w2 w1.heap.size #[.slice (some ⟨Mx, 0, none⟩) (nthP P k).l.length cx, .int .i64 (nthP P k).s, .int .i64 (nthP P k).e, .string (nthP P k).n] 68) := (Blk.new _ _ _).grow hb2
        replace hb2 := grow_on (Go.Joins.below_alloc1 w1 _) hb2
        have HM2 : Hid (MidS w f (some ⟨b, off, none⟩) P.length cap w2 M1 c1 rs1 M2 c2 rs2) := HM1.out.grow hb2
        have HO2 : Hid (OwnA w.heap.size w2 (Mx, cx, nthP P k)) := HO.out.1.grow hb2
        obtain ⟨xs, hox, hxl, hxs⟩ := HM2.out.two.a.own
        have HOX : Hid (∀ o1, (w2.alloc o1).ownsRow w.heap.size 68 4 (.slice (some ⟨M1, 0, none⟩) rs1.length c1) rs1.length xs) := fun o1 => own_grow hox (Go.Joins.below_alloc1 w2 o1)
        have HXS : Hid (xs.length = rs1.length * 4 ∧ ∀ i, i < rs1.length → Four (fun k => xs[k]?) i (nthA rs1 i)) := ⟨hxl, hxs⟩
        have z0 : w2.cell? ⟨w1.heap.size, 0, none⟩ = some (.slice (some ⟨Mx, 0, none⟩) (nthP P k).l.length cx) := XB.out.cell 0
        have z1 : w2.cell? ⟨w1.heap.size, 1, none⟩ = some (.int .i64 (nthP P k).s) := XB.out.cell 1
        have z2 : w2.cell? ⟨w1.heap.size, 2, none⟩ = some (.int .i64 (nthP P k).e) := XB.out.cell 2
        have z3 : w2.cell? ⟨w1.heap.size, 3, none⟩ = some (.string (nthP P k).n) := XB.out.cell 3
        have d1 : w2.cell? ⟨w.heap.size + 1 + 1 + 1, 1, none⟩ = some (.slice (some ⟨M1, 0, none⟩) rs1.length c1) := HM2.out.bleft.cell 1
        clear hox hxl hxs hb2 HM1
        go_wp2_with (at_builtin; refine wpList_append_own_at _ rfl _ _ 29 rfl w.heap.size 68 i0 (.agg #[.slice none 0 0, .int .i64 0, .int .i64 0, .string ByteArray.empty]) 4 56 Try.underlying29 hi hz0 hz1 hz2 rfl (by decide) _ _ _ rfl (HOX.out _) ⟨w2.heap.size, 0, none⟩ 1 1 (rowV (Mx, cx, nthP P k)) rfl rfl ?c1 (row_one _) ?c3 ?c4 ?c5 ?_)
        case c1 => exact blk_news (Blk.new _ _ _)
        case c3 => unfold maxLen; omega
        case c4 => omega
        case c5 => have := HM2.out.below.size; simp; omega
        intro v' w3 hown hg hnil hat
        have hU := Go.Joins.below_alloc1 w2 (.cells #[.slice (some ⟨Mx, 0, none⟩) (nthP P k).l.length cx, .int .i64 (nthP P k).s, .int .i64 (nthP P k).e, .string (nthP P k).n] 68)
        obtain ⟨cu, hcu, _⟩ := (HM2.out.two.grow hU).a.outer
        have hat2 : v'.ownBlock = some M1 ∨ v'.ownBlock = some (w2.alloc (.cells #[.slice (some ⟨Mx, 0, none⟩) (nthP P k).l.length cx, .int .i64 (nthP P k).s, .int .i64 (nthP P k).e, .string (nthP P k).n] 68)).heap.size := by
          rcases hat with h | h
          · exact .inl h
          · exact .inr (by rw [h]; simp)
        have hlow : ∀ {M' n' c'}, v' = .slice (some ⟨M', 0, none⟩) n' c' → w.heap.size + 2 ≤ M' := fun e => mid_low (W := w2.alloc (.cells #[.slice (some ⟨Mx, 0, none⟩) (nthP P k).l.length cx, .int .i64 (nthP P k).s, .int .i64 (nthP P k).e, .string (nthP P k).n] 68)) hat2 e HM2.out.low.1 (by have := HM2.out.bleft.lt; simp; omega)
        obtain ⟨M3, c3, e3, hT⟩ := (HM2.out.two.grow hU).app (HO2.out.grow hU) (fun y hy => by have := (HM.out.two.a.rows y hy).lt; have := HO.out.2; show y.1 ≠ Mx; omega) (fun y hy => by have := (HM.out.two.b.rows y hy).lt; have := HO.out.2; show y.1 ≠ Mx; omega) HXS.out.1 HXS.out.2 hown hg hat2
        have HLo : Hid (w.heap.size + 2 ≤ M3) := hlow e3
        subst e3
        have HT : Hid (Two w.heap.size w3 M3 c3 (rs1 ++ [(Mx, cx, nthP P k)]) M2 c2 rs2) := hT
        have B0 : Hid (Blk w3 w.heap.size #[.int .i64 f, .slice (some ⟨b, off, none⟩) P.length cap] 52) := blk_far (HM2.out.bch.grow hU) hg (fun e => chain_alarm (HM2.out.bch.grow hU) hcu (Option.some.inj e))
        have B1 : Hid (Blk w3 (w.heap.size + 1) #[.int .i64 0, .slice none 0 0] 52) := blk_far (HM2.out.bres.grow hU) hg (fun e => chain_alarm (HM2.out.bres.grow hU) hcu (Option.some.inj e))
        have B3 : Hid (Blk w3 (w.heap.size + 1 + 1 + 1) #[.int .i64 f, .slice (some ⟨M1, 0, none⟩) rs1.length c1] 52) := blk_far (HM2.out.bleft.grow hU) hg (fun e => chain_alarm (HM2.out.bleft.grow hU) hcu (Option.some.inj e))
        have HB3 : Hid (Below w.heap.size w w3) := (grow_on HM2.out.below hU).grown hg (by have := HM2.out.below.size; simp; omega) (fun k e => by have h : M1 = k := Option.some.inj e; have := HM2.out.low; omega)
        have HL3 : Hid ((rs1 ++ [(Mx, cx, nthP P k)]).length = rs1.length + 1) := by show _ = _; simp
        clear hown hg hnil hat hat2 hT hlow hcu hU z0 z1 z2 z3 d1
        have d3 : w3.cell? ⟨w.heap.size + 1 + 1 + 1, 1, none⟩ = some (.slice (some ⟨M1, 0, none⟩) rs1.length c1) := B3.out.cell 1
        have fd3 := B3.out.frozen 1
        have HMid : Hid (MidS w f (some ⟨b, off, none⟩) P.length cap (w3.setCell ⟨w.heap.size + 1 + 1 + 1, 1, none⟩ (.slice (some ⟨M3, 0, none⟩) (rs1.length + 1) c3)) M3 c3 (rs1 ++ [(Mx, cx, nthP P k)]) M2 c2 rs2) := ⟨HT.out.moved (fun k => k.set_other (chain_alarm B3.out k) _) (fun k => k.set_other (chain_label B3.out k) _), ⟨HLo.out, HM2.out.low.2⟩, B0.out.set_other (by show w.heap.size + 1 + 1 + 1 ≠ w.heap.size; omega) _, B1.out.set_other (by show w.heap.size + 1 + 1 + 1 ≠ w.heap.size + 1; omega) _, by have := B3.out.set 1 (.slice (some ⟨M3, 0, none⟩) (rs1.length + 1) c3); rw [HL3.out]; exact this, set_low HB3.out (by omega) _ _⟩
        go_wp2
        go_roundw
        case rel => exact ⟨k + 1, M3, c3, _, M2, c2, rs2, by go_num, by omega, rfl, HMid.out, by rw [pals_app, HP.out.1, HEE.out.1], HP.out.2.trans HEE.out.2.symm⟩
        case measure => simp [intOf]; omega
    · have hge : ¬ (k : Int) < (P.length : Int) := by omega
      have HF : Hid (pals rs1 = leftTo P now P.length ∧ pals rs2 = goneTo P now P.length) := by
        have e : k = P.length := by omega
        have := HP.out
        rwa [e] at this
      have l0 : wr.cell? ⟨w.heap.size + 1 + 1 + 1, 0, none⟩ = some (.int .i64 f) := HM.out.bleft.cell 0
      have l1 : wr.cell? ⟨w.heap.size + 1 + 1 + 1, 1, none⟩ = some (.slice (some ⟨M1, 0, none⟩) rs1.length c1) := HM.out.bleft.cell 1
      have r0 : wr.cell? ⟨w.heap.size + 1, 0, none⟩ = some (.int .i64 0) := HM.out.bres.cell 0
      have r1 : wr.cell? ⟨w.heap.size + 1, 1, none⟩ = some (.slice none 0 0) := HM.out.bres.cell 1
      have f0 := HM.out.bres.frozen 0
      have f1 := HM.out.bres.frozen 1
      go_wp2
      have hs : Blk ((wr.setCell ⟨w.heap.size + 1, 0, none⟩ (.int .i64 f)).setCell ⟨w.heap.size + 1, 1, none⟩ (.slice (some ⟨M1, 0, none⟩) rs1.length c1)) (w.heap.size + 1) #[.int .i64 f, .slice (some ⟨M1, 0, none⟩) rs1.length c1] 52 := (HM.out.bres.set 0 _).set 1 _
      have s0 := hs.cell 0
      have s1 := hs.cell 1
      refine bodyPost_ret (v := .tuple #[.agg #[.int .i64 f, .slice (some ⟨M1, 0, none⟩) rs1.length c1], .slice (some ⟨M2, 0, none⟩) rs2.length c2]) (by simp [results, Try.results29, go_sem, s0, s1]) rfl ?_
      exact ⟨⟨M1, c1, rs1, M2, c2, rs2, rfl, HM.out.two.moved (fun k => (k.set_other (chain_alarm HM.out.bres k) _).set_other (chain_alarm HM.out.bres k) _) (fun k => (k.set_other (chain_label HM.out.bres k) _).set_other (chain_label HM.out.bres k) _), HF.out⟩, ChnP.set2 HM.out.below (by omega) _ _⟩
end Go.Proofs.Ytcopckbpflmmeab.ChnV
namespace Go.Proofs.Ytcopckbpflmmeab.ChnK
open Go.RowKit
open Go.ChangeShapes Go.WideShapes
open Labs LabS Alms AlmS AlmM Over Blk App Rws ChnC ChnP ChnD
open Go.Proofs.Ytcopckbpflmmeab.Mark (Apart Marked)
open StrB (retB)
open Alm (at_par)
open LabT (Held held_reads)

theorem szC_any (f : Int) (a : Option Addr) (cap : Nat) (P : List PAl) (left : Int) (w : World) (hr : RdA w a P) (hl : P.length ≤ maxLen) (hz : FitsP P) (h0 : 0 ≤ left) (h1 : left ≤ 1048576) :
    Calls Try.prog 48 #[.agg #[.int .i64 f, .slice a P.length cap], .int .i64 left] w fun e w' => (∃ n : Int, e = .returned (.int .i64 n) ∧ n ≤ left ∧ (0 ≤ n → n + (P.length : Int) + (sumL P : Int) ≤ left)) ∧ Below w.heap.size w w' := by
  have HR : Hid (RdA w a P ∧ P.length ≤ maxLen ∧ FitsP P) := ⟨hr, hl, hz⟩
  clear hr hl hz
  go_enter Try.func48, Try.ntmps48
  go_wp2_with fail
  refine (Alms.sz_any a cap P left _ (HR.out.1.below (Go.Joins.below_alloc1 w _)) HR.out.2.1 HR.out.2.2 h0 h1).mono ?_
  rintro r w1 ⟨⟨n, rfl, hn, hn2⟩, hb⟩
  have HB : Hid (Below w.heap.size w w1) := grow_on (Go.Joins.below_alloc1 w _) hb
  have HN : Hid (0 ≤ n → n + (P.length : Int) + (sumL P : Int) ≤ left) := hn2
  clear hb hn2
  by_cases g : n < 0
  · go_wp2
    go_ret
    exact ⟨⟨-1, rfl, by omega, fun h => by omega⟩, HB.out⟩
  · go_wp2
    go_ret
    exact ⟨⟨_, rfl, hn, HN.out⟩, HB.out⟩

set_option maxHeartbeats 400000 in
theorem toC_any (f : Int) (a : Option Addr) (cap : Nat) (P : List PAl) (w : World) (hr : RdA w a P) (hl : P.length ≤ 1048576) (hs : sumL P ≤ 1048576) :
    Calls Try.prog 51 #[.agg #[.int .i64 f, .slice a P.length cap]] w fun r w' => (∃ M rs, r = .returned (.agg #[.int .i64 f, .slice (some ⟨M, 0, none⟩) P.length P.length]) ∧ AB w.heap.size w' M P.length rs ∧ pals rs = P) ∧ Below w.heap.size w w' := by
  have HR : Hid (RdA w a P) := hr
  have HS : Hid (sumL P ≤ 1048576) := hs
  clear hr hs
  go_enter Try.func51, Try.ntmps51
  go_wp2_with fail
  have hB3 : Below w.heap.size w (((w.alloc (.cells #[.int .i64 f, .slice a P.length cap] 82)).alloc (.cells #[.int .i64 0, .slice none 0 0] 52)).alloc (.cells #[.int .i64 f, .slice none 0 0] 52)) := Alm.below3 w _ _ _
  refine (Alms.to_any a cap P _ (HR.out.below hB3) hl HS.out).mono ?_
  rintro r w1 ⟨rfl, ⟨cs, g, hC⟩, hb⟩
  have hP : Blk w1 w.heap.size #[.int .i64 f, .slice a P.length cap] 82 := (((Blk.new _ _ _).alloc _).alloc _).grow hb
  have hR : Blk w1 (w.heap.size + 1) #[.int .i64 0, .slice none 0 0] 52 := ((Blk.new_at (by simp)).alloc _).grow hb
  have hO : Blk w1 (w.heap.size + 1 + 1) #[.int .i64 f, .slice none 0 0] 52 := (Blk.new_at (by simp)).grow hb
  have HB : Hid (Below w.heap.size w w1) := grow_on hB3 hb
  have HC : Hid (∃ rs, AB w.heap.size w1 (w.heap.size + 1 + 1 + 1) P.length rs ∧ pals rs = P) := by
    have h := copy_ab (lo := w.heap.size) hC (by simp; omega) hl (fun i hi => Nat.le_trans (sum_nth hi) HS.out)
    have e : (((w.alloc (.cells #[.int .i64 f, .slice a P.length cap] 82)).alloc (.cells #[.int .i64 0, .slice none 0 0] 52)).alloc (.cells #[.int .i64 f, .slice none 0 0] 52)).heap.size = w.heap.size + 1 + 1 + 1 := by simp
    rw [e] at h
    exact h
  have HRR : Hid (Blk w1 (w.heap.size + 1) #[.int .i64 0, .slice none 0 0] 52) := hR
  have HO : Hid (Blk w1 (w.heap.size + 1 + 1) #[.int .i64 f, .slice none 0 0] 52) := hO
  have o0 : w1.cell? ⟨w.heap.size + 1 + 1, 0, none⟩ = some (.int .i64 f) := hO.cell 0
  have o1 : w1.cell? ⟨w.heap.size + 1 + 1, 1, none⟩ = some (.slice none 0 0) := hO.cell 1
  have fo := hO.frozen 1
  have r0 : w1.cell? ⟨w.heap.size + 1, 0, none⟩ = some (.int .i64 0) := hR.cell 0
  have r1 : w1.cell? ⟨w.heap.size + 1, 1, none⟩ = some (.slice none 0 0) := hR.cell 1
  have f0 := hR.frozen 0
  have f1 := hR.frozen 1
  clear hb hC hP hR hO hB3
  go_wp2
  have hs : Blk (((w1.setCell ⟨w.heap.size + 1 + 1, 1, none⟩ (.slice (some ⟨w.heap.size + 1 + 1 + 1, 0, none⟩) P.length P.length)).setCell ⟨w.heap.size + 1, 0, none⟩ (.int .i64 f)).setCell ⟨w.heap.size + 1, 1, none⟩ (.slice (some ⟨w.heap.size + 1 + 1 + 1, 0, none⟩) P.length P.length)) (w.heap.size + 1) #[.int .i64 f, .slice (some ⟨w.heap.size + 1 + 1 + 1, 0, none⟩) P.length P.length] 52 := ((HRR.out.set_other (by show w.heap.size + 1 + 1 ≠ w.heap.size + 1; omega) _).set 0 _).set 1 _
  have s0 := hs.cell 0
  have s1 := hs.cell 1
  refine bodyPost_ret (v := .agg #[.int .i64 f, .slice (some ⟨w.heap.size + 1 + 1 + 1, 0, none⟩) P.length P.length]) (by simp [results, Try.results51, go_sem, s0, s1]) rfl ?_
  obtain ⟨rs, hab, hp⟩ := HC.out
  exact ⟨⟨w.heap.size + 1 + 1 + 1, rs, rfl, ab_set2 (ab_set1 hab HO.out _ _) (HRR.out.set_other (by show w.heap.size + 1 + 1 ≠ w.heap.size + 1; omega) _) _ _, hp⟩, ChnP.set2 (ChnI.set_low HB.out (by omega) _ _) (by omega) _ _⟩

theorem eqC_any (f : Int) (a a' : Option Addr) (cap cap' : Nat) (P : List PAl) (w : World) (hr : RdA w a P) (hr' : RdA w a' P) (hl : P.length ≤ maxLen) (hz : FitsP P) :
    Calls Try.prog 55 #[.agg #[.int .i64 f, .slice a P.length cap], .agg #[.int .i64 f, .slice a' P.length cap']] w fun e w' => e = .returned (.bool true) ∧ Below w.heap.size w w' := by
  have HR : Hid (RdA w a P ∧ RdA w a' P ∧ P.length ≤ maxLen ∧ FitsP P) := ⟨hr, hr', hl, hz⟩
  clear hr hr' hl hz
  go_enter Try.func55, Try.ntmps55
  go_wp2_with fail
  refine (Alms.eq_any a a' cap cap' P _ (HR.out.1.below (Go.Joins.below_alloc2 w _ _)) (HR.out.2.1.below (Go.Joins.below_alloc2 w _ _)) HR.out.2.2.1 HR.out.2.2.2).mono ?_
  rintro r w1 ⟨rfl, hb⟩
  have HB : Hid (Below w.heap.size w w1) := grow_on (Go.Joins.below_alloc2 w _ _) hb
  clear hb
  go_wp2
  go_ret
  exact ⟨rfl, HB.out⟩

theorem cellsC : Try.prog.cellsOf 82 = 2 := by kernel_rfl
theorem fits_left {P : List PAl} {now : Int} {k : Nat} (h : FitsP P) : FitsP (leftTo P now k) := fits_of fun y hy => fits_mem h (List.mem_of_mem_take (List.mem_filter.1 hy).1)
theorem fits_gone {P : List PAl} {now : Int} {k : Nat} (h : FitsP P) : FitsP (goneTo P now k) := fits_of fun y hy => fits_mem h (List.mem_of_mem_take (List.mem_filter.1 hy).1)
theorem drop_sum (P : List PAl) (now : Int) (k : Nat) : sumL (leftTo P now k) + sumL (goneTo P now k) = sumL (P.take k) := by
  unfold leftTo goneTo
  induction P.take k with
  | nil => rfl
  | cons x l ih => cases hq : overB x.e now <;> simp [hq, sumL] <;> omega
end Go.Proofs.Ytcopckbpflmmeab.ChnK
namespace Go.Proofs.Ytcopckbpflmmeab.Chs
open Go.RowKit
open Go.ChangeShapes Go.WideShapes
open Labs LabS Alms AlmS AlmM Over Blk App Rws ChnI ChnC ChnP ChnK
open StrB (retB)

structure PCh where
  f : Int
  P : List PAl
def nthC (C : List PCh) (i : Nat) : PCh := C.getD i ⟨0, []⟩
theorem nthC_eq {C : List PCh} {i : Nat} (h : i < C.length) : nthC C i = C[i] := by unfold nthC; simp [h]
theorem nthC_mem {C : List PCh} {i : Nat} (h : i < C.length) : nthC C i ∈ C := by rw [nthC_eq h]; exact List.getElem_mem _
theorem takeC_up {C : List PCh} {k : Nat} (h : k < C.length) : C.take (k + 1) = C.take k ++ [nthC C k] := by
  rw [nthC_eq h, List.take_succ_eq_append_getElem h]
structure AtC (R : World → Option Addr → List PAl → Prop) (w : World) (b off i : Nat) (x : PCh) (ad : Option Addr) (cap : Nat) : Prop where
  c0 : w.cell? ⟨b, off + i * 2, none⟩ = some (.int .i64 x.f)
  c1 : w.cell? ⟨b, off + i * 2 + 1, none⟩ = some (.slice ad x.P.length cap)
  reads : R w ad x.P
theorem AtC.below {R : World → Option Addr → List PAl → Prop} (hR : Stays R) {w w' : World} {b off i : Nat} {x : PCh} {ad : Option Addr} {cap : Nat} (h : AtC R w b off i x ad cap) (hb : Below w.heap.size w w') (hlt : b < w.heap.size) : AtC R w' b off i x ad cap :=
  ⟨(hb.cell (p := ⟨b, off + i * 2, none⟩) hlt).trans h.c0, (hb.cell (p := ⟨b, off + i * 2 + 1, none⟩) hlt).trans h.c1, hR _ _ _ _ h.reads hb⟩
def RdG (R : World → Option Addr → List PAl → Prop) (w : World) (a : Option Addr) (C : List PCh) : Prop :=
  C = [] ∨ ∃ b off, a = some ⟨b, off, none⟩ ∧ b < w.heap.size ∧ ∀ i, i < C.length → ∃ ad cap, AtC R w b off i (nthC C i) ad cap
theorem RdG.below {R : World → Option Addr → List PAl → Prop} (hR : Stays R) {w w' : World} {a : Option Addr} {C : List PCh} (h : RdG R w a C) (hb : Below w.heap.size w w') : RdG R w' a C := by
  rcases h with h | ⟨b, off, rfl, hlt, hc⟩
  · exact .inl h
  · exact .inr ⟨b, off, rfl, Nat.lt_of_lt_of_le hlt hb.size, fun i hi => by
      obtain ⟨ad, cap, h⟩ := hc i hi
      exact ⟨ad, cap, h.below hR hb hlt⟩⟩
theorem RdG.get {R : World → Option Addr → List PAl → Prop} {w : World} {a : Option Addr} {C : List PCh} (h : RdG R w a C) {i : Nat} (hi : i < C.length) :
    ∃ b off, a = some ⟨b, off, none⟩ ∧ b < w.heap.size ∧ ∃ ad cap, AtC R w b off i (nthC C i) ad cap := by
  rcases h with h | ⟨b, off, e, hb, h⟩
  · rw [h] at hi; simp at hi
  · exact ⟨b, off, e, hb, h i hi⟩
theorem RdG.imp {R R' : World → Option Addr → List PAl → Prop} {w : World} {a : Option Addr} {C : List PCh} (h : RdG R w a C) (hi : ∀ a P, R w a P → R' w a P) : RdG R' w a C := by
  rcases h with h | ⟨b, off, e, hb, h⟩
  · exact .inl h
  · exact .inr ⟨b, off, e, hb, fun i hi' => by obtain ⟨ad, cap, h⟩ := h i hi'; exact ⟨ad, cap, h.c0, h.c1, hi _ _ h.reads⟩⟩
theorem RdG.rd {w : World} {a : Option Addr} {C : List PCh} (h : RdG RdN w a C) : RdG RdA w a C := h.imp fun _ _ h => h.rd
structure FitC (x : PCh) : Prop where
  fb : -9223372036854775808 ≤ x.f ∧ x.f ≤ 9223372036854775807
  len : x.P.length ≤ maxLen
  fits : FitsP x.P
def FitsC (C : List PCh) : Prop := ∀ x ∈ C, FitC x
def sumC : List PCh → Nat
  | [] => 0
  | x :: C => x.P.length + sumL x.P + sumC C
theorem sumC_app (p q : List PCh) : sumC (p ++ q) = sumC p + sumC q := by
  induction p with
  | nil => simp [sumC]
  | cons x p ih => rw [List.cons_append, sumC, ih, sumC]; omega
theorem sumC_up {C : List PCh} {k : Nat} (h : k < C.length) : sumC (C.take (k + 1)) = sumC (C.take k) + (nthC C k).P.length + sumL (nthC C k).P := by
  rw [takeC_up h, sumC_app]; simp [sumC]; omega
theorem sumC_all {C : List PCh} {k : Nat} (h : C.length ≤ k) : sumC (C.take k) = sumC C := by rw [List.take_of_length_le h]
theorem sumC_le (C : List PCh) (k : Nat) : sumC (C.take k) ≤ sumC C := by
  have := sumC_app (C.take k) (C.drop k)
  rw [List.take_append_drop] at this
  omega
theorem sumC_mem {C : List PCh} {x : PCh} (h : x ∈ C) : x.P.length + sumL x.P ≤ sumC C := by
  induction C with
  | nil => simp at h
  | cons y C ih =>
    rw [sumC]
    rcases List.mem_cons.1 h with rfl | h
    · omega
    · have := ih h; omega
theorem sumC_nth {C : List PCh} {k : Nat} (h : k < C.length) : (nthC C k).P.length + sumL (nthC C k).P ≤ sumC C := sumC_mem (nthC_mem h)

set_option maxHeartbeats 800000 in
theorem szS_any (a : Option Addr) (cap : Nat) (C : List PCh) (left : Int) (w : World) (hr : RdG RdA w a C) (hl : C.length ≤ maxLen) (hz : FitsC C) (h0 : 0 ≤ left) (h1 : left ≤ 1048576) :
    Calls Try.prog 28 #[.slice a C.length cap, .int .i64 left] w fun e w' => (∃ n : Int, e = .returned (.int .i64 n) ∧ n ≤ left ∧ (0 ≤ n → n + (C.length : Int) + (sumC C : Int) ≤ left)) ∧ Below w.heap.size w w' := by
  unfold maxLen at hl
  have HR : Hid (RdG RdA w a C) := hr
  have HZ : Hid (FitsC C) := hz
  clear hr hz
  by_cases c : left - (C.length : Int) < 0
  · go_enter Try.func28, Try.ntmps28
    go_wp2
    go_ret
    exact ⟨⟨-1, rfl, by omega, fun h => by omega⟩, Below.refl _ _⟩
  · go_enter Try.func28, Try.ntmps28
    go_wp2
    go_loopw [1, 5] (fun m i w' => ∃ (k : Nat) (x : Int), k ≤ C.length ∧ i = .int .i64 k ∧ m = .int .i64 x ∧ 0 ≤ x ∧ x + (C.length : Int) + (sumC (C.take k) : Int) ≤ left ∧ Below w.heap.size w w') (fun _ i _ => C.length - (intOf i).toNat)
    case atStart => exact ⟨0, _, Nat.zero_le _, rfl, rfl, by omega, by simp [sumC], Below.refl _ _⟩
    case round =>
      obtain ⟨k, x, hk, rfl, rfl, hx0, hx1, hw0⟩ := hrel
      have HB : Hid (Below w.heap.size w wr) := hw0
      have HX : Hid (x + (C.length : Int) + (sumC (C.take k) : Int) ≤ left) := hx1
      have hx2 : x ≤ left := by omega
      clear hw0 hx1
      by_cases hlt : k < C.length
      · have hlt' : (k : Int) < (C.length : Int) := by omega
        obtain ⟨b, off, rfl, hb, ad, cp, hat⟩ := (HR.out.below stays_rd HB.out).get hlt
        have h2 := hat.c0
        have h3 := hat.c1
        have HA : Hid (RdA wr ad (nthC C k).P) := hat.reads
        have HU : Hid (sumC (C.take (k + 1)) = sumC (C.take k) + (nthC C k).P.length + sumL (nthC C k).P) := sumC_up hlt
        clear hat
        go_wp2_with fail
        refine (szC_any _ ad cp _ x _ HA.out (HZ.out _ (nthC_mem hlt)).len (HZ.out _ (nthC_mem hlt)).fits hx0 (by omega)).mono ?_
        rintro e w1 ⟨⟨y, rfl, hy, hyn⟩, hb1⟩
        have HB1 : Hid (Below w.heap.size w w1) := grow_on HB.out hb1
        clear hb1 h2 h3
        by_cases hn : y < 0
        · clear hyn
          go_wp2
          go_ret
          exact ⟨⟨-1, rfl, by omega, fun h => by omega⟩, HB1.out⟩
        · have HY : Hid (y + ((nthC C k).P.length : Int) + (sumL (nthC C k).P : Int) ≤ x) := hyn (by omega)
          clear hyn
          go_wp2
          go_roundw
          case rel => exact ⟨k + 1, y, by omega, by go_num, rfl, by omega, by have h1 := HY.out; have h2 := HX.out; have h3 := HU.out; omega, HB1.out⟩
          case measure => simp [intOf]; omega
      · have hge : ¬ (k : Int) < (C.length : Int) := by omega
        have HE : Hid (sumC (C.take k) = sumC C) := sumC_all (by omega)
        go_wp2
        go_ret
        exact ⟨⟨_, rfl, by omega, fun h => by have h1 := HX.out; have h2 := HE.out; omega⟩, HB.out⟩

theorem szPart_any (hd vr : Int) (a : Option Addr) (cap : Nat) (C : List PCh) (left : Int) (w : World) (hr : RdG RdA w a C) (hl : C.length ≤ maxLen) (hz : FitsC C) (h0 : 0 ≤ left) (h1 : left ≤ 1048576) :
    Calls Try.prog 7 #[.agg #[.int .i64 hd, .int .i64 vr, .slice a C.length cap], .int .i64 left] w fun e w' => (∃ n : Int, e = .returned (.int .i64 n) ∧ n ≤ left ∧ (0 ≤ n → n + (C.length : Int) + (sumC C : Int) ≤ left)) ∧ Below w.heap.size w w' := by
  have HR : Hid (RdG RdA w a C ∧ C.length ≤ maxLen ∧ FitsC C) := ⟨hr, hl, hz⟩
  clear hr hl hz
  go_enter Try.func7, Try.ntmps7
  go_wp2_with fail
  refine (szS_any a cap C left _ (HR.out.1.below stays_rd (Go.Joins.below_alloc1 w _)) HR.out.2.1 HR.out.2.2 h0 h1).mono ?_
  rintro r w1 ⟨⟨n, rfl, hn, hn2⟩, hb⟩
  have HB : Hid (Below w.heap.size w w1) := grow_on (Go.Joins.below_alloc1 w _) hb
  have HN : Hid (0 ≤ n → n + (C.length : Int) + (sumC C : Int) ≤ left) := hn2
  clear hb hn2
  by_cases g : n < 0
  · go_wp2
    go_ret
    exact ⟨⟨-1, rfl, by omega, fun h => by omega⟩, HB.out⟩
  · go_wp2
    go_ret
    exact ⟨⟨_, rfl, hn, HN.out⟩, HB.out⟩

theorem infoC : (Try.prog.info? 52).map (fun i => (i.zero, i.size, i.bytes)) = some (some (.agg #[.int .i64 0, .slice none 0 0]), 2, 32) := by kernel_rfl

structure CRow where
  f : Int
  M : Nat
  c : Nat
  rs : List ARow
def CRow.ch (x : CRow) : PCh := ⟨x.f, pals x.rs⟩
def chs (cs : List CRow) : List PCh := cs.map CRow.ch
def nthR (cs : List CRow) (i : Nat) : CRow := cs.getD i ⟨0, 0, 0, []⟩
theorem nthR_eq {cs : List CRow} {i : Nat} (h : i < cs.length) : nthR cs i = cs[i] := by unfold nthR; simp [h]
theorem nthR_mem {cs : List CRow} {i : Nat} (h : i < cs.length) : nthR cs i ∈ cs := by rw [nthR_eq h]; exact List.getElem_mem _
theorem chs_len (cs : List CRow) : (chs cs).length = cs.length := by simp [chs]
theorem chs_nth {cs : List CRow} {i : Nat} (h : i < cs.length) : nthC (chs cs) i = (nthR cs i).ch := by
  rw [nthC_eq (by rw [chs_len]; exact h), nthR_eq h]
  simp [chs]
theorem chs_app (cs : List CRow) (x : CRow) : chs (cs ++ [x]) = chs cs ++ [x.ch] := by simp [chs]
theorem nthR_app_lt {cs : List CRow} {x : CRow} {i : Nat} (h : i < cs.length) : nthR (cs ++ [x]) i = nthR cs i := by
  rw [nthR_eq (by simp; omega), nthR_eq h, List.getElem_append_left h]
theorem nthR_app_eq (cs : List CRow) (x : CRow) : nthR (cs ++ [x]) cs.length = x := by
  rw [nthR_eq (by simp)]; simp
def Cel (f : Nat → Option Value) (i : Nat) (x : CRow) : Prop := f (i * 2) = some (.int .i64 x.f) ∧ f (i * 2 + 1) = some (.slice (some ⟨x.M, 0, none⟩) x.rs.length x.c)
theorem Cel.congr {f g : Nat → Option Value} {i : Nat} {x : CRow} (h : Cel f i x) (e : ∀ k, i * 2 ≤ k → k < i * 2 + 2 → g k = f k) : Cel g i x :=
  ⟨by rw [e _ (by omega) (by omega)]; exact h.1, by rw [e _ (by omega) (by omega)]; exact h.2⟩
def rowC (x : CRow) : List Value := [.int .i64 x.f, .slice (some ⟨x.M, 0, none⟩) x.rs.length x.c]
theorem rowC_one (x : CRow) : ∀ v ∈ rowC x, v.oneCell' = true := fun v hv => by
  simp only [rowC, List.mem_cons, List.not_mem_nil, or_false] at hv
  rcases hv with rfl | rfl <;> rfl
structure RowsC (lo : Nat) (w : World) (cs : List CRow) : Prop where
  rows : ∀ x ∈ cs, AB lo w x.M x.c x.rs
  ne : cs.Pairwise fun x y => ∀ k, blks x.M x.rs k → ¬ blks y.M y.rs k
theorem RowsC.nil (lo : Nat) (w : World) : RowsC lo w [] := ⟨fun x hx => by simp at hx, List.Pairwise.nil⟩
theorem RowsC.moved {lo : Nat} {w w' : World} {cs : List CRow} (h : RowsC lo w cs) (hm : Moved w w') : RowsC lo w' cs := ⟨fun x hx => ab_moved (h.rows x hx) hm, h.ne⟩
theorem RowsC.grow {lo : Nat} {w w' : World} {cs : List CRow} (h : RowsC lo w cs) (hb : Below w.heap.size w w') : RowsC lo w' cs := h.moved (Moved.of hb)
theorem RowsC.down {lo lo' : Nat} {w : World} {cs : List CRow} (h : RowsC lo w cs) (hl : lo' ≤ lo) : RowsC lo' w cs := ⟨fun x hx => (h.rows x hx).down hl, h.ne⟩
theorem RowsC.app {lo : Nat} {w : World} {cs : List CRow} {x : CRow} (h : RowsC lo w cs) (hx : AB lo w x.M x.c x.rs) (hne : ∀ y ∈ cs, ∀ k, blks y.M y.rs k → ¬ blks x.M x.rs k) : RowsC lo w (cs ++ [x]) := by
  refine ⟨fun y hy => ?_, ?_⟩
  · rcases List.mem_append.1 hy with hy | hy
    · exact h.rows y hy
    · rw [List.mem_singleton.1 hy]; exact hx
  · rw [List.pairwise_append]
    exact ⟨h.ne, List.pairwise_singleton _ _, fun a ha b hb => by rw [List.mem_singleton.1 hb]; exact hne a ha⟩
theorem RowsC.fresh {lo B : Nat} {w w' : World} {cs : List CRow} {x : CRow} (h : RowsC lo w cs) (hx : AB B w' x.M x.c x.rs) (hB : w.heap.size ≤ B) : ∀ y ∈ cs, ∀ k, blks y.M y.rs k → ¬ blks x.M x.rs k := fun y hy k h1 h2 => by
  have := blks_high (h.rows y hy) k h1
  have := blks_low hx k h2
  omega
structure CB (lo : Nat) (w : World) (M c : Nat) (cs : List CRow) : Prop where
  at' : lo ≤ M
  cap : cs.length ≤ c ∧ c ≤ maxLen
  outer : ∃ cur : Array Value, Blk w M cur 52 ∧ cur.size = c * 2 ∧ ∀ i, i < cs.length → Cel (fun k => cur[k]?) i (nthR cs i)
  rows : RowsC lo w cs
theorem CB.grow {lo : Nat} {w w' : World} {M c : Nat} {cs : List CRow} (h : CB lo w M c cs) (hb : Below w.heap.size w w') : CB lo w' M c cs := by
  obtain ⟨cur, h1, h2⟩ := h.outer
  exact ⟨h.at', h.cap, ⟨cur, h1.grow hb, h2⟩, h.rows.grow hb⟩
theorem CB.down {lo lo' : Nat} {w : World} {M c : Nat} {cs : List CRow} (h : CB lo w M c cs) (hl : lo' ≤ lo) : CB lo' w M c cs := ⟨Nat.le_trans hl h.at', h.cap, h.outer, h.rows.down hl⟩
theorem CB.lt {lo : Nat} {w : World} {M c : Nat} {cs : List CRow} (h : CB lo w M c cs) : M < w.heap.size := by
  obtain ⟨cur, h1, _⟩ := h.outer
  exact h1.lt
theorem CB.nil {lo : Nat} {w : World} {M : Nat} (h : Blk w M #[] 52) (hl : lo ≤ M) : CB lo w M 0 [] :=
  ⟨hl, ⟨Nat.le_refl _, by simp [maxLen]⟩, ⟨#[], h, rfl, fun i hi => by simp at hi⟩, RowsC.nil _ _⟩
theorem CB.rn {lo : Nat} {w : World} {M c : Nat} {cs : List CRow} (h : CB lo w M c cs) : RdG RdN w (some ⟨M, 0, none⟩) (chs cs) := by
  obtain ⟨cur, h1, h2, h3⟩ := h.outer
  refine .inr ⟨M, 0, rfl, h1.lt, fun i hi => ?_⟩
  rw [chs_len] at hi
  obtain ⟨c0, c1⟩ := h3 i hi
  refine ⟨some ⟨(nthR cs i).M, 0, none⟩, (nthR cs i).c, ?_⟩
  rw [chs_nth hi]
  exact ⟨by rw [h1.cell, Nat.zero_add]; exact c0, by rw [h1.cell, Nat.zero_add, CRow.ch, pals_len]; exact c1, (h.rows.rows _ (nthR_mem hi)).rd⟩
theorem CB.rd {lo : Nat} {w : World} {M c : Nat} {cs : List CRow} (h : CB lo w M c cs) : RdG RdA w (some ⟨M, 0, none⟩) (chs cs) := h.rn.rd
theorem CB.set {lo : Nat} {w : World} {M c N : Nat} {cs : List CRow} {ds : Array Value} {T : TypeId} (h : CB lo w M c cs) (hN : Blk w N ds T) (hA : T ≠ 68) (hL : T ≠ 94) (hne : N ≠ M) (i : Nat) (v : Value) : CB lo (w.setCell ⟨N, i, none⟩ v) M c cs := by
  obtain ⟨cur, h1, h2⟩ := h.outer
  exact ⟨h.at', h.cap, ⟨cur, h1.set_other hne _, h2⟩, h.rows.moved (Moved.set hN hA hL i v)⟩
theorem CB.own {lo : Nat} {w : World} {M c : Nat} {cs : List CRow} (h : CB lo w M c cs) : ∃ xs : List Value, w.ownsRow lo 52 2 (.slice (some ⟨M, 0, none⟩) cs.length c) cs.length xs ∧ xs.length = cs.length * 2 ∧ ∀ i, i < cs.length → Cel (fun k => xs[k]?) i (nthR cs i) := by
  obtain ⟨cur, h1, h2, h3⟩ := h.outer
  have hc := h.cap
  have hlen : (cur.toList.take (cs.length * 2)).length = cs.length * 2 := by simp; omega
  refine ⟨cur.toList.take (cs.length * 2), ⟨hlen, .inr ⟨M, c, cur, rfl, h.at', h1, hc.1, hc.2, h2, rfl⟩⟩, hlen, fun i hi => ?_⟩
  refine (h3 i hi).congr fun k _ hk => ?_
  show (cur.toList.take _)[k]? = cur[k]?
  rw [List.getElem?_take_of_lt (by omega)]
  simp
theorem CB.app {lo : Nat} {W w' : World} {M c : Nat} {cs : List CRow} {x : CRow} {xs : List Value} {v' : Value} (h : CB lo W M c cs) (hx : AB lo W x.M x.c x.rs) (hne : ∀ y ∈ cs, ∀ k, blks y.M y.rs k → ¬ blks x.M x.rs k) (hl : xs.length = cs.length * 2) (hxs : ∀ i, i < cs.length → Cel (fun k => xs[k]?) i (nthR cs i))
    (hown : w'.ownsRow lo 52 2 v' (cs.length + 1) (xs ++ rowC x)) (hg : W.grownBy w' (some M)) : ∃ M' c', v' = .slice (some ⟨M', 0, none⟩) (cs.length + 1) c' ∧ CB lo w' M' c' (cs ++ [x]) := by
  rcases hown.2 with ⟨_, e⟩ | ⟨g, cap, cur, e, hb, hgb, hc, hm, hz, ht⟩
  · omega
  · obtain ⟨cu0, hcu0, _⟩ := h.outer
    have hmv : Moved W w' := Moved.far hcu0 (by decide) (by decide) hg
    refine ⟨g, cap, e, hb, ⟨by simp; omega, hm⟩, ⟨cur, hgb, hz, fun i hi => ?_⟩, (h.rows.app hx hne).moved hmv⟩
    have at' : ∀ k, k < (cs.length + 1) * 2 → cur[k]? = (xs ++ rowC x)[k]? := fun k hk => by
      rw [← ht, List.getElem?_take_of_lt hk]; simp
    simp at hi
    by_cases hlt : i < cs.length
    · rw [nthR_app_lt hlt]
      refine (hxs i hlt).congr fun k _ hk => ?_
      show cur[k]? = xs[k]?
      rw [at' k (by omega), List.getElem?_append_left (by omega)]
    · have ei : i = cs.length := by omega
      subst ei
      rw [nthR_app_eq]
      have hr : ∀ j, j < 2 → cur[cs.length * 2 + j]? = (rowC x)[j]? := fun j hj => by
        rw [at' _ (by omega), List.getElem?_append_right (by omega), hl]
        congr 1; omega
      exact ⟨hr 0 (by omega), hr 1 (by omega)⟩
def put2C (cs : Array Value) (k : Nat) (x : CRow) : Array Value := (cs.setIfInBounds (k * 2) (.int .i64 x.f)).setIfInBounds (k * 2 + 1) (.slice (some ⟨x.M, 0, none⟩) x.rs.length x.c)
def put2W (w : World) (M k : Nat) (x : CRow) : World := (w.setCell ⟨M, k * 2, none⟩ (.int .i64 x.f)).setCell ⟨M, k * 2 + 1, none⟩ (.slice (some ⟨x.M, 0, none⟩) x.rs.length x.c)
theorem put2_at {cs : Array Value} {k : Nat} {x : CRow} (h : k * 2 + 1 < cs.size) : Cel (fun j => (put2C cs k x)[j]?) k x := by
  unfold put2C
  exact ⟨by show (Array.setIfInBounds _ _ _)[_]? = _; rw [set_ne (by omega), set_at (by omega)], by show (Array.setIfInBounds _ _ _)[_]? = _; rw [set_at (by simp; omega)]⟩
theorem put2_ne {cs : Array Value} {k j : Nat} {x : CRow} (h : j < k * 2 ∨ k * 2 + 2 ≤ j) : (put2C cs k x)[j]? = cs[j]? := by
  unfold put2C
  rw [set_ne (by omega), set_ne (by omega)]
theorem put2_size (cs : Array Value) (k : Nat) (x : CRow) : (put2C cs k x).size = cs.size := by simp [put2C]
theorem put2W_blk {w : World} {M k : Nat} {x : CRow} {cs : Array Value} {T : TypeId} (h : Blk w M cs T) : Blk (put2W w M k x) M (put2C cs k x) T := (h.set _ _).set _ _
theorem put2W_moved {w : World} {M k : Nat} {x : CRow} {cs : Array Value} (h : Blk w M cs 52) : Moved w (put2W w M k x) := (Moved.set h (by decide) (by decide) _ _).trans (Moved.set (h.set _ _) (by decide) (by decide) _ _)
theorem nthR_put {cs : List CRow} {k i : Nat} {x : CRow} (hi : i < cs.length) : nthR (cs.set k x) i = if i = k then x else nthR cs i := by
  rw [nthR_eq (by simpa using hi), nthR_eq hi, List.getElem_set]
  by_cases e : k = i
  · subst e; simp
  · rw [if_neg e, if_neg (fun h => e h.symm)]
theorem CB.put {lo : Nat} {w : World} {M c k : Nat} {cs : List CRow} {x : CRow} (h : CB lo w M c cs) (hk : k < cs.length) (hx : AB lo w x.M x.c x.rs) (hne : ∀ y ∈ cs, ∀ k, blks y.M y.rs k → ¬ blks x.M x.rs k) : CB lo (put2W w M k x) M c (cs.set k x) := by
  obtain ⟨cur, h1, h2, h3⟩ := h.outer
  have hc := h.cap
  have hmv := put2W_moved (k := k) (x := x) h1
  refine ⟨h.at', by simpa using hc, ⟨put2C cur k x, put2W_blk h1, by rw [put2_size]; exact h2, fun i hi => ?_⟩, ⟨fun y hy => ?_, ?_⟩⟩
  · rw [List.length_set] at hi
    rw [nthR_put hi]
    by_cases e : i = k
    · subst e
      rw [if_pos rfl]
      exact put2_at (by omega)
    · rw [if_neg e]
      exact (h3 i hi).congr fun j h0 h1 => put2_ne (by omega)
  · rcases List.mem_or_eq_of_mem_set hy with hy | hy
    · exact ab_moved (h.rows.rows y hy) hmv
    · subst hy; exact ab_moved hx hmv
  · have hp := h.rows.ne
    rw [List.pairwise_iff_getElem] at hp ⊢
    intro i j hi hj hij
    simp only [List.length_set] at hi hj
    rw [List.getElem_set, List.getElem_set]
    by_cases e1 : k = i
    · rw [if_pos e1, if_neg (by omega)]
      exact fun q h1 h2 => hne _ (List.getElem_mem hj) q h2 h1
    · rw [if_neg e1]
      by_cases e2 : k = j
      · rw [if_pos e2]; exact hne _ (List.getElem_mem hi)
      · rw [if_neg e2]; exact hp i j hi hj hij

structure FillC (lo : Nat) (w : World) (M : Nat) (C : List PCh) (k : Nat) (cur : Array Value) (cs : List CRow) : Prop where
  blk : Blk w M cur 52
  size : cur.size = C.length * 2
  len : cs.length = k
  ch : chs cs = C.take k
  cell : ∀ i, i < k → Cel (fun j => cur[j]?) i (nthR cs i)
  rows : RowsC lo w cs
theorem FillC.grow {lo : Nat} {w w' : World} {M : Nat} {C : List PCh} {k : Nat} {cur : Array Value} {cs : List CRow} (h : FillC lo w M C k cur cs) (hb : Below w.heap.size w w') : FillC lo w' M C k cur cs :=
  ⟨h.blk.grow hb, h.size, h.len, h.ch, h.cell, h.rows.grow hb⟩
theorem FillC.next {lo : Nat} {w : World} {M : Nat} {C : List PCh} {k : Nat} {cur : Array Value} {cs : List CRow} {x : CRow} (h : FillC lo w M C k cur cs) (hk : k < C.length) (hx : AB lo w x.M x.c x.rs) (hp : x.ch = nthC C k) (hne : ∀ y ∈ cs, ∀ k, blks y.M y.rs k → ¬ blks x.M x.rs k) :
    FillC lo (put2W w M k x) M C (k + 1) (put2C cur k x) (cs ++ [x]) := by
  have hl := h.len
  have hs := h.size
  refine ⟨put2W_blk h.blk, by rw [put2_size]; exact hs, by simp [hl], by rw [chs_app, h.ch, takeC_up hk, hp], fun i hi => ?_, (h.rows.app hx hne).moved (put2W_moved h.blk)⟩
  by_cases e : i < k
  · rw [nthR_app_lt (by omega)]
    exact (h.cell i e).congr fun j h0 h1 => put2_ne (by omega)
  · have : i = cs.length := by omega
    subst this
    rw [nthR_app_eq, hl]
    exact put2_at (by omega)
theorem FillC.cb {lo : Nat} {w : World} {M : Nat} {C : List PCh} {cur : Array Value} {cs : List CRow} (h : FillC lo w M C C.length cur cs) (hlo : lo ≤ M) (hl : C.length ≤ 1048576) : CB lo w M C.length cs ∧ chs cs = C :=
  ⟨⟨hlo, ⟨by rw [h.len]; exact Nat.le_refl _, by unfold maxLen; omega⟩, ⟨cur, h.blk, h.size, fun i hi => h.cell i (by rw [← h.len]; exact hi)⟩, h.rows⟩, by rw [h.ch]; exact List.take_length⟩

set_option maxHeartbeats 1600000 in
theorem toS_any (a : Option Addr) (cap : Nat) (C : List PCh) (w : World) (hr : RdG RdA w a C) (hl : C.length ≤ 1048576) (hs : sumC C ≤ 1048576) :
    Calls Try.prog 30 #[.slice a C.length cap] w fun e w' => e = .returned (.slice (some ⟨w.heap.size, 0, none⟩) C.length C.length) ∧ (∃ cs, CB w.heap.size w' w.heap.size C.length cs ∧ chs cs = C) ∧ Below w.heap.size w w' := by
  have HR : Hid (RdG RdA w a C) := hr
  have HS : Hid (sumC C ≤ 1048576) := hs
  clear hr hs
  have hmk := make_k (P := Try.prog) 26 52 (.agg #[.int .i64 0, .slice none 0 0]) 2 32 Try.underlying26 infoC .i64 .i64 C.length (by omega) (by omega)
  go_enter Try.func30, Try.ntmps30
  go_wp2
  go_loopw [4] (fun i w' => ∃ (k : Nat) (cur : Array Value) (cs : List CRow), k ≤ C.length ∧ i = .int .i64 k ∧ FillC w.heap.size w' w.heap.size C k cur cs ∧ Below w.heap.size w w') (fun i _ => C.length - (intOf i).toNat)
  case atStart => exact ⟨0, _, [], Nat.zero_le _, rfl, ⟨Blk.new _ _ _, by simp [size_madeCells], rfl, rfl, fun i h => by omega, RowsC.nil _ _⟩, (Below.refl _ _).alloc (Nat.le_refl _) _⟩
  case round =>
    clear hmk
    obtain ⟨k, cur, cs, hk, rfl, hC, hw0⟩ := hrel
    have HB : Hid (Below w.heap.size w wr) := hw0
    have HC : Hid (FillC w.heap.size wr w.heap.size C k cur cs) := hC
    clear hC hw0
    by_cases hlt : k < C.length
    · have hlt' : (k : Int) < (C.length : Int) := by omega
      obtain ⟨b, off, rfl, hb, ad, cp, hat⟩ := (HR.out.below stays_rd HB.out).get hlt
      have h2 := hat.c0
      have h3 := hat.c1
      have HA : Hid (RdA wr ad (nthC C k).P) := hat.reads
      have HS1 : Hid ((nthC C k).P.length ≤ 1048576 ∧ sumL (nthC C k).P ≤ 1048576) := by have := sumC_nth hlt; have := HS.out; constructor <;> omega
      clear hat
      go_wp2_with fail
      refine (toC_any _ ad cp _ _ HA.out HS1.out.1 HS1.out.2).mono ?_
      rintro e w1 ⟨⟨M1, rs, rfl, hab, hp⟩, hb1⟩
      have HB1 : Hid (Below w.heap.size w w1) := grow_on HB.out hb1
      have hC1 : FillC w.heap.size w1 w.heap.size C k cur cs := HC.out.grow hb1
      have hrl : rs.length = (nthC C k).P.length := by rw [← pals_len, hp]
      have HN := hC1.next (x := ⟨(nthC C k).f, M1, (nthC C k).P.length, rs⟩) hlt (hab.down HB.out.size) (by unfold CRow.ch; rw [hp]) (HC.out.rows.fresh (x := ⟨(nthC C k).f, M1, (nthC C k).P.length, rs⟩) hab (Nat.le_refl _))
      unfold put2W put2C at HN
      rw [hrl] at HN
      have HC2 : Hid _ := HN
      have hsz := hC1.size
      obtain ⟨v0, c0⟩ : ∃ v, w1.cell? ⟨w.heap.size, k * 2, none⟩ = some v := ⟨cur[k * 2]'(by omega), by rw [hC1.blk.cell]; simp⟩
      obtain ⟨v1, c1⟩ : ∃ v, w1.cell? ⟨w.heap.size, k * 2 + 1, none⟩ = some v := ⟨cur[k * 2 + 1]'(by omega), by rw [hC1.blk.cell]; simp⟩
      have f0 := hC1.blk.frozen (k * 2)
      have f1 := hC1.blk.frozen (k * 2 + 1)
      clear hb1 h2 h3 hC1 hsz HN hab hp hrl
      go_wp2
      go_roundw
      case rel => exact ⟨k + 1, _, _, by omega, by go_num, HC2.out, (HB1.out.setCell (Nat.le_refl _) _).setCell (Nat.le_refl _) _⟩
      case measure => simp [intOf]; omega
    · have hge : ¬ (k : Int) < (C.length : Int) := by omega
      have HE : Hid (k = C.length) := by show k = C.length; omega
      go_wp2
      go_ret
      have hF := HC.out
      rw [HE.out] at hF
      exact ⟨rfl, ⟨cs, (hF.cb (Nat.le_refl _) hl).1, (hF.cb (Nat.le_refl _) hl).2⟩, HB.out⟩
end Go.Proofs.Ytcopckbpflmmeab.Chs
namespace Go.Proofs.Ytcopckbpflmmeab.Prt
open Go.RowKit
open Go.ChangeShapes Go.WideShapes
open Labs LabS Alms AlmS AlmM Over Blk App Rws ChnI ChnC ChnP ChnK Chs
open StrB (retB)

set_option maxHeartbeats 800000 in
theorem eqS_any (a a' : Option Addr) (cap cap' : Nat) (C : List PCh) (w : World) (hr : RdG RdA w a C) (hr' : RdG RdA w a' C) (hl : C.length ≤ maxLen) (hz : FitsC C) :
    Calls Try.prog 34 #[.slice a C.length cap, .slice a' C.length cap'] w fun e w' => e = .returned (.bool true) ∧ Below w.heap.size w w' := by
  unfold maxLen at hl
  have HR : Hid (RdG RdA w a C) := hr
  have HR' : Hid (RdG RdA w a' C) := hr'
  have HZ : Hid (FitsC C) := hz
  clear hr hr' hz
  go_enter Try.func34, Try.ntmps34
  go_wp2
  go_loopw [5] (fun i w' => ∃ k : Nat, i = .int .i64 k ∧ k ≤ C.length ∧ Below w.heap.size w w') (fun i _ => C.length - (intOf i).toNat)
  case atStart => exact ⟨0, rfl, Nat.zero_le _, Below.refl _ _⟩
  case round =>
    obtain ⟨k, rfl, hk, hw0⟩ := hrel
    have HB : Hid (Below w.heap.size w wr) := hw0
    clear hw0
    by_cases hlt : k < C.length
    · have hlt' : (k : Int) < (C.length : Int) := by omega
      obtain ⟨b, off, rfl, hb, ad, cp, hat⟩ := (HR.out.below stays_rd HB.out).get hlt
      obtain ⟨b', off', rfl, hb', ad', cp', hat'⟩ := (HR'.out.below stays_rd HB.out).get hlt
      have hne := Grown.some wr
      have x0 := fun x : Grown wr => x.cell hb hat.c0
      have x1 := fun x : Grown wr => x.cell hb hat.c1
      have y0 := fun x : Grown wr => x.cell hb' hat'.c0
      have y1 := fun x : Grown wr => x.cell hb' hat'.c1
      have HC : ∀ x : Grown wr, Hid (Calls Try.prog 55 #[.agg #[.int .i64 (nthC C k).f, .slice ad (nthC C k).P.length cp], .agg #[.int .i64 (nthC C k).f, .slice ad' (nthC C k).P.length cp']] x.out fun e w' => e = .returned (.bool true) ∧ Below x.out.heap.size x.out w') := fun x => eqC_any _ ad ad' cp cp' _ x.out (hat.reads.below x.bel) (hat'.reads.below x.bel) (HZ.out _ (nthC_mem hlt)).len (HZ.out _ (nthC_mem hlt)).fits
      clear hat hat'
      go_wp2
      refine wp_over (z := wr) (by kernel_rfl) (by kernel_rfl) (Below.refl _ _) ?_
      repeat (go_big_quiet_step (first | (go_at_call 55; exact call_over (HC _).out)))
      refine wpQuiet_nil ?_
      intro w2 hw2
      have HB2 : Hid (Below w.heap.size w w2) := grow_on HB.out (over_bel hw2)
      clear hw2 hne x0 x1 y0 y1 HC
      go_wp2
      go_roundw
      case rel => exact ⟨k + 1, by go_num, by omega, HB2.out⟩
      case measure => simp [intOf]; omega
    · have hge : ¬ (k : Int) < (C.length : Int) := by omega
      go_wp2
      go_ret
      exact ⟨rfl, HB.out⟩
theorem set3 {B M : Nat} {w w' : World} (h : Below B w w') (hM : B ≤ M) (v0 v1 v2 : Value) : Below B w (((w'.setCell ⟨M, 0, none⟩ v0).setCell ⟨M, 1, none⟩ v1).setCell ⟨M, 2, none⟩ v2) :=
  ((h.setCell hM _).setCell hM _).setCell hM _
theorem put3 {w : World} {M : Nat} {x0 x1 x2 : Value} {T : TypeId} (h : Blk w M #[x0, x1, x2] T) (v0 v1 v2 : Value) : Blk (((w.setCell ⟨M, 0, none⟩ v0).setCell ⟨M, 1, none⟩ v1).setCell ⟨M, 2, none⟩ v2) M #[v0, v1, v2] T :=
  ((h.set 0 v0).set 1 v1).set 2 v2
theorem blkT_ne {w : World} {a b : Nat} {cs ds : Array Value} {T U : TypeId} (h : Blk w a cs T) (k : Blk w b ds U) (hT : T ≠ U) : a ≠ b := fun e => by
  subst e
  unfold Blk at h k
  rw [h] at k
  injection k with k
  injection k with _ k
  exact hT k
theorem CB.set' {lo : Nat} {w : World} {M c N : Nat} {cs : List CRow} {ds : Array Value} (h : CB lo w M c cs) (hN : Blk w N ds 28) (i : Nat) (v : Value) : CB lo (w.setCell ⟨N, i, none⟩ v) M c cs := by
  obtain ⟨cur, h1, h2⟩ := h.outer
  exact CB.set h hN (by decide) (by decide) (blkT_ne hN h1 (by decide)) i v
theorem CB.set3 {lo : Nat} {w : World} {M c N : Nat} {cs : List CRow} {ds : Array Value} (h : CB lo w M c cs) (hN : Blk w N ds 28) (v0 v1 v2 : Value) : CB lo (((w.setCell ⟨N, 0, none⟩ v0).setCell ⟨N, 1, none⟩ v1).setCell ⟨N, 2, none⟩ v2) M c cs :=
  CB.set' (CB.set' (CB.set' h hN 0 v0) (hN.set 0 v0) 1 v1) ((hN.set 0 v0).set 1 v1) 2 v2

set_option maxHeartbeats 800000 in
theorem toPart_any (hd vr : Int) (a : Option Addr) (cap : Nat) (C : List PCh) (w : World) (hr : RdG RdA w a C) (hl : C.length ≤ 1048576) (hs : sumC C ≤ 1048576) :
    Calls Try.prog 9 #[.agg #[.int .i64 hd, .int .i64 vr, .slice a C.length cap]] w fun r w' => (∃ M cs, r = .returned (.agg #[.int .i64 hd, .int .i64 vr, .slice (some ⟨M, 0, none⟩) C.length C.length]) ∧ CB w.heap.size w' M C.length cs ∧ chs cs = C) ∧ Below w.heap.size w w' := by
  have HR : Hid (RdG RdA w a C) := hr
  have HS : Hid (sumC C ≤ 1048576) := hs
  clear hr hs
  go_enter Try.func9, Try.ntmps9
  go_wp2_with fail
  generalize hW : ((w.alloc (.cells #[.int .i64 hd, .int .i64 vr, .slice a C.length cap] 24)).alloc (.cells #[.int .i64 0, .int .i64 0, .slice none 0 0] 28)).alloc (.cells #[.int .i64 hd, .int .i64 vr, .slice none 0 0] 28) = W
  have hB3 : Below w.heap.size w W := by rw [← hW]; exact Alm.below3 w _ _ _
  have hP : Blk W w.heap.size #[.int .i64 hd, .int .i64 vr, .slice a C.length cap] 24 := by rw [← hW]; exact ((Blk.new _ _ _).alloc _).alloc _
  have hR : Blk W (w.heap.size + 1) #[.int .i64 0, .int .i64 0, .slice none 0 0] 28 := by rw [← hW]; exact (Blk.new_at (by simp)).alloc _
  have hO : Blk W (w.heap.size + 1 + 1) #[.int .i64 hd, .int .i64 vr, .slice none 0 0] 28 := by rw [← hW]; exact Blk.new_at (by simp)
  have hSz : W.heap.size = w.heap.size + 1 + 1 + 1 := by rw [← hW]; simp
  clear hW
  refine (toS_any a cap C _ (HR.out.below stays_rd hB3) hl HS.out).mono ?_
  rintro r w1 ⟨rfl, ⟨cs, hC, hch⟩, hb⟩
  rw [hSz] at hC ⊢
  have HB : Hid (Below w.heap.size w w1) := grow_on hB3 hb
  have HC : Hid (CB w.heap.size w1 (w.heap.size + 1 + 1 + 1) C.length cs ∧ chs cs = C) := ⟨hC.down (by omega), hch⟩
  have hR1 := hR.grow hb
  have hO1 := hO.grow hb
  have HRR : Hid (Blk w1 (w.heap.size + 1) #[.int .i64 0, .int .i64 0, .slice none 0 0] 28) := hR1
  have HO : Hid (Blk w1 (w.heap.size + 1 + 1) #[.int .i64 hd, .int .i64 vr, .slice none 0 0] 28) := hO1
  have o0 : w1.cell? ⟨w.heap.size + 1 + 1, 0, none⟩ = some (.int .i64 hd) := hO1.cell 0
  have o1 : w1.cell? ⟨w.heap.size + 1 + 1, 1, none⟩ = some (.int .i64 vr) := hO1.cell 1
  have o2 : w1.cell? ⟨w.heap.size + 1 + 1, 2, none⟩ = some (.slice none 0 0) := hO1.cell 2
  have fo := hO1.frozen 2
  have r0 : w1.cell? ⟨w.heap.size + 1, 0, none⟩ = some (.int .i64 0) := hR1.cell 0
  have r1 : w1.cell? ⟨w.heap.size + 1, 1, none⟩ = some (.int .i64 0) := hR1.cell 1
  have r2 : w1.cell? ⟨w.heap.size + 1, 2, none⟩ = some (.slice none 0 0) := hR1.cell 2
  have f0 := hR1.frozen 0
  have f1 := hR1.frozen 1
  have f2 := hR1.frozen 2
  clear hb hC hch hR hO hR1 hO1 hB3 hP hSz
  go_wp2
  have hs := put3 (HRR.out.set_other (p := ⟨w.heap.size + 1 + 1, 2, none⟩) (by show w.heap.size + 1 + 1 ≠ w.heap.size + 1; omega) (.slice (some ⟨w.heap.size + 1 + 1 + 1, 0, none⟩) C.length C.length)) (.int .i64 hd) (.int .i64 vr) (.slice (some ⟨w.heap.size + 1 + 1 + 1, 0, none⟩) C.length C.length)
  have s0 := hs.cell 0
  have s1 := hs.cell 1
  have s2 := hs.cell 2
  refine bodyPost_ret (v := .agg #[.int .i64 hd, .int .i64 vr, .slice (some ⟨w.heap.size + 1 + 1 + 1, 0, none⟩) C.length C.length]) (by simp [results, Try.results9, go_sem, s0, s1, s2]) rfl ?_
  exact ⟨⟨w.heap.size + 1 + 1 + 1, cs, rfl, CB.set3 (CB.set' HC.out.1 HO.out _ _) (HRR.out.set_other (by show w.heap.size + 1 + 1 ≠ w.heap.size + 1; omega) _) _ _ _, HC.out.2⟩, set3 (ChnI.set_low HB.out (by omega) _ _) (by omega) _ _ _⟩

theorem eqPart_any (hd vr : Int) (a a' : Option Addr) (cap cap' : Nat) (C : List PCh) (w : World) (hr : RdG RdA w a C) (hr' : RdG RdA w a' C) (hl : C.length ≤ maxLen) (hz : FitsC C) :
    Calls Try.prog 11 #[.agg #[.int .i64 hd, .int .i64 vr, .slice a C.length cap], .agg #[.int .i64 hd, .int .i64 vr, .slice a' C.length cap']] w fun e w' => e = .returned (.bool true) ∧ Below w.heap.size w w' := by
  have HR : Hid (RdG RdA w a C ∧ RdG RdA w a' C ∧ C.length ≤ maxLen ∧ FitsC C) := ⟨hr, hr', hl, hz⟩
  clear hr hr' hl hz
  go_enter Try.func11, Try.ntmps11
  go_wp2_with fail
  refine (eqS_any a a' cap cap' C _ (HR.out.1.below stays_rd (Go.Joins.below_alloc2 w _ _)) (HR.out.2.1.below stays_rd (Go.Joins.below_alloc2 w _ _)) HR.out.2.2.1 HR.out.2.2.2).mono ?_
  rintro r w1 ⟨rfl, hb⟩
  have HB : Hid (Below w.heap.size w w1) := grow_on (Go.Joins.below_alloc2 w _ _) hb
  clear hb
  go_wp2
  go_ret
  exact ⟨rfl, HB.out⟩

set_option maxRecDepth 100000 in
theorem open_chains {H : Type} {enc : TypeId × Value → H} {W : World} {base : Nat} {spare : Nat → Bool} {held : Bool} {a : Option Addr} {len cap : Nat} {d : DataW H} {p : List MemPlace}
    (h : DataW.Trod enc Try.prog W base spare held 22 (.slice a len cap) d p) : ∃ C : List PCh, len = C.length ∧ RdG RdA W a C ∧ C.length ≤ maxLen ∧ FitsC C := by
  obtain ⟨fuel, hf⟩ := h
  rcases Go.Deep.open_slice Try.underlying22 (by simpa [Value.cells] using hf) with ⟨hcs, _⟩ | ⟨x, l, c, m, n, D, Pl, hcs, _, hl, hm, hmm, _, hx⟩
  · simp at hcs
    obtain ⟨rfl, rfl, rfl⟩ := hcs
    exact ⟨[], rfl, .inl rfl, by simp, fun i hi => by simp at hi⟩
  · simp at hcs
    obtain ⟨rfl, rfl, rfl⟩ := hcs
    have hlm : len ≤ m := by rw [hmm]; split <;> omega
    have each : ∀ i, i < len → ∃ z : PCh, FitC z ∧ ∃ (ad : Option Addr) (cp : Nat), W.cell? (x.add (i * 2)) = some (.int .i64 z.f) ∧ W.cell? (x.add (i * 2 + 1)) = some (.slice ad z.P.length cp) ∧ RdA W ad z.P := by
      intro i hi
      obtain ⟨cs', h1, h2⟩ := hx i (by omega)
      rw [cellsC] at h1
      obtain ⟨_, hlen, hcell⟩ := World.cells?_some h1
      obtain ⟨xs, k, hk, hxy, _, hxl, hf⟩ := DataW.trod_struct Try.underlying82 h2
      match xs, hxl, cs', hlen with
      | [y0, y1], _, [v0, v1], _ =>
        have k0 : Try.prog.cellsOf 80 = 1 := by kernel_rfl
        have k1 : Try.prog.cellsOf 3 = 1 := by kernel_rfl
        have g0 : DataW.trod enc Try.prog W base spare held k 3 [v0] = some y0 := by have := hf 0 _ rfl; simpa [k1] using this
        have g1 : DataW.trod enc Try.prog W base spare held k 80 [v1] = some y1 := by have := hf 1 _ rfl; simpa [k0] using this
        obtain ⟨s, e0, _, z0⟩ := DataW.trod_int Try.underlying3 g0
        obtain ⟨ad, ln, cp, e1⟩ := Go.Joins.slice_form Try.underlying80 g1
        simp at e0 e1
        subst e0 e1
        obtain ⟨P, rfl, hr, hll, hff⟩ := open_alarms (enc := enc) (W := W) (d := y1.1) (p := y1.2) ⟨k, by simpa [Value.cells] using g1⟩
        have c0 := hcell 0 (by omega)
        have c1 := hcell 1 (by omega)
        rw [Go.Deep.add_add] at c0 c1
        exact ⟨⟨s, P⟩, ⟨Go.bounds_i64 z0, hll, hff⟩, ad, cp, by simpa using c0, by simpa using c1, hr⟩
    have hin : Inhabited PCh := ⟨⟨0, []⟩⟩
    obtain ⟨f, hfz⟩ := Go.Deep.choose_lt each
    have hlen : ((List.range len).map f).length = len := by simp
    have hn : ∀ i, i < len → nthC ((List.range len).map f) i = f i := fun i hi => by rw [nthC_eq (by simpa using hi)]; simp
    refine ⟨(List.range len).map f, hlen.symm, ?_, by omega, fun y hy => ?_⟩
    · by_cases h0 : len = 0
      · left; subst h0; rfl
      · right
        obtain ⟨b, off, spot⟩ := x
        obtain ⟨_, ad, cp, c0, _⟩ := hfz 0 (by omega)
        have hspot : spot = none := by simpa [Addr.add] using World.cell?_spot c0
        subst hspot
        have eb : b < W.heap.size := by
          by_cases hb : b < W.heap.size
          · exact hb
          · have : W.heap[b]? = none := by simp; omega
            simp [World.cell?, Addr.add, this] at c0
        have ea : ∀ i, (⟨b, off, none⟩ : Addr).add i = ⟨b, off + i, none⟩ := fun i => by by_cases h : i = 0 <;> simp [Addr.add, h]
        refine ⟨b, off, rfl, eb, fun i hi => ?_⟩
        rw [hlen] at hi
        obtain ⟨_, ad, cp, c0, c1, hr⟩ := hfz i hi
        rw [ea] at c0 c1
        rw [hn i hi]
        exact ⟨ad, cp, c0, c1, hr⟩
    · obtain ⟨i, hi, rfl⟩ := List.mem_map.1 hy
      exact (hfz i (by simpa using hi)).1
theorem cellsP : Try.prog.cellsOf 24 = 3 := by kernel_rfl
def I64 (x : Int) : Prop := -9223372036854775808 ≤ x ∧ x ≤ 9223372036854775807
set_option maxRecDepth 100000 in
theorem open_part {H : Type} {enc : TypeId × Value → H} {W : World} {base b0 : Nat} {spare : Nat → Bool} {held : Bool} {r : Reach} {v : Value} {d : DataW H} {p : List MemPlace}
    (hv : Value.okWide Try.prog W r b0 24 v) (h : DataW.Trod enc Try.prog W base spare held 24 v d p) :
    ∃ (hd vr : Int) (a : Option Addr) (cap : Nat) (C : List PCh), v = .agg #[.int .i64 hd, .int .i64 vr, .slice a C.length cap] ∧ RdG RdA W a C ∧ C.length ≤ maxLen ∧ FitsC C ∧ I64 hd ∧ I64 vr := by
  obtain ⟨c0, c1, c2, y0, y1, y2, m, rfl, rfl, rfl, hy0, hy1, hy2⟩ := Go.Joins.open_agg3 Try.underlying24 (by kernel_rfl) cellsP hv h
  obtain ⟨a, len, cap, e2⟩ := Go.Joins.slice_form Try.underlying22 hy2
  obtain ⟨f, e0, _, z0⟩ := DataW.trod_int Try.underlying3 hy0
  obtain ⟨g, e1, _, z1⟩ := DataW.trod_int Try.underlying3 hy1
  simp at e0 e1 e2
  subst e0 e1 e2
  obtain ⟨C, rfl, hr, hl, hf⟩ := open_chains (enc := enc) (W := W) (d := y2.1) (p := y2.2) ⟨m, by simpa [Value.cells] using hy2⟩
  exact ⟨f, g, a, cap, C, rfl, hr, hl, hf, Go.bounds_i64 z0, Go.bounds_i64 z1⟩
end Go.Proofs.Ytcopckbpflmmeab.Prt
namespace Go.Proofs.Ytcopckbpflmmeab.PrtM
open Go.RowKit
open Labs LabS Alms AlmM Over Blk App Rws ChnI ChnC ChnP ChnK Chs Prt

def blksC (M : Nat) (cs : List CRow) (k : Nat) : Prop := k = M ∨ ∃ x ∈ cs, blks x.M x.rs k
theorem blksC_low {lo : Nat} {w : World} {M c : Nat} {cs : List CRow} (h : CB lo w M c cs) (k : Nat) (hk : blksC M cs k) : lo ≤ k := by
  rcases hk with rfl | ⟨x, hx, hk⟩
  · exact h.at'
  · exact blks_low (h.rows.rows x hx) k hk
theorem blksC_high {lo : Nat} {w : World} {M c : Nat} {cs : List CRow} (h : CB lo w M c cs) (k : Nat) (hk : blksC M cs k) : k < w.heap.size := by
  rcases hk with rfl | ⟨x, hx, hk⟩
  · exact h.lt
  · exact blks_high (h.rows.rows x hx) k hk
theorem cb_ne {lo : Nat} {w : World} {M M' c : Nat} {cur : Array Value} {rs : List ARow} (hb : Blk w M cur 52) (h : AB lo w M' c rs) : ¬ blks M' rs M := fun hk => by
  rcases hk with e | ⟨x, hx, e⟩
  · obtain ⟨cu, h1, _⟩ := h.outer
    exact blkT_ne hb h1 (by decide) e
  · obtain ⟨_, _, ds, h2, _⟩ := h.rows x hx
    exact blkT_ne hb h2 (by decide) e.symm
theorem cb_only {S : Nat → Prop} {lo : Nat} {w w' : World} {M c : Nat} {cs : List CRow} (h : CB lo w M c cs) (ho : Only S w w') (hn : ∀ k, blksC M cs k → ¬ S k) : CB lo w' M c cs := by
  obtain ⟨cur, h1, h2⟩ := h.outer
  exact ⟨h.at', h.cap, ⟨cur, ho.blk h1 (hn _ (.inl rfl)), h2⟩, ⟨fun x hx => ab_only (h.rows.rows x hx) ho fun k hk => hn k (.inr ⟨x, hx, hk⟩), h.rows.ne⟩⟩
def sumM : List CRow → Nat
  | [] => 0
  | x :: cs => 1 + sumA x.rs + sumM cs
theorem sumM_app (p q : List CRow) : sumM (p ++ q) = sumM p + sumM q := by
  induction p with
  | nil => simp [sumM]
  | cons x p ih => rw [List.cons_append, sumM, ih, sumM]; omega
theorem takeR_up {cs : List CRow} {k : Nat} (h : k < cs.length) : cs.take (k + 1) = cs.take k ++ [nthR cs k] := by rw [nthR_eq h, List.take_succ_eq_append_getElem h]
theorem sumM_up {cs : List CRow} {k : Nat} (h : k < cs.length) : sumM (cs.take (k + 1)) = sumM (cs.take k) + 1 + sumA (nthR cs k).rs := by rw [takeR_up h, sumM_app]; simp [sumM]; omega
theorem sumM_all {cs : List CRow} {k : Nat} (h : cs.length ≤ k) : sumM (cs.take k) = sumM cs := by rw [List.take_of_length_le h]
theorem sumM_le (cs : List CRow) (k : Nat) : sumM (cs.take k) ≤ sumM cs := by
  have := sumM_app (cs.take k) (cs.drop k)
  rw [List.take_append_drop] at this
  omega
theorem sumM_chs (cs : List CRow) : sumM cs ≤ 3 * sumC (chs cs) + cs.length := by
  induction cs with
  | nil => simp [sumM]
  | cons x cs ih =>
    have h1 := sumA_pals x.rs
    have h2 := pals_len x.rs
    have h3 : sumC (chs (x :: cs)) = (pals x.rs).length + sumL (pals x.rs) + sumC (chs cs) := rfl
    rw [h3, sumM]
    simp only [List.length_cons]
    omega
structure MC (w : World) (M : Nat) (cs : List CRow) (k j : Nat) : Prop where
  outer : ∃ cur : Array Value, Blk w M cur 52 ∧ cs.length * 2 ≤ cur.size ∧ (∀ i, i < cs.length → cur[i * 2 + 1]? = some (.slice (some ⟨(nthR cs i).M, 0, none⟩) (nthR cs i).rs.length (nthR cs i).c)) ∧ ∀ i, i < j → cur[i * 2]? = some (.int .i64 ((k + sumM (cs.take i) : Nat) : Int))
  done : ∀ i, i < j → MA w (nthR cs i).M (nthR cs i).rs (k + sumM (cs.take i) + 1) (nthR cs i).rs.length
  todo : ∀ i, j ≤ i → i < cs.length → ∃ lo, AB lo w (nthR cs i).M (nthR cs i).c (nthR cs i).rs
  apart : ∀ x ∈ cs, ¬ blks x.M x.rs M
theorem CB.mc {lo : Nat} {w : World} {M c : Nat} {cs : List CRow} (h : CB lo w M c cs) (k : Nat) : MC w M cs k 0 := by
  obtain ⟨cur, h1, h2, h3⟩ := h.outer
  have hc := h.cap
  exact ⟨⟨cur, h1, by omega, fun i hi => (h3 i hi).2, fun i hi => by omega⟩, fun i hi => by omega, fun i _ hi => ⟨lo, h.rows.rows _ (nthR_mem hi)⟩, fun x hx => cb_ne h1 (h.rows.rows x hx)⟩
theorem MC.only {S : Nat → Prop} {w w' : World} {M : Nat} {cs : List CRow} {k : Nat} (h : MC w M cs k cs.length) (ho : Only S w w') (hn : ∀ k, blksC M cs k → ¬ S k) : MC w' M cs k cs.length := by
  obtain ⟨cur, h1, h2⟩ := h.outer
  exact ⟨⟨cur, ho.blk h1 (hn _ (.inl rfl)), h2⟩, fun i hi => (h.done i hi).only ho fun q hq => hn q (.inr ⟨_, nthR_mem hi, hq⟩), fun i h1 h2 => by omega, h.apart⟩
theorem MC.grow {w w' : World} {M : Nat} {cs : List CRow} {k : Nat} (h : MC w M cs k cs.length) (hb : Below w.heap.size w w') : MC w' M cs k cs.length := h.only (S := fun _ => False) (Only.of hb) (fun _ _ h => h)
theorem ne_rows {cs : List CRow} (h : cs.Pairwise fun x y => ∀ k, blks x.M x.rs k → ¬ blks y.M y.rs k) {i j : Nat} (hi : i < cs.length) (hj : j < cs.length) (hne : i ≠ j) : ∀ k, blks (nthR cs i).M (nthR cs i).rs k → ¬ blks (nthR cs j).M (nthR cs j).rs k := by
  rw [List.pairwise_iff_getElem] at h
  rw [nthR_eq hi, nthR_eq hj]
  rcases Nat.lt_or_gt_of_ne hne with hlt | hlt
  · exact h i j hi hj hlt
  · exact fun k h1 h2 => h j i hj hi hlt k h2 h1

set_option maxHeartbeats 1600000 in
theorem markCS_any (M c k lo cap : Nat) (cs : List CRow) (w : World) (hCB : CB lo w M c cs) (hl : cs.length ≤ 2000000) (hrl : ∀ x ∈ cs, x.rs.length ≤ 2000000) (hk : 1 ≤ k) (hk2 : k + sumM cs ≤ 9000000) :
    Calls Try.prog 36 #[.slice (some ⟨M, 0, none⟩) cs.length cap, .int .i64 k] w fun e w' => e = .returned (.int .i64 ((k + sumM cs : Nat) : Int)) ∧ MC w' M cs k cs.length ∧ Only (blksC M cs) w w' := by
  have HM : Hid (MC w M cs k 0) := CB.mc hCB k
  have HN : Hid ((cs.Pairwise fun x y => ∀ k, blks x.M x.rs k → ¬ blks y.M y.rs k) ∧ k + sumM cs ≤ 9000000 ∧ ∀ x ∈ cs, x.rs.length ≤ 2000000) := ⟨hCB.rows.ne, hk2, hrl⟩
  clear hCB hk2 hrl
  go_enter Try.func36, Try.ntmps36
  go_wp2
  go_loopw [1, 5] (fun x i w' => ∃ j : Nat, j ≤ cs.length ∧ i = .int .i64 j ∧ x = .int .i64 ((k + sumM (cs.take j) : Nat) : Int) ∧ MC w' M cs k j ∧ Only (blksC M cs) w w') (fun _ i _ => cs.length - (intOf i).toNat)
  case atStart => exact ⟨0, Nat.zero_le _, rfl, rfl, HM.out, Only.refl _ _⟩
  case round =>
    obtain ⟨j, hj, rfl, rfl, hm, ha⟩ := hrel
    have HM1 : Hid (MC wr M cs k j) := hm
    have HA : Hid (Only (blksC M cs) w wr) := ha
    clear hm ha
    by_cases hlt : j < cs.length
    · have hlt' : (j : Int) < (cs.length : Int) := by omega
      have HU : Hid (k + sumM (cs.take (j + 1)) = k + sumM (cs.take j) + 1 + sumA (nthR cs j).rs) := by have := sumM_up hlt; show _ = _; omega
      have hzb : k + sumM (cs.take (j + 1)) ≤ 9000000 := by have := sumM_le cs (j + 1); have := HN.out.2.1; omega
      obtain ⟨cur, ho, hos, hc, hdn⟩ := HM1.out.outer
      obtain ⟨lo1, hab⟩ := HM1.out.todo j (Nat.le_refl _) hlt
      have HO : Hid (Blk wr M cur 52 ∧ cs.length * 2 ≤ cur.size ∧ (∀ i, i < cs.length → cur[i * 2 + 1]? = some (.slice (some ⟨(nthR cs i).M, 0, none⟩) (nthR cs i).rs.length (nthR cs i).c)) ∧ ∀ i, i < j → cur[i * 2]? = some (.int .i64 ((k + sumM (cs.take i) : Nat) : Int))) := ⟨ho, hos, hc, hdn⟩
      have HAB : Hid (AB lo1 wr (nthR cs j).M (nthR cs j).c (nthR cs j).rs) := hab
      obtain ⟨v0, p0⟩ : ∃ v, wr.cell? ⟨M, j * 2, none⟩ = some v := ⟨cur[j * 2]'(by omega), by rw [ho.cell]; simp⟩
      have f0 := ho.frozen (j * 2)
      have c1 : wr.cell? ⟨M, j * 2 + 1, none⟩ = some (.slice (some ⟨(nthR cs j).M, 0, none⟩) (nthR cs j).rs.length (nthR cs j).c) := (ho.cell _).trans (hc j hlt)
      generalize hz : k + sumM (cs.take j) = z at *
      have HZ : Hid (k + sumM (cs.take j) = z) := hz
      have hz1 : 1 ≤ z := by omega
      have hz2 : z ≤ 9000000 := by have := HU.out; omega
      clear ho hos hc hdn hab hz
      go_wp2_with fail
      have ez : (z : Int) + 1 = ((z + 1 : Nat) : Int) := by omega
      rw [ez]
      generalize hW : wr.setCell ⟨M, j * 2, none⟩ (.int .i64 z) = W
      have HKW : Hid (Blk W M (cur.setIfInBounds (j * 2) (.int .i64 z)) 52) := by rw [← hW]; exact HO.out.1.set _ _
      have HMW : Hid (Only (fun q => q = M) wr W) := by rw [← hW]; exact (Only.refl (fun q => q = M) wr).set (M := M) rfl _ _
      have HABW : Hid (AB lo1 W (nthR cs j).M (nthR cs j).c (nthR cs j).rs) := ab_only HAB.out HMW.out (fun q hq e => HM1.out.apart _ (nthR_mem hlt) (by rw [← e]; exact hq))
      clear hW p0 c1 f0 ez
      refine (markS_any (nthR cs j).M (nthR cs j).c (z + 1) lo1 _ (nthR cs j).rs W HABW.out (HN.out.2.2 _ (nthR_mem hlt)) (by omega) (by have := HU.out; omega)).mono ?_
      rintro e w2 ⟨rfl, hma, ho2⟩
      have HMA : Hid (MA w2 (nthR cs j).M (nthR cs j).rs (z + 1) (nthR cs j).rs.length) := hma
      have HO2 : Hid (Only (blks (nthR cs j).M (nthR cs j).rs) W w2) := ho2
      have hap := HM1.out.apart _ (nthR_mem hlt)
      have HK2 : Hid (Blk w2 M (cur.setIfInBounds (j * 2) (.int .i64 z)) 52) := ho2.blk HKW.out hap
      have HE : Hid (MC w2 M cs k (j + 1)) := by
        refine ⟨⟨_, HK2.out, by simp; exact HO.out.2.1, fun i hi => ?_, fun i hi => ?_⟩, fun i hi => ?_, fun i hi hl => ?_, HM1.out.apart⟩
        · rw [set_ne (by omega)]; exact HO.out.2.2.1 i hi
        · by_cases e : i = j
          · subst e
            rw [HZ.out, set_at (by have := HO.out.2.1; omega)]
          · rw [set_ne (by omega)]; exact HO.out.2.2.2 i (by omega)
        · by_cases e : i = j
          · subst e
            rw [HZ.out]
            exact HMA.out
          · have h1 := (HM1.out.done i (by omega)).only HMW.out (fun q hq e => HM1.out.apart _ (nthR_mem (i := i) (by omega)) (by rw [← e]; exact hq))
            exact h1.only HO2.out (fun q hq hs => ne_rows HN.out.1 (by omega) hlt e q hq hs)
        · obtain ⟨lo2, h1⟩ := HM1.out.todo i (by omega) hl
          exact ⟨lo2, ab_only (ab_only h1 HMW.out (fun q hq e => HM1.out.apart _ (nthR_mem hl) (by rw [← e]; exact hq))) HO2.out (fun q hq hs => ne_rows HN.out.1 hl hlt (by omega) q hq hs)⟩
      have HA2 : Hid (Only (blksC M cs) w w2) := by
        refine HA.out.trans (Only.trans ?_ ?_ (b := W))
        · exact ⟨HMW.out.os, HMW.out.tape, HMW.out.output, HMW.out.size, fun q hq hn => HMW.out.block q hq (fun e => hn (.inl e))⟩
        · exact ⟨HO2.out.os, HO2.out.tape, HO2.out.output, HO2.out.size, fun q hq hn => HO2.out.block q hq (fun e => hn (.inr ⟨_, nthR_mem hlt, e⟩))⟩
      have HF : Hid (k + sumM (cs.take (j + 1)) = z + 1 + sumA (nthR cs j).rs) := HU.out
      clear hma ho2 hap
      generalize hy : z + 1 + sumA (nthR cs j).rs = y at HF ⊢
      clear hy
      go_wp2
      go_roundw
      case rel => exact ⟨j + 1, by omega, by go_num, by rw [HF.out], HE.out, HA2.out⟩
      case measure => simp [intOf]; omega
    · have hge : ¬ (j : Int) < (cs.length : Int) := by omega
      have HE : Hid (j = cs.length ∧ sumM (cs.take j) = sumM cs) := ⟨by omega, sumM_all (by omega)⟩
      go_wp2
      go_ret
      exact ⟨Mark.retI (by have := HE.out.2; omega), by have := HM1.out; rwa [HE.out.1] at this, HA.out⟩

set_option maxHeartbeats 1600000 in
theorem heldCS_any (M k cap : Nat) (cs : List CRow) (w : World) (hM : MC w M cs k cs.length) (hll : ∀ x ∈ cs, x.rs.length ≤ 2000000 ∧ ∀ y ∈ x.rs, y.2.2.l.length ≤ 1048576) (hl : cs.length ≤ 2000000) (hk : 1 ≤ k) (hk2 : k + sumM cs ≤ 9000000) :
    Calls Try.prog 39 #[.slice (some ⟨M, 0, none⟩) cs.length cap, .int .i64 k] w fun e w' => e = .returned (.int .i64 ((k + sumM cs : Nat) : Int)) ∧ Below w.heap.size w w' := by
  have HS : Hid (k + sumM cs ≤ 9000000 ∧ ∀ x ∈ cs, x.rs.length ≤ 2000000 ∧ ∀ y ∈ x.rs, y.2.2.l.length ≤ 1048576) := ⟨hk2, hll⟩
  have HM : Hid (MC w M cs k cs.length) := hM
  clear hM hll hk2
  go_enter Try.func39, Try.ntmps39
  go_wp2
  go_loopw [1, 5] (fun x i w' => ∃ j : Nat, j ≤ cs.length ∧ i = .int .i64 j ∧ x = .int .i64 ((k + sumM (cs.take j) : Nat) : Int) ∧ Below w.heap.size w w') (fun _ i _ => cs.length - (intOf i).toNat)
  case atStart => exact ⟨0, Nat.zero_le _, rfl, rfl, Below.refl _ _⟩
  case round =>
    obtain ⟨j, hj, rfl, rfl, hb⟩ := hrel
    have HB : Hid (Below w.heap.size w wr) := hb
    have HM1 : Hid (MC wr M cs k cs.length) := HM.out.grow hb
    clear hb
    by_cases hlt : j < cs.length
    · have hlt' : (j : Int) < (cs.length : Int) := by omega
      have HU : Hid (k + sumM (cs.take (j + 1)) = k + sumM (cs.take j) + 1 + sumA (nthR cs j).rs) := by have := sumM_up hlt; show _ = _; omega
      have hzb : k + sumM (cs.take (j + 1)) ≤ 9000000 := by have := sumM_le cs (j + 1); have := HS.out.1; omega
      obtain ⟨cur, ho, hos, hc, hdn⟩ := HM1.out.outer
      have c0 : wr.cell? ⟨M, j * 2, none⟩ = some (.int .i64 ((k + sumM (cs.take j) : Nat) : Int)) := (ho.cell _).trans (hdn j hlt)
      have c1 : wr.cell? ⟨M, j * 2 + 1, none⟩ = some (.slice (some ⟨(nthR cs j).M, 0, none⟩) (nthR cs j).rs.length (nthR cs j).c) := (ho.cell _).trans (hc j hlt)
      have hma := HM1.out.done j hlt
      generalize hz : k + sumM (cs.take j) = z at *
      have hz1 : 1 ≤ z := by omega
      have hz2 : z ≤ 9000000 := by have := HU.out; omega
      have HC : Hid (Calls Try.prog 16 #[.slice (some ⟨(nthR cs j).M, 0, none⟩) (nthR cs j).rs.length (nthR cs j).c, .int .i64 ((z + 1 : Nat) : Int)] wr fun e w' => e = .returned (.int .i64 ((z + 1 + sumA (nthR cs j).rs : Nat) : Int)) ∧ Below wr.heap.size wr w') := heldS_any _ _ _ _ wr hma (HS.out.2 _ (nthR_mem hlt)).2 (HS.out.2 _ (nthR_mem hlt)).1 (by omega) (by have := HU.out; omega)
      clear ho hos hc hdn hma hz
      go_wp2_with fail
      have ez : (z : Int) + 1 = ((z + 1 : Nat) : Int) := by omega
      rw [ez]
      refine HC.out.mono ?_
      rintro e w1 ⟨rfl, hb1⟩
      have HB1 : Hid (Below w.heap.size w w1) := grow_on HB.out hb1
      have HF : Hid (k + sumM (cs.take (j + 1)) = z + 1 + sumA (nthR cs j).rs) := HU.out
      clear hb1 HC c0 c1 ez HU
      generalize hy : z + 1 + sumA (nthR cs j).rs = y at HF ⊢
      clear hy
      have hyn : ¬ (y : Int) < 0 := by omega
      go_wp2
      go_roundw
      case rel => exact ⟨j + 1, by omega, by go_num, by rw [HF.out], HB1.out⟩
      case measure => simp [intOf]; omega
    · have hge : ¬ (j : Int) < (cs.length : Int) := by omega
      have HE : Hid (sumM (cs.take j) = sumM cs) := sumM_all (by omega)
      go_wp2
      go_ret
      exact ⟨Mark.retI (by have := HE.out; omega), HB.out⟩

theorem markPart_any (hd vr : Int) (M c k lo cap : Nat) (cs : List CRow) (w : World) (hCB : CB lo w M c cs) (hl : cs.length ≤ 2000000) (hrl : ∀ x ∈ cs, x.rs.length ≤ 2000000) (hk : 1 ≤ k) (hk2 : k + sumM cs ≤ 9000000) :
    Calls Try.prog 13 #[.agg #[.int .i64 hd, .int .i64 vr, .slice (some ⟨M, 0, none⟩) cs.length cap], .int .i64 k] w fun e w' => e = .returned (.int .i64 ((k + sumM cs : Nat) : Int)) ∧ MC w' M cs k cs.length ∧ Only (blksC M cs) w w' := by
  have HAB : Hid (CB lo w M c cs ∧ ∀ x ∈ cs, x.rs.length ≤ 2000000) := ⟨hCB, hrl⟩
  clear hCB hrl
  go_enter Try.func13, Try.ntmps13
  go_wp2_with fail
  refine (markCS_any M c k lo cap cs _ (HAB.out.1.grow (Go.Joins.below_alloc1 w _)) hl HAB.out.2 hk hk2).mono ?_
  rintro r w1 ⟨rfl, hm, ho⟩
  have H : Hid (MC w1 M cs k cs.length ∧ Only (blksC M cs) w w1) := ⟨hm, Only.ahead (Go.Joins.below_alloc1 w _) ho⟩
  clear hm ho hk2
  generalize hz : k + sumM cs = z
  have HZ : Hid (k + sumM cs = z) := hz
  clear hz
  go_wp2
  go_ret
  exact ⟨Mark.retI (by have := HZ.out; omega), H.out⟩
theorem heldPart_any (hd vr : Int) (M k cap : Nat) (cs : List CRow) (w : World) (hM : MC w M cs k cs.length) (hll : ∀ x ∈ cs, x.rs.length ≤ 2000000 ∧ ∀ y ∈ x.rs, y.2.2.l.length ≤ 1048576) (hl : cs.length ≤ 2000000) (hk : 1 ≤ k) (hk2 : k + sumM cs ≤ 9000000) :
    Calls Try.prog 15 #[.agg #[.int .i64 hd, .int .i64 vr, .slice (some ⟨M, 0, none⟩) cs.length cap], .int .i64 k] w fun e w' => e = .returned (.int .i64 ((k + sumM cs : Nat) : Int)) ∧ Below w.heap.size w w' := by
  have HM : Hid (MC w M cs k cs.length ∧ ∀ x ∈ cs, x.rs.length ≤ 2000000 ∧ ∀ y ∈ x.rs, y.2.2.l.length ≤ 1048576) := ⟨hM, hll⟩
  clear hM hll
  go_enter Try.func15, Try.ntmps15
  go_wp2_with fail
  refine (heldCS_any M k cap cs _ (HM.out.1.grow (Go.Joins.below_alloc1 w _)) HM.out.2 hl hk hk2).mono ?_
  rintro r w1 ⟨rfl, hb⟩
  have H : Hid (Below w.heap.size w w1) := grow_on (Go.Joins.below_alloc1 w _) hb
  clear hb hk2
  generalize hz : k + sumM cs = z
  have HZ : Hid (k + sumM cs = z) := hz
  clear hz
  have hq : ¬ (z : Int) < 0 := by omega
  go_wp2
  go_ret
  exact ⟨Mark.retI (by have := HZ.out; omega), H.out⟩
end Go.Proofs.Ytcopckbpflmmeab.PrtM
namespace Go.Proofs.Ytcopckbpflmmeab.PrtA
open Go.RowKit
open Labs LabS Alms AlmM Over Blk App Rws ChnI ChnC ChnP ChnK ChnT Chs Prt

def SmallA (C : List PCh) : Prop := ∀ x ∈ C, x.P.length ≤ 1048576 ∧ LenM x.P
def flatA : List ARow → List Value
  | [] => []
  | x :: rs => rowV x ++ flatA rs
theorem flatA_len : ∀ rs : List ARow, (flatA rs).length = rs.length * 4
  | [] => rfl
  | x :: rs => by rw [flatA, List.length_append, flatA_len rs]; simp [rowV]; omega
theorem flatA_one : ∀ (rs : List ARow), ∀ v ∈ flatA rs, v.oneCell' = true
  | [], v, hv => by simp [flatA] at hv
  | x :: rs, v, hv => by
    rw [flatA] at hv
    rcases List.mem_append.1 hv with hv | hv
    · exact row_one x v hv
    · exact flatA_one rs v hv
theorem flatA_four : ∀ (rs : List ARow) (i : Nat), i < rs.length → Four (fun k => (flatA rs)[k]?) i (nthA rs i)
  | [], i, h => by simp at h
  | x :: rs, 0, h => by
    have e : nthA (x :: rs) 0 = x := by rw [nthA_eq (by simp)]; simp
    rw [e]
    have hr : ∀ j, j < 4 → (flatA (x :: rs))[0 * 4 + j]? = (rowV x)[j]? := fun j hj => by
      rw [flatA, Nat.zero_mul, Nat.zero_add, List.getElem?_append_left (by simp [rowV]; exact hj)]
    exact ⟨hr 0 (by omega), hr 1 (by omega), hr 2 (by omega), hr 3 (by omega)⟩
  | x :: rs, i + 1, h => by
    have hi : i < rs.length := by simpa using h
    have e : nthA (x :: rs) (i + 1) = nthA rs i := by rw [nthA_eq h, nthA_eq hi]; simp
    rw [e]
    have h4 := flatA_four rs i hi
    have hs : ∀ k, (flatA (x :: rs))[k + 4]? = (flatA rs)[k]? := fun k => by
      rw [flatA, List.getElem?_append_right (by simp [rowV])]
      simp [rowV]
    obtain ⟨h0, h1, h2, h3⟩ := h4
    refine ⟨?_, ?_, ?_, ?_⟩
    · show (flatA (x :: rs))[(i + 1) * 4]? = _
      have q : (i + 1) * 4 = i * 4 + 4 := by omega
      rw [q, hs]; exact h0
    · show (flatA (x :: rs))[(i + 1) * 4 + 1]? = _
      have q : (i + 1) * 4 + 1 = i * 4 + 1 + 4 := by omega
      rw [q, hs]; exact h1
    · show (flatA (x :: rs))[(i + 1) * 4 + 2]? = _
      have q : (i + 1) * 4 + 2 = i * 4 + 2 + 4 := by omega
      rw [q, hs]; exact h2
    · show (flatA (x :: rs))[(i + 1) * 4 + 3]? = _
      have q : (i + 1) * 4 + 3 = i * 4 + 3 + 4 := by omega
      rw [q, hs]; exact h3
theorem flatA_news {lo : Nat} {w : World} {M c : Nat} {rs : List ARow} (h : AB lo w M c rs) : ∀ j u, (flatA rs)[j]? = some u → w.cell? ((⟨M, 0, none⟩ : Addr).add j) = some u := fun j u hj => by
  obtain ⟨cur, h1, h2, h3⟩ := h.outer
  have hlt : j < rs.length * 4 := by
    have := (List.getElem?_eq_some_iff.1 hj).1
    rwa [flatA_len] at this
  have ea : (⟨M, 0, none⟩ : Addr).add j = ⟨M, j, none⟩ := by by_cases h : j = 0 <;> simp [Addr.add, h]
  rw [ea, h1.cell, ← hj]
  obtain ⟨i, r, hi, hr, e⟩ : ∃ i r, i < rs.length ∧ r < 4 ∧ j = i * 4 + r := ⟨j / 4, j % 4, by omega, Nat.mod_lt _ (by omega), by omega⟩
  obtain ⟨a0, a1, a2, a3⟩ := h3 i hi
  obtain ⟨b0, b1, b2, b3⟩ := flatA_four rs i hi
  subst e
  match r, hr with
  | 0, _ => exact a0.trans b0.symm
  | 1, _ => exact a1.trans b1.symm
  | 2, _ => exact a2.trans b2.symm
  | 3, _ => exact a3.trans b3.symm
theorem nthA_two_lt {rs qs : List ARow} {i : Nat} (h : i < rs.length) : nthA (rs ++ qs) i = nthA rs i := by
  rw [nthA_eq (by simp; omega), nthA_eq h, List.getElem_append_left h]
theorem nthA_two_ge {rs qs : List ARow} {i : Nat} (h : i < qs.length) : nthA (rs ++ qs) (rs.length + i) = nthA qs i := by
  rw [nthA_eq (by simp; omega), nthA_eq h, List.getElem_append_right (by omega)]
  simp
theorem AB.appAll {lo : Nat} {W w' : World} {M c : Nat} {rs qs : List ARow} {xs : List Value} {v' : Value} (h : AB lo W M c rs) (hq : ∀ x ∈ qs, OwnA lo W x) (hqn : qs.Pairwise fun x y => x.1 ≠ y.1) (hne : ∀ y ∈ rs, ∀ x ∈ qs, y.1 ≠ x.1) (hl : xs.length = rs.length * 4) (hxs : ∀ i, i < rs.length → Four (fun k => xs[k]?) i (nthA rs i))
    (hown : w'.ownsRow lo 68 4 v' (rs.length + qs.length) (xs ++ flatA qs)) (hg : W.grownBy w' (some M)) (hnn : v' ≠ .slice none 0 0) : ∃ M' c', v' = .slice (some ⟨M', 0, none⟩) (rs.length + qs.length) c' ∧ AB lo w' M' c' (rs ++ qs) := by
  rcases hown.2 with ⟨e, _⟩ | ⟨g, cap, cur, e, hb, hgb, hc, hm, hz, ht⟩
  · exact absurd e hnn
  · obtain ⟨cu0, hcu0, _⟩ := h.outer
    have far : ∀ y, OwnA lo W y → OwnA lo w' y := fun y hy => by
      obtain ⟨h0, h1, ds, h2, h3⟩ := hy
      exact ⟨h0, h1, ds, blk_far h2 hg (fun e => blkA_ne hcu0 h2 (Option.some.inj e).symm), h3⟩
    refine ⟨g, cap, e, hb, ⟨by simp; omega, hm⟩, ⟨cur, hgb, hz, fun i hi => ?_⟩, fun y hy => ?_, ?_⟩
    · have at' : ∀ k, k < (rs.length + qs.length) * 4 → cur[k]? = (xs ++ flatA qs)[k]? := fun k hk => by
        rw [← ht, List.getElem?_take_of_lt hk]; simp
      simp at hi
      by_cases hlt : i < rs.length
      · rw [nthA_two_lt hlt]
        refine (hxs i hlt).congr fun k _ hk => ?_
        show cur[k]? = xs[k]?
        rw [at' k (by omega), List.getElem?_append_left (by omega)]
      · obtain ⟨m, rfl⟩ : ∃ m, i = rs.length + m := ⟨i - rs.length, by omega⟩
        have hm' : m < qs.length := by omega
        rw [nthA_two_ge hm']
        have h4 := flatA_four qs m hm'
        have hr : ∀ r, r < 4 → cur[(rs.length + m) * 4 + r]? = (flatA qs)[m * 4 + r]? := fun r hr => by
          rw [at' _ (by omega), List.getElem?_append_right (by omega), hl]
          congr 1; omega
        exact ⟨(hr 0 (by omega)).trans h4.1, (hr 1 (by omega)).trans h4.2.1, (hr 2 (by omega)).trans h4.2.2.1, (hr 3 (by omega)).trans h4.2.2.2⟩
    · rcases List.mem_append.1 hy with hy | hy
      · exact far y (h.rows y hy)
      · exact far y (hq y hy)
    · rw [List.pairwise_append]
      exact ⟨h.ne, hqn, fun a ha b hb => hne a ha b hb⟩
theorem pals_two (rs qs : List ARow) : pals (rs ++ qs) = pals rs ++ pals qs := by simp [pals]
end Go.Proofs.Ytcopckbpflmmeab.PrtA
namespace Go.Proofs.Ytcopckbpflmmeab.PrtW
open Go.RowKit
open Labs LabS Alms AlmM Over Blk App Rws ChnI ChnC ChnP ChnD ChnV ChnK Chs Prt PrtA PrtM

def sweep1 (now : Int) (x : PCh) : Option PCh := if (leftTo x.P now x.P.length).length = 0 then none else some ⟨x.f, leftTo x.P now x.P.length⟩
theorem sweep1_no {now : Int} {x : PCh} (h : (leftTo x.P now x.P.length).length = 0) : sweep1 now x = none := if_pos h
theorem sweep1_yes {now : Int} {x : PCh} (h : ¬ (leftTo x.P now x.P.length).length = 0) : sweep1 now x = some ⟨x.f, leftTo x.P now x.P.length⟩ := if_neg h
def sweepTo (C : List PCh) (now : Int) (k : Nat) : List PCh := (C.take k).filterMap (sweep1 now)
def gonesTo (C : List PCh) (now : Int) (k : Nat) : List PAl := (C.take k).flatMap fun x => goneTo x.P now x.P.length
theorem sweep_no {C : List PCh} {now : Int} {k : Nat} (h : k < C.length) (hv : sweep1 now (nthC C k) = none) : sweepTo C now (k + 1) = sweepTo C now k := by
  unfold sweepTo
  rw [takeC_up h, List.filterMap_append]
  simp [hv]
theorem sweep_yes {C : List PCh} {now : Int} {k : Nat} {x : PCh} (h : k < C.length) (hv : sweep1 now (nthC C k) = some x) : sweepTo C now (k + 1) = sweepTo C now k ++ [x] := by
  unfold sweepTo
  rw [takeC_up h, List.filterMap_append]
  simp [hv]
theorem gones_up {C : List PCh} {now : Int} {k : Nat} (h : k < C.length) : gonesTo C now (k + 1) = gonesTo C now k ++ goneTo (nthC C k).P now (nthC C k).P.length := by
  unfold gonesTo
  rw [takeC_up h, List.flatMap_append]
  simp
theorem left_gone (P : List PAl) (now : Int) : (leftTo P now P.length).length + (goneTo P now P.length).length = P.length ∧ sumL (leftTo P now P.length) + sumL (goneTo P now P.length) = sumL P := by
  have h1 := drop_len P now P.length
  have h2 := drop_sum P now P.length
  rw [List.take_length] at h1 h2
  exact ⟨h1, h2⟩
theorem sweep_sum {C : List PCh} {now : Int} : ∀ {k : Nat}, k ≤ C.length → sumC (sweepTo C now k) + (gonesTo C now k).length + sumL (gonesTo C now k) ≤ sumC (C.take k) ∧ (sweepTo C now k).length ≤ k
  | 0, _ => by simp [sweepTo, gonesTo, sumC, sumL]
  | k + 1, h => by
    have ih := sweep_sum (C := C) (now := now) (k := k) (by omega)
    have h1 := left_gone (nthC C k).P now
    have h2 := sumC_up (C := C) (k := k) (by omega)
    rw [gones_up (by omega), List.length_append, sum_app]
    by_cases e : (leftTo (nthC C k).P now (nthC C k).P.length).length = 0
    · rw [sweep_no (by omega) (sweep1_no e)]
      omega
    · rw [sweep_yes (by omega) (sweep1_yes e), sumC_app, List.length_append]
      simp only [sumC, List.length_cons, List.length_nil]
      omega
theorem sweep_all {C : List PCh} {now : Int} {k : Nat} (h : C.length ≤ k) : sweepTo C now k = sweepTo C now C.length ∧ gonesTo C now k = gonesTo C now C.length := by
  unfold sweepTo gonesTo
  rw [List.take_of_length_le h, List.take_length]
  exact ⟨rfl, rfl⟩
theorem sweep_fit {C : List PCh} {now : Int} {k : Nat} (h : FitsC C) : FitsC (sweepTo C now k) ∧ FitsP (gonesTo C now k) := by
  refine ⟨fun x hx => ?_, fits_of fun x hx => ?_⟩
  · obtain ⟨y, hy, e⟩ := List.mem_filterMap.1 hx
    have hf := h y (List.mem_of_mem_take hy)
    have hle := left_gone y.P now
    by_cases q : (leftTo y.P now y.P.length).length = 0
    · rw [sweep1_no q] at e; cases e
    · rw [sweep1_yes q] at e
      cases e
      exact ⟨hf.fb, by have := hf.len; show (leftTo y.P now y.P.length).length ≤ maxLen; omega, fits_left hf.fits⟩
  · obtain ⟨y, hy, e⟩ := List.mem_flatMap.1 hx
    exact fits_mem (fits_gone (h y (List.mem_of_mem_take hy)).fits) e
theorem ab_far {lo : Nat} {W w' : World} {M c Md : Nat} {rs : List ARow} {cur : Array Value} (h : AB lo W M c rs) (hd : Blk W Md cur 68) (hg : W.grownBy w' (some Md)) (hne : M ≠ Md) : AB lo w' M c rs := by
  obtain ⟨cu, h1, h2⟩ := h.outer
  refine ⟨h.at', h.cap, ⟨cu, blk_far h1 hg (fun e => hne (Option.some.inj e)), h2⟩, fun x hx => ?_, h.ne⟩
  obtain ⟨k0, k1, ds, k2, k3⟩ := h.rows x hx
  exact ⟨k0, k1, ds, blk_far k2 hg (fun e => blkA_ne hd k2 (Option.some.inj e).symm), k3⟩
theorem cb_far {lo : Nat} {W w' : World} {M c Md : Nat} {cs : List CRow} {cur : Array Value} (h : CB lo W M c cs) (hd : Blk W Md cur 68) (hg : W.grownBy w' (some Md)) (hne : ∀ x ∈ cs, x.M ≠ Md) : CB lo w' M c cs := by
  obtain ⟨cu, h1, h2⟩ := h.outer
  exact ⟨h.at', h.cap, ⟨cu, blk_far h1 hg (fun e => blkT_ne h1 hd (by decide) (Option.some.inj e)), h2⟩, ⟨fun x hx => ab_far (h.rows.rows x hx) hd hg (hne x hx), h.rows.ne⟩⟩
theorem ab_out {lo : Nat} {w : World} {M c : Nat} {rs : List ARow} (h : AB lo w M c rs) : ∃ cur : Array Value, Blk w M cur 68 := by
  obtain ⟨cu, h1, _⟩ := h.outer
  exact ⟨cu, h1⟩
def verS (vr : Int) (n : Nat) : Int := if n = 0 then vr else IntKind.i64.wrap (vr + 1)
theorem verS_0 {vr : Int} {n : Nat} (h : n = 0) : verS vr n = vr := if_pos h
theorem verS_1 {vr : Int} {n : Nat} (h : ¬ n = 0) : verS vr n = IntKind.i64.wrap (vr + 1) := if_neg h
theorem at_new {v' : Value} {M W M' n c : Nat} (hat : v'.ownBlock = some M ∨ v'.ownBlock = some W) (e : v' = .slice (some ⟨M', 0, none⟩) n c) : M' = M ∨ M' = W := by
  subst e
  rcases hat with h | h
  · exact .inl (by simpa [Value.ownBlock] using h)
  · exact .inr (by simpa [Value.ownBlock] using h)

structure MidW (w : World) (hd vr : Int) (a : Option Addr) (n cap : Nat) (W : World) (Md cd : Nat) (rs : List ARow) (M c : Nat) (cs : List CRow) : Prop where
  part : Blk W w.heap.size #[.int .i64 hd, .int .i64 vr, .slice a n cap] 28
  res : Blk W (w.heap.size + 1) #[.int .i64 0, .int .i64 0, .slice none 0 0] 28
  out : Blk W (w.heap.size + 3) #[.int .i64 hd, .int .i64 vr, .slice (some ⟨M, 0, none⟩) cs.length c] 28
  gone : AB (w.heap.size + 2) W Md cd rs
  left : CB (w.heap.size + 2) W M c cs
  ne : ∀ x ∈ cs, x.M ≠ Md
  low : Below w.heap.size w W
  size : w.heap.size + 5 ≤ W.heap.size
theorem MidW.grow {w : World} {hd vr : Int} {a : Option Addr} {n cap : Nat} {W W' : World} {Md cd : Nat} {rs : List ARow} {M c : Nat} {cs : List CRow} (h : MidW w hd vr a n cap W Md cd rs M c cs) (hb : Below W.heap.size W W') : MidW w hd vr a n cap W' Md cd rs M c cs :=
  ⟨h.part.grow hb, h.res.grow hb, h.out.grow hb, h.gone.grow hb, h.left.grow hb, h.ne, grow_on h.low hb, Nat.le_trans h.size hb.size⟩
end Go.Proofs.Ytcopckbpflmmeab.PrtW
