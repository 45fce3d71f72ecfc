/-
  PROVED: the queue's take, impl.Tell, spec.Tell, impl.Hear and spec.Hear answer as plain functions on lists say, in memory of their own; nothing that was there is changed.
-/
import Derived.Test.YtdmhccheaemkkabQue
import Derived.Deep.DeepCutAuto
namespace Go.Proofs.Ytdmhccheaemkkab.Tel
open Go.RowKit
open Go.Proofs.Ytdmhccheaemkkab.Labs Go.Proofs.Ytdmhccheaemkkab.LabS Go.Proofs.Ytdmhccheaemkkab.Alms Go.Proofs.Ytdmhccheaemkkab.AlmM Go.Proofs.Ytdmhccheaemkkab.Over Go.Proofs.Ytdmhccheaemkkab.Blk Go.Proofs.Ytdmhccheaemkkab.App Go.Proofs.Ytdmhccheaemkkab.Rws Go.Proofs.Ytdmhccheaemkkab.ChnI Go.Proofs.Ytdmhccheaemkkab.ChnC Go.Proofs.Ytdmhccheaemkkab.ChnT Go.Proofs.Ytdmhccheaemkkab.ChnK Go.Proofs.Ytdmhccheaemkkab.Chs Go.Proofs.Ytdmhccheaemkkab.Que
open Go.Proofs.Ytdmhccheaemkkab.ChnP (set2 own_grow)
set_option linter.unusedVariables false

theorem only_young {S : Nat → Prop} {a w : World} {M : Nat} (h : Only S a w) (hM : a.heap.size ≤ M) (i : Nat) (v : Value) : Only S a (w.setCell ⟨M, i, none⟩ v) :=
  ⟨h.os, h.tape, h.output, by simpa using h.size, fun k hk hn => (Below.heap_setCell _ _ _ _ (by show k ≠ M; omega)).trans (h.block k hk hn)⟩
theorem only_young4 {S : Nat → Prop} {a w : World} {M : Nat} (h : Only S a w) (hM : a.heap.size ≤ M) (v0 v1 v2 v3 : Value) : Only S a ((((w.setCell ⟨M, 0, none⟩ v0).setCell ⟨M, 1, none⟩ v1).setCell ⟨M, 2, none⟩ v2).setCell ⟨M, 3, none⟩ v3) :=
  only_young (only_young (only_young (only_young h hM _ _) hM _ _) hM _ _) hM _ _
/-- what the queue at block N has behind a take -/
def Took (N M c : Nat) (g : Bool) (rs : List ARow) (w : World) : Prop := ∃ o, (o = 4 ∨ (rs = [] ∧ o = 0)) ∧ Blk w N #[.slice (some ⟨M, o, none⟩) rs.length (c - 1), .bool g] 63
theorem ab_low4 {lo : Nat} {w : World} {A M c : Nat} {rs : List ARow} (h : AB lo w M c rs) (hA : A < lo) (v0 v1 v2 v3 : Value) : AB lo ((((w.setCell ⟨A, 0, none⟩ v0).setCell ⟨A, 1, none⟩ v1).setCell ⟨A, 2, none⟩ v2).setCell ⟨A, 3, none⟩ v3) M c rs :=
  DrawC.ab_under (DrawC.ab_under (DrawC.ab_under (DrawC.ab_under h hA _ _) hA _ _) hA _ _) hA _ _
theorem ab_low6 {lo : Nat} {w : World} {M c : Nat} {rs : List ARow} (A B : Nat) (h : AB lo w M c rs) (hA : A < lo) (hB : B < lo) (u0 u1 v0 v1 v2 v3 : Value) : AB lo ((((((w.setCell ⟨A, 0, none⟩ u0).setCell ⟨A, 1, none⟩ u1).setCell ⟨B, 0, none⟩ v0).setCell ⟨B, 1, none⟩ v1).setCell ⟨B, 2, none⟩ v2).setCell ⟨B, 3, none⟩ v3).drew M c rs :=
  (ab_low4 (DrawC.ab_under (DrawC.ab_under h hA _ _) hA _ _) hB _ _ _ _).grow ((Below.refl _ _).drew)
theorem ab_low6' {lo : Nat} {w : World} {M c : Nat} {rs : List ARow} (A B : Nat) (h : AB lo w M c rs) (hA : A < lo) (hB : B < lo) (u0 u1 v0 v1 v2 v3 : Value) : AB lo ((((((w.setCell ⟨A, 0, none⟩ u0).setCell ⟨A, 1, none⟩ u1).setCell ⟨B, 0, none⟩ v0).setCell ⟨B, 1, none⟩ v1).setCell ⟨B, 2, none⟩ v2).setCell ⟨B, 3, none⟩ v3) M c rs :=
  ab_low4 (DrawC.ab_under (DrawC.ab_under h hA _ _) hA _ _) hB _ _ _ _
theorem own_low6 {lo : Nat} {w : World} {x : ARow} (A B : Nat) (h : OwnA lo w x) (hA : A < lo) (hB : B < lo) (u0 u1 v0 v1 v2 v3 : Value) : OwnA lo ((((((w.setCell ⟨A, 0, none⟩ u0).setCell ⟨A, 1, none⟩ u1).setCell ⟨B, 0, none⟩ v0).setCell ⟨B, 1, none⟩ v1).setCell ⟨B, 2, none⟩ v2).setCell ⟨B, 3, none⟩ v3) x := by
  have h1 := h.1
  exact DrawC.own_set (DrawC.own_set (DrawC.own_set (DrawC.own_set (DrawC.own_set (DrawC.own_set h (by omega) _ _) (by omega) _ _) (by omega) _ _) (by omega) _ _) (by omega) _ _) (by omega) _ _
theorem blk2 {w : World} {M N : Nat} {cs : Array Value} {T : TypeId} (h : Blk w N cs T) (hne : M ≠ N) (v0 v1 : Value) : Blk ((w.setCell ⟨M, 0, none⟩ v0).setCell ⟨M, 1, none⟩ v1) N cs T := (h.set_other hne _).set_other hne _
theorem cells4 {w : World} {M : Nat} {v0 v1 v2 v3 : Value} {T : TypeId} (h : Blk w M #[v0, v1, v2, v3] T) : w.cell? ⟨M, 0, none⟩ = some v0 ∧ w.cell? ⟨M, 1, none⟩ = some v1 ∧ w.cell? ⟨M, 2, none⟩ = some v2 ∧ w.cell? ⟨M, 3, none⟩ = some v3 := ⟨h.cell 0, h.cell 1, h.cell 2, h.cell 3⟩
theorem cells2 {w : World} {M : Nat} {v0 v1 : Value} {T : TypeId} (h : Blk w M #[v0, v1] T) : w.cell? ⟨M, 0, none⟩ = some v0 ∧ w.cell? ⟨M, 1, none⟩ = some v1 := ⟨h.cell 0, h.cell 1⟩
set_option maxHeartbeats 1600000 in
theorem implTell_any (a : Option Addr) (cap : Nat) (P : List PAl) (g : Bool) (ax : Option Addr) (cx : Nat) (x : PAl) (w : World) (hr : RdA w a P) (hx : Reads w ax x.l) (hl : P.length ≤ 1048576) (hs : LenM P) (hxl : x.l.length ≤ 1048576) :
    Calls Try.prog 30 #[.agg #[.slice a P.length cap, .bool g], .agg #[.slice ax x.l.length cx, .int .i64 x.s, .int .i64 x.e, .string x.n]] w fun e w' => (∃ M c rs, e = .returned (.agg #[.slice (some ⟨M, 0, none⟩) rs.length c, .bool (tellB P g x).2]) ∧ AB w.heap.size w' M c rs ∧ pals rs = (tellB P g x).1) ∧ Below w.heap.size w w' := by
  have HR : Hid (RdA w a P ∧ Reads w ax x.l) := ⟨hr, hx⟩
  have HS : Hid (LenM P ∧ x.l.length ≤ 1048576) := ⟨hs, hxl⟩
  clear hr hx hs hxl
  go_enter Try.func30, Try.ntmps30
  go_wp2_with fail
  refine (queueOf_any a cap P g _ (HR.out.1.below (Alm.below3 w _ _ _)) hl HS.out.1).mono ?_
  rintro e w1 ⟨⟨M, rs, rfl, hab, hp⟩, hb⟩
  have A1 : Hid (Blk w1 (w.heap.size + 1) #[.slice ax x.l.length cx, .int .i64 x.s, .int .i64 x.e, .string x.n] 33) := ((Blk.new_at (by simp)).alloc _).grow hb
  have R1 : Hid (Blk w1 (w.heap.size + 1 + 1) #[.slice none 0 0, .bool false] 49) := (Blk.new_at (by simp)).grow hb
  have HB1 : Hid (Below w.heap.size w w1) := grow_on (Alm.below3 w _ _ _) hb
  have HAB1 : Hid (AB w.heap.size w1 M P.length rs) := hab.down (by simp; omega)
  have HM : Hid (w.heap.size + 5 ≤ M) := by have := hab.at'; simp at this; show _ ≤ _; omega
  have HP : Hid (pals rs = P ∧ rs.length = P.length) := ⟨hp, Que.len_of hp⟩
  clear hb hab hp
  have HC : Hid (∀ y, Below w1.heap.size w1 y → Calls Try.prog 37 #[.agg #[.slice ax x.l.length cx, .int .i64 x.s, .int .i64 x.e, .string x.n]] y fun r w' => (∃ Mx c, r = .returned (.agg #[.slice (some ⟨Mx, 0, none⟩) x.l.length c, .int .i64 x.s, .int .i64 x.e, .string x.n]) ∧ LabR.Own y w' Mx x.l) ∧ Below y.heap.size y w') := fun y hy => copyI_any _ _ _ _ _ _ y (HR.out.2.below (grow_on HB1.out hy)) HS.out.2
  generalize hW1 : w1.alloc (.cells #[.slice (some ⟨M, 0, none⟩) P.length P.length, .bool g] 63) = W1
  have HBW : Hid (Below w1.heap.size w1 W1) := by rw [← hW1]; exact Go.Joins.below_alloc1 w1 _
  have NW : Hid (Blk W1 w1.heap.size #[.slice (some ⟨M, 0, none⟩) rs.length P.length, .bool g] 63) := by rw [← hW1, HP.out.2]; exact Blk.new _ _ _
  obtain ⟨cA0, cA1, cA2, cA3⟩ := cells4 (A1.out.grow HBW.out)
  go_wp2_with fail
  clear hW1
  refine (HC.out _ HBW.out).mono ?_
  rintro e w2 ⟨⟨Mx, cx', rfl, hO⟩, hy⟩
  have HY : Hid (Below w1.heap.size w1 w2) := grow_on HBW.out hy
  have N2 : Hid (Blk w2 w1.heap.size #[.slice (some ⟨M, 0, none⟩) rs.length P.length, .bool g] 63) := NW.out.grow hy
  have HO : Hid (OwnA w.heap.size w2 (Mx, cx', x) ∧ w1.heap.size < Mx) := ⟨(own_of_copy hO HS.out.2).down (Nat.le_trans HB1.out.size HBW.out.size), by have := hO.1; have := NW.out.lt; omega⟩
  have HK : Hid (w.heap.size + 3 ≤ w1.heap.size) := by have := R1.out.lt; show _ ≤ _; omega
  clear hy hO cA0 cA1 cA2 cA3 HC
  go_wp2_with fail
  refine (add_any w.heap.size w1.heap.size M P.length Mx cx' rs g x _ N2.out (HAB1.out.grow HY.out) HO.out.1 (fun y hy => by have := (HAB1.out.rows y hy).lt; have := HO.out.2; omega)).mono ?_
  rintro e w3 ⟨rfl, ⟨M3, c3, rs3, hN3, hA3, hp3⟩, ho⟩
  rw [HP.out.1] at hN3 hp3
  have N3 : Hid (Blk w3 w1.heap.size #[.slice (some ⟨M3, 0, none⟩) rs3.length c3, .bool (tellB P g x).2] 63) := hN3
  have A3 : Hid (AB w.heap.size w3 M3 c3 rs3 ∧ pals rs3 = (tellB P g x).1) := ⟨hA3, hp3⟩
  have R3 : Hid (Blk w3 (w.heap.size + 1 + 1) #[.slice none 0 0, .bool false] 49) := ho.blk (R1.out.grow HY.out) (fun h => by have h1 := HM.out; have h2 := HK.out; rcases h with h | h <;> omega)
  have B3 : Hid (Below w.heap.size w w3) := (grow_on HB1.out HY.out).trans (ho.low (fun k h => by have h1 := HM.out; have h2 := HK.out; rcases h with h | h <;> omega) (grow_on HB1.out HY.out).size)
  clear hN3 hA3 hp3 ho
  obtain ⟨n0, n1⟩ := cells2 N3.out
  obtain ⟨r0, r1⟩ := cells2 R3.out
  have f0 := R3.out.frozen 0
  have f1 := R3.out.frozen 1
  go_wp2
  have hs := (R3.out.set 0 (.slice (some ⟨M3, 0, none⟩) rs3.length c3)).set 1 (.bool (tellB P g x).2)
  obtain ⟨s0, s1⟩ := cells2 (v0 := .slice (some ⟨M3, 0, none⟩) rs3.length c3) (v1 := .bool (tellB P g x).2) hs
  refine bodyPost_ret (v := .agg #[.slice (some ⟨M3, 0, none⟩) rs3.length c3, .bool (tellB P g x).2]) (by simp [results, Try.results30, go_sem, s0, s1]) rfl ?_
  exact ⟨⟨M3, c3, rs3, rfl, Chs.ab_moved A3.out.1 (sub_moved R3.out (by decide) (by decide) _ _), A3.out.2⟩, set2 B3.out (by omega) _ _⟩

/-- a row of alarms of one's own, or none -/
def QO (lo : Nat) (w : World) (a : Option Addr) (c : Nat) (rs : List ARow) : Prop := (a = none ∧ c = 0 ∧ rs = []) ∨ ∃ M, a = some ⟨M, 0, none⟩ ∧ AB lo w M c rs
theorem QO.grow {lo : Nat} {w w' : World} {a : Option Addr} {c : Nat} {rs : List ARow} (h : QO lo w a c rs) (hb : Below w.heap.size w w') : QO lo w' a c rs := h.imp id fun ⟨M, e, k⟩ => ⟨M, e, k.grow hb⟩
theorem QO.down {lo lo' : Nat} {w : World} {a : Option Addr} {c : Nat} {rs : List ARow} (h : QO lo w a c rs) (hl : lo' ≤ lo) : QO lo' w a c rs := h.imp id fun ⟨M, e, k⟩ => ⟨M, e, k.down hl⟩
theorem QO.moved {lo : Nat} {w w' : World} {a : Option Addr} {c : Nat} {rs : List ARow} (h : QO lo w a c rs) (hm : Moved w w') : QO lo w' a c rs := h.imp id fun ⟨M, e, k⟩ => ⟨M, e, Chs.ab_moved k hm⟩
theorem QO.rd {lo : Nat} {w : World} {a : Option Addr} {c : Nat} {rs : List ARow} (h : QO lo w a c rs) : RdN w a (pals rs) := by
  rcases h with ⟨rfl, rfl, rfl⟩ | ⟨M, rfl, h⟩
  · exact .inl rfl
  · exact h.rd
theorem QO.cap {lo : Nat} {w : World} {a : Option Addr} {c : Nat} {rs : List ARow} (h : QO lo w a c rs) : rs.length ≤ c ∧ c ≤ maxLen := by
  rcases h with ⟨rfl, rfl, rfl⟩ | ⟨M, rfl, h⟩
  · exact ⟨Nat.le_refl _, by simp [maxLen]⟩
  · exact h.cap
set_option maxRecDepth 100000 in
set_option maxHeartbeats 1600000 in
theorem specTell_any (a : Option Addr) (cap : Nat) (P : List PAl) (g : Bool) (gx ox cx : Nat) (x : PAl) (w : World) (hr : RdN w a P) (hx : Reads w (some ⟨gx, ox, none⟩) x.l) (hl : P.length ≤ 1048576) (hs : LenM P) (hxl : x.l.length ≤ 1048576) :
    Calls Try.prog 28 #[.agg #[.slice a P.length cap, .bool g], .agg #[.slice (some ⟨gx, ox, none⟩) x.l.length cx, .int .i64 x.s, .int .i64 x.e, .string x.n]] w fun e w' => (∃ a' c rs, e = .returned (.agg #[.slice a' rs.length c, .bool (tellB P g x).2]) ∧ QO w.heap.size w' a' c rs ∧ pals rs = (tellB P g x).1) ∧ Below w.heap.size w w' := by
  have HR : Hid (RdN w a P ∧ Reads w (some ⟨gx, ox, none⟩) x.l) := ⟨hr, hx⟩
  have HS : Hid (LenM P ∧ x.l.length ≤ 1048576) := ⟨hs, hxl⟩
  clear hr hx hs hxl
  go_enter Try.func28, Try.ntmps28
  go_wp2_with fail
  refine (l9Copy_any a cap P g _ (HR.out.1.below (Alm.below3 w _ _ _)) hl HS.out.1).mono ?_
  rintro e w1 ⟨⟨M, c, rs, rfl, hab, hp⟩, hb⟩
  have S1 : Hid (Blk w1 w.heap.size #[.slice a P.length cap, .bool g] 49) := (((Blk.new _ _ _).alloc _).alloc _).grow hb
  have A1 : Hid (Blk w1 (w.heap.size + 1) #[.slice (some ⟨gx, ox, none⟩) x.l.length cx, .int .i64 x.s, .int .i64 x.e, .string x.n] 33) := ((Blk.new_at (by simp)).alloc _).grow hb
  have R1 : Hid (Blk w1 (w.heap.size + 1 + 1) #[.slice none 0 0, .bool false] 49) := (Blk.new_at (by simp)).grow hb
  have HB1 : Hid (Below w.heap.size w w1) := grow_on (Alm.below3 w _ _ _) hb
  have HAB1 : Hid (AB w.heap.size w1 M c rs) := hab.down (by simp; omega)
  have HM : Hid (w.heap.size + 5 ≤ M) := by have := hab.at'; simp at this; show _ ≤ _; omega
  have HP : Hid (pals rs = P ∧ rs.length = P.length) := ⟨hp, Que.len_of hp⟩
  clear hb hab hp
  generalize hW1 : w1.alloc (.cells #[.slice (some ⟨M, 0, none⟩) rs.length c, .bool g] 49) = W1
  have HBW : Hid (Below w1.heap.size w1 W1) := by rw [← hW1]; exact Go.Joins.below_alloc1 w1 _
  have HLW : Hid (w.heap.size + 3 ≤ w1.heap.size) := by have := R1.out.lt; show _ ≤ _; omega
  have NW : Hid (Blk W1 w1.heap.size #[.slice (some ⟨M, 0, none⟩) rs.length c, .bool g] 49) := by rw [← hW1]; exact Blk.new _ _ _
  obtain ⟨cS0, cS1⟩ := cells2 (S1.out.grow HBW.out)
  have HRW : Hid (Blk W1 (w.heap.size + 1 + 1) #[.slice none 0 0, .bool false] 49) := R1.out.grow HBW.out
  obtain ⟨n0, n1⟩ := cells2 NW.out
  obtain ⟨r0, r1⟩ := cells2 HRW.out
  have f0 := HRW.out.frozen 0
  have f1 := HRW.out.frozen 1
  go_upto_region 2 with fail
  clear hW1
  cases g with
  | true =>
    go_wp2
    have hs := (HRW.out.set 0 (.slice (some ⟨M, 0, none⟩) rs.length c)).set 1 (.bool true)
    obtain ⟨s0, s1⟩ := cells2 (v0 := .slice (some ⟨M, 0, none⟩) rs.length c) (v1 := .bool true) hs
    refine bodyPost_ret (v := .agg #[.slice (some ⟨M, 0, none⟩) rs.length c, .bool true]) (by simp [results, Try.results28, go_sem, s0, s1]) rfl ?_
    exact ⟨⟨_, c, rs, rfl, .inr ⟨M, rfl, Chs.ab_moved (HAB1.out.grow HBW.out) (sub_moved HRW.out (by decide) (by decide) _ _)⟩, HP.out.1⟩, set2 (grow_on HB1.out HBW.out) (by omega) _ _⟩
  | false =>
    by_cases h3 : 3 ≤ P.length
    · have h3' : (3 : Int) ≤ (P.length : Int) := by omega
      have HT : Hid (tellB P false x = ([], true)) := tell_full x h3
      go_wp2
      have hs := (HRW.out.set 0 (.slice none 0 0)).set 1 (.bool true)
      obtain ⟨s0, s1⟩ := cells2 (v0 := .slice none 0 0) (v1 := .bool true) hs
      refine bodyPost_ret (v := .agg #[.slice none 0 0, .bool true]) (by simp [results, Try.results28, go_sem, s0, s1]) rfl ?_
      exact ⟨⟨none, 0, [], by rw [HT.out]; rfl, .inl ⟨rfl, rfl, rfl⟩, by rw [HT.out]; rfl⟩, set2 (grow_on HB1.out HBW.out) (by omega) _ _⟩
    · have h3' : (P.length : Int) < 3 := by omega
      have HT : Hid (tellB P false x = (P ++ [x], false)) := tell_room x h3
      obtain ⟨i0, hi, hz0, hz1, hz2⟩ := info_parts infoA
      have HC : Hid (∀ y, Below w1.heap.size w1 y → Calls Try.prog 41 #[.agg #[.slice (some ⟨gx, ox, none⟩) x.l.length cx, .int .i64 x.s, .int .i64 x.e, .string x.n]] y fun r w' => (∃ Mx c, r = .returned (.agg #[.slice (some ⟨Mx, 0, none⟩) x.l.length c, .int .i64 x.s, .int .i64 x.e, .string x.n]) ∧ LabR.Own y w' Mx x.l) ∧ Below y.heap.size y w') := fun y hy => copyS_any _ _ _ _ _ _ _ y (HR.out.2.below (grow_on HB1.out hy)) HS.out.2
      obtain ⟨cA0, cA1, cA2, cA3⟩ := cells4 (A1.out.grow HBW.out)
      go_wp2_with fail
      refine (HC.out _ HBW.out).mono ?_
      rintro e w2 ⟨⟨Mx, cx', rfl, hO⟩, hy⟩
      have HY : Hid (Below w1.heap.size w1 w2) := grow_on HBW.out hy
      have HO : Hid (OwnA w.heap.size w2 (Mx, cx', x) ∧ w1.heap.size < Mx) := ⟨(own_of_copy hO HS.out.2).down (Nat.le_trans HB1.out.size HBW.out.size), by have := hO.1; have := NW.out.lt; omega⟩
      have HB2 : Hid (Below w.heap.size w w2) := grow_on HB1.out HY.out
      have HAB2 : Hid (AB w.heap.size w2 M c rs) := HAB1.out.grow HY.out
      have HU : Hid (∀ o1 o2, Below w2.heap.size w2 ((w2.alloc o1).alloc o2)) := fun o1 o2 => Go.Joins.below_alloc2 w2 o1 o2
      obtain ⟨xs, hox, hxl, hxs⟩ := HAB2.out.own
      have HOX : Hid (∀ o1 o2, ((w2.alloc o1).alloc o2).ownsRow w.heap.size 33 4 (.slice (some ⟨M, 0, none⟩) rs.length c) rs.length xs) := fun o1 o2 => own_grow hox (Go.Joins.below_alloc2 w2 o1 o2)
      have HXS : Hid (xs.length = rs.length * 4 ∧ ∀ i, i < rs.length → Four (fun k => xs[k]?) i (nthA rs i)) := ⟨hxl, hxs⟩
      have NU : Hid (∀ o1 o2, Blk ((w2.alloc o1).alloc o2) w1.heap.size #[.slice (some ⟨M, 0, none⟩) rs.length c, .bool false] 49) := fun o1 o2 => ((NW.out.grow hy).alloc _).alloc _
      have RU : Hid (∀ o1 o2, Blk ((w2.alloc o1).alloc o2) (w.heap.size + 1 + 1) #[.slice none 0 0, .bool false] 49) := fun o1 o2 => ((HRW.out.grow hy).alloc _).alloc _
      have hrl : rs.length ≤ 2 := by have := HP.out.2; omega
      generalize hO1 : Obj.cells #[.slice (some ⟨Mx, 0, none⟩) x.l.length cx', .int .i64 x.s, .int .i64 x.e, .string x.n] 33 = O1
      have m0 : (w2.alloc O1).cell? ⟨w1.heap.size, 0, none⟩ = some (.slice (some ⟨M, 0, none⟩) rs.length c) := ((NW.out.grow hy).alloc _).cell 0
      subst hO1
      have hwlt : w1.heap.size < w2.heap.size := (NW.out.grow hy).lt
      clear hy hO HC hox hxl hxs cA0 cA1 cA2 cA3 n0 n1 r0 r1 f0 f1 cS0 cS1
      go_wp2_with (at_builtin; refine wpList_append_own_at _ rfl _ _ 45 rfl w.heap.size 33 i0 (.agg #[.slice none 0 0, .int .i64 0, .int .i64 0, .string ByteArray.empty]) 4 56 Try.underlying45 hi hz0 hz1 hz2 rfl (by decide) _ _ _ rfl (HOX.out _ _) ⟨w2.heap.size + 1, 0, none⟩ 1 1 (rowV (Mx, cx', x)) rfl rfl ?c1 (row_one _) ?c3 ?c4 ?c5 ?_)
      case c1 => exact blk_news (Blk.new_at (by simp))
      case c3 => unfold maxLen; omega
      case c4 => omega
      case c5 => have := HB2.out.size; simp; omega
      intro v' w3 hown hg hnil hat
      obtain ⟨M3, c3, rfl, hAB3⟩ := (HAB2.out.grow (HU.out _ _)).app (HO.out.1.grow (HU.out _ _)) (fun y hy => by have := (HAB1.out.rows y hy).lt; have := HO.out.2; show y.1 ≠ Mx; omega) HXS.out.1 HXS.out.2 hown hg
      have AB3 : Hid (AB w.heap.size w3 M3 c3 (rs ++ [(Mx, cx', x)])) := hAB3
      have N3 : Hid (Blk w3 w1.heap.size #[.slice (some ⟨M, 0, none⟩) rs.length c, .bool false] 49) := blk_far (NU.out _ _) hg (fun e => by have := HAB1.out.lt; have h : w1.heap.size = M := Option.some.inj e; omega)
      have R3 : Hid (Blk w3 (w.heap.size + 1 + 1) #[.slice none 0 0, .bool false] 49) := blk_far (RU.out _ _) hg (fun e => by have := HM.out; have h : w.heap.size + 1 + 1 = M := Option.some.inj e; omega)
      have B3 : Hid (Below w.heap.size w w3) := (grow_on HB2.out (HU.out _ _)).grown hg (by have := HB2.out.size; simp; omega) (fun k e => by have h : M = k := Option.some.inj e; have := HM.out; omega)
      clear hown hg hnil hat hAB3 m0
      obtain ⟨n0, n1⟩ := cells2 N3.out
      obtain ⟨r0, r1⟩ := cells2 R3.out
      have nf0 := N3.out.frozen 0
      have f0 := R3.out.frozen 0
      have f1 := R3.out.frozen 1
      have hNR : w1.heap.size ≠ w.heap.size + 1 + 1 := by have := HLW.out; omega
      have HE : Hid ((rs ++ [(Mx, cx', x)]).length = rs.length + 1) := by show _ = _; simp
      go_wp2
      have hs := ((R3.out.set_other (p := ⟨w1.heap.size, 0, none⟩) hNR (.slice (some ⟨M3, 0, none⟩) (rs.length + 1) c3)).set 0 (.slice (some ⟨M3, 0, none⟩) (rs.length + 1) c3)).set 1 (.bool false)
      obtain ⟨s0, s1⟩ := cells2 (v0 := .slice (some ⟨M3, 0, none⟩) (rs.length + 1) c3) (v1 := .bool false) hs
      refine bodyPost_ret (v := .agg #[.slice (some ⟨M3, 0, none⟩) (rs.length + 1) c3, .bool false]) (by simp [results, Try.results28, go_sem, s0, s1]) rfl ?_
      exact ⟨⟨_, c3, _, by rw [HT.out, HE.out], .inr ⟨M3, rfl, Chs.ab_moved AB3.out ((Moved.set N3.out (by decide) (by decide) 0 _).trans (sub_moved (R3.out.set_other (p := ⟨w1.heap.size, 0, none⟩) hNR _) (by decide) (by decide) _ _))⟩, by rw [HT.out, pals_app, HP.out.1]⟩, set2 (B3.out.setCell (by have := HLW.out; show _ ≤ w1.heap.size; omega) _) (by omega) _ _⟩


end Go.Proofs.Ytdmhccheaemkkab.Tel
