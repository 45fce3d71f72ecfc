/-
  PROVED: the queue's take, impl.Tell, spec.Tell, impl.Hear and spec.Hear answer as plain functions on lists say, in memory of their own; nothing that was there is changed.
-/
import Derived.Test.YtdmhccheaemkkaaQue
import Derived.Deep.DeepCutAuto
namespace Go.Proofs.Ytdmhccheaemkkaa.Tel
open Go.RowKit
open Go.Proofs.Ytdmhccheaemkkaa.Labs Go.Proofs.Ytdmhccheaemkkaa.LabS Go.Proofs.Ytdmhccheaemkkaa.Alms Go.Proofs.Ytdmhccheaemkkaa.AlmM Go.Proofs.Ytdmhccheaemkkaa.Over Go.Proofs.Ytdmhccheaemkkaa.Blk Go.Proofs.Ytdmhccheaemkkaa.App Go.Proofs.Ytdmhccheaemkkaa.Rws Go.Proofs.Ytdmhccheaemkkaa.ChnI Go.Proofs.Ytdmhccheaemkkaa.ChnC Go.Proofs.Ytdmhccheaemkkaa.ChnT Go.Proofs.Ytdmhccheaemkkaa.ChnK Go.Proofs.Ytdmhccheaemkkaa.Chs Go.Proofs.Ytdmhccheaemkkaa.Que
open Go.Proofs.Ytdmhccheaemkkaa.ChnP (set2 own_grow)
set_option linter.unusedVariables false

set_option maxHeartbeats 800000 in
theorem takeN_any (N M c : Nat) (g : Bool) (w : World) (hN : Blk w N #[.slice (some ⟨M, 0, none⟩) 0 c, .bool g] 69) :
    Calls Try.prog 47 #[.pointer (some ⟨N, 0, none⟩)] w fun e w' => e = .returned (.tuple #[.agg #[.slice none 0 0, .int .i64 0, .int .i64 0, .string ⟨#[]⟩], .bool false]) ∧ Below w.heap.size w w' := by
  generalize hW0 : (w.alloc (.cells #[.slice none 0 0, .int .i64 0, .int .i64 0, .string ⟨#[]⟩] 29)).alloc (.cells #[.slice none 0 0, .int .i64 0, .int .i64 0, .string ⟨#[]⟩] 29) = W0
  have n0 : W0.cell? ⟨N, 0, none⟩ = some (.slice (some ⟨M, 0, none⟩) 0 c) := by rw [← hW0]; exact ((hN.alloc _).alloc _).cell 0
  have HB : Hid (Below w.heap.size w W0) := by rw [← hW0]; exact Go.Joins.below_alloc2 w _ _
  have H0 : Hid (Blk W0 w.heap.size #[.slice none 0 0, .int .i64 0, .int .i64 0, .string ⟨#[]⟩] 29) := by rw [← hW0]; exact (Blk.new _ _ _).alloc _
  have H1 : Hid (Blk W0 (w.heap.size + 1) #[.slice none 0 0, .int .i64 0, .int .i64 0, .string ⟨#[]⟩] 29) := by rw [← hW0]; exact Blk.new_at (by simp)
  go_enter Try.func47, Try.ntmps47
  go_upto_region 2 with fail
  clear hW0 hN
  have r0 := H0.out.cell 0
  have qr0 := H0.out.frozen 0
  have r1 := H0.out.cell 1
  have qr1 := H0.out.frozen 1
  have r2 := H0.out.cell 2
  have qr2 := H0.out.frozen 2
  have r3 := H0.out.cell 3
  have qr3 := H0.out.frozen 3
  have f0 := H1.out.cell 0
  have qf0 := H1.out.frozen 0
  have f1 := H1.out.cell 1
  have qf1 := H1.out.frozen 1
  have f2 := H1.out.cell 2
  have qf2 := H1.out.frozen 2
  have f3 := H1.out.cell 3
  have qf3 := H1.out.frozen 3
  go_wp2
  have hs := Alm.put4 H0.out (.slice none 0 0) (.int .i64 0) (.int .i64 0) (.string ⟨#[]⟩)
  have s0 := hs.cell 0
  have s1 := hs.cell 1
  have s2 := hs.cell 2
  have s3 := hs.cell 3
  refine bodyPost_ret (v := .tuple #[.agg #[.slice none 0 0, .int .i64 0, .int .i64 0, .string ⟨#[]⟩], .bool false]) (by simp [results, Try.results47, go_sem, s0, s1, s2, s3]) rfl ?_
  exact ⟨rfl, Alm.set4 HB.out (Nat.le_refl _) _ _ _ _⟩
theorem only_young {S : Nat → Prop} {a w : World} {M : Nat} (h : Only S a w) (hM : a.heap.size ≤ M) (i : Nat) (v : Value) : Only S a (w.setCell ⟨M, i, none⟩ v) :=
  ⟨h.os, h.tape, h.output, by simpa using h.size, fun k hk hn => (Below.heap_setCell _ _ _ _ (by show k ≠ M; omega)).trans (h.block k hk hn)⟩
theorem only_young4 {S : Nat → Prop} {a w : World} {M : Nat} (h : Only S a w) (hM : a.heap.size ≤ M) (v0 v1 v2 v3 : Value) : Only S a ((((w.setCell ⟨M, 0, none⟩ v0).setCell ⟨M, 1, none⟩ v1).setCell ⟨M, 2, none⟩ v2).setCell ⟨M, 3, none⟩ v3) :=
  only_young (only_young (only_young (only_young h hM _ _) hM _ _) hM _ _) hM _ _
/-- what the queue at block N has behind a take -/
def Took (N M c : Nat) (g : Bool) (rs : List ARow) (w : World) : Prop := ∃ o, (o = 4 ∨ (rs = [] ∧ o = 0)) ∧ Blk w N #[.slice (some ⟨M, o, none⟩) rs.length (c - 1), .bool g] 69
set_option maxHeartbeats 1600000 in
theorem takeC_any (lo N M c : Nat) (g : Bool) (y : ARow) (rs : List ARow) (w : World) (hN : Blk w N #[.slice (some ⟨M, 0, none⟩) (rs.length + 1) c, .bool g] 69) (hA : AB lo w M c (y :: rs)) :
    Calls Try.prog 47 #[.pointer (some ⟨N, 0, none⟩)] w fun e w' => e = .returned (.tuple #[.agg #[.slice (some ⟨y.1, 0, none⟩) y.2.2.l.length y.2.1, .int .i64 y.2.2.s, .int .i64 y.2.2.e, .string y.2.2.n], .bool true]) ∧ Took N M c g rs w' ∧ Only (fun k => k = N) w w' := by
  have hNM : N ≠ M := by obtain ⟨cu, hcu, _⟩ := hA.outer; exact ne_blk hN hcu (by decide)
  generalize hW0 : (w.alloc (.cells #[.slice none 0 0, .int .i64 0, .int .i64 0, .string ⟨#[]⟩] 29)).alloc (.cells #[.slice none 0 0, .int .i64 0, .int .i64 0, .string ⟨#[]⟩] 29) = W0
  have HB : Hid (Below w.heap.size w W0) := by rw [← hW0]; exact Go.Joins.below_alloc2 w _ _
  have H0 : Hid (Blk W0 w.heap.size #[.slice none 0 0, .int .i64 0, .int .i64 0, .string ⟨#[]⟩] 29) := by rw [← hW0]; exact (Blk.new _ _ _).alloc _
  have H1 : Hid (Blk W0 (w.heap.size + 1) #[.slice none 0 0, .int .i64 0, .int .i64 0, .string ⟨#[]⟩] 29) := by rw [← hW0]; exact Blk.new_at (by simp)
  have HN : Hid (Blk W0 N #[.slice (some ⟨M, 0, none⟩) (rs.length + 1) c, .bool g] 69) := hN.grow HB.out
  have n0 := HN.out.cell 0
  have nf := HN.out.frozen 0
  have hNlt := hN.lt
  have hne1 : N ≠ w.heap.size := by omega
  have hne2 : N ≠ w.heap.size + 1 := by omega
  obtain ⟨cur, hcur, hcs, h4⟩ := (hA.grow HB.out).outer
  obtain ⟨y0, y1, y2, y3⟩ := h4 0 (by simp)
  have hcap := hA.cap.1
  simp only [List.length_cons] at hcap
  have a0 : W0.cell? ⟨M, 0, none⟩ = some (.slice (some ⟨y.1, 0, none⟩) y.2.2.l.length y.2.1) := (hcur.cell 0).trans y0
  have a1 : W0.cell? ⟨M, 1, none⟩ = some (.int .i64 y.2.2.s) := (hcur.cell 1).trans y1
  have a2 : W0.cell? ⟨M, 2, none⟩ = some (.int .i64 y.2.2.e) := (hcur.cell 2).trans y2
  have a3 : W0.cell? ⟨M, 3, none⟩ = some (.string y.2.2.n) := (hcur.cell 3).trans y3
  have hc1 : (1 : Int) ≤ (c : Int) := by omega
  have hcr : ((rs.length + 1 : Nat) : Int) ≤ (c : Int) := by omega
  clear hN hA hcur hcs h4 y0 y1 y2 y3
  go_enter Try.func47, Try.ntmps47
  go_upto_region 2 with fail
  clear hW0
  have r0 := H0.out.cell 0
  have qr0 := H0.out.frozen 0
  have r1 := H0.out.cell 1
  have qr1 := H0.out.frozen 1
  have r2 := H0.out.cell 2
  have qr2 := H0.out.frozen 2
  have r3 := H0.out.cell 3
  have qr3 := H0.out.frozen 3
  have f0 := H1.out.cell 0
  have qf0 := H1.out.frozen 0
  have f1 := H1.out.cell 1
  have qf1 := H1.out.frozen 1
  have f2 := H1.out.cell 2
  have qf2 := H1.out.frozen 2
  have f3 := H1.out.cell 3
  have qf3 := H1.out.frozen 3
  have HAll : Hid (Blk W0 w.heap.size #[.slice none 0 0, .int .i64 0, .int .i64 0, .string ⟨#[]⟩] 29 ∧ Blk W0 (w.heap.size + 1) #[.slice none 0 0, .int .i64 0, .int .i64 0, .string ⟨#[]⟩] 29) := ⟨H0.out, H1.out⟩
  have hrs : c = 1 → rs = [] := fun h => List.eq_nil_of_length_eq_zero (by omega)
  have HRS : Hid (c = 1 → rs = []) := hrs
  clear hrs
  by_cases hc : c = 1
  · have hrs := HRS.out hc
    subst hc hrs
    go_wp2
    have hs := Alm.put4 ((Alm.blk4 HAll.out.1 (by show w.heap.size + 1 ≠ w.heap.size; omega) (.slice (some ⟨y.1, 0, none⟩) y.2.2.l.length y.2.1) (.int .i64 y.2.2.s) (.int .i64 y.2.2.e) (.string y.2.2.n)).set_other (p := ⟨N, 0, none⟩) hne1 (.slice (some ⟨M, 0, none⟩) 0 0)) (.slice (some ⟨y.1, 0, none⟩) y.2.2.l.length y.2.1) (.int .i64 y.2.2.s) (.int .i64 y.2.2.e) (.string y.2.2.n)
    have s0 := hs.cell 0
    have s1 := hs.cell 1
    have s2 := hs.cell 2
    have s3 := hs.cell 3
    refine bodyPost_ret (v := .tuple #[.agg #[.slice (some ⟨y.1, 0, none⟩) y.2.2.l.length y.2.1, .int .i64 y.2.2.s, .int .i64 y.2.2.e, .string y.2.2.n], .bool true]) (by simp [results, Try.results47, go_sem, s0, s1, s2, s3]) rfl ?_
    exact ⟨rfl, ⟨0, .inr ⟨rfl, rfl⟩, Alm.blk4 ((Alm.blk4 HN.out hne2.symm _ _ _ _).set 0 _) hne1.symm _ _ _ _⟩, only_young4 (S := fun k => k = N) (Only.set (S := fun k => k = N) (only_young4 (Only.of HB.out) (Nat.le_add_right w.heap.size 1) _ _ _ _) rfl _ _) (Nat.le_refl _) _ _ _ _⟩
  ·
    go_wp2
    have hs := Alm.put4 ((Alm.blk4 HAll.out.1 (by show w.heap.size + 1 ≠ w.heap.size; omega) (.slice (some ⟨y.1, 0, none⟩) y.2.2.l.length y.2.1) (.int .i64 y.2.2.s) (.int .i64 y.2.2.e) (.string y.2.2.n)).set_other (p := ⟨N, 0, none⟩) hne1 (.slice (some ⟨M, 4, none⟩) rs.length (c - 1))) (.slice (some ⟨y.1, 0, none⟩) y.2.2.l.length y.2.1) (.int .i64 y.2.2.s) (.int .i64 y.2.2.e) (.string y.2.2.n)
    have s0 := hs.cell 0
    have s1 := hs.cell 1
    have s2 := hs.cell 2
    have s3 := hs.cell 3
    refine bodyPost_ret (v := .tuple #[.agg #[.slice (some ⟨y.1, 0, none⟩) y.2.2.l.length y.2.1, .int .i64 y.2.2.s, .int .i64 y.2.2.e, .string y.2.2.n], .bool true]) (by simp [results, Try.results47, go_sem, s0, s1, s2, s3]) rfl ?_
    exact ⟨rfl, ⟨4, .inl rfl, Alm.blk4 ((Alm.blk4 HN.out hne2.symm _ _ _ _).set 0 _) hne1.symm _ _ _ _⟩, only_young4 (S := fun k => k = N) (Only.set (S := fun k => k = N) (only_young4 (Only.of HB.out) (Nat.le_add_right w.heap.size 1) _ _ _ _) rfl _ _) (Nat.le_refl _) _ _ _ _⟩
theorem ab_low4 {lo : Nat} {w : World} {A M c : Nat} {rs : List ARow} (h : AB lo w M c rs) (hA : A < lo) (v0 v1 v2 v3 : Value) : AB lo ((((w.setCell ⟨A, 0, none⟩ v0).setCell ⟨A, 1, none⟩ v1).setCell ⟨A, 2, none⟩ v2).setCell ⟨A, 3, none⟩ v3) M c rs :=
  DrawC.ab_under (DrawC.ab_under (DrawC.ab_under (DrawC.ab_under h hA _ _) hA _ _) hA _ _) hA _ _
theorem ab_low6 {lo : Nat} {w : World} {M c : Nat} {rs : List ARow} (A B : Nat) (h : AB lo w M c rs) (hA : A < lo) (hB : B < lo) (u0 u1 v0 v1 v2 v3 : Value) : AB lo ((((((w.setCell ⟨A, 0, none⟩ u0).setCell ⟨A, 1, none⟩ u1).setCell ⟨B, 0, none⟩ v0).setCell ⟨B, 1, none⟩ v1).setCell ⟨B, 2, none⟩ v2).setCell ⟨B, 3, none⟩ v3).drew M c rs :=
  (ab_low4 (DrawC.ab_under (DrawC.ab_under h hA _ _) hA _ _) hB _ _ _ _).grow ((Below.refl _ _).drew)
theorem ab_low6' {lo : Nat} {w : World} {M c : Nat} {rs : List ARow} (A B : Nat) (h : AB lo w M c rs) (hA : A < lo) (hB : B < lo) (u0 u1 v0 v1 v2 v3 : Value) : AB lo ((((((w.setCell ⟨A, 0, none⟩ u0).setCell ⟨A, 1, none⟩ u1).setCell ⟨B, 0, none⟩ v0).setCell ⟨B, 1, none⟩ v1).setCell ⟨B, 2, none⟩ v2).setCell ⟨B, 3, none⟩ v3) M c rs :=
  ab_low4 (DrawC.ab_under (DrawC.ab_under h hA _ _) hA _ _) hB _ _ _ _
theorem own_low6 {lo : Nat} {w : World} {x : ARow} (A B : Nat) (h : OwnA lo w x) (hA : A < lo) (hB : B < lo) (u0 u1 v0 v1 v2 v3 : Value) : OwnA lo ((((((w.setCell ⟨A, 0, none⟩ u0).setCell ⟨A, 1, none⟩ u1).setCell ⟨B, 0, none⟩ v0).setCell ⟨B, 1, none⟩ v1).setCell ⟨B, 2, none⟩ v2).setCell ⟨B, 3, none⟩ v3) x := by
  have h1 := h.1
  exact DrawC.own_set (DrawC.own_set (DrawC.own_set (DrawC.own_set (DrawC.own_set (DrawC.own_set h (by omega) _ _) (by omega) _ _) (by omega) _ _) (by omega) _ _) (by omega) _ _) (by omega) _ _
theorem blk2 {w : World} {M N : Nat} {cs : Array Value} {T : TypeId} (h : Blk w N cs T) (hne : M ≠ N) (v0 v1 : Value) : Blk ((w.setCell ⟨M, 0, none⟩ v0).setCell ⟨M, 1, none⟩ v1) N cs T := (h.set_other hne _).set_other hne _
theorem cells4 {w : World} {M : Nat} {v0 v1 v2 v3 : Value} {T : TypeId} (h : Blk w M #[v0, v1, v2, v3] T) : w.cell? ⟨M, 0, none⟩ = some v0 ∧ w.cell? ⟨M, 1, none⟩ = some v1 ∧ w.cell? ⟨M, 2, none⟩ = some v2 ∧ w.cell? ⟨M, 3, none⟩ = some v3 := ⟨h.cell 0, h.cell 1, h.cell 2, h.cell 3⟩
theorem cells2 {w : World} {M : Nat} {v0 v1 : Value} {T : TypeId} (h : Blk w M #[v0, v1] T) : w.cell? ⟨M, 0, none⟩ = some v0 ∧ w.cell? ⟨M, 1, none⟩ = some v1 := ⟨h.cell 0, h.cell 1⟩
set_option maxHeartbeats 1600000 in
theorem implTell_any (a : Option Addr) (cap : Nat) (P : List PAl) (g : Bool) (ax : Option Addr) (cx : Nat) (x : PAl) (w : World) (hr : RdA w a P) (hx : Reads w ax x.l) (hl : P.length ≤ 1048576) (hs : LenM P) (hxl : x.l.length ≤ 1048576) :
    Calls Try.prog 11 #[.agg #[.slice a P.length cap, .bool g], .agg #[.slice ax x.l.length cx, .int .i64 x.s, .int .i64 x.e, .string x.n]] w fun e w' => (∃ M c rs, e = .returned (.agg #[.slice (some ⟨M, 0, none⟩) rs.length c, .bool (tellB P g x).2]) ∧ AB w.heap.size w' M c rs ∧ pals rs = (tellB P g x).1) ∧ Below w.heap.size w w' := by
  have HR : Hid (RdA w a P ∧ Reads w ax x.l) := ⟨hr, hx⟩
  have HS : Hid (LenM P ∧ x.l.length ≤ 1048576) := ⟨hs, hxl⟩
  clear hr hx hs hxl
  go_enter Try.func11, Try.ntmps11
  go_wp2_with fail
  refine (queueOf_any a cap P g _ (HR.out.1.below (Alm.below3 w _ _ _)) hl HS.out.1).mono ?_
  rintro e w1 ⟨⟨M, rs, rfl, hab, hp⟩, hb⟩
  have A1 : Hid (Blk w1 (w.heap.size + 1) #[.slice ax x.l.length cx, .int .i64 x.s, .int .i64 x.e, .string x.n] 29) := ((Blk.new_at (by simp)).alloc _).grow hb
  have R1 : Hid (Blk w1 (w.heap.size + 1 + 1) #[.slice none 0 0, .bool false] 26) := (Blk.new_at (by simp)).grow hb
  have HB1 : Hid (Below w.heap.size w w1) := grow_on (Alm.below3 w _ _ _) hb
  have HAB1 : Hid (AB w.heap.size w1 M P.length rs) := hab.down (by simp; omega)
  have HM : Hid (w.heap.size + 5 ≤ M) := by have := hab.at'; simp at this; show _ ≤ _; omega
  have HP : Hid (pals rs = P ∧ rs.length = P.length) := ⟨hp, Que.len_of hp⟩
  clear hb hab hp
  have HC : Hid (∀ y, Below w1.heap.size w1 y → Calls Try.prog 46 #[.agg #[.slice ax x.l.length cx, .int .i64 x.s, .int .i64 x.e, .string x.n]] y fun r w' => (∃ Mx c, r = .returned (.agg #[.slice (some ⟨Mx, 0, none⟩) x.l.length c, .int .i64 x.s, .int .i64 x.e, .string x.n]) ∧ LabR.Own y w' Mx x.l) ∧ Below y.heap.size y w') := fun y hy => copyI_any _ _ _ _ _ _ y (HR.out.2.below (grow_on HB1.out hy)) HS.out.2
  generalize hW1 : w1.alloc (.cells #[.slice (some ⟨M, 0, none⟩) P.length P.length, .bool g] 69) = W1
  have HBW : Hid (Below w1.heap.size w1 W1) := by rw [← hW1]; exact Go.Joins.below_alloc1 w1 _
  have NW : Hid (Blk W1 w1.heap.size #[.slice (some ⟨M, 0, none⟩) rs.length P.length, .bool g] 69) := by rw [← hW1, HP.out.2]; exact Blk.new _ _ _
  obtain ⟨cA0, cA1, cA2, cA3⟩ := cells4 (A1.out.grow HBW.out)
  go_wp2_with fail
  clear hW1
  refine (HC.out _ HBW.out).mono ?_
  rintro e w2 ⟨⟨Mx, cx', rfl, hO⟩, hy⟩
  have HY : Hid (Below w1.heap.size w1 w2) := grow_on HBW.out hy
  have N2 : Hid (Blk w2 w1.heap.size #[.slice (some ⟨M, 0, none⟩) rs.length P.length, .bool g] 69) := NW.out.grow hy
  have HO : Hid (OwnA w.heap.size w2 (Mx, cx', x) ∧ w1.heap.size < Mx) := ⟨(own_of_copy hO HS.out.2).down (Nat.le_trans HB1.out.size HBW.out.size), by have := hO.1; have := NW.out.lt; omega⟩
  have HK : Hid (w.heap.size + 3 ≤ w1.heap.size) := by have := R1.out.lt; show _ ≤ _; omega
  clear hy hO cA0 cA1 cA2 cA3 HC
  go_wp2_with fail
  refine (add_any w.heap.size w1.heap.size M P.length Mx cx' rs g x _ N2.out (HAB1.out.grow HY.out) HO.out.1 (fun y hy => by have := (HAB1.out.rows y hy).lt; have := HO.out.2; omega)).mono ?_
  rintro e w3 ⟨rfl, ⟨M3, c3, rs3, hN3, hA3, hp3⟩, ho⟩
  rw [HP.out.1] at hN3 hp3
  have N3 : Hid (Blk w3 w1.heap.size #[.slice (some ⟨M3, 0, none⟩) rs3.length c3, .bool (tellB P g x).2] 69) := hN3
  have A3 : Hid (AB w.heap.size w3 M3 c3 rs3 ∧ pals rs3 = (tellB P g x).1) := ⟨hA3, hp3⟩
  have R3 : Hid (Blk w3 (w.heap.size + 1 + 1) #[.slice none 0 0, .bool false] 26) := ho.blk (R1.out.grow HY.out) (fun h => by have h1 := HM.out; have h2 := HK.out; rcases h with h | h <;> omega)
  have B3 : Hid (Below w.heap.size w w3) := (grow_on HB1.out HY.out).trans (ho.low (fun k h => by have h1 := HM.out; have h2 := HK.out; rcases h with h | h <;> omega) (grow_on HB1.out HY.out).size)
  clear hN3 hA3 hp3 ho
  obtain ⟨n0, n1⟩ := cells2 N3.out
  obtain ⟨r0, r1⟩ := cells2 R3.out
  have f0 := R3.out.frozen 0
  have f1 := R3.out.frozen 1
  go_wp2
  have hs := (R3.out.set 0 (.slice (some ⟨M3, 0, none⟩) rs3.length c3)).set 1 (.bool (tellB P g x).2)
  obtain ⟨s0, s1⟩ := cells2 (v0 := .slice (some ⟨M3, 0, none⟩) rs3.length c3) (v1 := .bool (tellB P g x).2) hs
  refine bodyPost_ret (v := .agg #[.slice (some ⟨M3, 0, none⟩) rs3.length c3, .bool (tellB P g x).2]) (by simp [results, Try.results11, go_sem, s0, s1]) rfl ?_
  exact ⟨⟨M3, c3, rs3, rfl, Chs.ab_moved A3.out.1 (sub_moved R3.out (by decide) (by decide) _ _), A3.out.2⟩, set2 B3.out (by omega) _ _⟩

/-- a row of alarms of one's own, or none -/
def QO (lo : Nat) (w : World) (a : Option Addr) (c : Nat) (rs : List ARow) : Prop := (a = none ∧ c = 0 ∧ rs = []) ∨ ∃ M, a = some ⟨M, 0, none⟩ ∧ AB lo w M c rs
theorem QO.grow {lo : Nat} {w w' : World} {a : Option Addr} {c : Nat} {rs : List ARow} (h : QO lo w a c rs) (hb : Below w.heap.size w w') : QO lo w' a c rs := h.imp id fun ⟨M, e, k⟩ => ⟨M, e, k.grow hb⟩
theorem QO.down {lo lo' : Nat} {w : World} {a : Option Addr} {c : Nat} {rs : List ARow} (h : QO lo w a c rs) (hl : lo' ≤ lo) : QO lo' w a c rs := h.imp id fun ⟨M, e, k⟩ => ⟨M, e, k.down hl⟩
theorem QO.moved {lo : Nat} {w w' : World} {a : Option Addr} {c : Nat} {rs : List ARow} (h : QO lo w a c rs) (hm : Moved w w') : QO lo w' a c rs := h.imp id fun ⟨M, e, k⟩ => ⟨M, e, Chs.ab_moved k hm⟩
theorem QO.rd {lo : Nat} {w : World} {a : Option Addr} {c : Nat} {rs : List ARow} (h : QO lo w a c rs) : RdN w a (pals rs) := by
  rcases h with ⟨rfl, rfl, rfl⟩ | ⟨M, rfl, h⟩
  · exact .inl rfl
  · exact h.rd
theorem QO.cap {lo : Nat} {w : World} {a : Option Addr} {c : Nat} {rs : List ARow} (h : QO lo w a c rs) : rs.length ≤ c ∧ c ≤ maxLen := by
  rcases h with ⟨rfl, rfl, rfl⟩ | ⟨M, rfl, h⟩
  · exact ⟨Nat.le_refl _, by simp [maxLen]⟩
  · exact h.cap
set_option maxRecDepth 100000 in
set_option maxHeartbeats 1600000 in
theorem specTell_any (a : Option Addr) (cap : Nat) (P : List PAl) (g : Bool) (gx ox cx : Nat) (x : PAl) (w : World) (hr : RdN w a P) (hx : Reads w (some ⟨gx, ox, none⟩) x.l) (hl : P.length ≤ 1048576) (hs : LenM P) (hxl : x.l.length ≤ 1048576) :
    Calls Try.prog 19 #[.agg #[.slice a P.length cap, .bool g], .agg #[.slice (some ⟨gx, ox, none⟩) x.l.length cx, .int .i64 x.s, .int .i64 x.e, .string x.n]] w fun e w' => (∃ a' c rs, e = .returned (.agg #[.slice a' rs.length c, .bool (tellB P g x).2]) ∧ QO w.heap.size w' a' c rs ∧ pals rs = (tellB P g x).1) ∧ Below w.heap.size w w' := by
  have HR : Hid (RdN w a P ∧ Reads w (some ⟨gx, ox, none⟩) x.l) := ⟨hr, hx⟩
  have HS : Hid (LenM P ∧ x.l.length ≤ 1048576) := ⟨hs, hxl⟩
  clear hr hx hs hxl
  go_enter Try.func19, Try.ntmps19
  go_wp2_with fail
  refine (l9Copy_any a cap P g _ (HR.out.1.below (Alm.below3 w _ _ _)) hl HS.out.1).mono ?_
  rintro e w1 ⟨⟨M, c, rs, rfl, hab, hp⟩, hb⟩
  have S1 : Hid (Blk w1 w.heap.size #[.slice a P.length cap, .bool g] 26) := (((Blk.new _ _ _).alloc _).alloc _).grow hb
  have A1 : Hid (Blk w1 (w.heap.size + 1) #[.slice (some ⟨gx, ox, none⟩) x.l.length cx, .int .i64 x.s, .int .i64 x.e, .string x.n] 29) := ((Blk.new_at (by simp)).alloc _).grow hb
  have R1 : Hid (Blk w1 (w.heap.size + 1 + 1) #[.slice none 0 0, .bool false] 26) := (Blk.new_at (by simp)).grow hb
  have HB1 : Hid (Below w.heap.size w w1) := grow_on (Alm.below3 w _ _ _) hb
  have HAB1 : Hid (AB w.heap.size w1 M c rs) := hab.down (by simp; omega)
  have HM : Hid (w.heap.size + 5 ≤ M) := by have := hab.at'; simp at this; show _ ≤ _; omega
  have HP : Hid (pals rs = P ∧ rs.length = P.length) := ⟨hp, Que.len_of hp⟩
  clear hb hab hp
  generalize hW1 : w1.alloc (.cells #[.slice (some ⟨M, 0, none⟩) rs.length c, .bool g] 26) = W1
  have HBW : Hid (Below w1.heap.size w1 W1) := by rw [← hW1]; exact Go.Joins.below_alloc1 w1 _
  have HLW : Hid (w.heap.size + 3 ≤ w1.heap.size) := by have := R1.out.lt; show _ ≤ _; omega
  have NW : Hid (Blk W1 w1.heap.size #[.slice (some ⟨M, 0, none⟩) rs.length c, .bool g] 26) := by rw [← hW1]; exact Blk.new _ _ _
  obtain ⟨cS0, cS1⟩ := cells2 (S1.out.grow HBW.out)
  have HRW : Hid (Blk W1 (w.heap.size + 1 + 1) #[.slice none 0 0, .bool false] 26) := R1.out.grow HBW.out
  obtain ⟨n0, n1⟩ := cells2 NW.out
  obtain ⟨r0, r1⟩ := cells2 HRW.out
  have f0 := HRW.out.frozen 0
  have f1 := HRW.out.frozen 1
  go_upto_region 2 with fail
  clear hW1
  cases g with
  | true =>
    go_wp2
    have hs := (HRW.out.set 0 (.slice (some ⟨M, 0, none⟩) rs.length c)).set 1 (.bool true)
    obtain ⟨s0, s1⟩ := cells2 (v0 := .slice (some ⟨M, 0, none⟩) rs.length c) (v1 := .bool true) hs
    refine bodyPost_ret (v := .agg #[.slice (some ⟨M, 0, none⟩) rs.length c, .bool true]) (by simp [results, Try.results19, go_sem, s0, s1]) rfl ?_
    exact ⟨⟨_, c, rs, rfl, .inr ⟨M, rfl, Chs.ab_moved (HAB1.out.grow HBW.out) (sub_moved HRW.out (by decide) (by decide) _ _)⟩, HP.out.1⟩, set2 (grow_on HB1.out HBW.out) (by omega) _ _⟩
  | false =>
    by_cases h3 : 3 ≤ P.length
    · have h3' : (3 : Int) ≤ (P.length : Int) := by omega
      have HT : Hid (tellB P false x = ([], true)) := tell_full x h3
      go_wp2
      have hs := (HRW.out.set 0 (.slice none 0 0)).set 1 (.bool true)
      obtain ⟨s0, s1⟩ := cells2 (v0 := .slice none 0 0) (v1 := .bool true) hs
      refine bodyPost_ret (v := .agg #[.slice none 0 0, .bool true]) (by simp [results, Try.results19, go_sem, s0, s1]) rfl ?_
      exact ⟨⟨none, 0, [], by rw [HT.out]; rfl, .inl ⟨rfl, rfl, rfl⟩, by rw [HT.out]; rfl⟩, set2 (grow_on HB1.out HBW.out) (by omega) _ _⟩
    · have h3' : (P.length : Int) < 3 := by omega
      have HT : Hid (tellB P false x = (P ++ [x], false)) := tell_room x h3
      obtain ⟨i0, hi, hz0, hz1, hz2⟩ := info_parts infoA
      have HC : Hid (∀ y, Below w1.heap.size w1 y → Calls Try.prog 49 #[.agg #[.slice (some ⟨gx, ox, none⟩) x.l.length cx, .int .i64 x.s, .int .i64 x.e, .string x.n]] y fun r w' => (∃ Mx c, r = .returned (.agg #[.slice (some ⟨Mx, 0, none⟩) x.l.length c, .int .i64 x.s, .int .i64 x.e, .string x.n]) ∧ LabR.Own y w' Mx x.l) ∧ Below y.heap.size y w') := fun y hy => copyS_any _ _ _ _ _ _ _ y (HR.out.2.below (grow_on HB1.out hy)) HS.out.2
      obtain ⟨cA0, cA1, cA2, cA3⟩ := cells4 (A1.out.grow HBW.out)
      go_wp2_with fail
      refine (HC.out _ HBW.out).mono ?_
      rintro e w2 ⟨⟨Mx, cx', rfl, hO⟩, hy⟩
      have HY : Hid (Below w1.heap.size w1 w2) := grow_on HBW.out hy
      have HO : Hid (OwnA w.heap.size w2 (Mx, cx', x) ∧ w1.heap.size < Mx) := ⟨(own_of_copy hO HS.out.2).down (Nat.le_trans HB1.out.size HBW.out.size), by have := hO.1; have := NW.out.lt; omega⟩
      have HB2 : Hid (Below w.heap.size w w2) := grow_on HB1.out HY.out
      have HAB2 : Hid (AB w.heap.size w2 M c rs) := HAB1.out.grow HY.out
      have HU : Hid (∀ o1 o2, Below w2.heap.size w2 ((w2.alloc o1).alloc o2)) := fun o1 o2 => Go.Joins.below_alloc2 w2 o1 o2
      obtain ⟨xs, hox, hxl, hxs⟩ := HAB2.out.own
      have HOX : Hid (∀ o1 o2, ((w2.alloc o1).alloc o2).ownsRow w.heap.size 29 4 (.slice (some ⟨M, 0, none⟩) rs.length c) rs.length xs) := fun o1 o2 => own_grow hox (Go.Joins.below_alloc2 w2 o1 o2)
      have HXS : Hid (xs.length = rs.length * 4 ∧ ∀ i, i < rs.length → Four (fun k => xs[k]?) i (nthA rs i)) := ⟨hxl, hxs⟩
      have NU : Hid (∀ o1 o2, Blk ((w2.alloc o1).alloc o2) w1.heap.size #[.slice (some ⟨M, 0, none⟩) rs.length c, .bool false] 26) := fun o1 o2 => ((NW.out.grow hy).alloc _).alloc _
      have RU : Hid (∀ o1 o2, Blk ((w2.alloc o1).alloc o2) (w.heap.size + 1 + 1) #[.slice none 0 0, .bool false] 26) := fun o1 o2 => ((HRW.out.grow hy).alloc _).alloc _
      have hrl : rs.length ≤ 2 := by have := HP.out.2; omega
      generalize hO1 : Obj.cells #[.slice (some ⟨Mx, 0, none⟩) x.l.length cx', .int .i64 x.s, .int .i64 x.e, .string x.n] 29 = O1
      have m0 : (w2.alloc O1).cell? ⟨w1.heap.size, 0, none⟩ = some (.slice (some ⟨M, 0, none⟩) rs.length c) := ((NW.out.grow hy).alloc _).cell 0
      subst hO1
      have hwlt : w1.heap.size < w2.heap.size := (NW.out.grow hy).lt
      clear hy hO HC hox hxl hxs cA0 cA1 cA2 cA3 n0 n1 r0 r1 f0 f1 cS0 cS1
      go_wp2_with (at_builtin; refine wpList_append_own_at _ rfl _ _ 24 rfl w.heap.size 29 i0 (.agg #[.slice none 0 0, .int .i64 0, .int .i64 0, .string ByteArray.empty]) 4 56 Try.underlying24 hi hz0 hz1 hz2 rfl (by decide) _ _ _ rfl (HOX.out _ _) ⟨w2.heap.size + 1, 0, none⟩ 1 1 (rowV (Mx, cx', x)) rfl rfl ?c1 (row_one _) ?c3 ?c4 ?c5 ?_)
      case c1 => exact blk_news (Blk.new_at (by simp))
      case c3 => unfold maxLen; omega
      case c4 => omega
      case c5 => have := HB2.out.size; simp; omega
      intro v' w3 hown hg hnil hat
      obtain ⟨M3, c3, rfl, hAB3⟩ := (HAB2.out.grow (HU.out _ _)).app (HO.out.1.grow (HU.out _ _)) (fun y hy => by have := (HAB1.out.rows y hy).lt; have := HO.out.2; show y.1 ≠ Mx; omega) HXS.out.1 HXS.out.2 hown hg
      have AB3 : Hid (AB w.heap.size w3 M3 c3 (rs ++ [(Mx, cx', x)])) := hAB3
      have N3 : Hid (Blk w3 w1.heap.size #[.slice (some ⟨M, 0, none⟩) rs.length c, .bool false] 26) := blk_far (NU.out _ _) hg (fun e => by have := HAB1.out.lt; have h : w1.heap.size = M := Option.some.inj e; omega)
      have R3 : Hid (Blk w3 (w.heap.size + 1 + 1) #[.slice none 0 0, .bool false] 26) := blk_far (RU.out _ _) hg (fun e => by have := HM.out; have h : w.heap.size + 1 + 1 = M := Option.some.inj e; omega)
      have B3 : Hid (Below w.heap.size w w3) := (grow_on HB2.out (HU.out _ _)).grown hg (by have := HB2.out.size; simp; omega) (fun k e => by have h : M = k := Option.some.inj e; have := HM.out; omega)
      clear hown hg hnil hat hAB3 m0
      obtain ⟨n0, n1⟩ := cells2 N3.out
      obtain ⟨r0, r1⟩ := cells2 R3.out
      have nf0 := N3.out.frozen 0
      have f0 := R3.out.frozen 0
      have f1 := R3.out.frozen 1
      have hNR : w1.heap.size ≠ w.heap.size + 1 + 1 := by have := HLW.out; omega
      have HE : Hid ((rs ++ [(Mx, cx', x)]).length = rs.length + 1) := by show _ = _; simp
      go_wp2
      have hs := ((R3.out.set_other (p := ⟨w1.heap.size, 0, none⟩) hNR (.slice (some ⟨M3, 0, none⟩) (rs.length + 1) c3)).set 0 (.slice (some ⟨M3, 0, none⟩) (rs.length + 1) c3)).set 1 (.bool false)
      obtain ⟨s0, s1⟩ := cells2 (v0 := .slice (some ⟨M3, 0, none⟩) (rs.length + 1) c3) (v1 := .bool false) hs
      refine bodyPost_ret (v := .agg #[.slice (some ⟨M3, 0, none⟩) (rs.length + 1) c3, .bool false]) (by simp [results, Try.results19, go_sem, s0, s1]) rfl ?_
      exact ⟨⟨_, c3, _, by rw [HT.out, HE.out], .inr ⟨M3, rfl, Chs.ab_moved AB3.out ((Moved.set N3.out (by decide) (by decide) 0 _).trans (sub_moved (R3.out.set_other (p := ⟨w1.heap.size, 0, none⟩) hNR _) (by decide) (by decide) _ _))⟩, by rw [HT.out, pals_app, HP.out.1]⟩, set2 (B3.out.setCell (by have := HLW.out; show _ ≤ w1.heap.size; omega) _) (by omega) _ _⟩


set_option maxHeartbeats 800000 in
theorem implHearL_any (a : Option Addr) (cap : Nat) (P : List PAl) (w : World) :
    Calls Try.prog 13 #[.agg #[.slice a P.length cap, .bool true]] w fun e w' => e = .returned (.tuple #[.agg #[.slice none 0 0, .bool false], .agg #[.slice none 0 0, .int .i64 0, .int .i64 0, .string ⟨#[]⟩], .int .i64 2]) ∧ Below w.heap.size w w' := by
  generalize hW0 : ((w.alloc (.cells #[.slice a P.length cap, .bool true] 26)).alloc (.cells #[.slice none 0 0, .bool false] 26)).alloc (.cells #[.slice none 0 0, .int .i64 0, .int .i64 0, .string ⟨#[]⟩] 29) = W0
  have HB : Hid (Below w.heap.size w W0) := by rw [← hW0]; exact Alm.below3 w _ _ _
  have S0 : Hid (Blk W0 w.heap.size #[.slice a P.length cap, .bool true] 26) := by rw [← hW0]; exact ((Blk.new _ _ _).alloc _).alloc _
  have R0 : Hid (Blk W0 (w.heap.size + 1) #[.slice none 0 0, .bool false] 26) := by rw [← hW0]; exact (Blk.new_at (by simp)).alloc _
  have A0 : Hid (Blk W0 (w.heap.size + 1 + 1) #[.slice none 0 0, .int .i64 0, .int .i64 0, .string ⟨#[]⟩] 29) := by rw [← hW0]; exact Blk.new_at (by simp)
  go_enter Try.func13, Try.ntmps13
  go_upto_region 1 with fail
  clear hW0
  obtain ⟨p0, p1⟩ := cells2 S0.out
  obtain ⟨r0, r1⟩ := cells2 R0.out
  obtain ⟨a0, a1, a2, a3⟩ := cells4 A0.out
  have fr0 := R0.out.frozen 0
  have fr1 := R0.out.frozen 1
  have fa0 := A0.out.frozen 0
  have fa1 := A0.out.frozen 1
  have fa2 := A0.out.frozen 2
  have fa3 := A0.out.frozen 3
  go_wp2
  have hne : w.heap.size + 1 ≠ w.heap.size + 1 + 1 := by omega
  have hR : Blk _ (w.heap.size + 1) #[.slice none 0 0, .bool false] 26 := Alm.blk4 ((R0.out.set 0 (.slice none 0 0)).set 1 (.bool false)) hne.symm (.slice none 0 0) (.int .i64 0) (.int .i64 0) (.string ⟨#[]⟩)
  have hA := Alm.put4 ((A0.out.set_other (p := ⟨w.heap.size + 1, 0, none⟩) hne (.slice none 0 0)).set_other (p := ⟨w.heap.size + 1, 1, none⟩) hne (.bool false)) (.slice none 0 0) (.int .i64 0) (.int .i64 0) (.string ⟨#[]⟩)
  obtain ⟨s0, s1⟩ := cells2 hR
  obtain ⟨t0, t1, t2, t3⟩ := cells4 hA
  refine bodyPost_ret (v := .tuple #[.agg #[.slice none 0 0, .bool false], .agg #[.slice none 0 0, .int .i64 0, .int .i64 0, .string ⟨#[]⟩], .int .i64 2]) (by simp [results, Try.results13, go_sem, s0, s1, t0, t1, t2, t3]) rfl ?_
  exact ⟨rfl, Alm.set4 (set2 HB.out (Nat.le_add_right w.heap.size 1) _ _) (by omega) _ _ _ _⟩

set_option maxRecDepth 100000 in
set_option maxHeartbeats 1600000 in
theorem implHearC_any (a : Option Addr) (cap : Nat) (y : PAl) (P : List PAl) (w : World) (hr : RdA w a (y :: P)) (hl : (y :: P).length ≤ 1048576) (hs : LenM (y :: P)) :
    Calls Try.prog 13 #[.agg #[.slice a (y :: P).length cap, .bool false]] w fun e w' => (∃ M o c gy cy rs, e = .returned (.tuple #[.agg #[.slice (some ⟨M, o, none⟩) rs.length c, .bool false], .agg #[.slice (some ⟨gy, 0, none⟩) y.l.length cy, .int .i64 y.s, .int .i64 y.e, .string y.n], .int .i64 1]) ∧ AO w.heap.size w' M o rs ∧ pals rs = P ∧ OwnA w.heap.size w' (gy, cy, y) ∧ ∀ k, blks M rs k → k ≠ gy) ∧ Below w.heap.size w w' := by
  have HR : Hid (RdA w a (y :: P)) := hr
  have HL : Hid (LenM (y :: P) ∧ (y :: P).length ≤ 1048576) := ⟨hs, hl⟩
  clear hr hs hl
  generalize hPP : (y :: P) = PP at HR HL
  have HPP : Hid ((y :: P) = PP) := hPP
  have HLen : Hid (P.length + 1 = PP.length) := by show _ = _; rw [← hPP]; simp
  clear hPP
  generalize hW0 : ((w.alloc (.cells #[.slice a PP.length cap, .bool false] 26)).alloc (.cells #[.slice none 0 0, .bool false] 26)).alloc (.cells #[.slice none 0 0, .int .i64 0, .int .i64 0, .string ⟨#[]⟩] 29) = W0
  have HB : Hid (Below w.heap.size w W0) := by rw [← hW0]; exact Alm.below3 w _ _ _
  have S0 : Hid (Blk W0 w.heap.size #[.slice a PP.length cap, .bool false] 26) := by rw [← hW0]; exact ((Blk.new _ _ _).alloc _).alloc _
  have R0 : Hid (Blk W0 (w.heap.size + 1) #[.slice none 0 0, .bool false] 26) := by rw [← hW0]; exact (Blk.new_at (by simp)).alloc _
  have A0 : Hid (Blk W0 (w.heap.size + 1 + 1) #[.slice none 0 0, .int .i64 0, .int .i64 0, .string ⟨#[]⟩] 29) := by rw [← hW0]; exact Blk.new_at (by simp)
  have HZ : Hid (W0.heap.size = w.heap.size + 3) := by show _ = _; rw [← hW0]; simp
  have HC : Hid (∀ z, Below W0.heap.size W0 z → Calls Try.prog 44 #[.agg #[.slice a PP.length cap, .bool false]] z fun e w' => (∃ M rs, e = .returned (.agg #[.slice (some ⟨M, 0, none⟩) PP.length PP.length, .bool false]) ∧ AB (z.heap.size + 2) w' M PP.length rs ∧ pals rs = PP) ∧ Below z.heap.size z w') := fun z hz => queueOf_any a cap PP false z (HR.out.below (grow_on HB.out hz)) HL.out.2 HL.out.1
  go_enter Try.func13, Try.ntmps13
  go_upto_region 1 with fail
  clear hW0
  obtain ⟨p0, p1⟩ := cells2 S0.out
  go_wp2_with fail
  refine (HC.out W0 (Below.refl _ _)).mono ?_
  rintro e w1 ⟨⟨M, rs, rfl, hab, hp⟩, hb⟩
  have HB1 : Hid (Below W0.heap.size W0 w1) := hb
  have HAB : Hid (AB (w.heap.size + 5) w1 M PP.length rs) := hab.down (by have := HZ.out; omega)
  have HP : Hid (pals rs = PP ∧ rs.length = PP.length) := ⟨hp, Que.len_of hp⟩
  clear hb hab hp p0 p1 HC
  go_upto_region 4 with fail
  generalize hW1 : w1.alloc (.cells #[.slice (some ⟨M, 0, none⟩) PP.length PP.length, .bool false] 69) = W1
  have HBW : Hid (Below w1.heap.size w1 W1) := by rw [← hW1]; exact Go.Joins.below_alloc1 w1 _
  have NW : Hid (Blk W1 w1.heap.size #[.slice (some ⟨M, 0, none⟩) PP.length PP.length, .bool false] 69) := by rw [← hW1]; exact Blk.new _ _ _
  have HNS : Hid (w.heap.size + 3 ≤ w1.heap.size ∧ W1.heap.size = w1.heap.size + 1) := ⟨by have h1 := HZ.out; have h2 := HB1.out.size; omega, by rw [← hW1]; simp⟩
  clear hW1
  go_wp2_with fail
  obtain ⟨gy, cy, rs', hrs, hq⟩ : ∃ gy cy rs', rs = (gy, cy, y) :: rs' ∧ pals rs' = P := by
    have h := HP.out.1
    rw [← HPP.out] at h
    cases rs with
    | nil => simp [pals] at h
    | cons r rs' =>
      obtain ⟨gy, cy, z⟩ := r
      simp only [pals, List.map_cons, List.cons.injEq] at h
      obtain ⟨h1, h2⟩ := h
      subst h1
      exact ⟨gy, cy, rs', rfl, h2⟩
  subst hrs
  have HQ : Hid (pals rs' = P) := hq
  clear hq
  have HABW : Hid (AB (w.heap.size + 5) W1 M PP.length ((gy, cy, y) :: rs')) := HAB.out.grow HBW.out
  have NW' : Hid (Blk W1 w1.heap.size #[.slice (some ⟨M, 0, none⟩) (rs'.length + 1) PP.length, .bool false] 69) := by have h := NW.out; have h2 := HP.out.2; simp only [List.length_cons] at h2; rw [h2]; exact h
  refine (takeC_any _ w1.heap.size M PP.length false (gy, cy, y) rs' W1 NW'.out HABW.out).mono ?_
  rintro e w2 ⟨rfl, ⟨o, ho, hN2⟩, hO⟩
  have N2 : Hid (Blk w2 w1.heap.size #[.slice (some ⟨M, o, none⟩) rs'.length (PP.length - 1), .bool false] 69) := hN2
  have HOO : Hid (o = 4 ∨ (rs' = [] ∧ o = 0)) := ho
  have HON : Hid (Only (fun k => k = w1.heap.size) W1 w2) := hO
  clear ho hN2 hO
  have R2 : Hid (Blk w2 (w.heap.size + 1) #[.slice none 0 0, .bool false] 26) := HON.out.blk ((R0.out.grow HB1.out).grow HBW.out) (fun h => by have := HNS.out.1; omega)
  have A2 : Hid (Blk w2 (w.heap.size + 1 + 1) #[.slice none 0 0, .int .i64 0, .int .i64 0, .string ⟨#[]⟩] 29) := HON.out.blk ((A0.out.grow HB1.out).grow HBW.out) (fun h => by have := HNS.out.1; omega)
  have HB2 : Hid (Below w.heap.size w w2) := (grow_on HB.out (grow_on HB1.out HBW.out)).trans (HON.out.low (fun k h => by have := HNS.out.1; omega) (grow_on HB.out (grow_on HB1.out HBW.out)).size)
  have HAB2 : Hid (AB (w.heap.size + 5) w2 M PP.length ((gy, cy, y) :: rs')) := ab_only HABW.out HON.out (fun k hk h => by have := blks_high HAB.out k hk; omega)
  have HLT : Hid (w1.heap.size < w2.heap.size) := N2.out.lt
  generalize hO : Obj.cells #[.slice (some ⟨gy, 0, none⟩) y.l.length cy, .int .i64 y.s, .int .i64 y.e, .string y.n] 29 = OX
  have HBX : Hid (Below w2.heap.size w2 (w2.alloc OX)) := Go.Joins.below_alloc1 w2 _
  have X3 : Hid (Blk (w2.alloc OX) w2.heap.size #[.slice (some ⟨gy, 0, none⟩) y.l.length cy, .int .i64 y.s, .int .i64 y.e, .string y.n] 29) := by rw [← hO]; exact Blk.new _ _ _
  subst hO
  go_upto_region 6 with fail
  generalize (w2.alloc (.cells #[.slice (some ⟨gy, 0, none⟩) y.l.length cy, .int .i64 y.s, .int .i64 y.e, .string y.n] 29)) = W3 at *
  have N3 : Hid (Blk W3 w1.heap.size #[.slice (some ⟨M, o, none⟩) rs'.length (PP.length - 1), .bool false] 69) := N2.out.grow HBX.out
  have R3 : Hid (Blk W3 (w.heap.size + 1) #[.slice none 0 0, .bool false] 26) := R2.out.grow HBX.out
  have A3 : Hid (Blk W3 (w.heap.size + 1 + 1) #[.slice none 0 0, .int .i64 0, .int .i64 0, .string ⟨#[]⟩] 29) := A2.out.grow HBX.out
  have HAB3 : Hid (AB (w.heap.size + 5) W3 M PP.length ((gy, cy, y) :: rs')) := HAB2.out.grow HBX.out
  have HB3 : Hid (Below w.heap.size w W3) := grow_on HB2.out HBX.out
  clear HABW HAB2
  have HS : Hid (∀ w', Blk w' w1.heap.size #[.slice (some ⟨M, o, none⟩) rs'.length (PP.length - 1), .bool false] 69 → Blk w' w2.heap.size #[.slice (some ⟨gy, 0, none⟩) y.l.length cy, .int .i64 y.s, .int .i64 y.e, .string y.n] 29 → w'.cell? ⟨w1.heap.size, 0, none⟩ = some (.slice (some ⟨M, o, none⟩) rs'.length (PP.length - 1)) ∧ w'.cell? ⟨w1.heap.size, 1, none⟩ = some (.bool false) ∧ w'.cell? ⟨w2.heap.size, 0, none⟩ = some (.slice (some ⟨gy, 0, none⟩) y.l.length cy) ∧ w'.cell? ⟨w2.heap.size, 1, none⟩ = some (.int .i64 y.s) ∧ w'.cell? ⟨w2.heap.size, 2, none⟩ = some (.int .i64 y.e) ∧ w'.cell? ⟨w2.heap.size, 3, none⟩ = some (.string y.n)) := fun w' h k => ⟨h.cell 0, h.cell 1, k.cell 0, k.cell 1, k.cell 2, k.cell 3⟩
  obtain ⟨r0, r1⟩ := cells2 R3.out
  obtain ⟨a0, a1, a2, a3⟩ := cells4 A3.out
  have fr0 := R3.out.frozen 0
  have fr1 := R3.out.frozen 1
  have fa0 := A3.out.frozen 0
  have fa1 := A3.out.frozen 1
  have fa2 := A3.out.frozen 2
  have fa3 := A3.out.frozen 3
  have hn1 : w.heap.size + 1 ≠ w1.heap.size := by have := HNS.out.1; omega
  have hn2 : w.heap.size + 1 ≠ w2.heap.size := by have := HNS.out.1; have := HLT.out; omega
  have hn3 : w.heap.size + 1 + 1 ≠ w1.heap.size := by have := HNS.out.1; omega
  have hn4 : w.heap.size + 1 + 1 ≠ w2.heap.size := by have := HNS.out.1; have := HLT.out; omega
  have hne : w.heap.size + 1 ≠ w.heap.size + 1 + 1 := by omega
  refine wp_region_held_drew (S := fun w' => w'.cell? ⟨w1.heap.size, 0, none⟩ = some (.slice (some ⟨M, o, none⟩) rs'.length (PP.length - 1)) ∧ w'.cell? ⟨w1.heap.size, 1, none⟩ = some (.bool false) ∧ w'.cell? ⟨w2.heap.size, 0, none⟩ = some (.slice (some ⟨gy, 0, none⟩) y.l.length cy) ∧ w'.cell? ⟨w2.heap.size, 1, none⟩ = some (.int .i64 y.s) ∧ w'.cell? ⟨w2.heap.size, 2, none⟩ = some (.int .i64 y.e) ∧ w'.cell? ⟨w2.heap.size, 3, none⟩ = some (.string y.n)) (by kernel_rfl) (HS.out _ N3.out.drew X3.out.drew) (fun hHeld => ?_)
  refine wpAnyH_take (i := 0) (oi := { dst := some 19, op := Op.load 69 (Operand.tmp 5), type := 69, pos := "l09_sub.go:85", after := #[], guard := none }) (v := ?vh0) rfl (by kernel_rfl) (by kernel_rfl) (by kernel_rfl) (fun _ _ _ h => h) (Or.inl ⟨by rfl, ?hyh0⟩) hHeld ?_
  case hyh0 => (intro w hSw; (try dsimp only at hSw); go_simp <;> with_reducible rfl)
  try simp only [Act.put, List.setIfInBounds_toArray, List.set_cons_zero, List.set_cons_succ]
  refine wpAnyH_take (i := 1) (oi := { dst := some 20, op := Op.load 29 (Operand.tmp 6), type := 29, pos := "l09_sub.go:85", after := #[{ on := 2, ground := Ground.gcOnly Departure.lateStores }], guard := none }) (v := ?vh1) rfl (by kernel_rfl) (by kernel_rfl) (by kernel_rfl) (fun _ _ _ h => h) (Or.inl ⟨by rfl, ?hyh1⟩) hHeld ?_
  case hyh1 => (intro w hSw; (try dsimp only at hSw); go_simp <;> with_reducible rfl)
  try simp only [Act.put, List.setIfInBounds_toArray, List.set_cons_zero, List.set_cons_succ]
  refine wpAnyH_ready (rs := [2]) (by kernel_rfl) (by simp) ?_
  refine AllReadyH.cons (o := { dst := none, op := Op.store 26 (Operand.tmp 2) (Operand.tmp 19), type := 0, pos := "l09_sub.go:85", after := #[{ on := 0, ground := Ground.data }, { on := 0, ground := Ground.phase }, { on := 1, ground := Ground.textOnly Departure.lateStores }], guard := none }) rfl (fun K hK => ?_) AllReadyH.nil
  go_simp
  clear hHeld
  refine hK.out _ _ (HS.out _ (blk2 N3.out hn1 _ _).drew (blk2 X3.out hn2 _ _).drew) (fun hHeld => ?_)
  clear hK K
  try simp only [Act.put, List.setIfInBounds_toArray, List.set_cons_zero, List.set_cons_succ]
  refine wpAnyH_ready (rs := [3]) (by kernel_rfl) (by simp) ?_
  refine AllReadyH.cons (o := { dst := none, op := Op.store 29 (Operand.tmp 3) (Operand.tmp 20), type := 0, pos := "l09_sub.go:85", after := #[{ on := 1, ground := Ground.data }, { on := 2, ground := Ground.chain }, { on := 0, ground := Ground.phase }, { on := 1, ground := Ground.phase }, { on := 2, ground := Ground.phase }], guard := none }) rfl (fun K hK => ?_) AllReadyH.nil
  go_simp
  clear hHeld
  refine hK.out _ _ (HS.out _ (Alm.blk4 (blk2 N3.out hn1 _ _) hn3 _ _ _ _).drew (Alm.blk4 (blk2 X3.out hn2 _ _) hn4 _ _ _ _).drew) (fun hHeld => ?_)
  clear hK K
  try simp only [Act.put, List.setIfInBounds_toArray, List.set_cons_zero, List.set_cons_succ]
  refine wpAnyH_take (i := 4) (oi := { dst := some 4, op := Op.assign (Operand.const (Value.int IntKind.i64 1)), type := 3, pos := "l09_sub.go:85", after := #[{ on := 3, ground := Ground.chain }, { on := 0, ground := Ground.phase }, { on := 1, ground := Ground.phase }, { on := 2, ground := Ground.phase }, { on := 3, ground := Ground.phase }], guard := none }) (v := ?vh4) rfl (by kernel_rfl) (by kernel_rfl) (by kernel_rfl) (fun _ _ _ h => h) (Or.inl ⟨by rfl, ?hyh4⟩) hHeld ?_
  case hyh4 => (intro w hSw; (try dsimp only at hSw); go_simp <;> with_reducible rfl)
  try simp only [Act.put, List.setIfInBounds_toArray, List.set_cons_zero, List.set_cons_succ]
  refine wpAnyH_done (by kernel_rfl) ?_ _
  go_wp2
  have hR : Blk _ (w.heap.size + 1) #[.slice (some ⟨M, o, none⟩) rs'.length (PP.length - 1), .bool false] 26 := Alm.blk4 ((R3.out.set 0 (.slice (some ⟨M, o, none⟩) rs'.length (PP.length - 1))).set 1 (.bool false)) hne.symm (.slice (some ⟨gy, 0, none⟩) y.l.length cy) (.int .i64 y.s) (.int .i64 y.e) (.string y.n)
  have hA := Alm.put4 ((A3.out.set_other (p := ⟨w.heap.size + 1, 0, none⟩) hne (.slice (some ⟨M, o, none⟩) rs'.length (PP.length - 1))).set_other (p := ⟨w.heap.size + 1, 1, none⟩) hne (.bool false)) (.slice (some ⟨gy, 0, none⟩) y.l.length cy) (.int .i64 y.s) (.int .i64 y.e) (.string y.n)
  obtain ⟨s0, s1⟩ := cells2 hR.drew
  obtain ⟨t0, t1, t2, t3⟩ := cells4 hA.drew
  refine bodyPost_ret (v := .tuple #[.agg #[.slice (some ⟨M, o, none⟩) rs'.length (PP.length - 1), .bool false], .agg #[.slice (some ⟨gy, 0, none⟩) y.l.length cy, .int .i64 y.s, .int .i64 y.e, .string y.n], .int .i64 1]) (by simp [results, Try.results13, go_sem, s0, s1, t0, t1, t2, t3]) rfl ?_
  have hF := (ab_low6 (w.heap.size + 1) (w.heap.size + 1 + 1) HAB3.out (by omega) (by omega) (.slice (some ⟨M, o, none⟩) rs'.length (PP.length - 1)) (.bool false) (.slice (some ⟨gy, 0, none⟩) y.l.length cy) (.int .i64 y.s) (.int .i64 y.e) (.string y.n)).down (show w.heap.size ≤ w.heap.size + 5 by omega)
  refine ⟨⟨M, o, PP.length - 1, gy, cy, rs', rfl, AB.tail hF HOO.out, HQ.out, hF.rows _ (List.mem_cons_self ..), fun k hk => ?_⟩, (Alm.set4 (set2 HB3.out (Nat.le_add_right w.heap.size 1) _ _) (by omega) _ _ _ _).drew⟩
  rcases hk with rfl | ⟨z, hz, rfl⟩
  · obtain ⟨cu, h1, _⟩ := hF.outer
    obtain ⟨_, _, ds, h2, _⟩ := hF.rows _ (List.mem_cons_self ..)
    exact blkA_ne h1 h2
  · exact ((List.pairwise_cons.1 hF.ne).1 z hz).symm
set_option maxRecDepth 100000 in
set_option maxHeartbeats 1600000 in
theorem implHearN_any (a : Option Addr) (cap : Nat) (w : World) :
    Calls Try.prog 13 #[.agg #[.slice a ([] : List PAl).length cap, .bool false]] w fun e w' => (∃ M, e = .returned (.tuple #[.agg #[.slice (some ⟨M, 0, none⟩) 0 0, .bool false], .agg #[.slice none 0 0, .int .i64 0, .int .i64 0, .string ⟨#[]⟩], .int .i64 0]) ∧ AB w.heap.size w' M 0 []) ∧ Below w.heap.size w w' := by
  have HR : Hid (RdA w a ([] : List PAl)) := .inl rfl
  have HL : Hid (LenM ([] : List PAl) ∧ ([] : List PAl).length ≤ 1048576) := ⟨fun i hi => by simp at hi, by simp⟩

  generalize hPP : ([] : List PAl) = PP at HR HL
  have HPP : Hid (([] : List PAl) = PP) := hPP
  have HLen : Hid (0 = PP.length) := by show _ = _; rw [← hPP]; rfl
  clear hPP
  generalize hW0 : ((w.alloc (.cells #[.slice a PP.length cap, .bool false] 26)).alloc (.cells #[.slice none 0 0, .bool false] 26)).alloc (.cells #[.slice none 0 0, .int .i64 0, .int .i64 0, .string ⟨#[]⟩] 29) = W0
  have HB : Hid (Below w.heap.size w W0) := by rw [← hW0]; exact Alm.below3 w _ _ _
  have S0 : Hid (Blk W0 w.heap.size #[.slice a PP.length cap, .bool false] 26) := by rw [← hW0]; exact ((Blk.new _ _ _).alloc _).alloc _
  have R0 : Hid (Blk W0 (w.heap.size + 1) #[.slice none 0 0, .bool false] 26) := by rw [← hW0]; exact (Blk.new_at (by simp)).alloc _
  have A0 : Hid (Blk W0 (w.heap.size + 1 + 1) #[.slice none 0 0, .int .i64 0, .int .i64 0, .string ⟨#[]⟩] 29) := by rw [← hW0]; exact Blk.new_at (by simp)
  have HZ : Hid (W0.heap.size = w.heap.size + 3) := by show _ = _; rw [← hW0]; simp
  have HC : Hid (∀ z, Below W0.heap.size W0 z → Calls Try.prog 44 #[.agg #[.slice a PP.length cap, .bool false]] z fun e w' => (∃ M rs, e = .returned (.agg #[.slice (some ⟨M, 0, none⟩) PP.length PP.length, .bool false]) ∧ AB (z.heap.size + 2) w' M PP.length rs ∧ pals rs = PP) ∧ Below z.heap.size z w') := fun z hz => queueOf_any a cap PP false z (HR.out.below (grow_on HB.out hz)) HL.out.2 HL.out.1
  go_enter Try.func13, Try.ntmps13
  go_upto_region 1 with fail
  clear hW0
  obtain ⟨p0, p1⟩ := cells2 S0.out
  go_wp2_with fail
  refine (HC.out W0 (Below.refl _ _)).mono ?_
  rintro e w1 ⟨⟨M, rs, rfl, hab, hp⟩, hb⟩
  have HB1 : Hid (Below W0.heap.size W0 w1) := hb
  have HAB : Hid (AB (w.heap.size + 5) w1 M PP.length rs) := hab.down (by have := HZ.out; omega)
  have HP : Hid (pals rs = PP ∧ rs.length = PP.length) := ⟨hp, Que.len_of hp⟩
  clear hb hab hp p0 p1 HC
  go_upto_region 4 with fail
  generalize hW1 : w1.alloc (.cells #[.slice (some ⟨M, 0, none⟩) PP.length PP.length, .bool false] 69) = W1
  have HBW : Hid (Below w1.heap.size w1 W1) := by rw [← hW1]; exact Go.Joins.below_alloc1 w1 _
  have NW : Hid (Blk W1 w1.heap.size #[.slice (some ⟨M, 0, none⟩) PP.length PP.length, .bool false] 69) := by rw [← hW1]; exact Blk.new _ _ _
  have HNS : Hid (w.heap.size + 3 ≤ w1.heap.size ∧ W1.heap.size = w1.heap.size + 1) := ⟨by have h1 := HZ.out; have h2 := HB1.out.size; omega, by rw [← hW1]; simp⟩
  clear hW1
  go_wp2_with fail
  have HN0 : Hid (Blk W1 w1.heap.size #[.slice (some ⟨M, 0, none⟩) 0 PP.length, .bool false] 69) := by have h := NW.out; rw [← HLen.out] at h ⊢; exact h
  refine (takeN_any w1.heap.size M PP.length false W1 HN0.out).mono ?_
  rintro e w2 ⟨rfl, hb⟩
  have N2 : Hid (Blk w2 w1.heap.size #[.slice (some ⟨M, 0, none⟩) PP.length PP.length, .bool false] 69) := NW.out.grow hb
  have HB2 : Hid (Below W0.heap.size W0 w2) := grow_on HB1.out (grow_on HBW.out hb)
  have HAB2 : Hid (AB (w.heap.size + 5) w2 M PP.length rs) := (HAB.out.grow HBW.out).grow hb
  clear hb
  generalize hO : Obj.cells #[.slice none 0 0, .int .i64 0, .int .i64 0, .string ⟨#[]⟩] 29 = OX
  obtain ⟨n0, n1⟩ := cells2 (N2.out.alloc OX)
  obtain ⟨r0, r1⟩ := cells2 ((R0.out.grow HB2.out).alloc OX)
  obtain ⟨a0, a1, a2, a3⟩ := cells4 ((A0.out.grow HB2.out).alloc OX)
  have fr0 := ((R0.out.grow HB2.out).alloc OX).frozen 0
  have fr1 := ((R0.out.grow HB2.out).alloc OX).frozen 1
  have fa0 := ((A0.out.grow HB2.out).alloc OX).frozen 0
  have fa1 := ((A0.out.grow HB2.out).alloc OX).frozen 1
  have fa2 := ((A0.out.grow HB2.out).alloc OX).frozen 2
  have fa3 := ((A0.out.grow HB2.out).alloc OX).frozen 3
  have R2 : Hid (Blk (w2.alloc OX) (w.heap.size + 1) #[.slice none 0 0, .bool false] 26) := (R0.out.grow HB2.out).alloc OX
  have A2 : Hid (Blk (w2.alloc OX) (w.heap.size + 1 + 1) #[.slice none 0 0, .int .i64 0, .int .i64 0, .string ⟨#[]⟩] 29) := (A0.out.grow HB2.out).alloc OX
  have HAB3 : Hid (AB (w.heap.size + 5) (w2.alloc OX) M PP.length rs) := HAB2.out.grow (Go.Joins.below_alloc1 w2 _)
  have HB3 : Hid (Below w.heap.size w (w2.alloc OX)) := grow_on HB.out (grow_on HB2.out (Go.Joins.below_alloc1 w2 _))
  subst hO
  go_wp2
  have hne : w.heap.size + 1 ≠ w.heap.size + 1 + 1 := by omega
  have hR : Blk _ (w.heap.size + 1) #[.slice (some ⟨M, 0, none⟩) PP.length PP.length, .bool false] 26 := Alm.blk4 ((R2.out.set 0 (.slice (some ⟨M, 0, none⟩) PP.length PP.length)).set 1 (.bool false)) hne.symm (.slice none 0 0) (.int .i64 0) (.int .i64 0) (.string ⟨#[]⟩)
  have hA := Alm.put4 ((A2.out.set_other (p := ⟨w.heap.size + 1, 0, none⟩) hne (.slice (some ⟨M, 0, none⟩) PP.length PP.length)).set_other (p := ⟨w.heap.size + 1, 1, none⟩) hne (.bool false)) (.slice none 0 0) (.int .i64 0) (.int .i64 0) (.string ⟨#[]⟩)
  obtain ⟨s0, s1⟩ := cells2 hR
  obtain ⟨t0, t1, t2, t3⟩ := cells4 hA
  refine bodyPost_ret (v := .tuple #[.agg #[.slice (some ⟨M, 0, none⟩) PP.length PP.length, .bool false], .agg #[.slice none 0 0, .int .i64 0, .int .i64 0, .string ⟨#[]⟩], .int .i64 0]) (by simp [results, Try.results13, go_sem, s0, s1, t0, t1, t2, t3]) rfl ?_
  have hL := HLen.out
  have hrs : rs = [] := List.eq_nil_of_length_eq_zero (by have := HP.out.2; omega)
  have hF := HAB3.out
  rw [← hL, hrs] at hF
  exact ⟨⟨M, by rw [← hL], (ab_low4 (DrawC.ab_under (DrawC.ab_under hF (by omega) _ _) (by omega) _ _) (by omega) _ _ _ _).down (by omega)⟩, Alm.set4 (set2 HB3.out (Nat.le_add_right w.heap.size 1) _ _) (by omega) _ _ _ _⟩

set_option maxHeartbeats 800000 in
theorem specHearL_any (a : Option Addr) (cap : Nat) (P : List PAl) (w : World) :
    Calls Try.prog 14 #[.agg #[.slice a P.length cap, .bool true]] w fun e w' => e = .returned (.tuple #[.agg #[.slice none 0 0, .bool false], .agg #[.slice none 0 0, .int .i64 0, .int .i64 0, .string ⟨#[]⟩], .int .i64 2]) ∧ Below w.heap.size w w' := by
  generalize hW0 : ((w.alloc (.cells #[.slice a P.length cap, .bool true] 26)).alloc (.cells #[.slice none 0 0, .bool false] 26)).alloc (.cells #[.slice none 0 0, .int .i64 0, .int .i64 0, .string ⟨#[]⟩] 29) = W0
  have HB : Hid (Below w.heap.size w W0) := by rw [← hW0]; exact Alm.below3 w _ _ _
  have S0 : Hid (Blk W0 w.heap.size #[.slice a P.length cap, .bool true] 26) := by rw [← hW0]; exact ((Blk.new _ _ _).alloc _).alloc _
  have R0 : Hid (Blk W0 (w.heap.size + 1) #[.slice none 0 0, .bool false] 26) := by rw [← hW0]; exact (Blk.new_at (by simp)).alloc _
  have A0 : Hid (Blk W0 (w.heap.size + 1 + 1) #[.slice none 0 0, .int .i64 0, .int .i64 0, .string ⟨#[]⟩] 29) := by rw [← hW0]; exact Blk.new_at (by simp)
  go_enter Try.func14, Try.ntmps14
  go_upto_region 1 with fail
  clear hW0
  obtain ⟨p0, p1⟩ := cells2 S0.out
  obtain ⟨r0, r1⟩ := cells2 R0.out
  obtain ⟨a0, a1, a2, a3⟩ := cells4 A0.out
  have fr0 := R0.out.frozen 0
  have fr1 := R0.out.frozen 1
  have fa0 := A0.out.frozen 0
  have fa1 := A0.out.frozen 1
  have fa2 := A0.out.frozen 2
  have fa3 := A0.out.frozen 3
  go_wp2
  have hne : w.heap.size + 1 ≠ w.heap.size + 1 + 1 := by omega
  have hR : Blk _ (w.heap.size + 1) #[.slice none 0 0, .bool false] 26 := Alm.blk4 ((R0.out.set 0 (.slice none 0 0)).set 1 (.bool false)) hne.symm (.slice none 0 0) (.int .i64 0) (.int .i64 0) (.string ⟨#[]⟩)
  have hA := Alm.put4 ((A0.out.set_other (p := ⟨w.heap.size + 1, 0, none⟩) hne (.slice none 0 0)).set_other (p := ⟨w.heap.size + 1, 1, none⟩) hne (.bool false)) (.slice none 0 0) (.int .i64 0) (.int .i64 0) (.string ⟨#[]⟩)
  obtain ⟨s0, s1⟩ := cells2 hR
  obtain ⟨t0, t1, t2, t3⟩ := cells4 hA
  refine bodyPost_ret (v := .tuple #[.agg #[.slice none 0 0, .bool false], .agg #[.slice none 0 0, .int .i64 0, .int .i64 0, .string ⟨#[]⟩], .int .i64 2]) (by simp [results, Try.results14, go_sem, s0, s1, t0, t1, t2, t3]) rfl ?_
  exact ⟨rfl, Alm.set4 (set2 HB.out (Nat.le_add_right w.heap.size 1) _ _) (by omega) _ _ _ _⟩

set_option maxHeartbeats 800000 in
theorem specHearN_any (a : Option Addr) (cap : Nat) (w : World) :
    Calls Try.prog 14 #[.agg #[.slice a 0 cap, .bool false]] w fun e w' => e = .returned (.tuple #[.agg #[.slice none 0 0, .bool false], .agg #[.slice none 0 0, .int .i64 0, .int .i64 0, .string ⟨#[]⟩], .int .i64 0]) ∧ Below w.heap.size w w' := by
  generalize hW0 : ((w.alloc (.cells #[.slice a 0 cap, .bool false] 26)).alloc (.cells #[.slice none 0 0, .bool false] 26)).alloc (.cells #[.slice none 0 0, .int .i64 0, .int .i64 0, .string ⟨#[]⟩] 29) = W0
  have HB : Hid (Below w.heap.size w W0) := by rw [← hW0]; exact Alm.below3 w _ _ _
  have S0 : Hid (Blk W0 w.heap.size #[.slice a 0 cap, .bool false] 26) := by rw [← hW0]; exact ((Blk.new _ _ _).alloc _).alloc _
  have R0 : Hid (Blk W0 (w.heap.size + 1) #[.slice none 0 0, .bool false] 26) := by rw [← hW0]; exact (Blk.new_at (by simp)).alloc _
  have A0 : Hid (Blk W0 (w.heap.size + 1 + 1) #[.slice none 0 0, .int .i64 0, .int .i64 0, .string ⟨#[]⟩] 29) := by rw [← hW0]; exact Blk.new_at (by simp)
  go_enter Try.func14, Try.ntmps14
  go_upto_region 1 with fail
  clear hW0
  obtain ⟨p0, p1⟩ := cells2 S0.out
  obtain ⟨r0, r1⟩ := cells2 R0.out
  obtain ⟨a0, a1, a2, a3⟩ := cells4 A0.out
  have fr0 := R0.out.frozen 0
  have fr1 := R0.out.frozen 1
  have fa0 := A0.out.frozen 0
  have fa1 := A0.out.frozen 1
  have fa2 := A0.out.frozen 2
  have fa3 := A0.out.frozen 3
  go_wp2
  have hne : w.heap.size + 1 ≠ w.heap.size + 1 + 1 := by omega
  have hR : Blk _ (w.heap.size + 1) #[.slice none 0 0, .bool false] 26 := Alm.blk4 ((R0.out.set 0 (.slice none 0 0)).set 1 (.bool false)) hne.symm (.slice none 0 0) (.int .i64 0) (.int .i64 0) (.string ⟨#[]⟩)
  have hA := Alm.put4 ((A0.out.set_other (p := ⟨w.heap.size + 1, 0, none⟩) hne (.slice none 0 0)).set_other (p := ⟨w.heap.size + 1, 1, none⟩) hne (.bool false)) (.slice none 0 0) (.int .i64 0) (.int .i64 0) (.string ⟨#[]⟩)
  obtain ⟨s0, s1⟩ := cells2 hR
  obtain ⟨t0, t1, t2, t3⟩ := cells4 hA
  refine bodyPost_ret (v := .tuple #[.agg #[.slice none 0 0, .bool false], .agg #[.slice none 0 0, .int .i64 0, .int .i64 0, .string ⟨#[]⟩], .int .i64 0]) (by simp [results, Try.results14, go_sem, s0, s1, t0, t1, t2, t3]) rfl ?_
  exact ⟨rfl, Alm.set4 (set2 HB.out (Nat.le_add_right w.heap.size 1) _ _) (by omega) _ _ _ _⟩

set_option maxRecDepth 100000 in
set_option maxHeartbeats 1600000 in
theorem specHearC_any (a : Option Addr) (cap : Nat) (y : PAl) (P : List PAl) (w : World) (hr : RdN w a (y :: P)) (hl : (y :: P).length ≤ 1048576) (hs : LenM (y :: P)) (hcap : (y :: P).length ≤ cap) :
    Calls Try.prog 14 #[.agg #[.slice a (y :: P).length cap, .bool false]] w fun e w' => (∃ M c gy cy rs, e = .returned (.tuple #[.agg #[.slice (some ⟨M, 0, none⟩) rs.length c, .bool false], .agg #[.slice (some ⟨gy, 0, none⟩) y.l.length cy, .int .i64 y.s, .int .i64 y.e, .string y.n], .int .i64 1]) ∧ AB w.heap.size w' M c rs ∧ pals rs = P ∧ OwnA w.heap.size w' (gy, cy, y)) ∧ Below w.heap.size w w' := by
  have hr0 := hr
  obtain ⟨b, off, rfl, hb, hat⟩ : ∃ b off, a = some ⟨b, off, none⟩ ∧ b < w.heap.size ∧ ∀ i, i < (y :: P).length → ∃ g o c, At w b off i (nthP (y :: P) i) (some ⟨g, o, none⟩) c := by
    rcases hr with h | h
    · cases h
    · exact h
  obtain ⟨g, o, cg, h0⟩ := hat 0 (by simp)
  have HT : Hid (∀ of, (of = off + 4 ∨ P = []) → RdN w (some ⟨b, of, none⟩) P) := fun of ho => by
    rcases ho with rfl | rfl
    · refine .inr ⟨b, off + 4, rfl, hb, fun i hi => ?_⟩
      obtain ⟨g, o, c, h⟩ := hat (i + 1) (by simp; omega)
      have e : nthP (y :: P) (i + 1) = nthP P i := by simp [nthP]
      rw [e] at h
      have ek : off + (i + 1) * 4 = off + 4 + i * 4 := by omega
      exact ⟨g, o, c, by rw [← ek]; exact h.c0, by rw [← ek]; exact h.c1, by rw [← ek]; exact h.c2, by rw [← ek]; exact h.c3, h.reads⟩
    · exact .inl rfl
  have e0 : nthP (y :: P) 0 = y := rfl
  rw [e0] at h0
  have q0 : w.cell? ⟨b, off, none⟩ = some (.slice (some ⟨g, o, none⟩) y.l.length cg) := by have := h0.c0; rwa [Nat.zero_mul, Nat.add_zero] at this
  have q1 : w.cell? ⟨b, off + 1, none⟩ = some (.int .i64 y.s) := by have := h0.c1; rwa [Nat.zero_mul, Nat.add_zero] at this
  have q2 : w.cell? ⟨b, off + 2, none⟩ = some (.int .i64 y.e) := by have := h0.c2; rwa [Nat.zero_mul, Nat.add_zero] at this
  have q3 : w.cell? ⟨b, off + 3, none⟩ = some (.string y.n) := by have := h0.c3; rwa [Nat.zero_mul, Nat.add_zero] at this
  have HRy : Hid (Reads w (some ⟨g, o, none⟩) y.l ∧ y.l.length ≤ 1048576) := ⟨h0.reads, hs 0 (by simp)⟩
  have HQ : Hid (w.cell? ⟨b, off, none⟩ = some (.slice (some ⟨g, o, none⟩) y.l.length cg) ∧ w.cell? ⟨b, off + 1, none⟩ = some (.int .i64 y.s) ∧ w.cell? ⟨b, off + 2, none⟩ = some (.int .i64 y.e) ∧ w.cell? ⟨b, off + 3, none⟩ = some (.string y.n)) := ⟨q0, q1, q2, q3⟩
  have HS : Hid (LenM P) := fun i hi => by have h := hs (i + 1) (by simp; omega); have e : nthP (y :: P) (i + 1) = nthP P i := by simp [nthP]
                                           rwa [e] at h
  clear hr hr0 hat h0 e0 q0 q1 q2 q3 hs
  simp only [List.length_cons] at hl hcap ⊢
  have hcap' : ((P.length + 1 : Nat) : Int) ≤ (cap : Int) := by omega
  have HCP : Hid (P.length + 1 ≤ cap) := hcap
  have hlP : P.length ≤ 1048576 := by omega
  generalize hW0 : ((w.alloc (.cells #[.slice (some ⟨b, off, none⟩) (P.length + 1) cap, .bool false] 26)).alloc (.cells #[.slice none 0 0, .bool false] 26)).alloc (.cells #[.slice none 0 0, .int .i64 0, .int .i64 0, .string ⟨#[]⟩] 29) = W0
  have HB : Hid (Below w.heap.size w W0) := by rw [← hW0]; exact Alm.below3 w _ _ _
  have S0 : Hid (Blk W0 w.heap.size #[.slice (some ⟨b, off, none⟩) (P.length + 1) cap, .bool false] 26) := by rw [← hW0]; exact ((Blk.new _ _ _).alloc _).alloc _
  have R0 : Hid (Blk W0 (w.heap.size + 1) #[.slice none 0 0, .bool false] 26) := by rw [← hW0]; exact (Blk.new_at (by simp)).alloc _
  have A0 : Hid (Blk W0 (w.heap.size + 1 + 1) #[.slice none 0 0, .int .i64 0, .int .i64 0, .string ⟨#[]⟩] 29) := by rw [← hW0]; exact Blk.new_at (by simp)
  have HZ : Hid (W0.heap.size = w.heap.size + 3) := by show _ = _; rw [← hW0]; simp
  have HC : Hid (∀ of cp, (of = off + 4 ∨ P = []) → ∀ z, Below W0.heap.size W0 z → Calls Try.prog 48 #[.slice (some ⟨b, of, none⟩) P.length cp] z fun e w' => (∃ M c rs, e = .returned (.slice (some ⟨M, 0, none⟩) rs.length c) ∧ AB z.heap.size w' M c rs ∧ pals rs = P) ∧ Below z.heap.size z w') := fun of cp ho z hz => l4All_any _ cp P z ((HT.out of ho).below (grow_on HB.out hz)) hlP HS.out
  have HD : Hid (∀ z, Below W0.heap.size W0 z → Calls Try.prog 49 #[.agg #[.slice (some ⟨g, o, none⟩) y.l.length cg, .int .i64 y.s, .int .i64 y.e, .string y.n]] z fun r w' => (∃ M c, r = .returned (.agg #[.slice (some ⟨M, 0, none⟩) y.l.length c, .int .i64 y.s, .int .i64 y.e, .string y.n]) ∧ LabR.Own z w' M y.l) ∧ Below z.heap.size z w') := fun z hz => copyS_any _ _ _ _ _ _ _ z (HRy.out.1.below (grow_on HB.out hz)) HRy.out.2
  go_enter Try.func14, Try.ntmps14
  go_upto_region 1 with fail
  clear hW0
  obtain ⟨p0, p1⟩ := cells2 S0.out
  have hpos : ¬ ((P.length + 1 : Nat) : Int) = 0 := by omega
  go_upto_region 5 with fail
  clear p0 p1
  have HSS : Hid (∀ w', Below w.heap.size w w' → Blk w' w.heap.size #[.slice (some ⟨b, off, none⟩) (P.length + 1) cap, .bool false] 26 → w'.cell? ⟨w.heap.size, 0, none⟩ = some (.slice (some ⟨b, off, none⟩) (P.length + 1) cap) ∧ w'.cell? ⟨w.heap.size, 1, none⟩ = some (.bool false) ∧ w'.cell? ⟨b, off, none⟩ = some (.slice (some ⟨g, o, none⟩) y.l.length cg) ∧ w'.cell? ⟨b, off + 1, none⟩ = some (.int .i64 y.s) ∧ w'.cell? ⟨b, off + 2, none⟩ = some (.int .i64 y.e) ∧ w'.cell? ⟨b, off + 3, none⟩ = some (.string y.n)) := fun w' h k => ⟨k.cell 0, k.cell 1, (h.cell (p := ⟨b, off, none⟩) hb).trans HQ.out.1, (h.cell (p := ⟨b, off + 1, none⟩) hb).trans HQ.out.2.1, (h.cell (p := ⟨b, off + 2, none⟩) hb).trans HQ.out.2.2.1, (h.cell (p := ⟨b, off + 3, none⟩) hb).trans HQ.out.2.2.2⟩
  have hne : w.heap.size + 1 ≠ w.heap.size + 1 + 1 := by omega
  have hnS1 : w.heap.size + 1 ≠ w.heap.size := by omega
  have hnS2 : w.heap.size + 1 + 1 ≠ w.heap.size := by omega
  by_cases hc1 : cap = 1
  ·
    have HE : Hid (P = []) := List.eq_nil_of_length_eq_zero (by have := HCP.out; omega)
    have HC1 : Hid (∀ z, Below W0.heap.size W0 z → Calls Try.prog 48 #[.slice (some ⟨b, off, none⟩) 0 (0)] z fun e w' => (∃ M c rs, e = .returned (.slice (some ⟨M, 0, none⟩) rs.length c) ∧ AB z.heap.size w' M c rs ∧ pals rs = P) ∧ Below z.heap.size z w') := fun z hz => by have h := HC.out off 0 (.inr HE.out) z hz; rw [show P.length = 0 by rw [HE.out]; rfl] at h; exact h
    have hPl : P.length = 0 := by rw [HE.out]; rfl
    subst hc1
    refine wp_region_held_drew (S := fun w' => w'.cell? ⟨w.heap.size, 0, none⟩ = some (.slice (some ⟨b, off, none⟩) (P.length + 1) 1) ∧ w'.cell? ⟨w.heap.size, 1, none⟩ = some (.bool false) ∧ w'.cell? ⟨b, off, none⟩ = some (.slice (some ⟨g, o, none⟩) y.l.length cg) ∧ w'.cell? ⟨b, off + 1, none⟩ = some (.int .i64 y.s) ∧ w'.cell? ⟨b, off + 2, none⟩ = some (.int .i64 y.e) ∧ w'.cell? ⟨b, off + 3, none⟩ = some (.string y.n)) (by kernel_rfl) (HSS.out _ HB.out.drew S0.out.drew) (fun hHeld => ?_)
    refine wpAnyH_take (i := 0) (oi := { dst := some 15, op := Op.fieldAddr 26 (Operand.tmp 1) 0, type := 0, pos := "l09_sub.go:47", after := #[], guard := none }) (v := ?vu0) rfl (by kernel_rfl) (by kernel_rfl) (by kernel_rfl) (fun _ _ _ h => h) (Or.inl ⟨by rfl, ?hyu0⟩) hHeld ?_
    case hyu0 => (intro w hSw; (try dsimp only at hSw); go_simp <;> with_reducible rfl)
    try simp only [Act.put, List.setIfInBounds_toArray, List.set_cons_zero, List.set_cons_succ]
    refine wpAnyH_take (i := 1) (oi := { dst := some 16, op := Op.load 24 (Operand.tmp 15), type := 24, pos := "l09_sub.go:47", after := #[{ on := 0, ground := Ground.data }], guard := none }) (v := ?vu1) rfl (by kernel_rfl) (by kernel_rfl) (by kernel_rfl) (fun _ _ _ h => h) (Or.inl ⟨by rfl, ?hyu1⟩) hHeld ?_
    case hyu1 => (intro w hSw; (try dsimp only at hSw); go_simp <;> with_reducible rfl)
    try simp only [Act.put, List.setIfInBounds_toArray, List.set_cons_zero, List.set_cons_succ]
    refine wpAnyH_take (i := 2) (oi := { dst := some 17, op := Op.slice 24 (Operand.tmp 16) (some (Operand.const (Value.int IntKind.i64 1))) none none, type := 24, pos := "l09_sub.go:47", after := #[{ on := 1, ground := Ground.data }], guard := none }) (v := ?vu2) rfl (by kernel_rfl) (by kernel_rfl) (by kernel_rfl) (fun _ _ _ h => h) (Or.inl ⟨by rfl, ?hyu2⟩) hHeld ?_
    case hyu2 => (intro w hSw; (try dsimp only at hSw); go_simp <;> with_reducible rfl)
    try simp only [Act.put, List.setIfInBounds_toArray, List.set_cons_zero, List.set_cons_succ]
    refine wpAnyH_take (i := 5) (oi := { dst := some 20, op := Op.fieldAddr 26 (Operand.tmp 1) 0, type := 0, pos := "l09_sub.go:47", after := #[], guard := none }) (v := ?vu5) rfl (by kernel_rfl) (by kernel_rfl) (by kernel_rfl) (fun _ _ _ h => h) (Or.inl ⟨by rfl, ?hyu5⟩) hHeld ?_
    case hyu5 => (intro w hSw; (try dsimp only at hSw); go_simp <;> with_reducible rfl)
    try simp only [Act.put, List.setIfInBounds_toArray, List.set_cons_zero, List.set_cons_succ]
    refine wpAnyH_take (i := 6) (oi := { dst := some 21, op := Op.load 24 (Operand.tmp 20), type := 24, pos := "l09_sub.go:47", after := #[{ on := 5, ground := Ground.data }], guard := none }) (v := ?vu6) rfl (by kernel_rfl) (by kernel_rfl) (by kernel_rfl) (fun _ _ _ h => h) (Or.inl ⟨by rfl, ?hyu6⟩) hHeld ?_
    case hyu6 => (intro w hSw; (try dsimp only at hSw); go_simp <;> with_reducible rfl)
    try simp only [Act.put, List.setIfInBounds_toArray, List.set_cons_zero, List.set_cons_succ]
    refine wpAnyH_take (i := 7) (oi := { dst := some 22, op := Op.indexAddr 24 (Operand.tmp 21) (Operand.const (Value.int IntKind.i64 0)), type := 0, pos := "l09_sub.go:47", after := #[{ on := 6, ground := Ground.data }], guard := none }) (v := ?vu7) rfl (by kernel_rfl) (by kernel_rfl) (by kernel_rfl) (fun _ _ _ h => h) (Or.inl ⟨by rfl, ?hyu7⟩) hHeld ?_
    case hyu7 => (intro w hSw; (try dsimp only at hSw); go_simp <;> with_reducible rfl)
    try simp only [Act.put, List.setIfInBounds_toArray, List.set_cons_zero, List.set_cons_succ]
    refine wpAnyH_take (i := 8) (oi := { dst := some 23, op := Op.load 29 (Operand.tmp 22), type := 29, pos := "l09_sub.go:47", after := #[{ on := 7, ground := Ground.data }], guard := none }) (v := ?vu8) rfl (by kernel_rfl) (by kernel_rfl) (by kernel_rfl) (fun _ _ _ h => h) (Or.inl ⟨by rfl, ?hyu8⟩) hHeld ?_
    case hyu8 => (intro w hSw; (try dsimp only at hSw); go_simp <;> with_reducible rfl)
    try simp only [Act.put, List.setIfInBounds_toArray, List.set_cons_zero, List.set_cons_succ]
    refine wpAnyH_ready (rs := [3]) (by kernel_rfl) (by simp) ?_
    refine AllReadyH.cons (o := { dst := some 18, op := Op.call { callee := Callee.value (Operand.func 48), args := #[Operand.tmp 17], argTypes := #[24] }, type := 24, pos := "l09_sub.go:47", after := #[{ on := 2, ground := Ground.data }], guard := none }) rfl (fun K hK => ?_) AllReadyH.nil
    go_simp
    refine (HC1.out _ (Below.refl _ _).drew).mono ?_
    rintro r wyu3 ⟨⟨M, c, rs, rfl, hab, hp⟩, hy⟩
    have HY1 : Hid (Below W0.heap.size W0 wyu3) := grow_on (Below.refl _ _).drew hy
    have HAB1 : Hid (AB (w.heap.size + 3) wyu3 M c rs) := hab.down (by have := HZ.out; show _ ≤ W0.drew.heap.size; simp; omega)
    have HP : Hid (pals rs = P) := hp
    clear hy hab hp
    clear hHeld
    refine hK.out _ _ (HSS.out _ (grow_on HB.out HY1.out) (S0.out.grow HY1.out)) (fun hHeld => ?_)
    clear hK K
    try simp only [Act.put, List.setIfInBounds_toArray, List.set_cons_zero, List.set_cons_succ]
    refine wpAnyH_take (i := 4) (oi := { dst := some 19, op := Op.build 26 #[(0, Operand.tmp 18)], type := 26, pos := "l09_sub.go:47", after := #[{ on := 3, ground := Ground.data }], guard := none }) (v := ?vu4) rfl (by kernel_rfl) (by kernel_rfl) (by kernel_rfl) (fun _ _ _ h => h) (Or.inl ⟨by rfl, ?hyu4⟩) hHeld ?_
    case hyu4 => (intro w hSw; (try dsimp only at hSw); go_simp <;> with_reducible rfl)
    try simp only [Act.put, List.setIfInBounds_toArray, List.set_cons_zero, List.set_cons_succ]
    refine wpAnyH_ready (rs := [9]) (by kernel_rfl) (by simp) ?_
    refine AllReadyH.cons (o := { dst := some 24, op := Op.call { callee := Callee.value (Operand.func 49), args := #[Operand.tmp 23], argTypes := #[29] }, type := 29, pos := "l09_sub.go:47", after := #[{ on := 8, ground := Ground.data }, { on := 3, ground := Ground.chain }], guard := none }) rfl (fun K hK => ?_) AllReadyH.nil
    go_simp
    refine (HD.out _ HY1.out).mono ?_
    rintro r wyu9 ⟨⟨gy, cy, rfl, hO⟩, hy⟩
    have HY2 : Hid (Below W0.heap.size W0 wyu9) := grow_on HY1.out hy
    have HO : Hid (OwnA (w.heap.size + 3) wyu9 (gy, cy, y)) := (own_of_copy hO HRy.out.2).down (by have := HZ.out; have := HY1.out.size; omega)
    have HAB2 : Hid (AB (w.heap.size + 3) wyu9 M c rs) := HAB1.out.grow hy
    have R2 : Hid (Blk wyu9 (w.heap.size + 1) #[.slice none 0 0, .bool false] 26) := R0.out.grow HY2.out
    have A2 : Hid (Blk wyu9 (w.heap.size + 1 + 1) #[.slice none 0 0, .int .i64 0, .int .i64 0, .string ⟨#[]⟩] 29) := A0.out.grow HY2.out
    obtain ⟨r0, r1⟩ := cells2 R2.out
    obtain ⟨a0, a1, a2, a3⟩ := cells4 A2.out
    have fr0 := R2.out.frozen 0
    have fr1 := R2.out.frozen 1
    have fa0 := A2.out.frozen 0
    have fa1 := A2.out.frozen 1
    have fa2 := A2.out.frozen 2
    have fa3 := A2.out.frozen 3
    clear hy hO
    clear hHeld
    refine hK.out _ _ (HSS.out _ (grow_on HB.out HY2.out) (S0.out.grow HY2.out)) (fun hHeld => ?_)
    clear hK K
    try simp only [Act.put, List.setIfInBounds_toArray, List.set_cons_zero, List.set_cons_succ]
    refine wpAnyH_ready (rs := [10]) (by kernel_rfl) (by simp) ?_
    refine AllReadyH.cons (o := { dst := none, op := Op.store 26 (Operand.tmp 2) (Operand.tmp 19), type := 0, pos := "l09_sub.go:47", after := #[{ on := 4, ground := Ground.data }, { on := 9, ground := Ground.chain }, { on := 0, ground := Ground.phase }, { on := 1, ground := Ground.phase }, { on := 2, ground := Ground.phase }, { on := 3, ground := Ground.phase }, { on := 4, ground := Ground.phase }, { on := 5, ground := Ground.textOnly Departure.lateStores }, { on := 6, ground := Ground.textOnly Departure.lateStores }, { on := 7, ground := Ground.textOnly Departure.lateStores }, { on := 8, ground := Ground.textOnly Departure.lateStores }, { on := 9, ground := Ground.textOnly Departure.lateStoresUnsure }], guard := none }) rfl (fun K hK => ?_) AllReadyH.nil
    go_simp
    clear hHeld
    refine hK.out _ _ (HSS.out _ (set2 (grow_on HB.out HY2.out) (Nat.le_add_right w.heap.size 1) _ _) (blk2 (S0.out.grow HY2.out) hnS1 _ _)) (fun hHeld => ?_)
    clear hK K
    try simp only [Act.put, List.setIfInBounds_toArray, List.set_cons_zero, List.set_cons_succ]
    refine wpAnyH_ready (rs := [11]) (by kernel_rfl) (by simp) ?_
    refine AllReadyH.cons (o := { dst := none, op := Op.store 29 (Operand.tmp 3) (Operand.tmp 24), type := 0, pos := "l09_sub.go:47", after := #[{ on := 9, ground := Ground.data }, { on := 10, ground := Ground.chain }, { on := 0, ground := Ground.phase }, { on := 1, ground := Ground.phase }, { on := 2, ground := Ground.phase }, { on := 3, ground := Ground.phase }, { on := 4, ground := Ground.phase }, { on := 5, ground := Ground.phase }, { on := 6, ground := Ground.phase }, { on := 7, ground := Ground.phase }, { on := 8, ground := Ground.phase }, { on := 9, ground := Ground.phase }, { on := 10, ground := Ground.phase }], guard := none }) rfl (fun K hK => ?_) AllReadyH.nil
    go_simp
    clear hHeld
    refine hK.out _ _ (HSS.out _ (Alm.set4 (set2 (grow_on HB.out HY2.out) (Nat.le_add_right w.heap.size 1) _ _) (by omega) _ _ _ _) (Alm.blk4 (blk2 (S0.out.grow HY2.out) hnS1 _ _) hnS2 _ _ _ _)) (fun hHeld => ?_)
    clear hK K
    try simp only [Act.put, List.setIfInBounds_toArray, List.set_cons_zero, List.set_cons_succ]
    refine wpAnyH_take (i := 12) (oi := { dst := some 4, op := Op.assign (Operand.const (Value.int IntKind.i64 1)), type := 3, pos := "l09_sub.go:47", after := #[{ on := 11, ground := Ground.chain }, { on := 0, ground := Ground.phase }, { on := 1, ground := Ground.phase }, { on := 2, ground := Ground.phase }, { on := 3, ground := Ground.phase }, { on := 4, ground := Ground.phase }, { on := 5, ground := Ground.phase }, { on := 6, ground := Ground.phase }, { on := 7, ground := Ground.phase }, { on := 8, ground := Ground.phase }, { on := 9, ground := Ground.phase }, { on := 10, ground := Ground.phase }, { on := 11, ground := Ground.phase }], guard := none }) (v := ?vu12) rfl (by kernel_rfl) (by kernel_rfl) (by kernel_rfl) (fun _ _ _ h => h) (Or.inl ⟨by rfl, ?hyu12⟩) hHeld ?_
    case hyu12 => (intro w hSw; (try dsimp only at hSw); go_simp <;> with_reducible rfl)
    try simp only [Act.put, List.setIfInBounds_toArray, List.set_cons_zero, List.set_cons_succ]
    refine wpAnyH_done (by kernel_rfl) ?_ _
    go_wp2
    have hR : Blk _ (w.heap.size + 1) #[.slice (some ⟨M, 0, none⟩) rs.length c, .bool false] 26 := Alm.blk4 ((R2.out.set 0 (.slice (some ⟨M, 0, none⟩) rs.length c)).set 1 (.bool false)) hne.symm (.slice (some ⟨gy, 0, none⟩) y.l.length cy) (.int .i64 y.s) (.int .i64 y.e) (.string y.n)
    have hA := Alm.put4 ((A2.out.set_other (p := ⟨w.heap.size + 1, 0, none⟩) hne (.slice (some ⟨M, 0, none⟩) rs.length c)).set_other (p := ⟨w.heap.size + 1, 1, none⟩) hne (.bool false)) (.slice (some ⟨gy, 0, none⟩) y.l.length cy) (.int .i64 y.s) (.int .i64 y.e) (.string y.n)
    obtain ⟨s0, s1⟩ := cells2 hR
    obtain ⟨t0, t1, t2, t3⟩ := cells4 hA
    refine bodyPost_ret (v := .tuple #[.agg #[.slice (some ⟨M, 0, none⟩) rs.length c, .bool false], .agg #[.slice (some ⟨gy, 0, none⟩) y.l.length cy, .int .i64 y.s, .int .i64 y.e, .string y.n], .int .i64 1]) (by simp [results, Try.results14, go_sem, s0, s1, t0, t1, t2, t3]) rfl ?_
    have hF := (ab_low6' (w.heap.size + 1) (w.heap.size + 1 + 1) HAB2.out (by omega) (by omega) (.slice (some ⟨M, 0, none⟩) rs.length c) (.bool false) (.slice (some ⟨gy, 0, none⟩) y.l.length cy) (.int .i64 y.s) (.int .i64 y.e) (.string y.n)).down (show w.heap.size ≤ w.heap.size + 3 by omega)
    have hG := (own_low6 (w.heap.size + 1) (w.heap.size + 1 + 1) HO.out (by omega) (by omega) (.slice (some ⟨M, 0, none⟩) rs.length c) (.bool false) (.slice (some ⟨gy, 0, none⟩) y.l.length cy) (.int .i64 y.s) (.int .i64 y.e) (.string y.n)).down (show w.heap.size ≤ w.heap.size + 3 by omega)
    exact ⟨⟨M, c, gy, cy, rs, rfl, hF, HP.out, hG⟩, Alm.set4 (set2 (grow_on HB.out HY2.out) (Nat.le_add_right w.heap.size 1) _ _) (by omega) _ _ _ _⟩
  ·
    have HC1 : Hid (∀ z, Below W0.heap.size W0 z → Calls Try.prog 48 #[.slice (some ⟨b, off + 4, none⟩) P.length (cap - 1)] z fun e w' => (∃ M c rs, e = .returned (.slice (some ⟨M, 0, none⟩) rs.length c) ∧ AB z.heap.size w' M c rs ∧ pals rs = P) ∧ Below z.heap.size z w') := HC.out (off + 4) (cap - 1) (.inl rfl)
    have hc2 : ¬ (1 : Int) = (cap : Int) := by omega
    have hpl1 : (1 : Int) ≤ (P.length : Int) + 1 := by omega
    refine wp_region_held_drew (S := fun w' => w'.cell? ⟨w.heap.size, 0, none⟩ = some (.slice (some ⟨b, off, none⟩) (P.length + 1) cap) ∧ w'.cell? ⟨w.heap.size, 1, none⟩ = some (.bool false) ∧ w'.cell? ⟨b, off, none⟩ = some (.slice (some ⟨g, o, none⟩) y.l.length cg) ∧ w'.cell? ⟨b, off + 1, none⟩ = some (.int .i64 y.s) ∧ w'.cell? ⟨b, off + 2, none⟩ = some (.int .i64 y.e) ∧ w'.cell? ⟨b, off + 3, none⟩ = some (.string y.n)) (by kernel_rfl) (HSS.out _ HB.out.drew S0.out.drew) (fun hHeld => ?_)
    refine wpAnyH_take (i := 0) (oi := { dst := some 15, op := Op.fieldAddr 26 (Operand.tmp 1) 0, type := 0, pos := "l09_sub.go:47", after := #[], guard := none }) (v := ?vv0) rfl (by kernel_rfl) (by kernel_rfl) (by kernel_rfl) (fun _ _ _ h => h) (Or.inl ⟨by rfl, ?hyv0⟩) hHeld ?_
    case hyv0 => (intro w hSw; (try dsimp only at hSw); go_simp <;> with_reducible rfl)
    try simp only [Act.put, List.setIfInBounds_toArray, List.set_cons_zero, List.set_cons_succ]
    refine wpAnyH_take (i := 1) (oi := { dst := some 16, op := Op.load 24 (Operand.tmp 15), type := 24, pos := "l09_sub.go:47", after := #[{ on := 0, ground := Ground.data }], guard := none }) (v := ?vv1) rfl (by kernel_rfl) (by kernel_rfl) (by kernel_rfl) (fun _ _ _ h => h) (Or.inl ⟨by rfl, ?hyv1⟩) hHeld ?_
    case hyv1 => (intro w hSw; (try dsimp only at hSw); go_simp <;> with_reducible rfl)
    try simp only [Act.put, List.setIfInBounds_toArray, List.set_cons_zero, List.set_cons_succ]
    refine wpAnyH_take (i := 2) (oi := { dst := some 17, op := Op.slice 24 (Operand.tmp 16) (some (Operand.const (Value.int IntKind.i64 1))) none none, type := 24, pos := "l09_sub.go:47", after := #[{ on := 1, ground := Ground.data }], guard := none }) (v := ?vv2) rfl (by kernel_rfl) (by kernel_rfl) (by kernel_rfl) (fun _ _ _ h => h) (Or.inl ⟨by rfl, ?hyv2⟩) hHeld ?_
    case hyv2 => (intro w hSw; (try dsimp only at hSw); go_simp <;> with_reducible rfl)
    try simp only [Act.put, List.setIfInBounds_toArray, List.set_cons_zero, List.set_cons_succ]
    refine wpAnyH_take (i := 5) (oi := { dst := some 20, op := Op.fieldAddr 26 (Operand.tmp 1) 0, type := 0, pos := "l09_sub.go:47", after := #[], guard := none }) (v := ?vv5) rfl (by kernel_rfl) (by kernel_rfl) (by kernel_rfl) (fun _ _ _ h => h) (Or.inl ⟨by rfl, ?hyv5⟩) hHeld ?_
    case hyv5 => (intro w hSw; (try dsimp only at hSw); go_simp <;> with_reducible rfl)
    try simp only [Act.put, List.setIfInBounds_toArray, List.set_cons_zero, List.set_cons_succ]
    refine wpAnyH_take (i := 6) (oi := { dst := some 21, op := Op.load 24 (Operand.tmp 20), type := 24, pos := "l09_sub.go:47", after := #[{ on := 5, ground := Ground.data }], guard := none }) (v := ?vv6) rfl (by kernel_rfl) (by kernel_rfl) (by kernel_rfl) (fun _ _ _ h => h) (Or.inl ⟨by rfl, ?hyv6⟩) hHeld ?_
    case hyv6 => (intro w hSw; (try dsimp only at hSw); go_simp <;> with_reducible rfl)
    try simp only [Act.put, List.setIfInBounds_toArray, List.set_cons_zero, List.set_cons_succ]
    refine wpAnyH_take (i := 7) (oi := { dst := some 22, op := Op.indexAddr 24 (Operand.tmp 21) (Operand.const (Value.int IntKind.i64 0)), type := 0, pos := "l09_sub.go:47", after := #[{ on := 6, ground := Ground.data }], guard := none }) (v := ?vv7) rfl (by kernel_rfl) (by kernel_rfl) (by kernel_rfl) (fun _ _ _ h => h) (Or.inl ⟨by rfl, ?hyv7⟩) hHeld ?_
    case hyv7 => (intro w hSw; (try dsimp only at hSw); go_simp <;> with_reducible rfl)
    try simp only [Act.put, List.setIfInBounds_toArray, List.set_cons_zero, List.set_cons_succ]
    refine wpAnyH_take (i := 8) (oi := { dst := some 23, op := Op.load 29 (Operand.tmp 22), type := 29, pos := "l09_sub.go:47", after := #[{ on := 7, ground := Ground.data }], guard := none }) (v := ?vv8) rfl (by kernel_rfl) (by kernel_rfl) (by kernel_rfl) (fun _ _ _ h => h) (Or.inl ⟨by rfl, ?hyv8⟩) hHeld ?_
    case hyv8 => (intro w hSw; (try dsimp only at hSw); go_simp <;> with_reducible rfl)
    try simp only [Act.put, List.setIfInBounds_toArray, List.set_cons_zero, List.set_cons_succ]
    refine wpAnyH_ready (rs := [3]) (by kernel_rfl) (by simp) ?_
    refine AllReadyH.cons (o := { dst := some 18, op := Op.call { callee := Callee.value (Operand.func 48), args := #[Operand.tmp 17], argTypes := #[24] }, type := 24, pos := "l09_sub.go:47", after := #[{ on := 2, ground := Ground.data }], guard := none }) rfl (fun K hK => ?_) AllReadyH.nil
    go_simp
    refine (HC1.out _ (Below.refl _ _).drew).mono ?_
    rintro r wyv3 ⟨⟨M, c, rs, rfl, hab, hp⟩, hy⟩
    have HY1 : Hid (Below W0.heap.size W0 wyv3) := grow_on (Below.refl _ _).drew hy
    have HAB1 : Hid (AB (w.heap.size + 3) wyv3 M c rs) := hab.down (by have := HZ.out; show _ ≤ W0.drew.heap.size; simp; omega)
    have HP : Hid (pals rs = P) := hp
    clear hy hab hp
    clear hHeld
    refine hK.out _ _ (HSS.out _ (grow_on HB.out HY1.out) (S0.out.grow HY1.out)) (fun hHeld => ?_)
    clear hK K
    try simp only [Act.put, List.setIfInBounds_toArray, List.set_cons_zero, List.set_cons_succ]
    refine wpAnyH_take (i := 4) (oi := { dst := some 19, op := Op.build 26 #[(0, Operand.tmp 18)], type := 26, pos := "l09_sub.go:47", after := #[{ on := 3, ground := Ground.data }], guard := none }) (v := ?vv4) rfl (by kernel_rfl) (by kernel_rfl) (by kernel_rfl) (fun _ _ _ h => h) (Or.inl ⟨by rfl, ?hyv4⟩) hHeld ?_
    case hyv4 => (intro w hSw; (try dsimp only at hSw); go_simp <;> with_reducible rfl)
    try simp only [Act.put, List.setIfInBounds_toArray, List.set_cons_zero, List.set_cons_succ]
    refine wpAnyH_ready (rs := [9]) (by kernel_rfl) (by simp) ?_
    refine AllReadyH.cons (o := { dst := some 24, op := Op.call { callee := Callee.value (Operand.func 49), args := #[Operand.tmp 23], argTypes := #[29] }, type := 29, pos := "l09_sub.go:47", after := #[{ on := 8, ground := Ground.data }, { on := 3, ground := Ground.chain }], guard := none }) rfl (fun K hK => ?_) AllReadyH.nil
    go_simp
    refine (HD.out _ HY1.out).mono ?_
    rintro r wyv9 ⟨⟨gy, cy, rfl, hO⟩, hy⟩
    have HY2 : Hid (Below W0.heap.size W0 wyv9) := grow_on HY1.out hy
    have HO : Hid (OwnA (w.heap.size + 3) wyv9 (gy, cy, y)) := (own_of_copy hO HRy.out.2).down (by have := HZ.out; have := HY1.out.size; omega)
    have HAB2 : Hid (AB (w.heap.size + 3) wyv9 M c rs) := HAB1.out.grow hy
    have R2 : Hid (Blk wyv9 (w.heap.size + 1) #[.slice none 0 0, .bool false] 26) := R0.out.grow HY2.out
    have A2 : Hid (Blk wyv9 (w.heap.size + 1 + 1) #[.slice none 0 0, .int .i64 0, .int .i64 0, .string ⟨#[]⟩] 29) := A0.out.grow HY2.out
    obtain ⟨r0, r1⟩ := cells2 R2.out
    obtain ⟨a0, a1, a2, a3⟩ := cells4 A2.out
    have fr0 := R2.out.frozen 0
    have fr1 := R2.out.frozen 1
    have fa0 := A2.out.frozen 0
    have fa1 := A2.out.frozen 1
    have fa2 := A2.out.frozen 2
    have fa3 := A2.out.frozen 3
    clear hy hO
    clear hHeld
    refine hK.out _ _ (HSS.out _ (grow_on HB.out HY2.out) (S0.out.grow HY2.out)) (fun hHeld => ?_)
    clear hK K
    try simp only [Act.put, List.setIfInBounds_toArray, List.set_cons_zero, List.set_cons_succ]
    refine wpAnyH_ready (rs := [10]) (by kernel_rfl) (by simp) ?_
    refine AllReadyH.cons (o := { dst := none, op := Op.store 26 (Operand.tmp 2) (Operand.tmp 19), type := 0, pos := "l09_sub.go:47", after := #[{ on := 4, ground := Ground.data }, { on := 9, ground := Ground.chain }, { on := 0, ground := Ground.phase }, { on := 1, ground := Ground.phase }, { on := 2, ground := Ground.phase }, { on := 3, ground := Ground.phase }, { on := 4, ground := Ground.phase }, { on := 5, ground := Ground.textOnly Departure.lateStores }, { on := 6, ground := Ground.textOnly Departure.lateStores }, { on := 7, ground := Ground.textOnly Departure.lateStores }, { on := 8, ground := Ground.textOnly Departure.lateStores }, { on := 9, ground := Ground.textOnly Departure.lateStoresUnsure }], guard := none }) rfl (fun K hK => ?_) AllReadyH.nil
    go_simp
    clear hHeld
    refine hK.out _ _ (HSS.out _ (set2 (grow_on HB.out HY2.out) (Nat.le_add_right w.heap.size 1) _ _) (blk2 (S0.out.grow HY2.out) hnS1 _ _)) (fun hHeld => ?_)
    clear hK K
    try simp only [Act.put, List.setIfInBounds_toArray, List.set_cons_zero, List.set_cons_succ]
    refine wpAnyH_ready (rs := [11]) (by kernel_rfl) (by simp) ?_
    refine AllReadyH.cons (o := { dst := none, op := Op.store 29 (Operand.tmp 3) (Operand.tmp 24), type := 0, pos := "l09_sub.go:47", after := #[{ on := 9, ground := Ground.data }, { on := 10, ground := Ground.chain }, { on := 0, ground := Ground.phase }, { on := 1, ground := Ground.phase }, { on := 2, ground := Ground.phase }, { on := 3, ground := Ground.phase }, { on := 4, ground := Ground.phase }, { on := 5, ground := Ground.phase }, { on := 6, ground := Ground.phase }, { on := 7, ground := Ground.phase }, { on := 8, ground := Ground.phase }, { on := 9, ground := Ground.phase }, { on := 10, ground := Ground.phase }], guard := none }) rfl (fun K hK => ?_) AllReadyH.nil
    go_simp
    clear hHeld
    refine hK.out _ _ (HSS.out _ (Alm.set4 (set2 (grow_on HB.out HY2.out) (Nat.le_add_right w.heap.size 1) _ _) (by omega) _ _ _ _) (Alm.blk4 (blk2 (S0.out.grow HY2.out) hnS1 _ _) hnS2 _ _ _ _)) (fun hHeld => ?_)
    clear hK K
    try simp only [Act.put, List.setIfInBounds_toArray, List.set_cons_zero, List.set_cons_succ]
    refine wpAnyH_take (i := 12) (oi := { dst := some 4, op := Op.assign (Operand.const (Value.int IntKind.i64 1)), type := 3, pos := "l09_sub.go:47", after := #[{ on := 11, ground := Ground.chain }, { on := 0, ground := Ground.phase }, { on := 1, ground := Ground.phase }, { on := 2, ground := Ground.phase }, { on := 3, ground := Ground.phase }, { on := 4, ground := Ground.phase }, { on := 5, ground := Ground.phase }, { on := 6, ground := Ground.phase }, { on := 7, ground := Ground.phase }, { on := 8, ground := Ground.phase }, { on := 9, ground := Ground.phase }, { on := 10, ground := Ground.phase }, { on := 11, ground := Ground.phase }], guard := none }) (v := ?vv12) rfl (by kernel_rfl) (by kernel_rfl) (by kernel_rfl) (fun _ _ _ h => h) (Or.inl ⟨by rfl, ?hyv12⟩) hHeld ?_
    case hyv12 => (intro w hSw; (try dsimp only at hSw); go_simp <;> with_reducible rfl)
    try simp only [Act.put, List.setIfInBounds_toArray, List.set_cons_zero, List.set_cons_succ]
    refine wpAnyH_done (by kernel_rfl) ?_ _
    go_wp2
    have hR : Blk _ (w.heap.size + 1) #[.slice (some ⟨M, 0, none⟩) rs.length c, .bool false] 26 := Alm.blk4 ((R2.out.set 0 (.slice (some ⟨M, 0, none⟩) rs.length c)).set 1 (.bool false)) hne.symm (.slice (some ⟨gy, 0, none⟩) y.l.length cy) (.int .i64 y.s) (.int .i64 y.e) (.string y.n)
    have hA := Alm.put4 ((A2.out.set_other (p := ⟨w.heap.size + 1, 0, none⟩) hne (.slice (some ⟨M, 0, none⟩) rs.length c)).set_other (p := ⟨w.heap.size + 1, 1, none⟩) hne (.bool false)) (.slice (some ⟨gy, 0, none⟩) y.l.length cy) (.int .i64 y.s) (.int .i64 y.e) (.string y.n)
    obtain ⟨s0, s1⟩ := cells2 hR
    obtain ⟨t0, t1, t2, t3⟩ := cells4 hA
    refine bodyPost_ret (v := .tuple #[.agg #[.slice (some ⟨M, 0, none⟩) rs.length c, .bool false], .agg #[.slice (some ⟨gy, 0, none⟩) y.l.length cy, .int .i64 y.s, .int .i64 y.e, .string y.n], .int .i64 1]) (by simp [results, Try.results14, go_sem, s0, s1, t0, t1, t2, t3]) rfl ?_
    have hF := (ab_low6' (w.heap.size + 1) (w.heap.size + 1 + 1) HAB2.out (by omega) (by omega) (.slice (some ⟨M, 0, none⟩) rs.length c) (.bool false) (.slice (some ⟨gy, 0, none⟩) y.l.length cy) (.int .i64 y.s) (.int .i64 y.e) (.string y.n)).down (show w.heap.size ≤ w.heap.size + 3 by omega)
    have hG := (own_low6 (w.heap.size + 1) (w.heap.size + 1 + 1) HO.out (by omega) (by omega) (.slice (some ⟨M, 0, none⟩) rs.length c) (.bool false) (.slice (some ⟨gy, 0, none⟩) y.l.length cy) (.int .i64 y.s) (.int .i64 y.e) (.string y.n)).down (show w.heap.size ≤ w.heap.size + 3 by omega)
    exact ⟨⟨M, c, gy, cy, rs, rfl, hF, HP.out, hG⟩, Alm.set4 (set2 (grow_on HB.out HY2.out) (Nat.le_add_right w.heap.size 1) _ _) (by omega) _ _ _ _⟩
end Go.Proofs.Ytdmhccheaemkkaa.Tel
