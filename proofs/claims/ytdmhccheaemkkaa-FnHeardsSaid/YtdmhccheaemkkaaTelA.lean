/-
  PROVED: impl.TellAll and spec.TellAll answer as a plain function on lists says, in memory of their own; nothing that was there is changed.
-/
import Derived.Test.YtdmhccheaemkkaaSubs
import Derived.Deep.DeepCutAuto
namespace Go.Proofs.Ytdmhccheaemkkaa.TelA
open Go.RowKit
open Go.Proofs.Ytdmhccheaemkkaa.Labs Go.Proofs.Ytdmhccheaemkkaa.LabS Go.Proofs.Ytdmhccheaemkkaa.Alms Go.Proofs.Ytdmhccheaemkkaa.AlmM Go.Proofs.Ytdmhccheaemkkaa.Over Go.Proofs.Ytdmhccheaemkkaa.Blk Go.Proofs.Ytdmhccheaemkkaa.App Go.Proofs.Ytdmhccheaemkkaa.Rws Go.Proofs.Ytdmhccheaemkkaa.ChnI Go.Proofs.Ytdmhccheaemkkaa.ChnC Go.Proofs.Ytdmhccheaemkkaa.ChnK Go.Proofs.Ytdmhccheaemkkaa.Chs Go.Proofs.Ytdmhccheaemkkaa.Que Go.Proofs.Ytdmhccheaemkkaa.Tel Go.Proofs.Ytdmhccheaemkkaa.Her Go.Proofs.Ytdmhccheaemkkaa.Subs
open Go.Proofs.Ytdmhccheaemkkaa.ChnP (set2 own_grow)
set_option linter.unusedVariables false

def tellU (x : PAl) (u : PSb) : PSb := ⟨(tellB u.P u.g x).1, (tellB u.P u.g x).2⟩
/-- what all of them have, told x -/
def tellS (U : List PSb) (x : PAl) : List PSb := U.map (tellU x)
theorem tellS_len (U : List PSb) (x : PAl) : (tellS U x).length = U.length := by simp [tellS]
theorem tellS_nth {U : List PSb} {x : PAl} {k : Nat} (h : k < U.length) : nthB (tellS U x) k = tellU x (nthB U k) := by
  rw [nthB_eq (by rw [tellS_len]; exact h), nthB_eq h]; simp [tellS]
/-- each one's alarms have few labels, and are few -/
def LenU (U : List PSb) : Prop := ∀ i, i < U.length → LenM (nthB U i).P ∧ (nthB U i).P.length ≤ 1048576
theorem retS {M n n' c : Nat} (h : n = n') : Ending.returned (.slice (some ⟨M, 0, none⟩) n c) = .returned (.slice (some ⟨M, 0, none⟩) n' c) := by rw [h]
theorem bel_alloc {z w : World} (h : Below z.heap.size z w) (o : Obj) : Below z.heap.size z (w.alloc o) := h.alloc h.size o

set_option maxRecDepth 100000 in
set_option maxHeartbeats 2000000 in
theorem implAll_any (a : Option Addr) (cap : Nat) (U : List PSb) (ax : Option Addr) (cx : Nat) (x : PAl) (w : World) (hr : RdU RdA w a U) (hx : Reads w ax x.l) (hl : U.length ≤ 1048576) (hs : LenU U) (hxl : x.l.length ≤ 1048576) :
    Calls Try.prog 25 #[.slice a U.length cap, .agg #[.slice ax x.l.length cx, .int .i64 x.s, .int .i64 x.e, .string x.n]] w fun e w' => (∃ M us, e = .returned (.slice (some ⟨M, 0, none⟩) us.length us.length) ∧ UB w.heap.size w' M us.length us ∧ sbs us = tellS U x) ∧ Below w.heap.size w w' := by
  have HR : Hid (RdU RdA w a U ∧ Reads w ax x.l) := ⟨hr, hx⟩
  have HS : Hid (LenU U ∧ x.l.length ≤ 1048576) := ⟨hs, hxl⟩
  clear hr hx hs hxl
  have hmk := make_k (P := Try.prog) 38 26 (.agg #[.slice none 0 0, .bool false]) 2 32 Try.underlying38 infoS .i64 .i64 U.length (by omega) (by omega)
  have HV : Hid ((tellS U x).length = U.length) := tellS_len U x
  go_enter Try.func25, Try.ntmps25
  go_wp2
  go_loopw [13] (fun i w' => ∃ (k : Nat) (cur : Array Value) (us : List URow), k ≤ U.length ∧ i = .int .i64 k ∧ Blk w' w.heap.size #[.slice ax x.l.length cx, .int .i64 x.s, .int .i64 x.e, .string x.n] 29 ∧ FillU w.heap.size w' (w.heap.size + 1) (tellS U x) k cur us ∧ Below w.heap.size w w') (fun i _ => U.length - (intOf i).toNat)
  case atStart => exact ⟨0, _, [], Nat.zero_le _, rfl, (Blk.new _ _ _).alloc _, ⟨Blk.new_at (by simp), by rw [HV.out]; simp [size_madeCells], rfl, rfl, fun i h => by omega, RowsU.nil _ _⟩, Go.Joins.below_alloc2 w _ _⟩
  case round =>
    clear hmk
    obtain ⟨k, cur, us, hk, rfl, hX, hF, hw0⟩ := hrel
    have HB : Hid (Below w.heap.size w wr) := hw0
    have HF : Hid (FillU w.heap.size wr (w.heap.size + 1) (tellS U x) k cur us) := hF
    have HX : Hid (Blk wr w.heap.size #[.slice ax x.l.length cx, .int .i64 x.s, .int .i64 x.e, .string x.n] 29) := hX
    clear hX hF hw0
    by_cases hlt : k < U.length
    · have hlt' : (k : Int) < (U.length : Int) := by omega
      obtain ⟨b, off, rfl, hb, ad, cp, hat⟩ := (HR.out.1.below stays_rd HB.out).get hlt
      have h2 := hat.c0
      have h3 := hat.c1
      have HC : Hid (∀ y, Below wr.heap.size wr y → Calls Try.prog 11 #[.agg #[.slice ad (nthB U k).P.length cp, .bool (nthB U k).g], .agg #[.slice ax x.l.length cx, .int .i64 x.s, .int .i64 x.e, .string x.n]] y fun e w' => (∃ M c rs, e = .returned (.agg #[.slice (some ⟨M, 0, none⟩) rs.length c, .bool (tellB (nthB U k).P (nthB U k).g x).2]) ∧ AB y.heap.size w' M c rs ∧ pals rs = (tellB (nthB U k).P (nthB U k).g x).1) ∧ Below y.heap.size y w') := fun y hy => implTell_any ad cp _ _ ax cx x y (hat.reads.below hy) (HR.out.2.below (grow_on HB.out hy)) (HS.out.1 k hlt).2 (HS.out.1 k hlt).1 HS.out.2
      clear hat
      generalize hO : Obj.cells #[.slice ad (nthB U k).P.length cp, .bool (nthB U k).g] 26 = Ob
      obtain ⟨x0, x1, x2, x3⟩ := cells4 (HX.out.alloc Ob)
      subst hO
      go_wp2_with fail
      refine (HC.out _ (Go.Joins.below_alloc1 wr _)).mono ?_
      rintro e w1 ⟨⟨M1, c1, rs, rfl, hab, hp⟩, hy⟩
      have hz : Below wr.heap.size wr w1 := grow_on (Go.Joins.below_alloc1 wr _) hy
      have HZ : Hid (Below wr.heap.size wr w1) := hz
      have hF1 := HF.out.grow hz
      have hq : QO wr.heap.size w1 (some ⟨M1, 0, none⟩) c1 rs := .inr ⟨M1, rfl, hab.down (by simp)⟩
      have hq2 : k < (tellS U x).length := by rw [HV.out]; exact hlt
      have HFN : Hid (FillU w.heap.size (put2W w1 (w.heap.size + 1) k ⟨some ⟨M1, 0, none⟩, c1, rs, (tellB (nthB U k).P (nthB U k).g x).2⟩) (w.heap.size + 1) (tellS U x) (k + 1) (put2C cur k ⟨some ⟨M1, 0, none⟩, c1, rs, (tellB (nthB U k).P (nthB U k).g x).2⟩) (us ++ [⟨some ⟨M1, 0, none⟩, c1, rs, (tellB (nthB U k).P (nthB U k).g x).2⟩])) :=
        hF1.next (x := ⟨some ⟨M1, 0, none⟩, c1, rs, (tellB (nthB U k).P (nthB U k).g x).2⟩) hq2 (hq.down HB.out.size) (by rw [tellS_nth hlt]; unfold URow.sb tellU; rw [hp]) (HF.out.rows.fresh (x := ⟨some ⟨M1, 0, none⟩, c1, rs, (tellB (nthB U k).P (nthB U k).g x).2⟩) hq (Nat.le_refl _))
      have HXN : Hid (Blk (put2W w1 (w.heap.size + 1) k ⟨some ⟨M1, 0, none⟩, c1, rs, (tellB (nthB U k).P (nthB U k).g x).2⟩) w.heap.size #[.slice ax x.l.length cx, .int .i64 x.s, .int .i64 x.e, .string x.n] 29) := ((HX.out.grow hz).set_other (by show w.heap.size + 1 ≠ w.heap.size; omega) _).set_other (by show w.heap.size + 1 ≠ w.heap.size; omega) _
      have HBN : Hid (Below w.heap.size w (put2W w1 (w.heap.size + 1) k ⟨some ⟨M1, 0, none⟩, c1, rs, (tellB (nthB U k).P (nthB U k).g x).2⟩)) := ((grow_on HB.out hz).setCell (p := ⟨w.heap.size + 1, k * 2, none⟩) (Nat.le_add_right _ 1) _).setCell (p := ⟨w.heap.size + 1, k * 2 + 1, none⟩) (Nat.le_add_right _ 1) _
      obtain ⟨v0, v1, c0, c1'⟩ := two_cells hF1.blk k (by rw [hF1.size]; omega)
      have f0 := hF1.blk.frozen (k * 2)
      have f1 := hF1.blk.frozen (k * 2 + 1)
      clear hy hz hF1 hq hq2 hab hp h2 h3 x0 x1 x2 x3 HC
      go_wp2_with fail
      clear c0 c1' f0 f1
      go_roundw
      case rel => exact ⟨k + 1, _, _, by omega, by go_num, HXN.out, HFN.out, HBN.out⟩
      case measure => simp [intOf]; omega
    · have hge : ¬ (k : Int) < (U.length : Int) := by omega
      have HE : Hid (k = (tellS U x).length) := by show k = _; rw [HV.out]; omega
      go_wp2
      go_ret
      have hF := HF.out
      rw [HE.out] at hF
      obtain ⟨h1, h2⟩ := hF.ub (Nat.le_add_right _ 1) (by rw [HV.out]; exact hl)
      have hul : us.length = U.length := by rw [hF.len, HV.out]
      rw [HV.out] at h1
      exact ⟨⟨w.heap.size + 1, us, by rw [hul]; rfl, by rw [hul]; exact h1, h2⟩, HB.out⟩

set_option maxRecDepth 100000 in
set_option maxHeartbeats 2000000 in
theorem specAll_any (a : Option Addr) (cap : Nat) (U : List PSb) (gx ox cx : Nat) (x : PAl) (w : World) (hr : RdU RdN w a U) (hx : Reads w (some ⟨gx, ox, none⟩) x.l) (hl : U.length ≤ 1048576) (hs : LenU U) (hxl : x.l.length ≤ 1048576) :
    Calls Try.prog 26 #[.slice a U.length cap, .agg #[.slice (some ⟨gx, ox, none⟩) x.l.length cx, .int .i64 x.s, .int .i64 x.e, .string x.n]] w fun e w' => (∃ M c us, e = .returned (.slice (some ⟨M, 0, none⟩) us.length c) ∧ UB w.heap.size w' M c us ∧ sbs us = tellS U x) ∧ Below w.heap.size w w' := by
  have HR : Hid (RdU RdN w a U ∧ Reads w (some ⟨gx, ox, none⟩) x.l) := ⟨hr, hx⟩
  have HS : Hid (LenU U ∧ x.l.length ≤ 1048576) := ⟨hs, hxl⟩
  clear hr hx hs hxl
  obtain ⟨i0, hi, hz0, hz1, hz2⟩ := info_parts infoS
  go_enter Try.func26, Try.ntmps26
  go_wp2
  go_loopw [5, 6] (fun v i w' => ∃ (k M c : Nat) (us : List URow), i = .int .i64 k ∧ k ≤ U.length ∧ v = .slice (some ⟨M, 0, none⟩) us.length c ∧ Blk w' w.heap.size #[.slice (some ⟨gx, ox, none⟩) x.l.length cx, .int .i64 x.s, .int .i64 x.e, .string x.n] 29 ∧ UB w.heap.size w' M c us ∧ w.heap.size < M ∧ us.length = k ∧ sbs us = (tellS U x).take k ∧ Below w.heap.size w w' ∧ w.heap.size < w'.heap.size) (fun _ i _ => U.length - (intOf i).toNat)
  case atStart => exact ⟨0, w.heap.size + 1, 0, [], rfl, Nat.zero_le _, rfl, (Blk.new _ _ _).alloc _, UB.nil (Blk.new_at (by simp)) (Nat.le_add_right _ 1), by omega, rfl, rfl, Go.Joins.below_alloc2 w _ _, by simp; omega⟩
  case round =>
    obtain ⟨k, M, c, us, rfl, hk, rfl, hX, hU, hM, hul, hp, hb, hz⟩ := hrel
    have HX : Hid (Blk wr w.heap.size #[.slice (some ⟨gx, ox, none⟩) x.l.length cx, .int .i64 x.s, .int .i64 x.e, .string x.n] 29) := hX
    have HU : Hid (UB w.heap.size wr M c us ∧ sbs us = (tellS U x).take k ∧ us.length = k ∧ w.heap.size < M) := ⟨hU, hp, hul, hM⟩
    have HB : Hid (Below w.heap.size w wr) := hb
    have HZ : Hid (w.heap.size < wr.heap.size) := hz
    have hrl : us.length ≤ 1048576 := by omega
    clear hX hU hM hul hp hb hz
    by_cases hlt : k < U.length
    · have hlt' : (k : Int) < (U.length : Int) := by omega
      obtain ⟨b, off, rfl, hbb, ad, cp, hat⟩ := (HR.out.1.below stays_rn HB.out).get hlt
      have HE : Hid (∀ w', Below wr.heap.size wr w' → w'.cell? ⟨b, off + k * 2, none⟩ = some (.slice ad (nthB U k).P.length cp) ∧ w'.cell? ⟨b, off + k * 2 + 1, none⟩ = some (.bool (nthB U k).g)) := fun w' h => by have q := hat.below stays_rn h hbb; exact ⟨q.c0, q.c1⟩
      have HC : Hid (∀ y, Below wr.heap.size wr y → Calls Try.prog 19 #[.agg #[.slice ad (nthB U k).P.length cp, .bool (nthB U k).g], .agg #[.slice (some ⟨gx, ox, none⟩) x.l.length cx, .int .i64 x.s, .int .i64 x.e, .string x.n]] y fun e w' => (∃ a' c rs, e = .returned (.agg #[.slice a' rs.length c, .bool (tellB (nthB U k).P (nthB U k).g x).2]) ∧ QO y.heap.size w' a' c rs ∧ pals rs = (tellB (nthB U k).P (nthB U k).g x).1) ∧ Below y.heap.size y w') := fun y hy => specTell_any ad cp _ _ gx ox cx x y (hat.reads.below hy) (HR.out.2.below (grow_on HB.out hy)) (HS.out.1 k hlt).2 (HS.out.1 k hlt).1 HS.out.2
      clear hat
      go_upto_region 5 with fail
      have HSS : Hid (∀ w', Below wr.heap.size wr w' → Below wr.heap.size wr w' ∧ w'.cell? ⟨b, off + k * 2, none⟩ = some (.slice ad (nthB U k).P.length cp) ∧ w'.cell? ⟨b, off + k * 2 + 1, none⟩ = some (.bool (nthB U k).g) ∧ w'.cell? ⟨w.heap.size, 0, none⟩ = some (.slice (some ⟨gx, ox, none⟩) x.l.length cx) ∧ w'.cell? ⟨w.heap.size, 1, none⟩ = some (.int .i64 x.s) ∧ w'.cell? ⟨w.heap.size, 2, none⟩ = some (.int .i64 x.e) ∧ w'.cell? ⟨w.heap.size, 3, none⟩ = some (.string x.n)) := fun w' h => ⟨h, (HE.out w' h).1, (HE.out w' h).2, (HX.out.grow h).cell 0, (HX.out.grow h).cell 1, (HX.out.grow h).cell 2, (HX.out.grow h).cell 3⟩
      go_cut [7] from 15 to 21 (fun s7 wx => ∃ (N : Nat) (a' : Option Addr) (c' : Nat) (rs' : List ARow), s7 = .pointer (some ⟨N, 0, none⟩) ∧ Blk wx N #[.slice a' rs'.length c', .bool (tellB (nthB U k).P (nthB U k).g x).2] 26 ∧ QO wr.heap.size wx a' c' rs' ∧ pals rs' = (tellB (nthB U k).P (nthB U k).g x).1 ∧ wr.heap.size ≤ N ∧ Below wr.heap.size wr wx)
      case first =>
        refine wp_region_held_drew (S := fun w' => Below wr.heap.size wr w' ∧ w'.cell? ⟨b, off + k * 2, none⟩ = some (.slice ad (nthB U k).P.length cp) ∧ w'.cell? ⟨b, off + k * 2 + 1, none⟩ = some (.bool (nthB U k).g) ∧ w'.cell? ⟨w.heap.size, 0, none⟩ = some (.slice (some ⟨gx, ox, none⟩) x.l.length cx) ∧ w'.cell? ⟨w.heap.size, 1, none⟩ = some (.int .i64 x.s) ∧ w'.cell? ⟨w.heap.size, 2, none⟩ = some (.int .i64 x.e) ∧ w'.cell? ⟨w.heap.size, 3, none⟩ = some (.string x.n)) (by kernel_rfl) (HSS.out _ (Below.refl _ _).drew) (fun hHeld => ?_)
        refine wpAnyH_take (i := 0) (oi := { dst := some 15, op := Op.move (Operand.tmp 0), type := 38, pos := "l09_sub.go:53", after := #[], guard := none }) (v := ?vt1) rfl (by kernel_rfl) (by kernel_rfl) (by kernel_rfl) (fun _ _ _ h => h) (Or.inl ⟨by rfl, ?hyt1⟩) hHeld ?_
        case hyt1 => (intro w hSw; (try dsimp only at hSw); go_simp <;> with_reducible rfl)
        try simp only [Act.put, List.setIfInBounds_toArray, List.set_cons_zero, List.set_cons_succ]
        refine wpAnyH_take (i := 1) (oi := { dst := some 16, op := Op.move (Operand.tmp 6), type := 3, pos := "l09_sub.go:53", after := #[], guard := none }) (v := ?vt2) rfl (by kernel_rfl) (by kernel_rfl) (by kernel_rfl) (fun _ _ _ h => h) (Or.inl ⟨by rfl, ?hyt2⟩) hHeld ?_
        case hyt2 => (intro w hSw; (try dsimp only at hSw); go_simp <;> with_reducible rfl)
        try simp only [Act.put, List.setIfInBounds_toArray, List.set_cons_zero, List.set_cons_succ]
        refine wpAnyH_take (i := 2) (oi := { dst := some 17, op := Op.indexAddr 38 (Operand.tmp 15) (Operand.tmp 16), type := 0, pos := "l09_sub.go:53", after := #[{ on := 0, ground := Ground.data }, { on := 1, ground := Ground.data }], guard := none }) (v := ?vt3) rfl (by kernel_rfl) (by kernel_rfl) (by kernel_rfl) (fun _ _ _ h => h) (Or.inl ⟨by rfl, ?hyt3⟩) hHeld ?_
        case hyt3 => (intro w hSw; (try dsimp only at hSw); go_simp <;> with_reducible rfl)
        try simp only [Act.put, List.setIfInBounds_toArray, List.set_cons_zero, List.set_cons_succ]
        refine wpAnyH_take (i := 3) (oi := { dst := some 18, op := Op.load 26 (Operand.tmp 17), type := 26, pos := "l09_sub.go:53", after := #[{ on := 2, ground := Ground.data }], guard := none }) (v := ?vt4) rfl (by kernel_rfl) (by kernel_rfl) (by kernel_rfl) (fun _ _ _ h => h) (Or.inl ⟨by rfl, ?hyt4⟩) hHeld ?_
        case hyt4 => (intro w hSw; (try dsimp only at hSw); go_simp <;> with_reducible rfl)
        try simp only [Act.put, List.setIfInBounds_toArray, List.set_cons_zero, List.set_cons_succ]
        refine wpAnyH_take (i := 4) (oi := { dst := some 19, op := Op.load 29 (Operand.tmp 3), type := 29, pos := "l09_sub.go:53", after := #[], guard := none }) (v := ?vt5) rfl (by kernel_rfl) (by kernel_rfl) (by kernel_rfl) (fun _ _ _ h => h) (Or.inl ⟨by rfl, ?hyt5⟩) hHeld ?_
        case hyt5 => (intro w hSw; (try dsimp only at hSw); go_simp <;> with_reducible rfl)
        try simp only [Act.put, List.setIfInBounds_toArray, List.set_cons_zero, List.set_cons_succ]
        refine wpAnyH_ready (rs := [5, 6]) (by kernel_rfl) (by simp) ?_
        refine AllReadyH.cons (o := { dst := some 20, op := Op.call { callee := Callee.value (Operand.func 19), args := #[Operand.tmp 18, Operand.tmp 19], argTypes := #[26, 29] }, type := 26, pos := "l09_sub.go:53", after := #[{ on := 3, ground := Ground.data }, { on := 4, ground := Ground.data }], guard := none }) rfl (fun K hK => ?_) ?_
        ·
          go_simp
          refine (HC.out _ ((Below.refl wr.heap.size wr).drew)).mono ?_
          rintro r wc ⟨⟨Oa, Oc, Oz, rfl, hA, hP⟩, hy⟩
          have ZC : Hid (Below wr.heap.size wr wc) := grow_on ((Below.refl wr.heap.size wr).drew) hy
          have OA : Hid (QO wr.heap.size wc Oa Oc Oz ∧ pals Oz = (tellB (nthB U k).P (nthB U k).g x).1) := ⟨hA.down ((Below.refl wr.heap.size wr).drew).size, hP⟩
          clear hA hP hy
          clear hHeld
          refine hK.out _ _ (HSS.out _ (ZC.out)) (fun hHeld => ?_)
          clear hK K
          try simp only [Act.put, List.setIfInBounds_toArray, List.set_cons_zero, List.set_cons_succ]
          refine wpAnyH_ready (rs := [6]) (by kernel_rfl) (by simp) ?_
          refine AllReadyH.cons (o := { dst := some 7, op := Op.alloc 26, type := 0, pos := "l09_sub.go:53", after := #[], guard := none }) rfl (fun K hK => ?_) AllReadyH.nil
          go_simp
          clear hHeld
          refine hK.out _ _ (HSS.out _ (bel_alloc ZC.out _)) (fun hHeld => ?_)
          clear hK K
          try simp only [Act.put, List.setIfInBounds_toArray, List.set_cons_zero, List.set_cons_succ]
          refine wpAnyH_ready (rs := [7]) (by kernel_rfl) (by simp) ?_
          refine AllReadyH.cons (o := { dst := none, op := Op.store 26 (Operand.tmp 7) (Operand.tmp 20), type := 0, pos := "l09_sub.go:53", after := #[{ on := 6, ground := Ground.data }, { on := 5, ground := Ground.data }, { on := 5, ground := Ground.chain }, { on := 0, ground := Ground.phase }, { on := 1, ground := Ground.phase }, { on := 2, ground := Ground.phase }, { on := 3, ground := Ground.phase }, { on := 4, ground := Ground.phase }, { on := 5, ground := Ground.phase }, { on := 6, ground := Ground.phase }], guard := none }) rfl (fun K hK => ?_) AllReadyH.nil
          go_simp
          clear hHeld
          refine hK.out _ _ (HSS.out _ (bel_alloc ZC.out _)) (fun hHeld => ?_)
          clear hK K
          try simp only [Act.put, List.setIfInBounds_toArray, List.set_cons_zero, List.set_cons_succ]
          refine wpAnyH_done (by kernel_rfl) ?_ _
          go_wp2_with fail
          go_meet
          exact ⟨_, Oa, Oc, Oz, rfl, Blk.new _ _ _, OA.out.1.grow (Go.Joins.below_alloc1 wc _), OA.out.2, ZC.out.size, bel_alloc ZC.out _⟩
        refine AllReadyH.cons (o := { dst := some 7, op := Op.alloc 26, type := 0, pos := "l09_sub.go:53", after := #[], guard := none }) rfl (fun K hK => ?_) AllReadyH.nil
        go_simp
        clear hHeld
        refine hK.out _ _ (HSS.out _ (bel_alloc (Below.refl wr.heap.size wr).drew _)) (fun hHeld => ?_)
        clear hK K
        try simp only [Act.put, List.setIfInBounds_toArray, List.set_cons_zero, List.set_cons_succ]
        refine wpAnyH_ready (rs := [5]) (by kernel_rfl) (by simp) ?_
        refine AllReadyH.cons (o := { dst := some 20, op := Op.call { callee := Callee.value (Operand.func 19), args := #[Operand.tmp 18, Operand.tmp 19], argTypes := #[26, 29] }, type := 26, pos := "l09_sub.go:53", after := #[{ on := 3, ground := Ground.data }, { on := 4, ground := Ground.data }], guard := none }) rfl (fun K hK => ?_) AllReadyH.nil
        go_simp
        refine (HC.out _ ((bel_alloc (Below.refl wr.heap.size wr).drew _))).mono ?_
        rintro r wc ⟨⟨Oa, Oc, Oz, rfl, hA, hP⟩, hy⟩
        have ZC : Hid (Below wr.heap.size wr wc) := grow_on ((bel_alloc (Below.refl wr.heap.size wr).drew _)) hy
        have OA : Hid (QO wr.heap.size wc Oa Oc Oz ∧ pals Oz = (tellB (nthB U k).P (nthB U k).g x).1) := ⟨hA.down ((bel_alloc (Below.refl wr.heap.size wr).drew _)).size, hP⟩
        have NB : Hid (Blk wc wr.heap.size #[.slice none 0 0, .bool false] 26) := (Blk.new wr.drew _ _).grow hy
        clear hA hP hy
        clear hHeld
        refine hK.out _ _ (HSS.out _ (ZC.out)) (fun hHeld => ?_)
        clear hK K
        try simp only [Act.put, List.setIfInBounds_toArray, List.set_cons_zero, List.set_cons_succ]
        refine wpAnyH_ready (rs := [7]) (by kernel_rfl) (by simp) ?_
        refine AllReadyH.cons (o := { dst := none, op := Op.store 26 (Operand.tmp 7) (Operand.tmp 20), type := 0, pos := "l09_sub.go:53", after := #[{ on := 6, ground := Ground.data }, { on := 5, ground := Ground.data }, { on := 5, ground := Ground.chain }, { on := 0, ground := Ground.phase }, { on := 1, ground := Ground.phase }, { on := 2, ground := Ground.phase }, { on := 3, ground := Ground.phase }, { on := 4, ground := Ground.phase }, { on := 5, ground := Ground.phase }, { on := 6, ground := Ground.phase }], guard := none }) rfl (fun K hK => ?_) AllReadyH.nil
        have n0 : wc.cell? ⟨wr.heap.size, 0, none⟩ = some (.slice none 0 0) := NB.out.cell 0
        have n1 : wc.cell? ⟨wr.heap.size, 1, none⟩ = some (.bool false) := NB.out.cell 1
        have m0 := NB.out.frozen 0
        have m1 := NB.out.frozen 1
        go_simp
        clear n0 n1 m0 m1
        clear hHeld
        refine hK.out _ _ (HSS.out _ (set2 ZC.out (Nat.le_refl _) _ _)) (fun hHeld => ?_)
        clear hK K
        try simp only [Act.put, List.setIfInBounds_toArray, List.set_cons_zero, List.set_cons_succ]
        refine wpAnyH_done (by kernel_rfl) ?_ _
        go_wp2_with fail
        go_meet
        exact ⟨_, Oa, Oc, Oz, rfl, (NB.out.set 0 _).set 1 _, OA.out.1.moved (sub_moved NB.out (by decide) (by decide) _ _), OA.out.2, Nat.le_refl _, set2 ZC.out (Nat.le_refl _) _ _⟩
      case rest =>
        obtain ⟨N, a', c', rs', rfl, hN, hQ, hp, hNz, hb⟩ := hcut
        obtain ⟨w2, hwc⟩ : ∃ x, x = wc := ⟨_, rfl⟩
        subst hwc
        obtain ⟨TG, hTG⟩ : ∃ TG, (tellB (nthB U k).P (nthB U k).g x).2 = TG := ⟨_, rfl⟩
        rw [hTG] at hN
        have HTG : Hid ((tellB (nthB U k).P (nthB U k).g x).2 = TG) := hTG
        have N2 : Hid (Blk w2 N #[.slice a' rs'.length c', .bool TG] 26) := hN
        have Q2 : Hid (QO wr.heap.size w2 a' c' rs' ∧ pals rs' = (tellB (nthB U k).P (nthB U k).g x).1) := ⟨hQ, hp⟩
        have HY : Hid (Below wr.heap.size wr w2) := hb
        have B2 : Hid (Below w.heap.size w w2) := grow_on HB.out hb
        have HUP : Hid (∀ o1, Below w2.heap.size w2 (w2.alloc o1)) := fun o1 => Go.Joins.below_alloc1 w2 o1
        have HUB2 : Hid (UB w.heap.size w2 M c us) := HU.out.1.grow hb
        obtain ⟨xs, hox, hxl, hxs⟩ := HUB2.out.own
        have HOX : Hid (∀ o1, (w2.alloc o1).ownsRow w.heap.size 26 2 (.slice (some ⟨M, 0, none⟩) us.length c) us.length xs) := fun o1 => own_grow hox (Go.Joins.below_alloc1 w2 o1)
        have HXS : Hid (xs.length = us.length * 2 ∧ ∀ i, i < us.length → Cel2 (fun k => xs[k]?) i (nthU us i)) := ⟨hxl, hxs⟩
        clear hN hQ hp hb hNz hTG HSS HC HE hox hxl hxs
        obtain ⟨n0, n1⟩ := cells2 N2.out
        go_wp2_with (at_builtin; refine wpList_append_own_at _ rfl _ _ 38 rfl w.heap.size 26 i0 (.agg #[.slice none 0 0, .bool false]) 2 32 Try.underlying38 hi hz0 hz1 hz2 rfl (by decide) _ _ _ rfl (HOX.out _) ⟨w2.heap.size, 0, none⟩ 1 1 (rowU ⟨a', c', rs', TG⟩) rfl rfl ?c1 (rowU_one _) ?c3 ?c4 ?c5 ?_)
        case c1 => exact blk_news (Blk.new _ _ _)
        case c3 => unfold maxLen; omega
        case c4 => omega
        case c5 => have := B2.out.size; simp; omega
        intro v' w3 hown hg hnil hat
        obtain ⟨M3, c3, rfl, hUB3⟩ := (HUB2.out.grow (HUP.out _)).app (x := ⟨a', c', rs', TG⟩) ((Q2.out.1.down HB.out.size).grow (HUP.out _)) (HU.out.1.rows.fresh (x := ⟨a', c', rs', TG⟩) Q2.out.1 (Nat.le_refl _)) HXS.out.1 HXS.out.2 hown hg
        have UB3 : Hid (UB w.heap.size w3 M3 c3 (us ++ [⟨a', c', rs', TG⟩])) := hUB3
        have X3 : Hid (Blk w3 w.heap.size #[.slice (some ⟨gx, ox, none⟩) x.l.length cx, .int .i64 x.s, .int .i64 x.e, .string x.n] 29) := blk_far ((HX.out.grow HY.out).grow (HUP.out _)) hg (fun e => by have := HU.out.2.2.2; have h : w.heap.size = M := Option.some.inj e; omega)
        have B3 : Hid (Below w.heap.size w w3) := (grow_on B2.out (HUP.out _)).grown hg (by have := B2.out.size; simp; omega) (fun k e => by have h : M = k := Option.some.inj e; have := HU.out.2.2.2; omega)
        have HM3 : Hid (w.heap.size < M3) := by
          rcases hat with e | e
          · have h : M3 = M := Option.some.inj e
            have := HU.out.2.2.2
            show _ < _; omega
          · have h : M3 = w2.heap.size + 1 := Option.some.inj e
            have h1 := HZ.out
            have h2 := HY.out.size
            show _ < _; omega
        have HP3 : Hid (sbs (us ++ [⟨a', c', rs', TG⟩]) = (tellS U x).take (k + 1)) := by
          show _ = _
          rw [sbs_app, HU.out.2.1, takeB_up (by rw [tellS_len]; exact hlt), tellS_nth hlt]
          unfold URow.sb tellU
          rw [Q2.out.2, ← HTG.out]
        have HL3 : Hid ((us ++ [(⟨a', c', rs', TG⟩ : URow)]).length = us.length + 1) := by show _ = _; simp
        have HZ3 : Hid (w.heap.size < w3.heap.size) := X3.out.lt
        clear hown hg hnil hat hUB3 n0 n1
        go_wp2
        go_roundw
        case rel => exact ⟨k + 1, M3, c3, us ++ [⟨a', c', rs', TG⟩], by go_num, by omega, by rw [HL3.out], X3.out, UB3.out, HM3.out, by rw [HL3.out, HU.out.2.2.1], HP3.out, B3.out, HZ3.out⟩
        case measure => simp [intOf]; omega
    · have hge : ¬ (k : Int) < (U.length : Int) := by omega
      have HF : Hid (sbs us = tellS U x) := by show _ = _; rw [HU.out.2.1]; exact List.take_of_length_le (by rw [tellS_len]; omega)
      go_wp2
      go_ret
      exact ⟨⟨M, c, us, rfl, HU.out.1, HF.out⟩, HB.out⟩
end Go.Proofs.Ytdmhccheaemkkaa.TelA
