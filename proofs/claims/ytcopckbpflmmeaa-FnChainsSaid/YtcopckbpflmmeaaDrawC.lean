/-
  PROVED: the contracts of the drawing of chains, l6Draw first: a chain with a few small alarms in memory of its own; nothing that was there is changed but the cursor.
-/
import Derived.Test.YtcopckbpflmmeaaLsD
import Derived.Test.YtcopckbpflmmeaaChnK
namespace Go.Proofs.Ytcopckbpflmmeaa.DrawC
open Go.RowKit
open Go.Proofs.Ytcopckbpflmmeaa.Draw
open Go.Proofs.Ytcopckbpflmmeaa.Labs Go.Proofs.Ytcopckbpflmmeaa.LabS Go.Proofs.Ytcopckbpflmmeaa.Over Go.Proofs.Ytcopckbpflmmeaa.Blk Go.Proofs.Ytcopckbpflmmeaa.App Go.Proofs.Ytcopckbpflmmeaa.DrawL Go.Proofs.Ytcopckbpflmmeaa.DrawT Go.Proofs.Ytcopckbpflmmeaa.Alms Go.Proofs.Ytcopckbpflmmeaa.AlmM Go.Proofs.Ytcopckbpflmmeaa.DrawA Go.Proofs.Ytcopckbpflmmeaa.DrawB Go.Proofs.Ytcopckbpflmmeaa.Rws Go.Proofs.Ytcopckbpflmmeaa.ChnI Go.Proofs.Ytcopckbpflmmeaa.ChnC Go.Proofs.Ytcopckbpflmmeaa.ChnP Go.Proofs.Ytcopckbpflmmeaa.ChnS Go.Proofs.Ytcopckbpflmmeaa.ChnU Go.Proofs.Ytcopckbpflmmeaa.ChnK
open Go.Proofs.Ytcopckbpflmmeaa.LabT (Held held_reads)
open Go.Proofs.Ytcopckbpflmmeaa.Fing (fingerB)
set_option linter.unusedVariables false

theorem fines_put {P : List PAl} {a : PAl} (h : Fines P) (ha : Fine a) : Fines (putL P a) := by
  rcases idxTo_cases P a.l P.length with hm | ⟨k, hk, he, hj⟩
  · rw [(put_miss hm).1]; exact fines_app h ha
  · rw [(put_hit hj he hk).1]
    intro x hx
    rcases List.mem_or_eq_of_mem_set hx with h1 | h1
    · exact h x h1
    · subst h1; exact ⟨fit_merge (h _ (nthP_mem hk)).1 ha.1, ha.2⟩
/-- where l6Draw stands: its boxes, the chain so far, the alarm at hand -/
structure DSt (w : World) (c A O : Nat) (f : Int) (wr : World) (a : Option Addr) (cap : Nat) (rs : List ARow) (x : ARow) : Prop where
  cur : Cur wr c
  kept : Kept c w wr
  clt : c < w.heap.size
  ord : w.heap.size < A ∧ A < O ∧ O < wr.heap.size
  bR : Blk wr w.heap.size #[.int .i64 0, .slice none 0 0] 26
  bA : Blk wr A #[.slice (some ⟨x.1, 0, none⟩) x.2.2.l.length x.2.1, .int .i64 x.2.2.s, .int .i64 x.2.2.e, .string x.2.2.n] 29
  bO : Blk wr O #[.int .i64 f, .slice a rs.length cap] 26
  xo : OwnA w.heap.size wr x
  xf : Fine x.2.2
  list : (a = none ∧ rs = []) ∨ ∃ M, a = some ⟨M, 0, none⟩ ∧ AB (O + 1) wr M cap rs
  fine : Fines (pals rs)
  few : rs.length ≤ 4
theorem DSt.keep {w : World} {c A O : Nat} {f : Int} {wr w' : World} {a : Option Addr} {cap : Nat} {rs : List ARow} {x : ARow} (h : DSt w c A O f wr a cap rs x) (hc : Cur w' c) (hk : Kept c wr w') : DSt w c A O f w' a cap rs x :=
  ⟨hc, h.kept.trans hk, h.clt, ⟨h.ord.1, h.ord.2.1, Nat.lt_of_lt_of_le h.ord.2.2 hk.size⟩, blk_kept h.bR hk (by have := h.clt; omega), blk_kept h.bA hk (by have := h.clt; have := h.ord; omega), blk_kept h.bO hk (by have := h.clt; have := h.ord; omega), own_kept h.xo hk h.clt, h.xf,
    h.list.imp id (fun ⟨M, e, hab⟩ => ⟨M, e, ab_kept hab hk (by have := h.clt; have := h.ord; omega)⟩), h.fine, h.few⟩
theorem DSt.grow {w : World} {c A O : Nat} {f : Int} {wr w' : World} {a : Option Addr} {cap : Nat} {rs : List ARow} {x : ARow} (h : DSt w c A O f wr a cap rs x) (hb : Below wr.heap.size wr w') : DSt w c A O f w' a cap rs x := h.keep (cur_bel h.cur hb) (kept_bel hb)
theorem DSt.rd {w : World} {c A O : Nat} {f : Int} {wr : World} {a : Option Addr} {cap : Nat} {rs : List ARow} {x : ARow} (h : DSt w c A O f wr a cap rs x) : RdN wr a (pals rs) := by
  rcases h.list with ⟨_, e⟩ | ⟨M, e, hab⟩
  · exact .inl (by rw [e]; rfl)
  · rw [e]; exact hab.rd
theorem DSt.other {w : World} {c A O : Nat} {f : Int} {wr : World} {a : Option Addr} {cap : Nat} {rs : List ARow} {x : ARow} (h : DSt w c A O f wr a cap rs x) {y : ARow} (hy : OwnA w.heap.size wr y) (hf : Fine y.2.2) :
    DSt w c A O f ((((wr.setCell ⟨A, 0, none⟩ (.slice (some ⟨y.1, 0, none⟩) y.2.2.l.length y.2.1)).setCell ⟨A, 1, none⟩ (.int .i64 y.2.2.s)).setCell ⟨A, 2, none⟩ (.int .i64 y.2.2.e)).setCell ⟨A, 3, none⟩ (.string y.2.2.n)) a cap rs y := by
  have h0 := h.clt; have h1 := h.ord
  have hne : A ≠ y.1 := by
    obtain ⟨_, _, ds, hb, _⟩ := hy
    exact blkA_ne h.bA hb
  refine ⟨cur_set (cur_set (cur_set (cur_set h.cur (by omega) _ _) (by omega) _ _) (by omega) _ _) (by omega) _ _, kept_set (kept_set (kept_set (kept_set h.kept (by omega) _ _) (by omega) _ _) (by omega) _ _) (by omega) _ _, h0, by simpa using h1, Alm.blk4 h.bR (by omega) _ _ _ _, (((h.bA.set 0 _).set 1 _).set 2 _).set 3 _, Alm.blk4 h.bO (by omega) _ _ _ _, own_set (own_set (own_set (own_set hy hne _ _) hne _ _) hne _ _) hne _ _, hf, h.list.imp id (fun ⟨M, e, hab⟩ => ⟨M, e, ab_under (ab_under (ab_under (ab_under hab (by omega) _ _) (by omega) _ _) (by omega) _ _) (by omega) _ _⟩), h.fine, h.few⟩
theorem DSt.put {w : World} {c A O : Nat} {f : Int} {wr w' : World} {a : Option Addr} {cap : Nat} {rs : List ARow} {x : ARow} (h : DSt w c A O f wr a cap rs x) (h4 : rs.length < 4) (hb : Below wr.heap.size wr w') {M cap' : Nat} {rs' : List ARow} (hab : AB wr.heap.size w' M cap' rs') (hp : pals rs' = putL (pals rs) x.2.2) :
    DSt w c A O f ((w'.setCell ⟨O, 0, none⟩ (.int .i64 f)).setCell ⟨O, 1, none⟩ (.slice (some ⟨M, 0, none⟩) rs'.length cap')) (some ⟨M, 0, none⟩) cap' rs' x ∧ rs' ≠ [] := by
  have hg := h.grow hb
  have h0 := hg.clt; have h1 := hg.ord; have h2 := h.ord
  have hne : O ≠ x.1 := by
    obtain ⟨_, _, ds, hb, _⟩ := hg.xo
    exact chain_label hg.bO hb
  have hl := (put_sum (pals rs) x.2.2).2
  rw [← hp, pals_len, pals_len] at hl
  have hn : rs' ≠ [] := fun e => by
    have hz : (putL (pals rs) x.2.2).length = 0 := by rw [← hp, e]; rfl
    rcases idxTo_cases (pals rs) x.2.2.l (pals rs).length with hm | ⟨k, hk, he, hj⟩
    · rw [(put_miss hm).1] at hz; simp at hz
    · rw [(put_hit hj he hk).1] at hz; simp at hz; rw [hz] at hk; simp at hk
  exact ⟨⟨cur_set (cur_set hg.cur (by omega) _ _) (by omega) _ _, kept_set (kept_set hg.kept (by omega) _ _) (by omega) _ _, h0, by simpa using h1, (hg.bR.set_other (by show O ≠ _; omega) _).set_other (by show O ≠ _; omega) _, (hg.bA.set_other (by show O ≠ _; omega) _).set_other (by show O ≠ _; omega) _, (hg.bO.set 0 _).set 1 _, own_set (own_set hg.xo hne _ _) hne _ _, hg.xf, .inr ⟨M, rfl, ab_under (ab_under (hab.down (by omega)) (by omega) _ _) (by omega) _ _⟩, by rw [hp]; exact fines_put h.fine h.xf, by omega⟩, hn⟩

/-- a chain that was drawn -/
structure CDr (w : World) (c : Nat) (wr : World) (M cap : Nat) (rs : List ARow) : Prop where
  ab : AB (w.heap.size + 1) wr M cap rs
  cur : Cur wr c
  kept : Kept c w wr
  clt : c < w.heap.size
  fine : Fines (pals rs)

set_option maxRecDepth 100000 in
set_option maxHeartbeats 3200000 in
theorem l6Draw_any (c : Nat) (w : World) (hc : Cur w c) :
    Calls Try.prog 86 #[.pointer (some ⟨c, 0, none⟩)] w fun r w' => ∃ (f : Int) (M cap : Nat) (rs : List ARow), r = .returned (.agg #[.int .i64 f, .slice (some ⟨M, 0, none⟩) rs.length cap]) ∧ CDr w c w' M cap rs ∧ 0 < rs.length ∧ rs.length ≤ 4 ∧ I64 f := by
  have HC : Hid (Cur w c) := hc
  have HL : Hid (c < w.heap.size) := hc.lt
  clear hc
  go_enter Try.func86, Try.ntmps86
  go_wp2_with fail
  refine (l4Draw_any c _ (HC.out.alloc _)).mono ?_
  rintro r w1 ⟨g, cp, p, s, e, n, rfl, hst, hp, hs, he, hn⟩
  have HF : Hid (Fine ⟨p, s, e, n⟩) := fine_of hp hst.fit hs he hn
  have HX1 : Hid (OwnA w.heap.size w1 (g, cp, ⟨p, s, e, n⟩)) := (own_lst hst hp).down (by simp)
  have HR1 : Hid (Blk w1 w.heap.size #[.int .i64 0, .slice none 0 0] 26) := blk_kept (Blk.new _ _ _) hst.kept (by have := HL.out; omega)
  have HC1 : Hid (Cur w1 c) := hst.cur
  have HK1 : Hid (Kept c w w1) := ((Kept.refl c w).alloc _).trans hst.kept
  clear hst hp hs he hn
  generalize hDo : Obj.cells #[.slice (some ⟨g, 0, none⟩) p.length cp, .int .i64 s, .int .i64 e, .string n] 29 = Do
  have xA0 : (w1.alloc Do).cell? ⟨w1.heap.size, 0, none⟩ = some (.slice (some ⟨g, 0, none⟩) p.length cp) := by rw [← hDo]; exact (Blk.new w1 _ _).cell 0
  subst hDo
  go_wp2_with fail
  refine (Fing.specFinger_any _ _ _ _ ((HX1.out.grow (Go.Joins.below_alloc1 w1 _)).reads) HF.out.1.len HF.out.1.fits).mono ?_
  rintro r w2 ⟨rfl, hb⟩
  have HR2 : Hid (Blk w2 w.heap.size #[.int .i64 0, .slice none 0 0] 26) := (HR1.out.alloc _).grow hb
  have HA2 : Hid (Blk w2 w1.heap.size #[.slice (some ⟨g, 0, none⟩) p.length cp, .int .i64 s, .int .i64 e, .string n] 29) := (Blk.new w1 _ _).grow hb
  have HX2 : Hid (OwnA w.heap.size w2 (g, cp, ⟨p, s, e, n⟩)) := (HX1.out.grow (Go.Joins.below_alloc1 w1 _)).grow hb
  have HC2 : Hid (Cur w2 c) := cur_bel (HC1.out.alloc _) hb
  have HK2 : Hid (Kept c w w2) := (HK1.out.alloc _).trans (kept_bel hb)
  have HN2 : Hid (w.heap.size < w1.heap.size ∧ w1.heap.size < w2.heap.size) := ⟨HR1.out.lt, HA2.out.lt⟩
  clear hb xA0 HX1 HR1 HC1 HK1
  go_wp2_with fail
  refine (below_any c 30 _ (HC2.out.alloc _) (by decide) (by decide)).mono ?_
  rintro r w3 ⟨⟨j0, rfl, hj0, hj1⟩, hc3, hk3⟩
  have HFX : Hid (I64 (fingerB p : Int)) := by have := Fing.finger_lt p; exact ⟨by omega, by omega⟩
  generalize hfx : (fingerB p : Int) = fx at *
  have HS3 : Hid (DSt w c w1.heap.size w2.heap.size fx w3 none 0 [] (g, cp, ⟨p, s, e, n⟩)) := by
    have h0 := HN2.out; have h1 := HL.out
    have hs := hk3.size
    simp at hs
    exact ⟨hc3, (HK2.out.alloc _).trans hk3, h1, ⟨h0.1, h0.2, by omega⟩, blk_kept (HR2.out.alloc _) hk3 (by omega), blk_kept (HA2.out.alloc _) hk3 (by omega), blk_kept (Blk.new _ _ _) hk3 (by omega), own_kept (HX2.out.grow (Go.Joins.below_alloc1 w2 _)) hk3 h1, HF.out, .inl ⟨rfl, rfl⟩, fines_nil, by simp⟩
  have HJ : Hid (0 ≤ j0 ∧ j0 ≤ 29) := ⟨hj0, by omega⟩
  clear hc3 hk3 hj0 hj1 HX2 HR2 HA2 HC2 HK2 HN2
  generalize w1.heap.size = A at HS3 ⊢
  generalize w2.heap.size = O at HS3 ⊢
  go_wp2
  go_loopw [5] (fun i wr => ∃ (j : Int) (a : Option Addr) (cap : Nat) (rs : List ARow) (x : ARow), i = .int .i64 j ∧ -1 ≤ j ∧ j ≤ 29 ∧ DSt w c A O fx wr a cap rs x ∧ (rs = [] → (fingerB x.2.2.l : Int) = fx ∧ 0 ≤ j)) (fun i _ => (intOf i + 1).toNat)
  case atStart => exact ⟨j0, none, 0, [], (g, cp, ⟨p, s, e, n⟩), rfl, by have := HJ.out; omega, HJ.out.2, HS3.out, fun _ => ⟨hfx, HJ.out.1⟩⟩
  case round =>
    clear hfx HF HS3 HJ
    obtain ⟨j, a, cap, rs, x, rfl, hj1, hj2, hst, hfirst⟩ := hrel
    have HS : Hid (DSt w c A O fx wr a cap rs x) := hst
    have HFi : Hid (rs = [] → (fingerB x.2.2.l : Int) = fx ∧ 0 ≤ j) := hfirst
    clear hst hfirst
    by_cases hj : 0 ≤ j
    · have hj' : (j ≥ 0) := hj
      have hne := Grown.some wr
      have HO : Hid (A < wr.heap.size ∧ O < wr.heap.size) := by have := HS.out.ord; exact ⟨by omega, by omega⟩
      have a0 : ∀ q : Grown wr, q.out.cell? ⟨A, 0, none⟩ = some (.slice (some ⟨x.1, 0, none⟩) x.2.2.l.length x.2.1) := fun q => q.cell HO.out.1 (HS.out.bA.cell 0)
      have o0 : ∀ q : Grown wr, q.out.cell? ⟨O, 0, none⟩ = some (.int .i64 fx) := fun q => q.cell HO.out.2 (HS.out.bO.cell 0)
      have o1 : ∀ q : Grown wr, q.out.cell? ⟨O, 1, none⟩ = some (.slice a rs.length cap) := fun q => q.cell HO.out.2 (HS.out.bO.cell 1)
      have HC1 : ∀ q : Grown wr, Hid (Calls Try.prog 60 #[.slice (some ⟨x.1, 0, none⟩) x.2.2.l.length x.2.1] q.out fun e w' => e = .returned (.int .i64 (fingerB x.2.2.l)) ∧ Below q.out.heap.size q.out w') := fun q => Fing.specFinger_any _ _ _ _ (HS.out.xo.reads.below q.bel) HS.out.xf.1.len HS.out.xf.1.fits
      have HGo : Hid (∀ (w5 : World) (a : Option Addr) (cap : Nat) (rs : List ARow), DSt w c A O fx w5 a cap rs x → Calls Try.prog 43 #[.pointer (some ⟨c, 0, none⟩)] w5 fun r w' => ∃ (y : ARow), r = .returned (.agg #[.slice (some ⟨y.1, 0, none⟩) y.2.2.l.length y.2.1, .int .i64 y.2.2.s, .int .i64 y.2.2.e, .string y.2.2.n]) ∧ DSt w c A O fx w' a cap rs x ∧ OwnA w.heap.size w' y ∧ Fine y.2.2) := fun w5 a cap rs hd => (l4Draw_any c w5 hd.cur).mono fun r w' ⟨g, cp, p, s, e, n, hr, hst, hp, hs, he, hn⟩ => ⟨(g, cp, ⟨p, s, e, n⟩), hr, hd.keep hst.cur hst.kept, (own_lst hst hp).down hd.kept.size, fine_of hp hst.fit hs he hn⟩
      by_cases hF : (fingerB x.2.2.l : Int) = fx
      · by_cases h4 : rs.length < 4
        · have h4' : (rs.length : Int) < 4 := by omega
          go_wp2
          refine wp_over (z := wr) (by kernel_rfl) (by kernel_rfl) (Below.refl _ _) ?_
          repeat (go_big_quiet_step (first | (go_at_call 60; exact call_over (HC1 _).out)))
          refine wpQuiet_nil ?_
          intro w4 hw4
          have HS4 : Hid (DSt w c A O fx w4 a cap rs x) := HS.out.grow (over_bel hw4)
          clear hw4 hne HC1 a0 o0 o1 HO
          have o0 : w4.cell? ⟨O, 0, none⟩ = some (.int .i64 fx) := HS4.out.bO.cell 0
          have o1 : w4.cell? ⟨O, 1, none⟩ = some (.slice a rs.length cap) := HS4.out.bO.cell 1
          have q0 : w4.cell? ⟨A, 0, none⟩ = some (.slice (some ⟨x.1, 0, none⟩) x.2.2.l.length x.2.1) := HS4.out.bA.cell 0
          have q1 : w4.cell? ⟨A, 1, none⟩ = some (.int .i64 x.2.2.s) := HS4.out.bA.cell 1
          have q2 : w4.cell? ⟨A, 2, none⟩ = some (.int .i64 x.2.2.e) := HS4.out.bA.cell 2
          have q3 : w4.cell? ⟨A, 3, none⟩ = some (.string x.2.2.n) := HS4.out.bA.cell 3
          have HPC : Hid (Calls Try.prog 9 #[.agg #[.int .i64 fx, .slice a rs.length cap], .agg #[.slice (some ⟨x.1, 0, none⟩) x.2.2.l.length x.2.1, .int .i64 x.2.2.s, .int .i64 x.2.2.e, .string x.2.2.n]] w4 fun e w' => (∃ M c rs', e = .returned (.tuple #[.agg #[.int .i64 fx, .slice (some ⟨M, 0, none⟩) rs'.length c], .bool (isNew (pals rs) x.2.2.l)]) ∧ AB w4.heap.size w' M c rs' ∧ pals rs' = putL (pals rs) x.2.2) ∧ Below w4.heap.size w4 w') := by
            have h := specPut_any fx a cap (pals rs) x.1 0 x.2.1 x.2.2 w4 HS4.out.rd HS4.out.xo.reads (by rw [pals_len]; omega) HS4.out.fine.lens (by have := HS4.out.xf.2; omega)
            rw [pals_len] at h
            exact h
          go_wp2_with fail
          refine HPC.out.mono ?_
          rintro r w5 ⟨⟨M, c', rs', rfl, hab, hp⟩, hb⟩
          have hO5 := HS4.out.bO.grow hb
          have p0 : w5.cell? ⟨O, 0, none⟩ = some (.int .i64 fx) := hO5.cell 0
          have p1 : w5.cell? ⟨O, 1, none⟩ = some (.slice a rs.length cap) := hO5.cell 1
          have fp0 := hO5.frozen 0
          have fp1 := hO5.frozen 1
          have HS5 : Hid (DSt w c A O fx ((w5.setCell ⟨O, 0, none⟩ (.int .i64 fx)).setCell ⟨O, 1, none⟩ (.slice (some ⟨M, 0, none⟩) rs'.length c')) (some ⟨M, 0, none⟩) c' rs' x ∧ rs' ≠ []) := HS4.out.put h4 hb hab hp
          have HN : Hid (rs' ≠ []) := HS5.out.2
          clear hab hp hb hO5 HPC o0 o1 q0 q1 q2 q3
          go_wp2_with fail
          refine (HGo.out _ _ _ _ HS5.out.1).mono ?_
          rintro r w6 ⟨y, rfl, hd, hy, hyf⟩
          have HS6 : Hid (DSt w c A O fx w6 _ _ _ x) := hd
          have HY6 : Hid (OwnA w.heap.size w6 y ∧ Fine y.2.2) := ⟨hy, hyf⟩
          have q0 : w6.cell? ⟨A, 0, none⟩ = some (.slice (some ⟨x.1, 0, none⟩) x.2.2.l.length x.2.1) := hd.bA.cell 0
          have q1 : w6.cell? ⟨A, 1, none⟩ = some (.int .i64 x.2.2.s) := hd.bA.cell 1
          have q2 : w6.cell? ⟨A, 2, none⟩ = some (.int .i64 x.2.2.e) := hd.bA.cell 2
          have q3 : w6.cell? ⟨A, 3, none⟩ = some (.string x.2.2.n) := hd.bA.cell 3
          have g0 := hd.bA.frozen 0
          have g1 := hd.bA.frozen 1
          have g2 := hd.bA.frozen 2
          have g3 := hd.bA.frozen 3
          clear hd hy hyf
          go_wp2
          go_roundw
          case rel => exact ⟨j - 1, _, _, _, y, by go_num, by omega, by omega, HS6.out.other HY6.out.1 HY6.out.2, fun e => absurd e HN.out⟩
          case measure => simp [intOf]; omega
        · have h4' : ¬ (rs.length : Int) < 4 := by omega
          have HN : Hid (rs ≠ []) := fun e => by rw [e] at h4; simp at h4
          go_wp2
          refine wp_over (z := wr) (by kernel_rfl) (by kernel_rfl) (Below.refl _ _) ?_
          repeat (go_big_quiet_step (first | (go_at_call 60; exact call_over (HC1 _).out)))
          refine wpQuiet_nil ?_
          intro w4 hw4
          have HS4 : Hid (DSt w c A O fx w4 a cap rs x) := HS.out.grow (over_bel hw4)
          clear hw4 hne HC1 a0 o0 o1 HO
          go_wp2_with fail
          refine (HGo.out _ _ _ _ HS4.out).mono ?_
          rintro r w6 ⟨y, rfl, hd, hy, hyf⟩
          have HS6 : Hid (DSt w c A O fx w6 _ _ _ x) := hd
          have HY6 : Hid (OwnA w.heap.size w6 y ∧ Fine y.2.2) := ⟨hy, hyf⟩
          have q0 : w6.cell? ⟨A, 0, none⟩ = some (.slice (some ⟨x.1, 0, none⟩) x.2.2.l.length x.2.1) := hd.bA.cell 0
          have q1 : w6.cell? ⟨A, 1, none⟩ = some (.int .i64 x.2.2.s) := hd.bA.cell 1
          have q2 : w6.cell? ⟨A, 2, none⟩ = some (.int .i64 x.2.2.e) := hd.bA.cell 2
          have q3 : w6.cell? ⟨A, 3, none⟩ = some (.string x.2.2.n) := hd.bA.cell 3
          have g0 := hd.bA.frozen 0
          have g1 := hd.bA.frozen 1
          have g2 := hd.bA.frozen 2
          have g3 := hd.bA.frozen 3
          clear hd hy hyf
          go_wp2
          go_roundw
          case rel => exact ⟨j - 1, _, _, _, y, by go_num, by omega, by omega, HS6.out.other HY6.out.1 HY6.out.2, fun e => absurd e HN.out⟩
          case measure => simp [intOf]; omega
      · have hF1 : ((fingerB x.2.2.l : Int) == fx) = false := by simpa using hF
        have HN : Hid (rs ≠ []) := fun e => hF (HFi.out e).1
        go_wp2
        refine wp_over (z := wr) (by kernel_rfl) (by kernel_rfl) (Below.refl _ _) ?_
        repeat (go_big_quiet_step (first | (go_at_call 60; exact call_over (HC1 _).out)))
        refine wpQuiet_nil ?_
        intro w4 hw4
        have HS4 : Hid (DSt w c A O fx w4 a cap rs x) := HS.out.grow (over_bel hw4)
        clear hw4 hne HC1 a0 o0 o1 HO
        go_wp2_with fail
        refine (HGo.out _ _ _ _ HS4.out).mono ?_
        rintro r w6 ⟨y, rfl, hd, hy, hyf⟩
        have HS6 : Hid (DSt w c A O fx w6 _ _ _ x) := hd
        have HY6 : Hid (OwnA w.heap.size w6 y ∧ Fine y.2.2) := ⟨hy, hyf⟩
        have q0 : w6.cell? ⟨A, 0, none⟩ = some (.slice (some ⟨x.1, 0, none⟩) x.2.2.l.length x.2.1) := hd.bA.cell 0
        have q1 : w6.cell? ⟨A, 1, none⟩ = some (.int .i64 x.2.2.s) := hd.bA.cell 1
        have q2 : w6.cell? ⟨A, 2, none⟩ = some (.int .i64 x.2.2.e) := hd.bA.cell 2
        have q3 : w6.cell? ⟨A, 3, none⟩ = some (.string x.2.2.n) := hd.bA.cell 3
        have g0 := hd.bA.frozen 0
        have g1 := hd.bA.frozen 1
        have g2 := hd.bA.frozen 2
        have g3 := hd.bA.frozen 3
        clear hd hy hyf
        go_wp2
        go_roundw
        case rel => exact ⟨j - 1, _, _, _, y, by go_num, by omega, by omega, HS6.out.other HY6.out.1 HY6.out.2, fun e => absurd e HN.out⟩
        case measure => simp [intOf]; omega
    · have hj' : ¬ (j ≥ 0) := by omega
      have hr0 : 0 < rs.length := by
        rcases rs with _ | ⟨y, ys⟩
        · exact absurd (HFi.out rfl).2 hj
        · simp
      have o0 : wr.cell? ⟨O, 0, none⟩ = some (.int .i64 fx) := HS.out.bO.cell 0
      have o1 : wr.cell? ⟨O, 1, none⟩ = some (.slice a rs.length cap) := HS.out.bO.cell 1
      have r0 : wr.cell? ⟨w.heap.size, 0, none⟩ = some (.int .i64 0) := HS.out.bR.cell 0
      have r1 : wr.cell? ⟨w.heap.size, 1, none⟩ = some (.slice none 0 0) := HS.out.bR.cell 1
      have f0 := HS.out.bR.frozen 0
      have f1 := HS.out.bR.frozen 1
      go_wp2
      have hs : Blk ((wr.setCell ⟨w.heap.size, 0, none⟩ (.int .i64 fx)).setCell ⟨w.heap.size, 1, none⟩ (.slice a rs.length cap)) w.heap.size #[.int .i64 fx, .slice a rs.length cap] 26 := (HS.out.bR.set 0 _).set 1 _
      have s0 := hs.cell 0
      have s1 := hs.cell 1
      refine bodyPost_ret (v := .agg #[.int .i64 fx, .slice a rs.length cap]) (by simp [results, Try.results86, go_sem, s0, s1]) rfl ?_
      have h0 := HS.out.clt; have h1 := HS.out.ord
      rcases HS.out.list with ⟨_, e⟩ | ⟨M, e, hab⟩
      · rw [e] at hr0; simp at hr0
      · subst e
        exact ⟨fx, M, cap, rs, rfl, ⟨ab_under (ab_under (hab.down (by omega)) (by omega) _ _) (by omega) _ _, cur_set (cur_set HS.out.cur h0 _ _) h0 _ _, kept_set (kept_set HS.out.kept (Nat.le_refl _) _ _) (Nat.le_refl _) _ _, h0, HS.out.fine⟩, hr0, HS.out.few, HFX.out⟩
end Go.Proofs.Ytcopckbpflmmeaa.DrawC
