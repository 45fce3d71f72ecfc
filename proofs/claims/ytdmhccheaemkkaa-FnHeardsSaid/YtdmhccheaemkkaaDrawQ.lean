/-
  PROVED: the contracts of the draws of chapter 9: what who listens has, drawn, bent or not, in new memory.
-/
import Derived.Test.YtdmhccheaemkkaaLsD
import Derived.Test.YtdmhccheaemkkaaLawB
import Derived.Test.YtdmhccheaemkkaaTel
import Derived.Test.YtdmhccheaemkkaaHld
import Derived.Test.YtdmhccheaemkkaaSubs
import Derived.Test.YtdmhccheaemkkaaDrawK
namespace Go.Proofs.Ytdmhccheaemkkaa.DrawQ
open Go.RowKit
open Go.Proofs.Ytdmhccheaemkkaa.Draw
open Go.Proofs.Ytdmhccheaemkkaa.Labs Go.Proofs.Ytdmhccheaemkkaa.LabS Go.Proofs.Ytdmhccheaemkkaa.Over Go.Proofs.Ytdmhccheaemkkaa.Blk Go.Proofs.Ytdmhccheaemkkaa.App Go.Proofs.Ytdmhccheaemkkaa.DrawL Go.Proofs.Ytdmhccheaemkkaa.DrawT Go.Proofs.Ytdmhccheaemkkaa.Alms Go.Proofs.Ytdmhccheaemkkaa.AlmM Go.Proofs.Ytdmhccheaemkkaa.DrawA Go.Proofs.Ytdmhccheaemkkaa.DrawB Go.Proofs.Ytdmhccheaemkkaa.Rws Go.Proofs.Ytdmhccheaemkkaa.ChnI Go.Proofs.Ytdmhccheaemkkaa.ChnC Go.Proofs.Ytdmhccheaemkkaa.ChnP Go.Proofs.Ytdmhccheaemkkaa.ChnK Go.Proofs.Ytdmhccheaemkkaa.DrawC Go.Proofs.Ytdmhccheaemkkaa.Chs Go.Proofs.Ytdmhccheaemkkaa.Que Go.Proofs.Ytdmhccheaemkkaa.Tel
open Go.Proofs.Ytdmhccheaemkkaa.LabT (Held held_reads)
set_option linter.unusedVariables false

theorem qo_kept {c lo : Nat} {w w' : World} {a : Option Addr} {cap : Nat} {rs : List ARow} (h : QO lo w a cap rs) (hk : Kept c w w') (hc : c < lo) : QO lo w' a cap rs := h.imp id fun ⟨M, e, k⟩ => ⟨M, e, ab_kept k hk hc⟩
theorem qo_under {lo : Nat} {w : World} {A : Nat} {a : Option Addr} {cap : Nat} {rs : List ARow} (h : QO lo w a cap rs) (hA : A < lo) (i : Nat) (v : Value) : QO lo (w.setCell ⟨A, i, none⟩ v) a cap rs := h.imp id fun ⟨M, e, k⟩ => ⟨M, e, ab_under k hA i v⟩
/-- the row as append takes it -/
theorem qo_own {lo : Nat} {w : World} {a : Option Addr} {cap : Nat} {rs : List ARow} (h : QO lo w a cap rs) : ∃ xs : List Value, w.ownsRow lo 29 4 (.slice a rs.length cap) rs.length xs ∧ xs.length = rs.length * 4 ∧ ∀ i, i < rs.length → Four (fun k => xs[k]?) i (nthA rs i) := by
  rcases h with ⟨rfl, rfl, rfl⟩ | ⟨M, rfl, h⟩
  · exact ⟨[], ⟨rfl, .inl ⟨rfl, rfl⟩⟩, rfl, fun i hi => by simp at hi⟩
  · exact h.own
theorem qo_app {lo : Nat} {W w' : World} {a : Option Addr} {c : Nat} {rs : List ARow} {x : ARow} {xs : List Value} {v' : Value} (h : QO lo W a c rs) (hx : OwnA lo W x) (hne : ∀ y ∈ rs, y.1 ≠ x.1) (hl : xs.length = rs.length * 4) (hxs : ∀ i, i < rs.length → Four (fun k => xs[k]?) i (nthA rs i))
    (hown : w'.ownsRow lo 29 4 v' (rs.length + 1) (xs ++ rowV x)) (hg : W.grownBy w' (Value.slice a rs.length c).ownBlock) : ∃ M' c', v' = .slice (some ⟨M', 0, none⟩) (rs.length + 1) c' ∧ AB lo w' M' c' (rs ++ [x]) := by
  rcases h with ⟨rfl, rfl, rfl⟩ | ⟨M, rfl, h⟩
  · have hx0 : xs = [] := by simpa using hl
    subst hx0
    rcases hown.2 with ⟨_, e⟩ | ⟨g, cap, cur, e, hb, hgb, hc, hm, hz, ht⟩
    · simp at e
    · have hg' : W.grownBy w' none := hg
      have far : OwnA lo w' x := by
        obtain ⟨h0, h1, ds, h2, h3⟩ := hx
        exact ⟨h0, h1, ds, blk_far h2 hg' (fun e => by cases e), h3⟩
      refine ⟨g, cap, e, hb, ⟨by simpa using hc, hm⟩, ⟨cur, hgb, hz, fun i hi => ?_⟩, fun y hy => ?_, by simp⟩
      · have ei : i = 0 := by simp at hi; omega
        subst ei
        have hr : ∀ j, j < 4 → cur[j]? = (rowV x)[j]? := fun j hj => by
          have e2 : (cur.toList.take 4)[j]? = (rowV x)[j]? := by
            have : cur.toList.take 4 = rowV x := by simpa using ht
            rw [this]
          rw [List.getElem?_take_of_lt hj] at e2
          simpa using e2
        exact ⟨hr 0 (by omega), hr 1 (by omega), hr 2 (by omega), hr 3 (by omega)⟩
      · have : y = x := by simpa using hy
        rw [this]; exact far
  · exact h.app hx hne hl hxs hown hg
theorem fines_tell {P : List PAl} {g : Bool} {x : PAl} (h : Fines P) (hx : Fine x) : Fines (tellB P g x).1 := by
  unfold tellB
  split
  · exact h
  · split
    · exact fines_nil
    · exact fines_app h hx
theorem tell_le {P : List PAl} {g : Bool} {x : PAl} (h : P.length ≤ 3) : (tellB P g x).1.length ≤ 3 := by
  unfold tellB
  split
  · exact h
  · split
    · simp
    · simp; omega

theorem qo_lt {lo : Nat} {w : World} {a : Option Addr} {cap : Nat} {rs : List ARow} (h : QO lo w a cap rs) : ∀ x ∈ rs, x.1 < w.heap.size := fun x hx => by
  rcases h with ⟨_, _, rfl⟩ | ⟨M, _, h⟩
  · simp at hx
  · exact (h.rows x hx).lt
theorem qo_block {lo : Nat} {w : World} {a : Option Addr} {cap n : Nat} {rs : List ARow} (h : QO lo w a cap rs) {X : Nat} {cs : Array Value} (hX : Blk w X cs 26) : ∀ k, (Value.slice a n cap).ownBlock = some k → lo ≤ k ∧ X ≠ k := fun k hk => by
  rcases h with ⟨rfl, _, _⟩ | ⟨M, rfl, h⟩
  · cases hk
  · cases hk
    obtain ⟨cu, hcu, _⟩ := h.outer
    exact ⟨h.at', ne_blk hX hcu (by decide)⟩

/-- where a draw of a listener stands: cursor, result (R), what it makes (O), its row -/
structure QSt (w : World) (c O : Nat) (wr : World) (a : Option Addr) (cap : Nat) (rs : List ARow) (g : Bool) : Prop where
  cur : Cur wr c
  kept : Kept c w wr
  clt : c < w.heap.size
  ord : w.heap.size < O ∧ O < wr.heap.size
  bR : Blk wr w.heap.size #[.slice none 0 0, .bool false] 26
  bO : Blk wr O #[.slice a rs.length cap, .bool g] 26
  q : QO (w.heap.size + 1) wr a cap rs
  fine : Fines (pals rs)
theorem QSt.keep {w : World} {c O : Nat} {wr w' : World} {a : Option Addr} {cap : Nat} {rs : List ARow} {g : Bool} (h : QSt w c O wr a cap rs g) (hc : Cur w' c) (hk : Kept c wr w') : QSt w c O w' a cap rs g :=
  ⟨hc, h.kept.trans hk, h.clt, ⟨h.ord.1, Nat.lt_of_lt_of_le h.ord.2 hk.size⟩, blk_kept h.bR hk (by have := h.clt; omega), blk_kept h.bO hk (by have := h.clt; have := h.ord; omega), qo_kept h.q hk (by have := h.clt; omega), h.fine⟩
theorem QSt.grow {w : World} {c O : Nat} {wr w' : World} {a : Option Addr} {cap : Nat} {rs : List ARow} {g : Bool} (h : QSt w c O wr a cap rs g) (hb : Below wr.heap.size wr w') : QSt w c O w' a cap rs g := h.keep (cur_bel h.cur hb) (kept_bel hb)
theorem QSt.few {w : World} {c O : Nat} {wr : World} {a : Option Addr} {cap : Nat} {rs : List ARow} {g : Bool} (h : QSt w c O wr a cap rs g) : FitsP (pals rs) ∧ LenM (pals rs) := ⟨h.fine.fits, h.fine.lens⟩
/-- the cells of a listener are written anew -/
theorem QSt.put {w : World} {c O : Nat} {wr : World} {a a' : Option Addr} {cap cap' : Nat} {rs rs' : List ARow} {g g' : Bool} (h : QSt w c O wr a cap rs g) (hq : QO (w.heap.size + 1) wr a' cap' rs') (hf : Fines (pals rs')) :
    QSt w c O ((wr.setCell ⟨O, 0, none⟩ (.slice a' rs'.length cap')).setCell ⟨O, 1, none⟩ (.bool g')) a' cap' rs' g' := by
  have h0 := h.clt; have h1 := h.ord
  exact ⟨cur_set (cur_set h.cur (by omega) _ _) (by omega) _ _, DrawC.kept_set (DrawC.kept_set h.kept (by omega) _ _) (by omega) _ _, h0, by simpa using h1, (h.bR.set_other (by show O ≠ _; omega) _).set_other (by show O ≠ _; omega) _, (h.bO.set 0 _).set 1 _, hq.moved (sub_moved h.bO (by decide) (by decide) _ _), hf⟩
theorem QSt.setG {w : World} {c O : Nat} {wr : World} {a : Option Addr} {cap : Nat} {rs : List ARow} {g : Bool} (h : QSt w c O wr a cap rs g) (g' : Bool) : QSt w c O (wr.setCell ⟨O, 1, none⟩ (.bool g')) a cap rs g' := by
  have h0 := h.clt; have h1 := h.ord
  exact ⟨cur_set h.cur (by omega) _ _, DrawC.kept_set h.kept (by omega) _ _, h0, by simpa using h1, h.bR.set_other (by show O ≠ _; omega) _, h.bO.set 1 _, h.q.moved (Moved.set h.bO (by decide) (by decide) 1 _), h.fine⟩
/-- only its row is written anew -/
theorem QSt.setQ {w : World} {c O : Nat} {W wr : World} {a a' : Option Addr} {cap cap' : Nat} {rs rs' : List ARow} {g : Bool} (h : QSt w c O W a cap rs g) (hc : Cur wr c) (hk : Kept c w wr) (hs : O < wr.heap.size) (hR : Blk wr w.heap.size #[.slice none 0 0, .bool false] 26) (hO : Blk wr O #[.slice a rs.length cap, .bool g] 26) (hq : QO (w.heap.size + 1) wr a' cap' rs') (hf : Fines (pals rs')) :
    QSt w c O (wr.setCell ⟨O, 0, none⟩ (.slice a' rs'.length cap')) a' cap' rs' g := by
  have h0 := h.clt; have h1 := h.ord
  exact ⟨cur_set hc (by omega) _ _, DrawC.kept_set hk (by omega) _ _, h0, by simp; omega, hR.set_other (by show O ≠ _; omega) _, hO.set 0 _, hq.moved (Moved.set hO (by decide) (by decide) 0 _), hf⟩

theorem QSt.side {w : World} {c O : Nat} {wr : World} {a : Option Addr} {cap : Nat} {rs : List ARow} {g : Bool} (h : QSt w c O wr a cap rs g) {N : Nat} {cs : Array Value} (hN : Blk wr N cs 26) (hlt : O < N) (v0 v1 : Value) : QSt w c O ((wr.setCell ⟨N, 0, none⟩ v0).setCell ⟨N, 1, none⟩ v1) a cap rs g := by
  have h0 := h.clt; have h1 := h.ord
  exact ⟨cur_set (cur_set h.cur (by omega) _ _) (by omega) _ _, DrawC.kept_set (DrawC.kept_set h.kept (by omega) _ _) (by omega) _ _, h0, by simpa using h1, (h.bR.set_other (by show N ≠ _; omega) _).set_other (by show N ≠ _; omega) _, (h.bO.set_other (by show N ≠ _; omega) _).set_other (by show N ≠ _; omega) _, h.q.moved (sub_moved hN (by decide) (by decide) _ _), h.fine⟩

/-- a listener that was drawn -/
structure SQ (w : World) (c : Nat) (wr : World) (a : Option Addr) (cap : Nat) (rs : List ARow) : Prop where
  q : QO (w.heap.size + 1) wr a cap rs
  cur : Cur wr c
  kept : Kept c w wr
  clt : c < w.heap.size
  fine : Fines (pals rs)
theorem QSt.fin {w : World} {c O : Nat} {wr : World} {a : Option Addr} {cap : Nat} {rs : List ARow} {g : Bool} (h : QSt w c O wr a cap rs g) (v0 v1 : Value) : SQ w c ((wr.setCell ⟨w.heap.size, 0, none⟩ v0).setCell ⟨w.heap.size, 1, none⟩ v1) a cap rs :=
  ⟨qo_under (qo_under h.q (by omega) _ _) (by omega) _ _, cur_set (cur_set h.cur h.clt _ _) h.clt _ _, DrawC.kept_set (DrawC.kept_set h.kept (Nat.le_refl _) _ _) (Nat.le_refl _) _ _, h.clt, h.fine⟩
def Q9 (w : World) (c n : Nat) (r : Ending) (w' : World) : Prop := ∃ (a : Option Addr) (cap : Nat) (rs : List ARow) (g : Bool), r = .returned (.agg #[.slice a rs.length cap, .bool g]) ∧ SQ w c w' a cap rs ∧ rs.length ≤ n
theorem bel_alloc {z w : World} (h : Below z.heap.size z w) (o : Obj) : Below z.heap.size z (w.alloc o) := h.alloc h.size o

set_option maxRecDepth 100000 in
set_option maxHeartbeats 3200000 in
theorem l9Draw_any (c : Nat) (w : World) (hc : Cur w c) :
    Calls Try.prog 70 #[.pointer (some ⟨c, 0, none⟩)] w fun r w' => Q9 w c 3 r w' := by
  have HC : Hid (Cur w c) := hc
  have HL : Hid (c < w.heap.size) := hc.lt
  clear hc
  go_enter Try.func70, Try.ntmps70
  go_wp2_with fail
  refine (below_any c 6 _ ((HC.out.alloc _).alloc _) (by decide) (by decide)).mono ?_
  rintro r w1 ⟨⟨j0, rfl, hj0, hj1⟩, hc1, hk1⟩
  have HS1 : Hid (QSt w c (w.heap.size + 1) w1 none 0 [] false) := by
    have h0 := HL.out
    have hs := hk1.size
    simp at hs
    exact ⟨hc1, (((Kept.refl c w).alloc _).alloc _).trans hk1, h0, ⟨by omega, by omega⟩, blk_kept ((Blk.new _ _ _).alloc _) hk1 (by omega), blk_kept (Blk.new_at (by simp)) hk1 (by omega), .inl ⟨rfl, rfl, rfl⟩, fines_nil⟩
  have HJ : Hid (0 ≤ j0 ∧ j0 ≤ 5) := ⟨hj0, by omega⟩
  clear hc1 hk1 hj0 hj1
  generalize w.heap.size + 1 = O at HS1 ⊢
  go_wp2
  go_loopw [4] (fun i wr => ∃ (j : Int) (a : Option Addr) (cap : Nat) (rs : List ARow) (g : Bool), i = .int .i64 j ∧ 0 ≤ j ∧ j ≤ 5 ∧ QSt w c O wr a cap rs g ∧ rs.length ≤ 3) (fun i _ => (intOf i).toNat)
  case atStart => exact ⟨j0, none, 0, [], false, rfl, HJ.out.1, HJ.out.2, HS1.out, by simp⟩
  case round =>
    clear HS1 HJ HC
    obtain ⟨j, a, cap, rs, g, rfl, hj1, hj2, hst, hrs⟩ := hrel
    have HS : Hid (QSt w c O wr a cap rs g) := hst
    have HR : Hid (rs.length ≤ 3) := hrs
    clear hst hrs
    by_cases hj : 0 < j
    · have hj' : (j > 0) := hj
      have HGo : Hid (∀ w5, QSt w c O w5 a cap rs g → Calls Try.prog 43 #[.pointer (some ⟨c, 0, none⟩)] w5 fun r w' => ∃ (y : ARow), r = .returned (.agg #[.slice (some ⟨y.1, 0, none⟩) y.2.2.l.length y.2.1, .int .i64 y.2.2.s, .int .i64 y.2.2.e, .string y.2.2.n]) ∧ QSt w c O w' a cap rs g ∧ OwnA (w.heap.size + 1) w' y ∧ Fine y.2.2 ∧ Kept c w5 w') := fun w5 hd => (l4Draw_any c w5 hd.cur).mono fun r w' ⟨g1, cp, p, s, e, n, hr, hst, hp, hs, he, hn⟩ => ⟨(g1, cp, ⟨p, s, e, n⟩), hr, hd.keep hst.cur hst.kept, (own_lst hst hp).down (by have := hd.ord; omega), fine_of hp hst.fit hs he hn, hst.kept⟩
      have HX : Hid (∀ w', QSt w c O w' a cap rs g → w'.cell? ⟨O, 0, none⟩ = some (.slice a rs.length cap) ∧ w'.cell? ⟨O, 1, none⟩ = some (.bool g)) := fun w' h => ⟨h.bO.cell 0, h.bO.cell 1⟩
      go_upto_region 5 with fail
      go_cut [5] from 13 to 17 (fun s5 wx => ∃ (N : Nat) (a' : Option Addr) (cap' : Nat) (rs' : List ARow) (g' : Bool), s5 = .pointer (some ⟨N, 0, none⟩) ∧ Blk wx N #[.slice a' rs'.length cap', .bool g'] 26 ∧ QO (w.heap.size + 1) wx a' cap' rs' ∧ Fines (pals rs') ∧ rs'.length ≤ 3 ∧ O < N ∧ QSt w c O wx a cap rs g)
      case first =>
        refine wp_region_held_drew (S := fun w' => w'.cell? ⟨O, 0, none⟩ = some (.slice a rs.length cap) ∧ w'.cell? ⟨O, 1, none⟩ = some (.bool g)) (by kernel_rfl) (HX.out _ (HS.out.keep (Cur.drewN HS.out.cur 1) (kept_bel (Below.refl _ _).drew))) (fun hHeld => ?_)
        refine wpAnyH_take (i := 0) (oi := { dst := some 13, op := Op.load 26 (Operand.tmp 3), type := 26, pos := "l09_sub.go:74", after := #[], guard := none }) (v := ?vd51) rfl (by kernel_rfl) (by kernel_rfl) (by kernel_rfl) (fun _ _ _ h => h) (Or.inl ⟨by rfl, ?hyd51⟩) hHeld ?_
        case hyd51 => (intro w hSw; (try dsimp only at hSw); go_simp <;> with_reducible rfl)
        try simp only [Act.put, List.setIfInBounds_toArray, List.set_cons_zero, List.set_cons_succ]
        refine wpAnyH_take (i := 1) (oi := { dst := some 14, op := Op.move (Operand.tmp 0), type := 65, pos := "l09_sub.go:74", after := #[], guard := none }) (v := ?vd52) rfl (by kernel_rfl) (by kernel_rfl) (by kernel_rfl) (fun _ _ _ h => h) (Or.inl ⟨by rfl, ?hyd52⟩) hHeld ?_
        case hyd52 => (intro w hSw; (try dsimp only at hSw); go_simp <;> with_reducible rfl)
        try simp only [Act.put, List.setIfInBounds_toArray, List.set_cons_zero, List.set_cons_succ]
        refine wpAnyH_ready (rs := [2, 4]) (by kernel_rfl) (by simp) ?_
        refine AllReadyH.cons (o := { dst := some 15, op := Op.call { callee := Callee.value (Operand.func 43), args := #[Operand.tmp 14], argTypes := #[65] }, type := 29, pos := "l09_sub.go:74", after := #[{ on := 1, ground := Ground.data }], guard := none }) rfl (fun K hK => ?_) ?_
        ·
          go_simp
          refine (HGo.out _ (HS.out.keep (Cur.drewN HS.out.cur 1) (kept_bel (Below.refl _ _).drew))).mono ?_
          rintro r wa ⟨y, rfl, hx, hO, hF, hy⟩
          have HA : Hid (QSt w c O wa a cap rs g) := hx
          have YA : Hid (OwnA (w.heap.size + 1) wa y ∧ Fine y.2.2) := ⟨hO, hF⟩
          clear hx hO hF hy
          try dsimp only
          clear hHeld
          refine hK.out _ _ (HX.out _ HA.out) (fun hHeld => ?_)
          clear hK K
          try simp only [Act.put, List.setIfInBounds_toArray, List.set_cons_zero, List.set_cons_succ]
          refine wpAnyH_ready (rs := [3, 4]) (by kernel_rfl) (by simp) ?_
          refine AllReadyH.cons (o := { dst := some 16, op := Op.call { callee := Callee.value (Operand.func 19), args := #[Operand.tmp 13, Operand.tmp 15], argTypes := #[26, 29] }, type := 26, pos := "l09_sub.go:74", after := #[{ on := 0, ground := Ground.data }, { on := 2, ground := Ground.data }, { on := 2, ground := Ground.chain }], guard := none }) rfl (fun K hK => ?_) ?_
          ·
            go_simp
            have hF : QSt w c O wa a cap rs g := HA.out
            have hcall := specTell_any a cap (pals rs) g y.1 0 y.2.1 y.2.2 wa hF.q.rd ((YA.out.1.grow (Below.refl _ _)).reads) (by rw [Rws.pals_len]; have := HR.out; omega) HA.out.fine.lens (by have := YA.out.2.2; omega)
            rw [Rws.pals_len] at hcall
            refine hcall.mono ?_
            clear hcall
            rintro r wb ⟨⟨a', cap', rs', rfl, hA, hP⟩, hy⟩
            have HB : Hid (QSt w c O wb a cap rs g) := hF.grow hy
            have QB : Hid (QO (w.heap.size + 1) wb a' cap' rs' ∧ Fines (pals rs') ∧ rs'.length ≤ 3) := ⟨hA.down (by have := hF.ord; omega), by rw [hP]; exact fines_tell HA.out.fine YA.out.2, by rw [← Rws.pals_len, hP]; exact tell_le (by rw [Rws.pals_len]; exact HR.out)⟩
            clear hA hP hy hF
            generalize (tellB (pals rs) g y.2.2).2 = g'
            try dsimp only
            clear hHeld
            refine hK.out _ _ (HX.out _ HB.out) (fun hHeld => ?_)
            clear hK K
            try simp only [Act.put, List.setIfInBounds_toArray, List.set_cons_zero, List.set_cons_succ]
            refine wpAnyH_ready (rs := [4]) (by kernel_rfl) (by simp) ?_
            refine AllReadyH.cons (o := { dst := some 5, op := Op.alloc 26, type := 0, pos := "l09_sub.go:74", after := #[], guard := none }) rfl (fun K hK => ?_) AllReadyH.nil
            go_simp
            clear hHeld
            refine hK.out _ _ (HX.out _ (HB.out.grow (Go.Joins.below_alloc1 _ _))) (fun hHeld => ?_)
            clear hK K
            try simp only [Act.put, List.setIfInBounds_toArray, List.set_cons_zero, List.set_cons_succ]
            refine wpAnyH_ready (rs := [5]) (by kernel_rfl) (by simp) ?_
            refine AllReadyH.cons (o := { dst := none, op := Op.store 26 (Operand.tmp 5) (Operand.tmp 16), type := 0, pos := "l09_sub.go:74", after := #[{ on := 4, ground := Ground.data }, { on := 3, ground := Ground.data }, { on := 3, ground := Ground.chain }, { on := 0, ground := Ground.phase }, { on := 1, ground := Ground.phase }, { on := 2, ground := Ground.phase }, { on := 3, ground := Ground.phase }, { on := 4, ground := Ground.phase }], guard := none }) rfl (fun K hK => ?_) AllReadyH.nil
            go_simp
            clear hHeld
            refine hK.out _ _ (HX.out _ (HB.out.grow (Go.Joins.below_alloc1 _ _))) (fun hHeld => ?_)
            clear hK K
            try simp only [Act.put, List.setIfInBounds_toArray, List.set_cons_zero, List.set_cons_succ]
            refine wpAnyH_done (by kernel_rfl) ?_ _
            go_wp2_with fail
            go_meet
            exact ⟨_, a', cap', rs', g', rfl, Blk.new _ _ _, QB.out.1.grow (Go.Joins.below_alloc1 wb _), QB.out.2.1, QB.out.2.2, HB.out.ord.2, HB.out.grow (Go.Joins.below_alloc1 _ _)⟩
          refine AllReadyH.cons (o := { dst := some 5, op := Op.alloc 26, type := 0, pos := "l09_sub.go:74", after := #[], guard := none }) rfl (fun K hK => ?_) AllReadyH.nil
          go_simp
          clear hHeld
          refine hK.out _ _ (HX.out _ (HA.out.grow (Go.Joins.below_alloc1 _ _))) (fun hHeld => ?_)
          clear hK K
          try simp only [Act.put, List.setIfInBounds_toArray, List.set_cons_zero, List.set_cons_succ]
          refine wpAnyH_ready (rs := [3]) (by kernel_rfl) (by simp) ?_
          refine AllReadyH.cons (o := { dst := some 16, op := Op.call { callee := Callee.value (Operand.func 19), args := #[Operand.tmp 13, Operand.tmp 15], argTypes := #[26, 29] }, type := 26, pos := "l09_sub.go:74", after := #[{ on := 0, ground := Ground.data }, { on := 2, ground := Ground.data }, { on := 2, ground := Ground.chain }], guard := none }) rfl (fun K hK => ?_) AllReadyH.nil
          go_simp
          have hF : QSt w c O (wa.alloc (.cells #[.slice none 0 0, .bool false] 26)) a cap rs g := (HA.out.grow (Go.Joins.below_alloc1 _ _))
          have hcall := specTell_any a cap (pals rs) g y.1 0 y.2.1 y.2.2 (wa.alloc (.cells #[.slice none 0 0, .bool false] 26)) hF.q.rd ((YA.out.1.grow (Go.Joins.below_alloc1 wa _)).reads) (by rw [Rws.pals_len]; have := HR.out; omega) HA.out.fine.lens (by have := YA.out.2.2; omega)
          rw [Rws.pals_len] at hcall
          refine hcall.mono ?_
          clear hcall
          rintro r wb ⟨⟨a', cap', rs', rfl, hA, hP⟩, hy⟩
          have HB : Hid (QSt w c O wb a cap rs g) := hF.grow hy
          have QB : Hid (QO (w.heap.size + 1) wb a' cap' rs' ∧ Fines (pals rs') ∧ rs'.length ≤ 3) := ⟨hA.down (by have := hF.ord; omega), by rw [hP]; exact fines_tell HA.out.fine YA.out.2, by rw [← Rws.pals_len, hP]; exact tell_le (by rw [Rws.pals_len]; exact HR.out)⟩
          have NBB : Hid (Blk wb wa.heap.size #[.slice none 0 0, .bool false] 26 ∧ O < wa.heap.size) := ⟨((Blk.new wa _ _).grow hy), (by have := HA.out.ord; omega)⟩
          clear hA hP hy hF
          generalize (tellB (pals rs) g y.2.2).2 = g'
          try dsimp only
          clear hHeld
          refine hK.out _ _ (HX.out _ HB.out) (fun hHeld => ?_)
          clear hK K
          try simp only [Act.put, List.setIfInBounds_toArray, List.set_cons_zero, List.set_cons_succ]
          refine wpAnyH_ready (rs := [5]) (by kernel_rfl) (by simp) ?_
          refine AllReadyH.cons (o := { dst := none, op := Op.store 26 (Operand.tmp 5) (Operand.tmp 16), type := 0, pos := "l09_sub.go:74", after := #[{ on := 4, ground := Ground.data }, { on := 3, ground := Ground.data }, { on := 3, ground := Ground.chain }, { on := 0, ground := Ground.phase }, { on := 1, ground := Ground.phase }, { on := 2, ground := Ground.phase }, { on := 3, ground := Ground.phase }, { on := 4, ground := Ground.phase }], guard := none }) rfl (fun K hK => ?_) AllReadyH.nil
          have n0 : wb.cell? ⟨wa.heap.size, 0, none⟩ = some (.slice none 0 0) := NBB.out.1.cell 0
          have n1 : wb.cell? ⟨wa.heap.size, 1, none⟩ = some (.bool false) := NBB.out.1.cell 1
          have m0 := NBB.out.1.frozen 0
          have m1 := NBB.out.1.frozen 1
          go_simp
          clear n0 n1 m0 m1 hHeld
          have hz := HB.out.side NBB.out.1 NBB.out.2 (.slice a' rs'.length cap') (.bool g')
          refine hK.out _ _ (HX.out _ hz) (fun hHeld => ?_)
          clear hK K hz
          try simp only [Act.put, List.setIfInBounds_toArray, List.set_cons_zero, List.set_cons_succ]
          refine wpAnyH_done (by kernel_rfl) ?_ _
          go_wp2_with fail
          go_meet
          exact ⟨_, a', cap', rs', g', rfl, (NBB.out.1.set 0 _).set 1 _, QB.out.1.moved (sub_moved NBB.out.1 (by decide) (by decide) _ _), QB.out.2.1, QB.out.2.2, NBB.out.2, HB.out.side NBB.out.1 NBB.out.2 _ _⟩
        refine AllReadyH.cons (o := { dst := some 5, op := Op.alloc 26, type := 0, pos := "l09_sub.go:74", after := #[], guard := none }) rfl (fun K hK => ?_) AllReadyH.nil
        go_simp
        clear hHeld
        refine hK.out _ _ (HX.out _ ((HS.out.keep (Cur.drewN HS.out.cur 1) (kept_bel (Below.refl _ _).drew)).grow (Go.Joins.below_alloc1 _ _))) (fun hHeld => ?_)
        clear hK K
        try simp only [Act.put, List.setIfInBounds_toArray, List.set_cons_zero, List.set_cons_succ]
        refine wpAnyH_ready (rs := [2]) (by kernel_rfl) (by simp) ?_
        refine AllReadyH.cons (o := { dst := some 15, op := Op.call { callee := Callee.value (Operand.func 43), args := #[Operand.tmp 14], argTypes := #[65] }, type := 29, pos := "l09_sub.go:74", after := #[{ on := 1, ground := Ground.data }], guard := none }) rfl (fun K hK => ?_) AllReadyH.nil
        go_simp
        refine (HGo.out _ ((HS.out.keep (Cur.drewN HS.out.cur 1) (kept_bel (Below.refl _ _).drew)).grow (Go.Joins.below_alloc1 _ _))).mono ?_
        rintro r wa ⟨y, rfl, hx, hO, hF, hy⟩
        have HA : Hid (QSt w c O wa a cap rs g) := hx
        have YA : Hid (OwnA (w.heap.size + 1) wa y ∧ Fine y.2.2) := ⟨hO, hF⟩
        have NBA : Hid (Blk wa wr.heap.size #[.slice none 0 0, .bool false] 26 ∧ O < wr.heap.size) := ⟨(blk_kept (Blk.new wr.drew _ _) hy (by have := HS.out.clt; have := HS.out.ord; omega)), (by have := HS.out.ord; omega)⟩
        clear hx hO hF hy
        try dsimp only
        clear hHeld
        refine hK.out _ _ (HX.out _ HA.out) (fun hHeld => ?_)
        clear hK K
        try simp only [Act.put, List.setIfInBounds_toArray, List.set_cons_zero, List.set_cons_succ]
        refine wpAnyH_ready (rs := [3]) (by kernel_rfl) (by simp) ?_
        refine AllReadyH.cons (o := { dst := some 16, op := Op.call { callee := Callee.value (Operand.func 19), args := #[Operand.tmp 13, Operand.tmp 15], argTypes := #[26, 29] }, type := 26, pos := "l09_sub.go:74", after := #[{ on := 0, ground := Ground.data }, { on := 2, ground := Ground.data }, { on := 2, ground := Ground.chain }], guard := none }) rfl (fun K hK => ?_) AllReadyH.nil
        go_simp
        have hF : QSt w c O wa a cap rs g := HA.out
        have hcall := specTell_any a cap (pals rs) g y.1 0 y.2.1 y.2.2 wa hF.q.rd ((YA.out.1.grow (Below.refl _ _)).reads) (by rw [Rws.pals_len]; have := HR.out; omega) HA.out.fine.lens (by have := YA.out.2.2; omega)
        rw [Rws.pals_len] at hcall
        refine hcall.mono ?_
        clear hcall
        rintro r wb ⟨⟨a', cap', rs', rfl, hA, hP⟩, hy⟩
        have HB : Hid (QSt w c O wb a cap rs g) := hF.grow hy
        have QB : Hid (QO (w.heap.size + 1) wb a' cap' rs' ∧ Fines (pals rs') ∧ rs'.length ≤ 3) := ⟨hA.down (by have := hF.ord; omega), by rw [hP]; exact fines_tell HA.out.fine YA.out.2, by rw [← Rws.pals_len, hP]; exact tell_le (by rw [Rws.pals_len]; exact HR.out)⟩
        have NBB : Hid (Blk wb wr.heap.size #[.slice none 0 0, .bool false] 26 ∧ O < wr.heap.size) := ⟨(NBA.out.1.grow hy), (by have := HS.out.ord; omega)⟩
        clear hA hP hy hF
        generalize (tellB (pals rs) g y.2.2).2 = g'
        try dsimp only
        clear hHeld
        refine hK.out _ _ (HX.out _ HB.out) (fun hHeld => ?_)
        clear hK K
        try simp only [Act.put, List.setIfInBounds_toArray, List.set_cons_zero, List.set_cons_succ]
        refine wpAnyH_ready (rs := [5]) (by kernel_rfl) (by simp) ?_
        refine AllReadyH.cons (o := { dst := none, op := Op.store 26 (Operand.tmp 5) (Operand.tmp 16), type := 0, pos := "l09_sub.go:74", after := #[{ on := 4, ground := Ground.data }, { on := 3, ground := Ground.data }, { on := 3, ground := Ground.chain }, { on := 0, ground := Ground.phase }, { on := 1, ground := Ground.phase }, { on := 2, ground := Ground.phase }, { on := 3, ground := Ground.phase }, { on := 4, ground := Ground.phase }], guard := none }) rfl (fun K hK => ?_) AllReadyH.nil
        have n0 : wb.cell? ⟨wr.heap.size, 0, none⟩ = some (.slice none 0 0) := NBB.out.1.cell 0
        have n1 : wb.cell? ⟨wr.heap.size, 1, none⟩ = some (.bool false) := NBB.out.1.cell 1
        have m0 := NBB.out.1.frozen 0
        have m1 := NBB.out.1.frozen 1
        go_simp
        clear n0 n1 m0 m1 hHeld
        have hz := HB.out.side NBB.out.1 NBB.out.2 (.slice a' rs'.length cap') (.bool g')
        refine hK.out _ _ (HX.out _ hz) (fun hHeld => ?_)
        clear hK K hz
        try simp only [Act.put, List.setIfInBounds_toArray, List.set_cons_zero, List.set_cons_succ]
        refine wpAnyH_done (by kernel_rfl) ?_ _
        go_wp2_with fail
        go_meet
        exact ⟨_, a', cap', rs', g', rfl, (NBB.out.1.set 0 _).set 1 _, QB.out.1.moved (sub_moved NBB.out.1 (by decide) (by decide) _ _), QB.out.2.1, QB.out.2.2, NBB.out.2, HB.out.side NBB.out.1 NBB.out.2 _ _⟩
      case rest =>
        obtain ⟨N, a', cap', rs', g', rfl, hN, hq, hf, h3, hON, hst⟩ := hcut
        obtain ⟨wx, hwc⟩ : ∃ x, x = wc := ⟨_, rfl⟩
        subst hwc
        have HN : Hid (Blk wx N #[.slice a' rs'.length cap', .bool g'] 26) := hN
        have HQ : Hid (QSt w c O ((wx.setCell ⟨O, 0, none⟩ (.slice a' rs'.length cap')).setCell ⟨O, 1, none⟩ (.bool g')) a' cap' rs' g') := hst.put hq hf
        have H3 : Hid (rs'.length ≤ 3) := h3
        have n0 : wx.cell? ⟨N, 0, none⟩ = some (.slice a' rs'.length cap') := hN.cell 0
        have n1 : wx.cell? ⟨N, 1, none⟩ = some (.bool g') := hN.cell 1
        have o0 : wx.cell? ⟨O, 0, none⟩ = some (.slice a rs.length cap) := hst.bO.cell 0
        have o1 : wx.cell? ⟨O, 1, none⟩ = some (.bool g) := hst.bO.cell 1
        have p0 := hst.bO.frozen 0
        have p1 := hst.bO.frozen 1
        clear hN hq hf h3 hON hst
        go_wp2
        go_roundw
        case rel => exact ⟨j - 1, a', cap', rs', g', by go_num, by omega, by omega, HQ.out, H3.out⟩
        case measure => simp [intOf]; omega
    · have hj' : ¬ (j > 0) := by omega
      have r0 : wr.cell? ⟨w.heap.size, 0, none⟩ = some (.slice none 0 0) := HS.out.bR.cell 0
      have r1 : wr.cell? ⟨w.heap.size, 1, none⟩ = some (.bool false) := HS.out.bR.cell 1
      have f0 := HS.out.bR.frozen 0
      have f1 := HS.out.bR.frozen 1
      have o0 : wr.cell? ⟨O, 0, none⟩ = some (.slice a rs.length cap) := HS.out.bO.cell 0
      have o1 : wr.cell? ⟨O, 1, none⟩ = some (.bool g) := HS.out.bO.cell 1
      have hs : Blk ((wr.setCell ⟨w.heap.size, 0, none⟩ (.slice a rs.length cap)).setCell ⟨w.heap.size, 1, none⟩ (.bool g)) w.heap.size #[.slice a rs.length cap, .bool g] 26 := (HS.out.bR.set 0 _).set 1 _
      have s0 := hs.cell 0
      have s1 := hs.cell 1
      go_wp2
      refine bodyPost_ret (v := .agg #[.slice a rs.length cap, .bool g]) (by simp [results, Try.results70, go_sem, s0, s1]) rfl ?_
      exact ⟨a, cap, rs, g, rfl, HS.out.fin _ _, HR.out⟩
set_option maxRecDepth 100000 in
set_option maxHeartbeats 3200000 in
theorem l9Any_any (c : Nat) (w : World) (hc : Cur w c) :
    Calls Try.prog 42 #[.pointer (some ⟨c, 0, none⟩)] w fun r w' => Q9 w c 4 r w' := by
  have HC : Hid (Cur w c) := hc
  have HL : Hid (c < w.heap.size) := hc.lt
  clear hc
  obtain ⟨i0, hi, hz0, hz1, hz2⟩ := info_parts infoA
  go_enter Try.func42, Try.ntmps42
  go_wp2_with fail
  refine (l9Draw_any c _ (HC.out.alloc _)).mono ?_
  rintro r w1 ⟨a, cap, rs, g, rfl, hd, hr3⟩
  have HD1 : Hid (SQ (w.alloc (.cells #[.slice none 0 0, .bool false] 26)) c w1 a cap rs) := hd
  have HR1 : Hid (Blk w1 w.heap.size #[.slice none 0 0, .bool false] 26) := blk_kept (Blk.new _ _ _) hd.kept (by have := HL.out; omega)
  have H3 : Hid (rs.length ≤ 3) := hr3
  clear hd hr3
  go_wp2_with fail
  refine (below_any c 10 _ (HD1.out.cur.alloc _) (by decide) (by decide)).mono ?_
  rintro r w2 ⟨⟨z, rfl, hz0', hz1'⟩, hc2, hk2⟩
  have HX : Hid (QSt w c w1.heap.size w2 a cap rs g) := by
    have h0 := HL.out; have h1 := HR1.out.lt
    have h2 := hk2.size
    simp at h2
    exact ⟨hc2, ((((Kept.refl c w).alloc _).trans HD1.out.kept).alloc _).trans hk2, h0, ⟨h1, by omega⟩, blk_kept (HR1.out.alloc _) hk2 (by omega), blk_kept (Blk.new w1 _ _) hk2 (by omega), qo_kept ((HD1.out.q.grow (Go.Joins.below_alloc1 w1 _)).down (by simp)) hk2 (by omega), HD1.out.fine⟩
  clear hc2 hk2 HD1 HR1 HC
  generalize w1.heap.size = X at HX ⊢
  by_cases e0 : z = 0
  · subst e0
    have q1 : w2.cell? ⟨X, 1, none⟩ = some (.bool g) := HX.out.bO.cell 1
    have g1 := HX.out.bO.frozen 1
    have HX4 : Hid (QSt w c X (w2.setCell ⟨X, 1, none⟩ (.bool !g)) a cap rs (!g)) := HX.out.setG (!g)
    go_upto_region 7 with fail
    clear q1 g1
    generalize w2.setCell ⟨X, 1, none⟩ (.bool !g) = W3 at *
    generalize (!g) = g3 at *
    have r0 : W3.cell? ⟨w.heap.size, 0, none⟩ = some (.slice none 0 0) := HX4.out.bR.cell 0
    have r1 : W3.cell? ⟨w.heap.size, 1, none⟩ = some (.bool false) := HX4.out.bR.cell 1
    have f0 := HX4.out.bR.frozen 0
    have f1 := HX4.out.bR.frozen 1
    have o0 : W3.cell? ⟨X, 0, none⟩ = some (.slice a rs.length cap) := HX4.out.bO.cell 0
    have o1 : W3.cell? ⟨X, 1, none⟩ = some (.bool g3) := HX4.out.bO.cell 1
    have hs : Blk ((W3.setCell ⟨w.heap.size, 0, none⟩ (.slice a rs.length cap)).setCell ⟨w.heap.size, 1, none⟩ (.bool g3)) w.heap.size #[.slice a rs.length cap, .bool g3] 26 := (HX4.out.bR.set 0 _).set 1 _
    have s0 := hs.cell 0
    have s1 := hs.cell 1
    go_wp2
    refine bodyPost_ret (v := .agg #[.slice a rs.length cap, .bool g3]) (by simp [results, Try.results42, go_sem, s0, s1]) rfl ?_
    exact ⟨a, cap, rs, g3, rfl, HX4.out.fin _ _, by have := H3.out; omega⟩
  have d0' : (z == 0) = false := by simpa using e0
  by_cases e1 : z = 1
  · subst e1
    have HC : Hid (Calls Try.prog 71 #[.pointer (some ⟨c, 0, none⟩)] w2.drew fun r w' => ∃ y : ARow, r = .returned (.agg #[.slice (some ⟨y.1, 0, none⟩) y.2.2.l.length y.2.1, .int .i64 y.2.2.s, .int .i64 y.2.2.e, .string y.2.2.n]) ∧ QSt w c X w' a cap rs g ∧ OwnA (w.heap.size + 1) w' y ∧ w2.heap.size ≤ y.1 ∧ Fine y.2.2) := (l4Any_any c w2.drew (Cur.drewN HX.out.cur 1)).mono fun r w' ⟨g1, cp, p, s, e, n, hr, hst, hp, hs, he, hn⟩ => ⟨(g1, cp, ⟨p, s, e, n⟩), hr, HX.out.keep hst.cur (kept_drew hst.kept), (own_lst hst hp).down (by have := HX.out.ord; show _ ≤ w2.drew.heap.size; simp; omega), hst.blk.1, fine_of hp hst.fit hs he hn⟩
    have HS : Hid (∀ w', QSt w c X w' a cap rs g → w'.cell? ⟨X, 0, none⟩ = some (.slice a rs.length cap)) := fun w' h => h.bO.cell 0
    go_upto_region 6 with fail
    refine Hld.wp_region_LH (S := fun w' => w'.cell? ⟨X, 0, none⟩ = some (.slice a rs.length cap)) (z := 7) (by kernel_rfl) (HS.out _ (HX.out.keep (Cur.drewN HX.out.cur 1) (kept_bel (Below.refl _ _).drew))) (fun hHeld => ?_)
    refine Hld.anyL_take (i := 0) (oi := { dst := some 16, op := Op.fieldAddr 26 (Operand.tmp 3) 0, type := 0, pos := "l09_sub.go:86", after := #[], guard := none }) (v := ?vd61) rfl (by kernel_rfl) (by kernel_rfl) (by kernel_rfl) (by kernel_rfl) (fun _ _ _ h => h) (Or.inl ⟨by rfl, ?hyd61⟩) hHeld ?_
    case hyd61 => (intro w hSw; (try dsimp only at hSw); go_simp <;> with_reducible rfl)
    try simp only [Act.put, List.setIfInBounds_toArray, List.set_cons_zero, List.set_cons_succ]
    refine Hld.anyL_take (i := 1) (oi := { dst := some 17, op := Op.load 24 (Operand.tmp 16), type := 24, pos := "l09_sub.go:86", after := #[{ on := 0, ground := Ground.data }], guard := none }) (v := ?vd62) rfl (by kernel_rfl) (by kernel_rfl) (by kernel_rfl) (by kernel_rfl) (fun _ _ _ h => h) (Or.inl ⟨by rfl, ?hyd62⟩) hHeld ?_
    case hyd62 => (intro w hSw; (try dsimp only at hSw); go_simp <;> with_reducible rfl)
    try simp only [Act.put, List.setIfInBounds_toArray, List.set_cons_zero, List.set_cons_succ]
    refine Hld.anyL_take (i := 2) (oi := { dst := some 18, op := Op.move (Operand.tmp 0), type := 65, pos := "l09_sub.go:86", after := #[], guard := none }) (v := ?vd63) rfl (by kernel_rfl) (by kernel_rfl) (by kernel_rfl) (by kernel_rfl) (fun _ _ _ h => h) (Or.inl ⟨by rfl, ?hyd63⟩) hHeld ?_
    case hyd63 => (intro w hSw; (try dsimp only at hSw); go_simp <;> with_reducible rfl)
    try simp only [Act.put, List.setIfInBounds_toArray, List.set_cons_zero, List.set_cons_succ]
    refine Hld.anyL_ready (rs := [3]) (by kernel_rfl) (by simp) ?_
    refine Hld.AllL.cons (o := { dst := some 19, op := Op.call { callee := Callee.value (Operand.func 71), args := #[Operand.tmp 18], argTypes := #[65] }, type := 29, pos := "l09_sub.go:86", after := #[{ on := 2, ground := Ground.data }], guard := none }) rfl (fun K hK => ?_) Hld.AllL.nil
    go_simp
    refine HC.out.mono ?_
    rintro r wyc ⟨y, rfl, hx, hy, hyl, hyf⟩
    have HXc : Hid (QSt w c X wyc a cap rs g) := hx
    have HY : Hid (OwnA (w.heap.size + 1) wyc y ∧ w2.heap.size ≤ y.1 ∧ Fine y.2.2) := ⟨hy, hyl, hyf⟩
    clear hx hy hyl hyf
    try dsimp only
    clear hHeld
    refine hK.out _ _ (HS.out _ HXc.out) (fun hHeld => ?_)
    clear hK K
    try simp only [Act.put, List.setIfInBounds_toArray, List.set_cons_zero, List.set_cons_succ]
    refine Hld.anyL_ready (rs := [4]) (by kernel_rfl) (by simp) ?_
    refine Hld.AllL.cons (o := { dst := some 20, op := Op.buildSlice 24 1 #[(0, Operand.tmp 19)], type := 24, pos := "l09_sub.go:86", after := #[{ on := 3, ground := Ground.data }], guard := none }) rfl (fun K hK => ?_) Hld.AllL.nil
    go_simp
    clear hHeld
    refine hK.out _ _ (HS.out _ (HXc.out.grow (Go.Joins.below_alloc1 wyc _))) (fun hHeld => ?_)
    clear hK K
    try simp only [Act.put, List.setIfInBounds_toArray, List.set_cons_zero, List.set_cons_succ]
    refine Hld.anyL_ready (rs := [5]) (by kernel_rfl) (by simp) ?_
    refine Hld.AllL.cons (o := { dst := some 21, op := Op.call { callee := Callee.builtin Builtin.append, args := #[Operand.tmp 17, Operand.tmp 20], argTypes := #[24, 24] }, type := 24, pos := "l09_sub.go:86", after := #[{ on := 1, ground := Ground.data }, { on := 4, ground := Ground.data }, { on := 3, ground := Ground.chain }], guard := none }) rfl (fun K hK => ?_) Hld.AllL.nil
    have hXd : QSt w c X (wyc.alloc (.cells #[.slice (some ⟨y.1, 0, none⟩) y.2.2.l.length y.2.1, .int .i64 y.2.2.s, .int .i64 y.2.2.e, .string y.2.2.n] 29)) a cap rs g := HXc.out.grow (Go.Joins.below_alloc1 wyc _)
    obtain ⟨xs, hox, hxl, hxs⟩ := qo_own hXd.q
    refine step_appB rfl _ _ 24 rfl 29 i0 (.agg #[.slice none 0 0, .int .i64 0, .int .i64 0, .string ByteArray.empty]) 4 56 Try.underlying24 hi hz0 hz1 hz2 rfl (by decide) (w.heap.size + 1) ?qb (.slice a rs.length cap) rs.length xs rfl hox ⟨wyc.heap.size, 0, none⟩ 1 1 (rowV y) rfl rfl (blk_news (Blk.new _ _ _)) (row_one _) ?qc ?qd ?_
    case qb => have := hXd.ord; omega
    case qc => have := H3.out; unfold maxLen; omega
    case qd => have := H3.out; omega
    intro v' wya hown hg hat
    obtain ⟨M3, c3, e3, hAB⟩ := qo_app hXd.q (HY.out.1.grow (Go.Joins.below_alloc1 wyc _)) (fun x hx => by have := qo_lt HX.out.q x hx; have := HY.out.2.1; omega) hxl hxs hown hg
    subst e3
    have HOLD : Hid (Cur wya c ∧ Kept c w wya ∧ X < wya.heap.size ∧ Blk wya w.heap.size #[.slice none 0 0, .bool false] 26 ∧ Blk wya X #[.slice a rs.length cap, .bool g] 26) := by
      have h0 := hXd.clt; have h1 := hXd.ord
      have hrow : ∀ k, (Value.slice a rs.length cap).ownBlock = some k → w.heap.size + 1 ≤ k ∧ X ≠ k := qo_block hXd.q hXd.bO
      exact ⟨hXd.cur.grown hg (fun k hk => by have := (hrow k hk).1; omega), kept_grown (B := 0) hXd.kept hg (fun k hk => by have := (hrow k hk).1; omega), Nat.lt_of_lt_of_le h1.2 hg.size, blk_far hXd.bR hg (fun e => by have := (hrow _ e.symm).1; omega), blk_far hXd.bO hg (fun e => (hrow _ e.symm).2 rfl)⟩
    have HAB : Hid (AB (w.heap.size + 1) wya M3 c3 (rs ++ [y])) := hAB
    have HFY : Hid (Fines (pals (rs ++ [y]))) := by rw [Rws.pals_app]; exact fines_app HX.out.fine HY.out.2.2
    have HX9 : Hid (QSt w c X (wyc.alloc (.cells #[.slice (some ⟨y.1, 0, none⟩) y.2.2.l.length y.2.1, .int .i64 y.2.2.s, .int .i64 y.2.2.e, .string y.2.2.n] 29)) a cap rs g) := hXd
    clear hown hg hat hXd hox hxl hxs hAB
    clear hHeld
    refine hK.out _ _ (HOLD.out.2.2.2.2.cell 0) (fun hHeld => ?_)
    clear hK K
    try simp only [Act.put, List.setIfInBounds_toArray, List.set_cons_zero, List.set_cons_succ]
    refine Hld.anyL_take (i := 6) (oi := { dst := some 22, op := Op.fieldAddr 26 (Operand.tmp 3) 0, type := 0, pos := "l09_sub.go:86", after := #[{ on := 0, ground := Ground.phase }, { on := 1, ground := Ground.phase }, { on := 2, ground := Ground.phase }, { on := 3, ground := Ground.phase }, { on := 4, ground := Ground.phase }, { on := 5, ground := Ground.phase }], guard := none }) (v := ?vd67) rfl (by kernel_rfl) (by kernel_rfl) (by kernel_rfl) (by kernel_rfl) (fun _ _ _ h => h) (Or.inl ⟨by rfl, ?hyd67⟩) hHeld ?_
    case hyd67 => (intro w hSw; (try dsimp only at hSw); go_simp <;> with_reducible rfl)
    try simp only [Act.put, List.setIfInBounds_toArray, List.set_cons_zero, List.set_cons_succ]
    refine Hld.anyL_ready (rs := [7]) (by kernel_rfl) (by simp) ?_
    refine Hld.AllL.last (o := { dst := none, op := Op.store 24 (Operand.tmp 22) (Operand.tmp 21), type := 0, pos := "l09_sub.go:86", after := #[{ on := 6, ground := Ground.data }, { on := 5, ground := Ground.data }, { on := 5, ground := Ground.chain }, { on := 0, ground := Ground.phase }, { on := 1, ground := Ground.phase }, { on := 2, ground := Ground.phase }, { on := 3, ground := Ground.phase }, { on := 4, ground := Ground.phase }, { on := 5, ground := Ground.phase }], guard := none }) rfl (fun K hK => ?_)
    have cD : wya.cell? ⟨X, 0, none⟩ = some (.slice a rs.length cap) := HOLD.out.2.2.2.2.cell 0
    have fD := HOLD.out.2.2.2.2.frozen 0
    go_simp
    clear cD fD
    refine hK.out _ _ ?_
    clear hK K hHeld
    try simp only [Act.put, List.setIfInBounds_toArray, List.set_cons_zero, List.set_cons_succ]
    refine Hld.anyL_done (by kernel_rfl) ?_ _
    have HXZ : Hid (QSt w c X (wya.setCell ⟨X, 0, none⟩ (.slice (some ⟨M3, 0, none⟩) (rs.length + 1) c3)) (some ⟨M3, 0, none⟩) c3 (rs ++ [y]) g) := by
      have h := HX9.out.setQ (rs' := rs ++ [y]) HOLD.out.1 HOLD.out.2.1 HOLD.out.2.2.1 HOLD.out.2.2.2.1 HOLD.out.2.2.2.2 (.inr ⟨M3, rfl, HAB.out⟩) HFY.out
      simp only [List.length_append, List.length_singleton] at h
      exact h
    clear HOLD HAB HFY HX9 HXc HY
    generalize wya.setCell ⟨X, 0, none⟩ (.slice (some ⟨M3, 0, none⟩) (rs.length + 1) c3) = W3 at *
    have HLEN : Hid ((rs ++ [y]).length = rs.length + 1) := by simp [Hid]
    have HX8 : Hid (Blk W3 X #[.slice (some ⟨M3, 0, none⟩) (rs.length + 1) c3, .bool g] 26) := by have h := HXZ.out.bO; simp only [List.length_append, List.length_singleton] at h; exact h
    have r0 : W3.cell? ⟨w.heap.size, 0, none⟩ = some (.slice none 0 0) := HXZ.out.bR.cell 0
    have r1 : W3.cell? ⟨w.heap.size, 1, none⟩ = some (.bool false) := HXZ.out.bR.cell 1
    have f0 := HXZ.out.bR.frozen 0
    have f1 := HXZ.out.bR.frozen 1
    have o0 : W3.cell? ⟨X, 0, none⟩ = some (.slice (some ⟨M3, 0, none⟩) (rs.length + 1) c3) := HX8.out.cell 0
    have o1 : W3.cell? ⟨X, 1, none⟩ = some (.bool g) := HX8.out.cell 1
    have hs : Blk ((W3.setCell ⟨w.heap.size, 0, none⟩ (.slice (some ⟨M3, 0, none⟩) (rs.length + 1) c3)).setCell ⟨w.heap.size, 1, none⟩ (.bool g)) w.heap.size #[.slice (some ⟨M3, 0, none⟩) (rs.length + 1) c3, .bool g] 26 := (HXZ.out.bR.set 0 _).set 1 _
    have s0 := hs.cell 0
    have s1 := hs.cell 1
    go_wp2
    refine bodyPost_ret (v := .agg #[.slice (some ⟨M3, 0, none⟩) (rs.length + 1) c3, .bool g]) (by simp [results, Try.results42, go_sem, s0, s1]) rfl ?_
    exact ⟨_, c3, rs ++ [y], g, by rw [HLEN.out], HXZ.out.fin _ _, by rw [HLEN.out]; have := H3.out; omega⟩
  have d1' : (z == 1) = false := by simpa using e1
  go_upto_region 7 with fail
  have r0 : w2.cell? ⟨w.heap.size, 0, none⟩ = some (.slice none 0 0) := HX.out.bR.cell 0
  have r1 : w2.cell? ⟨w.heap.size, 1, none⟩ = some (.bool false) := HX.out.bR.cell 1
  have f0 := HX.out.bR.frozen 0
  have f1 := HX.out.bR.frozen 1
  have o0 : w2.cell? ⟨X, 0, none⟩ = some (.slice a rs.length cap) := HX.out.bO.cell 0
  have o1 : w2.cell? ⟨X, 1, none⟩ = some (.bool g) := HX.out.bO.cell 1
  have hs : Blk ((w2.setCell ⟨w.heap.size, 0, none⟩ (.slice a rs.length cap)).setCell ⟨w.heap.size, 1, none⟩ (.bool g)) w.heap.size #[.slice a rs.length cap, .bool g] 26 := (HX.out.bR.set 0 _).set 1 _
  have s0 := hs.cell 0
  have s1 := hs.cell 1
  go_wp2
  refine bodyPost_ret (v := .agg #[.slice a rs.length cap, .bool g]) (by simp [results, Try.results42, go_sem, s0, s1]) rfl ?_
  exact ⟨a, cap, rs, g, rfl, HX.out.fin _ _, by have := H3.out; omega⟩
/-- a drawn listener, to be read -/
def DQ (w : World) (a : Option Addr) (cap : Nat) (P : List PAl) : Prop := RdN w a P ∧ Fines P ∧ P.length ≤ 4 ∧ P.length ≤ cap
theorem DQ.below {w w' : World} {a : Option Addr} {cap : Nat} {P : List PAl} (h : DQ w a cap P) (hb : Below w.heap.size w w') : DQ w' a cap P := ⟨h.1.below hb, h.2⟩
theorem dq_of {lo : Nat} {w : World} {a : Option Addr} {cap : Nat} {rs : List ARow} (h : QO lo w a cap rs) (hf : Fines (pals rs)) (h4 : rs.length ≤ 4) : DQ w a cap (pals rs) := ⟨h.rd, hf, by rw [Rws.pals_len]; exact h4, by rw [Rws.pals_len]; exact h.cap.1⟩
/-- a drawn alarm, to be read -/
def DAl (w : World) (g : Nat) (x : PAl) : Prop := Reads w (some ⟨g, 0, none⟩) x.l ∧ Fine x
theorem DAl.below {w w' : World} {g : Nat} {x : PAl} (h : DAl w g x) (hb : Below w.heap.size w w') : DAl w' g x := ⟨h.1.below hb, h.2⟩
def RA (r : Ending) (w' : World) : Prop := ∃ (a : Option Addr) (cap : Nat) (P : List PAl) (g : Bool), r = .returned (.agg #[.slice a P.length cap, .bool g]) ∧ DQ w' a cap P
def RB (r : Ending) (w' : World) : Prop := ∃ (a : Option Addr) (cap : Nat) (P : List PAl) (g : Bool) (a2 : Option Addr) (cap2 : Nat) (P2 : List PAl) (g2 : Bool), r = .returned (.tuple #[.agg #[.slice a P.length cap, .bool g], .agg #[.slice a2 P2.length cap2, .bool g2]]) ∧ DQ w' a cap P ∧ DQ w' a2 cap2 P2
def RT (r : Ending) (w' : World) : Prop := ∃ (a : Option Addr) (cap : Nat) (P : List PAl) (g : Bool) (gy cy : Nat) (y : PAl), r = .returned (.tuple #[.agg #[.slice a P.length cap, .bool g], .agg #[.slice (some ⟨gy, 0, none⟩) y.l.length cy, .int .i64 y.s, .int .i64 y.e, .string y.n]]) ∧ DQ w' a cap P ∧ DAl w' gy y
def RU (r : Ending) (w' : World) : Prop := ∃ (M cap : Nat) (U : List Subs.PSb) (gy cy : Nat) (y : PAl), r = .returned (.tuple #[.slice (some ⟨M, 0, none⟩) U.length cap, .agg #[.slice (some ⟨gy, 0, none⟩) y.l.length cy, .int .i64 y.s, .int .i64 y.e, .string y.n]]) ∧ Subs.RdU RdN w' (some ⟨M, 0, none⟩) U ∧ U.length ≤ 3 ∧ (∀ u ∈ U, Fines u.P ∧ u.P.length ≤ 4) ∧ DAl w' gy y
def RL (r : Ending) (w' : World) : Prop := ∃ (M cl : Nat) (Ls : List PAl) (a : Option Addr) (cap : Nat) (P : List PAl) (g : Bool), r = .returned (.tuple #[.slice (some ⟨M, 0, none⟩) Ls.length cl, .agg #[.slice a P.length cap, .bool g]]) ∧ RdN w' (some ⟨M, 0, none⟩) Ls ∧ Fines Ls ∧ Ls.length ≤ 5 ∧ DQ w' a cap P
theorem retQ {n n' c : Nat} {a : Option Addr} {g : Bool} (h : n = n') : Ending.returned (.agg #[.slice a n c, .bool g]) = .returned (.agg #[.slice a n' c, .bool g]) := by rw [h]
theorem retQ2 {n n' c m m' c2 : Nat} {a a2 : Option Addr} {g g2 : Bool} (h : n = n') (h2 : m = m') : Ending.returned (.tuple #[.agg #[.slice a n c, .bool g], .agg #[.slice a2 m c2, .bool g2]]) = .returned (.tuple #[.agg #[.slice a n' c, .bool g], .agg #[.slice a2 m' c2, .bool g2]]) := by rw [h, h2]
theorem retQV {n n' c : Nat} {a : Option Addr} {g : Bool} {v : Value} (h : n = n') : Ending.returned (.tuple #[.agg #[.slice a n c, .bool g], v]) = .returned (.tuple #[.agg #[.slice a n' c, .bool g], v]) := by rw [h]
theorem retVL {n n' c : Nat} {a : Option Addr} {v : Value} (h : n = n') : Ending.returned (.tuple #[.slice a n c, v]) = .returned (.tuple #[.slice a n' c, v]) := by rw [h]
theorem retLQ {n n' c m m' c2 : Nat} {a a2 : Option Addr} {g2 : Bool} (h : n = n') (h2 : m = m') : Ending.returned (.tuple #[.slice a n c, .agg #[.slice a2 m c2, .bool g2]]) = .returned (.tuple #[.slice a n' c, .agg #[.slice a2 m' c2, .bool g2]]) := by rw [h, h2]

set_option maxRecDepth 100000 in
set_option maxHeartbeats 3200000 in
theorem drawSubOk_any (b0 : Option Addr) (len cap0 : Nat) (w : World) (hl : len ≤ maxLen) (hb : Bytes w b0 len w.heap.size) :
    Calls Try.prog 15 #[.slice b0 len cap0] w fun r w' => RA r w' ∧ Below w.heap.size w w' := by
  have HB : Hid (Bytes w b0 len w.heap.size) := hb
  have HL : Hid (len ≤ maxLen) := hl
  clear hb hl
  go_enter Try.func15, Try.ntmps15
  go_wp2_with fail
  refine (new_any b0 len cap0 _ HL.out (LawB.bytes_up HB.out (Go.Joins.below_alloc1 w _))).mono ?_
  rintro r w1 ⟨rfl, hc1, hb1⟩
  have HC1 : Hid (Cur w1 (w.heap.size + 1)) := by simp at hc1; exact hc1
  have HR1 : Hid (Blk w1 w.heap.size #[.slice none 0 0, .bool false] 26) := (Blk.new _ _ _).grow hb1
  have HB1 : Hid (Below w.heap.size w w1) := grow_on (Go.Joins.below_alloc1 w _) hb1
  clear hc1 hb1
  go_wp2_with fail
  refine (l9Any_any (w.heap.size + 1) _ HC1.out).mono ?_
  rintro r w2 ⟨a, cap, rs, g, rfl, hd, h4⟩
  have HD : Hid (SQ w1 (w.heap.size + 1) w2 a cap rs ∧ rs.length ≤ 4) := ⟨hd, h4⟩
  have HR2 : Hid (Blk w2 w.heap.size #[.slice none 0 0, .bool false] 26) := blk_kept HR1.out hd.kept (by omega)
  have HB2 : Hid (Below w.heap.size w w2) := HB1.out.trans (hd.kept.below (by omega) HB1.out.size)
  have r0 : w2.cell? ⟨w.heap.size, 0, none⟩ = some (.slice none 0 0) := HR2.out.cell 0
  have r1 : w2.cell? ⟨w.heap.size, 1, none⟩ = some (.bool false) := HR2.out.cell 1
  have fr0 := HR2.out.frozen 0
  have fr1 := HR2.out.frozen 1
  clear hd h4
  go_wp2
  have hs : Blk ((w2.setCell ⟨w.heap.size, 0, none⟩ (.slice a rs.length cap)).setCell ⟨w.heap.size, 1, none⟩ (.bool g)) w.heap.size #[.slice a rs.length cap, .bool g] 26 := (HR2.out.set 0 _).set 1 _
  have s0 := hs.cell 0
  have s1 := hs.cell 1
  refine bodyPost_ret (v := .agg #[.slice a rs.length cap, .bool g]) (by simp [results, Try.results15, go_sem, s0, s1]) rfl ?_
  have h1 := HD.out.1.clt
  exact ⟨⟨a, cap, pals rs, g, retQ (by rw [Rws.pals_len]), dq_of (qo_under (qo_under HD.out.1.q (by omega) _ _) (by omega) _ _) HD.out.1.fine HD.out.2⟩, ChnP.set2 HB2.out (Nat.le_refl _) _ _⟩
set_option maxRecDepth 100000 in
set_option maxHeartbeats 3200000 in
theorem drawHear_any (b0 : Option Addr) (len cap0 : Nat) (w : World) (hl : len ≤ maxLen) (hb : Bytes w b0 len w.heap.size) :
    Calls Try.prog 12 #[.slice b0 len cap0] w fun r w' => RA r w' ∧ Below w.heap.size w w' := by
  have HB : Hid (Bytes w b0 len w.heap.size) := hb
  have HL : Hid (len ≤ maxLen) := hl
  clear hb hl
  go_enter Try.func12, Try.ntmps12
  go_wp2_with fail
  refine (new_any b0 len cap0 _ HL.out (LawB.bytes_up HB.out (Go.Joins.below_alloc1 w _))).mono ?_
  rintro r w1 ⟨rfl, hc1, hb1⟩
  have HC1 : Hid (Cur w1 (w.heap.size + 1)) := by simp at hc1; exact hc1
  have HR1 : Hid (Blk w1 w.heap.size #[.slice none 0 0, .bool false] 26) := (Blk.new _ _ _).grow hb1
  have HB1 : Hid (Below w.heap.size w w1) := grow_on (Go.Joins.below_alloc1 w _) hb1
  clear hc1 hb1
  go_wp2_with fail
  refine (l9Any_any (w.heap.size + 1) _ HC1.out).mono ?_
  rintro r w2 ⟨a, cap, rs, g, rfl, hd, h4⟩
  have HD : Hid (SQ w1 (w.heap.size + 1) w2 a cap rs ∧ rs.length ≤ 4) := ⟨hd, h4⟩
  have HR2 : Hid (Blk w2 w.heap.size #[.slice none 0 0, .bool false] 26) := blk_kept HR1.out hd.kept (by omega)
  have HB2 : Hid (Below w.heap.size w w2) := HB1.out.trans (hd.kept.below (by omega) HB1.out.size)
  have r0 : w2.cell? ⟨w.heap.size, 0, none⟩ = some (.slice none 0 0) := HR2.out.cell 0
  have r1 : w2.cell? ⟨w.heap.size, 1, none⟩ = some (.bool false) := HR2.out.cell 1
  have fr0 := HR2.out.frozen 0
  have fr1 := HR2.out.frozen 1
  clear hd h4
  go_wp2
  have hs : Blk ((w2.setCell ⟨w.heap.size, 0, none⟩ (.slice a rs.length cap)).setCell ⟨w.heap.size, 1, none⟩ (.bool g)) w.heap.size #[.slice a rs.length cap, .bool g] 26 := (HR2.out.set 0 _).set 1 _
  have s0 := hs.cell 0
  have s1 := hs.cell 1
  refine bodyPost_ret (v := .agg #[.slice a rs.length cap, .bool g]) (by simp [results, Try.results12, go_sem, s0, s1]) rfl ?_
  have h1 := HD.out.1.clt
  exact ⟨⟨a, cap, pals rs, g, retQ (by rw [Rws.pals_len]), dq_of (qo_under (qo_under HD.out.1.q (by omega) _ _) (by omega) _ _) HD.out.1.fine HD.out.2⟩, ChnP.set2 HB2.out (Nat.le_refl _) _ _⟩
/-- where a draw of two stands: cursor, results (R, V), box of the first -/
structure YQ (w : World) (X : Nat) (cv : Array Value) (T : TypeId) (wr : World) (a : Option Addr) (cap : Nat) (rs : List ARow) (g : Bool) : Prop where
  cur : Cur wr (w.heap.size + 2)
  low : Below w.heap.size w wr
  ord : w.heap.size + 2 < X ∧ X < wr.heap.size
  bR : Blk wr w.heap.size #[.slice none 0 0, .bool false] 26
  bV : Blk wr (w.heap.size + 1) cv T
  bX : Blk wr X #[.slice a rs.length cap, .bool g] 26
  q : QO (w.heap.size + 3) wr a cap rs
  fine : Fines (pals rs)
  few : rs.length ≤ 4
theorem YQ.keep {w : World} {X : Nat} {cv : Array Value} {T : TypeId} {wr w' : World} {a : Option Addr} {cap : Nat} {rs : List ARow} {g : Bool} (h : YQ w X cv T wr a cap rs g) (hc : Cur w' (w.heap.size + 2)) (hk : Kept (w.heap.size + 2) wr w') : YQ w X cv T w' a cap rs g := by
  have h1 := h.ord
  exact ⟨hc, h.low.trans (hk.below (by omega) h.low.size), ⟨h1.1, Nat.lt_of_lt_of_le h1.2 hk.size⟩, blk_kept h.bR hk (by omega), blk_kept h.bV hk (by omega), blk_kept h.bX hk (by omega), qo_kept h.q hk (by omega), h.fine, h.few⟩
theorem YQ.grow {w : World} {X : Nat} {cv : Array Value} {T : TypeId} {wr w' : World} {a : Option Addr} {cap : Nat} {rs : List ARow} {g : Bool} (h : YQ w X cv T wr a cap rs g) (hb : Below wr.heap.size wr w') : YQ w X cv T w' a cap rs g := h.keep (cur_bel h.cur hb) (kept_bel hb)
theorem yq_of {w w1 w2 : World} {cv : Array Value} {T : TypeId} {a : Option Addr} {cap : Nat} {rs : List ARow} {g : Bool} (hl : Below w.heap.size w w1) (hR : Blk w1 w.heap.size #[.slice none 0 0, .bool false] 26) (hV : Blk w1 (w.heap.size + 1) cv T) (h : SQ w1 (w.heap.size + 2) w2 a cap rs) (h4 : rs.length ≤ 4) : YQ w w2.heap.size cv T (w2.alloc (.cells #[.slice a rs.length cap, .bool g] 26)) a cap rs g := by
  have h0 := h.clt
  have h1 := h.kept.size
  exact ⟨h.cur.alloc _, (hl.trans (h.kept.below (by omega) hl.size)).alloc (by omega) _, ⟨by omega, by simp⟩, (blk_kept hR h.kept (by omega)).alloc _, (blk_kept hV h.kept (by omega)).alloc _, Blk.new _ _ _, (h.q.grow (Go.Joins.below_alloc1 w2 _)).down (by omega), h.fine, h4⟩
/-- a second one -/
def S2 (w : World) (X : Nat) (cv : Array Value) (T : TypeId) (a : Option Addr) (cap : Nat) (rs : List ARow) (g : Bool) (r : Ending) (w' : World) : Prop := ∃ (a2 : Option Addr) (cap2 : Nat) (rs2 : List ARow) (g2 : Bool), r = .returned (.agg #[.slice a2 rs2.length cap2, .bool g2]) ∧ YQ w X cv T w' a cap rs g ∧ QO (w.heap.size + 3) w' a2 cap2 rs2 ∧ Fines (pals rs2) ∧ rs2.length ≤ 4
set_option maxRecDepth 100000 in
set_option maxHeartbeats 3200000 in
theorem drawSame_any (b0 : Option Addr) (len cap0 : Nat) (w : World) (hl : len ≤ maxLen) (hb : Bytes w b0 len w.heap.size) :
    Calls Try.prog 16 #[.slice b0 len cap0] w fun r w' => RB r w' ∧ Below w.heap.size w w' := by
  have HB : Hid (Bytes w b0 len w.heap.size) := hb
  have HL : Hid (len ≤ maxLen) := hl
  clear hb hl
  go_enter Try.func16, Try.ntmps16
  go_wp2_with fail
  refine (new_any b0 len cap0 _ HL.out (LawB.bytes_up HB.out (Go.Joins.below_alloc2 w _ _))).mono ?_
  rintro r w1 ⟨rfl, hc1, hb1⟩
  have HC1 : Hid (Cur w1 (w.heap.size + 2)) := by simp at hc1; exact hc1
  have HR1 : Hid (Blk w1 w.heap.size #[.slice none 0 0, .bool false] 26) := ((Blk.new _ _ _).alloc _).grow hb1
  have HV1 : Hid (Blk w1 (w.heap.size + 1) #[.slice none 0 0, .bool false] 26) := (Blk.new_at (by simp)).grow hb1
  have HB1 : Hid (Below w.heap.size w w1) := grow_on (Go.Joins.below_alloc2 w _ _) hb1
  clear hc1 hb1
  go_wp2_with fail
  refine (l9Any_any (w.heap.size + 2) _ HC1.out).mono ?_
  rintro r w2 ⟨a, cap, rs, g, rfl, hd, h4⟩
  have HY2 : Hid (YQ w w2.heap.size #[.slice none 0 0, .bool false] 26 (w2.alloc (.cells #[.slice a rs.length cap, .bool g] 26)) a cap rs g) := yq_of HB1.out HR1.out HV1.out hd h4
  clear hd h4 HC1 HR1 HV1 HB1
  go_wp2_with fail
  refine (once_any (w.heap.size + 2) 2 _ HY2.out.cur (by decide) (by decide)).mono ?_
  rintro r w3 ⟨⟨b, rfl⟩, hc3, hk3⟩
  have HY : Hid (YQ w w2.heap.size #[.slice none 0 0, .bool false] 26 w3 a cap rs g) := HY2.out.keep hc3 hk3
  clear hc3 hk3 HY2
  generalize w2.heap.size = X at HY ⊢
  have HS : Hid (∀ w', Blk w' X #[.slice a rs.length cap, .bool g] 26 → w'.cell? ⟨X, 0, none⟩ = some (.slice a rs.length cap) ∧ w'.cell? ⟨X, 1, none⟩ = some (.bool g)) := fun w' h => ⟨h.cell 0, h.cell 1⟩
  cases b with
  | true =>
    have HC : Hid (Calls Try.prog 51 #[.agg #[.slice a rs.length cap, .bool g]] w3.drew (S2 w X #[.slice none 0 0, .bool false] 26 a cap rs g)) := by
      have h := l9Copy_any a cap (pals rs) g w3.drew (HY.out.q.rd.below (Below.refl _ _).drew) (by rw [Rws.pals_len]; have := HY.out.few; omega) HY.out.fine.lens
      rw [Rws.pals_len] at h
      refine h.mono fun r w' ⟨⟨M2, c2, rs2, hr, hab, hp⟩, hb⟩ => ?_
      have hb' : Below w3.heap.size w3 w' := grow_on (Below.refl _ _).drew hb
      exact ⟨_, c2, rs2, g, hr, HY.out.grow hb', .inr ⟨M2, rfl, hab.down (by have := HY.out.ord; show _ ≤ w3.drew.heap.size + 2; simp; omega)⟩, by rw [hp]; exact HY.out.fine, by rw [← Rws.pals_len, hp, Rws.pals_len]; exact HY.out.few⟩
    go_upto_region 4 with fail
    refine wp_region_held_drew (S := fun w' => w'.cell? ⟨X, 0, none⟩ = some (.slice a rs.length cap) ∧ w'.cell? ⟨X, 1, none⟩ = some (.bool g)) (by kernel_rfl) (HS.out _ HY.out.bX.drew) (fun hHeld => ?_)
    refine wpAnyH_take (i := 0) (oi := { dst := some 12, op := Op.load 26 (Operand.tmp 5), type := 26, pos := "l09_sub.go:100", after := #[], guard := none }) (v := ?vs40) rfl (by kernel_rfl) (by kernel_rfl) (by kernel_rfl) (fun _ _ _ h => h) (Or.inl ⟨by rfl, ?hys40⟩) hHeld ?_
    case hys40 => (intro w hSw; (try dsimp only at hSw); go_simp <;> with_reducible rfl)
    try simp only [Act.put, List.setIfInBounds_toArray, List.set_cons_zero, List.set_cons_succ]
    refine wpAnyH_take (i := 1) (oi := { dst := some 13, op := Op.load 26 (Operand.tmp 5), type := 26, pos := "l09_sub.go:100", after := #[], guard := none }) (v := ?vs41) rfl (by kernel_rfl) (by kernel_rfl) (by kernel_rfl) (fun _ _ _ h => h) (Or.inl ⟨by rfl, ?hys41⟩) hHeld ?_
    case hys41 => (intro w hSw; (try dsimp only at hSw); go_simp <;> with_reducible rfl)
    try simp only [Act.put, List.setIfInBounds_toArray, List.set_cons_zero, List.set_cons_succ]
    refine wpAnyH_ready (rs := [2]) (by kernel_rfl) (by simp) ?_
    refine AllReadyH.cons (o := { dst := some 14, op := Op.call { callee := Callee.value (Operand.func 51), args := #[Operand.tmp 13], argTypes := #[26] }, type := 26, pos := "l09_sub.go:100", after := #[{ on := 1, ground := Ground.data }], guard := none }) rfl (fun K hK => ?_) AllReadyH.nil
    go_simp
    refine (HC.out).mono ?_
    rintro r wys42 ⟨a2, cap2, rs2, g2, rfl, hy, hq, hfi, h4⟩
    have HY4 : Hid (YQ w X #[.slice none 0 0, .bool false] 26 wys42 a cap rs g) := hy
    have HQ2 : Hid (QO (w.heap.size + 3) wys42 a2 cap2 rs2 ∧ Fines (pals rs2) ∧ rs2.length ≤ 4) := ⟨hq, hfi, h4⟩
    have hneX : w.heap.size ≠ X ∧ w.heap.size + 1 ≠ X := by have := hy.ord; exact ⟨by omega, by omega⟩
    have r0 : wys42.cell? ⟨w.heap.size, 0, none⟩ = some (.slice none 0 0) := hy.bR.cell 0
    have r1 : wys42.cell? ⟨w.heap.size, 1, none⟩ = some (.bool false) := hy.bR.cell 1
    have fr0 := hy.bR.frozen 0
    have fr1 := hy.bR.frozen 1
    have v0 : wys42.cell? ⟨w.heap.size + 1, 0, none⟩ = some (.slice none 0 0) := hy.bV.cell 0
    have v1 : wys42.cell? ⟨w.heap.size + 1, 1, none⟩ = some (.bool false) := hy.bV.cell 1
    have fv0 := hy.bV.frozen 0
    have fv1 := hy.bV.frozen 1
    clear hy hq hfi h4
    try dsimp only
    clear hHeld
    refine hK.out _ _ (HS.out _ HY4.out.bX) (fun hHeld => ?_)
    clear hK K
    try simp only [Act.put, List.setIfInBounds_toArray, List.set_cons_zero, List.set_cons_succ]
    refine wpAnyH_ready (rs := [3]) (by kernel_rfl) (by simp) ?_
    refine AllReadyH.cons (o := { dst := none, op := Op.store 26 (Operand.tmp 2) (Operand.tmp 12), type := 0, pos := "l09_sub.go:100", after := #[{ on := 0, ground := Ground.data }, { on := 2, ground := Ground.chain }, { on := 0, ground := Ground.phase }, { on := 1, ground := Ground.textOnly Departure.lateStores }, { on := 2, ground := Ground.textOnly Departure.lateStoresUnsure }], guard := none }) rfl (fun K hK => ?_) AllReadyH.nil
    go_simp
    clear hHeld
    refine hK.out _ _ (HS.out _ ((HY4.out.bX.set_other hneX.1 _).set_other hneX.1 _)) (fun hHeld => ?_)
    clear hK K
    try simp only [Act.put, List.setIfInBounds_toArray, List.set_cons_zero, List.set_cons_succ]
    refine wpAnyH_ready (rs := [4]) (by kernel_rfl) (by simp) ?_
    refine AllReadyH.cons (o := { dst := none, op := Op.store 26 (Operand.tmp 3) (Operand.tmp 14), type := 0, pos := "l09_sub.go:100", after := #[{ on := 2, ground := Ground.data }, { on := 3, ground := Ground.chain }, { on := 0, ground := Ground.phase }, { on := 1, ground := Ground.phase }, { on := 2, ground := Ground.phase }, { on := 3, ground := Ground.phase }], guard := none }) rfl (fun K hK => ?_) AllReadyH.nil
    go_simp
    clear hHeld
    refine hK.out _ _ (HS.out _ ((((HY4.out.bX.set_other hneX.1 _).set_other hneX.1 _).set_other hneX.2 _).set_other hneX.2 _)) (fun hHeld => ?_)
    clear hK K
    try simp only [Act.put, List.setIfInBounds_toArray, List.set_cons_zero, List.set_cons_succ]
    refine wpAnyH_done (by kernel_rfl) ?_ _
    go_wp2
    have hs : Blk ((((wys42.setCell ⟨w.heap.size, 0, none⟩ (.slice a rs.length cap)).setCell ⟨w.heap.size, 1, none⟩ (.bool g)).setCell ⟨w.heap.size + 1, 0, none⟩ (.slice a2 rs2.length cap2)).setCell ⟨w.heap.size + 1, 1, none⟩ (.bool g2)) w.heap.size #[.slice a rs.length cap, .bool g] 26 := (((HY4.out.bR.set 0 _).set 1 _).set_other (by show w.heap.size + 1 ≠ w.heap.size; omega) _).set_other (by show w.heap.size + 1 ≠ w.heap.size; omega) _
    have ht : Blk ((((wys42.setCell ⟨w.heap.size, 0, none⟩ (.slice a rs.length cap)).setCell ⟨w.heap.size, 1, none⟩ (.bool g)).setCell ⟨w.heap.size + 1, 0, none⟩ (.slice a2 rs2.length cap2)).setCell ⟨w.heap.size + 1, 1, none⟩ (.bool g2)) (w.heap.size + 1) #[.slice a2 rs2.length cap2, .bool g2] 26 := (((HY4.out.bV.set_other (by show w.heap.size ≠ w.heap.size + 1; omega) _).set_other (by show w.heap.size ≠ w.heap.size + 1; omega) _).set 0 _).set 1 _
    have s0 := hs.cell 0
    have s1 := hs.cell 1
    have t0 := ht.cell 0
    have t1 := ht.cell 1
    refine bodyPost_ret (v := .tuple #[.agg #[.slice a rs.length cap, .bool g], .agg #[.slice a2 rs2.length cap2, .bool g2]]) (by simp [results, Try.results16, go_sem, s0, s1, t0, t1]) rfl ?_
    exact ⟨⟨a, cap, pals rs, g, a2, cap2, pals rs2, g2, retQ2 (by rw [Rws.pals_len]) (by rw [Rws.pals_len]), dq_of (qo_under (qo_under (qo_under (qo_under HY4.out.q (by omega) _ _) (by omega) _ _) (by omega) _ _) (by omega) _ _) HY4.out.fine HY4.out.few, dq_of (qo_under (qo_under (qo_under (qo_under HQ2.out.1 (by omega) _ _) (by omega) _ _) (by omega) _ _) (by omega) _ _) HQ2.out.2.1 HQ2.out.2.2⟩, ChnP.set2 (ChnP.set2 HY4.out.low (Nat.le_refl _) _ _) (by omega) _ _⟩
  | false =>
    have HC : Hid (Calls Try.prog 42 #[.pointer (some ⟨w.heap.size + 2, 0, none⟩)] w3.drew (S2 w X #[.slice none 0 0, .bool false] 26 a cap rs g)) := by
      refine (l9Any_any (w.heap.size + 2) w3.drew (Cur.drewN HY.out.cur 1)).mono fun r w' ⟨a2, cap2, rs2, g2, hr, hd, h4⟩ => ?_
      exact ⟨a2, cap2, rs2, g2, hr, HY.out.keep hd.cur (kept_drew hd.kept), hd.q.down (by have := HY.out.ord; show _ ≤ w3.drew.heap.size + 1; simp; omega), hd.fine, h4⟩
    go_upto_region 5 with fail
    refine wp_region_held_drew (S := fun w' => w'.cell? ⟨X, 0, none⟩ = some (.slice a rs.length cap) ∧ w'.cell? ⟨X, 1, none⟩ = some (.bool g)) (by kernel_rfl) (HS.out _ HY.out.bX.drew) (fun hHeld => ?_)
    refine wpAnyH_take (i := 0) (oi := { dst := some 15, op := Op.load 26 (Operand.tmp 5), type := 26, pos := "l09_sub.go:102", after := #[], guard := none }) (v := ?vs50) rfl (by kernel_rfl) (by kernel_rfl) (by kernel_rfl) (fun _ _ _ h => h) (Or.inl ⟨by rfl, ?hys50⟩) hHeld ?_
    case hys50 => (intro w hSw; (try dsimp only at hSw); go_simp <;> with_reducible rfl)
    try simp only [Act.put, List.setIfInBounds_toArray, List.set_cons_zero, List.set_cons_succ]
    refine wpAnyH_take (i := 1) (oi := { dst := some 16, op := Op.move (Operand.tmp 4), type := 65, pos := "l09_sub.go:102", after := #[], guard := none }) (v := ?vs51) rfl (by kernel_rfl) (by kernel_rfl) (by kernel_rfl) (fun _ _ _ h => h) (Or.inl ⟨by rfl, ?hys51⟩) hHeld ?_
    case hys51 => (intro w hSw; (try dsimp only at hSw); go_simp <;> with_reducible rfl)
    try simp only [Act.put, List.setIfInBounds_toArray, List.set_cons_zero, List.set_cons_succ]
    refine wpAnyH_ready (rs := [2]) (by kernel_rfl) (by simp) ?_
    refine AllReadyH.cons (o := { dst := some 17, op := Op.call { callee := Callee.value (Operand.func 42), args := #[Operand.tmp 16], argTypes := #[65] }, type := 26, pos := "l09_sub.go:102", after := #[{ on := 1, ground := Ground.data }], guard := none }) rfl (fun K hK => ?_) AllReadyH.nil
    go_simp
    refine (HC.out).mono ?_
    rintro r wys52 ⟨a2, cap2, rs2, g2, rfl, hy, hq, hfi, h4⟩
    have HY4 : Hid (YQ w X #[.slice none 0 0, .bool false] 26 wys52 a cap rs g) := hy
    have HQ2 : Hid (QO (w.heap.size + 3) wys52 a2 cap2 rs2 ∧ Fines (pals rs2) ∧ rs2.length ≤ 4) := ⟨hq, hfi, h4⟩
    have hneX : w.heap.size ≠ X ∧ w.heap.size + 1 ≠ X := by have := hy.ord; exact ⟨by omega, by omega⟩
    have r0 : wys52.cell? ⟨w.heap.size, 0, none⟩ = some (.slice none 0 0) := hy.bR.cell 0
    have r1 : wys52.cell? ⟨w.heap.size, 1, none⟩ = some (.bool false) := hy.bR.cell 1
    have fr0 := hy.bR.frozen 0
    have fr1 := hy.bR.frozen 1
    have v0 : wys52.cell? ⟨w.heap.size + 1, 0, none⟩ = some (.slice none 0 0) := hy.bV.cell 0
    have v1 : wys52.cell? ⟨w.heap.size + 1, 1, none⟩ = some (.bool false) := hy.bV.cell 1
    have fv0 := hy.bV.frozen 0
    have fv1 := hy.bV.frozen 1
    clear hy hq hfi h4
    try dsimp only
    clear hHeld
    refine hK.out _ _ (HS.out _ HY4.out.bX) (fun hHeld => ?_)
    clear hK K
    try simp only [Act.put, List.setIfInBounds_toArray, List.set_cons_zero, List.set_cons_succ]
    refine wpAnyH_ready (rs := [3]) (by kernel_rfl) (by simp) ?_
    refine AllReadyH.cons (o := { dst := none, op := Op.store 26 (Operand.tmp 2) (Operand.tmp 15), type := 0, pos := "l09_sub.go:102", after := #[{ on := 0, ground := Ground.data }, { on := 2, ground := Ground.chain }, { on := 0, ground := Ground.phase }, { on := 1, ground := Ground.textOnly Departure.lateStores }, { on := 2, ground := Ground.textOnly Departure.lateStoresUnsure }], guard := none }) rfl (fun K hK => ?_) AllReadyH.nil
    go_simp
    clear hHeld
    refine hK.out _ _ (HS.out _ ((HY4.out.bX.set_other hneX.1 _).set_other hneX.1 _)) (fun hHeld => ?_)
    clear hK K
    try simp only [Act.put, List.setIfInBounds_toArray, List.set_cons_zero, List.set_cons_succ]
    refine wpAnyH_ready (rs := [4]) (by kernel_rfl) (by simp) ?_
    refine AllReadyH.cons (o := { dst := none, op := Op.store 26 (Operand.tmp 3) (Operand.tmp 17), type := 0, pos := "l09_sub.go:102", after := #[{ on := 2, ground := Ground.data }, { on := 3, ground := Ground.chain }, { on := 0, ground := Ground.phase }, { on := 1, ground := Ground.phase }, { on := 2, ground := Ground.phase }, { on := 3, ground := Ground.phase }], guard := none }) rfl (fun K hK => ?_) AllReadyH.nil
    go_simp
    clear hHeld
    refine hK.out _ _ (HS.out _ ((((HY4.out.bX.set_other hneX.1 _).set_other hneX.1 _).set_other hneX.2 _).set_other hneX.2 _)) (fun hHeld => ?_)
    clear hK K
    try simp only [Act.put, List.setIfInBounds_toArray, List.set_cons_zero, List.set_cons_succ]
    refine wpAnyH_done (by kernel_rfl) ?_ _
    go_wp2
    have hs : Blk ((((wys52.setCell ⟨w.heap.size, 0, none⟩ (.slice a rs.length cap)).setCell ⟨w.heap.size, 1, none⟩ (.bool g)).setCell ⟨w.heap.size + 1, 0, none⟩ (.slice a2 rs2.length cap2)).setCell ⟨w.heap.size + 1, 1, none⟩ (.bool g2)) w.heap.size #[.slice a rs.length cap, .bool g] 26 := (((HY4.out.bR.set 0 _).set 1 _).set_other (by show w.heap.size + 1 ≠ w.heap.size; omega) _).set_other (by show w.heap.size + 1 ≠ w.heap.size; omega) _
    have ht : Blk ((((wys52.setCell ⟨w.heap.size, 0, none⟩ (.slice a rs.length cap)).setCell ⟨w.heap.size, 1, none⟩ (.bool g)).setCell ⟨w.heap.size + 1, 0, none⟩ (.slice a2 rs2.length cap2)).setCell ⟨w.heap.size + 1, 1, none⟩ (.bool g2)) (w.heap.size + 1) #[.slice a2 rs2.length cap2, .bool g2] 26 := (((HY4.out.bV.set_other (by show w.heap.size ≠ w.heap.size + 1; omega) _).set_other (by show w.heap.size ≠ w.heap.size + 1; omega) _).set 0 _).set 1 _
    have s0 := hs.cell 0
    have s1 := hs.cell 1
    have t0 := ht.cell 0
    have t1 := ht.cell 1
    refine bodyPost_ret (v := .tuple #[.agg #[.slice a rs.length cap, .bool g], .agg #[.slice a2 rs2.length cap2, .bool g2]]) (by simp [results, Try.results16, go_sem, s0, s1, t0, t1]) rfl ?_
    exact ⟨⟨a, cap, pals rs, g, a2, cap2, pals rs2, g2, retQ2 (by rw [Rws.pals_len]) (by rw [Rws.pals_len]), dq_of (qo_under (qo_under (qo_under (qo_under HY4.out.q (by omega) _ _) (by omega) _ _) (by omega) _ _) (by omega) _ _) HY4.out.fine HY4.out.few, dq_of (qo_under (qo_under (qo_under (qo_under HQ2.out.1 (by omega) _ _) (by omega) _ _) (by omega) _ _) (by omega) _ _) HQ2.out.2.1 HQ2.out.2.2⟩, ChnP.set2 (ChnP.set2 HY4.out.low (Nat.le_refl _) _ _) (by omega) _ _⟩
set_option maxRecDepth 100000 in
set_option maxHeartbeats 3200000 in
theorem drawTell_any (b0 : Option Addr) (len cap0 : Nat) (w : World) (hl : len ≤ maxLen) (hb : Bytes w b0 len w.heap.size) :
    Calls Try.prog 10 #[.slice b0 len cap0] w fun r w' => RT r w' ∧ Below w.heap.size w w' := by
  have HB : Hid (Bytes w b0 len w.heap.size) := hb
  have HL : Hid (len ≤ maxLen) := hl
  clear hb hl
  go_enter Try.func10, Try.ntmps10
  go_wp2_with fail
  refine (new_any b0 len cap0 _ HL.out (LawB.bytes_up HB.out (Go.Joins.below_alloc2 w _ _))).mono ?_
  rintro r w1 ⟨rfl, hc1, hb1⟩
  have HC1 : Hid (Cur w1 (w.heap.size + 2)) := by simp at hc1; exact hc1
  have HR1 : Hid (Blk w1 w.heap.size #[.slice none 0 0, .bool false] 26) := ((Blk.new _ _ _).alloc _).grow hb1
  have HV1 : Hid (Blk w1 (w.heap.size + 1) #[.slice none 0 0, .int .i64 0, .int .i64 0, .string ⟨#[]⟩] 29) := (Blk.new_at (by simp)).grow hb1
  have HB1 : Hid (Below w.heap.size w w1) := grow_on (Go.Joins.below_alloc2 w _ _) hb1
  clear hc1 hb1
  go_wp2_with fail
  refine (l9Any_any (w.heap.size + 2) _ HC1.out).mono ?_
  rintro r w2 ⟨a, cap, rs, g, rfl, hd, h4⟩
  have HY2 : Hid (YQ w w2.heap.size #[.slice none 0 0, .int .i64 0, .int .i64 0, .string ⟨#[]⟩] 29 (w2.alloc (.cells #[.slice a rs.length cap, .bool g] 26)) a cap rs g) := yq_of HB1.out HR1.out HV1.out hd h4
  clear hd h4 HC1 HR1 HV1 HB1
  have HY : Hid (∃ X w3, w3 = (w2.alloc (.cells #[.slice a rs.length cap, .bool g] 26)) ∧ X = w2.heap.size ∧ YQ w X #[.slice none 0 0, .int .i64 0, .int .i64 0, .string ⟨#[]⟩] 29 w3 a cap rs g) := ⟨_, _, rfl, rfl, HY2.out⟩
  clear HY2
  have HC : Hid (∀ w3 X, YQ w X #[.slice none 0 0, .int .i64 0, .int .i64 0, .string ⟨#[]⟩] 29 w3 a cap rs g → Calls Try.prog 43 #[.pointer (some ⟨w.heap.size + 2, 0, none⟩)] w3.drew fun r w' => ∃ y : ARow, r = .returned (.agg #[.slice (some ⟨y.1, 0, none⟩) y.2.2.l.length y.2.1, .int .i64 y.2.2.s, .int .i64 y.2.2.e, .string y.2.2.n]) ∧ YQ w X #[.slice none 0 0, .int .i64 0, .int .i64 0, .string ⟨#[]⟩] 29 w' a cap rs g ∧ OwnA (w.heap.size + 3) w' y ∧ Fine y.2.2) := fun w3 X hy => (l4Draw_any (w.heap.size + 2) w3.drew (Cur.drewN hy.cur 1)).mono fun r w' ⟨g1, cp, p, s, e, n, hr, hst, hp, hs, he, hn⟩ => ⟨(g1, cp, ⟨p, s, e, n⟩), hr, hy.keep hst.cur (kept_drew hst.kept), (own_lst hst hp).down (by have := hy.ord; show _ ≤ w3.drew.heap.size; simp; omega), fine_of hp hst.fit hs he hn⟩
  go_upto_region 3 with fail
  obtain ⟨X, w3, e3, eX, hy3⟩ := HY.out
  rw [← e3, ← eX]
  clear e3 eX
  have HY : Hid (YQ w X #[.slice none 0 0, .int .i64 0, .int .i64 0, .string ⟨#[]⟩] 29 w3 a cap rs g) := hy3
  clear hy3
  have HS : Hid (∀ w', Blk w' X #[.slice a rs.length cap, .bool g] 26 → w'.cell? ⟨X, 0, none⟩ = some (.slice a rs.length cap) ∧ w'.cell? ⟨X, 1, none⟩ = some (.bool g)) := fun w' h => ⟨h.cell 0, h.cell 1⟩
  refine wp_region_held_drew (S := fun w' => w'.cell? ⟨X, 0, none⟩ = some (.slice a rs.length cap) ∧ w'.cell? ⟨X, 1, none⟩ = some (.bool g)) (by kernel_rfl) (HS.out _ HY.out.bX.drew) (fun hHeld => ?_)
  refine wpAnyH_take (i := 0) (oi := { dst := some 10, op := Op.load 26 (Operand.tmp 5), type := 26, pos := "l09_sub.go:108", after := #[], guard := none }) (v := ?vt30) rfl (by kernel_rfl) (by kernel_rfl) (by kernel_rfl) (fun _ _ _ h => h) (Or.inl ⟨by rfl, ?hyt30⟩) hHeld ?_
  case hyt30 => (intro w hSw; (try dsimp only at hSw); go_simp <;> with_reducible rfl)
  try simp only [Act.put, List.setIfInBounds_toArray, List.set_cons_zero, List.set_cons_succ]
  refine wpAnyH_take (i := 1) (oi := { dst := some 11, op := Op.move (Operand.tmp 4), type := 65, pos := "l09_sub.go:108", after := #[], guard := none }) (v := ?vt31) rfl (by kernel_rfl) (by kernel_rfl) (by kernel_rfl) (fun _ _ _ h => h) (Or.inl ⟨by rfl, ?hyt31⟩) hHeld ?_
  case hyt31 => (intro w hSw; (try dsimp only at hSw); go_simp <;> with_reducible rfl)
  try simp only [Act.put, List.setIfInBounds_toArray, List.set_cons_zero, List.set_cons_succ]
  refine wpAnyH_ready (rs := [2]) (by kernel_rfl) (by simp) ?_
  refine AllReadyH.cons (o := { dst := some 12, op := Op.call { callee := Callee.value (Operand.func 43), args := #[Operand.tmp 11], argTypes := #[65] }, type := 29, pos := "l09_sub.go:108", after := #[{ on := 1, ground := Ground.data }], guard := none }) rfl (fun K hK => ?_) AllReadyH.nil
  go_simp
  refine ((HC.out _ _ HY.out)).mono ?_
  rintro r wyt32 ⟨y, rfl, hy, hO, hfi⟩
  have HY4 : Hid (YQ w X #[.slice none 0 0, .int .i64 0, .int .i64 0, .string ⟨#[]⟩] 29 wyt32 a cap rs g) := hy
  have HO : Hid (OwnA (w.heap.size + 3) wyt32 y ∧ Fine y.2.2) := ⟨hO, hfi⟩
  have hneX : w.heap.size ≠ X ∧ w.heap.size + 1 ≠ X := by have := hy.ord; exact ⟨by omega, by omega⟩
  have r0 : wyt32.cell? ⟨w.heap.size, 0, none⟩ = some (.slice none 0 0) := hy.bR.cell 0
  have r1 : wyt32.cell? ⟨w.heap.size, 1, none⟩ = some (.bool false) := hy.bR.cell 1
  have fr0 := hy.bR.frozen 0
  have fr1 := hy.bR.frozen 1
  have v0 : wyt32.cell? ⟨w.heap.size + 1, 0, none⟩ = some (.slice none 0 0) := hy.bV.cell 0
  have fv0 := hy.bV.frozen 0
  have v1 : wyt32.cell? ⟨w.heap.size + 1, 1, none⟩ = some (.int .i64 0) := hy.bV.cell 1
  have fv1 := hy.bV.frozen 1
  have v2 : wyt32.cell? ⟨w.heap.size + 1, 2, none⟩ = some (.int .i64 0) := hy.bV.cell 2
  have fv2 := hy.bV.frozen 2
  have v3 : wyt32.cell? ⟨w.heap.size + 1, 3, none⟩ = some (.string ⟨#[]⟩) := hy.bV.cell 3
  have fv3 := hy.bV.frozen 3
  clear hy hO hfi
  try dsimp only
  clear hHeld
  refine hK.out _ _ (HS.out _ HY4.out.bX) (fun hHeld => ?_)
  clear hK K
  try simp only [Act.put, List.setIfInBounds_toArray, List.set_cons_zero, List.set_cons_succ]
  refine wpAnyH_ready (rs := [3]) (by kernel_rfl) (by simp) ?_
  refine AllReadyH.cons (o := { dst := none, op := Op.store 26 (Operand.tmp 2) (Operand.tmp 10), type := 0, pos := "l09_sub.go:108", after := #[{ on := 0, ground := Ground.data }, { on := 2, ground := Ground.chain }, { on := 0, ground := Ground.phase }, { on := 1, ground := Ground.textOnly Departure.lateStores }, { on := 2, ground := Ground.textOnly Departure.lateStoresUnsure }], guard := none }) rfl (fun K hK => ?_) AllReadyH.nil
  go_simp
  clear hHeld
  refine hK.out _ _ (HS.out _ ((HY4.out.bX.set_other hneX.1 _).set_other hneX.1 _)) (fun hHeld => ?_)
  clear hK K
  try simp only [Act.put, List.setIfInBounds_toArray, List.set_cons_zero, List.set_cons_succ]
  refine wpAnyH_ready (rs := [4]) (by kernel_rfl) (by simp) ?_
  refine AllReadyH.cons (o := { dst := none, op := Op.store 29 (Operand.tmp 3) (Operand.tmp 12), type := 0, pos := "l09_sub.go:108", after := #[{ on := 2, ground := Ground.data }, { on := 3, ground := Ground.chain }, { on := 0, ground := Ground.phase }, { on := 1, ground := Ground.phase }, { on := 2, ground := Ground.phase }, { on := 3, ground := Ground.phase }], guard := none }) rfl (fun K hK => ?_) AllReadyH.nil
  go_simp
  clear hHeld
  refine hK.out _ _ (HS.out _ ((((((HY4.out.bX.set_other hneX.1 _).set_other hneX.1 _).set_other hneX.2 _).set_other hneX.2 _).set_other hneX.2 _).set_other hneX.2 _)) (fun hHeld => ?_)
  clear hK K
  try simp only [Act.put, List.setIfInBounds_toArray, List.set_cons_zero, List.set_cons_succ]
  refine wpAnyH_done (by kernel_rfl) ?_ _
  go_wp2
  have hs : Blk ((((((wyt32.setCell ⟨w.heap.size, 0, none⟩ (.slice a rs.length cap)).setCell ⟨w.heap.size, 1, none⟩ (.bool g)).setCell ⟨w.heap.size + 1, 0, none⟩ (.slice (some ⟨y.1, 0, none⟩) y.2.2.l.length y.2.1)).setCell ⟨w.heap.size + 1, 1, none⟩ (.int .i64 y.2.2.s)).setCell ⟨w.heap.size + 1, 2, none⟩ (.int .i64 y.2.2.e)).setCell ⟨w.heap.size + 1, 3, none⟩ (.string y.2.2.n)) w.heap.size #[.slice a rs.length cap, .bool g] 26 := (((((HY4.out.bR.set 0 _).set 1 _).set_other (by show w.heap.size + 1 ≠ w.heap.size; omega) _).set_other (by show w.heap.size + 1 ≠ w.heap.size; omega) _).set_other (by show w.heap.size + 1 ≠ w.heap.size; omega) _).set_other (by show w.heap.size + 1 ≠ w.heap.size; omega) _
  have ht : Blk ((((((wyt32.setCell ⟨w.heap.size, 0, none⟩ (.slice a rs.length cap)).setCell ⟨w.heap.size, 1, none⟩ (.bool g)).setCell ⟨w.heap.size + 1, 0, none⟩ (.slice (some ⟨y.1, 0, none⟩) y.2.2.l.length y.2.1)).setCell ⟨w.heap.size + 1, 1, none⟩ (.int .i64 y.2.2.s)).setCell ⟨w.heap.size + 1, 2, none⟩ (.int .i64 y.2.2.e)).setCell ⟨w.heap.size + 1, 3, none⟩ (.string y.2.2.n)) (w.heap.size + 1) #[.slice (some ⟨y.1, 0, none⟩) y.2.2.l.length y.2.1, .int .i64 y.2.2.s, .int .i64 y.2.2.e, .string y.2.2.n] 29 := (((((HY4.out.bV.set_other (by show w.heap.size ≠ w.heap.size + 1; omega) _).set_other (by show w.heap.size ≠ w.heap.size + 1; omega) _).set 0 _).set 1 _).set 2 _).set 3 _
  have s0 := hs.cell 0
  have s1 := hs.cell 1
  have t0 := ht.cell 0
  have t1 := ht.cell 1
  have t2 := ht.cell 2
  have t3 := ht.cell 3
  refine bodyPost_ret (v := .tuple #[.agg #[.slice a rs.length cap, .bool g], .agg #[.slice (some ⟨y.1, 0, none⟩) y.2.2.l.length y.2.1, .int .i64 y.2.2.s, .int .i64 y.2.2.e, .string y.2.2.n]]) (by simp [results, Try.results10, go_sem, s0, s1, t0, t1, t2, t3]) rfl ?_
  exact ⟨⟨a, cap, pals rs, g, y.1, y.2.1, y.2.2, retQV (by rw [Rws.pals_len]), dq_of (qo_under (qo_under (qo_under (qo_under (qo_under (qo_under HY4.out.q (by omega) _ _) (by omega) _ _) (by omega) _ _) (by omega) _ _) (by omega) _ _) (by omega) _ _) HY4.out.fine HY4.out.few, (Tel.own_low6 w.heap.size (w.heap.size + 1) HO.out.1 (by omega) (by omega) _ _ _ _ _ _).reads, HO.out.2⟩, ChnI.set_low (ChnI.set_low (ChnP.set2 (ChnP.set2 HY4.out.low (Nat.le_refl _) _ _) (by omega) _ _) (by omega) _ _) (by omega) _ _⟩
theorem ub_kept {c lo : Nat} {w w' : World} {M cap : Nat} {us : List Subs.URow} (h : Subs.UB lo w M cap us) (hk : Kept c w w') (hc : c < lo) : Subs.UB lo w' M cap us := by
  obtain ⟨cur, h1, h2⟩ := h.outer
  exact ⟨h.at', h.cap, ⟨cur, blk_kept h1 hk (by have := h.at'; omega), h2⟩, ⟨fun x hx => qo_kept (h.rows.rows x hx) hk hc, h.rows.ne⟩⟩
theorem ub_low {lo : Nat} {w : World} {A M cap : Nat} {us : List Subs.URow} (h : Subs.UB lo w M cap us) (hA : A < lo) (i : Nat) (v : Value) : Subs.UB lo (w.setCell ⟨A, i, none⟩ v) M cap us := by
  obtain ⟨cur, h1, h2⟩ := h.outer
  exact ⟨h.at', h.cap, ⟨cur, h1.set_other (by have := h.at'; show A ≠ M; omega) v, h2⟩, ⟨fun x hx => qo_under (h.rows.rows x hx) hA i v, h.rows.ne⟩⟩
theorem ub_low4 {lo : Nat} {w : World} {A M cap : Nat} {us : List Subs.URow} (h : Subs.UB lo w M cap us) (hA : A < lo) (v0 v1 v2 v3 : Value) : Subs.UB lo ((((w.setCell ⟨A, 0, none⟩ v0).setCell ⟨A, 1, none⟩ v1).setCell ⟨A, 2, none⟩ v2).setCell ⟨A, 3, none⟩ v3) M cap us := ub_low (ub_low (ub_low (ub_low h hA _ _) hA _ _) hA _ _) hA _ _
/-- those drawn so far -/
structure AT (w wr : World) (M cap : Nat) (us : List Subs.URow) : Prop where
  cur : Cur wr (w.heap.size + 1)
  low : Below w.heap.size w wr
  lt : w.heap.size + 1 < wr.heap.size
  bV : Blk wr w.heap.size #[.slice none 0 0, .int .i64 0, .int .i64 0, .string ⟨#[]⟩] 29
  ub : Subs.UB (w.heap.size + 2) wr M cap us
  fine : ∀ u ∈ us, Fines (pals u.rs) ∧ u.rs.length ≤ 4
theorem AT.keep {w wr w' : World} {M cap : Nat} {us : List Subs.URow} (h : AT w wr M cap us) (hc : Cur w' (w.heap.size + 1)) (hk : Kept (w.heap.size + 1) wr w') : AT w w' M cap us :=
  ⟨hc, h.low.trans (hk.below (by omega) h.low.size), Nat.lt_of_lt_of_le h.lt hk.size, blk_kept h.bV hk (by omega), ub_kept h.ub hk (by omega), h.fine⟩
theorem AT.grow {w wr w' : World} {M cap : Nat} {us : List Subs.URow} (h : AT w wr M cap us) (hb : Below wr.heap.size wr w') : AT w w' M cap us := h.keep (cur_bel h.cur hb) (kept_bel hb)
theorem AT.app {w W w' : World} {M cap : Nat} {us : List Subs.URow} {x : Subs.URow} {xs : List Value} {v' : Value} (h : AT w W M cap us) (hx : QO (w.heap.size + 2) W x.a x.c x.rs) (hf : Fines (pals x.rs) ∧ x.rs.length ≤ 4) (hne : ∀ y ∈ us, ∀ k, Her.blksA y.a y.rs k → ¬ Her.blksA x.a x.rs k) (hl : xs.length = us.length * 2) (hxs : ∀ i, i < us.length → Subs.Cel2 (fun k => xs[k]?) i (Subs.nthU us i))
    (hown : w'.ownsRow (w.heap.size + 2) 26 2 v' (us.length + 1) (xs ++ Subs.rowU x)) (hg : W.grownBy w' (some M)) : ∃ M' c', v' = .slice (some ⟨M', 0, none⟩) (us.length + 1) c' ∧ AT w w' M' c' (us ++ [x]) := by
  obtain ⟨M', c', e, hu⟩ := h.ub.app hx hne hl hxs hown hg
  have hM := h.ub.at'
  refine ⟨M', c', e, h.cur.grown hg (fun k hk => by cases hk; omega), h.low.grown hg (by have := h.low.size; omega) (fun k e => by have h : M = k := Option.some.inj e; omega), Nat.lt_of_lt_of_le h.lt hg.size, blk_far h.bV hg (fun e => by have h : w.heap.size = M := Option.some.inj e; omega), hu, fun u hu => ?_⟩
  rcases List.mem_append.1 hu with hu | hu
  · exact h.fine u hu
  · rw [List.mem_singleton.1 hu]; exact hf
set_option maxRecDepth 100000 in
set_option maxHeartbeats 3200000 in
theorem drawTellAll_any (b0 : Option Addr) (len cap0 : Nat) (w : World) (hl : len ≤ maxLen) (hb : Bytes w b0 len w.heap.size) :
    Calls Try.prog 17 #[.slice b0 len cap0] w fun r w' => RU r w' ∧ Below w.heap.size w w' := by
  have HB : Hid (Bytes w b0 len w.heap.size) := hb
  have HL : Hid (len ≤ maxLen) := hl
  clear hb hl
  obtain ⟨i0, hi, hz0, hz1, hz2⟩ := info_parts Subs.infoS
  go_enter Try.func17, Try.ntmps17
  go_wp2_with fail
  refine (new_any b0 len cap0 _ HL.out (LawB.bytes_up HB.out (Go.Joins.below_alloc1 w _))).mono ?_
  rintro r w1 ⟨rfl, hc1, hb1⟩
  have HC1 : Hid (Cur w1 (w.heap.size + 1)) := by simp at hc1; exact hc1
  have HR1 : Hid (Blk w1 w.heap.size #[.slice none 0 0, .int .i64 0, .int .i64 0, .string ⟨#[]⟩] 29) := (Blk.new _ _ _).grow hb1
  have HB1 : Hid (Below w.heap.size w w1) := grow_on (Go.Joins.below_alloc1 w _) hb1
  clear hc1 hb1
  go_wp2_with fail
  refine (below_any (w.heap.size + 1) 4 _ (HC1.out.alloc _) (by decide) (by decide)).mono ?_
  rintro r w2 ⟨⟨j0, rfl, hj0, hj1⟩, hc2, hk2⟩
  obtain ⟨n0, rfl⟩ := Int.eq_ofNat_of_zero_le hj0
  have HA2 : Hid (AT w w2 w1.heap.size 0 []) := by
    have h1 := HC1.out.lt
    have h2 := hk2.size
    simp at h2
    exact ⟨hc2, (HB1.out.alloc HB1.out.size _).trans (hk2.below (by omega) (by have := HB1.out.size; simp; omega)), by omega, blk_kept (HR1.out.alloc _) hk2 (by omega), ub_kept (Subs.UB.nil (Blk.new _ _ _) (by omega)) hk2 (by omega), fun u hu => by simp at hu⟩
  have HN : Hid (n0 ≤ 3) := by show n0 ≤ 3; omega
  clear hc2 hk2 hj0 hj1 HC1 HR1 HB1
  generalize w1.heap.size = M0 at HA2 ⊢
  go_wp2
  go_loopw [5, 6] (fun v i wr => ∃ (k M cap : Nat) (us : List Subs.URow), v = .slice (some ⟨M, 0, none⟩) us.length cap ∧ i = .int .i64 k ∧ us.length + k ≤ 3 ∧ AT w wr M cap us) (fun _ i _ => (intOf i).toNat)
  case atStart => exact ⟨n0, M0, 0, [], rfl, rfl, by simp; exact HN.out, HA2.out⟩
  case round =>
    clear HA2 HN
    obtain ⟨k, M, cap, us, rfl, rfl, hk, hat⟩ := hrel
    have HA : Hid (AT w wr M cap us) := hat
    have HK : Hid (us.length + k ≤ 3) := hk
    have hrl : us.length ≤ 3 := by omega
    have hk3 : k ≤ 3 := by omega
    clear hat hk
    by_cases hlt : 0 < k
    · have hlt' : (k : Int) > 0 := by omega
      go_wp2_with fail
      refine (l9Any_any (w.heap.size + 1) _ HA.out.cur).mono ?_
      rintro r w3 ⟨a, cp, rs, g, rfl, hd, h4⟩
      have HA3 : Hid (AT w w3 M cap us) := HA.out.keep hd.cur hd.kept
      have HQ3 : Hid (QO (wr.heap.size + 1) w3 a cp rs ∧ Fines (pals rs) ∧ rs.length ≤ 4) := ⟨hd.q, hd.fine, h4⟩
      have HF3 : Hid (∀ y ∈ us, ∀ k, Her.blksA y.a y.rs k → ¬ Her.blksA a rs k) := HA.out.ub.rows.fresh (x := ⟨a, cp, rs, g⟩) hd.q (by omega)
      clear hd h4
      obtain ⟨xs, hox, hxl, hxs⟩ := HA3.out.ub.own
      have HOX : Hid (∀ o1, (w3.alloc o1).ownsRow (w.heap.size + 2) 26 2 (.slice (some ⟨M, 0, none⟩) us.length cap) us.length xs) := fun o1 => ChnP.own_grow hox (Go.Joins.below_alloc1 w3 o1)
      have HXS : Hid (xs.length = us.length * 2 ∧ ∀ i, i < us.length → Subs.Cel2 (fun k => xs[k]?) i (Subs.nthU us i)) := ⟨hxl, hxs⟩
      clear hox hxl hxs
      go_wp2_with (at_builtin; refine wpList_append_own_at _ rfl _ _ 38 rfl (w.heap.size + 2) 26 i0 (.agg #[.slice none 0 0, .bool false]) 2 32 Try.underlying38 hi hz0 hz1 hz2 rfl (by decide) _ _ _ rfl (HOX.out _) ⟨w3.heap.size, 0, none⟩ 1 1 (Subs.rowU ⟨a, cp, rs, g⟩) rfl rfl ?c1 (Subs.rowU_one _) ?c3 ?c4 ?c5 ?_)
      case c1 => exact blk_news (Blk.new _ _ _)
      case c3 => unfold maxLen; omega
      case c4 => omega
      case c5 => have := HA3.out.lt; simp; omega
      intro v' w4 hown hg hnil hat
      obtain ⟨M4, c4, rfl, hA4⟩ := (HA3.out.grow (Go.Joins.below_alloc1 w3 _)).app (x := ⟨a, cp, rs, g⟩) ((HQ3.out.1.down (by have := HA.out.lt; omega)).grow (Go.Joins.below_alloc1 w3 _)) HQ3.out.2 HF3.out HXS.out.1 HXS.out.2 hown hg
      have HA4 : Hid (AT w w4 M4 c4 (us ++ [⟨a, cp, rs, g⟩])) := hA4
      have HL4 : Hid ((us ++ [(⟨a, cp, rs, g⟩ : Subs.URow)]).length = us.length + 1) := by show _ = _; simp
      clear hown hg hnil hat hA4
      go_wp2
      go_roundw
      case rel => exact ⟨k - 1, M4, c4, us ++ [⟨a, cp, rs, g⟩], by rw [HL4.out], by go_num, by rw [HL4.out]; have := HK.out; omega, HA4.out⟩
      case measure => simp [intOf]; omega
    · have hge : ¬ (k : Int) > 0 := by omega
      have HC : Hid (Calls Try.prog 43 #[.pointer (some ⟨w.heap.size + 1, 0, none⟩)] wr fun r w' => ∃ y : ARow, r = .returned (.agg #[.slice (some ⟨y.1, 0, none⟩) y.2.2.l.length y.2.1, .int .i64 y.2.2.s, .int .i64 y.2.2.e, .string y.2.2.n]) ∧ AT w w' M cap us ∧ OwnA (w.heap.size + 1) w' y ∧ Fine y.2.2) := (l4Draw_any (w.heap.size + 1) wr HA.out.cur).mono fun r w' ⟨g1, cp, p, s, e, n, hr, hst, hp, hs, he, hn⟩ => ⟨(g1, cp, ⟨p, s, e, n⟩), hr, HA.out.keep hst.cur hst.kept, (own_lst hst hp).down (by have := HA.out.lt; omega), fine_of hp hst.fit hs he hn⟩
      go_wp2_with fail
      refine HC.out.mono ?_
      rintro r w5 ⟨y, rfl, hA5, hO, hfi⟩
      have HA5 : Hid (AT w w5 M cap us) := hA5
      have HO : Hid (OwnA (w.heap.size + 1) w5 y ∧ Fine y.2.2) := ⟨hO, hfi⟩
      have v0 : w5.cell? ⟨w.heap.size, 0, none⟩ = some (.slice none 0 0) := hA5.bV.cell 0
      have fv0 := hA5.bV.frozen 0
      have v1 : w5.cell? ⟨w.heap.size, 1, none⟩ = some (.int .i64 0) := hA5.bV.cell 1
      have fv1 := hA5.bV.frozen 1
      have v2 : w5.cell? ⟨w.heap.size, 2, none⟩ = some (.int .i64 0) := hA5.bV.cell 2
      have fv2 := hA5.bV.frozen 2
      have v3 : w5.cell? ⟨w.heap.size, 3, none⟩ = some (.string ⟨#[]⟩) := hA5.bV.cell 3
      have fv3 := hA5.bV.frozen 3
      clear hA5 hO hfi HC
      go_wp2
      have hs : Blk ((((w5.setCell ⟨w.heap.size, 0, none⟩ (.slice (some ⟨y.1, 0, none⟩) y.2.2.l.length y.2.1)).setCell ⟨w.heap.size, 1, none⟩ (.int .i64 y.2.2.s)).setCell ⟨w.heap.size, 2, none⟩ (.int .i64 y.2.2.e)).setCell ⟨w.heap.size, 3, none⟩ (.string y.2.2.n)) w.heap.size #[.slice (some ⟨y.1, 0, none⟩) y.2.2.l.length y.2.1, .int .i64 y.2.2.s, .int .i64 y.2.2.e, .string y.2.2.n] 29 := (((HA5.out.bV.set 0 _).set 1 _).set 2 _).set 3 _
      have s0 := hs.cell 0
      have s1 := hs.cell 1
      have s2 := hs.cell 2
      have s3 := hs.cell 3
      refine bodyPost_ret (v := .tuple #[.slice (some ⟨M, 0, none⟩) us.length cap, .agg #[.slice (some ⟨y.1, 0, none⟩) y.2.2.l.length y.2.1, .int .i64 y.2.2.s, .int .i64 y.2.2.e, .string y.2.2.n]]) (by simp [results, Try.results17, go_sem, s0, s1, s2, s3]) rfl ?_
      refine ⟨⟨M, cap, Subs.sbs us, y.1, y.2.1, y.2.2, retVL (by rw [Subs.sbs_len]), ?_, by rw [Subs.sbs_len]; exact hrl, fun u hu => ?_, ?_, HO.out.2⟩, ?_⟩
      · exact (ub_low4 HA5.out.ub (by omega) _ _ _ _).rn
      · obtain ⟨x, hx, rfl⟩ := List.mem_map.1 hu
        have h := HA5.out.fine x hx
        exact ⟨h.1, by show (pals x.rs).length ≤ 4; rw [Rws.pals_len]; exact h.2⟩
      · have hne : w.heap.size ≠ y.1 := by have := HO.out.1.1; omega
        exact (own_set (own_set (own_set (own_set HO.out.1 hne _ _) hne _ _) hne _ _) hne _ _).reads
      · exact ChnI.set_low (ChnI.set_low (ChnP.set2 HA5.out.low (Nat.le_refl _) _ _) (Nat.le_refl _) _ _) (Nat.le_refl _) _ _
theorem ak_fine {lo : Nat} {w : World} {x : ARow} (h : DrawK.OwnA lo w x) : Fine x.2.2 := fine_of (p := x.2.2.l) (s := x.2.2.s) (e := x.2.2.e) (n := x.2.2.n) h.few h.small h.sb h.eb h.note
/-- a drawn list, to be read -/
def AkR (lo : Nat) (w : World) (v : Value) (xs : List ARow) : Prop := w.ownsRow lo 29 4 v xs.length (DrawK.flatA xs) ∧ ∀ x ∈ xs, DrawK.OwnA lo w x
theorem AkR.under {lo : Nat} {w : World} {v : Value} {xs : List ARow} {A : Nat} (h : AkR lo w v xs) (hA : A < lo) (i : Nat) (u : Value) : AkR lo (w.setCell ⟨A, i, none⟩ u) v xs :=
  ⟨h.1.kept (grown_set w A i u) (by
      cases hv : v.ownBlock with
      | none => exact .inl rfl
      | some k => exact .inr (fun e => by have := (h.1.lt k hv).1; cases e; omega)), fun x hx => (h.2 x hx).to (fun ds hd => hd.set_other (by have := (h.2 x hx).at'; show A ≠ _; omega) u)⟩
theorem AkR.rn {lo : Nat} {wr : World} {g cap n : Nat} {xs : List ARow} (h : AkR lo wr (.slice (some ⟨g, 0, none⟩) n cap) xs) : RdN wr (some ⟨g, 0, none⟩) (DrawK.pals xs) := by
  have ea : ∀ j, (⟨g, 0, none⟩ : Addr).add j = ⟨g, j, none⟩ := fun j => by by_cases h : j = 0 <;> simp [Addr.add, h]
  refine .inr ⟨g, 0, rfl, (h.1.lt g rfl).2, fun i hi => ?_⟩
  rw [DrawK.pals_len] at hi
  rw [DrawK.pals_nth hi]
  obtain ⟨f0, f1, f2, f3⟩ := DrawK.flatA_get xs i hi
  have c0 := h.1.cells (g := g) rfl _ _ f0
  have c1 := h.1.cells (g := g) rfl _ _ f1
  have c2 := h.1.cells (g := g) rfl _ _ f2
  have c3 := h.1.cells (g := g) rfl _ _ f3
  rw [ea] at c0 c1 c2 c3
  obtain ⟨ds, hd, hh⟩ := (h.2 (DrawK.nthA xs i) (by rw [DrawK.nthA_eq hi]; exact List.getElem_mem _)).blk
  exact ⟨(DrawK.nthA xs i).1, 0, (DrawK.nthA xs i).2.1, by rw [Nat.zero_add]; exact c0, by rw [Nat.zero_add]; exact c1, by rw [Nat.zero_add]; exact c2, by rw [Nat.zero_add]; exact c3, held_reads hd hh⟩
set_option maxRecDepth 100000 in
set_option maxHeartbeats 3200000 in
theorem drawHeard_any (b0 : Option Addr) (len cap0 : Nat) (w : World) (hl : len ≤ maxLen) (hb : Bytes w b0 len w.heap.size) :
    Calls Try.prog 28 #[.slice b0 len cap0] w fun r w' => RL r w' ∧ Below w.heap.size w w' := by
  have HB : Hid (Bytes w b0 len w.heap.size) := hb
  have HL : Hid (len ≤ maxLen) := hl
  clear hb hl
  go_enter Try.func28, Try.ntmps28
  go_wp2_with fail
  refine (new_any b0 len cap0 _ HL.out (LawB.bytes_up HB.out (Go.Joins.below_alloc1 w _))).mono ?_
  rintro r w1 ⟨rfl, hc1, hb1⟩
  have HC1 : Hid (Cur w1 (w.heap.size + 1)) := by simp at hc1; exact hc1
  have HR1 : Hid (Blk w1 w.heap.size #[.slice none 0 0, .bool false] 26) := (Blk.new _ _ _).grow hb1
  have HB1 : Hid (Below w.heap.size w w1) := grow_on (Go.Joins.below_alloc1 w _) hb1
  clear hc1 hb1
  go_wp2_with fail
  refine (DrawK.l5List_any _ _ HC1.out).mono ?_
  rintro r w2 ⟨v, rfl, ys, hst, h5⟩
  obtain ⟨M, cl, rfl⟩ := hst.lies
  have HS2 : Hid (DrawK.AkSt w1 (w.heap.size + 1) w2 (.slice (some ⟨M, 0, none⟩) ys.length cl) ys ∧ ys.length ≤ 5) := ⟨hst, h5⟩
  have HR2 : Hid (Blk w2 w.heap.size #[.slice none 0 0, .bool false] 26) := blk_kept HR1.out hst.kept (by omega)
  have HB2 : Hid (Below w.heap.size w w2) := HB1.out.trans (hst.kept.below (by omega) HB1.out.size)
  clear hst h5 HC1 HR1 HB1
  go_wp2_with fail
  refine (l9Any_any (w.heap.size + 1) _ HS2.out.1.cur).mono ?_
  rintro r w3 ⟨a, cap, rs, g, rfl, hd, h4⟩
  have HD : Hid (SQ w2 (w.heap.size + 1) w3 a cap rs ∧ rs.length ≤ 4) := ⟨hd, h4⟩
  have HS3 : Hid (DrawK.AkSt w1 (w.heap.size + 1) w3 (.slice (some ⟨M, 0, none⟩) ys.length cl) ys ∧ ys.length ≤ 5) := ⟨HS2.out.1.keep hd.cur hd.kept, HS2.out.2⟩
  have HR3 : Hid (Blk w3 w.heap.size #[.slice none 0 0, .bool false] 26) := blk_kept HR2.out hd.kept (by omega)
  have HB3 : Hid (Below w.heap.size w w3) := HB2.out.trans (hd.kept.below (by omega) HB2.out.size)
  have r0 : w3.cell? ⟨w.heap.size, 0, none⟩ = some (.slice none 0 0) := HR3.out.cell 0
  have r1 : w3.cell? ⟨w.heap.size, 1, none⟩ = some (.bool false) := HR3.out.cell 1
  have fr0 := HR3.out.frozen 0
  have fr1 := HR3.out.frozen 1
  clear hd h4 HS2 HR2 HB2
  go_wp2
  have hs : Blk ((w3.setCell ⟨w.heap.size, 0, none⟩ (.slice a rs.length cap)).setCell ⟨w.heap.size, 1, none⟩ (.bool g)) w.heap.size #[.slice a rs.length cap, .bool g] 26 := (HR3.out.set 0 _).set 1 _
  have s0 := hs.cell 0
  have s1 := hs.cell 1
  refine bodyPost_ret (v := .tuple #[.slice (some ⟨M, 0, none⟩) ys.length cl, .agg #[.slice a rs.length cap, .bool g]]) (by simp [results, Try.results28, go_sem, s0, s1]) rfl ?_
  have h1 := HD.out.1.clt
  have h2 := HS3.out.1.clt
  have hk : AkR w1.heap.size w3 (.slice (some ⟨M, 0, none⟩) ys.length cl) ys := ⟨HS3.out.1.own, HS3.out.1.each⟩
  refine ⟨⟨M, cl, DrawK.pals ys, a, cap, pals rs, g, retLQ (by rw [DrawK.pals_len]) (by rw [Rws.pals_len]), ?_, fun x hx => ?_, by rw [DrawK.pals_len]; exact HS3.out.2, dq_of (qo_under (qo_under HD.out.1.q (by omega) _ _) (by omega) _ _) HD.out.1.fine HD.out.2⟩, ChnP.set2 HB3.out (Nat.le_refl _) _ _⟩
  · exact ((hk.under (by omega) _ _).under (by omega) _ _).rn
  · obtain ⟨y, hy, rfl⟩ := List.mem_map.1 hx
    exact ak_fine (HS3.out.1.each y hy)
end Go.Proofs.Ytdmhccheaemkkaa.DrawQ
