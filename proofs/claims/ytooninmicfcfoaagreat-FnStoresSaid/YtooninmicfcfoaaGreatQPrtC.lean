/-
  PROVED: spec.l7Copy gives a part of the same chains in memory of its own; what an alarm that is put into a part makes of its chains, on plain lists; nothing that was there is changed.
-/
import Derived.Test.YtooninmicfcfoaaGreatQPrtF
import Derived.Test.YtooninmicfcfoaaGreatQPrt
set_option linter.unusedVariables false
namespace Go.Proofs.YtooninmicfcfoaaGreat.PrtC
open Go.RowKit
open Labs LabS Alms AlmM Over Blk App Rws ChnI ChnC ChnP ChnU ChnK Chs Prt PrtO PrtF
open Fing (fingerB)

structure MidC (w : World) (hd vr : Int) (a : Option Addr) (n cap : Nat) (W : World) (M c : Nat) (cs : List CRow) : Prop where
  part : Blk W w.heap.size #[.int .i64 hd, .int .i64 vr, .slice a n cap] 26
  res : Blk W (w.heap.size + 1) #[.int .i64 0, .int .i64 0, .slice none 0 0] 26
  out : Blk W (w.heap.size + 3) #[.int .i64 hd, .int .i64 vr, .slice (some ⟨M, 0, none⟩) cs.length c] 26
  left : CB (w.heap.size + 2) W M c cs
  low : Below w.heap.size w W
  size : w.heap.size + 4 ≤ W.heap.size
theorem MidC.grow {w : World} {hd vr : Int} {a : Option Addr} {n cap : Nat} {W W' : World} {M c : Nat} {cs : List CRow} (h : MidC w hd vr a n cap W M c cs) (hb : Below W.heap.size W W') : MidC w hd vr a n cap W' M c cs :=
  ⟨h.part.grow hb, h.res.grow hb, h.out.grow hb, h.left.grow hb, grow_on h.low hb, Nat.le_trans h.size hb.size⟩
set_option maxRecDepth 100000 in
set_option maxHeartbeats 2000000 in
theorem l7Copy_any (hd vr : Int) (a : Option Addr) (cap : Nat) (C : List PCh) (w : World) (hr : RdG RdN w a C) (hl : C.length ≤ 1048576) (hs : Small C) :
    Calls Tryz.prog 69 #[.agg #[.int .i64 hd, .int .i64 vr, .slice a C.length cap]] w fun e w' => (∃ M c cs, e = .returned (.agg #[.int .i64 hd, .int .i64 vr, .slice (some ⟨M, 0, none⟩) cs.length c]) ∧ CB w.heap.size w' M c cs ∧ chs cs = C) ∧ Below w.heap.size w w' := by
  have HR : Hid (RdG RdN w a C ∧ Small C) := ⟨hr, hs⟩
  clear hr hs
  obtain ⟨j0, hj, hy0, hy1, hy2⟩ := info_parts infoC
  go_enter Tryz.func69, Tryz.ntmps69
  go_wp2
  obtain ⟨W0, hW0⟩ : ∃ W0, (((w.alloc (.cells #[.int .i64 hd, .int .i64 vr, .slice a C.length cap] 26)).alloc (.cells #[.int .i64 0, .int .i64 0, .slice none 0 0] 26)).alloc (.cells #[] 96)).alloc (.cells #[.int .i64 hd, .int .i64 vr, .slice (some ⟨w.heap.size + 1 + 1, 0, none⟩) 0 0] 26) = W0 := ⟨_, rfl⟩
  have HW0 : Hid (MidC w hd vr a C.length cap W0 (w.heap.size + 2) 0 []) := by
    show MidC w hd vr a C.length cap W0 (w.heap.size + 2) 0 []
    rw [← hW0]
    exact ⟨(((Blk.new _ _ _).alloc _).alloc _).alloc _, ((Blk.new_at (by simp)).alloc _).alloc _, Blk.new_at (by simp), CB.nil ((Blk.new_at (by simp)).alloc _) (by omega), grow_on (Alm.below3 w _ _ _) (Go.Joins.below_alloc1 _ _), by simp⟩
  try rw [hW0]
  clear hW0
  go_loopw [4] (fun i w' => ∃ (k M c : Nat) (cs : List CRow), i = .int .i64 k ∧ k ≤ C.length ∧ MidC w hd vr a C.length cap w' M c cs ∧ chs cs = C.take k) (fun i _ => C.length - (intOf i).toNat)
  case atStart => exact ⟨0, w.heap.size + 2, 0, [], rfl, Nat.zero_le _, HW0.out, rfl⟩
  case round =>
    obtain ⟨k, M, c, cs, rfl, hk, hmid, hpc⟩ := hrel
    have HM : Hid (MidC w hd vr a C.length cap wr M c cs) := hmid
    have HP : Hid (chs cs = C.take k) := hpc
    have hcl : cs.length ≤ 1048576 := by have h1 := congrArg List.length hpc; rw [chs_len] at h1; simp at h1; omega
    have c2 : wr.cell? ⟨w.heap.size, 2, none⟩ = some (.slice a C.length cap) := hmid.part.cell 2
    clear hmid hpc
    by_cases hlt : k < C.length
    · have hlt' : (k : Int) < (C.length : Int) := by omega
      obtain ⟨b, off, ea, hb, ad, cp, hat⟩ := (HR.out.1.below stays_rn HM.out.low).get hlt
      cases ea
      have h2 := hat.c0
      have h3 := hat.c1
      have HRD : Hid (RdN wr ad (nthC C k).P) := hat.reads
      have HSk : Hid ((nthC C k).P.length ≤ 1048576 ∧ LenM (nthC C k).P) := HR.out.2 _ (nthC_mem hlt)
      clear hat
      go_wp2_with fail
      refine (l6Copy_any _ ad cp (nthC C k).P wr HRD.out HSk.out.1 HSk.out.2).mono ?_
      rintro e w2 ⟨⟨M1, c1, rs1, rfl, hA, hp1⟩, hb2⟩
      have HA : Hid (AB wr.heap.size w2 M1 c1 rs1 ∧ pals rs1 = (nthC C k).P) := ⟨hA.down (by omega), hp1⟩
      have HM2 : Hid (MidC w hd vr (some ⟨b, off, none⟩) C.length cap w2 M c cs) := HM.out.grow hb2
      clear hA hp1 hb2 h2 h3 c2
      obtain ⟨W3, hW3⟩ : ∃ W3, w2.alloc (.cells #[.int .i64 (nthC C k).f, .slice (some ⟨M1, 0, none⟩) rs1.length c1] 96) = W3 := ⟨_, rfl⟩
      have H3 : Hid (Below w2.heap.size w2 W3 ∧ Blk W3 w2.heap.size #[.int .i64 (nthC C k).f, .slice (some ⟨M1, 0, none⟩) rs1.length c1] 96) := by
        rw [← hW3]
        exact ⟨Go.Joins.below_alloc1 w2 _, Blk.new _ _ _⟩
      have HM3 : Hid (MidC w hd vr (some ⟨b, off, none⟩) C.length cap W3 M c cs) := HM2.out.grow H3.out.1
      have HA3 : Hid (AB wr.heap.size W3 M1 c1 rs1) := HA.out.1.grow H3.out.1
      have x0 : W3.cell? ⟨w2.heap.size, 0, none⟩ = some (.int .i64 (nthC C k).f) := H3.out.2.cell 0
      have x1 : W3.cell? ⟨w2.heap.size, 1, none⟩ = some (.slice (some ⟨M1, 0, none⟩) rs1.length c1) := H3.out.2.cell 1
      have o2 : W3.cell? ⟨w.heap.size + 3, 2, none⟩ = some (.slice (some ⟨M, 0, none⟩) cs.length c) := HM3.out.out.cell 2
      have hwz : w.heap.size + 2 ≤ wr.heap.size := by have := HM.out.size; omega
      obtain ⟨xs, hox, hxl, hxs⟩ := HM3.out.left.own
      have HOX2 : Hid (∀ o, (W3.alloc o).ownsRow (w.heap.size + 2) 96 2 (.slice (some ⟨M, 0, none⟩) cs.length c) cs.length xs) := fun o => own_grow hox (Go.Joins.below_alloc1 W3 o)
      have HXS2 : Hid (xs.length = cs.length * 2 ∧ ∀ i, i < cs.length → Cel (fun k => xs[k]?) i (nthR cs i)) := ⟨hxl, hxs⟩
      have HU : Hid (∀ o, Below W3.heap.size W3 (W3.alloc o)) := fun o => Go.Joins.below_alloc1 W3 o
      clear hox hxl hxs
      go_wp2_with (at_builtin; refine wpList_append_own_at _ rfl _ _ 24 rfl (w.heap.size + 2) 96 j0 (.agg #[.int .i64 0, .slice none 0 0]) 2 32 Tryz.underlying24 hj hy0 hy1 hy2 rfl (by decide) _ _ _ rfl (HOX2.out _) ⟨W3.heap.size, 0, none⟩ 1 1 (rowC ⟨(nthC C k).f, M1, c1, rs1⟩) rfl rfl (blk_news (Blk.new _ _ _)) (rowC_one _) ?c3 ?c4 ?c5 ?_)
      case c3 => unfold maxLen; omega
      case c4 => omega
      case c5 => have := HM3.out.size; simp; omega
      intro v' w5 hown hg hnil hat
      obtain ⟨M5, c5, rfl, hAB5⟩ := (HM3.out.left.grow (HU.out _)).app (x := ⟨(nthC C k).f, M1, c1, rs1⟩) ((HA3.out.down hwz).grow (HU.out _)) (fun y hy q h1 h2 => by have h3 := blks_high (HM.out.left.rows.rows y hy) q h1; have h4 := blks_low HA3.out q h2; omega) HXS2.out.1 HXS2.out.2 hown hg
      obtain ⟨cu, hcu, _⟩ := (HM3.out.left.grow (HU.out (.cells #[.int .i64 (nthC C k).f, .slice (some ⟨M1, 0, none⟩) rs1.length c1] 96))).outer
      have fr : ∀ {N : Nat} {ds : Array Value} {T : TypeId}, Blk W3 N ds T → T ≠ 96 → Blk w5 N ds T := fun h hT => blk_far (h.grow (HU.out _)) hg (fun e => blkT_ne (h.grow (HU.out _)) hcu hT (Option.some.inj e))
      have HO5 : Hid (Blk w5 (w.heap.size + 3) #[.int .i64 hd, .int .i64 vr, .slice (some ⟨M, 0, none⟩) cs.length c] 26) := fr HM3.out.out (by decide)
      have HM5 : Hid (Blk w5 w.heap.size #[.int .i64 hd, .int .i64 vr, .slice (some ⟨b, off, none⟩) C.length cap] 26 ∧ Blk w5 (w.heap.size + 1) #[.int .i64 0, .int .i64 0, .slice none 0 0] 26 ∧ CB (w.heap.size + 2) w5 M5 c5 (cs ++ [⟨(nthC C k).f, M1, c1, rs1⟩]) ∧ Below w.heap.size w w5 ∧ w.heap.size + 4 ≤ w5.heap.size) := ⟨fr HM3.out.part (by decide), fr HM3.out.res (by decide), hAB5, (grow_on HM3.out.low (HU.out _)).grown hg (by have := HM3.out.size; simp; omega) (fun q e => by have h : M = q := Option.some.inj e; have := HM3.out.left.at'; omega), Nat.le_trans (Nat.le_trans HM3.out.size (HU.out (.cells #[.int .i64 (nthC C k).f, .slice (some ⟨M1, 0, none⟩) rs1.length c1] 96)).size) hg.size⟩
      have HP5 : Hid (chs (cs ++ [⟨(nthC C k).f, M1, c1, rs1⟩]) = C.take (k + 1)) := by
        show _ = _
        rw [chs_app, HP.out, takeC_up hlt]
        congr 2
        unfold CRow.ch
        rw [HA.out.2]
      have hl5 : (cs ++ [(⟨(nthC C k).f, M1, c1, rs1⟩ : CRow)]).length = cs.length + 1 := by simp
      have o0 : w5.cell? ⟨w.heap.size + 3, 2, none⟩ = some (.slice (some ⟨M, 0, none⟩) cs.length c) := HO5.out.cell 2
      have fo := HO5.out.frozen 2
      clear hown hg hnil hat hAB5 hcu fr x0 x1 o2 hW3
      rw [← hl5]
      generalize hqq : cs ++ [(⟨(nthC C k).f, M1, c1, rs1⟩ : CRow)] = ds at HM5 HP5 ⊢
      clear hqq hl5
      go_wp2
      go_roundw
      case rel =>
        refine ⟨k + 1, M5, c5, ds, by go_num, by omega, ⟨HM5.out.1.set_other (by show w.heap.size + 3 ≠ w.heap.size; omega) _, HM5.out.2.1.set_other (by show w.heap.size + 3 ≠ w.heap.size + 1; omega) _, HO5.out.set 2 _, CB.set' HM5.out.2.2.1 HO5.out _ _, HM5.out.2.2.2.1.setCell (by show w.heap.size ≤ w.heap.size + 3; omega) _, by rw [size_setCell]; exact HM5.out.2.2.2.2⟩, HP5.out⟩
      case measure => simp [intOf]; omega
    · have hge : ¬ (k : Int) < (C.length : Int) := by omega
      have HF : Hid (chs cs = C) := by show _ = _; rw [HP.out]; exact List.take_of_length_le (by omega)
      have hO := HM.out.out
      have hR := HM.out.res
      have o0 : wr.cell? ⟨w.heap.size + 3, 0, none⟩ = some (.int .i64 hd) := hO.cell 0
      have o1 : wr.cell? ⟨w.heap.size + 3, 1, none⟩ = some (.int .i64 vr) := hO.cell 1
      have o2 : wr.cell? ⟨w.heap.size + 3, 2, none⟩ = some (.slice (some ⟨M, 0, none⟩) cs.length c) := hO.cell 2
      have r0 : wr.cell? ⟨w.heap.size + 1, 0, none⟩ = some (.int .i64 0) := hR.cell 0
      have r1 : wr.cell? ⟨w.heap.size + 1, 1, none⟩ = some (.int .i64 0) := hR.cell 1
      have r2 : wr.cell? ⟨w.heap.size + 1, 2, none⟩ = some (.slice none 0 0) := hR.cell 2
      have f0 := hR.frozen 0
      have f1 := hR.frozen 1
      have f2 := hR.frozen 2
      clear hO hR
      go_wp2
      have hs := put3 HM.out.res (.int .i64 hd) (.int .i64 vr) (.slice (some ⟨M, 0, none⟩) cs.length c)
      have s0 := hs.cell 0
      have s1 := hs.cell 1
      have s2 := hs.cell 2
      refine bodyPost_ret (v := .agg #[.int .i64 hd, .int .i64 vr, .slice (some ⟨M, 0, none⟩) cs.length c]) (by simp [results, Tryz.results69, go_sem, s0, s1, s2]) rfl ?_
      exact ⟨⟨M, c, cs, rfl, (CB.set3 HM.out.left HM.out.res _ _ _).down (by omega), HF.out⟩, set3 HM.out.low (by omega) _ _ _⟩

def posTo (C : List PCh) (f : Int) : Nat → Nat
  | 0 => 0
  | k + 1 => if posTo C f k = k ∧ (nthC C k).f < f then k + 1 else posTo C f k
def posB (C : List PCh) (f : Int) : Nat := posTo C f C.length
theorem posTo_le (C : List PCh) (f : Int) : ∀ k, posTo C f k ≤ k
  | 0 => Nat.le_refl _
  | k + 1 => by have := posTo_le C f k; rw [posTo]; split <;> omega
theorem posTo_all {C : List PCh} {f : Int} : ∀ {k : Nat}, (∀ j, j < k → (nthC C j).f < f) → posTo C f k = k
  | 0, _ => rfl
  | k + 1, h => by rw [posTo, posTo_all (fun j hj => h j (by omega)), if_pos ⟨rfl, h k (by omega)⟩]
theorem posTo_at {C : List PCh} {f : Int} {i : Nat} (h : ∀ j, j < i → (nthC C j).f < f) (hi : ¬ (nthC C i).f < f) : ∀ {k : Nat}, i < k → posTo C f k = i
  | 0, q => by omega
  | k + 1, q => by
    by_cases e : i = k
    · subst e
      rw [posTo, posTo_all h, if_neg (fun x => hi x.2)]
    · have := posTo_at h hi (k := k) (by omega)
      rw [posTo, this, if_neg (fun x => by omega)]
theorem pos_all {C : List PCh} {f : Int} (h : ∀ j, j < C.length → (nthC C j).f < f) : posB C f = C.length := posTo_all h
theorem pos_at {C : List PCh} {f : Int} {i : Nat} (h : ∀ j, j < i → (nthC C j).f < f) (hi : ¬ (nthC C i).f < f) (hl : i < C.length) : posB C f = i := posTo_at h hi hl
theorem pos_le (C : List PCh) (f : Int) : posB C f ≤ C.length := posTo_le C f _
def putC (C : List PCh) (x : PAl) : List PCh :=
  match atO C (fingerB x.l) with
  | some k => C.set k ⟨(nthC C k).f, putL (nthC C k).P x⟩
  | none => C.take (posB C (fingerB x.l)) ++ ⟨fingerB x.l, [x]⟩ :: C.drop (posB C (fingerB x.l))
def newC (C : List PCh) (x : PAl) : Bool :=
  match atO C (fingerB x.l) with
  | some k => isNew (nthC C k).P x.l
  | none => true
theorem put_some {C : List PCh} {x : PAl} {k : Nat} (h : atO C (fingerB x.l) = some k) : putC C x = C.set k ⟨(nthC C k).f, putL (nthC C k).P x⟩ ∧ newC C x = isNew (nthC C k).P x.l := by unfold putC newC; rw [h]; exact ⟨rfl, rfl⟩
theorem put_none {C : List PCh} {x : PAl} (h : atO C (fingerB x.l) = none) : putC C x = C.take (posB C (fingerB x.l)) ++ ⟨fingerB x.l, [x]⟩ :: C.drop (posB C (fingerB x.l)) ∧ newC C x = true := by unfold putC newC; rw [h]; exact ⟨rfl, rfl⟩
end Go.Proofs.YtooninmicfcfoaaGreat.PrtC
