/-
  PROVED: spec.JoinIn answers a group with the alarm in it, in memory of its own; nothing that was there is changed.
-/
import Derived.Test.YtgncimlojbnbfaaGreatQTk
import Derived.Test.YtgncimlojbnbfaaGreatQGrpF
import Derived.Test.YtgncimlojbnbfaaGreatQFlt
import Derived.Test.YtgncimlojbnbfaaGreatQLabL
set_option linter.unusedVariables false
namespace Go.Proofs.YtgncimlojbnbfaaGreat.GrpJ
open Go.RowKit
open Labs LabS Alms AlmS AlmM Over Blk App Rws ChnI ChnC ChnK Chs Grp GrpC GrpF Flt
open ChnP (own_grow)
open LabL (slB)
def posG (P : List PAl) (l : List Lab) : Nat := P.findIdx fun y => slB l y.l
theorem pos_at {P : List PAl} {l : List Lab} {k : Nat} (hk : k < P.length) (hj : ∀ j, j < k → slB l (nthP P j).l = false) (h : slB l (nthP P k).l = true) : posG P l = k := by
  unfold posG
  rw [List.findIdx_eq hk]
  refine ⟨by rw [nthP_eq hk] at h; exact h, fun j hj' => ?_⟩
  have := hj j hj'
  rwa [nthP_eq (by omega)] at this
theorem pos_end {P : List PAl} {l : List Lab} (hj : ∀ j, j < P.length → slB l (nthP P j).l = false) : posG P l = P.length := by
  unfold posG
  rw [List.findIdx_eq_length]
  intro y hy
  obtain ⟨j, hj', rfl⟩ := List.getElem_of_mem hy
  have := hj j hj'
  rwa [nthP_eq hj'] at this
theorem pos_le (P : List PAl) (l : List Lab) : posG P l ≤ P.length := List.findIdx_le_length
def joinG (P : List PAl) (x : PAl) : List PAl := match idxTo P x.l P.length with
  | some k => P.set k x
  | none => P.take (posG P x.l) ++ x :: P.drop (posG P x.l)
theorem join_hit {P : List PAl} {x : PAl} {k : Nat} (hj : ∀ i, i < k → (nthP P i).l ≠ x.l) (he : (nthP P k).l = x.l) (hl : k < P.length) : joinG P x = P.set k x := by unfold joinG; rw [idxTo_some hj he hl]
theorem join_miss {P : List PAl} {x : PAl} (h : ∀ j, j < P.length → (nthP P j).l ≠ x.l) : joinG P x = P.take (posG P x.l) ++ x :: P.drop (posG P x.l) := by unfold joinG; rw [idxTo_none h]
theorem join_len (P : List PAl) (x : PAl) : (joinG P x).length ≤ P.length + 1 := by
  have h := pos_le P x.l
  unfold joinG
  split
  · simp
  · simp; omega
theorem rdn_take {w : World} {gl ol : Nat} {P : List PAl} (k : Nat) (h : RdN w (some ⟨gl, ol, none⟩) P) : RdN w (some ⟨gl, ol, none⟩) (P.take k) := by
  rcases h with h | ⟨b, off, e, hb, hc⟩
  · exact .inl (by rw [h]; simp)
  · refine .inr ⟨b, off, e, hb, fun i hi => ?_⟩
    simp at hi
    have e2 : nthP (P.take k) i = nthP P i := by rw [nthP_eq (by simp; omega), nthP_eq (by omega)]; simp
    rw [e2]; exact hc i (by omega)
theorem rdn_drop {w : World} {gl ol : Nat} {P : List PAl} (k : Nat) (h : RdN w (some ⟨gl, ol, none⟩) P) : RdN w (some ⟨gl, ol + k * 4, none⟩) (P.drop k) := by
  rcases h with h | ⟨b, off, e, hb, hc⟩
  · exact .inl (by rw [h]; simp)
  · cases e
    refine .inr ⟨gl, ol + k * 4, rfl, hb, fun i hi => ?_⟩
    simp at hi
    have e2 : nthP (P.drop k) i = nthP P (k + i) := by rw [nthP_eq (by simp; omega), nthP_eq (by omega)]; simp
    rw [e2]
    obtain ⟨g, o, cp, h⟩ := hc (k + i) (by omega)
    have e3 : ol + (k + i) * 4 = ol + k * 4 + i * 4 := by omega
    exact ⟨g, o, cp, by have := h.c0; rwa [e3] at this, by have := h.c1; rwa [e3] at this, by have := h.c2; rwa [e3] at this, by have := h.c3; rwa [e3] at this, h.reads⟩
theorem rdn_tail {w : World} {gl ol k cap : Nat} {P : List PAl} (h : RdN w (some ⟨gl, ol, none⟩) P) (hc : P.length ≤ cap) : RdN w (some (if cap = k then ⟨gl, ol, none⟩ else ⟨gl, ol + k * 4, none⟩)) (P.drop k) := by
  split
  · exact .inl (List.drop_eq_nil_of_le (by omega))
  · exact rdn_drop k h
theorem lenM_take {P : List PAl} (k : Nat) (h : LenM P) : LenM (P.take k) := fun i hi => by
  simp at hi
  have := h i (by omega)
  rw [nthP_eq (by simp; omega)]; rw [nthP_eq (by omega)] at this; simpa using this
theorem lenM_drop {P : List PAl} (k : Nat) (h : LenM P) : LenM (P.drop k) := fun i hi => by
  simp at hi
  have := h (k + i) (by omega)
  rw [nthP_eq (by simp; omega)]; rw [nthP_eq (by omega)] at this; simpa using this
structure MidJ (w : World) (C D E : Array Value) (O X : Nat) (Ke : Nat) (key : List Lab) (M c : Nat) (rs : List ARow) (y : ARow) (W : World) : Prop where
  bp : Blk W w.heap.size C 53
  bq : Blk W (w.heap.size + 1) D 27
  br : Blk W (w.heap.size + 1 + 1) #[.int .i64 0, .slice none 0 0, .int .i64 0, .int .i64 0, .slice none 0 0] 53
  bo : Blk W O E 53
  bx : Blk W X #[.slice (some ⟨y.1, 0, none⟩) y.2.2.l.length y.2.1, .int .i64 y.2.2.s, .int .i64 y.2.2.e, .string y.2.2.n] 27
  ord : w.heap.size + 2 < O ∧ O < X ∧ X < W.heap.size
  key : OwnL (w.heap.size + 3) W Ke key
  ab : AB (w.heap.size + 3) W M c rs
  ne : ¬ blks M rs Ke
  yo : OwnA (w.heap.size + 3) W y
  yn : (∀ z ∈ rs, z.1 ≠ y.1) ∧ Ke ≠ y.1 ∧ M < O
  below : Below w.heap.size w W
theorem MidJ.grow {w : World} {C D E : Array Value} {O X Ke : Nat} {key : List Lab} {M c : Nat} {rs : List ARow} {y : ARow} {W W' : World} (h : MidJ w C D E O X Ke key M c rs y W) (hb : Below W.heap.size W W') : MidJ w C D E O X Ke key M c rs y W' :=
  ⟨h.bp.grow hb, h.bq.grow hb, h.br.grow hb, h.bo.grow hb, h.bx.grow hb, ⟨h.ord.1, h.ord.2.1, Nat.lt_of_lt_of_le h.ord.2.2 hb.size⟩, h.key.grow hb, h.ab.grow hb, h.ne, h.yo.grow hb, h.yn, grow_on h.below hb⟩
theorem app_rows {lo lo2 : Nat} {w w' : World} {M c M2 c2 : Nat} {rs qs : List ARow} {v' : Value} (h : AB lo w M c rs) (k : AB lo2 w M2 c2 qs) (hlo : lo ≤ lo2) (hsep : ∀ y ∈ rs, y.1 < lo2) (h0 : 0 < rs.length)
    (hown : w'.ownsRow lo 27 4 v' (rs.length + qs.length) (flatA rs ++ flatA qs)) (hg : w.grownBy w' (some M)) : ∃ M' c', v' = .slice (some ⟨M', 0, none⟩) (rs ++ qs).length c' ∧ AB lo w' M' c' (rs ++ qs) := by
  obtain ⟨cu, hcu, _⟩ := h.outer
  have far : ∀ y, OwnA lo w y → OwnA lo w' y := fun y hy => by
    obtain ⟨h0, h1, ds, h2, h3⟩ := hy
    exact ⟨h0, h1, ds, blk_far h2 hg (fun e => blkA_ne hcu h2 (Option.some.inj e).symm), h3⟩
  have ho : w'.ownsRow lo 27 4 v' (rs ++ qs).length (flatA (rs ++ qs)) := by rw [flatA_app, List.length_append]; exact hown
  refine ab_flat ho (by simp; omega) (fun y hy => ?_) ?_
  · rcases List.mem_append.1 hy with hy | hy
    · exact far y (h.rows y hy)
    · exact far y ((k.rows y hy).down hlo)
  · rw [List.pairwise_append]
    refine ⟨h.ne, k.ne, fun a ha b hb => ?_⟩
    have h1 := hsep a ha
    have h2 := (k.rows b hb).1
    omega
theorem if_slice {p : Prop} [Decidable p] (x y : Addr) (n c : Nat) : Value.slice (if p then some x else some y) n c = .slice (some (if p then x else y)) n c := by split <;> rfl
theorem bel_alloc {B : Nat} {w w' : World} (h : Below B w w') (o : Obj) (hB : B ≤ w.heap.size := by exact Nat.le_refl _) : Below B w (w'.alloc o) := h.alloc (Nat.le_trans hB h.size) o
theorem l4All_drop {w : World} {gl ol cap k : Nat} {P : List PAl} (hr : RdN w (some ⟨gl, ol, none⟩) P) (hc : P.length ≤ cap) (hk : k ≤ P.length) (hl : P.length ≤ 1048576) (hs : LenM P) :
    Calls Tryz.prog 67 #[.slice (some (if cap = k then ⟨gl, ol, none⟩ else ⟨gl, ol + k * 4, none⟩)) (P.length - k) (cap - k)] w fun e w' => (∃ M c rs, e = .returned (.slice (some ⟨M, 0, none⟩) rs.length c) ∧ AB w.heap.size w' M c rs ∧ pals rs = P.drop k) ∧ Below w.heap.size w w' := by
  have h := ChnT.l4All_any (some (if cap = k then ⟨gl, ol, none⟩ else ⟨gl, ol + k * 4, none⟩)) (cap - k) (P.drop k) w (rdn_tail hr hc) (by simp; omega) (lenM_drop k hs)
  rw [List.length_drop] at h
  exact h
theorem l4All_take {w : World} {gl ol cap k : Nat} {P : List PAl} (hr : RdN w (some ⟨gl, ol, none⟩) P) (hk : k ≤ P.length) (hl : P.length ≤ 1048576) (hs : LenM P) :
    Calls Tryz.prog 67 #[.slice (some ⟨gl, ol, none⟩) k cap] w fun e w' => (∃ M c rs, e = .returned (.slice (some ⟨M, 0, none⟩) rs.length c) ∧ AB w.heap.size w' M c rs ∧ pals rs = P.take k) ∧ Below w.heap.size w w' := by
  have h := ChnT.l4All_any (some ⟨gl, ol, none⟩) cap (P.take k) w (rdn_take k hr) (by simp; omega) (lenM_take k hs)
  rw [List.length_take, Nat.min_eq_left hk] at h
  exact h
structure FinJ (w : World) (E : Array Value) (O Ke : Nat) (key : List Lab) (M c : Nat) (rs : List ARow) (W : World) : Prop where
  br : Blk W (w.heap.size + 1 + 1) #[.int .i64 0, .slice none 0 0, .int .i64 0, .int .i64 0, .slice none 0 0] 53
  bo : Blk W O E 53
  ord : w.heap.size + 2 < O
  key : OwnL (w.heap.size + 3) W Ke key
  ab : AB (w.heap.size + 3) W M c rs
  ne : ¬ blks M rs Ke
  below : Below w.heap.size w W
set_option maxRecDepth 100000 in
set_option maxHeartbeats 6400000 in
theorem specJoin_any (n b t : Int) (gk ok kc : Nat) (key : List Lab) (gl ol cap : Nat) (P : List PAl) (gx ox cx : Nat) (x : PAl) (w : World) (hk : Reads w (some ⟨gk, ok, none⟩) key) (hkl : key.length ≤ 1048576) (hr : RdN w (some ⟨gl, ol, none⟩) P) (hl : P.length ≤ 1048576) (hs : LenM P) (hc : P.length ≤ cap ∧ cap ≤ maxLen) (hx : Reads w (some ⟨gx, ox, none⟩) x.l) (hxl : x.l.length ≤ 1048576) :
    Calls Tryz.prog 36 #[.agg #[.int .i64 n, .slice (some ⟨gk, ok, none⟩) key.length kc, .int .i64 b, .int .i64 t, .slice (some ⟨gl, ol, none⟩) P.length cap], .agg #[.slice (some ⟨gx, ox, none⟩) x.l.length cx, .int .i64 x.s, .int .i64 x.e, .string x.n]] w fun e w' => (∃ Ke kd M c rs, e = .returned (.agg #[.int .i64 n, .slice (some ⟨Ke, 0, none⟩) key.length kd, .int .i64 b, .int .i64 t, .slice (some ⟨M, 0, none⟩) rs.length c]) ∧ GB w.heap.size w' Ke key M 0 rs ∧ AB w.heap.size w' M c rs ∧ pals rs = joinG P x) ∧ Below w.heap.size w w' := by
  have HK : Hid (Reads w (some ⟨gk, ok, none⟩) key) := hk
  have HR : Hid (RdN w (some ⟨gl, ol, none⟩) P ∧ LenM P) := ⟨hr, hs⟩
  have HX : Hid (Reads w (some ⟨gx, ox, none⟩) x.l) := hx
  obtain ⟨hc1, hc2⟩ := hc
  unfold maxLen at hc2
  clear hk hr hs hx
  obtain ⟨i0, hi, hz0, hz1, hz2⟩ := info_parts infoA
  generalize hW0 : ((w.alloc (.cells #[.int .i64 n, .slice (some ⟨gk, ok, none⟩) key.length kc, .int .i64 b, .int .i64 t, .slice (some ⟨gl, ol, none⟩) P.length cap] 53)).alloc (.cells #[.slice (some ⟨gx, ox, none⟩) x.l.length cx, .int .i64 x.s, .int .i64 x.e, .string x.n] 27)).alloc (.cells #[.int .i64 0, .slice none 0 0, .int .i64 0, .int .i64 0, .slice none 0 0] 53) = W0
  have HB0 : Hid (Below w.heap.size w W0) := by rw [← hW0]; exact Alm.below3 w _ _ _
  have BP0 : Hid (Blk W0 w.heap.size #[.int .i64 n, .slice (some ⟨gk, ok, none⟩) key.length kc, .int .i64 b, .int .i64 t, .slice (some ⟨gl, ol, none⟩) P.length cap] 53) := by rw [← hW0]; exact ((Blk.new _ _ _).alloc _).alloc _
  have BQ0 : Hid (Blk W0 (w.heap.size + 1) #[.slice (some ⟨gx, ox, none⟩) x.l.length cx, .int .i64 x.s, .int .i64 x.e, .string x.n] 27) := by rw [← hW0]; exact (Blk.new_at (by simp)).alloc _
  have BR0 : Hid (Blk W0 (w.heap.size + 1 + 1) #[.int .i64 0, .slice none 0 0, .int .i64 0, .int .i64 0, .slice none 0 0] 53) := by rw [← hW0]; exact Blk.new_at (by simp)
  have HZ : Hid (W0.heap.size = w.heap.size + 3) := by show _ = _; rw [← hW0]; simp
  go_enter Tryz.func36, Tryz.ntmps36
  go_upto_region 1 with fail
  clear hW0
  have p0 := BP0.out.cell 0
  have p1 := BP0.out.cell 1
  have p2 := BP0.out.cell 2
  have p3 := BP0.out.cell 3
  have p4 := BP0.out.cell 4
  simp at p0 p1 p2 p3 p4
  go_wp2_with fail
  refine (l11Copy_any n b t gk ok kc key (some ⟨gl, ol, none⟩) cap P _ (HK.out.below HB0.out) hkl (HR.out.1.below HB0.out) hl HR.out.2).mono ?_
  rintro e w1 ⟨⟨Ke, kd, M0, c0, rs0, rfl, hG, hA, hP⟩, hb⟩
  have BP1 : Hid (Blk w1 w.heap.size #[.int .i64 n, .slice (some ⟨gk, ok, none⟩) key.length kc, .int .i64 b, .int .i64 t, .slice (some ⟨gl, ol, none⟩) P.length cap] 53) := BP0.out.grow hb
  have BQ1 : Hid (Blk w1 (w.heap.size + 1) #[.slice (some ⟨gx, ox, none⟩) x.l.length cx, .int .i64 x.s, .int .i64 x.e, .string x.n] 27) := BQ0.out.grow hb
  have BR1 : Hid (Blk w1 (w.heap.size + 1 + 1) #[.int .i64 0, .slice none 0 0, .int .i64 0, .int .i64 0, .slice none 0 0] 53) := BR0.out.grow hb
  have HK1 : Hid (OwnL (w.heap.size + 3) w1 Ke key) := hG.key.down (by rw [HZ.out]; exact Nat.le_refl _)
  have HA1 : Hid (AB (w.heap.size + 3) w1 M0 c0 rs0 ∧ pals rs0 = P ∧ ¬ blks M0 rs0 Ke) := ⟨hA.down (by rw [HZ.out]; exact Nat.le_refl _), hP, hG.ne⟩
  have HB1 : Hid (Below w.heap.size w w1) := grow_on HB0.out hb
  have HL1 : Hid (w.heap.size + 3 ≤ w1.heap.size) := by unfold Hid; have := hb.size; rw [HZ.out] at this; exact this
  clear hG hA hP hb p0 p1 p2 p3 p4 BP0 BQ0 BR0 HB0 HZ
  go_upto_region 2 with fail
  generalize hW1 : w1.alloc (.cells #[.int .i64 n, .slice (some ⟨Ke, 0, none⟩) key.length kd, .int .i64 b, .int .i64 t, .slice (some ⟨M0, 0, none⟩) rs0.length c0] 53) = W1
  have hb1 : Below w1.heap.size w1 W1 := by rw [← hW1]; exact Go.Joins.below_alloc1 w1 _
  have HO1 : Hid (Blk W1 w1.heap.size #[.int .i64 n, .slice (some ⟨Ke, 0, none⟩) key.length kd, .int .i64 b, .int .i64 t, .slice (some ⟨M0, 0, none⟩) rs0.length c0] 53) := by rw [← hW1]; exact Blk.new _ _ _
  have HS1 : Hid (W1.heap.size = w1.heap.size + 1) := by unfold Hid; rw [← hW1]; simp
  have HQ1 : Hid (Blk W1 (w.heap.size + 1) #[.slice (some ⟨gx, ox, none⟩) x.l.length cx, .int .i64 x.s, .int .i64 x.e, .string x.n] 27) := BQ1.out.grow hb1
  have HB1' : Hid (Below w1.heap.size w1 W1) := hb1
  clear hW1 hb1
  have q0 := HQ1.out.cell 0
  have q1 := HQ1.out.cell 1
  have q2 := HQ1.out.cell 2
  have q3 := HQ1.out.cell 3
  simp at q0 q1 q2 q3
  have HC : Hid (Calls Tryz.prog 37 #[.agg #[.slice (some ⟨gx, ox, none⟩) x.l.length cx, .int .i64 x.s, .int .i64 x.e, .string x.n]] W1 fun r w' => (∃ Mx cy, r = .returned (.agg #[.slice (some ⟨Mx, 0, none⟩) x.l.length cy, .int .i64 x.s, .int .i64 x.e, .string x.n]) ∧ LabR.Own W1 w' Mx x.l) ∧ Below W1.heap.size W1 w') := copyS_any _ _ _ _ _ _ _ W1 (HX.out.below (grow_on HB1.out HB1'.out)) hxl
  go_wp2_with fail
  refine HC.out.mono ?_
  rintro e w2 ⟨⟨Mx, cy, rfl, hO⟩, hb2⟩
  go_upto_region 3 with fail
  generalize hW2 : w2.alloc (.cells #[.slice (some ⟨Mx, 0, none⟩) x.l.length cy, .int .i64 x.s, .int .i64 x.e, .string x.n] 27) = W2
  have hb3 : Below w2.heap.size w2 W2 := by rw [← hW2]; exact Go.Joins.below_alloc1 w2 _
  have hb12 : Below W1.heap.size W1 W2 := grow_on hb2 hb3
  have hbw : Below w1.heap.size w1 W2 := grow_on HB1'.out hb12
  have HMJ : Hid (MidJ w #[.int .i64 n, .slice (some ⟨gk, ok, none⟩) key.length kc, .int .i64 b, .int .i64 t, .slice (some ⟨gl, ol, none⟩) P.length cap] #[.slice (some ⟨gx, ox, none⟩) x.l.length cx, .int .i64 x.s, .int .i64 x.e, .string x.n] #[.int .i64 n, .slice (some ⟨Ke, 0, none⟩) key.length kd, .int .i64 b, .int .i64 t, .slice (some ⟨M0, 0, none⟩) rs0.length c0] w1.heap.size w2.heap.size Ke key M0 c0 rs0 (Mx, cy, x) W2) := by
    have h1 := hb2.size; have h2 := HS1.out; have h3 := HL1.out; have h4 := hO.1
    refine ⟨BP1.out.grow hbw, BQ1.out.grow hbw, BR1.out.grow hbw, HO1.out.grow hb12, by rw [← hW2]; exact Blk.new _ _ _, ⟨by omega, by omega, by rw [← hW2]; simp⟩, HK1.out.grow hbw, HA1.out.1.grow hbw, HA1.out.2.2, ((own_of_copy hO hxl).down (by omega)).grow hb3, ⟨fun z hz => ?_, ?_, HA1.out.1.lt⟩, grow_on HB1.out hbw⟩
    · have := (HA1.out.1.rows z hz).lt; show z.1 ≠ Mx; omega
    · have := HK1.out.lt; show Ke ≠ Mx; omega
  have HP0 : Hid (pals rs0 = P ∧ rs0.length = P.length) := ⟨HA1.out.2.1, by rw [← pals_len, HA1.out.2.1]⟩
  clear hb2 hb3 hb12 hbw hO hW2 BP1 BQ1 BR1 HO1 HK1 HA1 HB1 HL1 HS1 HQ1 HB1' HC q0 q1 q2 q3
  generalize w1.heap.size = Ob at *
  generalize w2.heap.size = Xb at *
  go_wp2
  go_loopw [7] (fun i w' => ∃ k : Nat, i = .int .i64 k ∧ k ≤ P.length ∧ (∀ j, j < k → (nthP P j).l ≠ x.l) ∧ Below W2.heap.size W2 w') (fun i _ => P.length - (intOf i).toNat)
  case atStart => exact ⟨0, rfl, Nat.zero_le _, fun j hj => by omega, Below.refl _ _⟩
  case round =>
    obtain ⟨k, rfl, hk, hu, hbr⟩ := hrel
    have HU : Hid (∀ j, j < k → (nthP P j).l ≠ x.l) := hu
    have HM : Hid (MidJ w #[.int .i64 n, .slice (some ⟨gk, ok, none⟩) key.length kc, .int .i64 b, .int .i64 t, .slice (some ⟨gl, ol, none⟩) P.length cap] #[.slice (some ⟨gx, ox, none⟩) x.l.length cx, .int .i64 x.s, .int .i64 x.e, .string x.n] #[.int .i64 n, .slice (some ⟨Ke, 0, none⟩) key.length kd, .int .i64 b, .int .i64 t, .slice (some ⟨M0, 0, none⟩) rs0.length c0] Ob Xb Ke key M0 c0 rs0 (Mx, cy, x) wr) := HMJ.out.grow hbr
    have HBr : Hid (Below W2.heap.size W2 wr) := hbr
    clear hu hbr
    have hpl := HM.out.bp.lt
    have hql := HM.out.bq.lt
    by_cases hlt : k < P.length
    · have hlt' : (k : Int) < (P.length : Int) := by omega
      obtain ⟨bb, off, eb, hbb, g, o, cp, hat⟩ := (HR.out.1.below HM.out.below).get hlt
      have eg : gl = bb ∧ ol = off := by cases eb; exact ⟨rfl, rfl⟩
      obtain ⟨rfl, rfl⟩ := eg
      have hne := Grown.some wr
      have y4 := fun z : Grown wr => z.cell (p := ⟨w.heap.size, 4, none⟩) hpl (HM.out.bp.cell 4)
      have y0 := fun z : Grown wr => z.cell (p := ⟨(w.heap.size + 1), 0, none⟩) hql (HM.out.bq.cell 0)
      have x0 := fun z : Grown wr => z.cell hbb hat.c0
      simp at y4 y0
      have HCs : ∀ z : Grown wr, Hid (Calls Tryz.prog 49 #[.slice (some ⟨g, o, none⟩) (nthP P k).l.length cp, .slice (some ⟨gx, ox, none⟩) x.l.length cx] z.out fun e w' => e = .returned (.bool (decide ((nthP P k).l = x.l))) ∧ Below z.out.heap.size z.out w') := fun z => calls_drew (specSame_any _ _ _ _ _ _ z.out (hat.reads.below z.bel) (HX.out.below (grow_on HM.out.below z.bel)) (by have := HR.out.2 k hlt; unfold maxLen; omega) (by unfold maxLen; omega))
      have hp4 := HM.out.bp.cell 4
      simp at hp4
      clear hat
      cases hd : decide ((nthP P k).l = x.l) with
      | false =>
        rw [hd] at HCs
        have HU1 : Hid (∀ j, j < k + 1 → (nthP P j).l ≠ x.l) := fun j hj => by
          by_cases e : j = k
          · subst e; exact of_decide_eq_false hd
          · exact HU.out j (by omega)
        clear hd
        go_upto_region 6 with fail
        refine wp_over (z := wr) (by kernel_rfl) (by kernel_rfl) (Below.refl _ _) ?_
        repeat (go_big_quiet_step (first | (go_at_call 49; exact call_over (HCs _).out)))
        refine wpQuiet_nil ?_
        intro w3 hw3
        have hb3 := over_bel hw3
        clear hw3 hne
        go_wp2
        go_roundw
        case rel => exact ⟨k + 1, by go_num, by omega, HU1.out, grow_on HBr.out hb3⟩
        case measure => simp [intOf]; omega
      | true =>
        rw [hd] at HCs
        have HE : Hid (joinG P x = P.set k x) := join_hit HU.out (of_decide_eq_true hd) hlt
        clear hd
        go_upto_region 6 with fail
        refine wp_over (z := wr) (by kernel_rfl) (by kernel_rfl) (Below.refl _ _) ?_
        repeat (go_big_quiet_step (first | (go_at_call 49; exact call_over (HCs _).out)))
        refine wpQuiet_nil ?_
        intro w3 hw3
        have hb3 := over_bel hw3
        have H3 : Hid (MidJ w #[.int .i64 n, .slice (some ⟨gk, ok, none⟩) key.length kc, .int .i64 b, .int .i64 t, .slice (some ⟨gl, ol, none⟩) P.length cap] #[.slice (some ⟨gx, ox, none⟩) x.l.length cx, .int .i64 x.s, .int .i64 x.e, .string x.n] #[.int .i64 n, .slice (some ⟨Ke, 0, none⟩) key.length kd, .int .i64 b, .int .i64 t, .slice (some ⟨M0, 0, none⟩) rs0.length c0] Ob Xb Ke key M0 c0 rs0 (Mx, cy, x) w3) := HM.out.grow hb3
        clear hw3 hne hb3 HM HCs
        have HPl := HP0.out.2
        have hkl2 : (k : Int) < (rs0.length : Int) := by omega
        have hkl3 : k < rs0.length := by omega
        clear HPl
        have o4 := H3.out.bo.cell 4
        have x0 := H3.out.bx.cell 0
        have x1 := H3.out.bx.cell 1
        have x2 := H3.out.bx.cell 2
        have x3 := H3.out.bx.cell 3
        simp at o4 x0 x1 x2 x3
        obtain ⟨cur, hcur, hcs, hcf⟩ := H3.out.ab.outer
        have hcc := H3.out.ab.cap
        unfold maxLen at hcc
        obtain ⟨v0, v1, v2, v3, c0', c1', c2', c3'⟩ := four_cells hcur k (by omega)
        have f0 := hcur.frozen (k * 4)
        have f1 := hcur.frozen (k * 4 + 1)
        have f2 := hcur.frozen (k * 4 + 2)
        have f3 := hcur.frozen (k * 4 + 3)
        have HCu : Hid (Blk w3 M0 cur 27) := hcur
        clear hcur hcs hcf
        go_upto_region 8 with fail
        generalize hW5 : ((((w3.setCell ⟨M0, k * 4, none⟩ (.slice (some ⟨Mx, 0, none⟩) x.l.length cy)).setCell ⟨M0, k * 4 + 1, none⟩ (.int .i64 x.s)).setCell ⟨M0, k * 4 + 2, none⟩ (.int .i64 x.e)).setCell ⟨M0, k * 4 + 3, none⟩ (.string x.n)) = W5
        have e5 : put4W w3 M0 k (Mx, cy, x) = W5 := hW5
        have HF : Hid (FinJ w #[.int .i64 n, .slice (some ⟨Ke, 0, none⟩) key.length kd, .int .i64 b, .int .i64 t, .slice (some ⟨M0, 0, none⟩) rs0.length c0] Ob Ke key M0 c0 (putA rs0 k (Mx, cy, x)) W5) := by
          have hne := H3.out
          have hno : M0 ≠ Ob := by have := hne.yn.2.2; omega
          rw [← e5]
          refine ⟨put4W_other hne.br (ne_blk HCu.out hne.br (by decide)), put4W_other hne.bo hno, hne.ord.1, ?_, hne.ab.put (by omega) hne.yo hne.yn.1, fun h => ?_, put4W_low hne.below (by have := hne.ab.at'; omega)⟩
          · obtain ⟨k0, ds, k1, k2⟩ := hne.key
            exact ⟨k0, ds, put4W_other k1 (blkA_ne HCu.out k1), k2⟩
          · rcases h with e | ⟨z, hz, e⟩
            · exact hne.ne (.inl e)
            · rcases List.mem_or_eq_of_mem_set hz with hz | hz
              · exact hne.ne (.inr ⟨z, hz, e⟩)
              · rw [hz] at e; exact hne.yn.2.1 e.symm
        have HPf : Hid (pals (putA rs0 k (Mx, cy, x)) = joinG P x) := by unfold Hid; rw [HE.out, ChnP.pals_put, HP0.out.1]
        have HLf : Hid ((putA rs0 k (Mx, cy, x)).length = rs0.length) := ChnP.putA_len _ _ _
        have HLo : Hid ((.slice (some ⟨M0, 0, none⟩) rs0.length c0 : Value) = .slice (some ⟨M0, 0, none⟩) (putA rs0 k (Mx, cy, x)).length c0) := by unfold Hid; rw [HLf.out]
        clear hW5 e5 o4 x0 x1 x2 x3 c0' c1' c2' c3' f0 f1 f2 f3 HCu H3
  
        have o0 := HF.out.bo.cell 0
        have r0 := HF.out.br.cell 0
        have fr0 := HF.out.br.frozen 0
        have o1 := HF.out.bo.cell 1
        have r1 := HF.out.br.cell 1
        have fr1 := HF.out.br.frozen 1
        have o2 := HF.out.bo.cell 2
        have r2 := HF.out.br.cell 2
        have fr2 := HF.out.br.frozen 2
        have o3 := HF.out.bo.cell 3
        have r3 := HF.out.br.cell 3
        have fr3 := HF.out.br.frozen 3
        have o4 := HF.out.bo.cell 4
        have r4 := HF.out.br.cell 4
        have fr4 := HF.out.br.frozen 4
        simp at o0 r0 o1 r1 o2 r2 o3 r3 o4 r4
        have hno : Ob ≠ (w.heap.size + 1 + 1) := by have := HF.out.ord; omega
        go_wp2
        all_goals (
          have hR : Blk _ (w.heap.size + 1 + 1) #[.int .i64 n, .slice (some ⟨Ke, 0, none⟩) key.length kd, .int .i64 b, .int .i64 t, .slice (some ⟨M0, 0, none⟩) rs0.length c0] 53 := (((((HF.out.br.set 0 (.int .i64 n)).set 1 (.slice (some ⟨Ke, 0, none⟩) key.length kd)).set 2 (.int .i64 b)).set 3 (.int .i64 t)).set 4 (.slice (some ⟨M0, 0, none⟩) rs0.length c0))
          have s0 := hR.cell 0
          have s1 := hR.cell 1
          have s2 := hR.cell 2
          have s3 := hR.cell 3
          have s4 := hR.cell 4
          refine bodyPost_ret (v := .agg #[.int .i64 n, .slice (some ⟨Ke, 0, none⟩) key.length kd, .int .i64 b, .int .i64 t, .slice (some ⟨M0, 0, none⟩) rs0.length c0]) (by simp [results, Tryz.results36, go_sem, s0, s1, s2, s3, s4]) rfl ?_
          have hab := (DrawC.ab_under (DrawC.ab_under (DrawC.ab_under (DrawC.ab_under (DrawC.ab_under HF.out.ab (A := (w.heap.size + 1 + 1)) (by omega) 0 (.int .i64 n)) (A := (w.heap.size + 1 + 1)) (by omega) 1 (.slice (some ⟨Ke, 0, none⟩) key.length kd)) (A := (w.heap.size + 1 + 1)) (by omega) 2 (.int .i64 b)) (A := (w.heap.size + 1 + 1)) (by omega) 3 (.int .i64 t)) (A := (w.heap.size + 1 + 1)) (by omega) 4 (.slice (some ⟨M0, 0, none⟩) rs0.length c0))
          exact ⟨⟨Ke, kd, M0, c0, putA rs0 k (Mx, cy, x), by rw [HLf.out], ⟨((((((HF.out.key.set (R := (w.heap.size + 1 + 1)) (by have := HF.out.key.1; omega) 0 (.int .i64 n)).set (R := (w.heap.size + 1 + 1)) (by have := HF.out.key.1; omega) 1 (.slice (some ⟨Ke, 0, none⟩) key.length kd)).set (R := (w.heap.size + 1 + 1)) (by have := HF.out.key.1; omega) 2 (.int .i64 b)).set (R := (w.heap.size + 1 + 1)) (by have := HF.out.key.1; omega) 3 (.int .i64 t)).set (R := (w.heap.size + 1 + 1)) (by have := HF.out.key.1; omega) 4 (.slice (some ⟨M0, 0, none⟩) rs0.length c0))).down (by omega), AO.down (AB.ao hab) (by omega), HF.out.ne⟩, hab.down (by omega), HPf.out⟩, (set_low (set_low (set_low (set_low (set_low HF.out.below (M := (w.heap.size + 1 + 1)) (by omega) 0 (.int .i64 n)) (M := (w.heap.size + 1 + 1)) (by omega) 1 (.slice (some ⟨Ke, 0, none⟩) key.length kd)) (M := (w.heap.size + 1 + 1)) (by omega) 2 (.int .i64 b)) (M := (w.heap.size + 1 + 1)) (by omega) 3 (.int .i64 t)) (M := (w.heap.size + 1 + 1)) (by omega) 4 (.slice (some ⟨M0, 0, none⟩) rs0.length c0))⟩)
    · have hge : ¬ (k : Int) < (P.length : Int) := by omega
      have HMi : Hid (∀ j, j < P.length → (nthP P j).l ≠ x.l) := fun j hj => HU.out j (by omega)
      have HE : Hid (joinG P x = P.take (posG P x.l) ++ x :: P.drop (posG P x.l)) := join_miss HMi.out
      have hp4 := HM.out.bp.cell 4
      simp at hp4
      clear HU
      go_upto_region 10 with fail
      obtain ⟨W3, hW3⟩ : ∃ W3, wr = W3 := ⟨_, rfl⟩
      rw [hW3] at HM HBr hp4 ⊢
      clear hW3
      go_loopw [8] (fun i w' => ∃ k : Nat, i = .int .i64 k ∧ k ≤ P.length ∧ (∀ j, j < k → slB x.l (nthP P j).l = false) ∧ Below W3.heap.size W3 w') (fun i _ => P.length - (intOf i).toNat)
      case atStart => exact ⟨0, rfl, Nat.zero_le _, fun j hj => by omega, Below.refl _ _⟩
      case round =>
        clear hp4
        obtain ⟨q, rfl, hq, hu, hbr⟩ := hrel
        have HU : Hid (∀ j, j < q → slB x.l (nthP P j).l = false) := hu
        have HM2 : Hid (MidJ w #[.int .i64 n, .slice (some ⟨gk, ok, none⟩) key.length kc, .int .i64 b, .int .i64 t, .slice (some ⟨gl, ol, none⟩) P.length cap] #[.slice (some ⟨gx, ox, none⟩) x.l.length cx, .int .i64 x.s, .int .i64 x.e, .string x.n] #[.int .i64 n, .slice (some ⟨Ke, 0, none⟩) key.length kd, .int .i64 b, .int .i64 t, .slice (some ⟨M0, 0, none⟩) rs0.length c0] Ob Xb Ke key M0 c0 rs0 (Mx, cy, x) wr) := HM.out.grow hbr
        have HBr2 : Hid (Below W3.heap.size W3 wr) := hbr
        clear hu hbr
        have hpl := HM2.out.bp.lt
        have hql := HM2.out.bq.lt
        have hne := Grown.some wr
        have y4 := fun z : Grown wr => z.cell (p := ⟨w.heap.size, 4, none⟩) hpl (HM2.out.bp.cell 4)
        have y0 := fun z : Grown wr => z.cell (p := ⟨(w.heap.size + 1), 0, none⟩) hql (HM2.out.bq.cell 0)
        simp at y4 y0
        by_cases hqt : q < P.length
        · have bq : decide (q < P.length) = true := decide_eq_true hqt
          have hqt' : (q : Int) < (P.length : Int) := by omega
          obtain ⟨bb, off, eb, hbb, g, o, cp, hat⟩ := (HR.out.1.below HM2.out.below).get hqt
          have eg : gl = bb ∧ ol = off := by cases eb; exact ⟨rfl, rfl⟩
          obtain ⟨rfl, rfl⟩ := eg
          have x0 := fun z : Grown wr => z.cell hbb hat.c0
          have HCs : ∀ z : Grown wr, Hid (Calls Tryz.prog 66 #[.slice (some ⟨gx, ox, none⟩) x.l.length cx, .slice (some ⟨g, o, none⟩) (nthP P q).l.length cp] z.out fun e w' => e = .returned (.bool (slB x.l (nthP P q).l)) ∧ Below z.out.heap.size z.out w') := fun z => calls_drew (LabL.specLessS_any _ _ _ _ _ _ z.out (HX.out.below (grow_on HM2.out.below z.bel)) (hat.reads.below z.bel) (by unfold maxLen; omega) (by have := HR.out.2 q hqt; unfold maxLen; omega))
          clear hat
          cases hd : slB x.l (nthP P q).l with
          | false =>
            rw [hd] at HCs
            have HU1 : Hid (∀ j, j < q + 1 → slB x.l (nthP P j).l = false) := fun j hj => by
              by_cases e : j = q
              · subst e; exact hd
              · exact HU.out j (by omega)
            clear hd
            go_upto_region 10 with fail
            refine wp_over (z := wr) (by kernel_rfl) (by kernel_rfl) (Below.refl _ _) ?_
            repeat (go_big_quiet_step (first | (go_at_call 66; exact call_over (HCs _).out)))
            refine wpQuiet_nil ?_
            intro w3 hw3
            have hb3 := over_bel hw3
            clear hw3 hne
            go_wp2
            go_roundw
            case rel => exact ⟨q + 1, by go_num, by omega, HU1.out, grow_on HBr2.out hb3⟩
            case measure => simp [intOf]; omega
          | true =>
            rw [hd] at HCs
            have HQ : Hid (posG P x.l = q) := pos_at hqt HU.out hd
            clear hd
            go_upto_region 10 with fail
            refine wp_over (z := wr) (by kernel_rfl) (by kernel_rfl) (Below.refl _ _) ?_
            repeat (go_big_quiet_step (first | (go_at_call 66; exact call_over (HCs _).out)))
            refine wpQuiet_nil ?_
            intro z hz
            have HMz : Hid (MidJ w #[.int .i64 n, .slice (some ⟨gk, ok, none⟩) key.length kc, .int .i64 b, .int .i64 t, .slice (some ⟨gl, ol, none⟩) P.length cap] #[.slice (some ⟨gx, ox, none⟩) x.l.length cx, .int .i64 x.s, .int .i64 x.e, .string x.n] #[.int .i64 n, .slice (some ⟨Ke, 0, none⟩) key.length kd, .int .i64 b, .int .i64 t, .slice (some ⟨M0, 0, none⟩) rs0.length c0] Ob Xb Ke key M0 c0 rs0 (Mx, cy, x) z) := HM2.out.grow (over_bel hz)
            clear hz hne y4 y0 x0 HCs HM HM2 HBr HBr2 HMJ
            go_upto_region 12 with fail
            have hqc : (q : Int) ≤ (cap : Int) := by omega
            have hqn : (q : Int) ≤ (P.length : Int) := by omega
            have HS : Hid (∀ w', Below z.heap.size z w' → w'.cell? ⟨w.heap.size, 4, none⟩ = some (.slice (some ⟨gl, ol, none⟩) P.length cap) ∧ w'.cell? ⟨Xb, 0, none⟩ = some (.slice (some ⟨Mx, 0, none⟩) x.l.length cy) ∧ w'.cell? ⟨Xb, 1, none⟩ = some (.int .i64 x.s) ∧ w'.cell? ⟨Xb, 2, none⟩ = some (.int .i64 x.e) ∧ w'.cell? ⟨Xb, 3, none⟩ = some (.string x.n)) := fun w' h => ⟨(HMz.out.grow h).bp.cell 4, (HMz.out.grow h).bx.cell 0, (HMz.out.grow h).bx.cell 1, (HMz.out.grow h).bx.cell 2, (HMz.out.grow h).bx.cell 3⟩
            refine wp_region_held_drew (S := fun w' => w'.cell? ⟨w.heap.size, 4, none⟩ = some (.slice (some ⟨gl, ol, none⟩) P.length cap) ∧ w'.cell? ⟨Xb, 0, none⟩ = some (.slice (some ⟨Mx, 0, none⟩) x.l.length cy) ∧ w'.cell? ⟨Xb, 1, none⟩ = some (.int .i64 x.s) ∧ w'.cell? ⟨Xb, 2, none⟩ = some (.int .i64 x.e) ∧ w'.cell? ⟨Xb, 3, none⟩ = some (.string x.n)) (by kernel_rfl) (HS.out _ (Below.refl z.heap.size z).drew) (fun hHeld => ?_)
            refine tk 0 ⟨some 54, .fieldAddr 53 (.tmp 2) 4, 0, "l11_group.go:47", #[], none⟩ hHeld ?_
            try go_frame
            refine tk 1 ⟨some 55, .load 35 (.tmp 54), 35, "l11_group.go:47", #[⟨0, .data⟩], none⟩ hHeld ?_
            try go_frame
            refine tk 2 ⟨some 56, .move (.tmp 8), 3, "l11_group.go:47", #[], none⟩ hHeld ?_
            try go_frame
            refine tk 3 ⟨some 57, .slice 35 (.tmp 55) none (some (.tmp 56)) none, 35, "l11_group.go:47", #[⟨1, .data⟩, ⟨2, .data⟩], none⟩ hHeld ?_
            try go_frame
            refine tk 5 ⟨some 59, .load 27 (.tmp 6), 27, "l11_group.go:47", #[], none⟩ hHeld ?_
            try go_frame
            refine tk 8 ⟨some 62, .fieldAddr 53 (.tmp 2) 4, 0, "l11_group.go:47", #[], none⟩ hHeld ?_
            try go_frame
            refine tk 9 ⟨some 63, .load 35 (.tmp 62), 35, "l11_group.go:47", #[⟨8, .data⟩], none⟩ hHeld ?_
            try go_frame
            refine tk 10 ⟨some 64, .move (.tmp 8), 3, "l11_group.go:47", #[], none⟩ hHeld ?_
            try go_frame
            refine tk 11 ⟨some 65, .slice 35 (.tmp 63) (some (.tmp 64)) none none, 35, "l11_group.go:47", #[⟨9, .data⟩, ⟨10, .data⟩], none⟩ hHeld ?_
            try go_frame
            refine wpAnyH_ready (rs := [4, 6]) (by kernel_rfl) (by simp) ?_
            refine AllReadyH.cons (o := ⟨some 58, .call { callee := .value (.func 67), args := #[.tmp 57], argTypes := #[35] }, 35, "l11_group.go:47", #[⟨3, .data⟩], none⟩) rfl (fun K hK => ?_) ?_
            ·
              go_simp
              refine (l4All_take (gl := gl) (ol := ol) (cap := cap) (P := P) (k := q) (HR.out.1.below (grow_on HMz.out.below (Below.refl z.heap.size z).drew)) (by omega) hl HR.out.2).mono ?_
              rintro r wa ⟨⟨MA, cA, rA, rfl, hA, hP⟩, hb⟩
              have ZA : Hid (Below z.heap.size z wa) := grow_on (Below.refl z.heap.size z).drew hb
              have HA : Hid (AB z.heap.size wa MA cA rA ∧ pals rA = P.take q) := ⟨hA.down (Below.refl z.heap.size z).drew.size, hP⟩
              clear hA hP hb
              clear hHeld
              refine hK.out _ _ (HS.out _ (ZA.out)) (fun hHeld => ?_)
              clear hK K
              try go_frame
              refine rd1 6 ⟨some 60, .buildSlice 35 1 #[(0, .tmp 59)], 35, "l11_group.go:47", #[⟨5, .data⟩], none⟩ (fun K hK => ?_)
              go_simp
              clear hHeld
              refine hK.out _ _ (HS.out _ ((bel_alloc ZA.out (.cells #[.slice (some ⟨Mx, 0, none⟩) x.l.length cy, .int .i64 x.s, .int .i64 x.e, .string x.n] 27)))) (fun hHeld => ?_)
              clear hK K
              try go_frame
              refine rd1 7 ⟨some 61, .call { callee := .builtin .append, args := #[.tmp 58, .tmp 60], argTypes := #[35, 35] }, 35, "l11_group.go:47", #[⟨4, .data⟩, ⟨6, .data⟩, ⟨4, .chain⟩], none⟩ (fun K hK => ?_)
              have hoA := (HA.out.1.grow (Go.Joins.below_alloc1 wa (.cells #[.slice (some ⟨Mx, 0, none⟩) x.l.length cy, .int .i64 x.s, .int .i64 x.e, .string x.n] 27))).down (lo' := w.heap.size + 3) (by have := HMz.out.ord; omega)
              obtain ⟨xs, hox, hxl, hxs⟩ := hoA.own
              have hrl : rA.length ≤ 1048576 := by rw [← pals_len, HA.out.2]; simp; omega
              refine step_appB (by rfl) _ _ 35 (by rfl) 27 i0 _ 4 56 Tryz.underlying35 hi hz0 hz1 hz2 (by rfl) (by decide) (w.heap.size + 3) ?ha1 _ rA.length xs (by rfl) hox ⟨wa.heap.size, 0, none⟩ 1 1 (rowV (Mx, cy, x)) (by rfl) (by rfl) (blk_news (Blk.new wa _ _)) (row_one _) ?hb1 ?hc1 ?_
              case ha1 => have h1 := HMz.out.ord; have h2 := (bel_alloc ZA.out (.cells #[.slice (some ⟨Mx, 0, none⟩) x.l.length cy, .int .i64 x.s, .int .i64 x.e, .string x.n] 27)).size; omega
              case hb1 => unfold maxLen; omega
              case hc1 => omega
              intro v5 w5 hown hg hat
              obtain ⟨M5, c5, e5, hAB5⟩ := hoA.app ((HMz.out.grow (bel_alloc ZA.out (.cells #[.slice (some ⟨Mx, 0, none⟩) x.l.length cy, .int .i64 x.s, .int .i64 x.e, .string x.n] 27))).yo) (fun y hy => by have h1 := (HA.out.1.rows y hy).1; have h2 := HMz.out.yo.lt; show y.1 ≠ Mx; simp at h2; omega) hxl hxs hown hg
              subst e5
              have Z5 : Hid (Below z.heap.size z w5) := (bel_alloc ZA.out (.cells #[.slice (some ⟨Mx, 0, none⟩) x.l.length cy, .int .i64 x.s, .int .i64 x.e, .string x.n] 27)).grown hg (bel_alloc ZA.out (.cells #[.slice (some ⟨Mx, 0, none⟩) x.l.length cy, .int .i64 x.s, .int .i64 x.e, .string x.n] 27)).size (fun k e => by have h : MA = k := Option.some.inj e; have := HA.out.1.at'; omega)
              have H5 : Hid (AB (w.heap.size + 3) w5 M5 c5 (rA ++ [(Mx, cy, x)]) ∧ z.heap.size ≤ M5 ∧ M5 < w5.heap.size) := ⟨hAB5, by
                rcases hat with e | e
                · have h : M5 = MA := Option.some.inj e; have := HA.out.1.at'; omega
                · have h : M5 = _ := Option.some.inj e; have := (bel_alloc ZA.out (.cells #[.slice (some ⟨Mx, 0, none⟩) x.l.length cy, .int .i64 x.s, .int .i64 x.e, .string x.n] 27)).size; omega, hAB5.lt⟩
              have HR5 : Hid (pals (rA ++ [(Mx, cy, x)]) = P.take q ++ [x] ∧ (rA ++ [(Mx, cy, x)]).length = rA.length + 1) := ⟨by rw [pals_app, HA.out.2], by simp⟩
              clear hoA hox hxl hxs hown hg hat hAB5
              clear hHeld
              refine hK.out _ _ (HS.out _ (Z5.out)) (fun hHeld => ?_)
              clear hK K
              try go_frame
              refine rd1 12 ⟨some 66, .call { callee := .value (.func 67), args := #[.tmp 65], argTypes := #[35] }, 35, "l11_group.go:47", #[⟨11, .data⟩, ⟨7, .chain⟩], none⟩ (fun K hK => ?_)
              go_simp
              try rw [if_slice]
              refine (l4All_drop (gl := gl) (ol := ol) (cap := cap) (P := P) (k := q) (w := w5) (HR.out.1.below (grow_on HMz.out.below Z5.out)) hc1 (by omega) hl HR.out.2).mono ?_
              rintro r w6 ⟨⟨MB, cB, rB, rfl, hA, hP⟩, hb⟩
              have Z6 : Hid (Below z.heap.size z w6) := grow_on Z5.out hb
              have H6 : Hid (AB (w.heap.size + 3) w6 M5 c5 (rA ++ [(Mx, cy, x)]) ∧ AB w5.heap.size w6 MB cB rB ∧ pals rB = P.drop q) := ⟨H5.out.1.grow hb, hA, hP⟩
              clear hA hP hb
              clear hHeld
              refine hK.out _ _ (HS.out _ (Z6.out)) (fun hHeld => ?_)
              clear hK K
              try go_frame
              refine rd1 13 ⟨some 67, .call { callee := .builtin .append, args := #[.tmp 61, .tmp 66], argTypes := #[35, 35] }, 35, "l11_group.go:47", #[⟨7, .data⟩, ⟨12, .data⟩, ⟨12, .chain⟩], none⟩ (fun K hK => ?_)
              have hfl := Flt.AB.flat H6.out.1
              have hrl : rA.length + 1 ≤ 1048577 := by have : rA.length ≤ 1048576 := by (rw [← pals_len, HA.out.2]; simp; omega)
                                                       omega
              have hrb : rB.length ≤ 1048576 := by rw [← pals_len, H6.out.2.2]; simp; omega
              have h5l := HR5.out.2
              rw [h5l] at hfl
              refine step_appB (by rfl) _ _ 35 (by rfl) 27 i0 _ 4 56 Tryz.underlying35 hi hz0 hz1 hz2 (by rfl) (by decide) (w.heap.size + 3) ?ha2 _ (rA.length + 1) (flatA (rA ++ [(Mx, cy, x)])) (by rfl) hfl ⟨MB, 0, none⟩ rB.length cB (flatA rB) (by rfl) (flatA_len rB) (flatA_news H6.out.2.1) (flatA_one rB) ?hb2 ?hc2 ?_
              case ha2 => have h1 := HMz.out.ord; have h2 := Z6.out.size; omega
              case hb2 => unfold maxLen; omega
              case hc2 => omega
              intro v7 w7 hown hg hat
              rw [← h5l] at hown
              obtain ⟨M7, c7, e7, hAB7⟩ := app_rows H6.out.1 H6.out.2.1 (by have h1 := HMz.out.ord; have h2 := Z5.out.size; omega) (fun y hy => (H5.out.1.rows y hy).lt) (by rw [h5l]; omega) hown hg
              obtain ⟨rf, hrf⟩ : ∃ rf, (rA ++ [(Mx, cy, x)]) ++ rB = rf := ⟨_, rfl⟩
              rw [hrf] at e7 hAB7
              subst e7
              have Z7 : Hid (Below z.heap.size z w7) := Z6.out.grown hg Z6.out.size (fun k e => by have h : M5 = k := Option.some.inj e; have := H5.out.2.1; omega)
              have HM7 : Hid (z.heap.size ≤ M7) := by
                rcases hat with e | e
                · have h : M7 = M5 := Option.some.inj e; have := H5.out.2.1; show _ ≤ _; omega
                · have h : M7 = _ := Option.some.inj e; have := Z6.out.size; show _ ≤ _; omega
              have H7 : Hid (AB (w.heap.size + 3) w7 M7 c7 rf) := hAB7
              have HPf : Hid (pals ((rA ++ [(Mx, cy, x)]) ++ rB) = joinG P x) := by
                unfold Hid
                rw [HE.out, HQ.out]
                unfold pals at *
                rw [List.map_append]
                have h1 := HR5.out.1
                have h2 := H6.out.2.2
                unfold pals at h1 h2
                rw [h1, h2, List.append_assoc]; rfl
              have HN7 : Hid (¬ blks M7 ((rA ++ [(Mx, cy, x)]) ++ rB) Ke) := fun h => by
                have hk := HMz.out.key.lt
                have hm := HM7.out
                rcases h with e | ⟨y, hy, e⟩
                · omega
                · rcases List.mem_append.1 hy with hy | hy
                  · rcases List.mem_append.1 hy with hy | hy
                    · have := (HA.out.1.rows y hy).1; omega
                    · rw [List.mem_singleton.1 hy] at e; exact HMz.out.yn.2.1 e.symm
                  · have := (H6.out.2.1.rows y hy).1; have := Z5.out.size; omega
              rw [hrf] at HPf HN7
              clear hfl h5l hown hg hat hAB7 hrf
              clear hHeld
              refine hK.out _ _ (HS.out _ (Z7.out)) (fun hHeld => ?_)
              clear hK K
              try go_frame
              refine tk 14 ⟨some 68, .fieldAddr 53 (.tmp 5) 4, 0, "l11_group.go:47", #[⟨0, .phase⟩, ⟨1, .phase⟩, ⟨2, .phase⟩, ⟨3, .phase⟩, ⟨4, .phase⟩, ⟨5, .phase⟩, ⟨6, .phase⟩, ⟨7, .phase⟩, ⟨8, .phase⟩, ⟨9, .phase⟩, ⟨10, .phase⟩, ⟨11, .phase⟩, ⟨12, .phase⟩, ⟨13, .phase⟩], none⟩ hHeld ?_
              try go_frame
              refine rd1 15 ⟨none, .store 35 (.tmp 68) (.tmp 67), 0, "l11_group.go:47", #[⟨14, .data⟩, ⟨13, .data⟩, ⟨13, .chain⟩, ⟨0, .phase⟩, ⟨1, .phase⟩, ⟨2, .phase⟩, ⟨3, .phase⟩, ⟨4, .phase⟩, ⟨5, .phase⟩, ⟨6, .phase⟩, ⟨7, .phase⟩, ⟨8, .phase⟩, ⟨9, .phase⟩, ⟨10, .phase⟩, ⟨11, .phase⟩, ⟨12, .phase⟩, ⟨13, .phase⟩], none⟩ (fun K hK => ?_)
              have HM8 : Hid (MidJ w #[.int .i64 n, .slice (some ⟨gk, ok, none⟩) key.length kc, .int .i64 b, .int .i64 t, .slice (some ⟨gl, ol, none⟩) P.length cap] #[.slice (some ⟨gx, ox, none⟩) x.l.length cx, .int .i64 x.s, .int .i64 x.e, .string x.n] #[.int .i64 n, .slice (some ⟨Ke, 0, none⟩) key.length kd, .int .i64 b, .int .i64 t, .slice (some ⟨M0, 0, none⟩) rs0.length c0] Ob Xb Ke key M0 c0 rs0 (Mx, cy, x) w7) := HMz.out.grow Z7.out
              have o4 := HM8.out.bo.cell 4
              have fo4 := HM8.out.bo.frozen 4
              simp at o4
              go_simp
              clear o4 fo4 hHeld
              refine hK.out _ _ ⟨(HM8.out.bp.set_other (by have := HM8.out.ord; show Ob ≠ w.heap.size; omega) _).cell 4, (HM8.out.bx.set_other (by have := HM8.out.ord; show Ob ≠ Xb; omega) _).cell 0, (HM8.out.bx.set_other (by have := HM8.out.ord; show Ob ≠ Xb; omega) _).cell 1, (HM8.out.bx.set_other (by have := HM8.out.ord; show Ob ≠ Xb; omega) _).cell 2, (HM8.out.bx.set_other (by have := HM8.out.ord; show Ob ≠ Xb; omega) _).cell 3⟩ (fun hHeld => ?_)
              clear hK K
              try go_frame
              refine wpAnyH_done (by kernel_rfl) ?_ _
              clear hHeld
              have HM8 : Hid (MidJ w #[.int .i64 n, .slice (some ⟨gk, ok, none⟩) key.length kc, .int .i64 b, .int .i64 t, .slice (some ⟨gl, ol, none⟩) P.length cap] #[.slice (some ⟨gx, ox, none⟩) x.l.length cx, .int .i64 x.s, .int .i64 x.e, .string x.n] #[.int .i64 n, .slice (some ⟨Ke, 0, none⟩) key.length kd, .int .i64 b, .int .i64 t, .slice (some ⟨M0, 0, none⟩) rs0.length c0] Ob Xb Ke key M0 c0 rs0 (Mx, cy, x) w7) := HMz.out.grow Z7.out
              generalize hW9 : w7.setCell ⟨Ob, 4, none⟩ (.slice (some ⟨M7, 0, none⟩) rf.length c7) = W9
              have HF : Hid (FinJ w #[.int .i64 n, .slice (some ⟨Ke, 0, none⟩) key.length kd, .int .i64 b, .int .i64 t, .slice (some ⟨M7, 0, none⟩) rf.length c7] Ob Ke key M7 c7 rf W9) := by
                have ho := HM8.out.ord
                have hk1 := HM8.out.key.1
                have hkl1 := HM8.out.key.lt
                have hz := HM7.out
                have hxo := HMz.out.ord
                have hne : ∀ y ∈ rf, y.1 ≠ Ob := fun y hy e => by
                  obtain ⟨k0, k1, ds, k2, k3⟩ := H7.out.rows y hy
                  exact ne_blk k2 HM8.out.bo (by decide) e
                rw [← hW9]
                refine ⟨HM8.out.br.set_other (by show Ob ≠ (w.heap.size + 1 + 1); omega) _, HM8.out.bo.set 4 _, ho.1, ?_, ?_, HN7.out, set_low HM8.out.below (M := Ob) (by omega) _ _⟩
                · obtain ⟨k0, ds, k1, k2⟩ := HM8.out.key
                  exact ⟨k0, ds, k1.set_other (ne_blk HM8.out.bo k1 (by decide)) _, k2⟩
                · obtain ⟨cu, k1, k2⟩ := H7.out.outer
                  refine ⟨H7.out.at', H7.out.cap, ⟨cu, k1.set_other (by show Ob ≠ M7; omega) _, k2⟩, fun y hy => ?_, H7.out.ne⟩
                  obtain ⟨l0, l1, ds, l2, l3⟩ := H7.out.rows y hy
                  exact ⟨l0, l1, ds, l2.set_other (by show Ob ≠ y.1; exact (hne y hy).symm) _, l3⟩
              clear hW9 HM8 H7 H5 H6 HR5 HN7
              have o0 := HF.out.bo.cell 0
              have r0 := HF.out.br.cell 0
              have fr0 := HF.out.br.frozen 0
              have o1 := HF.out.bo.cell 1
              have r1 := HF.out.br.cell 1
              have fr1 := HF.out.br.frozen 1
              have o2 := HF.out.bo.cell 2
              have r2 := HF.out.br.cell 2
              have fr2 := HF.out.br.frozen 2
              have o3 := HF.out.bo.cell 3
              have r3 := HF.out.br.cell 3
              have fr3 := HF.out.br.frozen 3
              have o4 := HF.out.bo.cell 4
              have r4 := HF.out.br.cell 4
              have fr4 := HF.out.br.frozen 4
              simp at o0 r0 o1 r1 o2 r2 o3 r3 o4 r4
              have hno : Ob ≠ (w.heap.size + 1 + 1) := by have := HF.out.ord; omega
              go_wp2
              all_goals (
                have hR : Blk _ (w.heap.size + 1 + 1) #[.int .i64 n, .slice (some ⟨Ke, 0, none⟩) key.length kd, .int .i64 b, .int .i64 t, .slice (some ⟨M7, 0, none⟩) rf.length c7] 53 := (((((HF.out.br.set 0 (.int .i64 n)).set 1 (.slice (some ⟨Ke, 0, none⟩) key.length kd)).set 2 (.int .i64 b)).set 3 (.int .i64 t)).set 4 (.slice (some ⟨M7, 0, none⟩) rf.length c7))
                have s0 := hR.cell 0
                have s1 := hR.cell 1
                have s2 := hR.cell 2
                have s3 := hR.cell 3
                have s4 := hR.cell 4
                refine bodyPost_ret (v := .agg #[.int .i64 n, .slice (some ⟨Ke, 0, none⟩) key.length kd, .int .i64 b, .int .i64 t, .slice (some ⟨M7, 0, none⟩) rf.length c7]) (by simp [results, Tryz.results36, go_sem, s0, s1, s2, s3, s4]) rfl ?_
                have hab := (DrawC.ab_under (DrawC.ab_under (DrawC.ab_under (DrawC.ab_under (DrawC.ab_under HF.out.ab (A := (w.heap.size + 1 + 1)) (by omega) 0 (.int .i64 n)) (A := (w.heap.size + 1 + 1)) (by omega) 1 (.slice (some ⟨Ke, 0, none⟩) key.length kd)) (A := (w.heap.size + 1 + 1)) (by omega) 2 (.int .i64 b)) (A := (w.heap.size + 1 + 1)) (by omega) 3 (.int .i64 t)) (A := (w.heap.size + 1 + 1)) (by omega) 4 (.slice (some ⟨M7, 0, none⟩) rf.length c7))
                exact ⟨⟨Ke, kd, M7, c7, rf, rfl, ⟨((((((HF.out.key.set (R := (w.heap.size + 1 + 1)) (by have := HF.out.key.1; omega) 0 (.int .i64 n)).set (R := (w.heap.size + 1 + 1)) (by have := HF.out.key.1; omega) 1 (.slice (some ⟨Ke, 0, none⟩) key.length kd)).set (R := (w.heap.size + 1 + 1)) (by have := HF.out.key.1; omega) 2 (.int .i64 b)).set (R := (w.heap.size + 1 + 1)) (by have := HF.out.key.1; omega) 3 (.int .i64 t)).set (R := (w.heap.size + 1 + 1)) (by have := HF.out.key.1; omega) 4 (.slice (some ⟨M7, 0, none⟩) rf.length c7))).down (by omega), AO.down (AB.ao hab) (by omega), HF.out.ne⟩, hab.down (by omega), HPf.out⟩, (set_low (set_low (set_low (set_low (set_low HF.out.below (M := (w.heap.size + 1 + 1)) (by omega) 0 (.int .i64 n)) (M := (w.heap.size + 1 + 1)) (by omega) 1 (.slice (some ⟨Ke, 0, none⟩) key.length kd)) (M := (w.heap.size + 1 + 1)) (by omega) 2 (.int .i64 b)) (M := (w.heap.size + 1 + 1)) (by omega) 3 (.int .i64 t)) (M := (w.heap.size + 1 + 1)) (by omega) 4 (.slice (some ⟨M7, 0, none⟩) rf.length c7))⟩)
            refine AllReadyH.cons (o := ⟨some 60, .buildSlice 35 1 #[(0, .tmp 59)], 35, "l11_group.go:47", #[⟨5, .data⟩], none⟩) rfl (fun K hK => ?_) AllReadyH.nil
            go_simp
            clear hHeld
            refine hK.out _ _ (HS.out _ ((bel_alloc (Below.refl z.heap.size z).drew (.cells #[.slice (some ⟨Mx, 0, none⟩) x.l.length cy, .int .i64 x.s, .int .i64 x.e, .string x.n] 27)))) (fun hHeld => ?_)
            clear hK K
            try go_frame
            refine rd1 4 ⟨some 58, .call { callee := .value (.func 67), args := #[.tmp 57], argTypes := #[35] }, 35, "l11_group.go:47", #[⟨3, .data⟩], none⟩ (fun K hK => ?_)
            go_simp
            refine (l4All_take (gl := gl) (ol := ol) (cap := cap) (P := P) (k := q) (HR.out.1.below (grow_on HMz.out.below (bel_alloc (Below.refl z.heap.size z).drew (.cells #[.slice (some ⟨Mx, 0, none⟩) x.l.length cy, .int .i64 x.s, .int .i64 x.e, .string x.n] 27)))) (by omega) hl HR.out.2).mono ?_
            rintro r wa ⟨⟨MA, cA, rA, rfl, hA, hP⟩, hb⟩
            have ZA : Hid (Below z.heap.size z wa) := grow_on (bel_alloc (Below.refl z.heap.size z).drew (.cells #[.slice (some ⟨Mx, 0, none⟩) x.l.length cy, .int .i64 x.s, .int .i64 x.e, .string x.n] 27)) hb
            have HA : Hid (AB z.heap.size wa MA cA rA ∧ pals rA = P.take q) := ⟨hA.down (bel_alloc (Below.refl z.heap.size z).drew (.cells #[.slice (some ⟨Mx, 0, none⟩) x.l.length cy, .int .i64 x.s, .int .i64 x.e, .string x.n] 27)).size, hP⟩
            have NB : Hid (Blk wa z.heap.size #[.slice (some ⟨Mx, 0, none⟩) x.l.length cy, .int .i64 x.s, .int .i64 x.e, .string x.n] 27) := (Blk.new z.drew _ _).grow hb
            clear hA hP hb
            clear hHeld
            refine hK.out _ _ (HS.out _ (ZA.out)) (fun hHeld => ?_)
            clear hK K
            try go_frame
            refine rd1 7 ⟨some 61, .call { callee := .builtin .append, args := #[.tmp 58, .tmp 60], argTypes := #[35, 35] }, 35, "l11_group.go:47", #[⟨4, .data⟩, ⟨6, .data⟩, ⟨4, .chain⟩], none⟩ (fun K hK => ?_)
            have hoA := (HA.out.1.grow (Below.refl _ _)).down (lo' := w.heap.size + 3) (by have := HMz.out.ord; omega)
            obtain ⟨xs, hox, hxl, hxs⟩ := hoA.own
            have hrl : rA.length ≤ 1048576 := by rw [← pals_len, HA.out.2]; simp; omega
            refine step_appB (by rfl) _ _ 35 (by rfl) 27 i0 _ 4 56 Tryz.underlying35 hi hz0 hz1 hz2 (by rfl) (by decide) (w.heap.size + 3) ?ha3 _ rA.length xs (by rfl) hox ⟨z.heap.size, 0, none⟩ 1 1 (rowV (Mx, cy, x)) (by rfl) (by rfl) (blk_news (NB.out)) (row_one _) ?hb3 ?hc3 ?_
            case ha3 => have h1 := HMz.out.ord; have h2 := ZA.out.size; omega
            case hb3 => unfold maxLen; omega
            case hc3 => omega
            intro v5 w5 hown hg hat
            obtain ⟨M5, c5, e5, hAB5⟩ := hoA.app ((HMz.out.grow ZA.out).yo) (fun y hy => by have h1 := (HA.out.1.rows y hy).1; have h2 := HMz.out.yo.lt; show y.1 ≠ Mx; simp at h2; omega) hxl hxs hown hg
            subst e5
            have Z5 : Hid (Below z.heap.size z w5) := ZA.out.grown hg ZA.out.size (fun k e => by have h : MA = k := Option.some.inj e; have := HA.out.1.at'; omega)
            have H5 : Hid (AB (w.heap.size + 3) w5 M5 c5 (rA ++ [(Mx, cy, x)]) ∧ z.heap.size ≤ M5 ∧ M5 < w5.heap.size) := ⟨hAB5, by
              rcases hat with e | e
              · have h : M5 = MA := Option.some.inj e; have := HA.out.1.at'; omega
              · have h : M5 = _ := Option.some.inj e; have := ZA.out.size; omega, hAB5.lt⟩
            have HR5 : Hid (pals (rA ++ [(Mx, cy, x)]) = P.take q ++ [x] ∧ (rA ++ [(Mx, cy, x)]).length = rA.length + 1) := ⟨by rw [pals_app, HA.out.2], by simp⟩
            clear hoA hox hxl hxs hown hg hat hAB5
            clear hHeld
            refine hK.out _ _ (HS.out _ (Z5.out)) (fun hHeld => ?_)
            clear hK K
            try go_frame
            refine rd1 12 ⟨some 66, .call { callee := .value (.func 67), args := #[.tmp 65], argTypes := #[35] }, 35, "l11_group.go:47", #[⟨11, .data⟩, ⟨7, .chain⟩], none⟩ (fun K hK => ?_)
            go_simp
            try rw [if_slice]
            refine (l4All_drop (gl := gl) (ol := ol) (cap := cap) (P := P) (k := q) (w := w5) (HR.out.1.below (grow_on HMz.out.below Z5.out)) hc1 (by omega) hl HR.out.2).mono ?_
            rintro r w6 ⟨⟨MB, cB, rB, rfl, hA, hP⟩, hb⟩
            have Z6 : Hid (Below z.heap.size z w6) := grow_on Z5.out hb
            have H6 : Hid (AB (w.heap.size + 3) w6 M5 c5 (rA ++ [(Mx, cy, x)]) ∧ AB w5.heap.size w6 MB cB rB ∧ pals rB = P.drop q) := ⟨H5.out.1.grow hb, hA, hP⟩
            clear hA hP hb
            clear hHeld
            refine hK.out _ _ (HS.out _ (Z6.out)) (fun hHeld => ?_)
            clear hK K
            try go_frame
            refine rd1 13 ⟨some 67, .call { callee := .builtin .append, args := #[.tmp 61, .tmp 66], argTypes := #[35, 35] }, 35, "l11_group.go:47", #[⟨7, .data⟩, ⟨12, .data⟩, ⟨12, .chain⟩], none⟩ (fun K hK => ?_)
            have hfl := Flt.AB.flat H6.out.1
            have hrl : rA.length + 1 ≤ 1048577 := by have : rA.length ≤ 1048576 := by (rw [← pals_len, HA.out.2]; simp; omega)
                                                     omega
            have hrb : rB.length ≤ 1048576 := by rw [← pals_len, H6.out.2.2]; simp; omega
            have h5l := HR5.out.2
            rw [h5l] at hfl
            refine step_appB (by rfl) _ _ 35 (by rfl) 27 i0 _ 4 56 Tryz.underlying35 hi hz0 hz1 hz2 (by rfl) (by decide) (w.heap.size + 3) ?ha4 _ (rA.length + 1) (flatA (rA ++ [(Mx, cy, x)])) (by rfl) hfl ⟨MB, 0, none⟩ rB.length cB (flatA rB) (by rfl) (flatA_len rB) (flatA_news H6.out.2.1) (flatA_one rB) ?hb4 ?hc4 ?_
            case ha4 => have h1 := HMz.out.ord; have h2 := Z6.out.size; omega
            case hb4 => unfold maxLen; omega
            case hc4 => omega
            intro v7 w7 hown hg hat
            rw [← h5l] at hown
            obtain ⟨M7, c7, e7, hAB7⟩ := app_rows H6.out.1 H6.out.2.1 (by have h1 := HMz.out.ord; have h2 := Z5.out.size; omega) (fun y hy => (H5.out.1.rows y hy).lt) (by rw [h5l]; omega) hown hg
            obtain ⟨rf, hrf⟩ : ∃ rf, (rA ++ [(Mx, cy, x)]) ++ rB = rf := ⟨_, rfl⟩
            rw [hrf] at e7 hAB7
            subst e7
            have Z7 : Hid (Below z.heap.size z w7) := Z6.out.grown hg Z6.out.size (fun k e => by have h : M5 = k := Option.some.inj e; have := H5.out.2.1; omega)
            have HM7 : Hid (z.heap.size ≤ M7) := by
              rcases hat with e | e
              · have h : M7 = M5 := Option.some.inj e; have := H5.out.2.1; show _ ≤ _; omega
              · have h : M7 = _ := Option.some.inj e; have := Z6.out.size; show _ ≤ _; omega
            have H7 : Hid (AB (w.heap.size + 3) w7 M7 c7 rf) := hAB7
            have HPf : Hid (pals ((rA ++ [(Mx, cy, x)]) ++ rB) = joinG P x) := by
              unfold Hid
              rw [HE.out, HQ.out]
              unfold pals at *
              rw [List.map_append]
              have h1 := HR5.out.1
              have h2 := H6.out.2.2
              unfold pals at h1 h2
              rw [h1, h2, List.append_assoc]; rfl
            have HN7 : Hid (¬ blks M7 ((rA ++ [(Mx, cy, x)]) ++ rB) Ke) := fun h => by
              have hk := HMz.out.key.lt
              have hm := HM7.out
              rcases h with e | ⟨y, hy, e⟩
              · omega
              · rcases List.mem_append.1 hy with hy | hy
                · rcases List.mem_append.1 hy with hy | hy
                  · have := (HA.out.1.rows y hy).1; omega
                  · rw [List.mem_singleton.1 hy] at e; exact HMz.out.yn.2.1 e.symm
                · have := (H6.out.2.1.rows y hy).1; have := Z5.out.size; omega
            rw [hrf] at HPf HN7
            clear hfl h5l hown hg hat hAB7 hrf
            clear hHeld
            refine hK.out _ _ (HS.out _ (Z7.out)) (fun hHeld => ?_)
            clear hK K
            try go_frame
            refine tk 14 ⟨some 68, .fieldAddr 53 (.tmp 5) 4, 0, "l11_group.go:47", #[⟨0, .phase⟩, ⟨1, .phase⟩, ⟨2, .phase⟩, ⟨3, .phase⟩, ⟨4, .phase⟩, ⟨5, .phase⟩, ⟨6, .phase⟩, ⟨7, .phase⟩, ⟨8, .phase⟩, ⟨9, .phase⟩, ⟨10, .phase⟩, ⟨11, .phase⟩, ⟨12, .phase⟩, ⟨13, .phase⟩], none⟩ hHeld ?_
            try go_frame
            refine rd1 15 ⟨none, .store 35 (.tmp 68) (.tmp 67), 0, "l11_group.go:47", #[⟨14, .data⟩, ⟨13, .data⟩, ⟨13, .chain⟩, ⟨0, .phase⟩, ⟨1, .phase⟩, ⟨2, .phase⟩, ⟨3, .phase⟩, ⟨4, .phase⟩, ⟨5, .phase⟩, ⟨6, .phase⟩, ⟨7, .phase⟩, ⟨8, .phase⟩, ⟨9, .phase⟩, ⟨10, .phase⟩, ⟨11, .phase⟩, ⟨12, .phase⟩, ⟨13, .phase⟩], none⟩ (fun K hK => ?_)
            have HM8 : Hid (MidJ w #[.int .i64 n, .slice (some ⟨gk, ok, none⟩) key.length kc, .int .i64 b, .int .i64 t, .slice (some ⟨gl, ol, none⟩) P.length cap] #[.slice (some ⟨gx, ox, none⟩) x.l.length cx, .int .i64 x.s, .int .i64 x.e, .string x.n] #[.int .i64 n, .slice (some ⟨Ke, 0, none⟩) key.length kd, .int .i64 b, .int .i64 t, .slice (some ⟨M0, 0, none⟩) rs0.length c0] Ob Xb Ke key M0 c0 rs0 (Mx, cy, x) w7) := HMz.out.grow Z7.out
            have o4 := HM8.out.bo.cell 4
            have fo4 := HM8.out.bo.frozen 4
            simp at o4
            go_simp
            clear o4 fo4 hHeld
            refine hK.out _ _ ⟨(HM8.out.bp.set_other (by have := HM8.out.ord; show Ob ≠ w.heap.size; omega) _).cell 4, (HM8.out.bx.set_other (by have := HM8.out.ord; show Ob ≠ Xb; omega) _).cell 0, (HM8.out.bx.set_other (by have := HM8.out.ord; show Ob ≠ Xb; omega) _).cell 1, (HM8.out.bx.set_other (by have := HM8.out.ord; show Ob ≠ Xb; omega) _).cell 2, (HM8.out.bx.set_other (by have := HM8.out.ord; show Ob ≠ Xb; omega) _).cell 3⟩ (fun hHeld => ?_)
            clear hK K
            try go_frame
            refine wpAnyH_done (by kernel_rfl) ?_ _
            clear hHeld
            have HM8 : Hid (MidJ w #[.int .i64 n, .slice (some ⟨gk, ok, none⟩) key.length kc, .int .i64 b, .int .i64 t, .slice (some ⟨gl, ol, none⟩) P.length cap] #[.slice (some ⟨gx, ox, none⟩) x.l.length cx, .int .i64 x.s, .int .i64 x.e, .string x.n] #[.int .i64 n, .slice (some ⟨Ke, 0, none⟩) key.length kd, .int .i64 b, .int .i64 t, .slice (some ⟨M0, 0, none⟩) rs0.length c0] Ob Xb Ke key M0 c0 rs0 (Mx, cy, x) w7) := HMz.out.grow Z7.out
            generalize hW9 : w7.setCell ⟨Ob, 4, none⟩ (.slice (some ⟨M7, 0, none⟩) rf.length c7) = W9
            have HF : Hid (FinJ w #[.int .i64 n, .slice (some ⟨Ke, 0, none⟩) key.length kd, .int .i64 b, .int .i64 t, .slice (some ⟨M7, 0, none⟩) rf.length c7] Ob Ke key M7 c7 rf W9) := by
              have ho := HM8.out.ord
              have hk1 := HM8.out.key.1
              have hkl1 := HM8.out.key.lt
              have hz := HM7.out
              have hxo := HMz.out.ord
              have hne : ∀ y ∈ rf, y.1 ≠ Ob := fun y hy e => by
                obtain ⟨k0, k1, ds, k2, k3⟩ := H7.out.rows y hy
                exact ne_blk k2 HM8.out.bo (by decide) e
              rw [← hW9]
              refine ⟨HM8.out.br.set_other (by show Ob ≠ (w.heap.size + 1 + 1); omega) _, HM8.out.bo.set 4 _, ho.1, ?_, ?_, HN7.out, set_low HM8.out.below (M := Ob) (by omega) _ _⟩
              · obtain ⟨k0, ds, k1, k2⟩ := HM8.out.key
                exact ⟨k0, ds, k1.set_other (ne_blk HM8.out.bo k1 (by decide)) _, k2⟩
              · obtain ⟨cu, k1, k2⟩ := H7.out.outer
                refine ⟨H7.out.at', H7.out.cap, ⟨cu, k1.set_other (by show Ob ≠ M7; omega) _, k2⟩, fun y hy => ?_, H7.out.ne⟩
                obtain ⟨l0, l1, ds, l2, l3⟩ := H7.out.rows y hy
                exact ⟨l0, l1, ds, l2.set_other (by show Ob ≠ y.1; exact (hne y hy).symm) _, l3⟩
            clear hW9 HM8 H7 H5 H6 HR5 HN7
            have o0 := HF.out.bo.cell 0
            have r0 := HF.out.br.cell 0
            have fr0 := HF.out.br.frozen 0
            have o1 := HF.out.bo.cell 1
            have r1 := HF.out.br.cell 1
            have fr1 := HF.out.br.frozen 1
            have o2 := HF.out.bo.cell 2
            have r2 := HF.out.br.cell 2
            have fr2 := HF.out.br.frozen 2
            have o3 := HF.out.bo.cell 3
            have r3 := HF.out.br.cell 3
            have fr3 := HF.out.br.frozen 3
            have o4 := HF.out.bo.cell 4
            have r4 := HF.out.br.cell 4
            have fr4 := HF.out.br.frozen 4
            simp at o0 r0 o1 r1 o2 r2 o3 r3 o4 r4
            have hno : Ob ≠ (w.heap.size + 1 + 1) := by have := HF.out.ord; omega
            go_wp2
            all_goals (
              have hR : Blk _ (w.heap.size + 1 + 1) #[.int .i64 n, .slice (some ⟨Ke, 0, none⟩) key.length kd, .int .i64 b, .int .i64 t, .slice (some ⟨M7, 0, none⟩) rf.length c7] 53 := (((((HF.out.br.set 0 (.int .i64 n)).set 1 (.slice (some ⟨Ke, 0, none⟩) key.length kd)).set 2 (.int .i64 b)).set 3 (.int .i64 t)).set 4 (.slice (some ⟨M7, 0, none⟩) rf.length c7))
              have s0 := hR.cell 0
              have s1 := hR.cell 1
              have s2 := hR.cell 2
              have s3 := hR.cell 3
              have s4 := hR.cell 4
              refine bodyPost_ret (v := .agg #[.int .i64 n, .slice (some ⟨Ke, 0, none⟩) key.length kd, .int .i64 b, .int .i64 t, .slice (some ⟨M7, 0, none⟩) rf.length c7]) (by simp [results, Tryz.results36, go_sem, s0, s1, s2, s3, s4]) rfl ?_
              have hab := (DrawC.ab_under (DrawC.ab_under (DrawC.ab_under (DrawC.ab_under (DrawC.ab_under HF.out.ab (A := (w.heap.size + 1 + 1)) (by omega) 0 (.int .i64 n)) (A := (w.heap.size + 1 + 1)) (by omega) 1 (.slice (some ⟨Ke, 0, none⟩) key.length kd)) (A := (w.heap.size + 1 + 1)) (by omega) 2 (.int .i64 b)) (A := (w.heap.size + 1 + 1)) (by omega) 3 (.int .i64 t)) (A := (w.heap.size + 1 + 1)) (by omega) 4 (.slice (some ⟨M7, 0, none⟩) rf.length c7))
              exact ⟨⟨Ke, kd, M7, c7, rf, rfl, ⟨((((((HF.out.key.set (R := (w.heap.size + 1 + 1)) (by have := HF.out.key.1; omega) 0 (.int .i64 n)).set (R := (w.heap.size + 1 + 1)) (by have := HF.out.key.1; omega) 1 (.slice (some ⟨Ke, 0, none⟩) key.length kd)).set (R := (w.heap.size + 1 + 1)) (by have := HF.out.key.1; omega) 2 (.int .i64 b)).set (R := (w.heap.size + 1 + 1)) (by have := HF.out.key.1; omega) 3 (.int .i64 t)).set (R := (w.heap.size + 1 + 1)) (by have := HF.out.key.1; omega) 4 (.slice (some ⟨M7, 0, none⟩) rf.length c7))).down (by omega), AO.down (AB.ao hab) (by omega), HF.out.ne⟩, hab.down (by omega), HPf.out⟩, (set_low (set_low (set_low (set_low (set_low HF.out.below (M := (w.heap.size + 1 + 1)) (by omega) 0 (.int .i64 n)) (M := (w.heap.size + 1 + 1)) (by omega) 1 (.slice (some ⟨Ke, 0, none⟩) key.length kd)) (M := (w.heap.size + 1 + 1)) (by omega) 2 (.int .i64 b)) (M := (w.heap.size + 1 + 1)) (by omega) 3 (.int .i64 t)) (M := (w.heap.size + 1 + 1)) (by omega) 4 (.slice (some ⟨M7, 0, none⟩) rf.length c7))⟩)
        · have bq : decide (q < P.length) = false := decide_eq_false hqt
          have HQ : Hid (posG P x.l = q) := by
            have e : q = P.length := by omega
            rw [e]
            exact pos_end (fun j hj => HU.out j (by omega))
          have hql2 : ¬ (q : Int) < (P.length : Int) := by omega
          have hp4 := HM2.out.bp.cell 4
          simp at hp4
          clear hqt
          go_upto_region 10 with fail
          refine wp_over (z := wr) (by kernel_rfl) (by kernel_rfl) (Below.refl _ _) ?_
          repeat (go_big_quiet_step (fail))
          refine wpQuiet_nil ?_
          intro z hz
          have HMz : Hid (MidJ w #[.int .i64 n, .slice (some ⟨gk, ok, none⟩) key.length kc, .int .i64 b, .int .i64 t, .slice (some ⟨gl, ol, none⟩) P.length cap] #[.slice (some ⟨gx, ox, none⟩) x.l.length cx, .int .i64 x.s, .int .i64 x.e, .string x.n] #[.int .i64 n, .slice (some ⟨Ke, 0, none⟩) key.length kd, .int .i64 b, .int .i64 t, .slice (some ⟨M0, 0, none⟩) rs0.length c0] Ob Xb Ke key M0 c0 rs0 (Mx, cy, x) z) := HM2.out.grow (over_bel hz)
          clear hz hne y4 y0 HM HM2 HBr HBr2 HMJ hp4 hql2
          go_upto_region 12 with fail
          have hqc : (q : Int) ≤ (cap : Int) := by omega
          have hqn : (q : Int) ≤ (P.length : Int) := by omega
          have HS : Hid (∀ w', Below z.heap.size z w' → w'.cell? ⟨w.heap.size, 4, none⟩ = some (.slice (some ⟨gl, ol, none⟩) P.length cap) ∧ w'.cell? ⟨Xb, 0, none⟩ = some (.slice (some ⟨Mx, 0, none⟩) x.l.length cy) ∧ w'.cell? ⟨Xb, 1, none⟩ = some (.int .i64 x.s) ∧ w'.cell? ⟨Xb, 2, none⟩ = some (.int .i64 x.e) ∧ w'.cell? ⟨Xb, 3, none⟩ = some (.string x.n)) := fun w' h => ⟨(HMz.out.grow h).bp.cell 4, (HMz.out.grow h).bx.cell 0, (HMz.out.grow h).bx.cell 1, (HMz.out.grow h).bx.cell 2, (HMz.out.grow h).bx.cell 3⟩
          refine wp_region_held_drew (S := fun w' => w'.cell? ⟨w.heap.size, 4, none⟩ = some (.slice (some ⟨gl, ol, none⟩) P.length cap) ∧ w'.cell? ⟨Xb, 0, none⟩ = some (.slice (some ⟨Mx, 0, none⟩) x.l.length cy) ∧ w'.cell? ⟨Xb, 1, none⟩ = some (.int .i64 x.s) ∧ w'.cell? ⟨Xb, 2, none⟩ = some (.int .i64 x.e) ∧ w'.cell? ⟨Xb, 3, none⟩ = some (.string x.n)) (by kernel_rfl) (HS.out _ (Below.refl z.heap.size z).drew) (fun hHeld => ?_)
          refine tk 0 ⟨some 54, .fieldAddr 53 (.tmp 2) 4, 0, "l11_group.go:47", #[], none⟩ hHeld ?_
          try go_frame
          refine tk 1 ⟨some 55, .load 35 (.tmp 54), 35, "l11_group.go:47", #[⟨0, .data⟩], none⟩ hHeld ?_
          try go_frame
          refine tk 2 ⟨some 56, .move (.tmp 8), 3, "l11_group.go:47", #[], none⟩ hHeld ?_
          try go_frame
          refine tk 3 ⟨some 57, .slice 35 (.tmp 55) none (some (.tmp 56)) none, 35, "l11_group.go:47", #[⟨1, .data⟩, ⟨2, .data⟩], none⟩ hHeld ?_
          try go_frame
          refine tk 5 ⟨some 59, .load 27 (.tmp 6), 27, "l11_group.go:47", #[], none⟩ hHeld ?_
          try go_frame
          refine tk 8 ⟨some 62, .fieldAddr 53 (.tmp 2) 4, 0, "l11_group.go:47", #[], none⟩ hHeld ?_
          try go_frame
          refine tk 9 ⟨some 63, .load 35 (.tmp 62), 35, "l11_group.go:47", #[⟨8, .data⟩], none⟩ hHeld ?_
          try go_frame
          refine tk 10 ⟨some 64, .move (.tmp 8), 3, "l11_group.go:47", #[], none⟩ hHeld ?_
          try go_frame
          refine tk 11 ⟨some 65, .slice 35 (.tmp 63) (some (.tmp 64)) none none, 35, "l11_group.go:47", #[⟨9, .data⟩, ⟨10, .data⟩], none⟩ hHeld ?_
          try go_frame
          refine wpAnyH_ready (rs := [4, 6]) (by kernel_rfl) (by simp) ?_
          refine AllReadyH.cons (o := ⟨some 58, .call { callee := .value (.func 67), args := #[.tmp 57], argTypes := #[35] }, 35, "l11_group.go:47", #[⟨3, .data⟩], none⟩) rfl (fun K hK => ?_) ?_
          ·
            go_simp
            refine (l4All_take (gl := gl) (ol := ol) (cap := cap) (P := P) (k := q) (HR.out.1.below (grow_on HMz.out.below (Below.refl z.heap.size z).drew)) (by omega) hl HR.out.2).mono ?_
            rintro r wa ⟨⟨MA, cA, rA, rfl, hA, hP⟩, hb⟩
            have ZA : Hid (Below z.heap.size z wa) := grow_on (Below.refl z.heap.size z).drew hb
            have HA : Hid (AB z.heap.size wa MA cA rA ∧ pals rA = P.take q) := ⟨hA.down (Below.refl z.heap.size z).drew.size, hP⟩
            clear hA hP hb
            clear hHeld
            refine hK.out _ _ (HS.out _ (ZA.out)) (fun hHeld => ?_)
            clear hK K
            try go_frame
            refine rd1 6 ⟨some 60, .buildSlice 35 1 #[(0, .tmp 59)], 35, "l11_group.go:47", #[⟨5, .data⟩], none⟩ (fun K hK => ?_)
            go_simp
            clear hHeld
            refine hK.out _ _ (HS.out _ ((bel_alloc ZA.out (.cells #[.slice (some ⟨Mx, 0, none⟩) x.l.length cy, .int .i64 x.s, .int .i64 x.e, .string x.n] 27)))) (fun hHeld => ?_)
            clear hK K
            try go_frame
            refine rd1 7 ⟨some 61, .call { callee := .builtin .append, args := #[.tmp 58, .tmp 60], argTypes := #[35, 35] }, 35, "l11_group.go:47", #[⟨4, .data⟩, ⟨6, .data⟩, ⟨4, .chain⟩], none⟩ (fun K hK => ?_)
            have hoA := (HA.out.1.grow (Go.Joins.below_alloc1 wa (.cells #[.slice (some ⟨Mx, 0, none⟩) x.l.length cy, .int .i64 x.s, .int .i64 x.e, .string x.n] 27))).down (lo' := w.heap.size + 3) (by have := HMz.out.ord; omega)
            obtain ⟨xs, hox, hxl, hxs⟩ := hoA.own
            have hrl : rA.length ≤ 1048576 := by rw [← pals_len, HA.out.2]; simp; omega
            refine step_appB (by rfl) _ _ 35 (by rfl) 27 i0 _ 4 56 Tryz.underlying35 hi hz0 hz1 hz2 (by rfl) (by decide) (w.heap.size + 3) ?ha5 _ rA.length xs (by rfl) hox ⟨wa.heap.size, 0, none⟩ 1 1 (rowV (Mx, cy, x)) (by rfl) (by rfl) (blk_news (Blk.new wa _ _)) (row_one _) ?hb5 ?hc5 ?_
            case ha5 => have h1 := HMz.out.ord; have h2 := (bel_alloc ZA.out (.cells #[.slice (some ⟨Mx, 0, none⟩) x.l.length cy, .int .i64 x.s, .int .i64 x.e, .string x.n] 27)).size; omega
            case hb5 => unfold maxLen; omega
            case hc5 => omega
            intro v5 w5 hown hg hat
            obtain ⟨M5, c5, e5, hAB5⟩ := hoA.app ((HMz.out.grow (bel_alloc ZA.out (.cells #[.slice (some ⟨Mx, 0, none⟩) x.l.length cy, .int .i64 x.s, .int .i64 x.e, .string x.n] 27))).yo) (fun y hy => by have h1 := (HA.out.1.rows y hy).1; have h2 := HMz.out.yo.lt; show y.1 ≠ Mx; simp at h2; omega) hxl hxs hown hg
            subst e5
            have Z5 : Hid (Below z.heap.size z w5) := (bel_alloc ZA.out (.cells #[.slice (some ⟨Mx, 0, none⟩) x.l.length cy, .int .i64 x.s, .int .i64 x.e, .string x.n] 27)).grown hg (bel_alloc ZA.out (.cells #[.slice (some ⟨Mx, 0, none⟩) x.l.length cy, .int .i64 x.s, .int .i64 x.e, .string x.n] 27)).size (fun k e => by have h : MA = k := Option.some.inj e; have := HA.out.1.at'; omega)
            have H5 : Hid (AB (w.heap.size + 3) w5 M5 c5 (rA ++ [(Mx, cy, x)]) ∧ z.heap.size ≤ M5 ∧ M5 < w5.heap.size) := ⟨hAB5, by
              rcases hat with e | e
              · have h : M5 = MA := Option.some.inj e; have := HA.out.1.at'; omega
              · have h : M5 = _ := Option.some.inj e; have := (bel_alloc ZA.out (.cells #[.slice (some ⟨Mx, 0, none⟩) x.l.length cy, .int .i64 x.s, .int .i64 x.e, .string x.n] 27)).size; omega, hAB5.lt⟩
            have HR5 : Hid (pals (rA ++ [(Mx, cy, x)]) = P.take q ++ [x] ∧ (rA ++ [(Mx, cy, x)]).length = rA.length + 1) := ⟨by rw [pals_app, HA.out.2], by simp⟩
            clear hoA hox hxl hxs hown hg hat hAB5
            clear hHeld
            refine hK.out _ _ (HS.out _ (Z5.out)) (fun hHeld => ?_)
            clear hK K
            try go_frame
            refine rd1 12 ⟨some 66, .call { callee := .value (.func 67), args := #[.tmp 65], argTypes := #[35] }, 35, "l11_group.go:47", #[⟨11, .data⟩, ⟨7, .chain⟩], none⟩ (fun K hK => ?_)
            go_simp
            try rw [if_slice]
            refine (l4All_drop (gl := gl) (ol := ol) (cap := cap) (P := P) (k := q) (w := w5) (HR.out.1.below (grow_on HMz.out.below Z5.out)) hc1 (by omega) hl HR.out.2).mono ?_
            rintro r w6 ⟨⟨MB, cB, rB, rfl, hA, hP⟩, hb⟩
            have Z6 : Hid (Below z.heap.size z w6) := grow_on Z5.out hb
            have H6 : Hid (AB (w.heap.size + 3) w6 M5 c5 (rA ++ [(Mx, cy, x)]) ∧ AB w5.heap.size w6 MB cB rB ∧ pals rB = P.drop q) := ⟨H5.out.1.grow hb, hA, hP⟩
            clear hA hP hb
            clear hHeld
            refine hK.out _ _ (HS.out _ (Z6.out)) (fun hHeld => ?_)
            clear hK K
            try go_frame
            refine rd1 13 ⟨some 67, .call { callee := .builtin .append, args := #[.tmp 61, .tmp 66], argTypes := #[35, 35] }, 35, "l11_group.go:47", #[⟨7, .data⟩, ⟨12, .data⟩, ⟨12, .chain⟩], none⟩ (fun K hK => ?_)
            have hfl := Flt.AB.flat H6.out.1
            have hrl : rA.length + 1 ≤ 1048577 := by have : rA.length ≤ 1048576 := by (rw [← pals_len, HA.out.2]; simp; omega)
                                                     omega
            have hrb : rB.length ≤ 1048576 := by rw [← pals_len, H6.out.2.2]; simp; omega
            have h5l := HR5.out.2
            rw [h5l] at hfl
            refine step_appB (by rfl) _ _ 35 (by rfl) 27 i0 _ 4 56 Tryz.underlying35 hi hz0 hz1 hz2 (by rfl) (by decide) (w.heap.size + 3) ?ha6 _ (rA.length + 1) (flatA (rA ++ [(Mx, cy, x)])) (by rfl) hfl ⟨MB, 0, none⟩ rB.length cB (flatA rB) (by rfl) (flatA_len rB) (flatA_news H6.out.2.1) (flatA_one rB) ?hb6 ?hc6 ?_
            case ha6 => have h1 := HMz.out.ord; have h2 := Z6.out.size; omega
            case hb6 => unfold maxLen; omega
            case hc6 => omega
            intro v7 w7 hown hg hat
            rw [← h5l] at hown
            obtain ⟨M7, c7, e7, hAB7⟩ := app_rows H6.out.1 H6.out.2.1 (by have h1 := HMz.out.ord; have h2 := Z5.out.size; omega) (fun y hy => (H5.out.1.rows y hy).lt) (by rw [h5l]; omega) hown hg
            obtain ⟨rf, hrf⟩ : ∃ rf, (rA ++ [(Mx, cy, x)]) ++ rB = rf := ⟨_, rfl⟩
            rw [hrf] at e7 hAB7
            subst e7
            have Z7 : Hid (Below z.heap.size z w7) := Z6.out.grown hg Z6.out.size (fun k e => by have h : M5 = k := Option.some.inj e; have := H5.out.2.1; omega)
            have HM7 : Hid (z.heap.size ≤ M7) := by
              rcases hat with e | e
              · have h : M7 = M5 := Option.some.inj e; have := H5.out.2.1; show _ ≤ _; omega
              · have h : M7 = _ := Option.some.inj e; have := Z6.out.size; show _ ≤ _; omega
            have H7 : Hid (AB (w.heap.size + 3) w7 M7 c7 rf) := hAB7
            have HPf : Hid (pals ((rA ++ [(Mx, cy, x)]) ++ rB) = joinG P x) := by
              unfold Hid
              rw [HE.out, HQ.out]
              unfold pals at *
              rw [List.map_append]
              have h1 := HR5.out.1
              have h2 := H6.out.2.2
              unfold pals at h1 h2
              rw [h1, h2, List.append_assoc]; rfl
            have HN7 : Hid (¬ blks M7 ((rA ++ [(Mx, cy, x)]) ++ rB) Ke) := fun h => by
              have hk := HMz.out.key.lt
              have hm := HM7.out
              rcases h with e | ⟨y, hy, e⟩
              · omega
              · rcases List.mem_append.1 hy with hy | hy
                · rcases List.mem_append.1 hy with hy | hy
                  · have := (HA.out.1.rows y hy).1; omega
                  · rw [List.mem_singleton.1 hy] at e; exact HMz.out.yn.2.1 e.symm
                · have := (H6.out.2.1.rows y hy).1; have := Z5.out.size; omega
            rw [hrf] at HPf HN7
            clear hfl h5l hown hg hat hAB7 hrf
            clear hHeld
            refine hK.out _ _ (HS.out _ (Z7.out)) (fun hHeld => ?_)
            clear hK K
            try go_frame
            refine tk 14 ⟨some 68, .fieldAddr 53 (.tmp 5) 4, 0, "l11_group.go:47", #[⟨0, .phase⟩, ⟨1, .phase⟩, ⟨2, .phase⟩, ⟨3, .phase⟩, ⟨4, .phase⟩, ⟨5, .phase⟩, ⟨6, .phase⟩, ⟨7, .phase⟩, ⟨8, .phase⟩, ⟨9, .phase⟩, ⟨10, .phase⟩, ⟨11, .phase⟩, ⟨12, .phase⟩, ⟨13, .phase⟩], none⟩ hHeld ?_
            try go_frame
            refine rd1 15 ⟨none, .store 35 (.tmp 68) (.tmp 67), 0, "l11_group.go:47", #[⟨14, .data⟩, ⟨13, .data⟩, ⟨13, .chain⟩, ⟨0, .phase⟩, ⟨1, .phase⟩, ⟨2, .phase⟩, ⟨3, .phase⟩, ⟨4, .phase⟩, ⟨5, .phase⟩, ⟨6, .phase⟩, ⟨7, .phase⟩, ⟨8, .phase⟩, ⟨9, .phase⟩, ⟨10, .phase⟩, ⟨11, .phase⟩, ⟨12, .phase⟩, ⟨13, .phase⟩], none⟩ (fun K hK => ?_)
            have HM8 : Hid (MidJ w #[.int .i64 n, .slice (some ⟨gk, ok, none⟩) key.length kc, .int .i64 b, .int .i64 t, .slice (some ⟨gl, ol, none⟩) P.length cap] #[.slice (some ⟨gx, ox, none⟩) x.l.length cx, .int .i64 x.s, .int .i64 x.e, .string x.n] #[.int .i64 n, .slice (some ⟨Ke, 0, none⟩) key.length kd, .int .i64 b, .int .i64 t, .slice (some ⟨M0, 0, none⟩) rs0.length c0] Ob Xb Ke key M0 c0 rs0 (Mx, cy, x) w7) := HMz.out.grow Z7.out
            have o4 := HM8.out.bo.cell 4
            have fo4 := HM8.out.bo.frozen 4
            simp at o4
            go_simp
            clear o4 fo4 hHeld
            refine hK.out _ _ ⟨(HM8.out.bp.set_other (by have := HM8.out.ord; show Ob ≠ w.heap.size; omega) _).cell 4, (HM8.out.bx.set_other (by have := HM8.out.ord; show Ob ≠ Xb; omega) _).cell 0, (HM8.out.bx.set_other (by have := HM8.out.ord; show Ob ≠ Xb; omega) _).cell 1, (HM8.out.bx.set_other (by have := HM8.out.ord; show Ob ≠ Xb; omega) _).cell 2, (HM8.out.bx.set_other (by have := HM8.out.ord; show Ob ≠ Xb; omega) _).cell 3⟩ (fun hHeld => ?_)
            clear hK K
            try go_frame
            refine wpAnyH_done (by kernel_rfl) ?_ _
            clear hHeld
            have HM8 : Hid (MidJ w #[.int .i64 n, .slice (some ⟨gk, ok, none⟩) key.length kc, .int .i64 b, .int .i64 t, .slice (some ⟨gl, ol, none⟩) P.length cap] #[.slice (some ⟨gx, ox, none⟩) x.l.length cx, .int .i64 x.s, .int .i64 x.e, .string x.n] #[.int .i64 n, .slice (some ⟨Ke, 0, none⟩) key.length kd, .int .i64 b, .int .i64 t, .slice (some ⟨M0, 0, none⟩) rs0.length c0] Ob Xb Ke key M0 c0 rs0 (Mx, cy, x) w7) := HMz.out.grow Z7.out
            generalize hW9 : w7.setCell ⟨Ob, 4, none⟩ (.slice (some ⟨M7, 0, none⟩) rf.length c7) = W9
            have HF : Hid (FinJ w #[.int .i64 n, .slice (some ⟨Ke, 0, none⟩) key.length kd, .int .i64 b, .int .i64 t, .slice (some ⟨M7, 0, none⟩) rf.length c7] Ob Ke key M7 c7 rf W9) := by
              have ho := HM8.out.ord
              have hk1 := HM8.out.key.1
              have hkl1 := HM8.out.key.lt
              have hz := HM7.out
              have hxo := HMz.out.ord
              have hne : ∀ y ∈ rf, y.1 ≠ Ob := fun y hy e => by
                obtain ⟨k0, k1, ds, k2, k3⟩ := H7.out.rows y hy
                exact ne_blk k2 HM8.out.bo (by decide) e
              rw [← hW9]
              refine ⟨HM8.out.br.set_other (by show Ob ≠ (w.heap.size + 1 + 1); omega) _, HM8.out.bo.set 4 _, ho.1, ?_, ?_, HN7.out, set_low HM8.out.below (M := Ob) (by omega) _ _⟩
              · obtain ⟨k0, ds, k1, k2⟩ := HM8.out.key
                exact ⟨k0, ds, k1.set_other (ne_blk HM8.out.bo k1 (by decide)) _, k2⟩
              · obtain ⟨cu, k1, k2⟩ := H7.out.outer
                refine ⟨H7.out.at', H7.out.cap, ⟨cu, k1.set_other (by show Ob ≠ M7; omega) _, k2⟩, fun y hy => ?_, H7.out.ne⟩
                obtain ⟨l0, l1, ds, l2, l3⟩ := H7.out.rows y hy
                exact ⟨l0, l1, ds, l2.set_other (by show Ob ≠ y.1; exact (hne y hy).symm) _, l3⟩
            clear hW9 HM8 H7 H5 H6 HR5 HN7
            have o0 := HF.out.bo.cell 0
            have r0 := HF.out.br.cell 0
            have fr0 := HF.out.br.frozen 0
            have o1 := HF.out.bo.cell 1
            have r1 := HF.out.br.cell 1
            have fr1 := HF.out.br.frozen 1
            have o2 := HF.out.bo.cell 2
            have r2 := HF.out.br.cell 2
            have fr2 := HF.out.br.frozen 2
            have o3 := HF.out.bo.cell 3
            have r3 := HF.out.br.cell 3
            have fr3 := HF.out.br.frozen 3
            have o4 := HF.out.bo.cell 4
            have r4 := HF.out.br.cell 4
            have fr4 := HF.out.br.frozen 4
            simp at o0 r0 o1 r1 o2 r2 o3 r3 o4 r4
            have hno : Ob ≠ (w.heap.size + 1 + 1) := by have := HF.out.ord; omega
            go_wp2
            all_goals (
              have hR : Blk _ (w.heap.size + 1 + 1) #[.int .i64 n, .slice (some ⟨Ke, 0, none⟩) key.length kd, .int .i64 b, .int .i64 t, .slice (some ⟨M7, 0, none⟩) rf.length c7] 53 := (((((HF.out.br.set 0 (.int .i64 n)).set 1 (.slice (some ⟨Ke, 0, none⟩) key.length kd)).set 2 (.int .i64 b)).set 3 (.int .i64 t)).set 4 (.slice (some ⟨M7, 0, none⟩) rf.length c7))
              have s0 := hR.cell 0
              have s1 := hR.cell 1
              have s2 := hR.cell 2
              have s3 := hR.cell 3
              have s4 := hR.cell 4
              refine bodyPost_ret (v := .agg #[.int .i64 n, .slice (some ⟨Ke, 0, none⟩) key.length kd, .int .i64 b, .int .i64 t, .slice (some ⟨M7, 0, none⟩) rf.length c7]) (by simp [results, Tryz.results36, go_sem, s0, s1, s2, s3, s4]) rfl ?_
              have hab := (DrawC.ab_under (DrawC.ab_under (DrawC.ab_under (DrawC.ab_under (DrawC.ab_under HF.out.ab (A := (w.heap.size + 1 + 1)) (by omega) 0 (.int .i64 n)) (A := (w.heap.size + 1 + 1)) (by omega) 1 (.slice (some ⟨Ke, 0, none⟩) key.length kd)) (A := (w.heap.size + 1 + 1)) (by omega) 2 (.int .i64 b)) (A := (w.heap.size + 1 + 1)) (by omega) 3 (.int .i64 t)) (A := (w.heap.size + 1 + 1)) (by omega) 4 (.slice (some ⟨M7, 0, none⟩) rf.length c7))
              exact ⟨⟨Ke, kd, M7, c7, rf, rfl, ⟨((((((HF.out.key.set (R := (w.heap.size + 1 + 1)) (by have := HF.out.key.1; omega) 0 (.int .i64 n)).set (R := (w.heap.size + 1 + 1)) (by have := HF.out.key.1; omega) 1 (.slice (some ⟨Ke, 0, none⟩) key.length kd)).set (R := (w.heap.size + 1 + 1)) (by have := HF.out.key.1; omega) 2 (.int .i64 b)).set (R := (w.heap.size + 1 + 1)) (by have := HF.out.key.1; omega) 3 (.int .i64 t)).set (R := (w.heap.size + 1 + 1)) (by have := HF.out.key.1; omega) 4 (.slice (some ⟨M7, 0, none⟩) rf.length c7))).down (by omega), AO.down (AB.ao hab) (by omega), HF.out.ne⟩, hab.down (by omega), HPf.out⟩, (set_low (set_low (set_low (set_low (set_low HF.out.below (M := (w.heap.size + 1 + 1)) (by omega) 0 (.int .i64 n)) (M := (w.heap.size + 1 + 1)) (by omega) 1 (.slice (some ⟨Ke, 0, none⟩) key.length kd)) (M := (w.heap.size + 1 + 1)) (by omega) 2 (.int .i64 b)) (M := (w.heap.size + 1 + 1)) (by omega) 3 (.int .i64 t)) (M := (w.heap.size + 1 + 1)) (by omega) 4 (.slice (some ⟨M7, 0, none⟩) rf.length c7))⟩)
          refine AllReadyH.cons (o := ⟨some 60, .buildSlice 35 1 #[(0, .tmp 59)], 35, "l11_group.go:47", #[⟨5, .data⟩], none⟩) rfl (fun K hK => ?_) AllReadyH.nil
          go_simp
          clear hHeld
          refine hK.out _ _ (HS.out _ ((bel_alloc (Below.refl z.heap.size z).drew (.cells #[.slice (some ⟨Mx, 0, none⟩) x.l.length cy, .int .i64 x.s, .int .i64 x.e, .string x.n] 27)))) (fun hHeld => ?_)
          clear hK K
          try go_frame
          refine rd1 4 ⟨some 58, .call { callee := .value (.func 67), args := #[.tmp 57], argTypes := #[35] }, 35, "l11_group.go:47", #[⟨3, .data⟩], none⟩ (fun K hK => ?_)
          go_simp
          refine (l4All_take (gl := gl) (ol := ol) (cap := cap) (P := P) (k := q) (HR.out.1.below (grow_on HMz.out.below (bel_alloc (Below.refl z.heap.size z).drew (.cells #[.slice (some ⟨Mx, 0, none⟩) x.l.length cy, .int .i64 x.s, .int .i64 x.e, .string x.n] 27)))) (by omega) hl HR.out.2).mono ?_
          rintro r wa ⟨⟨MA, cA, rA, rfl, hA, hP⟩, hb⟩
          have ZA : Hid (Below z.heap.size z wa) := grow_on (bel_alloc (Below.refl z.heap.size z).drew (.cells #[.slice (some ⟨Mx, 0, none⟩) x.l.length cy, .int .i64 x.s, .int .i64 x.e, .string x.n] 27)) hb
          have HA : Hid (AB z.heap.size wa MA cA rA ∧ pals rA = P.take q) := ⟨hA.down (bel_alloc (Below.refl z.heap.size z).drew (.cells #[.slice (some ⟨Mx, 0, none⟩) x.l.length cy, .int .i64 x.s, .int .i64 x.e, .string x.n] 27)).size, hP⟩
          have NB : Hid (Blk wa z.heap.size #[.slice (some ⟨Mx, 0, none⟩) x.l.length cy, .int .i64 x.s, .int .i64 x.e, .string x.n] 27) := (Blk.new z.drew _ _).grow hb
          clear hA hP hb
          clear hHeld
          refine hK.out _ _ (HS.out _ (ZA.out)) (fun hHeld => ?_)
          clear hK K
          try go_frame
          refine rd1 7 ⟨some 61, .call { callee := .builtin .append, args := #[.tmp 58, .tmp 60], argTypes := #[35, 35] }, 35, "l11_group.go:47", #[⟨4, .data⟩, ⟨6, .data⟩, ⟨4, .chain⟩], none⟩ (fun K hK => ?_)
          have hoA := (HA.out.1.grow (Below.refl _ _)).down (lo' := w.heap.size + 3) (by have := HMz.out.ord; omega)
          obtain ⟨xs, hox, hxl, hxs⟩ := hoA.own
          have hrl : rA.length ≤ 1048576 := by rw [← pals_len, HA.out.2]; simp; omega
          refine step_appB (by rfl) _ _ 35 (by rfl) 27 i0 _ 4 56 Tryz.underlying35 hi hz0 hz1 hz2 (by rfl) (by decide) (w.heap.size + 3) ?ha7 _ rA.length xs (by rfl) hox ⟨z.heap.size, 0, none⟩ 1 1 (rowV (Mx, cy, x)) (by rfl) (by rfl) (blk_news (NB.out)) (row_one _) ?hb7 ?hc7 ?_
          case ha7 => have h1 := HMz.out.ord; have h2 := ZA.out.size; omega
          case hb7 => unfold maxLen; omega
          case hc7 => omega
          intro v5 w5 hown hg hat
          obtain ⟨M5, c5, e5, hAB5⟩ := hoA.app ((HMz.out.grow ZA.out).yo) (fun y hy => by have h1 := (HA.out.1.rows y hy).1; have h2 := HMz.out.yo.lt; show y.1 ≠ Mx; simp at h2; omega) hxl hxs hown hg
          subst e5
          have Z5 : Hid (Below z.heap.size z w5) := ZA.out.grown hg ZA.out.size (fun k e => by have h : MA = k := Option.some.inj e; have := HA.out.1.at'; omega)
          have H5 : Hid (AB (w.heap.size + 3) w5 M5 c5 (rA ++ [(Mx, cy, x)]) ∧ z.heap.size ≤ M5 ∧ M5 < w5.heap.size) := ⟨hAB5, by
            rcases hat with e | e
            · have h : M5 = MA := Option.some.inj e; have := HA.out.1.at'; omega
            · have h : M5 = _ := Option.some.inj e; have := ZA.out.size; omega, hAB5.lt⟩
          have HR5 : Hid (pals (rA ++ [(Mx, cy, x)]) = P.take q ++ [x] ∧ (rA ++ [(Mx, cy, x)]).length = rA.length + 1) := ⟨by rw [pals_app, HA.out.2], by simp⟩
          clear hoA hox hxl hxs hown hg hat hAB5
          clear hHeld
          refine hK.out _ _ (HS.out _ (Z5.out)) (fun hHeld => ?_)
          clear hK K
          try go_frame
          refine rd1 12 ⟨some 66, .call { callee := .value (.func 67), args := #[.tmp 65], argTypes := #[35] }, 35, "l11_group.go:47", #[⟨11, .data⟩, ⟨7, .chain⟩], none⟩ (fun K hK => ?_)
          go_simp
          try rw [if_slice]
          refine (l4All_drop (gl := gl) (ol := ol) (cap := cap) (P := P) (k := q) (w := w5) (HR.out.1.below (grow_on HMz.out.below Z5.out)) hc1 (by omega) hl HR.out.2).mono ?_
          rintro r w6 ⟨⟨MB, cB, rB, rfl, hA, hP⟩, hb⟩
          have Z6 : Hid (Below z.heap.size z w6) := grow_on Z5.out hb
          have H6 : Hid (AB (w.heap.size + 3) w6 M5 c5 (rA ++ [(Mx, cy, x)]) ∧ AB w5.heap.size w6 MB cB rB ∧ pals rB = P.drop q) := ⟨H5.out.1.grow hb, hA, hP⟩
          clear hA hP hb
          clear hHeld
          refine hK.out _ _ (HS.out _ (Z6.out)) (fun hHeld => ?_)
          clear hK K
          try go_frame
          refine rd1 13 ⟨some 67, .call { callee := .builtin .append, args := #[.tmp 61, .tmp 66], argTypes := #[35, 35] }, 35, "l11_group.go:47", #[⟨7, .data⟩, ⟨12, .data⟩, ⟨12, .chain⟩], none⟩ (fun K hK => ?_)
          have hfl := Flt.AB.flat H6.out.1
          have hrl : rA.length + 1 ≤ 1048577 := by have : rA.length ≤ 1048576 := by (rw [← pals_len, HA.out.2]; simp; omega)
                                                   omega
          have hrb : rB.length ≤ 1048576 := by rw [← pals_len, H6.out.2.2]; simp; omega
          have h5l := HR5.out.2
          rw [h5l] at hfl
          refine step_appB (by rfl) _ _ 35 (by rfl) 27 i0 _ 4 56 Tryz.underlying35 hi hz0 hz1 hz2 (by rfl) (by decide) (w.heap.size + 3) ?ha8 _ (rA.length + 1) (flatA (rA ++ [(Mx, cy, x)])) (by rfl) hfl ⟨MB, 0, none⟩ rB.length cB (flatA rB) (by rfl) (flatA_len rB) (flatA_news H6.out.2.1) (flatA_one rB) ?hb8 ?hc8 ?_
          case ha8 => have h1 := HMz.out.ord; have h2 := Z6.out.size; omega
          case hb8 => unfold maxLen; omega
          case hc8 => omega
          intro v7 w7 hown hg hat
          rw [← h5l] at hown
          obtain ⟨M7, c7, e7, hAB7⟩ := app_rows H6.out.1 H6.out.2.1 (by have h1 := HMz.out.ord; have h2 := Z5.out.size; omega) (fun y hy => (H5.out.1.rows y hy).lt) (by rw [h5l]; omega) hown hg
          obtain ⟨rf, hrf⟩ : ∃ rf, (rA ++ [(Mx, cy, x)]) ++ rB = rf := ⟨_, rfl⟩
          rw [hrf] at e7 hAB7
          subst e7
          have Z7 : Hid (Below z.heap.size z w7) := Z6.out.grown hg Z6.out.size (fun k e => by have h : M5 = k := Option.some.inj e; have := H5.out.2.1; omega)
          have HM7 : Hid (z.heap.size ≤ M7) := by
            rcases hat with e | e
            · have h : M7 = M5 := Option.some.inj e; have := H5.out.2.1; show _ ≤ _; omega
            · have h : M7 = _ := Option.some.inj e; have := Z6.out.size; show _ ≤ _; omega
          have H7 : Hid (AB (w.heap.size + 3) w7 M7 c7 rf) := hAB7
          have HPf : Hid (pals ((rA ++ [(Mx, cy, x)]) ++ rB) = joinG P x) := by
            unfold Hid
            rw [HE.out, HQ.out]
            unfold pals at *
            rw [List.map_append]
            have h1 := HR5.out.1
            have h2 := H6.out.2.2
            unfold pals at h1 h2
            rw [h1, h2, List.append_assoc]; rfl
          have HN7 : Hid (¬ blks M7 ((rA ++ [(Mx, cy, x)]) ++ rB) Ke) := fun h => by
            have hk := HMz.out.key.lt
            have hm := HM7.out
            rcases h with e | ⟨y, hy, e⟩
            · omega
            · rcases List.mem_append.1 hy with hy | hy
              · rcases List.mem_append.1 hy with hy | hy
                · have := (HA.out.1.rows y hy).1; omega
                · rw [List.mem_singleton.1 hy] at e; exact HMz.out.yn.2.1 e.symm
              · have := (H6.out.2.1.rows y hy).1; have := Z5.out.size; omega
          rw [hrf] at HPf HN7
          clear hfl h5l hown hg hat hAB7 hrf
          clear hHeld
          refine hK.out _ _ (HS.out _ (Z7.out)) (fun hHeld => ?_)
          clear hK K
          try go_frame
          refine tk 14 ⟨some 68, .fieldAddr 53 (.tmp 5) 4, 0, "l11_group.go:47", #[⟨0, .phase⟩, ⟨1, .phase⟩, ⟨2, .phase⟩, ⟨3, .phase⟩, ⟨4, .phase⟩, ⟨5, .phase⟩, ⟨6, .phase⟩, ⟨7, .phase⟩, ⟨8, .phase⟩, ⟨9, .phase⟩, ⟨10, .phase⟩, ⟨11, .phase⟩, ⟨12, .phase⟩, ⟨13, .phase⟩], none⟩ hHeld ?_
          try go_frame
          refine rd1 15 ⟨none, .store 35 (.tmp 68) (.tmp 67), 0, "l11_group.go:47", #[⟨14, .data⟩, ⟨13, .data⟩, ⟨13, .chain⟩, ⟨0, .phase⟩, ⟨1, .phase⟩, ⟨2, .phase⟩, ⟨3, .phase⟩, ⟨4, .phase⟩, ⟨5, .phase⟩, ⟨6, .phase⟩, ⟨7, .phase⟩, ⟨8, .phase⟩, ⟨9, .phase⟩, ⟨10, .phase⟩, ⟨11, .phase⟩, ⟨12, .phase⟩, ⟨13, .phase⟩], none⟩ (fun K hK => ?_)
          have HM8 : Hid (MidJ w #[.int .i64 n, .slice (some ⟨gk, ok, none⟩) key.length kc, .int .i64 b, .int .i64 t, .slice (some ⟨gl, ol, none⟩) P.length cap] #[.slice (some ⟨gx, ox, none⟩) x.l.length cx, .int .i64 x.s, .int .i64 x.e, .string x.n] #[.int .i64 n, .slice (some ⟨Ke, 0, none⟩) key.length kd, .int .i64 b, .int .i64 t, .slice (some ⟨M0, 0, none⟩) rs0.length c0] Ob Xb Ke key M0 c0 rs0 (Mx, cy, x) w7) := HMz.out.grow Z7.out
          have o4 := HM8.out.bo.cell 4
          have fo4 := HM8.out.bo.frozen 4
          simp at o4
          go_simp
          clear o4 fo4 hHeld
          refine hK.out _ _ ⟨(HM8.out.bp.set_other (by have := HM8.out.ord; show Ob ≠ w.heap.size; omega) _).cell 4, (HM8.out.bx.set_other (by have := HM8.out.ord; show Ob ≠ Xb; omega) _).cell 0, (HM8.out.bx.set_other (by have := HM8.out.ord; show Ob ≠ Xb; omega) _).cell 1, (HM8.out.bx.set_other (by have := HM8.out.ord; show Ob ≠ Xb; omega) _).cell 2, (HM8.out.bx.set_other (by have := HM8.out.ord; show Ob ≠ Xb; omega) _).cell 3⟩ (fun hHeld => ?_)
          clear hK K
          try go_frame
          refine wpAnyH_done (by kernel_rfl) ?_ _
          clear hHeld
          have HM8 : Hid (MidJ w #[.int .i64 n, .slice (some ⟨gk, ok, none⟩) key.length kc, .int .i64 b, .int .i64 t, .slice (some ⟨gl, ol, none⟩) P.length cap] #[.slice (some ⟨gx, ox, none⟩) x.l.length cx, .int .i64 x.s, .int .i64 x.e, .string x.n] #[.int .i64 n, .slice (some ⟨Ke, 0, none⟩) key.length kd, .int .i64 b, .int .i64 t, .slice (some ⟨M0, 0, none⟩) rs0.length c0] Ob Xb Ke key M0 c0 rs0 (Mx, cy, x) w7) := HMz.out.grow Z7.out
          generalize hW9 : w7.setCell ⟨Ob, 4, none⟩ (.slice (some ⟨M7, 0, none⟩) rf.length c7) = W9
          have HF : Hid (FinJ w #[.int .i64 n, .slice (some ⟨Ke, 0, none⟩) key.length kd, .int .i64 b, .int .i64 t, .slice (some ⟨M7, 0, none⟩) rf.length c7] Ob Ke key M7 c7 rf W9) := by
            have ho := HM8.out.ord
            have hk1 := HM8.out.key.1
            have hkl1 := HM8.out.key.lt
            have hz := HM7.out
            have hxo := HMz.out.ord
            have hne : ∀ y ∈ rf, y.1 ≠ Ob := fun y hy e => by
              obtain ⟨k0, k1, ds, k2, k3⟩ := H7.out.rows y hy
              exact ne_blk k2 HM8.out.bo (by decide) e
            rw [← hW9]
            refine ⟨HM8.out.br.set_other (by show Ob ≠ (w.heap.size + 1 + 1); omega) _, HM8.out.bo.set 4 _, ho.1, ?_, ?_, HN7.out, set_low HM8.out.below (M := Ob) (by omega) _ _⟩
            · obtain ⟨k0, ds, k1, k2⟩ := HM8.out.key
              exact ⟨k0, ds, k1.set_other (ne_blk HM8.out.bo k1 (by decide)) _, k2⟩
            · obtain ⟨cu, k1, k2⟩ := H7.out.outer
              refine ⟨H7.out.at', H7.out.cap, ⟨cu, k1.set_other (by show Ob ≠ M7; omega) _, k2⟩, fun y hy => ?_, H7.out.ne⟩
              obtain ⟨l0, l1, ds, l2, l3⟩ := H7.out.rows y hy
              exact ⟨l0, l1, ds, l2.set_other (by show Ob ≠ y.1; exact (hne y hy).symm) _, l3⟩
          clear hW9 HM8 H7 H5 H6 HR5 HN7
          have o0 := HF.out.bo.cell 0
          have r0 := HF.out.br.cell 0
          have fr0 := HF.out.br.frozen 0
          have o1 := HF.out.bo.cell 1
          have r1 := HF.out.br.cell 1
          have fr1 := HF.out.br.frozen 1
          have o2 := HF.out.bo.cell 2
          have r2 := HF.out.br.cell 2
          have fr2 := HF.out.br.frozen 2
          have o3 := HF.out.bo.cell 3
          have r3 := HF.out.br.cell 3
          have fr3 := HF.out.br.frozen 3
          have o4 := HF.out.bo.cell 4
          have r4 := HF.out.br.cell 4
          have fr4 := HF.out.br.frozen 4
          simp at o0 r0 o1 r1 o2 r2 o3 r3 o4 r4
          have hno : Ob ≠ (w.heap.size + 1 + 1) := by have := HF.out.ord; omega
          go_wp2
          all_goals (
            have hR : Blk _ (w.heap.size + 1 + 1) #[.int .i64 n, .slice (some ⟨Ke, 0, none⟩) key.length kd, .int .i64 b, .int .i64 t, .slice (some ⟨M7, 0, none⟩) rf.length c7] 53 := (((((HF.out.br.set 0 (.int .i64 n)).set 1 (.slice (some ⟨Ke, 0, none⟩) key.length kd)).set 2 (.int .i64 b)).set 3 (.int .i64 t)).set 4 (.slice (some ⟨M7, 0, none⟩) rf.length c7))
            have s0 := hR.cell 0
            have s1 := hR.cell 1
            have s2 := hR.cell 2
            have s3 := hR.cell 3
            have s4 := hR.cell 4
            refine bodyPost_ret (v := .agg #[.int .i64 n, .slice (some ⟨Ke, 0, none⟩) key.length kd, .int .i64 b, .int .i64 t, .slice (some ⟨M7, 0, none⟩) rf.length c7]) (by simp [results, Tryz.results36, go_sem, s0, s1, s2, s3, s4]) rfl ?_
            have hab := (DrawC.ab_under (DrawC.ab_under (DrawC.ab_under (DrawC.ab_under (DrawC.ab_under HF.out.ab (A := (w.heap.size + 1 + 1)) (by omega) 0 (.int .i64 n)) (A := (w.heap.size + 1 + 1)) (by omega) 1 (.slice (some ⟨Ke, 0, none⟩) key.length kd)) (A := (w.heap.size + 1 + 1)) (by omega) 2 (.int .i64 b)) (A := (w.heap.size + 1 + 1)) (by omega) 3 (.int .i64 t)) (A := (w.heap.size + 1 + 1)) (by omega) 4 (.slice (some ⟨M7, 0, none⟩) rf.length c7))
            exact ⟨⟨Ke, kd, M7, c7, rf, rfl, ⟨((((((HF.out.key.set (R := (w.heap.size + 1 + 1)) (by have := HF.out.key.1; omega) 0 (.int .i64 n)).set (R := (w.heap.size + 1 + 1)) (by have := HF.out.key.1; omega) 1 (.slice (some ⟨Ke, 0, none⟩) key.length kd)).set (R := (w.heap.size + 1 + 1)) (by have := HF.out.key.1; omega) 2 (.int .i64 b)).set (R := (w.heap.size + 1 + 1)) (by have := HF.out.key.1; omega) 3 (.int .i64 t)).set (R := (w.heap.size + 1 + 1)) (by have := HF.out.key.1; omega) 4 (.slice (some ⟨M7, 0, none⟩) rf.length c7))).down (by omega), AO.down (AB.ao hab) (by omega), HF.out.ne⟩, hab.down (by omega), HPf.out⟩, (set_low (set_low (set_low (set_low (set_low HF.out.below (M := (w.heap.size + 1 + 1)) (by omega) 0 (.int .i64 n)) (M := (w.heap.size + 1 + 1)) (by omega) 1 (.slice (some ⟨Ke, 0, none⟩) key.length kd)) (M := (w.heap.size + 1 + 1)) (by omega) 2 (.int .i64 b)) (M := (w.heap.size + 1 + 1)) (by omega) 3 (.int .i64 t)) (M := (w.heap.size + 1 + 1)) (by omega) 4 (.slice (some ⟨M7, 0, none⟩) rf.length c7))⟩)
end Go.Proofs.YtgncimlojbnbfaaGreat.GrpJ
