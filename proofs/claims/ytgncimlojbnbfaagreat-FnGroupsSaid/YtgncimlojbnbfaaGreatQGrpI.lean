/-
  PROVED: impl.JoinIn answers a group with the alarm in it, and impl.Flush a group without what is over and a batch of all, in memory of their own; nothing that was there is changed.
-/
import Derived.Test.YtgncimlojbnbfaaGreatQTk
import Derived.Test.YtgncimlojbnbfaaGreatQGrpE
import Derived.Test.YtgncimlojbnbfaaGreatQGrpH
import Derived.Test.YtgncimlojbnbfaaGreatQGrpP
import Derived.Test.YtgncimlojbnbfaaGreatQGrpL
import Derived.Test.YtgncimlojbnbfaaGreatQGrpQ
import Derived.Test.YtgncimlojbnbfaaGreatQGrpN
import Derived.Deep.DeepCutAuto
import Derived.Deep.CutRange
set_option linter.unusedVariables false
namespace Go.Proofs.YtgncimlojbnbfaaGreat.GrpI
open Go.RowKit
open Labs LabS Alms AlmS AlmM Over Blk App Rws ChnI ChnC ChnK Grp GrpO GrpG GrpJ GrpL
open GrpP (placeG place_le place_any join_place)
open ChnP (len_m)
open Chs (Moved)
open GrpQ (chosenA_any)
structure GA (lo : Nat) (w : World) (Ke : Nat) (key : List Lab) (M : Nat) (rs : List ARow) : Prop where
  key : OwnL lo w Ke key
  ab : AB lo w M rs.length rs
  ne : ¬ blks M rs Ke
theorem GA.grow {lo : Nat} {w w' : World} {Ke : Nat} {key : List Lab} {M : Nat} {rs : List ARow} (h : GA lo w Ke key M rs) (hb : Below w.heap.size w w') : GA lo w' Ke key M rs := ⟨h.key.grow hb, h.ab.grow hb, h.ne⟩
theorem GA.set {lo : Nat} {w : World} {Ke : Nat} {key : List Lab} {M : Nat} {rs : List ARow} (h : GA lo w Ke key M rs) {N : Nat} {cs : Array Value} {T : TypeId} (hN : Blk w N cs T) (hA : T ≠ 27) (hL : T ≠ 99) (i : Nat) (v : Value) : GA lo (w.setCell ⟨N, i, none⟩ v) Ke key M rs :=
  ⟨GrpF.OwnL.moved h.key (Moved.set hN hA hL i v), Chs.ab_moved h.ab (Moved.set hN hA hL i v), h.ne⟩
theorem GA.gb {lo : Nat} {w : World} {Ke : Nat} {key : List Lab} {M : Nat} {rs : List ARow} (h : GA lo w Ke key M rs) : GB lo w Ke key M 0 rs := ⟨h.key, ChnK.AB.ao h.ab, h.ne⟩
theorem rd_take {w : World} {gl ol k : Nat} {P : List PAl} (hr : RdN w (some ⟨gl, ol, none⟩) P) : RdA w (some ⟨gl, ol, none⟩) (P.take k) := (rdn_take k hr).rd
theorem rd_one {w : World} {N : Nat} {a : Option Addr} {c : Nat} {x : PAl} (h : Blk w N #[.slice a x.l.length c, .int .i64 x.s, .int .i64 x.e, .string x.n] 27) (hx : Reads w a x.l) : RdA w (some ⟨N, 0, none⟩) [x] := by
  refine .inr ⟨N, 0, rfl, h.lt, fun i hi => ?_⟩
  have : i = 0 := by simpa using hi
  subst this
  exact ⟨a, c, h.cell 0, h.cell 1, h.cell 2, h.cell 3, hx⟩
theorem lenM_one {x : PAl} (h : x.l.length ≤ 1048576) : LenM [x] := fun i hi => by
  have : i = 0 := by simpa using hi
  subst this
  exact h
def piecesJ (gl ol k1 : Nat) (b2 : Option Addr) (N k2 : Nat) (P : List PAl) (x : PAl) : List Pc := [(some ⟨gl, ol, none⟩, k1, P.take k1), (some ⟨N, 0, none⟩, 1, [x]), (b2, P.length - k2, P.drop k2)]
theorem upto_J (gl ol k1 : Nat) (b2 : Option Addr) (N k2 : Nat) (P : List PAl) (x : PAl) : upto (piecesJ gl ol k1 b2 N k2 P x) 3 = P.take k1 ++ x :: P.drop k2 := by simp [upto, piecesJ]
theorem upto_one (x : Pc) : upto [x] 1 = x.2.2 := by simp [upto]
set_option maxRecDepth 100000 in
set_option maxHeartbeats 6400000 in
theorem implJoin_any (n b t : Int) (gk ok kc : Nat) (key : List Lab) (gl ol cap : Nat) (P : List PAl) (gx ox cx : Nat) (x : PAl) (w : World) (hk : Reads w (some ⟨gk, ok, none⟩) key) (hkl : key.length ≤ 1048576) (hr : RdN w (some ⟨gl, ol, none⟩) P) (hl : P.length ≤ 1048576) (hs : LenM P) (hc : P.length ≤ cap ∧ cap ≤ maxLen) (hx : Reads w (some ⟨gx, ox, none⟩) x.l) (hxl : x.l.length ≤ 1048576) :
    Calls Tryz.prog 32 #[.agg #[.int .i64 n, .slice (some ⟨gk, ok, none⟩) key.length kc, .int .i64 b, .int .i64 t, .slice (some ⟨gl, ol, none⟩) P.length cap], .agg #[.slice (some ⟨gx, ox, none⟩) x.l.length cx, .int .i64 x.s, .int .i64 x.e, .string x.n]] w fun e w' => (∃ Ke kd M o c rs, e = .returned (.agg #[.int .i64 n, .slice (some ⟨Ke, 0, none⟩) key.length kd, .int .i64 b, .int .i64 t, .slice (some ⟨M, o, none⟩) rs.length c]) ∧ GB w.heap.size w' Ke key M o rs ∧ pals rs = joinG P x) ∧ Below w.heap.size w w' := by
  have HK : Hid (Reads w (some ⟨gk, ok, none⟩) key) := hk
  have HR : Hid (RdN w (some ⟨gl, ol, none⟩) P ∧ LenM P) := ⟨hr, hs⟩
  have HX : Hid (Reads w (some ⟨gx, ox, none⟩) x.l ∧ x.l.length ≤ 1048576) := ⟨hx, hxl⟩
  have hcap := hc.1
  have hcapm := hc.2
  unfold maxLen at hcapm
  clear hk hr hs hx hxl hc
  generalize hW0 : ((w.alloc (.cells #[.int .i64 n, .slice (some ⟨gk, ok, none⟩) key.length kc, .int .i64 b, .int .i64 t, .slice (some ⟨gl, ol, none⟩) P.length cap] 53)).alloc (.cells #[.slice (some ⟨gx, ox, none⟩) x.l.length cx, .int .i64 x.s, .int .i64 x.e, .string x.n] 27)).alloc (.cells #[.int .i64 0, .slice none 0 0, .int .i64 0, .int .i64 0, .slice none 0 0] 53) = W0
  have HB0 : Hid (Below w.heap.size w W0) := by rw [← hW0]; exact Alm.below3 w _ _ _
  have BP0 : Hid (Blk W0 w.heap.size #[.int .i64 n, .slice (some ⟨gk, ok, none⟩) key.length kc, .int .i64 b, .int .i64 t, .slice (some ⟨gl, ol, none⟩) P.length cap] 53) := by rw [← hW0]; exact ((Blk.new _ _ _).alloc _).alloc _
  have BQ0 : Hid (Blk W0 (w.heap.size + 1) #[.slice (some ⟨gx, ox, none⟩) x.l.length cx, .int .i64 x.s, .int .i64 x.e, .string x.n] 27) := by rw [← hW0]; exact (Blk.new_at (by simp)).alloc _
  have BR0 : Hid (Blk W0 (w.heap.size + 1 + 1) #[.int .i64 0, .slice none 0 0, .int .i64 0, .int .i64 0, .slice none 0 0] 53) := by rw [← hW0]; exact Blk.new_at (by simp)
  have HZ : Hid (W0.heap.size = w.heap.size + 3) := by show _ = _; rw [← hW0]; simp
  go_enter Tryz.func32, Tryz.ntmps32
  go_upto_region 1 with fail
  try rw [hW0]
  clear hW0
  have p4 := BP0.out.cell 4
  have q0 := BQ0.out.cell 0
  simp at p4 q0
  go_wp2_with fail
  refine (place_any (some ⟨gl, ol, none⟩) (some ⟨gx, ox, none⟩) cap cx P x.l _ ((HR.out.1.below HB0.out).rd) (HX.out.1.below HB0.out) (by have := HX.out.2; unfold maxLen; omega) hl (len_m HR.out.2)).mono ?_
  rintro e z ⟨rfl, hb⟩
  have HB : Hid (Below w.heap.size w z) := grow_on HB0.out hb
  have BP : Hid (Blk z w.heap.size #[.int .i64 n, .slice (some ⟨gk, ok, none⟩) key.length kc, .int .i64 b, .int .i64 t, .slice (some ⟨gl, ol, none⟩) P.length cap] 53) := BP0.out.grow hb
  have BQ : Hid (Blk z (w.heap.size + 1) #[.slice (some ⟨gx, ox, none⟩) x.l.length cx, .int .i64 x.s, .int .i64 x.e, .string x.n] 27) := BQ0.out.grow hb
  have BR : Hid (Blk z (w.heap.size + 1 + 1) #[.int .i64 0, .slice none 0 0, .int .i64 0, .int .i64 0, .slice none 0 0] 53) := BR0.out.grow hb
  have HL : Hid (w.heap.size + 3 ≤ z.heap.size) := by unfold Hid; have := hb.size; rw [HZ.out] at this; exact this
  have HJ : Hid (joinG P x = P.take (placeG P x.l).1 ++ x :: P.drop (placeG P x.l).2) := join_place P x
  have hple := place_le P x.l
  generalize (placeG P x.l).1 = k1 at *
  generalize (placeG P x.l).2 = k2 at *
  have h1 := hple.1
  have h2 := hple.2
  clear hple hb BP0 BQ0 BR0 HB0 HZ p4 q0
  have hk1c : (k1 : Int) ≤ (cap : Int) := by omega
  have hk2n : (k2 : Int) ≤ (P.length : Int) := by omega
  have hnc : (P.length : Int) ≤ (cap : Int) := by omega
  go_upto_region 3 with fail
  have HS : Hid (∀ w', Blk w' w.heap.size #[.int .i64 n, .slice (some ⟨gk, ok, none⟩) key.length kc, .int .i64 b, .int .i64 t, .slice (some ⟨gl, ol, none⟩) P.length cap] 53 → Blk w' (w.heap.size + 1) #[.slice (some ⟨gx, ox, none⟩) x.l.length cx, .int .i64 x.s, .int .i64 x.e, .string x.n] 27 → w'.cell? ⟨w.heap.size, 0, none⟩ = some (.int .i64 n) ∧ w'.cell? ⟨w.heap.size, 1, none⟩ = some (.slice (some ⟨gk, ok, none⟩) key.length kc) ∧ w'.cell? ⟨w.heap.size, 2, none⟩ = some (.int .i64 b) ∧ w'.cell? ⟨w.heap.size, 3, none⟩ = some (.int .i64 t) ∧ w'.cell? ⟨w.heap.size, 4, none⟩ = some (.slice (some ⟨gl, ol, none⟩) P.length cap) ∧ w'.cell? ⟨(w.heap.size + 1), 0, none⟩ = some (.slice (some ⟨gx, ox, none⟩) x.l.length cx) ∧ w'.cell? ⟨(w.heap.size + 1), 1, none⟩ = some (.int .i64 x.s) ∧ w'.cell? ⟨(w.heap.size + 1), 2, none⟩ = some (.int .i64 x.e) ∧ w'.cell? ⟨(w.heap.size + 1), 3, none⟩ = some (.string x.n)) := fun w' h k => ⟨h.cell 0, h.cell 1, h.cell 2, h.cell 3, h.cell 4, k.cell 0, k.cell 1, k.cell 2, k.cell 3⟩
  refine wp_region_held_drew (S := fun w' => w'.cell? ⟨w.heap.size, 0, none⟩ = some (.int .i64 n) ∧ w'.cell? ⟨w.heap.size, 1, none⟩ = some (.slice (some ⟨gk, ok, none⟩) key.length kc) ∧ w'.cell? ⟨w.heap.size, 2, none⟩ = some (.int .i64 b) ∧ w'.cell? ⟨w.heap.size, 3, none⟩ = some (.int .i64 t) ∧ w'.cell? ⟨w.heap.size, 4, none⟩ = some (.slice (some ⟨gl, ol, none⟩) P.length cap) ∧ w'.cell? ⟨(w.heap.size + 1), 0, none⟩ = some (.slice (some ⟨gx, ox, none⟩) x.l.length cx) ∧ w'.cell? ⟨(w.heap.size + 1), 1, none⟩ = some (.int .i64 x.s) ∧ w'.cell? ⟨(w.heap.size + 1), 2, none⟩ = some (.int .i64 x.e) ∧ w'.cell? ⟨(w.heap.size + 1), 3, none⟩ = some (.string x.n)) (by kernel_rfl) (HS.out _ (BP.out.grow (Below.refl z.heap.size z).drew) (BQ.out.grow (Below.refl z.heap.size z).drew)) (fun hHeld => ?_)
  refine tk 0 ⟨some 19, .load 53 (.tmp 2), 53, "l11_group.go:58", #[], none⟩ hHeld ?_
  try go_frame
  refine tk 1 ⟨some 20, .fieldAddr 53 (.tmp 2) 4, 0, "l11_group.go:58", #[], none⟩ hHeld ?_
  try go_frame
  refine tk 2 ⟨some 21, .load 35 (.tmp 20), 35, "l11_group.go:58", #[⟨1, .data⟩], none⟩ hHeld ?_
  try go_frame
  refine tk 3 ⟨some 22, .move (.tmp 6), 3, "l11_group.go:58", #[], none⟩ hHeld ?_
  try go_frame
  refine tk 4 ⟨some 23, .move (.tmp 6), 3, "l11_group.go:58", #[], none⟩ hHeld ?_
  try go_frame
  refine tk 5 ⟨some 24, .slice 35 (.tmp 21) none (some (.tmp 22)) (some (.tmp 23)), 35, "l11_group.go:58", #[⟨2, .data⟩, ⟨3, .data⟩, ⟨4, .data⟩], none⟩ hHeld ?_
  try go_frame
  refine tk 6 ⟨some 25, .load 27 (.tmp 3), 27, "l11_group.go:58", #[], none⟩ hHeld ?_
  try go_frame
  refine tk 8 ⟨some 27, .fieldAddr 53 (.tmp 2) 4, 0, "l11_group.go:58", #[], none⟩ hHeld ?_
  try go_frame
  refine tk 9 ⟨some 28, .load 35 (.tmp 27), 35, "l11_group.go:58", #[⟨8, .data⟩], none⟩ hHeld ?_
  try go_frame
  refine tk 10 ⟨some 29, .move (.tmp 7), 3, "l11_group.go:58", #[], none⟩ hHeld ?_
  try go_frame
  refine tk 11 ⟨some 30, .move (.tmp 5), 3, "l11_group.go:58", #[], none⟩ hHeld ?_
  try go_frame
  refine tk 12 ⟨some 31, .move (.tmp 5), 3, "l11_group.go:58", #[], none⟩ hHeld ?_
  try go_frame
  refine tk 13 ⟨some 32, .slice 35 (.tmp 28) (some (.tmp 29)) (some (.tmp 30)) (some (.tmp 31)), 35, "l11_group.go:58", #[⟨9, .data⟩, ⟨10, .data⟩, ⟨11, .data⟩, ⟨12, .data⟩], none⟩ hHeld ?_
  try go_frame
  try rw [if_slice]
  refine rd1 7 ⟨some 26, .buildSlice 35 1 #[(0, .tmp 25)], 35, "l11_group.go:58", #[⟨6, .data⟩], none⟩ (fun K hK => ?_)
  go_simp
  clear hHeld
  refine hK.out _ _ (HS.out _ (BP.out.grow (bel_alloc (Below.refl z.heap.size z) (.cells #[.slice (some ⟨gx, ox, none⟩) x.l.length cx, .int .i64 x.s, .int .i64 x.e, .string x.n] 27)).drew) (BQ.out.grow (bel_alloc (Below.refl z.heap.size z) (.cells #[.slice (some ⟨gx, ox, none⟩) x.l.length cx, .int .i64 x.s, .int .i64 x.e, .string x.n] 27)).drew)) (fun hHeld => ?_)
  clear hK K
  try go_frame
  refine rd1 14 ⟨some 33, .buildSlice 113 3 #[(0, .tmp 24), (1, .tmp 26), (2, .tmp 32)], 113, "l11_group.go:58", #[⟨5, .data⟩, ⟨7, .data⟩, ⟨13, .data⟩], none⟩ (fun K hK => ?_)
  go_simp
  clear hHeld
  refine hK.out _ _ (HS.out _ (BP.out.grow (bel_alloc (bel_alloc (Below.refl z.heap.size z) (.cells #[.slice (some ⟨gx, ox, none⟩) x.l.length cx, .int .i64 x.s, .int .i64 x.e, .string x.n] 27)) (.cells #[.slice (some ⟨gl, ol, none⟩) k1 k1, .slice (some ⟨z.heap.size, 0, none⟩) 1 1, .slice (if P.length = k2 then some (⟨gl, ol, none⟩ : Addr) else some (⟨gl, ol + k2 * 4, none⟩ : Addr)) (P.length - k2) (P.length - k2)] 35)).drew) (BQ.out.grow (bel_alloc (bel_alloc (Below.refl z.heap.size z) (.cells #[.slice (some ⟨gx, ox, none⟩) x.l.length cx, .int .i64 x.s, .int .i64 x.e, .string x.n] 27)) (.cells #[.slice (some ⟨gl, ol, none⟩) k1 k1, .slice (some ⟨z.heap.size, 0, none⟩) 1 1, .slice (if P.length = k2 then some (⟨gl, ol, none⟩ : Addr) else some (⟨gl, ol + k2 * 4, none⟩ : Addr)) (P.length - k2) (P.length - k2)] 35)).drew)) (fun hHeld => ?_)
  clear hK K
  try go_frame
  generalize hW2 : ((z.alloc (.cells #[.slice (some ⟨gx, ox, none⟩) x.l.length cx, .int .i64 x.s, .int .i64 x.e, .string x.n] 27)).alloc (.cells #[.slice (some ⟨gl, ol, none⟩) k1 k1, .slice (some ⟨z.heap.size, 0, none⟩) 1 1, .slice (if P.length = k2 then some (⟨gl, ol, none⟩ : Addr) else some (⟨gl, ol + k2 * 4, none⟩ : Addr)) (P.length - k2) (P.length - k2)] 35)).drew = W2 at *
  have ZW : Hid (Below z.heap.size z W2) := by rw [← hW2]; exact (bel_alloc (bel_alloc (Below.refl z.heap.size z) (.cells #[.slice (some ⟨gx, ox, none⟩) x.l.length cx, .int .i64 x.s, .int .i64 x.e, .string x.n] 27)) (.cells #[.slice (some ⟨gl, ol, none⟩) k1 k1, .slice (some ⟨z.heap.size, 0, none⟩) 1 1, .slice (if P.length = k2 then some (⟨gl, ol, none⟩ : Addr) else some (⟨gl, ol + k2 * 4, none⟩ : Addr)) (P.length - k2) (P.length - k2)] 35)).drew
  have NX : Hid (Blk W2 z.heap.size #[.slice (some ⟨gx, ox, none⟩) x.l.length cx, .int .i64 x.s, .int .i64 x.e, .string x.n] 27) := by rw [← hW2]; exact ((Blk.new z _ _).alloc _).drew
  have NP : Hid (Blk W2 (z.heap.size + 1) #[.slice (some ⟨gl, ol, none⟩) k1 k1, .slice (some ⟨z.heap.size, 0, none⟩) 1 1, .slice (if P.length = k2 then some (⟨gl, ol, none⟩ : Addr) else some (⟨gl, ol + k2 * 4, none⟩ : Addr)) (P.length - k2) (P.length - k2)] 35) := by rw [← hW2]; exact (Blk.new_at (by simp)).drew
  have HP : Hid (Pcs W2 (some ⟨z.heap.size + 1, 0, none⟩) (piecesJ gl ol k1 (if P.length = k2 then some (⟨gl, ol, none⟩ : Addr) else some (⟨gl, ol + k2 * 4, none⟩ : Addr)) z.heap.size k2 P x)) := by
    have hrw : RdN W2 (some ⟨gl, ol, none⟩) P := HR.out.1.below (grow_on HB.out ZW.out)
    refine ⟨.inr ⟨z.heap.size + 1, 0, rfl, NP.out.lt, fun i hi => ?_⟩, fun y hy => ?_⟩
    · have hi3 : i < 3 := hi
      have e1 : (P.take k1).length = k1 := by rw [List.length_take]; omega
      match i, hi3 with
      | 0, _ => have h := NP.out.cell 0; simp at h; rw [h]; simp [piecesJ, nthQ, pcV, e1]
      | 1, _ => have h := NP.out.cell 1; simp at h; rw [h]; simp [piecesJ, nthQ, pcV]
      | 2, _ => have h := NP.out.cell 2; simp at h; rw [h]; simp [piecesJ, nthQ, pcV]
    · simp only [piecesJ, List.mem_cons, List.not_mem_nil, or_false] at hy
      rcases hy with rfl | rfl | rfl
      · exact ⟨rd_take hrw, lenM_take k1 HR.out.2⟩
      · exact ⟨rd_one NX.out (HX.out.1.below (grow_on HB.out ZW.out)), lenM_one HX.out.2⟩
      · refine ⟨?_, lenM_drop k2 HR.out.2⟩
        show RdA W2 (if P.length = k2 then some (⟨gl, ol, none⟩ : Addr) else some (⟨gl, ol + k2 * 4, none⟩ : Addr)) (P.drop k2)
        split
        · exact .inl (List.drop_eq_nil_of_le (by omega))
        · exact (rdn_drop k2 hrw).rd
  have HC : Hid (Calls Tryz.prog 61 #[.agg #[.int .i64 n, .slice (some ⟨gk, ok, none⟩) key.length kc, .int .i64 b, .int .i64 t, .slice (some ⟨gl, ol, none⟩) P.length cap], .slice (some ⟨z.heap.size + 1, 0, none⟩) 3 3] W2 fun e w' => (∃ Ke M rs, e = .returned (.agg #[.int .i64 n, .slice (some ⟨Ke, 0, none⟩) key.length key.length, .int .i64 b, .int .i64 t, .slice (some ⟨M, 0, none⟩) rs.length rs.length]) ∧ GB W2.heap.size w' Ke key M 0 rs ∧ AB W2.heap.size w' M rs.length rs ∧ pals rs = upto (piecesJ gl ol k1 (if P.length = k2 then some (⟨gl, ol, none⟩ : Addr) else some (⟨gl, ol + k2 * 4, none⟩ : Addr)) z.heap.size k2 P x) 3) ∧ Below W2.heap.size W2 w') :=
    withA_any n b t gk ok kc key (some ⟨gl, ol, none⟩) P.length cap (some ⟨z.heap.size + 1, 0, none⟩) 3 (piecesJ gl ol k1 (if P.length = k2 then some (⟨gl, ol, none⟩ : Addr) else some (⟨gl, ol + k2 * 4, none⟩ : Addr)) z.heap.size k2 P x) W2 (HK.out.below (grow_on HB.out ZW.out)) hkl HP.out (by show 3 ≤ 1000; omega) (by show (upto (piecesJ gl ol k1 (if P.length = k2 then some (⟨gl, ol, none⟩ : Addr) else some (⟨gl, ol + k2 * 4, none⟩ : Addr)) z.heap.size k2 P x) 3).length ≤ 3000000; rw [upto_J, List.length_append, List.length_cons, List.length_take, List.length_drop]; have := Nat.min_le_right k1 P.length; omega) (fun y hy => by
      simp only [piecesJ, List.mem_cons, List.not_mem_nil, or_false] at hy
      rcases hy with rfl | rfl | rfl
      · show (P.take k1).length ≤ 1048576; simp; omega
      · show 1 ≤ 1048576; omega
      · show (P.drop k2).length ≤ 1048576; simp; omega)
  rw [upto_J, ← HJ.out] at HC
  clear hW2 HP NX NP
  refine rd1 15 ⟨some 34, .call { callee := .value (.func 61), args := #[.tmp 19, .tmp 33], argTypes := #[53, 113] }, 53, "l11_group.go:58", #[⟨0, .data⟩, ⟨14, .data⟩], none⟩ (fun K hK => ?_)
  go_simp
  refine (HC.out).mono ?_
  rintro r wyjn15 ⟨⟨Ke, M, rs, rfl, hG, hA, hP⟩, hb5⟩
  have Z5 : Hid (Below z.heap.size z wyjn15) := grow_on ZW.out hb5
  have HG : Hid (GA z.heap.size wyjn15 Ke key M rs ∧ pals rs = joinG P x) := ⟨⟨hG.key.down ZW.out.size, hA.down ZW.out.size, hG.ne⟩, hP⟩
  have BR5 : Hid (Blk wyjn15 (w.heap.size + 1 + 1) #[.int .i64 0, .slice none 0 0, .int .i64 0, .int .i64 0, .slice none 0 0] 53) := BR.out.grow Z5.out
  clear hG hA hP hb5 HC
  clear hHeld
  refine hK.out _ _ (HS.out _ (BP.out.grow Z5.out) (BQ.out.grow Z5.out)) (fun hHeld => ?_)
  clear hK K
  try go_frame
  refine rd1 16 ⟨none, .store 53 (.tmp 4) (.tmp 34), 0, "l11_group.go:58", #[⟨15, .data⟩, ⟨15, .chain⟩, ⟨0, .phase⟩, ⟨1, .phase⟩, ⟨2, .phase⟩, ⟨3, .phase⟩, ⟨4, .phase⟩, ⟨5, .phase⟩, ⟨6, .phase⟩, ⟨7, .phase⟩, ⟨8, .phase⟩, ⟨9, .phase⟩, ⟨10, .phase⟩, ⟨11, .phase⟩, ⟨12, .phase⟩, ⟨13, .phase⟩, ⟨14, .phase⟩, ⟨15, .phase⟩], none⟩ (fun K hK => ?_)
  have r0 := BR5.out.cell 0
  have fr0 := BR5.out.frozen 0
  have r1 := BR5.out.cell 1
  have fr1 := BR5.out.frozen 1
  have r2 := BR5.out.cell 2
  have fr2 := BR5.out.frozen 2
  have r3 := BR5.out.cell 3
  have fr3 := BR5.out.frozen 3
  have r4 := BR5.out.cell 4
  have fr4 := BR5.out.frozen 4
  simp at r0 r1 r2 r3 r4
  go_simp
  clear hHeld
  refine hK.out _ _ (HS.out _ ((((((BP.out.grow Z5.out).set_other (p := ⟨(w.heap.size + 1 + 1), 0, none⟩) (by show (w.heap.size + 1 + 1) ≠ w.heap.size; omega) (.int .i64 n)).set_other (p := ⟨(w.heap.size + 1 + 1), 1, none⟩) (by show (w.heap.size + 1 + 1) ≠ w.heap.size; omega) (.slice (some ⟨Ke, 0, none⟩) key.length key.length)).set_other (p := ⟨(w.heap.size + 1 + 1), 2, none⟩) (by show (w.heap.size + 1 + 1) ≠ w.heap.size; omega) (.int .i64 b)).set_other (p := ⟨(w.heap.size + 1 + 1), 3, none⟩) (by show (w.heap.size + 1 + 1) ≠ w.heap.size; omega) (.int .i64 t)).set_other (p := ⟨(w.heap.size + 1 + 1), 4, none⟩) (by show (w.heap.size + 1 + 1) ≠ w.heap.size; omega) (.slice (some ⟨M, 0, none⟩) rs.length rs.length)) ((((((BQ.out.grow Z5.out).set_other (p := ⟨(w.heap.size + 1 + 1), 0, none⟩) (by show (w.heap.size + 1 + 1) ≠ (w.heap.size + 1); omega) (.int .i64 n)).set_other (p := ⟨(w.heap.size + 1 + 1), 1, none⟩) (by show (w.heap.size + 1 + 1) ≠ (w.heap.size + 1); omega) (.slice (some ⟨Ke, 0, none⟩) key.length key.length)).set_other (p := ⟨(w.heap.size + 1 + 1), 2, none⟩) (by show (w.heap.size + 1 + 1) ≠ (w.heap.size + 1); omega) (.int .i64 b)).set_other (p := ⟨(w.heap.size + 1 + 1), 3, none⟩) (by show (w.heap.size + 1 + 1) ≠ (w.heap.size + 1); omega) (.int .i64 t)).set_other (p := ⟨(w.heap.size + 1 + 1), 4, none⟩) (by show (w.heap.size + 1 + 1) ≠ (w.heap.size + 1); omega) (.slice (some ⟨M, 0, none⟩) rs.length rs.length))) (fun hHeld => ?_)
  clear hK K
  try go_frame
  clear r0 fr0 r1 fr1 r2 fr2 r3 fr3 r4 fr4
  refine wpAnyH_done (by kernel_rfl) ?_ _
  clear hHeld
  generalize (if P.length = k2 then some (⟨gl, ol, none⟩ : Addr) else some (⟨gl, ol + k2 * 4, none⟩ : Addr)) = bb at *
  go_wp2_with fail
  have hR : Blk _ (w.heap.size + 1 + 1) #[.int .i64 n, .slice (some ⟨Ke, 0, none⟩) key.length key.length, .int .i64 b, .int .i64 t, .slice (some ⟨M, 0, none⟩) rs.length rs.length] 53 := (((((BR5.out.set 0 (.int .i64 n)).set 1 (.slice (some ⟨Ke, 0, none⟩) key.length key.length)).set 2 (.int .i64 b)).set 3 (.int .i64 t)).set 4 (.slice (some ⟨M, 0, none⟩) rs.length rs.length))
  have s0 := hR.cell 0
  have s1 := hR.cell 1
  have s2 := hR.cell 2
  have s3 := hR.cell 3
  have s4 := hR.cell 4
  refine bodyPost_ret (v := .agg #[.int .i64 n, .slice (some ⟨Ke, 0, none⟩) key.length key.length, .int .i64 b, .int .i64 t, .slice (some ⟨M, 0, none⟩) rs.length rs.length]) (by simp [results, Tryz.results32, go_sem, s0, s1, s2, s3, s4]) rfl ?_
  exact ⟨⟨Ke, key.length, M, 0, rs.length, rs, rfl, ((((((HG.out.1.set BR5.out (by decide) (by decide) 0 (.int .i64 n)).set (BR5.out.set 0 (.int .i64 n)) (by decide) (by decide) 1 (.slice (some ⟨Ke, 0, none⟩) key.length key.length)).set ((BR5.out.set 0 (.int .i64 n)).set 1 (.slice (some ⟨Ke, 0, none⟩) key.length key.length)) (by decide) (by decide) 2 (.int .i64 b)).set (((BR5.out.set 0 (.int .i64 n)).set 1 (.slice (some ⟨Ke, 0, none⟩) key.length key.length)).set 2 (.int .i64 b)) (by decide) (by decide) 3 (.int .i64 t)).set ((((BR5.out.set 0 (.int .i64 n)).set 1 (.slice (some ⟨Ke, 0, none⟩) key.length key.length)).set 2 (.int .i64 b)).set 3 (.int .i64 t)) (by decide) (by decide) 4 (.slice (some ⟨M, 0, none⟩) rs.length rs.length)).gb).down (by have := HL.out; omega), HG.out.2⟩, (set_low (set_low (set_low (set_low (set_low (grow_on HB.out Z5.out) (M := (w.heap.size + 1 + 1)) (by omega) 0 (.int .i64 n)) (M := (w.heap.size + 1 + 1)) (by omega) 1 (.slice (some ⟨Ke, 0, none⟩) key.length key.length)) (M := (w.heap.size + 1 + 1)) (by omega) 2 (.int .i64 b)) (M := (w.heap.size + 1 + 1)) (by omega) 3 (.int .i64 t)) (M := (w.heap.size + 1 + 1)) (by omega) 4 (.slice (some ⟨M, 0, none⟩) rs.length rs.length))⟩
theorem lenM_left {P : List PAl} {now : Int} (h : LenM P) : ∀ k, LenM (leftTo P now k) := fun k i hi => by
  have hm : nthP (leftTo P now k) i ∈ leftTo P now k := by rw [nthP_eq hi]; exact List.getElem_mem _
  have hm2 : nthP (leftTo P now k) i ∈ P := by
    unfold leftTo at hm
    exact List.mem_of_mem_take (List.mem_filter.1 hm).1
  obtain ⟨j, hj, e⟩ := List.getElem_of_mem hm2
  have := h j hj
  rwa [nthP_eq hj, e] at this
set_option maxRecDepth 100000 in
set_option maxHeartbeats 6400000 in
theorem implFlush_any (n b t : Int) (gk ok kc : Nat) (key : List Lab) (a : Option Addr) (cap : Nat) (P : List PAl) (now : Int) (w : World) (hk : Reads w (some ⟨gk, ok, none⟩) key) (hkl : key.length ≤ 1048576) (hr : RdN w a P) (hl : P.length ≤ 1048576) (hs : LenM P) :
    Calls Tryz.prog 39 #[.agg #[.int .i64 n, .slice (some ⟨gk, ok, none⟩) key.length kc, .int .i64 b, .int .i64 t, .slice a P.length cap], .int .i64 now] w fun e w' => (∃ Ke kd M o c rs K2 kd2 M2 o2 c2 rs2, e = .returned (.tuple #[.agg #[.int .i64 n, .slice (some ⟨Ke, 0, none⟩) key.length kd, .int .i64 b, .int .i64 now, .slice (some ⟨M, o, none⟩) rs.length c], .agg #[.int .i64 n, .slice (some ⟨K2, 0, none⟩) key.length kd2, .int .i64 now, .slice (some ⟨M2, o2, none⟩) rs2.length c2]]) ∧ GB w.heap.size w' Ke key M o rs ∧ pals rs = leftTo P now P.length ∧ GB w.heap.size w' K2 key M2 o2 rs2 ∧ pals rs2 = P ∧ ∀ k, gblks Ke M rs k → ¬ gblks K2 M2 rs2 k) ∧ Below w.heap.size w w' := by
  have HK : Hid (Reads w (some ⟨gk, ok, none⟩) key) := hk
  have HR : Hid (RdN w a P ∧ LenM P) := ⟨hr, hs⟩
  clear hk hr hs
  generalize hz : (((w.alloc (.cells #[.int .i64 n, .slice (some ⟨gk, ok, none⟩) key.length kc, .int .i64 b, .int .i64 t, .slice a P.length cap] 53)).alloc (.cells #[.int .i64 now] 3)).alloc (.cells #[.int .i64 0, .slice none 0 0, .int .i64 0, .int .i64 0, .slice none 0 0] 53)).alloc (.cells #[.int .i64 0, .slice none 0 0, .int .i64 0, .slice none 0 0] 37) = z
  have HB : Hid (Below w.heap.size w z) := by rw [← hz]; exact (Alm.below3 w _ _ _).alloc (by simp; omega) _
  have BP : Hid (Blk z w.heap.size #[.int .i64 n, .slice (some ⟨gk, ok, none⟩) key.length kc, .int .i64 b, .int .i64 t, .slice a P.length cap] 53) := by rw [← hz]; exact (((Blk.new _ _ _).alloc _).alloc _).alloc _
  have BN : Hid (Blk z (w.heap.size + 1) #[.int .i64 now] 3) := by rw [← hz]; exact ((Blk.new_at (by simp)).alloc _).alloc _
  have BR : Hid (Blk z (w.heap.size + 1 + 1) #[.int .i64 0, .slice none 0 0, .int .i64 0, .int .i64 0, .slice none 0 0] 53) := by rw [← hz]; exact (Blk.new_at (by simp)).alloc _
  have BS : Hid (Blk z (w.heap.size + 1 + 1 + 1) #[.int .i64 0, .slice none 0 0, .int .i64 0, .slice none 0 0] 37) := by rw [← hz]; exact Blk.new_at (by simp)
  have HZ : Hid (z.heap.size = w.heap.size + 4) := by show _ = _; rw [← hz]; simp
  go_enter Tryz.func39, Tryz.ntmps39
  go_upto_region 1 with fail
  try rw [hz]
  clear hz
  have HS : Hid (∀ w', Blk w' w.heap.size #[.int .i64 n, .slice (some ⟨gk, ok, none⟩) key.length kc, .int .i64 b, .int .i64 t, .slice a P.length cap] 53 → w'.cell? ⟨w.heap.size, 0, none⟩ = some (.int .i64 n) ∧ w'.cell? ⟨w.heap.size, 1, none⟩ = some (.slice (some ⟨gk, ok, none⟩) key.length kc) ∧ w'.cell? ⟨w.heap.size, 2, none⟩ = some (.int .i64 b) ∧ w'.cell? ⟨w.heap.size, 3, none⟩ = some (.int .i64 t) ∧ w'.cell? ⟨w.heap.size, 4, none⟩ = some (.slice a P.length cap)) := fun w' h => ⟨h.cell 0, h.cell 1, h.cell 2, h.cell 3, h.cell 4⟩
  go_cut [6] from 7 to 13 (fun s6 wx => ∃ (N Ke M : Nat) (rs : List ARow), s6 = .pointer (some ⟨N, 0, none⟩) ∧ Blk wx N #[.int .i64 n, .slice (some ⟨Ke, 0, none⟩) key.length key.length, .int .i64 b, .int .i64 t, .slice (some ⟨M, 0, none⟩) rs.length rs.length] 53 ∧ GA z.heap.size wx Ke key M rs ∧ pals rs = (leftTo P now P.length) ∧ z.heap.size ≤ N ∧ Below z.heap.size z wx)
  case first =>
    refine wp_region_held_drew (S := fun w' => w'.cell? ⟨w.heap.size, 0, none⟩ = some (.int .i64 n) ∧ w'.cell? ⟨w.heap.size, 1, none⟩ = some (.slice (some ⟨gk, ok, none⟩) key.length kc) ∧ w'.cell? ⟨w.heap.size, 2, none⟩ = some (.int .i64 b) ∧ w'.cell? ⟨w.heap.size, 3, none⟩ = some (.int .i64 t) ∧ w'.cell? ⟨w.heap.size, 4, none⟩ = some (.slice a P.length cap)) (by kernel_rfl) (HS.out _ BP.out.drew) (fun hHeld => ?_)
    refine tk 0 ⟨some 7, .load 53 (.tmp 2), 53, "l11_group.go:104", #[], none⟩ hHeld ?_
    try go_frame
    refine tk 1 ⟨some 8, .fieldAddr 53 (.tmp 2) 4, 0, "l11_group.go:104", #[], none⟩ hHeld ?_
    try go_frame
    refine tk 2 ⟨some 9, .load 35 (.tmp 8), 35, "l11_group.go:104", #[⟨1, .data⟩], none⟩ hHeld ?_
    try go_frame
    refine tk 3 ⟨some 10, .makeFunc (.func 69) #[] #[.tmp 3], 96, "l11_group.go:104", #[], none⟩ hHeld ?_
    try go_frame
    refine wpAnyH_ready (rs := [4, 7]) (by kernel_rfl) (by simp) ?_
    refine AllReadyH.cons (o := ⟨some 11, .call { callee := .value (.func 68), args := #[.tmp 9, .tmp 10], argTypes := #[35, 96] }, 35, "l11_group.go:104", #[⟨2, .data⟩, ⟨3, .data⟩], none⟩) rfl (fun K hK => ?_) ?_
    ·
      go_simp
      refine (chosenA_any a (w.heap.size + 1) cap P now _ ((HR.out.1.below (grow_on HB.out (((Below.refl z.heap.size z))).drew)).rd) ((BN.out.grow (((Below.refl z.heap.size z))).drew).cell 0) hl).mono ?_
      rintro r wa ⟨⟨M0, c0, rfl, hA⟩, hb⟩
      have ZA : Hid (Below z.heap.size z wa) := grow_on (((Below.refl z.heap.size z))).drew hb
      have CH : Hid (RdA wa (some ⟨M0, 0, none⟩) (leftTo P now P.length)) := hA
      clear hA hb
      clear hHeld
      refine hK.out _ _ (HS.out _ (BP.out.grow ZA.out)) (fun hHeld => ?_)
      clear hK K
      try go_frame
      refine wpAnyH_ready (rs := [5, 7]) (by kernel_rfl) (by simp) ?_
      refine AllReadyH.cons (o := ⟨some 12, .buildSlice 113 1 #[(0, .tmp 11)], 113, "l11_group.go:104", #[⟨4, .data⟩], none⟩) rfl (fun K hK => ?_) ?_
      ·
        go_simp
        clear hHeld
        refine hK.out _ _ (HS.out _ (BP.out.grow (bel_alloc (ZA.out) (.cells #[.slice (some ⟨M0, 0, none⟩) (leftTo P now P.length).length c0] 35)))) (fun hHeld => ?_)
        clear hK K
        try go_frame
        generalize hwb : wa.alloc (.cells #[.slice (some ⟨M0, 0, none⟩) (leftTo P now P.length).length c0] 35) = wb at *
        have ZBb : Hid (Below z.heap.size z wb) := by rw [← hwb]; exact (bel_alloc (ZA.out) (.cells #[.slice (some ⟨M0, 0, none⟩) (leftTo P now P.length).length c0] 35))
        have CP : Hid (Pcs wb (some ⟨wa.heap.size, 0, none⟩) [(some ⟨M0, 0, none⟩, c0, (leftTo P now P.length))]) := by
          have hnb : Blk wb (wa.heap.size) #[.slice (some ⟨M0, 0, none⟩) (leftTo P now P.length).length c0] 35 := by rw [← hwb]; exact Blk.new_at (by simp)
          have hup : Below wa.heap.size wa wb := by rw [← hwb]; exact (bel_alloc (Below.refl _ _) _)
          refine ⟨.inr ⟨wa.heap.size, 0, rfl, hnb.lt, fun i hi => ?_⟩, fun y hy => ?_⟩
          · have : i = 0 := by simpa using hi
            subst this
            have h := hnb.cell 0
            simp at h
            rw [h]; simp [nthQ, pcV]
          · rw [List.mem_singleton.1 hy]
            exact ⟨CH.out.below hup, lenM_left HR.out.2 _⟩
        clear CH hwb
        refine wpAnyH_ready (rs := [6, 7]) (by kernel_rfl) (by simp) ?_
        refine AllReadyH.cons (o := ⟨some 13, .call { callee := .value (.func 61), args := #[.tmp 7, .tmp 12], argTypes := #[53, 113] }, 53, "l11_group.go:104", #[⟨0, .data⟩, ⟨5, .data⟩, ⟨4, .chain⟩], none⟩) rfl (fun K hK => ?_) ?_
        ·
          go_simp
          refine (withA_any n b t gk ok kc key a P.length cap (some ⟨wa.heap.size, 0, none⟩) 1 [(some ⟨M0, 0, none⟩, c0, (leftTo P now P.length))] _ (HK.out.below (grow_on HB.out (ZBb.out))) hkl (CP.out.below (Below.refl _ _)) (by show 1 ≤ 1000; omega) (by show (upto [(some ⟨M0, 0, none⟩, c0, (leftTo P now P.length))] 1).length ≤ 3000000; rw [upto_one]; have := GrpF.left_le (P := P) (now := now) (Nat.le_refl _); show (leftTo P now P.length).length ≤ 3000000; omega) (fun y hy => by rw [List.mem_singleton.1 hy]; have := GrpF.left_le (P := P) (now := now) (Nat.le_refl _); show (leftTo P now P.length).length ≤ 1048576; omega)).mono ?_
          rintro r wc ⟨⟨Ke, M, rs, rfl, hG, hA, hP⟩, hb⟩
          have ZC : Hid (Below z.heap.size z wc) := grow_on (ZBb.out) hb
          have HG : Hid (GA z.heap.size wc Ke key M rs ∧ pals rs = (leftTo P now P.length)) := ⟨⟨hG.key.down (ZBb.out).size, hA.down (ZBb.out).size, hG.ne⟩, hP.trans (upto_one _)⟩
          clear hG hA hP hb CP
          clear hHeld
          refine hK.out _ _ (HS.out _ (BP.out.grow ZC.out)) (fun hHeld => ?_)
          clear hK K
          try go_frame
          refine rd1 7 ⟨some 6, .alloc 53, 0, "l11_group.go:104", #[], none⟩ (fun K hK => ?_)
          go_simp
          clear hHeld
          refine hK.out _ _ (HS.out _ (BP.out.grow (bel_alloc ZC.out (.cells #[.int .i64 0, .slice none 0 0, .int .i64 0, .int .i64 0, .slice none 0 0] 53)))) (fun hHeld => ?_)
          clear hK K
          try go_frame
          refine rd1 8 ⟨none, .store 53 (.tmp 6) (.tmp 13), 0, "l11_group.go:104", #[⟨7, .data⟩, ⟨6, .data⟩, ⟨6, .chain⟩, ⟨0, .phase⟩, ⟨1, .phase⟩, ⟨2, .phase⟩, ⟨3, .phase⟩, ⟨4, .phase⟩, ⟨5, .phase⟩, ⟨6, .phase⟩, ⟨7, .phase⟩], none⟩ (fun K hK => ?_)
          go_simp
          clear hHeld
          refine hK.out _ _ (HS.out _ (BP.out.grow (bel_alloc ZC.out (.cells #[.int .i64 n, .slice (some ⟨Ke, 0, none⟩) key.length key.length, .int .i64 b, .int .i64 t, .slice (some ⟨M, 0, none⟩) rs.length rs.length] 53)))) (fun hHeld => ?_)
          clear hK K
          try go_frame
          refine wpAnyH_done (by kernel_rfl) ?_ _
          clear hHeld
          go_wp2_with fail
          go_meet
          exact ⟨_, Ke, M, rs, rfl, Blk.new _ _ _, HG.out.1.grow (Go.Joins.below_alloc1 wc _), HG.out.2, ZC.out.size, bel_alloc ZC.out _⟩
        refine AllReadyH.cons (o := ⟨some 6, .alloc 53, 0, "l11_group.go:104", #[], none⟩) rfl (fun K hK => ?_) AllReadyH.nil
        go_simp
        clear hHeld
        refine hK.out _ _ (HS.out _ (BP.out.grow (bel_alloc ZBb.out (.cells #[.int .i64 0, .slice none 0 0, .int .i64 0, .int .i64 0, .slice none 0 0] 53)))) (fun hHeld => ?_)
        clear hK K
        try go_frame
        refine rd1 6 ⟨some 13, .call { callee := .value (.func 61), args := #[.tmp 7, .tmp 12], argTypes := #[53, 113] }, 53, "l11_group.go:104", #[⟨0, .data⟩, ⟨5, .data⟩, ⟨4, .chain⟩], none⟩ (fun K hK => ?_)
        go_simp
        refine (withA_any n b t gk ok kc key a P.length cap (some ⟨wa.heap.size, 0, none⟩) 1 [(some ⟨M0, 0, none⟩, c0, (leftTo P now P.length))] _ (HK.out.below (grow_on HB.out (bel_alloc ZBb.out (.cells #[.int .i64 0, .slice none 0 0, .int .i64 0, .int .i64 0, .slice none 0 0] 53)))) hkl (CP.out.below (bel_alloc (Below.refl _ _) (.cells #[.int .i64 0, .slice none 0 0, .int .i64 0, .int .i64 0, .slice none 0 0] 53))) (by show 1 ≤ 1000; omega) (by show (upto [(some ⟨M0, 0, none⟩, c0, (leftTo P now P.length))] 1).length ≤ 3000000; rw [upto_one]; have := GrpF.left_le (P := P) (now := now) (Nat.le_refl _); show (leftTo P now P.length).length ≤ 3000000; omega) (fun y hy => by rw [List.mem_singleton.1 hy]; have := GrpF.left_le (P := P) (now := now) (Nat.le_refl _); show (leftTo P now P.length).length ≤ 1048576; omega)).mono ?_
        rintro r wc ⟨⟨Ke, M, rs, rfl, hG, hA, hP⟩, hb⟩
        have ZC : Hid (Below z.heap.size z wc) := grow_on (bel_alloc ZBb.out (.cells #[.int .i64 0, .slice none 0 0, .int .i64 0, .int .i64 0, .slice none 0 0] 53)) hb
        have HG : Hid (GA z.heap.size wc Ke key M rs ∧ pals rs = (leftTo P now P.length)) := ⟨⟨hG.key.down (bel_alloc ZBb.out (.cells #[.int .i64 0, .slice none 0 0, .int .i64 0, .int .i64 0, .slice none 0 0] 53)).size, hA.down (bel_alloc ZBb.out (.cells #[.int .i64 0, .slice none 0 0, .int .i64 0, .int .i64 0, .slice none 0 0] 53)).size, hG.ne⟩, hP.trans (upto_one _)⟩
        have NBX : Hid (Blk wc wb.heap.size #[.int .i64 0, .slice none 0 0, .int .i64 0, .int .i64 0, .slice none 0 0] 53) := (Blk.new wb _ _).grow hb
        clear hG hA hP hb CP
        clear hHeld
        refine hK.out _ _ (HS.out _ (BP.out.grow ZC.out)) (fun hHeld => ?_)
        clear hK K
        try go_frame
        refine rd1 8 ⟨none, .store 53 (.tmp 6) (.tmp 13), 0, "l11_group.go:104", #[⟨7, .data⟩, ⟨6, .data⟩, ⟨6, .chain⟩, ⟨0, .phase⟩, ⟨1, .phase⟩, ⟨2, .phase⟩, ⟨3, .phase⟩, ⟨4, .phase⟩, ⟨5, .phase⟩, ⟨6, .phase⟩, ⟨7, .phase⟩], none⟩ (fun K hK => ?_)
        have n0' := NBX.out.cell 0
        have m0' := NBX.out.frozen 0
        have n1' := NBX.out.cell 1
        have m1' := NBX.out.frozen 1
        have n2' := NBX.out.cell 2
        have m2' := NBX.out.frozen 2
        have n3' := NBX.out.cell 3
        have m3' := NBX.out.frozen 3
        have n4' := NBX.out.cell 4
        have m4' := NBX.out.frozen 4
        simp at n0' n1' n2' n3' n4'
        go_simp
        clear n0' m0' n1' m1' n2' m2' n3' m3' n4' m4'
        have hzz := (set_low (set_low (set_low (set_low (set_low ZC.out (M := wb.heap.size) (ZBb.out.size) 0 (.int .i64 n)) (M := wb.heap.size) (ZBb.out.size) 1 (.slice (some ⟨Ke, 0, none⟩) key.length key.length)) (M := wb.heap.size) (ZBb.out.size) 2 (.int .i64 b)) (M := wb.heap.size) (ZBb.out.size) 3 (.int .i64 t)) (M := wb.heap.size) (ZBb.out.size) 4 (.slice (some ⟨M, 0, none⟩) rs.length rs.length))
        clear hHeld
        refine hK.out _ _ (HS.out _ (BP.out.grow hzz)) (fun hHeld => ?_)
        clear hK K
        try go_frame
        clear hzz
        refine wpAnyH_done (by kernel_rfl) ?_ _
        clear hHeld
        go_wp2_with fail
        go_meet
        exact ⟨_, Ke, M, rs, rfl, (((((NBX.out.set 0 (.int .i64 n)).set 1 (.slice (some ⟨Ke, 0, none⟩) key.length key.length)).set 2 (.int .i64 b)).set 3 (.int .i64 t)).set 4 (.slice (some ⟨M, 0, none⟩) rs.length rs.length)), (((((HG.out.1.set NBX.out (by decide) (by decide) 0 (.int .i64 n)).set (NBX.out.set 0 (.int .i64 n)) (by decide) (by decide) 1 (.slice (some ⟨Ke, 0, none⟩) key.length key.length)).set ((NBX.out.set 0 (.int .i64 n)).set 1 (.slice (some ⟨Ke, 0, none⟩) key.length key.length)) (by decide) (by decide) 2 (.int .i64 b)).set (((NBX.out.set 0 (.int .i64 n)).set 1 (.slice (some ⟨Ke, 0, none⟩) key.length key.length)).set 2 (.int .i64 b)) (by decide) (by decide) 3 (.int .i64 t)).set ((((NBX.out.set 0 (.int .i64 n)).set 1 (.slice (some ⟨Ke, 0, none⟩) key.length key.length)).set 2 (.int .i64 b)).set 3 (.int .i64 t)) (by decide) (by decide) 4 (.slice (some ⟨M, 0, none⟩) rs.length rs.length)), HG.out.2, ZBb.out.size, (set_low (set_low (set_low (set_low (set_low ZC.out (M := wb.heap.size) (ZBb.out.size) 0 (.int .i64 n)) (M := wb.heap.size) (ZBb.out.size) 1 (.slice (some ⟨Ke, 0, none⟩) key.length key.length)) (M := wb.heap.size) (ZBb.out.size) 2 (.int .i64 b)) (M := wb.heap.size) (ZBb.out.size) 3 (.int .i64 t)) (M := wb.heap.size) (ZBb.out.size) 4 (.slice (some ⟨M, 0, none⟩) rs.length rs.length))⟩
      refine AllReadyH.cons (o := ⟨some 6, .alloc 53, 0, "l11_group.go:104", #[], none⟩) rfl (fun K hK => ?_) AllReadyH.nil
      go_simp
      clear hHeld
      refine hK.out _ _ (HS.out _ (BP.out.grow (bel_alloc ZA.out (.cells #[.int .i64 0, .slice none 0 0, .int .i64 0, .int .i64 0, .slice none 0 0] 53)))) (fun hHeld => ?_)
      clear hK K
      try go_frame
      refine rd1 5 ⟨some 12, .buildSlice 113 1 #[(0, .tmp 11)], 113, "l11_group.go:104", #[⟨4, .data⟩], none⟩ (fun K hK => ?_)
      go_simp
      clear hHeld
      refine hK.out _ _ (HS.out _ (BP.out.grow (bel_alloc (bel_alloc ZA.out (.cells #[.int .i64 0, .slice none 0 0, .int .i64 0, .int .i64 0, .slice none 0 0] 53)) (.cells #[.slice (some ⟨M0, 0, none⟩) (leftTo P now P.length).length c0] 35)))) (fun hHeld => ?_)
      clear hK K
      try go_frame
      generalize hwb : (wa.alloc (.cells #[.int .i64 0, .slice none 0 0, .int .i64 0, .int .i64 0, .slice none 0 0] 53)).alloc (.cells #[.slice (some ⟨M0, 0, none⟩) (leftTo P now P.length).length c0] 35) = wb at *
      have ZBb : Hid (Below z.heap.size z wb) := by rw [← hwb]; exact (bel_alloc (bel_alloc ZA.out (.cells #[.int .i64 0, .slice none 0 0, .int .i64 0, .int .i64 0, .slice none 0 0] 53)) (.cells #[.slice (some ⟨M0, 0, none⟩) (leftTo P now P.length).length c0] 35))
      have CP : Hid (Pcs wb (some ⟨wa.heap.size + 1, 0, none⟩) [(some ⟨M0, 0, none⟩, c0, (leftTo P now P.length))]) := by
        have hnb : Blk wb (wa.heap.size + 1) #[.slice (some ⟨M0, 0, none⟩) (leftTo P now P.length).length c0] 35 := by rw [← hwb]; exact Blk.new_at (by simp)
        have hup : Below wa.heap.size wa wb := by rw [← hwb]; exact (bel_alloc (bel_alloc (Below.refl _ _) _) _)
        refine ⟨.inr ⟨wa.heap.size + 1, 0, rfl, hnb.lt, fun i hi => ?_⟩, fun y hy => ?_⟩
        · have : i = 0 := by simpa using hi
          subst this
          have h := hnb.cell 0
          simp at h
          rw [h]; simp [nthQ, pcV]
        · rw [List.mem_singleton.1 hy]
          exact ⟨CH.out.below hup, lenM_left HR.out.2 _⟩
      have NBX : Hid (Blk wb wa.heap.size #[.int .i64 0, .slice none 0 0, .int .i64 0, .int .i64 0, .slice none 0 0] 53) := by rw [← hwb]; exact ((Blk.new wa _ _)).alloc _
      clear CH hwb
      refine rd1 6 ⟨some 13, .call { callee := .value (.func 61), args := #[.tmp 7, .tmp 12], argTypes := #[53, 113] }, 53, "l11_group.go:104", #[⟨0, .data⟩, ⟨5, .data⟩, ⟨4, .chain⟩], none⟩ (fun K hK => ?_)
      go_simp
      refine (withA_any n b t gk ok kc key a P.length cap (some ⟨wa.heap.size + 1, 0, none⟩) 1 [(some ⟨M0, 0, none⟩, c0, (leftTo P now P.length))] _ (HK.out.below (grow_on HB.out (ZBb.out))) hkl (CP.out.below (Below.refl _ _)) (by show 1 ≤ 1000; omega) (by show (upto [(some ⟨M0, 0, none⟩, c0, (leftTo P now P.length))] 1).length ≤ 3000000; rw [upto_one]; have := GrpF.left_le (P := P) (now := now) (Nat.le_refl _); show (leftTo P now P.length).length ≤ 3000000; omega) (fun y hy => by rw [List.mem_singleton.1 hy]; have := GrpF.left_le (P := P) (now := now) (Nat.le_refl _); show (leftTo P now P.length).length ≤ 1048576; omega)).mono ?_
      rintro r wc ⟨⟨Ke, M, rs, rfl, hG, hA, hP⟩, hb⟩
      have ZC : Hid (Below z.heap.size z wc) := grow_on (ZBb.out) hb
      have HG : Hid (GA z.heap.size wc Ke key M rs ∧ pals rs = (leftTo P now P.length)) := ⟨⟨hG.key.down (ZBb.out).size, hA.down (ZBb.out).size, hG.ne⟩, hP.trans (upto_one _)⟩
      replace NBX : Hid (Blk wc wa.heap.size #[.int .i64 0, .slice none 0 0, .int .i64 0, .int .i64 0, .slice none 0 0] 53) := NBX.out.grow hb
      clear hG hA hP hb CP
      clear hHeld
      refine hK.out _ _ (HS.out _ (BP.out.grow ZC.out)) (fun hHeld => ?_)
      clear hK K
      try go_frame
      refine rd1 8 ⟨none, .store 53 (.tmp 6) (.tmp 13), 0, "l11_group.go:104", #[⟨7, .data⟩, ⟨6, .data⟩, ⟨6, .chain⟩, ⟨0, .phase⟩, ⟨1, .phase⟩, ⟨2, .phase⟩, ⟨3, .phase⟩, ⟨4, .phase⟩, ⟨5, .phase⟩, ⟨6, .phase⟩, ⟨7, .phase⟩], none⟩ (fun K hK => ?_)
      have n0' := NBX.out.cell 0
      have m0' := NBX.out.frozen 0
      have n1' := NBX.out.cell 1
      have m1' := NBX.out.frozen 1
      have n2' := NBX.out.cell 2
      have m2' := NBX.out.frozen 2
      have n3' := NBX.out.cell 3
      have m3' := NBX.out.frozen 3
      have n4' := NBX.out.cell 4
      have m4' := NBX.out.frozen 4
      simp at n0' n1' n2' n3' n4'
      go_simp
      clear n0' m0' n1' m1' n2' m2' n3' m3' n4' m4'
      have hzz := (set_low (set_low (set_low (set_low (set_low ZC.out (M := wa.heap.size) (ZA.out.size) 0 (.int .i64 n)) (M := wa.heap.size) (ZA.out.size) 1 (.slice (some ⟨Ke, 0, none⟩) key.length key.length)) (M := wa.heap.size) (ZA.out.size) 2 (.int .i64 b)) (M := wa.heap.size) (ZA.out.size) 3 (.int .i64 t)) (M := wa.heap.size) (ZA.out.size) 4 (.slice (some ⟨M, 0, none⟩) rs.length rs.length))
      clear hHeld
      refine hK.out _ _ (HS.out _ (BP.out.grow hzz)) (fun hHeld => ?_)
      clear hK K
      try go_frame
      clear hzz
      refine wpAnyH_done (by kernel_rfl) ?_ _
      clear hHeld
      go_wp2_with fail
      go_meet
      exact ⟨_, Ke, M, rs, rfl, (((((NBX.out.set 0 (.int .i64 n)).set 1 (.slice (some ⟨Ke, 0, none⟩) key.length key.length)).set 2 (.int .i64 b)).set 3 (.int .i64 t)).set 4 (.slice (some ⟨M, 0, none⟩) rs.length rs.length)), (((((HG.out.1.set NBX.out (by decide) (by decide) 0 (.int .i64 n)).set (NBX.out.set 0 (.int .i64 n)) (by decide) (by decide) 1 (.slice (some ⟨Ke, 0, none⟩) key.length key.length)).set ((NBX.out.set 0 (.int .i64 n)).set 1 (.slice (some ⟨Ke, 0, none⟩) key.length key.length)) (by decide) (by decide) 2 (.int .i64 b)).set (((NBX.out.set 0 (.int .i64 n)).set 1 (.slice (some ⟨Ke, 0, none⟩) key.length key.length)).set 2 (.int .i64 b)) (by decide) (by decide) 3 (.int .i64 t)).set ((((NBX.out.set 0 (.int .i64 n)).set 1 (.slice (some ⟨Ke, 0, none⟩) key.length key.length)).set 2 (.int .i64 b)).set 3 (.int .i64 t)) (by decide) (by decide) 4 (.slice (some ⟨M, 0, none⟩) rs.length rs.length)), HG.out.2, ZA.out.size, (set_low (set_low (set_low (set_low (set_low ZC.out (M := wa.heap.size) (ZA.out.size) 0 (.int .i64 n)) (M := wa.heap.size) (ZA.out.size) 1 (.slice (some ⟨Ke, 0, none⟩) key.length key.length)) (M := wa.heap.size) (ZA.out.size) 2 (.int .i64 b)) (M := wa.heap.size) (ZA.out.size) 3 (.int .i64 t)) (M := wa.heap.size) (ZA.out.size) 4 (.slice (some ⟨M, 0, none⟩) rs.length rs.length))⟩
    refine AllReadyH.cons (o := ⟨some 6, .alloc 53, 0, "l11_group.go:104", #[], none⟩) rfl (fun K hK => ?_) AllReadyH.nil
    go_simp
    clear hHeld
    refine hK.out _ _ (HS.out _ (BP.out.grow (bel_alloc (Below.refl z.heap.size z) (.cells #[.int .i64 0, .slice none 0 0, .int .i64 0, .int .i64 0, .slice none 0 0] 53)).drew)) (fun hHeld => ?_)
    clear hK K
    try go_frame
    refine rd1 4 ⟨some 11, .call { callee := .value (.func 68), args := #[.tmp 9, .tmp 10], argTypes := #[35, 96] }, 35, "l11_group.go:104", #[⟨2, .data⟩, ⟨3, .data⟩], none⟩ (fun K hK => ?_)
    go_simp
    refine (chosenA_any a (w.heap.size + 1) cap P now _ ((HR.out.1.below (grow_on HB.out ((bel_alloc (Below.refl z.heap.size z) (.cells #[.int .i64 0, .slice none 0 0, .int .i64 0, .int .i64 0, .slice none 0 0] 53))).drew)).rd) ((BN.out.grow ((bel_alloc (Below.refl z.heap.size z) (.cells #[.int .i64 0, .slice none 0 0, .int .i64 0, .int .i64 0, .slice none 0 0] 53))).drew).cell 0) hl).mono ?_
    rintro r wa ⟨⟨M0, c0, rfl, hA⟩, hb⟩
    have ZA : Hid (Below z.heap.size z wa) := grow_on ((bel_alloc (Below.refl z.heap.size z) (.cells #[.int .i64 0, .slice none 0 0, .int .i64 0, .int .i64 0, .slice none 0 0] 53))).drew hb
    have CH : Hid (RdA wa (some ⟨M0, 0, none⟩) (leftTo P now P.length)) := hA
    have NBX : Hid (Blk wa z.heap.size #[.int .i64 0, .slice none 0 0, .int .i64 0, .int .i64 0, .slice none 0 0] 53) := (Blk.new z.drew _ _).grow hb
    clear hA hb
    clear hHeld
    refine hK.out _ _ (HS.out _ (BP.out.grow ZA.out)) (fun hHeld => ?_)
    clear hK K
    try go_frame
    refine rd1 5 ⟨some 12, .buildSlice 113 1 #[(0, .tmp 11)], 113, "l11_group.go:104", #[⟨4, .data⟩], none⟩ (fun K hK => ?_)
    go_simp
    clear hHeld
    refine hK.out _ _ (HS.out _ (BP.out.grow (bel_alloc (ZA.out) (.cells #[.slice (some ⟨M0, 0, none⟩) (leftTo P now P.length).length c0] 35)))) (fun hHeld => ?_)
    clear hK K
    try go_frame
    generalize hwb : wa.alloc (.cells #[.slice (some ⟨M0, 0, none⟩) (leftTo P now P.length).length c0] 35) = wb at *
    have ZBb : Hid (Below z.heap.size z wb) := by rw [← hwb]; exact (bel_alloc (ZA.out) (.cells #[.slice (some ⟨M0, 0, none⟩) (leftTo P now P.length).length c0] 35))
    have CP : Hid (Pcs wb (some ⟨wa.heap.size, 0, none⟩) [(some ⟨M0, 0, none⟩, c0, (leftTo P now P.length))]) := by
      have hnb : Blk wb (wa.heap.size) #[.slice (some ⟨M0, 0, none⟩) (leftTo P now P.length).length c0] 35 := by rw [← hwb]; exact Blk.new_at (by simp)
      have hup : Below wa.heap.size wa wb := by rw [← hwb]; exact (bel_alloc (Below.refl _ _) _)
      refine ⟨.inr ⟨wa.heap.size, 0, rfl, hnb.lt, fun i hi => ?_⟩, fun y hy => ?_⟩
      · have : i = 0 := by simpa using hi
        subst this
        have h := hnb.cell 0
        simp at h
        rw [h]; simp [nthQ, pcV]
      · rw [List.mem_singleton.1 hy]
        exact ⟨CH.out.below hup, lenM_left HR.out.2 _⟩
    replace NBX : Hid (Blk wb z.heap.size #[.int .i64 0, .slice none 0 0, .int .i64 0, .int .i64 0, .slice none 0 0] 53) := by rw [← hwb]; exact (NBX.out).alloc _
    clear CH hwb
    refine rd1 6 ⟨some 13, .call { callee := .value (.func 61), args := #[.tmp 7, .tmp 12], argTypes := #[53, 113] }, 53, "l11_group.go:104", #[⟨0, .data⟩, ⟨5, .data⟩, ⟨4, .chain⟩], none⟩ (fun K hK => ?_)
    go_simp
    refine (withA_any n b t gk ok kc key a P.length cap (some ⟨wa.heap.size, 0, none⟩) 1 [(some ⟨M0, 0, none⟩, c0, (leftTo P now P.length))] _ (HK.out.below (grow_on HB.out (ZBb.out))) hkl (CP.out.below (Below.refl _ _)) (by show 1 ≤ 1000; omega) (by show (upto [(some ⟨M0, 0, none⟩, c0, (leftTo P now P.length))] 1).length ≤ 3000000; rw [upto_one]; have := GrpF.left_le (P := P) (now := now) (Nat.le_refl _); show (leftTo P now P.length).length ≤ 3000000; omega) (fun y hy => by rw [List.mem_singleton.1 hy]; have := GrpF.left_le (P := P) (now := now) (Nat.le_refl _); show (leftTo P now P.length).length ≤ 1048576; omega)).mono ?_
    rintro r wc ⟨⟨Ke, M, rs, rfl, hG, hA, hP⟩, hb⟩
    have ZC : Hid (Below z.heap.size z wc) := grow_on (ZBb.out) hb
    have HG : Hid (GA z.heap.size wc Ke key M rs ∧ pals rs = (leftTo P now P.length)) := ⟨⟨hG.key.down (ZBb.out).size, hA.down (ZBb.out).size, hG.ne⟩, hP.trans (upto_one _)⟩
    replace NBX : Hid (Blk wc z.heap.size #[.int .i64 0, .slice none 0 0, .int .i64 0, .int .i64 0, .slice none 0 0] 53) := NBX.out.grow hb
    clear hG hA hP hb CP
    clear hHeld
    refine hK.out _ _ (HS.out _ (BP.out.grow ZC.out)) (fun hHeld => ?_)
    clear hK K
    try go_frame
    refine rd1 8 ⟨none, .store 53 (.tmp 6) (.tmp 13), 0, "l11_group.go:104", #[⟨7, .data⟩, ⟨6, .data⟩, ⟨6, .chain⟩, ⟨0, .phase⟩, ⟨1, .phase⟩, ⟨2, .phase⟩, ⟨3, .phase⟩, ⟨4, .phase⟩, ⟨5, .phase⟩, ⟨6, .phase⟩, ⟨7, .phase⟩], none⟩ (fun K hK => ?_)
    have n0' := NBX.out.cell 0
    have m0' := NBX.out.frozen 0
    have n1' := NBX.out.cell 1
    have m1' := NBX.out.frozen 1
    have n2' := NBX.out.cell 2
    have m2' := NBX.out.frozen 2
    have n3' := NBX.out.cell 3
    have m3' := NBX.out.frozen 3
    have n4' := NBX.out.cell 4
    have m4' := NBX.out.frozen 4
    simp at n0' n1' n2' n3' n4'
    go_simp
    clear n0' m0' n1' m1' n2' m2' n3' m3' n4' m4'
    have hzz := (set_low (set_low (set_low (set_low (set_low ZC.out (M := z.heap.size) (Nat.le_refl _) 0 (.int .i64 n)) (M := z.heap.size) (Nat.le_refl _) 1 (.slice (some ⟨Ke, 0, none⟩) key.length key.length)) (M := z.heap.size) (Nat.le_refl _) 2 (.int .i64 b)) (M := z.heap.size) (Nat.le_refl _) 3 (.int .i64 t)) (M := z.heap.size) (Nat.le_refl _) 4 (.slice (some ⟨M, 0, none⟩) rs.length rs.length))
    clear hHeld
    refine hK.out _ _ (HS.out _ (BP.out.grow hzz)) (fun hHeld => ?_)
    clear hK K
    try go_frame
    clear hzz
    refine wpAnyH_done (by kernel_rfl) ?_ _
    clear hHeld
    go_wp2_with fail
    go_meet
    exact ⟨_, Ke, M, rs, rfl, (((((NBX.out.set 0 (.int .i64 n)).set 1 (.slice (some ⟨Ke, 0, none⟩) key.length key.length)).set 2 (.int .i64 b)).set 3 (.int .i64 t)).set 4 (.slice (some ⟨M, 0, none⟩) rs.length rs.length)), (((((HG.out.1.set NBX.out (by decide) (by decide) 0 (.int .i64 n)).set (NBX.out.set 0 (.int .i64 n)) (by decide) (by decide) 1 (.slice (some ⟨Ke, 0, none⟩) key.length key.length)).set ((NBX.out.set 0 (.int .i64 n)).set 1 (.slice (some ⟨Ke, 0, none⟩) key.length key.length)) (by decide) (by decide) 2 (.int .i64 b)).set (((NBX.out.set 0 (.int .i64 n)).set 1 (.slice (some ⟨Ke, 0, none⟩) key.length key.length)).set 2 (.int .i64 b)) (by decide) (by decide) 3 (.int .i64 t)).set ((((NBX.out.set 0 (.int .i64 n)).set 1 (.slice (some ⟨Ke, 0, none⟩) key.length key.length)).set 2 (.int .i64 b)).set 3 (.int .i64 t)) (by decide) (by decide) 4 (.slice (some ⟨M, 0, none⟩) rs.length rs.length)), HG.out.2, Nat.le_refl _, (set_low (set_low (set_low (set_low (set_low ZC.out (M := z.heap.size) (Nat.le_refl _) 0 (.int .i64 n)) (M := z.heap.size) (Nat.le_refl _) 1 (.slice (some ⟨Ke, 0, none⟩) key.length key.length)) (M := z.heap.size) (Nat.le_refl _) 2 (.int .i64 b)) (M := z.heap.size) (Nat.le_refl _) 3 (.int .i64 t)) (M := z.heap.size) (Nat.le_refl _) 4 (.slice (some ⟨M, 0, none⟩) rs.length rs.length))⟩
  case rest =>
    obtain ⟨N, Ke, M, rs, rfl, hN, hG, hP, hNz, hb⟩ := hcut
    have HX : Hid (Blk wc w.heap.size #[.int .i64 n, .slice (some ⟨gk, ok, none⟩) key.length kc, .int .i64 b, .int .i64 t, .slice a P.length cap] 53 ∧ Blk wc (w.heap.size + 1) #[.int .i64 now] 3 ∧ Blk wc (w.heap.size + 1 + 1) #[.int .i64 0, .slice none 0 0, .int .i64 0, .int .i64 0, .slice none 0 0] 53 ∧ Blk wc (w.heap.size + 1 + 1 + 1) #[.int .i64 0, .slice none 0 0, .int .i64 0, .slice none 0 0] 37) := ⟨BP.out.grow hb, BN.out.grow hb, BR.out.grow hb, BS.out.grow hb⟩
    have HN : Hid (Blk wc N #[.int .i64 n, .slice (some ⟨Ke, 0, none⟩) key.length key.length, .int .i64 b, .int .i64 t, .slice (some ⟨M, 0, none⟩) rs.length rs.length] 53) := hN
    have HG : Hid (GA z.heap.size wc Ke key M rs ∧ pals rs = (leftTo P now P.length)) := ⟨hG, hP⟩
    have HNz : Hid (w.heap.size + 4 ≤ N ∧ w.heap.size + 4 ≤ z.heap.size) := by have := HZ.out; exact ⟨by omega, by omega⟩
    have HBc : Hid (Below w.heap.size w wc) := grow_on HB.out hb
    clear hN hG hP hNz hb BP BN BR BS HS HB HZ
    have q0 := HX.out.2.1.cell 0
    have o3 := HN.out.cell 3
    have fo3 := HN.out.frozen 3
    simp at q0 o3
    go_upto_region 3 with fail
    have hne1 : N ≠ w.heap.size := by have := HNz.out.1; omega
    have hne2 : N ≠ (w.heap.size + 1) := by have := HNz.out.1; omega
    have hne3 : N ≠ (w.heap.size + 1 + 1) := by have := HNz.out.1; omega
    have hne4 : N ≠ (w.heap.size + 1 + 1 + 1) := by have := HNz.out.1; omega
    have BPz : Hid (Blk (wc.setCell ⟨N, 3, none⟩ (.int .i64 now)) w.heap.size #[.int .i64 n, .slice (some ⟨gk, ok, none⟩) key.length kc, .int .i64 b, .int .i64 t, .slice a P.length cap] 53) := HX.out.1.set_other (p := ⟨N, 3, none⟩) hne1 _
    have BNz : Hid (Blk (wc.setCell ⟨N, 3, none⟩ (.int .i64 now)) (w.heap.size + 1) #[.int .i64 now] 3) := HX.out.2.1.set_other (p := ⟨N, 3, none⟩) hne2 _
    have BRz : Hid (Blk (wc.setCell ⟨N, 3, none⟩ (.int .i64 now)) (w.heap.size + 1 + 1) #[.int .i64 0, .slice none 0 0, .int .i64 0, .int .i64 0, .slice none 0 0] 53) := HX.out.2.2.1.set_other (p := ⟨N, 3, none⟩) hne3 _
    have BSz : Hid (Blk (wc.setCell ⟨N, 3, none⟩ (.int .i64 now)) (w.heap.size + 1 + 1 + 1) #[.int .i64 0, .slice none 0 0, .int .i64 0, .slice none 0 0] 37) := HX.out.2.2.2.set_other (p := ⟨N, 3, none⟩) hne4 _
    have BOz : Hid (Blk (wc.setCell ⟨N, 3, none⟩ (.int .i64 now)) N #[.int .i64 n, .slice (some ⟨Ke, 0, none⟩) key.length key.length, .int .i64 b, .int .i64 now, .slice (some ⟨M, 0, none⟩) rs.length rs.length] 53) := HN.out.set 3 _
    have HGz : Hid (GA z.heap.size (wc.setCell ⟨N, 3, none⟩ (.int .i64 now)) Ke key M rs ∧ pals rs = (leftTo P now P.length)) := ⟨HG.out.1.set HN.out (by decide) (by decide) 3 _, HG.out.2⟩
    have HBz : Hid (Below w.heap.size w (wc.setCell ⟨N, 3, none⟩ (.int .i64 now))) := set_low HBc.out (by have := HNz.out.1; omega) _ _
    clear q0 o3 fo3 HX HN HG HBc
    generalize wc.setCell ⟨N, 3, none⟩ (.int .i64 now) = y at *
    have HS : Hid (∀ w', Blk w' w.heap.size #[.int .i64 n, .slice (some ⟨gk, ok, none⟩) key.length kc, .int .i64 b, .int .i64 t, .slice a P.length cap] 53 → Blk w' (w.heap.size + 1) #[.int .i64 now] 3 → Blk w' N #[.int .i64 n, .slice (some ⟨Ke, 0, none⟩) key.length key.length, .int .i64 b, .int .i64 now, .slice (some ⟨M, 0, none⟩) rs.length rs.length] 53 → w'.cell? ⟨w.heap.size, 0, none⟩ = some (.int .i64 n) ∧ w'.cell? ⟨w.heap.size, 1, none⟩ = some (.slice (some ⟨gk, ok, none⟩) key.length kc) ∧ w'.cell? ⟨w.heap.size, 4, none⟩ = some (.slice a P.length cap) ∧ w'.cell? ⟨(w.heap.size + 1), 0, none⟩ = some (.int .i64 now) ∧ w'.cell? ⟨N, 0, none⟩ = some (.int .i64 n) ∧ w'.cell? ⟨N, 1, none⟩ = some (.slice (some ⟨Ke, 0, none⟩) key.length key.length) ∧ w'.cell? ⟨N, 2, none⟩ = some (.int .i64 b) ∧ w'.cell? ⟨N, 3, none⟩ = some (.int .i64 now) ∧ w'.cell? ⟨N, 4, none⟩ = some (.slice (some ⟨M, 0, none⟩) rs.length rs.length)) := fun w' h k l => ⟨h.cell 0, h.cell 1, h.cell 4, k.cell 0, l.cell 0, l.cell 1, l.cell 2, l.cell 3, l.cell 4⟩
    refine wp_region_held_drew (S := fun w' => w'.cell? ⟨w.heap.size, 0, none⟩ = some (.int .i64 n) ∧ w'.cell? ⟨w.heap.size, 1, none⟩ = some (.slice (some ⟨gk, ok, none⟩) key.length kc) ∧ w'.cell? ⟨w.heap.size, 4, none⟩ = some (.slice a P.length cap) ∧ w'.cell? ⟨(w.heap.size + 1), 0, none⟩ = some (.int .i64 now) ∧ w'.cell? ⟨N, 0, none⟩ = some (.int .i64 n) ∧ w'.cell? ⟨N, 1, none⟩ = some (.slice (some ⟨Ke, 0, none⟩) key.length key.length) ∧ w'.cell? ⟨N, 2, none⟩ = some (.int .i64 b) ∧ w'.cell? ⟨N, 3, none⟩ = some (.int .i64 now) ∧ w'.cell? ⟨N, 4, none⟩ = some (.slice (some ⟨M, 0, none⟩) rs.length rs.length)) (by kernel_rfl) (HS.out _ (BPz.out.grow (Below.refl y.heap.size y).drew) (BNz.out.grow (Below.refl y.heap.size y).drew) (BOz.out.grow (Below.refl y.heap.size y).drew)) (fun hHeld => ?_)
    refine tk 0 ⟨some 16, .load 53 (.tmp 6), 53, "l11_group.go:108", #[], none⟩ hHeld ?_
    try go_frame
    refine tk 1 ⟨some 17, .fieldAddr 53 (.tmp 2) 0, 0, "l11_group.go:108", #[⟨11, .gcOnly .lateStores⟩], none⟩ hHeld ?_
    try go_frame
    refine tk 2 ⟨some 18, .load 3 (.tmp 17), 3, "l11_group.go:108", #[⟨1, .data⟩, ⟨11, .gcOnly .lateStores⟩], none⟩ hHeld ?_
    try go_frame
    refine tk 3 ⟨some 19, .fieldAddr 53 (.tmp 2) 1, 0, "l11_group.go:108", #[], none⟩ hHeld ?_
    try go_frame
    refine tk 4 ⟨some 20, .load 25 (.tmp 19), 25, "l11_group.go:108", #[⟨3, .data⟩], none⟩ hHeld ?_
    try go_frame
    refine tk 6 ⟨some 22, .load 3 (.tmp 3), 3, "l11_group.go:108", #[⟨11, .gcOnly .lateStores⟩], none⟩ hHeld ?_
    try go_frame
    refine tk 7 ⟨some 23, .fieldAddr 53 (.tmp 2) 4, 0, "l11_group.go:108", #[], none⟩ hHeld ?_
    try go_frame
    refine tk 8 ⟨some 24, .load 35 (.tmp 23), 35, "l11_group.go:108", #[⟨7, .data⟩], none⟩ hHeld ?_
    try go_frame
    obtain ⟨K2, hK2⟩ : ∃ K2, K2 = y.heap.size := ⟨_, rfl⟩
    refine rd1 5 ⟨some 21, .call { callee := .value (.func 71), args := #[.tmp 20], argTypes := #[25] }, 25, "l11_group.go:108", #[⟨4, .data⟩], none⟩ (fun K hK => ?_)
    go_simp
    refine (LabR.copied_any _ _ key _ K2 (by simp [hK2]) (HK.out.below (grow_on HBz.out (Below.refl y.heap.size y).drew)) hkl).mono ?_
    rintro r wyfm5 ⟨rfl, hb1, hB⟩
    have Z5 : Hid (Below y.heap.size y wyfm5) := grow_on (Below.refl y.heap.size y).drew (hb1.mono (by simp [hK2]))
    have HO : Hid (OwnL y.heap.size wyfm5 K2 key) := ⟨by omega, _, hB, by rw [List.size_toArray, LabR.flat_len]; exact Nat.le_refl _, fun j hj => by have h := LabR.flat_get key j hj; simpa using h⟩
    have HK2 : Hid (K2 = y.heap.size) := hK2
    clear hb1 hB hK2
    clear hHeld
    refine hK.out _ _ (HS.out _ (BPz.out.grow Z5.out) (BNz.out.grow Z5.out) (BOz.out.grow Z5.out)) (fun hHeld => ?_)
    clear hK K
    try go_frame
    refine rd1 9 ⟨some 25, .call { callee := .value (.func 72), args := #[.tmp 24], argTypes := #[35] }, 35, "l11_group.go:108", #[⟨8, .data⟩, ⟨5, .chain⟩], none⟩ (fun K hK => ?_)
    go_simp
    refine (implCopies_any a cap P _ ((HR.out.1.below (grow_on HBz.out Z5.out)).rd) hl HR.out.2).mono ?_
    rintro r wyfm9 ⟨⟨M2, rs2, rfl, hA, hP⟩, hb⟩
    have Z9 : Hid (Below y.heap.size y wyfm9) := grow_on Z5.out hb
    have HL2 : Hid (rs2.length = P.length) := by have h := congrArg List.length hP; rw [pals_len] at h; exact h
    have HG2 : Hid (GA y.heap.size wyfm9 K2 key M2 rs2 ∧ pals rs2 = P) := ⟨⟨HO.out.grow hb, by rw [HL2.out]; exact hA.down Z5.out.size, fun h => by
      have h1 := ChnK.aoblks_low (ChnK.AB.ao hA) K2 h
      have h2 := HO.out.lt
      omega⟩, hP⟩
    have HG9 : Hid (GA z.heap.size wyfm9 Ke key M rs) := HGz.out.1.grow Z9.out
    have BR9 : Hid (Blk wyfm9 (w.heap.size + 1 + 1) #[.int .i64 0, .slice none 0 0, .int .i64 0, .int .i64 0, .slice none 0 0] 53) := BRz.out.grow Z9.out
    have BS9 : Hid (Blk wyfm9 (w.heap.size + 1 + 1 + 1) #[.int .i64 0, .slice none 0 0, .int .i64 0, .slice none 0 0] 37) := BSz.out.grow Z9.out
    clear hA hP hb HO
    clear hHeld
    refine hK.out _ _ (HS.out _ (BPz.out.grow Z9.out) (BNz.out.grow Z9.out) (BOz.out.grow Z9.out)) (fun hHeld => ?_)
    clear hK K
    try go_frame
    refine tk 10 ⟨some 26, .build 37 #[(0, .tmp 18), (1, .tmp 21), (2, .tmp 22), (3, .tmp 25)], 37, "l11_group.go:108", #[⟨2, .data⟩, ⟨5, .data⟩, ⟨6, .data⟩, ⟨9, .data⟩, ⟨11, .gcOnly .lateStores⟩], none⟩ hHeld ?_
    try go_frame
    refine rd1 11 ⟨none, .store 53 (.tmp 4) (.tmp 16), 0, "l11_group.go:108", #[⟨0, .data⟩, ⟨9, .chain⟩, ⟨0, .phase⟩, ⟨1, .textOnly .lateStores⟩, ⟨2, .textOnly .lateStores⟩, ⟨3, .textOnly .lateStores⟩, ⟨4, .textOnly .lateStores⟩, ⟨5, .textOnly .lateStoresUnsure⟩, ⟨6, .textOnly .lateStores⟩, ⟨7, .textOnly .lateStores⟩, ⟨8, .textOnly .lateStores⟩, ⟨9, .textOnly .lateStoresUnsure⟩, ⟨10, .textOnly .lateStores⟩], none⟩ (fun K hK => ?_)
    have r0 := BR9.out.cell 0
    have fr0 := BR9.out.frozen 0
    have r1 := BR9.out.cell 1
    have fr1 := BR9.out.frozen 1
    have r2 := BR9.out.cell 2
    have fr2 := BR9.out.frozen 2
    have r3 := BR9.out.cell 3
    have fr3 := BR9.out.frozen 3
    have r4 := BR9.out.cell 4
    have fr4 := BR9.out.frozen 4
    simp at r0 r1 r2 r3 r4
    go_simp
    clear hHeld
    refine hK.out _ _ (HS.out _ ((((((BPz.out.grow Z9.out).set_other (p := ⟨(w.heap.size + 1 + 1), 0, none⟩) (by show (w.heap.size + 1 + 1) ≠ w.heap.size; have := HNz.out.1; omega) (.int .i64 n)).set_other (p := ⟨(w.heap.size + 1 + 1), 1, none⟩) (by show (w.heap.size + 1 + 1) ≠ w.heap.size; have := HNz.out.1; omega) (.slice (some ⟨Ke, 0, none⟩) key.length key.length)).set_other (p := ⟨(w.heap.size + 1 + 1), 2, none⟩) (by show (w.heap.size + 1 + 1) ≠ w.heap.size; have := HNz.out.1; omega) (.int .i64 b)).set_other (p := ⟨(w.heap.size + 1 + 1), 3, none⟩) (by show (w.heap.size + 1 + 1) ≠ w.heap.size; have := HNz.out.1; omega) (.int .i64 now)).set_other (p := ⟨(w.heap.size + 1 + 1), 4, none⟩) (by show (w.heap.size + 1 + 1) ≠ w.heap.size; have := HNz.out.1; omega) (.slice (some ⟨M, 0, none⟩) rs.length rs.length)) ((((((BNz.out.grow Z9.out).set_other (p := ⟨(w.heap.size + 1 + 1), 0, none⟩) (by show (w.heap.size + 1 + 1) ≠ (w.heap.size + 1); have := HNz.out.1; omega) (.int .i64 n)).set_other (p := ⟨(w.heap.size + 1 + 1), 1, none⟩) (by show (w.heap.size + 1 + 1) ≠ (w.heap.size + 1); have := HNz.out.1; omega) (.slice (some ⟨Ke, 0, none⟩) key.length key.length)).set_other (p := ⟨(w.heap.size + 1 + 1), 2, none⟩) (by show (w.heap.size + 1 + 1) ≠ (w.heap.size + 1); have := HNz.out.1; omega) (.int .i64 b)).set_other (p := ⟨(w.heap.size + 1 + 1), 3, none⟩) (by show (w.heap.size + 1 + 1) ≠ (w.heap.size + 1); have := HNz.out.1; omega) (.int .i64 now)).set_other (p := ⟨(w.heap.size + 1 + 1), 4, none⟩) (by show (w.heap.size + 1 + 1) ≠ (w.heap.size + 1); have := HNz.out.1; omega) (.slice (some ⟨M, 0, none⟩) rs.length rs.length)) ((((((BOz.out.grow Z9.out).set_other (p := ⟨(w.heap.size + 1 + 1), 0, none⟩) (by show (w.heap.size + 1 + 1) ≠ N; have := HNz.out.1; omega) (.int .i64 n)).set_other (p := ⟨(w.heap.size + 1 + 1), 1, none⟩) (by show (w.heap.size + 1 + 1) ≠ N; have := HNz.out.1; omega) (.slice (some ⟨Ke, 0, none⟩) key.length key.length)).set_other (p := ⟨(w.heap.size + 1 + 1), 2, none⟩) (by show (w.heap.size + 1 + 1) ≠ N; have := HNz.out.1; omega) (.int .i64 b)).set_other (p := ⟨(w.heap.size + 1 + 1), 3, none⟩) (by show (w.heap.size + 1 + 1) ≠ N; have := HNz.out.1; omega) (.int .i64 now)).set_other (p := ⟨(w.heap.size + 1 + 1), 4, none⟩) (by show (w.heap.size + 1 + 1) ≠ N; have := HNz.out.1; omega) (.slice (some ⟨M, 0, none⟩) rs.length rs.length))) (fun hHeld => ?_)
    clear hK K
    try go_frame
    clear r0 fr0 r1 fr1 r2 fr2 r3 fr3 r4 fr4
    have BS11 : Hid (Blk (((((wyfm9.setCell ⟨(w.heap.size + 1 + 1), 0, none⟩ (.int .i64 n)).setCell ⟨(w.heap.size + 1 + 1), 1, none⟩ (.slice (some ⟨Ke, 0, none⟩) key.length key.length)).setCell ⟨(w.heap.size + 1 + 1), 2, none⟩ (.int .i64 b)).setCell ⟨(w.heap.size + 1 + 1), 3, none⟩ (.int .i64 now)).setCell ⟨(w.heap.size + 1 + 1), 4, none⟩ (.slice (some ⟨M, 0, none⟩) rs.length rs.length)) (w.heap.size + 1 + 1 + 1) #[.int .i64 0, .slice none 0 0, .int .i64 0, .slice none 0 0] 37) := (((((BS9.out.set_other (p := ⟨(w.heap.size + 1 + 1), 0, none⟩) (by show (w.heap.size + 1 + 1) ≠ (w.heap.size + 1 + 1 + 1); omega) (.int .i64 n)).set_other (p := ⟨(w.heap.size + 1 + 1), 1, none⟩) (by show (w.heap.size + 1 + 1) ≠ (w.heap.size + 1 + 1 + 1); omega) (.slice (some ⟨Ke, 0, none⟩) key.length key.length)).set_other (p := ⟨(w.heap.size + 1 + 1), 2, none⟩) (by show (w.heap.size + 1 + 1) ≠ (w.heap.size + 1 + 1 + 1); omega) (.int .i64 b)).set_other (p := ⟨(w.heap.size + 1 + 1), 3, none⟩) (by show (w.heap.size + 1 + 1) ≠ (w.heap.size + 1 + 1 + 1); omega) (.int .i64 now)).set_other (p := ⟨(w.heap.size + 1 + 1), 4, none⟩) (by show (w.heap.size + 1 + 1) ≠ (w.heap.size + 1 + 1 + 1); omega) (.slice (some ⟨M, 0, none⟩) rs.length rs.length))
    refine rd1 12 ⟨none, .store 37 (.tmp 5) (.tmp 26), 0, "l11_group.go:108", #[⟨10, .data⟩, ⟨11, .chain⟩, ⟨0, .phase⟩, ⟨1, .phase⟩, ⟨2, .phase⟩, ⟨3, .phase⟩, ⟨4, .phase⟩, ⟨5, .phase⟩, ⟨6, .phase⟩, ⟨7, .phase⟩, ⟨8, .phase⟩, ⟨9, .phase⟩, ⟨10, .phase⟩, ⟨11, .phase⟩], none⟩ (fun K hK => ?_)
    have r0 := BS11.out.cell 0
    have fr0 := BS11.out.frozen 0
    have r1 := BS11.out.cell 1
    have fr1 := BS11.out.frozen 1
    have r2 := BS11.out.cell 2
    have fr2 := BS11.out.frozen 2
    have r3 := BS11.out.cell 3
    have fr3 := BS11.out.frozen 3
    simp at r0 r1 r2 r3
    go_simp
    clear hHeld
    refine hK.out _ _ (HS.out _ ((((((((((BPz.out.grow Z9.out).set_other (p := ⟨(w.heap.size + 1 + 1), 0, none⟩) (by show (w.heap.size + 1 + 1) ≠ w.heap.size; have := HNz.out.1; omega) (.int .i64 n)).set_other (p := ⟨(w.heap.size + 1 + 1), 1, none⟩) (by show (w.heap.size + 1 + 1) ≠ w.heap.size; have := HNz.out.1; omega) (.slice (some ⟨Ke, 0, none⟩) key.length key.length)).set_other (p := ⟨(w.heap.size + 1 + 1), 2, none⟩) (by show (w.heap.size + 1 + 1) ≠ w.heap.size; have := HNz.out.1; omega) (.int .i64 b)).set_other (p := ⟨(w.heap.size + 1 + 1), 3, none⟩) (by show (w.heap.size + 1 + 1) ≠ w.heap.size; have := HNz.out.1; omega) (.int .i64 now)).set_other (p := ⟨(w.heap.size + 1 + 1), 4, none⟩) (by show (w.heap.size + 1 + 1) ≠ w.heap.size; have := HNz.out.1; omega) (.slice (some ⟨M, 0, none⟩) rs.length rs.length)).set_other (p := ⟨(w.heap.size + 1 + 1 + 1), 0, none⟩) (by show (w.heap.size + 1 + 1 + 1) ≠ w.heap.size; have := HNz.out.1; omega) (.int .i64 n)).set_other (p := ⟨(w.heap.size + 1 + 1 + 1), 1, none⟩) (by show (w.heap.size + 1 + 1 + 1) ≠ w.heap.size; have := HNz.out.1; omega) (.slice (some ⟨K2, 0, none⟩) key.length key.length)).set_other (p := ⟨(w.heap.size + 1 + 1 + 1), 2, none⟩) (by show (w.heap.size + 1 + 1 + 1) ≠ w.heap.size; have := HNz.out.1; omega) (.int .i64 now)).set_other (p := ⟨(w.heap.size + 1 + 1 + 1), 3, none⟩) (by show (w.heap.size + 1 + 1 + 1) ≠ w.heap.size; have := HNz.out.1; omega) (.slice (some ⟨M2, 0, none⟩) P.length P.length)) ((((((((((BNz.out.grow Z9.out).set_other (p := ⟨(w.heap.size + 1 + 1), 0, none⟩) (by show (w.heap.size + 1 + 1) ≠ (w.heap.size + 1); have := HNz.out.1; omega) (.int .i64 n)).set_other (p := ⟨(w.heap.size + 1 + 1), 1, none⟩) (by show (w.heap.size + 1 + 1) ≠ (w.heap.size + 1); have := HNz.out.1; omega) (.slice (some ⟨Ke, 0, none⟩) key.length key.length)).set_other (p := ⟨(w.heap.size + 1 + 1), 2, none⟩) (by show (w.heap.size + 1 + 1) ≠ (w.heap.size + 1); have := HNz.out.1; omega) (.int .i64 b)).set_other (p := ⟨(w.heap.size + 1 + 1), 3, none⟩) (by show (w.heap.size + 1 + 1) ≠ (w.heap.size + 1); have := HNz.out.1; omega) (.int .i64 now)).set_other (p := ⟨(w.heap.size + 1 + 1), 4, none⟩) (by show (w.heap.size + 1 + 1) ≠ (w.heap.size + 1); have := HNz.out.1; omega) (.slice (some ⟨M, 0, none⟩) rs.length rs.length)).set_other (p := ⟨(w.heap.size + 1 + 1 + 1), 0, none⟩) (by show (w.heap.size + 1 + 1 + 1) ≠ (w.heap.size + 1); have := HNz.out.1; omega) (.int .i64 n)).set_other (p := ⟨(w.heap.size + 1 + 1 + 1), 1, none⟩) (by show (w.heap.size + 1 + 1 + 1) ≠ (w.heap.size + 1); have := HNz.out.1; omega) (.slice (some ⟨K2, 0, none⟩) key.length key.length)).set_other (p := ⟨(w.heap.size + 1 + 1 + 1), 2, none⟩) (by show (w.heap.size + 1 + 1 + 1) ≠ (w.heap.size + 1); have := HNz.out.1; omega) (.int .i64 now)).set_other (p := ⟨(w.heap.size + 1 + 1 + 1), 3, none⟩) (by show (w.heap.size + 1 + 1 + 1) ≠ (w.heap.size + 1); have := HNz.out.1; omega) (.slice (some ⟨M2, 0, none⟩) P.length P.length)) ((((((((((BOz.out.grow Z9.out).set_other (p := ⟨(w.heap.size + 1 + 1), 0, none⟩) (by show (w.heap.size + 1 + 1) ≠ N; have := HNz.out.1; omega) (.int .i64 n)).set_other (p := ⟨(w.heap.size + 1 + 1), 1, none⟩) (by show (w.heap.size + 1 + 1) ≠ N; have := HNz.out.1; omega) (.slice (some ⟨Ke, 0, none⟩) key.length key.length)).set_other (p := ⟨(w.heap.size + 1 + 1), 2, none⟩) (by show (w.heap.size + 1 + 1) ≠ N; have := HNz.out.1; omega) (.int .i64 b)).set_other (p := ⟨(w.heap.size + 1 + 1), 3, none⟩) (by show (w.heap.size + 1 + 1) ≠ N; have := HNz.out.1; omega) (.int .i64 now)).set_other (p := ⟨(w.heap.size + 1 + 1), 4, none⟩) (by show (w.heap.size + 1 + 1) ≠ N; have := HNz.out.1; omega) (.slice (some ⟨M, 0, none⟩) rs.length rs.length)).set_other (p := ⟨(w.heap.size + 1 + 1 + 1), 0, none⟩) (by show (w.heap.size + 1 + 1 + 1) ≠ N; have := HNz.out.1; omega) (.int .i64 n)).set_other (p := ⟨(w.heap.size + 1 + 1 + 1), 1, none⟩) (by show (w.heap.size + 1 + 1 + 1) ≠ N; have := HNz.out.1; omega) (.slice (some ⟨K2, 0, none⟩) key.length key.length)).set_other (p := ⟨(w.heap.size + 1 + 1 + 1), 2, none⟩) (by show (w.heap.size + 1 + 1 + 1) ≠ N; have := HNz.out.1; omega) (.int .i64 now)).set_other (p := ⟨(w.heap.size + 1 + 1 + 1), 3, none⟩) (by show (w.heap.size + 1 + 1 + 1) ≠ N; have := HNz.out.1; omega) (.slice (some ⟨M2, 0, none⟩) P.length P.length))) (fun hHeld => ?_)
    clear hK K
    try go_frame
    clear r0 fr0 r1 fr1 r2 fr2 r3 fr3
    refine wpAnyH_done (by kernel_rfl) ?_ _
    clear hHeld
    go_wp2_with fail
    have hR : Blk _ (w.heap.size + 1 + 1) #[.int .i64 n, .slice (some ⟨Ke, 0, none⟩) key.length key.length, .int .i64 b, .int .i64 now, .slice (some ⟨M, 0, none⟩) rs.length rs.length] 53 := (((((((((BR9.out.set 0 (.int .i64 n)).set 1 (.slice (some ⟨Ke, 0, none⟩) key.length key.length)).set 2 (.int .i64 b)).set 3 (.int .i64 now)).set 4 (.slice (some ⟨M, 0, none⟩) rs.length rs.length)).set_other (p := ⟨(w.heap.size + 1 + 1 + 1), 0, none⟩) (by show (w.heap.size + 1 + 1 + 1) ≠ (w.heap.size + 1 + 1); omega) (.int .i64 n)).set_other (p := ⟨(w.heap.size + 1 + 1 + 1), 1, none⟩) (by show (w.heap.size + 1 + 1 + 1) ≠ (w.heap.size + 1 + 1); omega) (.slice (some ⟨K2, 0, none⟩) key.length key.length)).set_other (p := ⟨(w.heap.size + 1 + 1 + 1), 2, none⟩) (by show (w.heap.size + 1 + 1 + 1) ≠ (w.heap.size + 1 + 1); omega) (.int .i64 now)).set_other (p := ⟨(w.heap.size + 1 + 1 + 1), 3, none⟩) (by show (w.heap.size + 1 + 1 + 1) ≠ (w.heap.size + 1 + 1); omega) (.slice (some ⟨M2, 0, none⟩) P.length P.length))
    have hSb : Blk _ (w.heap.size + 1 + 1 + 1) #[.int .i64 n, .slice (some ⟨K2, 0, none⟩) key.length key.length, .int .i64 now, .slice (some ⟨M2, 0, none⟩) P.length P.length] 37 := ((((BS11.out.set 0 (.int .i64 n)).set 1 (.slice (some ⟨K2, 0, none⟩) key.length key.length)).set 2 (.int .i64 now)).set 3 (.slice (some ⟨M2, 0, none⟩) P.length P.length))
    have s0 := hR.cell 0
    have s1 := hR.cell 1
    have s2 := hR.cell 2
    have s3 := hR.cell 3
    have s4 := hR.cell 4
    have u0' := hSb.cell 0
    have u1' := hSb.cell 1
    have u2' := hSb.cell 2
    have u3' := hSb.cell 3
    refine bodyPost_ret (v := .tuple #[.agg #[.int .i64 n, .slice (some ⟨Ke, 0, none⟩) key.length key.length, .int .i64 b, .int .i64 now, .slice (some ⟨M, 0, none⟩) rs.length rs.length], .agg #[.int .i64 n, .slice (some ⟨K2, 0, none⟩) key.length key.length, .int .i64 now, .slice (some ⟨M2, 0, none⟩) P.length P.length]]) (by simp [results, Tryz.results39, go_sem, s0, s1, s2, s3, s4, u0', u1', u2', u3']) rfl ?_
    have hg1 := (((((((((HG9.out.set BR9.out (by decide) (by decide) 0 (.int .i64 n)).set (BR9.out.set 0 (.int .i64 n)) (by decide) (by decide) 1 (.slice (some ⟨Ke, 0, none⟩) key.length key.length)).set ((BR9.out.set 0 (.int .i64 n)).set 1 (.slice (some ⟨Ke, 0, none⟩) key.length key.length)) (by decide) (by decide) 2 (.int .i64 b)).set (((BR9.out.set 0 (.int .i64 n)).set 1 (.slice (some ⟨Ke, 0, none⟩) key.length key.length)).set 2 (.int .i64 b)) (by decide) (by decide) 3 (.int .i64 now)).set ((((BR9.out.set 0 (.int .i64 n)).set 1 (.slice (some ⟨Ke, 0, none⟩) key.length key.length)).set 2 (.int .i64 b)).set 3 (.int .i64 now)) (by decide) (by decide) 4 (.slice (some ⟨M, 0, none⟩) rs.length rs.length)).set BS11.out (by decide) (by decide) 0 (.int .i64 n)).set (BS11.out.set 0 (.int .i64 n)) (by decide) (by decide) 1 (.slice (some ⟨K2, 0, none⟩) key.length key.length)).set ((BS11.out.set 0 (.int .i64 n)).set 1 (.slice (some ⟨K2, 0, none⟩) key.length key.length)) (by decide) (by decide) 2 (.int .i64 now)).set (((BS11.out.set 0 (.int .i64 n)).set 1 (.slice (some ⟨K2, 0, none⟩) key.length key.length)).set 2 (.int .i64 now)) (by decide) (by decide) 3 (.slice (some ⟨M2, 0, none⟩) P.length P.length))
    have hg2 := (((((((((HG2.out.1.set BR9.out (by decide) (by decide) 0 (.int .i64 n)).set (BR9.out.set 0 (.int .i64 n)) (by decide) (by decide) 1 (.slice (some ⟨Ke, 0, none⟩) key.length key.length)).set ((BR9.out.set 0 (.int .i64 n)).set 1 (.slice (some ⟨Ke, 0, none⟩) key.length key.length)) (by decide) (by decide) 2 (.int .i64 b)).set (((BR9.out.set 0 (.int .i64 n)).set 1 (.slice (some ⟨Ke, 0, none⟩) key.length key.length)).set 2 (.int .i64 b)) (by decide) (by decide) 3 (.int .i64 now)).set ((((BR9.out.set 0 (.int .i64 n)).set 1 (.slice (some ⟨Ke, 0, none⟩) key.length key.length)).set 2 (.int .i64 b)).set 3 (.int .i64 now)) (by decide) (by decide) 4 (.slice (some ⟨M, 0, none⟩) rs.length rs.length)).set BS11.out (by decide) (by decide) 0 (.int .i64 n)).set (BS11.out.set 0 (.int .i64 n)) (by decide) (by decide) 1 (.slice (some ⟨K2, 0, none⟩) key.length key.length)).set ((BS11.out.set 0 (.int .i64 n)).set 1 (.slice (some ⟨K2, 0, none⟩) key.length key.length)) (by decide) (by decide) 2 (.int .i64 now)).set (((BS11.out.set 0 (.int .i64 n)).set 1 (.slice (some ⟨K2, 0, none⟩) key.length key.length)).set 2 (.int .i64 now)) (by decide) (by decide) 3 (.slice (some ⟨M2, 0, none⟩) P.length P.length))
    exact ⟨⟨Ke, key.length, M, 0, rs.length, rs, K2, key.length, M2, 0, P.length, rs2, by rw [HL2.out], hg1.gb.down (by have := HNz.out.2; omega), HGz.out.2, hg2.gb.down (by have := HBz.out.size; omega), HG2.out.2, fun k h1 h2 => by
      have e1 := (HGz.out.1.gb.rng k h1).2
      have e2 := (HG2.out.1.gb.rng k h2).1
      omega⟩, (set_low (set_low (set_low (set_low (set_low (set_low (set_low (set_low (set_low (grow_on HBz.out Z9.out) (M := (w.heap.size + 1 + 1)) (by omega) 0 (.int .i64 n)) (M := (w.heap.size + 1 + 1)) (by omega) 1 (.slice (some ⟨Ke, 0, none⟩) key.length key.length)) (M := (w.heap.size + 1 + 1)) (by omega) 2 (.int .i64 b)) (M := (w.heap.size + 1 + 1)) (by omega) 3 (.int .i64 now)) (M := (w.heap.size + 1 + 1)) (by omega) 4 (.slice (some ⟨M, 0, none⟩) rs.length rs.length)) (M := (w.heap.size + 1 + 1 + 1)) (by omega) 0 (.int .i64 n)) (M := (w.heap.size + 1 + 1 + 1)) (by omega) 1 (.slice (some ⟨K2, 0, none⟩) key.length key.length)) (M := (w.heap.size + 1 + 1 + 1)) (by omega) 2 (.int .i64 now)) (M := (w.heap.size + 1 + 1 + 1)) (by omega) 3 (.slice (some ⟨M2, 0, none⟩) P.length P.length))⟩
end Go.Proofs.YtgncimlojbnbfaaGreat.GrpI
