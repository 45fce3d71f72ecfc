/-
  PROVED: spec.l8Sort gives the alarms of a row in memory of their own, sorted by their labels as the plain lists say; nothing that was there is changed.
-/
import Derived.Test.YtcopckbpflmmeabSrtP
import Derived.Test.YtcopckbpflmmeabChnT
import Derived.Deep.RegionHeld3
namespace Go.Proofs.Ytcopckbpflmmeab.L8S
open Go.RowKit
open Go.Proofs.Ytcopckbpflmmeab.Labs Go.Proofs.Ytcopckbpflmmeab.LabS Go.Proofs.Ytcopckbpflmmeab.Alms Go.Proofs.Ytcopckbpflmmeab.AlmS Go.Proofs.Ytcopckbpflmmeab.AlmM Go.Proofs.Ytcopckbpflmmeab.Over Go.Proofs.Ytcopckbpflmmeab.Blk Go.Proofs.Ytcopckbpflmmeab.App Go.Proofs.Ytcopckbpflmmeab.Rws Go.Proofs.Ytcopckbpflmmeab.ChnI Go.Proofs.Ytcopckbpflmmeab.ChnC Go.Proofs.Ytcopckbpflmmeab.PrtA Go.Proofs.Ytcopckbpflmmeab.Stb Go.Proofs.Ytcopckbpflmmeab.SrtP
open Go.Proofs.Ytcopckbpflmmeab.LabL (slB)
set_option linter.unusedVariables false
theorem if_slice {p : Prop} [Decidable p] (x y : Addr) (n c : Nat) : Value.slice (if p then some x else some y) n c = .slice (some (if p then x else y)) n c := by split <;> rfl
theorem bel1 (w : World) (o : Obj) : Below w.heap.size w (w.alloc o).drew := ((Below.refl _ _).alloc (Nat.le_refl _) _).drew
theorem bel2 (w : World) (o o' : Obj) : Below w.heap.size w ((w.alloc o).alloc o').drew := (((Below.refl _ _).alloc (Nat.le_refl _) _).alloc (by simp) _).drew
theorem own1 (w : World) : (w.alloc (.cells #[] 68)).drew.ownsRow w.heap.size 68 4 (.slice (some ⟨w.heap.size, 0, none⟩) 0 0) 0 [] := own_empty (Blk.new _ _ _).drew (Nat.le_refl _)
theorem own2 (w : World) (o : Obj) : ((w.alloc (.cells #[] 68)).alloc o).drew.ownsRow w.heap.size 68 4 (.slice (some ⟨w.heap.size, 0, none⟩) 0 0) 0 [] := own_empty ((Blk.new _ _ _).alloc _).drew (Nat.le_refl _)
theorem own3 (w : World) (o : Obj) : ((w.alloc o).alloc (.cells #[] 68)).drew.ownsRow w.heap.size 68 4 (.slice (some ⟨w.heap.size + 1, 0, none⟩) 0 0) 0 [] := own_empty (Blk.new_at (by simp)).drew (by omega)
theorem news1 {lo : Nat} {w : World} {g c : Nat} {os : List ARow} (h : AB lo w g c os) (k : Nat) : ∀ W, Below w.heap.size w W → ∀ j u, (flatA (os.take k))[j]? = some u → W.cell? ((⟨g, 0, none⟩ : Addr).add j) = some u := fun W hb j u hj => by
  rw [← flatA_take, List.getElem?_take] at hj
  split at hj
  · exact flatA_news (h.grow hb) j u hj
  · cases hj
theorem news3 {lo : Nat} {w : World} {g c : Nat} {os : List ARow} (h : AB lo w g c os) (k : Nat) : ∀ W, Below w.heap.size w W → ∀ j u, (flatA (os.drop k))[j]? = some u → W.cell? ((⟨g, k * 4, none⟩ : Addr).add j) = some u := fun W hb j u hj => by
  rw [← flatA_drop, List.getElem?_drop] at hj
  have ea : (⟨g, k * 4, none⟩ : Addr).add j = (⟨g, 0, none⟩ : Addr).add (k * 4 + j) := by by_cases e : j = 0 <;> by_cases e' : k * 4 + j = 0 <;> simp [Addr.add, e] <;> omega
  rw [ea]
  exact flatA_news (h.grow hb) _ u hj
theorem news4 {lo : Nat} {w : World} {g c : Nat} {os : List ARow} (h : AB lo w g c os) (k : Nat) (hk : k ≤ os.length) (hc : os.length ≤ c) : ∀ W, Below w.heap.size w W → ∀ j u, (flatA (os.drop k))[j]? = some u → W.cell? ((if c = k then (⟨g, 0, none⟩ : Addr) else ⟨g, k * 4, none⟩).add j) = some u := fun W hb j u hj => by
  by_cases e : c = k
  · have : os.drop k = [] := List.drop_eq_nil_of_le (by omega)
    rw [this] at hj
    simp [flatA] at hj
  · rw [if_neg e]
    exact news3 h k W hb j u hj
/-- out holds these alarms -/
structure Nx (w wr : World) (v : Value) (os : List ARow) : Prop where
  ex : ∃ g c, v = .slice (some ⟨g, 0, none⟩) os.length c ∧ AB w.heap.size wr g c os
  low : Below w.heap.size w wr
theorem Nx.of {w w2 w5 : World} {v3 : Value} {g c i k : Nat} {os : List ARow} {x : ARow} (h : AB w.heap.size w2 g c os) (hx : OwnA w.heap.size w2 x) (hb : Below w.heap.size w w2) (hl : os.length = i) (hne : ∀ y ∈ os, y.1 ≠ x.1)
    (ho : w5.ownsRow w2.heap.size 68 4 v3 (0 + k + 1 + (i - k)) ([] ++ flatA (os.take k) ++ rowV x ++ flatA (os.drop k))) (hb5 : Below w2.heap.size w2 w5) (hk : k ≤ i) : Nx w w5 v3 (os.take k ++ x :: os.drop k) := by
  have en : 0 + k + 1 + (i - k) = (os.take k ++ x :: os.drop k).length := by simp; omega
  have el : [] ++ flatA (os.take k) ++ rowV x ++ flatA (os.drop k) = flatA (os.take k ++ x :: os.drop k) := by
    rw [flatA_app, flatA, List.nil_append, List.append_assoc]
  rw [en, el] at ho
  refine ⟨ab_flat (own_mono ho hb.size) (by simp; omega) (fun y hy => ?_) ?_, grow_on hb hb5⟩
  · rcases List.mem_append.1 hy with hy | hy
    · exact (h.rows y (List.mem_of_mem_take hy)).grow hb5
    · rcases List.mem_cons.1 hy with rfl | hy
      · exact hx.grow hb5
      · exact (h.rows y (List.mem_of_mem_drop hy)).grow hb5
  · rw [List.pairwise_append, List.pairwise_cons]
    have hp := h.ne
    rw [← List.take_append_drop k os, List.pairwise_append] at hp
    refine ⟨hp.1, ⟨fun y hy => (hne y (List.mem_of_mem_drop hy)).symm, hp.2.1⟩, fun a ha b hb => ?_⟩
    rcases List.mem_cons.1 hb with rfl | hb
    · exact hne a (List.mem_of_mem_take ha)
    · exact hp.2.2 a ha b hb
theorem pals_mid (os : List ARow) (x : ARow) (k : Nat) : pals (os.take k ++ x :: os.drop k) = midP (pals os) x.2.2 k := by unfold pals midP; simp [List.map_take, List.map_drop]
set_option maxRecDepth 100000 in
set_option maxHeartbeats 6400000 in
theorem l8Sort_any (a : Option Addr) (cap : Nat) (P : List PAl) (w : World) (hr : RdN w a P) (hl : P.length ≤ 1048576) (hs : LenM P) :
    Calls Try.prog 45 #[.slice a P.length cap] w fun e w' => (∃ M c rs, e = .returned (.slice (some ⟨M, 0, none⟩) rs.length c) ∧ AB w.heap.size w' M c rs ∧ pals rs = sortP P) ∧ Below w.heap.size w w' := by
  have HR : Hid (RdN w a P ∧ LenM P) := ⟨hr, hs⟩
  clear hr hs
  go_enter Try.func45, Try.ntmps45
  go_wp2
  go_loopw [3, 4] (fun v i w' => ∃ (k : Nat) (os : List ARow), i = .int .i64 k ∧ k ≤ P.length ∧ os.length = k ∧ pals os = srtA P k ∧ Nx w w' v os) (fun _ i _ => P.length - (intOf i).toNat)
  case atStart => exact ⟨0, [], rfl, Nat.zero_le _, rfl, rfl, ⟨⟨w.heap.size, 0, rfl, AB.nil (Blk.new _ _ _) (Nat.le_refl _)⟩, Go.Joins.below_alloc1 w _⟩⟩
  case round =>
    obtain ⟨i, os, rfl, hi, hol, hop, ⟨⟨g, c, rfl, hO⟩, hB⟩⟩ := hrel
    have HO : Hid (AB w.heap.size wr g c os ∧ Below w.heap.size w wr) := ⟨hO, hB⟩
    have HP : Hid (pals os = srtA P i) := hop
    have HLn : Hid (os.length = i) := hol
    have hci : i ≤ c := by have := hO.cap.1; omega
    have hcm : c ≤ 2 ^ 63 - 1 := hO.cap.2
    rw [hol]
    clear hO hB hop hol
    by_cases hlt : i < P.length
    · have hlt' : (i : Int) < (P.length : Int) := by omega
      obtain ⟨b, off, rfl, hb, gx, ox, cp, hat⟩ := (HR.out.1.below HO.out.2).get hlt
      have h2 := hat.c0
      have h3 := hat.c1
      have h4 := hat.c2
      have h5 := hat.c3
      have HC : Hid (Calls Try.prog 49 #[.agg #[.slice (some ⟨gx, ox, none⟩) (nthP P i).l.length cp, .int .i64 (nthP P i).s, .int .i64 (nthP P i).e, .string (nthP P i).n]] wr fun r w' => (∃ Mx c, r = .returned (.agg #[.slice (some ⟨Mx, 0, none⟩) (nthP P i).l.length c, .int .i64 (nthP P i).s, .int .i64 (nthP P i).e, .string (nthP P i).n]) ∧ LabR.Own wr w' Mx (nthP P i).l) ∧ Below wr.heap.size wr w') := copyS_any _ _ _ _ _ _ _ wr hat.reads (HR.out.2 i hlt)
      clear hat
      go_wp2_with fail
      refine HC.out.mono ?_
      rintro e w1 ⟨⟨Mx, cx, rfl, hOx⟩, hb1⟩
      have HO1 : Hid (AB w.heap.size w1 g c os ∧ Below w.heap.size w w1) := ⟨HO.out.1.grow hb1, grow_on HO.out.2 hb1⟩
      have HOX1 : Hid (OwnA w.heap.size w1 ((Mx, cx, nthP P i) : ARow) ∧ wr.heap.size ≤ Mx) := ⟨(own_of_copy hOx (HR.out.2 i hlt)).down HO.out.2.size, hOx.1⟩
      have HNx : Hid (∀ y ∈ os, y.1 ≠ ((Mx, cx, nthP P i) : ARow).1) := fun y hy => by have h1 := (HO.out.1.rows y hy).lt; have h2 := HOX1.out.2; show y.1 ≠ Mx; omega
      clear hb1 hOx h2 h3 h4 h5 HC
      obtain ⟨W1, hW1⟩ : ∃ W1, w1.alloc (.cells #[.slice (some ⟨Mx, 0, none⟩) (nthP P i).l.length cx, .int .i64 (nthP P i).s, .int .i64 (nthP P i).e, .string (nthP P i).n] 68) = W1 := ⟨_, rfl⟩
      have H1 : Hid (AB w.heap.size W1 g c os ∧ Below w.heap.size w W1 ∧ Blk W1 w1.heap.size #[.slice (some ⟨Mx, 0, none⟩) (nthP P i).l.length cx, .int .i64 (nthP P i).s, .int .i64 (nthP P i).e, .string (nthP P i).n] 68 ∧ OwnA w.heap.size W1 ((Mx, cx, nthP P i) : ARow)) := by
        rw [← hW1]
        have hb := Go.Joins.below_alloc1 w1 (.cells #[.slice (some ⟨Mx, 0, none⟩) (nthP P i).l.length cx, .int .i64 (nthP P i).s, .int .i64 (nthP P i).e, .string (nthP P i).n] 68)
        exact ⟨HO1.out.1.grow hb, grow_on HO1.out.2 hb, Blk.new _ _ _, HOX1.out.1.grow hb⟩
      obtain ⟨X, hX⟩ : ∃ X, w1.heap.size = X := ⟨_, rfl⟩
      rw [hX] at H1
      go_upto_region 6 with fail
      try rw [hW1]
      try rw [hX]
      clear hW1 hX HO HO1 HOX1
      go_wp2
      go_loopw [6] (fun v w' => ∃ k : Nat, v = .int .i64 k ∧ k ≤ i ∧ posA (nthP P i).l (srtA P i) i = posA (nthP P i).l (srtA P i) k ∧ Below W1.heap.size W1 w') (fun v _ => (intOf v).toNat)
      case atStart => exact ⟨i, rfl, Nat.le_refl _, rfl, Below.refl _ _⟩
      case round =>
        obtain ⟨k, rfl, hk, hp, hbw⟩ := hrel
        have HPo : Hid (posA (nthP P i).l (srtA P i) i = posA (nthP P i).l (srtA P i) k) := hp
        have HO2 : Hid (AB w.heap.size wr g c os) := H1.out.1.grow hbw
        have HBr : Hid (Below w.heap.size w wr) := grow_on H1.out.2.1 hbw
        have HXB : Hid (Blk wr X #[.slice (some ⟨Mx, 0, none⟩) (nthP P i).l.length cx, .int .i64 (nthP P i).s, .int .i64 (nthP P i).e, .string (nthP P i).n] 68) := H1.out.2.2.1.grow hbw
        have HOX : Hid (OwnA w.heap.size wr ((Mx, cx, nthP P i) : ARow) ∧ True) := ⟨H1.out.2.2.2.grow hbw, trivial⟩
        have HBW : Hid (Below W1.heap.size W1 wr) := hbw
        have hgr : g < wr.heap.size := HO2.out.lt
        have hXr : X < wr.heap.size := HXB.out.lt
        have hne := Grown.some wr
        have x0 := fun q : Grown wr => q.cell hXr (HXB.out.cell 0)
        clear hp hbw
        by_cases hk0 : k = 0
        · subst hk0
          go_wp2
          refine wp_over (z := wr) (by kernel_rfl) (by kernel_rfl) (Below.refl _ _) ?_
          repeat (go_big_quiet_step (fail))
          refine wpQuiet_nil ?_
          intro w2 hw2
          have hb2 := over_bel hw2
          have HE : Hid (pals (os.take 0 ++ ((Mx, cx, nthP P i) : ARow) :: os.drop 0) = srtA P (i + 1)) := by
            show _ = _
            rw [pals_mid, srtA, insP, srtA_len, HPo.out, posA_0, HP.out]
          have HO3 : Hid (AB w.heap.size w2 g c os) := HO2.out.grow hb2
          have HX3 : Hid (Blk w2 X #[.slice (some ⟨Mx, 0, none⟩) (nthP P i).l.length cx, .int .i64 (nthP P i).s, .int .i64 (nthP P i).e, .string (nthP P i).n] 68) := HXB.out.grow hb2
          have HB3 : Hid (Below w.heap.size w w2) := grow_on HBr.out hb2
          have HW3 : Hid (OwnA w.heap.size w2 ((Mx, cx, nthP P i) : ARow)) := HOX.out.1.grow hb2
          have c0 : w2.cell? ⟨X, 0, none⟩ = some (.slice (some ⟨Mx, 0, none⟩) (nthP P i).l.length cx) := HX3.out.cell 0
          have c1 : w2.cell? ⟨X, 1, none⟩ = some (.int .i64 (nthP P i).s) := HX3.out.cell 1
          have c2 : w2.cell? ⟨X, 2, none⟩ = some (.int .i64 (nthP P i).e) := HX3.out.cell 2
          have c3 : w2.cell? ⟨X, 3, none⟩ = some (.string (nthP P i).n) := HX3.out.cell 3
          have hbb : X < w2.heap.size := HX3.out.lt
          have hkc : ((0 : Nat) : Int) ≤ (c : Int) := by omega
          have hki : ((0 : Nat) : Int) ≤ (i : Int) := by omega
          have hic : (i : Int) ≤ (c : Int) := by omega
          obtain ⟨i0, hi0, hz0, hz1, hz2⟩ := info_parts infoA
          have HI : Hid (Try.prog.info? 68 = some i0) := hi0
          have Z0 : Hid (i0.zero = some (.agg #[.slice none 0 0, .int .i64 0, .int .i64 0, .string ByteArray.empty])) := hz0
          have Z1 : Hid (i0.size = 4) := hz1
          have Z2 : Hid (i0.bytes = 56) := hz2
          have N1 := news1 HO3.out 0
          have N3 := news3 HO3.out 0
          have N4 := news4 HO3.out 0 (by rw [HLn.out]; omega) (by rw [HLn.out]; omega)
          clear hw2 hne hb2 x0 hcm hi0 hz0 hz1 hz2
          go_wp2
          go_region_held3 (fun w' => w'.cell? ⟨X, 0, none⟩ = some (.slice (some ⟨Mx, 0, none⟩) (nthP P i).l.length cx) ∧ w'.cell? ⟨X, 1, none⟩ = some (.int .i64 (nthP P i).s) ∧ w'.cell? ⟨X, 2, none⟩ = some (.int .i64 (nthP P i).e) ∧ w'.cell? ⟨X, 3, none⟩ = some (.string (nthP P i).n)) (first | go_keep | (go_split_ands; exact ⟨((bl1).cell hbb).trans c0, ((bl1).cell hbb).trans c1, ((bl1).cell hbb).trans c2, ((bl1).cell hbb).trans c3⟩) | (go_split_ands; exact ⟨((bl1.alloc bl1.size _).cell hbb).trans c0, ((bl1.alloc bl1.size _).cell hbb).trans c1, ((bl1.alloc bl1.size _).cell hbb).trans c2, ((bl1.alloc bl1.size _).cell hbb).trans c3⟩) | (go_split_ands; exact ⟨((bl2).cell hbb).trans c0, ((bl2).cell hbb).trans c1, ((bl2).cell hbb).trans c2, ((bl2).cell hbb).trans c3⟩) | (go_split_ands; exact ⟨((bl3).cell hbb).trans c0, ((bl3).cell hbb).trans c1, ((bl3).cell hbb).trans c2, ((bl3).cell hbb).trans c3⟩)) (first | ((refine step_app (by rfl) _ _ 29 (by rfl) 68 i0 _ 4 56 Try.underlying29 HI.out Z0.out Z1.out Z2.out (by rfl) (by decide) w2 bl2 v2 _ _ (by rfl) hown2 ⟨g, 0 * 4, none⟩ (i - 0) (c - 0) (flatA (os.drop 0)) (by rfl) (by rw [flatA_len, List.length_drop, HLn.out]) (N3 _ bl2) (flatA_one _) (by unfold maxLen; omega) (by omega) ?_); intro v3 w5 hown3 bl3 hg3 hat3) | ((refine step_app (by rfl) _ _ 29 (by rfl) 68 i0 _ 4 56 Try.underlying29 HI.out Z0.out Z1.out Z2.out (by rfl) (by decide) w2 bl2 v2 _ _ (by rfl) hown2 (if c = 0 then (⟨g, 0, none⟩ : Addr) else ⟨g, 0 * 4, none⟩) (i - 0) (c - 0) (flatA (os.drop 0)) (by exact if_slice _ _ _ _) (by rw [flatA_len, List.length_drop, HLn.out]) (N4 _ bl2) (flatA_one _) (by unfold maxLen; omega) (by omega) ?_); intro v3 w5 hown3 bl3 hg3 hat3) | ((refine step_app (by rfl) _ _ 29 (by rfl) 68 i0 _ 4 56 Try.underlying29 HI.out Z0.out Z1.out Z2.out (by rfl) (by decide) w2 (bl1.alloc bl1.size _) v1 _ _ (by rfl) (hown1.alloc _) ⟨w3.heap.size, 0, none⟩ 1 1 [.slice (some ⟨Mx, 0, none⟩) (nthP P i).l.length cx, .int .i64 (nthP P i).s, .int .i64 (nthP P i).e, .string (nthP P i).n] (by rfl) (by rfl) (blk_news (Blk.new w3 _ _)) (row_one ((Mx, cx, nthP P i) : ARow)) (by unfold maxLen; omega) (by omega) ?_); intro v2 w4 hown2 bl2 hg2 hat2) | ((refine step_app (by rfl) _ _ 29 (by rfl) 68 i0 _ 4 56 Try.underlying29 HI.out Z0.out Z1.out Z2.out (by rfl) (by decide) w2 bl1 v1 _ _ (by rfl) hown1 ⟨w2.heap.size + 1, 0, none⟩ 1 1 [.slice (some ⟨Mx, 0, none⟩) (nthP P i).l.length cx, .int .i64 (nthP P i).s, .int .i64 (nthP P i).e, .string (nthP P i).n] (by rfl) (by rfl) (blk_news (blk_far (M := w2.heap.size + 1) (Blk.new_at (by simp)).drew hg1 (fun e => absurd (show w2.heap.size + 1 = w2.heap.size from Option.some.inj e) (by omega)))) (row_one ((Mx, cx, nthP P i) : ARow)) (by unfold maxLen; omega) (by omega) ?_); intro v2 w4 hown2 bl2 hg2 hat2) | ((refine step_app (by rfl) _ _ 29 (by rfl) 68 i0 _ 4 56 Try.underlying29 HI.out Z0.out Z1.out Z2.out (by rfl) (by decide) w2 bl1 v1 _ _ (by rfl) hown1 ⟨w2.heap.size, 0, none⟩ 1 1 [.slice (some ⟨Mx, 0, none⟩) (nthP P i).l.length cx, .int .i64 (nthP P i).s, .int .i64 (nthP P i).e, .string (nthP P i).n] (by rfl) (by rfl) (blk_news (blk_far (M := w2.heap.size) ((Blk.new _ _ _).alloc _).drew hg1 (fun e => absurd (show w2.heap.size = w2.heap.size + 1 from Option.some.inj e) (by omega)))) (row_one ((Mx, cx, nthP P i) : ARow)) (by unfold maxLen; omega) (by omega) ?_); intro v2 w4 hown2 bl2 hg2 hat2) | ((refine step_app (by rfl) _ _ 29 (by rfl) 68 i0 _ 4 56 Try.underlying29 HI.out Z0.out Z1.out Z2.out (by rfl) (by decide) w2 (by first | exact bel1 _ _ | exact bel2 _ _ _) _ 0 [] (by rfl) (by first | exact own1 _ | exact own2 _ _ | exact own3 _ _) ⟨g, 0, none⟩ 0 c (flatA (os.take 0)) (by rfl) (by rw [flatA_len, List.length_take, HLn.out]; omega) (by first | exact N1 _ (bel1 _ _) | exact N1 _ (bel2 _ _ _)) (flatA_one _) (by unfold maxLen; omega) (by omega) ?_); intro v1 w3 hown1 bl1 hg1 hat1))
          all_goals (have HO5 : Hid (Nx w w5 v3 (os.take 0 ++ ((Mx, cx, nthP P i) : ARow) :: os.drop 0)) := Nx.of HO3.out HW3.out HB3.out HLn.out HNx.out hown3 bl3 (by omega))
          all_goals (have HL5 : Hid ((os.take 0 ++ ((Mx, cx, nthP P i) : ARow) :: os.drop 0).length = i + 1) := by show _ = _; have := HLn.out; simp; omega)
          all_goals clear hown1 hown2 hown3 bl1 bl2 bl3 hg1 hg2 hg3 hat1 hat2 hat3 N1 N3 N4
          all_goals go_wp2
          all_goals go_roundw
          case rel => exact ⟨i + 1, os.take 0 ++ ((Mx, cx, nthP P i) : ARow) :: os.drop 0, by go_num, by omega, HL5.out, HE.out, HO5.out⟩
          case measure => simp [intOf]; omega
          case rel => exact ⟨i + 1, os.take 0 ++ ((Mx, cx, nthP P i) : ARow) :: os.drop 0, by go_num, by omega, HL5.out, HE.out, HO5.out⟩
          case measure => simp [intOf]; omega
          case rel => exact ⟨i + 1, os.take 0 ++ ((Mx, cx, nthP P i) : ARow) :: os.drop 0, by go_num, by omega, HL5.out, HE.out, HO5.out⟩
          case measure => simp [intOf]; omega
        obtain ⟨j, rfl⟩ : ∃ j, k = j + 1 := ⟨k - 1, by omega⟩
        have ek : ((j + 1 : Nat) : Int) = (j : Int) + 1 := by omega
        have hj1 : (j : Int) < (i : Int) := by omega
        have hjp : (0 : Int) < (j : Int) + 1 := by omega
        have hw : IntKind.i64.wrap (j : Int) = (j : Int) := by rw [IntKind.wrap_i64]; omega
        have hjo : j < os.length := by have := HLn.out; omega
        have hsame : nthP (srtA P i) j = (nthA os j).2.2 := by rw [← HP.out, pals_nth hjo]
        obtain ⟨cur, hcu, hcs, hc4⟩ := HO2.out.outer
        have hcell : wr.cell? ⟨g, j * 4, none⟩ = some (.slice (some ⟨(nthA os j).1, 0, none⟩) (nthA os j).2.2.l.length (nthA os j).2.1) := (hcu.cell _).trans (hc4 j hjo).1
        have x2 := fun q : Grown wr => q.cell (p := ⟨g, j * 4, none⟩) hgr hcell
        have hro := HO2.out.rows _ (nthA_mem hjo)
        have HCm : ∀ q : Grown wr, Hid (Calls Try.prog 59 #[.slice (some ⟨Mx, 0, none⟩) (nthP P i).l.length cx, .slice (some ⟨(nthA os j).1, 0, none⟩) (nthA os j).2.2.l.length (nthA os j).2.1] q.out fun e w' => e = .returned (.bool (slB (nthP P i).l (nthA os j).2.2.l)) ∧ Below q.out.heap.size q.out w') := fun q => (LabL.specLessS_any _ _ _ _ _ _ q.out (HOX.out.1.reads.below q.bel) (hro.reads.below q.bel) (by have := HOX.out.1.2.1; unfold maxLen; exact Nat.le_trans this (by omega)) (by have := hro.2.1; unfold maxLen; exact Nat.le_trans this (by omega))).mono fun e w' h => ⟨h.1, bel_drew h.2⟩
        clear hk0 hcu hcs hc4 hcell hro
        cases hq : slB (nthP P i).l (nthA os j).2.2.l with
        | true =>
          have HP2 : Hid (posA (nthP P i).l (srtA P i) i = posA (nthP P i).l (srtA P i) j) := HPo.out.trans (posA_yes (by rw [hsame]; exact hq))
          rw [hq] at HCm
          clear hq hsame
          rw [ek]
          go_wp2
          refine wp_over (z := wr) (by kernel_rfl) (by kernel_rfl) (Below.refl _ _) ?_
          repeat (go_big_quiet_step (first | (go_at_call 59; exact call_over (HCm _).out)))
          refine wpQuiet_nil ?_
          intro w2 hw2
          have HB2 : Hid (Below W1.heap.size W1 w2) := grow_on HBW.out (over_bel hw2)
          clear hw2 hne x0 x2 HCm
          go_wp2
          go_roundw
          case rel => exact ⟨j, by go_num, by omega, HP2.out, HB2.out⟩
          case measure => simp [intOf]
        | false =>
          have HE : Hid (pals (os.take (j + 1) ++ ((Mx, cx, nthP P i) : ARow) :: os.drop (j + 1)) = srtA P (i + 1)) := by
            show _ = _
            rw [pals_mid, srtA, insP, srtA_len, HPo.out, posA_no (by rw [hsame]; exact hq), HP.out]
          rw [hq] at HCm
          clear hq hsame
          rw [ek]
          go_wp2
          refine wp_over (z := wr) (by kernel_rfl) (by kernel_rfl) (Below.refl _ _) ?_
          repeat (go_big_quiet_step (first | (go_at_call 59; exact call_over (HCm _).out)))
          refine wpQuiet_nil ?_
          intro w2 hw2
          have hb2 := over_bel hw2
          rw [← ek]
          clear x2 HCm ek hj1 hjp hw HPo hjo
          generalize hkk : j + 1 = k at *
          clear hkk
          have HO3 : Hid (AB w.heap.size w2 g c os) := HO2.out.grow hb2
          have HX3 : Hid (Blk w2 X #[.slice (some ⟨Mx, 0, none⟩) (nthP P i).l.length cx, .int .i64 (nthP P i).s, .int .i64 (nthP P i).e, .string (nthP P i).n] 68) := HXB.out.grow hb2
          have HB3 : Hid (Below w.heap.size w w2) := grow_on HBr.out hb2
          have HW3 : Hid (OwnA w.heap.size w2 ((Mx, cx, nthP P i) : ARow)) := HOX.out.1.grow hb2
          have c0 : w2.cell? ⟨X, 0, none⟩ = some (.slice (some ⟨Mx, 0, none⟩) (nthP P i).l.length cx) := HX3.out.cell 0
          have c1 : w2.cell? ⟨X, 1, none⟩ = some (.int .i64 (nthP P i).s) := HX3.out.cell 1
          have c2 : w2.cell? ⟨X, 2, none⟩ = some (.int .i64 (nthP P i).e) := HX3.out.cell 2
          have c3 : w2.cell? ⟨X, 3, none⟩ = some (.string (nthP P i).n) := HX3.out.cell 3
          have hbb : X < w2.heap.size := HX3.out.lt
          have hkc : ((k : Nat) : Int) ≤ (c : Int) := by omega
          have hki : ((k : Nat) : Int) ≤ (i : Int) := by omega
          have hic : (i : Int) ≤ (c : Int) := by omega
          obtain ⟨i0, hi0, hz0, hz1, hz2⟩ := info_parts infoA
          have HI : Hid (Try.prog.info? 68 = some i0) := hi0
          have Z0 : Hid (i0.zero = some (.agg #[.slice none 0 0, .int .i64 0, .int .i64 0, .string ByteArray.empty])) := hz0
          have Z1 : Hid (i0.size = 4) := hz1
          have Z2 : Hid (i0.bytes = 56) := hz2
          have N1 := news1 HO3.out k
          have N3 := news3 HO3.out k
          have N4 := news4 HO3.out k (by rw [HLn.out]; omega) (by rw [HLn.out]; omega)
          clear hw2 hne hb2 x0 hcm hi0 hz0 hz1 hz2
          go_wp2
          go_region_held3 (fun w' => w'.cell? ⟨X, 0, none⟩ = some (.slice (some ⟨Mx, 0, none⟩) (nthP P i).l.length cx) ∧ w'.cell? ⟨X, 1, none⟩ = some (.int .i64 (nthP P i).s) ∧ w'.cell? ⟨X, 2, none⟩ = some (.int .i64 (nthP P i).e) ∧ w'.cell? ⟨X, 3, none⟩ = some (.string (nthP P i).n)) (first | go_keep | (go_split_ands; exact ⟨((bl1).cell hbb).trans c0, ((bl1).cell hbb).trans c1, ((bl1).cell hbb).trans c2, ((bl1).cell hbb).trans c3⟩) | (go_split_ands; exact ⟨((bl1.alloc bl1.size _).cell hbb).trans c0, ((bl1.alloc bl1.size _).cell hbb).trans c1, ((bl1.alloc bl1.size _).cell hbb).trans c2, ((bl1.alloc bl1.size _).cell hbb).trans c3⟩) | (go_split_ands; exact ⟨((bl2).cell hbb).trans c0, ((bl2).cell hbb).trans c1, ((bl2).cell hbb).trans c2, ((bl2).cell hbb).trans c3⟩) | (go_split_ands; exact ⟨((bl3).cell hbb).trans c0, ((bl3).cell hbb).trans c1, ((bl3).cell hbb).trans c2, ((bl3).cell hbb).trans c3⟩)) (first | ((refine step_app (by rfl) _ _ 29 (by rfl) 68 i0 _ 4 56 Try.underlying29 HI.out Z0.out Z1.out Z2.out (by rfl) (by decide) w2 bl2 v2 _ _ (by rfl) hown2 ⟨g, k * 4, none⟩ (i - k) (c - k) (flatA (os.drop k)) (by rfl) (by rw [flatA_len, List.length_drop, HLn.out]) (N3 _ bl2) (flatA_one _) (by unfold maxLen; omega) (by omega) ?_); intro v3 w5 hown3 bl3 hg3 hat3) | ((refine step_app (by rfl) _ _ 29 (by rfl) 68 i0 _ 4 56 Try.underlying29 HI.out Z0.out Z1.out Z2.out (by rfl) (by decide) w2 bl2 v2 _ _ (by rfl) hown2 (if c = k then (⟨g, 0, none⟩ : Addr) else ⟨g, k * 4, none⟩) (i - k) (c - k) (flatA (os.drop k)) (by exact if_slice _ _ _ _) (by rw [flatA_len, List.length_drop, HLn.out]) (N4 _ bl2) (flatA_one _) (by unfold maxLen; omega) (by omega) ?_); intro v3 w5 hown3 bl3 hg3 hat3) | ((refine step_app (by rfl) _ _ 29 (by rfl) 68 i0 _ 4 56 Try.underlying29 HI.out Z0.out Z1.out Z2.out (by rfl) (by decide) w2 (bl1.alloc bl1.size _) v1 _ _ (by rfl) (hown1.alloc _) ⟨w3.heap.size, 0, none⟩ 1 1 [.slice (some ⟨Mx, 0, none⟩) (nthP P i).l.length cx, .int .i64 (nthP P i).s, .int .i64 (nthP P i).e, .string (nthP P i).n] (by rfl) (by rfl) (blk_news (Blk.new w3 _ _)) (row_one ((Mx, cx, nthP P i) : ARow)) (by unfold maxLen; omega) (by omega) ?_); intro v2 w4 hown2 bl2 hg2 hat2) | ((refine step_app (by rfl) _ _ 29 (by rfl) 68 i0 _ 4 56 Try.underlying29 HI.out Z0.out Z1.out Z2.out (by rfl) (by decide) w2 bl1 v1 _ _ (by rfl) hown1 ⟨w2.heap.size + 1, 0, none⟩ 1 1 [.slice (some ⟨Mx, 0, none⟩) (nthP P i).l.length cx, .int .i64 (nthP P i).s, .int .i64 (nthP P i).e, .string (nthP P i).n] (by rfl) (by rfl) (blk_news (blk_far (M := w2.heap.size + 1) (Blk.new_at (by simp)).drew hg1 (fun e => absurd (show w2.heap.size + 1 = w2.heap.size from Option.some.inj e) (by omega)))) (row_one ((Mx, cx, nthP P i) : ARow)) (by unfold maxLen; omega) (by omega) ?_); intro v2 w4 hown2 bl2 hg2 hat2) | ((refine step_app (by rfl) _ _ 29 (by rfl) 68 i0 _ 4 56 Try.underlying29 HI.out Z0.out Z1.out Z2.out (by rfl) (by decide) w2 bl1 v1 _ _ (by rfl) hown1 ⟨w2.heap.size, 0, none⟩ 1 1 [.slice (some ⟨Mx, 0, none⟩) (nthP P i).l.length cx, .int .i64 (nthP P i).s, .int .i64 (nthP P i).e, .string (nthP P i).n] (by rfl) (by rfl) (blk_news (blk_far (M := w2.heap.size) ((Blk.new _ _ _).alloc _).drew hg1 (fun e => absurd (show w2.heap.size = w2.heap.size + 1 from Option.some.inj e) (by omega)))) (row_one ((Mx, cx, nthP P i) : ARow)) (by unfold maxLen; omega) (by omega) ?_); intro v2 w4 hown2 bl2 hg2 hat2) | ((refine step_app (by rfl) _ _ 29 (by rfl) 68 i0 _ 4 56 Try.underlying29 HI.out Z0.out Z1.out Z2.out (by rfl) (by decide) w2 (by first | exact bel1 _ _ | exact bel2 _ _ _) _ 0 [] (by rfl) (by first | exact own1 _ | exact own2 _ _ | exact own3 _ _) ⟨g, 0, none⟩ k c (flatA (os.take k)) (by rfl) (by rw [flatA_len, List.length_take, HLn.out]; omega) (by first | exact N1 _ (bel1 _ _) | exact N1 _ (bel2 _ _ _)) (flatA_one _) (by unfold maxLen; omega) (by omega) ?_); intro v1 w3 hown1 bl1 hg1 hat1))
          all_goals (have HO5 : Hid (Nx w w5 v3 (os.take k ++ ((Mx, cx, nthP P i) : ARow) :: os.drop k)) := Nx.of HO3.out HW3.out HB3.out HLn.out HNx.out hown3 bl3 (by omega))
          all_goals (have HL5 : Hid ((os.take k ++ ((Mx, cx, nthP P i) : ARow) :: os.drop k).length = i + 1) := by show _ = _; have := HLn.out; simp; omega)
          all_goals clear hown1 hown2 hown3 bl1 bl2 bl3 hg1 hg2 hg3 hat1 hat2 hat3 N1 N3 N4
          all_goals go_wp2
          all_goals go_roundw
          case rel => exact ⟨i + 1, os.take k ++ ((Mx, cx, nthP P i) : ARow) :: os.drop k, by go_num, by omega, HL5.out, HE.out, HO5.out⟩
          case measure => simp [intOf]; omega
          case rel => exact ⟨i + 1, os.take k ++ ((Mx, cx, nthP P i) : ARow) :: os.drop k, by go_num, by omega, HL5.out, HE.out, HO5.out⟩
          case measure => simp [intOf]; omega
          case rel => exact ⟨i + 1, os.take k ++ ((Mx, cx, nthP P i) : ARow) :: os.drop k, by go_num, by omega, HL5.out, HE.out, HO5.out⟩
          case measure => simp [intOf]; omega
    have hge : ¬ (i : Int) < (P.length : Int) := by omega
    have HF : Hid (pals os = sortP P) := by show _ = _; rw [HP.out]; unfold sortP; congr 1; omega
    go_wp2
    go_ret
    exact ⟨⟨g, c, os, by rw [HLn.out]; rfl, HO.out.1, HF.out⟩, HO.out.2⟩
end Go.Proofs.Ytcopckbpflmmeab.L8S
