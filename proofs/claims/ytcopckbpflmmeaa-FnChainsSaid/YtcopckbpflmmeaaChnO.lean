/-
  PROVED: over a chain in memory impl.ChainOk answers as a plain function on lists says; nothing that was there is changed.
-/
import Derived.Test.YtcopckbpflmmeaaChnI
import Derived.Test.YtcopckbpflmmeaaFing
namespace Go.Proofs.Ytcopckbpflmmeaa.ChnO
open Go.RowKit
open Go.Proofs.Ytcopckbpflmmeaa.Labs Go.Proofs.Ytcopckbpflmmeaa.LabS Go.Proofs.Ytcopckbpflmmeaa.Alms Go.Proofs.Ytcopckbpflmmeaa.AlmS Go.Proofs.Ytcopckbpflmmeaa.Over Go.Proofs.Ytcopckbpflmmeaa.Blk Go.Proofs.Ytcopckbpflmmeaa.Rnd Go.Proofs.Ytcopckbpflmmeaa.Plc Go.Proofs.Ytcopckbpflmmeaa.Lop Go.Proofs.Ytcopckbpflmmeaa.App Go.Proofs.Ytcopckbpflmmeaa.Rws Go.Proofs.Ytcopckbpflmmeaa.ChnI
open Go.Proofs.Ytcopckbpflmmeaa.Fing (fingerB)
open Go.Proofs.Ytcopckbpflmmeaa.StrB (retB)
set_option linter.unusedVariables false
attribute [local go_sem] Oper.semAt_some

/-- whether the i-th alarm may stand where it does -/
def okC (f : Int) (P : List PAl) (i : Nat) : Bool := alarmB (nthP P i).l (nthP P i).s (nthP P i).e (nthP P i).n && (decide ((fingerB (nthP P i).l : Int) = f) && decide (idxB P (nthP P i).l = (i : Int)))
def chainB (f : Int) (P : List PAl) : Bool := (List.range P.length).all (okC f P) && decide (0 < P.length)
theorem okC_1 {f : Int} {P : List PAl} {i : Nat} (h : alarmB (nthP P i).l (nthP P i).s (nthP P i).e (nthP P i).n = false) : okC f P i = false := by simp [okC, h]
theorem okC_2 {f : Int} {P : List PAl} {i : Nat} (h : (fingerB (nthP P i).l : Int) ≠ f) : okC f P i = false := by simp [okC, h]
theorem okC_3 {f : Int} {P : List PAl} {i : Nat} (h : idxB P (nthP P i).l ≠ (i : Int)) : okC f P i = false := by simp [okC, h]
theorem okC_y {f : Int} {P : List PAl} {i : Nat} (h1 : alarmB (nthP P i).l (nthP P i).s (nthP P i).e (nthP P i).n = true) (h2 : (fingerB (nthP P i).l : Int) = f) (h3 : idxB P (nthP P i).l = (i : Int)) : okC f P i = true := by simp [okC, h1, h2, h3]
theorem chain_bad {f : Int} {P : List PAl} {i : Nat} (hi : i < P.length) (h : okC f P i = false) : chainB f P = false := by
  unfold chainB
  rw [Bool.and_eq_false_iff]
  left
  rw [List.all_eq_false]
  exact ⟨i, by simpa using hi, by simp [h]⟩
theorem chain_good {f : Int} {P : List PAl} (h : ∀ i, i < P.length → okC f P i = true) : chainB f P = decide (0 < P.length) := by
  unfold chainB
  rw [List.all_eq_true.2 (fun i hi => h i (by simpa using hi))]; rfl

set_option maxRecDepth 100000 in
set_option maxHeartbeats 8000000 in
theorem implChain_any (f : Int) (a : Option Addr) (cap : Nat) (P : List PAl) (w : World) (hr : RdA w a P) (hl : P.length ≤ 1048576) (hs : FitsP P) :
    Calls Try.prog 17 #[.agg #[.int .i64 f, .slice a P.length cap]] w fun e w' => e = .returned (.bool (chainB f P)) ∧ Below w.heap.size w w' := by
  obtain ⟨b, off, ad, cp, ha, hat⟩ := pick hr
  have HA : Hid (∀ i, i < P.length → At w b off i (nthP P i) (ad i) (cp i)) := hat
  have HR : Hid (RdA w a P) := hr
  have HF : Hid (FitsP P) := hs
  have HAB : Hid (P = [] ∨ (a = some ⟨b, off, none⟩ ∧ b < w.heap.size)) := ha
  clear hr hat hs ha
  refine (callsIn_wide (n := 2)).1 ?_
  refine callsIn_of_wp_marks Try.func17 rfl trivial ?_ rfl
  simp only [Try.ntmps17, List.size_toArray, List.length_cons, List.length_nil, Nat.reduceAdd, Nat.reduceSub, Array.replicate_succ, Array.replicate_zero, List.push_toArray, List.append_toArray, List.nil_append, List.cons_append]
  refine wpIn_wide.2 ?_
  go_wp2_with fail
  refine (places_any f a P.length cap _).mono ?_
  rintro e w1 ⟨rfl, rfl⟩
  go_wp2_with fail
  have hsz : (((w.alloc (.cells #[.int .i64 f, .slice a P.length cap] 26)).alloc (.cells #[.bool false] 4)).alloc (.cells #[.int .i64 f, .slice a P.length cap] 26)).heap.size = w.heap.size + 3 := by simp
  have hW1 : Blk (((w.alloc (.cells #[.int .i64 f, .slice a P.length cap] 26)).alloc (.cells #[.bool false] 4)).alloc (.cells #[.int .i64 f, .slice a P.length cap] 26)) w.heap.size #[.int .i64 f, .slice a P.length cap] 26 := ((Blk.new _ _ _).alloc _).alloc _
  have hW2 : Blk (((w.alloc (.cells #[.int .i64 f, .slice a P.length cap] 26)).alloc (.cells #[.bool false] 4)).alloc (.cells #[.int .i64 f, .slice a P.length cap] 26)) (w.heap.size + 1) #[.bool false] 4 := (Blk.new_at (by simp)).alloc _
  have hW3 : Blk (((w.alloc (.cells #[.int .i64 f, .slice a P.length cap] 26)).alloc (.cells #[.bool false] 4)).alloc (.cells #[.int .i64 f, .slice a P.length cap] 26)) (w.heap.size + 1 + 1) #[.int .i64 f, .slice a P.length cap] 26 := Blk.new_at (by simp)
  have hB0 : Below w.heap.size w (((w.alloc (.cells #[.int .i64 f, .slice a P.length cap] 26)).alloc (.cells #[.bool false] 4)).alloc (.cells #[.int .i64 f, .slice a P.length cap] 26)) := Alm.below3 w _ _ _
  generalize (((w.alloc (.cells #[.int .i64 f, .slice a P.length cap] 26)).alloc (.cells #[.bool false] 4)).alloc (.cells #[.int .i64 f, .slice a P.length cap] 26)) = W0 at *
  refine loop_places (B := w.heap.size + 1 + 1) (n₀ := w.heap.size) (P := P) (s := a) (cap := cap) (b := b) (off := off) (ad := ad) (cp := cp) rfl rfl (by omega) (by omega) (hW3.cell 1) hl HAB.out (fun i hi => (HA.out i hi).below hB0 (by
      rcases HAB.out with e | h
      · rw [e] at hi; simp at hi
      · exact h.2))
    (fun pre W => (∀ x ∈ pre, okC f P x.1 = true) ∧ Blk W w.heap.size #[.int .i64 f, .slice a P.length cap] 26 ∧ Blk W (w.heap.size + 1) #[.bool false] 4 ∧ Below w.heap.size w W ∧ W0.heap.size ≤ W.heap.size)
    (fun pre W => ∃ ini last, pre = ini ++ [last] ∧ okC f P last.1 = false ∧ Blk W (w.heap.size + 1) #[.bool false] 4 ∧ Below w.heap.size w W)
    (fun pre W W' h ht => ⟨h.1, ht.blk h.2.1, ht.blk h.2.2.1, ht.below (Nat.le_refl _) (by omega) h.2.2.2.1, Nat.le_trans h.2.2.2.2 ht.size⟩)
    (fun pre W W' h ht => by
      obtain ⟨ini, last, h1, h3, h4, h5⟩ := h
      exact ⟨ini, last, h1, h3, ht.blk h4, ht.below (Nat.le_refl _) (by omega) h5⟩)
    (fun pre W h => h.2.2.2.2) ⟨fun x hx => by simp at hx, hW1, hW2, hB0, Nat.le_refl _⟩
    (fun x N => { tmps := #[.agg #[.int .i64 f, .slice a P.length cap], .pointer (some ⟨w.heap.size, 0, none⟩), .pointer (some ⟨w.heap.size + 1, 0, none⟩), .int .i64 (x.1 : Int), .pointer (some ⟨N, 0, none⟩), .agg #[.int .i64 f, .slice a P.length cap], .func (.func 95) #[] #[.pointer (some ⟨w.heap.size + 1 + 1, 0, none⟩)], .int .i64 (x.1 : Int), .agg #[.slice (ad x.1) (nthP P x.1).l.length (cp x.1), .int .i64 (nthP P x.1).s, .int .i64 (nthP P x.1).e, .string (nthP P x.1).n], undef, undef, undef, undef, undef, undef, undef, undef, undef, undef, undef, undef, undef, undef, undef, undef, undef, undef, undef, undef, undef, undef, undef], defers := [] }) ?assign ?body ?done ?stop
  case assign =>
    intro l x W K hK
    dsimp only [enc]
    gi_wp2
    exact hK
  case body =>
    rintro l pre x N W hN hx ⟨hp, h1, h2, hB, hz⟩ hlt
    have HP : Hid (∀ x ∈ pre, okC f P x.1 = true) := hp
    have H1 : Hid (Blk W w.heap.size #[.int .i64 f, .slice a P.length cap] 26) := h1
    have H2 : Hid (Blk W (w.heap.size + 1) #[.bool false] 4) := h2
    have HB : Hid (Below w.heap.size w W ∧ W0.heap.size ≤ W.heap.size) := ⟨hB, hz⟩
    have hne := Grown.some W
    have x0 : ∀ q : Grown W, q.out.cell? ⟨N, 0, none⟩ = some (.slice (ad x.1) (nthP P x.1).l.length (cp x.1)) := fun q => q.cell hx.lt (hx.cell 0)
    have x1 : ∀ q : Grown W, q.out.cell? ⟨N, 1, none⟩ = some (.int .i64 (nthP P x.1).s) := fun q => q.cell hx.lt (hx.cell 1)
    have x2 : ∀ q : Grown W, q.out.cell? ⟨N, 2, none⟩ = some (.int .i64 (nthP P x.1).e) := fun q => q.cell hx.lt (hx.cell 2)
    have x3 : ∀ q : Grown W, q.out.cell? ⟨N, 3, none⟩ = some (.string (nthP P x.1).n) := fun q => q.cell hx.lt (hx.cell 3)
    have y0 : ∀ q : Grown W, q.out.cell? ⟨w.heap.size, 0, none⟩ = some (.int .i64 f) := fun q => q.cell h1.lt (h1.cell 0)
    have y1 : ∀ q : Grown W, q.out.cell? ⟨w.heap.size, 1, none⟩ = some (.slice a P.length cap) := fun q => q.cell h1.lt (h1.cell 1)
    have hat := (HA.out x.1 x.2).reads.below hB
    have HC1 : ∀ q : Grown W, Hid (Calls Try.prog 57 #[.agg #[.slice (ad x.1) (nthP P x.1).l.length (cp x.1), .int .i64 (nthP P x.1).s, .int .i64 (nthP P x.1).e, .string (nthP P x.1).n]] q.out fun e w' => e = .returned (.bool (alarmB (nthP P x.1).l (nthP P x.1).s (nthP P x.1).e (nthP P x.1).n)) ∧ Below q.out.heap.size q.out w') := fun q => implAlarm_any _ _ _ _ _ _ _ ((HF.out x.1 x.2).al (hat.below q.bel))
    have HC2 : ∀ q : Grown W, Hid (Calls Try.prog 58 #[.slice (ad x.1) (nthP P x.1).l.length (cp x.1)] q.out fun e w' => e = .returned (.int .i64 (fingerB (nthP P x.1).l)) ∧ Below q.out.heap.size q.out w') := fun q => Fing.implFinger_any _ _ _ _ (hat.below q.bel) (HF.out x.1 x.2).len (HF.out x.1 x.2).fits
    have HC3 : ∀ q : Grown W, Hid (Calls Try.prog 21 #[.agg #[.int .i64 f, .slice a P.length cap], .slice (ad x.1) (nthP P x.1).l.length (cp x.1)] q.out fun e w' => e = .returned (.int .i64 (idxB P (nthP P x.1).l)) ∧ Below q.out.heap.size q.out w') := fun q => implIn_any f a _ cap _ P _ _ (HR.out.below (grow_on hB q.bel)) (hat.below q.bel) hl (fun i hi => (HF.out i hi).len) (HF.out x.1 x.2).len
    clear hp hx h1 h2 hB hz hat
    cases hA : alarmB (nthP P x.1).l (nthP P x.1).s (nthP P x.1).e (nthP P x.1).n with
    | false =>
      have HE : Hid (okC f P x.1 = false) := okC_1 hA
      rw [hA] at HC1
      clear hA
      gi_wp2
      refine over_in (z := W) (by kernel_rfl) (by kernel_rfl) (by kernel_rfl) (fun h => by obtain ⟨_, _, h⟩ := h; exact h) (Below.refl _ _) ?_
      repeat (go_big_quiet_step (first | (go_at_call 57; exact call_over (HC1 _).out) | (go_at_call 58; exact call_over (HC2 _).out) | (go_at_call 21; exact call_over (HC3 _).out)))
      refine wpQuiet_nil ?_
      intro w2 hw2
      have hb2 := over_bel hw2
      have HB2 : Hid (Below W.heap.size W w2) := hb2
      clear hw2 hne HC1 HC2 HC3 x0 x1 x2 x3 y0 y1
      have h2 := H2.out.grow hb2
      have c2 := h2.frozen 0
      have c3 : w2.cell? ⟨w.heap.size + 1, 0, none⟩ = some (.bool false) := h2.cell 0
      clear hb2 h2
      gi_wp2
      exact ⟨(keeps_of HB2.out).trans ((KeepsOthers.setCell _ _ _).from _), rfl, pre, x, rfl, HE.out, (H2.out.grow HB2.out).set 0 _, set_low (grow_on HB.out.1 HB2.out) (by omega) _ _⟩
    | true =>
      rw [hA] at HC1
      by_cases hF : (fingerB (nthP P x.1).l : Int) = f
      · by_cases hI : idxB P (nthP P x.1).l = (x.1 : Int)
        · have HE : Hid (okC f P x.1 = true) := okC_y hA hF hI
          clear hA
          gi_wp2
          refine over_in (z := W) (by kernel_rfl) (by kernel_rfl) (by kernel_rfl) (fun h => by obtain ⟨_, _, h⟩ := h; exact h) (Below.refl _ _) ?_
          repeat (go_big_quiet_step (first | (go_at_call 57; exact call_over (HC1 _).out) | (go_at_call 58; exact call_over (HC2 _).out) | (go_at_call 21; exact call_over (HC3 _).out)))
          refine wpQuiet_nil ?_
          intro w2 hw2
          have hb2 := over_bel hw2
          have HB2 : Hid (Below W.heap.size W w2) := hb2
          clear hw2 hne HC1 HC2 HC3 x0 x1 x2 x3 y0 y1
          clear hb2
          gi_wp2
          exact ⟨keeps_of HB2.out, HB2.out.mono HB.out.1.size, fun y hy => (List.mem_append.1 hy).elim (HP.out y) (fun e => by rw [List.mem_singleton.1 e]; exact HE.out), H1.out.grow HB2.out, H2.out.grow HB2.out, grow_on HB.out.1 HB2.out, Nat.le_trans HB.out.2 HB2.out.size⟩
        · have HE : Hid (okC f P x.1 = false) := okC_3 hI
          clear hA
          gi_wp2
          refine over_in (z := W) (by kernel_rfl) (by kernel_rfl) (by kernel_rfl) (fun h => by obtain ⟨_, _, h⟩ := h; exact h) (Below.refl _ _) ?_
          repeat (go_big_quiet_step (first | (go_at_call 57; exact call_over (HC1 _).out) | (go_at_call 58; exact call_over (HC2 _).out) | (go_at_call 21; exact call_over (HC3 _).out)))
          refine wpQuiet_nil ?_
          intro w2 hw2
          have hb2 := over_bel hw2
          have HB2 : Hid (Below W.heap.size W w2) := hb2
          clear hw2 hne HC1 HC2 HC3 x0 x1 x2 x3 y0 y1
          have h2 := H2.out.grow hb2
          have c2 := h2.frozen 0
          have c3 : w2.cell? ⟨w.heap.size + 1, 0, none⟩ = some (.bool false) := h2.cell 0
          clear hb2 h2
          gi_wp2
          exact ⟨(keeps_of HB2.out).trans ((KeepsOthers.setCell _ _ _).from _), rfl, pre, x, rfl, HE.out, (H2.out.grow HB2.out).set 0 _, set_low (grow_on HB.out.1 HB2.out) (by omega) _ _⟩
      · have HE : Hid (okC f P x.1 = false) := okC_2 hF
        have hF1 : ((fingerB (nthP P x.1).l : Int) != f) = true := bne_iff_ne.2 hF
        clear hA
        gi_wp2
        refine over_in (z := W) (by kernel_rfl) (by kernel_rfl) (by kernel_rfl) (fun h => by obtain ⟨_, _, h⟩ := h; exact h) (Below.refl _ _) ?_
        repeat (go_big_quiet_step (first | (go_at_call 57; exact call_over (HC1 _).out) | (go_at_call 58; exact call_over (HC2 _).out) | (go_at_call 21; exact call_over (HC3 _).out)))
        refine wpQuiet_nil ?_
        intro w2 hw2
        have hb2 := over_bel hw2
        have HB2 : Hid (Below W.heap.size W w2) := hb2
        clear hw2 hne HC1 HC2 HC3 x0 x1 x2 x3 y0 y1
        have h2 := H2.out.grow hb2
        have c2 := h2.frozen 0
        have c3 : w2.cell? ⟨w.heap.size + 1, 0, none⟩ = some (.bool false) := h2.cell 0
        clear hb2 h2
        gi_wp2
        exact ⟨(keeps_of HB2.out).trans ((KeepsOthers.setCell _ _ _).from _), rfl, pre, x, rfl, HE.out, (H2.out.grow HB2.out).set 0 _, set_low (grow_on HB.out.1 HB2.out) (by omega) _ _⟩
  case done =>
    rintro D xs W hD hlen hg ⟨hp, h1, h2, hB, hz⟩ hK
    have c2 := h2.frozen 0
    have c3 : W.cell? ⟨w.heap.size + 1, 0, none⟩ = some (.bool false) := h2.cell 0
    have c1 : W.cell? ⟨w.heap.size, 1, none⟩ = some (.slice a P.length cap) := h1.cell 1
    have HM : Hid (chainB f P = decide (0 < P.length)) := chain_good fun j hj => by
      obtain ⟨x, hx, e⟩ := good_has hg (i := j) (by rw [hlen]; exact hj)
      rw [← e]; exact hp x hx
    go_wp2
    have hK' : (W.setCell ⟨w.heap.size + 1, 0, none⟩ (.bool (decide (0 < P.length)))).heap[D]? = some (.deferred (some [])) := (Below.heap_setCell _ _ _ _ (by show D ≠ w.heap.size + 1; omega)).trans hK
    have ht := turn_shut (o := .deferred none) hK' hD
    have hR : ((W.setCell ⟨w.heap.size + 1, 0, none⟩ (.bool (decide (0 < P.length)))).putObj D (.deferred none)).cell? ⟨w.heap.size + 1, 0, none⟩ = some (.bool (decide (0 < P.length))) := (ht.blk (h2.set 0 (.bool (decide (0 < P.length))))).cell 0
    refine ⟨by simp, .inl ⟨_, _, rfl, run_takeDeferred hK', ?_⟩⟩
    refine ⟨.bool (decide (0 < P.length)), ?_, retB HM.out.symm, ht.below (Nat.le_refl _) (by omega) (set_low hB (by omega) _ _)⟩
    simp [results, Try.results17, go_sem, hR]
  case stop =>
    rintro D pre W hD hg ⟨ini, last, rfl, he, h2, hB⟩ hK
    have HM : Hid (chainB f P = false) := chain_bad last.2 he
    go_wp2
    have ht := turn_shut (o := .deferred none) hK hD
    have hR : (W.putObj D (.deferred none)).cell? ⟨w.heap.size + 1, 0, none⟩ = some (.bool false) := (ht.blk h2).cell 0
    refine ⟨by simp, .inl ⟨_, _, rfl, run_takeDeferred hK, ?_⟩⟩
    refine ⟨.bool false, ?_, retB HM.out.symm, ht.below (Nat.le_refl _) (by omega) hB⟩
    simp [results, Try.results17, go_sem, hR]
end Go.Proofs.Ytcopckbpflmmeaa.ChnO
