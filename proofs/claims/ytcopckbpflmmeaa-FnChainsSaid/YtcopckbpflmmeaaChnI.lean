/-
  PROVED: over a chain and labels in memory impl.InChain answers as a plain function on lists says; nothing that was there is changed.
-/
import Derived.Test.YtcopckbpflmmeaaLop
import Derived.Test.YtcopckbpflmmeaaLst
namespace Go.Proofs.Ytcopckbpflmmeaa.ChnI
open Go.RowKit
open Go.Proofs.Ytcopckbpflmmeaa.Labs Go.Proofs.Ytcopckbpflmmeaa.LabS Go.Proofs.Ytcopckbpflmmeaa.Alms Go.Proofs.Ytcopckbpflmmeaa.Over Go.Proofs.Ytcopckbpflmmeaa.Blk Go.Proofs.Ytcopckbpflmmeaa.Rnd Go.Proofs.Ytcopckbpflmmeaa.Plc Go.Proofs.Ytcopckbpflmmeaa.Lop Go.Proofs.Ytcopckbpflmmeaa.App Go.Proofs.Ytcopckbpflmmeaa.Rws
set_option linter.unusedVariables false
attribute [local go_sem] Oper.semAt_some

set_option maxRecDepth 100000 in
set_option maxHeartbeats 4000000 in
theorem implIn_any (f : Int) (a a' : Option Addr) (cap cap' : Nat) (P : List PAl) (q : List Lab) (w : World) (hr : RdA w a P) (hr' : Reads w a' q) (hl : P.length ≤ 1048576) (hs : LenP P) (hq : q.length ≤ maxLen) :
    Calls Try.prog 21 #[.agg #[.int .i64 f, .slice a P.length cap], .slice a' q.length cap'] w fun e w' => e = .returned (.int .i64 (idxB P q)) ∧ Below w.heap.size w w' := by
  obtain ⟨b, off, ad, cp, ha, hat⟩ := pick hr
  have HA : Hid (∀ i, i < P.length → At w b off i (nthP P i) (ad i) (cp i)) := hat
  have HR : Hid (Reads w a' q ∧ LenP P ∧ q.length ≤ maxLen) := ⟨hr', hs, hq⟩
  have HAB : Hid (P = [] ∨ (a = some ⟨b, off, none⟩ ∧ b < w.heap.size)) := ha
  clear hr hat hr' hs hq ha
  refine (callsIn_wide (n := 2)).1 ?_
  refine callsIn_of_wp_marks Try.func21 rfl trivial ?_ rfl
  simp only [Try.ntmps21, List.size_toArray, List.length_cons, List.length_nil, Nat.reduceAdd, Nat.reduceSub, Array.replicate_succ, Array.replicate_zero, List.push_toArray, List.append_toArray, List.nil_append, List.cons_append]
  refine wpIn_wide.2 ?_
  go_wp2_with fail
  refine (places_any f a P.length cap _).mono ?_
  rintro e w1 ⟨rfl, rfl⟩
  go_wp2_with fail
  have hsz : ((((w.alloc (.cells #[.int .i64 f, .slice a P.length cap] 26)).alloc (.cells #[.slice a' q.length cap'] 27)).alloc (.cells #[.int .i64 0] 3)).alloc (.cells #[.int .i64 f, .slice a P.length cap] 26)).heap.size = w.heap.size + 4 := by simp
  have hW1 : Blk ((((w.alloc (.cells #[.int .i64 f, .slice a P.length cap] 26)).alloc (.cells #[.slice a' q.length cap'] 27)).alloc (.cells #[.int .i64 0] 3)).alloc (.cells #[.int .i64 f, .slice a P.length cap] 26)) (w.heap.size + 1) #[.slice a' q.length cap'] 27 := ((Blk.new_at (by simp)).alloc _).alloc _
  have hW2 : Blk ((((w.alloc (.cells #[.int .i64 f, .slice a P.length cap] 26)).alloc (.cells #[.slice a' q.length cap'] 27)).alloc (.cells #[.int .i64 0] 3)).alloc (.cells #[.int .i64 f, .slice a P.length cap] 26)) (w.heap.size + 1 + 1) #[.int .i64 0] 3 := (Blk.new_at (by simp)).alloc _
  have hW3 : Blk ((((w.alloc (.cells #[.int .i64 f, .slice a P.length cap] 26)).alloc (.cells #[.slice a' q.length cap'] 27)).alloc (.cells #[.int .i64 0] 3)).alloc (.cells #[.int .i64 f, .slice a P.length cap] 26)) (w.heap.size + 1 + 1 + 1) #[.int .i64 f, .slice a P.length cap] 26 := Blk.new_at (by simp)
  have hB0 : Below w.heap.size w ((((w.alloc (.cells #[.int .i64 f, .slice a P.length cap] 26)).alloc (.cells #[.slice a' q.length cap'] 27)).alloc (.cells #[.int .i64 0] 3)).alloc (.cells #[.int .i64 f, .slice a P.length cap] 26)) := (Alm.below3 w _ _ _).alloc (by simp; omega) _
  generalize ((((w.alloc (.cells #[.int .i64 f, .slice a P.length cap] 26)).alloc (.cells #[.slice a' q.length cap'] 27)).alloc (.cells #[.int .i64 0] 3)).alloc (.cells #[.int .i64 f, .slice a P.length cap] 26)) = W0 at *
  refine loop_places (B := w.heap.size + 1 + 1 + 1) (n₀ := w.heap.size) (P := P) (s := a) (cap := cap) (b := b) (off := off) (ad := ad) (cp := cp) rfl rfl (by omega) (by omega) (hW3.cell 1) hl HAB.out (fun i hi => (HA.out i hi).below hB0 (by
      rcases HAB.out with e | h
      · rw [e] at hi; simp at hi
      · exact h.2))
    (fun pre W => (∀ x ∈ pre, (nthP P x.1).l ≠ q) ∧ Blk W (w.heap.size + 1) #[.slice a' q.length cap'] 27 ∧ Blk W (w.heap.size + 1 + 1) #[.int .i64 0] 3 ∧ Below w.heap.size w W ∧ W0.heap.size ≤ W.heap.size)
    (fun pre W => ∃ ini last, pre = ini ++ [last] ∧ (∀ x ∈ ini, (nthP P x.1).l ≠ q) ∧ (nthP P last.1).l = q ∧ Blk W (w.heap.size + 1 + 1) #[.int .i64 (last.1 : Int)] 3 ∧ Below w.heap.size w W)
    (fun pre W W' h ht => ⟨h.1, ht.blk h.2.1, ht.blk h.2.2.1, ht.below (Nat.le_refl _) (by omega) h.2.2.2.1, Nat.le_trans h.2.2.2.2 ht.size⟩)
    (fun pre W W' h ht => by
      obtain ⟨ini, last, h1, h2, h3, h4, h5⟩ := h
      exact ⟨ini, last, h1, h2, h3, ht.blk h4, ht.below (Nat.le_refl _) (by omega) h5⟩)
    (fun pre W h => h.2.2.2.2) ⟨fun x hx => by simp at hx, hW1, hW2, hB0, Nat.le_refl _⟩
    (fun x N => { tmps := #[.agg #[.int .i64 f, .slice a P.length cap], .slice a' q.length cap', .pointer (some ⟨w.heap.size, 0, none⟩), .pointer (some ⟨w.heap.size + 1, 0, none⟩), .pointer (some ⟨w.heap.size + 1 + 1, 0, none⟩), .int .i64 (x.1 : Int), .pointer (some ⟨N, 0, none⟩), .agg #[.int .i64 f, .slice a P.length cap], .func (.func 95) #[] #[.pointer (some ⟨w.heap.size + 1 + 1 + 1, 0, none⟩)], .int .i64 (x.1 : Int), .agg #[.slice (ad x.1) (nthP P x.1).l.length (cp x.1), .int .i64 (nthP P x.1).s, .int .i64 (nthP P x.1).e, .string (nthP P x.1).n], undef, undef, undef, undef, undef], defers := [] }) ?assign ?body ?done ?stop
  case assign =>
    intro l x W K hK
    dsimp only [enc]
    gi_wp2
    exact hK
  case body =>
    rintro l pre x N W hN hx ⟨hp, h1, h2, hB, hz⟩ hlt
    have HP : Hid (∀ x ∈ pre, (nthP P x.1).l ≠ q) := hp
    have HX : Hid (Blk W N (alC (nthP P x.1) (ad x.1) (cp x.1)) 29) := hx
    have H1 : Hid (Blk W (w.heap.size + 1) #[.slice a' q.length cap'] 27) := h1
    have H2 : Hid (Blk W (w.heap.size + 1 + 1) #[.int .i64 0] 3) := h2
    have HB : Hid (Below w.heap.size w W ∧ W0.heap.size ≤ W.heap.size) := ⟨hB, hz⟩
    have c0 : W.cell? ⟨N, 0, none⟩ = some (.slice (ad x.1) (nthP P x.1).l.length (cp x.1)) := hx.cell 0
    have c1 : W.cell? ⟨w.heap.size + 1, 0, none⟩ = some (.slice a' q.length cap') := h1.cell 0
    have HC : Hid (Calls Try.prog 63 #[.slice (ad x.1) (nthP P x.1).l.length (cp x.1), .slice a' q.length cap'] W fun e w' => e = .returned (.bool (decide ((nthP P x.1).l = q))) ∧ Below W.heap.size W w') := calls_drew (implSame_any _ _ _ _ _ _ W ((HA.out x.1 x.2).reads.below hB) (HR.out.1.below hB) (HR.out.2.1 x.1 x.2) HR.out.2.2)
    clear hp hx h1 h2 hB hz
    by_cases hd : (nthP P x.1).l = q
    · have hd' : decide ((nthP P x.1).l = q) = true := decide_eq_true hd
      have HE : Hid ((nthP P x.1).l = q) := hd
      clear hd
      gi_wp2_with fail
      refine ⟨trivial, rfl, (calls_in HC.out).mono ?_⟩
      rintro e w2 ⟨rfl, hb2⟩
      have HB2 : Hid (Below W.heap.size W w2) := hb2
      have h2 := H2.out.grow hb2
      have c2 := h2.frozen 0
      have c3 : w2.cell? ⟨w.heap.size + 1 + 1, 0, none⟩ = some (.int .i64 0) := h2.cell 0
      clear hb2 h2 c0 c1 HC
      gi_wp2
      exact ⟨(keeps_of HB2.out).trans ((KeepsOthers.setCell _ _ _).from _), rfl, pre, x, rfl, HP.out, HE.out, (H2.out.grow HB2.out).set 0 _, set_low (grow_on HB.out.1 HB2.out) (by omega) _ _⟩
    · have hd' : decide ((nthP P x.1).l = q) = false := decide_eq_false hd
      have HE : Hid ((nthP P x.1).l ≠ q) := hd
      clear hd
      gi_wp2_with fail
      refine ⟨trivial, rfl, (calls_in HC.out).mono ?_⟩
      rintro e w2 ⟨rfl, hb2⟩
      have HB2 : Hid (Below W.heap.size W w2) := hb2
      clear hb2 c0 c1 HC
      gi_wp2
      exact ⟨keeps_of HB2.out, HB2.out.mono HB.out.1.size, fun y hy => (List.mem_append.1 hy).elim (HP.out y) (fun e => by rw [List.mem_singleton.1 e]; exact HE.out), H1.out.grow HB2.out, H2.out.grow HB2.out, grow_on HB.out.1 HB2.out, Nat.le_trans HB.out.2 HB2.out.size⟩
  case done =>
    rintro D xs W hD hlen hg ⟨hp, h1, h2, hB, hz⟩ hK
    have c2 := h2.frozen 0
    have c3 : W.cell? ⟨w.heap.size + 1 + 1, 0, none⟩ = some (.int .i64 0) := h2.cell 0
    have HM : Hid (idxB P q = -1) := idx_miss fun j hj => by
      obtain ⟨x, hx, e⟩ := good_has hg (i := j) (by rw [hlen]; exact hj)
      rw [← e]; exact hp x hx
    go_wp2
    have hK' : (W.setCell ⟨w.heap.size + 1 + 1, 0, none⟩ (.int .i64 (-1))).heap[D]? = some (.deferred (some [])) := (Below.heap_setCell _ _ _ _ (by show D ≠ w.heap.size + 1 + 1; omega)).trans hK
    have ht := turn_shut (o := .deferred none) hK' hD
    have hR : ((W.setCell ⟨w.heap.size + 1 + 1, 0, none⟩ (.int .i64 (-1))).putObj D (.deferred none)).cell? ⟨w.heap.size + 1 + 1, 0, none⟩ = some (.int .i64 (-1)) := (ht.blk (h2.set 0 (.int .i64 (-1)))).cell 0
    refine ⟨by simp, .inl ⟨_, _, rfl, run_takeDeferred hK', ?_⟩⟩
    refine ⟨.int .i64 (-1), ?_, retI HM.out.symm, ht.below (Nat.le_refl _) (by omega) (set_low hB (by omega) _ _)⟩
    simp [results, Try.results21, go_sem, hR]
  case stop =>
    rintro D pre W hD hg ⟨ini, last, rfl, hp, he, h2, hB⟩ hK
    have HM : Hid (idxB P q = (last.1 : Int)) := by
      obtain ⟨hg1, hg2⟩ := good_front hg
      refine idx_hit (fun i hi => ?_) he last.2
      obtain ⟨x, hx, e⟩ := good_has hg1 (i := i) (by omega)
      rw [← e]; exact hp x hx
    go_wp2
    have ht := turn_shut (o := .deferred none) hK hD
    have hR : (W.putObj D (.deferred none)).cell? ⟨w.heap.size + 1 + 1, 0, none⟩ = some (.int .i64 (last.1 : Int)) := (ht.blk h2).cell 0
    refine ⟨by simp, .inl ⟨_, _, rfl, run_takeDeferred hK, ?_⟩⟩
    refine ⟨.int .i64 (last.1 : Int), ?_, retI HM.out.symm, ht.below (Nat.le_refl _) (by omega) hB⟩
    simp [results, Try.results21, go_sem, hR]
end Go.Proofs.Ytcopckbpflmmeaa.ChnI
