/-
  PROVED: the contracts of what the exact laws call over chains: the size that szChain counts, the copy that toChain makes, that eqChain finds two of the same alike, the marks that markAlarmS writes and heldAlarmS finds; what a chain that came in is.
-/
import Derived.Test.YtcopckbpflmmeaaChnV
import Derived.Test.YtcopckbpflmmeaaLsK
namespace Go.Proofs.Ytcopckbpflmmeaa.ChnK
open Go.RowKit
open Go.ChangeShapes Go.WideShapes
open Go.Proofs.Ytcopckbpflmmeaa.Labs Go.Proofs.Ytcopckbpflmmeaa.LabS Go.Proofs.Ytcopckbpflmmeaa.Alms Go.Proofs.Ytcopckbpflmmeaa.AlmS Go.Proofs.Ytcopckbpflmmeaa.AlmM Go.Proofs.Ytcopckbpflmmeaa.Over Go.Proofs.Ytcopckbpflmmeaa.Blk Go.Proofs.Ytcopckbpflmmeaa.App Go.Proofs.Ytcopckbpflmmeaa.Rws Go.Proofs.Ytcopckbpflmmeaa.ChnC Go.Proofs.Ytcopckbpflmmeaa.ChnP Go.Proofs.Ytcopckbpflmmeaa.ChnD
open Go.Proofs.Ytcopckbpflmmeaa.Mark (Apart Marked)
open Go.Proofs.Ytcopckbpflmmeaa.StrB (retB)
open Go.Proofs.Ytcopckbpflmmeaa.Alm (at_par)
open Go.Proofs.Ytcopckbpflmmeaa.LabT (Held held_reads)
set_option linter.unusedVariables false

theorem szC_any (f : Int) (a : Option Addr) (cap : Nat) (P : List PAl) (left : Int) (w : World) (hr : RdA w a P) (hl : P.length ≤ maxLen) (hz : FitsP P) (h0 : 0 ≤ left) (h1 : left ≤ 1048576) :
    Calls Try.prog 25 #[.agg #[.int .i64 f, .slice a P.length cap], .int .i64 left] w fun e w' => (∃ n : Int, e = .returned (.int .i64 n) ∧ n ≤ left ∧ (0 ≤ n → n + (P.length : Int) + (sumL P : Int) ≤ left)) ∧ Below w.heap.size w w' := by
  have HR : Hid (RdA w a P ∧ P.length ≤ maxLen ∧ FitsP P) := ⟨hr, hl, hz⟩
  clear hr hl hz
  go_enter Try.func25, Try.ntmps25
  go_wp2_with fail
  refine (Alms.sz_any a cap P left _ (HR.out.1.below (Go.Joins.below_alloc1 w _)) HR.out.2.1 HR.out.2.2 h0 h1).mono ?_
  rintro r w1 ⟨⟨n, rfl, hn, hn2⟩, hb⟩
  have HB : Hid (Below w.heap.size w w1) := grow_on (Go.Joins.below_alloc1 w _) hb
  have HN : Hid (0 ≤ n → n + (P.length : Int) + (sumL P : Int) ≤ left) := hn2
  clear hb hn2
  by_cases g : n < 0
  · go_wp2
    go_ret
    exact ⟨⟨-1, rfl, by omega, fun h => by omega⟩, HB.out⟩
  · go_wp2
    go_ret
    exact ⟨⟨_, rfl, hn, HN.out⟩, HB.out⟩

set_option maxHeartbeats 400000 in
theorem toC_any (f : Int) (a : Option Addr) (cap : Nat) (P : List PAl) (w : World) (hr : RdA w a P) (hl : P.length ≤ 1048576) (hs : sumL P ≤ 1048576) :
    Calls Try.prog 27 #[.agg #[.int .i64 f, .slice a P.length cap]] w fun r w' => (∃ M rs, r = .returned (.agg #[.int .i64 f, .slice (some ⟨M, 0, none⟩) P.length P.length]) ∧ AB w.heap.size w' M P.length rs ∧ pals rs = P) ∧ Below w.heap.size w w' := by
  have HR : Hid (RdA w a P) := hr
  have HS : Hid (sumL P ≤ 1048576) := hs
  clear hr hs
  go_enter Try.func27, Try.ntmps27
  go_wp2_with fail
  have hB3 : Below w.heap.size w (((w.alloc (.cells #[.int .i64 f, .slice a P.length cap] 51)).alloc (.cells #[.int .i64 0, .slice none 0 0] 26)).alloc (.cells #[.int .i64 f, .slice none 0 0] 26)) := Alm.below3 w _ _ _
  refine (Alms.to_any a cap P _ (HR.out.below hB3) hl HS.out).mono ?_
  rintro r w1 ⟨rfl, ⟨cs, g, hC⟩, hb⟩
  have hP : Blk w1 w.heap.size #[.int .i64 f, .slice a P.length cap] 51 := (((Blk.new _ _ _).alloc _).alloc _).grow hb
  have hR : Blk w1 (w.heap.size + 1) #[.int .i64 0, .slice none 0 0] 26 := ((Blk.new_at (by simp)).alloc _).grow hb
  have hO : Blk w1 (w.heap.size + 1 + 1) #[.int .i64 f, .slice none 0 0] 26 := (Blk.new_at (by simp)).grow hb
  have HB : Hid (Below w.heap.size w w1) := grow_on hB3 hb
  have HC : Hid (∃ rs, AB w.heap.size w1 (w.heap.size + 1 + 1 + 1) P.length rs ∧ pals rs = P) := by
    have h := copy_ab (lo := w.heap.size) hC (by simp; omega) hl (fun i hi => Nat.le_trans (sum_nth hi) HS.out)
    have e : (((w.alloc (.cells #[.int .i64 f, .slice a P.length cap] 51)).alloc (.cells #[.int .i64 0, .slice none 0 0] 26)).alloc (.cells #[.int .i64 f, .slice none 0 0] 26)).heap.size = w.heap.size + 1 + 1 + 1 := by simp
    rw [e] at h
    exact h
  have HRR : Hid (Blk w1 (w.heap.size + 1) #[.int .i64 0, .slice none 0 0] 26) := hR
  have HO : Hid (Blk w1 (w.heap.size + 1 + 1) #[.int .i64 f, .slice none 0 0] 26) := hO
  have o0 : w1.cell? ⟨w.heap.size + 1 + 1, 0, none⟩ = some (.int .i64 f) := hO.cell 0
  have o1 : w1.cell? ⟨w.heap.size + 1 + 1, 1, none⟩ = some (.slice none 0 0) := hO.cell 1
  have fo := hO.frozen 1
  have r0 : w1.cell? ⟨w.heap.size + 1, 0, none⟩ = some (.int .i64 0) := hR.cell 0
  have r1 : w1.cell? ⟨w.heap.size + 1, 1, none⟩ = some (.slice none 0 0) := hR.cell 1
  have f0 := hR.frozen 0
  have f1 := hR.frozen 1
  clear hb hC hP hR hO hB3
  go_wp2
  have hs : Blk (((w1.setCell ⟨w.heap.size + 1 + 1, 1, none⟩ (.slice (some ⟨w.heap.size + 1 + 1 + 1, 0, none⟩) P.length P.length)).setCell ⟨w.heap.size + 1, 0, none⟩ (.int .i64 f)).setCell ⟨w.heap.size + 1, 1, none⟩ (.slice (some ⟨w.heap.size + 1 + 1 + 1, 0, none⟩) P.length P.length)) (w.heap.size + 1) #[.int .i64 f, .slice (some ⟨w.heap.size + 1 + 1 + 1, 0, none⟩) P.length P.length] 26 := ((HRR.out.set_other (by show w.heap.size + 1 + 1 ≠ w.heap.size + 1; omega) _).set 0 _).set 1 _
  have s0 := hs.cell 0
  have s1 := hs.cell 1
  refine bodyPost_ret (v := .agg #[.int .i64 f, .slice (some ⟨w.heap.size + 1 + 1 + 1, 0, none⟩) P.length P.length]) (by simp [results, Try.results27, go_sem, s0, s1]) rfl ?_
  obtain ⟨rs, hab, hp⟩ := HC.out
  exact ⟨⟨w.heap.size + 1 + 1 + 1, rs, rfl, ab_set2 (ab_set1 hab HO.out _ _) (HRR.out.set_other (by show w.heap.size + 1 + 1 ≠ w.heap.size + 1; omega) _) _ _, hp⟩, ChnP.set2 (ChnI.set_low HB.out (by omega) _ _) (by omega) _ _⟩

theorem eqC_any (f : Int) (a a' : Option Addr) (cap cap' : Nat) (P : List PAl) (w : World) (hr : RdA w a P) (hr' : RdA w a' P) (hl : P.length ≤ maxLen) (hz : FitsP P) :
    Calls Try.prog 29 #[.agg #[.int .i64 f, .slice a P.length cap], .agg #[.int .i64 f, .slice a' P.length cap']] w fun e w' => e = .returned (.bool true) ∧ Below w.heap.size w w' := by
  have HR : Hid (RdA w a P ∧ RdA w a' P ∧ P.length ≤ maxLen ∧ FitsP P) := ⟨hr, hr', hl, hz⟩
  clear hr hr' hl hz
  go_enter Try.func29, Try.ntmps29
  go_wp2_with fail
  refine (Alms.eq_any a a' cap cap' P _ (HR.out.1.below (Go.Joins.below_alloc2 w _ _)) (HR.out.2.1.below (Go.Joins.below_alloc2 w _ _)) HR.out.2.2.1 HR.out.2.2.2).mono ?_
  rintro r w1 ⟨rfl, hb⟩
  have HB : Hid (Below w.heap.size w w1) := grow_on (Go.Joins.below_alloc2 w _ _) hb
  clear hb
  go_wp2
  go_ret
  exact ⟨rfl, HB.out⟩

theorem markC_any (f : Int) (M c k lo cap : Nat) (rs : List ARow) (w : World) (hAB : AB lo w M c rs) (hl : rs.length ≤ 2000000) (hk : 1 ≤ k) (hk2 : k + sumA rs ≤ 9000000) :
    Calls Try.prog 31 #[.agg #[.int .i64 f, .slice (some ⟨M, 0, none⟩) rs.length cap], .int .i64 k] w fun e w' => e = .returned (.int .i64 ((k + sumA rs : Nat) : Int)) ∧ MA w' M rs k rs.length ∧ Only (blks M rs) w w' := by
  have HAB : Hid (AB lo w M c rs) := hAB
  clear hAB
  go_enter Try.func31, Try.ntmps31
  go_wp2_with fail
  refine (markS_any M c k lo cap rs _ (HAB.out.grow (Go.Joins.below_alloc1 w _)) hl hk hk2).mono ?_
  rintro r w1 ⟨rfl, hm, ho⟩
  have H : Hid (MA w1 M rs k rs.length ∧ Only (blks M rs) w w1) := ⟨hm, Only.ahead (Go.Joins.below_alloc1 w _) ho⟩
  clear hm ho hk2
  generalize hz : k + sumA rs = z
  have HZ : Hid (k + sumA rs = z) := hz
  clear hz
  go_wp2
  go_ret
  exact ⟨Mark.retI (by have := HZ.out; omega), H.out⟩
theorem heldC_any (f : Int) (M k cap : Nat) (rs : List ARow) (w : World) (hM : MA w M rs k rs.length) (hll : ∀ x ∈ rs, x.2.2.l.length ≤ 1048576) (hl : rs.length ≤ 2000000) (hk : 1 ≤ k) (hk2 : k + sumA rs ≤ 9000000) :
    Calls Try.prog 33 #[.agg #[.int .i64 f, .slice (some ⟨M, 0, none⟩) rs.length cap], .int .i64 k] w fun e w' => e = .returned (.int .i64 ((k + sumA rs : Nat) : Int)) ∧ Below w.heap.size w w' := by
  have HM : Hid (MA w M rs k rs.length ∧ ∀ x ∈ rs, x.2.2.l.length ≤ 1048576) := ⟨hM, hll⟩
  clear hM hll
  go_enter Try.func33, Try.ntmps33
  go_wp2_with fail
  refine (heldS_any M k cap rs _ (HM.out.1.grow (Go.Joins.below_alloc1 w _)) HM.out.2 hl hk hk2).mono ?_
  rintro r w1 ⟨rfl, hb⟩
  have H : Hid (Below w.heap.size w w1) := grow_on (Go.Joins.below_alloc1 w _) hb
  clear hb hk2
  generalize hz : k + sumA rs = z
  have HZ : Hid (k + sumA rs = z) := hz
  clear hz
  have hq : ¬ (z : Int) < 0 := by omega
  go_wp2
  go_ret
  exact ⟨Mark.retI (by have := HZ.out; omega), H.out⟩

theorem cellsC : Try.prog.cellsOf 51 = 2 := by kernel_rfl
set_option maxRecDepth 100000 in
/-- a chain that came in -/
theorem open_chain {H : Type} {enc : TypeId × Value → H} {W : World} {base b0 : Nat} {spare : Nat → Bool} {held : Bool} {r : Reach} {v : Value} {d : DataW H} {p : List MemPlace}
    (hv : Value.okWide Try.prog W r b0 51 v) (h : DataW.Trod enc Try.prog W base spare held 51 v d p) :
    ∃ (f : Int) (a : Option Addr) (cap : Nat) (P : List PAl), v = .agg #[.int .i64 f, .slice a P.length cap] ∧ RdA W a P ∧ P.length ≤ maxLen ∧ FitsP P := by
  obtain ⟨c0, c1, y0, y1, m, rfl, rfl, rfl, hy0, hy1⟩ := Go.Joins.open_agg2 Try.underlying51 (by kernel_rfl) cellsC hv h
  obtain ⟨a, len, cap, e1⟩ := Go.Joins.slice_form Try.underlying49 hy1
  obtain ⟨f, e0, _, z0⟩ := DataW.trod_int Try.underlying3 hy0
  simp at e0 e1
  subst e0 e1
  obtain ⟨P, rfl, hr, hl, hf⟩ := open_alarms (enc := enc) (W := W) (d := y1.1) (p := y1.2) ⟨m, by simpa [Value.cells] using hy1⟩
  exact ⟨f, a, cap, P, rfl, hr, hl, hf⟩

theorem fit_merge {x a : PAl} (hx : FitA x) (ha : FitA a) : FitA (mergeX x a) := by
  refine ⟨ha.len, ha.fits, ?_, ha.eb, ha.note⟩
  have h1 := hx.sb
  have h2 := ha.sb
  show -9223372036854775808 ≤ startB x.s x.e a.s a.e ∧ startB x.s x.e a.s a.e ≤ 9223372036854775807
  unfold startB leastB
  split
  · split <;> omega
  · omega
theorem fits_put {P : List PAl} {a : PAl} (h : FitsP P) (ha : FitA a) : FitsP (putL P a) := by
  refine fits_of fun y hy => ?_
  rcases idxTo_cases P a.l P.length with hm | ⟨k, h0, h1, h2⟩
  · rw [(put_miss hm).1] at hy
    rcases List.mem_append.1 hy with hy | hy
    · exact fits_mem h hy
    · rw [List.mem_singleton.1 hy]; exact ha
  · rw [(put_hit h2 h1 h0).1] at hy
    rcases List.mem_or_eq_of_mem_set hy with hy | hy
    · exact fits_mem h hy
    · rw [hy]; exact fit_merge (h k h0) ha
theorem fits_left {P : List PAl} {now : Int} {k : Nat} (h : FitsP P) : FitsP (leftTo P now k) := fits_of fun y hy => fits_mem h (List.mem_of_mem_take (List.mem_filter.1 hy).1)
theorem fits_gone {P : List PAl} {now : Int} {k : Nat} (h : FitsP P) : FitsP (goneTo P now k) := fits_of fun y hy => fits_mem h (List.mem_of_mem_take (List.mem_filter.1 hy).1)
theorem sumL_set {P : List PAl} {k : Nat} {x : PAl} (h : k < P.length) : sumL (P.set k x) ≤ sumL P + x.l.length := by
  induction P generalizing k with
  | nil => simp at h
  | cons y P ih =>
    cases k with
    | zero => simp only [List.set_cons_zero, sumL]; omega
    | succ k =>
      simp only [List.set_cons_succ, sumL]
      have := ih (k := k) (by simpa using h)
      omega
theorem put_sum (P : List PAl) (a : PAl) : sumL (putL P a) ≤ sumL P + a.l.length ∧ (putL P a).length ≤ P.length + 1 := by
  rcases idxTo_cases P a.l P.length with hm | ⟨k, h0, h1, h2⟩
  · rw [(put_miss hm).1, sum_app]; simp [sumL]
  · rw [(put_hit h2 h1 h0).1]
    have := sumL_set (x := mergeX (nthP P k) a) h0
    exact ⟨this, by simp⟩
theorem drop_sum (P : List PAl) (now : Int) (k : Nat) : sumL (leftTo P now k) + sumL (goneTo P now k) = sumL (P.take k) := by
  unfold leftTo goneTo
  induction P.take k with
  | nil => rfl
  | cons x l ih => cases hq : overB x.e now <;> simp [hq, sumL] <;> omega
end Go.Proofs.Ytcopckbpflmmeaa.ChnK
