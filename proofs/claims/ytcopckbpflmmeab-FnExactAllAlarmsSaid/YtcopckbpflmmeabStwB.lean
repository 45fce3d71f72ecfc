/-
  PROVED: the library's insertion sort over a part of a row of alarms leaves that part sorted by the labels, equals in their order, and all else as it was.
-/
import Derived.Test.YtcopckbpflmmeabStwA
namespace Go.Proofs.Ytcopckbpflmmeab.StwB
open Go.RowKit
open Go.Proofs.Ytcopckbpflmmeab.Labs Go.Proofs.Ytcopckbpflmmeab.LabS Go.Proofs.Ytcopckbpflmmeab.Alms Go.Proofs.Ytcopckbpflmmeab.AlmS Go.Proofs.Ytcopckbpflmmeab.AlmM Go.Proofs.Ytcopckbpflmmeab.Over Go.Proofs.Ytcopckbpflmmeab.Blk Go.Proofs.Ytcopckbpflmmeab.App Go.Proofs.Ytcopckbpflmmeab.Rws Go.Proofs.Ytcopckbpflmmeab.ChnI Go.Proofs.Ytcopckbpflmmeab.ChnC Go.Proofs.Ytcopckbpflmmeab.Stb
open Go.Proofs.Ytcopckbpflmmeab.LabL (slB)
open Go.Proofs.Ytcopckbpflmmeab.Mark (Apart)
open Go.Proofs.Ytcopckbpflmmeab.StrB (retB)
set_option linter.unusedVariables false
open Go.Proofs.Ytcopckbpflmmeab.StwA
set_option maxRecDepth 100000 in
set_option maxHeartbeats 3200000 in
theorem ins_any (M b0 cap lo n a b : Nat) (f : Nat → ARow) (w : World) (hS : SR lo w M n f) (hn : n ≤ 4194304) (hc : w.cell? ⟨b0, 0, none⟩ = some (.func (.func 47) #[] #[])) (hb0 : b0 < w.heap.size) (hM : b0 ≠ M) (hab : a ≤ b) (hbn : b ≤ n) :
    Calls Try.prog 74 #[.slice (some ⟨M, 0, none⟩) n cap, .int .i64 a, .int .i64 b, .func (.func 62) #[] #[.pointer (some ⟨b0, 0, none⟩)]] w
      fun e w' => e = .returned (.tuple #[]) ∧ Sd lo w M n f a b w' := by
  have HC : Hid (w.cell? ⟨b0, 0, none⟩ = some (.func (.func 47) #[] #[]) ∧ b0 < w.heap.size ∧ b0 ≠ M) := ⟨hc, hb0, hM⟩
  have HS : Hid (SR lo w M n f) := hS
  clear hc hS hb0 hM
  go_enter Try.func74, Try.ntmps74
  go_wp2
  go_loopw [8] (fun v w' => ∃ (i : Nat) (g : Nat → ARow), v = .int .i64 i ∧ a + 1 ≤ i ∧ (i ≤ b ∨ i = a + 1) ∧ SR lo w' M n g ∧ Apart M w w' ∧ (∀ k, k < a ∨ b ≤ k → g k = f k) ∧ Srt slB keyA g a i ∧ St keyA (seg f 0 n) (seg g 0 n)) (fun v _ => n + 2 - (intOf v).toNat)
  case atStart => exact ⟨a + 1, f, by go_num, Nat.le_refl _, .inr rfl, HS.out, Apart.refl _ _, fun _ _ => rfl, fun p q h1 h2 h3 => by omega, St.refl _⟩
  case round =>
    obtain ⟨i, g, rfl, hi0, hi, hS1, hA1, ho, hs, ht⟩ := hrel
    have H1 : Hid (SR lo wr M n g ∧ (∀ k, k < a ∨ b ≤ k → g k = f k) ∧ Srt slB keyA g a i ∧ St keyA (seg f 0 n) (seg g 0 n)) := ⟨hS1, ho, hs, ht⟩
    have HA : Hid (Apart M w wr) := hA1
    clear hS1 hA1 ho hs ht HS
    by_cases hlt : i < b
    · have hlt' : (i : Int) < (b : Int) := by omega
      go_wp2
      go_loopw [9] (fun v w' => ∃ (j : Nat) (g : Nat → ARow), v = .int .i64 j ∧ a ≤ j ∧ j ≤ i ∧ SR lo w' M n g ∧ Apart M w w' ∧ (∀ k, k < a ∨ b ≤ k → g k = f k) ∧ InsI slB keyA g a i j ∧ St keyA (seg f 0 n) (seg g 0 n)) (fun v _ => (intOf v).toNat)
      case atStart => exact ⟨i, g, rfl, by omega, Nat.le_refl _, H1.out.1, HA.out, H1.out.2.1, InsI.start H1.out.2.2.1, H1.out.2.2.2⟩
      case round =>
        clear H1 HA
        obtain ⟨j, g, rfl, hj0, hj, hS2, hA2, ho, hs, ht⟩ := hrel
        have H2 : Hid (SR lo wr M n g ∧ (∀ k, k < a ∨ b ≤ k → g k = f k) ∧ InsI slB keyA g a i j ∧ St keyA (seg f 0 n) (seg g 0 n)) := ⟨hS2, ho, hs, ht⟩
        have HA2 : Hid (Apart M w wr) := hA2
        have hMr : M < wr.heap.size := hS2.lt
        have hne := Grown.some wr
        have HCm : ∀ (x y : ARow) (q : Grown wr), OwnA lo wr x → OwnA lo wr y → Hid (Calls Try.prog 62 #[.agg #[.slice (some ⟨(x).1, 0, none⟩) (x).2.2.l.length (x).2.1, .int .i64 (x).2.2.s, .int .i64 (x).2.2.e, .string (x).2.2.n], .agg #[.slice (some ⟨(y).1, 0, none⟩) (y).2.2.l.length (y).2.1, .int .i64 (y).2.2.s, .int .i64 (y).2.2.e, .string (y).2.2.n], .pointer (some ⟨b0, 0, none⟩)] q.out fun e w' => e = .returned (.int .i64 (cmpA x y)) ∧ Below q.out.heap.size q.out w') := fun x y q hx hy =>
          cmp_any x y b0 lo q.out (hx.grow q.bel) (hy.grow q.bel) (by rw [q.bel.cell (Nat.lt_of_lt_of_le HC.out.2.1 HA2.out.size)]; exact fnAt HA2.out HC.out.1 HC.out.2.1 HC.out.2.2) (Nat.lt_of_lt_of_le HC.out.2.1 (Nat.le_trans HA2.out.size q.bel.size))
        clear hS2 hA2 ho hs ht
        by_cases hja : j = a
        · have HE : Hid (Srt slB keyA g a (i + 1)) := by show Srt slB keyA g a (i + 1); have := H2.out.2.2.1; rw [hja] at this; exact this.end0
          subst hja
          clear HCm
          go_wp2
          refine wp_over (z := wr) (by kernel_rfl) (by kernel_rfl) (Below.refl _ _) ?_
          repeat (go_big_quiet_step (fail))
          refine wpQuiet_nil ?_
          intro w2 hw2
          have hb2 := over_bel hw2
          have H3 : Hid (SR lo w2 M n g ∧ Apart M w w2) := ⟨H2.out.1.grow hb2, HA2.out.below hb2⟩
          clear hw2 hne hb2
          go_wp2
          go_roundw
          case rel => exact ⟨i + 1, g, by go_num, by omega, .inl (by omega), H3.out.1, H3.out.2, H2.out.2.1, HE.out, H2.out.2.2.2⟩
          case measure => simp [intOf]; omega
        obtain ⟨k, rfl⟩ : ∃ k, j = k + 1 := ⟨j - 1, by omega⟩
        have ek : ((k + 1 : Nat) : Int) = (k : Int) + 1 := by omega
        have hk1 : (k : Int) + 1 < (n : Int) := by omega
        have hk0 : (k : Int) < (n : Int) := by omega
        have hkp : (a : Int) < (k : Int) + 1 := by omega
        have hw : IntKind.i64.wrap (k : Int) = (k : Int) := by rw [IntKind.wrap_i64]; omega
        have hka : a ≤ k := by omega
        have hr1 := H2.out.1.rows (k + 1) (by omega)
        have hr0 := H2.out.1.rows k (by omega)
        obtain ⟨z0, z1, z2, z3⟩ : wr.cell? ⟨M, (k + 1) * 4, none⟩ = some (.slice (some ⟨(g (k + 1)).1, 0, none⟩) (g (k + 1)).2.2.l.length (g (k + 1)).2.1) ∧ wr.cell? ⟨M, (k + 1) * 4 + 1, none⟩ = some (.int .i64 (g (k + 1)).2.2.s) ∧ wr.cell? ⟨M, (k + 1) * 4 + 2, none⟩ = some (.int .i64 (g (k + 1)).2.2.e) ∧ wr.cell? ⟨M, (k + 1) * 4 + 3, none⟩ = some (.string (g (k + 1)).2.2.n) := H2.out.1.cell (by omega)
        have x0 := fun q : Grown wr => q.cell (p := ⟨M, (k + 1) * 4, none⟩) hMr z0
        have x1 := fun q : Grown wr => q.cell (p := ⟨M, (k + 1) * 4 + 1, none⟩) hMr z1
        have x2 := fun q : Grown wr => q.cell (p := ⟨M, (k + 1) * 4 + 2, none⟩) hMr z2
        have x3 := fun q : Grown wr => q.cell (p := ⟨M, (k + 1) * 4 + 3, none⟩) hMr z3
        clear z0 z1 z2 z3
        obtain ⟨z0, z1, z2, z3⟩ : wr.cell? ⟨M, k * 4, none⟩ = some (.slice (some ⟨(g k).1, 0, none⟩) (g k).2.2.l.length (g k).2.1) ∧ wr.cell? ⟨M, k * 4 + 1, none⟩ = some (.int .i64 (g k).2.2.s) ∧ wr.cell? ⟨M, k * 4 + 2, none⟩ = some (.int .i64 (g k).2.2.e) ∧ wr.cell? ⟨M, k * 4 + 3, none⟩ = some (.string (g k).2.2.n) := H2.out.1.cell (by omega)
        have y0 := fun q : Grown wr => q.cell (p := ⟨M, k * 4, none⟩) hMr z0
        have y1 := fun q : Grown wr => q.cell (p := ⟨M, k * 4 + 1, none⟩) hMr z1
        have y2 := fun q : Grown wr => q.cell (p := ⟨M, k * 4 + 2, none⟩) hMr z2
        have y3 := fun q : Grown wr => q.cell (p := ⟨M, k * 4 + 3, none⟩) hMr z3
        clear z0 z1 z2 z3
        have HCx := fun q : Grown wr => HCm (g (k + 1)) (g k) q hr1 hr0
        clear HCm hr1 hr0 hja
        cases hq : slB (keyA (g (k + 1))) (keyA (g k)) with
        | true =>
          have HC1 : ∀ q : Grown wr, Hid (Calls Try.prog 62 #[.agg #[.slice (some ⟨(g (k + 1)).1, 0, none⟩) (g (k + 1)).2.2.l.length (g (k + 1)).2.1, .int .i64 (g (k + 1)).2.2.s, .int .i64 (g (k + 1)).2.2.e, .string (g (k + 1)).2.2.n], .agg #[.slice (some ⟨(g k).1, 0, none⟩) (g k).2.2.l.length (g k).2.1, .int .i64 (g k).2.2.s, .int .i64 (g k).2.2.e, .string (g k).2.2.n], .pointer (some ⟨b0, 0, none⟩)] q.out fun e w' => e = .returned (.int .i64 (-1)) ∧ Below q.out.heap.size q.out w') := fun q => (HCx q).out.mono fun e w' h => ⟨h.1.trans (StwA.retI (cmp_less hq)), h.2⟩
          have HE : Hid (InsI slB keyA (Stb.two g k (k + 1)) a i k ∧ St keyA (seg f 0 n) (seg (Stb.two g k (k + 1)) 0 n)) := ⟨H2.out.2.2.1.next ordL hka (by omega) hq, H2.out.2.2.2.trans (st_two ordL (by omega) hq)⟩
          have HO : Hid (∀ x, x < a ∨ b ≤ x → Stb.two g k (k + 1) x = f x) := fun x hx => by rw [two_out (by omega) (by omega)]; exact H2.out.2.1 x hx
          clear hq HCx
          rw [ek]
          go_wp2
          refine wp_over (z := wr) (by kernel_rfl) (by kernel_rfl) (Below.refl _ _) ?_
          repeat (go_big_quiet_step (first | (go_at_call 62; first | exact call_over (HC1 _).out)))
          refine wpQuiet_nil ?_
          intro w2 hw2
          have hb2 := over_bel hw2
          have HS3 : Hid (SR lo w2 M n g) := H2.out.1.grow hb2
          have HA3 : Hid (Apart M w w2) := HA2.out.below hb2
          clear hw2 hne hb2 x0 x1 x2 x3 y0 y1 y2 y3 HC1
          obtain ⟨x0, x1, x2, x3⟩ : w2.cell? ⟨M, (k + 1) * 4, none⟩ = some (.slice (some ⟨(g (k + 1)).1, 0, none⟩) (g (k + 1)).2.2.l.length (g (k + 1)).2.1) ∧ w2.cell? ⟨M, (k + 1) * 4 + 1, none⟩ = some (.int .i64 (g (k + 1)).2.2.s) ∧ w2.cell? ⟨M, (k + 1) * 4 + 2, none⟩ = some (.int .i64 (g (k + 1)).2.2.e) ∧ w2.cell? ⟨M, (k + 1) * 4 + 3, none⟩ = some (.string (g (k + 1)).2.2.n) := HS3.out.cell (by omega)
          have fx0 : w2.frozen? ⟨M, (k + 1) * 4, none⟩ = false := HS3.out.frozen _
          have fx1 : w2.frozen? ⟨M, (k + 1) * 4 + 1, none⟩ = false := HS3.out.frozen _
          have fx2 : w2.frozen? ⟨M, (k + 1) * 4 + 2, none⟩ = false := HS3.out.frozen _
          have fx3 : w2.frozen? ⟨M, (k + 1) * 4 + 3, none⟩ = false := HS3.out.frozen _
          obtain ⟨y0, y1, y2, y3⟩ : w2.cell? ⟨M, k * 4, none⟩ = some (.slice (some ⟨(g k).1, 0, none⟩) (g k).2.2.l.length (g k).2.1) ∧ w2.cell? ⟨M, k * 4 + 1, none⟩ = some (.int .i64 (g k).2.2.s) ∧ w2.cell? ⟨M, k * 4 + 2, none⟩ = some (.int .i64 (g k).2.2.e) ∧ w2.cell? ⟨M, k * 4 + 3, none⟩ = some (.string (g k).2.2.n) := HS3.out.cell (by omega)
          have fy0 : w2.frozen? ⟨M, k * 4, none⟩ = false := HS3.out.frozen _
          have fy1 : w2.frozen? ⟨M, k * 4 + 1, none⟩ = false := HS3.out.frozen _
          have fy2 : w2.frozen? ⟨M, k * 4 + 2, none⟩ = false := HS3.out.frozen _
          have fy3 : w2.frozen? ⟨M, k * 4 + 3, none⟩ = false := HS3.out.frozen _
          go_wp2
          go_region
          go_wp2
          go_roundw
          case rel => exact ⟨k, _, by go_num, by omega, by omega, (HS3.out.two (p := k + 1) (q := k) (by omega) (by omega) (by omega)).drew, apart_drew (apart_two (p := k + 1) (q := k) (f := g) HA3.out), by rw [two_comm]; exact HO.out, by rw [two_comm]; exact HE.out.1, by rw [two_comm]; exact HE.out.2⟩
          case measure => simp [intOf]
        | false =>
          have hge : ¬ cmpA (g (k + 1)) (g k) < 0 := by have := cmp_ge hq; omega
          have HE : Hid (Srt slB keyA g a (i + 1)) := H2.out.2.2.1.end1 ordL hka hq
          clear hq
          rw [ek]
          go_wp2
          refine wp_over (z := wr) (by kernel_rfl) (by kernel_rfl) (Below.refl _ _) ?_
          repeat (go_big_quiet_step (first | (go_at_call 62; first | exact call_over (HCx _).out)))
          refine wpQuiet_nil ?_
          intro w2 hw2
          have hb2 := over_bel hw2
          have H3 : Hid (SR lo w2 M n g ∧ Apart M w w2) := ⟨H2.out.1.grow hb2, HA2.out.below hb2⟩
          clear hw2 hne hb2 x0 x1 x2 x3 y0 y1 y2 y3 HCx
          go_wp2
          go_roundw
          case rel => exact ⟨i + 1, g, by go_num, by omega, .inl (by omega), H3.out.1, H3.out.2, H2.out.2.1, HE.out, H2.out.2.2.2⟩
          case measure => simp [intOf]; omega
    have hge : ¬ (i : Int) < (b : Int) := by omega
    go_wp2
    go_end0
    exact ⟨rfl, ⟨g, H1.out.1, H1.out.2.1, H1.out.2.2.1.mono (Nat.le_refl _) (by omega), H1.out.2.2.2⟩, HA.out⟩
end Go.Proofs.Ytcopckbpflmmeab.StwB
