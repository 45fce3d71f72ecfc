/-
  PROVED: spec.StoreNew and impl.StoreNew give as many parts of nothing as a plain function says, in memory of their own; nothing that was there is changed.
-/
import Derived.Test.YtcopckbpflmmeabStsC
namespace Go.Proofs.Ytcopckbpflmmeab.StsN
open Go.RowKit
open Go.Proofs.Ytcopckbpflmmeab.Labs Go.Proofs.Ytcopckbpflmmeab.LabS Go.Proofs.Ytcopckbpflmmeab.Alms Go.Proofs.Ytcopckbpflmmeab.AlmM Go.Proofs.Ytcopckbpflmmeab.Over Go.Proofs.Ytcopckbpflmmeab.Blk Go.Proofs.Ytcopckbpflmmeab.App Go.Proofs.Ytcopckbpflmmeab.Rws Go.Proofs.Ytcopckbpflmmeab.ChnI Go.Proofs.Ytcopckbpflmmeab.ChnC Go.Proofs.Ytcopckbpflmmeab.ChnP Go.Proofs.Ytcopckbpflmmeab.ChnK Go.Proofs.Ytcopckbpflmmeab.Chs Go.Proofs.Ytcopckbpflmmeab.Prt Go.Proofs.Ytcopckbpflmmeab.PrtM Go.Proofs.Ytcopckbpflmmeab.Sts Go.Proofs.Ytcopckbpflmmeab.StsC
set_option linter.unusedVariables false

/-- a part of nothing, whose lock nobody holds -/
def lenV : Value → Nat
  | .slice _ n _ => n
  | _ => 0
def noneP : PPt := ⟨-1, 0, []⟩
def noneR : PRow := ⟨-1, 0, none, 0, []⟩
/-- how many parts a new store has -/
def newN (n : Int) : Nat := if 1 ≤ n ∧ n ≤ 3 then n.toNat else 1
def newS (n : Int) : List PPt := List.replicate (newN n) noneP
theorem newN_cases (n : Int) : (newN n = 1 ∧ (n < 1 ∨ 3 < n ∨ n = 1)) ∨ (newN n = 2 ∧ n = 2) ∨ (newN n = 3 ∧ n = 3) := by
  unfold newN
  split
  · have : n = 1 ∨ n = 2 ∨ n = 3 := by omega
    rcases this with rfl | rfl | rfl
    · exact .inl ⟨rfl, by omega⟩
    · exact .inr (.inl ⟨rfl, rfl⟩)
    · exact .inr (.inr ⟨rfl, rfl⟩)
  · exact .inl ⟨rfl, by omega⟩
theorem new_len (n : Int) : (newS n).length = newN n := by simp [newS]
theorem newN_le (n : Int) : 1 ≤ newN n ∧ newN n ≤ 3 := by rcases newN_cases n with h | h | h <;> omega
theorem none_nth {k i : Nat} (h : i < k) : nthT (List.replicate k noneP) i = noneP := by rw [nthT_eq (by simpa using h)]; simp
theorem noneQ_nth {k i : Nat} (h : i < k) : nthQ (List.replicate k noneR) i = noneR := by rw [nthQ_eq (by simpa using h)]; simp
theorem none_pts (k : Nat) : pts (List.replicate k noneR) = List.replicate k noneP := by simp [pts, noneR, noneP, PRow.pt, chs]
theorem none_sum (k : Nat) : sumT (List.replicate k noneP) = 0 := by
  induction k with
  | zero => rfl
  | succ k ih => rw [List.replicate_succ, sumT, ih]; rfl
theorem none_fits (k : Nat) : FitsT (List.replicate k noneP) := fun x hx => by
  rw [List.eq_of_mem_replicate hx]
  exact ⟨⟨by decide, by decide⟩, ⟨by decide, by decide⟩, by simp [noneP], fun y hy => by simp [noneP] at hy⟩
theorem PB.new (lo : Nat) {w : World} {M : Nat} (h : Blk w M #[.int .i64 (-1), .int .i64 0, .slice none 0 0] 28) (hl : lo ≤ M) : PB lo w M 1 [noneR] :=
  ⟨hl, ⟨by simp, by simp [maxLen]⟩, ⟨_, h, rfl, fun i hi => by
    have : i = 0 := by simpa using hi
    subst this
    exact ⟨rfl, rfl, rfl⟩⟩, fun x hx => by rw [List.mem_singleton.1 hx]; exact .inl ⟨rfl, rfl, rfl⟩⟩
theorem repl_app (k : Nat) : List.replicate k noneR ++ [noneR] = List.replicate (k + 1) noneR := by rw [List.replicate_succ']

set_option maxHeartbeats 1600000 in
theorem specNew_any (n : Int) (w : World) (hn : I64 n) :
    Calls Try.prog 19 #[.int .i64 n] w fun e w' => (∃ M c, e = .returned (.slice (some ⟨M, 0, none⟩) (newN n) c) ∧ PB w.heap.size w' M c (List.replicate (newN n) noneR)) ∧ Below w.heap.size w w' := by
  obtain ⟨i0, hi, hz0, hz1, hz2⟩ := info_parts infoP
  go_enter Try.func19, Try.ntmps19
  go_wp2
  go_loopw [3] (fun v w' => ∃ (k M c : Nat), v = .slice (some ⟨M, 0, none⟩) k c ∧ 1 ≤ k ∧ k ≤ newN n ∧ PB w.heap.size w' M c (List.replicate k noneR) ∧ Below w.heap.size w w') (fun v _ => 3 - lenV v)
  case atStart => exact ⟨1, w.heap.size, 1, rfl, Nat.le_refl _, (newN_le n).1, PB.new _ (Blk.new _ _ _) (Nat.le_refl _), Go.Joins.below_alloc1 w _⟩
  case round =>
    obtain ⟨k, M, c, rfl, hk1, hk2, hab, hb⟩ := hrel
    have HAB : Hid (PB w.heap.size wr M c (List.replicate k noneR) ∧ Below w.heap.size w wr) := ⟨hab, hb⟩
    have hk3 : k ≤ 3 := by have := (newN_le n).2; omega
    clear hab hb
    by_cases hlt : k < newN n
    · have hlt1 : (k : Int) < n := by rcases newN_cases n with h | h | h <;> omega
      have hlt2 : n ≤ 3 := by rcases newN_cases n with h | h | h <;> omega
      obtain ⟨xs, hox, hxl, hxs⟩ := HAB.out.1.own
      rw [List.length_replicate] at hox hxl
      have HOX : Hid (∀ o1, (wr.alloc o1).ownsRow w.heap.size 28 3 (.slice (some ⟨M, 0, none⟩) k c) k xs) := fun o1 => own_grow hox (Go.Joins.below_alloc1 wr o1)
      have HXS : Hid (xs.length = (List.replicate k noneR).length * 3 ∧ ∀ i, i < (List.replicate k noneR).length → Cel3 (fun k => xs[k]?) i (nthQ (List.replicate k noneR) i)) := ⟨by rw [List.length_replicate]; exact hxl, hxs⟩
      clear hox hxl hxs
      go_wp2_with (at_builtin; refine wpList_append_own_at _ rfl _ _ 40 rfl w.heap.size 28 i0 (.agg #[.int .i64 0, .int .i64 0, .slice none 0 0]) 3 40 Try.underlying40 hi hz0 hz1 hz2 rfl (by decide) _ _ _ rfl (HOX.out _) ⟨wr.heap.size, 0, none⟩ 1 1 (rowP noneR) rfl rfl ?c1 (rowP_one _) ?c3 ?c4 ?c5 ?_)
      case c1 => exact blk_news (Blk.new _ _ _)
      case c3 => unfold maxLen; omega
      case c4 => omega
      case c5 => have := HAB.out.2.size; simp; omega
      intro v' w2 hown hg hnil hat
      have hown' : w2.ownsRow w.heap.size 28 3 v' ((List.replicate k noneR).length + 1) (xs ++ rowP noneR) := by rw [List.length_replicate]; exact hown
      obtain ⟨M3, c3, rfl, hAB3⟩ := (HAB.out.1.grow (Go.Joins.below_alloc1 wr _)).app (x := noneR) (.inl ⟨rfl, rfl, rfl⟩) HXS.out.1 HXS.out.2 hown' hg
      rw [repl_app] at hAB3
      have HAB3 : Hid (PB w.heap.size w2 M3 c3 (List.replicate (k + 1) noneR)) := hAB3
      have HB3 : Hid (Below w.heap.size w w2) := (grow_on HAB.out.2 (Go.Joins.below_alloc1 wr _)).grown hg (by have := HAB.out.2.size; simp; omega) (fun k e => by have h : M = k := Option.some.inj e; have := HAB.out.1.at'; omega)
      clear hown hown' hg hnil hat hAB3
      rw [List.length_replicate]
      go_wp2
      go_roundw
      case rel => exact ⟨k + 1, M3, c3, rfl, by omega, by omega, HAB3.out, HB3.out⟩
      case measure => simp [lenV]; omega
    · have HE : Hid (k = newN n) := by show k = newN n; omega
      have hfin : Hid ((∃ M' c', Ending.returned (.slice (some ⟨M, 0, none⟩) k c) = .returned (.slice (some ⟨M', 0, none⟩) (newN n) c') ∧ PB w.heap.size wr M' c' (List.replicate (newN n) noneR)) ∧ Below w.heap.size w wr) := ⟨⟨M, c, by rw [HE.out], by rw [← HE.out]; exact HAB.out.1⟩, HAB.out.2⟩
      by_cases h1 : (k : Int) < n
      · have h2 : ¬ n ≤ 3 := by rcases newN_cases n with h | h | h <;> omega
        go_wp2
        go_ret
        exact hfin.out
      · go_wp2
        go_ret
        exact hfin.out

theorem letGo_any (A o : Nat) (v : Value) (w : World) (hc : w.cell? ⟨A, o, none⟩ = some v) (hf : w.frozen? ⟨A, o, none⟩ = false) :
    Calls Try.prog 43 #[.pointer (some ⟨A, o, none⟩)] w fun e w' => e = .returned (.tuple #[]) ∧ w' = w.setCell ⟨A, o, none⟩ (.int .i64 (-1)) := by
  go_enter Try.func43, Try.ntmps43
  go_wp2
  go_end0
  exact ⟨rfl, rfl⟩
def hdI (k i : Nat) : Int := if i < k then -1 else 0
def arr3 (k : Nat) : Array Value := #[.int .i64 (hdI k 0), .int .i64 0, .slice none 0 0, .int .i64 (hdI k 1), .int .i64 0, .slice none 0 0, .int .i64 (hdI k 2), .int .i64 0, .slice none 0 0]
theorem arr_rd {w : World} {A : Nat} {T : TypeId} (h : Blk w A (arr3 3) T) {n : Nat} (hn : n ≤ 3) : RdS RdA w (some ⟨A, 0, none⟩) (List.replicate n noneP) := by
  refine .inr ⟨A, 0, rfl, h.lt, fun i hi => ⟨none, 0, ?_⟩⟩
  rw [List.length_replicate] at hi
  rw [none_nth hi]
  have hi3 : i = 0 ∨ i = 1 ∨ i = 2 := by omega
  refine ⟨?_, ?_, ?_, .inl rfl⟩ <;> rw [h.cell] <;> rcases hi3 with rfl | rfl | rfl <;> rfl

theorem arr_0 : (arr3 0).setIfInBounds 0 (.int .i64 (-1)) = arr3 1 := rfl
theorem arr_1 : (arr3 1).setIfInBounds 3 (.int .i64 (-1)) = arr3 2 := rfl
theorem arr_2 : (arr3 2).setIfInBounds 6 (.int .i64 (-1)) = arr3 3 := rfl
set_option maxRecDepth 100000 in
set_option maxHeartbeats 6400000 in
theorem implNew_any (n : Int) (w : World) (hn : I64 n) :
    Calls Try.prog 20 #[.int .i64 n] w fun e w' => (∃ M, e = .returned (.slice (some ⟨M, 0, none⟩) (newN n) (newN n)) ∧ ∃ ps, PB w.heap.size w' M (newN n) ps ∧ pts ps = newS n ∧ Own8 ps) ∧ Below w.heap.size w w' := by
  obtain ⟨N, hN⟩ : ∃ N, newN n = N := ⟨_, rfl⟩
  have hN3 := newN_le n
  rw [hN] at hN3 ⊢
  have HSN : Hid (newS n = List.replicate N noneP) := by show _ = _; unfold newS; rw [hN]
  have hcs : (N = 1 ∧ n < 1) ∨ (N = 1 ∧ 3 < n) ∨ (N = 1 ∧ n = 1) ∨ (N = 2 ∧ n = 2) ∨ (N = 3 ∧ n = 3) := by
    have := newN_cases n
    rw [hN] at this
    omega
  have HCP : Hid (∀ (A : Nat) (T : TypeId) (z : World), Blk z A (arr3 3) T → Calls Try.prog 44 #[.slice (some ⟨A, 0, none⟩) N 3] z fun e w' => e = .returned (.slice (some ⟨z.heap.size, 0, none⟩) N N) ∧ (∃ ps, PB z.heap.size w' z.heap.size N ps ∧ pts ps = newS n ∧ Own8 ps) ∧ Below z.heap.size z w') := fun A T z h => by
    have := copiedParts_any (some ⟨A, 0, none⟩) 3 (List.replicate N noneP) z (arr_rd h hN3.2) (by rw [List.length_replicate]; omega) (by rw [none_sum]; omega)
    rw [List.length_replicate] at this
    rw [HSN.out]; exact this
  clear hN HSN
  rcases hcs with ⟨rfl, hc⟩ | ⟨rfl, hc⟩ | ⟨rfl, rfl⟩ | ⟨rfl, rfl⟩ | ⟨rfl, rfl⟩
  · have hc' : n < 1 := hc
    go_enter Try.func20, Try.ntmps20
    go_wp2
    go_loopw [11] (fun i w' => ∃ k : Nat, i = .int .i64 k ∧ k ≤ 3 ∧ Blk w' w.heap.size (arr3 k) 74 ∧ Below w.heap.size w w') (fun i _ => 3 - (intOf i).toNat)
    case atStart => exact ⟨0, rfl, by omega, Blk.new _ _ _, Go.Joins.below_alloc1 w _⟩
    case round =>
      obtain ⟨k, rfl, hk, hA, hB⟩ := hrel
      have HA : Hid (Below w.heap.size w wr) := hB
      clear hB
      have hk3 : k = 0 ∨ k = 1 ∨ k = 2 ∨ k = 3 := by omega
      rcases hk3 with rfl | rfl | rfl | rfl
      · have HA1 : Hid (Blk wr w.heap.size (arr3 0) 74) := hA
        have c0 : wr.cell? ⟨w.heap.size, 0, none⟩ = some (.int .i64 0) := hA.cell 0
        have f0 := hA.frozen 0
        clear hA hk
        go_wp2_with fail
        refine (letGo_any w.heap.size 0 _ wr c0 f0).mono ?_
        rintro e w1 ⟨rfl, rfl⟩
        have HA2 : Hid (Blk (wr.setCell ⟨w.heap.size, 0, none⟩ (.int .i64 (-1))) w.heap.size (arr3 1) 74) := by have := HA1.out.set 0 (.int .i64 (-1)); rw [arr_0] at this; exact this
        clear c0 f0
        go_wp2
        go_roundw
        case rel => exact ⟨1, rfl, by omega, HA2.out, HA.out.setCell (Nat.le_refl _) _⟩
        case measure => simp [intOf]
      · have HA1 : Hid (Blk wr w.heap.size (arr3 1) 74) := hA
        have c0 : wr.cell? ⟨w.heap.size, 3, none⟩ = some (.int .i64 0) := hA.cell 3
        have f0 := hA.frozen 3
        clear hA hk
        go_wp2_with fail
        refine (letGo_any w.heap.size 3 _ wr c0 f0).mono ?_
        rintro e w1 ⟨rfl, rfl⟩
        have HA2 : Hid (Blk (wr.setCell ⟨w.heap.size, 3, none⟩ (.int .i64 (-1))) w.heap.size (arr3 2) 74) := by have := HA1.out.set 3 (.int .i64 (-1)); rw [arr_1] at this; exact this
        clear c0 f0
        go_wp2
        go_roundw
        case rel => exact ⟨2, rfl, by omega, HA2.out, HA.out.setCell (Nat.le_refl _) _⟩
        case measure => simp [intOf]
      · have HA1 : Hid (Blk wr w.heap.size (arr3 2) 74) := hA
        have c0 : wr.cell? ⟨w.heap.size, 6, none⟩ = some (.int .i64 0) := hA.cell 6
        have f0 := hA.frozen 6
        clear hA hk
        go_wp2_with fail
        refine (letGo_any w.heap.size 6 _ wr c0 f0).mono ?_
        rintro e w1 ⟨rfl, rfl⟩
        have HA2 : Hid (Blk (wr.setCell ⟨w.heap.size, 6, none⟩ (.int .i64 (-1))) w.heap.size (arr3 3) 74) := by have := HA1.out.set 6 (.int .i64 (-1)); rw [arr_2] at this; exact this
        clear c0 f0
        go_wp2
        go_roundw
        case rel => exact ⟨3, rfl, by omega, HA2.out, HA.out.setCell (Nat.le_refl _) _⟩
        case measure => simp [intOf]
      · have HA1 : Hid (Blk wr w.heap.size (arr3 3) 74) := hA
        clear hA hk
        go_wp2_with fail
        refine (HCP.out w.heap.size 74 wr HA1.out).mono ?_
        rintro e w1 ⟨rfl, ⟨ps, h1, h2, h3⟩, hb1⟩
        have HE : Hid ((∃ ps, PB w.heap.size w1 wr.heap.size _ ps ∧ pts ps = _ ∧ Own8 ps) ∧ Below w.heap.size w w1) := ⟨⟨ps, h1.down HA.out.size, h2, h3⟩, grow_on HA.out hb1⟩
        clear h1 h2 h3 hb1
        go_wp2
        go_ret
        exact ⟨⟨wr.heap.size, rfl, HE.out.1⟩, HE.out.2⟩
  · have hc' : ¬ n < 1 := by omega
    have hc2 : 3 < n := hc
    go_enter Try.func20, Try.ntmps20
    go_wp2
    go_loopw [11] (fun i w' => ∃ k : Nat, i = .int .i64 k ∧ k ≤ 3 ∧ Blk w' w.heap.size (arr3 k) 74 ∧ Below w.heap.size w w') (fun i _ => 3 - (intOf i).toNat)
    case atStart => exact ⟨0, rfl, by omega, Blk.new _ _ _, Go.Joins.below_alloc1 w _⟩
    case round =>
      obtain ⟨k, rfl, hk, hA, hB⟩ := hrel
      have HA : Hid (Below w.heap.size w wr) := hB
      clear hB
      have hk3 : k = 0 ∨ k = 1 ∨ k = 2 ∨ k = 3 := by omega
      rcases hk3 with rfl | rfl | rfl | rfl
      · have HA1 : Hid (Blk wr w.heap.size (arr3 0) 74) := hA
        have c0 : wr.cell? ⟨w.heap.size, 0, none⟩ = some (.int .i64 0) := hA.cell 0
        have f0 := hA.frozen 0
        clear hA hk
        go_wp2_with fail
        refine (letGo_any w.heap.size 0 _ wr c0 f0).mono ?_
        rintro e w1 ⟨rfl, rfl⟩
        have HA2 : Hid (Blk (wr.setCell ⟨w.heap.size, 0, none⟩ (.int .i64 (-1))) w.heap.size (arr3 1) 74) := by have := HA1.out.set 0 (.int .i64 (-1)); rw [arr_0] at this; exact this
        clear c0 f0
        go_wp2
        go_roundw
        case rel => exact ⟨1, rfl, by omega, HA2.out, HA.out.setCell (Nat.le_refl _) _⟩
        case measure => simp [intOf]
      · have HA1 : Hid (Blk wr w.heap.size (arr3 1) 74) := hA
        have c0 : wr.cell? ⟨w.heap.size, 3, none⟩ = some (.int .i64 0) := hA.cell 3
        have f0 := hA.frozen 3
        clear hA hk
        go_wp2_with fail
        refine (letGo_any w.heap.size 3 _ wr c0 f0).mono ?_
        rintro e w1 ⟨rfl, rfl⟩
        have HA2 : Hid (Blk (wr.setCell ⟨w.heap.size, 3, none⟩ (.int .i64 (-1))) w.heap.size (arr3 2) 74) := by have := HA1.out.set 3 (.int .i64 (-1)); rw [arr_1] at this; exact this
        clear c0 f0
        go_wp2
        go_roundw
        case rel => exact ⟨2, rfl, by omega, HA2.out, HA.out.setCell (Nat.le_refl _) _⟩
        case measure => simp [intOf]
      · have HA1 : Hid (Blk wr w.heap.size (arr3 2) 74) := hA
        have c0 : wr.cell? ⟨w.heap.size, 6, none⟩ = some (.int .i64 0) := hA.cell 6
        have f0 := hA.frozen 6
        clear hA hk
        go_wp2_with fail
        refine (letGo_any w.heap.size 6 _ wr c0 f0).mono ?_
        rintro e w1 ⟨rfl, rfl⟩
        have HA2 : Hid (Blk (wr.setCell ⟨w.heap.size, 6, none⟩ (.int .i64 (-1))) w.heap.size (arr3 3) 74) := by have := HA1.out.set 6 (.int .i64 (-1)); rw [arr_2] at this; exact this
        clear c0 f0
        go_wp2
        go_roundw
        case rel => exact ⟨3, rfl, by omega, HA2.out, HA.out.setCell (Nat.le_refl _) _⟩
        case measure => simp [intOf]
      · have HA1 : Hid (Blk wr w.heap.size (arr3 3) 74) := hA
        clear hA hk
        go_wp2_with fail
        refine (HCP.out w.heap.size 74 wr HA1.out).mono ?_
        rintro e w1 ⟨rfl, ⟨ps, h1, h2, h3⟩, hb1⟩
        have HE : Hid ((∃ ps, PB w.heap.size w1 wr.heap.size _ ps ∧ pts ps = _ ∧ Own8 ps) ∧ Below w.heap.size w w1) := ⟨⟨ps, h1.down HA.out.size, h2, h3⟩, grow_on HA.out hb1⟩
        clear h1 h2 h3 hb1
        go_wp2
        go_ret
        exact ⟨⟨wr.heap.size, rfl, HE.out.1⟩, HE.out.2⟩
  · go_enter Try.func20, Try.ntmps20
    go_wp2
    go_loopw [11] (fun i w' => ∃ k : Nat, i = .int .i64 k ∧ k ≤ 3 ∧ Blk w' w.heap.size (arr3 k) 74 ∧ Below w.heap.size w w') (fun i _ => 3 - (intOf i).toNat)
    case atStart => exact ⟨0, rfl, by omega, Blk.new _ _ _, Go.Joins.below_alloc1 w _⟩
    case round =>
      obtain ⟨k, rfl, hk, hA, hB⟩ := hrel
      have HA : Hid (Below w.heap.size w wr) := hB
      clear hB
      have hk3 : k = 0 ∨ k = 1 ∨ k = 2 ∨ k = 3 := by omega
      rcases hk3 with rfl | rfl | rfl | rfl
      · have HA1 : Hid (Blk wr w.heap.size (arr3 0) 74) := hA
        have c0 : wr.cell? ⟨w.heap.size, 0, none⟩ = some (.int .i64 0) := hA.cell 0
        have f0 := hA.frozen 0
        clear hA hk
        go_wp2_with fail
        refine (letGo_any w.heap.size 0 _ wr c0 f0).mono ?_
        rintro e w1 ⟨rfl, rfl⟩
        have HA2 : Hid (Blk (wr.setCell ⟨w.heap.size, 0, none⟩ (.int .i64 (-1))) w.heap.size (arr3 1) 74) := by have := HA1.out.set 0 (.int .i64 (-1)); rw [arr_0] at this; exact this
        clear c0 f0
        go_wp2
        go_roundw
        case rel => exact ⟨1, rfl, by omega, HA2.out, HA.out.setCell (Nat.le_refl _) _⟩
        case measure => simp [intOf]
      · have HA1 : Hid (Blk wr w.heap.size (arr3 1) 74) := hA
        have c0 : wr.cell? ⟨w.heap.size, 3, none⟩ = some (.int .i64 0) := hA.cell 3
        have f0 := hA.frozen 3
        clear hA hk
        go_wp2_with fail
        refine (letGo_any w.heap.size 3 _ wr c0 f0).mono ?_
        rintro e w1 ⟨rfl, rfl⟩
        have HA2 : Hid (Blk (wr.setCell ⟨w.heap.size, 3, none⟩ (.int .i64 (-1))) w.heap.size (arr3 2) 74) := by have := HA1.out.set 3 (.int .i64 (-1)); rw [arr_1] at this; exact this
        clear c0 f0
        go_wp2
        go_roundw
        case rel => exact ⟨2, rfl, by omega, HA2.out, HA.out.setCell (Nat.le_refl _) _⟩
        case measure => simp [intOf]
      · have HA1 : Hid (Blk wr w.heap.size (arr3 2) 74) := hA
        have c0 : wr.cell? ⟨w.heap.size, 6, none⟩ = some (.int .i64 0) := hA.cell 6
        have f0 := hA.frozen 6
        clear hA hk
        go_wp2_with fail
        refine (letGo_any w.heap.size 6 _ wr c0 f0).mono ?_
        rintro e w1 ⟨rfl, rfl⟩
        have HA2 : Hid (Blk (wr.setCell ⟨w.heap.size, 6, none⟩ (.int .i64 (-1))) w.heap.size (arr3 3) 74) := by have := HA1.out.set 6 (.int .i64 (-1)); rw [arr_2] at this; exact this
        clear c0 f0
        go_wp2
        go_roundw
        case rel => exact ⟨3, rfl, by omega, HA2.out, HA.out.setCell (Nat.le_refl _) _⟩
        case measure => simp [intOf]
      · have HA1 : Hid (Blk wr w.heap.size (arr3 3) 74) := hA
        clear hA hk
        go_wp2_with fail
        refine (HCP.out w.heap.size 74 wr HA1.out).mono ?_
        rintro e w1 ⟨rfl, ⟨ps, h1, h2, h3⟩, hb1⟩
        have HE : Hid ((∃ ps, PB w.heap.size w1 wr.heap.size _ ps ∧ pts ps = _ ∧ Own8 ps) ∧ Below w.heap.size w w1) := ⟨⟨ps, h1.down HA.out.size, h2, h3⟩, grow_on HA.out hb1⟩
        clear h1 h2 h3 hb1
        go_wp2
        go_ret
        exact ⟨⟨wr.heap.size, rfl, HE.out.1⟩, HE.out.2⟩
  · go_enter Try.func20, Try.ntmps20
    go_wp2
    go_loopw [11] (fun i w' => ∃ k : Nat, i = .int .i64 k ∧ k ≤ 3 ∧ Blk w' w.heap.size (arr3 k) 74 ∧ Below w.heap.size w w') (fun i _ => 3 - (intOf i).toNat)
    case atStart => exact ⟨0, rfl, by omega, Blk.new _ _ _, Go.Joins.below_alloc1 w _⟩
    case round =>
      obtain ⟨k, rfl, hk, hA, hB⟩ := hrel
      have HA : Hid (Below w.heap.size w wr) := hB
      clear hB
      have hk3 : k = 0 ∨ k = 1 ∨ k = 2 ∨ k = 3 := by omega
      rcases hk3 with rfl | rfl | rfl | rfl
      · have HA1 : Hid (Blk wr w.heap.size (arr3 0) 74) := hA
        have c0 : wr.cell? ⟨w.heap.size, 0, none⟩ = some (.int .i64 0) := hA.cell 0
        have f0 := hA.frozen 0
        clear hA hk
        go_wp2_with fail
        refine (letGo_any w.heap.size 0 _ wr c0 f0).mono ?_
        rintro e w1 ⟨rfl, rfl⟩
        have HA2 : Hid (Blk (wr.setCell ⟨w.heap.size, 0, none⟩ (.int .i64 (-1))) w.heap.size (arr3 1) 74) := by have := HA1.out.set 0 (.int .i64 (-1)); rw [arr_0] at this; exact this
        clear c0 f0
        go_wp2
        go_roundw
        case rel => exact ⟨1, rfl, by omega, HA2.out, HA.out.setCell (Nat.le_refl _) _⟩
        case measure => simp [intOf]
      · have HA1 : Hid (Blk wr w.heap.size (arr3 1) 74) := hA
        have c0 : wr.cell? ⟨w.heap.size, 3, none⟩ = some (.int .i64 0) := hA.cell 3
        have f0 := hA.frozen 3
        clear hA hk
        go_wp2_with fail
        refine (letGo_any w.heap.size 3 _ wr c0 f0).mono ?_
        rintro e w1 ⟨rfl, rfl⟩
        have HA2 : Hid (Blk (wr.setCell ⟨w.heap.size, 3, none⟩ (.int .i64 (-1))) w.heap.size (arr3 2) 74) := by have := HA1.out.set 3 (.int .i64 (-1)); rw [arr_1] at this; exact this
        clear c0 f0
        go_wp2
        go_roundw
        case rel => exact ⟨2, rfl, by omega, HA2.out, HA.out.setCell (Nat.le_refl _) _⟩
        case measure => simp [intOf]
      · have HA1 : Hid (Blk wr w.heap.size (arr3 2) 74) := hA
        have c0 : wr.cell? ⟨w.heap.size, 6, none⟩ = some (.int .i64 0) := hA.cell 6
        have f0 := hA.frozen 6
        clear hA hk
        go_wp2_with fail
        refine (letGo_any w.heap.size 6 _ wr c0 f0).mono ?_
        rintro e w1 ⟨rfl, rfl⟩
        have HA2 : Hid (Blk (wr.setCell ⟨w.heap.size, 6, none⟩ (.int .i64 (-1))) w.heap.size (arr3 3) 74) := by have := HA1.out.set 6 (.int .i64 (-1)); rw [arr_2] at this; exact this
        clear c0 f0
        go_wp2
        go_roundw
        case rel => exact ⟨3, rfl, by omega, HA2.out, HA.out.setCell (Nat.le_refl _) _⟩
        case measure => simp [intOf]
      · have HA1 : Hid (Blk wr w.heap.size (arr3 3) 74) := hA
        clear hA hk
        go_wp2_with fail
        refine (HCP.out w.heap.size 74 wr HA1.out).mono ?_
        rintro e w1 ⟨rfl, ⟨ps, h1, h2, h3⟩, hb1⟩
        have HE : Hid ((∃ ps, PB w.heap.size w1 wr.heap.size _ ps ∧ pts ps = _ ∧ Own8 ps) ∧ Below w.heap.size w w1) := ⟨⟨ps, h1.down HA.out.size, h2, h3⟩, grow_on HA.out hb1⟩
        clear h1 h2 h3 hb1
        go_wp2
        go_ret
        exact ⟨⟨wr.heap.size, rfl, HE.out.1⟩, HE.out.2⟩
  · go_enter Try.func20, Try.ntmps20
    go_wp2
    go_loopw [11] (fun i w' => ∃ k : Nat, i = .int .i64 k ∧ k ≤ 3 ∧ Blk w' w.heap.size (arr3 k) 74 ∧ Below w.heap.size w w') (fun i _ => 3 - (intOf i).toNat)
    case atStart => exact ⟨0, rfl, by omega, Blk.new _ _ _, Go.Joins.below_alloc1 w _⟩
    case round =>
      obtain ⟨k, rfl, hk, hA, hB⟩ := hrel
      have HA : Hid (Below w.heap.size w wr) := hB
      clear hB
      have hk3 : k = 0 ∨ k = 1 ∨ k = 2 ∨ k = 3 := by omega
      rcases hk3 with rfl | rfl | rfl | rfl
      · have HA1 : Hid (Blk wr w.heap.size (arr3 0) 74) := hA
        have c0 : wr.cell? ⟨w.heap.size, 0, none⟩ = some (.int .i64 0) := hA.cell 0
        have f0 := hA.frozen 0
        clear hA hk
        go_wp2_with fail
        refine (letGo_any w.heap.size 0 _ wr c0 f0).mono ?_
        rintro e w1 ⟨rfl, rfl⟩
        have HA2 : Hid (Blk (wr.setCell ⟨w.heap.size, 0, none⟩ (.int .i64 (-1))) w.heap.size (arr3 1) 74) := by have := HA1.out.set 0 (.int .i64 (-1)); rw [arr_0] at this; exact this
        clear c0 f0
        go_wp2
        go_roundw
        case rel => exact ⟨1, rfl, by omega, HA2.out, HA.out.setCell (Nat.le_refl _) _⟩
        case measure => simp [intOf]
      · have HA1 : Hid (Blk wr w.heap.size (arr3 1) 74) := hA
        have c0 : wr.cell? ⟨w.heap.size, 3, none⟩ = some (.int .i64 0) := hA.cell 3
        have f0 := hA.frozen 3
        clear hA hk
        go_wp2_with fail
        refine (letGo_any w.heap.size 3 _ wr c0 f0).mono ?_
        rintro e w1 ⟨rfl, rfl⟩
        have HA2 : Hid (Blk (wr.setCell ⟨w.heap.size, 3, none⟩ (.int .i64 (-1))) w.heap.size (arr3 2) 74) := by have := HA1.out.set 3 (.int .i64 (-1)); rw [arr_1] at this; exact this
        clear c0 f0
        go_wp2
        go_roundw
        case rel => exact ⟨2, rfl, by omega, HA2.out, HA.out.setCell (Nat.le_refl _) _⟩
        case measure => simp [intOf]
      · have HA1 : Hid (Blk wr w.heap.size (arr3 2) 74) := hA
        have c0 : wr.cell? ⟨w.heap.size, 6, none⟩ = some (.int .i64 0) := hA.cell 6
        have f0 := hA.frozen 6
        clear hA hk
        go_wp2_with fail
        refine (letGo_any w.heap.size 6 _ wr c0 f0).mono ?_
        rintro e w1 ⟨rfl, rfl⟩
        have HA2 : Hid (Blk (wr.setCell ⟨w.heap.size, 6, none⟩ (.int .i64 (-1))) w.heap.size (arr3 3) 74) := by have := HA1.out.set 6 (.int .i64 (-1)); rw [arr_2] at this; exact this
        clear c0 f0
        go_wp2
        go_roundw
        case rel => exact ⟨3, rfl, by omega, HA2.out, HA.out.setCell (Nat.le_refl _) _⟩
        case measure => simp [intOf]
      · have HA1 : Hid (Blk wr w.heap.size (arr3 3) 74) := hA
        clear hA hk
        go_wp2_with fail
        refine (HCP.out w.heap.size 74 wr HA1.out).mono ?_
        rintro e w1 ⟨rfl, ⟨ps, h1, h2, h3⟩, hb1⟩
        have HE : Hid ((∃ ps, PB w.heap.size w1 wr.heap.size _ ps ∧ pts ps = _ ∧ Own8 ps) ∧ Below w.heap.size w w1) := ⟨⟨ps, h1.down HA.out.size, h2, h3⟩, grow_on HA.out hb1⟩
        clear h1 h2 h3 hb1
        go_wp2
        go_ret
        exact ⟨⟨wr.heap.size, rfl, HE.out.1⟩, HE.out.2⟩
end Go.Proofs.Ytcopckbpflmmeab.StsN
