/-
  PROVED: spec.StoreNew and impl.StoreNew give as many parts of nothing as a plain function says, in memory of their own; nothing that was there is changed.
  PROVED: the contract of spec.DrawInOrder: it returns a slice of at most five strings in memory of its own, and nothing that was there is changed.
  PROVED: the contracts of the drawing of labels: l2Draw and l2Any hand back a row of the call's own with a few small labels; the cursor goes on, all else is as it was.
  PROVED: the contract of spec.DrawSetLess: two slices of a few small labels in memory of its own; nothing that was there is changed.
  PROVED: the contracts of the drawing of alarms: l4Draw, l4Any, l4Pair and what is drawn by them: alarms with a few small labels in memory of their own; nothing that was there is changed but the cursor.
  PROVED: the contracts of the draws of alarms that FnMerges and FnAlarms begin with: alarms with a few small labels in memory of their own; nothing that was there is changed.
  Small alarms and rows of them beside the drawing cursor.
  PROVED: the contracts of the drawing of chains, l6Draw first: a chain with a few small alarms in memory of its own; nothing that was there is changed but the cursor.
  PROVED: the contract of l6Any: a drawn chain, bent or not, in memory of its own; nothing that was there is changed but the cursor.
  PROVED: the contracts of the draws of chapter 6: chains, bent or not, and what comes beside them, in new memory.
  PROVED: the contract of l7Draw: a part with a few small alarms in memory of its own; nothing that was there is changed but the cursor.
  PROVED: the contract of l7Any: a drawn part, bent or not, in memory of its own; nothing that was there is changed but the cursor.
  PROVED: the contracts of the draws of chapter 7: parts, bent or not, and what comes beside them, in new memory.
  PROVED: the labels that l2Draw draws are a set, and the alarms that l4Draw draws are right; nothing that was there is changed but the cursor.
  PROVED: the contract of l8Draw: a right store with a few small alarms in memory of its own; nothing that was there is changed but the cursor.
  PROVED: the labels that l7Labels draws beside right alarms are a set, and the contract of DrawStore.
  PROVED: the marks that markPartS writes lie in the parts' own memory alone, and heldPartS finds them.
  PROVED: the contract of DrawStore: a right store and a right alarm, in new memory.
  PROVED: the functions of chapter 8 at right stores, as the law of stores calls them.
-/
import Derived.Test.YtooninmicfcfoaaGreatQStsC
import Derived.Test.YtooninmicfcfoaaGreatQDrawW
import Derived.Test.YtooninmicfcfoaaGreatQLabR
import Derived.Test.YtooninmicfcfoaaGreatQApp
import Derived.Test.YtooninmicfcfoaaGreatQLst
import Derived.Deep.RegionHeld3
import Derived.Test.YtooninmicfcfoaaGreatQStwD
import Derived.Test.YtooninmicfcfoaaGreatQPrt
import Derived.Test.YtooninmicfcfoaaGreatQRgt
import Derived.Test.YtooninmicfcfoaaGreatQStsA
import Derived.Test.YtooninmicfcfoaaGreatQSts
set_option linter.unusedVariables false
namespace Go.Proofs.YtooninmicfcfoaaGreat.StsN
open Go.RowKit
open Labs LabS Alms AlmM Over Blk App Rws ChnI ChnC ChnP ChnK Chs Prt PrtM Sts StsC

def lenV : Value → Nat
  | .slice _ n _ => n
  | _ => 0
def noneP : PPt := ⟨-1, 0, []⟩
def noneR : PRow := ⟨-1, 0, none, 0, []⟩
def newN (n : Int) : Nat := if 1 ≤ n ∧ n ≤ 3 then n.toNat else 1
def newS (n : Int) : List PPt := List.replicate (newN n) noneP
theorem newN_cases (n : Int) : (newN n = 1 ∧ (n < 1 ∨ 3 < n ∨ n = 1)) ∨ (newN n = 2 ∧ n = 2) ∨ (newN n = 3 ∧ n = 3) := by
  unfold newN
  split
  · have : n = 1 ∨ n = 2 ∨ n = 3 := by omega
    rcases this with rfl | rfl | rfl
    · exact .inl ⟨rfl, by omega⟩
    · exact .inr (.inl ⟨rfl, rfl⟩)
    · exact .inr (.inr ⟨rfl, rfl⟩)
  · exact .inl ⟨rfl, by omega⟩
theorem new_len (n : Int) : (newS n).length = newN n := by simp [newS]
theorem newN_le (n : Int) : 1 ≤ newN n ∧ newN n ≤ 3 := by rcases newN_cases n with h | h | h <;> omega
theorem none_nth {k i : Nat} (h : i < k) : nthT (List.replicate k noneP) i = noneP := by rw [nthT_eq (by simpa using h)]; simp
theorem none_pts (k : Nat) : pts (List.replicate k noneR) = List.replicate k noneP := by simp [pts, noneR, noneP, PRow.pt, chs]
theorem none_sum (k : Nat) : sumT (List.replicate k noneP) = 0 := by
  induction k with
  | zero => rfl
  | succ k ih => rw [List.replicate_succ, sumT, ih]; rfl
theorem none_fits (k : Nat) : FitsT (List.replicate k noneP) := fun x hx => by
  rw [List.eq_of_mem_replicate hx]
  exact ⟨⟨by decide, by decide⟩, ⟨by decide, by decide⟩, by simp [noneP], fun y hy => by simp [noneP] at hy⟩
theorem PB.new (lo : Nat) {w : World} {M : Nat} (h : Blk w M #[.int .i64 (-1), .int .i64 0, .slice none 0 0] 26) (hl : lo ≤ M) : PB lo w M 1 [noneR] :=
  ⟨hl, ⟨by simp, by simp [maxLen]⟩, ⟨_, h, rfl, fun i hi => by
    have : i = 0 := by simpa using hi
    subst this
    exact ⟨rfl, rfl, rfl⟩⟩, fun x hx => by rw [List.mem_singleton.1 hx]; exact .inl ⟨rfl, rfl, rfl⟩⟩
theorem repl_app (k : Nat) : List.replicate k noneR ++ [noneR] = List.replicate (k + 1) noneR := by rw [List.replicate_succ']

set_option maxHeartbeats 1600000 in
theorem specNew_any (n : Int) (w : World) (hn : I64 n) :
    Calls Tryz.prog 50 #[.int .i64 n] w fun e w' => (∃ M c, e = .returned (.slice (some ⟨M, 0, none⟩) (newN n) c) ∧ PB w.heap.size w' M c (List.replicate (newN n) noneR)) ∧ Below w.heap.size w w' := by
  obtain ⟨i0, hi, hz0, hz1, hz2⟩ := info_parts infoP
  go_enter Tryz.func50, Tryz.ntmps50
  go_wp2
  go_loopw [3] (fun v w' => ∃ (k M c : Nat), v = .slice (some ⟨M, 0, none⟩) k c ∧ 1 ≤ k ∧ k ≤ newN n ∧ PB w.heap.size w' M c (List.replicate k noneR) ∧ Below w.heap.size w w') (fun v _ => 3 - lenV v)
  case atStart => exact ⟨1, w.heap.size, 1, rfl, Nat.le_refl _, (newN_le n).1, PB.new _ (Blk.new _ _ _) (Nat.le_refl _), Go.Joins.below_alloc1 w _⟩
  case round =>
    obtain ⟨k, M, c, rfl, hk1, hk2, hab, hb⟩ := hrel
    have HAB : Hid (PB w.heap.size wr M c (List.replicate k noneR) ∧ Below w.heap.size w wr) := ⟨hab, hb⟩
    have hk3 : k ≤ 3 := by have := (newN_le n).2; omega
    clear hab hb
    by_cases hlt : k < newN n
    · have hlt1 : (k : Int) < n := by rcases newN_cases n with h | h | h <;> omega
      have hlt2 : n ≤ 3 := by rcases newN_cases n with h | h | h <;> omega
      obtain ⟨xs, hox, hxl, hxs⟩ := HAB.out.1.own
      rw [List.length_replicate] at hox hxl
      have HOX : Hid (∀ o1, (wr.alloc o1).ownsRow w.heap.size 26 3 (.slice (some ⟨M, 0, none⟩) k c) k xs) := fun o1 => own_grow hox (Go.Joins.below_alloc1 wr o1)
      have HXS : Hid (xs.length = (List.replicate k noneR).length * 3 ∧ ∀ i, i < (List.replicate k noneR).length → Cel3 (fun k => xs[k]?) i (nthQ (List.replicate k noneR) i)) := ⟨by rw [List.length_replicate]; exact hxl, hxs⟩
      clear hox hxl hxs
      go_wp2_with (at_builtin; refine wpList_append_own_at _ rfl _ _ 54 rfl w.heap.size 26 i0 (.agg #[.int .i64 0, .int .i64 0, .slice none 0 0]) 3 40 Tryz.underlying54 hi hz0 hz1 hz2 rfl (by decide) _ _ _ rfl (HOX.out _) ⟨wr.heap.size, 0, none⟩ 1 1 (rowP noneR) rfl rfl ?c1 (rowP_one _) ?c3 ?c4 ?c5 ?_)
      case c1 => exact blk_news (Blk.new _ _ _)
      case c3 => unfold maxLen; omega
      case c4 => omega
      case c5 => have := HAB.out.2.size; simp; omega
      intro v' w2 hown hg hnil hat
      have hown' : w2.ownsRow w.heap.size 26 3 v' ((List.replicate k noneR).length + 1) (xs ++ rowP noneR) := by rw [List.length_replicate]; exact hown
      obtain ⟨M3, c3, rfl, hAB3⟩ := (HAB.out.1.grow (Go.Joins.below_alloc1 wr _)).app (x := noneR) (.inl ⟨rfl, rfl, rfl⟩) HXS.out.1 HXS.out.2 hown' hg
      rw [repl_app] at hAB3
      have HAB3 : Hid (PB w.heap.size w2 M3 c3 (List.replicate (k + 1) noneR)) := hAB3
      have HB3 : Hid (Below w.heap.size w w2) := (grow_on HAB.out.2 (Go.Joins.below_alloc1 wr _)).grown hg (by have := HAB.out.2.size; simp; omega) (fun k e => by have h : M = k := Option.some.inj e; have := HAB.out.1.at'; omega)
      clear hown hown' hg hnil hat hAB3
      rw [List.length_replicate]
      go_wp2
      go_roundw
      case rel => exact ⟨k + 1, M3, c3, rfl, by omega, by omega, HAB3.out, HB3.out⟩
      case measure => simp [lenV]; omega
    · have HE : Hid (k = newN n) := by show k = newN n; omega
      have hfin : Hid ((∃ M' c', Ending.returned (.slice (some ⟨M, 0, none⟩) k c) = .returned (.slice (some ⟨M', 0, none⟩) (newN n) c') ∧ PB w.heap.size wr M' c' (List.replicate (newN n) noneR)) ∧ Below w.heap.size w wr) := ⟨⟨M, c, by rw [HE.out], by rw [← HE.out]; exact HAB.out.1⟩, HAB.out.2⟩
      by_cases h1 : (k : Int) < n
      · have h2 : ¬ n ≤ 3 := by rcases newN_cases n with h | h | h <;> omega
        go_wp2
        go_ret
        exact hfin.out
      · go_wp2
        go_ret
        exact hfin.out

theorem letGo_any (A o : Nat) (v : Value) (w : World) (hc : w.cell? ⟨A, o, none⟩ = some v) (hf : w.frozen? ⟨A, o, none⟩ = false) :
    Calls Tryz.prog 105 #[.pointer (some ⟨A, o, none⟩)] w fun e w' => e = .returned (.tuple #[]) ∧ w' = w.setCell ⟨A, o, none⟩ (.int .i64 (-1)) := by
  go_enter Tryz.func105, Tryz.ntmps105
  go_wp2
  go_end0
  exact ⟨rfl, rfl⟩
def hdI (k i : Nat) : Int := if i < k then -1 else 0
def arr3 (k : Nat) : Array Value := #[.int .i64 (hdI k 0), .int .i64 0, .slice none 0 0, .int .i64 (hdI k 1), .int .i64 0, .slice none 0 0, .int .i64 (hdI k 2), .int .i64 0, .slice none 0 0]
theorem arr_rd {w : World} {A : Nat} {T : TypeId} (h : Blk w A (arr3 3) T) {n : Nat} (hn : n ≤ 3) : RdS RdA w (some ⟨A, 0, none⟩) (List.replicate n noneP) := by
  refine .inr ⟨A, 0, rfl, h.lt, fun i hi => ⟨none, 0, ?_⟩⟩
  rw [List.length_replicate] at hi
  rw [none_nth hi]
  have hi3 : i = 0 ∨ i = 1 ∨ i = 2 := by omega
  refine ⟨?_, ?_, ?_, .inl rfl⟩ <;> rw [h.cell] <;> rcases hi3 with rfl | rfl | rfl <;> rfl

theorem arr_0 : (arr3 0).setIfInBounds 0 (.int .i64 (-1)) = arr3 1 := rfl
theorem arr_1 : (arr3 1).setIfInBounds 3 (.int .i64 (-1)) = arr3 2 := rfl
theorem arr_2 : (arr3 2).setIfInBounds 6 (.int .i64 (-1)) = arr3 3 := rfl
set_option maxRecDepth 100000 in
set_option maxHeartbeats 6400000 in
theorem implNew_any (n : Int) (w : World) (hn : I64 n) :
    Calls Tryz.prog 44 #[.int .i64 n] w fun e w' => (∃ M, e = .returned (.slice (some ⟨M, 0, none⟩) (newN n) (newN n)) ∧ ∃ ps, PB w.heap.size w' M (newN n) ps ∧ pts ps = newS n ∧ Own8 ps) ∧ Below w.heap.size w w' := by
  obtain ⟨N, hN⟩ : ∃ N, newN n = N := ⟨_, rfl⟩
  have hN3 := newN_le n
  rw [hN] at hN3 ⊢
  have HSN : Hid (newS n = List.replicate N noneP) := by show _ = _; unfold newS; rw [hN]
  have hcs : (N = 1 ∧ n < 1) ∨ (N = 1 ∧ 3 < n) ∨ (N = 1 ∧ n = 1) ∨ (N = 2 ∧ n = 2) ∨ (N = 3 ∧ n = 3) := by
    have := newN_cases n
    rw [hN] at this
    omega
  have HCP : Hid (∀ (A : Nat) (T : TypeId) (z : World), Blk z A (arr3 3) T → Calls Tryz.prog 97 #[.slice (some ⟨A, 0, none⟩) N 3] z fun e w' => e = .returned (.slice (some ⟨z.heap.size, 0, none⟩) N N) ∧ (∃ ps, PB z.heap.size w' z.heap.size N ps ∧ pts ps = newS n ∧ Own8 ps) ∧ Below z.heap.size z w') := fun A T z h => by
    have := copiedParts_any (some ⟨A, 0, none⟩) 3 (List.replicate N noneP) z (arr_rd h hN3.2) (by rw [List.length_replicate]; omega) (by rw [none_sum]; omega)
    rw [List.length_replicate] at this
    rw [HSN.out]; exact this
  clear hN HSN
  rcases hcs with ⟨rfl, hc⟩ | ⟨rfl, hc⟩ | ⟨rfl, rfl⟩ | ⟨rfl, rfl⟩ | ⟨rfl, rfl⟩
  · have hc' : n < 1 := hc
    go_enter Tryz.func44, Tryz.ntmps44
    go_wp2
    go_loopw [11] (fun i w' => ∃ k : Nat, i = .int .i64 k ∧ k ≤ 3 ∧ Blk w' w.heap.size (arr3 k) 130 ∧ Below w.heap.size w w') (fun i _ => 3 - (intOf i).toNat)
    case atStart => exact ⟨0, rfl, by omega, Blk.new _ _ _, Go.Joins.below_alloc1 w _⟩
    case round =>
      obtain ⟨k, rfl, hk, hA, hB⟩ := hrel
      have HA : Hid (Below w.heap.size w wr) := hB
      clear hB
      have hk3 : k = 0 ∨ k = 1 ∨ k = 2 ∨ k = 3 := by omega
      rcases hk3 with rfl | rfl | rfl | rfl
      · have HA1 : Hid (Blk wr w.heap.size (arr3 0) 130) := hA
        have c0 : wr.cell? ⟨w.heap.size, 0, none⟩ = some (.int .i64 0) := hA.cell 0
        have f0 := hA.frozen 0
        clear hA hk
        go_wp2_with fail
        refine (letGo_any w.heap.size 0 _ wr c0 f0).mono ?_
        rintro e w1 ⟨rfl, rfl⟩
        have HA2 : Hid (Blk (wr.setCell ⟨w.heap.size, 0, none⟩ (.int .i64 (-1))) w.heap.size (arr3 1) 130) := by have := HA1.out.set 0 (.int .i64 (-1)); rw [arr_0] at this; exact this
        clear c0 f0
        go_wp2
        go_roundw
        case rel => exact ⟨1, rfl, by omega, HA2.out, HA.out.setCell (Nat.le_refl _) _⟩
        case measure => simp [intOf]
      · have HA1 : Hid (Blk wr w.heap.size (arr3 1) 130) := hA
        have c0 : wr.cell? ⟨w.heap.size, 3, none⟩ = some (.int .i64 0) := hA.cell 3
        have f0 := hA.frozen 3
        clear hA hk
        go_wp2_with fail
        refine (letGo_any w.heap.size 3 _ wr c0 f0).mono ?_
        rintro e w1 ⟨rfl, rfl⟩
        have HA2 : Hid (Blk (wr.setCell ⟨w.heap.size, 3, none⟩ (.int .i64 (-1))) w.heap.size (arr3 2) 130) := by have := HA1.out.set 3 (.int .i64 (-1)); rw [arr_1] at this; exact this
        clear c0 f0
        go_wp2
        go_roundw
        case rel => exact ⟨2, rfl, by omega, HA2.out, HA.out.setCell (Nat.le_refl _) _⟩
        case measure => simp [intOf]
      · have HA1 : Hid (Blk wr w.heap.size (arr3 2) 130) := hA
        have c0 : wr.cell? ⟨w.heap.size, 6, none⟩ = some (.int .i64 0) := hA.cell 6
        have f0 := hA.frozen 6
        clear hA hk
        go_wp2_with fail
        refine (letGo_any w.heap.size 6 _ wr c0 f0).mono ?_
        rintro e w1 ⟨rfl, rfl⟩
        have HA2 : Hid (Blk (wr.setCell ⟨w.heap.size, 6, none⟩ (.int .i64 (-1))) w.heap.size (arr3 3) 130) := by have := HA1.out.set 6 (.int .i64 (-1)); rw [arr_2] at this; exact this
        clear c0 f0
        go_wp2
        go_roundw
        case rel => exact ⟨3, rfl, by omega, HA2.out, HA.out.setCell (Nat.le_refl _) _⟩
        case measure => simp [intOf]
      · have HA1 : Hid (Blk wr w.heap.size (arr3 3) 130) := hA
        clear hA hk
        go_wp2_with fail
        refine (HCP.out w.heap.size 130 wr HA1.out).mono ?_
        rintro e w1 ⟨rfl, ⟨ps, h1, h2, h3⟩, hb1⟩
        have HE : Hid ((∃ ps, PB w.heap.size w1 wr.heap.size _ ps ∧ pts ps = _ ∧ Own8 ps) ∧ Below w.heap.size w w1) := ⟨⟨ps, h1.down HA.out.size, h2, h3⟩, grow_on HA.out hb1⟩
        clear h1 h2 h3 hb1
        go_wp2
        go_ret
        exact ⟨⟨wr.heap.size, rfl, HE.out.1⟩, HE.out.2⟩
  · have hc' : ¬ n < 1 := by omega
    have hc2 : 3 < n := hc
    go_enter Tryz.func44, Tryz.ntmps44
    go_wp2
    go_loopw [11] (fun i w' => ∃ k : Nat, i = .int .i64 k ∧ k ≤ 3 ∧ Blk w' w.heap.size (arr3 k) 130 ∧ Below w.heap.size w w') (fun i _ => 3 - (intOf i).toNat)
    case atStart => exact ⟨0, rfl, by omega, Blk.new _ _ _, Go.Joins.below_alloc1 w _⟩
    case round =>
      obtain ⟨k, rfl, hk, hA, hB⟩ := hrel
      have HA : Hid (Below w.heap.size w wr) := hB
      clear hB
      have hk3 : k = 0 ∨ k = 1 ∨ k = 2 ∨ k = 3 := by omega
      rcases hk3 with rfl | rfl | rfl | rfl
      · have HA1 : Hid (Blk wr w.heap.size (arr3 0) 130) := hA
        have c0 : wr.cell? ⟨w.heap.size, 0, none⟩ = some (.int .i64 0) := hA.cell 0
        have f0 := hA.frozen 0
        clear hA hk
        go_wp2_with fail
        refine (letGo_any w.heap.size 0 _ wr c0 f0).mono ?_
        rintro e w1 ⟨rfl, rfl⟩
        have HA2 : Hid (Blk (wr.setCell ⟨w.heap.size, 0, none⟩ (.int .i64 (-1))) w.heap.size (arr3 1) 130) := by have := HA1.out.set 0 (.int .i64 (-1)); rw [arr_0] at this; exact this
        clear c0 f0
        go_wp2
        go_roundw
        case rel => exact ⟨1, rfl, by omega, HA2.out, HA.out.setCell (Nat.le_refl _) _⟩
        case measure => simp [intOf]
      · have HA1 : Hid (Blk wr w.heap.size (arr3 1) 130) := hA
        have c0 : wr.cell? ⟨w.heap.size, 3, none⟩ = some (.int .i64 0) := hA.cell 3
        have f0 := hA.frozen 3
        clear hA hk
        go_wp2_with fail
        refine (letGo_any w.heap.size 3 _ wr c0 f0).mono ?_
        rintro e w1 ⟨rfl, rfl⟩
        have HA2 : Hid (Blk (wr.setCell ⟨w.heap.size, 3, none⟩ (.int .i64 (-1))) w.heap.size (arr3 2) 130) := by have := HA1.out.set 3 (.int .i64 (-1)); rw [arr_1] at this; exact this
        clear c0 f0
        go_wp2
        go_roundw
        case rel => exact ⟨2, rfl, by omega, HA2.out, HA.out.setCell (Nat.le_refl _) _⟩
        case measure => simp [intOf]
      · have HA1 : Hid (Blk wr w.heap.size (arr3 2) 130) := hA
        have c0 : wr.cell? ⟨w.heap.size, 6, none⟩ = some (.int .i64 0) := hA.cell 6
        have f0 := hA.frozen 6
        clear hA hk
        go_wp2_with fail
        refine (letGo_any w.heap.size 6 _ wr c0 f0).mono ?_
        rintro e w1 ⟨rfl, rfl⟩
        have HA2 : Hid (Blk (wr.setCell ⟨w.heap.size, 6, none⟩ (.int .i64 (-1))) w.heap.size (arr3 3) 130) := by have := HA1.out.set 6 (.int .i64 (-1)); rw [arr_2] at this; exact this
        clear c0 f0
        go_wp2
        go_roundw
        case rel => exact ⟨3, rfl, by omega, HA2.out, HA.out.setCell (Nat.le_refl _) _⟩
        case measure => simp [intOf]
      · have HA1 : Hid (Blk wr w.heap.size (arr3 3) 130) := hA
        clear hA hk
        go_wp2_with fail
        refine (HCP.out w.heap.size 130 wr HA1.out).mono ?_
        rintro e w1 ⟨rfl, ⟨ps, h1, h2, h3⟩, hb1⟩
        have HE : Hid ((∃ ps, PB w.heap.size w1 wr.heap.size _ ps ∧ pts ps = _ ∧ Own8 ps) ∧ Below w.heap.size w w1) := ⟨⟨ps, h1.down HA.out.size, h2, h3⟩, grow_on HA.out hb1⟩
        clear h1 h2 h3 hb1
        go_wp2
        go_ret
        exact ⟨⟨wr.heap.size, rfl, HE.out.1⟩, HE.out.2⟩
  · go_enter Tryz.func44, Tryz.ntmps44
    go_wp2
    go_loopw [11] (fun i w' => ∃ k : Nat, i = .int .i64 k ∧ k ≤ 3 ∧ Blk w' w.heap.size (arr3 k) 130 ∧ Below w.heap.size w w') (fun i _ => 3 - (intOf i).toNat)
    case atStart => exact ⟨0, rfl, by omega, Blk.new _ _ _, Go.Joins.below_alloc1 w _⟩
    case round =>
      obtain ⟨k, rfl, hk, hA, hB⟩ := hrel
      have HA : Hid (Below w.heap.size w wr) := hB
      clear hB
      have hk3 : k = 0 ∨ k = 1 ∨ k = 2 ∨ k = 3 := by omega
      rcases hk3 with rfl | rfl | rfl | rfl
      · have HA1 : Hid (Blk wr w.heap.size (arr3 0) 130) := hA
        have c0 : wr.cell? ⟨w.heap.size, 0, none⟩ = some (.int .i64 0) := hA.cell 0
        have f0 := hA.frozen 0
        clear hA hk
        go_wp2_with fail
        refine (letGo_any w.heap.size 0 _ wr c0 f0).mono ?_
        rintro e w1 ⟨rfl, rfl⟩
        have HA2 : Hid (Blk (wr.setCell ⟨w.heap.size, 0, none⟩ (.int .i64 (-1))) w.heap.size (arr3 1) 130) := by have := HA1.out.set 0 (.int .i64 (-1)); rw [arr_0] at this; exact this
        clear c0 f0
        go_wp2
        go_roundw
        case rel => exact ⟨1, rfl, by omega, HA2.out, HA.out.setCell (Nat.le_refl _) _⟩
        case measure => simp [intOf]
      · have HA1 : Hid (Blk wr w.heap.size (arr3 1) 130) := hA
        have c0 : wr.cell? ⟨w.heap.size, 3, none⟩ = some (.int .i64 0) := hA.cell 3
        have f0 := hA.frozen 3
        clear hA hk
        go_wp2_with fail
        refine (letGo_any w.heap.size 3 _ wr c0 f0).mono ?_
        rintro e w1 ⟨rfl, rfl⟩
        have HA2 : Hid (Blk (wr.setCell ⟨w.heap.size, 3, none⟩ (.int .i64 (-1))) w.heap.size (arr3 2) 130) := by have := HA1.out.set 3 (.int .i64 (-1)); rw [arr_1] at this; exact this
        clear c0 f0
        go_wp2
        go_roundw
        case rel => exact ⟨2, rfl, by omega, HA2.out, HA.out.setCell (Nat.le_refl _) _⟩
        case measure => simp [intOf]
      · have HA1 : Hid (Blk wr w.heap.size (arr3 2) 130) := hA
        have c0 : wr.cell? ⟨w.heap.size, 6, none⟩ = some (.int .i64 0) := hA.cell 6
        have f0 := hA.frozen 6
        clear hA hk
        go_wp2_with fail
        refine (letGo_any w.heap.size 6 _ wr c0 f0).mono ?_
        rintro e w1 ⟨rfl, rfl⟩
        have HA2 : Hid (Blk (wr.setCell ⟨w.heap.size, 6, none⟩ (.int .i64 (-1))) w.heap.size (arr3 3) 130) := by have := HA1.out.set 6 (.int .i64 (-1)); rw [arr_2] at this; exact this
        clear c0 f0
        go_wp2
        go_roundw
        case rel => exact ⟨3, rfl, by omega, HA2.out, HA.out.setCell (Nat.le_refl _) _⟩
        case measure => simp [intOf]
      · have HA1 : Hid (Blk wr w.heap.size (arr3 3) 130) := hA
        clear hA hk
        go_wp2_with fail
        refine (HCP.out w.heap.size 130 wr HA1.out).mono ?_
        rintro e w1 ⟨rfl, ⟨ps, h1, h2, h3⟩, hb1⟩
        have HE : Hid ((∃ ps, PB w.heap.size w1 wr.heap.size _ ps ∧ pts ps = _ ∧ Own8 ps) ∧ Below w.heap.size w w1) := ⟨⟨ps, h1.down HA.out.size, h2, h3⟩, grow_on HA.out hb1⟩
        clear h1 h2 h3 hb1
        go_wp2
        go_ret
        exact ⟨⟨wr.heap.size, rfl, HE.out.1⟩, HE.out.2⟩
  · go_enter Tryz.func44, Tryz.ntmps44
    go_wp2
    go_loopw [11] (fun i w' => ∃ k : Nat, i = .int .i64 k ∧ k ≤ 3 ∧ Blk w' w.heap.size (arr3 k) 130 ∧ Below w.heap.size w w') (fun i _ => 3 - (intOf i).toNat)
    case atStart => exact ⟨0, rfl, by omega, Blk.new _ _ _, Go.Joins.below_alloc1 w _⟩
    case round =>
      obtain ⟨k, rfl, hk, hA, hB⟩ := hrel
      have HA : Hid (Below w.heap.size w wr) := hB
      clear hB
      have hk3 : k = 0 ∨ k = 1 ∨ k = 2 ∨ k = 3 := by omega
      rcases hk3 with rfl | rfl | rfl | rfl
      · have HA1 : Hid (Blk wr w.heap.size (arr3 0) 130) := hA
        have c0 : wr.cell? ⟨w.heap.size, 0, none⟩ = some (.int .i64 0) := hA.cell 0
        have f0 := hA.frozen 0
        clear hA hk
        go_wp2_with fail
        refine (letGo_any w.heap.size 0 _ wr c0 f0).mono ?_
        rintro e w1 ⟨rfl, rfl⟩
        have HA2 : Hid (Blk (wr.setCell ⟨w.heap.size, 0, none⟩ (.int .i64 (-1))) w.heap.size (arr3 1) 130) := by have := HA1.out.set 0 (.int .i64 (-1)); rw [arr_0] at this; exact this
        clear c0 f0
        go_wp2
        go_roundw
        case rel => exact ⟨1, rfl, by omega, HA2.out, HA.out.setCell (Nat.le_refl _) _⟩
        case measure => simp [intOf]
      · have HA1 : Hid (Blk wr w.heap.size (arr3 1) 130) := hA
        have c0 : wr.cell? ⟨w.heap.size, 3, none⟩ = some (.int .i64 0) := hA.cell 3
        have f0 := hA.frozen 3
        clear hA hk
        go_wp2_with fail
        refine (letGo_any w.heap.size 3 _ wr c0 f0).mono ?_
        rintro e w1 ⟨rfl, rfl⟩
        have HA2 : Hid (Blk (wr.setCell ⟨w.heap.size, 3, none⟩ (.int .i64 (-1))) w.heap.size (arr3 2) 130) := by have := HA1.out.set 3 (.int .i64 (-1)); rw [arr_1] at this; exact this
        clear c0 f0
        go_wp2
        go_roundw
        case rel => exact ⟨2, rfl, by omega, HA2.out, HA.out.setCell (Nat.le_refl _) _⟩
        case measure => simp [intOf]
      · have HA1 : Hid (Blk wr w.heap.size (arr3 2) 130) := hA
        have c0 : wr.cell? ⟨w.heap.size, 6, none⟩ = some (.int .i64 0) := hA.cell 6
        have f0 := hA.frozen 6
        clear hA hk
        go_wp2_with fail
        refine (letGo_any w.heap.size 6 _ wr c0 f0).mono ?_
        rintro e w1 ⟨rfl, rfl⟩
        have HA2 : Hid (Blk (wr.setCell ⟨w.heap.size, 6, none⟩ (.int .i64 (-1))) w.heap.size (arr3 3) 130) := by have := HA1.out.set 6 (.int .i64 (-1)); rw [arr_2] at this; exact this
        clear c0 f0
        go_wp2
        go_roundw
        case rel => exact ⟨3, rfl, by omega, HA2.out, HA.out.setCell (Nat.le_refl _) _⟩
        case measure => simp [intOf]
      · have HA1 : Hid (Blk wr w.heap.size (arr3 3) 130) := hA
        clear hA hk
        go_wp2_with fail
        refine (HCP.out w.heap.size 130 wr HA1.out).mono ?_
        rintro e w1 ⟨rfl, ⟨ps, h1, h2, h3⟩, hb1⟩
        have HE : Hid ((∃ ps, PB w.heap.size w1 wr.heap.size _ ps ∧ pts ps = _ ∧ Own8 ps) ∧ Below w.heap.size w w1) := ⟨⟨ps, h1.down HA.out.size, h2, h3⟩, grow_on HA.out hb1⟩
        clear h1 h2 h3 hb1
        go_wp2
        go_ret
        exact ⟨⟨wr.heap.size, rfl, HE.out.1⟩, HE.out.2⟩
  · go_enter Tryz.func44, Tryz.ntmps44
    go_wp2
    go_loopw [11] (fun i w' => ∃ k : Nat, i = .int .i64 k ∧ k ≤ 3 ∧ Blk w' w.heap.size (arr3 k) 130 ∧ Below w.heap.size w w') (fun i _ => 3 - (intOf i).toNat)
    case atStart => exact ⟨0, rfl, by omega, Blk.new _ _ _, Go.Joins.below_alloc1 w _⟩
    case round =>
      obtain ⟨k, rfl, hk, hA, hB⟩ := hrel
      have HA : Hid (Below w.heap.size w wr) := hB
      clear hB
      have hk3 : k = 0 ∨ k = 1 ∨ k = 2 ∨ k = 3 := by omega
      rcases hk3 with rfl | rfl | rfl | rfl
      · have HA1 : Hid (Blk wr w.heap.size (arr3 0) 130) := hA
        have c0 : wr.cell? ⟨w.heap.size, 0, none⟩ = some (.int .i64 0) := hA.cell 0
        have f0 := hA.frozen 0
        clear hA hk
        go_wp2_with fail
        refine (letGo_any w.heap.size 0 _ wr c0 f0).mono ?_
        rintro e w1 ⟨rfl, rfl⟩
        have HA2 : Hid (Blk (wr.setCell ⟨w.heap.size, 0, none⟩ (.int .i64 (-1))) w.heap.size (arr3 1) 130) := by have := HA1.out.set 0 (.int .i64 (-1)); rw [arr_0] at this; exact this
        clear c0 f0
        go_wp2
        go_roundw
        case rel => exact ⟨1, rfl, by omega, HA2.out, HA.out.setCell (Nat.le_refl _) _⟩
        case measure => simp [intOf]
      · have HA1 : Hid (Blk wr w.heap.size (arr3 1) 130) := hA
        have c0 : wr.cell? ⟨w.heap.size, 3, none⟩ = some (.int .i64 0) := hA.cell 3
        have f0 := hA.frozen 3
        clear hA hk
        go_wp2_with fail
        refine (letGo_any w.heap.size 3 _ wr c0 f0).mono ?_
        rintro e w1 ⟨rfl, rfl⟩
        have HA2 : Hid (Blk (wr.setCell ⟨w.heap.size, 3, none⟩ (.int .i64 (-1))) w.heap.size (arr3 2) 130) := by have := HA1.out.set 3 (.int .i64 (-1)); rw [arr_1] at this; exact this
        clear c0 f0
        go_wp2
        go_roundw
        case rel => exact ⟨2, rfl, by omega, HA2.out, HA.out.setCell (Nat.le_refl _) _⟩
        case measure => simp [intOf]
      · have HA1 : Hid (Blk wr w.heap.size (arr3 2) 130) := hA
        have c0 : wr.cell? ⟨w.heap.size, 6, none⟩ = some (.int .i64 0) := hA.cell 6
        have f0 := hA.frozen 6
        clear hA hk
        go_wp2_with fail
        refine (letGo_any w.heap.size 6 _ wr c0 f0).mono ?_
        rintro e w1 ⟨rfl, rfl⟩
        have HA2 : Hid (Blk (wr.setCell ⟨w.heap.size, 6, none⟩ (.int .i64 (-1))) w.heap.size (arr3 3) 130) := by have := HA1.out.set 6 (.int .i64 (-1)); rw [arr_2] at this; exact this
        clear c0 f0
        go_wp2
        go_roundw
        case rel => exact ⟨3, rfl, by omega, HA2.out, HA.out.setCell (Nat.le_refl _) _⟩
        case measure => simp [intOf]
      · have HA1 : Hid (Blk wr w.heap.size (arr3 3) 130) := hA
        clear hA hk
        go_wp2_with fail
        refine (HCP.out w.heap.size 130 wr HA1.out).mono ?_
        rintro e w1 ⟨rfl, ⟨ps, h1, h2, h3⟩, hb1⟩
        have HE : Hid ((∃ ps, PB w.heap.size w1 wr.heap.size _ ps ∧ pts ps = _ ∧ Own8 ps) ∧ Below w.heap.size w w1) := ⟨⟨ps, h1.down HA.out.size, h2, h3⟩, grow_on HA.out hb1⟩
        clear h1 h2 h3 hb1
        go_wp2
        go_ret
        exact ⟨⟨wr.heap.size, rfl, HE.out.1⟩, HE.out.2⟩
end Go.Proofs.YtooninmicfcfoaaGreat.StsN
namespace Go.Proofs.YtooninmicfcfoaaGreat.Draw
open Go.RowKit StrB

theorem Kept.grown {c : Nat} {w w' : World} (h : Kept c w w') : w.grownBy w' (some c) :=
  ⟨h.os, h.tape, h.output, h.size, fun k hk hne => h.block k hk (fun e => hne (by rw [e]))⟩
theorem Bytes.grown {w w' : World} {a : Option Addr} {len c : Nat} {row : Option Nat} (h : Bytes w a len c) (hg : w.grownBy w' row) (hr : ∀ k, row = some k → c < k) (hc : c ≤ w.heap.size) : Bytes w' a len c := by
  rcases h with h | ⟨b, off, rfl, hb, hz⟩
  · exact .inl h
  · exact .inr ⟨b, off, rfl, hb, fun j hj => by
      obtain ⟨z, h1, h2⟩ := hz j hj
      exact ⟨z, hg.cell h1 (fun e => by have := hr b e.symm; omega), h2⟩⟩
theorem Cur.grown {w w' : World} {c : Nat} {row : Option Nat} (h : Cur w c) (hg : w.grownBy w' row) (hr : ∀ k, row = some k → c < k) : Cur w' c := by
  obtain ⟨a, len, cap, i, h, h0, h1, h2, f1, f2, hi, hl, hb, hlt⟩ := h
  have hne : some c ≠ row := fun e => by have := hr c e.symm; omega
  have hblk := hg.block c hlt hne
  exact ⟨a, len, cap, i, h, hg.cell h0 hne, hg.cell h1 hne, hg.cell h2 hne, by rw [World.frozen?_of_block (w := w) (a := ⟨c, 1, none⟩) hblk]; exact f1, by rw [World.frozen?_of_block (w := w) (a := ⟨c, 2, none⟩) hblk]; exact f2, hi, hl, hb.grown hg hr (by omega), Nat.lt_of_lt_of_le hlt hg.size⟩
theorem Row.grown {p : Value → Bool} {w w' : World} {a : Addr} {len c : Nat} {row : Option Nat} (h : Row p w a len c) (hg : w.grownBy w' row) (hr : some a.block ≠ row) : Row p w' a len c :=
  ⟨h.1, h.2.1, Nat.lt_of_lt_of_le h.2.2.1 hg.size, fun j hj => by
    obtain ⟨v, h1, h2⟩ := h.2.2.2 j hj
    exact ⟨v, hg.cell (a := ⟨a.block, a.off + j, none⟩) h1 hr, h2⟩⟩

theorem row_lit_at {p : Value → Bool} {w : World} {arr : Array Value} {T : TypeId} {c n b : Nat} (h : arr.toList.all p = true) (hn : arr.size = n) (hc : c < w.heap.size) (hb : b = w.heap.size) : Row p (w.alloc (.cells arr T)) ⟨b, 0, none⟩ n c := by
  subst hb
  exact row_lit h hn hc
structure St (w : World) (c lit : Nat) (wr : World) (v : Value) (xs : List ByteArray) : Prop where
  own : wr.ownsRow (c + 1) 9 1 v xs.length (xs.map Value.string)
  ne : v.ownBlock ≠ some lit
  cur : Cur wr c
  row : Row isStr wr ⟨lit, 0, none⟩ 4 c
  low : Below c w wr
end Go.Proofs.YtooninmicfcfoaaGreat.Draw
namespace Go.Proofs.YtooninmicfcfoaaGreat.DrawL
open Go.RowKit
open Draw
open Labs LabS LabR Over Blk App
open LabT (infoL)

def Small (p : List Lab) : Prop := ∀ x ∈ p, x.1.size ≤ 100 ∧ x.2.size ≤ 100
theorem small_app {p q : List Lab} (h : Small p) (k : Small q) : Small (p ++ q) := fun x hx => by
  rcases List.mem_append.1 hx with h1 | h1
  · exact h x h1
  · exact k x h1
theorem small_one {a b : ByteArray} (h : a.size ≤ 100) (k : b.size ≤ 100) : Small [(a, b)] := fun x hx => by
  have : x = (a, b) := by simpa using hx
  subst this; exact ⟨h, k⟩
theorem small_nil : Small [] := fun x hx => by simp at hx
theorem flat_app (p q : List Lab) : flat (p ++ q) = flat p ++ flat q := by
  induction p with
  | nil => rfl
  | cons x p ih => rw [List.cons_append, flat, ih]; rfl

structure LSt (w : World) (c : Nat) (wr : World) (v : Value) (p : List Lab) : Prop where
  own : wr.ownsRow w.heap.size 127 2 v p.length (flat p)
  lies : ∃ g cap, v = .slice (some ⟨g, 0, none⟩) p.length cap
  cur : Cur wr c
  kept : Kept c w wr
  clt : c < w.heap.size
  fit : Small p
theorem LSt.lt {w : World} {c : Nat} {wr : World} {v : Value} {p : List Lab} (h : LSt w c wr v p) : ∀ k, v.ownBlock = some k → c < k := fun k hk => by
  have := (h.own.lt k hk).1; have := h.clt; omega
theorem LSt.keep {w : World} {c : Nat} {wr w' : World} {v : Value} {p : List Lab} (h : LSt w c wr v p) (hc : Cur w' c) (hk : Kept c wr w') : LSt w c w' v p :=
  ⟨h.own.kept hk.grown (by
      cases hv : v.ownBlock with
      | none => exact .inl rfl
      | some k => exact .inr (fun e => by have := h.lt k hv; cases e; omega)), h.lies, hc, h.kept.trans hk, h.clt, h.fit⟩
theorem LSt.alloc {w : World} {c : Nat} {wr : World} {v : Value} {p : List Lab} (h : LSt w c wr v p) (o : Obj) : LSt w c (wr.alloc o) v p :=
  h.keep (h.cur.alloc o) ((Kept.refl c wr).alloc o)
theorem kept_grown {c B : Nat} {w W w' : World} {row : Option Nat} (h : Kept c w W) (hg : W.grownBy w' row) (hr : ∀ k, row = some k → w.heap.size ≤ k) : Kept c w w' :=
  ⟨hg.os.trans h.os, hg.tape.trans h.tape, hg.output.trans h.output, Nat.le_trans h.size hg.size, fun k hk hc => (hg.block k (Nat.lt_of_lt_of_le hk h.size) (fun e => by have := hr k e.symm; omega)).trans (h.block k hk hc)⟩
theorem own_form {w : World} {B : Nat} {v : Value} {p : List Lab} (h : w.ownsRow B 127 2 v p.length (flat p)) (hp : 0 < p.length) : ∃ g cap, v = .slice (some ⟨g, 0, none⟩) p.length cap := by
  obtain ⟨g, c, e, _⟩ := h.form hp
  exact ⟨g, c, e⟩
theorem LSt.add {w : World} {c : Nat} {W w' : World} {v v' : Value} {p q : List Lab} {n m : Nat} {xs ys : List Value} (h : LSt w c W v p) (hn : n = p.length) (hm : m = q.length) (hx : xs = flat p) (hy : ys = flat q) (hf : Small q) (hq : 0 < q.length)
    (hown : w'.ownsRow w.heap.size 127 2 v' (n + m) (xs ++ ys)) (hg : W.grownBy w' v.ownBlock) : LSt w c w' v' (p ++ q) := by
  subst hn hm hx hy
  have ho : w'.ownsRow w.heap.size 127 2 v' (p ++ q).length (flat (p ++ q)) := by rw [flat_app, List.length_append]; exact hown
  exact ⟨ho, own_form ho (by simp; omega), h.cur.grown hg h.lt, kept_grown (B := 0) h.kept hg (fun k hk => (h.own.lt k hk).1), h.clt, small_app h.fit hf⟩
theorem LSt.cells {w : World} {c : Nat} {wr : World} {g cap : Nat} {p : List Lab} {n : Nat} (h : LSt w c wr (.slice (some ⟨g, 0, none⟩) n cap) p) {m : Nat} (hm : m < p.length) : wr.cell? ⟨g, m * 2, none⟩ = some (.string (nth p m).1) ∧ wr.cell? ⟨g, m * 2 + 1, none⟩ = some (.string (nth p m).2) := by
  have ea : ∀ j, (⟨g, 0, none⟩ : Addr).add j = ⟨g, j, none⟩ := fun j => by by_cases h : j = 0 <;> simp [Addr.add, h]
  have h0 := h.own.cells (g := g) rfl (m * 2) _ (flat_get p m hm).1
  have h1 := h.own.cells (g := g) rfl (m * 2 + 1) _ (flat_get p m hm).2
  rw [ea] at h0 h1
  exact ⟨h0, h1⟩
theorem LSt.blk {w : World} {c : Nat} {wr : World} {g cap : Nat} {p : List Lab} {n : Nat} (h : LSt w c wr (.slice (some ⟨g, 0, none⟩) n cap) p) : w.heap.size ≤ g ∧ g < wr.heap.size := h.own.lt g rfl
theorem LSt.warm {w : World} {c : Nat} {wr : World} {g cap : Nat} {p : List Lab} {n : Nat} (h : LSt w c wr (.slice (some ⟨g, 0, none⟩) n cap) p) (i : Nat) : wr.frozen? ⟨g, i, none⟩ = false := by
  rcases h.own.2 with ⟨e, _⟩ | ⟨g', cap', cur, e, _, hg, _⟩
  · cases e
  · cases e; exact Blk.frozen (T := 127) hg i
theorem own_one {w : World} {B M : Nat} {x : Lab} (h : Blk w M #[.string x.1, .string x.2] 127) (hB : B ≤ M) : w.ownsRow B 127 2 (.slice (some ⟨M, 0, none⟩) 1 1) 1 (flat [x]) :=
  ⟨rfl, .inr ⟨M, 1, _, rfl, hB, h, Nat.le_refl _, by simp [maxLen], rfl, rfl⟩⟩
theorem lst_one {w : World} {c : Nat} {W : World} {x : Lab} (hc : Cur W c) (hk : Kept c w W) (hcl : c < w.heap.size) (hs : x.1.size ≤ 100 ∧ x.2.size ≤ 100) : LSt w c (W.alloc (.cells #[.string x.1, .string x.2] 127)) (.slice (some ⟨W.heap.size, 0, none⟩) 1 1) [x] :=
  ⟨own_one (Blk.new _ _ _) hk.size, ⟨_, _, rfl⟩, hc.alloc _, hk.alloc _, hcl, small_one hs.1 hs.2⟩

structure LLit (w : World) (c lit k : Nat) (wr : World) (v : Value) (p : List Lab) : Prop where
  st : LSt w c wr v p
  row : Row isStr wr ⟨lit, 0, none⟩ k c
  ne : v.ownBlock ≠ some lit
theorem LLit.keep {w : World} {c lit k : Nat} {wr w' : World} {v : Value} {p : List Lab} (h : LLit w c lit k wr v p) (hc : Cur w' c) (hk : Kept c wr w') : LLit w c lit k w' v p :=
  ⟨h.st.keep hc hk, h.row.keep hk, h.ne⟩
theorem LLit.alloc {w : World} {c lit k : Nat} {wr : World} {v : Value} {p : List Lab} (h : LLit w c lit k wr v p) (o : Obj) : LLit w c lit k (wr.alloc o) v p :=
  h.keep (h.st.cur.alloc o) ((Kept.refl c wr).alloc o)
theorem LLit.add {w : World} {c lit k : Nat} {W w' : World} {v v' : Value} {p q : List Lab} {n m : Nat} {xs ys : List Value} (h : LLit w c lit k W v p) (hn : n = p.length) (hm : m = q.length) (hx : xs = flat p) (hy : ys = flat q) (hf : Small q) (hq : 0 < q.length)
    (hown : w'.ownsRow w.heap.size 127 2 v' (n + m) (xs ++ ys)) (hg : W.grownBy w' v.ownBlock) (N : Nat) (hN : N = W.heap.size) (hat : v'.ownBlock = v.ownBlock ∨ v'.ownBlock = some N) : LLit w c lit k w' v' (p ++ q) := by
  subst hN
  refine ⟨h.st.add hn hm hx hy hf hq hown hg, h.row.grown hg (fun e => h.ne e.symm), ?_⟩
  rcases hat with hat | hat
  · rw [hat]; exact h.ne
  · rw [hat]; intro e; have hlt : lit < W.heap.size := h.row.2.2.1; cases e; omega

set_option maxHeartbeats 1600000 in
theorem l2Draw_any (c : Nat) (w : World) (hc : Cur w c) :
    Calls Tryz.prog 104 #[.pointer (some ⟨c, 0, none⟩)] w fun e w' => ∃ v, e = .returned v ∧ ∃ p, LSt w c w' v p ∧ 1 ≤ p.length ∧ p.length ≤ 4 := by
  have HC : Hid (Cur w c) := hc
  have HL : Hid (c < w.heap.size) := hc.lt
  clear hc
  obtain ⟨i0, hi, hz0, hz1, hz2⟩ := info_parts infoL
  go_enter Tryz.func104, Tryz.ntmps104
  go_wp2_with fail
  refine (str_any c w.heap.size 0 3 3 _ (HC.out.alloc _) ?_ (by decide) (by decide)).mono ?_
  · exact row_lit (by decide) rfl HL.out
  rintro e w1 ⟨⟨s, rfl, hs⟩, hc1, hk1⟩
  have HK1 : Hid (Kept c w w1) := ((Kept.refl c w).alloc _).trans hk1
  have HC1 : Hid (Cur w1 c) := hc1
  clear hc1 hk1
  go_wp2_with fail
  go_loopw [3, 13] (fun v i wr => ∃ (k : Nat) (p : List Lab), k ≤ 3 ∧ i = .int .i64 k ∧ 1 ≤ p.length ∧ p.length ≤ k + 1 ∧ LLit w c (w1.heap.size + 1) 3 wr v p) (fun _ i _ => 3 - (intOf i).toNat)
  case atStart =>
    refine ⟨0, [(⟨#[97, 112, 112]⟩, s)], by omega, rfl, by simp, by simp, ⟨(lst_one (x := (⟨#[97, 112, 112]⟩, s)) HC1.out HK1.out HL.out ⟨show (ByteArray.mk #[97, 112, 112]).size ≤ 100 by decide, hs⟩).alloc _, ?_, by simp [Value.ownBlock]⟩⟩
    refine row_lit_at (p := isStr) ?_ rfl ?_ (by simp)
    · decide
    · have := HK1.out.size; have := HL.out; simp; omega
  case round =>
    obtain ⟨k, p, hk, rfl, hp1, hp2, hst⟩ := hrel
    have HS : Hid (LLit w c (w1.heap.size + 1) 3 wr u3 p) := hst
    clear hst
    by_cases hlt : k < 3
    · have hlt' : (k : Int) < 3 := by omega
      obtain ⟨v, hv, hp⟩ := HS.out.row.2.2.2 k hlt
      obtain ⟨t, rfl, ht⟩ := str_of hp
      have hv' : wr.cell? ⟨w1.heap.size + 1, k, none⟩ = some (.string t) := by simpa using hv
      clear hv hp
      go_wp2_with fail
      refine (once_any _ 4 _ HS.out.st.cur (by decide) (by decide)).mono ?_
      rintro e w2 ⟨⟨b, rfl⟩, hc2, hk2⟩
      have HS2 : Hid (LLit w c (w1.heap.size + 1) 3 w2 u3 p) := HS.out.keep hc2 hk2
      clear hc2 hk2 hv'
      cases b with
      | true =>
        go_wp2_with fail
        refine (str_any c w2.heap.size 0 2 2 _ (HS2.out.st.cur.alloc _) ?_ (by decide) (by decide)).mono ?_
        · exact row_lit (by decide) rfl HS2.out.st.cur.lt
        rintro e w3 ⟨⟨y, rfl, hy⟩, hc3, hk3⟩
        have HS3 : Hid (LLit w c (w1.heap.size + 1) 3 w3 u3 p) := (HS2.out.alloc _).keep hc3 hk3
        clear hc3 hk3
        go_wp2_with (at_builtin; refine wpList_append_own_at _ rfl _ _ 27 rfl w.heap.size 127 i0 (.agg #[.string ByteArray.empty, .string ByteArray.empty]) 2 32 Tryz.underlying27 hi hz0 hz1 hz2 rfl (by decide) _ _ _ rfl (HS3.out.alloc _).st.own ⟨w3.heap.size, 0, none⟩ 1 1 [.string t, .string y] rfl rfl ?c1 ?c2 ?c3 ?c4 ?c5 ?_)
        case c1 => exact blk_news (Blk.new _ _ _)
        case c2 => exact flat_one [(t, y)]
        case c3 => unfold maxLen; omega
        case c4 => omega
        case c5 => have := HS3.out.st.kept.size; simp; omega
        intro v' w4 hown hg _ hat
        have HS4 : Hid (LLit w c (w1.heap.size + 1) 3 w4 v' (p ++ [(t, y)])) := (HS3.out.alloc _).add (q := [(t, y)]) rfl rfl rfl rfl (small_one ht hy) (by simp) hown hg _ (by simp) hat
        clear hown hg hat
        go_wp2
        go_roundw
        case rel => exact ⟨k + 1, p ++ [(t, y)], by omega, by go_num, by simp, by simp; omega, HS4.out⟩
        case measure => simp [intOf]; omega
      | false =>
        go_wp2
        go_roundw
        case rel => exact ⟨k + 1, p, by omega, by go_num, hp1, by omega, HS2.out⟩
        case measure => simp [intOf]; omega
    · have hge : ¬ (k : Int) < 3 := by omega
      go_wp2
      go_ret
      exact ⟨_, rfl, p, HS.out.st, hp1, by omega⟩

theorem grown_set (w : World) (g i : Nat) (v : Value) : w.grownBy (w.setCell ⟨g, i, none⟩ v) (some g) :=
  ⟨rfl, rfl, rfl, by simp [World.setCell], fun k _ hne => Below.heap_setCell _ _ _ _ (fun e => hne (by rw [e]))⟩
theorem LSt.put {w : World} {c : Nat} {wr : World} {g cap n : Nat} {p : List Lab} (h : LSt w c wr (.slice (some ⟨g, 0, none⟩) n cap) p) (hp : 0 < p.length) (s : ByteArray) (hs : s.size ≤ 100) :
    LSt w c (wr.setCell ⟨g, 1, none⟩ (.string s)) (.slice (some ⟨g, 0, none⟩) n cap) (((nth p 0).1, s) :: p.tail) := by
  obtain ⟨x, q, rfl⟩ : ∃ x q, p = x :: q := by cases p with | nil => simp at hp | cons x q => exact ⟨x, q, rfl⟩
  have hgl := h.blk
  have hgc : c ≠ g := by have := h.clt; omega
  refine ⟨⟨by simp [flat_len], ?_⟩, h.lies, ?_, ?_, h.clt, ?_⟩
  · rcases h.own.2 with ⟨e, _⟩ | ⟨g', cap', cur, e, hb, hg, hn, hcm, hcs, ht⟩
    · cases e
    · cases e
      refine .inr ⟨g, cap, cur.setIfInBounds 1 (.string s), rfl, hb, ?_, hn, hcm, by simpa using hcs, ?_⟩
      · exact Blk.set (T := 127) hg 1 (.string s)
      · rw [Array.toList_setIfInBounds, List.take_set]
        show (List.take ((x :: q).length * 2) cur.toList).set 1 (.string s) = flat ((x.1, s) :: q)
        rw [ht]
        rfl
  · exact h.cur.grown (grown_set wr g 1 _) (fun k hk => by cases hk; have := h.clt; omega)
  · exact kept_grown (B := 0) h.kept (grown_set wr g 1 _) (fun k hk => by cases hk; exact hgl.1)
  · intro y hy
    rcases List.mem_cons.1 hy with rfl | hy
    · exact ⟨(h.fit x (by simp)).1, hs⟩
    · exact h.fit y (by simp [show y ∈ q from hy])
theorem LSt.none_new {w : World} {c : Nat} {W : World} (hc : Cur W c) (hk : Kept c w W) (hcl : c < w.heap.size) : LSt w c (W.alloc (.cells #[] 127)) (.slice (some ⟨W.heap.size, 0, none⟩) 0 0) [] :=
  ⟨own_empty (Blk.new _ _ _) hk.size, ⟨_, _, rfl⟩, hc.alloc _, hk.alloc _, hcl, small_nil⟩

theorem LSt.ahead {w : World} {c : Nat} {W w' : World} {v v' : Value} {x : Lab} {p : List Lab} {xs ys : List Value} {n m : Nat} (h : LSt w c W v p) {u : Value} (hu : W.ownsRow w.heap.size 127 2 u n xs) (hn : n = 1) (hm : m = p.length) (hx : xs = flat [x]) (hy : ys = flat p) (hs : Small [x])
    (hown : w'.ownsRow w.heap.size 127 2 v' (n + m) (xs ++ ys)) (hg : W.grownBy w' u.ownBlock) : LSt w c w' v' (x :: p) := by
  subst hn hm hx hy
  have ho : w'.ownsRow w.heap.size 127 2 v' (x :: p).length (flat (x :: p)) := by
    rw [List.length_cons, Nat.add_comm]; exact hown
  exact ⟨ho, own_form ho (by simp), h.cur.grown hg (fun k hk => by have := (hu.lt k hk).1; have := h.clt; omega), kept_grown (B := 0) h.kept hg (fun k hk => (hu.lt k hk).1), h.clt, by
    intro y hy
    rcases List.mem_cons.1 hy with rfl | hy
    · exact hs _ (by simp)
    · exact h.fit y hy⟩
theorem LSt.src {w : World} {c : Nat} {wr : World} {g cap n : Nat} {p : List Lab} (h : LSt w c wr (.slice (some ⟨g, 0, none⟩) n cap) p) : ∀ j u, (flat p)[j]? = some u → wr.cell? ((⟨g, 0, none⟩ : Addr).add j) = some u := h.own.cells (g := g) rfl

set_option maxHeartbeats 1600000 in
theorem l2Any_any (c : Nat) (w : World) (hc : Cur w c) :
    Calls Tryz.prog 177 #[.pointer (some ⟨c, 0, none⟩)] w fun e w' => ∃ v, e = .returned v ∧ ∃ p, LSt w c w' v p ∧ p.length ≤ 8 := by
  have HC : Hid (Cur w c) := hc
  have HL : Hid (c < w.heap.size) := hc.lt
  clear hc
  obtain ⟨i0, hi, hz0, hz1, hz2⟩ := info_parts infoL
  go_enter Tryz.func177, Tryz.ntmps177
  go_wp2_with fail
  refine (l2Draw_any c w HC.out).mono ?_
  rintro e w1 ⟨v, rfl, p, hst, hp1, hp2⟩
  obtain ⟨g, cap, rfl⟩ := hst.lies
  have HS1 : Hid (LSt w c w1 (.slice (some ⟨g, 0, none⟩) p.length cap) p) := hst
  clear hst
  go_wp2_with fail
  refine (below_any c 10 _ HS1.out.cur (by decide) (by decide)).mono ?_
  rintro e w2 ⟨⟨x, rfl, hx0, hx1⟩, hc2, hk2⟩
  have HS2 : Hid (LSt w c w2 (.slice (some ⟨g, 0, none⟩) p.length cap) p) := HS1.out.keep hc2 hk2
  clear hc2 hk2
  by_cases e0 : x = 0
  · subst e0
    go_wp2_with fail
    refine (anyName_any c _ HS2.out.cur).mono ?_
    rintro e w3 ⟨⟨s, rfl, hs⟩, hc3, hk3⟩
    have HS3 : Hid (LSt w c w3 (.slice (some ⟨g, 0, none⟩) p.length cap) p) := HS2.out.keep hc3 hk3
    clear hc3 hk3
    go_wp2_with fail
    refine (anyPlain_any c _ HS3.out.cur).mono ?_
    rintro e w4 ⟨⟨t, rfl, ht⟩, hc4, hk4⟩
    have HS4 : Hid (LSt w c w4 (.slice (some ⟨g, 0, none⟩) p.length cap) p) := HS3.out.keep hc4 hk4
    clear hc4 hk4
    go_wp2_with (at_builtin; refine wpList_append_own_at _ rfl _ _ 27 rfl w.heap.size 127 i0 (.agg #[.string ByteArray.empty, .string ByteArray.empty]) 2 32 Tryz.underlying27 hi hz0 hz1 hz2 rfl (by decide) _ _ _ rfl (HS4.out.alloc _).own ⟨w4.heap.size, 0, none⟩ 1 1 [.string s, .string t] rfl rfl ?c1 ?c2 ?c3 ?c4 ?c5 ?_)
    case c1 => exact blk_news (Blk.new _ _ _)
    case c2 => exact flat_one [(s, t)]
    case c3 => unfold maxLen; omega
    case c4 => omega
    case c5 => have := HS4.out.kept.size; simp; omega
    intro v' w5 hown hg _ hat
    have HS5 : Hid (LSt w c w5 v' (p ++ [(s, t)])) := (HS4.out.alloc _).add (q := [(s, t)]) rfl rfl rfl rfl (small_one hs ht) (by simp) hown hg
    clear hown hg hat
    go_wp2
    go_ret
    exact ⟨_, rfl, _, HS5.out, by simp; omega⟩
  have d0 : (x == 0) = false := by simpa using e0
  by_cases e1 : x = 1
  · subst e1
    have HB : Hid (Blk (w2.alloc (.cells #[.string ⟨#[122, 122]⟩, .string ⟨#[49]⟩] 127)) w2.heap.size #[.string ⟨#[122, 122]⟩, .string ⟨#[49]⟩] 127) := Blk.new _ _ _
    have HO : Hid ((w2.alloc (.cells #[.string ⟨#[122, 122]⟩, .string ⟨#[49]⟩] 127)).ownsRow w.heap.size 127 2 (.slice (some ⟨w2.heap.size, 0, none⟩) 1 1) 1 (flat [(⟨#[122, 122]⟩, ⟨#[49]⟩)])) := own_one (x := (⟨#[122, 122]⟩, ⟨#[49]⟩)) HB.out HS2.out.kept.size
    go_wp2_with (at_builtin; refine wpList_append_own_at _ rfl _ _ 27 rfl w.heap.size 127 i0 (.agg #[.string ByteArray.empty, .string ByteArray.empty]) 2 32 Tryz.underlying27 hi hz0 hz1 hz2 rfl (by decide) _ _ _ rfl HO.out ⟨g, 0, none⟩ p.length cap (flat p) rfl (flat_len p) ?c1 (flat_one p) ?c3 ?c4 ?c5 ?_)
    case c1 => exact (HS2.out.alloc _).src
    case c3 => unfold maxLen; omega
    case c4 => omega
    case c5 => have := HS2.out.kept.size; simp; omega
    intro v' w3 hown hg _ hat
    have HS3 : Hid (LSt w c w3 v' ((⟨#[122, 122]⟩, ⟨#[49]⟩) :: p)) := (HS2.out.alloc _).ahead HO.out rfl rfl rfl rfl (small_one (by decide) (by decide)) hown hg
    clear hown hg hat HO HB
    go_wp2
    go_ret
    exact ⟨_, rfl, _, HS3.out, by simp; omega⟩
  have d1 : (x == 1) = false := by simpa using e1
  by_cases e2 : x = 2
  · subst e2
    obtain ⟨c0, c1⟩ := HS2.out.cells (m := 0) (by omega)
    have hpl : (0 : Int) < (p.length : Int) := by omega
    simp only [Nat.zero_mul, Nat.zero_add] at c0 c1
    go_wp2_with (at_builtin; refine wpList_append_own_at _ rfl _ _ 27 rfl w.heap.size 127 i0 (.agg #[.string ByteArray.empty, .string ByteArray.empty]) 2 32 Tryz.underlying27 hi hz0 hz1 hz2 rfl (by decide) _ _ _ rfl (HS2.out.alloc _).own ⟨w2.heap.size, 0, none⟩ 1 1 [.string (nth p 0).1, .string (nth p 0).2] rfl rfl ?c1 ?c2 ?c3 ?c4 ?c5 ?_)
    case c1 => exact blk_news (Blk.new _ _ _)
    case c2 => exact flat_one [nth p 0]
    case c3 => unfold maxLen; omega
    case c4 => omega
    case c5 => have := HS2.out.kept.size; simp; omega
    intro v' w3 hown hg _ hat
    have HS3 : Hid (LSt w c w3 v' (p ++ [nth p 0])) := (HS2.out.alloc _).add (q := [nth p 0]) rfl rfl rfl rfl (fun y hy => by
      have e : y = nth p 0 := by simpa using hy
      rw [e]; exact HS2.out.fit _ (by rw [nth_eq (by omega)]; exact List.getElem_mem _)) (by simp) hown hg
    clear hown hg hat c0 c1
    go_wp2
    go_ret
    exact ⟨_, rfl, _, HS3.out, by simp; omega⟩
  have d2 : (x == 2) = false := by simpa using e2
  by_cases e3 : x = 3
  · subst e3
    go_wp2_with (at_builtin; refine wpList_append_own_at _ rfl _ _ 27 rfl w.heap.size 127 i0 (.agg #[.string ByteArray.empty, .string ByteArray.empty]) 2 32 Tryz.underlying27 hi hz0 hz1 hz2 rfl (by decide) _ _ _ rfl (HS2.out.alloc _).own ⟨w2.heap.size, 0, none⟩ 4 4 (flat [(⟨#[122, 117]⟩, ByteArray.empty), (⟨#[122, 118]⟩, ByteArray.empty), (⟨#[122, 119]⟩, ByteArray.empty), (⟨#[122, 120]⟩, ByteArray.empty)]) rfl rfl ?c1 (flat_one _) ?c3 ?c4 ?c5 ?_)
    case c1 => exact blk_news (Blk.new _ _ _)
    case c3 => unfold maxLen; omega
    case c4 => omega
    case c5 => have := HS2.out.kept.size; simp; omega
    intro v' w3 hown hg _ hat
    have HS3 : Hid (LSt w c w3 v' (p ++ [(⟨#[122, 117]⟩, ByteArray.empty), (⟨#[122, 118]⟩, ByteArray.empty), (⟨#[122, 119]⟩, ByteArray.empty), (⟨#[122, 120]⟩, ByteArray.empty)])) := (HS2.out.alloc _).add (q := [(⟨#[122, 117]⟩, ByteArray.empty), (⟨#[122, 118]⟩, ByteArray.empty), (⟨#[122, 119]⟩, ByteArray.empty), (⟨#[122, 120]⟩, ByteArray.empty)]) rfl rfl rfl rfl (fun y hy => by
      simp only [List.mem_cons, List.not_mem_nil, or_false] at hy
      rcases hy with rfl | rfl | rfl | rfl <;> exact ⟨by decide, by decide⟩) (by simp) hown hg
    clear hown hg hat
    go_wp2
    go_ret
    exact ⟨_, rfl, _, HS3.out, by simp; omega⟩
  have d3 : (x == 3) = false := by simpa using e3
  by_cases e4 : x = 4
  · subst e4
    go_wp2_with fail
    refine (anyPlain_any c _ HS2.out.cur).mono ?_
    rintro e w3 ⟨⟨t, rfl, ht⟩, hc3, hk3⟩
    have hS3 : LSt w c w3 (.slice (some ⟨g, 0, none⟩) p.length cap) p := HS2.out.keep hc3 hk3
    have HS3 : Hid (LSt w c w3 (.slice (some ⟨g, 0, none⟩) p.length cap) p) := hS3
    obtain ⟨c0, c1⟩ := hS3.cells (m := 0) (by omega)
    have hpl : (0 : Int) < (p.length : Int) := by omega
    simp only [Nat.zero_mul, Nat.zero_add] at c0 c1
    have f1 : w3.frozen? ⟨g, 1, none⟩ = false := hS3.warm 1
    have HS4 : Hid (LSt w c (w3.setCell ⟨g, 1, none⟩ (.string t)) (.slice (some ⟨g, 0, none⟩) p.length cap) (((nth p 0).1, t) :: p.tail)) := hS3.put (by omega) t ht
    clear hc3 hk3 hS3
    go_wp2
    go_ret
    exact ⟨_, rfl, _, HS4.out, by simp; omega⟩
  have d4 : (x == 4) = false := by simpa using e4
  by_cases e5 : x = 5
  · subst e5
    go_wp2
    go_ret
    exact ⟨_, rfl, _, LSt.none_new HS2.out.cur HS2.out.kept HL.out, by simp⟩
  have d5 : (x == 5) = false := by simpa using e5
  go_wp2
  go_ret
  exact ⟨_, rfl, _, HS2.out, by omega⟩
end Go.Proofs.YtooninmicfcfoaaGreat.DrawL
namespace Go.Proofs.YtooninmicfcfoaaGreat.DrawT
open Go.RowKit
open Draw
open Labs LabS Over DrawL

theorem small_fits {p : List Lab} (h : Small p) : ∀ i, i < p.length → (nth p i).1.size ≤ maxLen ∧ (nth p i).2.size ≤ maxLen := fun i hi => by
  rw [nth_eq hi]
  have := h _ (List.getElem_mem hi)
  unfold maxLen
  exact ⟨by omega, by omega⟩
end Go.Proofs.YtooninmicfcfoaaGreat.DrawT
namespace Go.Proofs.YtooninmicfcfoaaGreat.DrawA
open Go.RowKit
open Draw
open Labs LabS LabR Over Blk App DrawL DrawT Alm AlmM
open LabT (infoL Held held_reads)

theorem blk_kept {c M : Nat} {w w' : World} {cs : Array Value} {T : TypeId} (h : Blk w M cs T) (hk : Kept c w w') (hne : M ≠ c) : Blk w' M cs T := by
  have hl := h.lt
  unfold Blk at *
  rw [hk.block M hl hne]; exact h
theorem lst_base {w W wr : World} {c : Nat} {v : Value} {p : List Lab} (h : LSt W c wr v p) (hk : Kept c w W) (hc : c < w.heap.size) : LSt w c wr v p :=
  ⟨Go.Joins.ownsRow_le h.own hk.size, h.lies, h.cur, hk.trans h.kept, hc, h.fit⟩
theorem lst_other {w wr : World} {c : Nat} {v : Value} {p : List Lab} (h : LSt w c wr v p) {B : Nat} (hB : w.heap.size ≤ B) (hne : v.ownBlock ≠ some B) (i : Nat) (u : Value) : LSt w c (wr.setCell ⟨B, i, none⟩ u) v p :=
  ⟨h.own.kept (grown_set wr B i u) (.inr hne), h.lies, h.cur.grown (grown_set wr B i u) (fun k hk => by cases hk; have := h.clt; omega), kept_grown (B := 0) h.kept (grown_set wr B i u) (fun k hk => by cases hk; exact hB), h.clt, h.fit⟩
theorem lst_other4 {w wr : World} {c : Nat} {v : Value} {p : List Lab} (h : LSt w c wr v p) {B : Nat} (hB : w.heap.size ≤ B) (hne : v.ownBlock ≠ some B) (u0 u1 u2 u3 : Value) : LSt w c ((((wr.setCell ⟨B, 0, none⟩ u0).setCell ⟨B, 1, none⟩ u1).setCell ⟨B, 2, none⟩ u2).setCell ⟨B, 3, none⟩ u3) v p :=
  lst_other (lst_other (lst_other (lst_other h hB hne 0 u0) hB hne 1 u1) hB hne 2 u2) hB hne 3 u3
theorem own_ne {g n c B : Nat} (h : g ≠ B) : (Value.slice (some ⟨g, 0, none⟩) n c).ownBlock ≠ some B := fun e => h (Option.some.inj e)
theorem wrapB (x : Int) : -9223372036854775808 ≤ IntKind.i64.wrap x ∧ IntKind.i64.wrap x ≤ 9223372036854775807 := by
  rw [IntKind.wrap_i64]; omega
def I64 (x : Int) : Prop := -9223372036854775808 ≤ x ∧ x ≤ 9223372036854775807

set_option maxRecDepth 100000 in
set_option maxHeartbeats 1600000 in
theorem l4Draw_any (c : Nat) (w : World) (hc : Cur w c) :
    Calls Tryz.prog 62 #[.pointer (some ⟨c, 0, none⟩)] w fun r w' => ∃ (g cap : Nat) (p : List Lab) (s e : Int) (n : ByteArray), r = .returned (.agg #[.slice (some ⟨g, 0, none⟩) p.length cap, .int .i64 s, .int .i64 e, .string n]) ∧ LSt w c w' (.slice (some ⟨g, 0, none⟩) p.length cap) p ∧ p.length ≤ 8 ∧ I64 s ∧ I64 e ∧ n.size ≤ 100 := by
  have HC : Hid (Cur w c) := hc
  have HL : Hid (c < w.heap.size) := hc.lt
  clear hc
  go_enter Tryz.func62, Tryz.ntmps62
  go_wp2_with fail
  refine (l2Draw_any c _ (HC.out.alloc _)).mono ?_
  rintro r w1 ⟨v, rfl, p, hst, hp1, hp2⟩
  obtain ⟨g, cap, rfl⟩ := hst.lies
  have HG : Hid (w.heap.size < g ∧ g < w1.heap.size) := by have := hst.blk; simp at this; exact ⟨by omega, this.2⟩
  have HR1 : Hid (Blk w1 w.heap.size #[.slice none 0 0, .int .i64 0, .int .i64 0, .string ⟨#[]⟩] 29) := blk_kept (Blk.new _ _ _) hst.kept (by have := HL.out; omega)
  have HS1 : Hid (LSt w c w1 (.slice (some ⟨g, 0, none⟩) p.length cap) p) := lst_base hst ((Kept.refl c w).alloc _) HL.out
  clear hst
  go_wp2_with fail
  refine (below_any c 8 _ HS1.out.cur (by decide) (by decide)).mono ?_
  rintro r w2 ⟨⟨s, rfl, hs0, hs1⟩, hc2, hk2⟩
  have HS2 : Hid (LSt w c w2 (.slice (some ⟨g, 0, none⟩) p.length cap) p) := HS1.out.keep hc2 hk2
  have HR2 : Hid (Blk w2 w.heap.size #[.slice none 0 0, .int .i64 0, .int .i64 0, .string ⟨#[]⟩] 29) := blk_kept HR1.out hk2 (by have := HL.out; omega)
  have HZ2 : Hid (w1.heap.size ≤ w2.heap.size) := hk2.size
  clear hc2 hk2
  go_wp2_with fail
  refine (plainS_any c _ HS2.out.cur).mono ?_
  rintro r w3 ⟨⟨n, rfl, hn⟩, hc3, hk3⟩
  have HS3 : Hid (LSt w c w3 (.slice (some ⟨g, 0, none⟩) p.length cap) p) := HS2.out.keep hc3 hk3
  have HR3 : Hid (Blk w3 w.heap.size #[.slice none 0 0, .int .i64 0, .int .i64 0, .string ⟨#[]⟩] 29) := blk_kept HR2.out hk3 (by have := HL.out; omega)
  have HN : Hid (w.heap.size < w3.heap.size ∧ g < w3.heap.size ∧ c < w3.heap.size) := by
    have h1 := HG.out; have h2 := HZ2.out; have h3 := hk3.size; have h4 := HL.out
    exact ⟨by omega, by omega, by omega⟩
  clear hc3 hk3 HS1 HS2 HR1 HR2 HZ2
  go_wp2
  generalize hz : w3.alloc (.cells #[.slice (some ⟨g, 0, none⟩) p.length cap, .int .i64 s, .int .i64 0, .string n] 29) = z
  have HSz : Hid (LSt w c z (.slice (some ⟨g, 0, none⟩) p.length cap) p) := by rw [← hz]; exact HS3.out.alloc _
  have HRz : Hid (Blk z w.heap.size #[.slice none 0 0, .int .i64 0, .int .i64 0, .string ⟨#[]⟩] 29) := by rw [← hz]; exact HR3.out.alloc _
  have HAz : Hid (Blk z w3.heap.size #[.slice (some ⟨g, 0, none⟩) p.length cap, .int .i64 s, .int .i64 0, .string n] 29) := by rw [← hz]; exact Blk.new _ _ _
  clear hz HS3 HR3
  generalize w3.heap.size = A at HN HAz ⊢
  have a1 : z.cell? ⟨A, 1, none⟩ = some (.int .i64 s) := HAz.out.cell 1
  have HK : Hid (∀ (o : Obj) (w4 : World), Cur w4 c → Kept c (z.alloc o) w4 → LSt w c w4 (.slice (some ⟨g, 0, none⟩) p.length cap) p ∧ Blk w4 A #[.slice (some ⟨g, 0, none⟩) p.length cap, .int .i64 s, .int .i64 0, .string n] 29 ∧ Blk w4 w.heap.size #[.slice none 0 0, .int .i64 0, .int .i64 0, .string ⟨#[]⟩] 29) := fun o w4 hc h => by
    have h0 := HN.out; have h1 := HL.out
    exact ⟨(HSz.out.alloc o).keep hc h, blk_kept (HAz.out.alloc o) h (by omega), blk_kept (HRz.out.alloc o) h (by omega)⟩
  have HCz : Hid (Cur z c) := HSz.out.cur
  have HI : Hid (Calls Tryz.prog 77 #[.pointer (some ⟨c, 0, none⟩), .slice (some ⟨z.heap.size, 0, none⟩) 5 5] (z.alloc (.cells #[.int .i64 0, .int .i64 2, .int .i64 5, .int .i64 20, .int .i64 60] 3)).drew fun e w4 => (∃ x : Int, e = .returned (.int .i64 x) ∧ -9223372036854775808 ≤ x ∧ x ≤ 9223372036854775807) ∧ Cur w4 c ∧ Kept c (z.alloc (.cells #[.int .i64 0, .int .i64 2, .int .i64 5, .int .i64 20, .int .i64 60] 3)) w4) := by
    refine (int_any c z.heap.size 0 5 5 _ ?_ ?_ (by decide) (by decide)).mono fun e w4 h => ⟨h.1, h.2.1, ⟨h.2.2.os, h.2.2.tape, h.2.2.output, h.2.2.size, h.2.2.block⟩⟩
    · exact HCz.out.alloc _
    · exact row_lit (w := z) (by decide) rfl HCz.out.lt
  have kz : z.drew.cell? ⟨A, 1, none⟩ = some (.int .i64 s) := a1
  go_region_held3 (fun w' => w'.cell? ⟨A, 1, none⟩ = some (.int .i64 s)) (first | exact kz | exact Blk.cell (HAz.out.alloc _) 1 | exact hA4.cell 1 | exact (hA4.set 2 _).cell 1 | (go_keep; done)) (first
    | (go_at_call 77; (with_reducible refine HI.out.mono ?_); rintro r w4 ⟨⟨x, rfl, hx⟩, hc4, hk4⟩; (have hA3 := HK.out _ w4 hc4 hk4); (have hA4 := hA3.2.1); (have n2 : w4.cell? ⟨A, 2, none⟩ = some (.int .i64 0) := hA4.cell 2); (have f2 := hA4.frozen 2)))
  have HS4 : Hid (LSt w c w4 (.slice (some ⟨g, 0, none⟩) p.length cap) p) := hA3.1
  have hR := hA3.2.2
  have hA := hA4
  clear n2 f2 hA3 hA4 hc4 hk4 kz a1
  have HE : Hid (I64 (IntKind.i64.wrap (s + x))) := wrapB _
  generalize IntKind.i64.wrap (s + x) = y at HE ⊢
  have A0 : w4.cell? ⟨A, 0, none⟩ = some (.slice (some ⟨g, 0, none⟩) p.length cap) := hA.cell 0
  have A1 : w4.cell? ⟨A, 1, none⟩ = some (.int .i64 s) := hA.cell 1
  have A2 : w4.cell? ⟨A, 2, none⟩ = some (.int .i64 0) := hA.cell 2
  have A3 : w4.cell? ⟨A, 3, none⟩ = some (.string n) := hA.cell 3
  have fA0 := hA.frozen 0
  have fA1 := hA.frozen 1
  have fA2 := hA.frozen 2
  have fA3 := hA.frozen 3
  have R0 : w4.cell? ⟨w.heap.size, 0, none⟩ = some (.slice none 0 0) := hR.cell 0
  have R1 : w4.cell? ⟨w.heap.size, 1, none⟩ = some (.int .i64 0) := hR.cell 1
  have R2 : w4.cell? ⟨w.heap.size, 2, none⟩ = some (.int .i64 0) := hR.cell 2
  have R3 : w4.cell? ⟨w.heap.size, 3, none⟩ = some (.string ⟨#[]⟩) := hR.cell 3
  have fR0 := hR.frozen 0
  have fR1 := hR.frozen 1
  have fR2 := hR.frozen 2
  have fR3 := hR.frozen 3
  have d1 : ¬ A = w.heap.size := by have := HN.out; omega
  have d2 : ¬ w.heap.size = A := by have := HN.out; omega
  clear hA hR
  go_wp2
  refine bodyPost_ret (v := .agg #[.slice (some ⟨g, 0, none⟩) p.length cap, .int .i64 s, .int .i64 y, .string n]) (by simp [results, Tryz.results62, go_sem, R0, R1, R2, R3]) rfl ?_
  have h0 := HN.out; have h1 := HG.out; have h2 := HL.out
  exact ⟨g, cap, p, s, y, n, rfl, lst_other4 (lst_other HS4.out (by omega) (own_ne (by omega)) _ _) (Nat.le_refl _) (own_ne (by omega)) _ _ _ _, by omega, ⟨by omega, by omega⟩, HE.out, hn⟩

set_option maxRecDepth 100000 in
set_option maxHeartbeats 3200000 in
theorem l4Any_any (c : Nat) (w : World) (hc : Cur w c) :
    Calls Tryz.prog 157 #[.pointer (some ⟨c, 0, none⟩)] w fun r w' => ∃ (g cap : Nat) (p : List Lab) (s e : Int) (n : ByteArray), r = .returned (.agg #[.slice (some ⟨g, 0, none⟩) p.length cap, .int .i64 s, .int .i64 e, .string n]) ∧ LSt w c w' (.slice (some ⟨g, 0, none⟩) p.length cap) p ∧ p.length ≤ 8 ∧ I64 s ∧ I64 e ∧ n.size ≤ 100 := by
  have HC : Hid (Cur w c) := hc
  have HL : Hid (c < w.heap.size) := hc.lt
  clear hc
  go_enter Tryz.func157, Tryz.ntmps157
  go_wp2_with fail
  refine (l4Draw_any c _ (HC.out.alloc _)).mono ?_
  rintro r w1 ⟨g, cap, p, s, e, n, rfl, hst, hp, hs, he, hn⟩
  have HG : Hid (w.heap.size < g ∧ g < w1.heap.size) := by have := hst.blk; simp at this; exact ⟨by omega, this.2⟩
  have HR1 : Hid (Blk w1 w.heap.size #[.slice none 0 0, .int .i64 0, .int .i64 0, .string ⟨#[]⟩] 29) := blk_kept (Blk.new _ _ _) hst.kept (by have := HL.out; omega)
  have HS1 : Hid (LSt w c w1 (.slice (some ⟨g, 0, none⟩) p.length cap) p) := lst_base hst ((Kept.refl c w).alloc _) HL.out
  have HI : Hid (p.length ≤ 8 ∧ I64 s ∧ I64 e ∧ n.size ≤ 100) := ⟨hp, hs, he, hn⟩
  clear hst hp hs he hn
  go_wp2_with fail
  refine (below_any c 12 _ (HS1.out.cur.alloc _) (by decide) (by decide)).mono ?_
  rintro r w2 ⟨⟨x, rfl, hx0, hx1⟩, hc2, hk2⟩
  have HN : Hid (w.heap.size < g ∧ g < w1.heap.size ∧ w1.heap.size < w2.heap.size) := by
    have h1 := HG.out; have h2 := hk2.size; simp at h2
    exact ⟨by omega, by omega, by omega⟩
  have HS2 : Hid (LSt w c w2 (.slice (some ⟨g, 0, none⟩) p.length cap) p) := (HS1.out.alloc _).keep hc2 hk2
  have HA2 : Hid (Blk w2 w1.heap.size #[.slice (some ⟨g, 0, none⟩) p.length cap, .int .i64 s, .int .i64 e, .string n] 29) := blk_kept (Blk.new _ _ _) hk2 (by have := HL.out; have := HN.out; omega)
  have HR2 : Hid (Blk w2 w.heap.size #[.slice none 0 0, .int .i64 0, .int .i64 0, .string ⟨#[]⟩] 29) := blk_kept (HR1.out.alloc _) hk2 (by have := HL.out; omega)
  clear hc2 hk2 HS1 HR1 HG
  generalize w1.heap.size = A at HN HA2 ⊢
  have HAc : Hid (A ≠ c ∧ w.heap.size ≠ c) := by have := HL.out; have := HN.out; exact ⟨by omega, by omega⟩
  by_cases e0 : x = 0
  · subst e0
    go_wp2_with fail
    refine (l2Any_any c _ HS2.out.cur).mono ?_
    rintro r w3 ⟨v, rfl, q, hst, hq⟩
    obtain ⟨g', cap', rfl⟩ := hst.lies
    have HG' : Hid (A < g') := by have := hst.blk; have := HN.out; show A < g'; omega
    have hA := blk_kept HA2.out hst.kept HAc.out.1
    have hR := blk_kept HR2.out hst.kept HAc.out.2
    have HS3 : Hid (LSt w c w3 (.slice (some ⟨g', 0, none⟩) q.length cap') q) := lst_base hst HS2.out.kept HL.out
    clear hst
    have A0 : w3.cell? ⟨A, 0, none⟩ = some (.slice (some ⟨g, 0, none⟩) p.length cap) := hA.cell 0
    have A1 : w3.cell? ⟨A, 1, none⟩ = some (.int .i64 s) := hA.cell 1
    have A2 : w3.cell? ⟨A, 2, none⟩ = some (.int .i64 e) := hA.cell 2
    have A3 : w3.cell? ⟨A, 3, none⟩ = some (.string n) := hA.cell 3
    have fA0 := hA.frozen 0
    have fA1 := hA.frozen 1
    have fA2 := hA.frozen 2
    have fA3 := hA.frozen 3
    have R0 : w3.cell? ⟨w.heap.size, 0, none⟩ = some (.slice none 0 0) := hR.cell 0
    have R1 : w3.cell? ⟨w.heap.size, 1, none⟩ = some (.int .i64 0) := hR.cell 1
    have R2 : w3.cell? ⟨w.heap.size, 2, none⟩ = some (.int .i64 0) := hR.cell 2
    have R3 : w3.cell? ⟨w.heap.size, 3, none⟩ = some (.string ⟨#[]⟩) := hR.cell 3
    have fR0 := hR.frozen 0
    have fR1 := hR.frozen 1
    have fR2 := hR.frozen 2
    have fR3 := hR.frozen 3
    have d1 : ¬ A = w.heap.size := by have := HN.out; omega
    have d2 : ¬ w.heap.size = A := by have := HN.out; omega
    clear hA hR
    go_wp2
    refine bodyPost_ret (v := .agg #[.slice (some ⟨g', 0, none⟩) q.length cap', .int .i64 s, .int .i64 e, .string n]) (by simp [results, Tryz.results157, go_sem, R0, R1, R2, R3]) rfl ?_
    have h0 := HN.out; have h3 := HG'.out; have h2 := HL.out
    exact ⟨g', cap', q, s, e, n, rfl, lst_other4 (lst_other HS3.out (by omega) (own_ne (by have := HG'.out; omega)) _ _) (Nat.le_refl _) (own_ne (by omega)) _ _ _ _, hq, HI.out.2.1, HI.out.2.2.1, HI.out.2.2.2⟩
  have d0' : (x == 0) = false := by simpa using e0
  by_cases e1 : x = 1
  · subst e1
    go_wp2_with fail
    refine (int_any c _ _ _ _ _ ?hc ?hr ?h1 ?h2).mono ?_
    case hc => exact HS2.out.cur.alloc _
    case hr => exact row_lit (by decide) rfl HS2.out.cur.lt
    case h1 => decide
    case h2 => decide
    rintro r w3 ⟨⟨y, rfl, hy⟩, hc3, hk3⟩
    have HY : Hid (I64 y) := hy
    have hA := blk_kept (HA2.out.alloc _) hk3 HAc.out.1
    have hR := blk_kept (HR2.out.alloc _) hk3 HAc.out.2
    have HS3 : Hid (LSt w c w3 (.slice (some ⟨g, 0, none⟩) p.length cap) p) := (HS2.out.alloc _).keep hc3 hk3
    clear hc3 hk3 hy
    have A0 : w3.cell? ⟨A, 0, none⟩ = some (.slice (some ⟨g, 0, none⟩) p.length cap) := hA.cell 0
    have A1 : w3.cell? ⟨A, 1, none⟩ = some (.int .i64 s) := hA.cell 1
    have A2 : w3.cell? ⟨A, 2, none⟩ = some (.int .i64 e) := hA.cell 2
    have A3 : w3.cell? ⟨A, 3, none⟩ = some (.string n) := hA.cell 3
    have fA0 := hA.frozen 0
    have fA1 := hA.frozen 1
    have fA2 := hA.frozen 2
    have fA3 := hA.frozen 3
    have R0 : w3.cell? ⟨w.heap.size, 0, none⟩ = some (.slice none 0 0) := hR.cell 0
    have R1 : w3.cell? ⟨w.heap.size, 1, none⟩ = some (.int .i64 0) := hR.cell 1
    have R2 : w3.cell? ⟨w.heap.size, 2, none⟩ = some (.int .i64 0) := hR.cell 2
    have R3 : w3.cell? ⟨w.heap.size, 3, none⟩ = some (.string ⟨#[]⟩) := hR.cell 3
    have fR0 := hR.frozen 0
    have fR1 := hR.frozen 1
    have fR2 := hR.frozen 2
    have fR3 := hR.frozen 3
    have d1 : ¬ A = w.heap.size := by have := HN.out; omega
    have d2 : ¬ w.heap.size = A := by have := HN.out; omega
    clear hA hR
    go_wp2
    refine bodyPost_ret (v := .agg #[.slice (some ⟨g, 0, none⟩) p.length cap, .int .i64 y, .int .i64 e, .string n]) (by simp [results, Tryz.results157, go_sem, R0, R1, R2, R3]) rfl ?_
    have h0 := HN.out; have h2 := HL.out
    exact ⟨g, cap, p, y, e, n, rfl, lst_other4 (lst_other HS3.out (by omega) (own_ne (by omega)) _ _) (Nat.le_refl _) (own_ne (by omega)) _ _ _ _, HI.out.1, HY.out, HI.out.2.2.1, HI.out.2.2.2⟩
  have d1' : (x == 1) = false := by simpa using e1
  by_cases e2 : x = 2
  · subst e2
    go_wp2_with fail
    refine (raw_any c _ HS2.out.cur).mono ?_
    rintro r w3 ⟨⟨y, rfl, hy⟩, hc3, hk3⟩
    have HY : Hid (I64 y) := hy
    have hA := blk_kept HA2.out hk3 HAc.out.1
    have hR := blk_kept HR2.out hk3 HAc.out.2
    have HS3 : Hid (LSt w c w3 (.slice (some ⟨g, 0, none⟩) p.length cap) p) := HS2.out.keep hc3 hk3
    clear hc3 hk3 hy
    have A0 : w3.cell? ⟨A, 0, none⟩ = some (.slice (some ⟨g, 0, none⟩) p.length cap) := hA.cell 0
    have A1 : w3.cell? ⟨A, 1, none⟩ = some (.int .i64 s) := hA.cell 1
    have A2 : w3.cell? ⟨A, 2, none⟩ = some (.int .i64 e) := hA.cell 2
    have A3 : w3.cell? ⟨A, 3, none⟩ = some (.string n) := hA.cell 3
    have fA0 := hA.frozen 0
    have fA1 := hA.frozen 1
    have fA2 := hA.frozen 2
    have fA3 := hA.frozen 3
    have R0 : w3.cell? ⟨w.heap.size, 0, none⟩ = some (.slice none 0 0) := hR.cell 0
    have R1 : w3.cell? ⟨w.heap.size, 1, none⟩ = some (.int .i64 0) := hR.cell 1
    have R2 : w3.cell? ⟨w.heap.size, 2, none⟩ = some (.int .i64 0) := hR.cell 2
    have R3 : w3.cell? ⟨w.heap.size, 3, none⟩ = some (.string ⟨#[]⟩) := hR.cell 3
    have fR0 := hR.frozen 0
    have fR1 := hR.frozen 1
    have fR2 := hR.frozen 2
    have fR3 := hR.frozen 3
    have d1 : ¬ A = w.heap.size := by have := HN.out; omega
    have d2 : ¬ w.heap.size = A := by have := HN.out; omega
    clear hA hR
    go_wp2
    refine bodyPost_ret (v := .agg #[.slice (some ⟨g, 0, none⟩) p.length cap, .int .i64 s, .int .i64 y, .string n]) (by simp [results, Tryz.results157, go_sem, R0, R1, R2, R3]) rfl ?_
    have h0 := HN.out; have h2 := HL.out
    exact ⟨g, cap, p, s, y, n, rfl, lst_other4 (lst_other HS3.out (by omega) (own_ne (by omega)) _ _) (Nat.le_refl _) (own_ne (by omega)) _ _ _ _, HI.out.1, HI.out.2.1, HY.out, HI.out.2.2.2⟩
  have d2' : (x == 2) = false := by simpa using e2
  by_cases e3 : x = 3
  · subst e3
    go_wp2_with fail
    refine (anyPlain_any c _ HS2.out.cur).mono ?_
    rintro r w3 ⟨⟨t, rfl, ht⟩, hc3, hk3⟩
    have HY : Hid (t.size ≤ 100) := ht
    have hA := blk_kept HA2.out hk3 HAc.out.1
    have hR := blk_kept HR2.out hk3 HAc.out.2
    have HS3 : Hid (LSt w c w3 (.slice (some ⟨g, 0, none⟩) p.length cap) p) := HS2.out.keep hc3 hk3
    clear hc3 hk3 ht
    have A0 : w3.cell? ⟨A, 0, none⟩ = some (.slice (some ⟨g, 0, none⟩) p.length cap) := hA.cell 0
    have A1 : w3.cell? ⟨A, 1, none⟩ = some (.int .i64 s) := hA.cell 1
    have A2 : w3.cell? ⟨A, 2, none⟩ = some (.int .i64 e) := hA.cell 2
    have A3 : w3.cell? ⟨A, 3, none⟩ = some (.string n) := hA.cell 3
    have fA0 := hA.frozen 0
    have fA1 := hA.frozen 1
    have fA2 := hA.frozen 2
    have fA3 := hA.frozen 3
    have R0 : w3.cell? ⟨w.heap.size, 0, none⟩ = some (.slice none 0 0) := hR.cell 0
    have R1 : w3.cell? ⟨w.heap.size, 1, none⟩ = some (.int .i64 0) := hR.cell 1
    have R2 : w3.cell? ⟨w.heap.size, 2, none⟩ = some (.int .i64 0) := hR.cell 2
    have R3 : w3.cell? ⟨w.heap.size, 3, none⟩ = some (.string ⟨#[]⟩) := hR.cell 3
    have fR0 := hR.frozen 0
    have fR1 := hR.frozen 1
    have fR2 := hR.frozen 2
    have fR3 := hR.frozen 3
    have d1 : ¬ A = w.heap.size := by have := HN.out; omega
    have d2 : ¬ w.heap.size = A := by have := HN.out; omega
    clear hA hR
    go_wp2
    refine bodyPost_ret (v := .agg #[.slice (some ⟨g, 0, none⟩) p.length cap, .int .i64 s, .int .i64 e, .string t]) (by simp [results, Tryz.results157, go_sem, R0, R1, R2, R3]) rfl ?_
    have h0 := HN.out; have h2 := HL.out
    exact ⟨g, cap, p, s, e, t, rfl, lst_other4 (lst_other HS3.out (by omega) (own_ne (by omega)) _ _) (Nat.le_refl _) (own_ne (by omega)) _ _ _ _, HI.out.1, HI.out.2.1, HI.out.2.2.1, HY.out⟩
  have d3' : (x == 3) = false := by simpa using e3
  have hA := HA2.out
  have hR := HR2.out
  have A0 : w2.cell? ⟨A, 0, none⟩ = some (.slice (some ⟨g, 0, none⟩) p.length cap) := hA.cell 0
  have A1 : w2.cell? ⟨A, 1, none⟩ = some (.int .i64 s) := hA.cell 1
  have A2 : w2.cell? ⟨A, 2, none⟩ = some (.int .i64 e) := hA.cell 2
  have A3 : w2.cell? ⟨A, 3, none⟩ = some (.string n) := hA.cell 3
  have fA0 := hA.frozen 0
  have fA1 := hA.frozen 1
  have fA2 := hA.frozen 2
  have fA3 := hA.frozen 3
  have R0 : w2.cell? ⟨w.heap.size, 0, none⟩ = some (.slice none 0 0) := hR.cell 0
  have R1 : w2.cell? ⟨w.heap.size, 1, none⟩ = some (.int .i64 0) := hR.cell 1
  have R2 : w2.cell? ⟨w.heap.size, 2, none⟩ = some (.int .i64 0) := hR.cell 2
  have R3 : w2.cell? ⟨w.heap.size, 3, none⟩ = some (.string ⟨#[]⟩) := hR.cell 3
  have fR0 := hR.frozen 0
  have fR1 := hR.frozen 1
  have fR2 := hR.frozen 2
  have fR3 := hR.frozen 3
  have d1 : ¬ A = w.heap.size := by have := HN.out; omega
  have d2 : ¬ w.heap.size = A := by have := HN.out; omega
  clear hA hR
  go_wp2
  refine bodyPost_ret (v := .agg #[.slice (some ⟨g, 0, none⟩) p.length cap, .int .i64 s, .int .i64 e, .string n]) (by simp [results, Tryz.results157, go_sem, R0, R1, R2, R3]) rfl ?_
  have h0 := HN.out; have h2 := HL.out
  exact ⟨g, cap, p, s, e, n, rfl, lst_other4 HS2.out (Nat.le_refl _) (own_ne (by omega)) _ _ _ _, HI.out.1, HI.out.2.1, HI.out.2.2.1, HI.out.2.2.2⟩

theorem reads_drew {w : World} {a : Option Addr} {p : List Lab} (h : Reads w a p) : Reads w.drew a p := h
end Go.Proofs.YtooninmicfcfoaaGreat.DrawA
namespace Go.Proofs.YtooninmicfcfoaaGreat.DrawB
open Go.RowKit
open Draw
open Labs LabS LabR Over Blk App DrawL DrawT Alm AlmM DrawA
open LabT (infoL Held held_reads)

theorem kept_drew {c : Nat} {w w' : World} (h : Kept c w.drew w') : Kept c w w' := ⟨h.os, h.tape, h.output, h.size, h.block⟩
end Go.Proofs.YtooninmicfcfoaaGreat.DrawB
namespace Go.Proofs.YtooninmicfcfoaaGreat.DrawC
open Go.RowKit
open Draw
open Labs LabS Over Blk App DrawL DrawT Alms AlmM DrawA DrawB Rws ChnI ChnC ChnP ChnK
open LabT (Held held_reads)

theorem grown_bel {w w' : World} (h : Below w.heap.size w w') : w.grownBy w' none := ⟨h.os, h.tape, h.output, h.size, fun k hk _ => h.block k hk⟩
theorem cur_bel {w w' : World} {c : Nat} (h : Cur w c) (hb : Below w.heap.size w w') : Cur w' c := h.grown (grown_bel hb) (fun k hk => by cases hk)
theorem kept_bel {c : Nat} {w w' : World} (h : Below w.heap.size w w') : Kept c w w' := ⟨h.os, h.tape, h.output, h.size, fun k hk _ => h.block k hk⟩
theorem cur_set {w : World} {c A : Nat} (h : Cur w c) (hne : c < A) (i : Nat) (v : Value) : Cur (w.setCell ⟨A, i, none⟩ v) c := h.grown (grown_set w A i v) (fun k hk => by cases hk; exact hne)
theorem kept_set {w wr : World} {c A : Nat} (h : Kept c w wr) (hA : w.heap.size ≤ A) (i : Nat) (v : Value) : Kept c w (wr.setCell ⟨A, i, none⟩ v) := kept_grown (B := 0) h (grown_set wr A i v) (fun k hk => by cases hk; exact hA)
theorem own_kept {c lo : Nat} {w w' : World} {x : ARow} (h : OwnA lo w x) (hk : Kept c w w') (hc : c < lo) : OwnA lo w' x := by
  obtain ⟨h1, h2, ds, hb, h3⟩ := h
  exact ⟨h1, h2, ds, blk_kept hb hk (by omega), h3⟩
theorem ab_kept {c lo : Nat} {w w' : World} {M cap : Nat} {rs : List ARow} (h : AB lo w M cap rs) (hk : Kept c w w') (hc : c < lo) : AB lo w' M cap rs := by
  obtain ⟨cur, h1, h2⟩ := h.outer
  exact ⟨h.at', h.cap, ⟨cur, blk_kept h1 hk (by have := h.at'; omega), h2⟩, fun x hx => own_kept (h.rows x hx) hk hc, h.ne⟩
theorem own_lst {W w' : World} {c g cap : Nat} {p : List Lab} {s e : Int} {n : ByteArray} (h : LSt W c w' (.slice (some ⟨g, 0, none⟩) p.length cap) p) (hp : p.length ≤ 8) : OwnA W.heap.size w' (g, cap, ⟨p, s, e, n⟩) := by
  rcases h.own.2 with ⟨e', _⟩ | ⟨g', c', cur, e', hb, hcur, hcc, _, hz, ht⟩
  · cases e'
  · cases e'
    refine ⟨hb, by show p.length ≤ _; omega, cur, hcur, by show p.length * 2 ≤ _; rw [hz]; omega, fun j hj => ?_⟩
    have hj' : j < p.length := hj
    have h2 := LabR.flat_get p j hj'
    have hl := LabR.flat_len p
    rw [← ht, List.getElem?_take_of_lt (by omega), List.getElem?_take_of_lt (by omega)] at h2
    simpa using h2

def Fine (x : PAl) : Prop := FitA x ∧ x.l.length ≤ 8
def Fines (P : List PAl) : Prop := ∀ x ∈ P, Fine x
theorem fine_of {p : List Lab} {s e : Int} {n : ByteArray} (hp : p.length ≤ 8) (hf : Small p) (hs : I64 s) (he : I64 e) (hn : n.size ≤ 100) : Fine ⟨p, s, e, n⟩ :=
  ⟨⟨by show p.length ≤ _; unfold maxLen; omega, small_fits hf, hs, he, by show n.size ≤ _; unfold maxLen; omega⟩, hp⟩
theorem nthP_mem {P : List PAl} {i : Nat} (h : i < P.length) : nthP P i ∈ P := by rw [nthP_eq h]; exact List.getElem_mem _
theorem fines_nil : Fines [] := fun x hx => by simp at hx
theorem fines_app {P : List PAl} {a : PAl} (h : Fines P) (ha : Fine a) : Fines (P ++ [a]) := fun x hx => by
  rcases List.mem_append.1 hx with h1 | h1
  · exact h x h1
  · have : x = a := by simpa using h1
    subst this; exact ha
theorem Fines.fits {P : List PAl} (h : Fines P) : FitsP P := fits_of fun x hx => (h x hx).1
theorem Fines.lens {P : List PAl} (h : Fines P) : LenM P := fun i hi => by have := (h _ (nthP_mem hi)).2; omega
end Go.Proofs.YtooninmicfcfoaaGreat.DrawC
namespace Go.Proofs.YtooninmicfcfoaaGreat.DrawC
open Go.RowKit
open Draw
open Labs LabS Over Blk App DrawL DrawT Alms AlmM DrawA DrawB Rws ChnI ChnC ChnP ChnS ChnU ChnK
open LabT (Held held_reads)
open Fing (fingerB)

theorem fines_put {P : List PAl} {a : PAl} (h : Fines P) (ha : Fine a) : Fines (putL P a) := by
  rcases idxTo_cases P a.l P.length with hm | ⟨k, hk, he, hj⟩
  · rw [(put_miss hm).1]; exact fines_app h ha
  · rw [(put_hit hj he hk).1]
    intro x hx
    rcases List.mem_or_eq_of_mem_set hx with h1 | h1
    · exact h x h1
    · subst h1; exact ⟨fit_merge (h _ (nthP_mem hk)).1 ha.1, ha.2⟩
structure DSt (w : World) (c A O : Nat) (f : Int) (wr : World) (a : Option Addr) (cap : Nat) (rs : List ARow) (x : ARow) : Prop where
  cur : Cur wr c
  kept : Kept c w wr
  clt : c < w.heap.size
  ord : w.heap.size < A ∧ A < O ∧ O < wr.heap.size
  bR : Blk wr w.heap.size #[.int .i64 0, .slice none 0 0] 96
  bA : Blk wr A #[.slice (some ⟨x.1, 0, none⟩) x.2.2.l.length x.2.1, .int .i64 x.2.2.s, .int .i64 x.2.2.e, .string x.2.2.n] 29
  bO : Blk wr O #[.int .i64 f, .slice a rs.length cap] 96
  xo : OwnA w.heap.size wr x
  xf : Fine x.2.2
  list : (a = none ∧ rs = []) ∨ ∃ M, a = some ⟨M, 0, none⟩ ∧ AB (O + 1) wr M cap rs
  fine : Fines (pals rs)
  few : rs.length ≤ 4
theorem DSt.keep {w : World} {c A O : Nat} {f : Int} {wr w' : World} {a : Option Addr} {cap : Nat} {rs : List ARow} {x : ARow} (h : DSt w c A O f wr a cap rs x) (hc : Cur w' c) (hk : Kept c wr w') : DSt w c A O f w' a cap rs x :=
  ⟨hc, h.kept.trans hk, h.clt, ⟨h.ord.1, h.ord.2.1, Nat.lt_of_lt_of_le h.ord.2.2 hk.size⟩, blk_kept h.bR hk (by have := h.clt; omega), blk_kept h.bA hk (by have := h.clt; have := h.ord; omega), blk_kept h.bO hk (by have := h.clt; have := h.ord; omega), own_kept h.xo hk h.clt, h.xf,
    h.list.imp id (fun ⟨M, e, hab⟩ => ⟨M, e, ab_kept hab hk (by have := h.clt; have := h.ord; omega)⟩), h.fine, h.few⟩
theorem DSt.grow {w : World} {c A O : Nat} {f : Int} {wr w' : World} {a : Option Addr} {cap : Nat} {rs : List ARow} {x : ARow} (h : DSt w c A O f wr a cap rs x) (hb : Below wr.heap.size wr w') : DSt w c A O f w' a cap rs x := h.keep (cur_bel h.cur hb) (kept_bel hb)
theorem DSt.rd {w : World} {c A O : Nat} {f : Int} {wr : World} {a : Option Addr} {cap : Nat} {rs : List ARow} {x : ARow} (h : DSt w c A O f wr a cap rs x) : RdN wr a (pals rs) := by
  rcases h.list with ⟨_, e⟩ | ⟨M, e, hab⟩
  · exact .inl (by rw [e]; rfl)
  · rw [e]; exact hab.rd
theorem DSt.other {w : World} {c A O : Nat} {f : Int} {wr : World} {a : Option Addr} {cap : Nat} {rs : List ARow} {x : ARow} (h : DSt w c A O f wr a cap rs x) {y : ARow} (hy : OwnA w.heap.size wr y) (hf : Fine y.2.2) :
    DSt w c A O f ((((wr.setCell ⟨A, 0, none⟩ (.slice (some ⟨y.1, 0, none⟩) y.2.2.l.length y.2.1)).setCell ⟨A, 1, none⟩ (.int .i64 y.2.2.s)).setCell ⟨A, 2, none⟩ (.int .i64 y.2.2.e)).setCell ⟨A, 3, none⟩ (.string y.2.2.n)) a cap rs y := by
  have h0 := h.clt; have h1 := h.ord
  have hne : A ≠ y.1 := by
    obtain ⟨_, _, ds, hb, _⟩ := hy
    exact blkA_ne h.bA hb
  refine ⟨cur_set (cur_set (cur_set (cur_set h.cur (by omega) _ _) (by omega) _ _) (by omega) _ _) (by omega) _ _, kept_set (kept_set (kept_set (kept_set h.kept (by omega) _ _) (by omega) _ _) (by omega) _ _) (by omega) _ _, h0, by simpa using h1, Alm.blk4 h.bR (by omega) _ _ _ _, (((h.bA.set 0 _).set 1 _).set 2 _).set 3 _, Alm.blk4 h.bO (by omega) _ _ _ _, own_set (own_set (own_set (own_set hy hne _ _) hne _ _) hne _ _) hne _ _, hf, h.list.imp id (fun ⟨M, e, hab⟩ => ⟨M, e, ab_under (ab_under (ab_under (ab_under hab (by omega) _ _) (by omega) _ _) (by omega) _ _) (by omega) _ _⟩), h.fine, h.few⟩
theorem DSt.put {w : World} {c A O : Nat} {f : Int} {wr w' : World} {a : Option Addr} {cap : Nat} {rs : List ARow} {x : ARow} (h : DSt w c A O f wr a cap rs x) (h4 : rs.length < 4) (hb : Below wr.heap.size wr w') {M cap' : Nat} {rs' : List ARow} (hab : AB wr.heap.size w' M cap' rs') (hp : pals rs' = putL (pals rs) x.2.2) :
    DSt w c A O f ((w'.setCell ⟨O, 0, none⟩ (.int .i64 f)).setCell ⟨O, 1, none⟩ (.slice (some ⟨M, 0, none⟩) rs'.length cap')) (some ⟨M, 0, none⟩) cap' rs' x ∧ rs' ≠ [] := by
  have hg := h.grow hb
  have h0 := hg.clt; have h1 := hg.ord; have h2 := h.ord
  have hne : O ≠ x.1 := by
    obtain ⟨_, _, ds, hb, _⟩ := hg.xo
    exact chain_label hg.bO hb
  have hl := (put_sum (pals rs) x.2.2).2
  rw [← hp, pals_len, pals_len] at hl
  have hn : rs' ≠ [] := fun e => by
    have hz : (putL (pals rs) x.2.2).length = 0 := by rw [← hp, e]; rfl
    rcases idxTo_cases (pals rs) x.2.2.l (pals rs).length with hm | ⟨k, hk, he, hj⟩
    · rw [(put_miss hm).1] at hz; simp at hz
    · rw [(put_hit hj he hk).1] at hz; simp at hz; rw [hz] at hk; simp at hk
  exact ⟨⟨cur_set (cur_set hg.cur (by omega) _ _) (by omega) _ _, kept_set (kept_set hg.kept (by omega) _ _) (by omega) _ _, h0, by simpa using h1, (hg.bR.set_other (by show O ≠ _; omega) _).set_other (by show O ≠ _; omega) _, (hg.bA.set_other (by show O ≠ _; omega) _).set_other (by show O ≠ _; omega) _, (hg.bO.set 0 _).set 1 _, own_set (own_set hg.xo hne _ _) hne _ _, hg.xf, .inr ⟨M, rfl, ab_under (ab_under (hab.down (by omega)) (by omega) _ _) (by omega) _ _⟩, by rw [hp]; exact fines_put h.fine h.xf, by omega⟩, hn⟩

structure CDr (w : World) (c : Nat) (wr : World) (M cap : Nat) (rs : List ARow) : Prop where
  ab : AB (w.heap.size + 1) wr M cap rs
  cur : Cur wr c
  kept : Kept c w wr
  clt : c < w.heap.size
  fine : Fines (pals rs)

set_option maxRecDepth 100000 in
set_option maxHeartbeats 3200000 in
theorem l6Draw_any (c : Nat) (w : World) (hc : Cur w c) :
    Calls Tryz.prog 156 #[.pointer (some ⟨c, 0, none⟩)] w fun r w' => ∃ (f : Int) (M cap : Nat) (rs : List ARow), r = .returned (.agg #[.int .i64 f, .slice (some ⟨M, 0, none⟩) rs.length cap]) ∧ CDr w c w' M cap rs ∧ 0 < rs.length ∧ rs.length ≤ 4 ∧ I64 f := by
  have HC : Hid (Cur w c) := hc
  have HL : Hid (c < w.heap.size) := hc.lt
  clear hc
  go_enter Tryz.func156, Tryz.ntmps156
  go_wp2_with fail
  refine (l4Draw_any c _ (HC.out.alloc _)).mono ?_
  rintro r w1 ⟨g, cp, p, s, e, n, rfl, hst, hp, hs, he, hn⟩
  have HF : Hid (Fine ⟨p, s, e, n⟩) := fine_of hp hst.fit hs he hn
  have HX1 : Hid (OwnA w.heap.size w1 (g, cp, ⟨p, s, e, n⟩)) := (own_lst hst hp).down (by simp)
  have HR1 : Hid (Blk w1 w.heap.size #[.int .i64 0, .slice none 0 0] 96) := blk_kept (Blk.new _ _ _) hst.kept (by have := HL.out; omega)
  have HC1 : Hid (Cur w1 c) := hst.cur
  have HK1 : Hid (Kept c w w1) := ((Kept.refl c w).alloc _).trans hst.kept
  clear hst hp hs he hn
  generalize hDo : Obj.cells #[.slice (some ⟨g, 0, none⟩) p.length cp, .int .i64 s, .int .i64 e, .string n] 29 = Do
  have xA0 : (w1.alloc Do).cell? ⟨w1.heap.size, 0, none⟩ = some (.slice (some ⟨g, 0, none⟩) p.length cp) := by rw [← hDo]; exact (Blk.new w1 _ _).cell 0
  subst hDo
  go_wp2_with fail
  refine (Fing.specFinger_any _ _ _ _ ((HX1.out.grow (Go.Joins.below_alloc1 w1 _)).reads) HF.out.1.len HF.out.1.fits).mono ?_
  rintro r w2 ⟨rfl, hb⟩
  have HR2 : Hid (Blk w2 w.heap.size #[.int .i64 0, .slice none 0 0] 96) := (HR1.out.alloc _).grow hb
  have HA2 : Hid (Blk w2 w1.heap.size #[.slice (some ⟨g, 0, none⟩) p.length cp, .int .i64 s, .int .i64 e, .string n] 29) := (Blk.new w1 _ _).grow hb
  have HX2 : Hid (OwnA w.heap.size w2 (g, cp, ⟨p, s, e, n⟩)) := (HX1.out.grow (Go.Joins.below_alloc1 w1 _)).grow hb
  have HC2 : Hid (Cur w2 c) := cur_bel (HC1.out.alloc _) hb
  have HK2 : Hid (Kept c w w2) := (HK1.out.alloc _).trans (kept_bel hb)
  have HN2 : Hid (w.heap.size < w1.heap.size ∧ w1.heap.size < w2.heap.size) := ⟨HR1.out.lt, HA2.out.lt⟩
  clear hb xA0 HX1 HR1 HC1 HK1
  go_wp2_with fail
  refine (below_any c 30 _ (HC2.out.alloc _) (by decide) (by decide)).mono ?_
  rintro r w3 ⟨⟨j0, rfl, hj0, hj1⟩, hc3, hk3⟩
  have HFX : Hid (I64 (fingerB p : Int)) := by have := Fing.finger_lt p; exact ⟨by omega, by omega⟩
  generalize hfx : (fingerB p : Int) = fx at *
  have HS3 : Hid (DSt w c w1.heap.size w2.heap.size fx w3 none 0 [] (g, cp, ⟨p, s, e, n⟩)) := by
    have h0 := HN2.out; have h1 := HL.out
    have hs := hk3.size
    simp at hs
    exact ⟨hc3, (HK2.out.alloc _).trans hk3, h1, ⟨h0.1, h0.2, by omega⟩, blk_kept (HR2.out.alloc _) hk3 (by omega), blk_kept (HA2.out.alloc _) hk3 (by omega), blk_kept (Blk.new _ _ _) hk3 (by omega), own_kept (HX2.out.grow (Go.Joins.below_alloc1 w2 _)) hk3 h1, HF.out, .inl ⟨rfl, rfl⟩, fines_nil, by simp⟩
  have HJ : Hid (0 ≤ j0 ∧ j0 ≤ 29) := ⟨hj0, by omega⟩
  clear hc3 hk3 hj0 hj1 HX2 HR2 HA2 HC2 HK2 HN2
  generalize w1.heap.size = A at HS3 ⊢
  generalize w2.heap.size = O at HS3 ⊢
  go_wp2
  go_loopw [5] (fun i wr => ∃ (j : Int) (a : Option Addr) (cap : Nat) (rs : List ARow) (x : ARow), i = .int .i64 j ∧ -1 ≤ j ∧ j ≤ 29 ∧ DSt w c A O fx wr a cap rs x ∧ (rs = [] → (fingerB x.2.2.l : Int) = fx ∧ 0 ≤ j)) (fun i _ => (intOf i + 1).toNat)
  case atStart => exact ⟨j0, none, 0, [], (g, cp, ⟨p, s, e, n⟩), rfl, by have := HJ.out; omega, HJ.out.2, HS3.out, fun _ => ⟨hfx, HJ.out.1⟩⟩
  case round =>
    clear hfx HF HS3 HJ
    obtain ⟨j, a, cap, rs, x, rfl, hj1, hj2, hst, hfirst⟩ := hrel
    have HS : Hid (DSt w c A O fx wr a cap rs x) := hst
    have HFi : Hid (rs = [] → (fingerB x.2.2.l : Int) = fx ∧ 0 ≤ j) := hfirst
    clear hst hfirst
    by_cases hj : 0 ≤ j
    · have hj' : (j ≥ 0) := hj
      have hne := Grown.some wr
      have HO : Hid (A < wr.heap.size ∧ O < wr.heap.size) := by have := HS.out.ord; exact ⟨by omega, by omega⟩
      have a0 : ∀ q : Grown wr, q.out.cell? ⟨A, 0, none⟩ = some (.slice (some ⟨x.1, 0, none⟩) x.2.2.l.length x.2.1) := fun q => q.cell HO.out.1 (HS.out.bA.cell 0)
      have o0 : ∀ q : Grown wr, q.out.cell? ⟨O, 0, none⟩ = some (.int .i64 fx) := fun q => q.cell HO.out.2 (HS.out.bO.cell 0)
      have o1 : ∀ q : Grown wr, q.out.cell? ⟨O, 1, none⟩ = some (.slice a rs.length cap) := fun q => q.cell HO.out.2 (HS.out.bO.cell 1)
      have HC1 : ∀ q : Grown wr, Hid (Calls Tryz.prog 70 #[.slice (some ⟨x.1, 0, none⟩) x.2.2.l.length x.2.1] q.out fun e w' => e = .returned (.int .i64 (fingerB x.2.2.l)) ∧ Below q.out.heap.size q.out w') := fun q => Fing.specFinger_any _ _ _ _ (HS.out.xo.reads.below q.bel) HS.out.xf.1.len HS.out.xf.1.fits
      have HGo : Hid (∀ (w5 : World) (a : Option Addr) (cap : Nat) (rs : List ARow), DSt w c A O fx w5 a cap rs x → Calls Tryz.prog 62 #[.pointer (some ⟨c, 0, none⟩)] w5 fun r w' => ∃ (y : ARow), r = .returned (.agg #[.slice (some ⟨y.1, 0, none⟩) y.2.2.l.length y.2.1, .int .i64 y.2.2.s, .int .i64 y.2.2.e, .string y.2.2.n]) ∧ DSt w c A O fx w' a cap rs x ∧ OwnA w.heap.size w' y ∧ Fine y.2.2) := fun w5 a cap rs hd => (l4Draw_any c w5 hd.cur).mono fun r w' ⟨g, cp, p, s, e, n, hr, hst, hp, hs, he, hn⟩ => ⟨(g, cp, ⟨p, s, e, n⟩), hr, hd.keep hst.cur hst.kept, (own_lst hst hp).down hd.kept.size, fine_of hp hst.fit hs he hn⟩
      by_cases hF : (fingerB x.2.2.l : Int) = fx
      · by_cases h4 : rs.length < 4
        · have h4' : (rs.length : Int) < 4 := by omega
          go_wp2
          refine wp_over (z := wr) (by kernel_rfl) (by kernel_rfl) (Below.refl _ _) ?_
          repeat (go_big_quiet_step (first | (go_at_call 70; exact call_over (HC1 _).out)))
          refine wpQuiet_nil ?_
          intro w4 hw4
          have HS4 : Hid (DSt w c A O fx w4 a cap rs x) := HS.out.grow (over_bel hw4)
          clear hw4 hne HC1 a0 o0 o1 HO
          have o0 : w4.cell? ⟨O, 0, none⟩ = some (.int .i64 fx) := HS4.out.bO.cell 0
          have o1 : w4.cell? ⟨O, 1, none⟩ = some (.slice a rs.length cap) := HS4.out.bO.cell 1
          have q0 : w4.cell? ⟨A, 0, none⟩ = some (.slice (some ⟨x.1, 0, none⟩) x.2.2.l.length x.2.1) := HS4.out.bA.cell 0
          have q1 : w4.cell? ⟨A, 1, none⟩ = some (.int .i64 x.2.2.s) := HS4.out.bA.cell 1
          have q2 : w4.cell? ⟨A, 2, none⟩ = some (.int .i64 x.2.2.e) := HS4.out.bA.cell 2
          have q3 : w4.cell? ⟨A, 3, none⟩ = some (.string x.2.2.n) := HS4.out.bA.cell 3
          have HPC : Hid (Calls Tryz.prog 72 #[.agg #[.int .i64 fx, .slice a rs.length cap], .agg #[.slice (some ⟨x.1, 0, none⟩) x.2.2.l.length x.2.1, .int .i64 x.2.2.s, .int .i64 x.2.2.e, .string x.2.2.n]] w4 fun e w' => (∃ M c rs', e = .returned (.tuple #[.agg #[.int .i64 fx, .slice (some ⟨M, 0, none⟩) rs'.length c], .bool (isNew (pals rs) x.2.2.l)]) ∧ AB w4.heap.size w' M c rs' ∧ pals rs' = putL (pals rs) x.2.2) ∧ Below w4.heap.size w4 w') := by
            have h := specPut_any fx a cap (pals rs) x.1 0 x.2.1 x.2.2 w4 HS4.out.rd HS4.out.xo.reads (by rw [pals_len]; omega) HS4.out.fine.lens (by have := HS4.out.xf.2; omega)
            rw [pals_len] at h
            exact h
          go_wp2_with fail
          refine HPC.out.mono ?_
          rintro r w5 ⟨⟨M, c', rs', rfl, hab, hp⟩, hb⟩
          have hO5 := HS4.out.bO.grow hb
          have p0 : w5.cell? ⟨O, 0, none⟩ = some (.int .i64 fx) := hO5.cell 0
          have p1 : w5.cell? ⟨O, 1, none⟩ = some (.slice a rs.length cap) := hO5.cell 1
          have fp0 := hO5.frozen 0
          have fp1 := hO5.frozen 1
          have HS5 : Hid (DSt w c A O fx ((w5.setCell ⟨O, 0, none⟩ (.int .i64 fx)).setCell ⟨O, 1, none⟩ (.slice (some ⟨M, 0, none⟩) rs'.length c')) (some ⟨M, 0, none⟩) c' rs' x ∧ rs' ≠ []) := HS4.out.put h4 hb hab hp
          have HN : Hid (rs' ≠ []) := HS5.out.2
          clear hab hp hb hO5 HPC o0 o1 q0 q1 q2 q3
          go_wp2_with fail
          refine (HGo.out _ _ _ _ HS5.out.1).mono ?_
          rintro r w6 ⟨y, rfl, hd, hy, hyf⟩
          have HS6 : Hid (DSt w c A O fx w6 _ _ _ x) := hd
          have HY6 : Hid (OwnA w.heap.size w6 y ∧ Fine y.2.2) := ⟨hy, hyf⟩
          have q0 : w6.cell? ⟨A, 0, none⟩ = some (.slice (some ⟨x.1, 0, none⟩) x.2.2.l.length x.2.1) := hd.bA.cell 0
          have q1 : w6.cell? ⟨A, 1, none⟩ = some (.int .i64 x.2.2.s) := hd.bA.cell 1
          have q2 : w6.cell? ⟨A, 2, none⟩ = some (.int .i64 x.2.2.e) := hd.bA.cell 2
          have q3 : w6.cell? ⟨A, 3, none⟩ = some (.string x.2.2.n) := hd.bA.cell 3
          have g0 := hd.bA.frozen 0
          have g1 := hd.bA.frozen 1
          have g2 := hd.bA.frozen 2
          have g3 := hd.bA.frozen 3
          clear hd hy hyf
          go_wp2
          go_roundw
          case rel => exact ⟨j - 1, _, _, _, y, by go_num, by omega, by omega, HS6.out.other HY6.out.1 HY6.out.2, fun e => absurd e HN.out⟩
          case measure => simp [intOf]; omega
        · have h4' : ¬ (rs.length : Int) < 4 := by omega
          have HN : Hid (rs ≠ []) := fun e => by rw [e] at h4; simp at h4
          go_wp2
          refine wp_over (z := wr) (by kernel_rfl) (by kernel_rfl) (Below.refl _ _) ?_
          repeat (go_big_quiet_step (first | (go_at_call 70; exact call_over (HC1 _).out)))
          refine wpQuiet_nil ?_
          intro w4 hw4
          have HS4 : Hid (DSt w c A O fx w4 a cap rs x) := HS.out.grow (over_bel hw4)
          clear hw4 hne HC1 a0 o0 o1 HO
          go_wp2_with fail
          refine (HGo.out _ _ _ _ HS4.out).mono ?_
          rintro r w6 ⟨y, rfl, hd, hy, hyf⟩
          have HS6 : Hid (DSt w c A O fx w6 _ _ _ x) := hd
          have HY6 : Hid (OwnA w.heap.size w6 y ∧ Fine y.2.2) := ⟨hy, hyf⟩
          have q0 : w6.cell? ⟨A, 0, none⟩ = some (.slice (some ⟨x.1, 0, none⟩) x.2.2.l.length x.2.1) := hd.bA.cell 0
          have q1 : w6.cell? ⟨A, 1, none⟩ = some (.int .i64 x.2.2.s) := hd.bA.cell 1
          have q2 : w6.cell? ⟨A, 2, none⟩ = some (.int .i64 x.2.2.e) := hd.bA.cell 2
          have q3 : w6.cell? ⟨A, 3, none⟩ = some (.string x.2.2.n) := hd.bA.cell 3
          have g0 := hd.bA.frozen 0
          have g1 := hd.bA.frozen 1
          have g2 := hd.bA.frozen 2
          have g3 := hd.bA.frozen 3
          clear hd hy hyf
          go_wp2
          go_roundw
          case rel => exact ⟨j - 1, _, _, _, y, by go_num, by omega, by omega, HS6.out.other HY6.out.1 HY6.out.2, fun e => absurd e HN.out⟩
          case measure => simp [intOf]; omega
      · have hF1 : ((fingerB x.2.2.l : Int) == fx) = false := by simpa using hF
        have HN : Hid (rs ≠ []) := fun e => hF (HFi.out e).1
        go_wp2
        refine wp_over (z := wr) (by kernel_rfl) (by kernel_rfl) (Below.refl _ _) ?_
        repeat (go_big_quiet_step (first | (go_at_call 70; exact call_over (HC1 _).out)))
        refine wpQuiet_nil ?_
        intro w4 hw4
        have HS4 : Hid (DSt w c A O fx w4 a cap rs x) := HS.out.grow (over_bel hw4)
        clear hw4 hne HC1 a0 o0 o1 HO
        go_wp2_with fail
        refine (HGo.out _ _ _ _ HS4.out).mono ?_
        rintro r w6 ⟨y, rfl, hd, hy, hyf⟩
        have HS6 : Hid (DSt w c A O fx w6 _ _ _ x) := hd
        have HY6 : Hid (OwnA w.heap.size w6 y ∧ Fine y.2.2) := ⟨hy, hyf⟩
        have q0 : w6.cell? ⟨A, 0, none⟩ = some (.slice (some ⟨x.1, 0, none⟩) x.2.2.l.length x.2.1) := hd.bA.cell 0
        have q1 : w6.cell? ⟨A, 1, none⟩ = some (.int .i64 x.2.2.s) := hd.bA.cell 1
        have q2 : w6.cell? ⟨A, 2, none⟩ = some (.int .i64 x.2.2.e) := hd.bA.cell 2
        have q3 : w6.cell? ⟨A, 3, none⟩ = some (.string x.2.2.n) := hd.bA.cell 3
        have g0 := hd.bA.frozen 0
        have g1 := hd.bA.frozen 1
        have g2 := hd.bA.frozen 2
        have g3 := hd.bA.frozen 3
        clear hd hy hyf
        go_wp2
        go_roundw
        case rel => exact ⟨j - 1, _, _, _, y, by go_num, by omega, by omega, HS6.out.other HY6.out.1 HY6.out.2, fun e => absurd e HN.out⟩
        case measure => simp [intOf]; omega
    · have hj' : ¬ (j ≥ 0) := by omega
      have hr0 : 0 < rs.length := by
        rcases rs with _ | ⟨y, ys⟩
        · exact absurd (HFi.out rfl).2 hj
        · simp
      have o0 : wr.cell? ⟨O, 0, none⟩ = some (.int .i64 fx) := HS.out.bO.cell 0
      have o1 : wr.cell? ⟨O, 1, none⟩ = some (.slice a rs.length cap) := HS.out.bO.cell 1
      have r0 : wr.cell? ⟨w.heap.size, 0, none⟩ = some (.int .i64 0) := HS.out.bR.cell 0
      have r1 : wr.cell? ⟨w.heap.size, 1, none⟩ = some (.slice none 0 0) := HS.out.bR.cell 1
      have f0 := HS.out.bR.frozen 0
      have f1 := HS.out.bR.frozen 1
      go_wp2
      have hs : Blk ((wr.setCell ⟨w.heap.size, 0, none⟩ (.int .i64 fx)).setCell ⟨w.heap.size, 1, none⟩ (.slice a rs.length cap)) w.heap.size #[.int .i64 fx, .slice a rs.length cap] 96 := (HS.out.bR.set 0 _).set 1 _
      have s0 := hs.cell 0
      have s1 := hs.cell 1
      refine bodyPost_ret (v := .agg #[.int .i64 fx, .slice a rs.length cap]) (by simp [results, Tryz.results156, go_sem, s0, s1]) rfl ?_
      have h0 := HS.out.clt; have h1 := HS.out.ord
      rcases HS.out.list with ⟨_, e⟩ | ⟨M, e, hab⟩
      · rw [e] at hr0; simp at hr0
      · subst e
        exact ⟨fx, M, cap, rs, rfl, ⟨ab_under (ab_under (hab.down (by omega)) (by omega) _ _) (by omega) _ _, cur_set (cur_set HS.out.cur h0 _ _) h0 _ _, kept_set (kept_set HS.out.kept (Nat.le_refl _) _ _) (Nat.le_refl _) _ _, h0, HS.out.fine⟩, hr0, HS.out.few, HFX.out⟩
end Go.Proofs.YtooninmicfcfoaaGreat.DrawC
namespace Go.Proofs.YtooninmicfcfoaaGreat.DrawD
open Go.RowKit
open Draw
open Labs LabS Over Blk App DrawL DrawT Alms AlmM DrawA DrawB Rws ChnI ChnC ChnP ChnS ChnU ChnK DrawC

structure XSt (w : World) (c X : Nat) (f : Int) (wr : World) (u : Value) (M cap : Nat) (rs : List ARow) : Prop where
  cur : Cur wr c
  kept : Kept c w wr
  clt : c < w.heap.size
  ord : w.heap.size < X ∧ X < wr.heap.size
  bR : Blk wr w.heap.size #[.int .i64 0, .slice none 0 0] 96
  bX : Blk wr X #[.int .i64 f, u] 96
  ab : AB (w.heap.size + 1) wr M cap rs
  fine : Fines (pals rs)
theorem XSt.keep {w : World} {c X : Nat} {f : Int} {wr w' : World} {u : Value} {M cap : Nat} {rs : List ARow} (h : XSt w c X f wr u M cap rs) (hc : Cur w' c) (hk : Kept c wr w') : XSt w c X f w' u M cap rs :=
  ⟨hc, h.kept.trans hk, h.clt, ⟨h.ord.1, Nat.lt_of_lt_of_le h.ord.2 hk.size⟩, blk_kept h.bR hk (by have := h.clt; omega), blk_kept h.bX hk (by have := h.clt; have := h.ord; omega), ab_kept h.ab hk (by have := h.clt; omega), h.fine⟩
theorem XSt.grow {w : World} {c X : Nat} {f : Int} {wr w' : World} {u : Value} {M cap : Nat} {rs : List ARow} (h : XSt w c X f wr u M cap rs) (hb : Below wr.heap.size wr w') : XSt w c X f w' u M cap rs := h.keep (cur_bel h.cur hb) (kept_bel hb)
theorem XSt.setF {w : World} {c X : Nat} {f : Int} {wr : World} {u : Value} {M cap : Nat} {rs : List ARow} (h : XSt w c X f wr u M cap rs) (y : Int) : XSt w c X y (wr.setCell ⟨X, 0, none⟩ (.int .i64 y)) u M cap rs := by
  have h0 := h.clt; have h1 := h.ord
  exact ⟨cur_set h.cur (by omega) _ _, DrawC.kept_set h.kept (by omega) _ _, h0, by simpa using h1, h.bR.set_other (by show X ≠ _; omega) _, h.bX.set 0 _, ab_set1 h.ab h.bX _ _, h.fine⟩
theorem XSt.setL {w : World} {c X : Nat} {f : Int} {wr : World} {u : Value} {M cap : Nat} {rs : List ARow} (h : XSt w c X f wr u M cap rs) (u' : Value) : XSt w c X f (wr.setCell ⟨X, 1, none⟩ u') u' M cap rs := by
  have h0 := h.clt; have h1 := h.ord
  exact ⟨cur_set h.cur (by omega) _ _, DrawC.kept_set h.kept (by omega) _ _, h0, by simpa using h1, h.bR.set_other (by show X ≠ _; omega) _, h.bX.set 1 _, ab_set1 h.ab h.bX _ _, h.fine⟩
theorem XSt.fin {w : World} {c X : Nat} {f : Int} {wr : World} {u : Value} {M cap : Nat} {rs : List ARow} (h : XSt w c X f wr u M cap rs) (v0 v1 : Value) : CDr w c ((wr.setCell ⟨w.heap.size, 0, none⟩ v0).setCell ⟨w.heap.size, 1, none⟩ v1) M cap rs :=
  ⟨ab_under (ab_under h.ab (by omega) _ _) (by omega) _ _, cur_set (cur_set h.cur h.clt _ _) h.clt _ _, DrawC.kept_set (DrawC.kept_set h.kept (Nat.le_refl _) _ _) (Nat.le_refl _) _ _, h.clt, h.fine⟩
theorem XSt.app {w : World} {c X : Nat} {f : Int} {W w' : World} {u v' : Value} {M cap : Nat} {rs : List ARow} {y : ARow} {xs : List Value} (h : XSt w c X f W u M cap rs) (hy : OwnA (w.heap.size + 1) W y) (hf : Fine y.2.2) (hne : ∀ x ∈ rs, x.1 ≠ y.1) (hl : xs.length = rs.length * 4) (hxs : ∀ i, i < rs.length → Four (fun k => xs[k]?) i (nthA rs i))
    (hown : w'.ownsRow (w.heap.size + 1) 29 4 v' (rs.length + 1) (xs ++ rowV y)) (hg : W.grownBy w' (some M)) : ∃ M' c', v' = .slice (some ⟨M', 0, none⟩) (rs.length + 1) c' ∧ XSt w c X f w' u M' c' (rs ++ [y]) := by
  have h0 := h.clt; have h1 := h.ord; have h2 := h.ab.at'
  obtain ⟨cu, hcu, _⟩ := h.ab.outer
  obtain ⟨M', c', e, hab⟩ := h.ab.app hy hne hl hxs hown hg
  refine ⟨M', c', e, h.cur.grown hg (fun k hk => by cases hk; omega), kept_grown (B := 0) h.kept hg (fun k hk => by cases hk; omega), h0, ⟨h1.1, Nat.lt_of_lt_of_le h1.2 hg.size⟩, blk_far h.bR hg (fun e => by have := Option.some.inj e; omega), blk_far h.bX hg (fun e => chain_alarm h.bX hcu (Option.some.inj e)), hab, ?_⟩
  rw [pals_app]; exact fines_app h.fine hf
theorem retA {M n n' c : Nat} {f : Int} (h : n = n') : Ending.returned (.agg #[.int .i64 f, .slice (some ⟨M, 0, none⟩) n c]) = .returned (.agg #[.int .i64 f, .slice (some ⟨M, 0, none⟩) n' c]) := by rw [h]

set_option maxRecDepth 100000 in
set_option maxHeartbeats 3200000 in
theorem l6Any_any (c : Nat) (w : World) (hc : Cur w c) :
    Calls Tryz.prog 117 #[.pointer (some ⟨c, 0, none⟩)] w fun r w' => ∃ (f : Int) (M cap : Nat) (rs : List ARow), r = .returned (.agg #[.int .i64 f, .slice (some ⟨M, 0, none⟩) rs.length cap]) ∧ CDr w c w' M cap rs ∧ rs.length ≤ 5 ∧ I64 f := by
  have HC : Hid (Cur w c) := hc
  have HL : Hid (c < w.heap.size) := hc.lt
  clear hc
  obtain ⟨i0, hi, hz0, hz1, hz2⟩ := info_parts infoA
  go_enter Tryz.func117, Tryz.ntmps117
  go_wp2_with fail
  refine (l6Draw_any c _ (HC.out.alloc _)).mono ?_
  rintro r w1 ⟨f, M, cap, rs, rfl, hd, hr0, hr4, hfb⟩
  have HFB : Hid (I64 f) := hfb
  clear hfb
  have HD1 : Hid (CDr (w.alloc (.cells #[.int .i64 0, .slice none 0 0] 96)) c w1 M cap rs) := hd
  have HR1 : Hid (Blk w1 w.heap.size #[.int .i64 0, .slice none 0 0] 96) := blk_kept (Blk.new _ _ _) hd.kept (by have := HL.out; omega)
  clear hd
  go_wp2_with fail
  refine (below_any c 8 _ (HD1.out.cur.alloc _) (by decide) (by decide)).mono ?_
  rintro r w2 ⟨⟨z, rfl, hz0', hz1'⟩, hc2, hk2⟩
  have HX : Hid (XSt w c w1.heap.size f w2 (.slice (some ⟨M, 0, none⟩) rs.length cap) M cap rs) := by
    have h0 := HL.out; have h1 := HR1.out.lt
    have h2 := hk2.size
    simp at h2
    exact ⟨hc2, ((((Kept.refl c w).alloc _).trans HD1.out.kept).alloc _).trans hk2, h0, ⟨h1, by omega⟩, blk_kept (HR1.out.alloc _) hk2 (by omega), blk_kept (Blk.new w1 _ _) hk2 (by omega), ab_kept ((HD1.out.ab.grow (Go.Joins.below_alloc1 w1 _)).down (by simp)) hk2 (by omega), HD1.out.fine⟩
  clear hc2 hk2 HD1 HR1
  generalize w1.heap.size = X at HX ⊢
  by_cases e0 : z = 0
  · subst e0
    go_wp2_with fail
    refine (below_any c 33 _ HX.out.cur (by decide) (by decide)).mono ?_
    rintro r w3 ⟨⟨y, rfl, hy0, hy1⟩, hc3, hk3⟩
    clear HFB
    have HFB : Hid (I64 y) := ⟨by omega, by omega⟩
    clear hy0 hy1
    have HX3 : Hid (XSt w c X f w3 (.slice (some ⟨M, 0, none⟩) rs.length cap) M cap rs) := HX.out.keep hc3 hk3
    have q0 : w3.cell? ⟨X, 0, none⟩ = some (.int .i64 f) := HX3.out.bX.cell 0
    have g0 := HX3.out.bX.frozen 0
    clear hc3 hk3
    go_upto_region 11 with fail
    have HX4 : Hid (XSt w c X y (w3.setCell ⟨X, 0, none⟩ (.int .i64 y)) (.slice (some ⟨M, 0, none⟩) rs.length cap) M cap rs) := HX3.out.setF y
    clear q0 g0
    generalize w3.setCell ⟨X, 0, none⟩ (.int .i64 y) = W3 at *
    have r0 : W3.cell? ⟨w.heap.size, 0, none⟩ = some (.int .i64 0) := HX4.out.bR.cell 0
    have r1 : W3.cell? ⟨w.heap.size, 1, none⟩ = some (.slice none 0 0) := HX4.out.bR.cell 1
    have f0 := HX4.out.bR.frozen 0
    have f1 := HX4.out.bR.frozen 1
    have x0 : W3.cell? ⟨X, 0, none⟩ = some (.int .i64 y) := HX4.out.bX.cell 0
    have x1 : W3.cell? ⟨X, 1, none⟩ = some (.slice (some ⟨M, 0, none⟩) rs.length cap) := HX4.out.bX.cell 1
    go_wp2
    have hs : Blk ((W3.setCell ⟨w.heap.size, 0, none⟩ (.int .i64 y)).setCell ⟨w.heap.size, 1, none⟩ (.slice (some ⟨M, 0, none⟩) rs.length cap)) w.heap.size #[.int .i64 y, .slice (some ⟨M, 0, none⟩) rs.length cap] 96 := (HX4.out.bR.set 0 _).set 1 _
    have s0 := hs.cell 0
    have s1 := hs.cell 1
    refine bodyPost_ret (v := .agg #[.int .i64 y, .slice (some ⟨M, 0, none⟩) rs.length cap]) (by simp [results, Tryz.results117, go_sem, s0, s1]) rfl ?_
    exact ⟨y, M, cap, rs, rfl, HX4.out.fin _ _, by omega, HFB.out⟩
  have d0' : (z == 0) = false := by simpa using e0
  by_cases e1 : z = 1
  · subst e1
    have HC : Hid (Calls Tryz.prog 157 #[.pointer (some ⟨c, 0, none⟩)] w2.drew fun r w' => ∃ y : ARow, r = .returned (.agg #[.slice (some ⟨y.1, 0, none⟩) y.2.2.l.length y.2.1, .int .i64 y.2.2.s, .int .i64 y.2.2.e, .string y.2.2.n]) ∧ XSt w c X f w' (.slice (some ⟨M, 0, none⟩) rs.length cap) M cap rs ∧ OwnA (w.heap.size + 1) w' y ∧ w2.heap.size ≤ y.1 ∧ Fine y.2.2) := (l4Any_any c w2.drew (Cur.drewN HX.out.cur 1)).mono fun r w' ⟨g, cp, p, s, e, n, hr, hst, hp, hs, he, hn⟩ => ⟨(g, cp, ⟨p, s, e, n⟩), hr, HX.out.keep hst.cur (kept_drew hst.kept), (own_lst hst hp).down (by have := HX.out.ord; show _ ≤ w2.drew.heap.size; simp; omega), hst.blk.1, fine_of hp hst.fit hs he hn⟩
    go_upto_region 6 with fail
    refine wp_region_held_drew (S := fun w' => True) (by kernel_rfl) trivial (fun hHeld => ?_)
    refine wpAnyH_take (i := 0) (oi := { dst := some 15, op := Op.fieldAddr 96 (Operand.tmp 3) 1, type := 0, pos := "l06_chain.go:79", after := #[], guard := none }) (v := ?vd11) rfl (by kernel_rfl) (by kernel_rfl) (by kernel_rfl) (fun _ _ _ h => h) (Or.inl ⟨by rfl, ?hyd11⟩) hHeld ?_
    case hyd11 => (intro w hSw; (try dsimp only at hSw); go_simp <;> with_reducible rfl)
    try simp only [Act.put, List.setIfInBounds_toArray, List.set_cons_zero, List.set_cons_succ]
    refine wpAnyH_take (i := 2) (oi := { dst := some 17, op := Op.move (Operand.tmp 0), type := 82, pos := "l06_chain.go:79", after := #[], guard := none }) (v := ?vd12) rfl (by kernel_rfl) (by kernel_rfl) (by kernel_rfl) (fun _ _ _ h => h) (Or.inl ⟨by rfl, ?hyd12⟩) hHeld ?_
    case hyd12 => (intro w hSw; (try dsimp only at hSw); go_simp <;> with_reducible rfl)
    try simp only [Act.put, List.setIfInBounds_toArray, List.set_cons_zero, List.set_cons_succ]
    refine wpAnyH_ready (rs := [1, 3]) (by kernel_rfl) (by simp) ?_
    refine AllReadyH.cons (o := { dst := some 16, op := Op.load 40 (Operand.tmp 15), type := 40, pos := "l06_chain.go:79", after := #[{ on := 0, ground := Ground.data }], guard := none }) rfl (fun K hK => ?_) ?_
    ·
      have cD : w2.drew.cell? ⟨X, 1, none⟩ = some (.slice (some ⟨M, 0, none⟩) rs.length cap) := (HX.out.bX.drew).cell 1
      go_simp
      clear cD
      clear hHeld
      refine hK.out _ _ trivial (fun hHeld => ?_)
      clear hK K
      try simp only [Act.put, List.setIfInBounds_toArray, List.set_cons_zero, List.set_cons_succ]
      
      refine wpAnyH_ready (rs := [3]) (by kernel_rfl) (by simp) ?_
      refine AllReadyH.cons (o := { dst := some 18, op := Op.call { callee := Callee.value (Operand.func 157), args := #[Operand.tmp 17], argTypes := #[82] }, type := 29, pos := "l06_chain.go:79", after := #[{ on := 2, ground := Ground.data }], guard := none }) rfl (fun K hK => ?_) AllReadyH.nil
      go_simp
      refine HC.out.mono ?_
      rintro r wyc ⟨y, rfl, hx, hy, hyl, hyf⟩
      have HXc : Hid (XSt w c X f wyc (.slice (some ⟨M, 0, none⟩) rs.length cap) M cap rs) := hx
      have HY : Hid (OwnA (w.heap.size + 1) wyc y ∧ w2.heap.size ≤ y.1 ∧ Fine y.2.2) := ⟨hy, hyl, hyf⟩
      clear hx hy hyl hyf
      clear hHeld
      refine hK.out _ _ trivial (fun hHeld => ?_)
      clear hK K
      try simp only [Act.put, List.setIfInBounds_toArray, List.set_cons_zero, List.set_cons_succ]
      
      refine wpAnyH_ready (rs := [4]) (by kernel_rfl) (by simp) ?_
      refine AllReadyH.cons (o := { dst := some 19, op := Op.buildSlice 40 1 #[(0, Operand.tmp 18)], type := 40, pos := "l06_chain.go:79", after := #[{ on := 3, ground := Ground.data }], guard := none }) rfl (fun K hK => ?_) AllReadyH.nil
      go_simp
      clear hHeld
      refine hK.out _ _ trivial (fun hHeld => ?_)
      clear hK K
      try simp only [Act.put, List.setIfInBounds_toArray, List.set_cons_zero, List.set_cons_succ]
      
      refine wpAnyH_ready (rs := [5]) (by kernel_rfl) (by simp) ?_
      refine AllReadyH.cons (o := { dst := some 20, op := Op.call { callee := Callee.builtin Builtin.append, args := #[Operand.tmp 16, Operand.tmp 19], argTypes := #[40, 40] }, type := 40, pos := "l06_chain.go:79", after := #[{ on := 1, ground := Ground.data }, { on := 4, ground := Ground.data }, { on := 3, ground := Ground.chain }], guard := none }) rfl (fun K hK => ?_) AllReadyH.nil
      have hXd : XSt w c X f (wyc.alloc (.cells #[.slice (some ⟨y.1, 0, none⟩) y.2.2.l.length y.2.1, .int .i64 y.2.2.s, .int .i64 y.2.2.e, .string y.2.2.n] 29)) (.slice (some ⟨M, 0, none⟩) rs.length cap) M cap rs := HXc.out.grow (Go.Joins.below_alloc1 wyc _)
      obtain ⟨xs, hox, hxl, hxs⟩ := hXd.ab.own
      refine step_appB rfl _ _ 40 rfl 29 i0 (.agg #[.slice none 0 0, .int .i64 0, .int .i64 0, .string ByteArray.empty]) 4 56 Tryz.underlying40 hi hz0 hz1 hz2 rfl (by decide) (w.heap.size + 1) ?k11b (.slice (some ⟨M, 0, none⟩) rs.length cap) rs.length xs rfl hox ⟨wyc.heap.size, 0, none⟩ 1 1 (rowV y) rfl rfl (blk_news (Blk.new _ _ _)) (row_one _) ?k11c ?k11d ?_
      case k11b => have := hXd.ord; omega
      case k11c => unfold maxLen; omega
      case k11d => omega
      intro v' wya hown hg hat
      obtain ⟨M3, c3, e3, hXA⟩ := hXd.app (HY.out.1.grow (Go.Joins.below_alloc1 wyc _)) HY.out.2.2 (fun x hx => by have := (HX.out.ab.rows x hx).lt; have := HY.out.2.1; omega) hxl hxs hown hg
      subst e3
      have HXA : Hid (XSt w c X f wya (.slice (some ⟨M, 0, none⟩) rs.length cap) M3 c3 (rs ++ [y])) := hXA
      clear hown hg hat hXA hXd hox hxl hxs
      clear hHeld
      refine hK.out _ _ trivial (fun hHeld => ?_)
      clear hK K
      try simp only [Act.put, List.setIfInBounds_toArray, List.set_cons_zero, List.set_cons_succ]
      
      refine wpAnyH_take (i := 6) (oi := { dst := some 21, op := Op.fieldAddr 96 (Operand.tmp 3) 1, type := 0, pos := "l06_chain.go:79", after := #[{ on := 0, ground := Ground.phase }, { on := 1, ground := Ground.phase }, { on := 2, ground := Ground.phase }, { on := 3, ground := Ground.phase }, { on := 4, ground := Ground.phase }, { on := 5, ground := Ground.phase }], guard := none }) (v := ?vd17) rfl (by kernel_rfl) (by kernel_rfl) (by kernel_rfl) (fun _ _ _ h => h) (Or.inl ⟨by rfl, ?hyd17⟩) hHeld ?_
      case hyd17 => (intro w hSw; (try dsimp only at hSw); go_simp <;> with_reducible rfl)
      try simp only [Act.put, List.setIfInBounds_toArray, List.set_cons_zero, List.set_cons_succ]
      refine wpAnyH_ready (rs := [7]) (by kernel_rfl) (by simp) ?_
      refine AllReadyH.cons (o := { dst := none, op := Op.store 40 (Operand.tmp 21) (Operand.tmp 20), type := 0, pos := "l06_chain.go:79", after := #[{ on := 6, ground := Ground.data }, { on := 5, ground := Ground.data }, { on := 5, ground := Ground.chain }, { on := 0, ground := Ground.phase }, { on := 1, ground := Ground.phase }, { on := 2, ground := Ground.phase }, { on := 3, ground := Ground.phase }, { on := 4, ground := Ground.phase }, { on := 5, ground := Ground.phase }], guard := none }) rfl (fun K hK => ?_) AllReadyH.nil
      have cD : wya.cell? ⟨X, 1, none⟩ = some (.slice (some ⟨M, 0, none⟩) rs.length cap) := HXA.out.bX.cell 1
      have fD := HXA.out.bX.frozen 1
      go_simp
      clear cD fD
      clear hHeld
      refine hK.out _ _ trivial (fun hHeld => ?_)
      clear hK K
      try simp only [Act.put, List.setIfInBounds_toArray, List.set_cons_zero, List.set_cons_succ]
      
      refine wpAnyH_done (by kernel_rfl) ?_ _
      have HXZ : Hid (XSt w c X f (wya.setCell ⟨X, 1, none⟩ (.slice (some ⟨M3, 0, none⟩) (rs.length + 1) c3)) (.slice (some ⟨M3, 0, none⟩) (rs.length + 1) c3) M3 c3 (rs ++ [y])) := HXA.out.setL _
      clear hHeld HXA HXc HY
      generalize wya.setCell ⟨X, 1, none⟩ (.slice (some ⟨M3, 0, none⟩) (rs.length + 1) c3) = W3 at *
      have r0 : W3.cell? ⟨w.heap.size, 0, none⟩ = some (.int .i64 0) := HXZ.out.bR.cell 0
      have r1 : W3.cell? ⟨w.heap.size, 1, none⟩ = some (.slice none 0 0) := HXZ.out.bR.cell 1
      have f0 := HXZ.out.bR.frozen 0
      have f1 := HXZ.out.bR.frozen 1
      have x0 : W3.cell? ⟨X, 0, none⟩ = some (.int .i64 f) := HXZ.out.bX.cell 0
      have x1 : W3.cell? ⟨X, 1, none⟩ = some (.slice (some ⟨M3, 0, none⟩) (rs.length + 1) c3) := HXZ.out.bX.cell 1
      go_wp2
      have hs : Blk ((W3.setCell ⟨w.heap.size, 0, none⟩ (.int .i64 f)).setCell ⟨w.heap.size, 1, none⟩ (.slice (some ⟨M3, 0, none⟩) (rs.length + 1) c3)) w.heap.size #[.int .i64 f, .slice (some ⟨M3, 0, none⟩) (rs.length + 1) c3] 96 := (HXZ.out.bR.set 0 _).set 1 _
      have s0 := hs.cell 0
      have s1 := hs.cell 1
      refine bodyPost_ret (v := .agg #[.int .i64 f, .slice (some ⟨M3, 0, none⟩) (rs.length + 1) c3]) (by simp [results, Tryz.results117, go_sem, s0, s1]) rfl ?_
      exact ⟨f, M3, c3, rs ++ [y], retA (by simp), HXZ.out.fin _ _, by simp; omega, HFB.out⟩
    refine AllReadyH.cons (o := { dst := some 18, op := Op.call { callee := Callee.value (Operand.func 157), args := #[Operand.tmp 17], argTypes := #[82] }, type := 29, pos := "l06_chain.go:79", after := #[{ on := 2, ground := Ground.data }], guard := none }) rfl (fun K hK => ?_) AllReadyH.nil
    go_simp
    refine HC.out.mono ?_
    rintro r wyc ⟨y, rfl, hx, hy, hyl, hyf⟩
    have HXc : Hid (XSt w c X f wyc (.slice (some ⟨M, 0, none⟩) rs.length cap) M cap rs) := hx
    have HY : Hid (OwnA (w.heap.size + 1) wyc y ∧ w2.heap.size ≤ y.1 ∧ Fine y.2.2) := ⟨hy, hyl, hyf⟩
    clear hx hy hyl hyf
    clear hHeld
    refine hK.out _ _ trivial (fun hHeld => ?_)
    clear hK K
    try simp only [Act.put, List.setIfInBounds_toArray, List.set_cons_zero, List.set_cons_succ]
    
    refine wpAnyH_ready (rs := [1, 4]) (by kernel_rfl) (by simp) ?_
    refine AllReadyH.cons (o := { dst := some 16, op := Op.load 40 (Operand.tmp 15), type := 40, pos := "l06_chain.go:79", after := #[{ on := 0, ground := Ground.data }], guard := none }) rfl (fun K hK => ?_) ?_
    ·
      have cD : wyc.cell? ⟨X, 1, none⟩ = some (.slice (some ⟨M, 0, none⟩) rs.length cap) := (HXc.out.bX).cell 1
      go_simp
      clear cD
      clear hHeld
      refine hK.out _ _ trivial (fun hHeld => ?_)
      clear hK K
      try simp only [Act.put, List.setIfInBounds_toArray, List.set_cons_zero, List.set_cons_succ]
      
      refine wpAnyH_ready (rs := [4]) (by kernel_rfl) (by simp) ?_
      refine AllReadyH.cons (o := { dst := some 19, op := Op.buildSlice 40 1 #[(0, Operand.tmp 18)], type := 40, pos := "l06_chain.go:79", after := #[{ on := 3, ground := Ground.data }], guard := none }) rfl (fun K hK => ?_) AllReadyH.nil
      go_simp
      clear hHeld
      refine hK.out _ _ trivial (fun hHeld => ?_)
      clear hK K
      try simp only [Act.put, List.setIfInBounds_toArray, List.set_cons_zero, List.set_cons_succ]
      
      refine wpAnyH_ready (rs := [5]) (by kernel_rfl) (by simp) ?_
      refine AllReadyH.cons (o := { dst := some 20, op := Op.call { callee := Callee.builtin Builtin.append, args := #[Operand.tmp 16, Operand.tmp 19], argTypes := #[40, 40] }, type := 40, pos := "l06_chain.go:79", after := #[{ on := 1, ground := Ground.data }, { on := 4, ground := Ground.data }, { on := 3, ground := Ground.chain }], guard := none }) rfl (fun K hK => ?_) AllReadyH.nil
      have hXd : XSt w c X f (wyc.alloc (.cells #[.slice (some ⟨y.1, 0, none⟩) y.2.2.l.length y.2.1, .int .i64 y.2.2.s, .int .i64 y.2.2.e, .string y.2.2.n] 29)) (.slice (some ⟨M, 0, none⟩) rs.length cap) M cap rs := HXc.out.grow (Go.Joins.below_alloc1 wyc _)
      obtain ⟨xs, hox, hxl, hxs⟩ := hXd.ab.own
      refine step_appB rfl _ _ 40 rfl 29 i0 (.agg #[.slice none 0 0, .int .i64 0, .int .i64 0, .string ByteArray.empty]) 4 56 Tryz.underlying40 hi hz0 hz1 hz2 rfl (by decide) (w.heap.size + 1) ?k12b (.slice (some ⟨M, 0, none⟩) rs.length cap) rs.length xs rfl hox ⟨wyc.heap.size, 0, none⟩ 1 1 (rowV y) rfl rfl (blk_news (Blk.new _ _ _)) (row_one _) ?k12c ?k12d ?_
      case k12b => have := hXd.ord; omega
      case k12c => unfold maxLen; omega
      case k12d => omega
      intro v' wya hown hg hat
      obtain ⟨M3, c3, e3, hXA⟩ := hXd.app (HY.out.1.grow (Go.Joins.below_alloc1 wyc _)) HY.out.2.2 (fun x hx => by have := (HX.out.ab.rows x hx).lt; have := HY.out.2.1; omega) hxl hxs hown hg
      subst e3
      have HXA : Hid (XSt w c X f wya (.slice (some ⟨M, 0, none⟩) rs.length cap) M3 c3 (rs ++ [y])) := hXA
      clear hown hg hat hXA hXd hox hxl hxs
      clear hHeld
      refine hK.out _ _ trivial (fun hHeld => ?_)
      clear hK K
      try simp only [Act.put, List.setIfInBounds_toArray, List.set_cons_zero, List.set_cons_succ]
      
      refine wpAnyH_take (i := 6) (oi := { dst := some 21, op := Op.fieldAddr 96 (Operand.tmp 3) 1, type := 0, pos := "l06_chain.go:79", after := #[{ on := 0, ground := Ground.phase }, { on := 1, ground := Ground.phase }, { on := 2, ground := Ground.phase }, { on := 3, ground := Ground.phase }, { on := 4, ground := Ground.phase }, { on := 5, ground := Ground.phase }], guard := none }) (v := ?vd113) rfl (by kernel_rfl) (by kernel_rfl) (by kernel_rfl) (fun _ _ _ h => h) (Or.inl ⟨by rfl, ?hyd113⟩) hHeld ?_
      case hyd113 => (intro w hSw; (try dsimp only at hSw); go_simp <;> with_reducible rfl)
      try simp only [Act.put, List.setIfInBounds_toArray, List.set_cons_zero, List.set_cons_succ]
      refine wpAnyH_ready (rs := [7]) (by kernel_rfl) (by simp) ?_
      refine AllReadyH.cons (o := { dst := none, op := Op.store 40 (Operand.tmp 21) (Operand.tmp 20), type := 0, pos := "l06_chain.go:79", after := #[{ on := 6, ground := Ground.data }, { on := 5, ground := Ground.data }, { on := 5, ground := Ground.chain }, { on := 0, ground := Ground.phase }, { on := 1, ground := Ground.phase }, { on := 2, ground := Ground.phase }, { on := 3, ground := Ground.phase }, { on := 4, ground := Ground.phase }, { on := 5, ground := Ground.phase }], guard := none }) rfl (fun K hK => ?_) AllReadyH.nil
      have cD : wya.cell? ⟨X, 1, none⟩ = some (.slice (some ⟨M, 0, none⟩) rs.length cap) := HXA.out.bX.cell 1
      have fD := HXA.out.bX.frozen 1
      go_simp
      clear cD fD
      clear hHeld
      refine hK.out _ _ trivial (fun hHeld => ?_)
      clear hK K
      try simp only [Act.put, List.setIfInBounds_toArray, List.set_cons_zero, List.set_cons_succ]
      
      refine wpAnyH_done (by kernel_rfl) ?_ _
      have HXZ : Hid (XSt w c X f (wya.setCell ⟨X, 1, none⟩ (.slice (some ⟨M3, 0, none⟩) (rs.length + 1) c3)) (.slice (some ⟨M3, 0, none⟩) (rs.length + 1) c3) M3 c3 (rs ++ [y])) := HXA.out.setL _
      clear hHeld HXA HXc HY
      generalize wya.setCell ⟨X, 1, none⟩ (.slice (some ⟨M3, 0, none⟩) (rs.length + 1) c3) = W3 at *
      have r0 : W3.cell? ⟨w.heap.size, 0, none⟩ = some (.int .i64 0) := HXZ.out.bR.cell 0
      have r1 : W3.cell? ⟨w.heap.size, 1, none⟩ = some (.slice none 0 0) := HXZ.out.bR.cell 1
      have f0 := HXZ.out.bR.frozen 0
      have f1 := HXZ.out.bR.frozen 1
      have x0 : W3.cell? ⟨X, 0, none⟩ = some (.int .i64 f) := HXZ.out.bX.cell 0
      have x1 : W3.cell? ⟨X, 1, none⟩ = some (.slice (some ⟨M3, 0, none⟩) (rs.length + 1) c3) := HXZ.out.bX.cell 1
      go_wp2
      have hs : Blk ((W3.setCell ⟨w.heap.size, 0, none⟩ (.int .i64 f)).setCell ⟨w.heap.size, 1, none⟩ (.slice (some ⟨M3, 0, none⟩) (rs.length + 1) c3)) w.heap.size #[.int .i64 f, .slice (some ⟨M3, 0, none⟩) (rs.length + 1) c3] 96 := (HXZ.out.bR.set 0 _).set 1 _
      have s0 := hs.cell 0
      have s1 := hs.cell 1
      refine bodyPost_ret (v := .agg #[.int .i64 f, .slice (some ⟨M3, 0, none⟩) (rs.length + 1) c3]) (by simp [results, Tryz.results117, go_sem, s0, s1]) rfl ?_
      exact ⟨f, M3, c3, rs ++ [y], retA (by simp), HXZ.out.fin _ _, by simp; omega, HFB.out⟩
    refine AllReadyH.cons (o := { dst := some 19, op := Op.buildSlice 40 1 #[(0, Operand.tmp 18)], type := 40, pos := "l06_chain.go:79", after := #[{ on := 3, ground := Ground.data }], guard := none }) rfl (fun K hK => ?_) AllReadyH.nil
    go_simp
    clear hHeld
    refine hK.out _ _ trivial (fun hHeld => ?_)
    clear hK K
    try simp only [Act.put, List.setIfInBounds_toArray, List.set_cons_zero, List.set_cons_succ]
    
    refine wpAnyH_ready (rs := [1]) (by kernel_rfl) (by simp) ?_
    refine AllReadyH.cons (o := { dst := some 16, op := Op.load 40 (Operand.tmp 15), type := 40, pos := "l06_chain.go:79", after := #[{ on := 0, ground := Ground.data }], guard := none }) rfl (fun K hK => ?_) AllReadyH.nil
    have cD : (wyc.alloc (.cells #[.slice (some ⟨y.1, 0, none⟩) y.2.2.l.length y.2.1, .int .i64 y.2.2.s, .int .i64 y.2.2.e, .string y.2.2.n] 29)).cell? ⟨X, 1, none⟩ = some (.slice (some ⟨M, 0, none⟩) rs.length cap) := ((HXc.out.bX.alloc _)).cell 1
    go_simp
    clear cD
    clear hHeld
    refine hK.out _ _ trivial (fun hHeld => ?_)
    clear hK K
    try simp only [Act.put, List.setIfInBounds_toArray, List.set_cons_zero, List.set_cons_succ]
    
    refine wpAnyH_ready (rs := [5]) (by kernel_rfl) (by simp) ?_
    refine AllReadyH.cons (o := { dst := some 20, op := Op.call { callee := Callee.builtin Builtin.append, args := #[Operand.tmp 16, Operand.tmp 19], argTypes := #[40, 40] }, type := 40, pos := "l06_chain.go:79", after := #[{ on := 1, ground := Ground.data }, { on := 4, ground := Ground.data }, { on := 3, ground := Ground.chain }], guard := none }) rfl (fun K hK => ?_) AllReadyH.nil
    have hXd : XSt w c X f (wyc.alloc (.cells #[.slice (some ⟨y.1, 0, none⟩) y.2.2.l.length y.2.1, .int .i64 y.2.2.s, .int .i64 y.2.2.e, .string y.2.2.n] 29)) (.slice (some ⟨M, 0, none⟩) rs.length cap) M cap rs := HXc.out.grow (Go.Joins.below_alloc1 wyc _)
    obtain ⟨xs, hox, hxl, hxs⟩ := hXd.ab.own
    refine step_appB rfl _ _ 40 rfl 29 i0 (.agg #[.slice none 0 0, .int .i64 0, .int .i64 0, .string ByteArray.empty]) 4 56 Tryz.underlying40 hi hz0 hz1 hz2 rfl (by decide) (w.heap.size + 1) ?k13b (.slice (some ⟨M, 0, none⟩) rs.length cap) rs.length xs rfl hox ⟨wyc.heap.size, 0, none⟩ 1 1 (rowV y) rfl rfl (blk_news (Blk.new _ _ _)) (row_one _) ?k13c ?k13d ?_
    case k13b => have := hXd.ord; omega
    case k13c => unfold maxLen; omega
    case k13d => omega
    intro v' wya hown hg hat
    obtain ⟨M3, c3, e3, hXA⟩ := hXd.app (HY.out.1.grow (Go.Joins.below_alloc1 wyc _)) HY.out.2.2 (fun x hx => by have := (HX.out.ab.rows x hx).lt; have := HY.out.2.1; omega) hxl hxs hown hg
    subst e3
    have HXA : Hid (XSt w c X f wya (.slice (some ⟨M, 0, none⟩) rs.length cap) M3 c3 (rs ++ [y])) := hXA
    clear hown hg hat hXA hXd hox hxl hxs
    clear hHeld
    refine hK.out _ _ trivial (fun hHeld => ?_)
    clear hK K
    try simp only [Act.put, List.setIfInBounds_toArray, List.set_cons_zero, List.set_cons_succ]
    
    refine wpAnyH_take (i := 6) (oi := { dst := some 21, op := Op.fieldAddr 96 (Operand.tmp 3) 1, type := 0, pos := "l06_chain.go:79", after := #[{ on := 0, ground := Ground.phase }, { on := 1, ground := Ground.phase }, { on := 2, ground := Ground.phase }, { on := 3, ground := Ground.phase }, { on := 4, ground := Ground.phase }, { on := 5, ground := Ground.phase }], guard := none }) (v := ?vd118) rfl (by kernel_rfl) (by kernel_rfl) (by kernel_rfl) (fun _ _ _ h => h) (Or.inl ⟨by rfl, ?hyd118⟩) hHeld ?_
    case hyd118 => (intro w hSw; (try dsimp only at hSw); go_simp <;> with_reducible rfl)
    try simp only [Act.put, List.setIfInBounds_toArray, List.set_cons_zero, List.set_cons_succ]
    refine wpAnyH_ready (rs := [7]) (by kernel_rfl) (by simp) ?_
    refine AllReadyH.cons (o := { dst := none, op := Op.store 40 (Operand.tmp 21) (Operand.tmp 20), type := 0, pos := "l06_chain.go:79", after := #[{ on := 6, ground := Ground.data }, { on := 5, ground := Ground.data }, { on := 5, ground := Ground.chain }, { on := 0, ground := Ground.phase }, { on := 1, ground := Ground.phase }, { on := 2, ground := Ground.phase }, { on := 3, ground := Ground.phase }, { on := 4, ground := Ground.phase }, { on := 5, ground := Ground.phase }], guard := none }) rfl (fun K hK => ?_) AllReadyH.nil
    have cD : wya.cell? ⟨X, 1, none⟩ = some (.slice (some ⟨M, 0, none⟩) rs.length cap) := HXA.out.bX.cell 1
    have fD := HXA.out.bX.frozen 1
    go_simp
    clear cD fD
    clear hHeld
    refine hK.out _ _ trivial (fun hHeld => ?_)
    clear hK K
    try simp only [Act.put, List.setIfInBounds_toArray, List.set_cons_zero, List.set_cons_succ]
    
    refine wpAnyH_done (by kernel_rfl) ?_ _
    have HXZ : Hid (XSt w c X f (wya.setCell ⟨X, 1, none⟩ (.slice (some ⟨M3, 0, none⟩) (rs.length + 1) c3)) (.slice (some ⟨M3, 0, none⟩) (rs.length + 1) c3) M3 c3 (rs ++ [y])) := HXA.out.setL _
    clear hHeld HXA HXc HY
    generalize wya.setCell ⟨X, 1, none⟩ (.slice (some ⟨M3, 0, none⟩) (rs.length + 1) c3) = W3 at *
    have r0 : W3.cell? ⟨w.heap.size, 0, none⟩ = some (.int .i64 0) := HXZ.out.bR.cell 0
    have r1 : W3.cell? ⟨w.heap.size, 1, none⟩ = some (.slice none 0 0) := HXZ.out.bR.cell 1
    have f0 := HXZ.out.bR.frozen 0
    have f1 := HXZ.out.bR.frozen 1
    have x0 : W3.cell? ⟨X, 0, none⟩ = some (.int .i64 f) := HXZ.out.bX.cell 0
    have x1 : W3.cell? ⟨X, 1, none⟩ = some (.slice (some ⟨M3, 0, none⟩) (rs.length + 1) c3) := HXZ.out.bX.cell 1
    go_wp2
    have hs : Blk ((W3.setCell ⟨w.heap.size, 0, none⟩ (.int .i64 f)).setCell ⟨w.heap.size, 1, none⟩ (.slice (some ⟨M3, 0, none⟩) (rs.length + 1) c3)) w.heap.size #[.int .i64 f, .slice (some ⟨M3, 0, none⟩) (rs.length + 1) c3] 96 := (HXZ.out.bR.set 0 _).set 1 _
    have s0 := hs.cell 0
    have s1 := hs.cell 1
    refine bodyPost_ret (v := .agg #[.int .i64 f, .slice (some ⟨M3, 0, none⟩) (rs.length + 1) c3]) (by simp [results, Tryz.results117, go_sem, s0, s1]) rfl ?_
    exact ⟨f, M3, c3, rs ++ [y], retA (by simp), HXZ.out.fin _ _, by simp; omega, HFB.out⟩
  have d1' : (z == 1) = false := by simpa using e1
  by_cases e2 : z = 2
  · subst e2
    obtain ⟨cu, hcu, hcs, h4⟩ := HX.out.ab.outer
    have h40 := h4 0 hr0
    unfold Four at h40
    have HAl : Hid (w2.drew.cell? ⟨M, 0, none⟩ = some (.slice (some ⟨(nthA rs 0).1, 0, none⟩) (nthA rs 0).2.2.l.length (nthA rs 0).2.1) ∧ w2.drew.cell? ⟨M, 1, none⟩ = some (.int .i64 (nthA rs 0).2.2.s) ∧ w2.drew.cell? ⟨M, 2, none⟩ = some (.int .i64 (nthA rs 0).2.2.e) ∧ w2.drew.cell? ⟨M, 3, none⟩ = some (.string (nthA rs 0).2.2.n)) := ⟨(hcu.drew.cell 0).trans h40.1, (hcu.drew.cell 1).trans h40.2.1, (hcu.drew.cell 2).trans h40.2.2.1, (hcu.drew.cell 3).trans h40.2.2.2⟩
    clear h40 h4 hcs hcu
    have hri : (0 : Int) < (rs.length : Int) := by omega
    have HC : Hid (Calls Tryz.prog 73 #[.agg #[.slice (some ⟨(nthA rs 0).1, 0, none⟩) (nthA rs 0).2.2.l.length (nthA rs 0).2.1, .int .i64 (nthA rs 0).2.2.s, .int .i64 (nthA rs 0).2.2.e, .string (nthA rs 0).2.2.n]] w2.drew fun r w' => ∃ y : ARow, r = .returned (.agg #[.slice (some ⟨y.1, 0, none⟩) y.2.2.l.length y.2.1, .int .i64 y.2.2.s, .int .i64 y.2.2.e, .string y.2.2.n]) ∧ XSt w c X f w' (.slice (some ⟨M, 0, none⟩) rs.length cap) M cap rs ∧ OwnA (w.heap.size + 1) w' y ∧ w2.heap.size ≤ y.1 ∧ Fine y.2.2) := by
      have ho := HX.out.ab.rows _ (nthA_mem hr0)
      have hfi : Fine (nthA rs 0).2.2 := by rw [← pals_nth hr0]; exact HX.out.fine _ (nthP_mem (by rw [pals_len]; exact hr0))
      exact (copyS_any _ _ _ _ _ _ _ w2.drew (reads_drew ho.reads) ho.2.1).mono fun r w' ⟨⟨Mx, cx, hr, hO⟩, hb⟩ => ⟨(Mx, cx, (nthA rs 0).2.2), hr, HX.out.grow (grow_on ((Below.refl _ _).drew) hb), (own_of_copy hO ho.2.1).down (by have := HX.out.ord; show _ ≤ w2.drew.heap.size; simp; omega), hO.1, hfi⟩
    go_upto_region 8 with fail
    refine wp_region_held_drew (S := fun w' => True) (by kernel_rfl) trivial (fun hHeld => ?_)
    refine wpAnyH_take (i := 0) (oi := { dst := some 24, op := Op.fieldAddr 96 (Operand.tmp 3) 1, type := 0, pos := "l06_chain.go:81", after := #[], guard := none }) (v := ?vd21) rfl (by kernel_rfl) (by kernel_rfl) (by kernel_rfl) (fun _ _ _ h => h) (Or.inl ⟨by rfl, ?hyd21⟩) hHeld ?_
    case hyd21 => (intro w hSw; (try dsimp only at hSw); go_simp <;> with_reducible rfl)
    try simp only [Act.put, List.setIfInBounds_toArray, List.set_cons_zero, List.set_cons_succ]
    refine wpAnyH_take (i := 2) (oi := { dst := some 26, op := Op.fieldAddr 96 (Operand.tmp 3) 1, type := 0, pos := "l06_chain.go:81", after := #[], guard := none }) (v := ?vd22) rfl (by kernel_rfl) (by kernel_rfl) (by kernel_rfl) (fun _ _ _ h => h) (Or.inl ⟨by rfl, ?hyd22⟩) hHeld ?_
    case hyd22 => (intro w hSw; (try dsimp only at hSw); go_simp <;> with_reducible rfl)
    try simp only [Act.put, List.setIfInBounds_toArray, List.set_cons_zero, List.set_cons_succ]
    refine wpAnyH_ready (rs := [1, 3]) (by kernel_rfl) (by simp) ?_
    refine AllReadyH.cons (o := { dst := some 25, op := Op.load 40 (Operand.tmp 24), type := 40, pos := "l06_chain.go:81", after := #[{ on := 0, ground := Ground.data }], guard := none }) rfl (fun K hK => ?_) ?_
    ·
      have cD : w2.drew.cell? ⟨X, 1, none⟩ = some (.slice (some ⟨M, 0, none⟩) rs.length cap) := (HX.out.bX.drew).cell 1
      go_simp
      clear cD
      clear hHeld
      refine hK.out _ _ trivial (fun hHeld => ?_)
      clear hK K
      try simp only [Act.put, List.setIfInBounds_toArray, List.set_cons_zero, List.set_cons_succ]
      
      refine wpAnyH_ready (rs := [3]) (by kernel_rfl) (by simp) ?_
      refine AllReadyH.cons (o := { dst := some 27, op := Op.load 40 (Operand.tmp 26), type := 40, pos := "l06_chain.go:81", after := #[{ on := 2, ground := Ground.data }], guard := none }) rfl (fun K hK => ?_) AllReadyH.nil
      have cD : w2.drew.cell? ⟨X, 1, none⟩ = some (.slice (some ⟨M, 0, none⟩) rs.length cap) := (HX.out.bX.drew).cell 1
      go_simp
      clear cD
      clear hHeld
      refine hK.out _ _ trivial (fun hHeld => ?_)
      clear hK K
      try simp only [Act.put, List.setIfInBounds_toArray, List.set_cons_zero, List.set_cons_succ]
      
      refine wpAnyH_take (i := 4) (oi := { dst := some 28, op := Op.indexAddr 40 (Operand.tmp 27) (Operand.const (Value.int IntKind.i64 0)), type := 0, pos := "l06_chain.go:81", after := #[{ on := 3, ground := Ground.data }], guard := none }) (v := ?vd25) rfl (by kernel_rfl) (by kernel_rfl) (by kernel_rfl) (fun _ _ _ h => h) (Or.inl ⟨by rfl, ?hyd25⟩) hHeld ?_
      case hyd25 => (intro w hSw; (try dsimp only at hSw); go_simp <;> with_reducible rfl)
      try simp only [Act.put, List.setIfInBounds_toArray, List.set_cons_zero, List.set_cons_succ]
      refine wpAnyH_ready (rs := [5]) (by kernel_rfl) (by simp) ?_
      refine AllReadyH.cons (o := { dst := some 29, op := Op.load 29 (Operand.tmp 28), type := 29, pos := "l06_chain.go:81", after := #[{ on := 4, ground := Ground.data }], guard := none }) rfl (fun K hK => ?_) AllReadyH.nil
      have y0 := HAl.out.1
      have y1 := HAl.out.2.1
      have y2 := HAl.out.2.2.1
      have y3 := HAl.out.2.2.2
      go_simp
      clear y0 y1 y2 y3
      clear hHeld
      refine hK.out _ _ trivial (fun hHeld => ?_)
      clear hK K
      try simp only [Act.put, List.setIfInBounds_toArray, List.set_cons_zero, List.set_cons_succ]
      
      refine wpAnyH_ready (rs := [6]) (by kernel_rfl) (by simp) ?_
      refine AllReadyH.cons (o := { dst := some 30, op := Op.call { callee := Callee.value (Operand.func 73), args := #[Operand.tmp 29], argTypes := #[29] }, type := 29, pos := "l06_chain.go:81", after := #[{ on := 5, ground := Ground.data }], guard := none }) rfl (fun K hK => ?_) AllReadyH.nil
      go_simp
      refine HC.out.mono ?_
      rintro r wyc ⟨y, rfl, hx, hy, hyl, hyf⟩
      have HXc : Hid (XSt w c X f wyc (.slice (some ⟨M, 0, none⟩) rs.length cap) M cap rs) := hx
      have HY : Hid (OwnA (w.heap.size + 1) wyc y ∧ w2.heap.size ≤ y.1 ∧ Fine y.2.2) := ⟨hy, hyl, hyf⟩
      clear hx hy hyl hyf
      clear hHeld
      refine hK.out _ _ trivial (fun hHeld => ?_)
      clear hK K
      try simp only [Act.put, List.setIfInBounds_toArray, List.set_cons_zero, List.set_cons_succ]
      
      refine wpAnyH_ready (rs := [7]) (by kernel_rfl) (by simp) ?_
      refine AllReadyH.cons (o := { dst := some 31, op := Op.buildSlice 40 1 #[(0, Operand.tmp 30)], type := 40, pos := "l06_chain.go:81", after := #[{ on := 6, ground := Ground.data }], guard := none }) rfl (fun K hK => ?_) AllReadyH.nil
      go_simp
      clear hHeld
      refine hK.out _ _ trivial (fun hHeld => ?_)
      clear hK K
      try simp only [Act.put, List.setIfInBounds_toArray, List.set_cons_zero, List.set_cons_succ]
      
      refine wpAnyH_ready (rs := [8]) (by kernel_rfl) (by simp) ?_
      refine AllReadyH.cons (o := { dst := some 32, op := Op.call { callee := Callee.builtin Builtin.append, args := #[Operand.tmp 25, Operand.tmp 31], argTypes := #[40, 40] }, type := 40, pos := "l06_chain.go:81", after := #[{ on := 1, ground := Ground.data }, { on := 7, ground := Ground.data }, { on := 6, ground := Ground.chain }], guard := none }) rfl (fun K hK => ?_) AllReadyH.nil
      have hXd : XSt w c X f (wyc.alloc (.cells #[.slice (some ⟨y.1, 0, none⟩) y.2.2.l.length y.2.1, .int .i64 y.2.2.s, .int .i64 y.2.2.e, .string y.2.2.n] 29)) (.slice (some ⟨M, 0, none⟩) rs.length cap) M cap rs := HXc.out.grow (Go.Joins.below_alloc1 wyc _)
      obtain ⟨xs, hox, hxl, hxs⟩ := hXd.ab.own
      refine step_appB rfl _ _ 40 rfl 29 i0 (.agg #[.slice none 0 0, .int .i64 0, .int .i64 0, .string ByteArray.empty]) 4 56 Tryz.underlying40 hi hz0 hz1 hz2 rfl (by decide) (w.heap.size + 1) ?k21b (.slice (some ⟨M, 0, none⟩) rs.length cap) rs.length xs rfl hox ⟨wyc.heap.size, 0, none⟩ 1 1 (rowV y) rfl rfl (blk_news (Blk.new _ _ _)) (row_one _) ?k21c ?k21d ?_
      case k21b => have := hXd.ord; omega
      case k21c => unfold maxLen; omega
      case k21d => omega
      intro v' wya hown hg hat
      obtain ⟨M3, c3, e3, hXA⟩ := hXd.app (HY.out.1.grow (Go.Joins.below_alloc1 wyc _)) HY.out.2.2 (fun x hx => by have := (HX.out.ab.rows x hx).lt; have := HY.out.2.1; omega) hxl hxs hown hg
      subst e3
      have HXA : Hid (XSt w c X f wya (.slice (some ⟨M, 0, none⟩) rs.length cap) M3 c3 (rs ++ [y])) := hXA
      clear hown hg hat hXA hXd hox hxl hxs
      clear hHeld
      refine hK.out _ _ trivial (fun hHeld => ?_)
      clear hK K
      try simp only [Act.put, List.setIfInBounds_toArray, List.set_cons_zero, List.set_cons_succ]
      
      refine wpAnyH_take (i := 9) (oi := { dst := some 33, op := Op.fieldAddr 96 (Operand.tmp 3) 1, type := 0, pos := "l06_chain.go:81", after := #[{ on := 0, ground := Ground.phase }, { on := 1, ground := Ground.phase }, { on := 2, ground := Ground.phase }, { on := 3, ground := Ground.phase }, { on := 4, ground := Ground.phase }, { on := 5, ground := Ground.phase }, { on := 6, ground := Ground.phase }, { on := 7, ground := Ground.phase }, { on := 8, ground := Ground.phase }], guard := none }) (v := ?vd210) rfl (by kernel_rfl) (by kernel_rfl) (by kernel_rfl) (fun _ _ _ h => h) (Or.inl ⟨by rfl, ?hyd210⟩) hHeld ?_
      case hyd210 => (intro w hSw; (try dsimp only at hSw); go_simp <;> with_reducible rfl)
      try simp only [Act.put, List.setIfInBounds_toArray, List.set_cons_zero, List.set_cons_succ]
      refine wpAnyH_ready (rs := [10]) (by kernel_rfl) (by simp) ?_
      refine AllReadyH.cons (o := { dst := none, op := Op.store 40 (Operand.tmp 33) (Operand.tmp 32), type := 0, pos := "l06_chain.go:81", after := #[{ on := 9, ground := Ground.data }, { on := 8, ground := Ground.data }, { on := 8, ground := Ground.chain }, { on := 0, ground := Ground.phase }, { on := 1, ground := Ground.phase }, { on := 2, ground := Ground.phase }, { on := 3, ground := Ground.phase }, { on := 4, ground := Ground.phase }, { on := 5, ground := Ground.phase }, { on := 6, ground := Ground.phase }, { on := 7, ground := Ground.phase }, { on := 8, ground := Ground.phase }], guard := none }) rfl (fun K hK => ?_) AllReadyH.nil
      have cD : wya.cell? ⟨X, 1, none⟩ = some (.slice (some ⟨M, 0, none⟩) rs.length cap) := HXA.out.bX.cell 1
      have fD := HXA.out.bX.frozen 1
      go_simp
      clear cD fD
      clear hHeld
      refine hK.out _ _ trivial (fun hHeld => ?_)
      clear hK K
      try simp only [Act.put, List.setIfInBounds_toArray, List.set_cons_zero, List.set_cons_succ]
      
      refine wpAnyH_done (by kernel_rfl) ?_ _
      have HXZ : Hid (XSt w c X f (wya.setCell ⟨X, 1, none⟩ (.slice (some ⟨M3, 0, none⟩) (rs.length + 1) c3)) (.slice (some ⟨M3, 0, none⟩) (rs.length + 1) c3) M3 c3 (rs ++ [y])) := HXA.out.setL _
      clear hHeld HXA HXc HY
      generalize wya.setCell ⟨X, 1, none⟩ (.slice (some ⟨M3, 0, none⟩) (rs.length + 1) c3) = W3 at *
      have r0 : W3.cell? ⟨w.heap.size, 0, none⟩ = some (.int .i64 0) := HXZ.out.bR.cell 0
      have r1 : W3.cell? ⟨w.heap.size, 1, none⟩ = some (.slice none 0 0) := HXZ.out.bR.cell 1
      have f0 := HXZ.out.bR.frozen 0
      have f1 := HXZ.out.bR.frozen 1
      have x0 : W3.cell? ⟨X, 0, none⟩ = some (.int .i64 f) := HXZ.out.bX.cell 0
      have x1 : W3.cell? ⟨X, 1, none⟩ = some (.slice (some ⟨M3, 0, none⟩) (rs.length + 1) c3) := HXZ.out.bX.cell 1
      go_wp2
      have hs : Blk ((W3.setCell ⟨w.heap.size, 0, none⟩ (.int .i64 f)).setCell ⟨w.heap.size, 1, none⟩ (.slice (some ⟨M3, 0, none⟩) (rs.length + 1) c3)) w.heap.size #[.int .i64 f, .slice (some ⟨M3, 0, none⟩) (rs.length + 1) c3] 96 := (HXZ.out.bR.set 0 _).set 1 _
      have s0 := hs.cell 0
      have s1 := hs.cell 1
      refine bodyPost_ret (v := .agg #[.int .i64 f, .slice (some ⟨M3, 0, none⟩) (rs.length + 1) c3]) (by simp [results, Tryz.results117, go_sem, s0, s1]) rfl ?_
      exact ⟨f, M3, c3, rs ++ [y], retA (by simp), HXZ.out.fin _ _, by simp; omega, HFB.out⟩
    refine AllReadyH.cons (o := { dst := some 27, op := Op.load 40 (Operand.tmp 26), type := 40, pos := "l06_chain.go:81", after := #[{ on := 2, ground := Ground.data }], guard := none }) rfl (fun K hK => ?_) AllReadyH.nil
    have cD : w2.drew.cell? ⟨X, 1, none⟩ = some (.slice (some ⟨M, 0, none⟩) rs.length cap) := (HX.out.bX.drew).cell 1
    go_simp
    clear cD
    clear hHeld
    refine hK.out _ _ trivial (fun hHeld => ?_)
    clear hK K
    try simp only [Act.put, List.setIfInBounds_toArray, List.set_cons_zero, List.set_cons_succ]
    
    refine wpAnyH_take (i := 4) (oi := { dst := some 28, op := Op.indexAddr 40 (Operand.tmp 27) (Operand.const (Value.int IntKind.i64 0)), type := 0, pos := "l06_chain.go:81", after := #[{ on := 3, ground := Ground.data }], guard := none }) (v := ?vd213) rfl (by kernel_rfl) (by kernel_rfl) (by kernel_rfl) (fun _ _ _ h => h) (Or.inl ⟨by rfl, ?hyd213⟩) hHeld ?_
    case hyd213 => (intro w hSw; (try dsimp only at hSw); go_simp <;> with_reducible rfl)
    try simp only [Act.put, List.setIfInBounds_toArray, List.set_cons_zero, List.set_cons_succ]
    refine wpAnyH_ready (rs := [1, 5]) (by kernel_rfl) (by simp) ?_
    refine AllReadyH.cons (o := { dst := some 25, op := Op.load 40 (Operand.tmp 24), type := 40, pos := "l06_chain.go:81", after := #[{ on := 0, ground := Ground.data }], guard := none }) rfl (fun K hK => ?_) ?_
    ·
      have cD : w2.drew.cell? ⟨X, 1, none⟩ = some (.slice (some ⟨M, 0, none⟩) rs.length cap) := (HX.out.bX.drew).cell 1
      go_simp
      clear cD
      clear hHeld
      refine hK.out _ _ trivial (fun hHeld => ?_)
      clear hK K
      try simp only [Act.put, List.setIfInBounds_toArray, List.set_cons_zero, List.set_cons_succ]
      
      refine wpAnyH_ready (rs := [5]) (by kernel_rfl) (by simp) ?_
      refine AllReadyH.cons (o := { dst := some 29, op := Op.load 29 (Operand.tmp 28), type := 29, pos := "l06_chain.go:81", after := #[{ on := 4, ground := Ground.data }], guard := none }) rfl (fun K hK => ?_) AllReadyH.nil
      have y0 := HAl.out.1
      have y1 := HAl.out.2.1
      have y2 := HAl.out.2.2.1
      have y3 := HAl.out.2.2.2
      go_simp
      clear y0 y1 y2 y3
      clear hHeld
      refine hK.out _ _ trivial (fun hHeld => ?_)
      clear hK K
      try simp only [Act.put, List.setIfInBounds_toArray, List.set_cons_zero, List.set_cons_succ]
      
      refine wpAnyH_ready (rs := [6]) (by kernel_rfl) (by simp) ?_
      refine AllReadyH.cons (o := { dst := some 30, op := Op.call { callee := Callee.value (Operand.func 73), args := #[Operand.tmp 29], argTypes := #[29] }, type := 29, pos := "l06_chain.go:81", after := #[{ on := 5, ground := Ground.data }], guard := none }) rfl (fun K hK => ?_) AllReadyH.nil
      go_simp
      refine HC.out.mono ?_
      rintro r wyc ⟨y, rfl, hx, hy, hyl, hyf⟩
      have HXc : Hid (XSt w c X f wyc (.slice (some ⟨M, 0, none⟩) rs.length cap) M cap rs) := hx
      have HY : Hid (OwnA (w.heap.size + 1) wyc y ∧ w2.heap.size ≤ y.1 ∧ Fine y.2.2) := ⟨hy, hyl, hyf⟩
      clear hx hy hyl hyf
      clear hHeld
      refine hK.out _ _ trivial (fun hHeld => ?_)
      clear hK K
      try simp only [Act.put, List.setIfInBounds_toArray, List.set_cons_zero, List.set_cons_succ]
      
      refine wpAnyH_ready (rs := [7]) (by kernel_rfl) (by simp) ?_
      refine AllReadyH.cons (o := { dst := some 31, op := Op.buildSlice 40 1 #[(0, Operand.tmp 30)], type := 40, pos := "l06_chain.go:81", after := #[{ on := 6, ground := Ground.data }], guard := none }) rfl (fun K hK => ?_) AllReadyH.nil
      go_simp
      clear hHeld
      refine hK.out _ _ trivial (fun hHeld => ?_)
      clear hK K
      try simp only [Act.put, List.setIfInBounds_toArray, List.set_cons_zero, List.set_cons_succ]
      
      refine wpAnyH_ready (rs := [8]) (by kernel_rfl) (by simp) ?_
      refine AllReadyH.cons (o := { dst := some 32, op := Op.call { callee := Callee.builtin Builtin.append, args := #[Operand.tmp 25, Operand.tmp 31], argTypes := #[40, 40] }, type := 40, pos := "l06_chain.go:81", after := #[{ on := 1, ground := Ground.data }, { on := 7, ground := Ground.data }, { on := 6, ground := Ground.chain }], guard := none }) rfl (fun K hK => ?_) AllReadyH.nil
      have hXd : XSt w c X f (wyc.alloc (.cells #[.slice (some ⟨y.1, 0, none⟩) y.2.2.l.length y.2.1, .int .i64 y.2.2.s, .int .i64 y.2.2.e, .string y.2.2.n] 29)) (.slice (some ⟨M, 0, none⟩) rs.length cap) M cap rs := HXc.out.grow (Go.Joins.below_alloc1 wyc _)
      obtain ⟨xs, hox, hxl, hxs⟩ := hXd.ab.own
      refine step_appB rfl _ _ 40 rfl 29 i0 (.agg #[.slice none 0 0, .int .i64 0, .int .i64 0, .string ByteArray.empty]) 4 56 Tryz.underlying40 hi hz0 hz1 hz2 rfl (by decide) (w.heap.size + 1) ?k22b (.slice (some ⟨M, 0, none⟩) rs.length cap) rs.length xs rfl hox ⟨wyc.heap.size, 0, none⟩ 1 1 (rowV y) rfl rfl (blk_news (Blk.new _ _ _)) (row_one _) ?k22c ?k22d ?_
      case k22b => have := hXd.ord; omega
      case k22c => unfold maxLen; omega
      case k22d => omega
      intro v' wya hown hg hat
      obtain ⟨M3, c3, e3, hXA⟩ := hXd.app (HY.out.1.grow (Go.Joins.below_alloc1 wyc _)) HY.out.2.2 (fun x hx => by have := (HX.out.ab.rows x hx).lt; have := HY.out.2.1; omega) hxl hxs hown hg
      subst e3
      have HXA : Hid (XSt w c X f wya (.slice (some ⟨M, 0, none⟩) rs.length cap) M3 c3 (rs ++ [y])) := hXA
      clear hown hg hat hXA hXd hox hxl hxs
      clear hHeld
      refine hK.out _ _ trivial (fun hHeld => ?_)
      clear hK K
      try simp only [Act.put, List.setIfInBounds_toArray, List.set_cons_zero, List.set_cons_succ]
      
      refine wpAnyH_take (i := 9) (oi := { dst := some 33, op := Op.fieldAddr 96 (Operand.tmp 3) 1, type := 0, pos := "l06_chain.go:81", after := #[{ on := 0, ground := Ground.phase }, { on := 1, ground := Ground.phase }, { on := 2, ground := Ground.phase }, { on := 3, ground := Ground.phase }, { on := 4, ground := Ground.phase }, { on := 5, ground := Ground.phase }, { on := 6, ground := Ground.phase }, { on := 7, ground := Ground.phase }, { on := 8, ground := Ground.phase }], guard := none }) (v := ?vd219) rfl (by kernel_rfl) (by kernel_rfl) (by kernel_rfl) (fun _ _ _ h => h) (Or.inl ⟨by rfl, ?hyd219⟩) hHeld ?_
      case hyd219 => (intro w hSw; (try dsimp only at hSw); go_simp <;> with_reducible rfl)
      try simp only [Act.put, List.setIfInBounds_toArray, List.set_cons_zero, List.set_cons_succ]
      refine wpAnyH_ready (rs := [10]) (by kernel_rfl) (by simp) ?_
      refine AllReadyH.cons (o := { dst := none, op := Op.store 40 (Operand.tmp 33) (Operand.tmp 32), type := 0, pos := "l06_chain.go:81", after := #[{ on := 9, ground := Ground.data }, { on := 8, ground := Ground.data }, { on := 8, ground := Ground.chain }, { on := 0, ground := Ground.phase }, { on := 1, ground := Ground.phase }, { on := 2, ground := Ground.phase }, { on := 3, ground := Ground.phase }, { on := 4, ground := Ground.phase }, { on := 5, ground := Ground.phase }, { on := 6, ground := Ground.phase }, { on := 7, ground := Ground.phase }, { on := 8, ground := Ground.phase }], guard := none }) rfl (fun K hK => ?_) AllReadyH.nil
      have cD : wya.cell? ⟨X, 1, none⟩ = some (.slice (some ⟨M, 0, none⟩) rs.length cap) := HXA.out.bX.cell 1
      have fD := HXA.out.bX.frozen 1
      go_simp
      clear cD fD
      clear hHeld
      refine hK.out _ _ trivial (fun hHeld => ?_)
      clear hK K
      try simp only [Act.put, List.setIfInBounds_toArray, List.set_cons_zero, List.set_cons_succ]
      
      refine wpAnyH_done (by kernel_rfl) ?_ _
      have HXZ : Hid (XSt w c X f (wya.setCell ⟨X, 1, none⟩ (.slice (some ⟨M3, 0, none⟩) (rs.length + 1) c3)) (.slice (some ⟨M3, 0, none⟩) (rs.length + 1) c3) M3 c3 (rs ++ [y])) := HXA.out.setL _
      clear hHeld HXA HXc HY
      generalize wya.setCell ⟨X, 1, none⟩ (.slice (some ⟨M3, 0, none⟩) (rs.length + 1) c3) = W3 at *
      have r0 : W3.cell? ⟨w.heap.size, 0, none⟩ = some (.int .i64 0) := HXZ.out.bR.cell 0
      have r1 : W3.cell? ⟨w.heap.size, 1, none⟩ = some (.slice none 0 0) := HXZ.out.bR.cell 1
      have f0 := HXZ.out.bR.frozen 0
      have f1 := HXZ.out.bR.frozen 1
      have x0 : W3.cell? ⟨X, 0, none⟩ = some (.int .i64 f) := HXZ.out.bX.cell 0
      have x1 : W3.cell? ⟨X, 1, none⟩ = some (.slice (some ⟨M3, 0, none⟩) (rs.length + 1) c3) := HXZ.out.bX.cell 1
      go_wp2
      have hs : Blk ((W3.setCell ⟨w.heap.size, 0, none⟩ (.int .i64 f)).setCell ⟨w.heap.size, 1, none⟩ (.slice (some ⟨M3, 0, none⟩) (rs.length + 1) c3)) w.heap.size #[.int .i64 f, .slice (some ⟨M3, 0, none⟩) (rs.length + 1) c3] 96 := (HXZ.out.bR.set 0 _).set 1 _
      have s0 := hs.cell 0
      have s1 := hs.cell 1
      refine bodyPost_ret (v := .agg #[.int .i64 f, .slice (some ⟨M3, 0, none⟩) (rs.length + 1) c3]) (by simp [results, Tryz.results117, go_sem, s0, s1]) rfl ?_
      exact ⟨f, M3, c3, rs ++ [y], retA (by simp), HXZ.out.fin _ _, by simp; omega, HFB.out⟩
    refine AllReadyH.cons (o := { dst := some 29, op := Op.load 29 (Operand.tmp 28), type := 29, pos := "l06_chain.go:81", after := #[{ on := 4, ground := Ground.data }], guard := none }) rfl (fun K hK => ?_) AllReadyH.nil
    have y0 := HAl.out.1
    have y1 := HAl.out.2.1
    have y2 := HAl.out.2.2.1
    have y3 := HAl.out.2.2.2
    go_simp
    clear y0 y1 y2 y3
    clear hHeld
    refine hK.out _ _ trivial (fun hHeld => ?_)
    clear hK K
    try simp only [Act.put, List.setIfInBounds_toArray, List.set_cons_zero, List.set_cons_succ]
    
    refine wpAnyH_ready (rs := [1, 6]) (by kernel_rfl) (by simp) ?_
    refine AllReadyH.cons (o := { dst := some 25, op := Op.load 40 (Operand.tmp 24), type := 40, pos := "l06_chain.go:81", after := #[{ on := 0, ground := Ground.data }], guard := none }) rfl (fun K hK => ?_) ?_
    ·
      have cD : w2.drew.cell? ⟨X, 1, none⟩ = some (.slice (some ⟨M, 0, none⟩) rs.length cap) := (HX.out.bX.drew).cell 1
      go_simp
      clear cD
      clear hHeld
      refine hK.out _ _ trivial (fun hHeld => ?_)
      clear hK K
      try simp only [Act.put, List.setIfInBounds_toArray, List.set_cons_zero, List.set_cons_succ]
      
      refine wpAnyH_ready (rs := [6]) (by kernel_rfl) (by simp) ?_
      refine AllReadyH.cons (o := { dst := some 30, op := Op.call { callee := Callee.value (Operand.func 73), args := #[Operand.tmp 29], argTypes := #[29] }, type := 29, pos := "l06_chain.go:81", after := #[{ on := 5, ground := Ground.data }], guard := none }) rfl (fun K hK => ?_) AllReadyH.nil
      go_simp
      refine HC.out.mono ?_
      rintro r wyc ⟨y, rfl, hx, hy, hyl, hyf⟩
      have HXc : Hid (XSt w c X f wyc (.slice (some ⟨M, 0, none⟩) rs.length cap) M cap rs) := hx
      have HY : Hid (OwnA (w.heap.size + 1) wyc y ∧ w2.heap.size ≤ y.1 ∧ Fine y.2.2) := ⟨hy, hyl, hyf⟩
      clear hx hy hyl hyf
      clear hHeld
      refine hK.out _ _ trivial (fun hHeld => ?_)
      clear hK K
      try simp only [Act.put, List.setIfInBounds_toArray, List.set_cons_zero, List.set_cons_succ]
      
      refine wpAnyH_ready (rs := [7]) (by kernel_rfl) (by simp) ?_
      refine AllReadyH.cons (o := { dst := some 31, op := Op.buildSlice 40 1 #[(0, Operand.tmp 30)], type := 40, pos := "l06_chain.go:81", after := #[{ on := 6, ground := Ground.data }], guard := none }) rfl (fun K hK => ?_) AllReadyH.nil
      go_simp
      clear hHeld
      refine hK.out _ _ trivial (fun hHeld => ?_)
      clear hK K
      try simp only [Act.put, List.setIfInBounds_toArray, List.set_cons_zero, List.set_cons_succ]
      
      refine wpAnyH_ready (rs := [8]) (by kernel_rfl) (by simp) ?_
      refine AllReadyH.cons (o := { dst := some 32, op := Op.call { callee := Callee.builtin Builtin.append, args := #[Operand.tmp 25, Operand.tmp 31], argTypes := #[40, 40] }, type := 40, pos := "l06_chain.go:81", after := #[{ on := 1, ground := Ground.data }, { on := 7, ground := Ground.data }, { on := 6, ground := Ground.chain }], guard := none }) rfl (fun K hK => ?_) AllReadyH.nil
      have hXd : XSt w c X f (wyc.alloc (.cells #[.slice (some ⟨y.1, 0, none⟩) y.2.2.l.length y.2.1, .int .i64 y.2.2.s, .int .i64 y.2.2.e, .string y.2.2.n] 29)) (.slice (some ⟨M, 0, none⟩) rs.length cap) M cap rs := HXc.out.grow (Go.Joins.below_alloc1 wyc _)
      obtain ⟨xs, hox, hxl, hxs⟩ := hXd.ab.own
      refine step_appB rfl _ _ 40 rfl 29 i0 (.agg #[.slice none 0 0, .int .i64 0, .int .i64 0, .string ByteArray.empty]) 4 56 Tryz.underlying40 hi hz0 hz1 hz2 rfl (by decide) (w.heap.size + 1) ?k23b (.slice (some ⟨M, 0, none⟩) rs.length cap) rs.length xs rfl hox ⟨wyc.heap.size, 0, none⟩ 1 1 (rowV y) rfl rfl (blk_news (Blk.new _ _ _)) (row_one _) ?k23c ?k23d ?_
      case k23b => have := hXd.ord; omega
      case k23c => unfold maxLen; omega
      case k23d => omega
      intro v' wya hown hg hat
      obtain ⟨M3, c3, e3, hXA⟩ := hXd.app (HY.out.1.grow (Go.Joins.below_alloc1 wyc _)) HY.out.2.2 (fun x hx => by have := (HX.out.ab.rows x hx).lt; have := HY.out.2.1; omega) hxl hxs hown hg
      subst e3
      have HXA : Hid (XSt w c X f wya (.slice (some ⟨M, 0, none⟩) rs.length cap) M3 c3 (rs ++ [y])) := hXA
      clear hown hg hat hXA hXd hox hxl hxs
      clear hHeld
      refine hK.out _ _ trivial (fun hHeld => ?_)
      clear hK K
      try simp only [Act.put, List.setIfInBounds_toArray, List.set_cons_zero, List.set_cons_succ]
      
      refine wpAnyH_take (i := 9) (oi := { dst := some 33, op := Op.fieldAddr 96 (Operand.tmp 3) 1, type := 0, pos := "l06_chain.go:81", after := #[{ on := 0, ground := Ground.phase }, { on := 1, ground := Ground.phase }, { on := 2, ground := Ground.phase }, { on := 3, ground := Ground.phase }, { on := 4, ground := Ground.phase }, { on := 5, ground := Ground.phase }, { on := 6, ground := Ground.phase }, { on := 7, ground := Ground.phase }, { on := 8, ground := Ground.phase }], guard := none }) (v := ?vd226) rfl (by kernel_rfl) (by kernel_rfl) (by kernel_rfl) (fun _ _ _ h => h) (Or.inl ⟨by rfl, ?hyd226⟩) hHeld ?_
      case hyd226 => (intro w hSw; (try dsimp only at hSw); go_simp <;> with_reducible rfl)
      try simp only [Act.put, List.setIfInBounds_toArray, List.set_cons_zero, List.set_cons_succ]
      refine wpAnyH_ready (rs := [10]) (by kernel_rfl) (by simp) ?_
      refine AllReadyH.cons (o := { dst := none, op := Op.store 40 (Operand.tmp 33) (Operand.tmp 32), type := 0, pos := "l06_chain.go:81", after := #[{ on := 9, ground := Ground.data }, { on := 8, ground := Ground.data }, { on := 8, ground := Ground.chain }, { on := 0, ground := Ground.phase }, { on := 1, ground := Ground.phase }, { on := 2, ground := Ground.phase }, { on := 3, ground := Ground.phase }, { on := 4, ground := Ground.phase }, { on := 5, ground := Ground.phase }, { on := 6, ground := Ground.phase }, { on := 7, ground := Ground.phase }, { on := 8, ground := Ground.phase }], guard := none }) rfl (fun K hK => ?_) AllReadyH.nil
      have cD : wya.cell? ⟨X, 1, none⟩ = some (.slice (some ⟨M, 0, none⟩) rs.length cap) := HXA.out.bX.cell 1
      have fD := HXA.out.bX.frozen 1
      go_simp
      clear cD fD
      clear hHeld
      refine hK.out _ _ trivial (fun hHeld => ?_)
      clear hK K
      try simp only [Act.put, List.setIfInBounds_toArray, List.set_cons_zero, List.set_cons_succ]
      
      refine wpAnyH_done (by kernel_rfl) ?_ _
      have HXZ : Hid (XSt w c X f (wya.setCell ⟨X, 1, none⟩ (.slice (some ⟨M3, 0, none⟩) (rs.length + 1) c3)) (.slice (some ⟨M3, 0, none⟩) (rs.length + 1) c3) M3 c3 (rs ++ [y])) := HXA.out.setL _
      clear hHeld HXA HXc HY
      generalize wya.setCell ⟨X, 1, none⟩ (.slice (some ⟨M3, 0, none⟩) (rs.length + 1) c3) = W3 at *
      have r0 : W3.cell? ⟨w.heap.size, 0, none⟩ = some (.int .i64 0) := HXZ.out.bR.cell 0
      have r1 : W3.cell? ⟨w.heap.size, 1, none⟩ = some (.slice none 0 0) := HXZ.out.bR.cell 1
      have f0 := HXZ.out.bR.frozen 0
      have f1 := HXZ.out.bR.frozen 1
      have x0 : W3.cell? ⟨X, 0, none⟩ = some (.int .i64 f) := HXZ.out.bX.cell 0
      have x1 : W3.cell? ⟨X, 1, none⟩ = some (.slice (some ⟨M3, 0, none⟩) (rs.length + 1) c3) := HXZ.out.bX.cell 1
      go_wp2
      have hs : Blk ((W3.setCell ⟨w.heap.size, 0, none⟩ (.int .i64 f)).setCell ⟨w.heap.size, 1, none⟩ (.slice (some ⟨M3, 0, none⟩) (rs.length + 1) c3)) w.heap.size #[.int .i64 f, .slice (some ⟨M3, 0, none⟩) (rs.length + 1) c3] 96 := (HXZ.out.bR.set 0 _).set 1 _
      have s0 := hs.cell 0
      have s1 := hs.cell 1
      refine bodyPost_ret (v := .agg #[.int .i64 f, .slice (some ⟨M3, 0, none⟩) (rs.length + 1) c3]) (by simp [results, Tryz.results117, go_sem, s0, s1]) rfl ?_
      exact ⟨f, M3, c3, rs ++ [y], retA (by simp), HXZ.out.fin _ _, by simp; omega, HFB.out⟩
    refine AllReadyH.cons (o := { dst := some 30, op := Op.call { callee := Callee.value (Operand.func 73), args := #[Operand.tmp 29], argTypes := #[29] }, type := 29, pos := "l06_chain.go:81", after := #[{ on := 5, ground := Ground.data }], guard := none }) rfl (fun K hK => ?_) AllReadyH.nil
    go_simp
    refine HC.out.mono ?_
    rintro r wyc ⟨y, rfl, hx, hy, hyl, hyf⟩
    have HXc : Hid (XSt w c X f wyc (.slice (some ⟨M, 0, none⟩) rs.length cap) M cap rs) := hx
    have HY : Hid (OwnA (w.heap.size + 1) wyc y ∧ w2.heap.size ≤ y.1 ∧ Fine y.2.2) := ⟨hy, hyl, hyf⟩
    clear hx hy hyl hyf
    clear hHeld
    refine hK.out _ _ trivial (fun hHeld => ?_)
    clear hK K
    try simp only [Act.put, List.setIfInBounds_toArray, List.set_cons_zero, List.set_cons_succ]
    
    refine wpAnyH_ready (rs := [1, 7]) (by kernel_rfl) (by simp) ?_
    refine AllReadyH.cons (o := { dst := some 25, op := Op.load 40 (Operand.tmp 24), type := 40, pos := "l06_chain.go:81", after := #[{ on := 0, ground := Ground.data }], guard := none }) rfl (fun K hK => ?_) ?_
    ·
      have cD : wyc.cell? ⟨X, 1, none⟩ = some (.slice (some ⟨M, 0, none⟩) rs.length cap) := (HXc.out.bX).cell 1
      go_simp
      clear cD
      clear hHeld
      refine hK.out _ _ trivial (fun hHeld => ?_)
      clear hK K
      try simp only [Act.put, List.setIfInBounds_toArray, List.set_cons_zero, List.set_cons_succ]
      
      refine wpAnyH_ready (rs := [7]) (by kernel_rfl) (by simp) ?_
      refine AllReadyH.cons (o := { dst := some 31, op := Op.buildSlice 40 1 #[(0, Operand.tmp 30)], type := 40, pos := "l06_chain.go:81", after := #[{ on := 6, ground := Ground.data }], guard := none }) rfl (fun K hK => ?_) AllReadyH.nil
      go_simp
      clear hHeld
      refine hK.out _ _ trivial (fun hHeld => ?_)
      clear hK K
      try simp only [Act.put, List.setIfInBounds_toArray, List.set_cons_zero, List.set_cons_succ]
      
      refine wpAnyH_ready (rs := [8]) (by kernel_rfl) (by simp) ?_
      refine AllReadyH.cons (o := { dst := some 32, op := Op.call { callee := Callee.builtin Builtin.append, args := #[Operand.tmp 25, Operand.tmp 31], argTypes := #[40, 40] }, type := 40, pos := "l06_chain.go:81", after := #[{ on := 1, ground := Ground.data }, { on := 7, ground := Ground.data }, { on := 6, ground := Ground.chain }], guard := none }) rfl (fun K hK => ?_) AllReadyH.nil
      have hXd : XSt w c X f (wyc.alloc (.cells #[.slice (some ⟨y.1, 0, none⟩) y.2.2.l.length y.2.1, .int .i64 y.2.2.s, .int .i64 y.2.2.e, .string y.2.2.n] 29)) (.slice (some ⟨M, 0, none⟩) rs.length cap) M cap rs := HXc.out.grow (Go.Joins.below_alloc1 wyc _)
      obtain ⟨xs, hox, hxl, hxs⟩ := hXd.ab.own
      refine step_appB rfl _ _ 40 rfl 29 i0 (.agg #[.slice none 0 0, .int .i64 0, .int .i64 0, .string ByteArray.empty]) 4 56 Tryz.underlying40 hi hz0 hz1 hz2 rfl (by decide) (w.heap.size + 1) ?k24b (.slice (some ⟨M, 0, none⟩) rs.length cap) rs.length xs rfl hox ⟨wyc.heap.size, 0, none⟩ 1 1 (rowV y) rfl rfl (blk_news (Blk.new _ _ _)) (row_one _) ?k24c ?k24d ?_
      case k24b => have := hXd.ord; omega
      case k24c => unfold maxLen; omega
      case k24d => omega
      intro v' wya hown hg hat
      obtain ⟨M3, c3, e3, hXA⟩ := hXd.app (HY.out.1.grow (Go.Joins.below_alloc1 wyc _)) HY.out.2.2 (fun x hx => by have := (HX.out.ab.rows x hx).lt; have := HY.out.2.1; omega) hxl hxs hown hg
      subst e3
      have HXA : Hid (XSt w c X f wya (.slice (some ⟨M, 0, none⟩) rs.length cap) M3 c3 (rs ++ [y])) := hXA
      clear hown hg hat hXA hXd hox hxl hxs
      clear hHeld
      refine hK.out _ _ trivial (fun hHeld => ?_)
      clear hK K
      try simp only [Act.put, List.setIfInBounds_toArray, List.set_cons_zero, List.set_cons_succ]
      
      refine wpAnyH_take (i := 9) (oi := { dst := some 33, op := Op.fieldAddr 96 (Operand.tmp 3) 1, type := 0, pos := "l06_chain.go:81", after := #[{ on := 0, ground := Ground.phase }, { on := 1, ground := Ground.phase }, { on := 2, ground := Ground.phase }, { on := 3, ground := Ground.phase }, { on := 4, ground := Ground.phase }, { on := 5, ground := Ground.phase }, { on := 6, ground := Ground.phase }, { on := 7, ground := Ground.phase }, { on := 8, ground := Ground.phase }], guard := none }) (v := ?vd232) rfl (by kernel_rfl) (by kernel_rfl) (by kernel_rfl) (fun _ _ _ h => h) (Or.inl ⟨by rfl, ?hyd232⟩) hHeld ?_
      case hyd232 => (intro w hSw; (try dsimp only at hSw); go_simp <;> with_reducible rfl)
      try simp only [Act.put, List.setIfInBounds_toArray, List.set_cons_zero, List.set_cons_succ]
      refine wpAnyH_ready (rs := [10]) (by kernel_rfl) (by simp) ?_
      refine AllReadyH.cons (o := { dst := none, op := Op.store 40 (Operand.tmp 33) (Operand.tmp 32), type := 0, pos := "l06_chain.go:81", after := #[{ on := 9, ground := Ground.data }, { on := 8, ground := Ground.data }, { on := 8, ground := Ground.chain }, { on := 0, ground := Ground.phase }, { on := 1, ground := Ground.phase }, { on := 2, ground := Ground.phase }, { on := 3, ground := Ground.phase }, { on := 4, ground := Ground.phase }, { on := 5, ground := Ground.phase }, { on := 6, ground := Ground.phase }, { on := 7, ground := Ground.phase }, { on := 8, ground := Ground.phase }], guard := none }) rfl (fun K hK => ?_) AllReadyH.nil
      have cD : wya.cell? ⟨X, 1, none⟩ = some (.slice (some ⟨M, 0, none⟩) rs.length cap) := HXA.out.bX.cell 1
      have fD := HXA.out.bX.frozen 1
      go_simp
      clear cD fD
      clear hHeld
      refine hK.out _ _ trivial (fun hHeld => ?_)
      clear hK K
      try simp only [Act.put, List.setIfInBounds_toArray, List.set_cons_zero, List.set_cons_succ]
      
      refine wpAnyH_done (by kernel_rfl) ?_ _
      have HXZ : Hid (XSt w c X f (wya.setCell ⟨X, 1, none⟩ (.slice (some ⟨M3, 0, none⟩) (rs.length + 1) c3)) (.slice (some ⟨M3, 0, none⟩) (rs.length + 1) c3) M3 c3 (rs ++ [y])) := HXA.out.setL _
      clear hHeld HXA HXc HY
      generalize wya.setCell ⟨X, 1, none⟩ (.slice (some ⟨M3, 0, none⟩) (rs.length + 1) c3) = W3 at *
      have r0 : W3.cell? ⟨w.heap.size, 0, none⟩ = some (.int .i64 0) := HXZ.out.bR.cell 0
      have r1 : W3.cell? ⟨w.heap.size, 1, none⟩ = some (.slice none 0 0) := HXZ.out.bR.cell 1
      have f0 := HXZ.out.bR.frozen 0
      have f1 := HXZ.out.bR.frozen 1
      have x0 : W3.cell? ⟨X, 0, none⟩ = some (.int .i64 f) := HXZ.out.bX.cell 0
      have x1 : W3.cell? ⟨X, 1, none⟩ = some (.slice (some ⟨M3, 0, none⟩) (rs.length + 1) c3) := HXZ.out.bX.cell 1
      go_wp2
      have hs : Blk ((W3.setCell ⟨w.heap.size, 0, none⟩ (.int .i64 f)).setCell ⟨w.heap.size, 1, none⟩ (.slice (some ⟨M3, 0, none⟩) (rs.length + 1) c3)) w.heap.size #[.int .i64 f, .slice (some ⟨M3, 0, none⟩) (rs.length + 1) c3] 96 := (HXZ.out.bR.set 0 _).set 1 _
      have s0 := hs.cell 0
      have s1 := hs.cell 1
      refine bodyPost_ret (v := .agg #[.int .i64 f, .slice (some ⟨M3, 0, none⟩) (rs.length + 1) c3]) (by simp [results, Tryz.results117, go_sem, s0, s1]) rfl ?_
      exact ⟨f, M3, c3, rs ++ [y], retA (by simp), HXZ.out.fin _ _, by simp; omega, HFB.out⟩
    refine AllReadyH.cons (o := { dst := some 31, op := Op.buildSlice 40 1 #[(0, Operand.tmp 30)], type := 40, pos := "l06_chain.go:81", after := #[{ on := 6, ground := Ground.data }], guard := none }) rfl (fun K hK => ?_) AllReadyH.nil
    go_simp
    clear hHeld
    refine hK.out _ _ trivial (fun hHeld => ?_)
    clear hK K
    try simp only [Act.put, List.setIfInBounds_toArray, List.set_cons_zero, List.set_cons_succ]
    
    refine wpAnyH_ready (rs := [1]) (by kernel_rfl) (by simp) ?_
    refine AllReadyH.cons (o := { dst := some 25, op := Op.load 40 (Operand.tmp 24), type := 40, pos := "l06_chain.go:81", after := #[{ on := 0, ground := Ground.data }], guard := none }) rfl (fun K hK => ?_) AllReadyH.nil
    have cD : (wyc.alloc (.cells #[.slice (some ⟨y.1, 0, none⟩) y.2.2.l.length y.2.1, .int .i64 y.2.2.s, .int .i64 y.2.2.e, .string y.2.2.n] 29)).cell? ⟨X, 1, none⟩ = some (.slice (some ⟨M, 0, none⟩) rs.length cap) := ((HXc.out.bX.alloc _)).cell 1
    go_simp
    clear cD
    clear hHeld
    refine hK.out _ _ trivial (fun hHeld => ?_)
    clear hK K
    try simp only [Act.put, List.setIfInBounds_toArray, List.set_cons_zero, List.set_cons_succ]
    
    refine wpAnyH_ready (rs := [8]) (by kernel_rfl) (by simp) ?_
    refine AllReadyH.cons (o := { dst := some 32, op := Op.call { callee := Callee.builtin Builtin.append, args := #[Operand.tmp 25, Operand.tmp 31], argTypes := #[40, 40] }, type := 40, pos := "l06_chain.go:81", after := #[{ on := 1, ground := Ground.data }, { on := 7, ground := Ground.data }, { on := 6, ground := Ground.chain }], guard := none }) rfl (fun K hK => ?_) AllReadyH.nil
    have hXd : XSt w c X f (wyc.alloc (.cells #[.slice (some ⟨y.1, 0, none⟩) y.2.2.l.length y.2.1, .int .i64 y.2.2.s, .int .i64 y.2.2.e, .string y.2.2.n] 29)) (.slice (some ⟨M, 0, none⟩) rs.length cap) M cap rs := HXc.out.grow (Go.Joins.below_alloc1 wyc _)
    obtain ⟨xs, hox, hxl, hxs⟩ := hXd.ab.own
    refine step_appB rfl _ _ 40 rfl 29 i0 (.agg #[.slice none 0 0, .int .i64 0, .int .i64 0, .string ByteArray.empty]) 4 56 Tryz.underlying40 hi hz0 hz1 hz2 rfl (by decide) (w.heap.size + 1) ?k25b (.slice (some ⟨M, 0, none⟩) rs.length cap) rs.length xs rfl hox ⟨wyc.heap.size, 0, none⟩ 1 1 (rowV y) rfl rfl (blk_news (Blk.new _ _ _)) (row_one _) ?k25c ?k25d ?_
    case k25b => have := hXd.ord; omega
    case k25c => unfold maxLen; omega
    case k25d => omega
    intro v' wya hown hg hat
    obtain ⟨M3, c3, e3, hXA⟩ := hXd.app (HY.out.1.grow (Go.Joins.below_alloc1 wyc _)) HY.out.2.2 (fun x hx => by have := (HX.out.ab.rows x hx).lt; have := HY.out.2.1; omega) hxl hxs hown hg
    subst e3
    have HXA : Hid (XSt w c X f wya (.slice (some ⟨M, 0, none⟩) rs.length cap) M3 c3 (rs ++ [y])) := hXA
    clear hown hg hat hXA hXd hox hxl hxs
    clear hHeld
    refine hK.out _ _ trivial (fun hHeld => ?_)
    clear hK K
    try simp only [Act.put, List.setIfInBounds_toArray, List.set_cons_zero, List.set_cons_succ]
    
    refine wpAnyH_take (i := 9) (oi := { dst := some 33, op := Op.fieldAddr 96 (Operand.tmp 3) 1, type := 0, pos := "l06_chain.go:81", after := #[{ on := 0, ground := Ground.phase }, { on := 1, ground := Ground.phase }, { on := 2, ground := Ground.phase }, { on := 3, ground := Ground.phase }, { on := 4, ground := Ground.phase }, { on := 5, ground := Ground.phase }, { on := 6, ground := Ground.phase }, { on := 7, ground := Ground.phase }, { on := 8, ground := Ground.phase }], guard := none }) (v := ?vd237) rfl (by kernel_rfl) (by kernel_rfl) (by kernel_rfl) (fun _ _ _ h => h) (Or.inl ⟨by rfl, ?hyd237⟩) hHeld ?_
    case hyd237 => (intro w hSw; (try dsimp only at hSw); go_simp <;> with_reducible rfl)
    try simp only [Act.put, List.setIfInBounds_toArray, List.set_cons_zero, List.set_cons_succ]
    refine wpAnyH_ready (rs := [10]) (by kernel_rfl) (by simp) ?_
    refine AllReadyH.cons (o := { dst := none, op := Op.store 40 (Operand.tmp 33) (Operand.tmp 32), type := 0, pos := "l06_chain.go:81", after := #[{ on := 9, ground := Ground.data }, { on := 8, ground := Ground.data }, { on := 8, ground := Ground.chain }, { on := 0, ground := Ground.phase }, { on := 1, ground := Ground.phase }, { on := 2, ground := Ground.phase }, { on := 3, ground := Ground.phase }, { on := 4, ground := Ground.phase }, { on := 5, ground := Ground.phase }, { on := 6, ground := Ground.phase }, { on := 7, ground := Ground.phase }, { on := 8, ground := Ground.phase }], guard := none }) rfl (fun K hK => ?_) AllReadyH.nil
    have cD : wya.cell? ⟨X, 1, none⟩ = some (.slice (some ⟨M, 0, none⟩) rs.length cap) := HXA.out.bX.cell 1
    have fD := HXA.out.bX.frozen 1
    go_simp
    clear cD fD
    clear hHeld
    refine hK.out _ _ trivial (fun hHeld => ?_)
    clear hK K
    try simp only [Act.put, List.setIfInBounds_toArray, List.set_cons_zero, List.set_cons_succ]
    
    refine wpAnyH_done (by kernel_rfl) ?_ _
    have HXZ : Hid (XSt w c X f (wya.setCell ⟨X, 1, none⟩ (.slice (some ⟨M3, 0, none⟩) (rs.length + 1) c3)) (.slice (some ⟨M3, 0, none⟩) (rs.length + 1) c3) M3 c3 (rs ++ [y])) := HXA.out.setL _
    clear hHeld HXA HXc HY
    generalize wya.setCell ⟨X, 1, none⟩ (.slice (some ⟨M3, 0, none⟩) (rs.length + 1) c3) = W3 at *
    have r0 : W3.cell? ⟨w.heap.size, 0, none⟩ = some (.int .i64 0) := HXZ.out.bR.cell 0
    have r1 : W3.cell? ⟨w.heap.size, 1, none⟩ = some (.slice none 0 0) := HXZ.out.bR.cell 1
    have f0 := HXZ.out.bR.frozen 0
    have f1 := HXZ.out.bR.frozen 1
    have x0 : W3.cell? ⟨X, 0, none⟩ = some (.int .i64 f) := HXZ.out.bX.cell 0
    have x1 : W3.cell? ⟨X, 1, none⟩ = some (.slice (some ⟨M3, 0, none⟩) (rs.length + 1) c3) := HXZ.out.bX.cell 1
    go_wp2
    have hs : Blk ((W3.setCell ⟨w.heap.size, 0, none⟩ (.int .i64 f)).setCell ⟨w.heap.size, 1, none⟩ (.slice (some ⟨M3, 0, none⟩) (rs.length + 1) c3)) w.heap.size #[.int .i64 f, .slice (some ⟨M3, 0, none⟩) (rs.length + 1) c3] 96 := (HXZ.out.bR.set 0 _).set 1 _
    have s0 := hs.cell 0
    have s1 := hs.cell 1
    refine bodyPost_ret (v := .agg #[.int .i64 f, .slice (some ⟨M3, 0, none⟩) (rs.length + 1) c3]) (by simp [results, Tryz.results117, go_sem, s0, s1]) rfl ?_
    exact ⟨f, M3, c3, rs ++ [y], retA (by simp), HXZ.out.fin _ _, by simp; omega, HFB.out⟩
  have d2' : (z == 2) = false := by simpa using e2
  by_cases e3 : z = 3
  · subst e3
    have HXa : Hid (XSt w c X f (w2.alloc (.cells #[] 29)) (.slice (some ⟨M, 0, none⟩) rs.length cap) M cap rs) := HX.out.grow (Go.Joins.below_alloc1 w2 _)
    have HXb : Hid (XSt w c X f (w2.alloc (.cells #[] 29)) (.slice (some ⟨M, 0, none⟩) rs.length cap) w2.heap.size 0 []) := ⟨HXa.out.cur, HXa.out.kept, HXa.out.clt, HXa.out.ord, HXa.out.bR, HXa.out.bX, AB.nil (Blk.new _ _ _) (by have := HX.out.ord; omega), fines_nil⟩
    have HXZ : Hid (XSt w c X f ((w2.alloc (.cells #[] 29)).setCell ⟨X, 1, none⟩ (.slice (some ⟨w2.heap.size, 0, none⟩) 0 0)) (.slice (some ⟨w2.heap.size, 0, none⟩) 0 0) w2.heap.size 0 []) := HXb.out.setL _
    have q1 : (w2.alloc (.cells #[] 29)).cell? ⟨X, 1, none⟩ = some (.slice (some ⟨M, 0, none⟩) rs.length cap) := HXa.out.bX.cell 1
    have g1 := HXa.out.bX.frozen 1
    go_upto_region 11 with fail
    clear q1 g1 HXa HXb
    generalize (w2.alloc (.cells #[] 29)).setCell ⟨X, 1, none⟩ (.slice (some ⟨w2.heap.size, 0, none⟩) 0 0) = W3 at *
    have r0 : W3.cell? ⟨w.heap.size, 0, none⟩ = some (.int .i64 0) := HXZ.out.bR.cell 0
    have r1 : W3.cell? ⟨w.heap.size, 1, none⟩ = some (.slice none 0 0) := HXZ.out.bR.cell 1
    have f0 := HXZ.out.bR.frozen 0
    have f1 := HXZ.out.bR.frozen 1
    have x0 : W3.cell? ⟨X, 0, none⟩ = some (.int .i64 f) := HXZ.out.bX.cell 0
    have x1 : W3.cell? ⟨X, 1, none⟩ = some (.slice (some ⟨w2.heap.size, 0, none⟩) 0 0) := HXZ.out.bX.cell 1
    go_wp2
    have hs : Blk ((W3.setCell ⟨w.heap.size, 0, none⟩ (.int .i64 f)).setCell ⟨w.heap.size, 1, none⟩ (.slice (some ⟨w2.heap.size, 0, none⟩) 0 0)) w.heap.size #[.int .i64 f, .slice (some ⟨w2.heap.size, 0, none⟩) 0 0] 96 := (HXZ.out.bR.set 0 _).set 1 _
    have s0 := hs.cell 0
    have s1 := hs.cell 1
    refine bodyPost_ret (v := .agg #[.int .i64 f, .slice (some ⟨w2.heap.size, 0, none⟩) 0 0]) (by simp [results, Tryz.results117, go_sem, s0, s1]) rfl ?_
    exact ⟨f, w2.heap.size, 0, [], rfl, HXZ.out.fin _ _, by simp, HFB.out⟩
  have d3' : (z == 3) = false := by simpa using e3
  go_upto_region 11 with fail
  have r0 : w2.cell? ⟨w.heap.size, 0, none⟩ = some (.int .i64 0) := HX.out.bR.cell 0
  have r1 : w2.cell? ⟨w.heap.size, 1, none⟩ = some (.slice none 0 0) := HX.out.bR.cell 1
  have f0 := HX.out.bR.frozen 0
  have f1 := HX.out.bR.frozen 1
  have x0 : w2.cell? ⟨X, 0, none⟩ = some (.int .i64 f) := HX.out.bX.cell 0
  have x1 : w2.cell? ⟨X, 1, none⟩ = some (.slice (some ⟨M, 0, none⟩) rs.length cap) := HX.out.bX.cell 1
  go_wp2
  have hs : Blk ((w2.setCell ⟨w.heap.size, 0, none⟩ (.int .i64 f)).setCell ⟨w.heap.size, 1, none⟩ (.slice (some ⟨M, 0, none⟩) rs.length cap)) w.heap.size #[.int .i64 f, .slice (some ⟨M, 0, none⟩) rs.length cap] 96 := (HX.out.bR.set 0 _).set 1 _
  have s0 := hs.cell 0
  have s1 := hs.cell 1
  refine bodyPost_ret (v := .agg #[.int .i64 f, .slice (some ⟨M, 0, none⟩) rs.length cap]) (by simp [results, Tryz.results117, go_sem, s0, s1]) rfl ?_
  exact ⟨f, M, cap, rs, rfl, HX.out.fin _ _, by omega, HFB.out⟩
end Go.Proofs.YtooninmicfcfoaaGreat.DrawD
namespace Go.Proofs.YtooninmicfcfoaaGreat.DrawE
open Go.RowKit
open Draw
open Labs LabS Over Blk App DrawL DrawT Alms AlmM DrawA DrawB Rws ChnI ChnC ChnP ChnS ChnU ChnK DrawC DrawD
open LabT (Held infoL)
open LabR (flat flat_len flat_one)

def DAl (w : World) (g : Nat) (x : PAl) : Prop := Reads w (some ⟨g, 0, none⟩) x.l ∧ Fine x
theorem DAl.below {w w' : World} {g : Nat} {x : PAl} (h : DAl w g x) (hb : Below w.heap.size w w') : DAl w' g x := ⟨h.1.below hb, h.2⟩

end Go.Proofs.YtooninmicfcfoaaGreat.DrawE
namespace Go.Proofs.YtooninmicfcfoaaGreat.DrawG
open Go.RowKit
open Draw
open Labs LabS Over Blk App DrawL DrawT Alms AlmM DrawA DrawB Rws ChnI ChnC ChnP ChnK DrawC DrawD DrawE Chs Prt PrtF PrtC
open LabT (Held held_reads)
open Fing (fingerB)

theorem cb_kept {c lo : Nat} {w w' : World} {M cap : Nat} {cs : List CRow} (h : CB lo w M cap cs) (hk : Kept c w w') (hc : c < lo) : CB lo w' M cap cs := by
  obtain ⟨cur, h1, h2⟩ := h.outer
  exact ⟨h.at', h.cap, ⟨cur, blk_kept h1 hk (by have := h.at'; omega), h2⟩, ⟨fun x hx => ab_kept (h.rows.rows x hx) hk hc, h.rows.ne⟩⟩
theorem cb_under {lo : Nat} {w : World} {A M cap : Nat} {cs : List CRow} (h : CB lo w M cap cs) (hA : A < lo) (i : Nat) (v : Value) : CB lo (w.setCell ⟨A, i, none⟩ v) M cap cs := by
  obtain ⟨cur, h1, h2⟩ := h.outer
  exact ⟨h.at', h.cap, ⟨cur, h1.set_other (by have := h.at'; show A ≠ M; omega) v, h2⟩, ⟨fun x hx => ab_under (h.rows.rows x hx) hA i v, h.rows.ne⟩⟩
def PL (lo : Nat) (w : World) (a : Option Addr) (cap : Nat) (cs : List CRow) : Prop := (a = none ∧ cap = 0 ∧ cs = []) ∨ ∃ M, a = some ⟨M, 0, none⟩ ∧ CB lo w M cap cs
theorem PL.grow {lo : Nat} {w w' : World} {a : Option Addr} {cap : Nat} {cs : List CRow} (h : PL lo w a cap cs) (hb : Below w.heap.size w w') : PL lo w' a cap cs := h.imp id fun ⟨M, e, k⟩ => ⟨M, e, k.grow hb⟩
theorem PL.keep {c lo : Nat} {w w' : World} {a : Option Addr} {cap : Nat} {cs : List CRow} (h : PL lo w a cap cs) (hk : Kept c w w') (hc : c < lo) : PL lo w' a cap cs := h.imp id fun ⟨M, e, k⟩ => ⟨M, e, cb_kept k hk hc⟩
theorem PL.under {lo : Nat} {w : World} {A : Nat} {a : Option Addr} {cap : Nat} {cs : List CRow} (h : PL lo w a cap cs) (hA : A < lo) (i : Nat) (v : Value) : PL lo (w.setCell ⟨A, i, none⟩ v) a cap cs := h.imp id fun ⟨M, e, k⟩ => ⟨M, e, cb_under k hA i v⟩
theorem PL.down {lo lo' : Nat} {w : World} {a : Option Addr} {cap : Nat} {cs : List CRow} (h : PL lo w a cap cs) (hl : lo' ≤ lo) : PL lo' w a cap cs := h.imp id fun ⟨M, e, k⟩ => ⟨M, e, k.down hl⟩
theorem PL.rn {lo : Nat} {w : World} {a : Option Addr} {cap : Nat} {cs : List CRow} (h : PL lo w a cap cs) : RdG RdN w a (chs cs) := by
  rcases h with ⟨_, _, e⟩ | ⟨M, e, k⟩
  · exact .inl (by rw [e]; rfl)
  · rw [e]; exact k.rn
def FinC (n : Nat) (C : List PCh) : Prop := ∀ x ∈ C, Fines x.P ∧ x.P.length ≤ n ∧ DrawA.I64 x.f
theorem FinC.mono {n m : Nat} {C : List PCh} (h : FinC n C) (hm : n ≤ m) : FinC m C := fun x hx => ⟨(h x hx).1, Nat.le_trans (h x hx).2.1 hm, (h x hx).2.2⟩
theorem FinC.fits {n : Nat} {C : List PCh} (h : FinC n C) (hn : n ≤ 1000) : FitsC C := fun x hx => ⟨(h x hx).2.2, by have := (h x hx).2.1; unfold maxLen; omega, (h x hx).1.fits⟩
theorem FinC.small {n : Nat} {C : List PCh} (h : FinC n C) (hn : n ≤ 1000) : PrtO.Small C := fun x hx => ⟨by have := (h x hx).2.1; omega, (h x hx).1.lens⟩
theorem fines_sum {P : List PAl} (h : Fines P) : sumL P ≤ 8 * P.length := by
  induction P with
  | nil => simp [sumL]
  | cons x P ih =>
    have h1 := (h x (by simp)).2
    have h2 := ih fun y hy => h y (by simp [hy])
    simp [sumL]; omega
theorem FinC.sum {n : Nat} {C : List PCh} (h : FinC n C) : sumC C ≤ C.length * (9 * n) := by
  induction C with
  | nil => simp [sumC]
  | cons x C ih =>
    have h1 := fines_sum (h x (by simp)).1
    have h2 := (h x (by simp)).2.1
    have h3 := ih fun y hy => h y (by simp [hy])
    have e : (C.length + 1) * (9 * n) = C.length * (9 * n) + 9 * n := Nat.succ_mul _ _
    rw [sumC, List.length_cons, e]; omega
theorem FinC.nil (n : Nat) : FinC n [] := fun x hx => by simp at hx
theorem FinC.app {n : Nat} {C : List PCh} {y : PCh} (h : FinC n C) (hy : Fines y.P ∧ y.P.length ≤ n ∧ DrawA.I64 y.f) : FinC n (C ++ [y]) := fun x hx => by
  rcases List.mem_append.1 hx with h1 | h1
  · exact h x h1
  · rw [List.mem_singleton.1 h1]; exact hy
theorem finC_put {n : Nat} {C : List PCh} {x : PAl} (h : FinC n C) (hx : Fine x) : FinC (n + 1) (putC C x) := by
  rcases at_cases C (fingerB x.l : Int) with ⟨h0, h1, h2⟩ | ⟨k, h0, h1, hk, h3, h4⟩
  · rw [(put_none h0).1]
    intro y hy
    rcases List.mem_append.1 hy with hy | hy
    · exact (h.mono (Nat.le_succ n)) y (List.mem_of_mem_take hy)
    · rcases List.mem_cons.1 hy with hy | hy
      · subst hy
        have := Fing.finger_lt x.l
        exact ⟨fun z hz => by rw [List.mem_singleton.1 hz]; exact hx, by simp, ⟨by show -9223372036854775808 ≤ ((fingerB x.l : Nat) : Int); omega, by show ((fingerB x.l : Nat) : Int) ≤ _; omega⟩⟩
      · exact (h.mono (Nat.le_succ n)) y (List.mem_of_mem_drop hy)
  · rw [(put_some h0).1]
    intro y hy
    rcases List.mem_or_eq_of_mem_set hy with hy | hy
    · exact (h.mono (Nat.le_succ n)) y hy
    · subst hy
      have hm := h _ (nthC_mem hk)
      have h5 := (put_sum (nthC C k).P x).2
      exact ⟨fines_put hm.1 hx, by show (putL _ _).length ≤ _; omega, hm.2.2⟩

structure GSt (w : World) (c : Nat) (wr : World) (vr : Int) (a : Option Addr) (cap : Nat) (cs : List CRow) : Prop where
  cur : Cur wr c
  kept : Kept c w wr
  clt : c < w.heap.size
  size : w.heap.size + 2 ≤ wr.heap.size
  bR : Blk wr w.heap.size #[.int .i64 0, .int .i64 0, .slice none 0 0] 26
  bP : Blk wr (w.heap.size + 1) #[.int .i64 (-1), .int .i64 vr, .slice a cs.length cap] 26
  list : PL (w.heap.size + 2) wr a cap cs
theorem GSt.keep {w : World} {c : Nat} {wr w' : World} {vr : Int} {a : Option Addr} {cap : Nat} {cs : List CRow} (h : GSt w c wr vr a cap cs) (hc : Cur w' c) (hk : Kept c wr w') : GSt w c w' vr a cap cs := by
  have h0 := h.clt; have h1 := h.size
  exact ⟨hc, h.kept.trans hk, h0, Nat.le_trans h1 hk.size, blk_kept h.bR hk (by omega), blk_kept h.bP hk (by omega), h.list.keep hk (by omega)⟩
theorem GSt.grow {w : World} {c : Nat} {wr w' : World} {vr : Int} {a : Option Addr} {cap : Nat} {cs : List CRow} (h : GSt w c wr vr a cap cs) (hb : Below wr.heap.size wr w') : GSt w c w' vr a cap cs := h.keep (cur_bel h.cur hb) (kept_bel hb)
theorem GSt.put {w : World} {c : Nat} {wr : World} {vr : Int} {a : Option Addr} {cap : Nat} {cs : List CRow} (h : GSt w c wr vr a cap cs) (vr' : Int) {M' cap' : Nat} {cs' : List CRow} (hl : CB (w.heap.size + 2) wr M' cap' cs') :
    GSt w c (((wr.setCell ⟨w.heap.size + 1, 0, none⟩ (.int .i64 (-1))).setCell ⟨w.heap.size + 1, 1, none⟩ (.int .i64 vr')).setCell ⟨w.heap.size + 1, 2, none⟩ (.slice (some ⟨M', 0, none⟩) cs'.length cap')) vr' (some ⟨M', 0, none⟩) cap' cs' := by
  have h0 := h.clt; have h1 := h.size
  refine ⟨cur_set (cur_set (cur_set h.cur (by omega) _ _) (by omega) _ _) (by omega) _ _, DrawC.kept_set (DrawC.kept_set (DrawC.kept_set h.kept (by omega) _ _) (by omega) _ _) (by omega) _ _, h0, by simpa using h1, ?_, put3 h.bP _ _ _, .inr ⟨M', rfl, cb_under (cb_under (cb_under hl (by omega) _ _) (by omega) _ _) (by omega) _ _⟩⟩
  have hne : w.heap.size + 1 ≠ w.heap.size := by omega
  exact ((h.bR.set_other (p := ⟨w.heap.size + 1, 0, none⟩) hne _).set_other (p := ⟨w.heap.size + 1, 1, none⟩) hne _).set_other (p := ⟨w.heap.size + 1, 2, none⟩) hne _
structure PDr (w : World) (c : Nat) (wr : World) (a : Option Addr) (cap : Nat) (cs : List CRow) : Prop where
  list : PL (w.heap.size + 1) wr a cap cs
  cur : Cur wr c
  kept : Kept c w wr
  clt : c < w.heap.size
  fine : FinC 7 (chs cs)
theorem wrap_up {v : Int} (h0 : 0 ≤ v) (h1 : v ≤ 100) : IntKind.i64.wrap (v + 1) = v + 1 := by rw [IntKind.wrap_i64]; omega
set_option maxRecDepth 100000 in
set_option maxHeartbeats 3200000 in
theorem l7Draw_any (c : Nat) (i n : Int) (w : World) (hc : Cur w c) (hn : DrawA.I64 n) :
    Calls Tryz.prog 116 #[.pointer (some ⟨c, 0, none⟩), .int .i64 i, .int .i64 n] w fun r w' => ∃ (vr : Int) (a : Option Addr) (cap : Nat) (cs : List CRow), r = .returned (.agg #[.int .i64 (-1), .int .i64 vr, .slice a cs.length cap]) ∧ PDr w c w' a cap cs ∧ cs.length ≤ 7 ∧ 0 ≤ vr ∧ vr ≤ 7 := by
  have HC : Hid (Cur w c) := hc
  have HL : Hid (c < w.heap.size) := hc.lt
  have HN : Hid (DrawA.I64 n) := hn
  clear hc hn
  go_enter Tryz.func116, Tryz.ntmps116
  go_wp2_with fail
  refine (below_any c 8 _ ((HC.out.alloc _).alloc _) (by decide) (by decide)).mono ?_
  rintro r w1 ⟨⟨k0, rfl, hk0, hk1⟩, hc1, hk1'⟩
  have HS1 : Hid (GSt w c w1 0 none 0 []) := by
    have h0 := HL.out
    have hs := hk1'.size
    simp at hs
    exact ⟨hc1, (((Kept.refl c w).alloc _).alloc _).trans hk1', h0, by omega, blk_kept ((Blk.new _ _ _).alloc _) hk1' (by omega), blk_kept (Blk.new_at (by simp)) hk1' (by omega), .inl ⟨rfl, rfl, rfl⟩⟩
  have HK : Hid (0 ≤ k0 ∧ k0 ≤ 7) := ⟨hk0, by omega⟩
  clear hc1 hk1' hk0 hk1
  go_wp2
  go_loopw [8] (fun i wr => ∃ (k m : Nat) (vr : Int) (a : Option Addr) (cap : Nat) (cs : List CRow), i = .int .i64 k ∧ m + k ≤ 7 ∧ GSt w c wr vr a cap cs ∧ cs.length ≤ m ∧ FinC m (chs cs) ∧ 0 ≤ vr ∧ vr ≤ m) (fun i _ => (intOf i).toNat)
  case atStart =>
    obtain ⟨kk, rfl⟩ := Int.eq_ofNat_of_zero_le HK.out.1
    exact ⟨kk, 0, 0, none, 0, [], rfl, by have := HK.out.2; omega, HS1.out, by simp, FinC.nil _, by omega, by omega⟩
  case round =>
    clear HS1 HK
    obtain ⟨k, m, vr, a, cap, cs, rfl, hmk, hst, hcl, hfi, hv0, hv1⟩ := hrel
    have HS : Hid (GSt w c wr vr a cap cs) := hst
    have HF : Hid (cs.length ≤ m ∧ FinC m (chs cs) ∧ 0 ≤ vr ∧ vr ≤ m ∧ m + k ≤ 7) := ⟨hcl, hfi, hv0, hv1, hmk⟩
    clear hst hcl hfi hv0 hv1 hmk
    by_cases hk : 0 < k
    · have hk' : (k : Int) > 0 := by omega
      obtain ⟨j, rfl⟩ : ∃ j, k = j + 1 := ⟨k - 1, by omega⟩
      have ek : ((j + 1 : Nat) : Int) = (j : Int) + 1 := by omega
      rw [ek] at hk' ⊢
      have hj7 : (j : Int) ≤ 7 := by have := HF.out; omega
      go_wp2_with fail
      refine (l4Draw_any c wr HS.out.cur).mono ?_
      rintro r w2 ⟨g, cp, p, s, e, t, rfl, hst, hp, hs, he, ht⟩
      have HX : Hid (Fine ⟨p, s, e, t⟩) := fine_of hp hst.fit hs he ht
      have HX2 : Hid (OwnA (w.heap.size + 2) w2 (g, cp, ⟨p, s, e, t⟩)) := (own_lst hst hp).down HS.out.size
      have HS2 : Hid (GSt w c w2 vr a cap cs) := HS.out.keep hst.cur hst.kept
      clear hst hp hs he ht HS
      obtain ⟨W3, hW3⟩ : ∃ W3, w2.alloc (.cells #[.slice (some ⟨g, 0, none⟩) p.length cp, .int .i64 s, .int .i64 e, .string t] 29) = W3 := ⟨_, rfl⟩
      have hb3 : Below w2.heap.size w2 W3 := by rw [← hW3]; exact Go.Joins.below_alloc1 w2 _
      have HA3 : Hid (Blk W3 w2.heap.size #[.slice (some ⟨g, 0, none⟩) p.length cp, .int .i64 s, .int .i64 e, .string t] 29) := by rw [← hW3]; exact Blk.new _ _ _
      have HS3 : Hid (GSt w c W3 vr a cap cs) := HS2.out.grow hb3
      have HX3 : Hid (OwnA (w.heap.size + 2) W3 (g, cp, ⟨p, s, e, t⟩)) := HX2.out.grow hb3
      have a0 : W3.cell? ⟨w2.heap.size, 0, none⟩ = some (.slice (some ⟨g, 0, none⟩) p.length cp) := HA3.out.cell 0
      clear hb3 HS2 HX2
      go_wp2_with fail
      refine (Fing.specFinger_any _ _ _ _ HX3.out.reads HX.out.1.len HX.out.1.fits).mono ?_
      rintro r w4 ⟨rfl, hb4⟩
      have HA4 : Hid (Blk w4 w2.heap.size #[.slice (some ⟨g, 0, none⟩) p.length cp, .int .i64 s, .int .i64 e, .string t] 29) := HA3.out.grow hb4
      have HS4 : Hid (GSt w c w4 vr a cap cs) := HS3.out.grow hb4
      have HX4 : Hid (OwnA (w.heap.size + 2) w4 (g, cp, ⟨p, s, e, t⟩)) := HX3.out.grow hb4
      clear hb4 a0 hW3 HA3 HS3 HX3
      go_wp2_with fail
      refine (Sums.specPart_any _ n w4 (by omega) (by have := Fing.finger_lt p; omega) HN.out.1 HN.out.2).mono ?_
      rintro r w5 ⟨rfl, hw5⟩
      subst hw5
      generalize Sums.partB (fingerB p : Int) n = q
      by_cases hqi : q = i
      · subst hqi
        have p0 : w5.cell? ⟨w.heap.size + 1, 0, none⟩ = some (.int .i64 (-1)) := HS4.out.bP.cell 0
        have p1 : w5.cell? ⟨w.heap.size + 1, 1, none⟩ = some (.int .i64 vr) := HS4.out.bP.cell 1
        have p2 : w5.cell? ⟨w.heap.size + 1, 2, none⟩ = some (.slice a cs.length cap) := HS4.out.bP.cell 2
        have a0 : w5.cell? ⟨w2.heap.size, 0, none⟩ = some (.slice (some ⟨g, 0, none⟩) p.length cp) := HA4.out.cell 0
        have a1 : w5.cell? ⟨w2.heap.size, 1, none⟩ = some (.int .i64 s) := HA4.out.cell 1
        have a2 : w5.cell? ⟨w2.heap.size, 2, none⟩ = some (.int .i64 e) := HA4.out.cell 2
        have a3 : w5.cell? ⟨w2.heap.size, 3, none⟩ = some (.string t) := HA4.out.cell 3
        obtain ⟨vu, hvu⟩ : ∃ vu, vr + 1 = vu := ⟨_, rfl⟩
        have HVU : Hid (vr + 1 = vu) := hvu
        obtain ⟨nu, hnu⟩ : ∃ nu, newC (chs cs) ⟨p, s, e, t⟩ = nu := ⟨_, rfl⟩
        have HPC : Hid (Calls Tryz.prog 10 #[.agg #[.int .i64 (-1), .int .i64 vr, .slice a cs.length cap], .agg #[.slice (some ⟨g, 0, none⟩) p.length cp, .int .i64 s, .int .i64 e, .string t]] w5 fun r w' => (∃ M c' cs', r = .returned (.tuple #[.agg #[.int .i64 (-1), .int .i64 vu, .slice (some ⟨M, 0, none⟩) cs'.length c'], .bool nu]) ∧ CB w5.heap.size w' M c' cs' ∧ chs cs' = putC (chs cs) ⟨p, s, e, t⟩) ∧ Below w5.heap.size w5 w') := by
          have hf := HF.out
          have hl : (chs cs).length ≤ 7 := by rw [chs_len]; omega
          have hsum := hf.2.1.sum
          have hsum2 : (chs cs).length * (9 * m) ≤ 7 * 63 := Nat.mul_le_mul hl (by omega)
          have h := PrtV.specPut_any (-1) vr a cap (chs cs) g 0 cp ⟨p, s, e, t⟩ w5 HS4.out.list.rn HX4.out.reads (by omega) (hf.2.1.small (by omega)) (by omega) (by have := HX.out.2; omega) HX.out.1.fits
          rw [chs_len, wrap_up hf.2.2.1 (by omega), hvu, hnu] at h
          exact h
        clear hvu hnu
        go_wp2_with fail
        refine HPC.out.mono ?_
        rintro r w6 ⟨⟨M, c', cs', rfl, hab, hp⟩, hb⟩
        have hP6 := HS4.out.bP.grow hb
        have q0 : w6.cell? ⟨w.heap.size + 1, 0, none⟩ = some (.int .i64 (-1)) := hP6.cell 0
        have q1 : w6.cell? ⟨w.heap.size + 1, 1, none⟩ = some (.int .i64 vr) := hP6.cell 1
        have q2 : w6.cell? ⟨w.heap.size + 1, 2, none⟩ = some (.slice a cs.length cap) := hP6.cell 2
        have f0 := hP6.frozen 0
        have f1 := hP6.frozen 1
        have f2 := hP6.frozen 2
        have HS6 : Hid (GSt w c (((w6.setCell ⟨w.heap.size + 1, 0, none⟩ (.int .i64 (-1))).setCell ⟨w.heap.size + 1, 1, none⟩ (.int .i64 vu)).setCell ⟨w.heap.size + 1, 2, none⟩ (.slice (some ⟨M, 0, none⟩) cs'.length c')) vu (some ⟨M, 0, none⟩) c' cs') := (HS4.out.grow hb).put vu (hab.down HS4.out.size)
        have HF6 : Hid (cs'.length ≤ m + 1 ∧ FinC (m + 1) (chs cs')) := by
          have h1 := (PutS.putC_sum (chs cs) ⟨p, s, e, t⟩).2
          rw [← hp, chs_len, chs_len] at h1
          have h2 := HF.out.1
          exact ⟨by omega, by rw [hp]; exact finC_put HF.out.2.1 HX.out⟩
        clear hab hp hb hP6 HPC p0 p1 p2 a0 a1 a2 a3 HS4 HX4 HA4
        go_wp2
        go_roundw
        case rel => exact ⟨j, m + 1, vu, some ⟨M, 0, none⟩, c', cs', by go_num, by have := HF.out; omega, HS6.out, HF6.out.1, HF6.out.2, by have := HF.out; have := HVU.out; omega, by have := HF.out; have := HVU.out; omega⟩
        case measure => first | (simp [intOf]; done) | (simp [intOf]; omega)
      · have hq1 : (q == i) = false := by simpa using hqi
        go_wp2
        go_roundw
        case rel => exact ⟨j, m, vr, a, cap, cs, by go_num, by have := HF.out; omega, HS4.out, HF.out.1, HF.out.2.1, HF.out.2.2.1, HF.out.2.2.2.1⟩
        case measure => first | (simp [intOf]; done) | (simp [intOf]; omega)
    · have hk' : ¬ (k : Int) > 0 := by omega
      have p0 : wr.cell? ⟨w.heap.size + 1, 0, none⟩ = some (.int .i64 (-1)) := HS.out.bP.cell 0
      have p1 : wr.cell? ⟨w.heap.size + 1, 1, none⟩ = some (.int .i64 vr) := HS.out.bP.cell 1
      have p2 : wr.cell? ⟨w.heap.size + 1, 2, none⟩ = some (.slice a cs.length cap) := HS.out.bP.cell 2
      have r0 : wr.cell? ⟨w.heap.size, 0, none⟩ = some (.int .i64 0) := HS.out.bR.cell 0
      have r1 : wr.cell? ⟨w.heap.size, 1, none⟩ = some (.int .i64 0) := HS.out.bR.cell 1
      have r2 : wr.cell? ⟨w.heap.size, 2, none⟩ = some (.slice none 0 0) := HS.out.bR.cell 2
      have f0 := HS.out.bR.frozen 0
      have f1 := HS.out.bR.frozen 1
      have f2 := HS.out.bR.frozen 2
      go_wp2
      have hs := put3 HS.out.bR (.int .i64 (-1)) (.int .i64 vr) (.slice a cs.length cap)
      have s0 := hs.cell 0
      have s1 := hs.cell 1
      have s2 := hs.cell 2
      refine bodyPost_ret (v := .agg #[.int .i64 (-1), .int .i64 vr, .slice a cs.length cap]) (by simp [results, Tryz.results116, go_sem, s0, s1, s2]) rfl ?_
      have h0 := HS.out.clt
      have hf := HF.out
      exact ⟨vr, a, cap, cs, rfl, ⟨(((HS.out.list.down (by omega)).under (by omega) _ _).under (by omega) _ _).under (by omega) _ _, cur_set (cur_set (cur_set HS.out.cur h0 _ _) h0 _ _) h0 _ _, DrawC.kept_set (DrawC.kept_set (DrawC.kept_set HS.out.kept (Nat.le_refl _) _ _) (Nat.le_refl _) _ _) (Nat.le_refl _) _ _, h0, hf.2.1.mono (by omega)⟩, by omega, hf.2.2.1, by omega⟩
end Go.Proofs.YtooninmicfcfoaaGreat.DrawG
namespace Go.Proofs.YtooninmicfcfoaaGreat.DrawH
open Go.RowKit
open Draw
open Labs LabS Over Blk App DrawL DrawT Alms AlmM DrawA DrawB Rws ChnI ChnC ChnP ChnU ChnK DrawC DrawD DrawE Chs Prt PrtF PrtC DrawG

theorem PL.set {lo : Nat} {w : World} {a : Option Addr} {cap N : Nat} {cs : List CRow} {ds : Array Value} (h : PL lo w a cap cs) (hN : Blk w N ds 26) (i : Nat) (v : Value) : PL lo (w.setCell ⟨N, i, none⟩ v) a cap cs := h.imp id fun ⟨M, e, k⟩ => ⟨M, e, CB.set' k hN i v⟩
theorem PL.row {lo : Nat} {w : World} {a : Option Addr} {cap n : Nat} {cs : List CRow} (h : PL lo w a cap cs) : ∀ k, (Value.slice a n cap).ownBlock = some k → lo ≤ k ∧ ∃ cu, Blk w k cu 96 := fun k hk => by
  rcases h with ⟨e, _, _⟩ | ⟨M, e, hc⟩
  · rw [e] at hk; cases hk
  · rw [e] at hk
    cases hk
    obtain ⟨cu, h1, _⟩ := hc.outer
    exact ⟨hc.at', cu, h1⟩
theorem PL.own {lo : Nat} {w : World} {a : Option Addr} {cap : Nat} {cs : List CRow} (h : PL lo w a cap cs) : ∃ xs : List Value, w.ownsRow lo 96 2 (.slice a cs.length cap) cs.length xs ∧ xs.length = cs.length * 2 ∧ ∀ i, i < cs.length → Cel (fun k => xs[k]?) i (nthR cs i) := by
  rcases h with ⟨e, e2, e3⟩ | ⟨M, e, hc⟩
  · subst e e2 e3
    exact ⟨[], ⟨rfl, .inl ⟨rfl, rfl⟩⟩, rfl, fun i hi => by simp at hi⟩
  · subst e; exact hc.own
theorem PL.app {lo : Nat} {W w' : World} {a : Option Addr} {cap : Nat} {cs : List CRow} {x : CRow} {xs : List Value} {v' : Value} (h : PL lo W a cap cs) (hx : AB lo W x.M x.c x.rs) (hne : ∀ y ∈ cs, ∀ k, blks y.M y.rs k → ¬ blks x.M x.rs k) (hl : xs.length = cs.length * 2) (hxs : ∀ i, i < cs.length → Cel (fun k => xs[k]?) i (nthR cs i))
    (hown : w'.ownsRow lo 96 2 v' (cs.length + 1) (xs ++ rowC x)) (hg : W.grownBy w' (Value.slice a cs.length cap).ownBlock) : ∃ M' c', v' = .slice (some ⟨M', 0, none⟩) (cs.length + 1) c' ∧ CB lo w' M' c' (cs ++ [x]) := by
  rcases h with ⟨e, e2, e3⟩ | ⟨M, e, hc⟩
  · subst e e2 e3
    have hmv : Moved W w' := ⟨fun b => blk_far b hg (fun e => by cases e), fun b => blk_far b hg (fun e => by cases e)⟩
    rcases hown.2 with ⟨_, e⟩ | ⟨g, cap, cur, e, hb, hgb, hcc, hm, hz, ht⟩
    · simp at e
    · have hx0 : xs = [] := List.eq_nil_of_length_eq_zero (by simpa using hl)
      subst hx0
      refine ⟨g, cap, e, hb, ⟨by simpa using hcc, hm⟩, ⟨cur, hgb, hz, fun i hi => ?_⟩, (RowsC.nil lo W).app hx (fun y hy => by simp at hy) |>.moved hmv⟩
      have e0 : i = 0 := by simp at hi; exact hi
      subst e0
      have hr : ∀ j, j < 2 → cur[j]? = (rowC x)[j]? := fun j hj => by
        have : ([] ++ rowC x)[j]? = cur[j]? := by rw [← ht, List.getElem?_take_of_lt (by simp; omega)]; simp
        rw [← this]; rfl
      exact ⟨hr 0 (by omega), hr 1 (by omega)⟩
  · subst e; exact hc.app hx hne hl hxs hown hg
structure HSt (w : World) (c X : Nat) (wr : World) (hd vr : Int) (u : Value) (a : Option Addr) (cap : Nat) (cs : List CRow) : Prop where
  cur : Cur wr c
  kept : Kept c w wr
  clt : c < w.heap.size
  ord : w.heap.size < X ∧ X < wr.heap.size
  bR : Blk wr w.heap.size #[.int .i64 0, .int .i64 0, .slice none 0 0] 26
  bX : Blk wr X #[.int .i64 hd, .int .i64 vr, u] 26
  list : PL (w.heap.size + 1) wr a cap cs
  fine : FinC 7 (chs cs)
theorem HSt.keep {w : World} {c X : Nat} {wr w' : World} {hd vr : Int} {u : Value} {a : Option Addr} {cap : Nat} {cs : List CRow} (h : HSt w c X wr hd vr u a cap cs) (hc : Cur w' c) (hk : Kept c wr w') : HSt w c X w' hd vr u a cap cs := by
  have h0 := h.clt; have h1 := h.ord
  exact ⟨hc, h.kept.trans hk, h0, ⟨h1.1, Nat.lt_of_lt_of_le h1.2 hk.size⟩, blk_kept h.bR hk (by omega), blk_kept h.bX hk (by omega), h.list.keep hk (by omega), h.fine⟩
theorem HSt.grow {w : World} {c X : Nat} {wr w' : World} {hd vr : Int} {u : Value} {a : Option Addr} {cap : Nat} {cs : List CRow} (h : HSt w c X wr hd vr u a cap cs) (hb : Below wr.heap.size wr w') : HSt w c X w' hd vr u a cap cs := h.keep (cur_bel h.cur hb) (kept_bel hb)
theorem HSt.set0 {w : World} {c X : Nat} {wr : World} {hd vr : Int} {u : Value} {a : Option Addr} {cap : Nat} {cs : List CRow} (h : HSt w c X wr hd vr u a cap cs) (y : Int) : HSt w c X (wr.setCell ⟨X, 0, none⟩ (.int .i64 y)) y vr u a cap cs := by
  have h0 := h.clt; have h1 := h.ord
  exact ⟨cur_set h.cur (by omega) _ _, DrawC.kept_set h.kept (by omega) _ _, h0, by simpa using h1, h.bR.set_other (by show X ≠ _; omega) _, h.bX.set 0 _, PL.set h.list h.bX _ _, h.fine⟩
theorem HSt.set1 {w : World} {c X : Nat} {wr : World} {hd vr : Int} {u : Value} {a : Option Addr} {cap : Nat} {cs : List CRow} (h : HSt w c X wr hd vr u a cap cs) (y : Int) : HSt w c X (wr.setCell ⟨X, 1, none⟩ (.int .i64 y)) hd y u a cap cs := by
  have h0 := h.clt; have h1 := h.ord
  exact ⟨cur_set h.cur (by omega) _ _, DrawC.kept_set h.kept (by omega) _ _, h0, by simpa using h1, h.bR.set_other (by show X ≠ _; omega) _, h.bX.set 1 _, PL.set h.list h.bX _ _, h.fine⟩
theorem HSt.set2 {w : World} {c X : Nat} {wr : World} {hd vr : Int} {u : Value} {a : Option Addr} {cap : Nat} {cs : List CRow} (h : HSt w c X wr hd vr u a cap cs) (u' : Value) : HSt w c X (wr.setCell ⟨X, 2, none⟩ u') hd vr u' a cap cs := by
  have h0 := h.clt; have h1 := h.ord
  exact ⟨cur_set h.cur (by omega) _ _, DrawC.kept_set h.kept (by omega) _ _, h0, by simpa using h1, h.bR.set_other (by show X ≠ _; omega) _, h.bX.set 2 _, PL.set h.list h.bX _ _, h.fine⟩
theorem HSt.fin {w : World} {c X : Nat} {wr : World} {hd vr : Int} {u : Value} {a : Option Addr} {cap : Nat} {cs : List CRow} (h : HSt w c X wr hd vr u a cap cs) (v0 v1 v2 : Value) : PDr w c (((wr.setCell ⟨w.heap.size, 0, none⟩ v0).setCell ⟨w.heap.size, 1, none⟩ v1).setCell ⟨w.heap.size, 2, none⟩ v2) a cap cs :=
  ⟨((h.list.under (by omega) _ _).under (by omega) _ _).under (by omega) _ _, cur_set (cur_set (cur_set h.cur h.clt _ _) h.clt _ _) h.clt _ _, DrawC.kept_set (DrawC.kept_set (DrawC.kept_set h.kept (Nat.le_refl _) _ _) (Nat.le_refl _) _ _) (Nat.le_refl _) _ _, h.clt, h.fine⟩
theorem HSt.app {w : World} {c X : Nat} {W w' : World} {hd vr : Int} {u : Value} {a : Option Addr} {cap : Nat} {cs : List CRow} {x : CRow} {xs : List Value} {v' : Value} (h : HSt w c X W hd vr u a cap cs) (hx : AB (w.heap.size + 1) W x.M x.c x.rs) (hne : ∀ y ∈ cs, ∀ k, blks y.M y.rs k → ¬ blks x.M x.rs k) (hf : Fines x.ch.P ∧ x.ch.P.length ≤ 7 ∧ DrawA.I64 x.ch.f) (hl : xs.length = cs.length * 2) (hxs : ∀ i, i < cs.length → Cel (fun k => xs[k]?) i (nthR cs i))
    (hown : w'.ownsRow (w.heap.size + 1) 96 2 v' (cs.length + 1) (xs ++ rowC x)) (hg : W.grownBy w' (Value.slice a cs.length cap).ownBlock) : ∃ M' c', v' = .slice (some ⟨M', 0, none⟩) (cs.length + 1) c' ∧ HSt w c X w' hd vr u (some ⟨M', 0, none⟩) c' (cs ++ [x]) := by
  have h0 := h.clt; have h1 := h.ord
  obtain ⟨M', c', e, hcb⟩ := PL.app h.list hx hne hl hxs hown hg
  refine ⟨M', c', e, h.cur.grown hg (fun k hk => by have := (PL.row h.list k hk).1; omega), kept_grown (B := 0) h.kept hg (fun k hk => by have := (PL.row h.list k hk).1; omega), h0, ⟨h1.1, Nat.lt_of_lt_of_le h1.2 hg.size⟩, blk_far h.bR hg (fun e => by have := (PL.row h.list _ e.symm).1; omega), blk_far h.bX hg (fun e => by obtain ⟨_, cu, hcu⟩ := PL.row h.list _ e.symm; exact blkT_ne h.bX hcu (by decide) rfl), .inr ⟨M', rfl, hcb⟩, ?_⟩
  rw [chs_app]; exact h.fine.app hf
theorem PL.high {lo : Nat} {w : World} {a : Option Addr} {cap : Nat} {cs : List CRow} (h : PL lo w a cap cs) : ∀ y ∈ cs, ∀ k, blks y.M y.rs k → k < w.heap.size := fun y hy k hk => by
  rcases h with ⟨_, _, e⟩ | ⟨M, _, hc⟩
  · rw [e] at hy; simp at hy
  · exact blks_high (hc.rows.rows y hy) k hk
theorem retP {M n n' c : Nat} {hd vr : Int} (h : n = n') : Ending.returned (.agg #[.int .i64 hd, .int .i64 vr, .slice (some ⟨M, 0, none⟩) n c]) = .returned (.agg #[.int .i64 hd, .int .i64 vr, .slice (some ⟨M, 0, none⟩) n' c]) := by rw [h]
set_option maxRecDepth 100000 in
set_option maxHeartbeats 3200000 in
theorem l7Any_any (c : Nat) (i n : Int) (w : World) (hc : Cur w c) (hn : DrawA.I64 n) :
    Calls Tryz.prog 61 #[.pointer (some ⟨c, 0, none⟩), .int .i64 i, .int .i64 n] w fun r w' => ∃ (hd vr : Int) (a : Option Addr) (cap : Nat) (cs : List CRow), r = .returned (.agg #[.int .i64 hd, .int .i64 vr, .slice a cs.length cap]) ∧ PDr w c w' a cap cs ∧ cs.length ≤ 8 ∧ DrawA.I64 hd ∧ -1 ≤ vr ∧ vr ≤ 7 := by
  have HC : Hid (Cur w c) := hc
  have HL : Hid (c < w.heap.size) := hc.lt
  have HN : Hid (DrawA.I64 n) := hn
  clear hc hn
  obtain ⟨j0, hj, hy0, hy1, hy2⟩ := info_parts infoC
  have HI : Hid (Tryz.prog.info? 96 = some j0 ∧ j0.zero = some (.agg #[.int .i64 0, .slice none 0 0]) ∧ j0.size = 2 ∧ j0.bytes = 32) := ⟨hj, hy0, hy1, hy2⟩
  clear hj hy0 hy1 hy2
  go_enter Tryz.func61, Tryz.ntmps61
  go_wp2_with fail
  refine (l7Draw_any c i n _ (HC.out.alloc _) HN.out).mono ?_
  rintro r w1 ⟨vr, a, cap, cs, rfl, hd, hc7, hv0, hv7⟩
  have HD1 : Hid (PDr (w.alloc (.cells #[.int .i64 0, .int .i64 0, .slice none 0 0] 26)) c w1 a cap cs) := hd
  have HR1 : Hid (Blk w1 w.heap.size #[.int .i64 0, .int .i64 0, .slice none 0 0] 26) := blk_kept (Blk.new _ _ _) hd.kept (by have := HL.out; omega)
  clear hd
  go_wp2_with fail
  refine (below_any c 12 _ (HD1.out.cur.alloc _) (by decide) (by decide)).mono ?_
  rintro r w2 ⟨⟨z, rfl, hz0', hz1'⟩, hc2, hk2⟩
  have HX : Hid (HSt w c w1.heap.size w2 (-1) vr (.slice a cs.length cap) a cap cs) := by
    have h0 := HL.out; have h1 := HR1.out.lt
    have h2 := hk2.size
    simp at h2
    exact ⟨hc2, ((((Kept.refl c w).alloc _).trans HD1.out.kept).alloc _).trans hk2, h0, ⟨h1, by omega⟩, blk_kept (HR1.out.alloc _) hk2 (by omega), blk_kept (Blk.new w1 _ _) hk2 (by omega), ((HD1.out.list.grow (Go.Joins.below_alloc1 w1 _)).down (by simp)).keep hk2 (by omega), HD1.out.fine⟩
  have HV : Hid (cs.length ≤ 7 ∧ 0 ≤ vr ∧ vr ≤ 7) := ⟨hc7, hv0, hv7⟩
  clear hc2 hk2 HD1 HR1 hc7 hv0 hv7
  generalize w1.heap.size = X at HX ⊢
  by_cases e0 : z = 0
  · subst e0
    go_wp2_with fail
    refine (int_any c _ 0 3 3 (w2.alloc (.cells #[.int .i64 (-2), .int .i64 4, .int .i64 5] 3)) (HX.out.cur.alloc _) (row_lit (w := w2) (by decide) rfl HX.out.cur.lt) (by decide) (by decide)).mono ?_
    rintro r w3 ⟨⟨y, rfl, hy0, hy1⟩, hc3, hk3⟩
    have HX3 : Hid (HSt w c X w3 (-1) vr (.slice a cs.length cap) a cap cs) := (HX.out.grow (Go.Joins.below_alloc1 w2 _)).keep hc3 hk3
    have HY : Hid (DrawA.I64 y) := ⟨hy0, hy1⟩
    have q0 : w3.cell? ⟨X, 0, none⟩ = some (.int .i64 (-1)) := HX3.out.bX.cell 0
    have g0 := HX3.out.bX.frozen 0
    clear hc3 hk3 hy0 hy1
    go_upto_region 12 with fail
    have HX4 : Hid (HSt w c X (w3.setCell ⟨X, 0, none⟩ (.int .i64 y)) y vr (.slice a cs.length cap) a cap cs) := HX3.out.set0 y
    clear q0 g0
    generalize w3.setCell ⟨X, 0, none⟩ (.int .i64 y) = W3 at *
    have r0 : W3.cell? ⟨w.heap.size, 0, none⟩ = some (.int .i64 0) := HX4.out.bR.cell 0
    have r1 : W3.cell? ⟨w.heap.size, 1, none⟩ = some (.int .i64 0) := HX4.out.bR.cell 1
    have r2 : W3.cell? ⟨w.heap.size, 2, none⟩ = some (.slice none 0 0) := HX4.out.bR.cell 2
    have fr0 := HX4.out.bR.frozen 0
    have fr1 := HX4.out.bR.frozen 1
    have fr2 := HX4.out.bR.frozen 2
    have x0 : W3.cell? ⟨X, 0, none⟩ = some (.int .i64 y) := HX4.out.bX.cell 0
    have x1 : W3.cell? ⟨X, 1, none⟩ = some (.int .i64 vr) := HX4.out.bX.cell 1
    have x2 : W3.cell? ⟨X, 2, none⟩ = some (.slice a cs.length cap) := HX4.out.bX.cell 2
    go_wp2
    have hs := put3 HX4.out.bR (.int .i64 y) (.int .i64 vr) (.slice a cs.length cap)
    have s0 := hs.cell 0
    have s1 := hs.cell 1
    have s2 := hs.cell 2
    refine bodyPost_ret (v := .agg #[.int .i64 y, .int .i64 vr, .slice a cs.length cap]) (by simp [results, Tryz.results61, go_sem, s0, s1, s2]) rfl ?_
    exact ⟨y, vr, a, cap, cs, rfl, HX4.out.fin _ _ _, by have := HV.out; omega, HY.out, by have := HV.out; omega, by have := HV.out; omega⟩
  have d0' : (z == 0) = false := by simpa using e0
  by_cases e1 : z = 1
  · subst e1
    have q1 : w2.cell? ⟨X, 1, none⟩ = some (.int .i64 vr) := HX.out.bX.cell 1
    have g1 := HX.out.bX.frozen 1
    go_upto_region 12 with fail
    have HX4 : Hid (HSt w c X (w2.setCell ⟨X, 1, none⟩ (.int .i64 (-1))) (-1) (-1) (.slice a cs.length cap) a cap cs) := HX.out.set1 (-1)
    clear q1 g1
    generalize w2.setCell ⟨X, 1, none⟩ (.int .i64 (-1)) = W3 at *
    have r0 : W3.cell? ⟨w.heap.size, 0, none⟩ = some (.int .i64 0) := HX4.out.bR.cell 0
    have r1 : W3.cell? ⟨w.heap.size, 1, none⟩ = some (.int .i64 0) := HX4.out.bR.cell 1
    have r2 : W3.cell? ⟨w.heap.size, 2, none⟩ = some (.slice none 0 0) := HX4.out.bR.cell 2
    have fr0 := HX4.out.bR.frozen 0
    have fr1 := HX4.out.bR.frozen 1
    have fr2 := HX4.out.bR.frozen 2
    have x0 : W3.cell? ⟨X, 0, none⟩ = some (.int .i64 (-1)) := HX4.out.bX.cell 0
    have x1 : W3.cell? ⟨X, 1, none⟩ = some (.int .i64 (-1)) := HX4.out.bX.cell 1
    have x2 : W3.cell? ⟨X, 2, none⟩ = some (.slice a cs.length cap) := HX4.out.bX.cell 2
    go_wp2
    have hs := put3 HX4.out.bR (.int .i64 (-1)) (.int .i64 (-1)) (.slice a cs.length cap)
    have s0 := hs.cell 0
    have s1 := hs.cell 1
    have s2 := hs.cell 2
    refine bodyPost_ret (v := .agg #[.int .i64 (-1), .int .i64 (-1), .slice a cs.length cap]) (by simp [results, Tryz.results61, go_sem, s0, s1, s2]) rfl ?_
    exact ⟨(-1), (-1), a, cap, cs, rfl, HX4.out.fin _ _ _, by have := HV.out; omega, ⟨by omega, by omega⟩, by omega, by omega⟩
  have d1' : (z == 1) = false := by simpa using e1
  by_cases e2 : z = 2
  · subst e2
    have HCa : Hid (Calls Tryz.prog 117 #[.pointer (some ⟨c, 0, none⟩)] w2.drew fun r w' => ∃ (f2 : Int) (M2 cap2 : Nat) (rs2 : List ARow), r = .returned (.agg #[.int .i64 f2, .slice (some ⟨M2, 0, none⟩) rs2.length cap2]) ∧ HSt w c X w' (-1) vr (.slice a cs.length cap) a cap cs ∧ AB (w.heap.size + 1) w' M2 cap2 rs2 ∧ (∀ y ∈ cs, ∀ k, blks y.M y.rs k → ¬ blks M2 rs2 k) ∧ Fines (pals rs2) ∧ rs2.length ≤ 7 ∧ DrawA.I64 f2) := (l6Any_any c w2.drew (Cur.drewN HX.out.cur 1)).mono fun r w' ⟨f2, M2, c2, rs2, hr, hd, h5, hf⟩ => by
      have hk := kept_drew hd.kept
      exact ⟨f2, M2, c2, rs2, hr, HX.out.keep hd.cur hk, hd.ab.down (by have := HX.out.ord; show _ ≤ w2.drew.heap.size + 1; simp; omega), fun y hy k h1 h2 => by have h3 := PL.high HX.out.list y hy k h1; have h4 := blks_low hd.ab k h2; simp at h4; omega, hd.fine, by omega, hf⟩
    go_upto_region 8 with fail
    refine Hld.wp_region_LH (z := 7) (S := fun w' => w'.cell? ⟨X, 2, none⟩ = some (.slice a cs.length cap)) (by kernel_rfl) (HX.out.bX.drew.cell 2) (fun hHeld => ?_)
    refine Hld.anyL_take (i := 0) (oi := { dst := some 25, op := Op.fieldAddr 26 (Operand.tmp 7) 2, type := 0, pos := "l07_part.go:119", after := #[], guard := none }) (v := ?vha1) rfl (by kernel_rfl) (by kernel_rfl) (by kernel_rfl) (by kernel_rfl) (fun _ _ _ h => h) (Or.inl ⟨by rfl, ?hyha1⟩) hHeld ?_
    case hyha1 => (intro w hSw; (try dsimp only at hSw); go_simp <;> with_reducible rfl)
    try simp only [Act.put, List.setIfInBounds_toArray, List.set_cons_zero, List.set_cons_succ]
    refine Hld.anyL_take (i := 1) (oi := { dst := some 26, op := Op.load 24 (Operand.tmp 25), type := 24, pos := "l07_part.go:119", after := #[{ on := 0, ground := Ground.data }], guard := none }) (v := ?vha2) rfl (by kernel_rfl) (by kernel_rfl) (by kernel_rfl) (by kernel_rfl) (fun _ _ _ h => h) (Or.inl ⟨by rfl, ?hyha2⟩) hHeld ?_
    case hyha2 => (intro w hSw; (try dsimp only at hSw); go_simp <;> with_reducible rfl)
    try simp only [Act.put, List.setIfInBounds_toArray, List.set_cons_zero, List.set_cons_succ]
    refine Hld.anyL_take (i := 2) (oi := { dst := some 27, op := Op.move (Operand.tmp 0), type := 82, pos := "l07_part.go:119", after := #[], guard := none }) (v := ?vha3) rfl (by kernel_rfl) (by kernel_rfl) (by kernel_rfl) (by kernel_rfl) (fun _ _ _ h => h) (Or.inl ⟨by rfl, ?hyha3⟩) hHeld ?_
    case hyha3 => (intro w hSw; (try dsimp only at hSw); go_simp <;> with_reducible rfl)
    try simp only [Act.put, List.setIfInBounds_toArray, List.set_cons_zero, List.set_cons_succ]
    refine Hld.anyL_ready (rs := [3]) (by kernel_rfl) (by simp) ?_
    refine Hld.AllL.cons (o := { dst := some 28, op := Op.call { callee := Callee.value (Operand.func 117), args := #[Operand.tmp 27], argTypes := #[82] }, type := 96, pos := "l07_part.go:119", after := #[{ on := 2, ground := Ground.data }], guard := none }) rfl (fun K hK => ?_) Hld.AllL.nil
    go_simp
    refine HCa.out.mono ?_
    rintro r wyc ⟨f2, M2, cap2, rs2, rfl, hx, hab, hne, hfi, h7, hf2⟩
    have HXc : Hid (HSt w c X wyc (-1) vr (.slice a cs.length cap) a cap cs) := hx
    have HY : Hid (AB (w.heap.size + 1) wyc M2 cap2 rs2 ∧ (∀ y ∈ cs, ∀ k, blks y.M y.rs k → ¬ blks M2 rs2 k) ∧ Fines (pals rs2) ∧ rs2.length ≤ 7 ∧ DrawA.I64 f2) := ⟨hab, hne, hfi, h7, hf2⟩
    clear hx hab hne hfi h7 hf2
    clear hHeld
    refine hK.out _ _ (HXc.out.bX.cell 2) (fun hHeld => ?_)
    clear hK K
    try simp only [Act.put, List.setIfInBounds_toArray, List.set_cons_zero, List.set_cons_succ]
    refine Hld.anyL_ready (rs := [4]) (by kernel_rfl) (by simp) ?_
    refine Hld.AllL.cons (o := { dst := some 29, op := Op.buildSlice 24 1 #[(0, Operand.tmp 28)], type := 24, pos := "l07_part.go:119", after := #[{ on := 3, ground := Ground.data }], guard := none }) rfl (fun K hK => ?_) Hld.AllL.nil
    go_simp
    clear hHeld
    refine hK.out _ _ ((HXc.out.grow (Go.Joins.below_alloc1 wyc _)).bX.cell 2) (fun hHeld => ?_)
    clear hK K
    try simp only [Act.put, List.setIfInBounds_toArray, List.set_cons_zero, List.set_cons_succ]
    refine Hld.anyL_ready (rs := [5]) (by kernel_rfl) (by simp) ?_
    refine Hld.AllL.cons (o := { dst := some 30, op := Op.call { callee := Callee.builtin Builtin.append, args := #[Operand.tmp 26, Operand.tmp 29], argTypes := #[24, 24] }, type := 24, pos := "l07_part.go:119", after := #[{ on := 1, ground := Ground.data }, { on := 4, ground := Ground.data }, { on := 3, ground := Ground.chain }], guard := none }) rfl (fun K hK => ?_) Hld.AllL.nil
    have hXd : HSt w c X (wyc.alloc (.cells #[.int .i64 f2, .slice (some ⟨M2, 0, none⟩) rs2.length cap2] 96)) (-1) vr (.slice a cs.length cap) a cap cs := HXc.out.grow (Go.Joins.below_alloc1 wyc _)
    obtain ⟨xs, hox, hxl, hxs⟩ := PL.own hXd.list
    refine step_appB rfl _ _ 24 rfl 96 j0 (.agg #[.int .i64 0, .slice none 0 0]) 2 32 Tryz.underlying24 HI.out.1 HI.out.2.1 HI.out.2.2.1 HI.out.2.2.2 rfl (by decide) (w.heap.size + 1) ?hakb (.slice a cs.length cap) cs.length xs rfl hox ⟨wyc.heap.size, 0, none⟩ 1 1 (rowC (⟨f2, M2, cap2, rs2⟩ : CRow)) rfl rfl (blk_news (Blk.new wyc _ _)) (rowC_one _) ?hakc ?hakd ?_
    case hakb => have := hXd.ord; omega
    case hakc => have := HV.out; unfold maxLen; omega
    case hakd => have := HV.out; omega
    intro v' wya hown hg hat
    obtain ⟨M3, c3, e3, hXA⟩ := hXd.app (x := (⟨f2, M2, cap2, rs2⟩ : CRow)) (HY.out.1.grow (Go.Joins.below_alloc1 wyc _)) HY.out.2.1 ⟨HY.out.2.2.1, by show (pals rs2).length ≤ 7; rw [pals_len]; exact HY.out.2.2.2.1, HY.out.2.2.2.2⟩ hxl hxs hown hg
    subst e3
    have HXA : Hid (HSt w c X wya (-1) vr (.slice a cs.length cap) (some ⟨M3, 0, none⟩) c3 (cs ++ [(⟨f2, M2, cap2, rs2⟩ : CRow)])) := hXA
    clear hown hg hat hXA hXd hox hxl hxs
    clear hHeld
    refine hK.out _ _ (HXA.out.bX.cell 2) (fun hHeld => ?_)
    clear hK K
    try simp only [Act.put, List.setIfInBounds_toArray, List.set_cons_zero, List.set_cons_succ]
    refine Hld.anyL_take (i := 6) (oi := { dst := some 31, op := Op.fieldAddr 26 (Operand.tmp 7) 2, type := 0, pos := "l07_part.go:119", after := #[{ on := 0, ground := Ground.phase }, { on := 1, ground := Ground.phase }, { on := 2, ground := Ground.phase }, { on := 3, ground := Ground.phase }, { on := 4, ground := Ground.phase }, { on := 5, ground := Ground.phase }], guard := none }) (v := ?vha7) rfl (by kernel_rfl) (by kernel_rfl) (by kernel_rfl) (by kernel_rfl) (fun _ _ _ h => h) (Or.inl ⟨by rfl, ?hyha7⟩) hHeld ?_
    case hyha7 => (intro w hSw; (try dsimp only at hSw); go_simp <;> with_reducible rfl)
    try simp only [Act.put, List.setIfInBounds_toArray, List.set_cons_zero, List.set_cons_succ]
    refine Hld.anyL_ready (rs := [7]) (by kernel_rfl) (by simp) ?_
    refine Hld.AllL.last (o := { dst := none, op := Op.store 24 (Operand.tmp 31) (Operand.tmp 30), type := 0, pos := "l07_part.go:119", after := #[{ on := 6, ground := Ground.data }, { on := 5, ground := Ground.data }, { on := 5, ground := Ground.chain }, { on := 0, ground := Ground.phase }, { on := 1, ground := Ground.phase }, { on := 2, ground := Ground.phase }, { on := 3, ground := Ground.phase }, { on := 4, ground := Ground.phase }, { on := 5, ground := Ground.phase }], guard := none }) rfl (fun K hK => ?_)
    have cD : wya.cell? ⟨X, 2, none⟩ = some (.slice a cs.length cap) := HXA.out.bX.cell 2
    have fD := HXA.out.bX.frozen 2
    go_simp
    refine hK.out _ _ ?_
    clear hK K cD fD
    try simp only [Act.put, List.setIfInBounds_toArray, List.set_cons_zero, List.set_cons_succ]
    refine Hld.anyL_done (by kernel_rfl) ?_ _
    have HXZ : Hid (HSt w c X (wya.setCell ⟨X, 2, none⟩ (.slice (some ⟨M3, 0, none⟩) (cs.length + 1) c3)) (-1) vr (.slice (some ⟨M3, 0, none⟩) (cs.length + 1) c3) (some ⟨M3, 0, none⟩) c3 (cs ++ [(⟨f2, M2, cap2, rs2⟩ : CRow)])) := HXA.out.set2 _
    clear hHeld HXA HXc HY
    generalize wya.setCell ⟨X, 2, none⟩ (.slice (some ⟨M3, 0, none⟩) (cs.length + 1) c3) = W3 at *
    have r0 : W3.cell? ⟨w.heap.size, 0, none⟩ = some (.int .i64 0) := HXZ.out.bR.cell 0
    have r1 : W3.cell? ⟨w.heap.size, 1, none⟩ = some (.int .i64 0) := HXZ.out.bR.cell 1
    have r2 : W3.cell? ⟨w.heap.size, 2, none⟩ = some (.slice none 0 0) := HXZ.out.bR.cell 2
    have fr0 := HXZ.out.bR.frozen 0
    have fr1 := HXZ.out.bR.frozen 1
    have fr2 := HXZ.out.bR.frozen 2
    have x0 : W3.cell? ⟨X, 0, none⟩ = some (.int .i64 (-1)) := HXZ.out.bX.cell 0
    have x1 : W3.cell? ⟨X, 1, none⟩ = some (.int .i64 vr) := HXZ.out.bX.cell 1
    have x2 : W3.cell? ⟨X, 2, none⟩ = some (.slice (some ⟨M3, 0, none⟩) (cs.length + 1) c3) := HXZ.out.bX.cell 2
    go_wp2
    have hs := put3 HXZ.out.bR (.int .i64 (-1)) (.int .i64 vr) (.slice (some ⟨M3, 0, none⟩) (cs.length + 1) c3)
    have s0 := hs.cell 0
    have s1 := hs.cell 1
    have s2 := hs.cell 2
    refine bodyPost_ret (v := .agg #[.int .i64 (-1), .int .i64 vr, .slice (some ⟨M3, 0, none⟩) (cs.length + 1) c3]) (by simp [results, Tryz.results61, go_sem, s0, s1, s2]) rfl ?_
    exact ⟨(-1), vr, some ⟨M3, 0, none⟩, c3, cs ++ [(⟨f2, M2, cap2, rs2⟩ : CRow)], retP (by simp), HXZ.out.fin _ _ _, by simp; have := HV.out; omega, ⟨by omega, by omega⟩, by have := HV.out; omega, by have := HV.out; omega⟩
  have d2' : (z == 2) = false := by simpa using e2
  by_cases e3 : z = 3
  · subst e3
    have x2 : w2.cell? ⟨X, 2, none⟩ = some (.slice a cs.length cap) := HX.out.bX.cell 2
    by_cases hr0 : 0 < cs.length
    ·
      have hr0' : (cs.length : Int) > 0 := by omega
      have hr0x : (0 : Int) < (cs.length : Int) := by omega
      obtain ⟨M, ea, hcb⟩ : ∃ M, a = some ⟨M, 0, none⟩ ∧ CB (w.heap.size + 1) w2 M cap cs := by
        rcases HX.out.list with ⟨_, _, e⟩ | h
        · rw [e] at hr0; simp at hr0
        · exact h
      subst ea
      obtain ⟨cur, hcu, hcz, hcel⟩ := hcb.outer
      obtain ⟨y0, y1⟩ := hcel 0 hr0
      have hx0 : (nthR cs 0).ch ∈ chs cs := List.mem_map.2 ⟨_, nthR_mem hr0, rfl⟩
      have hfx := HX.out.fine _ hx0
      have hab0 := hcb.rows.rows _ (nthR_mem hr0)
      have HY0 : Hid (w2.drew.cell? ⟨M, 0, none⟩ = some (.int .i64 (nthR cs 0).f) ∧ w2.drew.cell? ⟨M, 1, none⟩ = some (.slice (some ⟨(nthR cs 0).M, 0, none⟩) (nthR cs 0).rs.length (nthR cs 0).c)) := ⟨(hcu.drew.cell 0).trans y0, (hcu.drew.cell 1).trans y1⟩
      have HCa : Hid (Calls Tryz.prog 118 #[.agg #[.int .i64 (nthR cs 0).f, .slice (some ⟨(nthR cs 0).M, 0, none⟩) (nthR cs 0).rs.length (nthR cs 0).c]] w2.drew fun r w' => ∃ (f2 : Int) (M2 cap2 : Nat) (rs2 : List ARow), r = .returned (.agg #[.int .i64 f2, .slice (some ⟨M2, 0, none⟩) rs2.length cap2]) ∧ HSt w c X w' (-1) vr (.slice (some ⟨M, 0, none⟩) cs.length cap) (some ⟨M, 0, none⟩) cap cs ∧ AB (w.heap.size + 1) w' M2 cap2 rs2 ∧ (∀ y ∈ cs, ∀ k, blks y.M y.rs k → ¬ blks M2 rs2 k) ∧ Fines (pals rs2) ∧ rs2.length ≤ 7 ∧ DrawA.I64 f2) := by
        have h := l6Copy_any (nthR cs 0).f (some ⟨(nthR cs 0).M, 0, none⟩) (nthR cs 0).c (pals (nthR cs 0).rs) w2.drew (hab0.rd.below (Below.refl _ _).drew) (by have h7 : (pals (nthR cs 0).rs).length ≤ 7 := hfx.2.1; omega) hfx.1.lens
        rw [pals_len] at h
        refine h.mono fun r w' ⟨⟨M2, c2, rs2, hr, hab, hp⟩, hb⟩ => ?_
        have hb' : Below w2.heap.size w2 w' := grow_on (Below.refl _ _).drew hb
        have h7 : (pals (nthR cs 0).rs).length ≤ 7 := hfx.2.1
        rw [← hp, pals_len] at h7
        exact ⟨(nthR cs 0).f, M2, c2, rs2, hr, HX.out.grow hb', hab.down (by have := HX.out.ord; show _ ≤ w2.drew.heap.size + 2; simp; omega), fun y hy k h1 h2 => by have h3 := PL.high HX.out.list y hy k h1; have h4 := blks_low hab k h2; simp at h4; omega, by rw [hp]; exact hfx.1, h7, hfx.2.2⟩
      clear hcu hcz hcel y0 y1 hx0 hfx hab0 hcb
      go_upto_region 11 with fail
      refine Hld.wp_region_LH (z := 10) (S := fun w' => w'.cell? ⟨X, 2, none⟩ = some (.slice (some ⟨M, 0, none⟩) cs.length cap)) (by kernel_rfl) (HX.out.bX.drew.cell 2) (fun hHeld => ?_)
      refine Hld.anyL_take (i := 0) (oi := { dst := some 38, op := Op.fieldAddr 26 (Operand.tmp 7) 2, type := 0, pos := "l07_part.go:122", after := #[], guard := none }) (v := ?vhb1) rfl (by kernel_rfl) (by kernel_rfl) (by kernel_rfl) (by kernel_rfl) (fun _ _ _ h => h) (Or.inl ⟨by rfl, ?hyhb1⟩) hHeld ?_
      case hyhb1 => (intro w hSw; (try dsimp only at hSw); go_simp <;> with_reducible rfl)
      try simp only [Act.put, List.setIfInBounds_toArray, List.set_cons_zero, List.set_cons_succ]
      refine Hld.anyL_take (i := 1) (oi := { dst := some 39, op := Op.load 24 (Operand.tmp 38), type := 24, pos := "l07_part.go:122", after := #[{ on := 0, ground := Ground.data }], guard := none }) (v := ?vhb2) rfl (by kernel_rfl) (by kernel_rfl) (by kernel_rfl) (by kernel_rfl) (fun _ _ _ h => h) (Or.inl ⟨by rfl, ?hyhb2⟩) hHeld ?_
      case hyhb2 => (intro w hSw; (try dsimp only at hSw); go_simp <;> with_reducible rfl)
      try simp only [Act.put, List.setIfInBounds_toArray, List.set_cons_zero, List.set_cons_succ]
      refine Hld.anyL_take (i := 2) (oi := { dst := some 40, op := Op.fieldAddr 26 (Operand.tmp 7) 2, type := 0, pos := "l07_part.go:122", after := #[], guard := none }) (v := ?vhb3) rfl (by kernel_rfl) (by kernel_rfl) (by kernel_rfl) (by kernel_rfl) (fun _ _ _ h => h) (Or.inl ⟨by rfl, ?hyhb3⟩) hHeld ?_
      case hyhb3 => (intro w hSw; (try dsimp only at hSw); go_simp <;> with_reducible rfl)
      try simp only [Act.put, List.setIfInBounds_toArray, List.set_cons_zero, List.set_cons_succ]
      refine Hld.anyL_take (i := 3) (oi := { dst := some 41, op := Op.load 24 (Operand.tmp 40), type := 24, pos := "l07_part.go:122", after := #[{ on := 2, ground := Ground.data }], guard := none }) (v := ?vhb4) rfl (by kernel_rfl) (by kernel_rfl) (by kernel_rfl) (by kernel_rfl) (fun _ _ _ h => h) (Or.inl ⟨by rfl, ?hyhb4⟩) hHeld ?_
      case hyhb4 => (intro w hSw; (try dsimp only at hSw); go_simp <;> with_reducible rfl)
      try simp only [Act.put, List.setIfInBounds_toArray, List.set_cons_zero, List.set_cons_succ]
      refine Hld.anyL_take (i := 4) (oi := { dst := some 42, op := Op.indexAddr 24 (Operand.tmp 41) (Operand.const (Value.int IntKind.i64 0)), type := 0, pos := "l07_part.go:122", after := #[{ on := 3, ground := Ground.data }], guard := none }) (v := ?vhb5) rfl (by kernel_rfl) (by kernel_rfl) (by kernel_rfl) (by kernel_rfl) (fun _ _ _ h => h) (Or.inl ⟨by rfl, ?hyhb5⟩) hHeld ?_
      case hyhb5 => (intro w hSw; (try dsimp only at hSw); go_simp <;> with_reducible rfl)
      try simp only [Act.put, List.setIfInBounds_toArray, List.set_cons_zero, List.set_cons_succ]
      refine Hld.anyL_ready (rs := [5]) (by kernel_rfl) (by simp) ?_
      refine Hld.AllL.cons (o := { dst := some 43, op := Op.load 96 (Operand.tmp 42), type := 96, pos := "l07_part.go:122", after := #[{ on := 4, ground := Ground.data }], guard := none }) rfl (fun K hK => ?_) Hld.AllL.nil
      have y0 := HY0.out.1
      have y1 := HY0.out.2
      go_simp
      clear y0 y1
      clear hHeld
      refine hK.out _ _ (HX.out.bX.drew.cell 2) (fun hHeld => ?_)
      clear hK K
      try simp only [Act.put, List.setIfInBounds_toArray, List.set_cons_zero, List.set_cons_succ]
      refine Hld.anyL_ready (rs := [6]) (by kernel_rfl) (by simp) ?_
      refine Hld.AllL.cons (o := { dst := some 44, op := Op.call { callee := Callee.value (Operand.func 118), args := #[Operand.tmp 43], argTypes := #[96] }, type := 96, pos := "l07_part.go:122", after := #[{ on := 5, ground := Ground.data }], guard := none }) rfl (fun K hK => ?_) Hld.AllL.nil
      go_simp
      refine HCa.out.mono ?_
      rintro r wyc ⟨f2, M2, cap2, rs2, rfl, hx, hab, hne, hfi, h7, hf2⟩
      have HXc : Hid (HSt w c X wyc (-1) vr (.slice (some ⟨M, 0, none⟩) cs.length cap) (some ⟨M, 0, none⟩) cap cs) := hx
      have HY : Hid (AB (w.heap.size + 1) wyc M2 cap2 rs2 ∧ (∀ y ∈ cs, ∀ k, blks y.M y.rs k → ¬ blks M2 rs2 k) ∧ Fines (pals rs2) ∧ rs2.length ≤ 7 ∧ DrawA.I64 f2) := ⟨hab, hne, hfi, h7, hf2⟩
      clear hx hab hne hfi h7 hf2
      clear hHeld
      refine hK.out _ _ (HXc.out.bX.cell 2) (fun hHeld => ?_)
      clear hK K
      try simp only [Act.put, List.setIfInBounds_toArray, List.set_cons_zero, List.set_cons_succ]
      refine Hld.anyL_ready (rs := [7]) (by kernel_rfl) (by simp) ?_
      refine Hld.AllL.cons (o := { dst := some 45, op := Op.buildSlice 24 1 #[(0, Operand.tmp 44)], type := 24, pos := "l07_part.go:122", after := #[{ on := 6, ground := Ground.data }], guard := none }) rfl (fun K hK => ?_) Hld.AllL.nil
      go_simp
      clear hHeld
      refine hK.out _ _ ((HXc.out.grow (Go.Joins.below_alloc1 wyc _)).bX.cell 2) (fun hHeld => ?_)
      clear hK K
      try simp only [Act.put, List.setIfInBounds_toArray, List.set_cons_zero, List.set_cons_succ]
      refine Hld.anyL_ready (rs := [8]) (by kernel_rfl) (by simp) ?_
      refine Hld.AllL.cons (o := { dst := some 46, op := Op.call { callee := Callee.builtin Builtin.append, args := #[Operand.tmp 39, Operand.tmp 45], argTypes := #[24, 24] }, type := 24, pos := "l07_part.go:122", after := #[{ on := 1, ground := Ground.data }, { on := 7, ground := Ground.data }, { on := 6, ground := Ground.chain }], guard := none }) rfl (fun K hK => ?_) Hld.AllL.nil
      have hXd : HSt w c X (wyc.alloc (.cells #[.int .i64 f2, .slice (some ⟨M2, 0, none⟩) rs2.length cap2] 96)) (-1) vr (.slice (some ⟨M, 0, none⟩) cs.length cap) (some ⟨M, 0, none⟩) cap cs := HXc.out.grow (Go.Joins.below_alloc1 wyc _)
      obtain ⟨xs, hox, hxl, hxs⟩ := PL.own hXd.list
      refine step_appB rfl _ _ 24 rfl 96 j0 (.agg #[.int .i64 0, .slice none 0 0]) 2 32 Tryz.underlying24 HI.out.1 HI.out.2.1 HI.out.2.2.1 HI.out.2.2.2 rfl (by decide) (w.heap.size + 1) ?hbkb (.slice (some ⟨M, 0, none⟩) cs.length cap) cs.length xs rfl hox ⟨wyc.heap.size, 0, none⟩ 1 1 (rowC (⟨f2, M2, cap2, rs2⟩ : CRow)) rfl rfl (blk_news (Blk.new wyc _ _)) (rowC_one _) ?hbkc ?hbkd ?_
      case hbkb => have := hXd.ord; omega
      case hbkc => have := HV.out; unfold maxLen; omega
      case hbkd => have := HV.out; omega
      intro v' wya hown hg hat
      obtain ⟨M3, c3, e3, hXA⟩ := hXd.app (x := (⟨f2, M2, cap2, rs2⟩ : CRow)) (HY.out.1.grow (Go.Joins.below_alloc1 wyc _)) HY.out.2.1 ⟨HY.out.2.2.1, by show (pals rs2).length ≤ 7; rw [pals_len]; exact HY.out.2.2.2.1, HY.out.2.2.2.2⟩ hxl hxs hown hg
      subst e3
      have HXA : Hid (HSt w c X wya (-1) vr (.slice (some ⟨M, 0, none⟩) cs.length cap) (some ⟨M3, 0, none⟩) c3 (cs ++ [(⟨f2, M2, cap2, rs2⟩ : CRow)])) := hXA
      clear hown hg hat hXA hXd hox hxl hxs
      clear hHeld
      refine hK.out _ _ (HXA.out.bX.cell 2) (fun hHeld => ?_)
      clear hK K
      try simp only [Act.put, List.setIfInBounds_toArray, List.set_cons_zero, List.set_cons_succ]
      refine Hld.anyL_take (i := 9) (oi := { dst := some 47, op := Op.fieldAddr 26 (Operand.tmp 7) 2, type := 0, pos := "l07_part.go:122", after := #[{ on := 0, ground := Ground.phase }, { on := 1, ground := Ground.phase }, { on := 2, ground := Ground.phase }, { on := 3, ground := Ground.phase }, { on := 4, ground := Ground.phase }, { on := 5, ground := Ground.phase }, { on := 6, ground := Ground.phase }, { on := 7, ground := Ground.phase }, { on := 8, ground := Ground.phase }], guard := none }) (v := ?vhb10) rfl (by kernel_rfl) (by kernel_rfl) (by kernel_rfl) (by kernel_rfl) (fun _ _ _ h => h) (Or.inl ⟨by rfl, ?hyhb10⟩) hHeld ?_
      case hyhb10 => (intro w hSw; (try dsimp only at hSw); go_simp <;> with_reducible rfl)
      try simp only [Act.put, List.setIfInBounds_toArray, List.set_cons_zero, List.set_cons_succ]
      refine Hld.anyL_ready (rs := [10]) (by kernel_rfl) (by simp) ?_
      refine Hld.AllL.last (o := { dst := none, op := Op.store 24 (Operand.tmp 47) (Operand.tmp 46), type := 0, pos := "l07_part.go:122", after := #[{ on := 9, ground := Ground.data }, { on := 8, ground := Ground.data }, { on := 8, ground := Ground.chain }, { on := 0, ground := Ground.phase }, { on := 1, ground := Ground.phase }, { on := 2, ground := Ground.phase }, { on := 3, ground := Ground.phase }, { on := 4, ground := Ground.phase }, { on := 5, ground := Ground.phase }, { on := 6, ground := Ground.phase }, { on := 7, ground := Ground.phase }, { on := 8, ground := Ground.phase }], guard := none }) rfl (fun K hK => ?_)
      have cD : wya.cell? ⟨X, 2, none⟩ = some (.slice (some ⟨M, 0, none⟩) cs.length cap) := HXA.out.bX.cell 2
      have fD := HXA.out.bX.frozen 2
      go_simp
      refine hK.out _ _ ?_
      clear hK K cD fD
      try simp only [Act.put, List.setIfInBounds_toArray, List.set_cons_zero, List.set_cons_succ]
      refine Hld.anyL_done (by kernel_rfl) ?_ _
      have HXZ : Hid (HSt w c X (wya.setCell ⟨X, 2, none⟩ (.slice (some ⟨M3, 0, none⟩) (cs.length + 1) c3)) (-1) vr (.slice (some ⟨M3, 0, none⟩) (cs.length + 1) c3) (some ⟨M3, 0, none⟩) c3 (cs ++ [(⟨f2, M2, cap2, rs2⟩ : CRow)])) := HXA.out.set2 _
      clear hHeld HXA HXc HY
      generalize wya.setCell ⟨X, 2, none⟩ (.slice (some ⟨M3, 0, none⟩) (cs.length + 1) c3) = W3 at *
      have r0 : W3.cell? ⟨w.heap.size, 0, none⟩ = some (.int .i64 0) := HXZ.out.bR.cell 0
      have r1 : W3.cell? ⟨w.heap.size, 1, none⟩ = some (.int .i64 0) := HXZ.out.bR.cell 1
      have r2 : W3.cell? ⟨w.heap.size, 2, none⟩ = some (.slice none 0 0) := HXZ.out.bR.cell 2
      have fr0 := HXZ.out.bR.frozen 0
      have fr1 := HXZ.out.bR.frozen 1
      have fr2 := HXZ.out.bR.frozen 2
      have x0 : W3.cell? ⟨X, 0, none⟩ = some (.int .i64 (-1)) := HXZ.out.bX.cell 0
      have x1 : W3.cell? ⟨X, 1, none⟩ = some (.int .i64 vr) := HXZ.out.bX.cell 1
      have x2 : W3.cell? ⟨X, 2, none⟩ = some (.slice (some ⟨M3, 0, none⟩) (cs.length + 1) c3) := HXZ.out.bX.cell 2
      go_wp2
      have hs := put3 HXZ.out.bR (.int .i64 (-1)) (.int .i64 vr) (.slice (some ⟨M3, 0, none⟩) (cs.length + 1) c3)
      have s0 := hs.cell 0
      have s1 := hs.cell 1
      have s2 := hs.cell 2
      refine bodyPost_ret (v := .agg #[.int .i64 (-1), .int .i64 vr, .slice (some ⟨M3, 0, none⟩) (cs.length + 1) c3]) (by simp [results, Tryz.results61, go_sem, s0, s1, s2]) rfl ?_
      exact ⟨(-1), vr, some ⟨M3, 0, none⟩, c3, cs ++ [(⟨f2, M2, cap2, rs2⟩ : CRow)], retP (by simp), HXZ.out.fin _ _ _, by simp; have := HV.out; omega, ⟨by omega, by omega⟩, by have := HV.out; omega, by have := HV.out; omega⟩
    ·
      have hr0' : ¬ (cs.length : Int) > 0 := by omega
      go_upto_region 12 with fail
      clear x2
      have r0 : w2.cell? ⟨w.heap.size, 0, none⟩ = some (.int .i64 0) := HX.out.bR.cell 0
      have r1 : w2.cell? ⟨w.heap.size, 1, none⟩ = some (.int .i64 0) := HX.out.bR.cell 1
      have r2 : w2.cell? ⟨w.heap.size, 2, none⟩ = some (.slice none 0 0) := HX.out.bR.cell 2
      have fr0 := HX.out.bR.frozen 0
      have fr1 := HX.out.bR.frozen 1
      have fr2 := HX.out.bR.frozen 2
      have x0 : w2.cell? ⟨X, 0, none⟩ = some (.int .i64 (-1)) := HX.out.bX.cell 0
      have x1 : w2.cell? ⟨X, 1, none⟩ = some (.int .i64 vr) := HX.out.bX.cell 1
      have x2 : w2.cell? ⟨X, 2, none⟩ = some (.slice a cs.length cap) := HX.out.bX.cell 2
      go_wp2
      have hs := put3 HX.out.bR (.int .i64 (-1)) (.int .i64 vr) (.slice a cs.length cap)
      have s0 := hs.cell 0
      have s1 := hs.cell 1
      have s2 := hs.cell 2
      refine bodyPost_ret (v := .agg #[.int .i64 (-1), .int .i64 vr, .slice a cs.length cap]) (by simp [results, Tryz.results61, go_sem, s0, s1, s2]) rfl ?_
      exact ⟨(-1), vr, a, cap, cs, rfl, HX.out.fin _ _ _, by have := HV.out; omega, ⟨by omega, by omega⟩, by have := HV.out; omega, by have := HV.out; omega⟩
  have d3' : (z == 3) = false := by simpa using e3
  go_upto_region 12 with fail
  have r0 : w2.cell? ⟨w.heap.size, 0, none⟩ = some (.int .i64 0) := HX.out.bR.cell 0
  have r1 : w2.cell? ⟨w.heap.size, 1, none⟩ = some (.int .i64 0) := HX.out.bR.cell 1
  have r2 : w2.cell? ⟨w.heap.size, 2, none⟩ = some (.slice none 0 0) := HX.out.bR.cell 2
  have fr0 := HX.out.bR.frozen 0
  have fr1 := HX.out.bR.frozen 1
  have fr2 := HX.out.bR.frozen 2
  have x0 : w2.cell? ⟨X, 0, none⟩ = some (.int .i64 (-1)) := HX.out.bX.cell 0
  have x1 : w2.cell? ⟨X, 1, none⟩ = some (.int .i64 vr) := HX.out.bX.cell 1
  have x2 : w2.cell? ⟨X, 2, none⟩ = some (.slice a cs.length cap) := HX.out.bX.cell 2
  go_wp2
  have hs := put3 HX.out.bR (.int .i64 (-1)) (.int .i64 vr) (.slice a cs.length cap)
  have s0 := hs.cell 0
  have s1 := hs.cell 1
  have s2 := hs.cell 2
  refine bodyPost_ret (v := .agg #[.int .i64 (-1), .int .i64 vr, .slice a cs.length cap]) (by simp [results, Tryz.results61, go_sem, s0, s1, s2]) rfl ?_
  exact ⟨(-1), vr, a, cap, cs, rfl, HX.out.fin _ _ _, by have := HV.out; omega, ⟨by omega, by omega⟩, by have := HV.out; omega, by have := HV.out; omega⟩
end Go.Proofs.YtooninmicfcfoaaGreat.DrawH
namespace Go.Proofs.YtooninmicfcfoaaGreat.DrawI
open Go.RowKit
open Draw
open Labs LabS Over Blk App DrawL DrawT Alms AlmM DrawA DrawB Rws ChnI ChnC ChnP ChnU ChnK DrawC DrawD DrawE Chs Prt PrtF PrtC DrawG DrawH
open LabT (Held infoL)
open LabR (flat flat_len flat_one)

structure QDr (w : World) (c : Nat) (wr : World) (g cap : Nat) (q : List Lab) : Prop where
  own : OwnA w.heap.size wr (g, cap, ⟨q, 0, 0, ByteArray.empty⟩)
  cur : Cur wr c
  kept : Kept c w wr
  fits : LabT.Fits q
  few : q.length ≤ 8
theorem qdr_of {w w1 wr : World} {c g cap : Nat} {p : List Lab} (hk : Kept c w w1) (h : LSt w1 c wr (.slice (some ⟨g, 0, none⟩) p.length cap) p) (hp : p.length ≤ 8) : QDr w c wr g cap p :=
  ⟨(own_lst h hp).down hk.size, h.cur, hk.trans h.kept, small_fits h.fit, hp⟩
set_option maxRecDepth 100000 in
set_option maxHeartbeats 1600000 in
theorem l7Labels_any (c M cap lo : Nat) (rs : List ARow) (w : World) (hc : Cur w c) (hab : AB lo w M cap rs) (hlo : c < lo) (hf : Fines (pals rs)) (hr : rs.length ≤ 1000) :
    Calls Tryz.prog 63 #[.pointer (some ⟨c, 0, none⟩), .slice (some ⟨M, 0, none⟩) rs.length cap] w fun r w' => ∃ (g cg : Nat) (q : List Lab), r = .returned (.slice (some ⟨g, 0, none⟩) q.length cg) ∧ QDr w c w' g cg q := by
  have HC : Hid (Cur w c) := hc
  have HA : Hid (AB lo w M cap rs ∧ c < lo ∧ Fines (pals rs)) := ⟨hab, hlo, hf⟩
  clear hc hab hlo hf
  obtain ⟨i0, hi, hz0, hz1, hz2⟩ := info_parts infoL
  by_cases hr0 : 0 < rs.length
  · have hr0' : (rs.length : Int) > 0 := by omega
    go_enter Tryz.func63, Tryz.ntmps63
    go_wp2_with fail
    refine (once_any c 3 _ HC.out (by decide) (by decide)).mono ?_
    rintro r w1 ⟨⟨b, rfl⟩, hc1, hk1⟩
    have HC1 : Hid (Cur w1 c ∧ Kept c w w1) := ⟨hc1, hk1⟩
    clear hc1 hk1
    cases b with
    | true =>
      go_wp2_with fail
      refine (l2Draw_any c _ HC1.out.1).mono ?_
      rintro r w2 ⟨v, rfl, p, hst, hp1, hp2⟩
      obtain ⟨g, cg, rfl⟩ := hst.lies
      have HQ : Hid (QDr w c w2 g cg p) := qdr_of HC1.out.2 hst (by omega)
      clear hst
      go_wp2
      go_ret
      exact ⟨g, cg, p, rfl, HQ.out⟩
    | false =>
      go_wp2_with fail
      refine (below_any c (rs.length : Int) _ (HC1.out.1.alloc _) (by omega) (by omega)).mono ?_
      rintro r w2 ⟨⟨z, rfl, hz0', hz1'⟩, hc2, hk2⟩
      obtain ⟨k, rfl⟩ := Int.eq_ofNat_of_zero_le hz0'
      have hkl : k < rs.length := by omega
      have hA2 : AB lo w2 M cap rs := ab_kept ((ab_kept HA.out.1 HC1.out.2 HA.out.2.1).grow (Go.Joins.below_alloc1 w1 _)) hk2 HA.out.2.1
      have HE : Hid (Blk w2 w1.heap.size #[] 127) := blk_kept (Blk.new w1 _ _) hk2 (by have := HC1.out.1.lt; omega)
      have HK2 : Hid (Cur w2 c ∧ Kept c w w2 ∧ w.heap.size ≤ w1.heap.size ∧ c < w.heap.size ∧ w1.heap.size < w2.heap.size) := ⟨hc2, (HC1.out.2.alloc _).trans hk2, HC1.out.2.size, HC.out.lt, HE.out.lt⟩
      obtain ⟨cu, hcu, hcs, h4⟩ := hA2.outer
      have h40 := h4 k hkl
      unfold Four at h40
      have y0 : w2.cell? ⟨M, k * 4, none⟩ = some (.slice (some ⟨(nthA rs k).1, 0, none⟩) (nthA rs k).2.2.l.length (nthA rs k).2.1) := (hcu.cell _).trans h40.1
      have hfk : Fine (nthA rs k).2.2 := by rw [← pals_nth hkl]; exact HA.out.2.2 _ (nthP_mem (by rw [pals_len]; exact hkl))
      have HFk : Hid (Fine (nthA rs k).2.2) := hfk
      have h8 : (nthA rs k).2.2.l.length ≤ 8 := hfk.2
      have HRd : Hid (Reads w2 (some ⟨(nthA rs k).1, 0, none⟩) (nthA rs k).2.2.l) := (hA2.rows _ (nthA_mem hkl)).reads
      have hk' : (k : Int) < (rs.length : Int) := by omega
      clear hz0' hz1' hc2 hk2 hA2 hcu hcs h4 h40 hfk
      go_wp2_with (at_builtin; refine wpList_append_own_at _ rfl _ _ 27 rfl w.heap.size 127 i0 (.agg #[.string ByteArray.empty, .string ByteArray.empty]) 2 32 Tryz.underlying27 hi hz0 hz1 hz2 rfl (by decide) _ _ _ rfl (own_empty HE.out HK2.out.2.2.1) ⟨(nthA rs k).1, 0, none⟩ (nthA rs k).2.2.l.length (nthA rs k).2.1 (flat (nthA rs k).2.2.l) rfl (flat_len _) (src_of HRd.out) (flat_one _) ?c3 ?c4 ?c5 ?_)
      case c3 => unfold maxLen; omega
      case c4 => omega
      case c5 => have := HK2.out; omega
      intro v' w3 hown hg hnil hat
      try rw [Nat.zero_add] at hown
      try rw [List.nil_append] at hown
      obtain ⟨Ml, cl, hv⟩ : ∃ g' c', v' = .slice (some ⟨g', 0, none⟩) (nthA rs k).2.2.l.length c' := by
        rcases hown.2 with ⟨e, _⟩ | ⟨g', c', cur, e, _⟩
        · exact absurd e hnil
        · exact ⟨g', c', e⟩
      subst hv
      have HQ : Hid (QDr w c w3 Ml cl (nthA rs k).2.2.l) := by
        obtain ⟨h1, cs, h2, h3, h5⟩ := own_row hown
        exact ⟨⟨h1, by show (nthA rs k).2.2.l.length ≤ _; omega, cs, h2, h3, h5⟩, HK2.out.1.grown hg (fun q hq => by cases hq; have := HK2.out; show c < w1.heap.size; omega), kept_grown (B := 0) HK2.out.2.1 hg (fun q hq => by cases hq; exact HK2.out.2.2.1), HFk.out.1.fits, HFk.out.2⟩
      clear hown hg hnil hat
      go_wp2
      go_ret
      exact ⟨Ml, cl, (nthA rs k).2.2.l, rfl, HQ.out⟩
  · have hr0' : ¬ (rs.length : Int) > 0 := by omega
    go_enter Tryz.func63, Tryz.ntmps63
    go_wp2_with fail
    refine (l2Draw_any c _ HC.out).mono ?_
    rintro r w2 ⟨v, rfl, p, hst, hp1, hp2⟩
    obtain ⟨g, cg, rfl⟩ := hst.lies
    have HQ : Hid (QDr w c w2 g cg p) := qdr_of (Kept.refl c w) hst (by omega)
    clear hst
    go_wp2
    go_ret
    exact ⟨g, cg, p, rfl, HQ.out⟩

end Go.Proofs.YtooninmicfcfoaaGreat.DrawI
namespace Go.Proofs.YtooninmicfcfoaaGreat.DrawS
open Go.RowKit
open Draw
open Labs LabS Over Blk App DrawL DrawT Alms AlmM DrawA
open LabO (setB okAt set_good)
open LabR (flat flat_one flat_len flat_get)
open LabT (infoL)
open AlmS (alarmB)
open Names (nameB plainB)
open StrB (lessB)

def strP (p : ByteArray → Bool) : Value → Bool | .string s => p s && decide (s.size ≤ 100) | _ => false
def intP (p : Int → Bool) : Value → Bool | .int .i64 n => p n | _ => false
theorem strP_of {p : ByteArray → Bool} {v : Value} (h : strP p v = true) : ∃ s : ByteArray, v = .string s ∧ p s = true ∧ s.size ≤ 100 := by
  unfold strP at h
  split at h
  · rw [Bool.and_eq_true] at h; exact ⟨_, rfl, h.1, of_decide_eq_true h.2⟩
  · cases h
theorem intP_of {p : Int → Bool} {v : Value} (h : intP p v = true) : ∃ n : Int, v = .int .i64 n ∧ p n = true := by
  unfold intP at h
  split at h
  · exact ⟨_, rfl, h⟩
  · cases h
set_option maxHeartbeats 400000 in
theorem strQ_any (p : ByteArray → Bool) (c b off len cap : Nat) (w : World) (hc : Cur w c) (hr : Row (strP p) w ⟨b, off, none⟩ len c) (h1 : 0 < len) (h2 : len ≤ 256) :
    Calls Tryz.prog 145 #[.pointer (some ⟨c, 0, none⟩), .slice (some ⟨b, off, none⟩) len cap] w fun e w' => (∃ s : ByteArray, e = .returned (.string s) ∧ p s = true ∧ s.size ≤ 100) ∧ Cur w' c ∧ Kept c w w' := by
  have HC : Hid (Cur w c) := hc
  have HR : Hid (Row (strP p) w ⟨b, off, none⟩ len c) := hr
  clear hc hr
  go_enter Tryz.func145, Tryz.ntmps145
  go_wp2_with fail
  refine (below_any c (len : Int) _ HC.out (by omega) (by omega)).mono ?_
  rintro e w1 ⟨⟨x, rfl, hx0, hx1⟩, hc1, hk1⟩
  have HC1 : Hid (Cur w1 c ∧ Kept c w w1) := ⟨hc1, hk1⟩
  obtain ⟨k, rfl⟩ := Int.eq_ofNat_of_zero_le hx0
  obtain ⟨v, hv, hp⟩ := (HR.out.keep hk1).2.2.2 k (by omega)
  obtain ⟨s, rfl, hs⟩ := strP_of hp
  have HS : Hid _ := hs
  clear hc1 hk1 hp hs
  go_wp2
  go_ret
  exact ⟨⟨_, rfl, HS.out⟩, HC1.out⟩
set_option maxHeartbeats 400000 in
theorem intQ_any (p : Int → Bool) (c b off len cap : Nat) (w : World) (hc : Cur w c) (hr : Row (intP p) w ⟨b, off, none⟩ len c) (h1 : 0 < len) (h2 : len ≤ 256) :
    Calls Tryz.prog 77 #[.pointer (some ⟨c, 0, none⟩), .slice (some ⟨b, off, none⟩) len cap] w fun e w' => (∃ n : Int, e = .returned (.int .i64 n) ∧ p n = true) ∧ Cur w' c ∧ Kept c w w' := by
  have HC : Hid (Cur w c) := hc
  have HR : Hid (Row (intP p) w ⟨b, off, none⟩ len c) := hr
  clear hc hr
  go_enter Tryz.func77, Tryz.ntmps77
  go_wp2_with fail
  refine (below_any c (len : Int) _ HC.out (by omega) (by omega)).mono ?_
  rintro e w1 ⟨⟨x, rfl, hx0, hx1⟩, hc1, hk1⟩
  have HC1 : Hid (Cur w1 c ∧ Kept c w w1) := ⟨hc1, hk1⟩
  obtain ⟨k, rfl⟩ := Int.eq_ofNat_of_zero_le hx0
  obtain ⟨v, hv, hp⟩ := (HR.out.keep hk1).2.2.2 k (by omega)
  obtain ⟨s, rfl, hs⟩ := intP_of hp
  have HS : Hid _ := hs
  clear hc1 hk1 hp hs
  go_wp2
  go_ret
  exact ⟨⟨_, rfl, HS.out⟩, HC1.out⟩
set_option maxHeartbeats 400000 in
theorem plainQ_any (c : Nat) (w : World) (hc : Cur w c) :
    Calls Tryz.prog 119 #[.pointer (some ⟨c, 0, none⟩)] w fun e w' => (∃ s : ByteArray, e = .returned (.string s) ∧ plainB s = true ∧ s.size ≤ 100) ∧ Cur w' c ∧ Kept c w w' := by
  have HC : Hid (Cur w c) := hc
  clear hc
  go_enter Tryz.func119, Tryz.ntmps119
  go_wp2_with fail
  refine (strQ_any plainB c _ _ _ _ _ ?hc ?hr ?h1 ?h2).mono ?_
  case hc => exact HC.out.alloc _
  case hr => exact row_lit (by decide +kernel) rfl HC.out.lt
  case h1 => decide
  case h2 => decide
  rintro e w1 ⟨⟨n, rfl, hn, hn2⟩, hc1, hk1⟩
  have HC1 : Hid (Cur w1 c ∧ Kept c w w1) := ⟨hc1, ((Kept.refl c w).alloc _).trans hk1⟩
  have HN : Hid (plainB n = true ∧ n.size ≤ 100) := ⟨hn, hn2⟩
  clear hc1 hk1 hn hn2
  go_wp2
  go_ret
  exact ⟨⟨_, rfl, HN.out⟩, HC1.out⟩
theorem set_app {p : List Lab} {x : Lab} (h : setB p = true) (hx : labB x = true) (hl : p.length < 4) (hn : 0 < p.length → lessB (nth p (p.length - 1)).1 x.1 = true) : setB (p ++ [x]) = true := by
  have ho : ∀ j, j < (p ++ [x]).length → okAt (p ++ [x]) j = true := fun j hj => by
    by_cases e : j < p.length
    · have h1 := LabV.set_at h e
      unfold okAt at h1 ⊢
      rw [LabP.nth_left e]
      by_cases e0 : j = 0
      · subst e0; simpa using h1
      · rw [LabP.nth_left (show j - 1 < p.length by omega)]; exact h1
    · have ej : j = p.length := by simp at hj; omega
      subst ej
      unfold okAt
      have e1 : nth (p ++ [x]) p.length = x := by rw [LabP.nth_right (Nat.le_refl _), Nat.sub_self]; rfl
      rw [e1, hx]
      by_cases e0 : p.length = 0
      · simp [e0]
      · rw [LabP.nth_left (show p.length - 1 < p.length by omega), hn (by omega)]; simp
  rw [set_good ho]
  simp; omega
def nm3 : Nat → ByteArray
  | 0 => ⟨#[104, 111, 115, 116]⟩
  | 1 => ⟨#[115, 101, 118]⟩
  | _ => ⟨#[122, 111, 110, 101]⟩
theorem nm_name {j : Nat} (hj : j < 3) : nameB (nm3 j) = true := by
  have : j = 0 ∨ j = 1 ∨ j = 2 := by omega
  rcases this with rfl | rfl | rfl <;> decide +kernel
theorem app_name : nameB ⟨#[97, 112, 112]⟩ = true := by decide +kernel
theorem lab_of {x : Lab} (h1 : nameB x.1 = true) (h2 : plainB x.2 = true) : labB x = true := by unfold labB; rw [h1, h2]; rfl
theorem nm_lab {j : Nat} {y : ByteArray} (hj : j < 3) (hy : plainB y = true) : labB (nm3 j, y) = true := lab_of (nm_name hj) hy
theorem nm_less {i j : Nat} (h : i < j) (hj : j < 3) : lessB (nm3 i) (nm3 j) = true := by
  have : (i = 0 ∧ j = 1) ∨ (i = 0 ∧ j = 2) ∨ (i = 1 ∧ j = 2) := by omega
  rcases this with ⟨rfl, rfl⟩ | ⟨rfl, rfl⟩ | ⟨rfl, rfl⟩ <;> decide +kernel
theorem nm_app {j : Nat} (hj : j < 3) : lessB ⟨#[97, 112, 112]⟩ (nm3 j) = true := by
  have : j = 0 ∨ j = 1 ∨ j = 2 := by omega
  rcases this with rfl | rfl | rfl <;> decide +kernel
def strEq (s : ByteArray) : ByteArray → Bool := fun t => decide (t = s)
structure LLx (w : World) (c lit : Nat) (wr : World) (v : Value) (p : List Lab) : Prop where
  st : LSt w c wr v p
  row : ∀ j, j < 3 → Row (strP (strEq (nm3 j))) wr ⟨lit, j, none⟩ 1 c
  ne : v.ownBlock ≠ some lit
theorem LLx.keep {w : World} {c lit : Nat} {wr w' : World} {v : Value} {p : List Lab} (h : LLx w c lit wr v p) (hc : Cur w' c) (hk : Kept c wr w') : LLx w c lit w' v p :=
  ⟨h.st.keep hc hk, fun j hj => (h.row j hj).keep hk, h.ne⟩
theorem LLx.alloc {w : World} {c lit : Nat} {wr : World} {v : Value} {p : List Lab} (h : LLx w c lit wr v p) (o : Obj) : LLx w c lit (wr.alloc o) v p :=
  h.keep (h.st.cur.alloc o) ((Kept.refl c wr).alloc o)
theorem LLx.add {w : World} {c lit : Nat} {W w' : World} {v v' : Value} {p q : List Lab} {n m : Nat} {xs ys : List Value} (h : LLx w c lit W v p) (hn : n = p.length) (hm : m = q.length) (hx : xs = flat p) (hy : ys = flat q) (hf : Small q) (hq : 0 < q.length)
    (hown : w'.ownsRow w.heap.size 127 2 v' (n + m) (xs ++ ys)) (hg : W.grownBy w' v.ownBlock) (N : Nat) (hN : N = W.heap.size) (hat : v'.ownBlock = v.ownBlock ∨ v'.ownBlock = some N) : LLx w c lit w' v' (p ++ q) := by
  subst hN
  refine ⟨h.st.add hn hm hx hy hf hq hown hg, fun j hj => (h.row j hj).grown hg (fun e => h.ne e.symm), ?_⟩
  rcases hat with hat | hat
  · rw [hat]; exact h.ne
  · rw [hat]; intro e; have hlt : lit < W.heap.size := (h.row 0 (by omega)).2.2.1; cases e; omega
theorem llx_row {w : World} {c b : Nat} {T : TypeId} (hc : c < w.heap.size) (hb : b = w.heap.size) : ∀ j, j < 3 → Row (strP (strEq (nm3 j))) (w.alloc (.cells #[.string ⟨#[104, 111, 115, 116]⟩, .string ⟨#[115, 101, 118]⟩, .string ⟨#[122, 111, 110, 101]⟩] T)) ⟨b, j, none⟩ 1 c := fun j hj => by
  subst hb
  refine ⟨rfl, by show w.heap.size ≠ c; omega, by simp, fun i hi => ?_⟩
  have hi0 : i = 0 := by omega
  subst hi0
  have : j = 0 ∨ j = 1 ∨ j = 2 := by omega
  rcases this with rfl | rfl | rfl
  · exact ⟨.string ⟨#[104, 111, 115, 116]⟩, by rw [World.cell?_alloc_new]; rfl, by decide +kernel⟩
  · exact ⟨.string ⟨#[115, 101, 118]⟩, by rw [World.cell?_alloc_new]; rfl, by decide +kernel⟩
  · exact ⟨.string ⟨#[122, 111, 110, 101]⟩, by rw [World.cell?_alloc_new]; rfl, by decide +kernel⟩
set_option maxHeartbeats 1600000 in
theorem l2DrawS_any (c : Nat) (w : World) (hc : Cur w c) :
    Calls Tryz.prog 104 #[.pointer (some ⟨c, 0, none⟩)] w fun e w' => ∃ v, e = .returned v ∧ ∃ p, LSt w c w' v p ∧ 1 ≤ p.length ∧ p.length ≤ 4 ∧ setB p = true := by
  have HC : Hid (Cur w c) := hc
  have HL : Hid (c < w.heap.size) := hc.lt
  clear hc
  obtain ⟨i0, hi, hz0, hz1, hz2⟩ := info_parts infoL
  go_enter Tryz.func104, Tryz.ntmps104
  go_wp2_with fail
  refine (strQ_any plainB c w.heap.size 0 3 3 _ (HC.out.alloc _) ?_ (by decide) (by decide)).mono ?_
  · exact row_lit (by decide +kernel) rfl HL.out
  rintro e w1 ⟨⟨s, rfl, hsp, hs⟩, hc1, hk1⟩
  have HSP : Hid (plainB s = true) := hsp
  clear hsp
  have HK1 : Hid (Kept c w w1) := ((Kept.refl c w).alloc _).trans hk1
  have HC1 : Hid (Cur w1 c) := hc1
  clear hc1 hk1
  go_wp2_with fail
  go_loopw [3, 13] (fun v i wr => ∃ (k : Nat) (p : List Lab), k ≤ 3 ∧ i = .int .i64 k ∧ 1 ≤ p.length ∧ p.length ≤ k + 1 ∧ setB p = true ∧ (∀ j, k ≤ j → j < 3 → lessB (nth p (p.length - 1)).1 (nm3 j) = true) ∧ LLx w c (w1.heap.size + 1) wr v p) (fun _ i _ => 3 - (intOf i).toNat)
  case atStart =>
    refine ⟨0, [(⟨#[97, 112, 112]⟩, s)], by omega, rfl, by simp, by simp, set_app (p := []) (by decide +kernel) (lab_of app_name HSP.out) (by simp) (fun h => by simp at h), fun j _ hj => nm_app hj, ⟨(lst_one (x := (⟨#[97, 112, 112]⟩, s)) HC1.out HK1.out HL.out ⟨show (ByteArray.mk #[97, 112, 112]).size ≤ 100 by decide, hs⟩).alloc _, ?_, by simp [Value.ownBlock]⟩⟩
    exact llx_row (by have := HK1.out.size; have := HL.out; simp; omega) (by simp)
  case round =>
    obtain ⟨k, p, hk, rfl, hp1, hp2, hsb, hnx, hst⟩ := hrel
    have HSB : Hid (setB p = true ∧ ∀ j, k ≤ j → j < 3 → lessB (nth p (p.length - 1)).1 (nm3 j) = true) := ⟨hsb, hnx⟩
    clear hsb hnx
    have HS : Hid (LLx w c (w1.heap.size + 1) wr u3 p) := hst
    clear hst
    by_cases hlt : k < 3
    · have hlt' : (k : Int) < 3 := by omega
      obtain ⟨v, hv, hp⟩ := (HS.out.row k hlt).2.2.2 0 (by omega)
      obtain ⟨t, rfl, hte, ht⟩ := strP_of hp
      have hT : t = nm3 k := of_decide_eq_true hte
      have HT : Hid (t = nm3 k) := hT
      clear hT
      have hv' : wr.cell? ⟨w1.heap.size + 1, k, none⟩ = some (.string t) := by simpa using hv
      clear hv hp hte
      go_wp2_with fail
      refine (once_any _ 4 _ HS.out.st.cur (by decide) (by decide)).mono ?_
      rintro e w2 ⟨⟨b, rfl⟩, hc2, hk2⟩
      have HS2 : Hid (LLx w c (w1.heap.size + 1) w2 u3 p) := HS.out.keep hc2 hk2
      clear hc2 hk2 hv'
      cases b with
      | true =>
        go_wp2_with fail
        refine (strQ_any plainB c w2.heap.size 0 2 2 _ (HS2.out.st.cur.alloc _) ?_ (by decide) (by decide)).mono ?_
        · exact row_lit (by decide +kernel) rfl HS2.out.st.cur.lt
        rintro e w3 ⟨⟨y, rfl, hyp, hy⟩, hc3, hk3⟩
        have HYP : Hid (plainB y = true) := hyp
        clear hyp
        have HS3 : Hid (LLx w c (w1.heap.size + 1) w3 u3 p) := (HS2.out.alloc _).keep hc3 hk3
        clear hc3 hk3
        go_wp2_with (at_builtin; refine wpList_append_own_at _ rfl _ _ 27 rfl w.heap.size 127 i0 (.agg #[.string ByteArray.empty, .string ByteArray.empty]) 2 32 Tryz.underlying27 hi hz0 hz1 hz2 rfl (by decide) _ _ _ rfl (HS3.out.alloc _).st.own ⟨w3.heap.size, 0, none⟩ 1 1 [.string t, .string y] rfl rfl ?c1 ?c2 ?c3 ?c4 ?c5 ?_)
        case c1 => exact blk_news (Blk.new _ _ _)
        case c2 => exact flat_one [(t, y)]
        case c3 => unfold maxLen; omega
        case c4 => omega
        case c5 => have := HS3.out.st.kept.size; simp; omega
        intro v' w4 hown hg _ hat
        have HS4 : Hid (LLx w c (w1.heap.size + 1) w4 v' (p ++ [(t, y)])) := (HS3.out.alloc _).add (q := [(t, y)]) rfl rfl rfl rfl (small_one ht hy) (by simp) hown hg _ (by simp) hat
        clear hown hg hat
        go_wp2
        go_roundw
        case rel =>
          refine ⟨k + 1, p ++ [(t, y)], by omega, by go_num, by simp, by simp; omega, ?_, ?_, HS4.out⟩
          · rw [HT.out]
            exact set_app HSB.out.1 (nm_lab hlt HYP.out) (by omega) (fun _ => HSB.out.2 k (Nat.le_refl _) hlt)
          · intro j hj hj3
            have e1 : nth (p ++ [(t, y)]) ((p ++ [(t, y)]).length - 1) = (t, y) := by rw [show (p ++ [(t, y)]).length - 1 = p.length by simp, LabP.nth_right (Nat.le_refl _), Nat.sub_self]; rfl
            rw [e1, HT.out]
            exact nm_less (by omega) hj3
        case measure => simp [intOf]; omega
      | false =>
        go_wp2
        go_roundw
        case rel => exact ⟨k + 1, p, by omega, by go_num, hp1, by omega, HSB.out.1, fun j h1 h2 => HSB.out.2 j (by omega) h2, HS2.out⟩
        case measure => simp [intOf]; omega
    · have hge : ¬ (k : Int) < 3 := by omega
      go_wp2
      go_ret
      exact ⟨_, rfl, p, HS.out.st, hp1, by omega, HSB.out.1⟩

set_option maxRecDepth 100000 in
set_option maxHeartbeats 1600000 in
theorem l4DrawS_any (c : Nat) (w : World) (hc : Cur w c) :
    Calls Tryz.prog 62 #[.pointer (some ⟨c, 0, none⟩)] w fun r w' => ∃ (g cap : Nat) (p : List Lab) (s e : Int) (n : ByteArray), r = .returned (.agg #[.slice (some ⟨g, 0, none⟩) p.length cap, .int .i64 s, .int .i64 e, .string n]) ∧ LSt w c w' (.slice (some ⟨g, 0, none⟩) p.length cap) p ∧ p.length ≤ 4 ∧ alarmB p s e n = true ∧ n.size ≤ 100 := by
  have HC : Hid (Cur w c) := hc
  have HL : Hid (c < w.heap.size) := hc.lt
  clear hc
  go_enter Tryz.func62, Tryz.ntmps62
  go_wp2_with fail
  refine (l2DrawS_any c _ (HC.out.alloc _)).mono ?_
  rintro r w1 ⟨v, rfl, p, hst, hp1, hp2, hsb⟩
  have HSB : Hid (setB p = true) := hsb
  clear hsb
  obtain ⟨g, cap, rfl⟩ := hst.lies
  have HG : Hid (w.heap.size < g ∧ g < w1.heap.size) := by have := hst.blk; simp at this; exact ⟨by omega, this.2⟩
  have HR1 : Hid (Blk w1 w.heap.size #[.slice none 0 0, .int .i64 0, .int .i64 0, .string ⟨#[]⟩] 29) := blk_kept (Blk.new _ _ _) hst.kept (by have := HL.out; omega)
  have HS1 : Hid (LSt w c w1 (.slice (some ⟨g, 0, none⟩) p.length cap) p) := lst_base hst ((Kept.refl c w).alloc _) HL.out
  clear hst
  go_wp2_with fail
  refine (below_any c 8 _ HS1.out.cur (by decide) (by decide)).mono ?_
  rintro r w2 ⟨⟨s, rfl, hs0, hs1⟩, hc2, hk2⟩
  have HS2 : Hid (LSt w c w2 (.slice (some ⟨g, 0, none⟩) p.length cap) p) := HS1.out.keep hc2 hk2
  have HR2 : Hid (Blk w2 w.heap.size #[.slice none 0 0, .int .i64 0, .int .i64 0, .string ⟨#[]⟩] 29) := blk_kept HR1.out hk2 (by have := HL.out; omega)
  have HZ2 : Hid (w1.heap.size ≤ w2.heap.size) := hk2.size
  clear hc2 hk2
  go_wp2_with fail
  refine (plainQ_any c _ HS2.out.cur).mono ?_
  rintro r w3 ⟨⟨n, rfl, hnp, hn⟩, hc3, hk3⟩
  have HNP : Hid (plainB n = true) := hnp
  clear hnp
  have HS3 : Hid (LSt w c w3 (.slice (some ⟨g, 0, none⟩) p.length cap) p) := HS2.out.keep hc3 hk3
  have HR3 : Hid (Blk w3 w.heap.size #[.slice none 0 0, .int .i64 0, .int .i64 0, .string ⟨#[]⟩] 29) := blk_kept HR2.out hk3 (by have := HL.out; omega)
  have HN : Hid (w.heap.size < w3.heap.size ∧ g < w3.heap.size ∧ c < w3.heap.size) := by
    have h1 := HG.out; have h2 := HZ2.out; have h3 := hk3.size; have h4 := HL.out
    exact ⟨by omega, by omega, by omega⟩
  clear hc3 hk3 HS1 HS2 HR1 HR2 HZ2
  go_wp2
  generalize hz : w3.alloc (.cells #[.slice (some ⟨g, 0, none⟩) p.length cap, .int .i64 s, .int .i64 0, .string n] 29) = z
  have HSz : Hid (LSt w c z (.slice (some ⟨g, 0, none⟩) p.length cap) p) := by rw [← hz]; exact HS3.out.alloc _
  have HRz : Hid (Blk z w.heap.size #[.slice none 0 0, .int .i64 0, .int .i64 0, .string ⟨#[]⟩] 29) := by rw [← hz]; exact HR3.out.alloc _
  have HAz : Hid (Blk z w3.heap.size #[.slice (some ⟨g, 0, none⟩) p.length cap, .int .i64 s, .int .i64 0, .string n] 29) := by rw [← hz]; exact Blk.new _ _ _
  clear hz HS3 HR3
  generalize w3.heap.size = A at HN HAz ⊢
  have a1 : z.cell? ⟨A, 1, none⟩ = some (.int .i64 s) := HAz.out.cell 1
  have HK : Hid (∀ (o : Obj) (w4 : World), Cur w4 c → Kept c (z.alloc o) w4 → LSt w c w4 (.slice (some ⟨g, 0, none⟩) p.length cap) p ∧ Blk w4 A #[.slice (some ⟨g, 0, none⟩) p.length cap, .int .i64 s, .int .i64 0, .string n] 29 ∧ Blk w4 w.heap.size #[.slice none 0 0, .int .i64 0, .int .i64 0, .string ⟨#[]⟩] 29) := fun o w4 hc h => by
    have h0 := HN.out; have h1 := HL.out
    exact ⟨(HSz.out.alloc o).keep hc h, blk_kept (HAz.out.alloc o) h (by omega), blk_kept (HRz.out.alloc o) h (by omega)⟩
  have HCz : Hid (Cur z c) := HSz.out.cur
  have HI : Hid (Calls Tryz.prog 77 #[.pointer (some ⟨c, 0, none⟩), .slice (some ⟨z.heap.size, 0, none⟩) 5 5] (z.alloc (.cells #[.int .i64 0, .int .i64 2, .int .i64 5, .int .i64 20, .int .i64 60] 3)).drew fun e w4 => (∃ x : Int, e = .returned (.int .i64 x) ∧ (decide (0 ≤ x ∧ x ≤ 60)) = true) ∧ Cur w4 c ∧ Kept c (z.alloc (.cells #[.int .i64 0, .int .i64 2, .int .i64 5, .int .i64 20, .int .i64 60] 3)) w4) := by
    refine (intQ_any (fun x => decide (0 ≤ x ∧ x ≤ 60)) c z.heap.size 0 5 5 _ ?_ ?_ (by decide) (by decide)).mono fun e w4 h => ⟨h.1, h.2.1, ⟨h.2.2.os, h.2.2.tape, h.2.2.output, h.2.2.size, h.2.2.block⟩⟩
    · exact HCz.out.alloc _
    · exact row_lit (w := z) (by decide +kernel) rfl HCz.out.lt
  have kz : z.drew.cell? ⟨A, 1, none⟩ = some (.int .i64 s) := a1
  go_region_held3 (fun w' => w'.cell? ⟨A, 1, none⟩ = some (.int .i64 s)) (first | exact kz | exact Blk.cell (HAz.out.alloc _) 1 | exact hA4.cell 1 | exact (hA4.set 2 _).cell 1 | (go_keep; done)) (first
    | (go_at_call 77; (with_reducible refine HI.out.mono ?_); rintro r w4 ⟨⟨x, rfl, hx⟩, hc4, hk4⟩; (have hA3 := HK.out _ w4 hc4 hk4); (have hA4 := hA3.2.1); (have n2 : w4.cell? ⟨A, 2, none⟩ = some (.int .i64 0) := hA4.cell 2); (have f2 := hA4.frozen 2)))
  have HS4 : Hid (LSt w c w4 (.slice (some ⟨g, 0, none⟩) p.length cap) p) := hA3.1
  have hR := hA3.2.2
  have hA := hA4
  clear n2 f2 hA3 hA4 hc4 hk4 kz a1
  have hx60 := of_decide_eq_true hx
  have HE : Hid (s ≤ IntKind.i64.wrap (s + x) ∧ IntKind.i64.wrap (s + x) ≤ 99999) := by rw [IntKind.wrap_i64]; exact ⟨by omega, by omega⟩
  clear hx60
  generalize IntKind.i64.wrap (s + x) = y at HE ⊢
  have A0 : w4.cell? ⟨A, 0, none⟩ = some (.slice (some ⟨g, 0, none⟩) p.length cap) := hA.cell 0
  have A1 : w4.cell? ⟨A, 1, none⟩ = some (.int .i64 s) := hA.cell 1
  have A2 : w4.cell? ⟨A, 2, none⟩ = some (.int .i64 0) := hA.cell 2
  have A3 : w4.cell? ⟨A, 3, none⟩ = some (.string n) := hA.cell 3
  have fA0 := hA.frozen 0
  have fA1 := hA.frozen 1
  have fA2 := hA.frozen 2
  have fA3 := hA.frozen 3
  have R0 : w4.cell? ⟨w.heap.size, 0, none⟩ = some (.slice none 0 0) := hR.cell 0
  have R1 : w4.cell? ⟨w.heap.size, 1, none⟩ = some (.int .i64 0) := hR.cell 1
  have R2 : w4.cell? ⟨w.heap.size, 2, none⟩ = some (.int .i64 0) := hR.cell 2
  have R3 : w4.cell? ⟨w.heap.size, 3, none⟩ = some (.string ⟨#[]⟩) := hR.cell 3
  have fR0 := hR.frozen 0
  have fR1 := hR.frozen 1
  have fR2 := hR.frozen 2
  have fR3 := hR.frozen 3
  have d1 : ¬ A = w.heap.size := by have := HN.out; omega
  have d2 : ¬ w.heap.size = A := by have := HN.out; omega
  clear hA hR
  go_wp2
  refine bodyPost_ret (v := .agg #[.slice (some ⟨g, 0, none⟩) p.length cap, .int .i64 s, .int .i64 y, .string n]) (by simp [results, Tryz.results62, go_sem, R0, R1, R2, R3]) rfl ?_
  have h0 := HN.out; have h1 := HG.out; have h2 := HL.out
  refine ⟨g, cap, p, s, y, n, rfl, lst_other4 (lst_other HS4.out (by omega) (own_ne (by omega)) _ _) (Nat.le_refl _) (own_ne (by omega)) _ _ _ _, hp2, ?_, hn⟩
  unfold alarmB
  rw [HSB.out, HNP.out]
  have h3 := HE.out
  simp
  omega

end Go.Proofs.YtooninmicfcfoaaGreat.DrawS
namespace Go.Proofs.YtooninmicfcfoaaGreat.DrwT
open Go.RowKit
open Draw
open Labs LabS Over Blk App DrawL DrawT Alms AlmM DrawA Rws ChnK DrawC DrawG Chs Prt PrtC Sts StsN StsP Rgt DrawS
open AlmS (alarmB)
open LabT (Held held_reads)

theorem sumT_set : ∀ (S : List PPt) (k : Nat) (y : PPt), k < S.length → sumT (S.set k y) + ((nthT S k).C.length + sumC (nthT S k).C) = sumT S + (y.C.length + sumC y.C)
  | [], k, y, h => by simp at h
  | p :: S, 0, y, h => by simp [sumT, nthT]; omega
  | p :: S, k + 1, y, h => by
    have ih := sumT_set S k y (by simpa using h)
    have e : nthT (p :: S) (k + 1) = nthT S k := by unfold nthT; simp
    rw [List.set_cons_succ, sumT, sumT, e]; omega
theorem putS_sum (S : List PPt) (x : PAl) : sumT (putS S x) ≤ sumT S + 2 + x.l.length := by
  by_cases h : S.length = 0
  · rw [(putS_0 h).1]; omega
  · have hk := StsH.home_lt (l := x.l) (show 0 < S.length by omega)
    rw [(putS_1 h rfl).1]
    have h1 := sumT_set S _ (putT (nthT S (StsH.homeN S.length x.l)) x) hk
    have h2 := PutS.putC_sum (nthT S (StsH.homeN S.length x.l)).C x
    have h3 : (putT (nthT S (StsH.homeN S.length x.l)) x).C = PrtC.putC (nthT S (StsH.homeN S.length x.l)).C x := rfl
    rw [h3] at h1
    omega
theorem wrapI (x : Int) : DrawA.I64 (IntKind.i64.wrap x) := by rw [IntKind.wrap_i64]; exact ⟨by omega, by omega⟩
theorem putS_fits {S : List PPt} {x : PAl} (hf : FitsT S) (hs : sumT S ≤ 1048576) (hx : FitA x) : FitsT (putS S x) := by
  by_cases h : S.length = 0
  · rw [(putS_0 h).1]; exact hf
  · have hk := StsH.home_lt (l := x.l) (show 0 < S.length by omega)
    rw [(putS_1 h rfl).1]
    intro p hp
    rcases List.mem_or_eq_of_mem_set hp with hp | rfl
    · exact hf p hp
    · have h0 := sumT_nth hk
      have hq := hf _ (nthT_mem hk)
      have h2 := PutS.putC_sum (nthT S (StsH.homeN S.length x.l)).C x
      have h3 : (putT (nthT S (StsH.homeN S.length x.l)) x).C = PrtC.putC (nthT S (StsH.homeN S.length x.l)).C x := rfl
      exact ⟨hq.hb, wrapI _, by rw [h3]; unfold maxLen; omega, by rw [h3]; exact PutS.fitsC_put hq.fits (small_of (by omega)) hx⟩
structure Gd (m : Nat) (S : List PPt) : Prop where
  rst : RSt S
  vr : ∀ k, k < S.length → (nthT S k).vr ≤ m
  fits : FitsT S
  sum : sumT S ≤ 10 * m
  few : ∀ p ∈ S, FinC m p.C
theorem Gd.new {n : Nat} (h : 1 ≤ n ∧ n ≤ 3) : Gd 0 (List.replicate n noneP) :=
  ⟨rst_new h, fun k hk => by rw [none_nth (by simpa using hk)]; decide, none_fits n, by rw [none_sum]; omega, fun p hp => by rw [(List.mem_replicate.1 hp).2]; exact FinC.nil _⟩
theorem Gd.put {m : Nat} {S : List PPt} {x : PAl} (h : Gd m S) (hm : m ≤ 900) (hx : okA x = true) (hf : Fine x) : Gd (m + 1) (putS S x) := by
  have hs := h.sum
  refine ⟨rst_put h.rst hx fun k hk => by have := h.vr k hk; omega, fun k hk => ?_, putS_fits h.fits (by omega) hf.1, ?_, ?_⟩
  · have hne : ¬ S.length = 0 := by have := h.rst.len; omega
    rw [putS_len] at hk
    rw [(putS_1 hne rfl).1, nthT_set hk]
    have h1 := h.vr k hk
    have h2 := (h.rst.pt k hk).2.2
    split
    · rename_i e
      subst e
      show IntKind.i64.wrap ((nthT S _).vr + 1) ≤ _
      rw [IntKind.wrap_i64]
      omega
    · omega
  · have := putS_sum S x
    have := hf.2
    omega
  · have hne : ¬ S.length = 0 := by have := h.rst.len; omega
    have hk := StsH.home_lt (l := x.l) (show 0 < S.length by omega)
    rw [(putS_1 hne rfl).1]
    intro p hp
    rcases List.mem_or_eq_of_mem_set hp with hp | rfl
    · exact (h.few p hp).mono (Nat.le_succ m)
    · exact finC_put (h.few _ (nthT_mem hk)) hf
theorem po_kept {c lo : Nat} {w w' : World} {a : Option Addr} {cap : Nat} {cs : List CRow} (h : PO lo w a cap cs) (hk : Kept c w w') (hc : c < lo) : PO lo w' a cap cs := h.imp id fun ⟨M, e, k⟩ => ⟨M, e, cb_kept k hk hc⟩
theorem pb_kept {c lo : Nat} {w w' : World} {M cap : Nat} {ps : List PRow} (h : PB lo w M cap ps) (hk : Kept c w w') (hc : c < lo) : PB lo w' M cap ps := by
  obtain ⟨cur, h1, h2⟩ := h.outer
  exact ⟨h.at', h.cap, ⟨cur, blk_kept h1 hk (by have := h.at'; omega), h2⟩, fun x hx => po_kept (h.rows x hx) hk hc⟩
structure HSt (w : World) (c : Nat) (wr : World) (M cap : Nat) (ps : List PRow) : Prop where
  cur : Cur wr c
  kept : Kept c w wr
  clt : c < w.heap.size
  pb : PB w.heap.size wr M cap ps
theorem HSt.keep {w : World} {c : Nat} {wr w' : World} {M cap : Nat} {ps : List PRow} (h : HSt w c wr M cap ps) (hc : Cur w' c) (hk : Kept c wr w') : HSt w c w' M cap ps :=
  ⟨hc, h.kept.trans hk, h.clt, pb_kept h.pb hk h.clt⟩
theorem HSt.grow {w : World} {c : Nat} {wr w' : World} {M cap : Nat} {ps : List PRow} (h : HSt w c wr M cap ps) (hb : Below wr.heap.size wr w') : HSt w c w' M cap ps := h.keep (cur_bel h.cur hb) (kept_bel hb)
theorem ok_fine {p : List Lab} {s e : Int} {n : ByteArray} (h : alarmB p s e n = true) (hp : p.length ≤ 8) (hf : Small p) (hn : n.size ≤ 100) : Fine ⟨p, s, e, n⟩ := by
  unfold alarmB at h
  simp only [Bool.and_eq_true, decide_eq_true_eq] at h
  obtain ⟨_, _, h1, h2, h3, _⟩ := h
  exact fine_of hp hf ⟨by omega, by omega⟩ ⟨by omega, by omega⟩ hn
set_option maxRecDepth 100000 in
set_option maxHeartbeats 3200000 in
theorem l8Draw_any (c : Nat) (w : World) (hc : Cur w c) :
    Calls Tryz.prog 96 #[.pointer (some ⟨c, 0, none⟩)] w fun r w' => ∃ (M cap : Nat) (ps : List PRow), r = .returned (.slice (some ⟨M, 0, none⟩) ps.length cap) ∧ HSt w c w' M cap ps ∧ Gd 7 (pts ps) := by
  have HC : Hid (Cur w c) := hc
  have HL : Hid (c < w.heap.size) := hc.lt
  clear hc
  go_enter Tryz.func96, Tryz.ntmps96
  go_wp2_with fail
  refine (below_any c 3 _ HC.out (by decide) (by decide)).mono ?_
  rintro r w1 ⟨⟨k0, rfl, hk0, hk1⟩, hc1, hk1'⟩
  have HC1 : Hid (Cur w1 c ∧ Kept c w w1) := ⟨hc1, hk1'⟩
  have HK0 : Hid (0 ≤ k0 ∧ k0 ≤ 2) := ⟨hk0, by omega⟩
  clear hc1 hk1' hk0 hk1
  go_wp2_with fail
  have HN0 : Hid (1 ≤ wrap64 (1 + k0) ∧ wrap64 (1 + k0) ≤ 3) := by
    have h := HK0.out
    unfold wrap64
    exact ⟨by omega, by omega⟩
  generalize wrap64 (1 + k0) = n0 at HN0 ⊢
  refine (specNew_any n0 w1 ⟨by have := HN0.out; omega, by have := HN0.out; omega⟩).mono ?_
  rintro r w2 ⟨⟨M, cap, rfl, hpb⟩, hb⟩
  have HS2 : Hid (HSt w c w2 M cap (List.replicate (newN n0) noneR)) := ⟨cur_bel HC1.out.1 hb, HC1.out.2.trans (kept_bel hb), HL.out, hpb.down HC1.out.2.size⟩
  have HG2 : Hid (Gd 0 (pts (List.replicate (newN n0) noneR))) := by rw [none_pts]; exact Gd.new (newN_le n0)
  obtain ⟨ps0, hps0⟩ : ∃ ps0, List.replicate (newN n0) noneR = ps0 := ⟨_, rfl⟩
  have hl0 : newN n0 = ps0.length := by rw [← hps0]; simp
  rw [hps0] at HS2 HG2
  rw [hl0]
  clear hpb hb hps0 hl0 HC1 HN0 HK0
  go_wp2_with fail
  refine (below_any c 8 _ HS2.out.cur (by decide) (by decide)).mono ?_
  rintro r w3 ⟨⟨k0, rfl, hk0, hk1⟩, hc1, hk1'⟩
  have HS3 : Hid (HSt w c w3 M cap ps0) := HS2.out.keep hc1 hk1'
  have HK : Hid (0 ≤ k0 ∧ k0 ≤ 7) := ⟨hk0, by omega⟩
  clear hc1 hk1' hk0 hk1 HS2
  go_wp2
  go_loopw [3, 4] (fun l i wr => ∃ (k m : Nat) (M cap : Nat) (ps : List PRow), l = .slice (some ⟨M, 0, none⟩) ps.length cap ∧ i = .int .i64 k ∧ m + k ≤ 7 ∧ HSt w c wr M cap ps ∧ Gd m (pts ps)) (fun _ i _ => (intOf i).toNat)
  case atStart =>
    obtain ⟨kk, rfl⟩ := Int.eq_ofNat_of_zero_le HK.out.1
    exact ⟨kk, 0, M, cap, ps0, rfl, rfl, by have := HK.out.2; omega, HS3.out, HG2.out⟩
  case round =>
    clear HS3 HK HG2
    obtain ⟨k, m, M, cap, ps, rfl, rfl, hmk, hst, hgd⟩ := hrel
    have HS : Hid (HSt w c wr M cap ps) := hst
    have HF : Hid (Gd m (pts ps) ∧ m + k ≤ 7) := ⟨hgd, hmk⟩
    clear hst hgd hmk
    by_cases hk : 0 < k
    · have hk' : (k : Int) > 0 := by omega
      obtain ⟨j, rfl⟩ : ∃ j, k = j + 1 := ⟨k - 1, by omega⟩
      have ek : ((j + 1 : Nat) : Int) = (j : Int) + 1 := by omega
      rw [ek] at hk' ⊢
      have hj7 : (j : Int) ≤ 7 := by have := HF.out.2; omega
      go_wp2_with fail
      refine (l4DrawS_any c wr HS.out.cur).mono ?_
      rintro r w2 ⟨g, cp, p, s, e, t, rfl, hst, hp, hok, ht⟩
      have HX : Hid (Fine ⟨p, s, e, t⟩) := ok_fine hok (by omega) hst.fit ht
      have HO : Hid (okA ⟨p, s, e, t⟩ = true) := hok
      have HX2 : Hid (OwnA w.heap.size w2 (g, cp, ⟨p, s, e, t⟩)) := (own_lst hst (by omega)).down HS.out.kept.size
      have HS2 : Hid (HSt w c w2 M cap ps) := HS.out.keep hst.cur hst.kept
      clear hst hp hok ht HS
      obtain ⟨nu, hnu⟩ : ∃ nu, freshS (pts ps) ⟨p, s, e, t⟩ = nu := ⟨_, rfl⟩
      have HPC : Hid (Calls Tryz.prog 38 #[.slice (some ⟨M, 0, none⟩) ps.length cap, .agg #[.slice (some ⟨g, 0, none⟩) p.length cp, .int .i64 s, .int .i64 e, .string t]] w2 fun r w' => (∃ M c, r = .returned (.tuple #[.slice (some ⟨M, 0, none⟩) ps.length c, .bool nu]) ∧ ∃ ps', PB w2.heap.size w' M c ps' ∧ pts ps' = putS (pts ps) ⟨p, s, e, t⟩ ∧ Own8 ps') ∧ Below w2.heap.size w2 w') := by
        have hg := HF.out
        have h1 := hg.1.rst.len
        have h2 := hg.1.sum
        have h := StsP.specPutA_any (some ⟨M, 0, none⟩) cap (pts ps) g 0 cp ⟨p, s, e, t⟩ w2 HS2.out.pb.rn HX2.out.reads (by omega) (by omega) (by have := HX.out.2; omega) HX.out.1.fits
        rw [hnu, pts_len] at h
        exact h
      clear hnu
      go_wp2_with fail
      refine HPC.out.mono ?_
      rintro r w6 ⟨⟨M', c', rfl, ps', hpb, hpt, -⟩, hb⟩
      have hln : ps.length = ps'.length := by
        have h := congrArg List.length hpt
        rw [putS_len, pts_len, pts_len] at h
        exact h.symm
      have HS6 : Hid (HSt w c w6 M' c' ps') := ⟨cur_bel HS2.out.cur hb, HS2.out.kept.trans (kept_bel hb), HS2.out.clt, hpb.down HS2.out.kept.size⟩
      have HG6 : Hid (Gd (m + 1) (pts ps')) := by rw [hpt]; exact HF.out.1.put (by have := HF.out.2; omega) HO.out HX.out
      rw [hln]
      clear hpb hpt hb HPC hln HS2 HX2
      go_wp2
      go_roundw
      case rel => exact ⟨j, m + 1, M', c', ps', rfl, by go_num, by have := HF.out.2; omega, HS6.out, HG6.out⟩
      case measure => first | (simp [intOf]; done) | (simp [intOf]; omega)
    · have hk' : ¬ (k : Int) > 0 := by omega
      go_wp2
      go_ret
      have hg := HF.out
      have h1 := hg.1.sum
      exact ⟨M, cap, ps, rfl, HS.out, ⟨hg.1.rst, fun i hi => by have := hg.1.vr i hi; omega, hg.1.fits, by omega, fun p hp => (hg.1.few p hp).mono (by omega)⟩⟩
end Go.Proofs.YtooninmicfcfoaaGreat.DrwT
namespace Go.Proofs.YtooninmicfcfoaaGreat.DrwU
open Go.RowKit
open Draw
open Labs LabS Over Blk App DrawL DrawT Alms AlmM DrawA DrawB Rws ChnI ChnC ChnP ChnU ChnK DrawC DrawD DrawE Chs Prt PrtF PrtC DrawG DrawH
open DrawI DrawS DrwT Rgt
open LabO (setB)
open AlmS (alarmB)
open LabT (Held infoL)
open LabR (flat flat_len flat_one)

end Go.Proofs.YtooninmicfcfoaaGreat.DrwU
namespace Go.Proofs.YtooninmicfcfoaaGreat.StsM
open Go.RowKit
open Labs LabS Alms AlmM Over Blk App Rws ChnI ChnC ChnP ChnK Chs Prt PrtM Sts

def PRow.M (x : PRow) : Nat := match x.a with
  | some ad => ad.block
  | none => 0
def blksS (M : Nat) (ps : List PRow) (k : Nat) : Prop := k = M ∨ ∃ x ∈ ps, blksP x k
theorem blksS_low {lo : Nat} {w : World} {M c : Nat} {ps : List PRow} (h : PB lo w M c ps) (k : Nat) (hk : blksS M ps k) : lo ≤ k := by
  rcases hk with rfl | ⟨x, hx, hk⟩
  · exact h.at'
  · exact blksP_low (h.rows x hx) k hk
theorem blksS_high {lo : Nat} {w : World} {M c : Nat} {ps : List PRow} (h : PB lo w M c ps) (k : Nat) (hk : blksS M ps k) : k < w.heap.size := by
  rcases hk with rfl | ⟨x, hx, hk⟩
  · exact h.lt
  · exact blksP_high (h.rows x hx) k hk
theorem po_only {S : Nat → Prop} {lo : Nat} {w w' : World} {x : PRow} (h : PO lo w x.a x.c x.cs) (ho : Only S w w') (hn : ∀ k, blksP x k → ¬ S k) : PO lo w' x.a x.c x.cs := by
  rcases h with h | ⟨M, e, h⟩
  · exact .inl h
  · exact .inr ⟨M, e, cb_only h ho fun k hk => hn k ⟨M, e, hk⟩⟩
theorem pb_only {S : Nat → Prop} {lo : Nat} {w w' : World} {M c : Nat} {ps : List PRow} (h : PB lo w M c ps) (ho : Only S w w') (hn : ∀ k, blksS M ps k → ¬ S k) : PB lo w' M c ps := by
  obtain ⟨cur, h1, h2⟩ := h.outer
  exact ⟨h.at', h.cap, ⟨cur, ho.blk h1 (hn _ (.inl rfl)), h2⟩, fun x hx => po_only (h.rows x hx) ho fun k hk => hn k (.inr ⟨x, hx, hk⟩)⟩
def Fine8 (ps : List PRow) : Prop := ∀ x ∈ ps, x.cs.length ≤ 2000000 ∧ ∀ y ∈ x.cs, y.rs.length ≤ 2000000 ∧ ∀ z ∈ y.rs, z.2.2.l.length ≤ 1048576
theorem fine8 {lo : Nat} {w : World} {M c : Nat} {ps : List PRow} {S : List PPt} (h : PB lo w M c ps) (hp : pts ps = S) (hs : sumT S ≤ 2000000) : Fine8 ps := fun x hx => by
  have hm : x.pt ∈ S := by rw [← hp]; exact List.mem_map.2 ⟨x, hx, rfl⟩
  have h1 := sumT_mem hm
  have h2 : x.pt.C = chs x.cs := rfl
  rw [h2, chs_len] at h1
  refine ⟨by omega, fun y hy => ?_⟩
  have h3 : y.ch ∈ chs x.cs := List.mem_map.2 ⟨y, hy, rfl⟩
  have h4 := sumC_mem h3
  have h5 : y.ch.P = pals y.rs := rfl
  rw [h5, pals_len] at h4
  refine ⟨by omega, fun z hz => ?_⟩
  rcases h.rows x hx with ⟨_, _, e⟩ | ⟨N, _, hcb⟩
  · rw [e] at hy; simp at hy
  · exact ((hcb.rows.rows y hy).rows z hz).2.1
end Go.Proofs.YtooninmicfcfoaaGreat.StsM
namespace Go.Proofs.YtooninmicfcfoaaGreat.DrwV
open Go.RowKit
open Draw
open Labs LabS Over Blk App DrawL DrawT Alms AlmM DrawA DrawB Rws ChnI ChnC ChnP ChnU ChnK DrawC DrawD DrawE Chs Prt PrtF PrtC DrawG DrawH
open DrawI DrawS DrwT DrwU Rgt Sts StsM StsA
open SrtP (sortP sort_perm)
open LabO (setB)
open AlmS (alarmB)
open LabT (Held infoL)
open LabR (flat flat_len flat_one)


structure VSt (w : World) (wr : World) (M cap : Nat) (ps : List PRow) : Prop where
  cur : Cur wr (w.heap.size + 1)
  low : Below w.heap.size w wr
  ord : w.heap.size + 1 < wr.heap.size
  bV : Blk wr w.heap.size #[.slice none 0 0, .int .i64 0, .int .i64 0, .string ⟨#[]⟩] 29
  pb : PB (w.heap.size + 2) wr M cap ps
end Go.Proofs.YtooninmicfcfoaaGreat.DrwV
namespace Go.Proofs.YtooninmicfcfoaaGreat.DrwW
open Go.RowKit
open Draw
open Labs LabS Over Blk App DrawL DrawT Alms AlmM DrawA DrawB Rws ChnI ChnC ChnP ChnU ChnK DrawC DrawD DrawE Chs Prt PrtF PrtC DrawG DrawH
open DrawI DrawS DrwT DrwU Rgt Sts StsM StsA DrwV StsF StsP StsO StsK
open SrtP (sortP sort_perm)
open LabO (setB)
open AlmS (alarmB)
open LabT (Held infoL)
open LabR (flat flat_len flat_one)



def St (m : Nat) (w : World) (a : Option Addr) (S : List PPt) : Prop := RdS RdA w a S ∧ Gd m S ∧ m ≤ 900
def zeroA : PAl := ⟨[], 0, 0, ByteArray.empty⟩
def findSD (S : List PPt) (l : List Lab) : PAl := (findS S l).getD zeroA
theorem fine_zero : Fine zeroA := ⟨⟨by simp [zeroA], fun i hi => by simp [zeroA] at hi, by simp [zeroA], by simp [zeroA], Nat.zero_le _⟩, by simp [zeroA]⟩
theorem own_reads {w w' : World} {M : Nat} {p : List Lab} (h : LabR.Own w w' M p) : Reads w' (some ⟨M, 0, none⟩) p := by
  obtain ⟨_, cs, hk, _, hh⟩ := h
  exact LabT.held_reads hk hh
end Go.Proofs.YtooninmicfcfoaaGreat.DrwW
