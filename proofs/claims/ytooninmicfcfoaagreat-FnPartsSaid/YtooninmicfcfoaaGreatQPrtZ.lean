/-
  PROVED: slices.Insert of one slot into a row of slots without room gives the row with it, in memory of its own; impl.withSlot puts a slot ahead of the first of a greater number; nothing that was there is changed.
  PROVED: over a part in memory impl.FindIn gives a copy of the first alarm of the labels in the first chain of their number, as a plain function on lists of chains says; nothing that was there is changed.
  PROVED: impl.withSlot puts a slot ahead of the first of a greater number; what the slots and the chains come to when an alarm is put in.
  PROVED: over a part and an alarm in memory impl.PutIn gives the part with the alarm in it, as a plain function on lists of chains says, in memory of its own; nothing that was there is changed.
-/
import Derived.Test.YtooninmicfcfoaaGreatQPrtN
import Derived.Deep.AppendSrc
import Derived.Test.YtooninmicfcfoaaGreatQPrtC
import Derived.Test.YtooninmicfcfoaaGreatQPrtL
import Derived.Deep.RegionHeld3
set_option linter.unusedVariables false
namespace Go.Proofs.YtooninmicfcfoaaGreat.PrtQ
open Go.RowKit
open Labs LabS Alms Over Blk App Chs Prt PrtH PrtL PrtN Mps
theorem add_at2 (M o j : Nat) : (⟨M, o, none⟩ : Addr).add j = ⟨M, o + j, none⟩ := by by_cases h : j = 0 <;> simp [Addr.add, h]
theorem blk_src {w : World} {M : Nat} {cs : Array Value} {l : List Value} (h : Blk w M cs 94) (e : cs.toList = l) (o : Nat) : ∀ j v, (l.drop o)[j]? = some v → w.cell? ((⟨M, o, none⟩ : Addr).add j) = some v := fun j v hj => by
  rw [add_at2, h.cell, ← hj, List.getElem?_drop, ← e]
  simp
theorem take_len {A Z : List Value} {a : Nat} (h : A.length = a) : (A ++ Z).take a = A := by subst h; exact List.take_left
theorem drop_add {A Z : List Value} {a k : Nat} (h : A.length = a) : (A ++ Z).drop (a + k) = Z.drop k := by
  rw [← List.drop_drop, ← h, List.drop_left]
theorem infoS1 : (Tryz.prog.info? 94).map (·.size) = some 2 := by kernel_rfl
theorem zeros_len (n : Nat) : (Builtin.zeroCells (Value.agg #[.int .i64 0, .int .i64 0]).cells n).size = n * 2 := by simp [Builtin.zeroCells, Value.cells]
set_option maxRecDepth 100000 in
set_option maxHeartbeats 4000000 in
theorem insertS_any (Ms Mv : Nat) (ks : List (Int × Int)) (x : Int × Int) (i : Nat) (sc : Array Value) (w : World) (hS : Blk w Ms sc 94) (hsc : sc.toList = flatK ks) (hV : Blk w Mv #[.int .i64 x.1, .int .i64 x.2] 94) (hi : i ≤ ks.length) (hl : ks.length ≤ 1048576) :
    Calls Tryz.prog 124 #[.slice (some ⟨Ms, 0, none⟩) ks.length ks.length, .int .i64 i, .slice (some ⟨Mv, 0, none⟩) 1 1] w fun e w' => (∃ M c, e = .returned (.slice (some ⟨M, 0, none⟩) (ks.length + 1) c) ∧ SlotL w' M (ks.take i ++ x :: ks.drop i)) ∧ Below w.heap.size w w' := by
  obtain ⟨i0, hi0, hz0, hz1, hz2⟩ := info_parts infoS
  obtain ⟨n, hn⟩ : ∃ n, n = ks.length := ⟨_, rfl⟩
  have HK : Hid (n = ks.length) := hn
  rw [← hn] at hi hl ⊢
  have hlen : (flatK ks).length = n * 2 := by rw [flatK_len, hn]
  have hlt := hS.lt
  have hvt := hV.lt
  by_cases he : i = n
  · have hold : (Builtin.firstCells i0.size n (.slice (some ⟨Ms, 0, none⟩) n n)).run Tryz.prog w.drew = .ok (flatK ks).toArray w.drew := by
      rw [hz1]
      exact run_firstCells_some w.drew 2 n ⟨Ms, 0, none⟩ n n (flatK ks) hlen (fun j v hj => blk_src (w := w.drew) hS.drew hsc 0 j v hj)
    have hsrc : Go.Src Tryz.prog i0.size 88 (.slice (some ⟨Mv, 0, none⟩) 1 1) 1 [.int .i64 x.1, .int .i64 x.2] w := by
      rw [hz1]
      exact Go.Src.ofSlice w Tryz.underlying88 ⟨Mv, 0, none⟩ 1 1 _ rfl (fun j v hj => blk_src hV rfl 0 j v hj) (fun v hv => flatK_one [x] v hv)
    have hrz := fun ty => run_append_grow_src (w := w) 88 88 ty 94 i0 _ Tryz.underlying88 hi0 hz0 (some ⟨Ms, 0, none⟩) n n (flatK ks) hold _ 1 _ hsrc (by omega) (by omega) (by rw [hz2]; exact growslice_fits (by omega) (by omega))
    have HE : Hid (∀ (G : Nat), SlotL (w.alloc (.cells ((flatK ks ++ [Value.int .i64 x.1, Value.int .i64 x.2]).toArray ++ Builtin.zeroCells (Value.agg #[.int .i64 0, .int .i64 0]).cells G) 94)).drew w.heap.size (ks.take n ++ x :: ks.drop n)) := fun G => by
      refine slot_of (r := (Builtin.zeroCells (Value.agg #[.int .i64 0, .int .i64 0]).cells G).toList) (Blk.new w _ _).drew ?_
      rw [HK.out, List.take_length, List.drop_length, flatK_app]
      simp [flatK]
    have HRZ : Hid (∀ ty, (Builtin.append_ #[88, 88] ty #[.slice (some ⟨Ms, 0, none⟩) n n, .slice (some ⟨Mv, 0, none⟩) 1 1]).run Tryz.prog w = .ok (.slice (some ⟨w.heap.size, 0, none⟩) (n + 1) (grownCap w (n + 1) n 94)) (w.alloc (.cells ((flatK ks ++ [Value.int .i64 x.1, Value.int .i64 x.2]).toArray ++ Builtin.zeroCells (Value.agg #[.int .i64 0, .int .i64 0]).cells (grownCap w (n + 1) n 94 - (n + 1))) 94)).drew) := hrz
    rw [he]
    clear hold hsrc hrz hn he hi
    go_enter Tryz.func124, Tryz.ntmps124
    go_wp2_with (at_builtin; refine Lib.wpList_append_run _ rfl _ _ _ _ rfl _ _ rfl rfl _ _ (HRZ.out _) ?_)
    go_ret
    exact ⟨⟨w.heap.size, _, rfl, HE.out _⟩, ((Below.refl _ _).alloc (Nat.le_refl _) _).drew⟩
  · have hlt1 : i < n := by omega
    obtain ⟨F, hF⟩ : ∃ F, F = flatK ks := ⟨_, rfl⟩
    rw [← hF] at hsc hlen
    have hold : (Builtin.firstCells i0.size i (.slice (some ⟨Ms, 0, none⟩) i n)).run Tryz.prog w.drew = .ok (F.take (i * 2)).toArray w.drew := by
      rw [hz1]
      exact run_firstCells_some w.drew 2 i ⟨Ms, 0, none⟩ i n (F.take (i * 2)) (by rw [List.length_take]; omega) (fun j v hj => by
        rw [List.getElem?_take] at hj
        split at hj
        · exact blk_src (w := w.drew) hS.drew hsc 0 j v hj
        · cases hj)
    have hkk : (n : Int) + 1 - (i : Int) = ((n + 1 - i : Nat) : Int) := by omega
    have hik : i + (n + 1 - i) = n + 1 := by omega
    obtain ⟨G, hG⟩ : ∃ G, G = grownCap w (n + 1) n 94 := ⟨_, rfl⟩
    obtain ⟨Z, hZ⟩ : ∃ Z : Array Value, Z = Builtin.zeroCells (Value.agg #[.int .i64 0, .int .i64 0]).cells (n + 1 - i) ++ Builtin.zeroCells (Value.agg #[.int .i64 0, .int .i64 0]).cells (G - (n + 1)) := ⟨_, rfl⟩
    have hZl : (n + 1 - i) * 2 ≤ Z.size := by rw [hZ, Array.size_append, zeros_len, zeros_len]; omega
    obtain ⟨W1, hW1⟩ : ∃ W1, W1 = w.drew.alloc (.cells ((F.take (i * 2)).toArray ++ Z) 94) := ⟨_, rfl⟩
    have hrz : ∀ ty, (Builtin.append_ #[88, 3] ty #[.slice (some ⟨Ms, 0, none⟩) i n, .int .i64 ((n : Int) + 1 - (i : Int))]).run Tryz.prog w = .ok (.slice (some ⟨w.heap.size, 0, none⟩) (n + 1) G) W1 := fun ty => by
      have h := Lib.run_append_grow_zeros w 88 3 ty 94 i0 _ .i64 .i64 Tryz.underlying88 Tryz.underlying3 hi0 hz0 (some ⟨Ms, 0, none⟩) i n (F.take (i * 2)) hold (n + 1 - i) (by omega) (by omega) (by omega) (by omega) (by rw [hz2]; omega) (by rw [hz2, hik]; exact growslice_fits (by omega) (by omega))
      rw [hik] at h
      rw [hkk, hW1, hZ, hG, ← Array.append_assoc]
      exact h
    have hB1 : Blk W1 w.heap.size ((F.take (i * 2)).toArray ++ Z) 94 := by rw [hW1]; exact Blk.new w.drew _ _
    have hb1 : Below w.heap.size w W1 := by rw [hW1]; exact ((Below.refl _ _).drew).alloc (Nat.le_refl _) _
    have htl : (F.take (i * 2)).length = i * 2 := by rw [List.length_take]; omega
    have hcpA : ∀ (W : World), Blk W w.heap.size ((F.take (i * 2)).toArray ++ Z) 94 → Blk W Mv #[.int .i64 x.1, .int .i64 x.2] 94 → ∀ ty dc, (Builtin.copy_ #[88, 88] ty #[.slice (some ⟨w.heap.size, i * 2, none⟩) (n + 1 - i) dc, .slice (some ⟨Mv, 0, none⟩) 1 1]).run Tryz.prog W = .ok (goInt 1) (W.setRow w.heap.size ((F.take (i * 2) ++ flatK [x]) ++ Z.toList.drop 2).toArray) := fun W h1 h2 ty dc => by
      have h := run_copy_sub (P := Tryz.prog) W 88 88 ty 94 2 w.heap.size (i * 2) (n + 1 - i) dc ⟨Mv, 0, none⟩ 1 1 1 _ _ (flatK [x]) Tryz.underlying88 infoS1 h1 (by simp only [Nat.min_def]; split <;> omega) rfl (by simp [htl, flatK]; omega) (fun j v hj => blk_src h2 rfl 0 j v hj) (flatK_one [x])
      have e0 : ((F.take (i * 2)).toArray ++ Z).toList = F.take (i * 2) ++ Z.toList := by simp
      rw [e0, take_len htl, drop_add htl] at h
      exact h
    have hcpB : ∀ (W : World), Blk W w.heap.size ((F.take (i * 2) ++ flatK [x]) ++ Z.toList.drop 2).toArray 94 → Blk W Ms sc 94 → ∀ ty dc, (Builtin.copy_ #[88, 88] ty #[.slice (some ⟨w.heap.size, (i + 1) * 2, none⟩) (n + 1 - (i + 1)) dc, .slice (some ⟨Ms, i * 2, none⟩) (n - i) (n - i)]).run Tryz.prog W = .ok (goInt ((n - i : Nat) : Int)) (W.setRow w.heap.size ((F.take (i * 2) ++ flatK [x]) ++ F.drop (i * 2) ++ (Z.toList.drop 2).drop (F.drop (i * 2)).length).toArray) := fun W h1 h2 ty dc => by
      have hxl : (F.take (i * 2) ++ flatK [x]).length = (i + 1) * 2 := by simp [htl, flatK]; omega
      have h := run_copy_sub (P := Tryz.prog) W 88 88 ty 94 2 w.heap.size ((i + 1) * 2) (n + 1 - (i + 1)) dc ⟨Ms, i * 2, none⟩ (n - i) (n - i) (n - i) _ _ (F.drop (i * 2)) Tryz.underlying88 infoS1 h1 (by simp only [Nat.min_def]; split <;> omega) (by rw [List.length_drop]; omega) (by
        have e1 : (F.drop (i * 2)).length = n * 2 - i * 2 := by rw [List.length_drop]; omega
        have e2 : (Z.toList.drop 2).length = Z.size - 2 := by simp
        simp only [List.size_toArray, List.length_append, hxl, e1, e2]
        omega) (fun j v hj => blk_src h2 hsc (i * 2) j v hj) (fun v hv => by rw [hF] at hv; exact flatK_one ks v (List.mem_of_mem_drop hv))
      rw [List.toList_toArray, take_len hxl, drop_add hxl] at h
      exact h
    have hE : flatK (ks.take i ++ x :: ks.drop i) = (F.take (i * 2) ++ flatK [x]) ++ F.drop (i * 2) := by
      have e1 : ks.take i ++ x :: ks.drop i = (ks.take i ++ [x]) ++ ks.drop i := by simp
      rw [e1, flatK_app, flatK_app, flatK_take ks (by omega), flatK_drop ks (by omega), hF]
    have HE : Hid (flatK (ks.take i ++ x :: ks.drop i) = (F.take (i * 2) ++ flatK [x]) ++ F.drop (i * 2)) := hE
    have HW : Hid (Below w.heap.size w W1 ∧ Blk W1 w.heap.size ((F.take (i * 2)).toArray ++ Z) 94 ∧ Blk W1 Ms sc 94 ∧ Blk W1 Mv #[.int .i64 x.1, .int .i64 x.2] 94) := ⟨hb1, hB1, hS.grow hb1, hV.grow hb1⟩
    have hGn : n + 1 ≤ G := by rw [hG]; exact grownCap_ge w _ _ _
    have hG63 : G ≤ 9223372036854775807 := by
      have := grownCap_le_maxLen w (n + 1) n 94 (by unfold maxLen; omega)
      rw [← hG] at this
      unfold maxLen at this
      omega
    have hA1 : (Builtin.copy_ #[88, 88] 3 #[.slice (some ⟨w.heap.size, i * 2, none⟩) (n + 1 - i) (G - i), .slice (some ⟨Mv, 0, none⟩) 1 1]).run Tryz.prog W1 = .ok (goInt 1) (W1.setRow w.heap.size ((F.take (i * 2) ++ flatK [x]) ++ Z.toList.drop 2).toArray) := hcpA W1 HW.out.2.1 HW.out.2.2.2 _ _
    obtain ⟨W2, hW2⟩ : ∃ W2, W2 = W1.setRow w.heap.size ((F.take (i * 2) ++ flatK [x]) ++ Z.toList.drop 2).toArray := ⟨_, rfl⟩
    rw [← hW2] at hA1
    have HW2 : Hid (Below w.heap.size w W2 ∧ Blk W2 w.heap.size ((F.take (i * 2) ++ flatK [x]) ++ Z.toList.drop 2).toArray 94 ∧ Blk W2 Ms sc 94) := by
      rw [hW2]
      exact ⟨below_setRow hb1 (Nat.le_refl _) _, setRow_heap W1 _ _ _ _ _ hB1, by
        have hne : Ms ≠ w.heap.size := by omega
        have h := (hS.grow hb1)
        unfold Blk at *
        rw [setRow_other W1 _ _ _ hne]; exact h⟩
    obtain ⟨W3, hW3⟩ : ∃ W3, W3 = W2.drew.setRow w.heap.size ((F.take (i * 2) ++ flatK [x]) ++ F.drop (i * 2) ++ (Z.toList.drop 2).drop (F.drop (i * 2)).length).toArray := ⟨_, rfl⟩
    have hA2 : ∀ ty, (Builtin.copy_ #[88, 88] ty #[.slice (some ⟨w.heap.size, (i + 1) * 2, none⟩) (n + 1 - (i + 1)) (G - (i + 1)), .slice (some ⟨Ms, i * 2, none⟩) (n - i) (n - i)]).run Tryz.prog W2.drew = .ok (goInt ((n - i : Nat) : Int)) W3 := fun ty => by rw [hW3]; exact hcpB W2.drew HW2.out.2.1.drew HW2.out.2.2.drew _ _
    have HW3 : Hid (Below w.heap.size w W3 ∧ SlotL W3 w.heap.size (ks.take i ++ x :: ks.drop i)) := by
      rw [hW3]
      exact ⟨below_setRow HW2.out.1.drew (Nat.le_refl _) _, slot_of (setRow_heap W2.drew _ _ _ _ _ HW2.out.2.1.drew) (by rw [HE.out])⟩
    have hgi : ¬ (G = i) := by omega
    have hgi1 : ¬ (G = i + 1) := by omega
    have hni : ¬ (n = i) := by omega
    have hw1 : IntKind.i64.wrap ((i : Int) + 1) = (i : Int) + 1 := by rw [IntKind.wrap_i64]; omega
    have hii : (i : Int) ≤ (n : Int) := by omega
    have hin : ¬ (i : Int) = (n : Int) := by omega
    have hp1 : (0 : Int) ≤ (i : Int) + 1 := by omega
    have htn : ((i : Int) + 1).toNat = i + 1 := by omega
    have hin2 : i ≤ n := by omega
    have hii1 : (i : Int) + 1 ≤ (n : Int) + 1 := by omega
    have hn1 : ¬ (i : Int) + 1 < 0 := by omega
    have HRZ : Hid (∀ ty, (Builtin.append_ #[88, 3] ty #[.slice (some ⟨Ms, 0, none⟩) i n, .int .i64 ((n : Int) + 1 - (i : Int))]).run Tryz.prog w = .ok (.slice (some ⟨w.heap.size, 0, none⟩) (n + 1) G) W1) := hrz
    have HA1 : Hid ((Builtin.copy_ #[88, 88] 3 #[.slice (some ⟨w.heap.size, i * 2, none⟩) (n + 1 - i) (G - i), .slice (some ⟨Mv, 0, none⟩) 1 1]).run Tryz.prog W1 = .ok (goInt 1) W2) := hA1
    have HA2 : Hid (∀ ty, (Builtin.copy_ #[88, 88] ty #[.slice (some ⟨w.heap.size, (i + 1) * 2, none⟩) (n + 1 - (i + 1)) (G - (i + 1)), .slice (some ⟨Ms, i * 2, none⟩) (n - i) (n - i)]).run Tryz.prog W2.drew = .ok (goInt ((n - i : Nat) : Int)) W3) := hA2
    clear hcpA hcpB hE hold hkk hik hZ hZl hW1 hB1 hb1 htl hG hW2 hW3 hrz hA1 hA2 hn hS hV hlen hsc hF
    go_enter Tryz.func124, Tryz.ntmps124
    go_wp2_with (at_builtin; refine Lib.wpList_append_run _ rfl _ _ _ _ rfl _ _ rfl rfl _ _ (HRZ.out _) ?_)
    rw [HA1.out]
    go_upto_region 11 with fail
    go_region_law (refine step_copy rfl _ _ 88 88 rfl (.slice (some ⟨w.heap.size, (i + 1) * 2, none⟩) (n + 1 - (i + 1)) (G - (i + 1))) (.slice (some ⟨Ms, i * 2, none⟩) (n - i) (n - i)) (by simp [Act.eval, Act.put]) (by simp [Act.eval, Act.put]) (HA2.out _) ?_)
    go_wp2
    go_ret
    exact ⟨⟨w.heap.size, _, rfl, HW3.out.2⟩, HW3.out.1⟩
end Go.Proofs.YtooninmicfcfoaaGreat.PrtQ
namespace Go.Proofs.YtooninmicfcfoaaGreat.PrtI
open Go.RowKit
open Labs LabS Alms AlmS AlmM Over Blk App Rws ChnI ChnC ChnP ChnS ChnK Chs Prt PrtO PrtF PrtH Mps
open Fing (fingerB)

theorem cntF_zero {C : List PCh} {f : Int} : ∀ {k : Nat}, (∀ j, j < k → (nthC C j).f ≠ f) → cntF C f k = 0
  | 0, _ => rfl
  | k + 1, h => by rw [cntF, cntF_zero (fun j hj => h j (by omega)), if_neg (h k (by omega))]
theorem shG_first {C : List PCh} {val : Nat → Value} {f : Int} {k : Nat} (hk : k < C.length) (hf : (nthC C k).f = f) (h : ∀ j, j < k → (nthC C j).f ≠ f) : shG C val C.length (f, 0) = some (val k) := by
  have e : keyC C k = (f, 0) := by unfold keyC; rw [hf, cntF_zero h]; rfl
  rw [← e]; exact shG_at hk
theorem shG_miss {C : List PCh} {val : Nat → Value} {f z : Int} (h : ∀ j, j < C.length → (nthC C j).f ≠ f) : shG C val C.length (f, z) = none :=
  shG_no fun i hi e => h i hi (congrArg Prod.fst e).symm
theorem fieldM (f : Option Nat) (a : Option Addr) (n c : Nat) (w : World) : (Instr.field 90 (.agg #[.map f, .slice a n c]) 0).run Tryz.prog w = .ok (.map f) w := by kernel_rfl
set_option maxRecDepth 100000 in
set_option maxHeartbeats 1600000 in
theorem implFind_any (hd vr : Int) (a a' : Option Addr) (cap cap' : Nat) (C : List PCh) (l : List Lab) (w : World) (hr : RdG RdA w a C) (hr' : Reads w a' l) (hl : C.length ≤ 1048576) (hs : Small C) (hll : l.length ≤ maxLen) (hlf : LabT.Fits l) :
    Calls Tryz.prog 12 #[.agg #[.int .i64 hd, .int .i64 vr, .slice a C.length cap], .slice a' l.length cap'] w fun e w' => PrtF.Found w w' e (findB C l) ∧ Below w.heap.size w w' := by
  have HR : Hid (RdG RdA w a C ∧ Reads w a' l ∧ Small C ∧ l.length ≤ maxLen ∧ LabT.Fits l) := ⟨hr, hr', hs, hll, hlf⟩
  clear hr hr' hs hll hlf
  go_enter Tryz.func12, Tryz.ntmps12
  go_wp2_with fail
  obtain ⟨W0, hW0⟩ : ∃ W0, (w.alloc (.cells #[.int .i64 hd, .int .i64 vr, .slice a C.length cap] 26)).alloc (.cells #[.slice none 0 0, .int .i64 0, .int .i64 0, .string ByteArray.empty] 29) = W0 := ⟨_, rfl⟩
  have HW0 : Hid (Below w.heap.size w W0 ∧ Blk W0 w.heap.size #[.int .i64 hd, .int .i64 vr, .slice a C.length cap] 26 ∧ Blk W0 (w.heap.size + 1) #[.slice none 0 0, .int .i64 0, .int .i64 0, .string ByteArray.empty] 29) := by
    rw [← hW0]
    exact ⟨Go.Joins.below_alloc2 w _ _, (Blk.new _ _ _).alloc _, Blk.new_at (by simp)⟩
  have hW0' : (w.alloc (.cells #[.int .i64 hd, .int .i64 vr, .slice a C.length cap] 26)).alloc (.cells #[.slice none 0 0, .int .i64 0, .int .i64 0, .string ⟨#[]⟩] 29) = W0 := hW0
  first | rw [hW0'] | rw [hW0]
  clear hW0 hW0'
  refine (shelve_any a cap C W0 (HR.out.1.below stays_rd HW0.out.1) hl).mono ?_
  rintro e w2 ⟨⟨Mm, Ms, rfl, ad, cp, hsh⟩, hb2⟩
  have HSH : Hid (Shelved W0.heap.size W0 w2 C ad cp Mm Ms) := hsh
  have HB2 : Hid (Below W0.heap.size W0 w2) := hb2
  have hfd := fieldM
  clear hsh hb2
  go_wp2_with fail
  refine (Fing.implFinger_any a' cap' l w2 (HR.out.2.1.below (grow_on HW0.out.1 HB2.out)) HR.out.2.2.2.1 HR.out.2.2.2.2).mono ?_
  rintro e w3 ⟨rfl, hb3⟩
  have HB3 : Hid (Below W0.heap.size W0 w3) := grow_on HB2.out hb3
  have HM3 : Hid (MapG TwoK w3 Mm (shG C (fun i => chV (nthC C i) (ad i) (cp i)) C.length)) := HSH.out.map.grow hb3
  clear hb3 hfd
  rcases at_cases C (fingerB l) with ⟨h0, h1, h2⟩ | ⟨k, h0, h1, hk, h3, h4⟩
  · have HE : Hid (findB C l = none) := find_1 h0
    have HLk : Hid ((shG C (fun i => chV (nthC C i) (ad i) (cp i)) C.length ((fingerB l : Int), 0)).getD (.agg #[.int .i64 0, .slice none 0 0]) = .agg #[.int .i64 0, .slice none 0 0]) := by show Option.getD _ _ = _; rw [shG_miss h2]; rfl
    clear h0 h1 h2
    go_wp2_with (at_lookup; refine wp_lookup _ rfl _ _ 87 false rfl 94 96 TwoK asked_slot Tryz.underlying87 (zeroC _) Mm (shG C (fun i => chV (nthC C i) (ad i) (cp i)) C.length) rfl HM3.out ((fingerB l : Int), 0) rfl (.agg #[.int .i64 0, .slice none 0 0]) HLk.out ?_)
    go_wp2_with fail
    refine (implIn_any 0 none a' 0 cap' [] l _ (.inl rfl) ((HR.out.2.1.below (grow_on HW0.out.1 HB3.out)).below (Go.Joins.below_alloc1 w3 _)) (by simp) (fun i hi => by simp at hi) HR.out.2.2.2.1).mono ?_
    rintro e w4 ⟨rfl, hb4⟩
    have HB4 : Hid (Below W0.heap.size W0 w4) := grow_on (grow_on HB3.out (Go.Joins.below_alloc1 w3 _)) hb4
    have hi1 : idxB [] l = -1 := idx_miss (fun j hj => by simp at hj)
    rw [hi1]
    clear hb4 hi1
    have HRs : Hid (Blk w4 (w.heap.size + 1) #[.slice none 0 0, .int .i64 0, .int .i64 0, .string ByteArray.empty] 29) := HW0.out.2.2.grow HB4.out
    have r0 : w4.cell? ⟨w.heap.size + 1, 0, none⟩ = some (.slice none 0 0) := HRs.out.cell 0
    have r1 : w4.cell? ⟨w.heap.size + 1, 1, none⟩ = some (.int .i64 0) := HRs.out.cell 1
    have r2 : w4.cell? ⟨w.heap.size + 1, 2, none⟩ = some (.int .i64 0) := HRs.out.cell 2
    have r3 : w4.cell? ⟨w.heap.size + 1, 3, none⟩ = some (.string ByteArray.empty) := HRs.out.cell 3
    have f0 := HRs.out.frozen 0
    have f1 := HRs.out.frozen 1
    have f2 := HRs.out.frozen 2
    have f3 := HRs.out.frozen 3
    go_wp2
    have hs := Alm.put4 HRs.out (.slice none 0 0) (.int .i64 0) (.int .i64 0) (.string ⟨#[]⟩)
    have s0 := hs.cell 0
    have s1 := hs.cell 1
    have s2 := hs.cell 2
    have s3 := hs.cell 3
    refine bodyPost_ret (v := .tuple #[.agg #[.slice none 0 0, .int .i64 0, .int .i64 0, .string ⟨#[]⟩], .bool false]) (by simp [results, Tryz.results12, go_sem, s0, s1, s2, s3]) rfl ?_
    rw [HE.out]
    exact ⟨rfl, Alm.set4 (grow_on HW0.out.1 HB4.out) (by omega) _ _ _ _⟩
  · have HK : Hid (atO C (fingerB l) = some k) := h0
    have HLk : Hid ((shG C (fun i => chV (nthC C i) (ad i) (cp i)) C.length ((fingerB l : Int), 0)).getD (.agg #[.int .i64 0, .slice none 0 0]) = .agg #[.int .i64 (nthC C k).f, .slice (ad k) (nthC C k).P.length (cp k)]) := by show Option.getD _ _ = _; rw [shG_first hk h3 h4]; rfl
    clear h0 h1 h3 h4
    go_wp2_with (at_lookup; refine wp_lookup _ rfl _ _ 87 false rfl 94 96 TwoK asked_slot Tryz.underlying87 (zeroC _) Mm (shG C (fun i => chV (nthC C i) (ad i) (cp i)) C.length) rfl HM3.out ((fingerB l : Int), 0) rfl (.agg #[.int .i64 (nthC C k).f, .slice (ad k) (nthC C k).P.length (cp k)]) HLk.out ?_)
    have HS : Hid ((nthC C k).P.length ≤ 1048576 ∧ LenM (nthC C k).P) := HR.out.2.2.1 _ (nthC_mem hk)
    have HRD : Hid (RdA w3 (ad k) (nthC C k).P) := (HSH.out.reads k hk).below HB3.out
    go_wp2_with fail
    obtain ⟨W4, hW4⟩ : ∃ W4, w3.alloc (.cells #[.int .i64 (nthC C k).f, .slice (ad k) (nthC C k).P.length (cp k)] 96) = W4 := ⟨_, rfl⟩
    have H4 : Hid (Below w3.heap.size w3 W4 ∧ Blk W4 w3.heap.size #[.int .i64 (nthC C k).f, .slice (ad k) (nthC C k).P.length (cp k)] 96) := by
      rw [← hW4]
      exact ⟨Go.Joins.below_alloc1 w3 _, Blk.new _ _ _⟩
    try rw [hW4]
    clear hW4
    refine (implIn_any _ (ad k) a' (cp k) cap' (nthC C k).P l W4 (HRD.out.below H4.out.1) ((HR.out.2.1.below (grow_on HW0.out.1 HB3.out)).below H4.out.1) HS.out.1 (len_m HS.out.2) HR.out.2.2.2.1).mono ?_
    rintro e w5 ⟨rfl, hb5⟩
    have HB5 : Hid (Below W0.heap.size W0 w5) := grow_on (grow_on HB3.out H4.out.1) hb5
    have HK5 : Hid (Blk w5 w3.heap.size #[.int .i64 (nthC C k).f, .slice (ad k) (nthC C k).P.length (cp k)] 96) := H4.out.2.grow hb5
    have HRD5 : Hid (RdA w5 (ad k) (nthC C k).P) := (HRD.out.below H4.out.1).below hb5
    clear hb5
    rcases idx_cases (nthC C k).P l with ⟨i1, i2⟩ | ⟨i, i1, hi, i3, i4⟩
    · have HE : Hid (findB C l = none) := find_2 HK.out i2
      rw [i1]
      clear i1 i2
      have HRs : Hid (Blk w5 (w.heap.size + 1) #[.slice none 0 0, .int .i64 0, .int .i64 0, .string ByteArray.empty] 29) := HW0.out.2.2.grow HB5.out
      have r0 : w5.cell? ⟨w.heap.size + 1, 0, none⟩ = some (.slice none 0 0) := HRs.out.cell 0
      have r1 : w5.cell? ⟨w.heap.size + 1, 1, none⟩ = some (.int .i64 0) := HRs.out.cell 1
      have r2 : w5.cell? ⟨w.heap.size + 1, 2, none⟩ = some (.int .i64 0) := HRs.out.cell 2
      have r3 : w5.cell? ⟨w.heap.size + 1, 3, none⟩ = some (.string ByteArray.empty) := HRs.out.cell 3
      have f0 := HRs.out.frozen 0
      have f1 := HRs.out.frozen 1
      have f2 := HRs.out.frozen 2
      have f3 := HRs.out.frozen 3
      go_wp2
      have hs := Alm.put4 HRs.out (.slice none 0 0) (.int .i64 0) (.int .i64 0) (.string ⟨#[]⟩)
      have s0 := hs.cell 0
      have s1 := hs.cell 1
      have s2 := hs.cell 2
      have s3 := hs.cell 3
      refine bodyPost_ret (v := .tuple #[.agg #[.slice none 0 0, .int .i64 0, .int .i64 0, .string ⟨#[]⟩], .bool false]) (by simp [results, Tryz.results12, go_sem, s0, s1, s2, s3]) rfl ?_
      rw [HE.out]
      exact ⟨rfl, Alm.set4 (grow_on HW0.out.1 HB5.out) (by omega) _ _ _ _⟩
    · have HE : Hid (findB C l = some (nthP (nthC C k).P i)) := find_3 HK.out i4 i3 hi
      rw [i1]
      have hi' : (i : Int) < ((nthC C k).P.length : Int) := by omega
      have q1 : w5.cell? ⟨w3.heap.size, 1, none⟩ = some (.slice (ad k) (nthC C k).P.length (cp k)) := HK5.out.cell 1
      obtain ⟨b1, off1, ea, hb1, g, cp1, hat⟩ := HRD5.out.get hi
      rw [ea] at q1 ⊢
      have u0 := hat.c0
      have u1 := hat.c1
      have u2 := hat.c2
      have u3 := hat.c3
      have HRL : Hid (Reads w5 g (nthP (nthC C k).P i).l) := hat.reads
      clear hat hb1 i1 i3 i4
      go_wp2_with fail
      refine (copyI_any g cp1 _ _ _ _ w5 HRL.out (HS.out.2 i hi)).mono ?_
      rintro e w6 ⟨⟨M, c, rfl, hO⟩, hb6⟩
      have HB6 : Hid (Below W0.heap.size W0 w6) := grow_on HB5.out hb6
      have HO : Hid (LabR.Own w w6 M (nthP (nthC C k).P i).l) := ⟨Nat.le_trans (grow_on HW0.out.1 HB5.out).size hO.1, hO.2⟩
      have HML : Hid (W0.heap.size ≤ M) := Nat.le_trans HB5.out.size hO.1
      clear hb6 hO q1 u0 u1 u2 u3
      have HRs : Hid (Blk w6 (w.heap.size + 1) #[.slice none 0 0, .int .i64 0, .int .i64 0, .string ByteArray.empty] 29) := HW0.out.2.2.grow HB6.out
      have r0 : w6.cell? ⟨w.heap.size + 1, 0, none⟩ = some (.slice none 0 0) := HRs.out.cell 0
      have r1 : w6.cell? ⟨w.heap.size + 1, 1, none⟩ = some (.int .i64 0) := HRs.out.cell 1
      have r2 : w6.cell? ⟨w.heap.size + 1, 2, none⟩ = some (.int .i64 0) := HRs.out.cell 2
      have r3 : w6.cell? ⟨w.heap.size + 1, 3, none⟩ = some (.string ByteArray.empty) := HRs.out.cell 3
      have f0 := HRs.out.frozen 0
      have f1 := HRs.out.frozen 1
      have f2 := HRs.out.frozen 2
      have f3 := HRs.out.frozen 3
      go_wp2
      have hs := Alm.put4 HRs.out (.slice (some ⟨M, 0, none⟩) (nthP (nthC C k).P i).l.length c) (.int .i64 (nthP (nthC C k).P i).s) (.int .i64 (nthP (nthC C k).P i).e) (.string (nthP (nthC C k).P i).n)
      have s0 := hs.cell 0
      have s1 := hs.cell 1
      have s2 := hs.cell 2
      have s3 := hs.cell 3
      refine bodyPost_ret (v := .tuple #[.agg #[.slice (some ⟨M, 0, none⟩) (nthP (nthC C k).P i).l.length c, .int .i64 (nthP (nthC C k).P i).s, .int .i64 (nthP (nthC C k).P i).e, .string (nthP (nthC C k).P i).n], .bool true]) (by simp [results, Tryz.results12, go_sem, s0, s1, s2, s3]) rfl ?_
      rw [HE.out]
      obtain ⟨q1, ds, q2, q3⟩ := HO.out
      exact ⟨⟨M, _, rfl, q1, ds, Alm.blk4 q2 (by have := HML.out; have := HW0.out.2.2.lt; omega) _ _ _ _, q3⟩, Alm.set4 (grow_on HW0.out.1 HB6.out) (by omega) _ _ _ _⟩
end Go.Proofs.YtooninmicfcfoaaGreat.PrtI
namespace Go.Proofs.YtooninmicfcfoaaGreat.PrtR
open Go.RowKit
open Labs LabS Alms AlmM Over Blk App Rws ChnI ChnC ChnP ChnK Chs Prt PrtO PrtF PrtC PrtH PrtL PrtN PrtQ Mps
open PrtI (shG_first shG_miss cntF_zero)
open Fing (fingerB)

theorem moved_map {ι : Type} {enc : ι → Value} {w w' : World} {b : Nat} {g : ι → Option Value} (hm : MapG enc w b g) (hg : w.grownBy w' (some b)) : Moved w w' := ⟨fun h => blk_map h hm hg, fun h => blk_map h hm hg⟩
theorem howS_any (Ms c b0 : Nat) (ks : List (Int × Int)) (f : Int) (w : World) (hs : SlotL w Ms ks) (hc : w.cell? ⟨b0, 0, none⟩ = some (.int .i64 f)) (hl : ks.length ≤ 1048576) :
    Calls Tryz.prog 122 #[.slice (some ⟨Ms, 0, none⟩) ks.length c, .func (.func 123) #[] #[.pointer (some ⟨b0, 0, none⟩)]] w fun e w' => e = .returned (.int .i64 (gtO ks f ks.length : Int)) ∧ Below w.heap.size w w' := by
  have HI : Hid (Calls Tryz.prog 161 #[.slice (some ⟨Ms, 0, none⟩) ks.length c, .func (.func 123) #[] #[.pointer (some ⟨b0, 0, none⟩)]] w fun e w' => (∃ x : Int, e = .returned (.int .i64 x) ∧ ((x = -1 ∧ gtO ks f ks.length = ks.length) ∨ (x = (gtO ks f ks.length : Int) ∧ gtO ks f ks.length < ks.length))) ∧ Below w.heap.size w w') := indexS_any Ms c b0 ks f w hs hc hl
  clear hs hc hl
  go_enter Tryz.func122, Tryz.ntmps122
  go_wp2_with fail
  refine HI.out.mono ?_
  rintro e w1 ⟨⟨x, rfl, hx⟩, hb1⟩
  have HB1 : Hid (Below w.heap.size w w1) := hb1
  clear hb1 HI
  rcases hx with ⟨rfl, he⟩ | ⟨hx, he⟩
  · have HE : Hid (gtO ks f ks.length = ks.length) := he
    clear he
    go_wp2
    go_ret
    exact ⟨ChnI.retI (by rw [HE.out]), HB1.out⟩
  · have h0 : (0 : Int) ≤ x := by omega
    have HE : Hid (x = (gtO ks f ks.length : Int)) := hx
    clear hx he
    go_wp2
    go_ret
    exact ⟨ChnI.retI HE.out, HB1.out⟩
theorem gt_le (ks : List (Int × Int)) (f : Int) : ∀ n, gtO ks f n ≤ n
  | 0 => Nat.le_refl _
  | n + 1 => by
    have h := gt_le ks f n
    rw [gtO]
    split <;> omega
set_option maxHeartbeats 800000 in
theorem withSlot_any (Ms : Nat) (ks : List (Int × Int)) (x : Int × Int) (sc : Array Value) (w : World) (hS : Blk w Ms sc 94) (hsc : sc.toList = flatK ks) (hl : ks.length ≤ 1048576) :
    Calls Tryz.prog 66 #[.slice (some ⟨Ms, 0, none⟩) ks.length ks.length, .agg #[.int .i64 x.1, .int .i64 x.2]] w fun e w' => (∃ M c, e = .returned (.slice (some ⟨M, 0, none⟩) (ks.length + 1) c) ∧ SlotL w' M (ks.take (gtO ks x.1 ks.length) ++ x :: ks.drop (gtO ks x.1 ks.length))) ∧ Below w.heap.size w w' := by
  have HR : Hid (Blk w Ms sc 94 ∧ sc.toList = flatK ks) := ⟨hS, hsc⟩
  clear hS hsc
  go_enter Tryz.func66, Tryz.ntmps66
  go_wp2_with fail
  obtain ⟨W0, hW0⟩ : ∃ W0, w.alloc (.cells #[.int .i64 x.1, .int .i64 x.2] 94) = W0 := ⟨_, rfl⟩
  have H0 : Hid (Below w.heap.size w W0 ∧ Blk W0 w.heap.size #[.int .i64 x.1, .int .i64 x.2] 94) := by rw [← hW0]; exact ⟨Go.Joins.below_alloc1 w _, Blk.new _ _ _⟩
  try rw [hW0]
  clear hW0
  refine (howS_any Ms ks.length w.heap.size ks x.1 W0 (slot_of (r := []) (HR.out.1.grow H0.out.1) (by rw [HR.out.2]; simp)) (H0.out.2.cell 0) hl).mono ?_
  rintro e w2 ⟨rfl, hb2⟩
  have HB2 : Hid (Below W0.heap.size W0 w2) := hb2
  have q0 : w2.cell? ⟨w.heap.size, 0, none⟩ = some (.int .i64 x.1) := (H0.out.2.grow hb2).cell 0
  have q1 : w2.cell? ⟨w.heap.size, 1, none⟩ = some (.int .i64 x.2) := (H0.out.2.grow hb2).cell 1
  have HI : Hid (∀ i : Nat, i ≤ ks.length → Calls Tryz.prog 124 #[.slice (some ⟨Ms, 0, none⟩) ks.length ks.length, .int .i64 i, .slice (some ⟨w2.heap.size, 0, none⟩) 1 1] (w2.alloc (.cells #[.int .i64 x.1, .int .i64 x.2] 94)) fun e w' => (∃ M c, e = .returned (.slice (some ⟨M, 0, none⟩) (ks.length + 1) c) ∧ SlotL w' M (ks.take i ++ x :: ks.drop i)) ∧ Below w2.heap.size w2 w') := fun i hi => (insertS_any Ms w2.heap.size ks x i sc _ (((HR.out.1.grow H0.out.1).grow HB2.out).alloc _) HR.out.2 (Blk.new _ _ _) hi hl).mono fun e w' h => ⟨h.1, grow_on (Go.Joins.below_alloc1 w2 _) h.2⟩
  have HG : Hid (gtO ks x.1 ks.length ≤ ks.length) := gt_le ks x.1 ks.length
  clear hb2
  go_wp2_with fail
  refine (HI.out _ HG.out).mono ?_
  rintro e w3 ⟨⟨M, c, rfl, hs⟩, hb3⟩
  have H3 : Hid (SlotL w3 M (ks.take (gtO ks x.1 ks.length) ++ x :: ks.drop (gtO ks x.1 ks.length)) ∧ Below w.heap.size w w3) := ⟨hs, grow_on (grow_on H0.out.1 HB2.out) hb3⟩
  clear hs hb3
  go_wp2
  go_ret
  exact ⟨⟨M, c, rfl, H3.out.1⟩, H3.out.2⟩

def keysC (C : List PCh) : List (Int × Int) := (List.range C.length).map (keyC C)
theorem keys_len (C : List PCh) : (keysC C).length = C.length := by simp [keysC]
theorem keys_nth {C : List PCh} {i : Nat} (h : i < C.length) : nthK (keysC C) i = keyC C i := by rw [nthK_eq (by rw [keys_len]; exact h)]; simp [keysC]
theorem slots_flat {w : World} {M : Nat} {C : List PCh} {cs : Array Value} (h : SlotsK w M C C.length cs) : cs.toList = flatK (keysC C) := by
  have hs := h.size
  apply List.ext_getElem?
  intro j
  by_cases hj : j < C.length * 2
  · obtain ⟨i, r, hi, hr, e⟩ : ∃ i r, i < C.length ∧ r < 2 ∧ j = i * 2 + r := ⟨j / 2, j % 2, by omega, Nat.mod_lt _ (by omega), by omega⟩
    obtain ⟨a0, a1⟩ := h.cell i hi
    obtain ⟨b0, b1⟩ := flatK_get (keysC C) i (by rw [keys_len]; exact hi)
    rw [keys_nth hi] at b0 b1
    subst e
    have hc : ∀ k : Nat, cs.toList[k]? = cs[k]? := fun k => by simp
    match r, hr with
    | 0, _ => rw [hc]; exact a0.trans b0.symm
    | 1, _ => rw [hc]; exact a1.trans b1.symm
  · rw [List.getElem?_eq_none (by rw [Array.length_toList, hs]; omega), List.getElem?_eq_none (by rw [flatK_len, keys_len]; omega)]
theorem gt_pos {C : List PCh} {f : Int} (h : ∀ j, j < C.length → (nthC C j).f ≠ f) : ∀ {k : Nat}, k ≤ C.length → gtO (keysC C) f k = posTo C f k
  | 0, _ => rfl
  | k + 1, hk => by
    have ih := gt_pos h (k := k) (by omega)
    have hne := h k (by omega)
    rw [gtO, posTo, ih, keys_nth (by omega)]
    have e : (keyC C k).1 = (nthC C k).f := rfl
    rw [e]
    by_cases q : posTo C f k = k
    · by_cases q2 : (nthC C k).f < f
      · rw [if_pos ⟨q, by omega⟩, if_pos ⟨q, q2⟩]
      · rw [if_neg (fun x => by have := x.2; omega), if_neg (fun x => q2 x.2)]
    · rw [if_neg (fun x => q x.1), if_neg (fun x => q x.1)]
theorem gt_posB {C : List PCh} {f : Int} (h : ∀ j, j < C.length → (nthC C j).f ≠ f) : gtO (keysC C) f (keysC C).length = posB C f := by rw [keys_len]; exact gt_pos h (Nat.le_refl _)
theorem laid_somes (l : List PCh) : laidTo (l.map some) (l.map some).length = l := by
  unfold laidTo
  rw [List.take_length]
  induction l with
  | nil => rfl
  | cons x l ih => simp
theorem somes_nth {l : List PCh} {i : Nat} (h : i < l.length) : nthV (l.map some) i = some (nthC l i) := by rw [nthV_eq (by simpa using h), nthC_eq h]; simp
theorem ent_other {W0 u : World} {C : List PCh} {ad : Nat → Option Addr} {cp : Nat → Nat} {i : Nat} (hr : RdA W0 (ad i) (nthC C i).P) (hb : Below W0.heap.size W0 u) {o : Option Value} (ho : o = some (chV (nthC C i) (ad i) (cp i))) : Ent u o (some (nthC C i)) := ⟨ad i, cp i, ho, hr.below hb⟩
theorem put_small {P : List PAl} {x : PAl} (h : P.length + 1 ≤ 1048576) (hs : LenM P) (hx : x.l.length ≤ 1048576) : (putL P x).length ≤ 1048576 ∧ LenM (putL P x) := by
  refine ⟨by have := (put_sum P x).2; omega, fun j hj => ?_⟩
  have hm : nthP (putL P x) j ∈ putL P x := by rw [nthP_eq hj]; exact List.getElem_mem _
  generalize nthP (putL P x) j = y at hm ⊢
  have hin : y ∈ P → y.l.length ≤ 1048576 := fun hm => by
    obtain ⟨q, hq, e⟩ := List.getElem_of_mem hm
    have := hs q hq
    rw [nthP_eq hq, e] at this
    exact this
  rcases idxTo_cases P x.l P.length with hq | ⟨k, h0, h1, h2⟩
  · rw [(put_miss hq).1] at hm
    rcases List.mem_append.1 hm with hm | hm
    · exact hin hm
    · rw [List.mem_singleton.1 hm]; exact hx
  · rw [(put_hit h2 h1 h0).1] at hm
    rcases List.mem_or_eq_of_mem_set hm with hm | hm
    · exact hin hm
    · rw [hm]; exact hx
structure Plan (C : List PCh) (x : PAl) (C' : List PCh) (ks : List (Int × Int)) (Fc : Int) (Pc : List PAl) : Prop where
  len : ks.length = C'.length
  all : C' = putC C x
  new : isNew Pc x.l = newC C x
  here : ∀ i, i < C'.length → nthK ks i = ((fingerB x.l : Int), 0) → nthC C' i = ⟨Fc, putL Pc x⟩
  lens : ∀ i, i < C'.length → (nthC C' i).P.length ≤ 1048576 ∧ LenM (nthC C' i).P
def Others (C : List PCh) (x : PAl) (ks : List (Int × Int)) : Prop := ∀ i, i < ks.length → nthK ks i ≠ ((fingerB x.l : Int), 0) → ∃ j, j < C.length ∧ nthK ks i = keyC C j ∧ nthC (putC C x) i = nthC C j
theorem nthC_mem' {C : List PCh} {i : Nat} (h : i < C.length) : nthC C i ∈ C := by rw [nthC_eq h]; exact List.getElem_mem _
theorem ins_get {α : Type} (l : List α) (p i : Nat) (y : α) (hp : p ≤ l.length) : (l.take p ++ y :: l.drop p)[i]? = if i < p then l[i]? else if i = p then some y else l[i - 1]? := by
  have hl : (l.take p).length = p := by rw [List.length_take]; omega
  by_cases h : i < p
  · rw [if_pos h, List.getElem?_append_left (by omega), List.getElem?_take]; rw [if_pos h]
  · rw [if_neg h, List.getElem?_append_right (by omega), hl]
    by_cases e : i = p
    · rw [if_pos e, e, Nat.sub_self]; rfl
    · rw [if_neg e]
      obtain ⟨d, hd⟩ : ∃ d, i - p = d + 1 := ⟨i - p - 1, by omega⟩
      rw [hd, List.getElem?_cons_succ, List.getElem?_drop]
      congr 1; omega
theorem plan_some {C : List PCh} {x : PAl} {k : Nat} (h0 : atO C (fingerB x.l) = some k) (hk : k < C.length) (h3 : (nthC C k).f = fingerB x.l) (h4 : ∀ j, j < k → (nthC C j).f ≠ fingerB x.l) (hs : Small C) (hx : x.l.length ≤ 1048576) (hc : (nthC C k).P.length + 1 ≤ 1048576) :
    Plan C x (putC C x) (keysC C) (nthC C k).f (nthC C k).P ∧ Others C x (keysC C) := by
  obtain ⟨e1, e2⟩ := put_some h0
  have ek : keyC C k = ((fingerB x.l : Int), 0) := by unfold keyC; rw [h3, cntF_zero h4]; rfl
  have hln : (putC C x).length = C.length := by rw [e1, List.length_set]
  have hget : ∀ i, i < C.length → nthC (putC C x) i = if i = k then ⟨(nthC C k).f, putL (nthC C k).P x⟩ else nthC C i := fun i hi => by
    rw [e1, nthC_eq (by rw [List.length_set]; exact hi), List.getElem_set, nthC_eq hi]
    by_cases q : i = k
    · rw [if_pos q.symm, if_pos q]
    · rw [if_neg (fun e => q e.symm), if_neg q]
  refine ⟨⟨by rw [keys_len, hln], rfl, e2.symm, fun i hi he => ?_, fun i hi => ?_⟩, fun i hi he => ?_⟩
  · rw [hln] at hi
    rw [keys_nth hi, ← ek] at he
    rw [hget i hi, if_pos (keyC_inj he)]
  · rw [hln] at hi
    rw [hget i hi]
    by_cases q : i = k
    · rw [if_pos q]; exact put_small hc (hs _ (nthC_mem' hk)).2 hx
    · rw [if_neg q]; exact hs _ (nthC_mem' hi)
  · rw [keys_len] at hi
    rw [keys_nth hi] at he ⊢
    refine ⟨i, hi, rfl, ?_⟩
    rw [hget i hi, if_neg fun q => he (by rw [q, ek])]
theorem plan_none {C : List PCh} {x : PAl} (h0 : atO C (fingerB x.l) = none) (h2 : ∀ j, j < C.length → (nthC C j).f ≠ fingerB x.l) (hs : Small C) (hx : x.l.length ≤ 1048576) {ks : List (Int × Int)} (hks : ks = (keysC C).take (posB C (fingerB x.l)) ++ ((fingerB x.l : Int), 0) :: (keysC C).drop (posB C (fingerB x.l))) :
    Plan C x (putC C x) ks (fingerB x.l) [] ∧ Others C x ks := by
  obtain ⟨e1, e2⟩ := put_none h0
  have hp := pos_le C (fingerB x.l)
  generalize hq : posB C (fingerB x.l) = p at *
  have hln : (putC C x).length = C.length + 1 := by rw [e1]; simp; omega
  have hkl : ks.length = C.length + 1 := by rw [hks]; simp [keys_len]; omega
  have hgk : ∀ i, i < C.length + 1 → nthK ks i = if i < p then keyC C i else if i = p then ((fingerB x.l : Int), 0) else keyC C (i - 1) := fun i hi => by
    have h := ins_get (keysC C) p i ((fingerB x.l : Int), 0) (by rw [keys_len]; exact hp)
    rw [← hks, List.getElem?_eq_getElem (by omega)] at h
    rw [nthK_eq (by omega)]
    by_cases q : i < p
    · rw [if_pos q] at h ⊢
      rw [List.getElem?_eq_getElem (by rw [keys_len]; omega)] at h
      rw [← keys_nth (by omega), nthK_eq (by rw [keys_len]; omega)]; exact Option.some.inj h
    · rw [if_neg q] at h ⊢
      by_cases q2 : i = p
      · rw [if_pos q2] at h ⊢; exact Option.some.inj h
      · rw [if_neg q2] at h ⊢
        rw [List.getElem?_eq_getElem (by rw [keys_len]; omega)] at h
        rw [← keys_nth (by omega), nthK_eq (by rw [keys_len]; omega)]; exact Option.some.inj h
  have hgc : ∀ i, i < C.length + 1 → nthC (putC C x) i = if i < p then nthC C i else if i = p then ⟨fingerB x.l, [x]⟩ else nthC C (i - 1) := fun i hi => by
    have h := ins_get C p i (⟨fingerB x.l, [x]⟩ : PCh) hp
    rw [← e1, List.getElem?_eq_getElem (by omega)] at h
    rw [nthC_eq (by omega)]
    by_cases q : i < p
    · rw [if_pos q] at h ⊢
      rw [List.getElem?_eq_getElem (by omega)] at h
      rw [nthC_eq (by omega)]; exact Option.some.inj h
    · rw [if_neg q] at h ⊢
      by_cases q2 : i = p
      · rw [if_pos q2] at h ⊢; exact Option.some.inj h
      · rw [if_neg q2] at h ⊢
        rw [List.getElem?_eq_getElem (by omega)] at h
        rw [nthC_eq (by omega)]; exact Option.some.inj h
  have hput : putL [] x = [x] := (put_miss (P := []) (a := x) (fun j hj => absurd hj (by simp))).1
  have hnew : isNew [] x.l = true := (put_miss (P := []) (a := x) (fun j hj => absurd hj (by simp))).2
  have hk2 : ∀ j, j < C.length → keyC C j ≠ ((fingerB x.l : Int), 0) := fun j hj e => h2 j hj (congrArg Prod.fst e)
  refine ⟨⟨by omega, rfl, by rw [hnew, e2], fun i hi he => ?_, fun i hi => ?_⟩, fun i hi he => ?_⟩
  · rw [hln] at hi
    rw [hgk i hi] at he
    rw [hgc i hi, hput]
    by_cases q : i < p
    · rw [if_pos q] at he; exact absurd he (hk2 i (by omega))
    · rw [if_neg q] at he ⊢
      by_cases q2 : i = p
      · rw [if_pos q2]
      · rw [if_neg q2] at he; exact absurd he (hk2 (i - 1) (by omega))
  · rw [hln] at hi
    rw [hgc i hi]
    by_cases q : i < p
    · rw [if_pos q]; exact hs _ (nthC_mem' (by omega))
    · rw [if_neg q]
      by_cases q2 : i = p
      · rw [if_pos q2, ← hput]; exact put_small (P := []) (by simp) (fun j hj => absurd hj (by simp)) hx
      · rw [if_neg q2]; exact hs _ (nthC_mem' (by omega))
  · rw [hkl] at hi
    rw [hgk i hi] at he ⊢
    rw [hgc i hi]
    by_cases q : i < p
    · rw [if_pos q, if_pos q]; exact ⟨i, by omega, rfl, rfl⟩
    · rw [if_neg q] at he
      rw [if_neg q, if_neg q]
      by_cases q2 : i = p
      · rw [if_pos q2] at he; exact absurd rfl he
      · rw [if_neg q2, if_neg q2]; exact ⟨i - 1, by omega, rfl, rfl⟩
theorem slot_kept {w w' : World} {M : Nat} {ks : List (Int × Int)} (h : SlotL w M ks) (hb : ∀ {cs : Array Value}, Blk w M cs 94 → Blk w' M cs 94) : SlotL w' M ks := by
  obtain ⟨cs, h1, h2⟩ := h
  exact ⟨cs, hb h1, h2⟩
end Go.Proofs.YtooninmicfcfoaaGreat.PrtR
namespace Go.Proofs.YtooninmicfcfoaaGreat.PrtZ
open Go.RowKit
open Labs LabS Alms AlmM Over Blk App Rws ChnI ChnC ChnP ChnK Chs Prt PrtO PrtF PrtC PrtH PrtL PrtN PrtQ PrtR Mps
open PrtI (shG_first shG_miss)
open Fing (fingerB)

set_option maxRecDepth 100000 in
set_option maxHeartbeats 4000000 in
theorem implPut_any (hd vr : Int) (a : Option Addr) (cap : Nat) (C : List PCh) (g o cap' : Nat) (x : PAl) (w : World) (hr : RdG RdA w a C) (hx : Reads w (some ⟨g, o, none⟩) x.l) (hl : C.length ≤ 1048576) (hs : Small C) (hc : C.length + sumC C ≤ 1048576) (hxl : x.l.length ≤ 1048576) (hxf : LabT.Fits x.l) :
    Calls Tryz.prog 9 #[.agg #[.int .i64 hd, .int .i64 vr, .slice a C.length cap], .agg #[.slice (some ⟨g, o, none⟩) x.l.length cap', .int .i64 x.s, .int .i64 x.e, .string x.n]] w fun e w' => (∃ M c cs, e = .returned (.tuple #[.agg #[.int .i64 hd, .int .i64 (IntKind.i64.wrap (vr + 1)), .slice (some ⟨M, 0, none⟩) cs.length c], .bool (newC C x)]) ∧ CB w.heap.size w' M c cs ∧ chs cs = putC C x) ∧ Below w.heap.size w w' := by
  have HR : Hid (RdG RdA w a C ∧ Reads w (some ⟨g, o, none⟩) x.l ∧ Small C ∧ C.length + sumC C ≤ 1048576 ∧ x.l.length ≤ 1048576 ∧ LabT.Fits x.l) := ⟨hr, hx, hs, hc, hxl, hxf⟩
  clear hr hx hs hc hxl hxf
  obtain ⟨vu, hvu⟩ : ∃ vu, IntKind.i64.wrap (vr + 1) = vu := ⟨_, rfl⟩
  rw [hvu]
  go_enter Tryz.func9, Tryz.ntmps9
  go_wp2_with fail
  obtain ⟨W0, hW0⟩ : ∃ W0, ((w.alloc (.cells #[.int .i64 hd, .int .i64 vr, .slice a C.length cap] 26)).alloc (.cells #[.slice (some ⟨g, o, none⟩) x.l.length cap', .int .i64 x.s, .int .i64 x.e, .string x.n] 29)).alloc (.cells #[.int .i64 0, .int .i64 0, .slice none 0 0] 26) = W0 := ⟨_, rfl⟩
  have HW0 : Hid (Below w.heap.size w W0 ∧ Blk W0 w.heap.size #[.int .i64 hd, .int .i64 vr, .slice a C.length cap] 26 ∧ Blk W0 (w.heap.size + 1) #[.slice (some ⟨g, o, none⟩) x.l.length cap', .int .i64 x.s, .int .i64 x.e, .string x.n] 29 ∧ Blk W0 (w.heap.size + 2) #[.int .i64 0, .int .i64 0, .slice none 0 0] 26 ∧ W0.heap.size = w.heap.size + 3) := by
    rw [← hW0]
    exact ⟨Alm.below3 w _ _ _, ((Blk.new _ _ _).alloc _).alloc _, (Blk.new_at (by simp)).alloc _, Blk.new_at (by simp), by simp⟩
  rw [hW0]
  clear hW0
  refine (shelve_any a cap C W0 (HR.out.1.below stays_rd HW0.out.1) hl).mono ?_
  rintro e w2 ⟨⟨Mm, Ms, rfl, ad, cp, hsh⟩, hb2⟩
  obtain ⟨sc, hsc⟩ := hsh.slots
  obtain ⟨W3, hW3⟩ : ∃ W3, w2.alloc (.cells #[.map (some Mm), .slice (some ⟨Ms, 0, none⟩) C.length C.length] 90) = W3 := ⟨_, rfl⟩
  have hb3 : Below w2.heap.size w2 W3 := by rw [← hW3]; exact Go.Joins.below_alloc1 w2 _
  have H3 : Hid (Below W0.heap.size W0 W3 ∧ Blk W3 w2.heap.size #[.map (some Mm), .slice (some ⟨Ms, 0, none⟩) C.length C.length] 90 ∧ MapG TwoK W3 Mm (shG C (fun i => chV (nthC C i) (ad i) (cp i)) C.length) ∧ SlotsK W3 Ms C C.length sc ∧ W0.heap.size ≤ w2.heap.size) := ⟨grow_on hb2 hb3, by rw [← hW3]; exact Blk.new _ _ _, hsh.map.grow hb3, hsc.grow hb3, hb2.size⟩
  have HSH : Hid ((∀ i, i < C.length → RdA W0 (ad i) (nthC C i).P) ∧ W0.heap.size ≤ Mm ∧ W0.heap.size ≤ Ms) := ⟨hsh.reads, hsh.lm, hsh.ls⟩
  have a0 : W3.cell? ⟨w.heap.size + 1, 0, none⟩ = some (.slice (some ⟨g, o, none⟩) x.l.length cap') := (HW0.out.2.2.1.grow H3.out.1).cell 0
  clear hsh hsc hb2 hb3
  go_wp2_with fail
  refine (Fing.implFinger_any _ cap' x.l W3 (HR.out.2.1.below (grow_on HW0.out.1 H3.out.1)) (by have := HR.out.2.2.2.2.1; unfold maxLen; omega) HR.out.2.2.2.2.2).mono ?_
  rintro e w4 ⟨rfl, hb4⟩
  go_upto_region 3 with fail
  obtain ⟨W5, hW5⟩ : ∃ W5, w4.alloc (.cells #[.int .i64 (fingerB x.l : Int), .int .i64 0] 94) = W5 := ⟨_, rfl⟩
  have hb5 : Below W3.heap.size W3 W5 := by rw [← hW5]; exact grow_on hb4 (Go.Joins.below_alloc1 w4 _)
  have H5 : Hid (Below W0.heap.size W0 W5 ∧ Blk W5 w2.heap.size #[.map (some Mm), .slice (some ⟨Ms, 0, none⟩) C.length C.length] 90 ∧ MapG TwoK W5 Mm (shG C (fun i => chV (nthC C i) (ad i) (cp i)) C.length) ∧ SlotsK W5 Ms C C.length sc ∧ Blk W5 w4.heap.size #[.int .i64 (fingerB x.l : Int), .int .i64 0] 94 ∧ W0.heap.size ≤ w4.heap.size) := ⟨grow_on H3.out.1 hb5, H3.out.2.1.grow hb5, H3.out.2.2.1.grow hb5, H3.out.2.2.2.1.grow hb5, by rw [← hW5]; exact Blk.new _ _ _, Nat.le_trans H3.out.1.size hb4.size⟩
  have m0 : W5.cell? ⟨w2.heap.size, 0, none⟩ = some (.map (some Mm)) := H5.out.2.1.cell 0
  have t0 : W5.cell? ⟨w4.heap.size, 0, none⟩ = some (.int .i64 (fingerB x.l : Int)) := H5.out.2.2.2.2.1.cell 0
  have t1 : W5.cell? ⟨w4.heap.size, 1, none⟩ = some (.int .i64 0) := H5.out.2.2.2.2.1.cell 1
  clear hb4 hb5 a0 hW3
  try rw [hW5]
  clear hW5
  rcases at_cases C (fingerB x.l : Int) with ⟨h0, h1, h2⟩ | ⟨k, h0, h1, hk, h3, h4⟩
  · have HLk : Hid (shG C (fun i => chV (nthC C i) (ad i) (cp i)) C.length ((fingerB x.l : Int), 0) = none) := shG_miss h2
    obtain ⟨ks, hks⟩ : ∃ ks : List (Int × Int), ks = (keysC C).take (posB C (fingerB x.l : Int)) ++ ((fingerB x.l : Int), 0) :: (keysC C).drop (posB C (fingerB x.l : Int)) := ⟨_, rfl⟩
    have hpl := plan_none h0 h2 HR.out.2.2.1 HR.out.2.2.2.2.1 hks
    have HPl : Hid (Plan C x (putC C x) ks (fingerB x.l : Int) []) := hpl.1
    have HO : Hid (Others C x ks) := hpl.2
    have HKL : Hid (ks.length = C.length + 1 ∧ C.length + 1 ≤ 1048577) := ⟨by rw [hks]; have := pos_le C (fingerB x.l : Int); simp [keys_len]; omega, by omega⟩
    have HWS : Hid (∀ z, Blk z Ms sc 94 → Calls Tryz.prog 66 #[.slice (some ⟨Ms, 0, none⟩) C.length C.length, .agg #[.int .i64 (fingerB x.l : Int), .int .i64 0]] z fun e w' => (∃ M c, e = .returned (.slice (some ⟨M, 0, none⟩) ks.length c) ∧ SlotL w' M ks) ∧ Below z.heap.size z w') := fun z hz => by
      have h := withSlot_any Ms (keysC C) ((fingerB x.l : Int), 0) sc z hz (slots_flat H5.out.2.2.2.1) (by rw [keys_len]; exact hl)
      rw [gt_posB h2, ← hks, keys_len, ← HKL.out.1] at h
      exact h
    clear h0 h1 h2 hpl hks
    obtain ⟨W6, hW6⟩ : ∃ W6, W5.alloc (.cells #[.int .i64 0, .slice none 0 0] 96) = W6 := ⟨_, rfl⟩
    have HW6 : Hid (W5.alloc (.cells #[.int .i64 0, .slice none 0 0] 96) = W6) := hW6
    have hb6 : Below W5.heap.size W5 W6 := by rw [← hW6]; exact Go.Joins.below_alloc1 W5 _
    have hB6 : Blk W6 W5.heap.size #[.int .i64 0, .slice none 0 0] 96 := by rw [← hW6]; exact Blk.new _ _ _
    obtain ⟨W7, hW7⟩ : ∃ W7, (W6.setCell ⟨W5.heap.size, 0, none⟩ (.int .i64 (fingerB x.l : Int))).setCell ⟨W5.heap.size, 1, none⟩ (.slice none 0 0) = W7 := ⟨_, rfl⟩
    have H7 : Hid (Below W5.heap.size W5 W7 ∧ Blk W7 W5.heap.size #[.int .i64 (fingerB x.l : Int), .slice none 0 0] 96) := by rw [← hW7]; exact ⟨set2 hb6 (Nat.le_refl _) _ _, (hB6.set 0 _).set 1 _⟩
    have u0 : W6.cell? ⟨W5.heap.size, 0, none⟩ = some (.int .i64 0) := hB6.cell 0
    have u1 : W6.cell? ⟨W5.heap.size, 1, none⟩ = some (.slice none 0 0) := hB6.cell 1
    have f0 := hB6.frozen 0
    have f1 := hB6.frozen 1
    have s0 : W6.cell? ⟨w4.heap.size, 0, none⟩ = some (.int .i64 (fingerB x.l : Int)) := (H5.out.2.2.2.2.1.grow hb6).cell 0
    have r0 : W7.cell? ⟨w4.heap.size, 0, none⟩ = some (.int .i64 (fingerB x.l : Int)) := (H5.out.2.2.2.2.1.grow H7.out.1).cell 0
    have r1 : W7.cell? ⟨w4.heap.size, 1, none⟩ = some (.int .i64 0) := (H5.out.2.2.2.2.1.grow H7.out.1).cell 1
    have v1 : W7.cell? ⟨w2.heap.size, 1, none⟩ = some (.slice (some ⟨Ms, 0, none⟩) C.length C.length) := (H5.out.2.1.grow H7.out.1).cell 1
    clear hb6 hB6 hW6
    go_upto_region 4 with (at_lookup; refine wp_lookup _ rfl _ _ 87 true rfl 94 96 TwoK asked_slot Tryz.underlying87 (zeroC _) Mm (shG C (fun i => chV (nthC C i) (ad i) (cp i)) C.length) rfl H5.out.2.2.1 ((fingerB x.l : Int), 0) rfl (.tuple #[.agg #[.int .i64 0, .slice none 0 0], .bool false]) (by rw [HLk.out]; rfl) ?_)
    try rw [HW6.out]
    clear HW6 m0 t0 t1
    go_wp2_with fail
    refine (HWS.out W7 (H5.out.2.2.2.1.blk.grow H7.out.1)).mono ?_
    rintro e w8 ⟨⟨Mz, cz, rfl, hsl⟩, hb8⟩
    have hB8 := (H5.out.2.1.grow H7.out.1).grow hb8
    have p1 : w8.cell? ⟨w2.heap.size, 1, none⟩ = some (.slice (some ⟨Ms, 0, none⟩) C.length C.length) := hB8.cell 1
    have pf := hB8.frozen 1
    obtain ⟨Wt, hWt⟩ : ∃ Wt, w8.setCell ⟨w2.heap.size, 1, none⟩ (.slice (some ⟨Mz, 0, none⟩) ks.length cz) = Wt := ⟨_, rfl⟩
    have HT : Hid (Below W0.heap.size W0 Wt ∧ Blk Wt W5.heap.size #[.int .i64 (fingerB x.l : Int), .slice none 0 0] 96 ∧ Blk Wt w4.heap.size #[.int .i64 (fingerB x.l : Int), .int .i64 0] 94 ∧ Blk Wt w2.heap.size #[.map (some Mm), .slice (some ⟨Mz, 0, none⟩) ks.length cz] 90 ∧ MapG TwoK Wt Mm (shG C (fun i => chV (nthC C i) (ad i) (cp i)) C.length) ∧ SlotL Wt Mz ks ∧ RdA Wt none []) := by
      rw [← hWt]
      have hc := H7.out.2.grow hb8
      have ht := (H5.out.2.2.2.2.1.grow H7.out.1).grow hb8
      have hm := (H5.out.2.2.1.grow H7.out.1).grow hb8
      exact ⟨ChnI.set_low (grow_on (grow_on H5.out.1 H7.out.1) hb8) (by have := H3.out.2.2.2.2; omega) 1 _, hc.set_other (p := ⟨w2.heap.size, 1, none⟩) (blkT_ne hB8 hc (by decide)) _, ht.set_other (p := ⟨w2.heap.size, 1, none⟩) (blkT_ne hB8 ht (by decide)) _, hB8.set 1 _, hm.set (Ne.symm (Ne.symm (hm.ne_blk hB8))), slot_kept hsl (fun h => h.set_other (p := ⟨w2.heap.size, 1, none⟩) (blkT_ne hB8 h (by decide)) _), .inl rfl⟩
    have HN : Hid (W0.heap.size ≤ W5.heap.size) := H5.out.1.size
    have HPc : Hid (([] : List PAl).length ≤ 1048576 ∧ LenM []) := ⟨by simp, fun j hj => absurd hj (by simp)⟩
    clear u0 u1 f0 f1 s0 r0 r1 v1 hsl hb8 hB8

    have HAB : Hid (Blk Wt (w.heap.size + 1) #[.slice (some ⟨g, o, none⟩) x.l.length cap', .int .i64 x.s, .int .i64 x.e, .string x.n] 29) := HW0.out.2.2.1.grow HT.out.1
    have b0 : Wt.cell? ⟨W5.heap.size, 0, none⟩ = some (.int .i64 (fingerB x.l : Int)) := HT.out.2.1.cell 0
    have b1 : Wt.cell? ⟨W5.heap.size, 1, none⟩ = some (.slice none 0 0) := HT.out.2.1.cell 1
    have a0 : Wt.cell? ⟨w.heap.size + 1, 0, none⟩ = some (.slice (some ⟨g, o, none⟩) x.l.length cap') := HAB.out.cell 0
    have a1 : Wt.cell? ⟨w.heap.size + 1, 1, none⟩ = some (.int .i64 x.s) := HAB.out.cell 1
    have a2 : Wt.cell? ⟨w.heap.size + 1, 2, none⟩ = some (.int .i64 x.e) := HAB.out.cell 2
    have a3 : Wt.cell? ⟨w.heap.size + 1, 3, none⟩ = some (.string x.n) := HAB.out.cell 3
    go_wp2_with fail
    refine (ChnP.implPut_any (fingerB x.l : Int) none 0 [] g o cap' x Wt HT.out.2.2.2.2.2.2 (HR.out.2.1.below (grow_on HW0.out.1 HT.out.1)) HPc.out.1 HPc.out.2 HR.out.2.2.2.2.1).mono ?_
    rintro e w7 ⟨⟨M1, c1, rs1, rfl, hA, hp⟩, hb7⟩
    obtain ⟨W8, hW8⟩ : ∃ W8, (w7.setCell ⟨W5.heap.size, 0, none⟩ (.int .i64 (fingerB x.l : Int))).setCell ⟨W5.heap.size, 1, none⟩ (.slice (some ⟨M1, 0, none⟩) rs1.length c1) = W8 := ⟨_, rfl⟩
    have hB7 := HT.out.2.1.grow hb7
    have H8 : Hid (Below W0.heap.size W0 W8 ∧ Blk W8 W5.heap.size #[.int .i64 (fingerB x.l : Int), .slice (some ⟨M1, 0, none⟩) rs1.length c1] 96 ∧ Blk W8 w4.heap.size #[.int .i64 (fingerB x.l : Int), .int .i64 0] 94 ∧ Blk W8 w2.heap.size #[.map (some Mm), .slice (some ⟨Mz, 0, none⟩) ks.length cz] 90 ∧ MapG TwoK W8 Mm (shG C (fun i => chV (nthC C i) (ad i) (cp i)) C.length) ∧ SlotL W8 Mz ks ∧ AB Wt.heap.size W8 M1 c1 rs1) := by
      rw [← hW8]
      have n1 := blkT_ne hB7 (HT.out.2.2.1.grow hb7) (by decide)
      have n2 := blkT_ne hB7 (HT.out.2.2.2.1.grow hb7) (by decide)
      have n3 := (HT.out.2.2.2.2.1.grow hb7).ne_blk hB7
      exact ⟨set2 (grow_on HT.out.1 hb7) HN.out _ _, (hB7.set 0 _).set 1 _, ((HT.out.2.2.1.grow hb7).set_other (p := ⟨W5.heap.size, 0, none⟩) n1 _).set_other (p := ⟨W5.heap.size, 1, none⟩) n1 _, ((HT.out.2.2.2.1.grow hb7).set_other (p := ⟨W5.heap.size, 0, none⟩) n2 _).set_other (p := ⟨W5.heap.size, 1, none⟩) n2 _, ((HT.out.2.2.2.2.1.grow hb7).set n3).set n3, slot_kept (HT.out.2.2.2.2.2.1.grow hb7) (fun h => (h.set_other (p := ⟨W5.heap.size, 0, none⟩) (blkT_ne hB7 h (by decide)) _).set_other (p := ⟨W5.heap.size, 1, none⟩) (blkT_ne hB7 h (by decide)) _), ab_set2 hA hB7 _ _⟩
    have HL1 : Hid (rs1.length = (putL [] x).length ∧ pals rs1 = putL [] x) := ⟨by rw [← pals_len, hp], hp⟩
    have x0 : w7.cell? ⟨W5.heap.size, 0, none⟩ = some (.int .i64 (fingerB x.l : Int)) := hB7.cell 0
    have x1 : w7.cell? ⟨W5.heap.size, 1, none⟩ = some (.slice none 0 0) := hB7.cell 1
    have f0 := hB7.frozen 0
    have f1 := hB7.frozen 1
    have y0 : W8.cell? ⟨W5.heap.size, 0, none⟩ = some (.int .i64 (fingerB x.l : Int)) := H8.out.2.1.cell 0
    have y1 : W8.cell? ⟨W5.heap.size, 1, none⟩ = some (.slice (some ⟨M1, 0, none⟩) rs1.length c1) := H8.out.2.1.cell 1
    have k0 : W8.cell? ⟨w4.heap.size, 0, none⟩ = some (.int .i64 (fingerB x.l : Int)) := H8.out.2.2.1.cell 0
    have k1 : W8.cell? ⟨w4.heap.size, 1, none⟩ = some (.int .i64 0) := H8.out.2.2.1.cell 1
    have m1 : W8.cell? ⟨w2.heap.size, 0, none⟩ = some (.map (some Mm)) := H8.out.2.2.2.1.cell 0
    clear hA hp hb7 hB7 b0 b1 a0 a1 a2 a3
    go_wp2_with (at_mapUpdate; refine wp_update _ rfl _ _ _ 87 rfl 94 96 TwoK asked_slot Tryz.underlying87 Mm (shG C (fun i => chV (nthC C i) (ad i) (cp i)) C.length) rfl H8.out.2.2.2.2.1 ((fingerB x.l : Int), 0) (.agg #[.int .i64 (fingerB x.l : Int), .slice (some ⟨M1, 0, none⟩) rs1.length c1]) rfl rfl ?_)
    intro w9 hm9 hg9 hs9
    have hmp := H8.out.2.2.2.2.1
    have H9 : Hid (Below W0.heap.size W0 w9 ∧ Blk w9 w2.heap.size #[.map (some Mm), .slice (some ⟨Mz, 0, none⟩) ks.length cz] 90 ∧ MapG TwoK w9 Mm (updG (shG C (fun i => chV (nthC C i) (ad i) (cp i)) C.length) ((fingerB x.l : Int), 0) (some (.agg #[.int .i64 (fingerB x.l : Int), .slice (some ⟨M1, 0, none⟩) rs1.length c1]))) ∧ SlotL w9 Mz ks ∧ AB Wt.heap.size w9 M1 c1 rs1 ∧ Blk w9 w.heap.size #[.int .i64 hd, .int .i64 vr, .slice a C.length cap] 26 ∧ Blk w9 (w.heap.size + 2) #[.int .i64 0, .int .i64 0, .slice none 0 0] 26) := by
      have hb9 := mapDown H8.out.1 hg9 (Nat.le_refl _) HSH.out.2.1
      exact ⟨hb9, blk_map H8.out.2.2.2.1 hmp hg9, hm9, slot_kept H8.out.2.2.2.2.2.1 (fun h => blk_map h hmp hg9), Chs.ab_moved H8.out.2.2.2.2.2.2 (moved_map hmp hg9), HW0.out.2.1.grow hb9, HW0.out.2.2.2.1.grow hb9⟩
    clear hm9 hg9 hs9 hmp x0 x1 f0 f1 y0 y1 k0 k1 m1 hW8
    have HLA : Hid (∀ z, Below w9.heap.size w9 z → Calls Tryz.prog 68 #[.agg #[.map (some Mm), .slice (some ⟨Mz, 0, none⟩) ks.length cz]] z fun e w' => (∃ M c cs, e = .returned (.slice (some ⟨M, 0, none⟩) cs.length c) ∧ CB z.heap.size w' M c cs ∧ chs cs = putC C x) ∧ Below z.heap.size z w') := fun z hz => by
      have hln := HPl.out.len
      have h := laid_any Mm Mz cz _ ks ((putC C x).map some) z (H9.out.2.2.1.grow hz) (H9.out.2.2.2.1.grow hz) (by rw [List.length_map, hln]) (fun i hi => by
        rw [somes_nth (by omega)]
        by_cases e : nthK ks i = ((fingerB x.l : Int), 0)
        · rw [e, upd_at, HPl.out.here i (by omega) e]
          refine ⟨some ⟨M1, 0, none⟩, c1, by rw [HL1.out.1], ?_⟩
          have hrd := (H9.out.2.2.2.2.1.grow hz).rd.rd
          rw [HL1.out.2] at hrd
          exact hrd
        · rw [upd_no e]
          obtain ⟨j, hj, h1, h2⟩ := HO.out i hi e
          rw [h1, h2]
          exact ent_other (HSH.out.1 j hj) (grow_on H9.out.1 hz) (shG_at hj)) (by have := HKL.out.1; have := HKL.out.2; omega) (fun i y hi hv => by
        rw [somes_nth (by omega)] at hv
        cases hv
        exact HPl.out.lens i (by omega))
      have e : laidTo ((putC C x).map some) ks.length = putC C x := by have := laid_somes (putC C x); rw [List.length_map] at this; rw [hln]; exact this
      rw [e] at h
      exact h
    have HNW : Hid (isNew [] x.l = newC C x) := HPl.out.new
    go_upto_region 9 with fail
    have HS : Hid (∀ w', Blk w' w.heap.size #[.int .i64 hd, .int .i64 vr, .slice a C.length cap] 26 → Blk w' w2.heap.size #[.map (some Mm), .slice (some ⟨Mz, 0, none⟩) ks.length cz] 90 → w'.cell? ⟨w.heap.size, 0, none⟩ = some (.int .i64 hd) ∧ w'.cell? ⟨w.heap.size, 1, none⟩ = some (.int .i64 vr) ∧ w'.cell? ⟨w2.heap.size, 0, none⟩ = some (.map (some Mm)) ∧ w'.cell? ⟨w2.heap.size, 1, none⟩ = some (.slice (some ⟨Mz, 0, none⟩) ks.length cz)) := fun w' h k => ⟨h.cell 0, h.cell 1, k.cell 0, k.cell 1⟩
    refine wp_region_held_drew (S := fun w' => w'.cell? ⟨w.heap.size, 0, none⟩ = some (.int .i64 hd) ∧ w'.cell? ⟨w.heap.size, 1, none⟩ = some (.int .i64 vr) ∧ w'.cell? ⟨w2.heap.size, 0, none⟩ = some (.map (some Mm)) ∧ w'.cell? ⟨w2.heap.size, 1, none⟩ = some (.slice (some ⟨Mz, 0, none⟩) ks.length cz)) (by kernel_rfl) (HS.out _ H9.out.2.2.2.2.2.1.drew H9.out.2.1.drew) (fun hHeld => ?_)
    refine wpAnyH_take (i := 0) (oi := { dst := some 45, op := Op.fieldAddr 26 (Operand.tmp 2) 0, type := 0, pos := "l07_part.go:104", after := #[], guard := none }) (v := ?vy1) rfl (by kernel_rfl) (by kernel_rfl) (by kernel_rfl) (fun _ _ _ h => h) (Or.inl ⟨by rfl, ?hyy1⟩) hHeld ?_
    case hyy1 => (intro w hSw; (try dsimp only at hSw); go_simp <;> with_reducible rfl)
    try simp only [Act.put, List.setIfInBounds_toArray, List.set_cons_zero, List.set_cons_succ]
    refine wpAnyH_take (i := 1) (oi := { dst := some 46, op := Op.load 3 (Operand.tmp 45), type := 3, pos := "l07_part.go:104", after := #[{ on := 0, ground := Ground.data }], guard := none }) (v := ?vy2) rfl (by kernel_rfl) (by kernel_rfl) (by kernel_rfl) (fun _ _ _ h => h) (Or.inl ⟨by rfl, ?hyy2⟩) hHeld ?_
    case hyy2 => (intro w hSw; (try dsimp only at hSw); go_simp <;> with_reducible rfl)
    try simp only [Act.put, List.setIfInBounds_toArray, List.set_cons_zero, List.set_cons_succ]
    refine wpAnyH_take (i := 2) (oi := { dst := some 47, op := Op.fieldAddr 26 (Operand.tmp 2) 1, type := 0, pos := "l07_part.go:104", after := #[], guard := none }) (v := ?vy3) rfl (by kernel_rfl) (by kernel_rfl) (by kernel_rfl) (fun _ _ _ h => h) (Or.inl ⟨by rfl, ?hyy3⟩) hHeld ?_
    case hyy3 => (intro w hSw; (try dsimp only at hSw); go_simp <;> with_reducible rfl)
    try simp only [Act.put, List.setIfInBounds_toArray, List.set_cons_zero, List.set_cons_succ]
    refine wpAnyH_take (i := 3) (oi := { dst := some 48, op := Op.load 3 (Operand.tmp 47), type := 3, pos := "l07_part.go:104", after := #[{ on := 2, ground := Ground.data }], guard := none }) (v := ?vy4) rfl (by kernel_rfl) (by kernel_rfl) (by kernel_rfl) (fun _ _ _ h => h) (Or.inl ⟨by rfl, ?hyy4⟩) hHeld ?_
    case hyy4 => (intro w hSw; (try dsimp only at hSw); go_simp <;> with_reducible rfl)
    try simp only [Act.put, List.setIfInBounds_toArray, List.set_cons_zero, List.set_cons_succ]
    refine wpAnyH_take (i := 4) (oi := { dst := some 49, op := Op.binOp BinOp.add 3 (Operand.tmp 48) (Operand.const (Value.int IntKind.i64 1)) 3, type := 3, pos := "l07_part.go:104", after := #[{ on := 3, ground := Ground.data }], guard := none }) (v := ?vy5) rfl (by kernel_rfl) (by kernel_rfl) (by kernel_rfl) (fun _ _ _ h => h) (Or.inl ⟨by rfl, ?hyy5⟩) hHeld ?_
    case hyy5 => (intro w hSw; (try dsimp only at hSw); go_simp <;> with_reducible rfl)
    try simp only [Act.put, List.setIfInBounds_toArray, List.set_cons_zero, List.set_cons_succ]
    refine wpAnyH_take (i := 5) (oi := { dst := some 50, op := Op.load 90 (Operand.tmp 6), type := 90, pos := "l07_part.go:104", after := #[], guard := none }) (v := ?vy6) rfl (by kernel_rfl) (by kernel_rfl) (by kernel_rfl) (fun _ _ _ h => h) (Or.inl ⟨by rfl, ?hyy6⟩) hHeld ?_
    case hyy6 => (intro w hSw; (try dsimp only at hSw); go_simp <;> with_reducible rfl)
    try simp only [Act.put, List.setIfInBounds_toArray, List.set_cons_zero, List.set_cons_succ]
    refine wpAnyH_take (i := 8) (oi := { dst := some 53, op := Op.move (Operand.tmp 10), type := 4, pos := "l07_part.go:104", after := #[{ on := 9, ground := Ground.gcOnly Departure.lateStores }], guard := none }) (v := ?vy7) rfl (by kernel_rfl) (by kernel_rfl) (by kernel_rfl) (fun _ _ _ h => h) (Or.inl ⟨by rfl, ?hyy7⟩) hHeld ?_
    case hyy7 => (intro w hSw; (try dsimp only at hSw); go_simp <;> with_reducible rfl)
    try simp only [Act.put, List.setIfInBounds_toArray, List.set_cons_zero, List.set_cons_succ]
    refine wpAnyH_ready (rs := [6]) (by kernel_rfl) (by simp) ?_
    refine AllReadyH.cons (o := { dst := some 51, op := Op.call { callee := Callee.value (Operand.func 68), args := #[Operand.tmp 50], argTypes := #[90] }, type := 24, pos := "l07_part.go:104", after := #[{ on := 5, ground := Ground.data }], guard := none }) rfl (fun K hK => ?_) AllReadyH.nil
    go_simp
    refine (HLA.out _ (Below.refl w9.heap.size w9).drew).mono ?_
    rintro r wa ⟨⟨OM, Oc, Oz, rfl, hA, hP⟩, hy⟩
    have ZA : Hid (Below w9.heap.size w9 wa) := grow_on (Below.refl w9.heap.size w9).drew hy
    have OA : Hid (CB w9.heap.size wa OM Oc Oz ∧ chs Oz = putC C x) := ⟨hA, hP⟩
    clear hA hP hy
    clear hHeld
    refine hK.out _ _ (HS.out _ (H9.out.2.2.2.2.2.1.grow ZA.out) (H9.out.2.1.grow ZA.out)) (fun hHeld => ?_)
    clear hK K
    try simp only [Act.put, List.setIfInBounds_toArray, List.set_cons_zero, List.set_cons_succ]
    refine wpAnyH_take (i := 7) (oi := { dst := some 52, op := Op.build 26 #[(0, Operand.tmp 46), (1, Operand.tmp 49), (2, Operand.tmp 51)], type := 26, pos := "l07_part.go:104", after := #[{ on := 1, ground := Ground.data }, { on := 4, ground := Ground.data }, { on := 6, ground := Ground.data }], guard := none }) (v := ?vy9) rfl (by kernel_rfl) (by kernel_rfl) (by kernel_rfl) (fun _ _ _ h => h) (Or.inl ⟨by rfl, ?hyy9⟩) hHeld ?_
    case hyy9 => (intro w hSw; (try dsimp only at hSw); go_simp <;> with_reducible rfl)
    try simp only [Act.put, List.setIfInBounds_toArray, List.set_cons_zero, List.set_cons_succ]
    refine wpAnyH_ready (rs := [9]) (by kernel_rfl) (by simp) ?_
    refine AllReadyH.cons (o := { dst := none, op := Op.store 26 (Operand.tmp 4) (Operand.tmp 52), type := 0, pos := "l07_part.go:104", after := #[{ on := 7, ground := Ground.data }, { on := 6, ground := Ground.chain }, { on := 0, ground := Ground.phase }, { on := 1, ground := Ground.phase }, { on := 2, ground := Ground.phase }, { on := 3, ground := Ground.phase }, { on := 4, ground := Ground.phase }, { on := 5, ground := Ground.phase }, { on := 6, ground := Ground.phase }, { on := 7, ground := Ground.phase }, { on := 8, ground := Ground.textOnly Departure.lateStores }], guard := none }) rfl (fun K hK => ?_) AllReadyH.nil
    have hrb : Blk wa (w.heap.size + 2) #[.int .i64 0, .int .i64 0, .slice none 0 0] 26 := H9.out.2.2.2.2.2.2.grow ZA.out
    have n0 : wa.cell? ⟨w.heap.size + 2, 0, none⟩ = some (.int .i64 0) := hrb.cell 0
    have n1 : wa.cell? ⟨w.heap.size + 2, 1, none⟩ = some (.int .i64 0) := hrb.cell 1
    have n2 : wa.cell? ⟨w.heap.size + 2, 2, none⟩ = some (.slice none 0 0) := hrb.cell 2
    have m0 := hrb.frozen 0
    have m1 := hrb.frozen 1
    have m2 := hrb.frozen 2
    go_simp
    clear n0 n1 n2 m0 m1 m2 hHeld
    have q1 : w.heap.size + 2 ≠ w.heap.size := by omega
    have q2 : w.heap.size + 2 ≠ w2.heap.size := blkT_ne hrb (H9.out.2.1.grow ZA.out) (by decide)
    refine hK.out _ _ (HS.out _ ((((H9.out.2.2.2.2.2.1.grow ZA.out).set_other (p := ⟨w.heap.size + 2, 0, none⟩) q1 _).set_other (p := ⟨w.heap.size + 2, 1, none⟩) q1 _).set_other (p := ⟨w.heap.size + 2, 2, none⟩) q1 _) ((((H9.out.2.1.grow ZA.out).set_other (p := ⟨w.heap.size + 2, 0, none⟩) q2 _).set_other (p := ⟨w.heap.size + 2, 1, none⟩) q2 _).set_other (p := ⟨w.heap.size + 2, 2, none⟩) q2 _)) (fun hHeld => ?_)
    clear hK K q1 q2 hrb
    try simp only [Act.put, List.setIfInBounds_toArray, List.set_cons_zero, List.set_cons_succ]
    refine wpAnyH_take (i := 10) (oi := { dst := some 5, op := Op.assign (Operand.tmp 53), type := 4, pos := "l07_part.go:104", after := #[{ on := 8, ground := Ground.data }, { on := 9, ground := Ground.chain }, { on := 0, ground := Ground.phase }, { on := 1, ground := Ground.phase }, { on := 2, ground := Ground.phase }, { on := 3, ground := Ground.phase }, { on := 4, ground := Ground.phase }, { on := 5, ground := Ground.phase }, { on := 6, ground := Ground.phase }, { on := 7, ground := Ground.phase }, { on := 8, ground := Ground.phase }, { on := 9, ground := Ground.phase }], guard := none }) (v := ?vy11) rfl (by kernel_rfl) (by kernel_rfl) (by kernel_rfl) (fun _ _ _ h => h) (Or.inl ⟨by rfl, ?hyy11⟩) hHeld ?_
    case hyy11 => (intro w hSw; (try dsimp only at hSw); go_simp <;> with_reducible rfl)
    try simp only [Act.put, List.setIfInBounds_toArray, List.set_cons_zero, List.set_cons_succ]
    refine wpAnyH_done (by kernel_rfl) ?_ _
    go_wp2
    have hrb : Blk wa (w.heap.size + 2) #[.int .i64 0, .int .i64 0, .slice none 0 0] 26 := H9.out.2.2.2.2.2.2.grow ZA.out
    have hs := put3 hrb (.int .i64 hd) (.int .i64 vu) (.slice (some ⟨OM, 0, none⟩) Oz.length Oc)
    have s0 := hs.cell 0
    have s1 := hs.cell 1
    have s2 := hs.cell 2
    refine bodyPost_ret (v := .tuple #[.agg #[.int .i64 hd, .int .i64 vu, .slice (some ⟨OM, 0, none⟩) Oz.length Oc], .bool (isNew [] x.l)]) (by simp [results, Tryz.results9, go_sem, s0, s1, s2]) rfl ?_
    rw [HNW.out]
    refine ⟨⟨OM, Oc, Oz, ?_, (CB.set3 OA.out.1 hrb _ _ _).down (grow_on HW0.out.1 H9.out.1).size, OA.out.2⟩, set3 (grow_on (grow_on HW0.out.1 H9.out.1) ZA.out) (by omega) _ _ _⟩
    rfl
  · have HLk : Hid (shG C (fun i => chV (nthC C i) (ad i) (cp i)) C.length ((fingerB x.l : Int), 0) = some (chV (nthC C k) (ad k) (cp k))) := shG_first hk h3 h4
    have hck : (nthC C k).P.length + 1 ≤ 1048576 := by
      have h := HR.out.2.2.2.1
      have := sumC_nth hk
      omega
    have hpl := plan_some h0 hk h3 h4 HR.out.2.2.1 HR.out.2.2.2.2.1 hck
    obtain ⟨ks, hks⟩ : ∃ ks, keysC C = ks := ⟨_, rfl⟩
    have HKL : Hid (ks.length = C.length ∧ C.length ≤ 1048577) := ⟨by rw [← hks, keys_len], by omega⟩
    obtain ⟨Wt, hWt⟩ : ∃ Wt, W5.alloc (.cells #[.int .i64 (nthC C k).f, .slice (ad k) (nthC C k).P.length (cp k)] 96) = Wt := ⟨_, rfl⟩
    have hb6 : Below W5.heap.size W5 Wt := by rw [← hWt]; exact Go.Joins.below_alloc1 W5 _
    have hB6 : Blk Wt W5.heap.size #[.int .i64 (nthC C k).f, .slice (ad k) (nthC C k).P.length (cp k)] 96 := by rw [← hWt]; exact Blk.new _ _ _
    have hbW := grow_on H5.out.1 hb6
    have HWt : Hid (W5.alloc (.cells #[.int .i64 (nthC C k).f, .slice (ad k) (nthC C k).P.length (cp k)] 96) = Wt) := hWt
    have HT : Hid (Below W0.heap.size W0 Wt ∧ Blk Wt W5.heap.size #[.int .i64 (nthC C k).f, .slice (ad k) (nthC C k).P.length (cp k)] 96 ∧ Blk Wt w4.heap.size #[.int .i64 (fingerB x.l : Int), .int .i64 0] 94 ∧ Blk Wt w2.heap.size #[.map (some Mm), .slice (some ⟨Ms, 0, none⟩) C.length C.length] 90 ∧ MapG TwoK Wt Mm (shG C (fun i => chV (nthC C i) (ad i) (cp i)) C.length) ∧ SlotL Wt Ms ks ∧ RdA Wt (ad k) (nthC C k).P) := by
      refine ⟨hbW, hB6, H5.out.2.2.2.2.1.grow hb6, H5.out.2.1.grow hb6, H5.out.2.2.1.grow hb6, ?_, (HSH.out.1 k hk).below hbW⟩
      rw [← hks]; exact slot_of (r := []) (H5.out.2.2.2.1.blk.grow hb6) (by rw [slots_flat H5.out.2.2.2.1]; simp)
    have HPc : Hid ((nthC C k).P.length ≤ 1048576 ∧ LenM (nthC C k).P) := HR.out.2.2.1 _ (nthC_mem' hk)
    have HN : Hid (W0.heap.size ≤ W5.heap.size) := H5.out.1.size
    rw [hks] at hpl
    have HPl : Hid (Plan C x (putC C x) ks (nthC C k).f (nthC C k).P) := hpl.1
    have HO : Hid (Others C x ks) := hpl.2
    clear hks h0 h1 h3 h4 hb6 hB6 hbW hck hpl hWt
    go_upto_region 4 with (at_lookup; refine wp_lookup _ rfl _ _ 87 true rfl 94 96 TwoK asked_slot Tryz.underlying87 (zeroC _) Mm (shG C (fun i => chV (nthC C i) (ad i) (cp i)) C.length) rfl H5.out.2.2.1 ((fingerB x.l : Int), 0) rfl (.tuple #[.agg #[.int .i64 (nthC C k).f, .slice (ad k) (nthC C k).P.length (cp k)], .bool true]) (by rw [HLk.out]; rfl) ?_)
    try rw [HWt.out]
    clear HWt m0 t0 t1
    have HAB : Hid (Blk Wt (w.heap.size + 1) #[.slice (some ⟨g, o, none⟩) x.l.length cap', .int .i64 x.s, .int .i64 x.e, .string x.n] 29) := HW0.out.2.2.1.grow HT.out.1
    have b0 : Wt.cell? ⟨W5.heap.size, 0, none⟩ = some (.int .i64 (nthC C k).f) := HT.out.2.1.cell 0
    have b1 : Wt.cell? ⟨W5.heap.size, 1, none⟩ = some (.slice (ad k) (nthC C k).P.length (cp k)) := HT.out.2.1.cell 1
    have a0 : Wt.cell? ⟨w.heap.size + 1, 0, none⟩ = some (.slice (some ⟨g, o, none⟩) x.l.length cap') := HAB.out.cell 0
    have a1 : Wt.cell? ⟨w.heap.size + 1, 1, none⟩ = some (.int .i64 x.s) := HAB.out.cell 1
    have a2 : Wt.cell? ⟨w.heap.size + 1, 2, none⟩ = some (.int .i64 x.e) := HAB.out.cell 2
    have a3 : Wt.cell? ⟨w.heap.size + 1, 3, none⟩ = some (.string x.n) := HAB.out.cell 3
    go_wp2_with fail
    refine (ChnP.implPut_any (nthC C k).f (ad k) (cp k) (nthC C k).P g o cap' x Wt HT.out.2.2.2.2.2.2 (HR.out.2.1.below (grow_on HW0.out.1 HT.out.1)) HPc.out.1 HPc.out.2 HR.out.2.2.2.2.1).mono ?_
    rintro e w7 ⟨⟨M1, c1, rs1, rfl, hA, hp⟩, hb7⟩
    obtain ⟨W8, hW8⟩ : ∃ W8, (w7.setCell ⟨W5.heap.size, 0, none⟩ (.int .i64 (nthC C k).f)).setCell ⟨W5.heap.size, 1, none⟩ (.slice (some ⟨M1, 0, none⟩) rs1.length c1) = W8 := ⟨_, rfl⟩
    have hB7 := HT.out.2.1.grow hb7
    have H8 : Hid (Below W0.heap.size W0 W8 ∧ Blk W8 W5.heap.size #[.int .i64 (nthC C k).f, .slice (some ⟨M1, 0, none⟩) rs1.length c1] 96 ∧ Blk W8 w4.heap.size #[.int .i64 (fingerB x.l : Int), .int .i64 0] 94 ∧ Blk W8 w2.heap.size #[.map (some Mm), .slice (some ⟨Ms, 0, none⟩) C.length C.length] 90 ∧ MapG TwoK W8 Mm (shG C (fun i => chV (nthC C i) (ad i) (cp i)) C.length) ∧ SlotL W8 Ms ks ∧ AB Wt.heap.size W8 M1 c1 rs1) := by
      rw [← hW8]
      have n1 := blkT_ne hB7 (HT.out.2.2.1.grow hb7) (by decide)
      have n2 := blkT_ne hB7 (HT.out.2.2.2.1.grow hb7) (by decide)
      have n3 := (HT.out.2.2.2.2.1.grow hb7).ne_blk hB7
      exact ⟨set2 (grow_on HT.out.1 hb7) HN.out _ _, (hB7.set 0 _).set 1 _, ((HT.out.2.2.1.grow hb7).set_other (p := ⟨W5.heap.size, 0, none⟩) n1 _).set_other (p := ⟨W5.heap.size, 1, none⟩) n1 _, ((HT.out.2.2.2.1.grow hb7).set_other (p := ⟨W5.heap.size, 0, none⟩) n2 _).set_other (p := ⟨W5.heap.size, 1, none⟩) n2 _, ((HT.out.2.2.2.2.1.grow hb7).set n3).set n3, slot_kept (HT.out.2.2.2.2.2.1.grow hb7) (fun h => (h.set_other (p := ⟨W5.heap.size, 0, none⟩) (blkT_ne hB7 h (by decide)) _).set_other (p := ⟨W5.heap.size, 1, none⟩) (blkT_ne hB7 h (by decide)) _), ab_set2 hA hB7 _ _⟩
    have HL1 : Hid (rs1.length = (putL (nthC C k).P x).length ∧ pals rs1 = putL (nthC C k).P x) := ⟨by rw [← pals_len, hp], hp⟩
    have x0 : w7.cell? ⟨W5.heap.size, 0, none⟩ = some (.int .i64 (nthC C k).f) := hB7.cell 0
    have x1 : w7.cell? ⟨W5.heap.size, 1, none⟩ = some (.slice (ad k) (nthC C k).P.length (cp k)) := hB7.cell 1
    have f0 := hB7.frozen 0
    have f1 := hB7.frozen 1
    have y0 : W8.cell? ⟨W5.heap.size, 0, none⟩ = some (.int .i64 (nthC C k).f) := H8.out.2.1.cell 0
    have y1 : W8.cell? ⟨W5.heap.size, 1, none⟩ = some (.slice (some ⟨M1, 0, none⟩) rs1.length c1) := H8.out.2.1.cell 1
    have k0 : W8.cell? ⟨w4.heap.size, 0, none⟩ = some (.int .i64 (fingerB x.l : Int)) := H8.out.2.2.1.cell 0
    have k1 : W8.cell? ⟨w4.heap.size, 1, none⟩ = some (.int .i64 0) := H8.out.2.2.1.cell 1
    have m1 : W8.cell? ⟨w2.heap.size, 0, none⟩ = some (.map (some Mm)) := H8.out.2.2.2.1.cell 0
    clear hA hp hb7 hB7 b0 b1 a0 a1 a2 a3
    go_wp2_with (at_mapUpdate; refine wp_update _ rfl _ _ _ 87 rfl 94 96 TwoK asked_slot Tryz.underlying87 Mm (shG C (fun i => chV (nthC C i) (ad i) (cp i)) C.length) rfl H8.out.2.2.2.2.1 ((fingerB x.l : Int), 0) (.agg #[.int .i64 (nthC C k).f, .slice (some ⟨M1, 0, none⟩) rs1.length c1]) rfl rfl ?_)
    intro w9 hm9 hg9 hs9
    have hmp := H8.out.2.2.2.2.1
    have H9 : Hid (Below W0.heap.size W0 w9 ∧ Blk w9 w2.heap.size #[.map (some Mm), .slice (some ⟨Ms, 0, none⟩) C.length C.length] 90 ∧ MapG TwoK w9 Mm (updG (shG C (fun i => chV (nthC C i) (ad i) (cp i)) C.length) ((fingerB x.l : Int), 0) (some (.agg #[.int .i64 (nthC C k).f, .slice (some ⟨M1, 0, none⟩) rs1.length c1]))) ∧ SlotL w9 Ms ks ∧ AB Wt.heap.size w9 M1 c1 rs1 ∧ Blk w9 w.heap.size #[.int .i64 hd, .int .i64 vr, .slice a C.length cap] 26 ∧ Blk w9 (w.heap.size + 2) #[.int .i64 0, .int .i64 0, .slice none 0 0] 26) := by
      have hb9 := mapDown H8.out.1 hg9 (Nat.le_refl _) HSH.out.2.1
      exact ⟨hb9, blk_map H8.out.2.2.2.1 hmp hg9, hm9, slot_kept H8.out.2.2.2.2.2.1 (fun h => blk_map h hmp hg9), Chs.ab_moved H8.out.2.2.2.2.2.2 (moved_map hmp hg9), HW0.out.2.1.grow hb9, HW0.out.2.2.2.1.grow hb9⟩
    clear hm9 hg9 hs9 hmp x0 x1 f0 f1 y0 y1 k0 k1 m1 hW8
    have HLA : Hid (∀ z, Below w9.heap.size w9 z → Calls Tryz.prog 68 #[.agg #[.map (some Mm), .slice (some ⟨Ms, 0, none⟩) C.length C.length]] z fun e w' => (∃ M c cs, e = .returned (.slice (some ⟨M, 0, none⟩) cs.length c) ∧ CB z.heap.size w' M c cs ∧ chs cs = putC C x) ∧ Below z.heap.size z w') := fun z hz => by
      have hln := HPl.out.len
      have h := laid_any Mm Ms C.length _ ks ((putC C x).map some) z (H9.out.2.2.1.grow hz) (H9.out.2.2.2.1.grow hz) (by rw [List.length_map, hln]) (fun i hi => by
        rw [somes_nth (by omega)]
        by_cases e : nthK ks i = ((fingerB x.l : Int), 0)
        · rw [e, upd_at, HPl.out.here i (by omega) e]
          refine ⟨some ⟨M1, 0, none⟩, c1, by rw [HL1.out.1], ?_⟩
          have hrd := (H9.out.2.2.2.2.1.grow hz).rd.rd
          rw [HL1.out.2] at hrd
          exact hrd
        · rw [upd_no e]
          obtain ⟨j, hj, h1, h2⟩ := HO.out i hi e
          rw [h1, h2]
          exact ent_other (HSH.out.1 j hj) (grow_on H9.out.1 hz) (shG_at hj)) (by have := HKL.out.1; have := HKL.out.2; omega) (fun i y hi hv => by
        rw [somes_nth (by omega)] at hv
        cases hv
        exact HPl.out.lens i (by omega))
      have e : laidTo ((putC C x).map some) ks.length = putC C x := by have := laid_somes (putC C x); rw [List.length_map] at this; rw [hln]; exact this
      rw [e, HKL.out.1] at h
      exact h
    have HNW : Hid (isNew (nthC C k).P x.l = newC C x) := HPl.out.new
    go_upto_region 9 with fail
    have HS : Hid (∀ w', Blk w' w.heap.size #[.int .i64 hd, .int .i64 vr, .slice a C.length cap] 26 → Blk w' w2.heap.size #[.map (some Mm), .slice (some ⟨Ms, 0, none⟩) C.length C.length] 90 → w'.cell? ⟨w.heap.size, 0, none⟩ = some (.int .i64 hd) ∧ w'.cell? ⟨w.heap.size, 1, none⟩ = some (.int .i64 vr) ∧ w'.cell? ⟨w2.heap.size, 0, none⟩ = some (.map (some Mm)) ∧ w'.cell? ⟨w2.heap.size, 1, none⟩ = some (.slice (some ⟨Ms, 0, none⟩) C.length C.length)) := fun w' h k => ⟨h.cell 0, h.cell 1, k.cell 0, k.cell 1⟩
    refine wp_region_held_drew (S := fun w' => w'.cell? ⟨w.heap.size, 0, none⟩ = some (.int .i64 hd) ∧ w'.cell? ⟨w.heap.size, 1, none⟩ = some (.int .i64 vr) ∧ w'.cell? ⟨w2.heap.size, 0, none⟩ = some (.map (some Mm)) ∧ w'.cell? ⟨w2.heap.size, 1, none⟩ = some (.slice (some ⟨Ms, 0, none⟩) C.length C.length)) (by kernel_rfl) (HS.out _ H9.out.2.2.2.2.2.1.drew H9.out.2.1.drew) (fun hHeld => ?_)
    refine wpAnyH_take (i := 0) (oi := { dst := some 45, op := Op.fieldAddr 26 (Operand.tmp 2) 0, type := 0, pos := "l07_part.go:104", after := #[], guard := none }) (v := ?vz1) rfl (by kernel_rfl) (by kernel_rfl) (by kernel_rfl) (fun _ _ _ h => h) (Or.inl ⟨by rfl, ?hyz1⟩) hHeld ?_
    case hyz1 => (intro w hSw; (try dsimp only at hSw); go_simp <;> with_reducible rfl)
    try simp only [Act.put, List.setIfInBounds_toArray, List.set_cons_zero, List.set_cons_succ]
    refine wpAnyH_take (i := 1) (oi := { dst := some 46, op := Op.load 3 (Operand.tmp 45), type := 3, pos := "l07_part.go:104", after := #[{ on := 0, ground := Ground.data }], guard := none }) (v := ?vz2) rfl (by kernel_rfl) (by kernel_rfl) (by kernel_rfl) (fun _ _ _ h => h) (Or.inl ⟨by rfl, ?hyz2⟩) hHeld ?_
    case hyz2 => (intro w hSw; (try dsimp only at hSw); go_simp <;> with_reducible rfl)
    try simp only [Act.put, List.setIfInBounds_toArray, List.set_cons_zero, List.set_cons_succ]
    refine wpAnyH_take (i := 2) (oi := { dst := some 47, op := Op.fieldAddr 26 (Operand.tmp 2) 1, type := 0, pos := "l07_part.go:104", after := #[], guard := none }) (v := ?vz3) rfl (by kernel_rfl) (by kernel_rfl) (by kernel_rfl) (fun _ _ _ h => h) (Or.inl ⟨by rfl, ?hyz3⟩) hHeld ?_
    case hyz3 => (intro w hSw; (try dsimp only at hSw); go_simp <;> with_reducible rfl)
    try simp only [Act.put, List.setIfInBounds_toArray, List.set_cons_zero, List.set_cons_succ]
    refine wpAnyH_take (i := 3) (oi := { dst := some 48, op := Op.load 3 (Operand.tmp 47), type := 3, pos := "l07_part.go:104", after := #[{ on := 2, ground := Ground.data }], guard := none }) (v := ?vz4) rfl (by kernel_rfl) (by kernel_rfl) (by kernel_rfl) (fun _ _ _ h => h) (Or.inl ⟨by rfl, ?hyz4⟩) hHeld ?_
    case hyz4 => (intro w hSw; (try dsimp only at hSw); go_simp <;> with_reducible rfl)
    try simp only [Act.put, List.setIfInBounds_toArray, List.set_cons_zero, List.set_cons_succ]
    refine wpAnyH_take (i := 4) (oi := { dst := some 49, op := Op.binOp BinOp.add 3 (Operand.tmp 48) (Operand.const (Value.int IntKind.i64 1)) 3, type := 3, pos := "l07_part.go:104", after := #[{ on := 3, ground := Ground.data }], guard := none }) (v := ?vz5) rfl (by kernel_rfl) (by kernel_rfl) (by kernel_rfl) (fun _ _ _ h => h) (Or.inl ⟨by rfl, ?hyz5⟩) hHeld ?_
    case hyz5 => (intro w hSw; (try dsimp only at hSw); go_simp <;> with_reducible rfl)
    try simp only [Act.put, List.setIfInBounds_toArray, List.set_cons_zero, List.set_cons_succ]
    refine wpAnyH_take (i := 5) (oi := { dst := some 50, op := Op.load 90 (Operand.tmp 6), type := 90, pos := "l07_part.go:104", after := #[], guard := none }) (v := ?vz6) rfl (by kernel_rfl) (by kernel_rfl) (by kernel_rfl) (fun _ _ _ h => h) (Or.inl ⟨by rfl, ?hyz6⟩) hHeld ?_
    case hyz6 => (intro w hSw; (try dsimp only at hSw); go_simp <;> with_reducible rfl)
    try simp only [Act.put, List.setIfInBounds_toArray, List.set_cons_zero, List.set_cons_succ]
    refine wpAnyH_take (i := 8) (oi := { dst := some 53, op := Op.move (Operand.tmp 10), type := 4, pos := "l07_part.go:104", after := #[{ on := 9, ground := Ground.gcOnly Departure.lateStores }], guard := none }) (v := ?vz7) rfl (by kernel_rfl) (by kernel_rfl) (by kernel_rfl) (fun _ _ _ h => h) (Or.inl ⟨by rfl, ?hyz7⟩) hHeld ?_
    case hyz7 => (intro w hSw; (try dsimp only at hSw); go_simp <;> with_reducible rfl)
    try simp only [Act.put, List.setIfInBounds_toArray, List.set_cons_zero, List.set_cons_succ]
    refine wpAnyH_ready (rs := [6]) (by kernel_rfl) (by simp) ?_
    refine AllReadyH.cons (o := { dst := some 51, op := Op.call { callee := Callee.value (Operand.func 68), args := #[Operand.tmp 50], argTypes := #[90] }, type := 24, pos := "l07_part.go:104", after := #[{ on := 5, ground := Ground.data }], guard := none }) rfl (fun K hK => ?_) AllReadyH.nil
    go_simp
    refine (HLA.out _ (Below.refl w9.heap.size w9).drew).mono ?_
    rintro r wa ⟨⟨OM, Oc, Oz, rfl, hA, hP⟩, hy⟩
    have ZA : Hid (Below w9.heap.size w9 wa) := grow_on (Below.refl w9.heap.size w9).drew hy
    have OA : Hid (CB w9.heap.size wa OM Oc Oz ∧ chs Oz = putC C x) := ⟨hA, hP⟩
    clear hA hP hy
    clear hHeld
    refine hK.out _ _ (HS.out _ (H9.out.2.2.2.2.2.1.grow ZA.out) (H9.out.2.1.grow ZA.out)) (fun hHeld => ?_)
    clear hK K
    try simp only [Act.put, List.setIfInBounds_toArray, List.set_cons_zero, List.set_cons_succ]
    refine wpAnyH_take (i := 7) (oi := { dst := some 52, op := Op.build 26 #[(0, Operand.tmp 46), (1, Operand.tmp 49), (2, Operand.tmp 51)], type := 26, pos := "l07_part.go:104", after := #[{ on := 1, ground := Ground.data }, { on := 4, ground := Ground.data }, { on := 6, ground := Ground.data }], guard := none }) (v := ?vz9) rfl (by kernel_rfl) (by kernel_rfl) (by kernel_rfl) (fun _ _ _ h => h) (Or.inl ⟨by rfl, ?hyz9⟩) hHeld ?_
    case hyz9 => (intro w hSw; (try dsimp only at hSw); go_simp <;> with_reducible rfl)
    try simp only [Act.put, List.setIfInBounds_toArray, List.set_cons_zero, List.set_cons_succ]
    refine wpAnyH_ready (rs := [9]) (by kernel_rfl) (by simp) ?_
    refine AllReadyH.cons (o := { dst := none, op := Op.store 26 (Operand.tmp 4) (Operand.tmp 52), type := 0, pos := "l07_part.go:104", after := #[{ on := 7, ground := Ground.data }, { on := 6, ground := Ground.chain }, { on := 0, ground := Ground.phase }, { on := 1, ground := Ground.phase }, { on := 2, ground := Ground.phase }, { on := 3, ground := Ground.phase }, { on := 4, ground := Ground.phase }, { on := 5, ground := Ground.phase }, { on := 6, ground := Ground.phase }, { on := 7, ground := Ground.phase }, { on := 8, ground := Ground.textOnly Departure.lateStores }], guard := none }) rfl (fun K hK => ?_) AllReadyH.nil
    have hrb : Blk wa (w.heap.size + 2) #[.int .i64 0, .int .i64 0, .slice none 0 0] 26 := H9.out.2.2.2.2.2.2.grow ZA.out
    have n0 : wa.cell? ⟨w.heap.size + 2, 0, none⟩ = some (.int .i64 0) := hrb.cell 0
    have n1 : wa.cell? ⟨w.heap.size + 2, 1, none⟩ = some (.int .i64 0) := hrb.cell 1
    have n2 : wa.cell? ⟨w.heap.size + 2, 2, none⟩ = some (.slice none 0 0) := hrb.cell 2
    have m0 := hrb.frozen 0
    have m1 := hrb.frozen 1
    have m2 := hrb.frozen 2
    go_simp
    clear n0 n1 n2 m0 m1 m2 hHeld
    have q1 : w.heap.size + 2 ≠ w.heap.size := by omega
    have q2 : w.heap.size + 2 ≠ w2.heap.size := blkT_ne hrb (H9.out.2.1.grow ZA.out) (by decide)
    refine hK.out _ _ (HS.out _ ((((H9.out.2.2.2.2.2.1.grow ZA.out).set_other (p := ⟨w.heap.size + 2, 0, none⟩) q1 _).set_other (p := ⟨w.heap.size + 2, 1, none⟩) q1 _).set_other (p := ⟨w.heap.size + 2, 2, none⟩) q1 _) ((((H9.out.2.1.grow ZA.out).set_other (p := ⟨w.heap.size + 2, 0, none⟩) q2 _).set_other (p := ⟨w.heap.size + 2, 1, none⟩) q2 _).set_other (p := ⟨w.heap.size + 2, 2, none⟩) q2 _)) (fun hHeld => ?_)
    clear hK K q1 q2 hrb
    try simp only [Act.put, List.setIfInBounds_toArray, List.set_cons_zero, List.set_cons_succ]
    refine wpAnyH_take (i := 10) (oi := { dst := some 5, op := Op.assign (Operand.tmp 53), type := 4, pos := "l07_part.go:104", after := #[{ on := 8, ground := Ground.data }, { on := 9, ground := Ground.chain }, { on := 0, ground := Ground.phase }, { on := 1, ground := Ground.phase }, { on := 2, ground := Ground.phase }, { on := 3, ground := Ground.phase }, { on := 4, ground := Ground.phase }, { on := 5, ground := Ground.phase }, { on := 6, ground := Ground.phase }, { on := 7, ground := Ground.phase }, { on := 8, ground := Ground.phase }, { on := 9, ground := Ground.phase }], guard := none }) (v := ?vz11) rfl (by kernel_rfl) (by kernel_rfl) (by kernel_rfl) (fun _ _ _ h => h) (Or.inl ⟨by rfl, ?hyz11⟩) hHeld ?_
    case hyz11 => (intro w hSw; (try dsimp only at hSw); go_simp <;> with_reducible rfl)
    try simp only [Act.put, List.setIfInBounds_toArray, List.set_cons_zero, List.set_cons_succ]
    refine wpAnyH_done (by kernel_rfl) ?_ _
    go_wp2
    have hrb : Blk wa (w.heap.size + 2) #[.int .i64 0, .int .i64 0, .slice none 0 0] 26 := H9.out.2.2.2.2.2.2.grow ZA.out
    have hs := put3 hrb (.int .i64 hd) (.int .i64 vu) (.slice (some ⟨OM, 0, none⟩) Oz.length Oc)
    have s0 := hs.cell 0
    have s1 := hs.cell 1
    have s2 := hs.cell 2
    refine bodyPost_ret (v := .tuple #[.agg #[.int .i64 hd, .int .i64 vu, .slice (some ⟨OM, 0, none⟩) Oz.length Oc], .bool (isNew (nthC C k).P x.l)]) (by simp [results, Tryz.results9, go_sem, s0, s1, s2]) rfl ?_
    rw [HNW.out]
    refine ⟨⟨OM, Oc, Oz, ?_, (CB.set3 OA.out.1 hrb _ _ _).down (grow_on HW0.out.1 H9.out.1).size, OA.out.2⟩, set3 (grow_on (grow_on HW0.out.1 H9.out.1) ZA.out) (by omega) _ _ _⟩
    rfl
end Go.Proofs.YtooninmicfcfoaaGreat.PrtZ
