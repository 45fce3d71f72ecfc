/-
  PROVED: slices.Insert of one slot into a row of slots without room gives the row with it, in memory of its own; impl.withSlot puts a slot ahead of the first of a greater number; nothing that was there is changed.
-/
import Derived.Test.YtcopckbpflmmeaaPrtN
import Derived.Deep.AppendSrc
namespace Go.Proofs.Ytcopckbpflmmeaa.PrtQ
open Go.RowKit
open Go.Proofs.Ytcopckbpflmmeaa.Labs Go.Proofs.Ytcopckbpflmmeaa.LabS Go.Proofs.Ytcopckbpflmmeaa.Alms Go.Proofs.Ytcopckbpflmmeaa.Over Go.Proofs.Ytcopckbpflmmeaa.Blk Go.Proofs.Ytcopckbpflmmeaa.App Go.Proofs.Ytcopckbpflmmeaa.Chs Go.Proofs.Ytcopckbpflmmeaa.Prt Go.Proofs.Ytcopckbpflmmeaa.PrtH Go.Proofs.Ytcopckbpflmmeaa.PrtL Go.Proofs.Ytcopckbpflmmeaa.PrtN Go.Proofs.Ytcopckbpflmmeaa.Mps
set_option linter.unusedVariables false
theorem add_at (M j : Nat) : (⟨M, 0, none⟩ : Addr).add j = ⟨M, j, none⟩ := by by_cases h : j = 0 <;> simp [Addr.add, h]
theorem add_at2 (M o j : Nat) : (⟨M, o, none⟩ : Addr).add j = ⟨M, o + j, none⟩ := by by_cases h : j = 0 <;> simp [Addr.add, h]
theorem blk_src {w : World} {M : Nat} {cs : Array Value} {l : List Value} (h : Blk w M cs 113) (e : cs.toList = l) (o : Nat) : ∀ j v, (l.drop o)[j]? = some v → w.cell? ((⟨M, o, none⟩ : Addr).add j) = some v := fun j v hj => by
  rw [add_at2, h.cell, ← hj, List.getElem?_drop, ← e]
  simp
theorem take_len {A Z : List Value} {a : Nat} (h : A.length = a) : (A ++ Z).take a = A := by subst h; exact List.take_left
theorem drop_add {A Z : List Value} {a k : Nat} (h : A.length = a) : (A ++ Z).drop (a + k) = Z.drop k := by
  rw [← List.drop_drop, ← h, List.drop_left]
theorem infoS1 : (Try.prog.info? 113).map (·.size) = some 2 := by kernel_rfl
theorem zeros_len (n : Nat) : (Builtin.zeroCells (Value.agg #[.int .i64 0, .int .i64 0]).cells n).size = n * 2 := by simp [Builtin.zeroCells, Value.cells]
set_option maxRecDepth 100000 in
set_option maxHeartbeats 4000000 in
theorem insertS_any (Ms Mv : Nat) (ks : List (Int × Int)) (x : Int × Int) (i : Nat) (sc : Array Value) (w : World) (hS : Blk w Ms sc 113) (hsc : sc.toList = flatK ks) (hV : Blk w Mv #[.int .i64 x.1, .int .i64 x.2] 113) (hi : i ≤ ks.length) (hl : ks.length ≤ 1048576) :
    Calls Try.prog 115 #[.slice (some ⟨Ms, 0, none⟩) ks.length ks.length, .int .i64 i, .slice (some ⟨Mv, 0, none⟩) 1 1] w fun e w' => (∃ M c, e = .returned (.slice (some ⟨M, 0, none⟩) (ks.length + 1) c) ∧ SlotL w' M (ks.take i ++ x :: ks.drop i)) ∧ Below w.heap.size w w' := by
  obtain ⟨i0, hi0, hz0, hz1, hz2⟩ := info_parts infoS
  obtain ⟨n, hn⟩ : ∃ n, n = ks.length := ⟨_, rfl⟩
  have HK : Hid (n = ks.length) := hn
  rw [← hn] at hi hl ⊢
  have hlen : (flatK ks).length = n * 2 := by rw [flatK_len, hn]
  have hlt := hS.lt
  have hvt := hV.lt
  by_cases he : i = n
  · have hold : (Builtin.firstCells i0.size n (.slice (some ⟨Ms, 0, none⟩) n n)).run Try.prog w.drew = .ok (flatK ks).toArray w.drew := by
      rw [hz1]
      exact run_firstCells_some w.drew 2 n ⟨Ms, 0, none⟩ n n (flatK ks) hlen (fun j v hj => blk_src (w := w.drew) hS.drew hsc 0 j v hj)
    have hsrc : Go.Src Try.prog i0.size 108 (.slice (some ⟨Mv, 0, none⟩) 1 1) 1 [.int .i64 x.1, .int .i64 x.2] w := by
      rw [hz1]
      exact Go.Src.ofSlice w Try.underlying108 ⟨Mv, 0, none⟩ 1 1 _ rfl (fun j v hj => blk_src hV rfl 0 j v hj) (fun v hv => flatK_one [x] v hv)
    have hrz := fun ty => run_append_grow_src (w := w) 108 108 ty 113 i0 _ Try.underlying108 hi0 hz0 (some ⟨Ms, 0, none⟩) n n (flatK ks) hold _ 1 _ hsrc (by omega) (by omega) (by rw [hz2]; exact growslice_fits (by omega) (by omega))
    have HE : Hid (∀ (G : Nat), SlotL (w.alloc (.cells ((flatK ks ++ [Value.int .i64 x.1, Value.int .i64 x.2]).toArray ++ Builtin.zeroCells (Value.agg #[.int .i64 0, .int .i64 0]).cells G) 113)).drew w.heap.size (ks.take n ++ x :: ks.drop n)) := fun G => by
      refine slot_of (r := (Builtin.zeroCells (Value.agg #[.int .i64 0, .int .i64 0]).cells G).toList) (Blk.new w _ _).drew ?_
      rw [HK.out, List.take_length, List.drop_length, flatK_app]
      simp [flatK]
    have HRZ : Hid (∀ ty, (Builtin.append_ #[108, 108] ty #[.slice (some ⟨Ms, 0, none⟩) n n, .slice (some ⟨Mv, 0, none⟩) 1 1]).run Try.prog w = .ok (.slice (some ⟨w.heap.size, 0, none⟩) (n + 1) (grownCap w (n + 1) n 113)) (w.alloc (.cells ((flatK ks ++ [Value.int .i64 x.1, Value.int .i64 x.2]).toArray ++ Builtin.zeroCells (Value.agg #[.int .i64 0, .int .i64 0]).cells (grownCap w (n + 1) n 113 - (n + 1))) 113)).drew) := hrz
    rw [he]
    clear hold hsrc hrz hn he hi
    go_enter Try.func115, Try.ntmps115
    go_wp2_with (at_builtin; refine Lib.wpList_append_run _ rfl _ _ _ _ rfl _ _ rfl rfl _ _ (HRZ.out _) ?_)
    go_ret
    exact ⟨⟨w.heap.size, _, rfl, HE.out _⟩, ((Below.refl _ _).alloc (Nat.le_refl _) _).drew⟩
  · have hlt1 : i < n := by omega
    obtain ⟨F, hF⟩ : ∃ F, F = flatK ks := ⟨_, rfl⟩
    rw [← hF] at hsc hlen
    have hold : (Builtin.firstCells i0.size i (.slice (some ⟨Ms, 0, none⟩) i n)).run Try.prog w.drew = .ok (F.take (i * 2)).toArray w.drew := by
      rw [hz1]
      exact run_firstCells_some w.drew 2 i ⟨Ms, 0, none⟩ i n (F.take (i * 2)) (by rw [List.length_take]; omega) (fun j v hj => by
        rw [List.getElem?_take] at hj
        split at hj
        · exact blk_src (w := w.drew) hS.drew hsc 0 j v hj
        · cases hj)
    have hkk : (n : Int) + 1 - (i : Int) = ((n + 1 - i : Nat) : Int) := by omega
    have hik : i + (n + 1 - i) = n + 1 := by omega
    obtain ⟨G, hG⟩ : ∃ G, G = grownCap w (n + 1) n 113 := ⟨_, rfl⟩
    obtain ⟨Z, hZ⟩ : ∃ Z : Array Value, Z = Builtin.zeroCells (Value.agg #[.int .i64 0, .int .i64 0]).cells (n + 1 - i) ++ Builtin.zeroCells (Value.agg #[.int .i64 0, .int .i64 0]).cells (G - (n + 1)) := ⟨_, rfl⟩
    have hZl : (n + 1 - i) * 2 ≤ Z.size := by rw [hZ, Array.size_append, zeros_len, zeros_len]; omega
    obtain ⟨W1, hW1⟩ : ∃ W1, W1 = w.drew.alloc (.cells ((F.take (i * 2)).toArray ++ Z) 113) := ⟨_, rfl⟩
    have hrz : ∀ ty, (Builtin.append_ #[108, 3] ty #[.slice (some ⟨Ms, 0, none⟩) i n, .int .i64 ((n : Int) + 1 - (i : Int))]).run Try.prog w = .ok (.slice (some ⟨w.heap.size, 0, none⟩) (n + 1) G) W1 := fun ty => by
      have h := Lib.run_append_grow_zeros w 108 3 ty 113 i0 _ .i64 .i64 Try.underlying108 Try.underlying3 hi0 hz0 (some ⟨Ms, 0, none⟩) i n (F.take (i * 2)) hold (n + 1 - i) (by omega) (by omega) (by omega) (by omega) (by rw [hz2]; omega) (by rw [hz2, hik]; exact growslice_fits (by omega) (by omega))
      rw [hik] at h
      rw [hkk, hW1, hZ, hG, ← Array.append_assoc]
      exact h
    have hB1 : Blk W1 w.heap.size ((F.take (i * 2)).toArray ++ Z) 113 := by rw [hW1]; exact Blk.new w.drew _ _
    have hb1 : Below w.heap.size w W1 := by rw [hW1]; exact ((Below.refl _ _).drew).alloc (Nat.le_refl _) _
    have htl : (F.take (i * 2)).length = i * 2 := by rw [List.length_take]; omega
    have hcpA : ∀ (W : World), Blk W w.heap.size ((F.take (i * 2)).toArray ++ Z) 113 → Blk W Mv #[.int .i64 x.1, .int .i64 x.2] 113 → ∀ ty dc, (Builtin.copy_ #[108, 108] ty #[.slice (some ⟨w.heap.size, i * 2, none⟩) (n + 1 - i) dc, .slice (some ⟨Mv, 0, none⟩) 1 1]).run Try.prog W = .ok (goInt 1) (W.setRow w.heap.size ((F.take (i * 2) ++ flatK [x]) ++ Z.toList.drop 2).toArray) := fun W h1 h2 ty dc => by
      have h := run_copy_sub (P := Try.prog) W 108 108 ty 113 2 w.heap.size (i * 2) (n + 1 - i) dc ⟨Mv, 0, none⟩ 1 1 1 _ _ (flatK [x]) Try.underlying108 infoS1 h1 (by simp only [Nat.min_def]; split <;> omega) rfl (by simp [htl, flatK]; omega) (fun j v hj => blk_src h2 rfl 0 j v hj) (flatK_one [x])
      have e0 : ((F.take (i * 2)).toArray ++ Z).toList = F.take (i * 2) ++ Z.toList := by simp
      rw [e0, take_len htl, drop_add htl] at h
      exact h
    have hcpB : ∀ (W : World), Blk W w.heap.size ((F.take (i * 2) ++ flatK [x]) ++ Z.toList.drop 2).toArray 113 → Blk W Ms sc 113 → ∀ ty dc, (Builtin.copy_ #[108, 108] ty #[.slice (some ⟨w.heap.size, (i + 1) * 2, none⟩) (n + 1 - (i + 1)) dc, .slice (some ⟨Ms, i * 2, none⟩) (n - i) (n - i)]).run Try.prog W = .ok (goInt ((n - i : Nat) : Int)) (W.setRow w.heap.size ((F.take (i * 2) ++ flatK [x]) ++ F.drop (i * 2) ++ (Z.toList.drop 2).drop (F.drop (i * 2)).length).toArray) := fun W h1 h2 ty dc => by
      have hxl : (F.take (i * 2) ++ flatK [x]).length = (i + 1) * 2 := by simp [htl, flatK]; omega
      have h := run_copy_sub (P := Try.prog) W 108 108 ty 113 2 w.heap.size ((i + 1) * 2) (n + 1 - (i + 1)) dc ⟨Ms, i * 2, none⟩ (n - i) (n - i) (n - i) _ _ (F.drop (i * 2)) Try.underlying108 infoS1 h1 (by simp only [Nat.min_def]; split <;> omega) (by rw [List.length_drop]; omega) (by
        have e1 : (F.drop (i * 2)).length = n * 2 - i * 2 := by rw [List.length_drop]; omega
        have e2 : (Z.toList.drop 2).length = Z.size - 2 := by simp
        simp only [List.size_toArray, List.length_append, hxl, e1, e2]
        omega) (fun j v hj => blk_src h2 hsc (i * 2) j v hj) (fun v hv => by rw [hF] at hv; exact flatK_one ks v (List.mem_of_mem_drop hv))
      rw [List.toList_toArray, take_len hxl, drop_add hxl] at h
      exact h
    have hE : flatK (ks.take i ++ x :: ks.drop i) = (F.take (i * 2) ++ flatK [x]) ++ F.drop (i * 2) := by
      have e1 : ks.take i ++ x :: ks.drop i = (ks.take i ++ [x]) ++ ks.drop i := by simp
      rw [e1, flatK_app, flatK_app, flatK_take ks (by omega), flatK_drop ks (by omega), hF]
    have HE : Hid (flatK (ks.take i ++ x :: ks.drop i) = (F.take (i * 2) ++ flatK [x]) ++ F.drop (i * 2)) := hE
    have HW : Hid (Below w.heap.size w W1 ∧ Blk W1 w.heap.size ((F.take (i * 2)).toArray ++ Z) 113 ∧ Blk W1 Ms sc 113 ∧ Blk W1 Mv #[.int .i64 x.1, .int .i64 x.2] 113) := ⟨hb1, hB1, hS.grow hb1, hV.grow hb1⟩
    have hGn : n + 1 ≤ G := by rw [hG]; exact grownCap_ge w _ _ _
    have hG63 : G ≤ 9223372036854775807 := by
      have := grownCap_le_maxLen w (n + 1) n 113 (by unfold maxLen; omega)
      rw [← hG] at this
      unfold maxLen at this
      omega
    have hA1 : (Builtin.copy_ #[108, 108] 3 #[.slice (some ⟨w.heap.size, i * 2, none⟩) (n + 1 - i) (G - i), .slice (some ⟨Mv, 0, none⟩) 1 1]).run Try.prog W1 = .ok (goInt 1) (W1.setRow w.heap.size ((F.take (i * 2) ++ flatK [x]) ++ Z.toList.drop 2).toArray) := hcpA W1 HW.out.2.1 HW.out.2.2.2 _ _
    obtain ⟨W2, hW2⟩ : ∃ W2, W2 = W1.setRow w.heap.size ((F.take (i * 2) ++ flatK [x]) ++ Z.toList.drop 2).toArray := ⟨_, rfl⟩
    rw [← hW2] at hA1
    have HW2 : Hid (Below w.heap.size w W2 ∧ Blk W2 w.heap.size ((F.take (i * 2) ++ flatK [x]) ++ Z.toList.drop 2).toArray 113 ∧ Blk W2 Ms sc 113) := by
      rw [hW2]
      exact ⟨below_setRow hb1 (Nat.le_refl _) _, setRow_heap W1 _ _ _ _ _ hB1, by
        have hne : Ms ≠ w.heap.size := by omega
        have h := (hS.grow hb1)
        unfold Blk at *
        rw [setRow_other W1 _ _ _ hne]; exact h⟩
    obtain ⟨W3, hW3⟩ : ∃ W3, W3 = W2.drew.setRow w.heap.size ((F.take (i * 2) ++ flatK [x]) ++ F.drop (i * 2) ++ (Z.toList.drop 2).drop (F.drop (i * 2)).length).toArray := ⟨_, rfl⟩
    have hA2 : ∀ ty, (Builtin.copy_ #[108, 108] ty #[.slice (some ⟨w.heap.size, (i + 1) * 2, none⟩) (n + 1 - (i + 1)) (G - (i + 1)), .slice (some ⟨Ms, i * 2, none⟩) (n - i) (n - i)]).run Try.prog W2.drew = .ok (goInt ((n - i : Nat) : Int)) W3 := fun ty => by rw [hW3]; exact hcpB W2.drew HW2.out.2.1.drew HW2.out.2.2.drew _ _
    have HW3 : Hid (Below w.heap.size w W3 ∧ SlotL W3 w.heap.size (ks.take i ++ x :: ks.drop i)) := by
      rw [hW3]
      exact ⟨below_setRow HW2.out.1.drew (Nat.le_refl _) _, slot_of (setRow_heap W2.drew _ _ _ _ _ HW2.out.2.1.drew) (by rw [HE.out])⟩
    have hgi : ¬ (G = i) := by omega
    have hgi1 : ¬ (G = i + 1) := by omega
    have hni : ¬ (n = i) := by omega
    have hw1 : IntKind.i64.wrap ((i : Int) + 1) = (i : Int) + 1 := by rw [IntKind.wrap_i64]; omega
    have hii : (i : Int) ≤ (n : Int) := by omega
    have hin : ¬ (i : Int) = (n : Int) := by omega
    have hp1 : (0 : Int) ≤ (i : Int) + 1 := by omega
    have htn : ((i : Int) + 1).toNat = i + 1 := by omega
    have hin2 : i ≤ n := by omega
    have hii1 : (i : Int) + 1 ≤ (n : Int) + 1 := by omega
    have hn1 : ¬ (i : Int) + 1 < 0 := by omega
    have HRZ : Hid (∀ ty, (Builtin.append_ #[108, 3] ty #[.slice (some ⟨Ms, 0, none⟩) i n, .int .i64 ((n : Int) + 1 - (i : Int))]).run Try.prog w = .ok (.slice (some ⟨w.heap.size, 0, none⟩) (n + 1) G) W1) := hrz
    have HA1 : Hid ((Builtin.copy_ #[108, 108] 3 #[.slice (some ⟨w.heap.size, i * 2, none⟩) (n + 1 - i) (G - i), .slice (some ⟨Mv, 0, none⟩) 1 1]).run Try.prog W1 = .ok (goInt 1) W2) := hA1
    have HA2 : Hid (∀ ty, (Builtin.copy_ #[108, 108] ty #[.slice (some ⟨w.heap.size, (i + 1) * 2, none⟩) (n + 1 - (i + 1)) (G - (i + 1)), .slice (some ⟨Ms, i * 2, none⟩) (n - i) (n - i)]).run Try.prog W2.drew = .ok (goInt ((n - i : Nat) : Int)) W3) := hA2
    clear hcpA hcpB hE hold hkk hik hZ hZl hW1 hB1 hb1 htl hG hW2 hW3 hrz hA1 hA2 hn hS hV hlen hsc hF
    go_enter Try.func115, Try.ntmps115
    go_wp2_with (at_builtin; refine Lib.wpList_append_run _ rfl _ _ _ _ rfl _ _ rfl rfl _ _ (HRZ.out _) ?_)
    rw [HA1.out]
    go_upto_region 11 with fail
    go_region_law (refine step_copy rfl _ _ 108 108 rfl (.slice (some ⟨w.heap.size, (i + 1) * 2, none⟩) (n + 1 - (i + 1)) (G - (i + 1))) (.slice (some ⟨Ms, i * 2, none⟩) (n - i) (n - i)) (by simp [Act.eval, Act.put]) (by simp [Act.eval, Act.put]) (HA2.out _) ?_)
    go_wp2
    go_ret
    exact ⟨⟨w.heap.size, _, rfl, HW3.out.2⟩, HW3.out.1⟩
end Go.Proofs.Ytcopckbpflmmeaa.PrtQ
