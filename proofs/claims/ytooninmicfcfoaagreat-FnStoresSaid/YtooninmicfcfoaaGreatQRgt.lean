/-
  PROVED: slices.Insert of one slot into a row of slots without room gives the row with it, in memory of its own; impl.withSlot puts a slot ahead of the first of a greater number; nothing that was there is changed.
  PROVED: impl.withSlot puts a slot ahead of the first of a greater number; what the slots and the chains come to when an alarm is put in.
  PROVED: over a part and an alarm in memory impl.PutIn gives the part with the alarm in it, as a plain function on lists of chains says, in memory of its own; nothing that was there is changed.
  PROVED: how many alarms and labels a part's chains have where one alarm more was put into them, and that each of them is of its kind.
  PROVED: in a drawn region an operation may be taken first where it yields its value in every world that meets S, also where one operation, which waits for it, leaves S (S is asked behind each operation but that one).
  PROVED: a row of chains that was put together of the first part of another, one chain more and its rest holds the chains of that other with the one more among them.
  PROVED: over a part and an alarm in memory spec.PutIn gives the part with the alarm in it, as a plain function on lists of chains says, in memory of its own; nothing that was there is changed.
  PROVED: over a slice of parts and an alarm in memory spec.PutAlarm and impl.PutAlarm answer alike, as plain functions say, in memory of their own; nothing that was there is changed.
  PROVED: on plain lists of chains: what was put is found, by its labels, merged with what was there.
  Plain lists: right stores: a put leaves a store right; what was put is found; each alarm is found by its labels; no two have the same; how many there are. No program is spoken of.
-/
import Derived.Test.YtooninmicfcfoaaGreatQPrtN
import Derived.Deep.AppendSrc
import Derived.Test.YtooninmicfcfoaaGreatQPrtC
import Derived.Test.YtooninmicfcfoaaGreatQStsF
import Derived.Deep.RegionHeld3
import Derived.Test.YtooninmicfcfoaaGreatQApp
import Derived.Test.YtooninmicfcfoaaGreatQPrtF
import Derived.Test.YtooninmicfcfoaaGreatQPrt
import Derived.Test.YtooninmicfcfoaaGreatQStsC
import Derived.Test.YtooninmicfcfoaaGreatQStsO
import Derived.Test.YtooninmicfcfoaaGreatQStsA
import Derived.Test.YtooninmicfcfoaaGreatQStsK
set_option linter.unusedVariables false
namespace Go.Proofs.YtooninmicfcfoaaGreat.PrtQ
open Go.RowKit
open Labs LabS Alms Over Blk App Chs Prt PrtH PrtL PrtN Mps
theorem add_at2 (M o j : Nat) : (⟨M, o, none⟩ : Addr).add j = ⟨M, o + j, none⟩ := by by_cases h : j = 0 <;> simp [Addr.add, h]
theorem blk_src {w : World} {M : Nat} {cs : Array Value} {l : List Value} (h : Blk w M cs 94) (e : cs.toList = l) (o : Nat) : ∀ j v, (l.drop o)[j]? = some v → w.cell? ((⟨M, o, none⟩ : Addr).add j) = some v := fun j v hj => by
  rw [add_at2, h.cell, ← hj, List.getElem?_drop, ← e]
  simp
theorem take_len {A Z : List Value} {a : Nat} (h : A.length = a) : (A ++ Z).take a = A := by subst h; exact List.take_left
theorem drop_add {A Z : List Value} {a k : Nat} (h : A.length = a) : (A ++ Z).drop (a + k) = Z.drop k := by
  rw [← List.drop_drop, ← h, List.drop_left]
theorem infoS1 : (Tryz.prog.info? 94).map (·.size) = some 2 := by kernel_rfl
theorem zeros_len (n : Nat) : (Builtin.zeroCells (Value.agg #[.int .i64 0, .int .i64 0]).cells n).size = n * 2 := by simp [Builtin.zeroCells, Value.cells]
set_option maxRecDepth 100000 in
set_option maxHeartbeats 4000000 in
theorem insertS_any (Ms Mv : Nat) (ks : List (Int × Int)) (x : Int × Int) (i : Nat) (sc : Array Value) (w : World) (hS : Blk w Ms sc 94) (hsc : sc.toList = flatK ks) (hV : Blk w Mv #[.int .i64 x.1, .int .i64 x.2] 94) (hi : i ≤ ks.length) (hl : ks.length ≤ 1048576) :
    Calls Tryz.prog 124 #[.slice (some ⟨Ms, 0, none⟩) ks.length ks.length, .int .i64 i, .slice (some ⟨Mv, 0, none⟩) 1 1] w fun e w' => (∃ M c, e = .returned (.slice (some ⟨M, 0, none⟩) (ks.length + 1) c) ∧ SlotL w' M (ks.take i ++ x :: ks.drop i)) ∧ Below w.heap.size w w' := by
  obtain ⟨i0, hi0, hz0, hz1, hz2⟩ := info_parts infoS
  obtain ⟨n, hn⟩ : ∃ n, n = ks.length := ⟨_, rfl⟩
  have HK : Hid (n = ks.length) := hn
  rw [← hn] at hi hl ⊢
  have hlen : (flatK ks).length = n * 2 := by rw [flatK_len, hn]
  have hlt := hS.lt
  have hvt := hV.lt
  by_cases he : i = n
  · have hold : (Builtin.firstCells i0.size n (.slice (some ⟨Ms, 0, none⟩) n n)).run Tryz.prog w.drew = .ok (flatK ks).toArray w.drew := by
      rw [hz1]
      exact run_firstCells_some w.drew 2 n ⟨Ms, 0, none⟩ n n (flatK ks) hlen (fun j v hj => blk_src (w := w.drew) hS.drew hsc 0 j v hj)
    have hsrc : Go.Src Tryz.prog i0.size 88 (.slice (some ⟨Mv, 0, none⟩) 1 1) 1 [.int .i64 x.1, .int .i64 x.2] w := by
      rw [hz1]
      exact Go.Src.ofSlice w Tryz.underlying88 ⟨Mv, 0, none⟩ 1 1 _ rfl (fun j v hj => blk_src hV rfl 0 j v hj) (fun v hv => flatK_one [x] v hv)
    have hrz := fun ty => run_append_grow_src (w := w) 88 88 ty 94 i0 _ Tryz.underlying88 hi0 hz0 (some ⟨Ms, 0, none⟩) n n (flatK ks) hold _ 1 _ hsrc (by omega) (by omega) (by rw [hz2]; exact growslice_fits (by omega) (by omega))
    have HE : Hid (∀ (G : Nat), SlotL (w.alloc (.cells ((flatK ks ++ [Value.int .i64 x.1, Value.int .i64 x.2]).toArray ++ Builtin.zeroCells (Value.agg #[.int .i64 0, .int .i64 0]).cells G) 94)).drew w.heap.size (ks.take n ++ x :: ks.drop n)) := fun G => by
      refine slot_of (r := (Builtin.zeroCells (Value.agg #[.int .i64 0, .int .i64 0]).cells G).toList) (Blk.new w _ _).drew ?_
      rw [HK.out, List.take_length, List.drop_length, flatK_app]
      simp [flatK]
    have HRZ : Hid (∀ ty, (Builtin.append_ #[88, 88] ty #[.slice (some ⟨Ms, 0, none⟩) n n, .slice (some ⟨Mv, 0, none⟩) 1 1]).run Tryz.prog w = .ok (.slice (some ⟨w.heap.size, 0, none⟩) (n + 1) (grownCap w (n + 1) n 94)) (w.alloc (.cells ((flatK ks ++ [Value.int .i64 x.1, Value.int .i64 x.2]).toArray ++ Builtin.zeroCells (Value.agg #[.int .i64 0, .int .i64 0]).cells (grownCap w (n + 1) n 94 - (n + 1))) 94)).drew) := hrz
    rw [he]
    clear hold hsrc hrz hn he hi
    go_enter Tryz.func124, Tryz.ntmps124
    go_wp2_with (at_builtin; refine Lib.wpList_append_run _ rfl _ _ _ _ rfl _ _ rfl rfl _ _ (HRZ.out _) ?_)
    go_ret
    exact ⟨⟨w.heap.size, _, rfl, HE.out _⟩, ((Below.refl _ _).alloc (Nat.le_refl _) _).drew⟩
  · have hlt1 : i < n := by omega
    obtain ⟨F, hF⟩ : ∃ F, F = flatK ks := ⟨_, rfl⟩
    rw [← hF] at hsc hlen
    have hold : (Builtin.firstCells i0.size i (.slice (some ⟨Ms, 0, none⟩) i n)).run Tryz.prog w.drew = .ok (F.take (i * 2)).toArray w.drew := by
      rw [hz1]
      exact run_firstCells_some w.drew 2 i ⟨Ms, 0, none⟩ i n (F.take (i * 2)) (by rw [List.length_take]; omega) (fun j v hj => by
        rw [List.getElem?_take] at hj
        split at hj
        · exact blk_src (w := w.drew) hS.drew hsc 0 j v hj
        · cases hj)
    have hkk : (n : Int) + 1 - (i : Int) = ((n + 1 - i : Nat) : Int) := by omega
    have hik : i + (n + 1 - i) = n + 1 := by omega
    obtain ⟨G, hG⟩ : ∃ G, G = grownCap w (n + 1) n 94 := ⟨_, rfl⟩
    obtain ⟨Z, hZ⟩ : ∃ Z : Array Value, Z = Builtin.zeroCells (Value.agg #[.int .i64 0, .int .i64 0]).cells (n + 1 - i) ++ Builtin.zeroCells (Value.agg #[.int .i64 0, .int .i64 0]).cells (G - (n + 1)) := ⟨_, rfl⟩
    have hZl : (n + 1 - i) * 2 ≤ Z.size := by rw [hZ, Array.size_append, zeros_len, zeros_len]; omega
    obtain ⟨W1, hW1⟩ : ∃ W1, W1 = w.drew.alloc (.cells ((F.take (i * 2)).toArray ++ Z) 94) := ⟨_, rfl⟩
    have hrz : ∀ ty, (Builtin.append_ #[88, 3] ty #[.slice (some ⟨Ms, 0, none⟩) i n, .int .i64 ((n : Int) + 1 - (i : Int))]).run Tryz.prog w = .ok (.slice (some ⟨w.heap.size, 0, none⟩) (n + 1) G) W1 := fun ty => by
      have h := Lib.run_append_grow_zeros w 88 3 ty 94 i0 _ .i64 .i64 Tryz.underlying88 Tryz.underlying3 hi0 hz0 (some ⟨Ms, 0, none⟩) i n (F.take (i * 2)) hold (n + 1 - i) (by omega) (by omega) (by omega) (by omega) (by rw [hz2]; omega) (by rw [hz2, hik]; exact growslice_fits (by omega) (by omega))
      rw [hik] at h
      rw [hkk, hW1, hZ, hG, ← Array.append_assoc]
      exact h
    have hB1 : Blk W1 w.heap.size ((F.take (i * 2)).toArray ++ Z) 94 := by rw [hW1]; exact Blk.new w.drew _ _
    have hb1 : Below w.heap.size w W1 := by rw [hW1]; exact ((Below.refl _ _).drew).alloc (Nat.le_refl _) _
    have htl : (F.take (i * 2)).length = i * 2 := by rw [List.length_take]; omega
    have hcpA : ∀ (W : World), Blk W w.heap.size ((F.take (i * 2)).toArray ++ Z) 94 → Blk W Mv #[.int .i64 x.1, .int .i64 x.2] 94 → ∀ ty dc, (Builtin.copy_ #[88, 88] ty #[.slice (some ⟨w.heap.size, i * 2, none⟩) (n + 1 - i) dc, .slice (some ⟨Mv, 0, none⟩) 1 1]).run Tryz.prog W = .ok (goInt 1) (W.setRow w.heap.size ((F.take (i * 2) ++ flatK [x]) ++ Z.toList.drop 2).toArray) := fun W h1 h2 ty dc => by
      have h := run_copy_sub (P := Tryz.prog) W 88 88 ty 94 2 w.heap.size (i * 2) (n + 1 - i) dc ⟨Mv, 0, none⟩ 1 1 1 _ _ (flatK [x]) Tryz.underlying88 infoS1 h1 (by simp only [Nat.min_def]; split <;> omega) rfl (by simp [htl, flatK]; omega) (fun j v hj => blk_src h2 rfl 0 j v hj) (flatK_one [x])
      have e0 : ((F.take (i * 2)).toArray ++ Z).toList = F.take (i * 2) ++ Z.toList := by simp
      rw [e0, take_len htl, drop_add htl] at h
      exact h
    have hcpB : ∀ (W : World), Blk W w.heap.size ((F.take (i * 2) ++ flatK [x]) ++ Z.toList.drop 2).toArray 94 → Blk W Ms sc 94 → ∀ ty dc, (Builtin.copy_ #[88, 88] ty #[.slice (some ⟨w.heap.size, (i + 1) * 2, none⟩) (n + 1 - (i + 1)) dc, .slice (some ⟨Ms, i * 2, none⟩) (n - i) (n - i)]).run Tryz.prog W = .ok (goInt ((n - i : Nat) : Int)) (W.setRow w.heap.size ((F.take (i * 2) ++ flatK [x]) ++ F.drop (i * 2) ++ (Z.toList.drop 2).drop (F.drop (i * 2)).length).toArray) := fun W h1 h2 ty dc => by
      have hxl : (F.take (i * 2) ++ flatK [x]).length = (i + 1) * 2 := by simp [htl, flatK]; omega
      have h := run_copy_sub (P := Tryz.prog) W 88 88 ty 94 2 w.heap.size ((i + 1) * 2) (n + 1 - (i + 1)) dc ⟨Ms, i * 2, none⟩ (n - i) (n - i) (n - i) _ _ (F.drop (i * 2)) Tryz.underlying88 infoS1 h1 (by simp only [Nat.min_def]; split <;> omega) (by rw [List.length_drop]; omega) (by
        have e1 : (F.drop (i * 2)).length = n * 2 - i * 2 := by rw [List.length_drop]; omega
        have e2 : (Z.toList.drop 2).length = Z.size - 2 := by simp
        simp only [List.size_toArray, List.length_append, hxl, e1, e2]
        omega) (fun j v hj => blk_src h2 hsc (i * 2) j v hj) (fun v hv => by rw [hF] at hv; exact flatK_one ks v (List.mem_of_mem_drop hv))
      rw [List.toList_toArray, take_len hxl, drop_add hxl] at h
      exact h
    have hE : flatK (ks.take i ++ x :: ks.drop i) = (F.take (i * 2) ++ flatK [x]) ++ F.drop (i * 2) := by
      have e1 : ks.take i ++ x :: ks.drop i = (ks.take i ++ [x]) ++ ks.drop i := by simp
      rw [e1, flatK_app, flatK_app, flatK_take ks (by omega), flatK_drop ks (by omega), hF]
    have HE : Hid (flatK (ks.take i ++ x :: ks.drop i) = (F.take (i * 2) ++ flatK [x]) ++ F.drop (i * 2)) := hE
    have HW : Hid (Below w.heap.size w W1 ∧ Blk W1 w.heap.size ((F.take (i * 2)).toArray ++ Z) 94 ∧ Blk W1 Ms sc 94 ∧ Blk W1 Mv #[.int .i64 x.1, .int .i64 x.2] 94) := ⟨hb1, hB1, hS.grow hb1, hV.grow hb1⟩
    have hGn : n + 1 ≤ G := by rw [hG]; exact grownCap_ge w _ _ _
    have hG63 : G ≤ 9223372036854775807 := by
      have := grownCap_le_maxLen w (n + 1) n 94 (by unfold maxLen; omega)
      rw [← hG] at this
      unfold maxLen at this
      omega
    have hA1 : (Builtin.copy_ #[88, 88] 3 #[.slice (some ⟨w.heap.size, i * 2, none⟩) (n + 1 - i) (G - i), .slice (some ⟨Mv, 0, none⟩) 1 1]).run Tryz.prog W1 = .ok (goInt 1) (W1.setRow w.heap.size ((F.take (i * 2) ++ flatK [x]) ++ Z.toList.drop 2).toArray) := hcpA W1 HW.out.2.1 HW.out.2.2.2 _ _
    obtain ⟨W2, hW2⟩ : ∃ W2, W2 = W1.setRow w.heap.size ((F.take (i * 2) ++ flatK [x]) ++ Z.toList.drop 2).toArray := ⟨_, rfl⟩
    rw [← hW2] at hA1
    have HW2 : Hid (Below w.heap.size w W2 ∧ Blk W2 w.heap.size ((F.take (i * 2) ++ flatK [x]) ++ Z.toList.drop 2).toArray 94 ∧ Blk W2 Ms sc 94) := by
      rw [hW2]
      exact ⟨below_setRow hb1 (Nat.le_refl _) _, setRow_heap W1 _ _ _ _ _ hB1, by
        have hne : Ms ≠ w.heap.size := by omega
        have h := (hS.grow hb1)
        unfold Blk at *
        rw [setRow_other W1 _ _ _ hne]; exact h⟩
    obtain ⟨W3, hW3⟩ : ∃ W3, W3 = W2.drew.setRow w.heap.size ((F.take (i * 2) ++ flatK [x]) ++ F.drop (i * 2) ++ (Z.toList.drop 2).drop (F.drop (i * 2)).length).toArray := ⟨_, rfl⟩
    have hA2 : ∀ ty, (Builtin.copy_ #[88, 88] ty #[.slice (some ⟨w.heap.size, (i + 1) * 2, none⟩) (n + 1 - (i + 1)) (G - (i + 1)), .slice (some ⟨Ms, i * 2, none⟩) (n - i) (n - i)]).run Tryz.prog W2.drew = .ok (goInt ((n - i : Nat) : Int)) W3 := fun ty => by rw [hW3]; exact hcpB W2.drew HW2.out.2.1.drew HW2.out.2.2.drew _ _
    have HW3 : Hid (Below w.heap.size w W3 ∧ SlotL W3 w.heap.size (ks.take i ++ x :: ks.drop i)) := by
      rw [hW3]
      exact ⟨below_setRow HW2.out.1.drew (Nat.le_refl _) _, slot_of (setRow_heap W2.drew _ _ _ _ _ HW2.out.2.1.drew) (by rw [HE.out])⟩
    have hgi : ¬ (G = i) := by omega
    have hgi1 : ¬ (G = i + 1) := by omega
    have hni : ¬ (n = i) := by omega
    have hw1 : IntKind.i64.wrap ((i : Int) + 1) = (i : Int) + 1 := by rw [IntKind.wrap_i64]; omega
    have hii : (i : Int) ≤ (n : Int) := by omega
    have hin : ¬ (i : Int) = (n : Int) := by omega
    have hp1 : (0 : Int) ≤ (i : Int) + 1 := by omega
    have htn : ((i : Int) + 1).toNat = i + 1 := by omega
    have hin2 : i ≤ n := by omega
    have hii1 : (i : Int) + 1 ≤ (n : Int) + 1 := by omega
    have hn1 : ¬ (i : Int) + 1 < 0 := by omega
    have HRZ : Hid (∀ ty, (Builtin.append_ #[88, 3] ty #[.slice (some ⟨Ms, 0, none⟩) i n, .int .i64 ((n : Int) + 1 - (i : Int))]).run Tryz.prog w = .ok (.slice (some ⟨w.heap.size, 0, none⟩) (n + 1) G) W1) := hrz
    have HA1 : Hid ((Builtin.copy_ #[88, 88] 3 #[.slice (some ⟨w.heap.size, i * 2, none⟩) (n + 1 - i) (G - i), .slice (some ⟨Mv, 0, none⟩) 1 1]).run Tryz.prog W1 = .ok (goInt 1) W2) := hA1
    have HA2 : Hid (∀ ty, (Builtin.copy_ #[88, 88] ty #[.slice (some ⟨w.heap.size, (i + 1) * 2, none⟩) (n + 1 - (i + 1)) (G - (i + 1)), .slice (some ⟨Ms, i * 2, none⟩) (n - i) (n - i)]).run Tryz.prog W2.drew = .ok (goInt ((n - i : Nat) : Int)) W3) := hA2
    clear hcpA hcpB hE hold hkk hik hZ hZl hW1 hB1 hb1 htl hG hW2 hW3 hrz hA1 hA2 hn hS hV hlen hsc hF
    go_enter Tryz.func124, Tryz.ntmps124
    go_wp2_with (at_builtin; refine Lib.wpList_append_run _ rfl _ _ _ _ rfl _ _ rfl rfl _ _ (HRZ.out _) ?_)
    rw [HA1.out]
    go_upto_region 11 with fail
    go_region_law (refine step_copy rfl _ _ 88 88 rfl (.slice (some ⟨w.heap.size, (i + 1) * 2, none⟩) (n + 1 - (i + 1)) (G - (i + 1))) (.slice (some ⟨Ms, i * 2, none⟩) (n - i) (n - i)) (by simp [Act.eval, Act.put]) (by simp [Act.eval, Act.put]) (HA2.out _) ?_)
    go_wp2
    go_ret
    exact ⟨⟨w.heap.size, _, rfl, HW3.out.2⟩, HW3.out.1⟩
end Go.Proofs.YtooninmicfcfoaaGreat.PrtQ
namespace Go.Proofs.YtooninmicfcfoaaGreat.PrtR
open Go.RowKit
open Labs LabS Alms AlmM Over Blk App Rws ChnI ChnC ChnP ChnK Chs Prt PrtO PrtF PrtC PrtH PrtL PrtN PrtQ Mps
open PrtI (shG_first shG_miss cntF_zero)
open Fing (fingerB)

theorem moved_map {ι : Type} {enc : ι → Value} {w w' : World} {b : Nat} {g : ι → Option Value} (hm : MapG enc w b g) (hg : w.grownBy w' (some b)) : Moved w w' := ⟨fun h => blk_map h hm hg, fun h => blk_map h hm hg⟩
theorem howS_any (Ms c b0 : Nat) (ks : List (Int × Int)) (f : Int) (w : World) (hs : SlotL w Ms ks) (hc : w.cell? ⟨b0, 0, none⟩ = some (.int .i64 f)) (hl : ks.length ≤ 1048576) :
    Calls Tryz.prog 122 #[.slice (some ⟨Ms, 0, none⟩) ks.length c, .func (.func 123) #[] #[.pointer (some ⟨b0, 0, none⟩)]] w fun e w' => e = .returned (.int .i64 (gtO ks f ks.length : Int)) ∧ Below w.heap.size w w' := by
  have HI : Hid (Calls Tryz.prog 161 #[.slice (some ⟨Ms, 0, none⟩) ks.length c, .func (.func 123) #[] #[.pointer (some ⟨b0, 0, none⟩)]] w fun e w' => (∃ x : Int, e = .returned (.int .i64 x) ∧ ((x = -1 ∧ gtO ks f ks.length = ks.length) ∨ (x = (gtO ks f ks.length : Int) ∧ gtO ks f ks.length < ks.length))) ∧ Below w.heap.size w w') := indexS_any Ms c b0 ks f w hs hc hl
  clear hs hc hl
  go_enter Tryz.func122, Tryz.ntmps122
  go_wp2_with fail
  refine HI.out.mono ?_
  rintro e w1 ⟨⟨x, rfl, hx⟩, hb1⟩
  have HB1 : Hid (Below w.heap.size w w1) := hb1
  clear hb1 HI
  rcases hx with ⟨rfl, he⟩ | ⟨hx, he⟩
  · have HE : Hid (gtO ks f ks.length = ks.length) := he
    clear he
    go_wp2
    go_ret
    exact ⟨ChnI.retI (by rw [HE.out]), HB1.out⟩
  · have h0 : (0 : Int) ≤ x := by omega
    have HE : Hid (x = (gtO ks f ks.length : Int)) := hx
    clear hx he
    go_wp2
    go_ret
    exact ⟨ChnI.retI HE.out, HB1.out⟩
theorem gt_le (ks : List (Int × Int)) (f : Int) : ∀ n, gtO ks f n ≤ n
  | 0 => Nat.le_refl _
  | n + 1 => by
    have h := gt_le ks f n
    rw [gtO]
    split <;> omega
set_option maxHeartbeats 800000 in
theorem withSlot_any (Ms : Nat) (ks : List (Int × Int)) (x : Int × Int) (sc : Array Value) (w : World) (hS : Blk w Ms sc 94) (hsc : sc.toList = flatK ks) (hl : ks.length ≤ 1048576) :
    Calls Tryz.prog 66 #[.slice (some ⟨Ms, 0, none⟩) ks.length ks.length, .agg #[.int .i64 x.1, .int .i64 x.2]] w fun e w' => (∃ M c, e = .returned (.slice (some ⟨M, 0, none⟩) (ks.length + 1) c) ∧ SlotL w' M (ks.take (gtO ks x.1 ks.length) ++ x :: ks.drop (gtO ks x.1 ks.length))) ∧ Below w.heap.size w w' := by
  have HR : Hid (Blk w Ms sc 94 ∧ sc.toList = flatK ks) := ⟨hS, hsc⟩
  clear hS hsc
  go_enter Tryz.func66, Tryz.ntmps66
  go_wp2_with fail
  obtain ⟨W0, hW0⟩ : ∃ W0, w.alloc (.cells #[.int .i64 x.1, .int .i64 x.2] 94) = W0 := ⟨_, rfl⟩
  have H0 : Hid (Below w.heap.size w W0 ∧ Blk W0 w.heap.size #[.int .i64 x.1, .int .i64 x.2] 94) := by rw [← hW0]; exact ⟨Go.Joins.below_alloc1 w _, Blk.new _ _ _⟩
  try rw [hW0]
  clear hW0
  refine (howS_any Ms ks.length w.heap.size ks x.1 W0 (slot_of (r := []) (HR.out.1.grow H0.out.1) (by rw [HR.out.2]; simp)) (H0.out.2.cell 0) hl).mono ?_
  rintro e w2 ⟨rfl, hb2⟩
  have HB2 : Hid (Below W0.heap.size W0 w2) := hb2
  have q0 : w2.cell? ⟨w.heap.size, 0, none⟩ = some (.int .i64 x.1) := (H0.out.2.grow hb2).cell 0
  have q1 : w2.cell? ⟨w.heap.size, 1, none⟩ = some (.int .i64 x.2) := (H0.out.2.grow hb2).cell 1
  have HI : Hid (∀ i : Nat, i ≤ ks.length → Calls Tryz.prog 124 #[.slice (some ⟨Ms, 0, none⟩) ks.length ks.length, .int .i64 i, .slice (some ⟨w2.heap.size, 0, none⟩) 1 1] (w2.alloc (.cells #[.int .i64 x.1, .int .i64 x.2] 94)) fun e w' => (∃ M c, e = .returned (.slice (some ⟨M, 0, none⟩) (ks.length + 1) c) ∧ SlotL w' M (ks.take i ++ x :: ks.drop i)) ∧ Below w2.heap.size w2 w') := fun i hi => (insertS_any Ms w2.heap.size ks x i sc _ (((HR.out.1.grow H0.out.1).grow HB2.out).alloc _) HR.out.2 (Blk.new _ _ _) hi hl).mono fun e w' h => ⟨h.1, grow_on (Go.Joins.below_alloc1 w2 _) h.2⟩
  have HG : Hid (gtO ks x.1 ks.length ≤ ks.length) := gt_le ks x.1 ks.length
  clear hb2
  go_wp2_with fail
  refine (HI.out _ HG.out).mono ?_
  rintro e w3 ⟨⟨M, c, rfl, hs⟩, hb3⟩
  have H3 : Hid (SlotL w3 M (ks.take (gtO ks x.1 ks.length) ++ x :: ks.drop (gtO ks x.1 ks.length)) ∧ Below w.heap.size w w3) := ⟨hs, grow_on (grow_on H0.out.1 HB2.out) hb3⟩
  clear hs hb3
  go_wp2
  go_ret
  exact ⟨⟨M, c, rfl, H3.out.1⟩, H3.out.2⟩

def keysC (C : List PCh) : List (Int × Int) := (List.range C.length).map (keyC C)
theorem keys_len (C : List PCh) : (keysC C).length = C.length := by simp [keysC]
theorem keys_nth {C : List PCh} {i : Nat} (h : i < C.length) : nthK (keysC C) i = keyC C i := by rw [nthK_eq (by rw [keys_len]; exact h)]; simp [keysC]
theorem slots_flat {w : World} {M : Nat} {C : List PCh} {cs : Array Value} (h : SlotsK w M C C.length cs) : cs.toList = flatK (keysC C) := by
  have hs := h.size
  apply List.ext_getElem?
  intro j
  by_cases hj : j < C.length * 2
  · obtain ⟨i, r, hi, hr, e⟩ : ∃ i r, i < C.length ∧ r < 2 ∧ j = i * 2 + r := ⟨j / 2, j % 2, by omega, Nat.mod_lt _ (by omega), by omega⟩
    obtain ⟨a0, a1⟩ := h.cell i hi
    obtain ⟨b0, b1⟩ := flatK_get (keysC C) i (by rw [keys_len]; exact hi)
    rw [keys_nth hi] at b0 b1
    subst e
    have hc : ∀ k : Nat, cs.toList[k]? = cs[k]? := fun k => by simp
    match r, hr with
    | 0, _ => rw [hc]; exact a0.trans b0.symm
    | 1, _ => rw [hc]; exact a1.trans b1.symm
  · rw [List.getElem?_eq_none (by rw [Array.length_toList, hs]; omega), List.getElem?_eq_none (by rw [flatK_len, keys_len]; omega)]
theorem gt_pos {C : List PCh} {f : Int} (h : ∀ j, j < C.length → (nthC C j).f ≠ f) : ∀ {k : Nat}, k ≤ C.length → gtO (keysC C) f k = posTo C f k
  | 0, _ => rfl
  | k + 1, hk => by
    have ih := gt_pos h (k := k) (by omega)
    have hne := h k (by omega)
    rw [gtO, posTo, ih, keys_nth (by omega)]
    have e : (keyC C k).1 = (nthC C k).f := rfl
    rw [e]
    by_cases q : posTo C f k = k
    · by_cases q2 : (nthC C k).f < f
      · rw [if_pos ⟨q, by omega⟩, if_pos ⟨q, q2⟩]
      · rw [if_neg (fun x => by have := x.2; omega), if_neg (fun x => q2 x.2)]
    · rw [if_neg (fun x => q x.1), if_neg (fun x => q x.1)]
theorem gt_posB {C : List PCh} {f : Int} (h : ∀ j, j < C.length → (nthC C j).f ≠ f) : gtO (keysC C) f (keysC C).length = posB C f := by rw [keys_len]; exact gt_pos h (Nat.le_refl _)
theorem laid_somes (l : List PCh) : laidTo (l.map some) (l.map some).length = l := by
  unfold laidTo
  rw [List.take_length]
  induction l with
  | nil => rfl
  | cons x l ih => simp
theorem somes_nth {l : List PCh} {i : Nat} (h : i < l.length) : nthV (l.map some) i = some (nthC l i) := by rw [nthV_eq (by simpa using h), nthC_eq h]; simp
theorem ent_other {W0 u : World} {C : List PCh} {ad : Nat → Option Addr} {cp : Nat → Nat} {i : Nat} (hr : RdA W0 (ad i) (nthC C i).P) (hb : Below W0.heap.size W0 u) {o : Option Value} (ho : o = some (chV (nthC C i) (ad i) (cp i))) : Ent u o (some (nthC C i)) := ⟨ad i, cp i, ho, hr.below hb⟩
theorem put_small {P : List PAl} {x : PAl} (h : P.length + 1 ≤ 1048576) (hs : LenM P) (hx : x.l.length ≤ 1048576) : (putL P x).length ≤ 1048576 ∧ LenM (putL P x) := by
  refine ⟨by have := (put_sum P x).2; omega, fun j hj => ?_⟩
  have hm : nthP (putL P x) j ∈ putL P x := by rw [nthP_eq hj]; exact List.getElem_mem _
  generalize nthP (putL P x) j = y at hm ⊢
  have hin : y ∈ P → y.l.length ≤ 1048576 := fun hm => by
    obtain ⟨q, hq, e⟩ := List.getElem_of_mem hm
    have := hs q hq
    rw [nthP_eq hq, e] at this
    exact this
  rcases idxTo_cases P x.l P.length with hq | ⟨k, h0, h1, h2⟩
  · rw [(put_miss hq).1] at hm
    rcases List.mem_append.1 hm with hm | hm
    · exact hin hm
    · rw [List.mem_singleton.1 hm]; exact hx
  · rw [(put_hit h2 h1 h0).1] at hm
    rcases List.mem_or_eq_of_mem_set hm with hm | hm
    · exact hin hm
    · rw [hm]; exact hx
structure Plan (C : List PCh) (x : PAl) (C' : List PCh) (ks : List (Int × Int)) (Fc : Int) (Pc : List PAl) : Prop where
  len : ks.length = C'.length
  all : C' = putC C x
  new : isNew Pc x.l = newC C x
  here : ∀ i, i < C'.length → nthK ks i = ((fingerB x.l : Int), 0) → nthC C' i = ⟨Fc, putL Pc x⟩
  lens : ∀ i, i < C'.length → (nthC C' i).P.length ≤ 1048576 ∧ LenM (nthC C' i).P
def Others (C : List PCh) (x : PAl) (ks : List (Int × Int)) : Prop := ∀ i, i < ks.length → nthK ks i ≠ ((fingerB x.l : Int), 0) → ∃ j, j < C.length ∧ nthK ks i = keyC C j ∧ nthC (putC C x) i = nthC C j
theorem nthC_mem' {C : List PCh} {i : Nat} (h : i < C.length) : nthC C i ∈ C := by rw [nthC_eq h]; exact List.getElem_mem _
theorem ins_get {α : Type} (l : List α) (p i : Nat) (y : α) (hp : p ≤ l.length) : (l.take p ++ y :: l.drop p)[i]? = if i < p then l[i]? else if i = p then some y else l[i - 1]? := by
  have hl : (l.take p).length = p := by rw [List.length_take]; omega
  by_cases h : i < p
  · rw [if_pos h, List.getElem?_append_left (by omega), List.getElem?_take]; rw [if_pos h]
  · rw [if_neg h, List.getElem?_append_right (by omega), hl]
    by_cases e : i = p
    · rw [if_pos e, e, Nat.sub_self]; rfl
    · rw [if_neg e]
      obtain ⟨d, hd⟩ : ∃ d, i - p = d + 1 := ⟨i - p - 1, by omega⟩
      rw [hd, List.getElem?_cons_succ, List.getElem?_drop]
      congr 1; omega
theorem plan_some {C : List PCh} {x : PAl} {k : Nat} (h0 : atO C (fingerB x.l) = some k) (hk : k < C.length) (h3 : (nthC C k).f = fingerB x.l) (h4 : ∀ j, j < k → (nthC C j).f ≠ fingerB x.l) (hs : Small C) (hx : x.l.length ≤ 1048576) (hc : (nthC C k).P.length + 1 ≤ 1048576) :
    Plan C x (putC C x) (keysC C) (nthC C k).f (nthC C k).P ∧ Others C x (keysC C) := by
  obtain ⟨e1, e2⟩ := put_some h0
  have ek : keyC C k = ((fingerB x.l : Int), 0) := by unfold keyC; rw [h3, cntF_zero h4]; rfl
  have hln : (putC C x).length = C.length := by rw [e1, List.length_set]
  have hget : ∀ i, i < C.length → nthC (putC C x) i = if i = k then ⟨(nthC C k).f, putL (nthC C k).P x⟩ else nthC C i := fun i hi => by
    rw [e1, nthC_eq (by rw [List.length_set]; exact hi), List.getElem_set, nthC_eq hi]
    by_cases q : i = k
    · rw [if_pos q.symm, if_pos q]
    · rw [if_neg (fun e => q e.symm), if_neg q]
  refine ⟨⟨by rw [keys_len, hln], rfl, e2.symm, fun i hi he => ?_, fun i hi => ?_⟩, fun i hi he => ?_⟩
  · rw [hln] at hi
    rw [keys_nth hi, ← ek] at he
    rw [hget i hi, if_pos (keyC_inj he)]
  · rw [hln] at hi
    rw [hget i hi]
    by_cases q : i = k
    · rw [if_pos q]; exact put_small hc (hs _ (nthC_mem' hk)).2 hx
    · rw [if_neg q]; exact hs _ (nthC_mem' hi)
  · rw [keys_len] at hi
    rw [keys_nth hi] at he ⊢
    refine ⟨i, hi, rfl, ?_⟩
    rw [hget i hi, if_neg fun q => he (by rw [q, ek])]
theorem plan_none {C : List PCh} {x : PAl} (h0 : atO C (fingerB x.l) = none) (h2 : ∀ j, j < C.length → (nthC C j).f ≠ fingerB x.l) (hs : Small C) (hx : x.l.length ≤ 1048576) {ks : List (Int × Int)} (hks : ks = (keysC C).take (posB C (fingerB x.l)) ++ ((fingerB x.l : Int), 0) :: (keysC C).drop (posB C (fingerB x.l))) :
    Plan C x (putC C x) ks (fingerB x.l) [] ∧ Others C x ks := by
  obtain ⟨e1, e2⟩ := put_none h0
  have hp := pos_le C (fingerB x.l)
  generalize hq : posB C (fingerB x.l) = p at *
  have hln : (putC C x).length = C.length + 1 := by rw [e1]; simp; omega
  have hkl : ks.length = C.length + 1 := by rw [hks]; simp [keys_len]; omega
  have hgk : ∀ i, i < C.length + 1 → nthK ks i = if i < p then keyC C i else if i = p then ((fingerB x.l : Int), 0) else keyC C (i - 1) := fun i hi => by
    have h := ins_get (keysC C) p i ((fingerB x.l : Int), 0) (by rw [keys_len]; exact hp)
    rw [← hks, List.getElem?_eq_getElem (by omega)] at h
    rw [nthK_eq (by omega)]
    by_cases q : i < p
    · rw [if_pos q] at h ⊢
      rw [List.getElem?_eq_getElem (by rw [keys_len]; omega)] at h
      rw [← keys_nth (by omega), nthK_eq (by rw [keys_len]; omega)]; exact Option.some.inj h
    · rw [if_neg q] at h ⊢
      by_cases q2 : i = p
      · rw [if_pos q2] at h ⊢; exact Option.some.inj h
      · rw [if_neg q2] at h ⊢
        rw [List.getElem?_eq_getElem (by rw [keys_len]; omega)] at h
        rw [← keys_nth (by omega), nthK_eq (by rw [keys_len]; omega)]; exact Option.some.inj h
  have hgc : ∀ i, i < C.length + 1 → nthC (putC C x) i = if i < p then nthC C i else if i = p then ⟨fingerB x.l, [x]⟩ else nthC C (i - 1) := fun i hi => by
    have h := ins_get C p i (⟨fingerB x.l, [x]⟩ : PCh) hp
    rw [← e1, List.getElem?_eq_getElem (by omega)] at h
    rw [nthC_eq (by omega)]
    by_cases q : i < p
    · rw [if_pos q] at h ⊢
      rw [List.getElem?_eq_getElem (by omega)] at h
      rw [nthC_eq (by omega)]; exact Option.some.inj h
    · rw [if_neg q] at h ⊢
      by_cases q2 : i = p
      · rw [if_pos q2] at h ⊢; exact Option.some.inj h
      · rw [if_neg q2] at h ⊢
        rw [List.getElem?_eq_getElem (by omega)] at h
        rw [nthC_eq (by omega)]; exact Option.some.inj h
  have hput : putL [] x = [x] := (put_miss (P := []) (a := x) (fun j hj => absurd hj (by simp))).1
  have hnew : isNew [] x.l = true := (put_miss (P := []) (a := x) (fun j hj => absurd hj (by simp))).2
  have hk2 : ∀ j, j < C.length → keyC C j ≠ ((fingerB x.l : Int), 0) := fun j hj e => h2 j hj (congrArg Prod.fst e)
  refine ⟨⟨by omega, rfl, by rw [hnew, e2], fun i hi he => ?_, fun i hi => ?_⟩, fun i hi he => ?_⟩
  · rw [hln] at hi
    rw [hgk i hi] at he
    rw [hgc i hi, hput]
    by_cases q : i < p
    · rw [if_pos q] at he; exact absurd he (hk2 i (by omega))
    · rw [if_neg q] at he ⊢
      by_cases q2 : i = p
      · rw [if_pos q2]
      · rw [if_neg q2] at he; exact absurd he (hk2 (i - 1) (by omega))
  · rw [hln] at hi
    rw [hgc i hi]
    by_cases q : i < p
    · rw [if_pos q]; exact hs _ (nthC_mem' (by omega))
    · rw [if_neg q]
      by_cases q2 : i = p
      · rw [if_pos q2, ← hput]; exact put_small (P := []) (by simp) (fun j hj => absurd hj (by simp)) hx
      · rw [if_neg q2]; exact hs _ (nthC_mem' (by omega))
  · rw [hkl] at hi
    rw [hgk i hi] at he ⊢
    rw [hgc i hi]
    by_cases q : i < p
    · rw [if_pos q, if_pos q]; exact ⟨i, by omega, rfl, rfl⟩
    · rw [if_neg q] at he
      rw [if_neg q, if_neg q]
      by_cases q2 : i = p
      · rw [if_pos q2] at he; exact absurd rfl he
      · rw [if_neg q2, if_neg q2]; exact ⟨i - 1, by omega, rfl, rfl⟩
theorem slot_kept {w w' : World} {M : Nat} {ks : List (Int × Int)} (h : SlotL w M ks) (hb : ∀ {cs : Array Value}, Blk w M cs 94 → Blk w' M cs 94) : SlotL w' M ks := by
  obtain ⟨cs, h1, h2⟩ := h
  exact ⟨cs, hb h1, h2⟩
end Go.Proofs.YtooninmicfcfoaaGreat.PrtR
namespace Go.Proofs.YtooninmicfcfoaaGreat.PrtZ
open Go.RowKit
open Labs LabS Alms AlmM Over Blk App Rws ChnI ChnC ChnP ChnK Chs Prt PrtO PrtF PrtC PrtH PrtL PrtN PrtQ PrtR Mps
open PrtI (shG_first shG_miss)
open Fing (fingerB)

set_option maxRecDepth 100000 in
set_option maxHeartbeats 4000000 in
theorem implPut_any (hd vr : Int) (a : Option Addr) (cap : Nat) (C : List PCh) (g o cap' : Nat) (x : PAl) (w : World) (hr : RdG RdA w a C) (hx : Reads w (some ⟨g, o, none⟩) x.l) (hl : C.length ≤ 1048576) (hs : Small C) (hc : C.length + sumC C ≤ 1048576) (hxl : x.l.length ≤ 1048576) (hxf : LabT.Fits x.l) :
    Calls Tryz.prog 9 #[.agg #[.int .i64 hd, .int .i64 vr, .slice a C.length cap], .agg #[.slice (some ⟨g, o, none⟩) x.l.length cap', .int .i64 x.s, .int .i64 x.e, .string x.n]] w fun e w' => (∃ M c cs, e = .returned (.tuple #[.agg #[.int .i64 hd, .int .i64 (IntKind.i64.wrap (vr + 1)), .slice (some ⟨M, 0, none⟩) cs.length c], .bool (newC C x)]) ∧ CB w.heap.size w' M c cs ∧ chs cs = putC C x) ∧ Below w.heap.size w w' := by
  have HR : Hid (RdG RdA w a C ∧ Reads w (some ⟨g, o, none⟩) x.l ∧ Small C ∧ C.length + sumC C ≤ 1048576 ∧ x.l.length ≤ 1048576 ∧ LabT.Fits x.l) := ⟨hr, hx, hs, hc, hxl, hxf⟩
  clear hr hx hs hc hxl hxf
  obtain ⟨vu, hvu⟩ : ∃ vu, IntKind.i64.wrap (vr + 1) = vu := ⟨_, rfl⟩
  rw [hvu]
  go_enter Tryz.func9, Tryz.ntmps9
  go_wp2_with fail
  obtain ⟨W0, hW0⟩ : ∃ W0, ((w.alloc (.cells #[.int .i64 hd, .int .i64 vr, .slice a C.length cap] 26)).alloc (.cells #[.slice (some ⟨g, o, none⟩) x.l.length cap', .int .i64 x.s, .int .i64 x.e, .string x.n] 29)).alloc (.cells #[.int .i64 0, .int .i64 0, .slice none 0 0] 26) = W0 := ⟨_, rfl⟩
  have HW0 : Hid (Below w.heap.size w W0 ∧ Blk W0 w.heap.size #[.int .i64 hd, .int .i64 vr, .slice a C.length cap] 26 ∧ Blk W0 (w.heap.size + 1) #[.slice (some ⟨g, o, none⟩) x.l.length cap', .int .i64 x.s, .int .i64 x.e, .string x.n] 29 ∧ Blk W0 (w.heap.size + 2) #[.int .i64 0, .int .i64 0, .slice none 0 0] 26 ∧ W0.heap.size = w.heap.size + 3) := by
    rw [← hW0]
    exact ⟨Alm.below3 w _ _ _, ((Blk.new _ _ _).alloc _).alloc _, (Blk.new_at (by simp)).alloc _, Blk.new_at (by simp), by simp⟩
  rw [hW0]
  clear hW0
  refine (shelve_any a cap C W0 (HR.out.1.below stays_rd HW0.out.1) hl).mono ?_
  rintro e w2 ⟨⟨Mm, Ms, rfl, ad, cp, hsh⟩, hb2⟩
  obtain ⟨sc, hsc⟩ := hsh.slots
  obtain ⟨W3, hW3⟩ : ∃ W3, w2.alloc (.cells #[.map (some Mm), .slice (some ⟨Ms, 0, none⟩) C.length C.length] 90) = W3 := ⟨_, rfl⟩
  have hb3 : Below w2.heap.size w2 W3 := by rw [← hW3]; exact Go.Joins.below_alloc1 w2 _
  have H3 : Hid (Below W0.heap.size W0 W3 ∧ Blk W3 w2.heap.size #[.map (some Mm), .slice (some ⟨Ms, 0, none⟩) C.length C.length] 90 ∧ MapG TwoK W3 Mm (shG C (fun i => chV (nthC C i) (ad i) (cp i)) C.length) ∧ SlotsK W3 Ms C C.length sc ∧ W0.heap.size ≤ w2.heap.size) := ⟨grow_on hb2 hb3, by rw [← hW3]; exact Blk.new _ _ _, hsh.map.grow hb3, hsc.grow hb3, hb2.size⟩
  have HSH : Hid ((∀ i, i < C.length → RdA W0 (ad i) (nthC C i).P) ∧ W0.heap.size ≤ Mm ∧ W0.heap.size ≤ Ms) := ⟨hsh.reads, hsh.lm, hsh.ls⟩
  have a0 : W3.cell? ⟨w.heap.size + 1, 0, none⟩ = some (.slice (some ⟨g, o, none⟩) x.l.length cap') := (HW0.out.2.2.1.grow H3.out.1).cell 0
  clear hsh hsc hb2 hb3
  go_wp2_with fail
  refine (Fing.implFinger_any _ cap' x.l W3 (HR.out.2.1.below (grow_on HW0.out.1 H3.out.1)) (by have := HR.out.2.2.2.2.1; unfold maxLen; omega) HR.out.2.2.2.2.2).mono ?_
  rintro e w4 ⟨rfl, hb4⟩
  go_upto_region 3 with fail
  obtain ⟨W5, hW5⟩ : ∃ W5, w4.alloc (.cells #[.int .i64 (fingerB x.l : Int), .int .i64 0] 94) = W5 := ⟨_, rfl⟩
  have hb5 : Below W3.heap.size W3 W5 := by rw [← hW5]; exact grow_on hb4 (Go.Joins.below_alloc1 w4 _)
  have H5 : Hid (Below W0.heap.size W0 W5 ∧ Blk W5 w2.heap.size #[.map (some Mm), .slice (some ⟨Ms, 0, none⟩) C.length C.length] 90 ∧ MapG TwoK W5 Mm (shG C (fun i => chV (nthC C i) (ad i) (cp i)) C.length) ∧ SlotsK W5 Ms C C.length sc ∧ Blk W5 w4.heap.size #[.int .i64 (fingerB x.l : Int), .int .i64 0] 94 ∧ W0.heap.size ≤ w4.heap.size) := ⟨grow_on H3.out.1 hb5, H3.out.2.1.grow hb5, H3.out.2.2.1.grow hb5, H3.out.2.2.2.1.grow hb5, by rw [← hW5]; exact Blk.new _ _ _, Nat.le_trans H3.out.1.size hb4.size⟩
  have m0 : W5.cell? ⟨w2.heap.size, 0, none⟩ = some (.map (some Mm)) := H5.out.2.1.cell 0
  have t0 : W5.cell? ⟨w4.heap.size, 0, none⟩ = some (.int .i64 (fingerB x.l : Int)) := H5.out.2.2.2.2.1.cell 0
  have t1 : W5.cell? ⟨w4.heap.size, 1, none⟩ = some (.int .i64 0) := H5.out.2.2.2.2.1.cell 1
  clear hb4 hb5 a0 hW3
  try rw [hW5]
  clear hW5
  rcases at_cases C (fingerB x.l : Int) with ⟨h0, h1, h2⟩ | ⟨k, h0, h1, hk, h3, h4⟩
  · have HLk : Hid (shG C (fun i => chV (nthC C i) (ad i) (cp i)) C.length ((fingerB x.l : Int), 0) = none) := shG_miss h2
    obtain ⟨ks, hks⟩ : ∃ ks : List (Int × Int), ks = (keysC C).take (posB C (fingerB x.l : Int)) ++ ((fingerB x.l : Int), 0) :: (keysC C).drop (posB C (fingerB x.l : Int)) := ⟨_, rfl⟩
    have hpl := plan_none h0 h2 HR.out.2.2.1 HR.out.2.2.2.2.1 hks
    have HPl : Hid (Plan C x (putC C x) ks (fingerB x.l : Int) []) := hpl.1
    have HO : Hid (Others C x ks) := hpl.2
    have HKL : Hid (ks.length = C.length + 1 ∧ C.length + 1 ≤ 1048577) := ⟨by rw [hks]; have := pos_le C (fingerB x.l : Int); simp [keys_len]; omega, by omega⟩
    have HWS : Hid (∀ z, Blk z Ms sc 94 → Calls Tryz.prog 66 #[.slice (some ⟨Ms, 0, none⟩) C.length C.length, .agg #[.int .i64 (fingerB x.l : Int), .int .i64 0]] z fun e w' => (∃ M c, e = .returned (.slice (some ⟨M, 0, none⟩) ks.length c) ∧ SlotL w' M ks) ∧ Below z.heap.size z w') := fun z hz => by
      have h := withSlot_any Ms (keysC C) ((fingerB x.l : Int), 0) sc z hz (slots_flat H5.out.2.2.2.1) (by rw [keys_len]; exact hl)
      rw [gt_posB h2, ← hks, keys_len, ← HKL.out.1] at h
      exact h
    clear h0 h1 h2 hpl hks
    obtain ⟨W6, hW6⟩ : ∃ W6, W5.alloc (.cells #[.int .i64 0, .slice none 0 0] 96) = W6 := ⟨_, rfl⟩
    have HW6 : Hid (W5.alloc (.cells #[.int .i64 0, .slice none 0 0] 96) = W6) := hW6
    have hb6 : Below W5.heap.size W5 W6 := by rw [← hW6]; exact Go.Joins.below_alloc1 W5 _
    have hB6 : Blk W6 W5.heap.size #[.int .i64 0, .slice none 0 0] 96 := by rw [← hW6]; exact Blk.new _ _ _
    obtain ⟨W7, hW7⟩ : ∃ W7, (W6.setCell ⟨W5.heap.size, 0, none⟩ (.int .i64 (fingerB x.l : Int))).setCell ⟨W5.heap.size, 1, none⟩ (.slice none 0 0) = W7 := ⟨_, rfl⟩
    have H7 : Hid (Below W5.heap.size W5 W7 ∧ Blk W7 W5.heap.size #[.int .i64 (fingerB x.l : Int), .slice none 0 0] 96) := by rw [← hW7]; exact ⟨set2 hb6 (Nat.le_refl _) _ _, (hB6.set 0 _).set 1 _⟩
    have u0 : W6.cell? ⟨W5.heap.size, 0, none⟩ = some (.int .i64 0) := hB6.cell 0
    have u1 : W6.cell? ⟨W5.heap.size, 1, none⟩ = some (.slice none 0 0) := hB6.cell 1
    have f0 := hB6.frozen 0
    have f1 := hB6.frozen 1
    have s0 : W6.cell? ⟨w4.heap.size, 0, none⟩ = some (.int .i64 (fingerB x.l : Int)) := (H5.out.2.2.2.2.1.grow hb6).cell 0
    have r0 : W7.cell? ⟨w4.heap.size, 0, none⟩ = some (.int .i64 (fingerB x.l : Int)) := (H5.out.2.2.2.2.1.grow H7.out.1).cell 0
    have r1 : W7.cell? ⟨w4.heap.size, 1, none⟩ = some (.int .i64 0) := (H5.out.2.2.2.2.1.grow H7.out.1).cell 1
    have v1 : W7.cell? ⟨w2.heap.size, 1, none⟩ = some (.slice (some ⟨Ms, 0, none⟩) C.length C.length) := (H5.out.2.1.grow H7.out.1).cell 1
    clear hb6 hB6 hW6
    go_upto_region 4 with (at_lookup; refine wp_lookup _ rfl _ _ 87 true rfl 94 96 TwoK asked_slot Tryz.underlying87 (zeroC _) Mm (shG C (fun i => chV (nthC C i) (ad i) (cp i)) C.length) rfl H5.out.2.2.1 ((fingerB x.l : Int), 0) rfl (.tuple #[.agg #[.int .i64 0, .slice none 0 0], .bool false]) (by rw [HLk.out]; rfl) ?_)
    try rw [HW6.out]
    clear HW6 m0 t0 t1
    go_wp2_with fail
    refine (HWS.out W7 (H5.out.2.2.2.1.blk.grow H7.out.1)).mono ?_
    rintro e w8 ⟨⟨Mz, cz, rfl, hsl⟩, hb8⟩
    have hB8 := (H5.out.2.1.grow H7.out.1).grow hb8
    have p1 : w8.cell? ⟨w2.heap.size, 1, none⟩ = some (.slice (some ⟨Ms, 0, none⟩) C.length C.length) := hB8.cell 1
    have pf := hB8.frozen 1
    obtain ⟨Wt, hWt⟩ : ∃ Wt, w8.setCell ⟨w2.heap.size, 1, none⟩ (.slice (some ⟨Mz, 0, none⟩) ks.length cz) = Wt := ⟨_, rfl⟩
    have HT : Hid (Below W0.heap.size W0 Wt ∧ Blk Wt W5.heap.size #[.int .i64 (fingerB x.l : Int), .slice none 0 0] 96 ∧ Blk Wt w4.heap.size #[.int .i64 (fingerB x.l : Int), .int .i64 0] 94 ∧ Blk Wt w2.heap.size #[.map (some Mm), .slice (some ⟨Mz, 0, none⟩) ks.length cz] 90 ∧ MapG TwoK Wt Mm (shG C (fun i => chV (nthC C i) (ad i) (cp i)) C.length) ∧ SlotL Wt Mz ks ∧ RdA Wt none []) := by
      rw [← hWt]
      have hc := H7.out.2.grow hb8
      have ht := (H5.out.2.2.2.2.1.grow H7.out.1).grow hb8
      have hm := (H5.out.2.2.1.grow H7.out.1).grow hb8
      exact ⟨ChnI.set_low (grow_on (grow_on H5.out.1 H7.out.1) hb8) (by have := H3.out.2.2.2.2; omega) 1 _, hc.set_other (p := ⟨w2.heap.size, 1, none⟩) (blkT_ne hB8 hc (by decide)) _, ht.set_other (p := ⟨w2.heap.size, 1, none⟩) (blkT_ne hB8 ht (by decide)) _, hB8.set 1 _, hm.set (Ne.symm (Ne.symm (hm.ne_blk hB8))), slot_kept hsl (fun h => h.set_other (p := ⟨w2.heap.size, 1, none⟩) (blkT_ne hB8 h (by decide)) _), .inl rfl⟩
    have HN : Hid (W0.heap.size ≤ W5.heap.size) := H5.out.1.size
    have HPc : Hid (([] : List PAl).length ≤ 1048576 ∧ LenM []) := ⟨by simp, fun j hj => absurd hj (by simp)⟩
    clear u0 u1 f0 f1 s0 r0 r1 v1 hsl hb8 hB8

    have HAB : Hid (Blk Wt (w.heap.size + 1) #[.slice (some ⟨g, o, none⟩) x.l.length cap', .int .i64 x.s, .int .i64 x.e, .string x.n] 29) := HW0.out.2.2.1.grow HT.out.1
    have b0 : Wt.cell? ⟨W5.heap.size, 0, none⟩ = some (.int .i64 (fingerB x.l : Int)) := HT.out.2.1.cell 0
    have b1 : Wt.cell? ⟨W5.heap.size, 1, none⟩ = some (.slice none 0 0) := HT.out.2.1.cell 1
    have a0 : Wt.cell? ⟨w.heap.size + 1, 0, none⟩ = some (.slice (some ⟨g, o, none⟩) x.l.length cap') := HAB.out.cell 0
    have a1 : Wt.cell? ⟨w.heap.size + 1, 1, none⟩ = some (.int .i64 x.s) := HAB.out.cell 1
    have a2 : Wt.cell? ⟨w.heap.size + 1, 2, none⟩ = some (.int .i64 x.e) := HAB.out.cell 2
    have a3 : Wt.cell? ⟨w.heap.size + 1, 3, none⟩ = some (.string x.n) := HAB.out.cell 3
    go_wp2_with fail
    refine (ChnP.implPut_any (fingerB x.l : Int) none 0 [] g o cap' x Wt HT.out.2.2.2.2.2.2 (HR.out.2.1.below (grow_on HW0.out.1 HT.out.1)) HPc.out.1 HPc.out.2 HR.out.2.2.2.2.1).mono ?_
    rintro e w7 ⟨⟨M1, c1, rs1, rfl, hA, hp⟩, hb7⟩
    obtain ⟨W8, hW8⟩ : ∃ W8, (w7.setCell ⟨W5.heap.size, 0, none⟩ (.int .i64 (fingerB x.l : Int))).setCell ⟨W5.heap.size, 1, none⟩ (.slice (some ⟨M1, 0, none⟩) rs1.length c1) = W8 := ⟨_, rfl⟩
    have hB7 := HT.out.2.1.grow hb7
    have H8 : Hid (Below W0.heap.size W0 W8 ∧ Blk W8 W5.heap.size #[.int .i64 (fingerB x.l : Int), .slice (some ⟨M1, 0, none⟩) rs1.length c1] 96 ∧ Blk W8 w4.heap.size #[.int .i64 (fingerB x.l : Int), .int .i64 0] 94 ∧ Blk W8 w2.heap.size #[.map (some Mm), .slice (some ⟨Mz, 0, none⟩) ks.length cz] 90 ∧ MapG TwoK W8 Mm (shG C (fun i => chV (nthC C i) (ad i) (cp i)) C.length) ∧ SlotL W8 Mz ks ∧ AB Wt.heap.size W8 M1 c1 rs1) := by
      rw [← hW8]
      have n1 := blkT_ne hB7 (HT.out.2.2.1.grow hb7) (by decide)
      have n2 := blkT_ne hB7 (HT.out.2.2.2.1.grow hb7) (by decide)
      have n3 := (HT.out.2.2.2.2.1.grow hb7).ne_blk hB7
      exact ⟨set2 (grow_on HT.out.1 hb7) HN.out _ _, (hB7.set 0 _).set 1 _, ((HT.out.2.2.1.grow hb7).set_other (p := ⟨W5.heap.size, 0, none⟩) n1 _).set_other (p := ⟨W5.heap.size, 1, none⟩) n1 _, ((HT.out.2.2.2.1.grow hb7).set_other (p := ⟨W5.heap.size, 0, none⟩) n2 _).set_other (p := ⟨W5.heap.size, 1, none⟩) n2 _, ((HT.out.2.2.2.2.1.grow hb7).set n3).set n3, slot_kept (HT.out.2.2.2.2.2.1.grow hb7) (fun h => (h.set_other (p := ⟨W5.heap.size, 0, none⟩) (blkT_ne hB7 h (by decide)) _).set_other (p := ⟨W5.heap.size, 1, none⟩) (blkT_ne hB7 h (by decide)) _), ab_set2 hA hB7 _ _⟩
    have HL1 : Hid (rs1.length = (putL [] x).length ∧ pals rs1 = putL [] x) := ⟨by rw [← pals_len, hp], hp⟩
    have x0 : w7.cell? ⟨W5.heap.size, 0, none⟩ = some (.int .i64 (fingerB x.l : Int)) := hB7.cell 0
    have x1 : w7.cell? ⟨W5.heap.size, 1, none⟩ = some (.slice none 0 0) := hB7.cell 1
    have f0 := hB7.frozen 0
    have f1 := hB7.frozen 1
    have y0 : W8.cell? ⟨W5.heap.size, 0, none⟩ = some (.int .i64 (fingerB x.l : Int)) := H8.out.2.1.cell 0
    have y1 : W8.cell? ⟨W5.heap.size, 1, none⟩ = some (.slice (some ⟨M1, 0, none⟩) rs1.length c1) := H8.out.2.1.cell 1
    have k0 : W8.cell? ⟨w4.heap.size, 0, none⟩ = some (.int .i64 (fingerB x.l : Int)) := H8.out.2.2.1.cell 0
    have k1 : W8.cell? ⟨w4.heap.size, 1, none⟩ = some (.int .i64 0) := H8.out.2.2.1.cell 1
    have m1 : W8.cell? ⟨w2.heap.size, 0, none⟩ = some (.map (some Mm)) := H8.out.2.2.2.1.cell 0
    clear hA hp hb7 hB7 b0 b1 a0 a1 a2 a3
    go_wp2_with (at_mapUpdate; refine wp_update _ rfl _ _ _ 87 rfl 94 96 TwoK asked_slot Tryz.underlying87 Mm (shG C (fun i => chV (nthC C i) (ad i) (cp i)) C.length) rfl H8.out.2.2.2.2.1 ((fingerB x.l : Int), 0) (.agg #[.int .i64 (fingerB x.l : Int), .slice (some ⟨M1, 0, none⟩) rs1.length c1]) rfl rfl ?_)
    intro w9 hm9 hg9 hs9
    have hmp := H8.out.2.2.2.2.1
    have H9 : Hid (Below W0.heap.size W0 w9 ∧ Blk w9 w2.heap.size #[.map (some Mm), .slice (some ⟨Mz, 0, none⟩) ks.length cz] 90 ∧ MapG TwoK w9 Mm (updG (shG C (fun i => chV (nthC C i) (ad i) (cp i)) C.length) ((fingerB x.l : Int), 0) (some (.agg #[.int .i64 (fingerB x.l : Int), .slice (some ⟨M1, 0, none⟩) rs1.length c1]))) ∧ SlotL w9 Mz ks ∧ AB Wt.heap.size w9 M1 c1 rs1 ∧ Blk w9 w.heap.size #[.int .i64 hd, .int .i64 vr, .slice a C.length cap] 26 ∧ Blk w9 (w.heap.size + 2) #[.int .i64 0, .int .i64 0, .slice none 0 0] 26) := by
      have hb9 := mapDown H8.out.1 hg9 (Nat.le_refl _) HSH.out.2.1
      exact ⟨hb9, blk_map H8.out.2.2.2.1 hmp hg9, hm9, slot_kept H8.out.2.2.2.2.2.1 (fun h => blk_map h hmp hg9), Chs.ab_moved H8.out.2.2.2.2.2.2 (moved_map hmp hg9), HW0.out.2.1.grow hb9, HW0.out.2.2.2.1.grow hb9⟩
    clear hm9 hg9 hs9 hmp x0 x1 f0 f1 y0 y1 k0 k1 m1 hW8
    have HLA : Hid (∀ z, Below w9.heap.size w9 z → Calls Tryz.prog 68 #[.agg #[.map (some Mm), .slice (some ⟨Mz, 0, none⟩) ks.length cz]] z fun e w' => (∃ M c cs, e = .returned (.slice (some ⟨M, 0, none⟩) cs.length c) ∧ CB z.heap.size w' M c cs ∧ chs cs = putC C x) ∧ Below z.heap.size z w') := fun z hz => by
      have hln := HPl.out.len
      have h := laid_any Mm Mz cz _ ks ((putC C x).map some) z (H9.out.2.2.1.grow hz) (H9.out.2.2.2.1.grow hz) (by rw [List.length_map, hln]) (fun i hi => by
        rw [somes_nth (by omega)]
        by_cases e : nthK ks i = ((fingerB x.l : Int), 0)
        · rw [e, upd_at, HPl.out.here i (by omega) e]
          refine ⟨some ⟨M1, 0, none⟩, c1, by rw [HL1.out.1], ?_⟩
          have hrd := (H9.out.2.2.2.2.1.grow hz).rd.rd
          rw [HL1.out.2] at hrd
          exact hrd
        · rw [upd_no e]
          obtain ⟨j, hj, h1, h2⟩ := HO.out i hi e
          rw [h1, h2]
          exact ent_other (HSH.out.1 j hj) (grow_on H9.out.1 hz) (shG_at hj)) (by have := HKL.out.1; have := HKL.out.2; omega) (fun i y hi hv => by
        rw [somes_nth (by omega)] at hv
        cases hv
        exact HPl.out.lens i (by omega))
      have e : laidTo ((putC C x).map some) ks.length = putC C x := by have := laid_somes (putC C x); rw [List.length_map] at this; rw [hln]; exact this
      rw [e] at h
      exact h
    have HNW : Hid (isNew [] x.l = newC C x) := HPl.out.new
    go_upto_region 9 with fail
    have HS : Hid (∀ w', Blk w' w.heap.size #[.int .i64 hd, .int .i64 vr, .slice a C.length cap] 26 → Blk w' w2.heap.size #[.map (some Mm), .slice (some ⟨Mz, 0, none⟩) ks.length cz] 90 → w'.cell? ⟨w.heap.size, 0, none⟩ = some (.int .i64 hd) ∧ w'.cell? ⟨w.heap.size, 1, none⟩ = some (.int .i64 vr) ∧ w'.cell? ⟨w2.heap.size, 0, none⟩ = some (.map (some Mm)) ∧ w'.cell? ⟨w2.heap.size, 1, none⟩ = some (.slice (some ⟨Mz, 0, none⟩) ks.length cz)) := fun w' h k => ⟨h.cell 0, h.cell 1, k.cell 0, k.cell 1⟩
    refine wp_region_held_drew (S := fun w' => w'.cell? ⟨w.heap.size, 0, none⟩ = some (.int .i64 hd) ∧ w'.cell? ⟨w.heap.size, 1, none⟩ = some (.int .i64 vr) ∧ w'.cell? ⟨w2.heap.size, 0, none⟩ = some (.map (some Mm)) ∧ w'.cell? ⟨w2.heap.size, 1, none⟩ = some (.slice (some ⟨Mz, 0, none⟩) ks.length cz)) (by kernel_rfl) (HS.out _ H9.out.2.2.2.2.2.1.drew H9.out.2.1.drew) (fun hHeld => ?_)
    refine wpAnyH_take (i := 0) (oi := { dst := some 45, op := Op.fieldAddr 26 (Operand.tmp 2) 0, type := 0, pos := "l07_part.go:104", after := #[], guard := none }) (v := ?vy1) rfl (by kernel_rfl) (by kernel_rfl) (by kernel_rfl) (fun _ _ _ h => h) (Or.inl ⟨by rfl, ?hyy1⟩) hHeld ?_
    case hyy1 => (intro w hSw; (try dsimp only at hSw); go_simp <;> with_reducible rfl)
    try simp only [Act.put, List.setIfInBounds_toArray, List.set_cons_zero, List.set_cons_succ]
    refine wpAnyH_take (i := 1) (oi := { dst := some 46, op := Op.load 3 (Operand.tmp 45), type := 3, pos := "l07_part.go:104", after := #[{ on := 0, ground := Ground.data }], guard := none }) (v := ?vy2) rfl (by kernel_rfl) (by kernel_rfl) (by kernel_rfl) (fun _ _ _ h => h) (Or.inl ⟨by rfl, ?hyy2⟩) hHeld ?_
    case hyy2 => (intro w hSw; (try dsimp only at hSw); go_simp <;> with_reducible rfl)
    try simp only [Act.put, List.setIfInBounds_toArray, List.set_cons_zero, List.set_cons_succ]
    refine wpAnyH_take (i := 2) (oi := { dst := some 47, op := Op.fieldAddr 26 (Operand.tmp 2) 1, type := 0, pos := "l07_part.go:104", after := #[], guard := none }) (v := ?vy3) rfl (by kernel_rfl) (by kernel_rfl) (by kernel_rfl) (fun _ _ _ h => h) (Or.inl ⟨by rfl, ?hyy3⟩) hHeld ?_
    case hyy3 => (intro w hSw; (try dsimp only at hSw); go_simp <;> with_reducible rfl)
    try simp only [Act.put, List.setIfInBounds_toArray, List.set_cons_zero, List.set_cons_succ]
    refine wpAnyH_take (i := 3) (oi := { dst := some 48, op := Op.load 3 (Operand.tmp 47), type := 3, pos := "l07_part.go:104", after := #[{ on := 2, ground := Ground.data }], guard := none }) (v := ?vy4) rfl (by kernel_rfl) (by kernel_rfl) (by kernel_rfl) (fun _ _ _ h => h) (Or.inl ⟨by rfl, ?hyy4⟩) hHeld ?_
    case hyy4 => (intro w hSw; (try dsimp only at hSw); go_simp <;> with_reducible rfl)
    try simp only [Act.put, List.setIfInBounds_toArray, List.set_cons_zero, List.set_cons_succ]
    refine wpAnyH_take (i := 4) (oi := { dst := some 49, op := Op.binOp BinOp.add 3 (Operand.tmp 48) (Operand.const (Value.int IntKind.i64 1)) 3, type := 3, pos := "l07_part.go:104", after := #[{ on := 3, ground := Ground.data }], guard := none }) (v := ?vy5) rfl (by kernel_rfl) (by kernel_rfl) (by kernel_rfl) (fun _ _ _ h => h) (Or.inl ⟨by rfl, ?hyy5⟩) hHeld ?_
    case hyy5 => (intro w hSw; (try dsimp only at hSw); go_simp <;> with_reducible rfl)
    try simp only [Act.put, List.setIfInBounds_toArray, List.set_cons_zero, List.set_cons_succ]
    refine wpAnyH_take (i := 5) (oi := { dst := some 50, op := Op.load 90 (Operand.tmp 6), type := 90, pos := "l07_part.go:104", after := #[], guard := none }) (v := ?vy6) rfl (by kernel_rfl) (by kernel_rfl) (by kernel_rfl) (fun _ _ _ h => h) (Or.inl ⟨by rfl, ?hyy6⟩) hHeld ?_
    case hyy6 => (intro w hSw; (try dsimp only at hSw); go_simp <;> with_reducible rfl)
    try simp only [Act.put, List.setIfInBounds_toArray, List.set_cons_zero, List.set_cons_succ]
    refine wpAnyH_take (i := 8) (oi := { dst := some 53, op := Op.move (Operand.tmp 10), type := 4, pos := "l07_part.go:104", after := #[{ on := 9, ground := Ground.gcOnly Departure.lateStores }], guard := none }) (v := ?vy7) rfl (by kernel_rfl) (by kernel_rfl) (by kernel_rfl) (fun _ _ _ h => h) (Or.inl ⟨by rfl, ?hyy7⟩) hHeld ?_
    case hyy7 => (intro w hSw; (try dsimp only at hSw); go_simp <;> with_reducible rfl)
    try simp only [Act.put, List.setIfInBounds_toArray, List.set_cons_zero, List.set_cons_succ]
    refine wpAnyH_ready (rs := [6]) (by kernel_rfl) (by simp) ?_
    refine AllReadyH.cons (o := { dst := some 51, op := Op.call { callee := Callee.value (Operand.func 68), args := #[Operand.tmp 50], argTypes := #[90] }, type := 24, pos := "l07_part.go:104", after := #[{ on := 5, ground := Ground.data }], guard := none }) rfl (fun K hK => ?_) AllReadyH.nil
    go_simp
    refine (HLA.out _ (Below.refl w9.heap.size w9).drew).mono ?_
    rintro r wa ⟨⟨OM, Oc, Oz, rfl, hA, hP⟩, hy⟩
    have ZA : Hid (Below w9.heap.size w9 wa) := grow_on (Below.refl w9.heap.size w9).drew hy
    have OA : Hid (CB w9.heap.size wa OM Oc Oz ∧ chs Oz = putC C x) := ⟨hA, hP⟩
    clear hA hP hy
    clear hHeld
    refine hK.out _ _ (HS.out _ (H9.out.2.2.2.2.2.1.grow ZA.out) (H9.out.2.1.grow ZA.out)) (fun hHeld => ?_)
    clear hK K
    try simp only [Act.put, List.setIfInBounds_toArray, List.set_cons_zero, List.set_cons_succ]
    refine wpAnyH_take (i := 7) (oi := { dst := some 52, op := Op.build 26 #[(0, Operand.tmp 46), (1, Operand.tmp 49), (2, Operand.tmp 51)], type := 26, pos := "l07_part.go:104", after := #[{ on := 1, ground := Ground.data }, { on := 4, ground := Ground.data }, { on := 6, ground := Ground.data }], guard := none }) (v := ?vy9) rfl (by kernel_rfl) (by kernel_rfl) (by kernel_rfl) (fun _ _ _ h => h) (Or.inl ⟨by rfl, ?hyy9⟩) hHeld ?_
    case hyy9 => (intro w hSw; (try dsimp only at hSw); go_simp <;> with_reducible rfl)
    try simp only [Act.put, List.setIfInBounds_toArray, List.set_cons_zero, List.set_cons_succ]
    refine wpAnyH_ready (rs := [9]) (by kernel_rfl) (by simp) ?_
    refine AllReadyH.cons (o := { dst := none, op := Op.store 26 (Operand.tmp 4) (Operand.tmp 52), type := 0, pos := "l07_part.go:104", after := #[{ on := 7, ground := Ground.data }, { on := 6, ground := Ground.chain }, { on := 0, ground := Ground.phase }, { on := 1, ground := Ground.phase }, { on := 2, ground := Ground.phase }, { on := 3, ground := Ground.phase }, { on := 4, ground := Ground.phase }, { on := 5, ground := Ground.phase }, { on := 6, ground := Ground.phase }, { on := 7, ground := Ground.phase }, { on := 8, ground := Ground.textOnly Departure.lateStores }], guard := none }) rfl (fun K hK => ?_) AllReadyH.nil
    have hrb : Blk wa (w.heap.size + 2) #[.int .i64 0, .int .i64 0, .slice none 0 0] 26 := H9.out.2.2.2.2.2.2.grow ZA.out
    have n0 : wa.cell? ⟨w.heap.size + 2, 0, none⟩ = some (.int .i64 0) := hrb.cell 0
    have n1 : wa.cell? ⟨w.heap.size + 2, 1, none⟩ = some (.int .i64 0) := hrb.cell 1
    have n2 : wa.cell? ⟨w.heap.size + 2, 2, none⟩ = some (.slice none 0 0) := hrb.cell 2
    have m0 := hrb.frozen 0
    have m1 := hrb.frozen 1
    have m2 := hrb.frozen 2
    go_simp
    clear n0 n1 n2 m0 m1 m2 hHeld
    have q1 : w.heap.size + 2 ≠ w.heap.size := by omega
    have q2 : w.heap.size + 2 ≠ w2.heap.size := blkT_ne hrb (H9.out.2.1.grow ZA.out) (by decide)
    refine hK.out _ _ (HS.out _ ((((H9.out.2.2.2.2.2.1.grow ZA.out).set_other (p := ⟨w.heap.size + 2, 0, none⟩) q1 _).set_other (p := ⟨w.heap.size + 2, 1, none⟩) q1 _).set_other (p := ⟨w.heap.size + 2, 2, none⟩) q1 _) ((((H9.out.2.1.grow ZA.out).set_other (p := ⟨w.heap.size + 2, 0, none⟩) q2 _).set_other (p := ⟨w.heap.size + 2, 1, none⟩) q2 _).set_other (p := ⟨w.heap.size + 2, 2, none⟩) q2 _)) (fun hHeld => ?_)
    clear hK K q1 q2 hrb
    try simp only [Act.put, List.setIfInBounds_toArray, List.set_cons_zero, List.set_cons_succ]
    refine wpAnyH_take (i := 10) (oi := { dst := some 5, op := Op.assign (Operand.tmp 53), type := 4, pos := "l07_part.go:104", after := #[{ on := 8, ground := Ground.data }, { on := 9, ground := Ground.chain }, { on := 0, ground := Ground.phase }, { on := 1, ground := Ground.phase }, { on := 2, ground := Ground.phase }, { on := 3, ground := Ground.phase }, { on := 4, ground := Ground.phase }, { on := 5, ground := Ground.phase }, { on := 6, ground := Ground.phase }, { on := 7, ground := Ground.phase }, { on := 8, ground := Ground.phase }, { on := 9, ground := Ground.phase }], guard := none }) (v := ?vy11) rfl (by kernel_rfl) (by kernel_rfl) (by kernel_rfl) (fun _ _ _ h => h) (Or.inl ⟨by rfl, ?hyy11⟩) hHeld ?_
    case hyy11 => (intro w hSw; (try dsimp only at hSw); go_simp <;> with_reducible rfl)
    try simp only [Act.put, List.setIfInBounds_toArray, List.set_cons_zero, List.set_cons_succ]
    refine wpAnyH_done (by kernel_rfl) ?_ _
    go_wp2
    have hrb : Blk wa (w.heap.size + 2) #[.int .i64 0, .int .i64 0, .slice none 0 0] 26 := H9.out.2.2.2.2.2.2.grow ZA.out
    have hs := put3 hrb (.int .i64 hd) (.int .i64 vu) (.slice (some ⟨OM, 0, none⟩) Oz.length Oc)
    have s0 := hs.cell 0
    have s1 := hs.cell 1
    have s2 := hs.cell 2
    refine bodyPost_ret (v := .tuple #[.agg #[.int .i64 hd, .int .i64 vu, .slice (some ⟨OM, 0, none⟩) Oz.length Oc], .bool (isNew [] x.l)]) (by simp [results, Tryz.results9, go_sem, s0, s1, s2]) rfl ?_
    rw [HNW.out]
    refine ⟨⟨OM, Oc, Oz, ?_, (CB.set3 OA.out.1 hrb _ _ _).down (grow_on HW0.out.1 H9.out.1).size, OA.out.2⟩, set3 (grow_on (grow_on HW0.out.1 H9.out.1) ZA.out) (by omega) _ _ _⟩
    rfl
  · have HLk : Hid (shG C (fun i => chV (nthC C i) (ad i) (cp i)) C.length ((fingerB x.l : Int), 0) = some (chV (nthC C k) (ad k) (cp k))) := shG_first hk h3 h4
    have hck : (nthC C k).P.length + 1 ≤ 1048576 := by
      have h := HR.out.2.2.2.1
      have := sumC_nth hk
      omega
    have hpl := plan_some h0 hk h3 h4 HR.out.2.2.1 HR.out.2.2.2.2.1 hck
    obtain ⟨ks, hks⟩ : ∃ ks, keysC C = ks := ⟨_, rfl⟩
    have HKL : Hid (ks.length = C.length ∧ C.length ≤ 1048577) := ⟨by rw [← hks, keys_len], by omega⟩
    obtain ⟨Wt, hWt⟩ : ∃ Wt, W5.alloc (.cells #[.int .i64 (nthC C k).f, .slice (ad k) (nthC C k).P.length (cp k)] 96) = Wt := ⟨_, rfl⟩
    have hb6 : Below W5.heap.size W5 Wt := by rw [← hWt]; exact Go.Joins.below_alloc1 W5 _
    have hB6 : Blk Wt W5.heap.size #[.int .i64 (nthC C k).f, .slice (ad k) (nthC C k).P.length (cp k)] 96 := by rw [← hWt]; exact Blk.new _ _ _
    have hbW := grow_on H5.out.1 hb6
    have HWt : Hid (W5.alloc (.cells #[.int .i64 (nthC C k).f, .slice (ad k) (nthC C k).P.length (cp k)] 96) = Wt) := hWt
    have HT : Hid (Below W0.heap.size W0 Wt ∧ Blk Wt W5.heap.size #[.int .i64 (nthC C k).f, .slice (ad k) (nthC C k).P.length (cp k)] 96 ∧ Blk Wt w4.heap.size #[.int .i64 (fingerB x.l : Int), .int .i64 0] 94 ∧ Blk Wt w2.heap.size #[.map (some Mm), .slice (some ⟨Ms, 0, none⟩) C.length C.length] 90 ∧ MapG TwoK Wt Mm (shG C (fun i => chV (nthC C i) (ad i) (cp i)) C.length) ∧ SlotL Wt Ms ks ∧ RdA Wt (ad k) (nthC C k).P) := by
      refine ⟨hbW, hB6, H5.out.2.2.2.2.1.grow hb6, H5.out.2.1.grow hb6, H5.out.2.2.1.grow hb6, ?_, (HSH.out.1 k hk).below hbW⟩
      rw [← hks]; exact slot_of (r := []) (H5.out.2.2.2.1.blk.grow hb6) (by rw [slots_flat H5.out.2.2.2.1]; simp)
    have HPc : Hid ((nthC C k).P.length ≤ 1048576 ∧ LenM (nthC C k).P) := HR.out.2.2.1 _ (nthC_mem' hk)
    have HN : Hid (W0.heap.size ≤ W5.heap.size) := H5.out.1.size
    rw [hks] at hpl
    have HPl : Hid (Plan C x (putC C x) ks (nthC C k).f (nthC C k).P) := hpl.1
    have HO : Hid (Others C x ks) := hpl.2
    clear hks h0 h1 h3 h4 hb6 hB6 hbW hck hpl hWt
    go_upto_region 4 with (at_lookup; refine wp_lookup _ rfl _ _ 87 true rfl 94 96 TwoK asked_slot Tryz.underlying87 (zeroC _) Mm (shG C (fun i => chV (nthC C i) (ad i) (cp i)) C.length) rfl H5.out.2.2.1 ((fingerB x.l : Int), 0) rfl (.tuple #[.agg #[.int .i64 (nthC C k).f, .slice (ad k) (nthC C k).P.length (cp k)], .bool true]) (by rw [HLk.out]; rfl) ?_)
    try rw [HWt.out]
    clear HWt m0 t0 t1
    have HAB : Hid (Blk Wt (w.heap.size + 1) #[.slice (some ⟨g, o, none⟩) x.l.length cap', .int .i64 x.s, .int .i64 x.e, .string x.n] 29) := HW0.out.2.2.1.grow HT.out.1
    have b0 : Wt.cell? ⟨W5.heap.size, 0, none⟩ = some (.int .i64 (nthC C k).f) := HT.out.2.1.cell 0
    have b1 : Wt.cell? ⟨W5.heap.size, 1, none⟩ = some (.slice (ad k) (nthC C k).P.length (cp k)) := HT.out.2.1.cell 1
    have a0 : Wt.cell? ⟨w.heap.size + 1, 0, none⟩ = some (.slice (some ⟨g, o, none⟩) x.l.length cap') := HAB.out.cell 0
    have a1 : Wt.cell? ⟨w.heap.size + 1, 1, none⟩ = some (.int .i64 x.s) := HAB.out.cell 1
    have a2 : Wt.cell? ⟨w.heap.size + 1, 2, none⟩ = some (.int .i64 x.e) := HAB.out.cell 2
    have a3 : Wt.cell? ⟨w.heap.size + 1, 3, none⟩ = some (.string x.n) := HAB.out.cell 3
    go_wp2_with fail
    refine (ChnP.implPut_any (nthC C k).f (ad k) (cp k) (nthC C k).P g o cap' x Wt HT.out.2.2.2.2.2.2 (HR.out.2.1.below (grow_on HW0.out.1 HT.out.1)) HPc.out.1 HPc.out.2 HR.out.2.2.2.2.1).mono ?_
    rintro e w7 ⟨⟨M1, c1, rs1, rfl, hA, hp⟩, hb7⟩
    obtain ⟨W8, hW8⟩ : ∃ W8, (w7.setCell ⟨W5.heap.size, 0, none⟩ (.int .i64 (nthC C k).f)).setCell ⟨W5.heap.size, 1, none⟩ (.slice (some ⟨M1, 0, none⟩) rs1.length c1) = W8 := ⟨_, rfl⟩
    have hB7 := HT.out.2.1.grow hb7
    have H8 : Hid (Below W0.heap.size W0 W8 ∧ Blk W8 W5.heap.size #[.int .i64 (nthC C k).f, .slice (some ⟨M1, 0, none⟩) rs1.length c1] 96 ∧ Blk W8 w4.heap.size #[.int .i64 (fingerB x.l : Int), .int .i64 0] 94 ∧ Blk W8 w2.heap.size #[.map (some Mm), .slice (some ⟨Ms, 0, none⟩) C.length C.length] 90 ∧ MapG TwoK W8 Mm (shG C (fun i => chV (nthC C i) (ad i) (cp i)) C.length) ∧ SlotL W8 Ms ks ∧ AB Wt.heap.size W8 M1 c1 rs1) := by
      rw [← hW8]
      have n1 := blkT_ne hB7 (HT.out.2.2.1.grow hb7) (by decide)
      have n2 := blkT_ne hB7 (HT.out.2.2.2.1.grow hb7) (by decide)
      have n3 := (HT.out.2.2.2.2.1.grow hb7).ne_blk hB7
      exact ⟨set2 (grow_on HT.out.1 hb7) HN.out _ _, (hB7.set 0 _).set 1 _, ((HT.out.2.2.1.grow hb7).set_other (p := ⟨W5.heap.size, 0, none⟩) n1 _).set_other (p := ⟨W5.heap.size, 1, none⟩) n1 _, ((HT.out.2.2.2.1.grow hb7).set_other (p := ⟨W5.heap.size, 0, none⟩) n2 _).set_other (p := ⟨W5.heap.size, 1, none⟩) n2 _, ((HT.out.2.2.2.2.1.grow hb7).set n3).set n3, slot_kept (HT.out.2.2.2.2.2.1.grow hb7) (fun h => (h.set_other (p := ⟨W5.heap.size, 0, none⟩) (blkT_ne hB7 h (by decide)) _).set_other (p := ⟨W5.heap.size, 1, none⟩) (blkT_ne hB7 h (by decide)) _), ab_set2 hA hB7 _ _⟩
    have HL1 : Hid (rs1.length = (putL (nthC C k).P x).length ∧ pals rs1 = putL (nthC C k).P x) := ⟨by rw [← pals_len, hp], hp⟩
    have x0 : w7.cell? ⟨W5.heap.size, 0, none⟩ = some (.int .i64 (nthC C k).f) := hB7.cell 0
    have x1 : w7.cell? ⟨W5.heap.size, 1, none⟩ = some (.slice (ad k) (nthC C k).P.length (cp k)) := hB7.cell 1
    have f0 := hB7.frozen 0
    have f1 := hB7.frozen 1
    have y0 : W8.cell? ⟨W5.heap.size, 0, none⟩ = some (.int .i64 (nthC C k).f) := H8.out.2.1.cell 0
    have y1 : W8.cell? ⟨W5.heap.size, 1, none⟩ = some (.slice (some ⟨M1, 0, none⟩) rs1.length c1) := H8.out.2.1.cell 1
    have k0 : W8.cell? ⟨w4.heap.size, 0, none⟩ = some (.int .i64 (fingerB x.l : Int)) := H8.out.2.2.1.cell 0
    have k1 : W8.cell? ⟨w4.heap.size, 1, none⟩ = some (.int .i64 0) := H8.out.2.2.1.cell 1
    have m1 : W8.cell? ⟨w2.heap.size, 0, none⟩ = some (.map (some Mm)) := H8.out.2.2.2.1.cell 0
    clear hA hp hb7 hB7 b0 b1 a0 a1 a2 a3
    go_wp2_with (at_mapUpdate; refine wp_update _ rfl _ _ _ 87 rfl 94 96 TwoK asked_slot Tryz.underlying87 Mm (shG C (fun i => chV (nthC C i) (ad i) (cp i)) C.length) rfl H8.out.2.2.2.2.1 ((fingerB x.l : Int), 0) (.agg #[.int .i64 (nthC C k).f, .slice (some ⟨M1, 0, none⟩) rs1.length c1]) rfl rfl ?_)
    intro w9 hm9 hg9 hs9
    have hmp := H8.out.2.2.2.2.1
    have H9 : Hid (Below W0.heap.size W0 w9 ∧ Blk w9 w2.heap.size #[.map (some Mm), .slice (some ⟨Ms, 0, none⟩) C.length C.length] 90 ∧ MapG TwoK w9 Mm (updG (shG C (fun i => chV (nthC C i) (ad i) (cp i)) C.length) ((fingerB x.l : Int), 0) (some (.agg #[.int .i64 (nthC C k).f, .slice (some ⟨M1, 0, none⟩) rs1.length c1]))) ∧ SlotL w9 Ms ks ∧ AB Wt.heap.size w9 M1 c1 rs1 ∧ Blk w9 w.heap.size #[.int .i64 hd, .int .i64 vr, .slice a C.length cap] 26 ∧ Blk w9 (w.heap.size + 2) #[.int .i64 0, .int .i64 0, .slice none 0 0] 26) := by
      have hb9 := mapDown H8.out.1 hg9 (Nat.le_refl _) HSH.out.2.1
      exact ⟨hb9, blk_map H8.out.2.2.2.1 hmp hg9, hm9, slot_kept H8.out.2.2.2.2.2.1 (fun h => blk_map h hmp hg9), Chs.ab_moved H8.out.2.2.2.2.2.2 (moved_map hmp hg9), HW0.out.2.1.grow hb9, HW0.out.2.2.2.1.grow hb9⟩
    clear hm9 hg9 hs9 hmp x0 x1 f0 f1 y0 y1 k0 k1 m1 hW8
    have HLA : Hid (∀ z, Below w9.heap.size w9 z → Calls Tryz.prog 68 #[.agg #[.map (some Mm), .slice (some ⟨Ms, 0, none⟩) C.length C.length]] z fun e w' => (∃ M c cs, e = .returned (.slice (some ⟨M, 0, none⟩) cs.length c) ∧ CB z.heap.size w' M c cs ∧ chs cs = putC C x) ∧ Below z.heap.size z w') := fun z hz => by
      have hln := HPl.out.len
      have h := laid_any Mm Ms C.length _ ks ((putC C x).map some) z (H9.out.2.2.1.grow hz) (H9.out.2.2.2.1.grow hz) (by rw [List.length_map, hln]) (fun i hi => by
        rw [somes_nth (by omega)]
        by_cases e : nthK ks i = ((fingerB x.l : Int), 0)
        · rw [e, upd_at, HPl.out.here i (by omega) e]
          refine ⟨some ⟨M1, 0, none⟩, c1, by rw [HL1.out.1], ?_⟩
          have hrd := (H9.out.2.2.2.2.1.grow hz).rd.rd
          rw [HL1.out.2] at hrd
          exact hrd
        · rw [upd_no e]
          obtain ⟨j, hj, h1, h2⟩ := HO.out i hi e
          rw [h1, h2]
          exact ent_other (HSH.out.1 j hj) (grow_on H9.out.1 hz) (shG_at hj)) (by have := HKL.out.1; have := HKL.out.2; omega) (fun i y hi hv => by
        rw [somes_nth (by omega)] at hv
        cases hv
        exact HPl.out.lens i (by omega))
      have e : laidTo ((putC C x).map some) ks.length = putC C x := by have := laid_somes (putC C x); rw [List.length_map] at this; rw [hln]; exact this
      rw [e, HKL.out.1] at h
      exact h
    have HNW : Hid (isNew (nthC C k).P x.l = newC C x) := HPl.out.new
    go_upto_region 9 with fail
    have HS : Hid (∀ w', Blk w' w.heap.size #[.int .i64 hd, .int .i64 vr, .slice a C.length cap] 26 → Blk w' w2.heap.size #[.map (some Mm), .slice (some ⟨Ms, 0, none⟩) C.length C.length] 90 → w'.cell? ⟨w.heap.size, 0, none⟩ = some (.int .i64 hd) ∧ w'.cell? ⟨w.heap.size, 1, none⟩ = some (.int .i64 vr) ∧ w'.cell? ⟨w2.heap.size, 0, none⟩ = some (.map (some Mm)) ∧ w'.cell? ⟨w2.heap.size, 1, none⟩ = some (.slice (some ⟨Ms, 0, none⟩) C.length C.length)) := fun w' h k => ⟨h.cell 0, h.cell 1, k.cell 0, k.cell 1⟩
    refine wp_region_held_drew (S := fun w' => w'.cell? ⟨w.heap.size, 0, none⟩ = some (.int .i64 hd) ∧ w'.cell? ⟨w.heap.size, 1, none⟩ = some (.int .i64 vr) ∧ w'.cell? ⟨w2.heap.size, 0, none⟩ = some (.map (some Mm)) ∧ w'.cell? ⟨w2.heap.size, 1, none⟩ = some (.slice (some ⟨Ms, 0, none⟩) C.length C.length)) (by kernel_rfl) (HS.out _ H9.out.2.2.2.2.2.1.drew H9.out.2.1.drew) (fun hHeld => ?_)
    refine wpAnyH_take (i := 0) (oi := { dst := some 45, op := Op.fieldAddr 26 (Operand.tmp 2) 0, type := 0, pos := "l07_part.go:104", after := #[], guard := none }) (v := ?vz1) rfl (by kernel_rfl) (by kernel_rfl) (by kernel_rfl) (fun _ _ _ h => h) (Or.inl ⟨by rfl, ?hyz1⟩) hHeld ?_
    case hyz1 => (intro w hSw; (try dsimp only at hSw); go_simp <;> with_reducible rfl)
    try simp only [Act.put, List.setIfInBounds_toArray, List.set_cons_zero, List.set_cons_succ]
    refine wpAnyH_take (i := 1) (oi := { dst := some 46, op := Op.load 3 (Operand.tmp 45), type := 3, pos := "l07_part.go:104", after := #[{ on := 0, ground := Ground.data }], guard := none }) (v := ?vz2) rfl (by kernel_rfl) (by kernel_rfl) (by kernel_rfl) (fun _ _ _ h => h) (Or.inl ⟨by rfl, ?hyz2⟩) hHeld ?_
    case hyz2 => (intro w hSw; (try dsimp only at hSw); go_simp <;> with_reducible rfl)
    try simp only [Act.put, List.setIfInBounds_toArray, List.set_cons_zero, List.set_cons_succ]
    refine wpAnyH_take (i := 2) (oi := { dst := some 47, op := Op.fieldAddr 26 (Operand.tmp 2) 1, type := 0, pos := "l07_part.go:104", after := #[], guard := none }) (v := ?vz3) rfl (by kernel_rfl) (by kernel_rfl) (by kernel_rfl) (fun _ _ _ h => h) (Or.inl ⟨by rfl, ?hyz3⟩) hHeld ?_
    case hyz3 => (intro w hSw; (try dsimp only at hSw); go_simp <;> with_reducible rfl)
    try simp only [Act.put, List.setIfInBounds_toArray, List.set_cons_zero, List.set_cons_succ]
    refine wpAnyH_take (i := 3) (oi := { dst := some 48, op := Op.load 3 (Operand.tmp 47), type := 3, pos := "l07_part.go:104", after := #[{ on := 2, ground := Ground.data }], guard := none }) (v := ?vz4) rfl (by kernel_rfl) (by kernel_rfl) (by kernel_rfl) (fun _ _ _ h => h) (Or.inl ⟨by rfl, ?hyz4⟩) hHeld ?_
    case hyz4 => (intro w hSw; (try dsimp only at hSw); go_simp <;> with_reducible rfl)
    try simp only [Act.put, List.setIfInBounds_toArray, List.set_cons_zero, List.set_cons_succ]
    refine wpAnyH_take (i := 4) (oi := { dst := some 49, op := Op.binOp BinOp.add 3 (Operand.tmp 48) (Operand.const (Value.int IntKind.i64 1)) 3, type := 3, pos := "l07_part.go:104", after := #[{ on := 3, ground := Ground.data }], guard := none }) (v := ?vz5) rfl (by kernel_rfl) (by kernel_rfl) (by kernel_rfl) (fun _ _ _ h => h) (Or.inl ⟨by rfl, ?hyz5⟩) hHeld ?_
    case hyz5 => (intro w hSw; (try dsimp only at hSw); go_simp <;> with_reducible rfl)
    try simp only [Act.put, List.setIfInBounds_toArray, List.set_cons_zero, List.set_cons_succ]
    refine wpAnyH_take (i := 5) (oi := { dst := some 50, op := Op.load 90 (Operand.tmp 6), type := 90, pos := "l07_part.go:104", after := #[], guard := none }) (v := ?vz6) rfl (by kernel_rfl) (by kernel_rfl) (by kernel_rfl) (fun _ _ _ h => h) (Or.inl ⟨by rfl, ?hyz6⟩) hHeld ?_
    case hyz6 => (intro w hSw; (try dsimp only at hSw); go_simp <;> with_reducible rfl)
    try simp only [Act.put, List.setIfInBounds_toArray, List.set_cons_zero, List.set_cons_succ]
    refine wpAnyH_take (i := 8) (oi := { dst := some 53, op := Op.move (Operand.tmp 10), type := 4, pos := "l07_part.go:104", after := #[{ on := 9, ground := Ground.gcOnly Departure.lateStores }], guard := none }) (v := ?vz7) rfl (by kernel_rfl) (by kernel_rfl) (by kernel_rfl) (fun _ _ _ h => h) (Or.inl ⟨by rfl, ?hyz7⟩) hHeld ?_
    case hyz7 => (intro w hSw; (try dsimp only at hSw); go_simp <;> with_reducible rfl)
    try simp only [Act.put, List.setIfInBounds_toArray, List.set_cons_zero, List.set_cons_succ]
    refine wpAnyH_ready (rs := [6]) (by kernel_rfl) (by simp) ?_
    refine AllReadyH.cons (o := { dst := some 51, op := Op.call { callee := Callee.value (Operand.func 68), args := #[Operand.tmp 50], argTypes := #[90] }, type := 24, pos := "l07_part.go:104", after := #[{ on := 5, ground := Ground.data }], guard := none }) rfl (fun K hK => ?_) AllReadyH.nil
    go_simp
    refine (HLA.out _ (Below.refl w9.heap.size w9).drew).mono ?_
    rintro r wa ⟨⟨OM, Oc, Oz, rfl, hA, hP⟩, hy⟩
    have ZA : Hid (Below w9.heap.size w9 wa) := grow_on (Below.refl w9.heap.size w9).drew hy
    have OA : Hid (CB w9.heap.size wa OM Oc Oz ∧ chs Oz = putC C x) := ⟨hA, hP⟩
    clear hA hP hy
    clear hHeld
    refine hK.out _ _ (HS.out _ (H9.out.2.2.2.2.2.1.grow ZA.out) (H9.out.2.1.grow ZA.out)) (fun hHeld => ?_)
    clear hK K
    try simp only [Act.put, List.setIfInBounds_toArray, List.set_cons_zero, List.set_cons_succ]
    refine wpAnyH_take (i := 7) (oi := { dst := some 52, op := Op.build 26 #[(0, Operand.tmp 46), (1, Operand.tmp 49), (2, Operand.tmp 51)], type := 26, pos := "l07_part.go:104", after := #[{ on := 1, ground := Ground.data }, { on := 4, ground := Ground.data }, { on := 6, ground := Ground.data }], guard := none }) (v := ?vz9) rfl (by kernel_rfl) (by kernel_rfl) (by kernel_rfl) (fun _ _ _ h => h) (Or.inl ⟨by rfl, ?hyz9⟩) hHeld ?_
    case hyz9 => (intro w hSw; (try dsimp only at hSw); go_simp <;> with_reducible rfl)
    try simp only [Act.put, List.setIfInBounds_toArray, List.set_cons_zero, List.set_cons_succ]
    refine wpAnyH_ready (rs := [9]) (by kernel_rfl) (by simp) ?_
    refine AllReadyH.cons (o := { dst := none, op := Op.store 26 (Operand.tmp 4) (Operand.tmp 52), type := 0, pos := "l07_part.go:104", after := #[{ on := 7, ground := Ground.data }, { on := 6, ground := Ground.chain }, { on := 0, ground := Ground.phase }, { on := 1, ground := Ground.phase }, { on := 2, ground := Ground.phase }, { on := 3, ground := Ground.phase }, { on := 4, ground := Ground.phase }, { on := 5, ground := Ground.phase }, { on := 6, ground := Ground.phase }, { on := 7, ground := Ground.phase }, { on := 8, ground := Ground.textOnly Departure.lateStores }], guard := none }) rfl (fun K hK => ?_) AllReadyH.nil
    have hrb : Blk wa (w.heap.size + 2) #[.int .i64 0, .int .i64 0, .slice none 0 0] 26 := H9.out.2.2.2.2.2.2.grow ZA.out
    have n0 : wa.cell? ⟨w.heap.size + 2, 0, none⟩ = some (.int .i64 0) := hrb.cell 0
    have n1 : wa.cell? ⟨w.heap.size + 2, 1, none⟩ = some (.int .i64 0) := hrb.cell 1
    have n2 : wa.cell? ⟨w.heap.size + 2, 2, none⟩ = some (.slice none 0 0) := hrb.cell 2
    have m0 := hrb.frozen 0
    have m1 := hrb.frozen 1
    have m2 := hrb.frozen 2
    go_simp
    clear n0 n1 n2 m0 m1 m2 hHeld
    have q1 : w.heap.size + 2 ≠ w.heap.size := by omega
    have q2 : w.heap.size + 2 ≠ w2.heap.size := blkT_ne hrb (H9.out.2.1.grow ZA.out) (by decide)
    refine hK.out _ _ (HS.out _ ((((H9.out.2.2.2.2.2.1.grow ZA.out).set_other (p := ⟨w.heap.size + 2, 0, none⟩) q1 _).set_other (p := ⟨w.heap.size + 2, 1, none⟩) q1 _).set_other (p := ⟨w.heap.size + 2, 2, none⟩) q1 _) ((((H9.out.2.1.grow ZA.out).set_other (p := ⟨w.heap.size + 2, 0, none⟩) q2 _).set_other (p := ⟨w.heap.size + 2, 1, none⟩) q2 _).set_other (p := ⟨w.heap.size + 2, 2, none⟩) q2 _)) (fun hHeld => ?_)
    clear hK K q1 q2 hrb
    try simp only [Act.put, List.setIfInBounds_toArray, List.set_cons_zero, List.set_cons_succ]
    refine wpAnyH_take (i := 10) (oi := { dst := some 5, op := Op.assign (Operand.tmp 53), type := 4, pos := "l07_part.go:104", after := #[{ on := 8, ground := Ground.data }, { on := 9, ground := Ground.chain }, { on := 0, ground := Ground.phase }, { on := 1, ground := Ground.phase }, { on := 2, ground := Ground.phase }, { on := 3, ground := Ground.phase }, { on := 4, ground := Ground.phase }, { on := 5, ground := Ground.phase }, { on := 6, ground := Ground.phase }, { on := 7, ground := Ground.phase }, { on := 8, ground := Ground.phase }, { on := 9, ground := Ground.phase }], guard := none }) (v := ?vz11) rfl (by kernel_rfl) (by kernel_rfl) (by kernel_rfl) (fun _ _ _ h => h) (Or.inl ⟨by rfl, ?hyz11⟩) hHeld ?_
    case hyz11 => (intro w hSw; (try dsimp only at hSw); go_simp <;> with_reducible rfl)
    try simp only [Act.put, List.setIfInBounds_toArray, List.set_cons_zero, List.set_cons_succ]
    refine wpAnyH_done (by kernel_rfl) ?_ _
    go_wp2
    have hrb : Blk wa (w.heap.size + 2) #[.int .i64 0, .int .i64 0, .slice none 0 0] 26 := H9.out.2.2.2.2.2.2.grow ZA.out
    have hs := put3 hrb (.int .i64 hd) (.int .i64 vu) (.slice (some ⟨OM, 0, none⟩) Oz.length Oc)
    have s0 := hs.cell 0
    have s1 := hs.cell 1
    have s2 := hs.cell 2
    refine bodyPost_ret (v := .tuple #[.agg #[.int .i64 hd, .int .i64 vu, .slice (some ⟨OM, 0, none⟩) Oz.length Oc], .bool (isNew (nthC C k).P x.l)]) (by simp [results, Tryz.results9, go_sem, s0, s1, s2]) rfl ?_
    rw [HNW.out]
    refine ⟨⟨OM, Oc, Oz, ?_, (CB.set3 OA.out.1 hrb _ _ _).down (grow_on HW0.out.1 H9.out.1).size, OA.out.2⟩, set3 (grow_on (grow_on HW0.out.1 H9.out.1) ZA.out) (by omega) _ _ _⟩
    rfl
end Go.Proofs.YtooninmicfcfoaaGreat.PrtZ
namespace Go.Proofs.YtooninmicfcfoaaGreat.PutS
open Go.RowKit
open Labs LabS Alms AlmM Over Blk App Rws ChnI ChnC ChnP ChnK Chs Prt PrtO PrtF PrtC
open Fing (fingerB)
theorem sumC_set : ∀ (C : List PCh) (k : Nat) (y : PCh), k < C.length → sumC (C.set k y) + ((nthC C k).P.length + sumL (nthC C k).P) = sumC C + (y.P.length + sumL y.P)
  | [], k, y, h => by simp at h
  | x :: C, 0, y, h => by simp [sumC, nthC]; omega
  | x :: C, k + 1, y, h => by
    have ih := sumC_set C k y (by simpa using h)
    have e : nthC (x :: C) (k + 1) = nthC C k := by simp [nthC]
    rw [List.set_cons_succ, sumC, sumC, e]; omega
theorem putC_sum (C : List PCh) (x : PAl) : sumC (putC C x) ≤ sumC C + 1 + x.l.length ∧ (putC C x).length ≤ C.length + 1 := by
  rcases at_cases C (fingerB x.l : Int) with ⟨h0, h1, h2⟩ | ⟨k, h0, h1, hk, h3, h4⟩
  · rw [(put_none h0).1]
    have h := sumC_app (C.take (posB C (fingerB x.l))) (C.drop (posB C (fingerB x.l)))
    rw [List.take_append_drop] at h
    rw [sumC_app, sumC]
    refine ⟨by simp [sumL]; omega, by simp; omega⟩
  · rw [(put_some h0).1]
    have h := sumC_set C k ⟨(nthC C k).f, putL (nthC C k).P x⟩ hk
    have h5 := put_sum (nthC C k).P x
    simp only at h
    exact ⟨by omega, by simp⟩
theorem fitsC_put {C : List PCh} {x : PAl} (h : FitsC C) (hs : Small C) (hx : FitA x) : FitsC (putC C x) := by
  rcases at_cases C (fingerB x.l : Int) with ⟨h0, h1, h2⟩ | ⟨k, h0, h1, hk, h3, h4⟩
  · rw [(put_none h0).1]
    intro y hy
    rcases List.mem_append.1 hy with hy | hy
    · exact h y (List.mem_of_mem_take hy)
    · rcases List.mem_cons.1 hy with hy | hy
      · subst hy
        have := Fing.finger_lt x.l
        exact ⟨by constructor <;> simp <;> omega, by simp [maxLen], fits_of fun z hz => by rw [List.mem_singleton.1 hz]; exact hx⟩
      · exact h y (List.mem_of_mem_drop hy)
  · rw [(put_some h0).1]
    intro y hy
    rcases List.mem_or_eq_of_mem_set hy with hy | hy
    · exact h y hy
    · subst hy
      have hm := h _ (nthC_mem hk)
      have h5 := (put_sum (nthC C k).P x).2
      have h6 := (hs _ (nthC_mem hk)).1
      exact ⟨hm.fb, len_max (by show (putL _ _).length ≤ _; omega), fits_put hm.fits hx⟩
end Go.Proofs.YtooninmicfcfoaaGreat.PutS
namespace Go.Proofs.YtooninmicfcfoaaGreat.Hld
open Go.RowKit
section
variable {P : Program} {md : Region.Mode} {ops : Array Oper} {Q : Exit → Act → World → Prop} {S : World → Prop} {z : Nat}
def anyL (P : Program) (md : Region.Mode) (ops : Array Oper) (Q : Exit → Act → World → Prop) (S : World → Prop) (z : Nat) (n : Nat) (li : Array Bool) (a : Act) (w : World) : Prop :=
  match n with
  | 0 => Region.ready md ops li = [] ∧ Q .normal a w
  | m + 1 => (Region.ready md ops li = [] → Q .normal a w) ∧ ∀ i, i ∈ Region.ready md ops li → wpOp P ops Q i (fun a' w' => (i ≠ z → S w') ∧ anyL P md ops Q S z m (li.setIfInBounds i true) a' w') a w
theorem anyL_any : ∀ (n : Nat) (li : Array Bool) (a : Act) (w : World), anyL P md ops Q S z n li a w → wpAny P md ops Q n li a w := by
  intro n
  induction n with
  | zero => intro li a w h; exact h
  | succ n ih => intro li a w h; exact ⟨h.1, fun i hi => wpOp_mono (fun a' w' k => ih _ a' w' k.2) (h.2 i hi)⟩
theorem not_listed {li : Array Bool} {i : Nat} {oj : Oper} (hr : i ∈ Region.ready md ops li) (hall : ∀ e ∈ oj.after, Region.binds md e = true → li.getD e.on false = true) : ∀ e ∈ oj.after, Region.binds md e = true → e.on ≠ i := fun e he hb q => by
  have x1 := hall e he hb
  have x0 := (mem_ready.1 hr).1
  rw [q] at x1
  by_cases h : i < li.size
  · simp [h] at x0 x1; rw [x0] at x1; cases x1
  · simp [Array.getElem?_eq_none (Nat.le_of_not_lt h)] at x1
theorem anyL_first {i : Nat} {oi : Oper} {v : Value} (hi : ops[i]? = some oi) (hsel : ∀ (j : Nat) (o : Oper) cs b, ops[j]? = some o → o.op ≠ .select cs b) (hQ : ∀ c a w, Q (.panic c) (a.put oi.dst v) w → Q (.panic c) a w) (hz : ∀ oz, ops[z]? = some oz → ∃ e ∈ oz.after, Region.binds md e = true ∧ e.on = i) (n : Nat) : ∀ (li : Array Bool) (a : Act) (w : World),
    (∀ j oj, ops[j]? = some oj → j ≠ i → li.getD j true = false → (∀ e ∈ oj.after, Region.binds md e = true → e.on ≠ i) → oi.apart ops oj = true) → i ∈ Region.ready md ops li → YieldsIf P ops S oi v a → S w → anyL P md ops Q S z n (li.setIfInBounds i true) (a.put oi.dst v) w → anyL P md ops Q S z (n + 1) li a w := by
  induction n with
  | zero =>
    intro li a w _ hr hy hS H
    refine ⟨fun h => (by rw [h] at hr; cases hr), fun j hj => ?_⟩
    by_cases e : j = i
    · subst e; exact hy.wpOp hi hS ⟨fun _ => hS, H⟩
    · have k := ready_mono hj e
      rw [H.1] at k; cases k
  | succ n ih =>
    intro li a w hfree hr hy hS H
    refine ⟨fun h => (by rw [h] at hr; cases hr), fun j hj => ?_⟩
    by_cases e : j = i
    · subst e; exact hy.wpOp hi hS ⟨fun _ => hS, H⟩
    · obtain ⟨hun, oj, hoj, hall⟩ := mem_ready.1 hj
      have hnot := not_listed (oj := oj) hr hall
      have hjz : j ≠ z := fun q => by
        subst q
        obtain ⟨d, hd, hb, ho⟩ := hz oj hoj
        exact hnot d hd hb ho
      have k := wpOp_putIf (S := S) hoj (hfree j oj hoj e hun hnot) (fun cs b => hsel i oi cs b hi) (fun cs b => hsel j oj cs b hoj) hQ hy (H.2 j (ready_mono hj e))
      refine wpOp_mono (fun a' w' h3 => ?_) k
      have hS' := h3.2.1 hjz
      refine ⟨fun _ => hS', ih (li.setIfInBounds j true) a' w' (fun m om hm hmi hun' hno => hfree m om hm hmi ?_ hno) (ready_mono hr (Ne.symm e)) h3.1 hS' ?_⟩
      · by_cases q : j = m
        · subst q; exact hun
        · rw [getD_set_ne true q] at hun'; exact hun'
      · rw [Array.setIfInBounds_comm _ _ e]
        exact h3.2.2
def waits (md : Region.Mode) (ops : Array Oper) (z i : Nat) : Bool := (ops[z]?.map fun o => o.after.any fun e => Region.binds md e && e.on == i).getD true
theorem waits_spec {i : Nat} (h : waits md ops z i = true) : ∀ oz, ops[z]? = some oz → ∃ e ∈ oz.after, Region.binds md e = true ∧ e.on = i := fun oz hz => by
  unfold waits at h
  rw [hz] at h
  simp only [Option.map_some, Option.getD_some, Array.any_eq_true, Bool.and_eq_true, beq_iff_eq] at h
  obtain ⟨k, hk, h1, h2⟩ := h
  exact ⟨_, Array.getElem_mem hk, h1, h2⟩
theorem anyL_take {i : Nat} {oi : Oper} {v : Value} {n : Nat} {li : Array Bool} {a : Act} {w : World} (hi : ops[i]? = some oi) (hs : Region.noSelect ops = true) (hf : Region.free md ops li i = true) (hr : (Region.ready md ops li).contains i = true) (hw : waits md ops z i = true) (hQ : ∀ c a w, Q (.panic c) (a.put oi.dst v) w → Q (.panic c) a w) (hy : YieldsIf P ops S oi v a) (hS : S w) (h : anyL P md ops Q S z n (li.setIfInBounds i true) (a.put oi.dst v) w) : anyL P md ops Q S z (n + 1) li a w :=
  anyL_first hi (Region.noSelect_spec hs) hQ (waits_spec hw) n li a w (Region.free_spec hi hf) (by simpa using hr) hy hS h
theorem anyL_done {li : Array Bool} {a : Act} {w : World} (hr : Region.ready md ops li = []) (h : Q .normal a w) (n : Nat) : anyL P md ops Q S z n li a w := by
  cases n with
  | zero => exact ⟨hr, h⟩
  | succ n => exact ⟨fun _ => h, fun i hi => (by rw [hr] at hi; cases hi)⟩
def AllL (P : Program) (md : Region.Mode) (ops : Array Oper) (Q : Exit → Act → World → Prop) (S : World → Prop) (z n : Nat) (li : Array Bool) (a : Act) (w : World) (rs : List Nat) : Prop :=
  ∀ i, i ∈ rs → wpOp P ops Q i (fun a' w' => (i ≠ z → S w') ∧ anyL P md ops Q S z n (li.setIfInBounds i true) a' w') a w
theorem AllL.nil {n : Nat} {li : Array Bool} {a : Act} {w : World} : AllL P md ops Q S z n li a w [] := fun _ h => by cases h
theorem AllL.cons {n : Nat} {li : Array Bool} {a : Act} {w : World} {i : Nat} {o : Oper} {rs : List Nat} (ho : ops[i]? = some o)
    (h : ∀ K : Act → World → Prop, Shut (∀ a w, S w → (S w → anyL P md ops Q S z n (li.setIfInBounds i true) a w) → K a w) → if Region.wanted o (yielded ops a.tmps) = true then Oper.wp P o a w K Q else K (a.put o.dst undef) w)
    (hs : AllL P md ops Q S z n li a w rs) : AllL P md ops Q S z n li a w (i :: rs) := fun j hj => by
  rcases List.mem_cons.1 hj with rfl | hj
  · exact wpOp_step ho (fun K hK => h K (fun a w hS hW => hK a w ⟨fun _ => hS, hW hS⟩))
  · exact hs j hj
theorem AllL.last {n : Nat} {li : Array Bool} {a : Act} {w : World} {o : Oper} (ho : ops[z]? = some o)
    (h : ∀ K : Act → World → Prop, Shut (∀ a w, anyL P md ops Q S z n (li.setIfInBounds z true) a w → K a w) → if Region.wanted o (yielded ops a.tmps) = true then Oper.wp P o a w K Q else K (a.put o.dst undef) w) : AllL P md ops Q S z n li a w [z] := fun j hj => by
  have e := List.mem_singleton.1 hj
  subst e
  exact wpOp_step ho (fun K hK => h K (fun a w hW => hK a w ⟨fun h => absurd rfl h, hW⟩))
theorem anyL_ready {rs : List Nat} {n : Nat} {li : Array Bool} {a : Act} {w : World} (hr : Region.ready md ops li = rs) (hne : rs ≠ []) (h : AllL P md ops Q S z n li a w rs) : anyL P md ops Q S z (n + 1) li a w :=
  ⟨fun q => absurd (hr.symm.trans q) hne, fun i hi => h i (hr ▸ hi)⟩
theorem wp_region_LH {id : Nat} {a : Act} {w : World} (hm : P.follows .mixedOrders = true) (hS : S w.drew) (h : S w.drew → anyL P .any ops Q S z ops.size (Array.replicate ops.size false) a w.drew) : (Code.region id ops true).wp P Q a w := wp_region_any hm (anyL_any _ _ _ _ (h hS))
end
end Go.Proofs.YtooninmicfcfoaaGreat.Hld
namespace Go.Proofs.YtooninmicfcfoaaGreat.Ins
open Go.RowKit
open Labs LabS Alms AlmM Over Blk App Rws ChnI ChnC ChnP ChnK Chs Prt
theorem add_o (M o j : Nat) : (⟨M, o, none⟩ : Addr).add j = ⟨M, o + j, none⟩ := by by_cases h : j = 0 <;> simp [Addr.add, h]
theorem if_slice {p : Prop} [Decidable p] (x y : Addr) (n c : Nat) : Value.slice (if p then some x else some y) n c = .slice (some (if p then x else y)) n c := by split <;> rfl
theorem cel_one {xs : List Value} {cs : List CRow} (hl : xs.length = cs.length * 2) (hxs : ∀ i, i < cs.length → Cel (fun k => xs[k]?) i (nthR cs i)) : ∀ v ∈ xs, v.oneCell' = true := fun v hv => by
  obtain ⟨j, hj, rfl⟩ := List.getElem_of_mem hv
  obtain ⟨h0, h1⟩ := hxs (j / 2) (by omega)
  by_cases h : j % 2 = 0
  · have e : j / 2 * 2 = j := by omega
    have q : xs[j / 2 * 2]? = _ := h0
    rw [e, List.getElem?_eq_getElem hj] at q
    rw [Option.some.inj q]; rfl
  · have e : j / 2 * 2 + 1 = j := by omega
    have q : xs[j / 2 * 2 + 1]? = _ := h1
    rw [e, List.getElem?_eq_getElem hj] at q
    rw [Option.some.inj q]; rfl
structure News (W : World) (M c : Nat) (cs : List CRow) (xs : List Value) : Prop where
  len : xs.length = cs.length * 2
  cel : ∀ i, i < cs.length → Cel (fun k => xs[k]?) i (nthR cs i)
  one : ∀ v ∈ xs, v.oneCell' = true
  fst : ∀ W', Below W.heap.size W W' → ∀ k, k ≤ cs.length → ∀ j u, (xs.take (k * 2))[j]? = some u → W'.cell? ((⟨M, 0, none⟩ : Addr).add j) = some u
  snd : ∀ W', Below W.heap.size W W' → ∀ k, k ≤ cs.length → ∀ j u, (xs.drop (k * 2))[j]? = some u → W'.cell? ((if c = k then (⟨M, 0, none⟩ : Addr) else ⟨M, k * 2, none⟩).add j) = some u
theorem CB.news {lo : Nat} {W : World} {M c : Nat} {cs : List CRow} (h : CB lo W M c cs) : ∃ xs, News W M c cs xs := by
  obtain ⟨cur, h1, h2, h3⟩ := h.outer
  have hc := h.cap
  have hlen : (cur.toList.take (cs.length * 2)).length = cs.length * 2 := by simp; omega
  have hcel : ∀ i, i < cs.length → Cel (fun k => (cur.toList.take (cs.length * 2))[k]?) i (nthR cs i) := fun i hi => by
    refine (h3 i hi).congr fun k _ hk => ?_
    show (cur.toList.take _)[k]? = cur[k]?
    rw [List.getElem?_take_of_lt (by omega)]
    simp
  refine ⟨cur.toList.take (cs.length * 2), hlen, hcel, cel_one hlen hcel, fun W' hb k hk j u hj => ?_, fun W' hb k hk j u hj => ?_⟩
  · rw [List.take_take] at hj
    have hjl : j < min (k * 2) (cs.length * 2) := by
      rcases Nat.lt_or_ge j (min (k * 2) (cs.length * 2)) with q | q
      · exact q
      · rw [List.getElem?_eq_none (by simp; omega)] at hj; cases hj
    rw [List.getElem?_take_of_lt hjl] at hj
    rw [add_o, (h1.grow hb).cell, Nat.zero_add, ← hj]
    simp
  · by_cases e : c = k
    · rw [List.getElem?_eq_none (by rw [List.length_drop, hlen]; omega)] at hj; cases hj
    · rw [if_neg e, add_o, (h1.grow hb).cell]
      rw [List.getElem?_drop] at hj
      have hjl : k * 2 + j < cs.length * 2 := by
        rcases Nat.lt_or_ge (k * 2 + j) (cs.length * 2) with q | q
        · exact q
        · rw [List.getElem?_eq_none (by omega)] at hj; cases hj
      rw [List.getElem?_take_of_lt hjl] at hj
      rw [← hj]; simp
theorem nthR_ins {cs : List CRow} {x : CRow} {k i : Nat} (hk : k ≤ cs.length) : nthR (cs.take k ++ x :: cs.drop k) i = if i < k then nthR cs i else if i = k then x else nthR cs (i - 1) := by
  unfold nthR
  have hl : (cs.take k).length = k := by simp; omega
  by_cases h : i < k
  · rw [if_pos h, List.getD_eq_getElem?_getD, List.getElem?_append_left (by omega), List.getElem?_take_of_lt h, List.getD_eq_getElem?_getD]
  · rw [if_neg h, List.getD_eq_getElem?_getD, List.getElem?_append_right (by omega), hl]
    by_cases e : i = k
    · rw [if_pos e, e, Nat.sub_self]; rfl
    · rw [if_neg e, show i - k = (i - k - 1) + 1 by omega, List.getElem?_cons_succ, List.getElem?_drop, show k + (i - k - 1) = i - 1 by omega, List.getD_eq_getElem?_getD]
theorem CB.ins {lo k : Nat} {W w' : World} {M c : Nat} {cs : List CRow} {x : CRow} {xs : List Value} {v' : Value} (h : CB lo W M c cs) (hN : News W M c cs xs) (hx : AB lo W x.M x.c x.rs) (hne : ∀ y ∈ cs, ∀ k, blks y.M y.rs k → ¬ blks x.M x.rs k) (hk : k ≤ cs.length)
    (hown : w'.ownsRow lo 96 2 v' (k + 1 + (cs.length - k)) (xs.take (k * 2) ++ rowC x ++ xs.drop (k * 2))) (hmv : Moved W w') : ∃ M' c', v' = .slice (some ⟨M', 0, none⟩) (cs.take k ++ x :: cs.drop k).length c' ∧ CB lo w' M' c' (cs.take k ++ x :: cs.drop k) := by
  have hln : (cs.take k ++ x :: cs.drop k).length = k + 1 + (cs.length - k) := by simp; omega
  rcases hown.2 with ⟨_, e⟩ | ⟨g, cap, cur, e, hb, hgb, hc, hm, hz, ht⟩
  · omega
  · rw [hln]
    refine ⟨g, cap, e, hb, ⟨by rw [hln]; exact hc, hm⟩, ⟨cur, hgb, hz, fun i hi => ?_⟩, ⟨fun y hy => ?_, ?_⟩⟩
    · have hat : ∀ q, q < (k + 1 + (cs.length - k)) * 2 → cur[q]? = (xs.take (k * 2) ++ rowC x ++ xs.drop (k * 2))[q]? := fun q hq => by
        rw [← ht, List.getElem?_take_of_lt hq]; simp
      have htl : (xs.take (k * 2)).length = k * 2 := by rw [List.length_take, hN.len]; omega
      have hrl : (rowC x).length = 2 := rfl
      rw [hln] at hi
      rw [nthR_ins hk]
      by_cases h1 : i < k
      · rw [if_pos h1]
        refine (hN.cel i (by omega)).congr fun q _ hq => ?_
        show cur[q]? = xs[q]?
        rw [hat q (by omega), List.append_assoc, List.getElem?_append_left (by omega), List.getElem?_take_of_lt (by omega)]
      · rw [if_neg h1]
        by_cases h2 : i = k
        · rw [if_pos h2, h2]
          have hr : ∀ j, j < 2 → cur[k * 2 + j]? = (rowC x)[j]? := fun j hj => by
            rw [hat _ (by omega), List.append_assoc, List.getElem?_append_right (by omega), htl, List.getElem?_append_left (by omega)]
            congr 1; omega
          exact ⟨hr 0 (by omega), hr 1 (by omega)⟩
        · rw [if_neg h2]
          have hd : ∀ j, j < 2 → cur[i * 2 + j]? = xs[(i - 1) * 2 + j]? := fun j hj => by
            rw [hat _ (by omega), List.getElem?_append_right (by rw [List.length_append]; omega), List.getElem?_drop, List.length_append, htl, hrl]
            congr 1; omega
          obtain ⟨q0, q1⟩ := hN.cel (i - 1) (by omega)
          exact ⟨(hd 0 (by omega)).trans q0, (hd 1 (by omega)).trans q1⟩
    · rcases List.mem_append.1 hy with hy | hy
      · exact ab_moved (h.rows.rows y (List.mem_of_mem_take hy)) hmv
      · rcases List.mem_cons.1 hy with hy | hy
        · subst hy; exact ab_moved hx hmv
        · exact ab_moved (h.rows.rows y (List.mem_of_mem_drop hy)) hmv
    · have hp := h.rows.ne
      rw [← List.take_append_drop k cs, List.pairwise_append] at hp
      rw [List.pairwise_append, List.pairwise_cons]
      refine ⟨hp.1, ⟨fun y hy q h1 h2 => hne y (List.mem_of_mem_drop hy) q h2 h1, hp.2.1⟩, fun a ha b hb' => ?_⟩
      rcases List.mem_cons.1 hb' with hb' | hb'
      · subst hb'; exact hne a (List.mem_of_mem_take ha)
      · exact hp.2.2 a ha b hb'
theorem chs_ins (cs : List CRow) (x : CRow) (k : Nat) : chs (cs.take k ++ x :: cs.drop k) = (chs cs).take k ++ x.ch :: (chs cs).drop k := by simp [chs, List.map_take, List.map_drop]
end Go.Proofs.YtooninmicfcfoaaGreat.Ins
namespace Go.Proofs.YtooninmicfcfoaaGreat.PrtV
open Go.RowKit
open Labs LabS Alms AlmM Over Blk App Rws ChnI ChnC ChnP ChnK Chs Prt PrtO PrtF PrtC
open Fing (fingerB)

theorem AB.one {lo : Nat} {w : World} {M : Nat} {x : ARow} (h : Blk w M #[.slice (some ⟨x.1, 0, none⟩) x.2.2.l.length x.2.1, .int .i64 x.2.2.s, .int .i64 x.2.2.e, .string x.2.2.n] 29) (hl : lo ≤ M) (hx : OwnA lo w x) : AB lo w M 1 [x] :=
  ⟨hl, ⟨by simp, by unfold maxLen; omega⟩, ⟨_, h, rfl, fun i hi => by
    have e : i = 0 := by simp at hi; exact hi
    subst e
    exact ⟨rfl, rfl, rfl, rfl⟩⟩, fun y hy => by rw [List.mem_singleton.1 hy]; exact hx, List.pairwise_singleton _ _⟩
theorem bel_alloc {z w : World} (h : Below z.heap.size z w) (o : Obj) : Below z.heap.size z (w.alloc o) := h.alloc h.size o
set_option maxRecDepth 100000 in
set_option maxHeartbeats 4000000 in
theorem specPut_any (hd vr : Int) (a : Option Addr) (cap : Nat) (C : List PCh) (g o cap' : Nat) (x : PAl) (w : World) (hr : RdG RdN w a C) (hx : Reads w (some ⟨g, o, none⟩) x.l) (hl : C.length ≤ 1048576) (hs : Small C) (hc : C.length + sumC C ≤ 1048576) (hxl : x.l.length ≤ 1048576) (hxf : LabT.Fits x.l) :
    Calls Tryz.prog 10 #[.agg #[.int .i64 hd, .int .i64 vr, .slice a C.length cap], .agg #[.slice (some ⟨g, o, none⟩) x.l.length cap', .int .i64 x.s, .int .i64 x.e, .string x.n]] w fun e w' => (∃ M c cs, e = .returned (.tuple #[.agg #[.int .i64 hd, .int .i64 (IntKind.i64.wrap (vr + 1)), .slice (some ⟨M, 0, none⟩) cs.length c], .bool (newC C x)]) ∧ CB w.heap.size w' M c cs ∧ chs cs = putC C x) ∧ Below w.heap.size w w' := by
  have HR : Hid (RdG RdN w a C ∧ Reads w (some ⟨g, o, none⟩) x.l ∧ Small C ∧ C.length + sumC C ≤ 1048576 ∧ x.l.length ≤ 1048576 ∧ LabT.Fits x.l) := ⟨hr, hx, hs, hc, hxl, hxf⟩
  clear hr hx hs hc hxl hxf
  obtain ⟨vu, hvu⟩ : ∃ vu, IntKind.i64.wrap (vr + 1) = vu := ⟨_, rfl⟩
  rw [hvu]
  go_enter Tryz.func10, Tryz.ntmps10
  go_wp2_with fail
  obtain ⟨W0, hW0⟩ : ∃ W0, ((w.alloc (.cells #[.int .i64 hd, .int .i64 vr, .slice a C.length cap] 26)).alloc (.cells #[.slice (some ⟨g, o, none⟩) x.l.length cap', .int .i64 x.s, .int .i64 x.e, .string x.n] 29)).alloc (.cells #[.int .i64 0, .int .i64 0, .slice none 0 0] 26) = W0 := ⟨_, rfl⟩
  have HW0 : Hid (Below w.heap.size w W0 ∧ Blk W0 w.heap.size #[.int .i64 hd, .int .i64 vr, .slice a C.length cap] 26 ∧ Blk W0 (w.heap.size + 1) #[.slice (some ⟨g, o, none⟩) x.l.length cap', .int .i64 x.s, .int .i64 x.e, .string x.n] 29 ∧ Blk W0 (w.heap.size + 2) #[.int .i64 0, .int .i64 0, .slice none 0 0] 26 ∧ W0.heap.size = w.heap.size + 3) := by
    rw [← hW0]
    exact ⟨Alm.below3 w _ _ _, ((Blk.new _ _ _).alloc _).alloc _, (Blk.new_at (by simp)).alloc _, Blk.new_at (by simp), by simp⟩
  rw [hW0]
  clear hW0
  refine (l7Copy_any hd vr a cap C W0 (HR.out.1.below stays_rn HW0.out.1) hl HR.out.2.2.1).mono ?_
  rintro e w2 ⟨⟨Mo, co, cs, rfl, hcb, hch⟩, hb2⟩
  go_upto_region 2 with fail
  obtain ⟨W3, hW3⟩ : ∃ W3, w2.alloc (.cells #[.int .i64 hd, .int .i64 vr, .slice (some ⟨Mo, 0, none⟩) cs.length co] 26) = W3 := ⟨_, rfl⟩
  have hb3 : Below w2.heap.size w2 W3 := by rw [← hW3]; exact Go.Joins.below_alloc1 w2 _
  have hB3 : Blk W3 w2.heap.size #[.int .i64 hd, .int .i64 vr, .slice (some ⟨Mo, 0, none⟩) cs.length co] 26 := by rw [← hW3]; exact Blk.new _ _ _
  rw [hW3]
  clear hW3
  obtain ⟨W4, hW4⟩ : ∃ W4, W3.setCell ⟨w2.heap.size, 1, none⟩ (.int .i64 vu) = W4 := ⟨_, rfl⟩
  have H4 : Hid (Below W0.heap.size W0 W4 ∧ Blk W4 w2.heap.size #[.int .i64 hd, .int .i64 vu, .slice (some ⟨Mo, 0, none⟩) cs.length co] 26 ∧ CB W0.heap.size W4 Mo co cs ∧ chs cs = C ∧ W0.heap.size ≤ w2.heap.size) := by
    rw [← hW4]
    exact ⟨ChnI.set_low (grow_on hb2 hb3) hb2.size 1 _, hB3.set 1 _, CB.set' (hcb.grow hb3) hB3 1 _, hch, hb2.size⟩
  have z1 : W3.cell? ⟨w2.heap.size, 1, none⟩ = some (.int .i64 vr) := hB3.cell 1
  have zf := hB3.frozen 1
  have p1 : W3.cell? ⟨w.heap.size, 1, none⟩ = some (.int .i64 vr) := (HW0.out.2.1.grow (grow_on hb2 hb3)).cell 1
  have a0 : W4.cell? ⟨w.heap.size + 1, 0, none⟩ = some (.slice (some ⟨g, o, none⟩) x.l.length cap') := (HW0.out.2.2.1.grow H4.out.1).cell 0
  clear hcb hch hb2 hb3 hB3
  go_wp2_with fail
  refine (Fing.specFinger_any _ cap' x.l W4 (HR.out.2.1.below (grow_on HW0.out.1 H4.out.1)) (by have := HR.out.2.2.2.2.1; unfold maxLen; omega) HR.out.2.2.2.2.2).mono ?_
  rintro e w5 ⟨rfl, hb5⟩
  have H5 : Hid (Below W0.heap.size W0 w5 ∧ Blk w5 w2.heap.size #[.int .i64 hd, .int .i64 vu, .slice (some ⟨Mo, 0, none⟩) cs.length co] 26 ∧ CB W0.heap.size w5 Mo co cs) := ⟨grow_on H4.out.1 hb5, H4.out.2.1.grow hb5, H4.out.2.2.1.grow hb5⟩
  have b0 : w5.cell? ⟨w.heap.size, 0, none⟩ = some (.int .i64 hd) := (HW0.out.2.1.grow H5.out.1).cell 0
  have b1 : w5.cell? ⟨w.heap.size, 1, none⟩ = some (.int .i64 vr) := (HW0.out.2.1.grow H5.out.1).cell 1
  have b2 : w5.cell? ⟨w.heap.size, 2, none⟩ = some (.slice a C.length cap) := (HW0.out.2.1.grow H5.out.1).cell 2
  clear hb5 z1 zf p1 a0 hW4
  go_wp2_with fail
  refine (l7At_any hd vr _ a cap C w5 (HR.out.1.rd.below stays_rd (grow_on HW0.out.1 H5.out.1)) hl).mono ?_
  rintro e w6 ⟨rfl, hb6⟩
  have H6 : Hid (Below W0.heap.size W0 w6 ∧ Blk w6 w2.heap.size #[.int .i64 hd, .int .i64 vu, .slice (some ⟨Mo, 0, none⟩) cs.length co] 26 ∧ CB W0.heap.size w6 Mo co cs) := ⟨grow_on H5.out.1 hb6, H5.out.2.1.grow hb6, H5.out.2.2.grow hb6⟩
  clear hb6 b0 b1 b2
  rcases at_cases C (fingerB x.l : Int) with ⟨h0, h1, h2⟩ | ⟨k, h0, h1, hk, h3, h4⟩
  · rw [h1]
    have HE : Hid (putC C x = C.take (posB C (fingerB x.l : Int)) ++ ⟨fingerB x.l, [x]⟩ :: C.drop (posB C (fingerB x.l : Int)) ∧ newC C x = true) := put_none h0
    clear h0 h1 h2
    have b2 : w6.cell? ⟨w.heap.size, 2, none⟩ = some (.slice a C.length cap) := (HW0.out.2.1.grow H6.out.1).cell 2
    obtain ⟨F, hF⟩ : ∃ F : Int, (fingerB x.l : Int) = F := ⟨_, rfl⟩
    rw [hF] at HE ⊢
    go_wp2
    go_loopw [8] (fun v w' => ∃ k : Nat, v = .int .i64 k ∧ k ≤ C.length ∧ (∀ j, j < k → (nthC C j).f < F) ∧ w' = w6) (fun v _ => C.length - (intOf v).toNat)
    case atStart => exact ⟨0, rfl, Nat.zero_le _, fun j hj => by omega, rfl⟩
    case round =>
      obtain ⟨k, rfl, hk, hlow, hwr⟩ := hrel
      subst hwr
      have HL : Hid (∀ j, j < k → (nthC C j).f < F) := hlow
      clear hlow
      by_cases hkl : k < C.length
      · have hk' : (k : Int) < (C.length : Int) := by omega
        obtain ⟨b, off, ea, hb, ad, cp, hat⟩ := (HR.out.1.below stays_rn (grow_on HW0.out.1 H6.out.1)).get hkl
        have y0 := hat.c0
        have HEA : Hid (a = some ⟨b, off, none⟩) := ea
        rw [ea] at b2
        clear hat hb ea
        by_cases hf : (nthC C k).f < F
        · go_wp2
          go_roundw
          case rel => exact ⟨k + 1, by go_num, by omega, fun j hj => by
            by_cases e : j = k
            · subst e; exact hf
            · exact HL.out j (by omega), by first | rfl | trivial⟩
          case measure => simp [intOf]; omega
        · have HP : Hid (posB C F = k ∧ k ≤ C.length) := ⟨pos_at HL.out hf hkl, hk⟩
          have hf' : ¬ (nthC C k).f < F := hf
          go_upto_region 12 with fail
          have a0 : wr.cell? ⟨w.heap.size + 1, 0, none⟩ = some (.slice (some ⟨g, o, none⟩) x.l.length cap') := (HW0.out.2.2.1.grow H6.out.1).cell 0
          have a1 : wr.cell? ⟨w.heap.size + 1, 1, none⟩ = some (.int .i64 x.s) := (HW0.out.2.2.1.grow H6.out.1).cell 1
          have a2 : wr.cell? ⟨w.heap.size + 1, 2, none⟩ = some (.int .i64 x.e) := (HW0.out.2.2.1.grow H6.out.1).cell 2
          have a3 : wr.cell? ⟨w.heap.size + 1, 3, none⟩ = some (.string x.n) := (HW0.out.2.2.1.grow H6.out.1).cell 3
          go_wp2_with fail
          refine (copyS_any g o cap' x.l x.s x.e x.n wr (HR.out.2.1.below (grow_on HW0.out.1 H6.out.1)) HR.out.2.2.2.2.1).mono ?_
          rintro r w8 ⟨⟨My, cy, rfl, hO⟩, hb8⟩
          go_upto_region 13 with fail
          obtain ⟨W9, hW9⟩ : ∃ W9, (w8.alloc (.cells #[.slice (some ⟨My, 0, none⟩) x.l.length cy, .int .i64 x.s, .int .i64 x.e, .string x.n] 29)).alloc (.cells #[.int .i64 F, .slice (some ⟨w8.heap.size, 0, none⟩) 1 1] 96) = W9 := ⟨_, rfl⟩
          have H9 : Hid (Below wr.heap.size wr W9 ∧ Blk W9 (w8.heap.size + 1) #[.int .i64 F, .slice (some ⟨w8.heap.size, 0, none⟩) 1 1] 96 ∧ AB wr.heap.size W9 w8.heap.size 1 [(My, cy, x)] ∧ wr.heap.size ≤ w8.heap.size) := by
            have hbb : Below w8.heap.size w8 W9 := by rw [← hW9]; exact Go.Joins.below_alloc2 w8 _ _
            have hB : Blk W9 w8.heap.size #[.slice (some ⟨My, 0, none⟩) x.l.length cy, .int .i64 x.s, .int .i64 x.e, .string x.n] 29 := by rw [← hW9]; exact (Blk.new _ _ _).alloc _
            have hC : Blk W9 (w8.heap.size + 1) #[.int .i64 F, .slice (some ⟨w8.heap.size, 0, none⟩) 1 1] 96 := by rw [← hW9]; exact Blk.new_at (by simp)
            obtain ⟨q1, ds, q2, q3⟩ := hO
            exact ⟨grow_on hb8 hbb, hC, AB.one (x := (My, cy, x)) hB hb8.size ⟨q1, HR.out.2.2.2.2.1, ds, q2.grow hbb, q3⟩, hb8.size⟩
          try rw [hW9]
          clear hW9 hO hb8 a0 a1 a2 a3
          have H13 : Hid (Below W0.heap.size W0 W9 ∧ Blk W9 w2.heap.size #[.int .i64 hd, .int .i64 vu, .slice (some ⟨Mo, 0, none⟩) cs.length co] 26 ∧ CB W0.heap.size W9 Mo co cs) := ⟨grow_on H6.out.1 H9.out.1, H6.out.2.1.grow H9.out.1, H6.out.2.2.grow H9.out.1⟩
          obtain ⟨xs, hN⟩ := Ins.CB.news H13.out.2.2
          have HN : Hid (Ins.News W9 Mo co cs xs) := hN
          have hcl : cs.length = C.length := by rw [← chs_len, H4.out.2.2.2.1]
          have hkc : k ≤ cs.length := by have := HP.out.2; omega
          have hcc : cs.length ≤ co := H13.out.2.2.cap.1
          have hkc1 : (k : Int) ≤ (cs.length : Int) := by omega
          have hkc2 : (k : Int) ≤ (co : Int) := by omega
          have hkc3 : (cs.length : Int) ≤ (co : Int) := by omega
          have hkc4 : k ≤ co := by omega
          have hcl6 : cs.length ≤ 1048576 := by omega
          obtain ⟨j0, hj, hy0, hy1, hy2⟩ := info_parts infoC
          have HI : Hid (Tryz.prog.info? 96 = some j0 ∧ j0.zero = some (.agg #[.int .i64 0, .slice none 0 0]) ∧ j0.size = 2 ∧ j0.bytes = 32) := ⟨hj, hy0, hy1, hy2⟩
          have HX : Hid (AB W0.heap.size W9 (⟨F, w8.heap.size, 1, [(My, cy, x)]⟩ : CRow).M (⟨F, w8.heap.size, 1, [(My, cy, x)]⟩ : CRow).c (⟨F, w8.heap.size, 1, [(My, cy, x)]⟩ : CRow).rs ∧ ∀ y ∈ cs, ∀ q, blks y.M y.rs q → ¬ blks (⟨F, w8.heap.size, 1, [(My, cy, x)]⟩ : CRow).M (⟨F, w8.heap.size, 1, [(My, cy, x)]⟩ : CRow).rs q) := ⟨H9.out.2.2.1.down H6.out.1.size, RowsC.fresh (x := (⟨F, w8.heap.size, 1, [(My, cy, x)]⟩ : CRow)) H6.out.2.2.rows H9.out.2.2.1 (Nat.le_refl _)⟩
          have HS : Hid (∀ w', Below W9.heap.size W9 w' → w'.cell? ⟨w2.heap.size, 2, none⟩ = some (.slice (some ⟨Mo, 0, none⟩) cs.length co) ∧ w'.cell? ⟨w8.heap.size + 1, 0, none⟩ = some (.int .i64 F) ∧ w'.cell? ⟨w8.heap.size + 1, 1, none⟩ = some (.slice (some ⟨w8.heap.size, 0, none⟩) 1 1)) := fun w' hz => ⟨(H13.out.2.1.grow hz).cell 2, (H9.out.2.1.grow hz).cell 0, (H9.out.2.1.grow hz).cell 1⟩
          clear hN hj hy0 hy1 hy2 hcl
          refine Hld.wp_region_LH (z := 15) (S := fun w' => w'.cell? ⟨w2.heap.size, 2, none⟩ = some (.slice (some ⟨Mo, 0, none⟩) cs.length co) ∧ w'.cell? ⟨w8.heap.size + 1, 0, none⟩ = some (.int .i64 F) ∧ w'.cell? ⟨w8.heap.size + 1, 1, none⟩ = some (.slice (some ⟨w8.heap.size, 0, none⟩) 1 1)) (by kernel_rfl) (HS.out _ (Below.refl W9.heap.size W9).drew) (fun hHeld => ?_)
          refine Hld.anyL_take (i := 1) (oi := { dst := some 66, op := Op.fieldAddr 26 (Operand.tmp 6) 2, type := 0, pos := "l07_part.go:71", after := #[], guard := none }) (v := ?vya1) rfl (by kernel_rfl) (by kernel_rfl) (by kernel_rfl) (by kernel_rfl) (fun _ _ _ h => h) (Or.inl ⟨by rfl, ?hyya1⟩) hHeld ?_
          case hyya1 => (intro w hSw; (try dsimp only at hSw); go_simp <;> with_reducible rfl)
          try simp only [Act.put, List.setIfInBounds_toArray, List.set_cons_zero, List.set_cons_succ]
          refine Hld.anyL_take (i := 2) (oi := { dst := some 67, op := Op.load 24 (Operand.tmp 66), type := 24, pos := "l07_part.go:71", after := #[{ on := 1, ground := Ground.data }], guard := none }) (v := ?vya2) rfl (by kernel_rfl) (by kernel_rfl) (by kernel_rfl) (by kernel_rfl) (fun _ _ _ h => h) (Or.inl ⟨by rfl, ?hyya2⟩) hHeld ?_
          case hyya2 => (intro w hSw; (try dsimp only at hSw); go_simp <;> with_reducible rfl)
          try simp only [Act.put, List.setIfInBounds_toArray, List.set_cons_zero, List.set_cons_succ]
          refine Hld.anyL_take (i := 3) (oi := { dst := some 68, op := Op.move (Operand.tmp 8), type := 3, pos := "l07_part.go:71", after := #[], guard := none }) (v := ?vya3) rfl (by kernel_rfl) (by kernel_rfl) (by kernel_rfl) (by kernel_rfl) (fun _ _ _ h => h) (Or.inl ⟨by rfl, ?hyya3⟩) hHeld ?_
          case hyya3 => (intro w hSw; (try dsimp only at hSw); go_simp <;> with_reducible rfl)
          try simp only [Act.put, List.setIfInBounds_toArray, List.set_cons_zero, List.set_cons_succ]
          refine Hld.anyL_take (i := 4) (oi := { dst := some 69, op := Op.slice 24 (Operand.tmp 67) none (some (Operand.tmp 68)) none, type := 24, pos := "l07_part.go:71", after := #[{ on := 2, ground := Ground.data }, { on := 3, ground := Ground.data }], guard := none }) (v := ?vya4) rfl (by kernel_rfl) (by kernel_rfl) (by kernel_rfl) (by kernel_rfl) (fun _ _ _ h => h) (Or.inl ⟨by rfl, ?hyya4⟩) hHeld ?_
          case hyya4 => (intro w hSw; (try dsimp only at hSw); go_simp <;> with_reducible rfl)
          try simp only [Act.put, List.setIfInBounds_toArray, List.set_cons_zero, List.set_cons_succ]
          refine Hld.anyL_take (i := 6) (oi := { dst := some 71, op := Op.load 96 (Operand.tmp 11), type := 96, pos := "l07_part.go:71", after := #[], guard := none }) (v := ?vya5) rfl (by kernel_rfl) (by kernel_rfl) (by kernel_rfl) (by kernel_rfl) (fun _ _ _ h => h) (Or.inl ⟨by rfl, ?hyya5⟩) hHeld ?_
          case hyya5 => (intro w hSw; (try dsimp only at hSw); go_simp <;> with_reducible rfl)
          try simp only [Act.put, List.setIfInBounds_toArray, List.set_cons_zero, List.set_cons_succ]
          refine Hld.anyL_take (i := 9) (oi := { dst := some 74, op := Op.fieldAddr 26 (Operand.tmp 6) 2, type := 0, pos := "l07_part.go:71", after := #[], guard := none }) (v := ?vya6) rfl (by kernel_rfl) (by kernel_rfl) (by kernel_rfl) (by kernel_rfl) (fun _ _ _ h => h) (Or.inl ⟨by rfl, ?hyya6⟩) hHeld ?_
          case hyya6 => (intro w hSw; (try dsimp only at hSw); go_simp <;> with_reducible rfl)
          try simp only [Act.put, List.setIfInBounds_toArray, List.set_cons_zero, List.set_cons_succ]
          refine Hld.anyL_take (i := 10) (oi := { dst := some 75, op := Op.load 24 (Operand.tmp 74), type := 24, pos := "l07_part.go:71", after := #[{ on := 9, ground := Ground.data }], guard := none }) (v := ?vya7) rfl (by kernel_rfl) (by kernel_rfl) (by kernel_rfl) (by kernel_rfl) (fun _ _ _ h => h) (Or.inl ⟨by rfl, ?hyya7⟩) hHeld ?_
          case hyya7 => (intro w hSw; (try dsimp only at hSw); go_simp <;> with_reducible rfl)
          try simp only [Act.put, List.setIfInBounds_toArray, List.set_cons_zero, List.set_cons_succ]
          refine Hld.anyL_take (i := 11) (oi := { dst := some 76, op := Op.move (Operand.tmp 8), type := 3, pos := "l07_part.go:71", after := #[], guard := none }) (v := ?vya8) rfl (by kernel_rfl) (by kernel_rfl) (by kernel_rfl) (by kernel_rfl) (fun _ _ _ h => h) (Or.inl ⟨by rfl, ?hyya8⟩) hHeld ?_
          case hyya8 => (intro w hSw; (try dsimp only at hSw); go_simp <;> with_reducible rfl)
          try simp only [Act.put, List.setIfInBounds_toArray, List.set_cons_zero, List.set_cons_succ]
          refine Hld.anyL_take (i := 12) (oi := { dst := some 77, op := Op.slice 24 (Operand.tmp 75) (some (Operand.tmp 76)) none none, type := 24, pos := "l07_part.go:71", after := #[{ on := 10, ground := Ground.data }, { on := 11, ground := Ground.data }], guard := none }) (v := ?vya9) rfl (by kernel_rfl) (by kernel_rfl) (by kernel_rfl) (by kernel_rfl) (fun _ _ _ h => h) (Or.inl ⟨by rfl, ?hyya9⟩) hHeld ?_
          case hyya9 => (intro w hSw; (try dsimp only at hSw); go_simp <;> with_reducible rfl)
          try simp only [Act.put, List.setIfInBounds_toArray, List.set_cons_zero, List.set_cons_succ]
          refine Hld.anyL_ready (rs := [0, 7]) (by kernel_rfl) (by simp) ?_
          refine Hld.AllL.cons (o := { dst := some 65, op := Op.buildSlice 24 0 #[], type := 24, pos := "l07_part.go:71", after := #[], guard := none }) rfl (fun K hK => ?_) ?_
          ·
            go_simp
            clear hHeld
            refine hK.out _ _ (HS.out _ (bel_alloc ((Below.refl W9.heap.size W9).drew) _)) (fun hHeld => ?_)
            clear hK K
            try simp only [Act.put, List.setIfInBounds_toArray, List.set_cons_zero, List.set_cons_succ]
            refine Hld.anyL_ready (rs := [5, 7]) (by kernel_rfl) (by simp) ?_
            refine Hld.AllL.cons (o := { dst := some 70, op := Op.call { callee := Callee.builtin Builtin.append, args := #[Operand.tmp 65, Operand.tmp 69], argTypes := #[24, 24] }, type := 24, pos := "l07_part.go:71", after := #[{ on := 0, ground := Ground.data }, { on := 4, ground := Ground.data }], guard := none }) rfl (fun K hK => ?_) ?_
            ·
              refine step_app (by rfl) _ _ 24 (by rfl) 96 j0 _ 2 32 Tryz.underlying24 HI.out.1 HI.out.2.1 HI.out.2.2.1 HI.out.2.2.2 (by rfl) (by decide) W9 (bel_alloc ((Below.refl W9.heap.size W9).drew) _) _ 0 [] (by rfl) (own_empty (Blk.new W9.drew _ _) (Nat.le_refl _)) ⟨Mo, 0, none⟩ k co (xs.take (k * 2)) (by rfl) ?yah1x0 (HN.out.fst _ (bel_alloc ((Below.refl W9.heap.size W9).drew) _) k hkc) ?yah1x1 ?yah1x2 ?yah1x3 ?_
              case yah1x0 => rw [List.length_take, HN.out.len]; omega
              case yah1x1 => exact fun u hu => HN.out.one u (List.mem_of_mem_take hu)
              case yah1x2 => unfold maxLen; omega
              case yah1x3 => omega
              intro v1 w3 hown1 bl1 hg1 hat1
              rw [Nat.zero_add, List.nil_append] at hown1
              have HO1 : Hid (w3.ownsRow W9.heap.size 96 2 v1 k (xs.take (k * 2)) ∧ Below W9.heap.size W9 w3) := ⟨hown1, bl1⟩
              clear hown1 bl1 hg1 hat1
              clear hHeld
              refine hK.out _ _ (HS.out _ (HO1.out.2)) (fun hHeld => ?_)
              clear hK K
              try simp only [Act.put, List.setIfInBounds_toArray, List.set_cons_zero, List.set_cons_succ]
              refine Hld.anyL_ready (rs := [7]) (by kernel_rfl) (by simp) ?_
              refine Hld.AllL.cons (o := { dst := some 72, op := Op.buildSlice 24 1 #[(0, Operand.tmp 71)], type := 24, pos := "l07_part.go:71", after := #[{ on := 6, ground := Ground.data }], guard := none }) rfl (fun K hK => ?_) Hld.AllL.nil
              go_simp
              clear hHeld
              refine hK.out _ _ (HS.out _ ((bel_alloc HO1.out.2 _))) (fun hHeld => ?_)
              clear hK K
              try simp only [Act.put, List.setIfInBounds_toArray, List.set_cons_zero, List.set_cons_succ]
              refine Hld.anyL_ready (rs := [8]) (by kernel_rfl) (by simp) ?_
              refine Hld.AllL.cons (o := { dst := some 73, op := Op.call { callee := Callee.builtin Builtin.append, args := #[Operand.tmp 70, Operand.tmp 72], argTypes := #[24, 24] }, type := 24, pos := "l07_part.go:71", after := #[{ on := 5, ground := Ground.data }, { on := 7, ground := Ground.data }, { on := 5, ground := Ground.chain }], guard := none }) rfl (fun K hK => ?_) Hld.AllL.nil
              refine step_app (by rfl) _ _ 24 (by rfl) 96 j0 _ 2 32 Tryz.underlying24 HI.out.1 HI.out.2.1 HI.out.2.2.1 HI.out.2.2.2 (by rfl) (by decide) W9 ((bel_alloc HO1.out.2 _)) v1 k (xs.take (k * 2)) (by rfl) ((own_grow HO1.out.1 (Go.Joins.below_alloc1 w3 _))) ⟨w3.heap.size, 0, none⟩ 1 1 (rowC (⟨F, w8.heap.size, 1, [(My, cy, x)]⟩ : CRow)) (by rfl) (by rfl) (blk_news (Blk.new w3 _ _)) (rowC_one _) ?yah2x0 ?yah2x1 ?_
              case yah2x0 => unfold maxLen; omega
              case yah2x1 => omega
              intro v2 w4 hown2 bl2 hg2 hat2
              have HO2 : Hid (w4.ownsRow W9.heap.size 96 2 v2 (k + 1) (xs.take (k * 2) ++ rowC (⟨F, w8.heap.size, 1, [(My, cy, x)]⟩ : CRow)) ∧ Below W9.heap.size W9 w4) := ⟨hown2, bl2⟩
              clear hown2 bl2 hg2 hat2
              clear hHeld
              refine hK.out _ _ (HS.out _ (HO2.out.2)) (fun hHeld => ?_)
              clear hK K
              try simp only [Act.put, List.setIfInBounds_toArray, List.set_cons_zero, List.set_cons_succ]
              refine Hld.anyL_ready (rs := [13]) (by kernel_rfl) (by simp) ?_
              refine Hld.AllL.cons (o := { dst := some 78, op := Op.call { callee := Callee.builtin Builtin.append, args := #[Operand.tmp 73, Operand.tmp 77], argTypes := #[24, 24] }, type := 24, pos := "l07_part.go:71", after := #[{ on := 8, ground := Ground.data }, { on := 12, ground := Ground.data }, { on := 8, ground := Ground.chain }], guard := none }) rfl (fun K hK => ?_) Hld.AllL.nil
              refine step_app (by rfl) _ _ 24 (by rfl) 96 j0 _ 2 32 Tryz.underlying24 HI.out.1 HI.out.2.1 HI.out.2.2.1 HI.out.2.2.2 (by rfl) (by decide) W9 HO2.out.2 v2 (k + 1) (xs.take (k * 2) ++ rowC (⟨F, w8.heap.size, 1, [(My, cy, x)]⟩ : CRow)) (by rfl) HO2.out.1 (if co = k then (⟨Mo, 0, none⟩ : Addr) else ⟨Mo, k * 2, none⟩) (cs.length - k) (co - k) (xs.drop (k * 2)) (by first | rfl | exact Ins.if_slice _ _ _ _) ?yah3x0 (HN.out.snd _ HO2.out.2 k hkc) ?yah3x1 ?yah3x2 ?yah3x3 ?_
              case yah3x0 => rw [List.length_drop, HN.out.len]; omega
              case yah3x1 => exact fun u hu => HN.out.one u (List.mem_of_mem_drop hu)
              case yah3x2 => unfold maxLen; omega
              case yah3x3 => omega
              intro v3 w5 hown3 bl3 hg3 hat3
              obtain ⟨M5, c5, ev, hCB5⟩ := Ins.CB.ins (k := k) (x := (⟨F, w8.heap.size, 1, [(My, cy, x)]⟩ : CRow)) H13.out.2.2 HN.out HX.out.1 HX.out.2 hkc (own_mono hown3 H13.out.1.size) (Moved.of bl3)
              obtain ⟨Ls, hLs⟩ : ∃ Ls, cs.take k ++ (⟨F, w8.heap.size, 1, [(My, cy, x)]⟩ : CRow) :: cs.drop k = Ls := ⟨_, rfl⟩
              rw [hLs] at ev hCB5
              have HL : Hid (cs.take k ++ (⟨F, w8.heap.size, 1, [(My, cy, x)]⟩ : CRow) :: cs.drop k = Ls) := hLs
              subst ev
              have HO3 : Hid (CB W0.heap.size w5 M5 c5 Ls ∧ Below W9.heap.size W9 w5 ∧ Blk w5 w2.heap.size #[.int .i64 hd, .int .i64 vu, .slice (some ⟨Mo, 0, none⟩) cs.length co] 26) := ⟨hCB5, bl3, H13.out.2.1.grow bl3⟩
              clear hLs hown3 bl3 hg3 hat3 hCB5
              clear hHeld
              refine hK.out _ _ (HS.out _ (HO3.out.2.1)) (fun hHeld => ?_)
              clear hK K
              try simp only [Act.put, List.setIfInBounds_toArray, List.set_cons_zero, List.set_cons_succ]
              refine Hld.anyL_take (i := 14) (oi := { dst := some 79, op := Op.fieldAddr 26 (Operand.tmp 6) 2, type := 0, pos := "l07_part.go:71", after := #[{ on := 0, ground := Ground.phase }, { on := 1, ground := Ground.phase }, { on := 2, ground := Ground.phase }, { on := 3, ground := Ground.phase }, { on := 4, ground := Ground.phase }, { on := 5, ground := Ground.phase }, { on := 6, ground := Ground.phase }, { on := 7, ground := Ground.phase }, { on := 8, ground := Ground.phase }, { on := 9, ground := Ground.phase }, { on := 10, ground := Ground.phase }, { on := 11, ground := Ground.phase }, { on := 12, ground := Ground.phase }, { on := 13, ground := Ground.phase }], guard := none }) (v := ?vya15) rfl (by kernel_rfl) (by kernel_rfl) (by kernel_rfl) (by kernel_rfl) (fun _ _ _ h => h) (Or.inl ⟨by rfl, ?hyya15⟩) hHeld ?_
              case hyya15 => (intro w hSw; (try dsimp only at hSw); go_simp <;> with_reducible rfl)
              try simp only [Act.put, List.setIfInBounds_toArray, List.set_cons_zero, List.set_cons_succ]
              refine Hld.anyL_ready (rs := [15]) (by kernel_rfl) (by simp) ?_
              refine Hld.AllL.last (o := { dst := none, op := Op.store 24 (Operand.tmp 79) (Operand.tmp 78), type := 0, pos := "l07_part.go:71", after := #[{ on := 14, ground := Ground.data }, { on := 13, ground := Ground.data }, { on := 13, ground := Ground.chain }, { on := 0, ground := Ground.phase }, { on := 1, ground := Ground.phase }, { on := 2, ground := Ground.phase }, { on := 3, ground := Ground.phase }, { on := 4, ground := Ground.phase }, { on := 5, ground := Ground.phase }, { on := 6, ground := Ground.phase }, { on := 7, ground := Ground.phase }, { on := 8, ground := Ground.phase }, { on := 9, ground := Ground.phase }, { on := 10, ground := Ground.phase }, { on := 11, ground := Ground.phase }, { on := 12, ground := Ground.phase }, { on := 13, ground := Ground.phase }], guard := none }) rfl (fun K hK => ?_)
              have g2 : w5.cell? ⟨w2.heap.size, 2, none⟩ = some (.slice (some ⟨Mo, 0, none⟩) cs.length co) := HO3.out.2.2.cell 2
              have gf := HO3.out.2.2.frozen 2
              go_simp
              refine hK.out _ _ ?_
              clear hK K g2 gf
              try simp only [Act.put, List.setIfInBounds_toArray, List.set_cons_zero, List.set_cons_succ]
              refine Hld.anyL_done (by kernel_rfl) ?_ _
              obtain ⟨WX, hWX⟩ : ∃ WX, w5.setCell ⟨w2.heap.size, 2, none⟩ (.slice (some ⟨M5, 0, none⟩) Ls.length c5) = WX := ⟨_, rfl⟩
              have H14 : Hid (Below W0.heap.size W0 WX ∧ Blk WX w2.heap.size #[.int .i64 hd, .int .i64 vu, .slice (some ⟨M5, 0, none⟩) Ls.length c5] 26 ∧ CB W0.heap.size WX M5 c5 Ls) := by
                rw [← hWX]
                exact ⟨ChnI.set_low (grow_on H13.out.1 HO3.out.2.1) H4.out.2.2.2.2 2 _, HO3.out.2.2.set 2 _, CB.set' HO3.out.1 HO3.out.2.2 2 _⟩
              try rw [hWX]
              clear hWX hHeld
              have r0 : WX.cell? ⟨w2.heap.size, 0, none⟩ = some (.int .i64 hd) := H14.out.2.1.cell 0
              have r1 : WX.cell? ⟨w2.heap.size, 1, none⟩ = some (.int .i64 vu) := H14.out.2.1.cell 1
              have r2 : WX.cell? ⟨w2.heap.size, 2, none⟩ = some (.slice (some ⟨M5, 0, none⟩) Ls.length c5) := H14.out.2.1.cell 2
              have HRB : Hid (Blk WX (w.heap.size + 2) #[.int .i64 0, .int .i64 0, .slice none 0 0] 26) := HW0.out.2.2.2.1.grow H14.out.1
              have t0 : WX.cell? ⟨w.heap.size + 2, 0, none⟩ = some (.int .i64 0) := HRB.out.cell 0
              have t1 : WX.cell? ⟨w.heap.size + 2, 1, none⟩ = some (.int .i64 0) := HRB.out.cell 1
              have t2 : WX.cell? ⟨w.heap.size + 2, 2, none⟩ = some (.slice none 0 0) := HRB.out.cell 2
              have tf0 := HRB.out.frozen 0
              have tf1 := HRB.out.frozen 1
              have tf2 := HRB.out.frozen 2
              go_wp2
              all_goals (
                have hs := put3 HRB.out (.int .i64 hd) (.int .i64 vu) (.slice (some ⟨M5, 0, none⟩) Ls.length c5)
                have s0 := hs.cell 0
                have s1 := hs.cell 1
                have s2 := hs.cell 2
                refine bodyPost_ret (v := .tuple #[.agg #[.int .i64 hd, .int .i64 vu, .slice (some ⟨M5, 0, none⟩) Ls.length c5], .bool true]) (by simp [results, Tryz.results10, go_sem, s0, s1, s2]) rfl ?_
                rw [HE.out.2]
                refine ⟨⟨M5, c5, Ls, rfl, (CB.set3 H14.out.2.2 HRB.out _ _ _).down HW0.out.1.size, ?_⟩, set3 (grow_on HW0.out.1 H14.out.1) (by omega) _ _ _⟩
                rw [← HL.out, Ins.chs_ins, H4.out.2.2.2.1, HE.out.1, HP.out.1]
                rfl)
            refine Hld.AllL.cons (o := { dst := some 72, op := Op.buildSlice 24 1 #[(0, Operand.tmp 71)], type := 24, pos := "l07_part.go:71", after := #[{ on := 6, ground := Ground.data }], guard := none }) rfl (fun K hK => ?_) Hld.AllL.nil
            go_simp
            clear hHeld
            refine hK.out _ _ (HS.out _ (bel_alloc (bel_alloc ((Below.refl W9.heap.size W9).drew) _) _)) (fun hHeld => ?_)
            clear hK K
            try simp only [Act.put, List.setIfInBounds_toArray, List.set_cons_zero, List.set_cons_succ]
            refine Hld.anyL_ready (rs := [5]) (by kernel_rfl) (by simp) ?_
            refine Hld.AllL.cons (o := { dst := some 70, op := Op.call { callee := Callee.builtin Builtin.append, args := #[Operand.tmp 65, Operand.tmp 69], argTypes := #[24, 24] }, type := 24, pos := "l07_part.go:71", after := #[{ on := 0, ground := Ground.data }, { on := 4, ground := Ground.data }], guard := none }) rfl (fun K hK => ?_) Hld.AllL.nil
            refine step_app (by rfl) _ _ 24 (by rfl) 96 j0 _ 2 32 Tryz.underlying24 HI.out.1 HI.out.2.1 HI.out.2.2.1 HI.out.2.2.2 (by rfl) (by decide) W9 (bel_alloc (bel_alloc ((Below.refl W9.heap.size W9).drew) _) _) _ 0 [] (by rfl) (own_empty ((Blk.new W9.drew _ _).alloc _) (Nat.le_refl _)) ⟨Mo, 0, none⟩ k co (xs.take (k * 2)) (by rfl) ?yah4x0 (HN.out.fst _ (bel_alloc (bel_alloc ((Below.refl W9.heap.size W9).drew) _) _) k hkc) ?yah4x1 ?yah4x2 ?yah4x3 ?_
            case yah4x0 => rw [List.length_take, HN.out.len]; omega
            case yah4x1 => exact fun u hu => HN.out.one u (List.mem_of_mem_take hu)
            case yah4x2 => unfold maxLen; omega
            case yah4x3 => omega
            intro v1 w3 hown1 bl1 hg1 hat1
            rw [Nat.zero_add, List.nil_append] at hown1
            have HO1 : Hid (w3.ownsRow W9.heap.size 96 2 v1 k (xs.take (k * 2)) ∧ Below W9.heap.size W9 w3) := ⟨hown1, bl1⟩
            have HB1 : Hid (Blk w3 (W9.heap.size + 1) (rowC (⟨F, w8.heap.size, 1, [(My, cy, x)]⟩ : CRow)).toArray 96) := blk_far (M := W9.heap.size + 1) (Blk.new_at (w := W9.alloc (.cells #[] 96)) (by simp)).drew hg1 (fun e => absurd (show W9.heap.size + 1 = W9.heap.size from Option.some.inj e) (by omega))
            clear hown1 bl1 hg1 hat1
            clear hHeld
            refine hK.out _ _ (HS.out _ (HO1.out.2)) (fun hHeld => ?_)
            clear hK K
            try simp only [Act.put, List.setIfInBounds_toArray, List.set_cons_zero, List.set_cons_succ]
            refine Hld.anyL_ready (rs := [8]) (by kernel_rfl) (by simp) ?_
            refine Hld.AllL.cons (o := { dst := some 73, op := Op.call { callee := Callee.builtin Builtin.append, args := #[Operand.tmp 70, Operand.tmp 72], argTypes := #[24, 24] }, type := 24, pos := "l07_part.go:71", after := #[{ on := 5, ground := Ground.data }, { on := 7, ground := Ground.data }, { on := 5, ground := Ground.chain }], guard := none }) rfl (fun K hK => ?_) Hld.AllL.nil
            refine step_app (by rfl) _ _ 24 (by rfl) 96 j0 _ 2 32 Tryz.underlying24 HI.out.1 HI.out.2.1 HI.out.2.2.1 HI.out.2.2.2 (by rfl) (by decide) W9 (HO1.out.2) v1 k (xs.take (k * 2)) (by rfl) (HO1.out.1) ⟨W9.heap.size + 1, 0, none⟩ 1 1 (rowC (⟨F, w8.heap.size, 1, [(My, cy, x)]⟩ : CRow)) (by rfl) (by rfl) (blk_news (HB1.out)) (rowC_one _) ?yah5x0 ?yah5x1 ?_
            case yah5x0 => unfold maxLen; omega
            case yah5x1 => omega
            intro v2 w4 hown2 bl2 hg2 hat2
            have HO2 : Hid (w4.ownsRow W9.heap.size 96 2 v2 (k + 1) (xs.take (k * 2) ++ rowC (⟨F, w8.heap.size, 1, [(My, cy, x)]⟩ : CRow)) ∧ Below W9.heap.size W9 w4) := ⟨hown2, bl2⟩
            clear hown2 bl2 hg2 hat2
            clear hHeld
            refine hK.out _ _ (HS.out _ (HO2.out.2)) (fun hHeld => ?_)
            clear hK K
            try simp only [Act.put, List.setIfInBounds_toArray, List.set_cons_zero, List.set_cons_succ]
            refine Hld.anyL_ready (rs := [13]) (by kernel_rfl) (by simp) ?_
            refine Hld.AllL.cons (o := { dst := some 78, op := Op.call { callee := Callee.builtin Builtin.append, args := #[Operand.tmp 73, Operand.tmp 77], argTypes := #[24, 24] }, type := 24, pos := "l07_part.go:71", after := #[{ on := 8, ground := Ground.data }, { on := 12, ground := Ground.data }, { on := 8, ground := Ground.chain }], guard := none }) rfl (fun K hK => ?_) Hld.AllL.nil
            refine step_app (by rfl) _ _ 24 (by rfl) 96 j0 _ 2 32 Tryz.underlying24 HI.out.1 HI.out.2.1 HI.out.2.2.1 HI.out.2.2.2 (by rfl) (by decide) W9 HO2.out.2 v2 (k + 1) (xs.take (k * 2) ++ rowC (⟨F, w8.heap.size, 1, [(My, cy, x)]⟩ : CRow)) (by rfl) HO2.out.1 (if co = k then (⟨Mo, 0, none⟩ : Addr) else ⟨Mo, k * 2, none⟩) (cs.length - k) (co - k) (xs.drop (k * 2)) (by first | rfl | exact Ins.if_slice _ _ _ _) ?yah6x0 (HN.out.snd _ HO2.out.2 k hkc) ?yah6x1 ?yah6x2 ?yah6x3 ?_
            case yah6x0 => rw [List.length_drop, HN.out.len]; omega
            case yah6x1 => exact fun u hu => HN.out.one u (List.mem_of_mem_drop hu)
            case yah6x2 => unfold maxLen; omega
            case yah6x3 => omega
            intro v3 w5 hown3 bl3 hg3 hat3
            obtain ⟨M5, c5, ev, hCB5⟩ := Ins.CB.ins (k := k) (x := (⟨F, w8.heap.size, 1, [(My, cy, x)]⟩ : CRow)) H13.out.2.2 HN.out HX.out.1 HX.out.2 hkc (own_mono hown3 H13.out.1.size) (Moved.of bl3)
            obtain ⟨Ls, hLs⟩ : ∃ Ls, cs.take k ++ (⟨F, w8.heap.size, 1, [(My, cy, x)]⟩ : CRow) :: cs.drop k = Ls := ⟨_, rfl⟩
            rw [hLs] at ev hCB5
            have HL : Hid (cs.take k ++ (⟨F, w8.heap.size, 1, [(My, cy, x)]⟩ : CRow) :: cs.drop k = Ls) := hLs
            subst ev
            have HO3 : Hid (CB W0.heap.size w5 M5 c5 Ls ∧ Below W9.heap.size W9 w5 ∧ Blk w5 w2.heap.size #[.int .i64 hd, .int .i64 vu, .slice (some ⟨Mo, 0, none⟩) cs.length co] 26) := ⟨hCB5, bl3, H13.out.2.1.grow bl3⟩
            clear hLs hown3 bl3 hg3 hat3 hCB5
            clear hHeld
            refine hK.out _ _ (HS.out _ (HO3.out.2.1)) (fun hHeld => ?_)
            clear hK K
            try simp only [Act.put, List.setIfInBounds_toArray, List.set_cons_zero, List.set_cons_succ]
            refine Hld.anyL_take (i := 14) (oi := { dst := some 79, op := Op.fieldAddr 26 (Operand.tmp 6) 2, type := 0, pos := "l07_part.go:71", after := #[{ on := 0, ground := Ground.phase }, { on := 1, ground := Ground.phase }, { on := 2, ground := Ground.phase }, { on := 3, ground := Ground.phase }, { on := 4, ground := Ground.phase }, { on := 5, ground := Ground.phase }, { on := 6, ground := Ground.phase }, { on := 7, ground := Ground.phase }, { on := 8, ground := Ground.phase }, { on := 9, ground := Ground.phase }, { on := 10, ground := Ground.phase }, { on := 11, ground := Ground.phase }, { on := 12, ground := Ground.phase }, { on := 13, ground := Ground.phase }], guard := none }) (v := ?vya20) rfl (by kernel_rfl) (by kernel_rfl) (by kernel_rfl) (by kernel_rfl) (fun _ _ _ h => h) (Or.inl ⟨by rfl, ?hyya20⟩) hHeld ?_
            case hyya20 => (intro w hSw; (try dsimp only at hSw); go_simp <;> with_reducible rfl)
            try simp only [Act.put, List.setIfInBounds_toArray, List.set_cons_zero, List.set_cons_succ]
            refine Hld.anyL_ready (rs := [15]) (by kernel_rfl) (by simp) ?_
            refine Hld.AllL.last (o := { dst := none, op := Op.store 24 (Operand.tmp 79) (Operand.tmp 78), type := 0, pos := "l07_part.go:71", after := #[{ on := 14, ground := Ground.data }, { on := 13, ground := Ground.data }, { on := 13, ground := Ground.chain }, { on := 0, ground := Ground.phase }, { on := 1, ground := Ground.phase }, { on := 2, ground := Ground.phase }, { on := 3, ground := Ground.phase }, { on := 4, ground := Ground.phase }, { on := 5, ground := Ground.phase }, { on := 6, ground := Ground.phase }, { on := 7, ground := Ground.phase }, { on := 8, ground := Ground.phase }, { on := 9, ground := Ground.phase }, { on := 10, ground := Ground.phase }, { on := 11, ground := Ground.phase }, { on := 12, ground := Ground.phase }, { on := 13, ground := Ground.phase }], guard := none }) rfl (fun K hK => ?_)
            have g2 : w5.cell? ⟨w2.heap.size, 2, none⟩ = some (.slice (some ⟨Mo, 0, none⟩) cs.length co) := HO3.out.2.2.cell 2
            have gf := HO3.out.2.2.frozen 2
            go_simp
            refine hK.out _ _ ?_
            clear hK K g2 gf
            try simp only [Act.put, List.setIfInBounds_toArray, List.set_cons_zero, List.set_cons_succ]
            refine Hld.anyL_done (by kernel_rfl) ?_ _
            obtain ⟨WX, hWX⟩ : ∃ WX, w5.setCell ⟨w2.heap.size, 2, none⟩ (.slice (some ⟨M5, 0, none⟩) Ls.length c5) = WX := ⟨_, rfl⟩
            have H14 : Hid (Below W0.heap.size W0 WX ∧ Blk WX w2.heap.size #[.int .i64 hd, .int .i64 vu, .slice (some ⟨M5, 0, none⟩) Ls.length c5] 26 ∧ CB W0.heap.size WX M5 c5 Ls) := by
              rw [← hWX]
              exact ⟨ChnI.set_low (grow_on H13.out.1 HO3.out.2.1) H4.out.2.2.2.2 2 _, HO3.out.2.2.set 2 _, CB.set' HO3.out.1 HO3.out.2.2 2 _⟩
            try rw [hWX]
            clear hWX hHeld
            have r0 : WX.cell? ⟨w2.heap.size, 0, none⟩ = some (.int .i64 hd) := H14.out.2.1.cell 0
            have r1 : WX.cell? ⟨w2.heap.size, 1, none⟩ = some (.int .i64 vu) := H14.out.2.1.cell 1
            have r2 : WX.cell? ⟨w2.heap.size, 2, none⟩ = some (.slice (some ⟨M5, 0, none⟩) Ls.length c5) := H14.out.2.1.cell 2
            have HRB : Hid (Blk WX (w.heap.size + 2) #[.int .i64 0, .int .i64 0, .slice none 0 0] 26) := HW0.out.2.2.2.1.grow H14.out.1
            have t0 : WX.cell? ⟨w.heap.size + 2, 0, none⟩ = some (.int .i64 0) := HRB.out.cell 0
            have t1 : WX.cell? ⟨w.heap.size + 2, 1, none⟩ = some (.int .i64 0) := HRB.out.cell 1
            have t2 : WX.cell? ⟨w.heap.size + 2, 2, none⟩ = some (.slice none 0 0) := HRB.out.cell 2
            have tf0 := HRB.out.frozen 0
            have tf1 := HRB.out.frozen 1
            have tf2 := HRB.out.frozen 2
            go_wp2
            all_goals (
              have hs := put3 HRB.out (.int .i64 hd) (.int .i64 vu) (.slice (some ⟨M5, 0, none⟩) Ls.length c5)
              have s0 := hs.cell 0
              have s1 := hs.cell 1
              have s2 := hs.cell 2
              refine bodyPost_ret (v := .tuple #[.agg #[.int .i64 hd, .int .i64 vu, .slice (some ⟨M5, 0, none⟩) Ls.length c5], .bool true]) (by simp [results, Tryz.results10, go_sem, s0, s1, s2]) rfl ?_
              rw [HE.out.2]
              refine ⟨⟨M5, c5, Ls, rfl, (CB.set3 H14.out.2.2 HRB.out _ _ _).down HW0.out.1.size, ?_⟩, set3 (grow_on HW0.out.1 H14.out.1) (by omega) _ _ _⟩
              rw [← HL.out, Ins.chs_ins, H4.out.2.2.2.1, HE.out.1, HP.out.1]
              rfl)
          refine Hld.AllL.cons (o := { dst := some 72, op := Op.buildSlice 24 1 #[(0, Operand.tmp 71)], type := 24, pos := "l07_part.go:71", after := #[{ on := 6, ground := Ground.data }], guard := none }) rfl (fun K hK => ?_) Hld.AllL.nil
          go_simp
          clear hHeld
          refine hK.out _ _ (HS.out _ (bel_alloc ((Below.refl W9.heap.size W9).drew) _)) (fun hHeld => ?_)
          clear hK K
          try simp only [Act.put, List.setIfInBounds_toArray, List.set_cons_zero, List.set_cons_succ]
          refine Hld.anyL_ready (rs := [0]) (by kernel_rfl) (by simp) ?_
          refine Hld.AllL.cons (o := { dst := some 65, op := Op.buildSlice 24 0 #[], type := 24, pos := "l07_part.go:71", after := #[], guard := none }) rfl (fun K hK => ?_) Hld.AllL.nil
          go_simp
          clear hHeld
          refine hK.out _ _ (HS.out _ (bel_alloc (bel_alloc ((Below.refl W9.heap.size W9).drew) _) _)) (fun hHeld => ?_)
          clear hK K
          try simp only [Act.put, List.setIfInBounds_toArray, List.set_cons_zero, List.set_cons_succ]
          refine Hld.anyL_ready (rs := [5]) (by kernel_rfl) (by simp) ?_
          refine Hld.AllL.cons (o := { dst := some 70, op := Op.call { callee := Callee.builtin Builtin.append, args := #[Operand.tmp 65, Operand.tmp 69], argTypes := #[24, 24] }, type := 24, pos := "l07_part.go:71", after := #[{ on := 0, ground := Ground.data }, { on := 4, ground := Ground.data }], guard := none }) rfl (fun K hK => ?_) Hld.AllL.nil
          refine step_app (by rfl) _ _ 24 (by rfl) 96 j0 _ 2 32 Tryz.underlying24 HI.out.1 HI.out.2.1 HI.out.2.2.1 HI.out.2.2.2 (by rfl) (by decide) W9 (bel_alloc (bel_alloc ((Below.refl W9.heap.size W9).drew) _) _) _ 0 [] (by rfl) (own_empty (Blk.new_at (by simp)) (by omega)) ⟨Mo, 0, none⟩ k co (xs.take (k * 2)) (by rfl) ?yah7x0 (HN.out.fst _ (bel_alloc (bel_alloc ((Below.refl W9.heap.size W9).drew) _) _) k hkc) ?yah7x1 ?yah7x2 ?yah7x3 ?_
          case yah7x0 => rw [List.length_take, HN.out.len]; omega
          case yah7x1 => exact fun u hu => HN.out.one u (List.mem_of_mem_take hu)
          case yah7x2 => unfold maxLen; omega
          case yah7x3 => omega
          intro v1 w3 hown1 bl1 hg1 hat1
          rw [Nat.zero_add, List.nil_append] at hown1
          have HO1 : Hid (w3.ownsRow W9.heap.size 96 2 v1 k (xs.take (k * 2)) ∧ Below W9.heap.size W9 w3) := ⟨hown1, bl1⟩
          have HB1 : Hid (Blk w3 W9.heap.size (rowC (⟨F, w8.heap.size, 1, [(My, cy, x)]⟩ : CRow)).toArray 96) := blk_far (M := W9.heap.size) ((Blk.new W9 _ _).alloc _).drew hg1 (fun e => absurd (show W9.heap.size = W9.heap.size + 1 from Option.some.inj e) (by omega))
          clear hown1 bl1 hg1 hat1
          clear hHeld
          refine hK.out _ _ (HS.out _ (HO1.out.2)) (fun hHeld => ?_)
          clear hK K
          try simp only [Act.put, List.setIfInBounds_toArray, List.set_cons_zero, List.set_cons_succ]
          refine Hld.anyL_ready (rs := [8]) (by kernel_rfl) (by simp) ?_
          refine Hld.AllL.cons (o := { dst := some 73, op := Op.call { callee := Callee.builtin Builtin.append, args := #[Operand.tmp 70, Operand.tmp 72], argTypes := #[24, 24] }, type := 24, pos := "l07_part.go:71", after := #[{ on := 5, ground := Ground.data }, { on := 7, ground := Ground.data }, { on := 5, ground := Ground.chain }], guard := none }) rfl (fun K hK => ?_) Hld.AllL.nil
          refine step_app (by rfl) _ _ 24 (by rfl) 96 j0 _ 2 32 Tryz.underlying24 HI.out.1 HI.out.2.1 HI.out.2.2.1 HI.out.2.2.2 (by rfl) (by decide) W9 (HO1.out.2) v1 k (xs.take (k * 2)) (by rfl) (HO1.out.1) ⟨W9.heap.size, 0, none⟩ 1 1 (rowC (⟨F, w8.heap.size, 1, [(My, cy, x)]⟩ : CRow)) (by rfl) (by rfl) (blk_news (HB1.out)) (rowC_one _) ?yah8x0 ?yah8x1 ?_
          case yah8x0 => unfold maxLen; omega
          case yah8x1 => omega
          intro v2 w4 hown2 bl2 hg2 hat2
          have HO2 : Hid (w4.ownsRow W9.heap.size 96 2 v2 (k + 1) (xs.take (k * 2) ++ rowC (⟨F, w8.heap.size, 1, [(My, cy, x)]⟩ : CRow)) ∧ Below W9.heap.size W9 w4) := ⟨hown2, bl2⟩
          clear hown2 bl2 hg2 hat2
          clear hHeld
          refine hK.out _ _ (HS.out _ (HO2.out.2)) (fun hHeld => ?_)
          clear hK K
          try simp only [Act.put, List.setIfInBounds_toArray, List.set_cons_zero, List.set_cons_succ]
          refine Hld.anyL_ready (rs := [13]) (by kernel_rfl) (by simp) ?_
          refine Hld.AllL.cons (o := { dst := some 78, op := Op.call { callee := Callee.builtin Builtin.append, args := #[Operand.tmp 73, Operand.tmp 77], argTypes := #[24, 24] }, type := 24, pos := "l07_part.go:71", after := #[{ on := 8, ground := Ground.data }, { on := 12, ground := Ground.data }, { on := 8, ground := Ground.chain }], guard := none }) rfl (fun K hK => ?_) Hld.AllL.nil
          refine step_app (by rfl) _ _ 24 (by rfl) 96 j0 _ 2 32 Tryz.underlying24 HI.out.1 HI.out.2.1 HI.out.2.2.1 HI.out.2.2.2 (by rfl) (by decide) W9 HO2.out.2 v2 (k + 1) (xs.take (k * 2) ++ rowC (⟨F, w8.heap.size, 1, [(My, cy, x)]⟩ : CRow)) (by rfl) HO2.out.1 (if co = k then (⟨Mo, 0, none⟩ : Addr) else ⟨Mo, k * 2, none⟩) (cs.length - k) (co - k) (xs.drop (k * 2)) (by first | rfl | exact Ins.if_slice _ _ _ _) ?yah9x0 (HN.out.snd _ HO2.out.2 k hkc) ?yah9x1 ?yah9x2 ?yah9x3 ?_
          case yah9x0 => rw [List.length_drop, HN.out.len]; omega
          case yah9x1 => exact fun u hu => HN.out.one u (List.mem_of_mem_drop hu)
          case yah9x2 => unfold maxLen; omega
          case yah9x3 => omega
          intro v3 w5 hown3 bl3 hg3 hat3
          obtain ⟨M5, c5, ev, hCB5⟩ := Ins.CB.ins (k := k) (x := (⟨F, w8.heap.size, 1, [(My, cy, x)]⟩ : CRow)) H13.out.2.2 HN.out HX.out.1 HX.out.2 hkc (own_mono hown3 H13.out.1.size) (Moved.of bl3)
          obtain ⟨Ls, hLs⟩ : ∃ Ls, cs.take k ++ (⟨F, w8.heap.size, 1, [(My, cy, x)]⟩ : CRow) :: cs.drop k = Ls := ⟨_, rfl⟩
          rw [hLs] at ev hCB5
          have HL : Hid (cs.take k ++ (⟨F, w8.heap.size, 1, [(My, cy, x)]⟩ : CRow) :: cs.drop k = Ls) := hLs
          subst ev
          have HO3 : Hid (CB W0.heap.size w5 M5 c5 Ls ∧ Below W9.heap.size W9 w5 ∧ Blk w5 w2.heap.size #[.int .i64 hd, .int .i64 vu, .slice (some ⟨Mo, 0, none⟩) cs.length co] 26) := ⟨hCB5, bl3, H13.out.2.1.grow bl3⟩
          clear hLs hown3 bl3 hg3 hat3 hCB5
          clear hHeld
          refine hK.out _ _ (HS.out _ (HO3.out.2.1)) (fun hHeld => ?_)
          clear hK K
          try simp only [Act.put, List.setIfInBounds_toArray, List.set_cons_zero, List.set_cons_succ]
          refine Hld.anyL_take (i := 14) (oi := { dst := some 79, op := Op.fieldAddr 26 (Operand.tmp 6) 2, type := 0, pos := "l07_part.go:71", after := #[{ on := 0, ground := Ground.phase }, { on := 1, ground := Ground.phase }, { on := 2, ground := Ground.phase }, { on := 3, ground := Ground.phase }, { on := 4, ground := Ground.phase }, { on := 5, ground := Ground.phase }, { on := 6, ground := Ground.phase }, { on := 7, ground := Ground.phase }, { on := 8, ground := Ground.phase }, { on := 9, ground := Ground.phase }, { on := 10, ground := Ground.phase }, { on := 11, ground := Ground.phase }, { on := 12, ground := Ground.phase }, { on := 13, ground := Ground.phase }], guard := none }) (v := ?vya26) rfl (by kernel_rfl) (by kernel_rfl) (by kernel_rfl) (by kernel_rfl) (fun _ _ _ h => h) (Or.inl ⟨by rfl, ?hyya26⟩) hHeld ?_
          case hyya26 => (intro w hSw; (try dsimp only at hSw); go_simp <;> with_reducible rfl)
          try simp only [Act.put, List.setIfInBounds_toArray, List.set_cons_zero, List.set_cons_succ]
          refine Hld.anyL_ready (rs := [15]) (by kernel_rfl) (by simp) ?_
          refine Hld.AllL.last (o := { dst := none, op := Op.store 24 (Operand.tmp 79) (Operand.tmp 78), type := 0, pos := "l07_part.go:71", after := #[{ on := 14, ground := Ground.data }, { on := 13, ground := Ground.data }, { on := 13, ground := Ground.chain }, { on := 0, ground := Ground.phase }, { on := 1, ground := Ground.phase }, { on := 2, ground := Ground.phase }, { on := 3, ground := Ground.phase }, { on := 4, ground := Ground.phase }, { on := 5, ground := Ground.phase }, { on := 6, ground := Ground.phase }, { on := 7, ground := Ground.phase }, { on := 8, ground := Ground.phase }, { on := 9, ground := Ground.phase }, { on := 10, ground := Ground.phase }, { on := 11, ground := Ground.phase }, { on := 12, ground := Ground.phase }, { on := 13, ground := Ground.phase }], guard := none }) rfl (fun K hK => ?_)
          have g2 : w5.cell? ⟨w2.heap.size, 2, none⟩ = some (.slice (some ⟨Mo, 0, none⟩) cs.length co) := HO3.out.2.2.cell 2
          have gf := HO3.out.2.2.frozen 2
          go_simp
          refine hK.out _ _ ?_
          clear hK K g2 gf
          try simp only [Act.put, List.setIfInBounds_toArray, List.set_cons_zero, List.set_cons_succ]
          refine Hld.anyL_done (by kernel_rfl) ?_ _
          obtain ⟨WX, hWX⟩ : ∃ WX, w5.setCell ⟨w2.heap.size, 2, none⟩ (.slice (some ⟨M5, 0, none⟩) Ls.length c5) = WX := ⟨_, rfl⟩
          have H14 : Hid (Below W0.heap.size W0 WX ∧ Blk WX w2.heap.size #[.int .i64 hd, .int .i64 vu, .slice (some ⟨M5, 0, none⟩) Ls.length c5] 26 ∧ CB W0.heap.size WX M5 c5 Ls) := by
            rw [← hWX]
            exact ⟨ChnI.set_low (grow_on H13.out.1 HO3.out.2.1) H4.out.2.2.2.2 2 _, HO3.out.2.2.set 2 _, CB.set' HO3.out.1 HO3.out.2.2 2 _⟩
          try rw [hWX]
          clear hWX hHeld
          have r0 : WX.cell? ⟨w2.heap.size, 0, none⟩ = some (.int .i64 hd) := H14.out.2.1.cell 0
          have r1 : WX.cell? ⟨w2.heap.size, 1, none⟩ = some (.int .i64 vu) := H14.out.2.1.cell 1
          have r2 : WX.cell? ⟨w2.heap.size, 2, none⟩ = some (.slice (some ⟨M5, 0, none⟩) Ls.length c5) := H14.out.2.1.cell 2
          have HRB : Hid (Blk WX (w.heap.size + 2) #[.int .i64 0, .int .i64 0, .slice none 0 0] 26) := HW0.out.2.2.2.1.grow H14.out.1
          have t0 : WX.cell? ⟨w.heap.size + 2, 0, none⟩ = some (.int .i64 0) := HRB.out.cell 0
          have t1 : WX.cell? ⟨w.heap.size + 2, 1, none⟩ = some (.int .i64 0) := HRB.out.cell 1
          have t2 : WX.cell? ⟨w.heap.size + 2, 2, none⟩ = some (.slice none 0 0) := HRB.out.cell 2
          have tf0 := HRB.out.frozen 0
          have tf1 := HRB.out.frozen 1
          have tf2 := HRB.out.frozen 2
          go_wp2
          all_goals (
            have hs := put3 HRB.out (.int .i64 hd) (.int .i64 vu) (.slice (some ⟨M5, 0, none⟩) Ls.length c5)
            have s0 := hs.cell 0
            have s1 := hs.cell 1
            have s2 := hs.cell 2
            refine bodyPost_ret (v := .tuple #[.agg #[.int .i64 hd, .int .i64 vu, .slice (some ⟨M5, 0, none⟩) Ls.length c5], .bool true]) (by simp [results, Tryz.results10, go_sem, s0, s1, s2]) rfl ?_
            rw [HE.out.2]
            refine ⟨⟨M5, c5, Ls, rfl, (CB.set3 H14.out.2.2 HRB.out _ _ _).down HW0.out.1.size, ?_⟩, set3 (grow_on HW0.out.1 H14.out.1) (by omega) _ _ _⟩
            rw [← HL.out, Ins.chs_ins, H4.out.2.2.2.1, HE.out.1, HP.out.1]
            rfl)
      · have hk' : ¬ (k : Int) < (C.length : Int) := by omega
        have HP : Hid (posB C F = k ∧ k ≤ C.length) := ⟨by
          have e : k = C.length := by omega
          subst e
          exact pos_all HL.out, hk⟩
        go_upto_region 12 with fail
        have a0 : wr.cell? ⟨w.heap.size + 1, 0, none⟩ = some (.slice (some ⟨g, o, none⟩) x.l.length cap') := (HW0.out.2.2.1.grow H6.out.1).cell 0
        have a1 : wr.cell? ⟨w.heap.size + 1, 1, none⟩ = some (.int .i64 x.s) := (HW0.out.2.2.1.grow H6.out.1).cell 1
        have a2 : wr.cell? ⟨w.heap.size + 1, 2, none⟩ = some (.int .i64 x.e) := (HW0.out.2.2.1.grow H6.out.1).cell 2
        have a3 : wr.cell? ⟨w.heap.size + 1, 3, none⟩ = some (.string x.n) := (HW0.out.2.2.1.grow H6.out.1).cell 3
        go_wp2_with fail
        refine (copyS_any g o cap' x.l x.s x.e x.n wr (HR.out.2.1.below (grow_on HW0.out.1 H6.out.1)) HR.out.2.2.2.2.1).mono ?_
        rintro r w8 ⟨⟨My, cy, rfl, hO⟩, hb8⟩
        go_upto_region 13 with fail
        obtain ⟨W9, hW9⟩ : ∃ W9, (w8.alloc (.cells #[.slice (some ⟨My, 0, none⟩) x.l.length cy, .int .i64 x.s, .int .i64 x.e, .string x.n] 29)).alloc (.cells #[.int .i64 F, .slice (some ⟨w8.heap.size, 0, none⟩) 1 1] 96) = W9 := ⟨_, rfl⟩
        have H9 : Hid (Below wr.heap.size wr W9 ∧ Blk W9 (w8.heap.size + 1) #[.int .i64 F, .slice (some ⟨w8.heap.size, 0, none⟩) 1 1] 96 ∧ AB wr.heap.size W9 w8.heap.size 1 [(My, cy, x)] ∧ wr.heap.size ≤ w8.heap.size) := by
          have hbb : Below w8.heap.size w8 W9 := by rw [← hW9]; exact Go.Joins.below_alloc2 w8 _ _
          have hB : Blk W9 w8.heap.size #[.slice (some ⟨My, 0, none⟩) x.l.length cy, .int .i64 x.s, .int .i64 x.e, .string x.n] 29 := by rw [← hW9]; exact (Blk.new _ _ _).alloc _
          have hC : Blk W9 (w8.heap.size + 1) #[.int .i64 F, .slice (some ⟨w8.heap.size, 0, none⟩) 1 1] 96 := by rw [← hW9]; exact Blk.new_at (by simp)
          obtain ⟨q1, ds, q2, q3⟩ := hO
          exact ⟨grow_on hb8 hbb, hC, AB.one (x := (My, cy, x)) hB hb8.size ⟨q1, HR.out.2.2.2.2.1, ds, q2.grow hbb, q3⟩, hb8.size⟩
        try rw [hW9]
        clear hW9 hO hb8 a0 a1 a2 a3
        have H13 : Hid (Below W0.heap.size W0 W9 ∧ Blk W9 w2.heap.size #[.int .i64 hd, .int .i64 vu, .slice (some ⟨Mo, 0, none⟩) cs.length co] 26 ∧ CB W0.heap.size W9 Mo co cs) := ⟨grow_on H6.out.1 H9.out.1, H6.out.2.1.grow H9.out.1, H6.out.2.2.grow H9.out.1⟩
        obtain ⟨xs, hN⟩ := Ins.CB.news H13.out.2.2
        have HN : Hid (Ins.News W9 Mo co cs xs) := hN
        have hcl : cs.length = C.length := by rw [← chs_len, H4.out.2.2.2.1]
        have hkc : k ≤ cs.length := by have := HP.out.2; omega
        have hcc : cs.length ≤ co := H13.out.2.2.cap.1
        have hkc1 : (k : Int) ≤ (cs.length : Int) := by omega
        have hkc2 : (k : Int) ≤ (co : Int) := by omega
        have hkc3 : (cs.length : Int) ≤ (co : Int) := by omega
        have hkc4 : k ≤ co := by omega
        have hcl6 : cs.length ≤ 1048576 := by omega
        obtain ⟨j0, hj, hy0, hy1, hy2⟩ := info_parts infoC
        have HI : Hid (Tryz.prog.info? 96 = some j0 ∧ j0.zero = some (.agg #[.int .i64 0, .slice none 0 0]) ∧ j0.size = 2 ∧ j0.bytes = 32) := ⟨hj, hy0, hy1, hy2⟩
        have HX : Hid (AB W0.heap.size W9 (⟨F, w8.heap.size, 1, [(My, cy, x)]⟩ : CRow).M (⟨F, w8.heap.size, 1, [(My, cy, x)]⟩ : CRow).c (⟨F, w8.heap.size, 1, [(My, cy, x)]⟩ : CRow).rs ∧ ∀ y ∈ cs, ∀ q, blks y.M y.rs q → ¬ blks (⟨F, w8.heap.size, 1, [(My, cy, x)]⟩ : CRow).M (⟨F, w8.heap.size, 1, [(My, cy, x)]⟩ : CRow).rs q) := ⟨H9.out.2.2.1.down H6.out.1.size, RowsC.fresh (x := (⟨F, w8.heap.size, 1, [(My, cy, x)]⟩ : CRow)) H6.out.2.2.rows H9.out.2.2.1 (Nat.le_refl _)⟩
        have HS : Hid (∀ w', Below W9.heap.size W9 w' → w'.cell? ⟨w2.heap.size, 2, none⟩ = some (.slice (some ⟨Mo, 0, none⟩) cs.length co) ∧ w'.cell? ⟨w8.heap.size + 1, 0, none⟩ = some (.int .i64 F) ∧ w'.cell? ⟨w8.heap.size + 1, 1, none⟩ = some (.slice (some ⟨w8.heap.size, 0, none⟩) 1 1)) := fun w' hz => ⟨(H13.out.2.1.grow hz).cell 2, (H9.out.2.1.grow hz).cell 0, (H9.out.2.1.grow hz).cell 1⟩
        clear hN hj hy0 hy1 hy2 hcl
        refine Hld.wp_region_LH (z := 15) (S := fun w' => w'.cell? ⟨w2.heap.size, 2, none⟩ = some (.slice (some ⟨Mo, 0, none⟩) cs.length co) ∧ w'.cell? ⟨w8.heap.size + 1, 0, none⟩ = some (.int .i64 F) ∧ w'.cell? ⟨w8.heap.size + 1, 1, none⟩ = some (.slice (some ⟨w8.heap.size, 0, none⟩) 1 1)) (by kernel_rfl) (HS.out _ (Below.refl W9.heap.size W9).drew) (fun hHeld => ?_)
        refine Hld.anyL_take (i := 1) (oi := { dst := some 66, op := Op.fieldAddr 26 (Operand.tmp 6) 2, type := 0, pos := "l07_part.go:71", after := #[], guard := none }) (v := ?vyb1) rfl (by kernel_rfl) (by kernel_rfl) (by kernel_rfl) (by kernel_rfl) (fun _ _ _ h => h) (Or.inl ⟨by rfl, ?hyyb1⟩) hHeld ?_
        case hyyb1 => (intro w hSw; (try dsimp only at hSw); go_simp <;> with_reducible rfl)
        try simp only [Act.put, List.setIfInBounds_toArray, List.set_cons_zero, List.set_cons_succ]
        refine Hld.anyL_take (i := 2) (oi := { dst := some 67, op := Op.load 24 (Operand.tmp 66), type := 24, pos := "l07_part.go:71", after := #[{ on := 1, ground := Ground.data }], guard := none }) (v := ?vyb2) rfl (by kernel_rfl) (by kernel_rfl) (by kernel_rfl) (by kernel_rfl) (fun _ _ _ h => h) (Or.inl ⟨by rfl, ?hyyb2⟩) hHeld ?_
        case hyyb2 => (intro w hSw; (try dsimp only at hSw); go_simp <;> with_reducible rfl)
        try simp only [Act.put, List.setIfInBounds_toArray, List.set_cons_zero, List.set_cons_succ]
        refine Hld.anyL_take (i := 3) (oi := { dst := some 68, op := Op.move (Operand.tmp 8), type := 3, pos := "l07_part.go:71", after := #[], guard := none }) (v := ?vyb3) rfl (by kernel_rfl) (by kernel_rfl) (by kernel_rfl) (by kernel_rfl) (fun _ _ _ h => h) (Or.inl ⟨by rfl, ?hyyb3⟩) hHeld ?_
        case hyyb3 => (intro w hSw; (try dsimp only at hSw); go_simp <;> with_reducible rfl)
        try simp only [Act.put, List.setIfInBounds_toArray, List.set_cons_zero, List.set_cons_succ]
        refine Hld.anyL_take (i := 4) (oi := { dst := some 69, op := Op.slice 24 (Operand.tmp 67) none (some (Operand.tmp 68)) none, type := 24, pos := "l07_part.go:71", after := #[{ on := 2, ground := Ground.data }, { on := 3, ground := Ground.data }], guard := none }) (v := ?vyb4) rfl (by kernel_rfl) (by kernel_rfl) (by kernel_rfl) (by kernel_rfl) (fun _ _ _ h => h) (Or.inl ⟨by rfl, ?hyyb4⟩) hHeld ?_
        case hyyb4 => (intro w hSw; (try dsimp only at hSw); go_simp <;> with_reducible rfl)
        try simp only [Act.put, List.setIfInBounds_toArray, List.set_cons_zero, List.set_cons_succ]
        refine Hld.anyL_take (i := 6) (oi := { dst := some 71, op := Op.load 96 (Operand.tmp 11), type := 96, pos := "l07_part.go:71", after := #[], guard := none }) (v := ?vyb5) rfl (by kernel_rfl) (by kernel_rfl) (by kernel_rfl) (by kernel_rfl) (fun _ _ _ h => h) (Or.inl ⟨by rfl, ?hyyb5⟩) hHeld ?_
        case hyyb5 => (intro w hSw; (try dsimp only at hSw); go_simp <;> with_reducible rfl)
        try simp only [Act.put, List.setIfInBounds_toArray, List.set_cons_zero, List.set_cons_succ]
        refine Hld.anyL_take (i := 9) (oi := { dst := some 74, op := Op.fieldAddr 26 (Operand.tmp 6) 2, type := 0, pos := "l07_part.go:71", after := #[], guard := none }) (v := ?vyb6) rfl (by kernel_rfl) (by kernel_rfl) (by kernel_rfl) (by kernel_rfl) (fun _ _ _ h => h) (Or.inl ⟨by rfl, ?hyyb6⟩) hHeld ?_
        case hyyb6 => (intro w hSw; (try dsimp only at hSw); go_simp <;> with_reducible rfl)
        try simp only [Act.put, List.setIfInBounds_toArray, List.set_cons_zero, List.set_cons_succ]
        refine Hld.anyL_take (i := 10) (oi := { dst := some 75, op := Op.load 24 (Operand.tmp 74), type := 24, pos := "l07_part.go:71", after := #[{ on := 9, ground := Ground.data }], guard := none }) (v := ?vyb7) rfl (by kernel_rfl) (by kernel_rfl) (by kernel_rfl) (by kernel_rfl) (fun _ _ _ h => h) (Or.inl ⟨by rfl, ?hyyb7⟩) hHeld ?_
        case hyyb7 => (intro w hSw; (try dsimp only at hSw); go_simp <;> with_reducible rfl)
        try simp only [Act.put, List.setIfInBounds_toArray, List.set_cons_zero, List.set_cons_succ]
        refine Hld.anyL_take (i := 11) (oi := { dst := some 76, op := Op.move (Operand.tmp 8), type := 3, pos := "l07_part.go:71", after := #[], guard := none }) (v := ?vyb8) rfl (by kernel_rfl) (by kernel_rfl) (by kernel_rfl) (by kernel_rfl) (fun _ _ _ h => h) (Or.inl ⟨by rfl, ?hyyb8⟩) hHeld ?_
        case hyyb8 => (intro w hSw; (try dsimp only at hSw); go_simp <;> with_reducible rfl)
        try simp only [Act.put, List.setIfInBounds_toArray, List.set_cons_zero, List.set_cons_succ]
        refine Hld.anyL_take (i := 12) (oi := { dst := some 77, op := Op.slice 24 (Operand.tmp 75) (some (Operand.tmp 76)) none none, type := 24, pos := "l07_part.go:71", after := #[{ on := 10, ground := Ground.data }, { on := 11, ground := Ground.data }], guard := none }) (v := ?vyb9) rfl (by kernel_rfl) (by kernel_rfl) (by kernel_rfl) (by kernel_rfl) (fun _ _ _ h => h) (Or.inl ⟨by rfl, ?hyyb9⟩) hHeld ?_
        case hyyb9 => (intro w hSw; (try dsimp only at hSw); go_simp <;> with_reducible rfl)
        try simp only [Act.put, List.setIfInBounds_toArray, List.set_cons_zero, List.set_cons_succ]
        refine Hld.anyL_ready (rs := [0, 7]) (by kernel_rfl) (by simp) ?_
        refine Hld.AllL.cons (o := { dst := some 65, op := Op.buildSlice 24 0 #[], type := 24, pos := "l07_part.go:71", after := #[], guard := none }) rfl (fun K hK => ?_) ?_
        ·
          go_simp
          clear hHeld
          refine hK.out _ _ (HS.out _ (bel_alloc ((Below.refl W9.heap.size W9).drew) _)) (fun hHeld => ?_)
          clear hK K
          try simp only [Act.put, List.setIfInBounds_toArray, List.set_cons_zero, List.set_cons_succ]
          refine Hld.anyL_ready (rs := [5, 7]) (by kernel_rfl) (by simp) ?_
          refine Hld.AllL.cons (o := { dst := some 70, op := Op.call { callee := Callee.builtin Builtin.append, args := #[Operand.tmp 65, Operand.tmp 69], argTypes := #[24, 24] }, type := 24, pos := "l07_part.go:71", after := #[{ on := 0, ground := Ground.data }, { on := 4, ground := Ground.data }], guard := none }) rfl (fun K hK => ?_) ?_
          ·
            refine step_app (by rfl) _ _ 24 (by rfl) 96 j0 _ 2 32 Tryz.underlying24 HI.out.1 HI.out.2.1 HI.out.2.2.1 HI.out.2.2.2 (by rfl) (by decide) W9 (bel_alloc ((Below.refl W9.heap.size W9).drew) _) _ 0 [] (by rfl) (own_empty (Blk.new W9.drew _ _) (Nat.le_refl _)) ⟨Mo, 0, none⟩ k co (xs.take (k * 2)) (by rfl) ?ybh1x0 (HN.out.fst _ (bel_alloc ((Below.refl W9.heap.size W9).drew) _) k hkc) ?ybh1x1 ?ybh1x2 ?ybh1x3 ?_
            case ybh1x0 => rw [List.length_take, HN.out.len]; omega
            case ybh1x1 => exact fun u hu => HN.out.one u (List.mem_of_mem_take hu)
            case ybh1x2 => unfold maxLen; omega
            case ybh1x3 => omega
            intro v1 w3 hown1 bl1 hg1 hat1
            rw [Nat.zero_add, List.nil_append] at hown1
            have HO1 : Hid (w3.ownsRow W9.heap.size 96 2 v1 k (xs.take (k * 2)) ∧ Below W9.heap.size W9 w3) := ⟨hown1, bl1⟩
            clear hown1 bl1 hg1 hat1
            clear hHeld
            refine hK.out _ _ (HS.out _ (HO1.out.2)) (fun hHeld => ?_)
            clear hK K
            try simp only [Act.put, List.setIfInBounds_toArray, List.set_cons_zero, List.set_cons_succ]
            refine Hld.anyL_ready (rs := [7]) (by kernel_rfl) (by simp) ?_
            refine Hld.AllL.cons (o := { dst := some 72, op := Op.buildSlice 24 1 #[(0, Operand.tmp 71)], type := 24, pos := "l07_part.go:71", after := #[{ on := 6, ground := Ground.data }], guard := none }) rfl (fun K hK => ?_) Hld.AllL.nil
            go_simp
            clear hHeld
            refine hK.out _ _ (HS.out _ ((bel_alloc HO1.out.2 _))) (fun hHeld => ?_)
            clear hK K
            try simp only [Act.put, List.setIfInBounds_toArray, List.set_cons_zero, List.set_cons_succ]
            refine Hld.anyL_ready (rs := [8]) (by kernel_rfl) (by simp) ?_
            refine Hld.AllL.cons (o := { dst := some 73, op := Op.call { callee := Callee.builtin Builtin.append, args := #[Operand.tmp 70, Operand.tmp 72], argTypes := #[24, 24] }, type := 24, pos := "l07_part.go:71", after := #[{ on := 5, ground := Ground.data }, { on := 7, ground := Ground.data }, { on := 5, ground := Ground.chain }], guard := none }) rfl (fun K hK => ?_) Hld.AllL.nil
            refine step_app (by rfl) _ _ 24 (by rfl) 96 j0 _ 2 32 Tryz.underlying24 HI.out.1 HI.out.2.1 HI.out.2.2.1 HI.out.2.2.2 (by rfl) (by decide) W9 ((bel_alloc HO1.out.2 _)) v1 k (xs.take (k * 2)) (by rfl) ((own_grow HO1.out.1 (Go.Joins.below_alloc1 w3 _))) ⟨w3.heap.size, 0, none⟩ 1 1 (rowC (⟨F, w8.heap.size, 1, [(My, cy, x)]⟩ : CRow)) (by rfl) (by rfl) (blk_news (Blk.new w3 _ _)) (rowC_one _) ?ybh2x0 ?ybh2x1 ?_
            case ybh2x0 => unfold maxLen; omega
            case ybh2x1 => omega
            intro v2 w4 hown2 bl2 hg2 hat2
            have HO2 : Hid (w4.ownsRow W9.heap.size 96 2 v2 (k + 1) (xs.take (k * 2) ++ rowC (⟨F, w8.heap.size, 1, [(My, cy, x)]⟩ : CRow)) ∧ Below W9.heap.size W9 w4) := ⟨hown2, bl2⟩
            clear hown2 bl2 hg2 hat2
            clear hHeld
            refine hK.out _ _ (HS.out _ (HO2.out.2)) (fun hHeld => ?_)
            clear hK K
            try simp only [Act.put, List.setIfInBounds_toArray, List.set_cons_zero, List.set_cons_succ]
            refine Hld.anyL_ready (rs := [13]) (by kernel_rfl) (by simp) ?_
            refine Hld.AllL.cons (o := { dst := some 78, op := Op.call { callee := Callee.builtin Builtin.append, args := #[Operand.tmp 73, Operand.tmp 77], argTypes := #[24, 24] }, type := 24, pos := "l07_part.go:71", after := #[{ on := 8, ground := Ground.data }, { on := 12, ground := Ground.data }, { on := 8, ground := Ground.chain }], guard := none }) rfl (fun K hK => ?_) Hld.AllL.nil
            refine step_app (by rfl) _ _ 24 (by rfl) 96 j0 _ 2 32 Tryz.underlying24 HI.out.1 HI.out.2.1 HI.out.2.2.1 HI.out.2.2.2 (by rfl) (by decide) W9 HO2.out.2 v2 (k + 1) (xs.take (k * 2) ++ rowC (⟨F, w8.heap.size, 1, [(My, cy, x)]⟩ : CRow)) (by rfl) HO2.out.1 (if co = k then (⟨Mo, 0, none⟩ : Addr) else ⟨Mo, k * 2, none⟩) (cs.length - k) (co - k) (xs.drop (k * 2)) (by first | rfl | exact Ins.if_slice _ _ _ _) ?ybh3x0 (HN.out.snd _ HO2.out.2 k hkc) ?ybh3x1 ?ybh3x2 ?ybh3x3 ?_
            case ybh3x0 => rw [List.length_drop, HN.out.len]; omega
            case ybh3x1 => exact fun u hu => HN.out.one u (List.mem_of_mem_drop hu)
            case ybh3x2 => unfold maxLen; omega
            case ybh3x3 => omega
            intro v3 w5 hown3 bl3 hg3 hat3
            obtain ⟨M5, c5, ev, hCB5⟩ := Ins.CB.ins (k := k) (x := (⟨F, w8.heap.size, 1, [(My, cy, x)]⟩ : CRow)) H13.out.2.2 HN.out HX.out.1 HX.out.2 hkc (own_mono hown3 H13.out.1.size) (Moved.of bl3)
            obtain ⟨Ls, hLs⟩ : ∃ Ls, cs.take k ++ (⟨F, w8.heap.size, 1, [(My, cy, x)]⟩ : CRow) :: cs.drop k = Ls := ⟨_, rfl⟩
            rw [hLs] at ev hCB5
            have HL : Hid (cs.take k ++ (⟨F, w8.heap.size, 1, [(My, cy, x)]⟩ : CRow) :: cs.drop k = Ls) := hLs
            subst ev
            have HO3 : Hid (CB W0.heap.size w5 M5 c5 Ls ∧ Below W9.heap.size W9 w5 ∧ Blk w5 w2.heap.size #[.int .i64 hd, .int .i64 vu, .slice (some ⟨Mo, 0, none⟩) cs.length co] 26) := ⟨hCB5, bl3, H13.out.2.1.grow bl3⟩
            clear hLs hown3 bl3 hg3 hat3 hCB5
            clear hHeld
            refine hK.out _ _ (HS.out _ (HO3.out.2.1)) (fun hHeld => ?_)
            clear hK K
            try simp only [Act.put, List.setIfInBounds_toArray, List.set_cons_zero, List.set_cons_succ]
            refine Hld.anyL_take (i := 14) (oi := { dst := some 79, op := Op.fieldAddr 26 (Operand.tmp 6) 2, type := 0, pos := "l07_part.go:71", after := #[{ on := 0, ground := Ground.phase }, { on := 1, ground := Ground.phase }, { on := 2, ground := Ground.phase }, { on := 3, ground := Ground.phase }, { on := 4, ground := Ground.phase }, { on := 5, ground := Ground.phase }, { on := 6, ground := Ground.phase }, { on := 7, ground := Ground.phase }, { on := 8, ground := Ground.phase }, { on := 9, ground := Ground.phase }, { on := 10, ground := Ground.phase }, { on := 11, ground := Ground.phase }, { on := 12, ground := Ground.phase }, { on := 13, ground := Ground.phase }], guard := none }) (v := ?vyb15) rfl (by kernel_rfl) (by kernel_rfl) (by kernel_rfl) (by kernel_rfl) (fun _ _ _ h => h) (Or.inl ⟨by rfl, ?hyyb15⟩) hHeld ?_
            case hyyb15 => (intro w hSw; (try dsimp only at hSw); go_simp <;> with_reducible rfl)
            try simp only [Act.put, List.setIfInBounds_toArray, List.set_cons_zero, List.set_cons_succ]
            refine Hld.anyL_ready (rs := [15]) (by kernel_rfl) (by simp) ?_
            refine Hld.AllL.last (o := { dst := none, op := Op.store 24 (Operand.tmp 79) (Operand.tmp 78), type := 0, pos := "l07_part.go:71", after := #[{ on := 14, ground := Ground.data }, { on := 13, ground := Ground.data }, { on := 13, ground := Ground.chain }, { on := 0, ground := Ground.phase }, { on := 1, ground := Ground.phase }, { on := 2, ground := Ground.phase }, { on := 3, ground := Ground.phase }, { on := 4, ground := Ground.phase }, { on := 5, ground := Ground.phase }, { on := 6, ground := Ground.phase }, { on := 7, ground := Ground.phase }, { on := 8, ground := Ground.phase }, { on := 9, ground := Ground.phase }, { on := 10, ground := Ground.phase }, { on := 11, ground := Ground.phase }, { on := 12, ground := Ground.phase }, { on := 13, ground := Ground.phase }], guard := none }) rfl (fun K hK => ?_)
            have g2 : w5.cell? ⟨w2.heap.size, 2, none⟩ = some (.slice (some ⟨Mo, 0, none⟩) cs.length co) := HO3.out.2.2.cell 2
            have gf := HO3.out.2.2.frozen 2
            go_simp
            refine hK.out _ _ ?_
            clear hK K g2 gf
            try simp only [Act.put, List.setIfInBounds_toArray, List.set_cons_zero, List.set_cons_succ]
            refine Hld.anyL_done (by kernel_rfl) ?_ _
            obtain ⟨WX, hWX⟩ : ∃ WX, w5.setCell ⟨w2.heap.size, 2, none⟩ (.slice (some ⟨M5, 0, none⟩) Ls.length c5) = WX := ⟨_, rfl⟩
            have H14 : Hid (Below W0.heap.size W0 WX ∧ Blk WX w2.heap.size #[.int .i64 hd, .int .i64 vu, .slice (some ⟨M5, 0, none⟩) Ls.length c5] 26 ∧ CB W0.heap.size WX M5 c5 Ls) := by
              rw [← hWX]
              exact ⟨ChnI.set_low (grow_on H13.out.1 HO3.out.2.1) H4.out.2.2.2.2 2 _, HO3.out.2.2.set 2 _, CB.set' HO3.out.1 HO3.out.2.2 2 _⟩
            try rw [hWX]
            clear hWX hHeld
            have r0 : WX.cell? ⟨w2.heap.size, 0, none⟩ = some (.int .i64 hd) := H14.out.2.1.cell 0
            have r1 : WX.cell? ⟨w2.heap.size, 1, none⟩ = some (.int .i64 vu) := H14.out.2.1.cell 1
            have r2 : WX.cell? ⟨w2.heap.size, 2, none⟩ = some (.slice (some ⟨M5, 0, none⟩) Ls.length c5) := H14.out.2.1.cell 2
            have HRB : Hid (Blk WX (w.heap.size + 2) #[.int .i64 0, .int .i64 0, .slice none 0 0] 26) := HW0.out.2.2.2.1.grow H14.out.1
            have t0 : WX.cell? ⟨w.heap.size + 2, 0, none⟩ = some (.int .i64 0) := HRB.out.cell 0
            have t1 : WX.cell? ⟨w.heap.size + 2, 1, none⟩ = some (.int .i64 0) := HRB.out.cell 1
            have t2 : WX.cell? ⟨w.heap.size + 2, 2, none⟩ = some (.slice none 0 0) := HRB.out.cell 2
            have tf0 := HRB.out.frozen 0
            have tf1 := HRB.out.frozen 1
            have tf2 := HRB.out.frozen 2
            go_wp2
            all_goals (
              have hs := put3 HRB.out (.int .i64 hd) (.int .i64 vu) (.slice (some ⟨M5, 0, none⟩) Ls.length c5)
              have s0 := hs.cell 0
              have s1 := hs.cell 1
              have s2 := hs.cell 2
              refine bodyPost_ret (v := .tuple #[.agg #[.int .i64 hd, .int .i64 vu, .slice (some ⟨M5, 0, none⟩) Ls.length c5], .bool true]) (by simp [results, Tryz.results10, go_sem, s0, s1, s2]) rfl ?_
              rw [HE.out.2]
              refine ⟨⟨M5, c5, Ls, rfl, (CB.set3 H14.out.2.2 HRB.out _ _ _).down HW0.out.1.size, ?_⟩, set3 (grow_on HW0.out.1 H14.out.1) (by omega) _ _ _⟩
              rw [← HL.out, Ins.chs_ins, H4.out.2.2.2.1, HE.out.1, HP.out.1]
              rfl)
          refine Hld.AllL.cons (o := { dst := some 72, op := Op.buildSlice 24 1 #[(0, Operand.tmp 71)], type := 24, pos := "l07_part.go:71", after := #[{ on := 6, ground := Ground.data }], guard := none }) rfl (fun K hK => ?_) Hld.AllL.nil
          go_simp
          clear hHeld
          refine hK.out _ _ (HS.out _ (bel_alloc (bel_alloc ((Below.refl W9.heap.size W9).drew) _) _)) (fun hHeld => ?_)
          clear hK K
          try simp only [Act.put, List.setIfInBounds_toArray, List.set_cons_zero, List.set_cons_succ]
          refine Hld.anyL_ready (rs := [5]) (by kernel_rfl) (by simp) ?_
          refine Hld.AllL.cons (o := { dst := some 70, op := Op.call { callee := Callee.builtin Builtin.append, args := #[Operand.tmp 65, Operand.tmp 69], argTypes := #[24, 24] }, type := 24, pos := "l07_part.go:71", after := #[{ on := 0, ground := Ground.data }, { on := 4, ground := Ground.data }], guard := none }) rfl (fun K hK => ?_) Hld.AllL.nil
          refine step_app (by rfl) _ _ 24 (by rfl) 96 j0 _ 2 32 Tryz.underlying24 HI.out.1 HI.out.2.1 HI.out.2.2.1 HI.out.2.2.2 (by rfl) (by decide) W9 (bel_alloc (bel_alloc ((Below.refl W9.heap.size W9).drew) _) _) _ 0 [] (by rfl) (own_empty ((Blk.new W9.drew _ _).alloc _) (Nat.le_refl _)) ⟨Mo, 0, none⟩ k co (xs.take (k * 2)) (by rfl) ?ybh4x0 (HN.out.fst _ (bel_alloc (bel_alloc ((Below.refl W9.heap.size W9).drew) _) _) k hkc) ?ybh4x1 ?ybh4x2 ?ybh4x3 ?_
          case ybh4x0 => rw [List.length_take, HN.out.len]; omega
          case ybh4x1 => exact fun u hu => HN.out.one u (List.mem_of_mem_take hu)
          case ybh4x2 => unfold maxLen; omega
          case ybh4x3 => omega
          intro v1 w3 hown1 bl1 hg1 hat1
          rw [Nat.zero_add, List.nil_append] at hown1
          have HO1 : Hid (w3.ownsRow W9.heap.size 96 2 v1 k (xs.take (k * 2)) ∧ Below W9.heap.size W9 w3) := ⟨hown1, bl1⟩
          have HB1 : Hid (Blk w3 (W9.heap.size + 1) (rowC (⟨F, w8.heap.size, 1, [(My, cy, x)]⟩ : CRow)).toArray 96) := blk_far (M := W9.heap.size + 1) (Blk.new_at (w := W9.alloc (.cells #[] 96)) (by simp)).drew hg1 (fun e => absurd (show W9.heap.size + 1 = W9.heap.size from Option.some.inj e) (by omega))
          clear hown1 bl1 hg1 hat1
          clear hHeld
          refine hK.out _ _ (HS.out _ (HO1.out.2)) (fun hHeld => ?_)
          clear hK K
          try simp only [Act.put, List.setIfInBounds_toArray, List.set_cons_zero, List.set_cons_succ]
          refine Hld.anyL_ready (rs := [8]) (by kernel_rfl) (by simp) ?_
          refine Hld.AllL.cons (o := { dst := some 73, op := Op.call { callee := Callee.builtin Builtin.append, args := #[Operand.tmp 70, Operand.tmp 72], argTypes := #[24, 24] }, type := 24, pos := "l07_part.go:71", after := #[{ on := 5, ground := Ground.data }, { on := 7, ground := Ground.data }, { on := 5, ground := Ground.chain }], guard := none }) rfl (fun K hK => ?_) Hld.AllL.nil
          refine step_app (by rfl) _ _ 24 (by rfl) 96 j0 _ 2 32 Tryz.underlying24 HI.out.1 HI.out.2.1 HI.out.2.2.1 HI.out.2.2.2 (by rfl) (by decide) W9 (HO1.out.2) v1 k (xs.take (k * 2)) (by rfl) (HO1.out.1) ⟨W9.heap.size + 1, 0, none⟩ 1 1 (rowC (⟨F, w8.heap.size, 1, [(My, cy, x)]⟩ : CRow)) (by rfl) (by rfl) (blk_news (HB1.out)) (rowC_one _) ?ybh5x0 ?ybh5x1 ?_
          case ybh5x0 => unfold maxLen; omega
          case ybh5x1 => omega
          intro v2 w4 hown2 bl2 hg2 hat2
          have HO2 : Hid (w4.ownsRow W9.heap.size 96 2 v2 (k + 1) (xs.take (k * 2) ++ rowC (⟨F, w8.heap.size, 1, [(My, cy, x)]⟩ : CRow)) ∧ Below W9.heap.size W9 w4) := ⟨hown2, bl2⟩
          clear hown2 bl2 hg2 hat2
          clear hHeld
          refine hK.out _ _ (HS.out _ (HO2.out.2)) (fun hHeld => ?_)
          clear hK K
          try simp only [Act.put, List.setIfInBounds_toArray, List.set_cons_zero, List.set_cons_succ]
          refine Hld.anyL_ready (rs := [13]) (by kernel_rfl) (by simp) ?_
          refine Hld.AllL.cons (o := { dst := some 78, op := Op.call { callee := Callee.builtin Builtin.append, args := #[Operand.tmp 73, Operand.tmp 77], argTypes := #[24, 24] }, type := 24, pos := "l07_part.go:71", after := #[{ on := 8, ground := Ground.data }, { on := 12, ground := Ground.data }, { on := 8, ground := Ground.chain }], guard := none }) rfl (fun K hK => ?_) Hld.AllL.nil
          refine step_app (by rfl) _ _ 24 (by rfl) 96 j0 _ 2 32 Tryz.underlying24 HI.out.1 HI.out.2.1 HI.out.2.2.1 HI.out.2.2.2 (by rfl) (by decide) W9 HO2.out.2 v2 (k + 1) (xs.take (k * 2) ++ rowC (⟨F, w8.heap.size, 1, [(My, cy, x)]⟩ : CRow)) (by rfl) HO2.out.1 (if co = k then (⟨Mo, 0, none⟩ : Addr) else ⟨Mo, k * 2, none⟩) (cs.length - k) (co - k) (xs.drop (k * 2)) (by first | rfl | exact Ins.if_slice _ _ _ _) ?ybh6x0 (HN.out.snd _ HO2.out.2 k hkc) ?ybh6x1 ?ybh6x2 ?ybh6x3 ?_
          case ybh6x0 => rw [List.length_drop, HN.out.len]; omega
          case ybh6x1 => exact fun u hu => HN.out.one u (List.mem_of_mem_drop hu)
          case ybh6x2 => unfold maxLen; omega
          case ybh6x3 => omega
          intro v3 w5 hown3 bl3 hg3 hat3
          obtain ⟨M5, c5, ev, hCB5⟩ := Ins.CB.ins (k := k) (x := (⟨F, w8.heap.size, 1, [(My, cy, x)]⟩ : CRow)) H13.out.2.2 HN.out HX.out.1 HX.out.2 hkc (own_mono hown3 H13.out.1.size) (Moved.of bl3)
          obtain ⟨Ls, hLs⟩ : ∃ Ls, cs.take k ++ (⟨F, w8.heap.size, 1, [(My, cy, x)]⟩ : CRow) :: cs.drop k = Ls := ⟨_, rfl⟩
          rw [hLs] at ev hCB5
          have HL : Hid (cs.take k ++ (⟨F, w8.heap.size, 1, [(My, cy, x)]⟩ : CRow) :: cs.drop k = Ls) := hLs
          subst ev
          have HO3 : Hid (CB W0.heap.size w5 M5 c5 Ls ∧ Below W9.heap.size W9 w5 ∧ Blk w5 w2.heap.size #[.int .i64 hd, .int .i64 vu, .slice (some ⟨Mo, 0, none⟩) cs.length co] 26) := ⟨hCB5, bl3, H13.out.2.1.grow bl3⟩
          clear hLs hown3 bl3 hg3 hat3 hCB5
          clear hHeld
          refine hK.out _ _ (HS.out _ (HO3.out.2.1)) (fun hHeld => ?_)
          clear hK K
          try simp only [Act.put, List.setIfInBounds_toArray, List.set_cons_zero, List.set_cons_succ]
          refine Hld.anyL_take (i := 14) (oi := { dst := some 79, op := Op.fieldAddr 26 (Operand.tmp 6) 2, type := 0, pos := "l07_part.go:71", after := #[{ on := 0, ground := Ground.phase }, { on := 1, ground := Ground.phase }, { on := 2, ground := Ground.phase }, { on := 3, ground := Ground.phase }, { on := 4, ground := Ground.phase }, { on := 5, ground := Ground.phase }, { on := 6, ground := Ground.phase }, { on := 7, ground := Ground.phase }, { on := 8, ground := Ground.phase }, { on := 9, ground := Ground.phase }, { on := 10, ground := Ground.phase }, { on := 11, ground := Ground.phase }, { on := 12, ground := Ground.phase }, { on := 13, ground := Ground.phase }], guard := none }) (v := ?vyb20) rfl (by kernel_rfl) (by kernel_rfl) (by kernel_rfl) (by kernel_rfl) (fun _ _ _ h => h) (Or.inl ⟨by rfl, ?hyyb20⟩) hHeld ?_
          case hyyb20 => (intro w hSw; (try dsimp only at hSw); go_simp <;> with_reducible rfl)
          try simp only [Act.put, List.setIfInBounds_toArray, List.set_cons_zero, List.set_cons_succ]
          refine Hld.anyL_ready (rs := [15]) (by kernel_rfl) (by simp) ?_
          refine Hld.AllL.last (o := { dst := none, op := Op.store 24 (Operand.tmp 79) (Operand.tmp 78), type := 0, pos := "l07_part.go:71", after := #[{ on := 14, ground := Ground.data }, { on := 13, ground := Ground.data }, { on := 13, ground := Ground.chain }, { on := 0, ground := Ground.phase }, { on := 1, ground := Ground.phase }, { on := 2, ground := Ground.phase }, { on := 3, ground := Ground.phase }, { on := 4, ground := Ground.phase }, { on := 5, ground := Ground.phase }, { on := 6, ground := Ground.phase }, { on := 7, ground := Ground.phase }, { on := 8, ground := Ground.phase }, { on := 9, ground := Ground.phase }, { on := 10, ground := Ground.phase }, { on := 11, ground := Ground.phase }, { on := 12, ground := Ground.phase }, { on := 13, ground := Ground.phase }], guard := none }) rfl (fun K hK => ?_)
          have g2 : w5.cell? ⟨w2.heap.size, 2, none⟩ = some (.slice (some ⟨Mo, 0, none⟩) cs.length co) := HO3.out.2.2.cell 2
          have gf := HO3.out.2.2.frozen 2
          go_simp
          refine hK.out _ _ ?_
          clear hK K g2 gf
          try simp only [Act.put, List.setIfInBounds_toArray, List.set_cons_zero, List.set_cons_succ]
          refine Hld.anyL_done (by kernel_rfl) ?_ _
          obtain ⟨WX, hWX⟩ : ∃ WX, w5.setCell ⟨w2.heap.size, 2, none⟩ (.slice (some ⟨M5, 0, none⟩) Ls.length c5) = WX := ⟨_, rfl⟩
          have H14 : Hid (Below W0.heap.size W0 WX ∧ Blk WX w2.heap.size #[.int .i64 hd, .int .i64 vu, .slice (some ⟨M5, 0, none⟩) Ls.length c5] 26 ∧ CB W0.heap.size WX M5 c5 Ls) := by
            rw [← hWX]
            exact ⟨ChnI.set_low (grow_on H13.out.1 HO3.out.2.1) H4.out.2.2.2.2 2 _, HO3.out.2.2.set 2 _, CB.set' HO3.out.1 HO3.out.2.2 2 _⟩
          try rw [hWX]
          clear hWX hHeld
          have r0 : WX.cell? ⟨w2.heap.size, 0, none⟩ = some (.int .i64 hd) := H14.out.2.1.cell 0
          have r1 : WX.cell? ⟨w2.heap.size, 1, none⟩ = some (.int .i64 vu) := H14.out.2.1.cell 1
          have r2 : WX.cell? ⟨w2.heap.size, 2, none⟩ = some (.slice (some ⟨M5, 0, none⟩) Ls.length c5) := H14.out.2.1.cell 2
          have HRB : Hid (Blk WX (w.heap.size + 2) #[.int .i64 0, .int .i64 0, .slice none 0 0] 26) := HW0.out.2.2.2.1.grow H14.out.1
          have t0 : WX.cell? ⟨w.heap.size + 2, 0, none⟩ = some (.int .i64 0) := HRB.out.cell 0
          have t1 : WX.cell? ⟨w.heap.size + 2, 1, none⟩ = some (.int .i64 0) := HRB.out.cell 1
          have t2 : WX.cell? ⟨w.heap.size + 2, 2, none⟩ = some (.slice none 0 0) := HRB.out.cell 2
          have tf0 := HRB.out.frozen 0
          have tf1 := HRB.out.frozen 1
          have tf2 := HRB.out.frozen 2
          go_wp2
          all_goals (
            have hs := put3 HRB.out (.int .i64 hd) (.int .i64 vu) (.slice (some ⟨M5, 0, none⟩) Ls.length c5)
            have s0 := hs.cell 0
            have s1 := hs.cell 1
            have s2 := hs.cell 2
            refine bodyPost_ret (v := .tuple #[.agg #[.int .i64 hd, .int .i64 vu, .slice (some ⟨M5, 0, none⟩) Ls.length c5], .bool true]) (by simp [results, Tryz.results10, go_sem, s0, s1, s2]) rfl ?_
            rw [HE.out.2]
            refine ⟨⟨M5, c5, Ls, rfl, (CB.set3 H14.out.2.2 HRB.out _ _ _).down HW0.out.1.size, ?_⟩, set3 (grow_on HW0.out.1 H14.out.1) (by omega) _ _ _⟩
            rw [← HL.out, Ins.chs_ins, H4.out.2.2.2.1, HE.out.1, HP.out.1]
            rfl)
        refine Hld.AllL.cons (o := { dst := some 72, op := Op.buildSlice 24 1 #[(0, Operand.tmp 71)], type := 24, pos := "l07_part.go:71", after := #[{ on := 6, ground := Ground.data }], guard := none }) rfl (fun K hK => ?_) Hld.AllL.nil
        go_simp
        clear hHeld
        refine hK.out _ _ (HS.out _ (bel_alloc ((Below.refl W9.heap.size W9).drew) _)) (fun hHeld => ?_)
        clear hK K
        try simp only [Act.put, List.setIfInBounds_toArray, List.set_cons_zero, List.set_cons_succ]
        refine Hld.anyL_ready (rs := [0]) (by kernel_rfl) (by simp) ?_
        refine Hld.AllL.cons (o := { dst := some 65, op := Op.buildSlice 24 0 #[], type := 24, pos := "l07_part.go:71", after := #[], guard := none }) rfl (fun K hK => ?_) Hld.AllL.nil
        go_simp
        clear hHeld
        refine hK.out _ _ (HS.out _ (bel_alloc (bel_alloc ((Below.refl W9.heap.size W9).drew) _) _)) (fun hHeld => ?_)
        clear hK K
        try simp only [Act.put, List.setIfInBounds_toArray, List.set_cons_zero, List.set_cons_succ]
        refine Hld.anyL_ready (rs := [5]) (by kernel_rfl) (by simp) ?_
        refine Hld.AllL.cons (o := { dst := some 70, op := Op.call { callee := Callee.builtin Builtin.append, args := #[Operand.tmp 65, Operand.tmp 69], argTypes := #[24, 24] }, type := 24, pos := "l07_part.go:71", after := #[{ on := 0, ground := Ground.data }, { on := 4, ground := Ground.data }], guard := none }) rfl (fun K hK => ?_) Hld.AllL.nil
        refine step_app (by rfl) _ _ 24 (by rfl) 96 j0 _ 2 32 Tryz.underlying24 HI.out.1 HI.out.2.1 HI.out.2.2.1 HI.out.2.2.2 (by rfl) (by decide) W9 (bel_alloc (bel_alloc ((Below.refl W9.heap.size W9).drew) _) _) _ 0 [] (by rfl) (own_empty (Blk.new_at (by simp)) (by omega)) ⟨Mo, 0, none⟩ k co (xs.take (k * 2)) (by rfl) ?ybh7x0 (HN.out.fst _ (bel_alloc (bel_alloc ((Below.refl W9.heap.size W9).drew) _) _) k hkc) ?ybh7x1 ?ybh7x2 ?ybh7x3 ?_
        case ybh7x0 => rw [List.length_take, HN.out.len]; omega
        case ybh7x1 => exact fun u hu => HN.out.one u (List.mem_of_mem_take hu)
        case ybh7x2 => unfold maxLen; omega
        case ybh7x3 => omega
        intro v1 w3 hown1 bl1 hg1 hat1
        rw [Nat.zero_add, List.nil_append] at hown1
        have HO1 : Hid (w3.ownsRow W9.heap.size 96 2 v1 k (xs.take (k * 2)) ∧ Below W9.heap.size W9 w3) := ⟨hown1, bl1⟩
        have HB1 : Hid (Blk w3 W9.heap.size (rowC (⟨F, w8.heap.size, 1, [(My, cy, x)]⟩ : CRow)).toArray 96) := blk_far (M := W9.heap.size) ((Blk.new W9 _ _).alloc _).drew hg1 (fun e => absurd (show W9.heap.size = W9.heap.size + 1 from Option.some.inj e) (by omega))
        clear hown1 bl1 hg1 hat1
        clear hHeld
        refine hK.out _ _ (HS.out _ (HO1.out.2)) (fun hHeld => ?_)
        clear hK K
        try simp only [Act.put, List.setIfInBounds_toArray, List.set_cons_zero, List.set_cons_succ]
        refine Hld.anyL_ready (rs := [8]) (by kernel_rfl) (by simp) ?_
        refine Hld.AllL.cons (o := { dst := some 73, op := Op.call { callee := Callee.builtin Builtin.append, args := #[Operand.tmp 70, Operand.tmp 72], argTypes := #[24, 24] }, type := 24, pos := "l07_part.go:71", after := #[{ on := 5, ground := Ground.data }, { on := 7, ground := Ground.data }, { on := 5, ground := Ground.chain }], guard := none }) rfl (fun K hK => ?_) Hld.AllL.nil
        refine step_app (by rfl) _ _ 24 (by rfl) 96 j0 _ 2 32 Tryz.underlying24 HI.out.1 HI.out.2.1 HI.out.2.2.1 HI.out.2.2.2 (by rfl) (by decide) W9 (HO1.out.2) v1 k (xs.take (k * 2)) (by rfl) (HO1.out.1) ⟨W9.heap.size, 0, none⟩ 1 1 (rowC (⟨F, w8.heap.size, 1, [(My, cy, x)]⟩ : CRow)) (by rfl) (by rfl) (blk_news (HB1.out)) (rowC_one _) ?ybh8x0 ?ybh8x1 ?_
        case ybh8x0 => unfold maxLen; omega
        case ybh8x1 => omega
        intro v2 w4 hown2 bl2 hg2 hat2
        have HO2 : Hid (w4.ownsRow W9.heap.size 96 2 v2 (k + 1) (xs.take (k * 2) ++ rowC (⟨F, w8.heap.size, 1, [(My, cy, x)]⟩ : CRow)) ∧ Below W9.heap.size W9 w4) := ⟨hown2, bl2⟩
        clear hown2 bl2 hg2 hat2
        clear hHeld
        refine hK.out _ _ (HS.out _ (HO2.out.2)) (fun hHeld => ?_)
        clear hK K
        try simp only [Act.put, List.setIfInBounds_toArray, List.set_cons_zero, List.set_cons_succ]
        refine Hld.anyL_ready (rs := [13]) (by kernel_rfl) (by simp) ?_
        refine Hld.AllL.cons (o := { dst := some 78, op := Op.call { callee := Callee.builtin Builtin.append, args := #[Operand.tmp 73, Operand.tmp 77], argTypes := #[24, 24] }, type := 24, pos := "l07_part.go:71", after := #[{ on := 8, ground := Ground.data }, { on := 12, ground := Ground.data }, { on := 8, ground := Ground.chain }], guard := none }) rfl (fun K hK => ?_) Hld.AllL.nil
        refine step_app (by rfl) _ _ 24 (by rfl) 96 j0 _ 2 32 Tryz.underlying24 HI.out.1 HI.out.2.1 HI.out.2.2.1 HI.out.2.2.2 (by rfl) (by decide) W9 HO2.out.2 v2 (k + 1) (xs.take (k * 2) ++ rowC (⟨F, w8.heap.size, 1, [(My, cy, x)]⟩ : CRow)) (by rfl) HO2.out.1 (if co = k then (⟨Mo, 0, none⟩ : Addr) else ⟨Mo, k * 2, none⟩) (cs.length - k) (co - k) (xs.drop (k * 2)) (by first | rfl | exact Ins.if_slice _ _ _ _) ?ybh9x0 (HN.out.snd _ HO2.out.2 k hkc) ?ybh9x1 ?ybh9x2 ?ybh9x3 ?_
        case ybh9x0 => rw [List.length_drop, HN.out.len]; omega
        case ybh9x1 => exact fun u hu => HN.out.one u (List.mem_of_mem_drop hu)
        case ybh9x2 => unfold maxLen; omega
        case ybh9x3 => omega
        intro v3 w5 hown3 bl3 hg3 hat3
        obtain ⟨M5, c5, ev, hCB5⟩ := Ins.CB.ins (k := k) (x := (⟨F, w8.heap.size, 1, [(My, cy, x)]⟩ : CRow)) H13.out.2.2 HN.out HX.out.1 HX.out.2 hkc (own_mono hown3 H13.out.1.size) (Moved.of bl3)
        obtain ⟨Ls, hLs⟩ : ∃ Ls, cs.take k ++ (⟨F, w8.heap.size, 1, [(My, cy, x)]⟩ : CRow) :: cs.drop k = Ls := ⟨_, rfl⟩
        rw [hLs] at ev hCB5
        have HL : Hid (cs.take k ++ (⟨F, w8.heap.size, 1, [(My, cy, x)]⟩ : CRow) :: cs.drop k = Ls) := hLs
        subst ev
        have HO3 : Hid (CB W0.heap.size w5 M5 c5 Ls ∧ Below W9.heap.size W9 w5 ∧ Blk w5 w2.heap.size #[.int .i64 hd, .int .i64 vu, .slice (some ⟨Mo, 0, none⟩) cs.length co] 26) := ⟨hCB5, bl3, H13.out.2.1.grow bl3⟩
        clear hLs hown3 bl3 hg3 hat3 hCB5
        clear hHeld
        refine hK.out _ _ (HS.out _ (HO3.out.2.1)) (fun hHeld => ?_)
        clear hK K
        try simp only [Act.put, List.setIfInBounds_toArray, List.set_cons_zero, List.set_cons_succ]
        refine Hld.anyL_take (i := 14) (oi := { dst := some 79, op := Op.fieldAddr 26 (Operand.tmp 6) 2, type := 0, pos := "l07_part.go:71", after := #[{ on := 0, ground := Ground.phase }, { on := 1, ground := Ground.phase }, { on := 2, ground := Ground.phase }, { on := 3, ground := Ground.phase }, { on := 4, ground := Ground.phase }, { on := 5, ground := Ground.phase }, { on := 6, ground := Ground.phase }, { on := 7, ground := Ground.phase }, { on := 8, ground := Ground.phase }, { on := 9, ground := Ground.phase }, { on := 10, ground := Ground.phase }, { on := 11, ground := Ground.phase }, { on := 12, ground := Ground.phase }, { on := 13, ground := Ground.phase }], guard := none }) (v := ?vyb26) rfl (by kernel_rfl) (by kernel_rfl) (by kernel_rfl) (by kernel_rfl) (fun _ _ _ h => h) (Or.inl ⟨by rfl, ?hyyb26⟩) hHeld ?_
        case hyyb26 => (intro w hSw; (try dsimp only at hSw); go_simp <;> with_reducible rfl)
        try simp only [Act.put, List.setIfInBounds_toArray, List.set_cons_zero, List.set_cons_succ]
        refine Hld.anyL_ready (rs := [15]) (by kernel_rfl) (by simp) ?_
        refine Hld.AllL.last (o := { dst := none, op := Op.store 24 (Operand.tmp 79) (Operand.tmp 78), type := 0, pos := "l07_part.go:71", after := #[{ on := 14, ground := Ground.data }, { on := 13, ground := Ground.data }, { on := 13, ground := Ground.chain }, { on := 0, ground := Ground.phase }, { on := 1, ground := Ground.phase }, { on := 2, ground := Ground.phase }, { on := 3, ground := Ground.phase }, { on := 4, ground := Ground.phase }, { on := 5, ground := Ground.phase }, { on := 6, ground := Ground.phase }, { on := 7, ground := Ground.phase }, { on := 8, ground := Ground.phase }, { on := 9, ground := Ground.phase }, { on := 10, ground := Ground.phase }, { on := 11, ground := Ground.phase }, { on := 12, ground := Ground.phase }, { on := 13, ground := Ground.phase }], guard := none }) rfl (fun K hK => ?_)
        have g2 : w5.cell? ⟨w2.heap.size, 2, none⟩ = some (.slice (some ⟨Mo, 0, none⟩) cs.length co) := HO3.out.2.2.cell 2
        have gf := HO3.out.2.2.frozen 2
        go_simp
        refine hK.out _ _ ?_
        clear hK K g2 gf
        try simp only [Act.put, List.setIfInBounds_toArray, List.set_cons_zero, List.set_cons_succ]
        refine Hld.anyL_done (by kernel_rfl) ?_ _
        obtain ⟨WX, hWX⟩ : ∃ WX, w5.setCell ⟨w2.heap.size, 2, none⟩ (.slice (some ⟨M5, 0, none⟩) Ls.length c5) = WX := ⟨_, rfl⟩
        have H14 : Hid (Below W0.heap.size W0 WX ∧ Blk WX w2.heap.size #[.int .i64 hd, .int .i64 vu, .slice (some ⟨M5, 0, none⟩) Ls.length c5] 26 ∧ CB W0.heap.size WX M5 c5 Ls) := by
          rw [← hWX]
          exact ⟨ChnI.set_low (grow_on H13.out.1 HO3.out.2.1) H4.out.2.2.2.2 2 _, HO3.out.2.2.set 2 _, CB.set' HO3.out.1 HO3.out.2.2 2 _⟩
        try rw [hWX]
        clear hWX hHeld
        have r0 : WX.cell? ⟨w2.heap.size, 0, none⟩ = some (.int .i64 hd) := H14.out.2.1.cell 0
        have r1 : WX.cell? ⟨w2.heap.size, 1, none⟩ = some (.int .i64 vu) := H14.out.2.1.cell 1
        have r2 : WX.cell? ⟨w2.heap.size, 2, none⟩ = some (.slice (some ⟨M5, 0, none⟩) Ls.length c5) := H14.out.2.1.cell 2
        have HRB : Hid (Blk WX (w.heap.size + 2) #[.int .i64 0, .int .i64 0, .slice none 0 0] 26) := HW0.out.2.2.2.1.grow H14.out.1
        have t0 : WX.cell? ⟨w.heap.size + 2, 0, none⟩ = some (.int .i64 0) := HRB.out.cell 0
        have t1 : WX.cell? ⟨w.heap.size + 2, 1, none⟩ = some (.int .i64 0) := HRB.out.cell 1
        have t2 : WX.cell? ⟨w.heap.size + 2, 2, none⟩ = some (.slice none 0 0) := HRB.out.cell 2
        have tf0 := HRB.out.frozen 0
        have tf1 := HRB.out.frozen 1
        have tf2 := HRB.out.frozen 2
        go_wp2
        all_goals (
          have hs := put3 HRB.out (.int .i64 hd) (.int .i64 vu) (.slice (some ⟨M5, 0, none⟩) Ls.length c5)
          have s0 := hs.cell 0
          have s1 := hs.cell 1
          have s2 := hs.cell 2
          refine bodyPost_ret (v := .tuple #[.agg #[.int .i64 hd, .int .i64 vu, .slice (some ⟨M5, 0, none⟩) Ls.length c5], .bool true]) (by simp [results, Tryz.results10, go_sem, s0, s1, s2]) rfl ?_
          rw [HE.out.2]
          refine ⟨⟨M5, c5, Ls, rfl, (CB.set3 H14.out.2.2 HRB.out _ _ _).down HW0.out.1.size, ?_⟩, set3 (grow_on HW0.out.1 H14.out.1) (by omega) _ _ _⟩
          rw [← HL.out, Ins.chs_ins, H4.out.2.2.2.1, HE.out.1, HP.out.1]
          rfl)
  · rw [h1]
    have HE : Hid (putC C x = C.set k ⟨(nthC C k).f, putL (nthC C k).P x⟩ ∧ newC C x = isNew (nthC C k).P x.l) := put_some h0
    have HK : Hid (k < C.length) := hk
    have hk' : (k : Int) < (C.length : Int) := by omega
    clear h0 h1 h3 h4
    obtain ⟨b, off, ea, hb, ad, cp, hat⟩ := (HR.out.1.below stays_rn (grow_on HW0.out.1 H6.out.1)).get hk
    cases ea
    have HRD : Hid (RdN w6 ad (nthC C k).P) := hat.reads
    have HSm : Hid ((nthC C k).P.length ≤ 1048576 ∧ LenM (nthC C k).P) := HR.out.2.2.1 _ (nthC_mem hk)
    have HS : Hid (∀ w', Below w6.heap.size w6 w' → w'.cell? ⟨w.heap.size, 2, none⟩ = some (.slice (some ⟨b, off, none⟩) C.length cap) ∧ w'.cell? ⟨b, off + k * 2, none⟩ = some (.int .i64 (nthC C k).f) ∧ w'.cell? ⟨b, off + k * 2 + 1, none⟩ = some (.slice ad (nthC C k).P.length cp) ∧ w'.cell? ⟨w.heap.size + 1, 0, none⟩ = some (.slice (some ⟨g, o, none⟩) x.l.length cap') ∧ w'.cell? ⟨w.heap.size + 1, 1, none⟩ = some (.int .i64 x.s) ∧ w'.cell? ⟨w.heap.size + 1, 2, none⟩ = some (.int .i64 x.e) ∧ w'.cell? ⟨w.heap.size + 1, 3, none⟩ = some (.string x.n)) := fun w' hz => ⟨(HW0.out.2.1.grow (grow_on H6.out.1 hz)).cell 2, (hz.cell (p := ⟨b, off + k * 2, none⟩) hb).trans hat.c0, (hz.cell (p := ⟨b, off + k * 2 + 1, none⟩) hb).trans hat.c1, (HW0.out.2.2.1.grow (grow_on H6.out.1 hz)).cell 0, (HW0.out.2.2.1.grow (grow_on H6.out.1 hz)).cell 1, (HW0.out.2.2.1.grow (grow_on H6.out.1 hz)).cell 2, (HW0.out.2.2.1.grow (grow_on H6.out.1 hz)).cell 3⟩
    have HPC : Hid (∀ z, Below w6.heap.size w6 z → Calls Tryz.prog 72 #[.agg #[.int .i64 (nthC C k).f, .slice ad (nthC C k).P.length cp], .agg #[.slice (some ⟨g, o, none⟩) x.l.length cap', .int .i64 x.s, .int .i64 x.e, .string x.n]] z fun e w' => (∃ M c rs, e = .returned (.tuple #[.agg #[.int .i64 (nthC C k).f, .slice (some ⟨M, 0, none⟩) rs.length c], .bool (isNew (nthC C k).P x.l)]) ∧ AB z.heap.size w' M c rs ∧ pals rs = putL (nthC C k).P x) ∧ Below z.heap.size z w') := fun z hz => ChnU.specPut_any (nthC C k).f ad cp (nthC C k).P g o cap' x z (HRD.out.below hz) ((HR.out.2.1.below (grow_on HW0.out.1 H6.out.1)).below hz) HSm.out.1 HSm.out.2 HR.out.2.2.2.2.1
    clear hat hb hk
    go_upto_region 6 with fail
    refine wp_region_held_drew (S := fun w' => w'.cell? ⟨w.heap.size, 2, none⟩ = some (.slice (some ⟨b, off, none⟩) C.length cap) ∧ w'.cell? ⟨b, off + k * 2, none⟩ = some (.int .i64 (nthC C k).f) ∧ w'.cell? ⟨b, off + k * 2 + 1, none⟩ = some (.slice ad (nthC C k).P.length cp) ∧ w'.cell? ⟨w.heap.size + 1, 0, none⟩ = some (.slice (some ⟨g, o, none⟩) x.l.length cap') ∧ w'.cell? ⟨w.heap.size + 1, 1, none⟩ = some (.int .i64 x.s) ∧ w'.cell? ⟨w.heap.size + 1, 2, none⟩ = some (.int .i64 x.e) ∧ w'.cell? ⟨w.heap.size + 1, 3, none⟩ = some (.string x.n)) (by kernel_rfl) (HS.out _ (Below.refl w6.heap.size w6).drew) (fun hHeld => ?_)
    refine wpAnyH_take (i := 0) (oi := { dst := some 27, op := Op.fieldAddr 26 (Operand.tmp 2) 2, type := 0, pos := "l07_part.go:62", after := #[], guard := none }) (v := ?vy1) rfl (by kernel_rfl) (by kernel_rfl) (by kernel_rfl) (fun _ _ _ h => h) (Or.inl ⟨by rfl, ?hyy1⟩) hHeld ?_
    case hyy1 => (intro w hSw; (try dsimp only at hSw); go_simp <;> with_reducible rfl)
    try simp only [Act.put, List.setIfInBounds_toArray, List.set_cons_zero, List.set_cons_succ]
    refine wpAnyH_take (i := 1) (oi := { dst := some 28, op := Op.load 24 (Operand.tmp 27), type := 24, pos := "l07_part.go:62", after := #[{ on := 0, ground := Ground.data }], guard := none }) (v := ?vy2) rfl (by kernel_rfl) (by kernel_rfl) (by kernel_rfl) (fun _ _ _ h => h) (Or.inl ⟨by rfl, ?hyy2⟩) hHeld ?_
    case hyy2 => (intro w hSw; (try dsimp only at hSw); go_simp <;> with_reducible rfl)
    try simp only [Act.put, List.setIfInBounds_toArray, List.set_cons_zero, List.set_cons_succ]
    refine wpAnyH_take (i := 2) (oi := { dst := some 29, op := Op.move (Operand.tmp 8), type := 3, pos := "l07_part.go:62", after := #[], guard := none }) (v := ?vy3) rfl (by kernel_rfl) (by kernel_rfl) (by kernel_rfl) (fun _ _ _ h => h) (Or.inl ⟨by rfl, ?hyy3⟩) hHeld ?_
    case hyy3 => (intro w hSw; (try dsimp only at hSw); go_simp <;> with_reducible rfl)
    try simp only [Act.put, List.setIfInBounds_toArray, List.set_cons_zero, List.set_cons_succ]
    refine wpAnyH_take (i := 3) (oi := { dst := some 30, op := Op.indexAddr 24 (Operand.tmp 28) (Operand.tmp 29), type := 0, pos := "l07_part.go:62", after := #[{ on := 1, ground := Ground.data }, { on := 2, ground := Ground.data }], guard := none }) (v := ?vy4) rfl (by kernel_rfl) (by kernel_rfl) (by kernel_rfl) (fun _ _ _ h => h) (Or.inl ⟨by rfl, ?hyy4⟩) hHeld ?_
    case hyy4 => (intro w hSw; (try dsimp only at hSw); go_simp <;> with_reducible rfl)
    try simp only [Act.put, List.setIfInBounds_toArray, List.set_cons_zero, List.set_cons_succ]
    refine wpAnyH_take (i := 4) (oi := { dst := some 31, op := Op.load 96 (Operand.tmp 30), type := 96, pos := "l07_part.go:62", after := #[{ on := 3, ground := Ground.data }], guard := none }) (v := ?vy5) rfl (by kernel_rfl) (by kernel_rfl) (by kernel_rfl) (fun _ _ _ h => h) (Or.inl ⟨by rfl, ?hyy5⟩) hHeld ?_
    case hyy5 => (intro w hSw; (try dsimp only at hSw); go_simp <;> with_reducible rfl)
    try simp only [Act.put, List.setIfInBounds_toArray, List.set_cons_zero, List.set_cons_succ]
    refine wpAnyH_take (i := 5) (oi := { dst := some 32, op := Op.load 29 (Operand.tmp 3), type := 29, pos := "l07_part.go:62", after := #[], guard := none }) (v := ?vy6) rfl (by kernel_rfl) (by kernel_rfl) (by kernel_rfl) (fun _ _ _ h => h) (Or.inl ⟨by rfl, ?hyy6⟩) hHeld ?_
    case hyy6 => (intro w hSw; (try dsimp only at hSw); go_simp <;> with_reducible rfl)
    try simp only [Act.put, List.setIfInBounds_toArray, List.set_cons_zero, List.set_cons_succ]
    refine wpAnyH_ready (rs := [6, 10]) (by kernel_rfl) (by simp) ?_
    refine AllReadyH.cons (o := { dst := some 33, op := Op.call { callee := Callee.value (Operand.func 72), args := #[Operand.tmp 31, Operand.tmp 32], argTypes := #[96, 29] }, type := 97, pos := "l07_part.go:62", after := #[{ on := 4, ground := Ground.data }, { on := 5, ground := Ground.data }], guard := none }) rfl (fun K hK => ?_) ?_
    ·
      go_simp
      refine (HPC.out _ ((Below.refl w6.heap.size w6).drew)).mono ?_
      rintro r wa ⟨⟨OM, Oc, Oz, rfl, hA, hP⟩, hy⟩
      have ZA : Hid (Below w6.heap.size w6 wa) := grow_on ((Below.refl w6.heap.size w6).drew) hy
      have OA : Hid (AB w6.heap.size wa OM Oc Oz ∧ pals Oz = putL (nthC C k).P x) := ⟨hA.down ((Below.refl w6.heap.size w6).drew).size, hP⟩
      clear hA hP hy
      clear hHeld
      refine hK.out _ _ (HS.out _ (ZA.out)) (fun hHeld => ?_)
      clear hK K
      try simp only [Act.put, List.setIfInBounds_toArray, List.set_cons_zero, List.set_cons_succ]
      refine wpAnyH_take (i := 7) (oi := { dst := some 26, op := Op.move (Operand.tmp 33), type := 97, pos := "l07_part.go:62", after := #[{ on := 6, ground := Ground.data }], guard := none }) (v := ?vy8) rfl (by kernel_rfl) (by kernel_rfl) (by kernel_rfl) (fun _ _ _ h => h) (Or.inl ⟨by rfl, ?hyy8⟩) hHeld ?_
      case hyy8 => (intro w hSw; (try dsimp only at hSw); go_simp <;> with_reducible rfl)
      try simp only [Act.put, List.setIfInBounds_toArray, List.set_cons_zero, List.set_cons_succ]
      refine wpAnyH_take (i := 8) (oi := { dst := some 34, op := Op.extract (Operand.tmp 26) 0, type := 96, pos := "l07_part.go:62", after := #[{ on := 7, ground := Ground.data }], guard := none }) (v := ?vy9) rfl (by kernel_rfl) (by kernel_rfl) (by kernel_rfl) (fun _ _ _ h => h) (Or.inl ⟨by rfl, ?hyy9⟩) hHeld ?_
      case hyy9 => (intro w hSw; (try dsimp only at hSw); go_simp <;> with_reducible rfl)
      try simp only [Act.put, List.setIfInBounds_toArray, List.set_cons_zero, List.set_cons_succ]
      refine wpAnyH_take (i := 9) (oi := { dst := some 35, op := Op.extract (Operand.tmp 26) 1, type := 4, pos := "l07_part.go:62", after := #[{ on := 7, ground := Ground.data }, { on := 11, ground := Ground.gcOnly Departure.lateStores }], guard := none }) (v := ?vy10) rfl (by kernel_rfl) (by kernel_rfl) (by kernel_rfl) (fun _ _ _ h => h) (Or.inl ⟨by rfl, ?hyy10⟩) hHeld ?_
      case hyy10 => (intro w hSw; (try dsimp only at hSw); go_simp <;> with_reducible rfl)
      try simp only [Act.put, List.setIfInBounds_toArray, List.set_cons_zero, List.set_cons_succ]
      refine wpAnyH_ready (rs := [10]) (by kernel_rfl) (by simp) ?_
      refine AllReadyH.cons (o := { dst := some 9, op := Op.alloc 96, type := 0, pos := "l07_part.go:62", after := #[], guard := none }) rfl (fun K hK => ?_) AllReadyH.nil
      go_simp
      clear hHeld
      refine hK.out _ _ (HS.out _ (bel_alloc (ZA.out) _)) (fun hHeld => ?_)
      clear hK K
      try simp only [Act.put, List.setIfInBounds_toArray, List.set_cons_zero, List.set_cons_succ]
      refine wpAnyH_ready (rs := [11]) (by kernel_rfl) (by simp) ?_
      refine AllReadyH.cons (o := { dst := none, op := Op.store 96 (Operand.tmp 9) (Operand.tmp 34), type := 0, pos := "l07_part.go:62", after := #[{ on := 10, ground := Ground.data }, { on := 8, ground := Ground.data }, { on := 6, ground := Ground.chain }, { on := 0, ground := Ground.phase }, { on := 1, ground := Ground.phase }, { on := 2, ground := Ground.phase }, { on := 3, ground := Ground.phase }, { on := 4, ground := Ground.phase }, { on := 5, ground := Ground.phase }, { on := 6, ground := Ground.phase }, { on := 7, ground := Ground.phase }, { on := 8, ground := Ground.phase }, { on := 9, ground := Ground.textOnly Departure.lateStores }, { on := 10, ground := Ground.phase }], guard := none }) rfl (fun K hK => ?_) AllReadyH.nil
      go_simp
      clear hHeld
      refine hK.out _ _ (HS.out _ (bel_alloc ZA.out _)) (fun hHeld => ?_)
      clear hK K
      try simp only [Act.put, List.setIfInBounds_toArray, List.set_cons_zero, List.set_cons_succ]
      refine wpAnyH_take (i := 12) (oi := { dst := some 10, op := Op.assign (Operand.tmp 35), type := 4, pos := "l07_part.go:62", after := #[{ on := 9, ground := Ground.data }, { on := 11, ground := Ground.chain }, { on := 0, ground := Ground.phase }, { on := 1, ground := Ground.phase }, { on := 2, ground := Ground.phase }, { on := 3, ground := Ground.phase }, { on := 4, ground := Ground.phase }, { on := 5, ground := Ground.phase }, { on := 6, ground := Ground.phase }, { on := 7, ground := Ground.phase }, { on := 8, ground := Ground.phase }, { on := 9, ground := Ground.phase }, { on := 10, ground := Ground.phase }, { on := 11, ground := Ground.phase }], guard := none }) (v := ?vy13) rfl (by kernel_rfl) (by kernel_rfl) (by kernel_rfl) (fun _ _ _ h => h) (Or.inl ⟨by rfl, ?hyy13⟩) hHeld ?_
      case hyy13 => (intro w hSw; (try dsimp only at hSw); go_simp <;> with_reducible rfl)
      try simp only [Act.put, List.setIfInBounds_toArray, List.set_cons_zero, List.set_cons_succ]
      refine wpAnyH_done (by kernel_rfl) ?_ _
      obtain ⟨Wx, hWx⟩ : ∃ Wx, wa.alloc (.cells #[.int .i64 (nthC C k).f, .slice (some ⟨OM, 0, none⟩) Oz.length Oc] 96) = Wx := ⟨_, rfl⟩
      have HX : Hid (Below w6.heap.size w6 Wx ∧ Blk Wx wa.heap.size #[.int .i64 (nthC C k).f, .slice (some ⟨OM, 0, none⟩) Oz.length Oc] 96 ∧ AB w6.heap.size Wx OM Oc Oz ∧ w6.heap.size ≤ wa.heap.size) := by rw [← hWx]; exact ⟨bel_alloc ZA.out _, Blk.new _ _ _, OA.out.1.grow (Go.Joins.below_alloc1 wa _), ZA.out.size⟩
      go_upto_region 7 with fail
      try rw [hWx]
      clear hWx hHeld
      have hCB := H6.out.2.2.grow HX.out.1
      have hfr := RowsC.fresh (x := ⟨(nthC C k).f, OM, Oc, Oz⟩) H6.out.2.2.rows HX.out.2.2.1 (Nat.le_refl _)
      have hcl : cs.length = C.length := by rw [← chs_len, H4.out.2.2.2.1]
      have hkc : k < cs.length := by have := HK.out; omega
      have hkc' : (k : Int) < (cs.length : Int) := by omega
      obtain ⟨cur, hcur, hcz, hcel⟩ := hCB.outer
      have e0 : Wx.cell? ⟨Mo, k * 2, none⟩ = some (.int .i64 (nthR cs k).f) := (hcur.cell _).trans (hcel k hkc).1
      have e1 : Wx.cell? ⟨Mo, k * 2 + 1, none⟩ = some (.slice (some ⟨(nthR cs k).M, 0, none⟩) (nthR cs k).rs.length (nthR cs k).c) := (hcur.cell _).trans (hcel k hkc).2
      have ef0 := hcur.frozen (k * 2)
      have ef1 := hcur.frozen (k * 2 + 1)
      have o2 : Wx.cell? ⟨w2.heap.size, 2, none⟩ = some (.slice (some ⟨Mo, 0, none⟩) cs.length co) := (H6.out.2.1.grow HX.out.1).cell 2
      have n0 : Wx.cell? ⟨wa.heap.size, 0, none⟩ = some (.int .i64 (nthC C k).f) := HX.out.2.1.cell 0
      have n1 : Wx.cell? ⟨wa.heap.size, 1, none⟩ = some (.slice (some ⟨OM, 0, none⟩) Oz.length Oc) := HX.out.2.1.cell 1
      obtain ⟨W9, hW9⟩ : ∃ W9, (Wx.setCell ⟨Mo, k * 2, none⟩ (.int .i64 (nthC C k).f)).setCell ⟨Mo, k * 2 + 1, none⟩ (.slice (some ⟨OM, 0, none⟩) Oz.length Oc) = W9 := ⟨_, rfl⟩
      have H9 : Hid (Below W0.heap.size W0 W9 ∧ Blk W9 w2.heap.size #[.int .i64 hd, .int .i64 vu, .slice (some ⟨Mo, 0, none⟩) cs.length co] 26 ∧ CB W0.heap.size W9 Mo co (cs.set k ⟨(nthC C k).f, OM, Oc, Oz⟩) ∧ chs (cs.set k ⟨(nthC C k).f, OM, Oc, Oz⟩) = putC C x) := by
        have hput := CB.put hCB hkc (x := ⟨(nthC C k).f, OM, Oc, Oz⟩) (HX.out.2.2.1.down H6.out.1.size) hfr
        have hq : put2W Wx Mo k ⟨(nthC C k).f, OM, Oc, Oz⟩ = W9 := hW9
        rw [hq] at hput
        have hob := H6.out.2.1.grow HX.out.1
        have hn := blkT_ne hcur hob (by decide)
        refine ⟨?_, ?_, hput, ?_⟩
        · rw [← hq]; exact put2W_low (grow_on H6.out.1 HX.out.1) hCB.at'
        · rw [← hW9]; exact (hob.set_other (p := ⟨Mo, k * 2, none⟩) hn _).set_other (p := ⟨Mo, k * 2 + 1, none⟩) hn _
        · rw [HE.out.1]
          unfold chs
          rw [List.map_set]
          have h1 : cs.map CRow.ch = C := H4.out.2.2.2.1
          rw [h1]
          show C.set k ⟨(nthC C k).f, pals Oz⟩ = _
          rw [OA.out.2]
      have r0 : W9.cell? ⟨w2.heap.size, 0, none⟩ = some (.int .i64 hd) := H9.out.2.1.cell 0
      have r1 : W9.cell? ⟨w2.heap.size, 1, none⟩ = some (.int .i64 vu) := H9.out.2.1.cell 1
      have r2 : W9.cell? ⟨w2.heap.size, 2, none⟩ = some (.slice (some ⟨Mo, 0, none⟩) cs.length co) := H9.out.2.1.cell 2
      have HRB : Hid (Blk W9 (w.heap.size + 2) #[.int .i64 0, .int .i64 0, .slice none 0 0] 26) := HW0.out.2.2.2.1.grow H9.out.1
      have t0 : W9.cell? ⟨w.heap.size + 2, 0, none⟩ = some (.int .i64 0) := HRB.out.cell 0
      have t1 : W9.cell? ⟨w.heap.size + 2, 1, none⟩ = some (.int .i64 0) := HRB.out.cell 1
      have t2 : W9.cell? ⟨w.heap.size + 2, 2, none⟩ = some (.slice none 0 0) := HRB.out.cell 2
      have tf0 := HRB.out.frozen 0
      have tf1 := HRB.out.frozen 1
      have tf2 := HRB.out.frozen 2
      clear hCB hfr hcl hkc hcur hcz hcel
      go_wp2
      have hs := put3 HRB.out (.int .i64 hd) (.int .i64 vu) (.slice (some ⟨Mo, 0, none⟩) cs.length co)
      have s0 := hs.cell 0
      have s1 := hs.cell 1
      have s2 := hs.cell 2
      refine bodyPost_ret (v := .tuple #[.agg #[.int .i64 hd, .int .i64 vu, .slice (some ⟨Mo, 0, none⟩) cs.length co], .bool (isNew (nthC C k).P x.l)]) (by simp [results, Tryz.results10, go_sem, s0, s1, s2]) rfl ?_
      rw [HE.out.2]
      refine ⟨⟨Mo, co, cs.set k ⟨(nthC C k).f, OM, Oc, Oz⟩, ?_, (CB.set3 H9.out.2.2.1 HRB.out _ _ _).down HW0.out.1.size, H9.out.2.2.2⟩, set3 (grow_on HW0.out.1 H9.out.1) (by omega) _ _ _⟩
      rw [List.length_set]
    refine AllReadyH.cons (o := { dst := some 9, op := Op.alloc 96, type := 0, pos := "l07_part.go:62", after := #[], guard := none }) rfl (fun K hK => ?_) AllReadyH.nil
    go_simp
    clear hHeld
    refine hK.out _ _ (HS.out _ (bel_alloc ((Below.refl w6.heap.size w6).drew) _)) (fun hHeld => ?_)
    clear hK K
    try simp only [Act.put, List.setIfInBounds_toArray, List.set_cons_zero, List.set_cons_succ]
    refine wpAnyH_ready (rs := [6]) (by kernel_rfl) (by simp) ?_
    refine AllReadyH.cons (o := { dst := some 33, op := Op.call { callee := Callee.value (Operand.func 72), args := #[Operand.tmp 31, Operand.tmp 32], argTypes := #[96, 29] }, type := 97, pos := "l07_part.go:62", after := #[{ on := 4, ground := Ground.data }, { on := 5, ground := Ground.data }], guard := none }) rfl (fun K hK => ?_) AllReadyH.nil
    go_simp
    refine (HPC.out _ (bel_alloc ((Below.refl w6.heap.size w6).drew) _)).mono ?_
    rintro r wa ⟨⟨OM, Oc, Oz, rfl, hA, hP⟩, hy⟩
    have ZA : Hid (Below w6.heap.size w6 wa) := grow_on (bel_alloc ((Below.refl w6.heap.size w6).drew) _) hy
    have OA : Hid (AB w6.heap.size wa OM Oc Oz ∧ pals Oz = putL (nthC C k).P x) := ⟨hA.down (bel_alloc ((Below.refl w6.heap.size w6).drew) _).size, hP⟩
    have NB : Hid (Blk wa w6.heap.size #[.int .i64 0, .slice none 0 0] 96) := (Blk.new w6.drew _ _).grow hy
    clear hA hP hy
    clear hHeld
    refine hK.out _ _ (HS.out _ (ZA.out)) (fun hHeld => ?_)
    clear hK K
    try simp only [Act.put, List.setIfInBounds_toArray, List.set_cons_zero, List.set_cons_succ]
    refine wpAnyH_take (i := 7) (oi := { dst := some 26, op := Op.move (Operand.tmp 33), type := 97, pos := "l07_part.go:62", after := #[{ on := 6, ground := Ground.data }], guard := none }) (v := ?vy16) rfl (by kernel_rfl) (by kernel_rfl) (by kernel_rfl) (fun _ _ _ h => h) (Or.inl ⟨by rfl, ?hyy16⟩) hHeld ?_
    case hyy16 => (intro w hSw; (try dsimp only at hSw); go_simp <;> with_reducible rfl)
    try simp only [Act.put, List.setIfInBounds_toArray, List.set_cons_zero, List.set_cons_succ]
    refine wpAnyH_take (i := 8) (oi := { dst := some 34, op := Op.extract (Operand.tmp 26) 0, type := 96, pos := "l07_part.go:62", after := #[{ on := 7, ground := Ground.data }], guard := none }) (v := ?vy17) rfl (by kernel_rfl) (by kernel_rfl) (by kernel_rfl) (fun _ _ _ h => h) (Or.inl ⟨by rfl, ?hyy17⟩) hHeld ?_
    case hyy17 => (intro w hSw; (try dsimp only at hSw); go_simp <;> with_reducible rfl)
    try simp only [Act.put, List.setIfInBounds_toArray, List.set_cons_zero, List.set_cons_succ]
    refine wpAnyH_take (i := 9) (oi := { dst := some 35, op := Op.extract (Operand.tmp 26) 1, type := 4, pos := "l07_part.go:62", after := #[{ on := 7, ground := Ground.data }, { on := 11, ground := Ground.gcOnly Departure.lateStores }], guard := none }) (v := ?vy18) rfl (by kernel_rfl) (by kernel_rfl) (by kernel_rfl) (fun _ _ _ h => h) (Or.inl ⟨by rfl, ?hyy18⟩) hHeld ?_
    case hyy18 => (intro w hSw; (try dsimp only at hSw); go_simp <;> with_reducible rfl)
    try simp only [Act.put, List.setIfInBounds_toArray, List.set_cons_zero, List.set_cons_succ]
    refine wpAnyH_ready (rs := [11]) (by kernel_rfl) (by simp) ?_
    refine AllReadyH.cons (o := { dst := none, op := Op.store 96 (Operand.tmp 9) (Operand.tmp 34), type := 0, pos := "l07_part.go:62", after := #[{ on := 10, ground := Ground.data }, { on := 8, ground := Ground.data }, { on := 6, ground := Ground.chain }, { on := 0, ground := Ground.phase }, { on := 1, ground := Ground.phase }, { on := 2, ground := Ground.phase }, { on := 3, ground := Ground.phase }, { on := 4, ground := Ground.phase }, { on := 5, ground := Ground.phase }, { on := 6, ground := Ground.phase }, { on := 7, ground := Ground.phase }, { on := 8, ground := Ground.phase }, { on := 9, ground := Ground.textOnly Departure.lateStores }, { on := 10, ground := Ground.phase }], guard := none }) rfl (fun K hK => ?_) AllReadyH.nil
    have n0 : wa.cell? ⟨w6.heap.size, 0, none⟩ = some (.int .i64 0) := NB.out.cell 0
    have n1 : wa.cell? ⟨w6.heap.size, 1, none⟩ = some (.slice none 0 0) := NB.out.cell 1
    have m0 := NB.out.frozen 0
    have m1 := NB.out.frozen 1
    go_simp
    clear n0 n1 m0 m1 hHeld
    refine hK.out _ _ (HS.out _ (set2 ZA.out (Nat.le_refl _) _ _)) (fun hHeld => ?_)
    clear hK K
    try simp only [Act.put, List.setIfInBounds_toArray, List.set_cons_zero, List.set_cons_succ]
    refine wpAnyH_take (i := 12) (oi := { dst := some 10, op := Op.assign (Operand.tmp 35), type := 4, pos := "l07_part.go:62", after := #[{ on := 9, ground := Ground.data }, { on := 11, ground := Ground.chain }, { on := 0, ground := Ground.phase }, { on := 1, ground := Ground.phase }, { on := 2, ground := Ground.phase }, { on := 3, ground := Ground.phase }, { on := 4, ground := Ground.phase }, { on := 5, ground := Ground.phase }, { on := 6, ground := Ground.phase }, { on := 7, ground := Ground.phase }, { on := 8, ground := Ground.phase }, { on := 9, ground := Ground.phase }, { on := 10, ground := Ground.phase }, { on := 11, ground := Ground.phase }], guard := none }) (v := ?vy20) rfl (by kernel_rfl) (by kernel_rfl) (by kernel_rfl) (fun _ _ _ h => h) (Or.inl ⟨by rfl, ?hyy20⟩) hHeld ?_
    case hyy20 => (intro w hSw; (try dsimp only at hSw); go_simp <;> with_reducible rfl)
    try simp only [Act.put, List.setIfInBounds_toArray, List.set_cons_zero, List.set_cons_succ]
    refine wpAnyH_done (by kernel_rfl) ?_ _
    obtain ⟨Wx, hWx⟩ : ∃ Wx, (wa.setCell ⟨w6.heap.size, 0, none⟩ (.int .i64 (nthC C k).f)).setCell ⟨w6.heap.size, 1, none⟩ (.slice (some ⟨OM, 0, none⟩) Oz.length Oc) = Wx := ⟨_, rfl⟩
    have HX : Hid (Below w6.heap.size w6 Wx ∧ Blk Wx w6.heap.size #[.int .i64 (nthC C k).f, .slice (some ⟨OM, 0, none⟩) Oz.length Oc] 96 ∧ AB w6.heap.size Wx OM Oc Oz ∧ w6.heap.size ≤ w6.heap.size) := by rw [← hWx]; exact ⟨set2 ZA.out (Nat.le_refl _) _ _, (NB.out.set 0 _).set 1 _, ab_set2 OA.out.1 NB.out _ _, Nat.le_refl _⟩
    go_upto_region 7 with fail
    try rw [hWx]
    clear hWx hHeld
    have hCB := H6.out.2.2.grow HX.out.1
    have hfr := RowsC.fresh (x := ⟨(nthC C k).f, OM, Oc, Oz⟩) H6.out.2.2.rows HX.out.2.2.1 (Nat.le_refl _)
    have hcl : cs.length = C.length := by rw [← chs_len, H4.out.2.2.2.1]
    have hkc : k < cs.length := by have := HK.out; omega
    have hkc' : (k : Int) < (cs.length : Int) := by omega
    obtain ⟨cur, hcur, hcz, hcel⟩ := hCB.outer
    have e0 : Wx.cell? ⟨Mo, k * 2, none⟩ = some (.int .i64 (nthR cs k).f) := (hcur.cell _).trans (hcel k hkc).1
    have e1 : Wx.cell? ⟨Mo, k * 2 + 1, none⟩ = some (.slice (some ⟨(nthR cs k).M, 0, none⟩) (nthR cs k).rs.length (nthR cs k).c) := (hcur.cell _).trans (hcel k hkc).2
    have ef0 := hcur.frozen (k * 2)
    have ef1 := hcur.frozen (k * 2 + 1)
    have o2 : Wx.cell? ⟨w2.heap.size, 2, none⟩ = some (.slice (some ⟨Mo, 0, none⟩) cs.length co) := (H6.out.2.1.grow HX.out.1).cell 2
    have n0 : Wx.cell? ⟨w6.heap.size, 0, none⟩ = some (.int .i64 (nthC C k).f) := HX.out.2.1.cell 0
    have n1 : Wx.cell? ⟨w6.heap.size, 1, none⟩ = some (.slice (some ⟨OM, 0, none⟩) Oz.length Oc) := HX.out.2.1.cell 1
    obtain ⟨W9, hW9⟩ : ∃ W9, (Wx.setCell ⟨Mo, k * 2, none⟩ (.int .i64 (nthC C k).f)).setCell ⟨Mo, k * 2 + 1, none⟩ (.slice (some ⟨OM, 0, none⟩) Oz.length Oc) = W9 := ⟨_, rfl⟩
    have H9 : Hid (Below W0.heap.size W0 W9 ∧ Blk W9 w2.heap.size #[.int .i64 hd, .int .i64 vu, .slice (some ⟨Mo, 0, none⟩) cs.length co] 26 ∧ CB W0.heap.size W9 Mo co (cs.set k ⟨(nthC C k).f, OM, Oc, Oz⟩) ∧ chs (cs.set k ⟨(nthC C k).f, OM, Oc, Oz⟩) = putC C x) := by
      have hput := CB.put hCB hkc (x := ⟨(nthC C k).f, OM, Oc, Oz⟩) (HX.out.2.2.1.down H6.out.1.size) hfr
      have hq : put2W Wx Mo k ⟨(nthC C k).f, OM, Oc, Oz⟩ = W9 := hW9
      rw [hq] at hput
      have hob := H6.out.2.1.grow HX.out.1
      have hn := blkT_ne hcur hob (by decide)
      refine ⟨?_, ?_, hput, ?_⟩
      · rw [← hq]; exact put2W_low (grow_on H6.out.1 HX.out.1) hCB.at'
      · rw [← hW9]; exact (hob.set_other (p := ⟨Mo, k * 2, none⟩) hn _).set_other (p := ⟨Mo, k * 2 + 1, none⟩) hn _
      · rw [HE.out.1]
        unfold chs
        rw [List.map_set]
        have h1 : cs.map CRow.ch = C := H4.out.2.2.2.1
        rw [h1]
        show C.set k ⟨(nthC C k).f, pals Oz⟩ = _
        rw [OA.out.2]
    have r0 : W9.cell? ⟨w2.heap.size, 0, none⟩ = some (.int .i64 hd) := H9.out.2.1.cell 0
    have r1 : W9.cell? ⟨w2.heap.size, 1, none⟩ = some (.int .i64 vu) := H9.out.2.1.cell 1
    have r2 : W9.cell? ⟨w2.heap.size, 2, none⟩ = some (.slice (some ⟨Mo, 0, none⟩) cs.length co) := H9.out.2.1.cell 2
    have HRB : Hid (Blk W9 (w.heap.size + 2) #[.int .i64 0, .int .i64 0, .slice none 0 0] 26) := HW0.out.2.2.2.1.grow H9.out.1
    have t0 : W9.cell? ⟨w.heap.size + 2, 0, none⟩ = some (.int .i64 0) := HRB.out.cell 0
    have t1 : W9.cell? ⟨w.heap.size + 2, 1, none⟩ = some (.int .i64 0) := HRB.out.cell 1
    have t2 : W9.cell? ⟨w.heap.size + 2, 2, none⟩ = some (.slice none 0 0) := HRB.out.cell 2
    have tf0 := HRB.out.frozen 0
    have tf1 := HRB.out.frozen 1
    have tf2 := HRB.out.frozen 2
    clear hCB hfr hcl hkc hcur hcz hcel
    go_wp2
    have hs := put3 HRB.out (.int .i64 hd) (.int .i64 vu) (.slice (some ⟨Mo, 0, none⟩) cs.length co)
    have s0 := hs.cell 0
    have s1 := hs.cell 1
    have s2 := hs.cell 2
    refine bodyPost_ret (v := .tuple #[.agg #[.int .i64 hd, .int .i64 vu, .slice (some ⟨Mo, 0, none⟩) cs.length co], .bool (isNew (nthC C k).P x.l)]) (by simp [results, Tryz.results10, go_sem, s0, s1, s2]) rfl ?_
    rw [HE.out.2]
    refine ⟨⟨Mo, co, cs.set k ⟨(nthC C k).f, OM, Oc, Oz⟩, ?_, (CB.set3 H9.out.2.2.1 HRB.out _ _ _).down HW0.out.1.size, H9.out.2.2.2⟩, set3 (grow_on HW0.out.1 H9.out.1) (by omega) _ _ _⟩
    rw [List.length_set]
end Go.Proofs.YtooninmicfcfoaaGreat.PrtV
namespace Go.Proofs.YtooninmicfcfoaaGreat.StsP
open Go.RowKit
open Labs LabS Alms AlmS AlmM Over Blk App Rws ChnI ChnC ChnP ChnK Chs Prt PrtM Sts StsC StsH
open PrtC (putC newC)
def putT (p : PPt) (x : PAl) : PPt := ⟨p.hd, IntKind.i64.wrap (p.vr + 1), putC p.C x⟩
def putS (S : List PPt) (x : PAl) : List PPt := if S.length = 0 then S else S.set (homeN S.length x.l) (putT (nthT S (homeN S.length x.l)) x)
def freshS (S : List PPt) (x : PAl) : Bool := if S.length = 0 then false else newC (nthT S (homeN S.length x.l)).C x
theorem putS_0 {S : List PPt} {x : PAl} (h : S.length = 0) : putS S x = S ∧ freshS S x = false := ⟨if_pos h, if_pos h⟩
theorem putS_1 {S : List PPt} {x : PAl} {k : Nat} (h : ¬ S.length = 0) (hk : homeN S.length x.l = k) : putS S x = S.set k (putT (nthT S k) x) ∧ freshS S x = newC (nthT S k).C x := by unfold putS freshS; rw [if_neg h, if_neg h, hk]; exact ⟨rfl, rfl⟩
theorem putS_len (S : List PPt) (x : PAl) : (putS S x).length = S.length := by unfold putS; split <;> simp
theorem pts_set (ps : List PRow) (k : Nat) (x : PRow) : pts (ps.set k x) = (pts ps).set k x.pt := by unfold pts; rw [List.map_set]
theorem retPA {M n n' c : Nat} {b b' : Bool} (h : n = n') (hb : b = b') : Ending.returned (.tuple #[.slice (some ⟨M, 0, none⟩) n c, .bool b]) = .returned (.tuple #[.slice (some ⟨M, 0, none⟩) n' c, .bool b']) := by rw [h, hb]
set_option maxRecDepth 100000 in
set_option maxHeartbeats 6400000 in
theorem specPutA_any (a : Option Addr) (cap : Nat) (S : List PPt) (g o cap' : Nat) (x : PAl) (w : World) (hr : RdS RdN w a S) (hx : Reads w (some ⟨g, o, none⟩) x.l) (hl : S.length ≤ 1048576) (hs : sumT S ≤ 1048576) (hxl : x.l.length ≤ 1048576) (hxf : LabT.Fits x.l) :
    Calls Tryz.prog 38 #[.slice a S.length cap, .agg #[.slice (some ⟨g, o, none⟩) x.l.length cap', .int .i64 x.s, .int .i64 x.e, .string x.n]] w fun e w' => (∃ M c, e = .returned (.tuple #[.slice (some ⟨M, 0, none⟩) S.length c, .bool (freshS S x)]) ∧ ∃ ps, PB w.heap.size w' M c ps ∧ pts ps = putS S x ∧ Own8 ps) ∧ Below w.heap.size w w' := by
  have HR : Hid (RdS RdN w a S ∧ Reads w (some ⟨g, o, none⟩) x.l ∧ sumT S ≤ 1048576 ∧ LabT.Fits x.l) := ⟨hr, hx, hs, hxf⟩
  clear hr hx hs hxf
  go_enter Tryz.func38, Tryz.ntmps38
  go_upto_region 1 with fail
  obtain ⟨W0, hW0⟩ : ∃ W0, w.alloc (.cells #[.slice (some ⟨g, o, none⟩) x.l.length cap', .int .i64 x.s, .int .i64 x.e, .string x.n] 29) = W0 := ⟨_, rfl⟩
  have HW0 : Hid (Below w.heap.size w W0 ∧ Blk W0 w.heap.size #[.slice (some ⟨g, o, none⟩) x.l.length cap', .int .i64 x.s, .int .i64 x.e, .string x.n] 29) := by
    rw [← hW0]
    exact ⟨Go.Joins.below_alloc1 w _, Blk.new _ _ _⟩
  rw [hW0]
  clear hW0
  go_wp2_with fail
  refine (l8Copy_any a cap S W0 (HR.out.1.below stays_rn HW0.out.1) hl HR.out.2.2.1).mono ?_
  rintro e w1 ⟨⟨Mo, co, ps, rfl, hO, hP, hO8⟩, hb1⟩
  have HO1 : Hid (PB w.heap.size w1 Mo co ps ∧ pts ps = S ∧ Own8 ps) := ⟨hO.down HW0.out.1.size, hP, hO8⟩
  have HL : Hid (ps.length = S.length) := by show _ = _; rw [← pts_len, hP]
  have HB1 : Hid (Below W0.heap.size W0 w1) := hb1
  have HX1 : Hid (Blk w1 w.heap.size #[.slice (some ⟨g, o, none⟩) x.l.length cap', .int .i64 x.s, .int .i64 x.e, .string x.n] 29) := HW0.out.2.grow hb1
  clear hO hP hO8 hb1
  rw [HL.out]
  by_cases hne : S.length = 0
  · have HE := putS_0 (x := x) hne
    have HE2 : Hid (putS S x = S ∧ freshS S x = false) := HE
    clear HE
    have hne2 : ((S.length : Int) == 0) = true := by rw [beq_iff_eq]; omega
    go_wp2
    go_ret2
    exact ⟨⟨Mo, co, retPA (by omega) HE2.out.2.symm, ps, HO1.out.1, by rw [HE2.out.1]; exact HO1.out.2.1, HO1.out.2.2⟩, grow_on HW0.out.1 HB1.out⟩
  obtain ⟨k, hkk⟩ : ∃ k, homeN S.length x.l = k := ⟨_, rfl⟩
  have HK : Hid (putS S x = S.set k (putT (nthT S k) x) ∧ freshS S x = newC (nthT S k).C x) := putS_1 hne hkk
  have hk : k < S.length := by rw [← hkk]; exact home_lt (by omega)
  have hk' : (k : Int) < (S.length : Int) := by omega
  have hne2 : ((S.length : Int) == 0) = false := by rw [beq_eq_false_iff_ne]; omega
  have c0 : w1.cell? ⟨w.heap.size, 0, none⟩ = some (.slice (some ⟨g, o, none⟩) x.l.length cap') := HX1.out.cell 0
  have HH : Hid (Calls Tryz.prog 49 #[.slice a S.length cap, .slice (some ⟨g, o, none⟩) x.l.length cap'] w1 fun e w' => e = .returned (.int .i64 k) ∧ Below w1.heap.size w1 w') := by
    rw [← hkk]
    exact specHome_any a _ S.length cap cap' x.l w1 (HR.out.2.1.below (grow_on HW0.out.1 HB1.out)) (by unfold maxLen; omega) (by unfold maxLen; omega) HR.out.2.2.2
  clear hkk
  go_wp2_with fail
  refine HH.out.mono ?_
  rintro e w2 ⟨rfl, hb2⟩
  have HO2 : Hid (PB w.heap.size w2 Mo co ps) := HO1.out.1.grow hb2
  have HB2 : Hid (Below w.heap.size w w2) := grow_on (grow_on HW0.out.1 HB1.out) hb2
  have HX2 : Hid (Blk w2 w.heap.size #[.slice (some ⟨g, o, none⟩) x.l.length cap', .int .i64 x.s, .int .i64 x.e, .string x.n] 29) := HX1.out.grow hb2
  clear hb2 HH c0 HX1
  obtain ⟨b, off, ea, hb, ad, cp, hat⟩ := (HR.out.1.below stays_rn HB2.out).get hk
  cases ea
  have q0 : w2.cell? ⟨b, off + k * 3, none⟩ = some (.int .i64 (nthT S k).hd) := by have := hat.c0; exact this
  have q1 : w2.cell? ⟨b, off + k * 3 + 1, none⟩ = some (.int .i64 (nthT S k).vr) := by have := hat.c1; exact this
  have q2 : w2.cell? ⟨b, off + k * 3 + 2, none⟩ = some (.slice ad (nthT S k).C.length cp) := by have := hat.c2; exact this
  have HA : Hid (RdG RdN w2 ad (nthT S k).C) := hat.reads
  have HSm : Hid ((nthT S k).C.length ≤ 1048576 ∧ PrtO.Small (nthT S k).C ∧ (nthT S k).C.length + sumC (nthT S k).C ≤ 1048576) := by have h0 := sumT_nth hk; have h1 := HR.out.2.2.1; exact ⟨by omega, small_of (by omega), by omega⟩
  obtain ⟨nu, hnu⟩ : ∃ b, newC (nthT S k).C x = b := ⟨_, rfl⟩
  obtain ⟨vu, hvu⟩ : ∃ v, IntKind.i64.wrap ((nthT S k).vr + 1) = v := ⟨_, rfl⟩
  have HVU : Hid (newC (nthT S k).C x = nu ∧ IntKind.i64.wrap ((nthT S k).vr + 1) = vu) := ⟨hnu, hvu⟩
  have HPU : Hid (∀ z, Below w2.heap.size w2 z → Calls Tryz.prog 10 #[.agg #[.int .i64 (nthT S k).hd, .int .i64 (nthT S k).vr, .slice ad (nthT S k).C.length cp], .agg #[.slice (some ⟨g, o, none⟩) x.l.length cap', .int .i64 x.s, .int .i64 x.e, .string x.n]] z fun e w' => (∃ M c cs, e = .returned (.tuple #[.agg #[.int .i64 (nthT S k).hd, .int .i64 vu, .slice (some ⟨M, 0, none⟩) cs.length c], .bool nu]) ∧ CB z.heap.size w' M c cs ∧ chs cs = putC (nthT S k).C x) ∧ Below z.heap.size z w') := fun z hz => by
    have h := PrtV.specPut_any (nthT S k).hd (nthT S k).vr ad cp (nthT S k).C g o cap' x z (HA.out.below stays_rn hz) (HR.out.2.1.below (grow_on HB2.out hz)) HSm.out.1 HSm.out.2.1 HSm.out.2.2 hxl HR.out.2.2.2
    rw [hnu, hvu] at h
    exact h
  clear hat hnu hvu
  have hbw : b < w2.heap.size := hb
  have HS : Hid (∀ w', Below w2.heap.size w2 w' → w'.cell? ⟨b, off + k * 3, none⟩ = some (.int .i64 (nthT S k).hd) ∧ w'.cell? ⟨b, off + k * 3 + 1, none⟩ = some (.int .i64 (nthT S k).vr) ∧ w'.cell? ⟨b, off + k * 3 + 2, none⟩ = some (.slice ad (nthT S k).C.length cp) ∧ w'.cell? ⟨w.heap.size, 0, none⟩ = some (.slice (some ⟨g, o, none⟩) x.l.length cap') ∧ w'.cell? ⟨w.heap.size, 1, none⟩ = some (.int .i64 x.s) ∧ w'.cell? ⟨w.heap.size, 2, none⟩ = some (.int .i64 x.e) ∧ w'.cell? ⟨w.heap.size, 3, none⟩ = some (.string x.n)) := fun w' h => ⟨(h.cell hbw).trans q0, (h.cell hbw).trans q1, (h.cell hbw).trans q2, (h.cell HX2.out.lt).trans (HX2.out.cell 0), (h.cell HX2.out.lt).trans (HX2.out.cell 1), (h.cell HX2.out.lt).trans (HX2.out.cell 2), (h.cell HX2.out.lt).trans (HX2.out.cell 3)⟩
  clear q0 q1 q2
  go_upto_region 5 with fail
  go_cut [8, 9] from 10 (fun s8 s9 wx => ∃ (N M c : Nat) (cs : List CRow), s8 = .pointer (some ⟨N, 0, none⟩) ∧ s9 = .bool nu ∧ Blk wx N #[.int .i64 (nthT S k).hd, .int .i64 vu, .slice (some ⟨M, 0, none⟩) cs.length c] 26 ∧ CB w2.heap.size wx M c cs ∧ chs cs = putC (nthT S k).C x ∧ w2.heap.size ≤ N ∧ Below w2.heap.size w2 wx)
  case first =>
    refine wp_region_held_drew (S := fun w' => w'.cell? ⟨b, off + k * 3, none⟩ = some (.int .i64 (nthT S k).hd) ∧ w'.cell? ⟨b, off + k * 3 + 1, none⟩ = some (.int .i64 (nthT S k).vr) ∧ w'.cell? ⟨b, off + k * 3 + 2, none⟩ = some (.slice ad (nthT S k).C.length cp) ∧ w'.cell? ⟨w.heap.size, 0, none⟩ = some (.slice (some ⟨g, o, none⟩) x.l.length cap') ∧ w'.cell? ⟨w.heap.size, 1, none⟩ = some (.int .i64 x.s) ∧ w'.cell? ⟨w.heap.size, 2, none⟩ = some (.int .i64 x.e) ∧ w'.cell? ⟨w.heap.size, 3, none⟩ = some (.string x.n)) (by kernel_rfl) (HS.out _ (Below.refl _ _).drew) (fun hHeld => ?_)
    refine wpAnyH_take (i := 0) (oi := { dst := some 21, op := Op.move (Operand.tmp 0), type := 54, pos := "l08_store.go:46", after := #[], guard := none }) (v := ?vs1) rfl (by kernel_rfl) (by kernel_rfl) (by kernel_rfl) (fun _ _ _ h => h) (Or.inl ⟨by rfl, ?hys1⟩) hHeld ?_
    case hys1 => (intro w hSw; (try dsimp only at hSw); go_simp <;> with_reducible rfl)
    try simp only [Act.put, List.setIfInBounds_toArray, List.set_cons_zero, List.set_cons_succ]
    refine wpAnyH_take (i := 1) (oi := { dst := some 22, op := Op.move (Operand.tmp 7), type := 3, pos := "l08_store.go:46", after := #[], guard := none }) (v := ?vs2) rfl (by kernel_rfl) (by kernel_rfl) (by kernel_rfl) (fun _ _ _ h => h) (Or.inl ⟨by rfl, ?hys2⟩) hHeld ?_
    case hys2 => (intro w hSw; (try dsimp only at hSw); go_simp <;> with_reducible rfl)
    try simp only [Act.put, List.setIfInBounds_toArray, List.set_cons_zero, List.set_cons_succ]
    refine wpAnyH_take (i := 2) (oi := { dst := some 23, op := Op.indexAddr 54 (Operand.tmp 21) (Operand.tmp 22), type := 0, pos := "l08_store.go:46", after := #[{ on := 0, ground := Ground.data }, { on := 1, ground := Ground.data }], guard := none }) (v := ?vs3) rfl (by kernel_rfl) (by kernel_rfl) (by kernel_rfl) (fun _ _ _ h => h) (Or.inl ⟨by rfl, ?hys3⟩) hHeld ?_
    case hys3 => (intro w hSw; (try dsimp only at hSw); go_simp <;> with_reducible rfl)
    try simp only [Act.put, List.setIfInBounds_toArray, List.set_cons_zero, List.set_cons_succ]
    refine wpAnyH_take (i := 3) (oi := { dst := some 24, op := Op.load 26 (Operand.tmp 23), type := 26, pos := "l08_store.go:46", after := #[{ on := 2, ground := Ground.data }], guard := none }) (v := ?vs4) rfl (by kernel_rfl) (by kernel_rfl) (by kernel_rfl) (fun _ _ _ h => h) (Or.inl ⟨by rfl, ?hys4⟩) hHeld ?_
    case hys4 => (intro w hSw; (try dsimp only at hSw); go_simp <;> with_reducible rfl)
    try simp only [Act.put, List.setIfInBounds_toArray, List.set_cons_zero, List.set_cons_succ]
    refine wpAnyH_take (i := 4) (oi := { dst := some 25, op := Op.load 29 (Operand.tmp 3), type := 29, pos := "l08_store.go:46", after := #[], guard := none }) (v := ?vs5) rfl (by kernel_rfl) (by kernel_rfl) (by kernel_rfl) (fun _ _ _ h => h) (Or.inl ⟨by rfl, ?hys5⟩) hHeld ?_
    case hys5 => (intro w hSw; (try dsimp only at hSw); go_simp <;> with_reducible rfl)
    try simp only [Act.put, List.setIfInBounds_toArray, List.set_cons_zero, List.set_cons_succ]
    refine wpAnyH_ready (rs := [5, 9]) (by kernel_rfl) (by simp) ?_
    refine AllReadyH.cons (o := { dst := some 26, op := Op.call { callee := Callee.value (Operand.func 10), args := #[Operand.tmp 24, Operand.tmp 25], argTypes := #[26, 29] }, type := 32, pos := "l08_store.go:46", after := #[{ on := 3, ground := Ground.data }, { on := 4, ground := Ground.data }], guard := none }) rfl (fun K hK => ?_) ?_
    ·
      go_simp
      refine (HPU.out _ ((Below.refl w2.heap.size w2).drew)).mono ?_
      rintro r wa ⟨⟨OM, Oc, Oz, rfl, hA, hP⟩, hy⟩
      have ZA : Hid (Below w2.heap.size w2 wa) := grow_on ((Below.refl w2.heap.size w2).drew) hy
      have OA : Hid (CB w2.heap.size wa OM Oc Oz ∧ chs Oz = putC (nthT S k).C x) := ⟨hA.down ((Below.refl w2.heap.size w2).drew).size, hP⟩
      clear hA hP hy
      try dsimp only
      clear hHeld
      refine hK.out _ _ (HS.out _ (ZA.out)) (fun hHeld => ?_)
      clear hK K
      try simp only [Act.put, List.setIfInBounds_toArray, List.set_cons_zero, List.set_cons_succ]
      refine wpAnyH_take (i := 6) (oi := { dst := some 20, op := Op.move (Operand.tmp 26), type := 32, pos := "l08_store.go:46", after := #[{ on := 5, ground := Ground.data }], guard := none }) (v := ?vs7) rfl (by kernel_rfl) (by kernel_rfl) (by kernel_rfl) (fun _ _ _ h => h) (Or.inl ⟨by rfl, ?hys7⟩) hHeld ?_
      case hys7 => (intro w hSw; (try dsimp only at hSw); go_simp <;> with_reducible rfl)
      try simp only [Act.put, List.setIfInBounds_toArray, List.set_cons_zero, List.set_cons_succ]
      refine wpAnyH_take (i := 7) (oi := { dst := some 27, op := Op.extract (Operand.tmp 20) 0, type := 26, pos := "l08_store.go:46", after := #[{ on := 6, ground := Ground.data }], guard := none }) (v := ?vs8) rfl (by kernel_rfl) (by kernel_rfl) (by kernel_rfl) (fun _ _ _ h => h) (Or.inl ⟨by rfl, ?hys8⟩) hHeld ?_
      case hys8 => (intro w hSw; (try dsimp only at hSw); go_simp <;> with_reducible rfl)
      try simp only [Act.put, List.setIfInBounds_toArray, List.set_cons_zero, List.set_cons_succ]
      refine wpAnyH_take (i := 8) (oi := { dst := some 28, op := Op.extract (Operand.tmp 20) 1, type := 4, pos := "l08_store.go:46", after := #[{ on := 6, ground := Ground.data }, { on := 10, ground := Ground.gcOnly Departure.lateStores }], guard := none }) (v := ?vs9) rfl (by kernel_rfl) (by kernel_rfl) (by kernel_rfl) (fun _ _ _ h => h) (Or.inl ⟨by rfl, ?hys9⟩) hHeld ?_
      case hys9 => (intro w hSw; (try dsimp only at hSw); go_simp <;> with_reducible rfl)
      try simp only [Act.put, List.setIfInBounds_toArray, List.set_cons_zero, List.set_cons_succ]
      refine wpAnyH_ready (rs := [9]) (by kernel_rfl) (by simp) ?_
      refine AllReadyH.cons (o := { dst := some 8, op := Op.alloc 26, type := 0, pos := "l08_store.go:46", after := #[], guard := none }) rfl (fun K hK => ?_) AllReadyH.nil
      go_simp
      clear hHeld
      refine hK.out _ _ (HS.out _ (bel_alloc (ZA.out) _)) (fun hHeld => ?_)
      clear hK K
      try simp only [Act.put, List.setIfInBounds_toArray, List.set_cons_zero, List.set_cons_succ]
      refine wpAnyH_ready (rs := [10]) (by kernel_rfl) (by simp) ?_
      refine AllReadyH.cons (o := { dst := none, op := Op.store 26 (Operand.tmp 8) (Operand.tmp 27), type := 0, pos := "l08_store.go:46", after := #[{ on := 9, ground := Ground.data }, { on := 7, ground := Ground.data }, { on := 5, ground := Ground.chain }, { on := 0, ground := Ground.phase }, { on := 1, ground := Ground.phase }, { on := 2, ground := Ground.phase }, { on := 3, ground := Ground.phase }, { on := 4, ground := Ground.phase }, { on := 5, ground := Ground.phase }, { on := 6, ground := Ground.phase }, { on := 7, ground := Ground.phase }, { on := 8, ground := Ground.textOnly Departure.lateStores }, { on := 9, ground := Ground.phase }], guard := none }) rfl (fun K hK => ?_) AllReadyH.nil
      go_simp
      clear hHeld
      refine hK.out _ _ (HS.out _ (bel_alloc ZA.out _)) (fun hHeld => ?_)
      clear hK K
      try simp only [Act.put, List.setIfInBounds_toArray, List.set_cons_zero, List.set_cons_succ]
      refine wpAnyH_take (i := 11) (oi := { dst := some 9, op := Op.assign (Operand.tmp 28), type := 4, pos := "l08_store.go:46", after := #[{ on := 8, ground := Ground.data }, { on := 10, ground := Ground.chain }, { on := 0, ground := Ground.phase }, { on := 1, ground := Ground.phase }, { on := 2, ground := Ground.phase }, { on := 3, ground := Ground.phase }, { on := 4, ground := Ground.phase }, { on := 5, ground := Ground.phase }, { on := 6, ground := Ground.phase }, { on := 7, ground := Ground.phase }, { on := 8, ground := Ground.phase }, { on := 9, ground := Ground.phase }, { on := 10, ground := Ground.phase }], guard := none }) (v := ?vs12) rfl (by kernel_rfl) (by kernel_rfl) (by kernel_rfl) (fun _ _ _ h => h) (Or.inl ⟨by rfl, ?hys12⟩) hHeld ?_
      case hys12 => (intro w hSw; (try dsimp only at hSw); go_simp <;> with_reducible rfl)
      try simp only [Act.put, List.setIfInBounds_toArray, List.set_cons_zero, List.set_cons_succ]
      refine wpAnyH_done (by kernel_rfl) ?_ _
      go_wp2_with fail
      go_meet
      exact ⟨_, OM, Oc, Oz, rfl, rfl, Blk.new _ _ _, OA.out.1.grow (Go.Joins.below_alloc1 wa _), OA.out.2, ZA.out.size, bel_alloc ZA.out _⟩
    refine AllReadyH.cons (o := { dst := some 8, op := Op.alloc 26, type := 0, pos := "l08_store.go:46", after := #[], guard := none }) rfl (fun K hK => ?_) AllReadyH.nil
    go_simp
    clear hHeld
    refine hK.out _ _ (HS.out _ (bel_alloc ((Below.refl w2.heap.size w2).drew) _)) (fun hHeld => ?_)
    clear hK K
    try simp only [Act.put, List.setIfInBounds_toArray, List.set_cons_zero, List.set_cons_succ]
    refine wpAnyH_ready (rs := [5]) (by kernel_rfl) (by simp) ?_
    refine AllReadyH.cons (o := { dst := some 26, op := Op.call { callee := Callee.value (Operand.func 10), args := #[Operand.tmp 24, Operand.tmp 25], argTypes := #[26, 29] }, type := 32, pos := "l08_store.go:46", after := #[{ on := 3, ground := Ground.data }, { on := 4, ground := Ground.data }], guard := none }) rfl (fun K hK => ?_) AllReadyH.nil
    go_simp
    refine (HPU.out _ (bel_alloc ((Below.refl w2.heap.size w2).drew) _)).mono ?_
    rintro r wa ⟨⟨OM, Oc, Oz, rfl, hA, hP⟩, hy⟩
    have ZA : Hid (Below w2.heap.size w2 wa) := grow_on (bel_alloc ((Below.refl w2.heap.size w2).drew) _) hy
    have OA : Hid (CB w2.heap.size wa OM Oc Oz ∧ chs Oz = putC (nthT S k).C x) := ⟨hA.down (bel_alloc ((Below.refl w2.heap.size w2).drew) _).size, hP⟩
    have NB : Hid (Blk wa w2.heap.size #[.int .i64 0, .int .i64 0, .slice none 0 0] 26) := (Blk.new w2.drew _ _).grow hy
    clear hA hP hy
    try dsimp only
    clear hHeld
    refine hK.out _ _ (HS.out _ (ZA.out)) (fun hHeld => ?_)
    clear hK K
    try simp only [Act.put, List.setIfInBounds_toArray, List.set_cons_zero, List.set_cons_succ]
    refine wpAnyH_take (i := 6) (oi := { dst := some 20, op := Op.move (Operand.tmp 26), type := 32, pos := "l08_store.go:46", after := #[{ on := 5, ground := Ground.data }], guard := none }) (v := ?vs15) rfl (by kernel_rfl) (by kernel_rfl) (by kernel_rfl) (fun _ _ _ h => h) (Or.inl ⟨by rfl, ?hys15⟩) hHeld ?_
    case hys15 => (intro w hSw; (try dsimp only at hSw); go_simp <;> with_reducible rfl)
    try simp only [Act.put, List.setIfInBounds_toArray, List.set_cons_zero, List.set_cons_succ]
    refine wpAnyH_take (i := 7) (oi := { dst := some 27, op := Op.extract (Operand.tmp 20) 0, type := 26, pos := "l08_store.go:46", after := #[{ on := 6, ground := Ground.data }], guard := none }) (v := ?vs16) rfl (by kernel_rfl) (by kernel_rfl) (by kernel_rfl) (fun _ _ _ h => h) (Or.inl ⟨by rfl, ?hys16⟩) hHeld ?_
    case hys16 => (intro w hSw; (try dsimp only at hSw); go_simp <;> with_reducible rfl)
    try simp only [Act.put, List.setIfInBounds_toArray, List.set_cons_zero, List.set_cons_succ]
    refine wpAnyH_take (i := 8) (oi := { dst := some 28, op := Op.extract (Operand.tmp 20) 1, type := 4, pos := "l08_store.go:46", after := #[{ on := 6, ground := Ground.data }, { on := 10, ground := Ground.gcOnly Departure.lateStores }], guard := none }) (v := ?vs17) rfl (by kernel_rfl) (by kernel_rfl) (by kernel_rfl) (fun _ _ _ h => h) (Or.inl ⟨by rfl, ?hys17⟩) hHeld ?_
    case hys17 => (intro w hSw; (try dsimp only at hSw); go_simp <;> with_reducible rfl)
    try simp only [Act.put, List.setIfInBounds_toArray, List.set_cons_zero, List.set_cons_succ]
    refine wpAnyH_ready (rs := [10]) (by kernel_rfl) (by simp) ?_
    refine AllReadyH.cons (o := { dst := none, op := Op.store 26 (Operand.tmp 8) (Operand.tmp 27), type := 0, pos := "l08_store.go:46", after := #[{ on := 9, ground := Ground.data }, { on := 7, ground := Ground.data }, { on := 5, ground := Ground.chain }, { on := 0, ground := Ground.phase }, { on := 1, ground := Ground.phase }, { on := 2, ground := Ground.phase }, { on := 3, ground := Ground.phase }, { on := 4, ground := Ground.phase }, { on := 5, ground := Ground.phase }, { on := 6, ground := Ground.phase }, { on := 7, ground := Ground.phase }, { on := 8, ground := Ground.textOnly Departure.lateStores }, { on := 9, ground := Ground.phase }], guard := none }) rfl (fun K hK => ?_) AllReadyH.nil
    have n0 : wa.cell? ⟨w2.heap.size, 0, none⟩ = some (.int .i64 0) := NB.out.cell 0
    have n1 : wa.cell? ⟨w2.heap.size, 1, none⟩ = some (.int .i64 0) := NB.out.cell 1
    have n2 : wa.cell? ⟨w2.heap.size, 2, none⟩ = some (.slice none 0 0) := NB.out.cell 2
    have m0 := NB.out.frozen 0
    have m1 := NB.out.frozen 1
    have m2 := NB.out.frozen 2
    go_simp
    clear n0 n1 n2 m0 m1 m2 hHeld
    have hz : Below w2.heap.size w2 (((wa.setCell ⟨w2.heap.size, 0, none⟩ (.int .i64 (nthT S k).hd)).setCell ⟨w2.heap.size, 1, none⟩ (.int .i64 vu)).setCell ⟨w2.heap.size, 2, none⟩ (.slice (some ⟨OM, 0, none⟩) Oz.length Oc)) := set3 ZA.out (Nat.le_refl _) _ _ _
    refine hK.out _ _ (HS.out _ hz) (fun hHeld => ?_)
    clear hK K hz
    try simp only [Act.put, List.setIfInBounds_toArray, List.set_cons_zero, List.set_cons_succ]
    refine wpAnyH_take (i := 11) (oi := { dst := some 9, op := Op.assign (Operand.tmp 28), type := 4, pos := "l08_store.go:46", after := #[{ on := 8, ground := Ground.data }, { on := 10, ground := Ground.chain }, { on := 0, ground := Ground.phase }, { on := 1, ground := Ground.phase }, { on := 2, ground := Ground.phase }, { on := 3, ground := Ground.phase }, { on := 4, ground := Ground.phase }, { on := 5, ground := Ground.phase }, { on := 6, ground := Ground.phase }, { on := 7, ground := Ground.phase }, { on := 8, ground := Ground.phase }, { on := 9, ground := Ground.phase }, { on := 10, ground := Ground.phase }], guard := none }) (v := ?vs19) rfl (by kernel_rfl) (by kernel_rfl) (by kernel_rfl) (fun _ _ _ h => h) (Or.inl ⟨by rfl, ?hys19⟩) hHeld ?_
    case hys19 => (intro w hSw; (try dsimp only at hSw); go_simp <;> with_reducible rfl)
    try simp only [Act.put, List.setIfInBounds_toArray, List.set_cons_zero, List.set_cons_succ]
    refine wpAnyH_done (by kernel_rfl) ?_ _
    go_wp2_with fail
    go_meet
    exact ⟨_, OM, Oc, Oz, rfl, rfl, put3 NB.out _ _ _, CB.set3 OA.out.1 NB.out _ _ _, OA.out.2, Nat.le_refl _, set3 ZA.out (Nat.le_refl _) _ _ _⟩
  case rest =>
    obtain ⟨N, M, cN, cs, rfl, rfl, hN, hC, hch, hlt, hb3⟩ := hcut
    obtain ⟨w3, hwc⟩ : ∃ y, y = wc := ⟨_, rfl⟩
    subst hwc
    have HO3 : Hid (PB w.heap.size w3 Mo co ps) := HO2.out.grow hb3
    have HN3 : Hid (Blk w3 N #[.int .i64 (nthT S k).hd, .int .i64 vu, .slice (some ⟨M, 0, none⟩) cs.length cN] 26) := hN
    have HC3 : Hid (CB w2.heap.size w3 M cN cs ∧ chs cs = putC (nthT S k).C x) := ⟨hC, hch⟩
    have HB3 : Hid (Below w.heap.size w w3) := grow_on HB2.out hb3
    have hkp : k < ps.length := by rw [HL.out]; exact hk
    have HF : Hid (PB w.heap.size (put3W w3 Mo k (⟨(nthT S k).hd, vu, some ⟨M, 0, none⟩, cN, cs⟩ : PRow)) Mo co (ps.set k (⟨(nthT S k).hd, vu, some ⟨M, 0, none⟩, cN, cs⟩ : PRow)) ∧ pts (ps.set k (⟨(nthT S k).hd, vu, some ⟨M, 0, none⟩, cN, cs⟩ : PRow)) = putS S x ∧ Own8 (ps.set k (⟨(nthT S k).hd, vu, some ⟨M, 0, none⟩, cN, cs⟩ : PRow))) := by
      refine ⟨HO3.out.put hkp (PO.of (hC.down HB2.out.size)), ?_, HO1.out.2.2.put ⟨M, rfl⟩ (fresh8 (x := (⟨(nthT S k).hd, vu, some ⟨M, 0, none⟩, cN, cs⟩ : PRow)) HO2.out.rows (PO.of hC) (Nat.le_refl _))⟩
      rw [pts_set, HO1.out.2.1, HK.out.1]
      congr 1
      show (⟨(nthT S k).hd, vu, chs cs⟩ : PPt) = _
      unfold putT
      rw [HVU.out.2, hch]
    have HF0 := HF.out
    unfold put3W at HF0
    dsimp only at HF0
    have HF2 : Hid _ := HF0
    have HBf := put3W_low (x := (⟨(nthT S k).hd, vu, some ⟨M, 0, none⟩, cN, cs⟩ : PRow)) (k := k) HB3.out HO3.out.at'
    unfold put3W at HBf
    dsimp only at HBf
    have HBF : Hid _ := HBf
    clear HF0 HBf HF
    have n0 : w3.cell? ⟨N, 0, none⟩ = some (.int .i64 (nthT S k).hd) := hN.cell 0
    have n1 : w3.cell? ⟨N, 1, none⟩ = some (.int .i64 vu) := hN.cell 1
    have n2 : w3.cell? ⟨N, 2, none⟩ = some (.slice (some ⟨M, 0, none⟩) cs.length cN) := hN.cell 2
    obtain ⟨cur, hcu, hcs, hc3⟩ := HO3.out.outer
    have hcap := HO3.out.cap
    obtain ⟨v0, q0⟩ : ∃ v, w3.cell? ⟨Mo, k * 3, none⟩ = some v := ⟨cur[k * 3]'(by omega), by rw [hcu.cell]; simp⟩
    obtain ⟨v1, q1⟩ : ∃ v, w3.cell? ⟨Mo, k * 3 + 1, none⟩ = some v := ⟨cur[k * 3 + 1]'(by omega), by rw [hcu.cell]; simp⟩
    obtain ⟨v2, q2⟩ : ∃ v, w3.cell? ⟨Mo, k * 3 + 2, none⟩ = some v := ⟨cur[k * 3 + 2]'(by omega), by rw [hcu.cell]; simp⟩
    have f0 := hcu.frozen (k * 3)
    have f1 := hcu.frozen (k * 3 + 1)
    have f2 := hcu.frozen (k * 3 + 2)
    have HMl : Hid (w.heap.size ≤ Mo) := HO3.out.at'
    clear hN hC hch hlt hb3 hcu hcs hc3 hcap HS HPU
    go_wp2
    go_ret2
    refine ⟨⟨Mo, co, ?_, ps.set k (⟨(nthT S k).hd, vu, some ⟨M, 0, none⟩, cN, cs⟩ : PRow), HF2.out⟩, HBF.out⟩
    rw [HK.out.2, HVU.out.1]
    rfl
set_option maxRecDepth 100000 in
set_option maxHeartbeats 6400000 in
theorem implPutA_any (a : Option Addr) (cap : Nat) (S : List PPt) (g o cap' : Nat) (x : PAl) (w : World) (hr : RdS RdA w a S) (hx : Reads w (some ⟨g, o, none⟩) x.l) (hl : S.length ≤ 1048576) (hs : sumT S ≤ 1048576) (hxl : x.l.length ≤ 1048576) (hxf : LabT.Fits x.l) :
    Calls Tryz.prog 30 #[.slice a S.length cap, .agg #[.slice (some ⟨g, o, none⟩) x.l.length cap', .int .i64 x.s, .int .i64 x.e, .string x.n]] w fun e w' => (∃ M c, e = .returned (.tuple #[.slice (some ⟨M, 0, none⟩) S.length c, .bool (freshS S x)]) ∧ ∃ ps, PB w.heap.size w' M c ps ∧ pts ps = putS S x ∧ Own8 ps) ∧ Below w.heap.size w w' := by
  have HR : Hid (RdS RdA w a S ∧ Reads w (some ⟨g, o, none⟩) x.l ∧ sumT S ≤ 1048576 ∧ LabT.Fits x.l) := ⟨hr, hx, hs, hxf⟩
  clear hr hx hs hxf
  go_enter Tryz.func30, Tryz.ntmps30
  go_upto_region 1 with fail
  obtain ⟨W0, hW0⟩ : ∃ W0, w.alloc (.cells #[.slice (some ⟨g, o, none⟩) x.l.length cap', .int .i64 x.s, .int .i64 x.e, .string x.n] 29) = W0 := ⟨_, rfl⟩
  have HW0 : Hid (Below w.heap.size w W0 ∧ Blk W0 w.heap.size #[.slice (some ⟨g, o, none⟩) x.l.length cap', .int .i64 x.s, .int .i64 x.e, .string x.n] 29) := by
    rw [← hW0]
    exact ⟨Go.Joins.below_alloc1 w _, Blk.new _ _ _⟩
  rw [hW0]
  clear hW0
  go_wp2_with fail
  refine (copiedParts_any a cap S W0 (HR.out.1.below stays_rd HW0.out.1) hl HR.out.2.2.1).mono ?_
  rintro e w1 ⟨rfl, ⟨ps, hO, hP, hO8⟩, hb1⟩
  obtain ⟨Mo, hMo⟩ : ∃ Mo, W0.heap.size = Mo := ⟨_, rfl⟩
  have HMo : Hid (W0.heap.size = Mo) := hMo
  rw [hMo] at hO
  obtain ⟨co, hco⟩ : ∃ co, S.length = co := ⟨_, rfl⟩
  have hO' : PB w.heap.size w1 Mo S.length ps := hO.down (by rw [← hMo]; exact HW0.out.1.size)
  rw [hMo]
  have HO1 : Hid (PB w.heap.size w1 Mo S.length ps ∧ pts ps = S ∧ Own8 ps) := ⟨hO', hP, hO8⟩
  have HL : Hid (ps.length = S.length) := by show _ = _; rw [← pts_len, hP]
  have HB1 : Hid (Below W0.heap.size W0 w1) := hb1
  have HX1 : Hid (Blk w1 w.heap.size #[.slice (some ⟨g, o, none⟩) x.l.length cap', .int .i64 x.s, .int .i64 x.e, .string x.n] 29) := HW0.out.2.grow hb1
  clear hO hP hO8 hb1 hMo hO' hco
  by_cases hne : S.length = 0
  · have HE := putS_0 (x := x) hne
    have HE2 : Hid (putS S x = S ∧ freshS S x = false) := HE
    clear HE
    have c0 : w1.cell? ⟨w.heap.size, 0, none⟩ = some (.slice (some ⟨g, o, none⟩) x.l.length cap') := HX1.out.cell 0
    have HH := homeNone_any (some ⟨Mo, 0, none⟩) (some ⟨g, o, none⟩) 0 cap' x.l w1
    have HH2 : Hid (Calls Tryz.prog 98 #[.slice (some ⟨Mo, 0, none⟩) S.length S.length, .slice (some ⟨g, o, none⟩) x.l.length cap'] w1 fun e w' => e = .returned (.pointer none) ∧ w' = w1) := by
      have h := HH
      rw [hne]
      exact h
    clear HH hne
    go_wp2_with fail
    refine HH2.out.mono ?_
    rintro e w2 ⟨rfl, rfl⟩
    clear HH2
    go_wp2
    go_ret2
    exact ⟨⟨Mo, S.length, retPA rfl HE2.out.2.symm, ps, HO1.out.1, by rw [HE2.out.1]; exact HO1.out.2.1, HO1.out.2.2⟩, grow_on HW0.out.1 HB1.out⟩
  obtain ⟨k, hkk⟩ : ∃ k, homeN S.length x.l = k := ⟨_, rfl⟩
  have HK : Hid (putS S x = S.set k (putT (nthT S k) x) ∧ freshS S x = newC (nthT S k).C x) := putS_1 hne hkk
  have hk : k < S.length := by rw [← hkk]; exact home_lt (by omega)
  have hk' : (k : Int) < (S.length : Int) := by omega
  have hne2 : ((S.length : Int) == 0) = false := by rw [beq_eq_false_iff_ne]; omega
  have c0 : w1.cell? ⟨w.heap.size, 0, none⟩ = some (.slice (some ⟨g, o, none⟩) x.l.length cap') := HX1.out.cell 0
  have HH : Hid (Calls Tryz.prog 98 #[.slice (some ⟨Mo, 0, none⟩) S.length S.length, .slice (some ⟨g, o, none⟩) x.l.length cap'] w1 fun e w' => e = .returned (.pointer (some ⟨Mo, k * 3, none⟩)) ∧ Below w1.heap.size w1 w') := by
    have h := homePart_any Mo 0 S.length S.length cap' (some ⟨g, o, none⟩) x.l w1 (by omega) (HR.out.2.1.below (grow_on HW0.out.1 HB1.out)) (by unfold maxLen; omega) (by unfold maxLen; omega) HR.out.2.2.2
    rw [hkk, Nat.zero_add] at h
    exact h
  clear hkk
  go_wp2_with fail
  refine HH.out.mono ?_
  rintro e w2 ⟨rfl, hb2⟩
  have HO2 : Hid (PB w.heap.size w2 Mo S.length ps) := HO1.out.1.grow hb2
  have HB2 : Hid (Below w.heap.size w w2) := grow_on (grow_on HW0.out.1 HB1.out) hb2
  have HX2 : Hid (Blk w2 w.heap.size #[.slice (some ⟨g, o, none⟩) x.l.length cap', .int .i64 x.s, .int .i64 x.e, .string x.n] 29) := HX1.out.grow hb2
  clear hb2 HH c0 HX1
  have hkp : k < ps.length := by rw [HL.out]; exact hk
  have hrd := HO2.out.rd
  rw [HO1.out.2.1] at hrd
  obtain ⟨b, off, ea, hb, ad, cp, hat⟩ := hrd.get hk
  have e1 : Mo = b ∧ 0 = off := by injection ea with ea; injection ea with h1 h2; exact ⟨h1, h2⟩
  obtain ⟨rfl, rfl⟩ := e1
  clear ea hrd
  have q0 : w2.cell? ⟨Mo, k * 3, none⟩ = some (.int .i64 (nthT S k).hd) := by have := hat.c0; simpa using this
  have q1 : w2.cell? ⟨Mo, k * 3 + 1, none⟩ = some (.int .i64 (nthT S k).vr) := by have := hat.c1; simpa using this
  have q2 : w2.cell? ⟨Mo, k * 3 + 2, none⟩ = some (.slice ad (nthT S k).C.length cp) := by have := hat.c2; simpa using this
  have HA : Hid (RdG RdA w2 ad (nthT S k).C) := hat.reads
  have HSm : Hid ((nthT S k).C.length ≤ 1048576 ∧ PrtO.Small (nthT S k).C ∧ (nthT S k).C.length + sumC (nthT S k).C ≤ 1048576) := by have h0 := sumT_nth hk; have h1 := HR.out.2.2.1; exact ⟨by omega, small_of (by omega), by omega⟩
  obtain ⟨nu, hnu⟩ : ∃ b, newC (nthT S k).C x = b := ⟨_, rfl⟩
  obtain ⟨vu, hvu⟩ : ∃ v, IntKind.i64.wrap ((nthT S k).vr + 1) = v := ⟨_, rfl⟩
  have HVU : Hid (newC (nthT S k).C x = nu ∧ IntKind.i64.wrap ((nthT S k).vr + 1) = vu) := ⟨hnu, hvu⟩
  have HPU : Hid (∀ z, Below w2.heap.size w2 z → Calls Tryz.prog 9 #[.agg #[.int .i64 (nthT S k).hd, .int .i64 (nthT S k).vr, .slice ad (nthT S k).C.length cp], .agg #[.slice (some ⟨g, o, none⟩) x.l.length cap', .int .i64 x.s, .int .i64 x.e, .string x.n]] z fun e w' => (∃ M c cs, e = .returned (.tuple #[.agg #[.int .i64 (nthT S k).hd, .int .i64 vu, .slice (some ⟨M, 0, none⟩) cs.length c], .bool nu]) ∧ CB z.heap.size w' M c cs ∧ chs cs = putC (nthT S k).C x) ∧ Below z.heap.size z w') := fun z hz => by
    have h := PrtZ.implPut_any (nthT S k).hd (nthT S k).vr ad cp (nthT S k).C g o cap' x z (HA.out.below stays_rd hz) (HR.out.2.1.below (grow_on HB2.out hz)) HSm.out.1 HSm.out.2.1 HSm.out.2.2 hxl HR.out.2.2.2
    rw [hnu, hvu] at h
    exact h
  clear hat hnu hvu
  have hbw : Mo < w2.heap.size := hb
  have HS : Hid (∀ w', Below w2.heap.size w2 w' → w'.cell? ⟨Mo, k * 3, none⟩ = some (.int .i64 (nthT S k).hd) ∧ w'.cell? ⟨Mo, k * 3 + 1, none⟩ = some (.int .i64 (nthT S k).vr) ∧ w'.cell? ⟨Mo, k * 3 + 2, none⟩ = some (.slice ad (nthT S k).C.length cp) ∧ w'.cell? ⟨w.heap.size, 0, none⟩ = some (.slice (some ⟨g, o, none⟩) x.l.length cap') ∧ w'.cell? ⟨w.heap.size, 1, none⟩ = some (.int .i64 x.s) ∧ w'.cell? ⟨w.heap.size, 2, none⟩ = some (.int .i64 x.e) ∧ w'.cell? ⟨w.heap.size, 3, none⟩ = some (.string x.n)) := fun w' h => ⟨(h.cell hbw).trans q0, (h.cell hbw).trans q1, (h.cell hbw).trans q2, (h.cell HX2.out.lt).trans (HX2.out.cell 0), (h.cell HX2.out.lt).trans (HX2.out.cell 1), (h.cell HX2.out.lt).trans (HX2.out.cell 2), (h.cell HX2.out.lt).trans (HX2.out.cell 3)⟩
  clear q0 q1 q2
  go_upto_region 5 with fail
  go_cut [8, 9] from 10 (fun s8 s9 wx => ∃ (N M c : Nat) (cs : List CRow), s8 = .pointer (some ⟨N, 0, none⟩) ∧ s9 = .bool nu ∧ Blk wx N #[.int .i64 (nthT S k).hd, .int .i64 vu, .slice (some ⟨M, 0, none⟩) cs.length c] 26 ∧ CB w2.heap.size wx M c cs ∧ chs cs = putC (nthT S k).C x ∧ w2.heap.size ≤ N ∧ Below w2.heap.size w2 wx)
  case first =>
    refine wp_region_held_drew (S := fun w' => w'.cell? ⟨Mo, k * 3, none⟩ = some (.int .i64 (nthT S k).hd) ∧ w'.cell? ⟨Mo, k * 3 + 1, none⟩ = some (.int .i64 (nthT S k).vr) ∧ w'.cell? ⟨Mo, k * 3 + 2, none⟩ = some (.slice ad (nthT S k).C.length cp) ∧ w'.cell? ⟨w.heap.size, 0, none⟩ = some (.slice (some ⟨g, o, none⟩) x.l.length cap') ∧ w'.cell? ⟨w.heap.size, 1, none⟩ = some (.int .i64 x.s) ∧ w'.cell? ⟨w.heap.size, 2, none⟩ = some (.int .i64 x.e) ∧ w'.cell? ⟨w.heap.size, 3, none⟩ = some (.string x.n)) (by kernel_rfl) (HS.out _ (Below.refl _ _).drew) (fun hHeld => ?_)
    refine wpAnyH_take (i := 0) (oi := { dst := some 20, op := Op.move (Operand.tmp 7), type := 123, pos := "l08_store.go:62", after := #[], guard := none }) (v := ?vi1) rfl (by kernel_rfl) (by kernel_rfl) (by kernel_rfl) (fun _ _ _ h => h) (Or.inl ⟨by rfl, ?hyi1⟩) hHeld ?_
    case hyi1 => (intro w hSw; (try dsimp only at hSw); go_simp <;> with_reducible rfl)
    try simp only [Act.put, List.setIfInBounds_toArray, List.set_cons_zero, List.set_cons_succ]
    refine wpAnyH_take (i := 1) (oi := { dst := some 21, op := Op.nilCheck (Operand.tmp 20), type := 0, pos := "l08_store.go:62", after := #[{ on := 0, ground := Ground.data }], guard := none }) (v := ?vi2) rfl (by kernel_rfl) (by kernel_rfl) (by kernel_rfl) (fun _ _ _ h => h) (Or.inl ⟨by rfl, ?hyi2⟩) hHeld ?_
    case hyi2 => (intro w hSw; (try dsimp only at hSw); go_simp <;> with_reducible rfl)
    try simp only [Act.put, List.setIfInBounds_toArray, List.set_cons_zero, List.set_cons_succ]
    refine wpAnyH_take (i := 2) (oi := { dst := some 22, op := Op.load 26 (Operand.tmp 21), type := 26, pos := "l08_store.go:62", after := #[{ on := 1, ground := Ground.data }], guard := none }) (v := ?vi3) rfl (by kernel_rfl) (by kernel_rfl) (by kernel_rfl) (fun _ _ _ h => h) (Or.inl ⟨by rfl, ?hyi3⟩) hHeld ?_
    case hyi3 => (intro w hSw; (try dsimp only at hSw); go_simp <;> with_reducible rfl)
    try simp only [Act.put, List.setIfInBounds_toArray, List.set_cons_zero, List.set_cons_succ]
    refine wpAnyH_take (i := 3) (oi := { dst := some 23, op := Op.load 29 (Operand.tmp 3), type := 29, pos := "l08_store.go:62", after := #[], guard := none }) (v := ?vi4) rfl (by kernel_rfl) (by kernel_rfl) (by kernel_rfl) (fun _ _ _ h => h) (Or.inl ⟨by rfl, ?hyi4⟩) hHeld ?_
    case hyi4 => (intro w hSw; (try dsimp only at hSw); go_simp <;> with_reducible rfl)
    try simp only [Act.put, List.setIfInBounds_toArray, List.set_cons_zero, List.set_cons_succ]
    refine wpAnyH_ready (rs := [4, 8]) (by kernel_rfl) (by simp) ?_
    refine AllReadyH.cons (o := { dst := some 24, op := Op.call { callee := Callee.value (Operand.func 9), args := #[Operand.tmp 22, Operand.tmp 23], argTypes := #[26, 29] }, type := 32, pos := "l08_store.go:62", after := #[{ on := 2, ground := Ground.data }, { on := 3, ground := Ground.data }], guard := none }) rfl (fun K hK => ?_) ?_
    ·
      go_simp
      refine (HPU.out _ ((Below.refl w2.heap.size w2).drew)).mono ?_
      rintro r wa ⟨⟨OM, Oc, Oz, rfl, hA, hP⟩, hy⟩
      have ZA : Hid (Below w2.heap.size w2 wa) := grow_on ((Below.refl w2.heap.size w2).drew) hy
      have OA : Hid (CB w2.heap.size wa OM Oc Oz ∧ chs Oz = putC (nthT S k).C x) := ⟨hA.down ((Below.refl w2.heap.size w2).drew).size, hP⟩
      clear hA hP hy
      try dsimp only
      clear hHeld
      refine hK.out _ _ (HS.out _ (ZA.out)) (fun hHeld => ?_)
      clear hK K
      try simp only [Act.put, List.setIfInBounds_toArray, List.set_cons_zero, List.set_cons_succ]
      refine wpAnyH_take (i := 5) (oi := { dst := some 19, op := Op.move (Operand.tmp 24), type := 32, pos := "l08_store.go:62", after := #[{ on := 4, ground := Ground.data }], guard := none }) (v := ?vi6) rfl (by kernel_rfl) (by kernel_rfl) (by kernel_rfl) (fun _ _ _ h => h) (Or.inl ⟨by rfl, ?hyi6⟩) hHeld ?_
      case hyi6 => (intro w hSw; (try dsimp only at hSw); go_simp <;> with_reducible rfl)
      try simp only [Act.put, List.setIfInBounds_toArray, List.set_cons_zero, List.set_cons_succ]
      refine wpAnyH_take (i := 6) (oi := { dst := some 25, op := Op.extract (Operand.tmp 19) 0, type := 26, pos := "l08_store.go:62", after := #[{ on := 5, ground := Ground.data }], guard := none }) (v := ?vi7) rfl (by kernel_rfl) (by kernel_rfl) (by kernel_rfl) (fun _ _ _ h => h) (Or.inl ⟨by rfl, ?hyi7⟩) hHeld ?_
      case hyi7 => (intro w hSw; (try dsimp only at hSw); go_simp <;> with_reducible rfl)
      try simp only [Act.put, List.setIfInBounds_toArray, List.set_cons_zero, List.set_cons_succ]
      refine wpAnyH_take (i := 7) (oi := { dst := some 26, op := Op.extract (Operand.tmp 19) 1, type := 4, pos := "l08_store.go:62", after := #[{ on := 5, ground := Ground.data }, { on := 9, ground := Ground.gcOnly Departure.lateStores }], guard := none }) (v := ?vi8) rfl (by kernel_rfl) (by kernel_rfl) (by kernel_rfl) (fun _ _ _ h => h) (Or.inl ⟨by rfl, ?hyi8⟩) hHeld ?_
      case hyi8 => (intro w hSw; (try dsimp only at hSw); go_simp <;> with_reducible rfl)
      try simp only [Act.put, List.setIfInBounds_toArray, List.set_cons_zero, List.set_cons_succ]
      refine wpAnyH_ready (rs := [8]) (by kernel_rfl) (by simp) ?_
      refine AllReadyH.cons (o := { dst := some 8, op := Op.alloc 26, type := 0, pos := "l08_store.go:62", after := #[], guard := none }) rfl (fun K hK => ?_) AllReadyH.nil
      go_simp
      clear hHeld
      refine hK.out _ _ (HS.out _ (bel_alloc (ZA.out) _)) (fun hHeld => ?_)
      clear hK K
      try simp only [Act.put, List.setIfInBounds_toArray, List.set_cons_zero, List.set_cons_succ]
      refine wpAnyH_ready (rs := [9]) (by kernel_rfl) (by simp) ?_
      refine AllReadyH.cons (o := { dst := none, op := Op.store 26 (Operand.tmp 8) (Operand.tmp 25), type := 0, pos := "l08_store.go:62", after := #[{ on := 8, ground := Ground.data }, { on := 6, ground := Ground.data }, { on := 4, ground := Ground.chain }, { on := 0, ground := Ground.phase }, { on := 1, ground := Ground.phase }, { on := 2, ground := Ground.phase }, { on := 3, ground := Ground.phase }, { on := 4, ground := Ground.phase }, { on := 5, ground := Ground.phase }, { on := 6, ground := Ground.phase }, { on := 7, ground := Ground.textOnly Departure.lateStores }, { on := 8, ground := Ground.phase }], guard := none }) rfl (fun K hK => ?_) AllReadyH.nil
      go_simp
      clear hHeld
      refine hK.out _ _ (HS.out _ (bel_alloc ZA.out _)) (fun hHeld => ?_)
      clear hK K
      try simp only [Act.put, List.setIfInBounds_toArray, List.set_cons_zero, List.set_cons_succ]
      refine wpAnyH_take (i := 10) (oi := { dst := some 9, op := Op.assign (Operand.tmp 26), type := 4, pos := "l08_store.go:62", after := #[{ on := 7, ground := Ground.data }, { on := 9, ground := Ground.chain }, { on := 0, ground := Ground.phase }, { on := 1, ground := Ground.phase }, { on := 2, ground := Ground.phase }, { on := 3, ground := Ground.phase }, { on := 4, ground := Ground.phase }, { on := 5, ground := Ground.phase }, { on := 6, ground := Ground.phase }, { on := 7, ground := Ground.phase }, { on := 8, ground := Ground.phase }, { on := 9, ground := Ground.phase }], guard := none }) (v := ?vi11) rfl (by kernel_rfl) (by kernel_rfl) (by kernel_rfl) (fun _ _ _ h => h) (Or.inl ⟨by rfl, ?hyi11⟩) hHeld ?_
      case hyi11 => (intro w hSw; (try dsimp only at hSw); go_simp <;> with_reducible rfl)
      try simp only [Act.put, List.setIfInBounds_toArray, List.set_cons_zero, List.set_cons_succ]
      refine wpAnyH_done (by kernel_rfl) ?_ _
      go_wp2_with fail
      go_meet
      exact ⟨_, OM, Oc, Oz, rfl, rfl, Blk.new _ _ _, OA.out.1.grow (Go.Joins.below_alloc1 wa _), OA.out.2, ZA.out.size, bel_alloc ZA.out _⟩
    refine AllReadyH.cons (o := { dst := some 8, op := Op.alloc 26, type := 0, pos := "l08_store.go:62", after := #[], guard := none }) rfl (fun K hK => ?_) AllReadyH.nil
    go_simp
    clear hHeld
    refine hK.out _ _ (HS.out _ (bel_alloc ((Below.refl w2.heap.size w2).drew) _)) (fun hHeld => ?_)
    clear hK K
    try simp only [Act.put, List.setIfInBounds_toArray, List.set_cons_zero, List.set_cons_succ]
    refine wpAnyH_ready (rs := [4]) (by kernel_rfl) (by simp) ?_
    refine AllReadyH.cons (o := { dst := some 24, op := Op.call { callee := Callee.value (Operand.func 9), args := #[Operand.tmp 22, Operand.tmp 23], argTypes := #[26, 29] }, type := 32, pos := "l08_store.go:62", after := #[{ on := 2, ground := Ground.data }, { on := 3, ground := Ground.data }], guard := none }) rfl (fun K hK => ?_) AllReadyH.nil
    go_simp
    refine (HPU.out _ (bel_alloc ((Below.refl w2.heap.size w2).drew) _)).mono ?_
    rintro r wa ⟨⟨OM, Oc, Oz, rfl, hA, hP⟩, hy⟩
    have ZA : Hid (Below w2.heap.size w2 wa) := grow_on (bel_alloc ((Below.refl w2.heap.size w2).drew) _) hy
    have OA : Hid (CB w2.heap.size wa OM Oc Oz ∧ chs Oz = putC (nthT S k).C x) := ⟨hA.down (bel_alloc ((Below.refl w2.heap.size w2).drew) _).size, hP⟩
    have NB : Hid (Blk wa w2.heap.size #[.int .i64 0, .int .i64 0, .slice none 0 0] 26) := (Blk.new w2.drew _ _).grow hy
    clear hA hP hy
    try dsimp only
    clear hHeld
    refine hK.out _ _ (HS.out _ (ZA.out)) (fun hHeld => ?_)
    clear hK K
    try simp only [Act.put, List.setIfInBounds_toArray, List.set_cons_zero, List.set_cons_succ]
    refine wpAnyH_take (i := 5) (oi := { dst := some 19, op := Op.move (Operand.tmp 24), type := 32, pos := "l08_store.go:62", after := #[{ on := 4, ground := Ground.data }], guard := none }) (v := ?vi14) rfl (by kernel_rfl) (by kernel_rfl) (by kernel_rfl) (fun _ _ _ h => h) (Or.inl ⟨by rfl, ?hyi14⟩) hHeld ?_
    case hyi14 => (intro w hSw; (try dsimp only at hSw); go_simp <;> with_reducible rfl)
    try simp only [Act.put, List.setIfInBounds_toArray, List.set_cons_zero, List.set_cons_succ]
    refine wpAnyH_take (i := 6) (oi := { dst := some 25, op := Op.extract (Operand.tmp 19) 0, type := 26, pos := "l08_store.go:62", after := #[{ on := 5, ground := Ground.data }], guard := none }) (v := ?vi15) rfl (by kernel_rfl) (by kernel_rfl) (by kernel_rfl) (fun _ _ _ h => h) (Or.inl ⟨by rfl, ?hyi15⟩) hHeld ?_
    case hyi15 => (intro w hSw; (try dsimp only at hSw); go_simp <;> with_reducible rfl)
    try simp only [Act.put, List.setIfInBounds_toArray, List.set_cons_zero, List.set_cons_succ]
    refine wpAnyH_take (i := 7) (oi := { dst := some 26, op := Op.extract (Operand.tmp 19) 1, type := 4, pos := "l08_store.go:62", after := #[{ on := 5, ground := Ground.data }, { on := 9, ground := Ground.gcOnly Departure.lateStores }], guard := none }) (v := ?vi16) rfl (by kernel_rfl) (by kernel_rfl) (by kernel_rfl) (fun _ _ _ h => h) (Or.inl ⟨by rfl, ?hyi16⟩) hHeld ?_
    case hyi16 => (intro w hSw; (try dsimp only at hSw); go_simp <;> with_reducible rfl)
    try simp only [Act.put, List.setIfInBounds_toArray, List.set_cons_zero, List.set_cons_succ]
    refine wpAnyH_ready (rs := [9]) (by kernel_rfl) (by simp) ?_
    refine AllReadyH.cons (o := { dst := none, op := Op.store 26 (Operand.tmp 8) (Operand.tmp 25), type := 0, pos := "l08_store.go:62", after := #[{ on := 8, ground := Ground.data }, { on := 6, ground := Ground.data }, { on := 4, ground := Ground.chain }, { on := 0, ground := Ground.phase }, { on := 1, ground := Ground.phase }, { on := 2, ground := Ground.phase }, { on := 3, ground := Ground.phase }, { on := 4, ground := Ground.phase }, { on := 5, ground := Ground.phase }, { on := 6, ground := Ground.phase }, { on := 7, ground := Ground.textOnly Departure.lateStores }, { on := 8, ground := Ground.phase }], guard := none }) rfl (fun K hK => ?_) AllReadyH.nil
    have n0 : wa.cell? ⟨w2.heap.size, 0, none⟩ = some (.int .i64 0) := NB.out.cell 0
    have n1 : wa.cell? ⟨w2.heap.size, 1, none⟩ = some (.int .i64 0) := NB.out.cell 1
    have n2 : wa.cell? ⟨w2.heap.size, 2, none⟩ = some (.slice none 0 0) := NB.out.cell 2
    have m0 := NB.out.frozen 0
    have m1 := NB.out.frozen 1
    have m2 := NB.out.frozen 2
    go_simp
    clear n0 n1 n2 m0 m1 m2 hHeld
    have hz : Below w2.heap.size w2 (((wa.setCell ⟨w2.heap.size, 0, none⟩ (.int .i64 (nthT S k).hd)).setCell ⟨w2.heap.size, 1, none⟩ (.int .i64 vu)).setCell ⟨w2.heap.size, 2, none⟩ (.slice (some ⟨OM, 0, none⟩) Oz.length Oc)) := set3 ZA.out (Nat.le_refl _) _ _ _
    refine hK.out _ _ (HS.out _ hz) (fun hHeld => ?_)
    clear hK K hz
    try simp only [Act.put, List.setIfInBounds_toArray, List.set_cons_zero, List.set_cons_succ]
    refine wpAnyH_take (i := 10) (oi := { dst := some 9, op := Op.assign (Operand.tmp 26), type := 4, pos := "l08_store.go:62", after := #[{ on := 7, ground := Ground.data }, { on := 9, ground := Ground.chain }, { on := 0, ground := Ground.phase }, { on := 1, ground := Ground.phase }, { on := 2, ground := Ground.phase }, { on := 3, ground := Ground.phase }, { on := 4, ground := Ground.phase }, { on := 5, ground := Ground.phase }, { on := 6, ground := Ground.phase }, { on := 7, ground := Ground.phase }, { on := 8, ground := Ground.phase }, { on := 9, ground := Ground.phase }], guard := none }) (v := ?vi18) rfl (by kernel_rfl) (by kernel_rfl) (by kernel_rfl) (fun _ _ _ h => h) (Or.inl ⟨by rfl, ?hyi18⟩) hHeld ?_
    case hyi18 => (intro w hSw; (try dsimp only at hSw); go_simp <;> with_reducible rfl)
    try simp only [Act.put, List.setIfInBounds_toArray, List.set_cons_zero, List.set_cons_succ]
    refine wpAnyH_done (by kernel_rfl) ?_ _
    go_wp2_with fail
    go_meet
    exact ⟨_, OM, Oc, Oz, rfl, rfl, put3 NB.out _ _ _, CB.set3 OA.out.1 NB.out _ _ _, OA.out.2, Nat.le_refl _, set3 ZA.out (Nat.le_refl _) _ _ _⟩
  case rest =>
    obtain ⟨N, M, cN, cs, rfl, rfl, hN, hC, hch, hlt, hb3⟩ := hcut
    obtain ⟨w3, hwc⟩ : ∃ y, y = wc := ⟨_, rfl⟩
    subst hwc
    have HO3 : Hid (PB w.heap.size w3 Mo S.length ps) := HO2.out.grow hb3
    have HN3 : Hid (Blk w3 N #[.int .i64 (nthT S k).hd, .int .i64 vu, .slice (some ⟨M, 0, none⟩) cs.length cN] 26) := hN
    have HC3 : Hid (CB w2.heap.size w3 M cN cs ∧ chs cs = putC (nthT S k).C x) := ⟨hC, hch⟩
    have HB3 : Hid (Below w.heap.size w w3) := grow_on HB2.out hb3
    have hkp : k < ps.length := by rw [HL.out]; exact hk
    have HF : Hid (PB w.heap.size (put3W w3 Mo k (⟨(nthT S k).hd, vu, some ⟨M, 0, none⟩, cN, cs⟩ : PRow)) Mo S.length (ps.set k (⟨(nthT S k).hd, vu, some ⟨M, 0, none⟩, cN, cs⟩ : PRow)) ∧ pts (ps.set k (⟨(nthT S k).hd, vu, some ⟨M, 0, none⟩, cN, cs⟩ : PRow)) = putS S x ∧ Own8 (ps.set k (⟨(nthT S k).hd, vu, some ⟨M, 0, none⟩, cN, cs⟩ : PRow))) := by
      refine ⟨HO3.out.put hkp (PO.of (hC.down HB2.out.size)), ?_, HO1.out.2.2.put ⟨M, rfl⟩ (fresh8 (x := (⟨(nthT S k).hd, vu, some ⟨M, 0, none⟩, cN, cs⟩ : PRow)) HO2.out.rows (PO.of hC) (Nat.le_refl _))⟩
      rw [pts_set, HO1.out.2.1, HK.out.1]
      congr 1
      show (⟨(nthT S k).hd, vu, chs cs⟩ : PPt) = _
      unfold putT
      rw [HVU.out.2, hch]
    have HF0 := HF.out
    unfold put3W at HF0
    dsimp only at HF0
    have HF2 : Hid _ := HF0
    have HBf := put3W_low (x := (⟨(nthT S k).hd, vu, some ⟨M, 0, none⟩, cN, cs⟩ : PRow)) (k := k) HB3.out HO3.out.at'
    unfold put3W at HBf
    dsimp only at HBf
    have HBF : Hid _ := HBf
    clear HF0 HBf HF
    have n0 : w3.cell? ⟨N, 0, none⟩ = some (.int .i64 (nthT S k).hd) := hN.cell 0
    have n1 : w3.cell? ⟨N, 1, none⟩ = some (.int .i64 vu) := hN.cell 1
    have n2 : w3.cell? ⟨N, 2, none⟩ = some (.slice (some ⟨M, 0, none⟩) cs.length cN) := hN.cell 2
    obtain ⟨cur, hcu, hcs, hc3⟩ := HO3.out.outer
    have hcap := HO3.out.cap
    obtain ⟨v0, q0⟩ : ∃ v, w3.cell? ⟨Mo, k * 3, none⟩ = some v := ⟨cur[k * 3]'(by omega), by rw [hcu.cell]; simp⟩
    obtain ⟨v1, q1⟩ : ∃ v, w3.cell? ⟨Mo, k * 3 + 1, none⟩ = some v := ⟨cur[k * 3 + 1]'(by omega), by rw [hcu.cell]; simp⟩
    obtain ⟨v2, q2⟩ : ∃ v, w3.cell? ⟨Mo, k * 3 + 2, none⟩ = some v := ⟨cur[k * 3 + 2]'(by omega), by rw [hcu.cell]; simp⟩
    have f0 := hcu.frozen (k * 3)
    have f1 := hcu.frozen (k * 3 + 1)
    have f2 := hcu.frozen (k * 3 + 2)
    have HMl : Hid (w.heap.size ≤ Mo) := HO3.out.at'
    clear hN hC hch hlt hb3 hcu hcs hc3 hcap HS HPU
    go_wp2
    go_ret2
    refine ⟨⟨Mo, S.length, ?_, ps.set k (⟨(nthT S k).hd, vu, some ⟨M, 0, none⟩, cN, cs⟩ : PRow), HF2.out⟩, HBF.out⟩
    rw [HK.out.2, HVU.out.1]
    rfl
end Go.Proofs.YtooninmicfcfoaaGreat.StsP
namespace Go.Proofs.YtooninmicfcfoaaGreat.PutG
open Go.RowKit
open Labs LabS Alms AlmS Rws ChnI ChnC ChnP Chs Prt PrtF PrtC
open Fing (fingerB)

theorem at_is {C : List PCh} {f : Int} {k : Nat} (hk : k < C.length) (he : (nthC C k).f = f) (hj : ∀ j, j < k → (nthC C j).f ≠ f) : atO C f = some k := by
  rcases at_cases C f with ⟨_, _, h2⟩ | ⟨q, h0, _, hq, h3, h4⟩
  · exact absurd he (h2 k hk)
  · have e : q = k := by
      rcases Nat.lt_trichotomy q k with h | h | h
      · exact absurd h3 (hj q h)
      · exact h
      · exact absurd he (h4 k h)
    rw [h0, e]
theorem nthC_ins {C : List PCh} {x : PCh} {k i : Nat} (hk : k ≤ C.length) : nthC (C.take k ++ x :: C.drop k) i = if i < k then nthC C i else if i = k then x else nthC C (i - 1) := by
  unfold nthC
  have hl : (C.take k).length = k := by simp; omega
  by_cases h : i < k
  · rw [if_pos h, List.getD_eq_getElem?_getD, List.getElem?_append_left (by omega), List.getElem?_take_of_lt h, List.getD_eq_getElem?_getD]
  · rw [if_neg h, List.getD_eq_getElem?_getD, List.getElem?_append_right (by omega), hl]
    by_cases e : i = k
    · rw [if_pos e, e, Nat.sub_self]; rfl
    · rw [if_neg e, show i - k = (i - k - 1) + 1 by omega, List.getElem?_cons_succ, List.getElem?_drop, show k + (i - k - 1) = i - 1 by omega, List.getD_eq_getElem?_getD]
theorem nthC_set {C : List PCh} {x : PCh} {k i : Nat} (hi : i < C.length) : nthC (C.set k x) i = if i = k then x else nthC C i := by
  rw [nthC_eq (by simpa using hi), nthC_eq hi, List.getElem_set]
  by_cases e : k = i
  · subst e; simp
  · rw [if_neg e, if_neg (fun h => e h.symm)]
theorem nthP_app_eq (P : List PAl) (x : PAl) : nthP (P ++ [x]) P.length = x := by unfold nthP; simp [List.getD]
theorem nthP_app_lt {P : List PAl} {x : PAl} {i : Nat} (h : i < P.length) : nthP (P ++ [x]) i = nthP P i := by unfold nthP; simp [List.getD, List.getElem?_append_left h]
theorem nthP_set_ne {P : List PAl} {x : PAl} {i k : Nat} (h : i ≠ k) : nthP (P.set k x) i = nthP P i := by unfold nthP; simp [List.getD, List.getElem?_set_ne (Ne.symm h)]
theorem nthP_set_eq {P : List PAl} {x : PAl} {k : Nat} (h : k < P.length) : nthP (P.set k x) k = x := by unfold nthP; simp [List.getD, List.getElem?_set_self h]
theorem find_put (C : List PCh) (x : PAl) : (findB C x.l = none ∧ newC C x = true ∧ findB (putC C x) x.l = some x) ∨ ∃ y, findB C x.l = some y ∧ newC C x = false ∧ findB (putC C x) x.l = some (mergeX y x) := by
  rcases at_cases C (fingerB x.l : Int) with ⟨h0, _, h2⟩ | ⟨k, h0, _, hk, h3, h4⟩
  · refine .inl ⟨find_1 h0, (put_none h0).2, ?_⟩
    rw [(put_none h0).1]
    have hp := pos_le C (fingerB x.l : Int)
    have hn : nthC (C.take (posB C (fingerB x.l)) ++ ⟨fingerB x.l, [x]⟩ :: C.drop (posB C (fingerB x.l))) (posB C (fingerB x.l)) = ⟨fingerB x.l, [x]⟩ := by rw [nthC_ins hp, if_neg (by omega), if_pos rfl]
    have ha : atO (C.take (posB C (fingerB x.l)) ++ ⟨fingerB x.l, [x]⟩ :: C.drop (posB C (fingerB x.l))) (fingerB x.l) = some (posB C (fingerB x.l)) := at_is (by simp; omega) (by rw [hn]) (fun j hj => by rw [nthC_ins hp, if_pos hj]; exact h2 j (by omega))
    have h := find_3 (i := 0) ha (fun j hj => by omega) (by rw [hn]; rfl) (by rw [hn]; simp)
    rw [hn] at h
    exact h
  · have hat : ∀ y : PCh, y.f = (nthC C k).f → atO (C.set k y) (fingerB x.l) = some k := fun y hy => at_is (by simpa using hk) (by rw [nthC_set hk, if_pos rfl, hy, h3]) (fun j hj => by rw [nthC_set (by omega), if_neg (by omega)]; exact h4 j hj)
    have hnk : ∀ y : PCh, nthC (C.set k y) k = y := fun y => by rw [nthC_set hk, if_pos rfl]
    rcases idx_cases (nthC C k).P x.l with ⟨_, hm⟩ | ⟨i, _, hi, he, hj⟩
    · refine .inl ⟨find_2 h0 hm, (put_some h0).2.trans (put_miss hm).2, ?_⟩
      rw [(put_some h0).1, (put_miss hm).1]
      have h := find_3 (i := (nthC C k).P.length) (hat ⟨(nthC C k).f, (nthC C k).P ++ [x]⟩ rfl) (fun j hj => by rw [hnk]; show (nthP (_ ++ [x]) j).l ≠ _; rw [nthP_app_lt hj]; exact hm j hj) (by rw [hnk]; show (nthP (_ ++ [x]) _).l = _; rw [nthP_app_eq]) (by rw [hnk]; simp)
      rw [hnk] at h
      rw [h]
      show some (nthP (_ ++ [x]) _) = _
      rw [nthP_app_eq]
    · refine .inr ⟨nthP (nthC C k).P i, find_3 h0 hj he hi, (put_some h0).2.trans (put_hit hj he hi).2, ?_⟩
      rw [(put_some h0).1, (put_hit hj he hi).1]
      have h := find_3 (i := i) (hat ⟨(nthC C k).f, (nthC C k).P.set i (mergeX (nthP (nthC C k).P i) x)⟩ rfl) (fun j hj' => by rw [hnk]; show (nthP (List.set _ _ _) j).l ≠ _; rw [nthP_set_ne (by omega)]; exact hj j hj') (by rw [hnk]; show (nthP (List.set _ _ _) _).l = _; rw [nthP_set_eq hi]; rfl) (by rw [hnk]; simpa using hi)
      rw [hnk] at h
      rw [h]
      show some (nthP (List.set _ _ _) _) = _
      rw [nthP_set_eq hi]
theorem posTo_lo (C : List PCh) (f : Int) : ∀ k j, j < posTo C f k → (nthC C j).f < f
  | 0, j, h => by simp [posTo] at h
  | k + 1, j, h => by
    rw [posTo] at h
    split at h
    · rename_i e
      by_cases q : j = k
      · subst q; exact e.2
      · exact posTo_lo C f k j (by rw [e.1]; omega)
    · exact posTo_lo C f k j h
theorem posTo_hi (C : List PCh) (f : Int) : ∀ k, posTo C f k < k → ¬ (nthC C (posTo C f k)).f < f
  | 0, h => by omega
  | k + 1, h => by
    rw [posTo] at h ⊢
    split
    · rename_i e
      rw [if_pos e] at h; omega
    · rename_i e
      rw [if_neg e] at h
      have hle := posTo_le C f k
      by_cases q : posTo C f k = k
      · intro hc
        exact e ⟨q, by rw [q] at hc; exact hc⟩
      · exact posTo_hi C f k (by omega)
theorem pos_lo (C : List PCh) (f : Int) (j : Nat) (h : j < posB C f) : (nthC C j).f < f := posTo_lo C f _ j h
theorem pos_hi (C : List PCh) (f : Int) (h : posB C f < C.length) : ¬ (nthC C (posB C f)).f < f := posTo_hi C f _ h
end Go.Proofs.YtooninmicfcfoaaGreat.PutG
namespace Go.Proofs.YtooninmicfcfoaaGreat.Rgt
open Go.RowKit
open Labs LabS Alms AlmS AlmM Rws ChnO Chs Prt PrtO PrtF PrtC PutG Sts StsH StsO StsF StsP StsK
open Fing (fingerB)
open Sums (partB)
open LabL (slB)
open PrtA (allC allC_app allC_mem)
open StsA (allT allT_app allT_mem)
open Stb
open SrtP (sortP sort_is sort_perm)

def okA (x : PAl) : Bool := alarmB x.l x.s x.e x.n
structure RCh (f : Int) (P : List PAl) : Prop where
  pos : 0 < P.length
  ok : ∀ i, i < P.length → okA (nthP P i) = true
  fin : ∀ i, i < P.length → (fingerB (nthP P i).l : Int) = f
  ne : ∀ i j, j < i → i < P.length → (nthP P j).l ≠ (nthP P i).l
theorem rch_iff (f : Int) (P : List PAl) : chainB f P = true ↔ RCh f P := by
  constructor
  · intro h
    unfold chainB at h
    rw [Bool.and_eq_true, List.all_eq_true] at h
    have ho : ∀ i, i < P.length → okC f P i = true := fun i hi => h.1 i (List.mem_range.2 hi)
    refine ⟨of_decide_eq_true h.2, fun i hi => ?_, fun i hi => ?_, fun i j hj hi he => ?_⟩
    · cases hq : okA (nthP P i) with
      | true => rfl
      | false => have := okC_1 (f := f) (P := P) (i := i) hq; rw [ho i hi] at this; cases this
    · by_cases hq : (fingerB (nthP P i).l : Int) = f
      · exact hq
      · have := okC_2 hq; rw [ho i hi] at this; cases this
    · have hne : idxB P (nthP P i).l ≠ (i : Int) := by
        rcases idx_cases P (nthP P i).l with ⟨_, h2⟩ | ⟨q, h1, hq, h3, h4⟩
        · exact absurd rfl (h2 i hi)
        · rw [h1]
          have : q ≤ j := by
            rcases Nat.lt_or_ge j q with e | e
            · exact absurd he (h4 j e)
            · exact e
          omega
      have := okC_3 (f := f) hne
      rw [ho i hi] at this; cases this
  · intro h
    rw [chain_good (fun i hi => okC_y (h.ok i hi) (h.fin i hi) (idx_hit (fun j hj => h.ne i j hj hi) rfl hi))]
    exact decide_eq_true h.pos
theorem okA_merge {y x : PAl} (hy : okA y = true) (hx : okA x = true) : okA (mergeX y x) = true := by
  unfold okA alarmB at *
  simp only [Bool.and_eq_true, decide_eq_true_eq] at hy hx ⊢
  obtain ⟨_, _, y1, y2, y3, _⟩ := hy
  obtain ⟨x1, x2, x3, x4, x5, x6⟩ := hx
  have e : (mergeX y x).l = x.l ∧ (mergeX y x).e = x.e ∧ (mergeX y x).n = x.n ∧ (mergeX y x).s = startB y.s y.e x.s x.e := ⟨rfl, rfl, rfl, rfl⟩
  obtain ⟨e1, e2, e3, e4⟩ := e
  rw [e1, e2, e3, e4]
  have hs : 0 ≤ startB y.s y.e x.s x.e ∧ startB y.s y.e x.s x.e ≤ x.s := by
    unfold startB
    split
    · unfold leastB
      split <;> omega
    · omega
  exact ⟨x1, x2, hs.1, by omega, x5, x6⟩
theorem rch_put {f : Int} {P : List PAl} {x : PAl} (h : RCh f P) (hx : okA x = true) (hf : (fingerB x.l : Int) = f) : RCh f (putL P x) := by
  rcases idx_cases P x.l with ⟨_, hm⟩ | ⟨k, _, hk, he, hj⟩
  · rw [(put_miss hm).1]
    have hn : ∀ i, i < (P ++ [x]).length → (i < P.length ∧ nthP (P ++ [x]) i = nthP P i) ∨ (i = P.length ∧ nthP (P ++ [x]) i = x) := fun i hi => by
      by_cases e : i < P.length
      · exact .inl ⟨e, nthP_app_lt e⟩
      · have : i = P.length := by simp at hi; omega
        exact .inr ⟨this, by rw [this]; exact nthP_app_eq P x⟩
    refine ⟨by simp, fun i hi => ?_, fun i hi => ?_, fun i j hj hi => ?_⟩
    · rcases hn i hi with ⟨e, q⟩ | ⟨_, q⟩ <;> rw [q]
      · exact h.ok i e
      · exact hx
    · rcases hn i hi with ⟨e, q⟩ | ⟨_, q⟩ <;> rw [q]
      · exact h.fin i e
      · exact hf
    · rcases hn i hi with ⟨e, q⟩ | ⟨e, q⟩ <;> rcases hn j (by omega) with ⟨e', q'⟩ | ⟨e', q'⟩ <;> rw [q, q']
      · exact h.ne i j hj e
      · omega
      · exact hm j e'
      · omega
  · rw [(put_hit hj he hk).1]
    have hl : ∀ i, i < P.length → (nthP (P.set k (mergeX (nthP P k) x)) i).l = (nthP P i).l := fun i hi => by
      by_cases e : i = k
      · subst e; rw [nthP_set_eq hi]; exact he.symm
      · rw [nthP_set_ne e]
    refine ⟨by rw [List.length_set]; exact h.pos, fun i hi => ?_, fun i hi => ?_, fun i j hj' hi => ?_⟩
    · rw [List.length_set] at hi
      by_cases e : i = k
      · subst e; rw [nthP_set_eq hi]; exact okA_merge (h.ok i hi) hx
      · rw [nthP_set_ne e]; exact h.ok i hi
    · rw [List.length_set] at hi
      rw [hl i hi]; exact h.fin i hi
    · rw [List.length_set] at hi
      rw [hl i hi, hl j (by omega)]; exact h.ne i j hj' hi
theorem rch_one {x : PAl} (hx : okA x = true) : RCh (fingerB x.l) [x] := ⟨by simp, fun i hi => by
    have : i = 0 := by simpa using hi
    subst this; exact hx, fun i hi => by
    have : i = 0 := by simpa using hi
    subst this; rfl, fun i j hj hi => by
    have : i = 0 := by simpa using hi
    omega⟩
structure RPt (C : List PCh) (i n : Int) : Prop where
  ch : ∀ k, k < C.length → RCh (nthC C k).f (nthC C k).P
  home : ∀ k, k < C.length → partB (nthC C k).f n = i
  up : ∀ k, k + 1 < C.length → (nthC C k).f < (nthC C (k + 1)).f
theorem RPt.lt {C : List PCh} {i n : Int} (h : RPt C i n) : ∀ {j k : Nat}, j < k → k < C.length → (nthC C j).f < (nthC C k).f
  | j, 0, h1, _ => by omega
  | j, k + 1, h1, h2 => by
    have hu := h.up k h2
    by_cases e : j = k
    · subst e; exact hu
    · have := RPt.lt h (j := j) (k := k) (by omega) (by omega)
      omega
theorem rpt_iff (C : List PCh) (hd vr i n : Int) : partOkB C hd vr i n = true ↔ RPt C i n ∧ Names.inB hd (-1) 4 = true ∧ 0 ≤ vr := by
  constructor
  · intro h
    unfold partOkB at h
    rw [Bool.and_eq_true, Bool.and_eq_true, List.all_eq_true] at h
    have ho : ∀ k, k < C.length → okP C i n k = true := fun k hk => h.1 k (List.mem_range.2 hk)
    refine ⟨⟨fun k hk => ?_, fun k hk => ?_, fun k hk => ?_⟩, h.2.1, of_decide_eq_true h.2.2⟩
    · rw [← rch_iff]
      cases hq : chainB (nthC C k).f (nthC C k).P with
      | true => rfl
      | false => have := okP_1 (i := i) (n := n) hq; rw [ho k hk] at this; cases this
    · by_cases hq : partB (nthC C k).f n = i
      · exact hq
      · have := okP_2 hq; rw [ho k hk] at this; cases this
    · rcases Int.lt_or_le (nthC C k).f (nthC C (k + 1)).f with e | e
      · exact e
      · have := okP_3 (i := i) (n := n) e; rw [ho (k + 1) hk] at this; cases this
  · rintro ⟨h, h1, h2⟩
    have : ∀ k, k < C.length → okP C i n k = true := fun k hk => by
      have hc := (rch_iff _ _).2 (h.ch k hk)
      cases k with
      | zero => exact okP_0 hc (h.home 0 hk)
      | succ m => exact okP_s hc (h.home _ hk) (by have := h.up m hk; omega)
    rw [part_good this, h1]
    simpa using h2
theorem rpt_put {C : List PCh} {i n : Int} {x : PAl} (h : RPt C i n) (hx : okA x = true) (hh : partB (fingerB x.l : Int) n = i) : RPt (putC C x) i n := by
  rcases at_cases C (fingerB x.l : Int) with ⟨h0, _, h2⟩ | ⟨k, h0, _, hk, h3, h4⟩
  · rw [(put_none h0).1]
    have hp := pos_le C (fingerB x.l : Int)
    -- those ahead are less, those behind more
    have hlo : ∀ j, j < posB C (fingerB x.l) → (nthC C j).f < (fingerB x.l : Int) := fun j hj => pos_lo C _ j hj
    have hhi : ∀ j, posB C (fingerB x.l) ≤ j → j < C.length → (fingerB x.l : Int) < (nthC C j).f := fun j h1 h2' => by
      have hge := pos_hi C (fingerB x.l : Int) (by omega)
      have hne := h2 (posB C (fingerB x.l)) (by omega)
      by_cases e : j = posB C (fingerB x.l)
      · subst e; omega
      · have := h.lt (j := posB C (fingerB x.l)) (k := j) (by omega) h2'
        omega
    generalize posB C (fingerB x.l : Int) = p at hp hlo hhi
    have hlen : (C.take p ++ (⟨fingerB x.l, [x]⟩ : PCh) :: C.drop p).length = C.length + 1 := by simp; omega
    have hn : ∀ j, nthC (C.take p ++ (⟨fingerB x.l, [x]⟩ : PCh) :: C.drop p) j = if j < p then nthC C j else if j = p then ⟨fingerB x.l, [x]⟩ else nthC C (j - 1) := fun j => nthC_ins hp
    refine ⟨fun j hj => ?_, fun j hj => ?_, fun j hj => ?_⟩
    · rw [hlen] at hj
      rw [hn]
      split
      · exact h.ch j (by omega)
      · split
        · exact rch_one hx
        · exact h.ch (j - 1) (by omega)
    · rw [hlen] at hj
      rw [hn]
      split
      · exact h.home j (by omega)
      · split
        · exact hh
        · exact h.home (j - 1) (by omega)
    · rw [hlen] at hj
      rw [hn, hn]
      by_cases e1 : j + 1 < p
      · rw [if_pos (by omega), if_pos e1]; exact h.up j (by omega)
      · by_cases e2 : j + 1 = p
        · rw [if_pos (by omega), if_neg (by omega), if_pos e2]; exact hlo j (by omega)
        · by_cases e3 : j = p
          · rw [if_neg (by omega), if_pos e3, if_neg (by omega), if_neg (by omega)]
            exact hhi (j + 1 - 1) (by omega) (by omega)
          · rw [if_neg (by omega), if_neg e3, if_neg (by omega), if_neg (by omega)]
            have := h.up (j - 1) (by omega)
            have e : j - 1 + 1 = j + 1 - 1 := by omega
            rw [e] at this; exact this
  · rw [(put_some h0).1]
    have hf : ∀ j, j < C.length → (nthC (C.set k ⟨(nthC C k).f, putL (nthC C k).P x⟩) j).f = (nthC C j).f := fun j hj => by
      rw [nthC_set hj]
      split
      · rename_i e; rw [e]
      · rfl
    refine ⟨fun j hj => ?_, fun j hj => ?_, fun j hj => ?_⟩
    · rw [List.length_set] at hj
      rw [nthC_set hj]
      split
      · exact rch_put (h.ch k hk) hx h3.symm
      · exact h.ch j hj
    · rw [List.length_set] at hj
      rw [hf j hj]; exact h.home j hj
    · rw [List.length_set] at hj
      rw [hf j (by omega), hf (j + 1) hj]; exact h.up j hj
structure RSt (S : List PPt) : Prop where
  len : 1 ≤ S.length ∧ S.length ≤ 3
  pt : ∀ k, k < S.length → RPt (nthT S k).C k S.length ∧ Names.inB (nthT S k).hd (-1) 4 = true ∧ 0 ≤ (nthT S k).vr
theorem rst_iff (S : List PPt) : storeB S = true ↔ RSt S := by
  constructor
  · intro h
    unfold storeB at h
    rw [Bool.and_eq_true, List.all_eq_true] at h
    have hl : ¬ (S.length < 1 ∨ 3 < S.length) := fun e => by rw [in_not e] at h; cases h.2
    exact ⟨by omega, fun k hk => (rpt_iff _ _ _ _ _).1 (h.1 k (List.mem_range.2 hk))⟩
  · intro h
    rw [store_good fun k hk => (rpt_iff _ _ _ _ _).2 (h.pt k hk)]
    exact in_yes (by have := h.len; omega)
theorem nthT_set {S : List PPt} {p : PPt} {k i : Nat} (hi : i < S.length) : nthT (S.set k p) i = if i = k then p else nthT S i := by
  rw [nthT_eq (by simpa using hi), nthT_eq hi, List.getElem_set]
  by_cases e : k = i
  · subst e; simp
  · rw [if_neg e, if_neg (fun h => e h.symm)]
theorem rst_put {S : List PPt} {x : PAl} (h : RSt S) (hx : okA x = true) (hv : ∀ k, k < S.length → (nthT S k).vr ≤ 1000) : RSt (putS S x) := by
  have hne : ¬ S.length = 0 := by have := h.len; omega
  obtain ⟨k, hkk⟩ : ∃ k, homeN S.length x.l = k := ⟨_, rfl⟩
  have hk : k < S.length := by rw [← hkk]; exact home_lt (by omega)
  rw [(putS_1 hne hkk).1]
  refine ⟨by rw [List.length_set]; exact h.len, fun j hj => ?_⟩
  rw [List.length_set] at hj ⊢
  rw [nthT_set hj]
  split
  · rename_i e
    subst e
    have h1 := h.pt j hj
    have h2 := hv j hj
    have hw : IntKind.i64.wrap ((nthT S j).vr + 1) = (nthT S j).vr + 1 := by rw [IntKind.wrap_i64]; omega
    refine ⟨rpt_put h1.1 hx ?_, h1.2.1, ?_⟩
    · rw [home_part, hkk]
    · show 0 ≤ IntKind.i64.wrap ((nthT S j).vr + 1)
      rw [hw]; omega
  · exact h.pt j hj
theorem find_putS {S : List PPt} (x : PAl) (h0 : ¬ S.length = 0) : (findS S x.l = none ∧ freshS S x = true ∧ findS (putS S x) x.l = some x) ∨ ∃ y, findS S x.l = some y ∧ freshS S x = false ∧ findS (putS S x) x.l = some (mergeX y x) := by
  obtain ⟨k, hkk⟩ : ∃ k, homeN S.length x.l = k := ⟨_, rfl⟩
  have hk : k < S.length := by rw [← hkk]; exact home_lt (by omega)
  have e1 : findS (putS S x) x.l = findB (putC (nthT S k).C x) x.l := by
    rw [findS_some (by rw [putS_len]; exact h0), putS_len, hkk, (putS_1 h0 hkk).1, nthT_set hk, if_pos rfl]
    rfl
  rw [findS_some h0, hkk, (putS_1 h0 hkk).2, e1]
  exact find_put (nthT S k).C x
theorem rpt_find {C : List PCh} {i n : Int} (h : RPt C i n) {y : PAl} (hy : y ∈ allC C) : findB C y.l = some y ∧ partB (fingerB y.l : Int) n = i := by
  obtain ⟨c, hc, hy⟩ := allC_mem hy
  obtain ⟨j, hj, rfl⟩ := List.mem_iff_getElem.1 hc
  obtain ⟨m, hm, rfl⟩ := List.mem_iff_getElem.1 hy
  have hr := h.ch j hj
  rw [nthC_eq hj] at hr
  have hf := hr.fin m hm
  have hyy : nthP C[j].P m = C[j].P[m] := nthP_eq hm
  rw [hyy] at hf
  have ha : atO C (fingerB C[j].P[m].l) = some j := at_is hj (by rw [nthC_eq hj, hf]) (fun q hq => by
    have := h.lt hq hj
    rw [nthC_eq hj] at this
    rw [hf]; omega)
  refine ⟨?_, ?_⟩
  · have := find_3 (l := C[j].P[m].l) (i := m) ha (fun q hq => by rw [nthC_eq hj, ← hyy]; exact hr.ne m q hq hm) (by rw [nthC_eq hj, hyy]) (by rw [nthC_eq hj]; exact hm)
    rw [this, nthC_eq hj, hyy]
  · have := h.home j hj
    rw [nthC_eq hj] at this
    rw [hf]; exact this
theorem rst_find {S : List PPt} (h : RSt S) {y : PAl} (hy : y ∈ allT S) : findS S y.l = some y := by
  obtain ⟨p, hp, hy⟩ := allT_mem hy
  obtain ⟨k, hk, rfl⟩ := List.mem_iff_getElem.1 hp
  have hr := (h.pt k hk).1
  have e : nthT S k = S[k] := nthT_eq hk
  rw [e] at hr
  obtain ⟨h1, h2⟩ := rpt_find hr hy
  have hh : homeN S.length y.l = k := by
    have := home_part S.length y.l
    rw [h2] at this
    omega
  rw [findS_some (by omega), hh, e]
  exact h1
theorem rpt_ne {C : List PCh} {i n : Int} (h : RPt C i n) : (allC C).Pairwise fun a b => a.l ≠ b.l := by
  have key : ∀ (D : List PCh), (∀ c ∈ D, RCh c.f c.P) → D.Pairwise (fun c d => c.f ≠ d.f) → (allC D).Pairwise fun a b => a.l ≠ b.l := by
    intro D
    induction D with
    | nil => intro _ _; exact List.Pairwise.nil
    | cons c D ih =>
      intro h1 h2
      rw [List.pairwise_cons] at h2
      rw [allC, List.pairwise_append]
      refine ⟨?_, ih (fun d hd => h1 d (by simp [hd])) h2.2, fun a ha b hb he => ?_⟩
      · rw [List.pairwise_iff_getElem]
        intro a b ha hb hab
        have := (h1 c (by simp)).ne b a hab hb
        rw [nthP_eq ha, nthP_eq hb] at this
        exact this
      · obtain ⟨d, hd, hb⟩ := allC_mem hb
        obtain ⟨m, hm, rfl⟩ := List.mem_iff_getElem.1 ha
        obtain ⟨q, hq, rfl⟩ := List.mem_iff_getElem.1 hb
        have e1 := (h1 c (by simp)).fin m hm
        have e2 := (h1 d (by simp [hd])).fin q hq
        rw [nthP_eq hm] at e1
        rw [nthP_eq hq] at e2
        rw [he, e2] at e1
        exact h2.1 d hd e1.symm
  refine key C (fun c hc => ?_) ?_
  · obtain ⟨j, hj, rfl⟩ := List.mem_iff_getElem.1 hc
    have := h.ch j hj
    rwa [nthC_eq hj] at this
  · rw [List.pairwise_iff_getElem]
    intro a b ha hb hab
    have := h.lt hab hb
    rw [nthC_eq ha, nthC_eq hb] at this
    omega
theorem rst_ne {S : List PPt} (h : RSt S) : (allT S).Pairwise fun a b => a.l ≠ b.l := by
  have key : ∀ (T : List PPt), (∀ p ∈ T, (allC p.C).Pairwise fun a b => a.l ≠ b.l) → T.Pairwise (fun p q => ∀ a ∈ allC p.C, ∀ b ∈ allC q.C, a.l ≠ b.l) → (allT T).Pairwise fun a b => a.l ≠ b.l := by
    intro T
    induction T with
    | nil => intro _ _; exact List.Pairwise.nil
    | cons p T ih =>
      intro h1 h2
      rw [List.pairwise_cons] at h2
      rw [allT, List.pairwise_append]
      refine ⟨h1 p (by simp), ih (fun d hd => h1 d (by simp [hd])) h2.2, fun a ha b hb => ?_⟩
      obtain ⟨q, hq, hb⟩ := allT_mem hb
      exact h2.1 q hq a ha b hb
  refine key S (fun p hp => ?_) ?_
  · obtain ⟨j, hj, rfl⟩ := List.mem_iff_getElem.1 hp
    have := rpt_ne (h.pt j hj).1
    rwa [nthT_eq hj] at this
  · rw [List.pairwise_iff_getElem]
    intro i j hi hj hij a ha b hb he
    have h1 := (h.pt i hi).1
    have h2 := (h.pt j hj).1
    rw [nthT_eq hi] at h1
    rw [nthT_eq hj] at h2
    have e1 := (rpt_find h1 ha).2
    have e2 := (rpt_find h2 hb).2
    rw [he, e2] at e1
    omega
theorem rst_sort {S : List PPt} (h : RSt S) : (sortP (allT S)).Pairwise fun a b => slB a.l b.l = true := by
  have h1 : (sortP (allT S)).Pairwise fun a b => a.l ≠ b.l := (List.Perm.pairwise_iff (fun {_ _} h => Ne.symm h) (sort_perm (allT S))).1 (rst_ne h)
  have h2 := (sort_is (allT S)).2
  unfold SrtL at h2
  refine (h1.and h2).imp fun {a b} hab => ?_
  cases e : slB a.l b.l with
  | true => rfl
  | false => exact absurd (ordL.tot e hab.2) hab.1
theorem cnt_all (C : List PCh) : cntC C = (allC C).length := by
  induction C with
  | nil => rfl
  | cons x C ih => rw [cntC, allC, List.length_append, ih]
theorem cnt_allT (S : List PPt) : cntT S = (allT S).length := by
  induction S with
  | nil => rfl
  | cons x S ih => rw [cntT, allT, List.length_append, ih, cnt_all]
theorem cntC_set : ∀ (C : List PCh) (k : Nat) (y : PCh), k < C.length → cntC (C.set k y) + (nthC C k).P.length = cntC C + y.P.length
  | [], k, y, h => by simp at h
  | p :: C, 0, y, h => by simp [cntC, nthC]; omega
  | p :: C, k + 1, y, h => by
    have ih := cntC_set C k y (by simpa using h)
    have e : nthC (p :: C) (k + 1) = nthC C k := by unfold nthC; simp
    rw [List.set_cons_succ, cntC, cntC, e]; omega
theorem putL_len (P : List PAl) (x : PAl) : (putL P x).length = P.length + (if isNew P x.l = true then 1 else 0) := by
  rcases idx_cases P x.l with ⟨_, hm⟩ | ⟨k, _, hk, he, hj⟩
  · rw [(put_miss hm).1, (put_miss hm).2]; simp
  · rw [(put_hit hj he hk).1, (put_hit hj he hk).2]; simp
theorem cntC_put (C : List PCh) (x : PAl) : cntC (putC C x) = cntC C + (if newC C x = true then 1 else 0) := by
  rcases at_cases C (fingerB x.l : Int) with ⟨h0, _, h2⟩ | ⟨k, h0, _, hk, h3, h4⟩
  · rw [(put_none h0).1, (put_none h0).2, cntC_app]
    have := cntC_app (C.take (posB C (fingerB x.l : Int))) (C.drop (posB C (fingerB x.l : Int)))
    rw [List.take_append_drop] at this
    simp only [cntC, List.length_singleton, if_true]
    omega
  · rw [(put_some h0).1, (put_some h0).2]
    have h1 := cntC_set C k ⟨(nthC C k).f, putL (nthC C k).P x⟩ hk
    have h2 := putL_len (nthC C k).P x
    simp only at h1
    omega
theorem cntT_set : ∀ (S : List PPt) (k : Nat) (y : PPt), k < S.length → cntT (S.set k y) + cntC (nthT S k).C = cntT S + cntC y.C
  | [], k, y, h => by simp at h
  | p :: S, 0, y, h => by simp [cntT, nthT]; omega
  | p :: S, k + 1, y, h => by
    have ih := cntT_set S k y (by simpa using h)
    have e : nthT (p :: S) (k + 1) = nthT S k := by unfold nthT; simp
    rw [List.set_cons_succ, cntT, cntT, e]; omega
theorem cntT_put {S : List PPt} (x : PAl) (h0 : ¬ S.length = 0) : cntT (putS S x) = cntT S + (if freshS S x = true then 1 else 0) := by
  obtain ⟨k, hkk⟩ : ∃ k, homeN S.length x.l = k := ⟨_, rfl⟩
  have hk : k < S.length := by rw [← hkk]; exact home_lt (by omega)
  rw [(putS_1 h0 hkk).1, (putS_1 h0 hkk).2]
  have h1 := cntT_set S k (putT (nthT S k) x) hk
  have h2 := cntC_put (nthT S k).C x
  have h3 : (putT (nthT S k) x).C = putC (nthT S k).C x := rfl
  rw [h3] at h1
  omega
theorem rst_new {n : Nat} (h : 1 ≤ n ∧ n ≤ 3) : RSt (List.replicate n (⟨-1, 0, []⟩ : PPt)) := by
  refine ⟨by rw [List.length_replicate]; exact h, fun k hk => ?_⟩
  rw [List.length_replicate] at hk
  have e : nthT (List.replicate n (⟨-1, 0, []⟩ : PPt)) k = ⟨-1, 0, []⟩ := by rw [nthT_eq (by simpa using hk)]; simp
  rw [e]
  exact ⟨⟨fun j hj => by simp at hj, fun j hj => by simp at hj, fun j hj => by simp at hj⟩, by decide, by decide⟩
end Go.Proofs.YtooninmicfcfoaaGreat.Rgt
