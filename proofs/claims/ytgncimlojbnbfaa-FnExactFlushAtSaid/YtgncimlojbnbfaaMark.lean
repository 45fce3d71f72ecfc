/-
  PROVED: the contracts of the marks that the exact laws write into what was handed in and handed out: markText, markLabelS, heldLabelS.
-/
import Derived.Test.YtgncimlojbnbfaaLabT
import Derived.Test.YtgncimlojbnbfaaNumS
import Derived.Test.YtgncimlojbnbfaaAprt
namespace Go.Proofs.Ytgncimlojbnbfaa.Mark
open Go.RowKit
open Go.Proofs.Ytgncimlojbnbfaa.Labs Go.Proofs.Ytgncimlojbnbfaa.LabS Go.Proofs.Ytgncimlojbnbfaa.Over Go.Proofs.Ytgncimlojbnbfaa.Blk Go.Proofs.Ytgncimlojbnbfaa.NumS
set_option linter.unusedVariables false

/-- the text of a mark -/
def mt (k : Nat) : ByteArray := ByteArray.mk #[109] ++ ⟨(Lib.decDigits k).toArray⟩

set_option maxHeartbeats 400000 in
set_option maxRecDepth 100000 in
theorem markText_any (m : Nat) (w : World) (h0 : 1 ≤ m) (h1 : m ≤ 1000000000) :
    Calls Try.prog 60 #[.int .i64 m] w fun e w' => e = .returned (.string (mt m)) ∧ Below w.heap.size w w' := by
  have hz : ¬ (m : Int) ≤ 0 := by omega
  go_enter Try.func60, Try.ntmps60
  go_wp2
  go_loopw [0, 3] (fun x s wr => ∃ (sb : ByteArray) (q : Nat), s = .string sb ∧ x = .int .i64 q ∧ q ≤ m ∧ pre q ++ sb.data.toList = Lib.decDigits m ∧ Below w.heap.size w wr) (fun x _ _ => (intOf x).toNat)
  case atStart => exact ⟨⟨#[]⟩, m, rfl, rfl, Nat.le_refl _, by unfold pre; rw [if_neg (by omega)]; simp, Below.refl _ _⟩
  case round =>
    obtain ⟨sb, q, rfl, rfl, hq, hsb, hb⟩ := hrel
    have HS : Hid (pre q ++ sb.data.toList = Lib.decDigits m) := hsb
    have HB : Hid (Below w.heap.size w wr) := hb
    have hsz := size_of hsb (by omega) (by omega)
    clear hsb hb
    by_cases hq0 : q = 0
    · have hqb : ¬ (0 : Int) < (q : Int) := by omega
      have HE : Hid (ByteArray.mk #[109] ++ sb = mt m) := by
        show _ = _
        unfold mt
        rw [done_of (m := m) (sb := sb) (by have := HS.out; rwa [hq0] at this)]
      clear hq0
      go_wp2
      go_ret
      exact ⟨retS HE.out, HB.out⟩
    · have hqb : (0 : Int) < (q : Int) := by omega
      have hcv := byte_conv wr q
      have HC : Hid (pre (q / 10) ++ (ByteArray.mk #[dgt q] ++ sb).data.toList = Lib.decDigits m) := cat_step HS.out hq0
      go_wp2
      go_roundw
      case rel => exact ⟨_, q / 10, rfl, by go_num, by omega, HC.out, HB.out.alloc HB.out.size _⟩
      case measure => simp [intOf]; omega

/-- the first n labels of the row are marked, from mark k on -/
def Marked (cs : Array Value) (k n : Nat) : Prop := ∀ m, m < n → cs[m * 2]? = some (.string (mt (k + 2 * m))) ∧ cs[m * 2 + 1]? = some (.string (mt (k + 2 * m + 1)))
theorem marked_up {cs : Array Value} {k n : Nat} (h : Marked cs k n) (hs : n * 2 + 1 < cs.size) : Marked ((cs.setIfInBounds (n * 2) (.string (mt (k + 2 * n)))).setIfInBounds (n * 2 + 1) (.string (mt (k + 2 * n + 1)))) k (n + 1) := by
  intro m hm
  by_cases e : m = n
  · subst e
    exact ⟨by rw [Array.getElem?_setIfInBounds_ne (by omega), Array.getElem?_setIfInBounds, if_pos rfl, if_pos (by omega)], by rw [Array.getElem?_setIfInBounds, if_pos rfl, if_pos (by simpa using hs)]⟩
  · have := h m (by omega)
    rw [Array.getElem?_setIfInBounds_ne (by omega), Array.getElem?_setIfInBounds_ne (by omega), Array.getElem?_setIfInBounds_ne (by omega), Array.getElem?_setIfInBounds_ne (by omega)]
    exact this
theorem retI {a b : Int} (h : a = b) : Ending.returned (.int .i64 a) = .returned (.int .i64 b) := by rw [h]

set_option maxHeartbeats 800000 in
theorem mark_any (M n cap k : Nat) (cs : Array Value) (w : World) (hB : Blk w M cs 73) (hs : n * 2 ≤ cs.size) (hn : n ≤ 1048576) (hk : 1 ≤ k) (hk2 : k ≤ 10000000) :
    Calls Try.prog 58 #[.slice (some ⟨M, 0, none⟩) n cap, .int .i64 k] w fun e w' => e = .returned (.int .i64 ((k + 2 * n : Nat) : Int)) ∧ (∃ cs' : Array Value, Blk w' M cs' 73 ∧ cs'.size = cs.size ∧ Marked cs' k n) ∧ Apart M w w' := by
  have HK : Hid (Blk w M cs 73) := hB
  have HS : Hid (n * 2 ≤ cs.size) := hs
  clear hB hs
  go_enter Try.func58, Try.ntmps58
  go_wp2
  go_loopw [1, 5] (fun x i w' => ∃ (j : Nat) (cs' : Array Value), j ≤ n ∧ i = .int .i64 j ∧ x = .int .i64 ((k + 2 * j : Nat) : Int) ∧ Blk w' M cs' 73 ∧ cs'.size = cs.size ∧ Marked cs' k j ∧ Apart M w w') (fun _ i _ => n - (intOf i).toNat)
  case atStart => exact ⟨0, cs, Nat.zero_le _, rfl, rfl, HK.out, rfl, fun m h => by omega, Apart.refl _ _⟩
  case round =>
    obtain ⟨j, cs1, hj, rfl, rfl, hB, hs, hm, ha⟩ := hrel
    have HK1 : Hid (Blk wr M cs1 73) := hB
    have HS1 : Hid (cs1.size = cs.size) := hs
    have HM : Hid (Marked cs1 k j) := hm
    have HA : Hid (Apart M w wr) := ha
    clear hB hs hm ha
    by_cases hlt : j < n
    · have hlt' : (j : Int) < (n : Int) := by omega
      generalize hz : k + 2 * j = z at *
      go_wp2_with fail
      refine (markText_any z _ (by omega) (by omega)).mono ?_
      rintro e w1 ⟨rfl, hb1⟩
      have hK1 : Blk w1 M cs1 73 := HK1.out.grow hb1
      have HK2 : Hid (Blk w1 M cs1 73) := hK1
      have HA1 : Hid (Apart M w w1) := HA.out.below hb1
      have hs2 : j * 2 + 1 < cs1.size := by rw [HS1.out]; have := HS.out; omega
      have HS2 : Hid (j * 2 + 1 < cs1.size) := hs2
      obtain ⟨v0, c0⟩ : ∃ v, w1.cell? ⟨M, j * 2, none⟩ = some v := ⟨cs1[j * 2]'(by omega), by rw [hK1.cell]; simp⟩
      have f0 := hK1.frozen (j * 2)
      clear hb1 hK1 hs2
      go_wp2_with fail
      have ez : (z : Int) + 1 = ((z + 1 : Nat) : Int) := by omega
      rw [ez]
      generalize hW : w1.setCell ⟨M, j * 2, none⟩ (.string (mt z)) = W
      have HKW : Hid (Blk W M (cs1.setIfInBounds (j * 2) (.string (mt z))) 73) := by rw [← hW]; exact HK2.out.set _ _
      have HAW : Hid (Apart M w W) := by rw [← hW]; exact HA1.out.setCell _ _
      clear hW c0 f0 ez
      refine (markText_any (z + 1) _ (by omega) (by omega)).mono ?_
      rintro e w2 ⟨rfl, hb2⟩
      have hK3 : Blk w2 M (cs1.setIfInBounds (j * 2) (.string (mt z))) 73 := HKW.out.grow hb2
      have HK3 : Hid (Blk w2 M (cs1.setIfInBounds (j * 2) (.string (mt z))) 73) := hK3
      have HA3 : Hid (Apart M w w2) := HAW.out.below hb2
      obtain ⟨v1, c1⟩ : ∃ v, w2.cell? ⟨M, j * 2 + 1, none⟩ = some v := ⟨(cs1.setIfInBounds (j * 2) (.string (mt z)))[j * 2 + 1]'(by simpa using HS2.out), by rw [hK3.cell]; exact Array.getElem?_eq_getElem _⟩
      have f1 := hK3.frozen (j * 2 + 1)
      have HE : Hid (Marked ((cs1.setIfInBounds (j * 2) (.string (mt z))).setIfInBounds (j * 2 + 1) (.string (mt (z + 1)))) k (j + 1)) := by have := marked_up HM.out HS2.out; rwa [hz] at this
      clear hb2 hK3
      go_wp2
      go_roundw
      case rel => exact ⟨j + 1, _, by omega, by go_num, by go_num, HK3.out.set _ _, by simp [HS1.out], HE.out, HA3.out.setCell _ _⟩
      case measure => simp [intOf]; omega
    · have hge : ¬ (j : Int) < (n : Int) := by omega
      have HE : Hid (j = n) := by show j = n; omega
      go_wp2
      go_ret
      exact ⟨retI (by have := HE.out; omega), ⟨cs1, HK1.out, HS1.out, by have := HM.out; rwa [HE.out] at this⟩, HA.out⟩

set_option maxHeartbeats 800000 in
theorem held_any (M n cap k : Nat) (cs : Array Value) (w : World) (hB : Blk w M cs 73) (hm : Marked cs k n) (hn : n ≤ 1048576) (hk : 1 ≤ k) (hk2 : k ≤ 10000000) :
    Calls Try.prog 61 #[.slice (some ⟨M, 0, none⟩) n cap, .int .i64 k] w fun e w' => e = .returned (.int .i64 ((k + 2 * n : Nat) : Int)) ∧ Below w.heap.size w w' := by
  have HK : Hid (Blk w M cs 73) := hB
  have HM : Hid (Marked cs k n) := hm
  clear hB hm
  go_enter Try.func61, Try.ntmps61
  go_wp2
  go_loopw [1, 5] (fun x i w' => ∃ j : Nat, j ≤ n ∧ i = .int .i64 j ∧ x = .int .i64 ((k + 2 * j : Nat) : Int) ∧ Below w.heap.size w w') (fun _ i _ => n - (intOf i).toNat)
  case atStart => exact ⟨0, Nat.zero_le _, rfl, rfl, Below.refl _ _⟩
  case round =>
    obtain ⟨j, hj, rfl, rfl, hb⟩ := hrel
    have HB : Hid (Below w.heap.size w wr) := hb
    have HK1 : Hid (Blk wr M cs 73) := HK.out.grow hb
    clear hb
    by_cases hlt : j < n
    · have hlt' : (j : Int) < (n : Int) := by omega
      obtain ⟨g0, g1⟩ := HM.out j hlt
      generalize hz : k + 2 * j = z at *
      have hne := Grown.some wr
      have hMr := HK1.out.lt
      have x0 := fun q : Grown wr => q.cell (p := ⟨M, j * 2, none⟩) hMr ((HK1.out.cell _).trans g0)
      have hd : ((mt z).toList == (mt z).toList) = true := beqS_yes rfl
      have HC : ∀ q : Grown wr, Hid (Calls Try.prog 60 #[.int .i64 z] q.out fun e w' => e = .returned (.string (mt z)) ∧ Below q.out.heap.size q.out w') := fun q => markText_any z _ (by omega) (by omega)
      go_wp2
      refine wp_over (z := wr) (by kernel_rfl) (by kernel_rfl) (Below.refl _ _) ?_
      repeat (go_big_quiet_step (first | (go_at_call 60; exact call_over (HC _).out)))
      refine wpQuiet_nil ?_
      intro w2 hw2
      have hb2 := over_bel hw2
      have HB2 : Hid (Below w.heap.size w w2) := grow_on HB.out hb2
      have HK2 : Hid (Blk w2 M cs 73) := HK1.out.grow hb2
      clear hw2 hne hb2 x0 hd HC
      have hne := Grown.some w2
      have hMr2 := HK2.out.lt
      have x0 := fun q : Grown w2 => q.cell (p := ⟨M, j * 2 + 1, none⟩) hMr2 ((HK2.out.cell _).trans g1)
      have hd : ((mt (z + 1)).toList == (mt (z + 1)).toList) = true := beqS_yes rfl
      have HC : ∀ q : Grown w2, Hid (Calls Try.prog 60 #[.int .i64 ((z + 1 : Nat) : Int)] q.out fun e w' => e = .returned (.string (mt (z + 1))) ∧ Below q.out.heap.size q.out w') := fun q => markText_any (z + 1) _ (by omega) (by omega)
      go_wp2
      have ez : (z : Int) + 1 = ((z + 1 : Nat) : Int) := by omega
      rw [ez]
      clear ez
      generalize hy : z + 1 = y at *
      refine wp_over (z := w2) (by kernel_rfl) (by kernel_rfl) (Below.refl _ _) ?_
      repeat (go_big_quiet_step (first | (go_at_call 60; exact call_over (HC _).out)))
      refine wpQuiet_nil ?_
      intro w3 hw3
      have hb3 := over_bel hw3
      have HB3 : Hid (Below w.heap.size w w3) := grow_on HB2.out hb3
      clear hw3 hne hb3 x0 hd HC
      go_wp2
      go_roundw
      case rel => exact ⟨j + 1, by omega, by go_num, by go_num, HB3.out⟩
      case measure => simp [intOf]; omega
    · have hge : ¬ (j : Int) < (n : Int) := by omega
      have HE : Hid (j = n) := by show j = n; omega
      go_wp2
      go_ret
      exact ⟨retI (by have := HE.out; omega), HB.out⟩
end Go.Proofs.Ytgncimlojbnbfaa.Mark
