/-
  PROVED: the contracts of spec.ParseNum and impl.ParseNum at every string: both answer the number that the digits write, and true, where the text has one to five digits without a needless nought; 0 and false where not.
-/
import Derived.Test.YtmbejfbbolicfaaDoorRows
import Derived.Test.YtmbejfbbolicfaaDoorPlain
import Derived.WalkKit
import Derived.WalkLawsBesides
import Derived.WalkSpells
import Derived.Lib.Bytes
namespace Go.Proofs.YtmbejfbbolicfaaDoor.Parse
open Go.RowKit Go.Proofs.YtmbejfbbolicfaaDoor.Plain
set_option linter.unusedVariables false

def inB (x a b : Int) : Bool := decide (a ≤ x ∧ x ≤ b)
theorem inB_true {x a b : Int} (h1 : a ≤ x) (h2 : x ≤ b) : inB x a b = true := by simp [inB, h1, h2]
theorem inB_false {x a b : Int} (h : ¬ (a ≤ x ∧ x ≤ b)) : inB x a b = false := by simp [inB]; omega

theorem retB {a b : Bool} (h : a = b) : Ending.returned (.bool a) = .returned (.bool b) := by rw [h]

theorem l1In_any (x a b : Int) (w : World) :
    Calls Tryd.prog 19 #[.int .i64 x, .int .i64 a, .int .i64 b] w fun e w' => e = .returned (.bool (inB x a b)) ∧ w' = w := by
  by_cases h1 : a ≤ x
  · by_cases h2 : x ≤ b
    · go_enter Tryd.func19, Tryd.ntmps19
      go_wp2
      go_ret
      exact ⟨retB (inB_true h1 h2).symm, rfl⟩
    · go_enter Tryd.func19, Tryd.ntmps19
      go_wp2
      go_ret
      exact ⟨retB (inB_false (by omega)).symm, rfl⟩
  · go_enter Tryd.func19, Tryd.ntmps19
    go_wp2
    go_ret
    exact ⟨retB (inB_false (by omega)).symm, rfl⟩

theorem digit_any (x : Int) (w : World) :
    Calls Tryd.prog 17 #[.int .i32 x] w fun e w' => e = .returned (.bool (inB x 48 57)) ∧ w' = w := by
  by_cases h1 : 48 ≤ x
  · by_cases h2 : x ≤ 57
    · go_enter Tryd.func17, Tryd.ntmps17
      go_wp2
      go_ret
      exact ⟨retB (inB_true h1 h2).symm, rfl⟩
    · go_enter Tryd.func17, Tryd.ntmps17
      go_wp2
      go_ret
      exact ⟨retB (inB_false (by omega)).symm, rfl⟩
  · go_enter Tryd.func17, Tryd.ntmps17
    go_wp2
    go_ret
    exact ⟨retB (inB_false (by omega)).symm, rfl⟩

def pair (n : Int) (b : Bool) : Ending := .returned (.tuple #[.int .i64 n, .bool b])
theorem pair_no {s : ByteArray} (h : good s.data.toList = false) : Ending.returned (.tuple #[.int .i64 0, .bool false]) = pair (ans s.data.toList) (good s.data.toList) := by
  rw [ans_no h, h]; rfl
theorem pair_of {n m : Int} {a b : Bool} (h1 : n = m) (h2 : a = b) : Ending.returned (.tuple #[.int .i64 n, .bool a]) = pair m b := by
  rw [h1, h2]; rfl
theorem pair_yes {s : ByteArray} (h : good s.data.toList = true) {n : Int} (hn : n = val s.data.toList 0) : Ending.returned (.tuple #[.int .i64 n, .bool true]) = pair (ans s.data.toList) (good s.data.toList) := by
  rw [ans_yes h, h, hn]; rfl

set_option maxHeartbeats 1000000 in
theorem spec_any (s : ByteArray) (w : World) (hs : s.size ≤ maxLen) :
    Calls Tryd.prog 9 #[.string s] w fun e w' => e = pair (ans s.data.toList) (good s.data.toList) ∧ w' = w := by
  unfold maxLen at hs
  by_cases h0 : s.size = 0
  · have hb : ((s.size : Int) == 0) = true := by simp [h0]
    have HG : Hid (good s.data.toList = false) := good_empty s h0
    clear h0
    go_enter Tryd.func9, Tryd.ntmps9
    go_wp2
    go_ret2
    exact ⟨pair_no HG.out, rfl⟩
  · have hb : ((s.size : Int) == 0) = false := beq_eq_false_iff_ne.2 (by omega)
    by_cases h5 : 5 < (s.size : Int)
    · have HG : Hid (good s.data.toList = false) := good_long s (by omega)
      go_enter Tryd.func9, Tryd.ntmps9
      go_wp2
      go_ret2
      exact ⟨pair_no HG.out, rfl⟩
    · by_cases hz : ∃ h : 1 < s.size, (s[0].toNat : Int) = 48
      · obtain ⟨h1, hz⟩ := hz
        have h1' : 1 < (s.size : Int) := by omega
        have HG : Hid (good s.data.toList = false) := good_nought s h1 hz
        have hzb : ((s[0].toNat : Int) == 48) = true := by simpa using hz
        clear hz
        go_enter Tryd.func9, Tryd.ntmps9
        go_wp2
        go_ret2
        exact ⟨pair_no HG.out, rfl⟩
      · have hp : 0 < s.size := by omega
        have HF : Hid (s.size ≤ 1 ∨ (s[0].toNat : Int) ≠ 48) := by
          by_cases h1 : 1 < s.size
          · exact .inr fun h => hz ⟨h1, h⟩
          · exact .inl (by omega)
        have HZ : Hid (¬ ∃ h : 1 < s.size, (s[0].toNat : Int) = 48) := hz
        clear hz
        by_cases h1 : 1 < (s.size : Int)
        all_goals
          first
            | (have hzb : ((s[0].toNat : Int) == 48) = false := by
                 cases e : ((s[0].toNat : Int) == 48) with
                 | false => rfl
                 | true => exact absurd ⟨by omega, by simpa using e⟩ HZ.out
               clear HZ)
            | clear HZ
          go_enter Tryd.func9, Tryd.ntmps9
          go_wp2
          go_loop [4, 5] (fun n i => ∃ k : Nat, k ≤ s.size ∧ i = .int .i64 k ∧ n = .int .i64 (val (s.data.toList.take k) 0) ∧ digs s k) (fun _ i => s.size - (intOf i).toNat)
          case atStart => exact ⟨0, Nat.zero_le _, rfl, rfl, digs_zero s⟩
          case round =>
            obtain ⟨k, hk, rfl, rfl, hdg⟩ := hrel
            have HD : Hid (digs s k) := hdg
            have hv := val_five s k hk (by omega) hdg
            clear hdg
            by_cases hlt : k < s.size
            · have hlt' : (k : Int) < s.size := by omega
              have hle : (s[k].toNat : Int) ≤ 255 := by have := s[k].toNat_lt; omega
              by_cases hd : 48 ≤ (s[k].toNat : Int) ∧ (s[k].toNat : Int) ≤ 57
              · obtain ⟨hd1, hd2⟩ := hd
                have HS : Hid (val (s.data.toList.take (k + 1)) 0 = 10 * val (s.data.toList.take k) 0 + ((s[k].toNat : Int) - 48)) := val_take s k hlt
                have hin := inB_true hd1 hd2
                go_wp2_with (go_at_call 19; refine (l1In_any _ _ _ _).mono ?_; rintro e w' ⟨rfl, rfl⟩)
                go_round
                case rel => exact ⟨k + 1, by omega, by go_num, by rw [HS.out], digs_succ s k hlt HD.out ⟨hd1, hd2⟩⟩
                case measure => simp [intOf]; omega
              · have HN : Hid (good s.data.toList = false) := good_not_dig s k hlt hd
                have hin := inB_false hd
                clear hd
                go_wp2_with (go_at_call 19; refine (l1In_any _ _ _ _).mono ?_; rintro e w' ⟨rfl, rfl⟩)
                go_ret2
                exact ⟨pair_no HN.out, rfl⟩
            · have hk' : k = s.size := by omega
              have HY : Hid (good s.data.toList = true) := good_yes s hp (by omega) HF.out (hk' ▸ HD.out)
              have HV : Hid (val (s.data.toList.take k) 0 = val s.data.toList 0) := by rw [hk']; exact val_all s
              clear hk'
              have hge : ¬ (k : Int) < s.size := by omega
              go_wp2
              go_ret2
              exact ⟨pair_yes HY.out HV.out, rfl⟩

set_option maxHeartbeats 1000000 in
theorem impl_any (s : ByteArray) (w : World) (hs : s.size ≤ maxLen) :
    Calls Tryd.prog 7 #[.string s] w fun e w' => e = pair (ans s.data.toList) (good s.data.toList) ∧ ∃ pos, w' = w.iter s pos := by
  unfold maxLen at hs
  go_enter Tryd.func7, Tryd.ntmps7
  go_wp2
  go_loopw [4] (fun n w' => ∃ k : Nat, k ≤ s.size ∧ w' = w.iter s k ∧ n = .int .i64 (val (s.data.toList.take k) 0) ∧ digs s k ∧ val (s.data.toList.take k) 0 ≤ 99999 ∧ (k ≤ 1 ∨ ∃ h : 0 < s.size, (s[0].toNat : Int) ≠ 48)) (fun _ w' => s.size - w'.iterPos w.heap.size)
  case atStart => exact ⟨0, Nat.zero_le _, rfl, rfl, digs_zero s, by simp [val], .inl (by omega)⟩
  case round =>
    obtain ⟨k, hk, rfl, rfl, hdg, hv1, hf⟩ := hrel
    have HD : Hid (digs s k) := hdg
    have HF : Hid (k ≤ 1 ∨ ∃ h : 0 < s.size, (s[0].toNat : Int) ≠ 48) := hf
    have hv0 := (val_digs s k hk hdg).1
    clear hdg hf
    by_cases hlt : k < s.size
    · have hlt' : (k : Int) < s.size := by omega
      have hle : (s[k].toNat : Int) ≤ 255 := by have := s[k].toNat_lt; omega
      by_cases ha : s[k].toNat < 128
      · have hnx : ∀ ty, (Instr.next (.pointer (some ⟨w.heap.size, 0, none⟩)) true ty).run Tryd.prog (w.iter s k) = _ := fun ty => run_next_ascii w s k ty hlt ha
        by_cases hd : 48 ≤ (s[k].toNat : Int) ∧ (s[k].toNat : Int) ≤ 57
        · obtain ⟨hd1, hd2⟩ := hd
          have HS : Hid (val (s.data.toList.take (k + 1)) 0 = 10 * val (s.data.toList.take k) 0 + ((s[k].toNat : Int) - 48)) := val_take s k hlt
          have HD1 : Hid (digs s (k + 1)) := digs_succ s k hlt HD.out ⟨hd1, hd2⟩
          have hin := inB_true hd1 hd2
          by_cases hn : 0 < (k : Int) ∧ val (s.data.toList.take k) 0 = 0
          · obtain ⟨hn1, hn2⟩ := hn
            have HG : Hid (good s.data.toList = false) := by
              obtain ⟨j, rfl⟩ : ∃ j, k = j + 1 := ⟨k - 1, by omega⟩
              exact good_nought s (by omega) (nought_first s j (by omega) HD.out hn2)
            have hn2' : (val (s.data.toList.take k) 0 == 0) = true := by simpa using hn2
            clear hn2
            go_wp2_with (go_at_call 17; refine (digit_any _ _).mono ?_; rintro e w' ⟨rfl, rfl⟩)
            go_ret2
            exact ⟨pair_no HG.out, _, rfl⟩
          · have HN : Hid (¬ (0 < (k : Int) ∧ val (s.data.toList.take k) 0 = 0)) := hn
            clear hn
            by_cases hk0 : 0 < (k : Int)
            · have hnb : (val (s.data.toList.take k) 0 == 0) = false := beq_eq_false_iff_ne.2 fun h => HN.out ⟨hk0, h⟩
              by_cases hm : 99999 < 10 * val (s.data.toList.take k) 0 + ((s[k].toNat : Int) - 48)
              · have HG : Hid (good s.data.toList = false) := good_long s (beyond s k hlt HD1.out (by rw [HS.out]; exact hm))
                go_wp2_with (go_at_call 17; refine (digit_any _ _).mono ?_; rintro e w' ⟨rfl, rfl⟩)
                go_ret2
                exact ⟨pair_no HG.out, _, rfl⟩
              · have HM : Hid (val (s.data.toList.take (k + 1)) 0 ≤ 99999) := by show val (s.data.toList.take (k + 1)) 0 ≤ 99999; rw [HS.out]; omega
                have HF1 : Hid (∃ h : 0 < s.size, (s[0].toNat : Int) ≠ 48) := by
                  rcases HF.out with h | h
                  · have e : k = 1 := by omega
                    subst e
                    refine ⟨by omega, fun h0 => HN.out ⟨hk0, ?_⟩⟩
                    have := val_take s 0 (by omega)
                    rw [this, h0]; simp [val]
                  · exact h
                go_wp2_with (go_at_call 17; refine (digit_any _ _).mono ?_; rintro e w' ⟨rfl, rfl⟩)
                go_roundw
                case rel => exact ⟨k + 1, by omega, rfl, by rw [HS.out], HD1.out, HM.out, .inr HF1.out⟩
                case measure => simp; omega
            · have hk0' : (k : Int) ≤ 0 := by omega
              have HK : Hid (k = 0) := by show k = 0; omega
              have HV : Hid (val (s.data.toList.take k) 0 = 0) := by show val (s.data.toList.take k) 0 = 0; rw [HK.out]; simp [val]
              have hv2 : val (s.data.toList.take k) 0 ≤ 0 := by rw [HV.out]; omega
              have HM : Hid (val (s.data.toList.take (k + 1)) 0 ≤ 99999) := by show val (s.data.toList.take (k + 1)) 0 ≤ 99999; rw [HS.out]; omega
              go_wp2_with (go_at_call 17; refine (digit_any _ _).mono ?_; rintro e w' ⟨rfl, rfl⟩)
              go_roundw
              case rel => exact ⟨k + 1, by omega, rfl, by rw [HS.out], HD1.out, HM.out, .inl (by have := HK.out; omega)⟩
              case measure => simp; omega
        · have HN : Hid (good s.data.toList = false) := good_not_dig s k hlt hd
          have hin := inB_false hd
          clear hd
          go_wp2_with (go_at_call 17; refine (digit_any _ _).mono ?_; rintro e w' ⟨rfl, rfl⟩)
          go_ret2
          exact ⟨pair_no HN.out, _, rfl⟩
      · have hnx : ∀ ty, (Instr.next (.pointer (some ⟨w.heap.size, 0, none⟩)) true ty).run Tryd.prog (w.iter s k) = _ := fun ty => run_next_any w s k ty hlt
        have hhi := (decode_high s k hlt (by omega)).1
        have HN : Hid (good s.data.toList = false) := good_not_dig s k hlt (by omega)
        have hin : inB ((Utf8.decode s k).1 : Int) 48 57 = false := inB_false (by omega)
        go_wp2_with (go_at_call 17; refine (digit_any _ _).mono ?_; rintro e w' ⟨rfl, rfl⟩)
        go_ret2
        exact ⟨pair_no HN.out, _, rfl⟩
    · have hnx : ∀ ty, (Instr.next (.pointer (some ⟨w.heap.size, 0, none⟩)) true ty).run Tryd.prog (w.iter s k) = _ := fun ty => run_next_end w s k ty hlt
      have HK : Hid (k = s.size) := by show k = s.size; omega
      have HV : Hid (val (s.data.toList.take k) 0 = val s.data.toList 0) := by rw [HK.out]; exact val_all s
      have HE : Hid (val (s.data.toList.take k) 0 = ans s.data.toList ∧ (!s.toList.isEmpty) = good s.data.toList) := by
        show val (s.data.toList.take k) 0 = ans s.data.toList ∧ (!s.toList.isEmpty) = good s.data.toList
        rw [HV.out, Lib.toList_data]
        by_cases he : s.size = 0
        · have hl : s.data.toList = [] := List.length_eq_zero_iff.1 (by simpa using he)
          rw [ans_no (good_empty s he), good_empty s he, hl]
          exact ⟨rfl, rfl⟩
        · have hp : 0 < s.size := by omega
          have hd : digs s s.size := HK.out ▸ HD.out
          have hv : val (s.data.toList.take s.size) 0 ≤ 99999 := HK.out ▸ hv1
          have hy : good s.data.toList = true := by
            by_cases h1 : 1 < s.size
            · have h0 : (s[0].toNat : Int) ≠ 48 := by
                rcases HF.out with h | ⟨_, h⟩
                · have := HK.out; omega
                · exact h
              exact good_yes s hp (within s h1 hd h0 hv) (.inr h0) hd
            · exact good_yes s hp (by omega) (.inl (by omega)) hd
          have hl : s.data.toList.isEmpty = false := by
            cases e : s.data.toList with
            | nil => have : s.data.toList.length = s.size := by simp
                     rw [e] at this; simp at this; omega
            | cons a l => rfl
          rw [ans_yes hy, hy, hl]
          exact ⟨rfl, rfl⟩
      go_wp2
      go_ret2
      exact ⟨pair_of HE.out.1 HE.out.2, _, rfl⟩
end Go.Proofs.YtmbejfbbolicfaaDoor.Parse
