/-
  PROVED: spec.HeapDrop answers a row of the call's own that holds what the plain drop says; nothing that was there is changed.
-/
import Derived.Test.YtcjhieknmblbbaaHpS
namespace Go.Proofs.Ytcjhieknmblbbaa.HpD
open Go.RowKit
open Go.Proofs.Ytcjhieknmblbbaa.Hp Go.Proofs.Ytcjhieknmblbbaa.Tms Go.Proofs.Ytcjhieknmblbbaa.TmO Go.Proofs.Ytcjhieknmblbbaa.TmR Go.Proofs.Ytcjhieknmblbbaa.HpS Go.Proofs.Ytcjhieknmblbbaa.Over Go.Proofs.Ytcjhieknmblbbaa.Blk Go.Proofs.Ytcjhieknmblbbaa.App
set_option linter.unusedVariables false
def dropTo (l : List Tm) (n : Int) (k : Nat) : List Tm := dropT (l.take k) n
theorem dropTo_len (l : List Tm) (n : Int) (k : Nat) : (dropTo l n k).length ≤ k := by
  unfold dropTo
  rw [(drop_perm _ n).length_eq, keepN]
  exact Nat.le_trans (List.length_filter_le _ _) (by simp; omega)
theorem dropTo_all (l : List Tm) (n : Int) : dropTo l n l.length = dropT l n := by unfold dropTo; rw [List.take_length]
theorem dropTo_keep {l : List Tm} {n : Int} {k : Nat} (hk : k < l.length) (h : (nthT l k).2 ≠ n) : dropTo l n (k + 1) = putT (dropTo l n k) (nthT l k) := by
  unfold dropTo dropT keepN putAll
  rw [take_up hk, List.filter_append, List.foldl_append, List.filter_cons_of_pos (by simpa using h)]; rfl
theorem dropTo_skip {l : List Tm} {n : Int} {k : Nat} (hk : k < l.length) (h : (nthT l k).2 = n) : dropTo l n (k + 1) = dropTo l n k := by
  unfold dropTo dropT keepN putAll
  rw [take_up hk, List.filter_append, List.foldl_append, List.filter_cons_of_neg (by simpa using h)]; rfl
theorem ot_nil {lo : Nat} {w : World} (h : lo ≤ w.heap.size) : OT lo (w.alloc (.cells #[] 26)) w.heap.size 0 [] :=
  ⟨h, Nat.le_refl _, Nat.zero_le _, #[], Blk.new _ _ _, rfl, fun j hj => by simp at hj⟩
theorem retO {M c : Nat} {l m : List Tm} (h : l = m) : Ending.returned (.slice (some ⟨M, 0, none⟩) l.length c) = .returned (.slice (some ⟨M, 0, none⟩) m.length c) := by rw [h]

set_option maxHeartbeats 800000 in
theorem specDrop_any (a : Option Addr) (cap : Nat) (l : List Tm) (n : Int) (w : World) (hr : RdT w a l) (hl : l.length ≤ 10000000) :
    Calls Try.prog 26 #[.slice a l.length cap, .int .i64 n] w fun e w' => (∃ M c, e = .returned (.slice (some ⟨M, 0, none⟩) (dropT l n).length c) ∧ OT w.heap.size w' M c (dropT l n)) ∧ Below w.heap.size w w' := by
  have HR : Hid (RdT w a l) := hr
  clear hr
  go_enter Try.func26, Try.ntmps26
  go_wp2
  go_loopw [5, 6] (fun s i w' => ∃ (k M c m : Nat), k ≤ l.length ∧ i = .int .i64 k ∧ s = .slice (some ⟨M, 0, none⟩) m c ∧ m = (dropTo l n k).length ∧ OT w.heap.size w' M c (dropTo l n k) ∧ Below w.heap.size w w') (fun _ i _ => l.length - (intOf i).toNat)
  case atStart => exact ⟨0, _, 0, 0, Nat.zero_le _, rfl, rfl, rfl, ot_nil (Nat.le_refl _), (Below.refl _ _).alloc (Nat.le_refl _) _⟩
  case round =>
    obtain ⟨k, M, c, m, hk, rfl, rfl, hm, ho, hb⟩ := hrel
    have HB : Hid (Below w.heap.size w wr) := hb
    have HO : Hid (OT w.heap.size wr M c (dropTo l n k)) := ho
    have HM : Hid (m = (dropTo l n k).length) := hm
    have HR1 : Hid (RdT wr a l) := HR.out.below hb
    clear hm ho hb
    by_cases hlt : k < l.length
    · have hlt' : (k : Int) < (l.length : Int) := by omega
      obtain ⟨b, off, rfl, hb, hc⟩ := HR1.out.get hlt
      obtain ⟨h0, h1⟩ := hc k hlt
      clear hc
      by_cases he : (nthT l k).2 = n
      · have hd : ((nthT l k).2 != n) = false := by simpa using he
        have HE : Hid (dropTo l n (k + 1) = dropTo l n k) := dropTo_skip hlt he
        clear he
        go_wp2
        go_roundw
        case rel => exact ⟨k + 1, M, c, m, by omega, by go_num, rfl, by rw [HE.out]; exact HM.out, by rw [HE.out]; exact HO.out, HB.out⟩
        case measure => simp [intOf]; omega
      · have hd : ((nthT l k).2 != n) = true := by simpa using he
        have HE : Hid (dropTo l n (k + 1) = putT (dropTo l n k) (nthT l k)) := dropTo_keep hlt he
        clear he
        have HC : Hid (Calls Try.prog 25 #[.slice (some ⟨M, 0, none⟩) m c, .agg #[.int .i64 (nthT l k).1, .int .i64 (nthT l k).2]] wr fun e w' => (∃ M2 c2, e = .returned (.slice (some ⟨M2, 0, none⟩) (putT (dropTo l n k) (nthT l k)).length c2) ∧ OT wr.heap.size w' M2 c2 (putT (dropTo l n k) (nthT l k))) ∧ Below wr.heap.size wr w') := by
          rw [HM.out]
          exact specPut_any M 0 c (dropTo l n k) (nthT l k) wr HO.out.rd (by have := dropTo_len l n k; omega)
        go_wp2_with fail
        refine HC.out.mono ?_
        rintro e w2 ⟨⟨M2, c2, rfl, ho2⟩, hb2⟩
        have HB2 : Hid (Below w.heap.size w w2) := grow_on HB.out hb2
        have HO2 : Hid (OT w.heap.size w2 M2 c2 (putT (dropTo l n k) (nthT l k))) := ho2.down HB.out.size
        clear ho2 hb2 HC h0 h1
        go_wp2
        go_roundw
        case rel => exact ⟨k + 1, M2, c2, _, by omega, by go_num, rfl, by rw [HE.out], by rw [HE.out]; exact HO2.out, HB2.out⟩
        case measure => simp [intOf]; omega
    · have hge : ¬ (k : Int) < (l.length : Int) := by omega
      have HE : Hid (dropTo l n k = dropT l n) := by have : k = l.length := by omega
                                                     rw [this]; exact dropTo_all l n
      go_wp2
      go_ret
      exact ⟨⟨M, c, by rw [← HE.out, ← HM.out]; rfl, by rw [← HE.out]; exact HO.out⟩, HB.out⟩
end Go.Proofs.Ytcjhieknmblbbaa.HpD
