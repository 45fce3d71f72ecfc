/-
  PROVED: FlushAt's contracts parted by whether the number is there; eqBatch, markBatch and heldBatch at the batch of none.
-/
import Derived.Test.YtgncimlojbnbfaaGpIf
import Derived.Test.YtgncimlojbnbfaaGpX
namespace Go.Proofs.Ytgncimlojbnbfaa.GpY
open Go.RowKit
open Go.Proofs.Ytgncimlojbnbfaa.Labs Go.Proofs.Ytgncimlojbnbfaa.LabS Go.Proofs.Ytgncimlojbnbfaa.Alms Go.Proofs.Ytgncimlojbnbfaa.Over Go.Proofs.Ytgncimlojbnbfaa.Blk Go.Proofs.Ytgncimlojbnbfaa.Rws Go.Proofs.Ytgncimlojbnbfaa.Grp Go.Proofs.Ytgncimlojbnbfaa.Gps Go.Proofs.Ytgncimlojbnbfaa.GpD Go.Proofs.Ytgncimlojbnbfaa.GpC Go.Proofs.Ytgncimlojbnbfaa.GpF Go.Proofs.Ytgncimlojbnbfaa.GpM Go.Proofs.Ytgncimlojbnbfaa.GpIf
set_option linter.unusedVariables false
theorem specF_none (a : Option Addr) (cap : Nat) (U : List PGr) (n now : Int) (w : World) (hr : RdGs GN w a U) (hl : U.length ≤ 1048576) (hcap : U.length ≤ cap ∧ cap ≤ maxLen) (hs : SmallG U) (he : ofI (numIs n) U = -1) :
    Calls Try.prog 32 #[.slice a U.length cap, .int .i64 n, .int .i64 now] w fun e w' => (∃ M c us, e = .returned (.tuple #[.slice (some ⟨M, 0, none⟩) us.length c, .agg #[.int .i64 0, .slice none 0 0, .int .i64 0, .slice none 0 0], .bool false]) ∧ GsB w.heap.size w' M c us ∧ grs us = U) ∧ Below w.heap.size w w' :=
  (specFlushA_any a cap U n now w hr hl hcap hs).mono fun e w' ⟨hd, hb⟩ => by
    rcases hd with ⟨_, M, c, us, h1, h2, _, h3⟩ | ⟨k, hk, _⟩
    · exact ⟨⟨M, c, us, h1, h2, h3⟩, hb⟩
    · rw [he] at hk; omega
theorem specF_some (a : Option Addr) (cap : Nat) (U : List PGr) (n now : Int) (k : Nat) (w : World) (hr : RdGs GN w a U) (hl : U.length ≤ 1048576) (hcap : U.length ≤ cap ∧ cap ≤ maxLen) (hs : SmallG U) (he : ofI (numIs n) U = (k : Int)) :
    Calls Try.prog 32 #[.slice a U.length cap, .int .i64 n, .int .i64 now] w fun e w' => (∃ M c us K2 kd2 M2 o2 c2 rs2, e = .returned (.tuple #[.slice (some ⟨M, 0, none⟩) us.length c, .agg #[.int .i64 (nthG U k).n, .slice (some ⟨K2, 0, none⟩) (nthG U k).key.length kd2, .int .i64 now, .slice (some ⟨M2, o2, none⟩) rs2.length c2], .bool true]) ∧ GsB w.heap.size w' M c us ∧ grs us = flushG U k now ∧ GB w.heap.size w' K2 (nthG U k).key M2 o2 rs2 ∧ pals rs2 = (nthG U k).P) ∧ Below w.heap.size w w' :=
  (specFlushA_any a cap U n now w hr hl hcap hs).mono fun e w' ⟨hd, hb⟩ => by
    rcases hd with ⟨h, _⟩ | ⟨k', hk, _, M, c, us, K2, kd2, M2, c2, rs2, h1, h2⟩
    · rw [he] at h; omega
    · have e2 : k' = k := by rw [he] at hk; omega
      subst e2
      exact ⟨⟨M, c, us, K2, kd2, M2, 0, c2, rs2, h1, h2.gs, h2.gr, h2.bt, h2.bp⟩, hb⟩
theorem implF_none (a : Option Addr) (cap : Nat) (U : List PGr) (n now : Int) (w : World) (hr : RdGs GN w a U) (hl : U.length ≤ 1048576) (hcap : U.length ≤ cap ∧ cap ≤ maxLen) (hs : SmallG U) (he : ofI (numIs n) U = -1) :
    Calls Try.prog 33 #[.slice a U.length cap, .int .i64 n, .int .i64 now] w fun e w' => (∃ M c us, e = .returned (.tuple #[.slice (some ⟨M, 0, none⟩) us.length c, .agg #[.int .i64 0, .slice none 0 0, .int .i64 0, .slice none 0 0], .bool false]) ∧ GsB w.heap.size w' M c us ∧ grs us = U) ∧ Below w.heap.size w w' :=
  (implFlushA_any a cap U n now w hr hl hcap hs).mono fun e w' ⟨hd, hb⟩ => by
    rcases hd with ⟨_, M, c, us, h1, h2, h3⟩ | ⟨k, hk, _⟩
    · exact ⟨⟨M, c, us, h1, h2, h3⟩, hb⟩
    · rw [he] at hk; omega
theorem implF_some (a : Option Addr) (cap : Nat) (U : List PGr) (n now : Int) (k : Nat) (w : World) (hr : RdGs GN w a U) (hl : U.length ≤ 1048576) (hcap : U.length ≤ cap ∧ cap ≤ maxLen) (hs : SmallG U) (he : ofI (numIs n) U = (k : Int)) :
    Calls Try.prog 33 #[.slice a U.length cap, .int .i64 n, .int .i64 now] w fun e w' => (∃ M c us K2 kd2 M2 o2 c2 rs2, e = .returned (.tuple #[.slice (some ⟨M, 0, none⟩) us.length c, .agg #[.int .i64 (nthG U k).n, .slice (some ⟨K2, 0, none⟩) (nthG U k).key.length kd2, .int .i64 now, .slice (some ⟨M2, o2, none⟩) rs2.length c2], .bool true]) ∧ GsB w.heap.size w' M c us ∧ grs us = flushG U k now ∧ GB w.heap.size w' K2 (nthG U k).key M2 o2 rs2 ∧ pals rs2 = (nthG U k).P ∧ ∀ q, blksG M us q → ¬ gblks K2 M2 rs2 q) ∧ Below w.heap.size w w' :=
  (implFlushA_any a cap U n now w hr hl hcap hs).mono fun e w' ⟨hd, hb⟩ => by
    rcases hd with ⟨h, _⟩ | ⟨k', hk, _, M, c, us, K2, kd2, M2, o2, c2, rs2, h1, h2, h3, h4, h5, h6⟩
    · rw [he] at h; omega
    · have e2 : k' = k := by rw [he] at hk; omega
      subst e2
      exact ⟨⟨M, c, us, K2, kd2, M2, o2, c2, rs2, h1, h2, h3, h4, h5, h6⟩, hb⟩
theorem markL0_any (a : Option Addr) (cap k : Nat) (w : World) : Calls Try.prog 58 #[.slice a 0 cap, .int .i64 (k : Int)] w fun e w' => e = .returned (.int .i64 (k : Int)) ∧ w' = w := by
  go_enter Try.func58, Try.ntmps58
  go_wp2
  go_loopw [1, 5] (fun x i w' => x = .int .i64 (k : Int) ∧ i = .int .i64 0 ∧ w' = w) (fun _ _ _ => 0)
  case atStart => exact ⟨rfl, rfl, rfl⟩
  case round =>
    obtain ⟨rfl, rfl, rfl⟩ := hrel
    go_wp2
    go_ret
    exact ⟨rfl, rfl⟩
theorem heldL0_any (a : Option Addr) (cap k : Nat) (w : World) : Calls Try.prog 61 #[.slice a 0 cap, .int .i64 (k : Int)] w fun e w' => e = .returned (.int .i64 (k : Int)) ∧ w' = w := by
  go_enter Try.func61, Try.ntmps61
  go_wp2
  go_loopw [1, 5] (fun x i w' => x = .int .i64 (k : Int) ∧ i = .int .i64 0 ∧ w' = w) (fun _ _ _ => 0)
  case atStart => exact ⟨rfl, rfl, rfl⟩
  case round =>
    obtain ⟨rfl, rfl, rfl⟩ := hrel
    go_wp2
    go_ret
    exact ⟨rfl, rfl⟩
theorem markA0_any (a : Option Addr) (cap k : Nat) (w : World) : Calls Try.prog 59 #[.slice a 0 cap, .int .i64 (k : Int)] w fun e w' => e = .returned (.int .i64 (k : Int)) ∧ w' = w := by
  go_enter Try.func59, Try.ntmps59
  go_wp2
  go_loopw [1, 5] (fun x i w' => x = .int .i64 (k : Int) ∧ i = .int .i64 0 ∧ w' = w) (fun _ _ _ => 0)
  case atStart => exact ⟨rfl, rfl, rfl⟩
  case round =>
    obtain ⟨rfl, rfl, rfl⟩ := hrel
    go_wp2
    go_ret
    exact ⟨rfl, rfl⟩
theorem heldA0_any (a : Option Addr) (cap k : Nat) (w : World) : Calls Try.prog 62 #[.slice a 0 cap, .int .i64 (k : Int)] w fun e w' => e = .returned (.int .i64 (k : Int)) ∧ w' = w := by
  go_enter Try.func62, Try.ntmps62
  go_wp2
  go_loopw [1, 5] (fun x i w' => x = .int .i64 (k : Int) ∧ i = .int .i64 0 ∧ w' = w) (fun _ _ _ => 0)
  case atStart => exact ⟨rfl, rfl, rfl⟩
  case round =>
    obtain ⟨rfl, rfl, rfl⟩ := hrel
    go_wp2
    go_ret
    exact ⟨rfl, rfl⟩
theorem markB0_any (k : Nat) (w : World) : Calls Try.prog 35 #[.agg #[.int .i64 0, .slice none 0 0, .int .i64 0, .slice none 0 0], .int .i64 (k : Int)] w fun e w' => e = .returned (.int .i64 (k : Int)) ∧ Below w.heap.size w w' := by
  have hq : ¬ (k : Int) < 0 := by omega
  go_enter Try.func35, Try.ntmps35
  go_wp2_with fail
  refine (markL0_any none 0 k _).mono ?_
  rintro r w1 ⟨rfl, rfl⟩
  go_wp2_with fail
  refine (markA0_any none 0 k _).mono ?_
  rintro r w2 ⟨rfl, rfl⟩
  go_wp2
  go_ret
  exact ⟨rfl, Go.Joins.below_alloc1 w _⟩
theorem heldB0_any (k : Nat) (w : World) : Calls Try.prog 36 #[.agg #[.int .i64 0, .slice none 0 0, .int .i64 0, .slice none 0 0], .int .i64 (k : Int)] w fun e w' => e = .returned (.int .i64 (k : Int)) ∧ Below w.heap.size w w' := by
  have hq : ¬ (k : Int) < 0 := by omega
  go_enter Try.func36, Try.ntmps36
  go_wp2_with fail
  refine (heldL0_any none 0 k _).mono ?_
  rintro r w1 ⟨rfl, rfl⟩
  go_wp2_with fail
  refine (heldA0_any none 0 k _).mono ?_
  rintro r w2 ⟨rfl, rfl⟩
  go_wp2
  go_ret
  exact ⟨rfl, Go.Joins.below_alloc1 w _⟩
theorem eqB0_any (w : World) : Calls Try.prog 34 #[.agg #[.int .i64 0, .slice none 0 0, .int .i64 0, .slice none 0 0], .agg #[.int .i64 0, .slice none 0 0, .int .i64 0, .slice none 0 0]] w fun e w' => e = .returned (.bool true) ∧ Below w.heap.size w w' :=
  Grp.eqBatch_any 0 0 none none 0 0 [] none none 0 0 [] w (.inl rfl) (.inl rfl) (Nat.zero_le _) (.inl rfl) (.inl rfl) (Nat.zero_le _) (fun i hi => by simp at hi)
end Go.Proofs.Ytgncimlojbnbfaa.GpY
