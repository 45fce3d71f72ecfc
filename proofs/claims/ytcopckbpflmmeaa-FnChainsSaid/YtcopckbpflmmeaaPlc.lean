/-
  PROVED: impl.places hands out an iterator that goes through a chain's alarms from the first to the last, each with its place, for every loop body that keeps what lay ahead.
-/
import Derived.Test.YtcopckbpflmmeaaRnd
import Derived.Test.YtcopckbpflmmeaaAlms
namespace Go.Proofs.Ytcopckbpflmmeaa.Plc
open Go.RowKit Go.Shelf
open Go.Proofs.Ytcopckbpflmmeaa.Labs Go.Proofs.Ytcopckbpflmmeaa.LabS Go.Proofs.Ytcopckbpflmmeaa.Alms Go.Proofs.Ytcopckbpflmmeaa.Over Go.Proofs.Ytcopckbpflmmeaa.Blk Go.Proofs.Ytcopckbpflmmeaa.Rnd
set_option linter.unusedVariables false
attribute [local go_sem] Oper.semAt_some

theorem pick {w : World} {a : Option Addr} {P : List PAl} (h : RdA w a P) : ∃ (b off : Nat) (ad : Nat → Option Addr) (cp : Nat → Nat), (P = [] ∨ (a = some ⟨b, off, none⟩ ∧ b < w.heap.size)) ∧ ∀ i, i < P.length → At w b off i (nthP P i) (ad i) (cp i) := by
  rcases h with h | ⟨b, off, e, hb, hc⟩
  · exact ⟨0, 0, fun _ => none, fun _ => 0, .inl h, fun i hi => by rw [h] at hi; simp at hi⟩
  · have hc' : ∀ i, ∃ q : Option Addr × Nat, i < P.length → At w b off i (nthP P i) q.1 q.2 := fun i => by
      by_cases hi : i < P.length
      · obtain ⟨ad, cap, h⟩ := hc i hi
        exact ⟨(ad, cap), fun _ => h⟩
      · exact ⟨(none, 0), fun h => absurd h hi⟩
    obtain ⟨f, hf⟩ := Classical.axiomOfChoice hc'
    exact ⟨b, off, fun i => (f i).1, fun i => (f i).2, .inr ⟨e, hb⟩, fun i hi => hf i hi⟩

/-- an alarm as a value -/
def alV (x : PAl) (ad : Option Addr) (cp : Nat) : Value := .agg #[.slice ad x.l.length cp, .int .i64 x.s, .int .i64 x.e, .string x.n]
/-- what the iterator hands to a round -/
def enc (P : List PAl) (ad : Nat → Option Addr) (cp : Nat → Nat) (x : Fin P.length) : Array Value := #[.int .i64 (x.1 : Int), .agg #[.slice (ad x.1) (nthP P x.1).l.length (cp x.1), .int .i64 (nthP P x.1).s, .int .i64 (nthP P x.1).e, .string (nthP P x.1).n]]
/-- one behind the other, from the first -/
def InTurn {n : Nat} (xs : List (Fin n)) : Prop := ∀ i, (h : i < xs.length) → (xs[i]).1 = i
theorem good_nil {n : Nat} : InTurn ([] : List (Fin n)) := fun i h => by simp at h
theorem good_add {n : Nat} {xs : List (Fin n)} (h : InTurn xs) (x : Fin n) (hx : x.1 = xs.length) : InTurn (xs ++ [x]) := fun i hi => by
  by_cases e : i < xs.length
  · rw [List.getElem_append_left e]; exact h i e
  · have : i = xs.length := by simp at hi; omega
    subst this
    simp [hx]
theorem good_front {n : Nat} {xs : List (Fin n)} {x : Fin n} (h : InTurn (xs ++ [x])) : InTurn xs ∧ x.1 = xs.length := by
  refine ⟨fun i hi => ?_, ?_⟩
  · have := h i (by simp; omega)
    rwa [List.getElem_append_left hi] at this
  · have := h xs.length (by simp)
    simpa using this
theorem good_has {n : Nat} {xs : List (Fin n)} (h : InTurn xs) {i : Nat} (hi : i < xs.length) : ∃ x ∈ xs, x.1 = i := ⟨xs[i], List.getElem_mem _, h i hi⟩

theorem places_any (f : Int) (a : Option Addr) (n cap : Nat) (w : World) :
    Calls Try.prog 52 #[.agg #[.int .i64 f, .slice a n cap]] w fun e w' => e = .returned (.func (.func 95) #[] #[.pointer (some ⟨w.heap.size, 0, none⟩)]) ∧ w' = w.alloc (.cells #[.int .i64 f, .slice a n cap] 26) := by
  go_enter Try.func52, Try.ntmps52
  go_wp2
  go_ret
  exact ⟨rfl, rfl⟩

theorem cell_kept' {n₀ : Nat} {w w' : World} (h : Below n₀ w w') {b i : Nat} (hb : b < n₀) {v : Value} (hv : w.cell? ⟨b, i, none⟩ = some v) : w'.cell? ⟨b, i, none⟩ = some v := (h.cell (p := ⟨b, i, none⟩) hb).trans hv

set_option maxRecDepth 100000 in
set_option maxHeartbeats 4000000 in
theorem iter_stops (n B n₀ : Nat) (P : List PAl) (a : Option Addr) (cap b off : Nat) (ad : Nat → Option Addr) (cp : Nat → Nat) (w : World) (hB : B < w.heap.size) (hn₀ : n₀ ≤ w.heap.size) (hc : w.cell? ⟨B, 1, none⟩ = some (.slice a P.length cap)) (hl : P.length ≤ 1048576)
    (ha : P = [] ∨ (a = some ⟨b, off, none⟩ ∧ b < n₀)) (hat : ∀ i, i < P.length → At w b off i (nthP P i) (ad i) (cp i)) :
    SeqStopsK Fence.wide n Try.prog 95 #[.pointer (some ⟨B, 0, none⟩)] (enc P ad cp) (Below n₀) (fun xs => xs.length = P.length ∧ InTurn xs) InTurn P.length w := fun l J Jx W hW hJ hJx hY h0 => by
  have hcB : W.cell? ⟨B, 1, none⟩ = some (.slice a P.length cap) := (hW.cell (p := ⟨B, 1, none⟩) hB).trans hc
  have HA : Hid (∀ i, i < P.length → At W b off i (nthP P i) (ad i) (cp i)) := fun i hi => (hat i hi).below hW (by
    rcases ha with e | ⟨_, hb⟩
    · rw [e] at hi; simp at hi
    · omega)
  have HJ : Hid (∀ (pre : List (Fin P.length)) (X : World) (o : Obj), J pre X → J pre (X.alloc o)) := fun pre X o h => hJ pre X _ none h (World.grownBy_alloc X o none) (fun r e => by cases e)
  have HY : Hid (∀ pre x W1, J pre W1 → pre.length < P.length → YieldAt Fence.wide (n - 1) Try.prog l (enc P ad cp x) W1 fun e W' =>
      (e = .returned (.bool true) ∧ J (pre ++ [x]) W' ∧ Below n₀ W1 W') ∨ (e = .returned (.bool false) ∧ Jx (pre ++ [x]) W')) := hY
  have H0 : Hid (J [] W) := h0
  have HN : Hid (n₀ ≤ W.heap.size) := Nat.le_trans hn₀ hW.size
  clear hW hJ hJx hY h0 hc hat hB hn₀
  refine callsIn_of_wp Try.func95 rfl trivial ?_ rfl
  simp only [Try.ntmps95, List.size_toArray, List.length_cons, List.length_nil, Nat.reduceAdd, Nat.reduceSub, Array.replicate_succ, Array.replicate_zero, List.push_toArray, List.append_toArray, List.nil_append, List.cons_append]
  gi_wp2
  gi_loopw [8] (fun i wr => ∃ (k : Nat) (pre : List (Fin P.length)), i = .int .i64 k ∧ k ≤ P.length ∧ pre.length = k ∧ InTurn pre ∧ J pre wr ∧ Below n₀ W wr) (fun i _ => P.length - (intOf i).toNat)
  case atStart => exact ⟨0, [], rfl, Nat.zero_le _, rfl, good_nil, H0.out, Below.refl _ _⟩
  case round =>
    obtain ⟨k, pre, rfl, hk, hpl, hg, hj, hbw⟩ := hrel
    have HG : Hid (InTurn pre ∧ pre.length = k) := ⟨hg, hpl⟩
    have HJ1 : Hid (J pre wr) := hj
    have HB : Hid (Below n₀ W wr) := hbw
    clear hg hpl hj hbw
    by_cases hlt : k < P.length
    · have hlt' : (k : Int) < (P.length : Int) := by omega
      obtain ⟨rfl, hb⟩ : a = some ⟨b, off, none⟩ ∧ b < n₀ := by
        rcases ha with e | h
        · rw [e] at hlt; simp at hlt
        · exact h
      have hx := HA.out k hlt
      have c0 := cell_kept' HB.out hb hx.c0
      have c1 := cell_kept' HB.out hb hx.c1
      have c2 := cell_kept' HB.out hb hx.c2
      have c3 := cell_kept' HB.out hb hx.c3
      obtain ⟨fn, tmps, assign, body, hy, hR⟩ := HY.out pre ⟨k, hlt⟩ (wr.alloc (.cells #[.slice (ad k) (nthP P k).l.length (cp k), .int .i64 (nthP P k).s, .int .i64 (nthP P k).e, .string (nthP P k).n] 29)) (HJ.out _ _ _ HJ1.out) (by rw [HG.out.2]; exact hlt)
      dsimp only [enc] at hy
      have HR : Hid (RoundIn Fence.wide (n - 1) Try.prog l fn tmps assign body (wr.alloc (.cells #[.slice (ad k) (nthP P k).l.length (cp k), .int .i64 (nthP P k).s, .int .i64 (nthP P k).e, .string (nthP P k).n] 29)) fun e W' => (e = .returned (.bool true) ∧ J (pre ++ [⟨k, hlt⟩]) W' ∧ Below n₀ (wr.alloc (.cells #[.slice (ad k) (nthP P k).l.length (cp k), .int .i64 (nthP P k).s, .int .i64 (nthP P k).e, .string (nthP P k).n] 29)) W') ∨ (e = .returned (.bool false) ∧ Jx (pre ++ [⟨k, hlt⟩]) W')) := hR
      clear hx hR
      gi_wp2
      refine ⟨fun e => (by cases e), HR.out.mono ?_⟩
      rintro e W3 (⟨rfl, hJ3, hk3⟩ | ⟨rfl, hJx3⟩)
      · have HJ3 : Hid (J (pre ++ [⟨k, hlt⟩]) W3) := hJ3
        have HB3 : Hid (Below n₀ W W3) := (HB.out.alloc (Nat.le_trans HN.out HB.out.size) _).trans hk3
        clear hJ3 hk3 c0 c1 c2 c3 hy HR
        gi_wp2
        go_roundw
        case rel => exact ⟨k + 1, _, by go_num, by omega, by simp [HG.out.2], good_add HG.out.1 _ HG.out.2.symm, HJ3.out, HB3.out⟩
        case measure => simp [intOf]; omega
      · have HJ3 : Hid (Jx (pre ++ [⟨k, hlt⟩]) W3) := hJx3
        clear hJx3 c0 c1 c2 c3 hy HR
        gi_wp2
        refine bodyPost_ret (results_none rfl _ _ _) rfl ?_
        exact ⟨⟨_, rfl⟩, .inr ⟨_, good_add HG.out.1 _ HG.out.2.symm, HJ3.out⟩⟩
    · have hge : ¬ (k : Int) < (P.length : Int) := by omega
      have HE : Hid (k = P.length) := by show k = P.length; omega
      gi_wp2
      go_end0
      exact ⟨⟨_, rfl⟩, .inl ⟨pre, ⟨HG.out.2.trans HE.out, HG.out.1⟩, HJ1.out⟩⟩
end Go.Proofs.Ytcopckbpflmmeaa.Plc
