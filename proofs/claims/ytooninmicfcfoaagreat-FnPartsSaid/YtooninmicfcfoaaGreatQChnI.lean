/-
  PROVED: a region that draws its order, inside a round of a range over a function: what holds of every order outside a round holds inside one.
  PROVED: impl.places hands out an iterator that goes through a chain's alarms from the first to the last, each with its place, for every loop body that keeps what lay ahead.
  PROVED: a loop over a chain's places, as one law: what each round must keep, and what stands behind the loop.
  PROVED: over a chain and labels in memory impl.InChain answers as a plain function on lists says; nothing that was there is changed.
-/
import Derived.Test.YtooninmicfcfoaaGreatQOver
import Derived.Deep.RegionHeld3
import Derived.RangeFuncNested
import Derived.RangeFuncBound
import Derived.RangeFuncLeaves
import Derived.Shelf.Abstract
import Derived.OwnWalkIn
import Derived.TacticsInMore
import Derived.LoopNIn
import Derived.LoopIn
import Derived.OrdersIn
import Derived.Test.YtooninmicfcfoaaGreatQAlmsK
import Derived.Test.YtooninmicfcfoaaGreatQApp
import Derived.Test.YtooninmicfcfoaaGreatQLst
set_option linter.unusedVariables false
namespace Go.Proofs.YtooninmicfcfoaaGreat.Rnd
open Go.RowKit Over

def calmO (o : Oper) : Bool :=
  match o.op with
  | .defer _ => false
  | _ => true
def calm (ops : Array Oper) : Bool := ops.toList.all calmO
theorem calm_at {ops : Array Oper} (h : calm ops = true) {i : Nat} {o : Oper} (hi : ops[i]? = some o) : ∀ c, o.op ≠ .defer c := fun c e => by
  have h1 := List.all_eq_true.1 h o (by simpa using Array.mem_of_getElem? hi)
  unfold calmO at h1
  rw [e] at h1
  cases h1
theorem rows_in {n l : Nat} {P : Program} {row : String} {args : Array Value} {w : World} {R : Value → World → Prop} (h : Rows P row args w R) : RowsIn (Fence.wide.inRound l) n P row args w R := fun c cs _ => by
  obtain ⟨v, w', hr, hs⟩ := h c cs
  exact ⟨v, w', hr, stepsIn_wide.2 hs⟩
theorem calls_in {n l : Nat} {P : Program} {f : FuncId} {args : Array Value} {w : World} {R : Ending → World → Prop} (h : Calls P f args w R) : CallsIn (Fence.wide.inRound l) n P f args w R :=
  CallsIn.inRound l (callsIn_wide.2 h)

section
variable {P : Program} {ops : Array Oper} {Q : Exit → Act → World → Prop} {md : Region.Mode} {l n : Nat}
theorem oper_in {o : Oper} {K K' : Act → World → Prop} {a : Act} {w : World} (hc : ∀ c, o.op ≠ .defer c) (hK : ∀ a w, K a w → K' a w) (h : o.wp P a w K Q) : o.wpIn (Fence.wide.inRound l) n P a w K' Q := by
  refine ⟨fun _ _ => trivial, ?_⟩
  show o.uponIn _ _ _ _ _ _ ((o.semAt (some l) a.eval).run P w)
  rw [Oper.semAt_some l a.eval o hc]
  unfold Oper.wp at h
  generalize (execOp a.eval o).run P w = r at *
  cases r with
  | ok x w' =>
    cases x with
    | value v => exact hK _ _ h
    | skip => exact hK _ _ h
    | defer d => exact hK _ _ h
    | enter f args =>
      refine ⟨fun e => (by cases e), calls_in (Calls.mono h fun e w'' he => ?_)⟩
      cases e with
      | returned v => exact hK _ _ he
      | panicked c => exact he
      | outgrown => exact he
    | row row args => exact ⟨fun e => (by cases e), rows_in (Rows.mono h fun v w'' he => hK _ _ he)⟩
    | round l f tmps assign body => exact h.elim
    | _ => exact h
  | halt x w' =>
    cases x with
    | panic v => exact h
    | _ => exact h
theorem op_in {i : Nat} {K K' : Act → World → Prop} {a : Act} {w : World} (hq : ¬ LetsOut Q) (hc : calm ops = true) (hK : ∀ a w, K a w → K' a w) (h : wpOp P ops Q i K a w) : wpOpIn (Fence.wide.inRound l) n P ops Q i K' a w := by
  unfold wpOp at h
  unfold wpOpIn
  split
  · rename_i hi
    simp only [hi] at h
    exact hK _ _ h
  · rename_i o hi
    simp only [hi] at h
    split
    · rename_i hw
      simp only [hw, if_true] at h
      rcases h with h | h
      · exact oper_in (calm_at hc hi) hK h
      · exact absurd h.2 hq
    · rename_i hw
      simp only [hw] at h
      exact ⟨fun _ _ => trivial, hK _ _ h⟩
theorem any_in (hq : ¬ LetsOut Q) (hc : calm ops = true) : ∀ (fuel : Nat) (listed : Array Bool) (a : Act) (w : World), wpAny P md ops Q fuel listed a w → wpAnyIn (Fence.wide.inRound l) n P md ops Q fuel listed a w
  | 0, _, _, _, h => h
  | fuel + 1, _, _, _, h => ⟨h.1, fun i hi => op_in hq hc (fun a w h => any_in hq hc fuel _ a w h) (h.2 i hi)⟩

theorem held_in {S : World → Prop} {id : Nat} {a : Act} {w : World} (hm : P.follows .mixedOrders = true) (hc : calm ops = true) (hq : ¬ LetsOut Q) (hS : S w.drew)
    (h : S w.drew → wpAnyH P .any ops Q S ops.size (Array.replicate ops.size false) a w.drew) : (Code.region id ops true).wpIn (Fence.wide.inRound l) n P Q a w :=
  wpIn_region_any hm (any_in hq hc _ _ _ _ (wpAny_of_held _ _ _ _ (h hS)))
theorem over_in {os : List Oper} {id : Nat} {a : Act} {w z : World} (hm : P.follows .mixedOrders = true) (hB : Region.lexB .any os.toArray = true) (hc : calm os.toArray = true) (hq : ¬ LetsOut Q) (hz : Below z.heap.size z w)
    (h : wpQuiet P os.toArray (fun w' => ∃ x : Grown z, w' = x.out) (fun a' => ∀ w', (∃ x : Grown z, w' = x.out) → Q .normal a' w') os a) : (Code.region id os.toArray true).wpIn (Fence.wide.inRound l) n P Q a w := by
  simp only [Region.lexB, Bool.and_eq_true] at hB
  refine wpIn_region_any hm (any_in hq hc _ _ _ _ (wpAny_of_quiet (C := fun w' => ∃ x : Grown z, w' = x.out) (Q := fun a' => ∀ w', (∃ x : Grown z, w' = x.out) → Q .normal a' w') (fun _ w' hw' h => h w' hw') _ _ _ _ ⟨⟨_, hz.drew⟩, rfl⟩ ?_))
  have := wpAnyQ_lex (P := P) (C := fun w' => ∃ x : Grown z, w' = x.out) (md := .any) hB.1 os 0 (Array.replicate os.toArray.size false) a (by simp) (by simpa using hB.2) h
  simpa using this
end

theorem keeps_of {B : Nat} {W W' : World} (h : Below W.heap.size W W') : KeepsFrom B W W' :=
  ⟨h.size, fun k o _ hk _ => (h.block k (Array.getElem?_eq_some_iff.1 hk).1).trans hk⟩
end Go.Proofs.YtooninmicfcfoaaGreat.Rnd
namespace Go.Proofs.YtooninmicfcfoaaGreat.Plc
open Go.RowKit Go.Shelf
open Labs LabS Alms Over Blk Rnd
attribute [local go_sem] Oper.semAt_some

theorem pick {w : World} {a : Option Addr} {P : List PAl} (h : RdA w a P) : ∃ (b off : Nat) (ad : Nat → Option Addr) (cp : Nat → Nat), (P = [] ∨ (a = some ⟨b, off, none⟩ ∧ b < w.heap.size)) ∧ ∀ i, i < P.length → At w b off i (nthP P i) (ad i) (cp i) := by
  rcases h with h | ⟨b, off, e, hb, hc⟩
  · exact ⟨0, 0, fun _ => none, fun _ => 0, .inl h, fun i hi => by rw [h] at hi; simp at hi⟩
  · have hc' : ∀ i, ∃ q : Option Addr × Nat, i < P.length → At w b off i (nthP P i) q.1 q.2 := fun i => by
      by_cases hi : i < P.length
      · obtain ⟨ad, cap, h⟩ := hc i hi
        exact ⟨(ad, cap), fun _ => h⟩
      · exact ⟨(none, 0), fun h => absurd h hi⟩
    obtain ⟨f, hf⟩ := Classical.axiomOfChoice hc'
    exact ⟨b, off, fun i => (f i).1, fun i => (f i).2, .inr ⟨e, hb⟩, fun i hi => hf i hi⟩

def enc (P : List PAl) (ad : Nat → Option Addr) (cp : Nat → Nat) (x : Fin P.length) : Array Value := #[.int .i64 (x.1 : Int), .agg #[.slice (ad x.1) (nthP P x.1).l.length (cp x.1), .int .i64 (nthP P x.1).s, .int .i64 (nthP P x.1).e, .string (nthP P x.1).n]]
def InTurn {n : Nat} (xs : List (Fin n)) : Prop := ∀ i, (h : i < xs.length) → (xs[i]).1 = i
theorem good_nil {n : Nat} : InTurn ([] : List (Fin n)) := fun i h => by simp at h
theorem good_add {n : Nat} {xs : List (Fin n)} (h : InTurn xs) (x : Fin n) (hx : x.1 = xs.length) : InTurn (xs ++ [x]) := fun i hi => by
  by_cases e : i < xs.length
  · rw [List.getElem_append_left e]; exact h i e
  · have : i = xs.length := by simp at hi; omega
    subst this
    simp [hx]
theorem good_front {n : Nat} {xs : List (Fin n)} {x : Fin n} (h : InTurn (xs ++ [x])) : InTurn xs ∧ x.1 = xs.length := by
  refine ⟨fun i hi => ?_, ?_⟩
  · have := h i (by simp; omega)
    rwa [List.getElem_append_left hi] at this
  · have := h xs.length (by simp)
    simpa using this
theorem good_has {n : Nat} {xs : List (Fin n)} (h : InTurn xs) {i : Nat} (hi : i < xs.length) : ∃ x ∈ xs, x.1 = i := ⟨xs[i], List.getElem_mem _, h i hi⟩

theorem places_any (f : Int) (a : Option Addr) (n cap : Nat) (w : World) :
    Calls Tryz.prog 128 #[.agg #[.int .i64 f, .slice a n cap]] w fun e w' => e = .returned (.func (.func 167) #[] #[.pointer (some ⟨w.heap.size, 0, none⟩)]) ∧ w' = w.alloc (.cells #[.int .i64 f, .slice a n cap] 96) := by
  go_enter Tryz.func128, Tryz.ntmps128
  go_wp2
  go_ret
  exact ⟨rfl, rfl⟩

theorem cell_kept' {n₀ : Nat} {w w' : World} (h : Below n₀ w w') {b i : Nat} (hb : b < n₀) {v : Value} (hv : w.cell? ⟨b, i, none⟩ = some v) : w'.cell? ⟨b, i, none⟩ = some v := (h.cell (p := ⟨b, i, none⟩) hb).trans hv

set_option maxRecDepth 100000 in
set_option maxHeartbeats 4000000 in
theorem iter_stops (n B n₀ : Nat) (P : List PAl) (a : Option Addr) (cap b off : Nat) (ad : Nat → Option Addr) (cp : Nat → Nat) (w : World) (hB : B < w.heap.size) (hn₀ : n₀ ≤ w.heap.size) (hc : w.cell? ⟨B, 1, none⟩ = some (.slice a P.length cap)) (hl : P.length ≤ 1048576)
    (ha : P = [] ∨ (a = some ⟨b, off, none⟩ ∧ b < n₀)) (hat : ∀ i, i < P.length → At w b off i (nthP P i) (ad i) (cp i)) :
    SeqStopsK Fence.wide n Tryz.prog 167 #[.pointer (some ⟨B, 0, none⟩)] (enc P ad cp) (Below n₀) (fun xs => xs.length = P.length ∧ InTurn xs) InTurn P.length w := fun l J Jx W hW hJ hJx hY h0 => by
  have hcB : W.cell? ⟨B, 1, none⟩ = some (.slice a P.length cap) := (hW.cell (p := ⟨B, 1, none⟩) hB).trans hc
  have HA : Hid (∀ i, i < P.length → At W b off i (nthP P i) (ad i) (cp i)) := fun i hi => (hat i hi).below hW (by
    rcases ha with e | ⟨_, hb⟩
    · rw [e] at hi; simp at hi
    · omega)
  have HJ : Hid (∀ (pre : List (Fin P.length)) (X : World) (o : Obj), J pre X → J pre (X.alloc o)) := fun pre X o h => hJ pre X _ none h (World.grownBy_alloc X o none) (fun r e => by cases e)
  have HY : Hid (∀ pre x W1, J pre W1 → pre.length < P.length → YieldAt Fence.wide (n - 1) Tryz.prog l (enc P ad cp x) W1 fun e W' =>
      (e = .returned (.bool true) ∧ J (pre ++ [x]) W' ∧ Below n₀ W1 W') ∨ (e = .returned (.bool false) ∧ Jx (pre ++ [x]) W')) := hY
  have H0 : Hid (J [] W) := h0
  have HN : Hid (n₀ ≤ W.heap.size) := Nat.le_trans hn₀ hW.size
  clear hW hJ hJx hY h0 hc hat hB hn₀
  refine callsIn_of_wp Tryz.func167 rfl trivial ?_ rfl
  simp only [Tryz.ntmps167, List.size_toArray, List.length_cons, List.length_nil, Nat.reduceAdd, Nat.reduceSub, Array.replicate_succ, Array.replicate_zero, List.push_toArray, List.append_toArray, List.nil_append, List.cons_append]
  gi_wp2
  gi_loopw [8] (fun i wr => ∃ (k : Nat) (pre : List (Fin P.length)), i = .int .i64 k ∧ k ≤ P.length ∧ pre.length = k ∧ InTurn pre ∧ J pre wr ∧ Below n₀ W wr) (fun i _ => P.length - (intOf i).toNat)
  case atStart => exact ⟨0, [], rfl, Nat.zero_le _, rfl, good_nil, H0.out, Below.refl _ _⟩
  case round =>
    obtain ⟨k, pre, rfl, hk, hpl, hg, hj, hbw⟩ := hrel
    have HG : Hid (InTurn pre ∧ pre.length = k) := ⟨hg, hpl⟩
    have HJ1 : Hid (J pre wr) := hj
    have HB : Hid (Below n₀ W wr) := hbw
    clear hg hpl hj hbw
    by_cases hlt : k < P.length
    · have hlt' : (k : Int) < (P.length : Int) := by omega
      obtain ⟨rfl, hb⟩ : a = some ⟨b, off, none⟩ ∧ b < n₀ := by
        rcases ha with e | h
        · rw [e] at hlt; simp at hlt
        · exact h
      have hx := HA.out k hlt
      have c0 := cell_kept' HB.out hb hx.c0
      have c1 := cell_kept' HB.out hb hx.c1
      have c2 := cell_kept' HB.out hb hx.c2
      have c3 := cell_kept' HB.out hb hx.c3
      obtain ⟨fn, tmps, assign, body, hy, hR⟩ := HY.out pre ⟨k, hlt⟩ (wr.alloc (.cells #[.slice (ad k) (nthP P k).l.length (cp k), .int .i64 (nthP P k).s, .int .i64 (nthP P k).e, .string (nthP P k).n] 29)) (HJ.out _ _ _ HJ1.out) (by rw [HG.out.2]; exact hlt)
      dsimp only [enc] at hy
      have HR : Hid (RoundIn Fence.wide (n - 1) Tryz.prog l fn tmps assign body (wr.alloc (.cells #[.slice (ad k) (nthP P k).l.length (cp k), .int .i64 (nthP P k).s, .int .i64 (nthP P k).e, .string (nthP P k).n] 29)) fun e W' => (e = .returned (.bool true) ∧ J (pre ++ [⟨k, hlt⟩]) W' ∧ Below n₀ (wr.alloc (.cells #[.slice (ad k) (nthP P k).l.length (cp k), .int .i64 (nthP P k).s, .int .i64 (nthP P k).e, .string (nthP P k).n] 29)) W') ∨ (e = .returned (.bool false) ∧ Jx (pre ++ [⟨k, hlt⟩]) W')) := hR
      clear hx hR
      gi_wp2
      refine ⟨fun e => (by cases e), HR.out.mono ?_⟩
      rintro e W3 (⟨rfl, hJ3, hk3⟩ | ⟨rfl, hJx3⟩)
      · have HJ3 : Hid (J (pre ++ [⟨k, hlt⟩]) W3) := hJ3
        have HB3 : Hid (Below n₀ W W3) := (HB.out.alloc (Nat.le_trans HN.out HB.out.size) _).trans hk3
        clear hJ3 hk3 c0 c1 c2 c3 hy HR
        gi_wp2
        go_roundw
        case rel => exact ⟨k + 1, _, by go_num, by omega, by simp [HG.out.2], good_add HG.out.1 _ HG.out.2.symm, HJ3.out, HB3.out⟩
        case measure => simp [intOf]; omega
      · have HJ3 : Hid (Jx (pre ++ [⟨k, hlt⟩]) W3) := hJx3
        clear hJx3 c0 c1 c2 c3 hy HR
        gi_wp2
        refine bodyPost_ret (results_none rfl _ _ _) rfl ?_
        exact ⟨⟨_, rfl⟩, .inr ⟨_, good_add HG.out.1 _ HG.out.2.symm, HJ3.out⟩⟩
    · have hge : ¬ (k : Int) < (P.length : Int) := by omega
      have HE : Hid (k = P.length) := by show k = P.length; omega
      gi_wp2
      go_end0
      exact ⟨⟨_, rfl⟩, .inl ⟨pre, ⟨HG.out.2.trans HE.out, HG.out.1⟩, HJ1.out⟩⟩
end Go.Proofs.YtooninmicfcfoaaGreat.Plc
namespace Go.Proofs.YtooninmicfcfoaaGreat.Lop
open Go.RowKit
open Labs LabS Alms Over Blk Rnd Plc App

def Turn (B : Nat) (W W' : World) : Prop := ∃ row, W.grownBy W' row ∧ ∀ r, row = some r → B ≤ r ∧ ∃ o : Obj, W.heap[r]? = some o ∧ o.isCells = false
theorem own_of {β : Type} {B : Nat} {I : β → World → Prop} (h : ∀ s W W', I s W → Turn B W W' → I s W') : OwnFrom B I := fun s W W' row hs hg hr => h s W W' hs ⟨row, hg, hr⟩
theorem Turn.blk {B : Nat} {W W' : World} {M : Nat} {cs : Array Value} {T : TypeId} (ht : Turn B W W') (h : Blk W M cs T) : Blk W' M cs T := by
  obtain ⟨row, hg, hr⟩ := ht
  refine blk_far h hg fun e => ?_
  obtain ⟨_, o, ho, hc⟩ := hr M e.symm
  unfold Blk at h
  rw [h] at ho
  cases ho
  cases hc
theorem Turn.below {B n₀ : Nat} {w W W' : World} (ht : Turn B W W') (hn : n₀ ≤ w.heap.size) (hB : n₀ ≤ B) (h : Below n₀ w W) : Below n₀ w W' := by
  obtain ⟨row, hg, hr⟩ := ht
  exact h.grown hg (Nat.le_trans hn h.size) fun k e => Nat.le_trans hB (hr k e).1
theorem Turn.size {B : Nat} {W W' : World} (ht : Turn B W W') : W.heap.size ≤ W'.heap.size := by
  obtain ⟨row, hg, _⟩ := ht
  exact hg.size
theorem turn_shut {B D : Nat} {W : World} {o : Obj} (h : W.heap[D]? = some (.deferred (some []))) (hB : B ≤ D) : Turn B W (W.putObj D o) :=
  ⟨some D, grownBy_putObj' W D o, fun r e => by cases e; exact ⟨hB, _, h, rfl⟩⟩

def alC (x : PAl) (ad : Option Addr) (cp : Nat) : Array Value := #[.slice ad x.l.length cp, .int .i64 x.s, .int .i64 x.e, .string x.n]

theorem loop_places {g : Operand} {ps : Array Tmp} {assign body : Code} {Q : Exit → Act → World → Prop} {a : Act} {w : World} {B n₀ : Nat} {P : List PAl} {s : Option Addr} {cap b off : Nat} {ad : Nat → Option Addr} {cp : Nat → Nat}
    (hg : a.eval g = .func (.func 167) #[] #[.pointer (some ⟨B, 0, none⟩)]) (hps : ps.size = 2) (hB : B < w.heap.size) (hn₀ : n₀ ≤ w.heap.size) (hc : w.cell? ⟨B, 1, none⟩ = some (.slice s P.length cap)) (hl : P.length ≤ 1048576)
    (ha : P = [] ∨ (s = some ⟨b, off, none⟩ ∧ b < n₀)) (hat : ∀ i, i < P.length → At w b off i (nthP P i) (ad i) (cp i))
    (I Ix : List (Fin P.length) → World → Prop) (hI : ∀ s W W', I s W → Turn w.heap.size W W' → I s W') (hIx : ∀ s W W', Ix s W → Turn w.heap.size W W' → Ix s W') (hIs : ∀ s W, I s W → w.heap.size ≤ W.heap.size) (h0 : I [] w) (A : Fin P.length → Nat → Act)
    (hassign : ∀ (l : Nat) (x : Fin P.length) (W : World) (K : Act → World → Prop), K (A x W.heap.size) (W.alloc (.cells (alC (nthP P x.1) (ad x.1) (cp x.1)) 29)) →
      assign.wpIn (Fence.wide.inRound l) 0 Tryz.prog (Exit.then K (fun _ _ _ => False)) { tmps := (ps.zip (enc P ad cp x)).foldl (fun t (p, v) => t.setIfInBounds p v) a.tmps, defers := [] } W)
    (hbody : ∀ (l : Nat) (pre : List (Fin P.length)) (x : Fin P.length) (N : Nat) (W : World), w.heap.size ≤ N → Blk W N (alC (nthP P x.1) (ad x.1) (cp x.1)) 29 → I pre W → pre.length < P.length →
      body.wpIn (Fence.wide.inRound l) 0 Tryz.prog (ownPostG w.heap.size (Below n₀) I (fun c pre W => c = .ret ∧ Ix pre W) (pre ++ [x]) W) (A x N) W)
    (hdone : ∀ (D : Nat) (xs : List (Fin P.length)) (W : World), w.heap.size ≤ D → xs.length = P.length → InTurn xs → I xs W → W.heap[D]? = some (.deferred (some [])) → Q .normal { a with defers := { target := .collected D, args := #[] } :: a.defers } W)
    (hstop : ∀ (D : Nat) (pre : List (Fin P.length)) (W : World), w.heap.size ≤ D → InTurn pre → Ix pre W → W.heap[D]? = some (.deferred (some [])) → Q .ret { a with defers := { target := .collected D, args := #[] } :: a.defers } W) :
    (Code.rangeFunc g ps assign body).wp Tryz.prog Q a w := by
  refine (wpIn_wide (n := 2)).1 ?_
  refine wpIn_rangeFunc_ownH rfl (by omega) (gf := 167) (lb := #[.pointer (some ⟨B, 0, none⟩)]) hg trivial (enters_of Tryz.func167 (by kernel_rfl) rfl)
    (iter_stops (2 - 1) B n₀ P s cap b off ad cp w hB hn₀ hc hl ha hat) belowK_t (belowK_b hn₀) (Below.refl _ _) (fun _ => by rw [hps]; rfl)
    I (fun c pre W => c = .ret ∧ Ix pre W) (own_of hI) (fun c => own_of fun s W W' h ht => ⟨h.1, hIx s W W' h.2 ht⟩) h0
    (fun x a' W => ∃ N, w.heap.size ≤ N ∧ Blk W N (alC (nthP P x.1) (ad x.1) (cp x.1)) 29 ∧ a' = A x N ∧ w.heap.size ≤ W.heap.size)
    (fun x a' => own_of fun _ W W' h ht => by
      obtain ⟨N, h1, h2, h3, h4⟩ := h
      exact ⟨N, h1, ht.blk h2, h3, Nat.le_trans h4 ht.size⟩) ?assign ?body ?done ?stop
  case assign =>
    intro l pre x W K hi hK
    have hsz := hIs _ _ hi
    refine hassign l x W K (hK _ _ (keeps_of (Go.Joins.below_alloc1 W _)) ((Below.refl _ _).alloc (Nat.le_trans hn₀ hsz) _) (hI _ _ _ hi ⟨none, World.grownBy_alloc W _ none, fun r e => by cases e⟩) ⟨W.heap.size, hsz, Blk.new _ _ _, rfl, ?_⟩)
    simp; omega
  case body =>
    rintro l pre x a' W hl ⟨r, hr⟩ hi ⟨N, h1, h2, rfl, _⟩ hlt
    exact hbody l pre x N W h1 h2 hi hlt
  case done =>
    intro D xs W hD hS hi hk
    exact hdone D xs W hD hS.1 hS.2 hi hk
  case stop =>
    rintro D c pre W hD hS ⟨rfl, hi⟩ hk
    exact wpIn_ret (hstop D pre W hD hS hi hk)
end Go.Proofs.YtooninmicfcfoaaGreat.Lop
namespace Go.Proofs.YtooninmicfcfoaaGreat.ChnI
open Go.RowKit
open Labs LabS Alms Over Blk Rnd Plc Lop App Rws
attribute [local go_sem] Oper.semAt_some

set_option maxRecDepth 100000 in
set_option maxHeartbeats 4000000 in
theorem implIn_any (f : Int) (a a' : Option Addr) (cap cap' : Nat) (P : List PAl) (q : List Lab) (w : World) (hr : RdA w a P) (hr' : Reads w a' q) (hl : P.length ≤ 1048576) (hs : LenP P) (hq : q.length ≤ maxLen) :
    Calls Tryz.prog 74 #[.agg #[.int .i64 f, .slice a P.length cap], .slice a' q.length cap'] w fun e w' => e = .returned (.int .i64 (idxB P q)) ∧ Below w.heap.size w w' := by
  obtain ⟨b, off, ad, cp, ha, hat⟩ := pick hr
  have HA : Hid (∀ i, i < P.length → At w b off i (nthP P i) (ad i) (cp i)) := hat
  have HR : Hid (Reads w a' q ∧ LenP P ∧ q.length ≤ maxLen) := ⟨hr', hs, hq⟩
  have HAB : Hid (P = [] ∨ (a = some ⟨b, off, none⟩ ∧ b < w.heap.size)) := ha
  clear hr hat hr' hs hq ha
  refine (callsIn_wide (n := 2)).1 ?_
  refine callsIn_of_wp_marks Tryz.func74 rfl trivial ?_ rfl
  simp only [Tryz.ntmps74, List.size_toArray, List.length_cons, List.length_nil, Nat.reduceAdd, Nat.reduceSub, Array.replicate_succ, Array.replicate_zero, List.push_toArray, List.append_toArray, List.nil_append, List.cons_append]
  refine wpIn_wide.2 ?_
  go_wp2_with fail
  refine (places_any f a P.length cap _).mono ?_
  rintro e w1 ⟨rfl, rfl⟩
  go_wp2_with fail
  have hsz : ((((w.alloc (.cells #[.int .i64 f, .slice a P.length cap] 96)).alloc (.cells #[.slice a' q.length cap'] 27)).alloc (.cells #[.int .i64 0] 3)).alloc (.cells #[.int .i64 f, .slice a P.length cap] 96)).heap.size = w.heap.size + 4 := by simp
  have hW1 : Blk ((((w.alloc (.cells #[.int .i64 f, .slice a P.length cap] 96)).alloc (.cells #[.slice a' q.length cap'] 27)).alloc (.cells #[.int .i64 0] 3)).alloc (.cells #[.int .i64 f, .slice a P.length cap] 96)) (w.heap.size + 1) #[.slice a' q.length cap'] 27 := ((Blk.new_at (by simp)).alloc _).alloc _
  have hW2 : Blk ((((w.alloc (.cells #[.int .i64 f, .slice a P.length cap] 96)).alloc (.cells #[.slice a' q.length cap'] 27)).alloc (.cells #[.int .i64 0] 3)).alloc (.cells #[.int .i64 f, .slice a P.length cap] 96)) (w.heap.size + 1 + 1) #[.int .i64 0] 3 := (Blk.new_at (by simp)).alloc _
  have hW3 : Blk ((((w.alloc (.cells #[.int .i64 f, .slice a P.length cap] 96)).alloc (.cells #[.slice a' q.length cap'] 27)).alloc (.cells #[.int .i64 0] 3)).alloc (.cells #[.int .i64 f, .slice a P.length cap] 96)) (w.heap.size + 1 + 1 + 1) #[.int .i64 f, .slice a P.length cap] 96 := Blk.new_at (by simp)
  have hB0 : Below w.heap.size w ((((w.alloc (.cells #[.int .i64 f, .slice a P.length cap] 96)).alloc (.cells #[.slice a' q.length cap'] 27)).alloc (.cells #[.int .i64 0] 3)).alloc (.cells #[.int .i64 f, .slice a P.length cap] 96)) := (Alm.below3 w _ _ _).alloc (by simp; omega) _
  generalize ((((w.alloc (.cells #[.int .i64 f, .slice a P.length cap] 96)).alloc (.cells #[.slice a' q.length cap'] 27)).alloc (.cells #[.int .i64 0] 3)).alloc (.cells #[.int .i64 f, .slice a P.length cap] 96)) = W0 at *
  refine loop_places (B := w.heap.size + 1 + 1 + 1) (n₀ := w.heap.size) (P := P) (s := a) (cap := cap) (b := b) (off := off) (ad := ad) (cp := cp) rfl rfl (by omega) (by omega) (hW3.cell 1) hl HAB.out (fun i hi => (HA.out i hi).below hB0 (by
      rcases HAB.out with e | h
      · rw [e] at hi; simp at hi
      · exact h.2))
    (fun pre W => (∀ x ∈ pre, (nthP P x.1).l ≠ q) ∧ Blk W (w.heap.size + 1) #[.slice a' q.length cap'] 27 ∧ Blk W (w.heap.size + 1 + 1) #[.int .i64 0] 3 ∧ Below w.heap.size w W ∧ W0.heap.size ≤ W.heap.size)
    (fun pre W => ∃ ini last, pre = ini ++ [last] ∧ (∀ x ∈ ini, (nthP P x.1).l ≠ q) ∧ (nthP P last.1).l = q ∧ Blk W (w.heap.size + 1 + 1) #[.int .i64 (last.1 : Int)] 3 ∧ Below w.heap.size w W)
    (fun pre W W' h ht => ⟨h.1, ht.blk h.2.1, ht.blk h.2.2.1, ht.below (Nat.le_refl _) (by omega) h.2.2.2.1, Nat.le_trans h.2.2.2.2 ht.size⟩)
    (fun pre W W' h ht => by
      obtain ⟨ini, last, h1, h2, h3, h4, h5⟩ := h
      exact ⟨ini, last, h1, h2, h3, ht.blk h4, ht.below (Nat.le_refl _) (by omega) h5⟩)
    (fun pre W h => h.2.2.2.2) ⟨fun x hx => by simp at hx, hW1, hW2, hB0, Nat.le_refl _⟩
    (fun x N => { tmps := #[.agg #[.int .i64 f, .slice a P.length cap], .slice a' q.length cap', .pointer (some ⟨w.heap.size, 0, none⟩), .pointer (some ⟨w.heap.size + 1, 0, none⟩), .pointer (some ⟨w.heap.size + 1 + 1, 0, none⟩), .int .i64 (x.1 : Int), .pointer (some ⟨N, 0, none⟩), .agg #[.int .i64 f, .slice a P.length cap], .func (.func 167) #[] #[.pointer (some ⟨w.heap.size + 1 + 1 + 1, 0, none⟩)], .int .i64 (x.1 : Int), .agg #[.slice (ad x.1) (nthP P x.1).l.length (cp x.1), .int .i64 (nthP P x.1).s, .int .i64 (nthP P x.1).e, .string (nthP P x.1).n], undef, undef, undef, undef, undef], defers := [] }) ?assign ?body ?done ?stop
  case assign =>
    intro l x W K hK
    dsimp only [enc]
    gi_wp2
    exact hK
  case body =>
    rintro l pre x N W hN hx ⟨hp, h1, h2, hB, hz⟩ hlt
    have HP : Hid (∀ x ∈ pre, (nthP P x.1).l ≠ q) := hp
    have HX : Hid (Blk W N (alC (nthP P x.1) (ad x.1) (cp x.1)) 29) := hx
    have H1 : Hid (Blk W (w.heap.size + 1) #[.slice a' q.length cap'] 27) := h1
    have H2 : Hid (Blk W (w.heap.size + 1 + 1) #[.int .i64 0] 3) := h2
    have HB : Hid (Below w.heap.size w W ∧ W0.heap.size ≤ W.heap.size) := ⟨hB, hz⟩
    have c0 : W.cell? ⟨N, 0, none⟩ = some (.slice (ad x.1) (nthP P x.1).l.length (cp x.1)) := hx.cell 0
    have c1 : W.cell? ⟨w.heap.size + 1, 0, none⟩ = some (.slice a' q.length cap') := h1.cell 0
    have HC : Hid (Calls Tryz.prog 85 #[.slice (ad x.1) (nthP P x.1).l.length (cp x.1), .slice a' q.length cap'] W fun e w' => e = .returned (.bool (decide ((nthP P x.1).l = q))) ∧ Below W.heap.size W w') := calls_drew (implSame_any _ _ _ _ _ _ W ((HA.out x.1 x.2).reads.below hB) (HR.out.1.below hB) (HR.out.2.1 x.1 x.2) HR.out.2.2)
    clear hp hx h1 h2 hB hz
    by_cases hd : (nthP P x.1).l = q
    · have hd' : decide ((nthP P x.1).l = q) = true := decide_eq_true hd
      have HE : Hid ((nthP P x.1).l = q) := hd
      clear hd
      gi_wp2_with fail
      refine ⟨trivial, rfl, (calls_in HC.out).mono ?_⟩
      rintro e w2 ⟨rfl, hb2⟩
      have HB2 : Hid (Below W.heap.size W w2) := hb2
      have h2 := H2.out.grow hb2
      have c2 := h2.frozen 0
      have c3 : w2.cell? ⟨w.heap.size + 1 + 1, 0, none⟩ = some (.int .i64 0) := h2.cell 0
      clear hb2 h2 c0 c1 HC
      gi_wp2
      exact ⟨(keeps_of HB2.out).trans ((KeepsOthers.setCell _ _ _).from _), rfl, pre, x, rfl, HP.out, HE.out, (H2.out.grow HB2.out).set 0 _, set_low (grow_on HB.out.1 HB2.out) (by omega) _ _⟩
    · have hd' : decide ((nthP P x.1).l = q) = false := decide_eq_false hd
      have HE : Hid ((nthP P x.1).l ≠ q) := hd
      clear hd
      gi_wp2_with fail
      refine ⟨trivial, rfl, (calls_in HC.out).mono ?_⟩
      rintro e w2 ⟨rfl, hb2⟩
      have HB2 : Hid (Below W.heap.size W w2) := hb2
      clear hb2 c0 c1 HC
      gi_wp2
      exact ⟨keeps_of HB2.out, HB2.out.mono HB.out.1.size, fun y hy => (List.mem_append.1 hy).elim (HP.out y) (fun e => by rw [List.mem_singleton.1 e]; exact HE.out), H1.out.grow HB2.out, H2.out.grow HB2.out, grow_on HB.out.1 HB2.out, Nat.le_trans HB.out.2 HB2.out.size⟩
  case done =>
    rintro D xs W hD hlen hg ⟨hp, h1, h2, hB, hz⟩ hK
    have c2 := h2.frozen 0
    have c3 : W.cell? ⟨w.heap.size + 1 + 1, 0, none⟩ = some (.int .i64 0) := h2.cell 0
    have HM : Hid (idxB P q = -1) := idx_miss fun j hj => by
      obtain ⟨x, hx, e⟩ := good_has hg (i := j) (by rw [hlen]; exact hj)
      rw [← e]; exact hp x hx
    go_wp2
    have hK' : (W.setCell ⟨w.heap.size + 1 + 1, 0, none⟩ (.int .i64 (-1))).heap[D]? = some (.deferred (some [])) := (Below.heap_setCell _ _ _ _ (by show D ≠ w.heap.size + 1 + 1; omega)).trans hK
    have ht := turn_shut (o := .deferred none) hK' hD
    have hR : ((W.setCell ⟨w.heap.size + 1 + 1, 0, none⟩ (.int .i64 (-1))).putObj D (.deferred none)).cell? ⟨w.heap.size + 1 + 1, 0, none⟩ = some (.int .i64 (-1)) := (ht.blk (h2.set 0 (.int .i64 (-1)))).cell 0
    refine ⟨by simp, .inl ⟨_, _, rfl, run_takeDeferred hK', ?_⟩⟩
    refine ⟨.int .i64 (-1), ?_, retI HM.out.symm, ht.below (Nat.le_refl _) (by omega) (set_low hB (by omega) _ _)⟩
    simp [results, Tryz.results74, go_sem, hR]
  case stop =>
    rintro D pre W hD hg ⟨ini, last, rfl, hp, he, h2, hB⟩ hK
    have HM : Hid (idxB P q = (last.1 : Int)) := by
      obtain ⟨hg1, hg2⟩ := good_front hg
      refine idx_hit (fun i hi => ?_) he last.2
      obtain ⟨x, hx, e⟩ := good_has hg1 (i := i) (by omega)
      rw [← e]; exact hp x hx
    go_wp2
    have ht := turn_shut (o := .deferred none) hK hD
    have hR : (W.putObj D (.deferred none)).cell? ⟨w.heap.size + 1 + 1, 0, none⟩ = some (.int .i64 (last.1 : Int)) := (ht.blk h2).cell 0
    refine ⟨by simp, .inl ⟨_, _, rfl, run_takeDeferred hK, ?_⟩⟩
    refine ⟨.int .i64 (last.1 : Int), ?_, retI HM.out.symm, ht.below (Nat.le_refl _) (by omega) hB⟩
    simp [results, Tryz.results74, go_sem, hR]
end Go.Proofs.YtooninmicfcfoaaGreat.ChnI
