/-
  PROVED: a region that draws its order, inside a round of a range over a function: what holds of every order outside a round holds inside one.
  PROVED: impl.places hands out an iterator that goes through a chain's alarms from the first to the last, each with its place, for every loop body that keeps what lay ahead.
  PROVED: a loop over a chain's places, as one law: what each round must keep, and what stands behind the loop.
  PROVED: over a chain and labels in memory impl.InChain answers as a plain function on lists says; nothing that was there is changed.
-/
import Derived.Test.YtcopckbpflmmeabQOver
import Derived.Deep.RegionHeld3
import Derived.RangeFuncNested
import Derived.RangeFuncBound
import Derived.RangeFuncLeaves
import Derived.Shelf.Abstract
import Derived.OwnWalkIn
import Derived.TacticsInMore
import Derived.LoopNIn
import Derived.LoopIn
import Derived.OrdersIn
import Derived.Test.YtcopckbpflmmeabQAlmsK
import Derived.Test.YtcopckbpflmmeabQApp
import Derived.Test.YtcopckbpflmmeabQLst
set_option linter.unusedVariables false
namespace Go.Proofs.Ytcopckbpflmmeab.Rnd
open Go.RowKit Over

def calmO (o : Oper) : Bool :=
  match o.op with
  | .defer _ => false
  | _ => true
def calm (ops : Array Oper) : Bool := ops.toList.all calmO
theorem calm_at {ops : Array Oper} (h : calm ops = true) {i : Nat} {o : Oper} (hi : ops[i]? = some o) : ∀ c, o.op ≠ .defer c := fun c e => by
  have h1 := List.all_eq_true.1 h o (by simpa using Array.mem_of_getElem? hi)
  unfold calmO at h1
  rw [e] at h1
  cases h1
theorem rows_in {n l : Nat} {P : Program} {row : String} {args : Array Value} {w : World} {R : Value → World → Prop} (h : Rows P row args w R) : RowsIn (Fence.wide.inRound l) n P row args w R := fun c cs _ => by
  obtain ⟨v, w', hr, hs⟩ := h c cs
  exact ⟨v, w', hr, stepsIn_wide.2 hs⟩
theorem calls_in {n l : Nat} {P : Program} {f : FuncId} {args : Array Value} {w : World} {R : Ending → World → Prop} (h : Calls P f args w R) : CallsIn (Fence.wide.inRound l) n P f args w R :=
  CallsIn.inRound l (callsIn_wide.2 h)

section
variable {P : Program} {ops : Array Oper} {Q : Exit → Act → World → Prop} {md : Region.Mode} {l n : Nat}
theorem oper_in {o : Oper} {K K' : Act → World → Prop} {a : Act} {w : World} (hc : ∀ c, o.op ≠ .defer c) (hK : ∀ a w, K a w → K' a w) (h : o.wp P a w K Q) : o.wpIn (Fence.wide.inRound l) n P a w K' Q := by
  refine ⟨fun _ _ => trivial, ?_⟩
  show o.uponIn _ _ _ _ _ _ ((o.semAt (some l) a.eval).run P w)
  rw [Oper.semAt_some l a.eval o hc]
  unfold Oper.wp at h
  generalize (execOp a.eval o).run P w = r at *
  cases r with
  | ok x w' =>
    cases x with
    | value v => exact hK _ _ h
    | skip => exact hK _ _ h
    | defer d => exact hK _ _ h
    | enter f args =>
      refine ⟨fun e => (by cases e), calls_in (Calls.mono h fun e w'' he => ?_)⟩
      cases e with
      | returned v => exact hK _ _ he
      | panicked c => exact he
      | outgrown => exact he
    | row row args => exact ⟨fun e => (by cases e), rows_in (Rows.mono h fun v w'' he => hK _ _ he)⟩
    | round l f tmps assign body => exact h.elim
    | _ => exact h
  | halt x w' =>
    cases x with
    | panic v => exact h
    | _ => exact h
theorem op_in {i : Nat} {K K' : Act → World → Prop} {a : Act} {w : World} (hq : ¬ LetsOut Q) (hc : calm ops = true) (hK : ∀ a w, K a w → K' a w) (h : wpOp P ops Q i K a w) : wpOpIn (Fence.wide.inRound l) n P ops Q i K' a w := by
  unfold wpOp at h
  unfold wpOpIn
  split
  · rename_i hi
    simp only [hi] at h
    exact hK _ _ h
  · rename_i o hi
    simp only [hi] at h
    split
    · rename_i hw
      simp only [hw, if_true] at h
      rcases h with h | h
      · exact oper_in (calm_at hc hi) hK h
      · exact absurd h.2 hq
    · rename_i hw
      simp only [hw] at h
      exact ⟨fun _ _ => trivial, hK _ _ h⟩
theorem any_in (hq : ¬ LetsOut Q) (hc : calm ops = true) : ∀ (fuel : Nat) (listed : Array Bool) (a : Act) (w : World), wpAny P md ops Q fuel listed a w → wpAnyIn (Fence.wide.inRound l) n P md ops Q fuel listed a w
  | 0, _, _, _, h => h
  | fuel + 1, _, _, _, h => ⟨h.1, fun i hi => op_in hq hc (fun a w h => any_in hq hc fuel _ a w h) (h.2 i hi)⟩

theorem held_in {S : World → Prop} {id : Nat} {a : Act} {w : World} (hm : P.follows .mixedOrders = true) (hc : calm ops = true) (hq : ¬ LetsOut Q) (hS : S w.drew)
    (h : S w.drew → wpAnyH P .any ops Q S ops.size (Array.replicate ops.size false) a w.drew) : (Code.region id ops true).wpIn (Fence.wide.inRound l) n P Q a w :=
  wpIn_region_any hm (any_in hq hc _ _ _ _ (wpAny_of_held _ _ _ _ (h hS)))
end

theorem keeps_of {B : Nat} {W W' : World} (h : Below W.heap.size W W') : KeepsFrom B W W' :=
  ⟨h.size, fun k o _ hk _ => (h.block k (Array.getElem?_eq_some_iff.1 hk).1).trans hk⟩
end Go.Proofs.Ytcopckbpflmmeab.Rnd
namespace Go.Proofs.Ytcopckbpflmmeab.Plc
open Go.RowKit Go.Shelf
open Labs LabS Alms Over Blk Rnd
attribute [local go_sem] Oper.semAt_some

theorem pick {w : World} {a : Option Addr} {P : List PAl} (h : RdA w a P) : ∃ (b off : Nat) (ad : Nat → Option Addr) (cp : Nat → Nat), (P = [] ∨ (a = some ⟨b, off, none⟩ ∧ b < w.heap.size)) ∧ ∀ i, i < P.length → At w b off i (nthP P i) (ad i) (cp i) := by
  rcases h with h | ⟨b, off, e, hb, hc⟩
  · exact ⟨0, 0, fun _ => none, fun _ => 0, .inl h, fun i hi => by rw [h] at hi; simp at hi⟩
  · have hc' : ∀ i, ∃ q : Option Addr × Nat, i < P.length → At w b off i (nthP P i) q.1 q.2 := fun i => by
      by_cases hi : i < P.length
      · obtain ⟨ad, cap, h⟩ := hc i hi
        exact ⟨(ad, cap), fun _ => h⟩
      · exact ⟨(none, 0), fun h => absurd h hi⟩
    obtain ⟨f, hf⟩ := Classical.axiomOfChoice hc'
    exact ⟨b, off, fun i => (f i).1, fun i => (f i).2, .inr ⟨e, hb⟩, fun i hi => hf i hi⟩

def enc (P : List PAl) (ad : Nat → Option Addr) (cp : Nat → Nat) (x : Fin P.length) : Array Value := #[.int .i64 (x.1 : Int), .agg #[.slice (ad x.1) (nthP P x.1).l.length (cp x.1), .int .i64 (nthP P x.1).s, .int .i64 (nthP P x.1).e, .string (nthP P x.1).n]]
def InTurn {n : Nat} (xs : List (Fin n)) : Prop := ∀ i, (h : i < xs.length) → (xs[i]).1 = i
theorem good_nil {n : Nat} : InTurn ([] : List (Fin n)) := fun i h => by simp at h
theorem good_add {n : Nat} {xs : List (Fin n)} (h : InTurn xs) (x : Fin n) (hx : x.1 = xs.length) : InTurn (xs ++ [x]) := fun i hi => by
  by_cases e : i < xs.length
  · rw [List.getElem_append_left e]; exact h i e
  · have : i = xs.length := by simp at hi; omega
    subst this
    simp [hx]
theorem places_any (f : Int) (a : Option Addr) (n cap : Nat) (w : World) :
    Calls Try.prog 52 #[.agg #[.int .i64 f, .slice a n cap]] w fun e w' => e = .returned (.func (.func 66) #[] #[.pointer (some ⟨w.heap.size, 0, none⟩)]) ∧ w' = w.alloc (.cells #[.int .i64 f, .slice a n cap] 52) := by
  go_enter Try.func52, Try.ntmps52
  go_wp2
  go_ret
  exact ⟨rfl, rfl⟩

theorem cell_kept' {n₀ : Nat} {w w' : World} (h : Below n₀ w w') {b i : Nat} (hb : b < n₀) {v : Value} (hv : w.cell? ⟨b, i, none⟩ = some v) : w'.cell? ⟨b, i, none⟩ = some v := (h.cell (p := ⟨b, i, none⟩) hb).trans hv

set_option maxRecDepth 100000 in
set_option maxHeartbeats 4000000 in
theorem iter_stops (n B n₀ : Nat) (P : List PAl) (a : Option Addr) (cap b off : Nat) (ad : Nat → Option Addr) (cp : Nat → Nat) (w : World) (hB : B < w.heap.size) (hn₀ : n₀ ≤ w.heap.size) (hc : w.cell? ⟨B, 1, none⟩ = some (.slice a P.length cap)) (hl : P.length ≤ 1048576)
    (ha : P = [] ∨ (a = some ⟨b, off, none⟩ ∧ b < n₀)) (hat : ∀ i, i < P.length → At w b off i (nthP P i) (ad i) (cp i)) :
    SeqStopsK Fence.wide n Try.prog 66 #[.pointer (some ⟨B, 0, none⟩)] (enc P ad cp) (Below n₀) (fun xs => xs.length = P.length ∧ InTurn xs) InTurn P.length w := fun l J Jx W hW hJ hJx hY h0 => by
  have hcB : W.cell? ⟨B, 1, none⟩ = some (.slice a P.length cap) := (hW.cell (p := ⟨B, 1, none⟩) hB).trans hc
  have HA : Hid (∀ i, i < P.length → At W b off i (nthP P i) (ad i) (cp i)) := fun i hi => (hat i hi).below hW (by
    rcases ha with e | ⟨_, hb⟩
    · rw [e] at hi; simp at hi
    · omega)
  have HJ : Hid (∀ (pre : List (Fin P.length)) (X : World) (o : Obj), J pre X → J pre (X.alloc o)) := fun pre X o h => hJ pre X _ none h (World.grownBy_alloc X o none) (fun r e => by cases e)
  have HY : Hid (∀ pre x W1, J pre W1 → pre.length < P.length → YieldAt Fence.wide (n - 1) Try.prog l (enc P ad cp x) W1 fun e W' =>
      (e = .returned (.bool true) ∧ J (pre ++ [x]) W' ∧ Below n₀ W1 W') ∨ (e = .returned (.bool false) ∧ Jx (pre ++ [x]) W')) := hY
  have H0 : Hid (J [] W) := h0
  have HN : Hid (n₀ ≤ W.heap.size) := Nat.le_trans hn₀ hW.size
  clear hW hJ hJx hY h0 hc hat hB hn₀
  refine callsIn_of_wp Try.func66 rfl trivial ?_ rfl
  simp only [Try.ntmps66, List.size_toArray, List.length_cons, List.length_nil, Nat.reduceAdd, Nat.reduceSub, Array.replicate_succ, Array.replicate_zero, List.push_toArray, List.append_toArray, List.nil_append, List.cons_append]
  gi_wp2
  gi_loopw [8] (fun i wr => ∃ (k : Nat) (pre : List (Fin P.length)), i = .int .i64 k ∧ k ≤ P.length ∧ pre.length = k ∧ InTurn pre ∧ J pre wr ∧ Below n₀ W wr) (fun i _ => P.length - (intOf i).toNat)
  case atStart => exact ⟨0, [], rfl, Nat.zero_le _, rfl, good_nil, H0.out, Below.refl _ _⟩
  case round =>
    obtain ⟨k, pre, rfl, hk, hpl, hg, hj, hbw⟩ := hrel
    have HG : Hid (InTurn pre ∧ pre.length = k) := ⟨hg, hpl⟩
    have HJ1 : Hid (J pre wr) := hj
    have HB : Hid (Below n₀ W wr) := hbw
    clear hg hpl hj hbw
    by_cases hlt : k < P.length
    · have hlt' : (k : Int) < (P.length : Int) := by omega
      obtain ⟨rfl, hb⟩ : a = some ⟨b, off, none⟩ ∧ b < n₀ := by
        rcases ha with e | h
        · rw [e] at hlt; simp at hlt
        · exact h
      have hx := HA.out k hlt
      have c0 := cell_kept' HB.out hb hx.c0
      have c1 := cell_kept' HB.out hb hx.c1
      have c2 := cell_kept' HB.out hb hx.c2
      have c3 := cell_kept' HB.out hb hx.c3
      obtain ⟨fn, tmps, assign, body, hy, hR⟩ := HY.out pre ⟨k, hlt⟩ (wr.alloc (.cells #[.slice (ad k) (nthP P k).l.length (cp k), .int .i64 (nthP P k).s, .int .i64 (nthP P k).e, .string (nthP P k).n] 68)) (HJ.out _ _ _ HJ1.out) (by rw [HG.out.2]; exact hlt)
      dsimp only [enc] at hy
      have HR : Hid (RoundIn Fence.wide (n - 1) Try.prog l fn tmps assign body (wr.alloc (.cells #[.slice (ad k) (nthP P k).l.length (cp k), .int .i64 (nthP P k).s, .int .i64 (nthP P k).e, .string (nthP P k).n] 68)) fun e W' => (e = .returned (.bool true) ∧ J (pre ++ [⟨k, hlt⟩]) W' ∧ Below n₀ (wr.alloc (.cells #[.slice (ad k) (nthP P k).l.length (cp k), .int .i64 (nthP P k).s, .int .i64 (nthP P k).e, .string (nthP P k).n] 68)) W') ∨ (e = .returned (.bool false) ∧ Jx (pre ++ [⟨k, hlt⟩]) W')) := hR
      clear hx hR
      gi_wp2
      refine ⟨fun e => (by cases e), HR.out.mono ?_⟩
      rintro e W3 (⟨rfl, hJ3, hk3⟩ | ⟨rfl, hJx3⟩)
      · have HJ3 : Hid (J (pre ++ [⟨k, hlt⟩]) W3) := hJ3
        have HB3 : Hid (Below n₀ W W3) := (HB.out.alloc (Nat.le_trans HN.out HB.out.size) _).trans hk3
        clear hJ3 hk3 c0 c1 c2 c3 hy HR
        gi_wp2
        go_roundw
        case rel => exact ⟨k + 1, _, by go_num, by omega, by simp [HG.out.2], good_add HG.out.1 _ HG.out.2.symm, HJ3.out, HB3.out⟩
        case measure => simp [intOf]; omega
      · have HJ3 : Hid (Jx (pre ++ [⟨k, hlt⟩]) W3) := hJx3
        clear hJx3 c0 c1 c2 c3 hy HR
        gi_wp2
        refine bodyPost_ret (results_none rfl _ _ _) rfl ?_
        exact ⟨⟨_, rfl⟩, .inr ⟨_, good_add HG.out.1 _ HG.out.2.symm, HJ3.out⟩⟩
    · have hge : ¬ (k : Int) < (P.length : Int) := by omega
      have HE : Hid (k = P.length) := by show k = P.length; omega
      gi_wp2
      go_end0
      exact ⟨⟨_, rfl⟩, .inl ⟨pre, ⟨HG.out.2.trans HE.out, HG.out.1⟩, HJ1.out⟩⟩
end Go.Proofs.Ytcopckbpflmmeab.Plc
namespace Go.Proofs.Ytcopckbpflmmeab.Lop
open Go.RowKit
open Labs LabS Alms Over Blk Rnd Plc App

def Turn (B : Nat) (W W' : World) : Prop := ∃ row, W.grownBy W' row ∧ ∀ r, row = some r → B ≤ r ∧ ∃ o : Obj, W.heap[r]? = some o ∧ o.isCells = false
theorem own_of {β : Type} {B : Nat} {I : β → World → Prop} (h : ∀ s W W', I s W → Turn B W W' → I s W') : OwnFrom B I := fun s W W' row hs hg hr => h s W W' hs ⟨row, hg, hr⟩
theorem Turn.blk {B : Nat} {W W' : World} {M : Nat} {cs : Array Value} {T : TypeId} (ht : Turn B W W') (h : Blk W M cs T) : Blk W' M cs T := by
  obtain ⟨row, hg, hr⟩ := ht
  refine blk_far h hg fun e => ?_
  obtain ⟨_, o, ho, hc⟩ := hr M e.symm
  unfold Blk at h
  rw [h] at ho
  cases ho
  cases hc
theorem Turn.below {B n₀ : Nat} {w W W' : World} (ht : Turn B W W') (hn : n₀ ≤ w.heap.size) (hB : n₀ ≤ B) (h : Below n₀ w W) : Below n₀ w W' := by
  obtain ⟨row, hg, hr⟩ := ht
  exact h.grown hg (Nat.le_trans hn h.size) fun k e => Nat.le_trans hB (hr k e).1
theorem Turn.size {B : Nat} {W W' : World} (ht : Turn B W W') : W.heap.size ≤ W'.heap.size := by
  obtain ⟨row, hg, _⟩ := ht
  exact hg.size
theorem Turn.own {B b0 : Nat} {W W' : World} {e : TypeId} {size n : Nat} {v : Value} {xs : List Value} (ht : Turn B W W') (h : W.ownsRow b0 e size v n xs) : W'.ownsRow b0 e size v n xs := by
  obtain ⟨row, hg, hr⟩ := ht
  refine h.kept hg ?_
  rcases h.2 with ⟨rfl, _⟩ | ⟨g, cap, cur, rfl, _, hgb, _⟩
  · exact .inl rfl
  · refine .inr fun e' => ?_
    obtain ⟨_, o, ho, hc⟩ := hr g (by simpa [Value.ownBlock] using e'.symm)
    rw [hgb] at ho
    cases ho
    cases hc
theorem turn_shut {B D : Nat} {W : World} {o : Obj} (h : W.heap[D]? = some (.deferred (some []))) (hB : B ≤ D) : Turn B W (W.putObj D o) :=
  ⟨some D, grownBy_putObj' W D o, fun r e => by cases e; exact ⟨hB, _, h, rfl⟩⟩

def alC (x : PAl) (ad : Option Addr) (cp : Nat) : Array Value := #[.slice ad x.l.length cp, .int .i64 x.s, .int .i64 x.e, .string x.n]

theorem loop_places {g : Operand} {ps : Array Tmp} {assign body : Code} {Q : Exit → Act → World → Prop} {a : Act} {w : World} {B n₀ : Nat} {P : List PAl} {s : Option Addr} {cap b off : Nat} {ad : Nat → Option Addr} {cp : Nat → Nat}
    (hg : a.eval g = .func (.func 66) #[] #[.pointer (some ⟨B, 0, none⟩)]) (hps : ps.size = 2) (hB : B < w.heap.size) (hn₀ : n₀ ≤ w.heap.size) (hc : w.cell? ⟨B, 1, none⟩ = some (.slice s P.length cap)) (hl : P.length ≤ 1048576)
    (ha : P = [] ∨ (s = some ⟨b, off, none⟩ ∧ b < n₀)) (hat : ∀ i, i < P.length → At w b off i (nthP P i) (ad i) (cp i))
    (I Ix : List (Fin P.length) → World → Prop) (hI : ∀ s W W', I s W → Turn w.heap.size W W' → I s W') (hIx : ∀ s W W', Ix s W → Turn w.heap.size W W' → Ix s W') (hIs : ∀ s W, I s W → w.heap.size ≤ W.heap.size) (h0 : I [] w) (A : Fin P.length → Nat → Act)
    (hassign : ∀ (l : Nat) (x : Fin P.length) (W : World) (K : Act → World → Prop), K (A x W.heap.size) (W.alloc (.cells (alC (nthP P x.1) (ad x.1) (cp x.1)) 68)) →
      assign.wpIn (Fence.wide.inRound l) 0 Try.prog (Exit.then K (fun _ _ _ => False)) { tmps := (ps.zip (enc P ad cp x)).foldl (fun t (p, v) => t.setIfInBounds p v) a.tmps, defers := [] } W)
    (hbody : ∀ (l : Nat) (pre : List (Fin P.length)) (x : Fin P.length) (N : Nat) (W : World), w.heap.size ≤ N → Blk W N (alC (nthP P x.1) (ad x.1) (cp x.1)) 68 → I pre W → pre.length < P.length →
      body.wpIn (Fence.wide.inRound l) 0 Try.prog (ownPostG w.heap.size (Below n₀) I (fun c pre W => c = .ret ∧ Ix pre W) (pre ++ [x]) W) (A x N) W)
    (hdone : ∀ (D : Nat) (xs : List (Fin P.length)) (W : World), w.heap.size ≤ D → xs.length = P.length → InTurn xs → I xs W → W.heap[D]? = some (.deferred (some [])) → Q .normal { a with defers := { target := .collected D, args := #[] } :: a.defers } W)
    (hstop : ∀ (D : Nat) (pre : List (Fin P.length)) (W : World), w.heap.size ≤ D → InTurn pre → Ix pre W → W.heap[D]? = some (.deferred (some [])) → Q .ret { a with defers := { target := .collected D, args := #[] } :: a.defers } W) :
    (Code.rangeFunc g ps assign body).wp Try.prog Q a w := by
  refine (wpIn_wide (n := 2)).1 ?_
  refine wpIn_rangeFunc_ownH rfl (by omega) (gf := 66) (lb := #[.pointer (some ⟨B, 0, none⟩)]) hg trivial (enters_of Try.func66 (by kernel_rfl) rfl)
    (iter_stops (2 - 1) B n₀ P s cap b off ad cp w hB hn₀ hc hl ha hat) belowK_t (belowK_b hn₀) (Below.refl _ _) (fun _ => by rw [hps]; rfl)
    I (fun c pre W => c = .ret ∧ Ix pre W) (own_of hI) (fun c => own_of fun s W W' h ht => ⟨h.1, hIx s W W' h.2 ht⟩) h0
    (fun x a' W => ∃ N, w.heap.size ≤ N ∧ Blk W N (alC (nthP P x.1) (ad x.1) (cp x.1)) 68 ∧ a' = A x N ∧ w.heap.size ≤ W.heap.size)
    (fun x a' => own_of fun _ W W' h ht => by
      obtain ⟨N, h1, h2, h3, h4⟩ := h
      exact ⟨N, h1, ht.blk h2, h3, Nat.le_trans h4 ht.size⟩) ?assign ?body ?done ?stop
  case assign =>
    intro l pre x W K hi hK
    have hsz := hIs _ _ hi
    refine hassign l x W K (hK _ _ (keeps_of (Go.Joins.below_alloc1 W _)) ((Below.refl _ _).alloc (Nat.le_trans hn₀ hsz) _) (hI _ _ _ hi ⟨none, World.grownBy_alloc W _ none, fun r e => by cases e⟩) ⟨W.heap.size, hsz, Blk.new _ _ _, rfl, ?_⟩)
    simp; omega
  case body =>
    rintro l pre x a' W hl ⟨r, hr⟩ hi ⟨N, h1, h2, rfl, _⟩ hlt
    exact hbody l pre x N W h1 h2 hi hlt
  case done =>
    intro D xs W hD hS hi hk
    exact hdone D xs W hD hS.1 hS.2 hi hk
  case stop =>
    rintro D c pre W hD hS ⟨rfl, hi⟩ hk
    exact wpIn_ret (hstop D pre W hD hS hi hk)
end Go.Proofs.Ytcopckbpflmmeab.Lop
namespace Go.Proofs.Ytcopckbpflmmeab.ChnI
open Go.RowKit
open Labs LabS Alms Over Blk Rnd Plc Lop App Rws
attribute [local go_sem] Oper.semAt_some

end Go.Proofs.Ytcopckbpflmmeab.ChnI
