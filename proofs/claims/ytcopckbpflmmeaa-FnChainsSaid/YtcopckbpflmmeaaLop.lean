/-
  PROVED: a loop over a chain's places, as one law: what each round must keep, and what stands behind the loop.
-/
import Derived.Test.YtcopckbpflmmeaaPlc
import Derived.Test.YtcopckbpflmmeaaApp
namespace Go.Proofs.Ytcopckbpflmmeaa.Lop
open Go.RowKit
open Go.Proofs.Ytcopckbpflmmeaa.Labs Go.Proofs.Ytcopckbpflmmeaa.LabS Go.Proofs.Ytcopckbpflmmeaa.Alms Go.Proofs.Ytcopckbpflmmeaa.Over Go.Proofs.Ytcopckbpflmmeaa.Blk Go.Proofs.Ytcopckbpflmmeaa.Rnd Go.Proofs.Ytcopckbpflmmeaa.Plc Go.Proofs.Ytcopckbpflmmeaa.App
set_option linter.unusedVariables false

/-- a step of the loop's own book-keeping: what is cells lies as it lay -/
def Turn (B : Nat) (W W' : World) : Prop := ∃ row, W.grownBy W' row ∧ ∀ r, row = some r → B ≤ r ∧ ∃ o : Obj, W.heap[r]? = some o ∧ o.isCells = false
theorem own_of {β : Type} {B : Nat} {I : β → World → Prop} (h : ∀ s W W', I s W → Turn B W W' → I s W') : OwnFrom B I := fun s W W' row hs hg hr => h s W W' hs ⟨row, hg, hr⟩
theorem Turn.blk {B : Nat} {W W' : World} {M : Nat} {cs : Array Value} {T : TypeId} (ht : Turn B W W') (h : Blk W M cs T) : Blk W' M cs T := by
  obtain ⟨row, hg, hr⟩ := ht
  refine blk_far h hg fun e => ?_
  obtain ⟨_, o, ho, hc⟩ := hr M e.symm
  unfold Blk at h
  rw [h] at ho
  cases ho
  cases hc
theorem Turn.below {B n₀ : Nat} {w W W' : World} (ht : Turn B W W') (hn : n₀ ≤ w.heap.size) (hB : n₀ ≤ B) (h : Below n₀ w W) : Below n₀ w W' := by
  obtain ⟨row, hg, hr⟩ := ht
  exact h.grown hg (Nat.le_trans hn h.size) fun k e => Nat.le_trans hB (hr k e).1
theorem Turn.size {B : Nat} {W W' : World} (ht : Turn B W W') : W.heap.size ≤ W'.heap.size := by
  obtain ⟨row, hg, _⟩ := ht
  exact hg.size
theorem Turn.own {B b0 : Nat} {W W' : World} {e : TypeId} {size n : Nat} {v : Value} {xs : List Value} (ht : Turn B W W') (h : W.ownsRow b0 e size v n xs) : W'.ownsRow b0 e size v n xs := by
  obtain ⟨row, hg, hr⟩ := ht
  refine h.kept hg ?_
  rcases h.2 with ⟨rfl, _⟩ | ⟨g, cap, cur, rfl, _, hgb, _⟩
  · exact .inl rfl
  · refine .inr fun e' => ?_
    obtain ⟨_, o, ho, hc⟩ := hr g (by simpa [Value.ownBlock] using e'.symm)
    rw [hgb] at ho
    cases ho
    cases hc
/-- the block of the rounds' deferred calls is shut -/
theorem turn_shut {B D : Nat} {W : World} {o : Obj} (h : W.heap[D]? = some (.deferred (some []))) (hB : B ≤ D) : Turn B W (W.putObj D o) :=
  ⟨some D, grownBy_putObj' W D o, fun r e => by cases e; exact ⟨hB, _, h, rfl⟩⟩

/-- the cells of an alarm -/
def alC (x : PAl) (ad : Option Addr) (cp : Nat) : Array Value := #[.slice ad x.l.length cp, .int .i64 x.s, .int .i64 x.e, .string x.n]

theorem loop_places {g : Operand} {ps : Array Tmp} {assign body : Code} {Q : Exit → Act → World → Prop} {a : Act} {w : World} {B n₀ : Nat} {P : List PAl} {s : Option Addr} {cap b off : Nat} {ad : Nat → Option Addr} {cp : Nat → Nat}
    (hg : a.eval g = .func (.func 95) #[] #[.pointer (some ⟨B, 0, none⟩)]) (hps : ps.size = 2) (hB : B < w.heap.size) (hn₀ : n₀ ≤ w.heap.size) (hc : w.cell? ⟨B, 1, none⟩ = some (.slice s P.length cap)) (hl : P.length ≤ 1048576)
    (ha : P = [] ∨ (s = some ⟨b, off, none⟩ ∧ b < n₀)) (hat : ∀ i, i < P.length → At w b off i (nthP P i) (ad i) (cp i))
    (I Ix : List (Fin P.length) → World → Prop) (hI : ∀ s W W', I s W → Turn w.heap.size W W' → I s W') (hIx : ∀ s W W', Ix s W → Turn w.heap.size W W' → Ix s W') (hIs : ∀ s W, I s W → w.heap.size ≤ W.heap.size) (h0 : I [] w) (A : Fin P.length → Nat → Act)
    (hassign : ∀ (l : Nat) (x : Fin P.length) (W : World) (K : Act → World → Prop), K (A x W.heap.size) (W.alloc (.cells (alC (nthP P x.1) (ad x.1) (cp x.1)) 29)) →
      assign.wpIn (Fence.wide.inRound l) 0 Try.prog (Exit.then K (fun _ _ _ => False)) { tmps := (ps.zip (enc P ad cp x)).foldl (fun t (p, v) => t.setIfInBounds p v) a.tmps, defers := [] } W)
    (hbody : ∀ (l : Nat) (pre : List (Fin P.length)) (x : Fin P.length) (N : Nat) (W : World), w.heap.size ≤ N → Blk W N (alC (nthP P x.1) (ad x.1) (cp x.1)) 29 → I pre W → pre.length < P.length →
      body.wpIn (Fence.wide.inRound l) 0 Try.prog (ownPostG w.heap.size (Below n₀) I (fun c pre W => c = .ret ∧ Ix pre W) (pre ++ [x]) W) (A x N) W)
    (hdone : ∀ (D : Nat) (xs : List (Fin P.length)) (W : World), w.heap.size ≤ D → xs.length = P.length → InTurn xs → I xs W → W.heap[D]? = some (.deferred (some [])) → Q .normal { a with defers := { target := .collected D, args := #[] } :: a.defers } W)
    (hstop : ∀ (D : Nat) (pre : List (Fin P.length)) (W : World), w.heap.size ≤ D → InTurn pre → Ix pre W → W.heap[D]? = some (.deferred (some [])) → Q .ret { a with defers := { target := .collected D, args := #[] } :: a.defers } W) :
    (Code.rangeFunc g ps assign body).wp Try.prog Q a w := by
  refine (wpIn_wide (n := 2)).1 ?_
  refine wpIn_rangeFunc_ownH rfl (by omega) (gf := 95) (lb := #[.pointer (some ⟨B, 0, none⟩)]) hg trivial (enters_of Try.func95 (by kernel_rfl) rfl)
    (iter_stops (2 - 1) B n₀ P s cap b off ad cp w hB hn₀ hc hl ha hat) belowK_t (belowK_b hn₀) (Below.refl _ _) (fun _ => by rw [hps]; rfl)
    I (fun c pre W => c = .ret ∧ Ix pre W) (own_of hI) (fun c => own_of fun s W W' h ht => ⟨h.1, hIx s W W' h.2 ht⟩) h0
    (fun x a' W => ∃ N, w.heap.size ≤ N ∧ Blk W N (alC (nthP P x.1) (ad x.1) (cp x.1)) 29 ∧ a' = A x N ∧ w.heap.size ≤ W.heap.size)
    (fun x a' => own_of fun _ W W' h ht => by
      obtain ⟨N, h1, h2, h3, h4⟩ := h
      exact ⟨N, h1, ht.blk h2, h3, Nat.le_trans h4 ht.size⟩) ?assign ?body ?done ?stop
  case assign =>
    intro l pre x W K hi hK
    have hsz := hIs _ _ hi
    refine hassign l x W K (hK _ _ (keeps_of (Go.Joins.below_alloc1 W _)) ((Below.refl _ _).alloc (Nat.le_trans hn₀ hsz) _) (hI _ _ _ hi ⟨none, World.grownBy_alloc W _ none, fun r e => by cases e⟩) ⟨W.heap.size, hsz, Blk.new _ _ _, rfl, ?_⟩)
    simp; omega
  case body =>
    rintro l pre x a' W hl ⟨r, hr⟩ hi ⟨N, h1, h2, rfl, _⟩ hlt
    exact hbody l pre x N W h1 h2 hi hlt
  case done =>
    intro D xs W hD hS hi hk
    exact hdone D xs W hD hS.1 hS.2 hi hk
  case stop =>
    rintro D c pre W hD hS ⟨rfl, hi⟩ hk
    exact wpIn_ret (hstop D pre W hD hS hi hk)
end Go.Proofs.Ytcopckbpflmmeaa.Lop
