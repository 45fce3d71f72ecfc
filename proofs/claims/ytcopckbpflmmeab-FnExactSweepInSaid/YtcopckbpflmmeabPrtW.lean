/-
  PROVED: what is left of a part's chains, and what goes, on plain lists; rows of alarms and of chains are kept while another row of alarms is written; over a part in memory spec.SweepIn answers so, in memory of its own; nothing that was there is changed.
-/
import Derived.Test.YtcopckbpflmmeabPrtA
import Derived.Test.YtcopckbpflmmeabPrtM
import Derived.Test.YtcopckbpflmmeabChnV
namespace Go.Proofs.Ytcopckbpflmmeab.PrtW
open Go.RowKit
open Go.Proofs.Ytcopckbpflmmeab.Labs Go.Proofs.Ytcopckbpflmmeab.LabS Go.Proofs.Ytcopckbpflmmeab.Alms Go.Proofs.Ytcopckbpflmmeab.AlmM Go.Proofs.Ytcopckbpflmmeab.Over Go.Proofs.Ytcopckbpflmmeab.Blk Go.Proofs.Ytcopckbpflmmeab.App Go.Proofs.Ytcopckbpflmmeab.Rws Go.Proofs.Ytcopckbpflmmeab.ChnI Go.Proofs.Ytcopckbpflmmeab.ChnC Go.Proofs.Ytcopckbpflmmeab.ChnP Go.Proofs.Ytcopckbpflmmeab.ChnD Go.Proofs.Ytcopckbpflmmeab.ChnV Go.Proofs.Ytcopckbpflmmeab.ChnK Go.Proofs.Ytcopckbpflmmeab.Chs Go.Proofs.Ytcopckbpflmmeab.Prt Go.Proofs.Ytcopckbpflmmeab.PrtA Go.Proofs.Ytcopckbpflmmeab.PrtM
set_option linter.unusedVariables false

/-- what is left of a chain -/
def sweep1 (now : Int) (x : PCh) : Option PCh := if (leftTo x.P now x.P.length).length = 0 then none else some ⟨x.f, leftTo x.P now x.P.length⟩
theorem sweep1_no {now : Int} {x : PCh} (h : (leftTo x.P now x.P.length).length = 0) : sweep1 now x = none := if_pos h
theorem sweep1_yes {now : Int} {x : PCh} (h : ¬ (leftTo x.P now x.P.length).length = 0) : sweep1 now x = some ⟨x.f, leftTo x.P now x.P.length⟩ := if_neg h
def sweepTo (C : List PCh) (now : Int) (k : Nat) : List PCh := (C.take k).filterMap (sweep1 now)
def gonesTo (C : List PCh) (now : Int) (k : Nat) : List PAl := (C.take k).flatMap fun x => goneTo x.P now x.P.length
theorem sweep_no {C : List PCh} {now : Int} {k : Nat} (h : k < C.length) (hv : sweep1 now (nthC C k) = none) : sweepTo C now (k + 1) = sweepTo C now k := by
  unfold sweepTo
  rw [takeC_up h, List.filterMap_append]
  simp [hv]
theorem sweep_yes {C : List PCh} {now : Int} {k : Nat} {x : PCh} (h : k < C.length) (hv : sweep1 now (nthC C k) = some x) : sweepTo C now (k + 1) = sweepTo C now k ++ [x] := by
  unfold sweepTo
  rw [takeC_up h, List.filterMap_append]
  simp [hv]
theorem gones_up {C : List PCh} {now : Int} {k : Nat} (h : k < C.length) : gonesTo C now (k + 1) = gonesTo C now k ++ goneTo (nthC C k).P now (nthC C k).P.length := by
  unfold gonesTo
  rw [takeC_up h, List.flatMap_append]
  simp
theorem left_gone (P : List PAl) (now : Int) : (leftTo P now P.length).length + (goneTo P now P.length).length = P.length ∧ sumL (leftTo P now P.length) + sumL (goneTo P now P.length) = sumL P := by
  have h1 := drop_len P now P.length
  have h2 := drop_sum P now P.length
  rw [List.take_length] at h1 h2
  exact ⟨h1, h2⟩
theorem sweep_sum {C : List PCh} {now : Int} : ∀ {k : Nat}, k ≤ C.length → sumC (sweepTo C now k) + (gonesTo C now k).length + sumL (gonesTo C now k) ≤ sumC (C.take k) ∧ (sweepTo C now k).length ≤ k
  | 0, _ => by simp [sweepTo, gonesTo, sumC, sumL]
  | k + 1, h => by
    have ih := sweep_sum (C := C) (now := now) (k := k) (by omega)
    have h1 := left_gone (nthC C k).P now
    have h2 := sumC_up (C := C) (k := k) (by omega)
    rw [gones_up (by omega), List.length_append, sum_app]
    by_cases e : (leftTo (nthC C k).P now (nthC C k).P.length).length = 0
    · rw [sweep_no (by omega) (sweep1_no e)]
      omega
    · rw [sweep_yes (by omega) (sweep1_yes e), sumC_app, List.length_append]
      simp only [sumC, List.length_cons, List.length_nil]
      omega
theorem sweep_all {C : List PCh} {now : Int} {k : Nat} (h : C.length ≤ k) : sweepTo C now k = sweepTo C now C.length ∧ gonesTo C now k = gonesTo C now C.length := by
  unfold sweepTo gonesTo
  rw [List.take_of_length_le h, List.take_length]
  exact ⟨rfl, rfl⟩
theorem sweep_fit {C : List PCh} {now : Int} {k : Nat} (h : FitsC C) : FitsC (sweepTo C now k) ∧ FitsP (gonesTo C now k) := by
  refine ⟨fun x hx => ?_, fits_of fun x hx => ?_⟩
  · obtain ⟨y, hy, e⟩ := List.mem_filterMap.1 hx
    have hf := h y (List.mem_of_mem_take hy)
    have hle := left_gone y.P now
    by_cases q : (leftTo y.P now y.P.length).length = 0
    · rw [sweep1_no q] at e; cases e
    · rw [sweep1_yes q] at e
      cases e
      exact ⟨hf.fb, by have := hf.len; show (leftTo y.P now y.P.length).length ≤ maxLen; omega, fits_left hf.fits⟩
  · obtain ⟨y, hy, e⟩ := List.mem_flatMap.1 hx
    exact fits_mem (fits_gone (h y (List.mem_of_mem_take hy)).fits) e
/-- a row of alarms is kept while another one is written -/
theorem ab_far {lo : Nat} {W w' : World} {M c Md : Nat} {rs : List ARow} {cur : Array Value} (h : AB lo W M c rs) (hd : Blk W Md cur 68) (hg : W.grownBy w' (some Md)) (hne : M ≠ Md) : AB lo w' M c rs := by
  obtain ⟨cu, h1, h2⟩ := h.outer
  refine ⟨h.at', h.cap, ⟨cu, blk_far h1 hg (fun e => hne (Option.some.inj e)), h2⟩, fun x hx => ?_, h.ne⟩
  obtain ⟨k0, k1, ds, k2, k3⟩ := h.rows x hx
  exact ⟨k0, k1, ds, blk_far k2 hg (fun e => blkA_ne hd k2 (Option.some.inj e).symm), k3⟩
theorem cb_far {lo : Nat} {W w' : World} {M c Md : Nat} {cs : List CRow} {cur : Array Value} (h : CB lo W M c cs) (hd : Blk W Md cur 68) (hg : W.grownBy w' (some Md)) (hne : ∀ x ∈ cs, x.M ≠ Md) : CB lo w' M c cs := by
  obtain ⟨cu, h1, h2⟩ := h.outer
  exact ⟨h.at', h.cap, ⟨cu, blk_far h1 hg (fun e => blkT_ne h1 hd (by decide) (Option.some.inj e)), h2⟩, ⟨fun x hx => ab_far (h.rows.rows x hx) hd hg (hne x hx), h.rows.ne⟩⟩
theorem ab_out {lo : Nat} {w : World} {M c : Nat} {rs : List ARow} (h : AB lo w M c rs) : ∃ cur : Array Value, Blk w M cur 68 := by
  obtain ⟨cu, h1, _⟩ := h.outer
  exact ⟨cu, h1⟩
def verS (vr : Int) (n : Nat) : Int := if n = 0 then vr else IntKind.i64.wrap (vr + 1)
theorem verS_0 {vr : Int} {n : Nat} (h : n = 0) : verS vr n = vr := if_pos h
theorem verS_1 {vr : Int} {n : Nat} (h : ¬ n = 0) : verS vr n = IntKind.i64.wrap (vr + 1) := if_neg h
/-- where an append leaves its row -/
theorem at_new {v' : Value} {M W M' n c : Nat} (hat : v'.ownBlock = some M ∨ v'.ownBlock = some W) (e : v' = .slice (some ⟨M', 0, none⟩) n c) : M' = M ∨ M' = W := by
  subst e
  rcases hat with h | h
  · exact .inl (by simpa [Value.ownBlock] using h)
  · exact .inr (by simpa [Value.ownBlock] using h)

/-- the state of spec.SweepIn's loop -/
structure MidW (w : World) (hd vr : Int) (a : Option Addr) (n cap : Nat) (W : World) (Md cd : Nat) (rs : List ARow) (M c : Nat) (cs : List CRow) : Prop where
  part : Blk W w.heap.size #[.int .i64 hd, .int .i64 vr, .slice a n cap] 28
  res : Blk W (w.heap.size + 1) #[.int .i64 0, .int .i64 0, .slice none 0 0] 28
  out : Blk W (w.heap.size + 3) #[.int .i64 hd, .int .i64 vr, .slice (some ⟨M, 0, none⟩) cs.length c] 28
  gone : AB (w.heap.size + 2) W Md cd rs
  left : CB (w.heap.size + 2) W M c cs
  ne : ∀ x ∈ cs, x.M ≠ Md
  low : Below w.heap.size w W
  size : w.heap.size + 5 ≤ W.heap.size
theorem MidW.grow {w : World} {hd vr : Int} {a : Option Addr} {n cap : Nat} {W W' : World} {Md cd : Nat} {rs : List ARow} {M c : Nat} {cs : List CRow} (h : MidW w hd vr a n cap W Md cd rs M c cs) (hb : Below W.heap.size W W') : MidW w hd vr a n cap W' Md cd rs M c cs :=
  ⟨h.part.grow hb, h.res.grow hb, h.out.grow hb, h.gone.grow hb, h.left.grow hb, h.ne, grow_on h.low hb, Nat.le_trans h.size hb.size⟩
end Go.Proofs.Ytcopckbpflmmeab.PrtW
