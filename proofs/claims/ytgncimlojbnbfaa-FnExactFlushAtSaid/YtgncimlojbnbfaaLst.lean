/-
  PROVED: impl.copiedAlarms gives the same alarms in memory of its own, each alarm's labels in a block of their own; nothing that was there is changed.
-/
import Derived.Test.YtgncimlojbnbfaaRws
namespace Go.Proofs.Ytgncimlojbnbfaa.ChnI
open Go.RowKit
open Go.Proofs.Ytgncimlojbnbfaa.Labs Go.Proofs.Ytgncimlojbnbfaa.LabS Go.Proofs.Ytgncimlojbnbfaa.Alms Go.Proofs.Ytgncimlojbnbfaa.AlmM Go.Proofs.Ytgncimlojbnbfaa.Over Go.Proofs.Ytgncimlojbnbfaa.Blk Go.Proofs.Ytgncimlojbnbfaa.App Go.Proofs.Ytgncimlojbnbfaa.Rws
set_option linter.unusedVariables false
def LenP (P : List PAl) : Prop := ∀ i, i < P.length → (nthP P i).l.length ≤ maxLen
theorem set_low {B M : Nat} {w w' : World} (h : Below B w w') (hM : B ≤ M) (i : Nat) (v : Value) : Below B w (w'.setCell ⟨M, i, none⟩ v) := h.setCell (p := ⟨M, i, none⟩) hM v
theorem retI {a b : Int} (h : a = b) : Ending.returned (.int .i64 a) = .returned (.int .i64 b) := by rw [h]
end Go.Proofs.Ytgncimlojbnbfaa.ChnI
namespace Go.Proofs.Ytgncimlojbnbfaa.ChnC
open Go.RowKit
open Go.Proofs.Ytgncimlojbnbfaa.Labs Go.Proofs.Ytgncimlojbnbfaa.LabS Go.Proofs.Ytgncimlojbnbfaa.Alms Go.Proofs.Ytgncimlojbnbfaa.AlmM Go.Proofs.Ytgncimlojbnbfaa.Over Go.Proofs.Ytgncimlojbnbfaa.Blk Go.Proofs.Ytgncimlojbnbfaa.App Go.Proofs.Ytgncimlojbnbfaa.Rws
open Go.Proofs.Ytgncimlojbnbfaa.ChnI
def LenM (P : List PAl) : Prop := ∀ i, i < P.length → (nthP P i).l.length ≤ 1048576
/-- the row while it is filled: as far as the alarms have come in turn -/
structure Fill (lo : Nat) (w : World) (M : Nat) (P : List PAl) (k : Nat) (cs : Array Value) (rs : List ARow) : Prop where
  len : rs.length = k
  pal : pals rs = P.take k
  cell : ∀ i, i < k → Four (fun j => cs[j]?) i (nthA rs i)
  rows : ∀ x ∈ rs, OwnA lo w x
  ne : rs.Pairwise fun x y => x.1 ≠ y.1
theorem Fill.moved {lo : Nat} {w w' : World} {M : Nat} {P : List PAl} {k : Nat} {cs : Array Value} {rs : List ARow} (h : Fill lo w M P k cs rs) (hm : ∀ x, OwnA lo w x → OwnA lo w' x) : Fill lo w' M P k cs rs :=
  ⟨h.len, h.pal, h.cell, fun x hx => hm x (h.rows x hx), h.ne⟩
theorem Fill.next {lo : Nat} {w : World} {M : Nat} {P : List PAl} {k : Nat} {cs : Array Value} {rs : List ARow} {x : ARow} (h : Fill lo w M P k cs rs) (hM : Blk w M cs 48) (hs : cs.size = P.length * 4) (hk : k < P.length) (hx : OwnA lo w x) (hp : x.2.2 = nthP P k) (hne : ∀ y ∈ rs, y.1 ≠ x.1) :
    Fill lo (put4W w M k x) M P (k + 1) (put4C cs k x) (rs ++ [x]) := by
  have far : ∀ y, OwnA lo w y → OwnA lo (put4W w M k x) y := fun y hy => by
    obtain ⟨h0, h1, ds, h2, h3⟩ := hy
    exact ⟨h0, h1, ds, put4W_other h2 (blkA_ne hM h2), h3⟩
  have hl := h.len
  refine ⟨by simp [hl], by rw [pals_app, h.pal, takeP_up hk, hp], fun i hi => ?_, fun y hy => ?_, ?_⟩
  · by_cases e : i < k
    · rw [nthA_app_lt (by omega)]
      exact (h.cell i e).congr fun j h0 h1 => put4_ne (by omega)
    · have : i = rs.length := by omega
      subst this
      rw [nthA_app_eq, hl]
      exact put4_at (by omega)
  · rcases List.mem_append.1 hy with hy | hy
    · exact far y (h.rows y hy)
    · rw [List.mem_singleton.1 hy]; exact far x hx
  · rw [List.pairwise_append]
    exact ⟨h.ne, List.pairwise_singleton _ _, fun a ha b hb => by rw [List.mem_singleton.1 hb]; exact hne a ha⟩
theorem Fill.ab {lo : Nat} {w : World} {M : Nat} {P : List PAl} {cs : Array Value} {rs : List ARow} (h : Fill lo w M P P.length cs rs) (hM : Blk w M cs 48) (hs : cs.size = P.length * 4) (hlo : lo ≤ M) (hl : P.length ≤ 1048576) : AB lo w M P.length rs ∧ pals rs = P :=
  ⟨⟨hlo, ⟨by rw [h.len]; exact Nat.le_refl _, by unfold maxLen; omega⟩, ⟨cs, hM, hs, fun i hi => h.cell i (by rw [← h.len]; exact hi)⟩, h.rows, h.ne⟩, by rw [h.pal]; exact List.take_length⟩
end Go.Proofs.Ytgncimlojbnbfaa.ChnC
namespace Go.Proofs.Ytgncimlojbnbfaa.ChnP
open Go.RowKit
open Go.Proofs.Ytgncimlojbnbfaa.Labs Go.Proofs.Ytgncimlojbnbfaa.LabS Go.Proofs.Ytgncimlojbnbfaa.Alms Go.Proofs.Ytgncimlojbnbfaa.AlmM Go.Proofs.Ytgncimlojbnbfaa.Over Go.Proofs.Ytgncimlojbnbfaa.Blk Go.Proofs.Ytgncimlojbnbfaa.App Go.Proofs.Ytgncimlojbnbfaa.Rws
open Go.Proofs.Ytgncimlojbnbfaa.ChnI Go.Proofs.Ytgncimlojbnbfaa.ChnC
theorem len_m {P : List PAl} (h : LenM P) : LenP P := fun i hi => by have := h i hi; unfold maxLen; omega
theorem set2 {B M : Nat} {w w' : World} (h : Below B w w') (hM : B ≤ M) (v0 v1 : Value) : Below B w ((w'.setCell ⟨M, 0, none⟩ v0).setCell ⟨M, 1, none⟩ v1) := set_low (set_low h hM 0 v0) hM 1 v1
theorem ab_moved {lo : Nat} {w w' : World} {M c : Nat} {rs : List ARow} (h : AB lo w M c rs) (hA : ∀ {cs : Array Value}, Blk w M cs 48 → Blk w' M cs 48) (hL : ∀ {k : Nat} {cs : Array Value}, Blk w k cs 73 → Blk w' k cs 73) : AB lo w' M c rs := by
  obtain ⟨cur, h1, h2⟩ := h.outer
  exact ⟨h.at', h.cap, ⟨cur, hA h1, h2⟩, fun x hx => by
    obtain ⟨k0, k1, ds, k2, k3⟩ := h.rows x hx
    exact ⟨k0, k1, ds, hL k2, k3⟩, h.ne⟩
theorem own_grow {w w' : World} {B : Nat} {e : TypeId} {size n : Nat} {v : Value} {xs : List Value} (h : w.ownsRow B e size v n xs) (hb : Below w.heap.size w w') : w'.ownsRow B e size v n xs :=
  h.kept (bel_grown hb) (by cases hv : v.ownBlock with | none => exact .inl rfl | some k => exact .inr (fun e => by cases e))
theorem pals_put (rs : List ARow) (k : Nat) (x : ARow) : pals (putA rs k x) = (pals rs).set k x.2.2 := by simp [pals, putA, List.map_set]
theorem putA_len (rs : List ARow) (k : Nat) (x : ARow) : (putA rs k x).length = rs.length := by simp [putA]
end Go.Proofs.Ytgncimlojbnbfaa.ChnP
namespace Go.Proofs.Ytgncimlojbnbfaa.ChnC
open Go.RowKit
open Go.Proofs.Ytgncimlojbnbfaa.Labs Go.Proofs.Ytgncimlojbnbfaa.LabS Go.Proofs.Ytgncimlojbnbfaa.Alms Go.Proofs.Ytgncimlojbnbfaa.AlmM Go.Proofs.Ytgncimlojbnbfaa.Over Go.Proofs.Ytgncimlojbnbfaa.Blk Go.Proofs.Ytgncimlojbnbfaa.App Go.Proofs.Ytgncimlojbnbfaa.Rws
open Go.Proofs.Ytgncimlojbnbfaa.ChnI
theorem four_cells {w : World} {M : Nat} {cs : Array Value} {T : TypeId} (h : Blk w M cs T) (k : Nat) (hk : k * 4 + 3 < cs.size) : ∃ v0 v1 v2 v3, w.cell? ⟨M, k * 4, none⟩ = some v0 ∧ w.cell? ⟨M, k * 4 + 1, none⟩ = some v1 ∧ w.cell? ⟨M, k * 4 + 2, none⟩ = some v2 ∧ w.cell? ⟨M, k * 4 + 3, none⟩ = some v3 :=
  ⟨cs[k * 4]'(by omega), cs[k * 4 + 1]'(by omega), cs[k * 4 + 2]'(by omega), cs[k * 4 + 3]'(by omega), by rw [h.cell]; simp, by rw [h.cell]; simp, by rw [h.cell]; simp, by rw [h.cell]; simp⟩
set_option maxHeartbeats 1600000 in
theorem implCopies_any (a : Option Addr) (cap : Nat) (P : List PAl) (w : World) (hr : RdA w a P) (hl : P.length ≤ 1048576) (hs : LenM P) :
    Calls Try.prog 90 #[.slice a P.length cap] w fun e w' => (∃ M rs, e = .returned (.slice (some ⟨M, 0, none⟩) P.length P.length) ∧ AB w.heap.size w' M P.length rs ∧ pals rs = P) ∧ Below w.heap.size w w' := by
  have HR : Hid (RdA w a P) := hr
  have HS : Hid (LenM P) := hs
  clear hr hs
  have hmk := make_k (P := Try.prog) 53 48 (.agg #[.slice none 0 0, .int .i64 0, .int .i64 0, .string ByteArray.empty]) 4 56 Try.underlying53 infoA .i64 .i64 P.length (by omega) (by omega)
  go_enter Try.func90, Try.ntmps90
  go_wp2
  go_loopw [11] (fun i w' => ∃ (k : Nat) (cs : Array Value) (rs : List ARow), k ≤ P.length ∧ i = .int .i64 k ∧ Blk w' w.heap.size cs 48 ∧ cs.size = P.length * 4 ∧ Fill w.heap.size w' w.heap.size P k cs rs ∧ Below w.heap.size w w') (fun i _ => P.length - (intOf i).toNat)
  case atStart => exact ⟨0, _, [], Nat.zero_le _, rfl, Blk.new _ _ _, by simp [size_madeCells], ⟨rfl, rfl, fun i hi => by simp at hi, fun x hx => by simp at hx, List.Pairwise.nil⟩, (Below.refl _ _).alloc (Nat.le_refl _) _⟩
  case round =>
    clear hmk
    obtain ⟨k, cs, rs, hk, rfl, hM, hcs, hF, hw0⟩ := hrel
    have HB : Hid (Below w.heap.size w wr) := hw0
    have HM : Hid (Blk wr w.heap.size cs 48 ∧ cs.size = P.length * 4) := ⟨hM, hcs⟩
    have HF : Hid (Fill w.heap.size wr w.heap.size P k cs rs) := hF
    clear hM hcs hF hw0
    by_cases hlt : k < P.length
    · have hlt' : (k : Int) < (P.length : Int) := by omega
      obtain ⟨b, off, rfl, hb, ad, cp, hat⟩ := (HR.out.below HB.out).get hlt
      have h2 := hat.c0
      have h3 := hat.c1
      have h4 := hat.c2
      have h5 := hat.c3
      have HC : Hid (∀ y, Below wr.heap.size wr y → Calls Try.prog 108 #[.agg #[.slice ad (nthP P k).l.length cp, .int .i64 (nthP P k).s, .int .i64 (nthP P k).e, .string (nthP P k).n]] y fun r w' => (∃ Mx c, r = .returned (.agg #[.slice (some ⟨Mx, 0, none⟩) (nthP P k).l.length c, .int .i64 (nthP P k).s, .int .i64 (nthP P k).e, .string (nthP P k).n]) ∧ LabR.Own y w' Mx (nthP P k).l) ∧ Below y.heap.size y w') := fun y hy => copyI_any _ _ _ _ _ _ y (hat.reads.below hy) (HS.out k hlt)
      clear hat
      go_wp2_with fail
      refine (HC.out _ (Go.Joins.below_alloc1 wr _)).mono ?_
      rintro e w1 ⟨⟨Mx, cx, rfl, hO⟩, hy⟩
      have hz : Below wr.heap.size wr w1 := grow_on (Go.Joins.below_alloc1 wr _) hy
      have HZ : Hid (Below wr.heap.size wr w1) := hz
      have HO : Hid (OwnA w.heap.size w1 (Mx, cx, nthP P k) ∧ wr.heap.size ≤ Mx) := by
        have h1 := hO.1
        have h2 := HB.out.size
        refine ⟨(own_of_copy hO (HS.out k hlt)).down ?_, ?_⟩
        · simp; omega
        · simp at h1; omega
      have hm1 := HM.out.1.grow hz
      obtain ⟨v0, v1, v2, v3, c0, c1, c2, c3⟩ := four_cells hm1 k (by have := HM.out.2; omega)
      have f0 := hm1.frozen (k * 4)
      have f1 := hm1.frozen (k * 4 + 1)
      have f2 := hm1.frozen (k * 4 + 2)
      have f3 := hm1.frozen (k * 4 + 3)
      clear hy hz hO hm1 h2 h3 h4 h5 HC
      go_wp2_with fail
      have HFN : Hid (Fill w.heap.size (put4W w1 w.heap.size k (Mx, cx, nthP P k)) w.heap.size P (k + 1) (put4C cs k (Mx, cx, nthP P k)) (rs ++ [(Mx, cx, nthP P k)])) :=
        (HF.out.moved fun y hy => hy.grow HZ.out).next (HM.out.1.grow HZ.out) HM.out.2 hlt HO.out.1 rfl (fun y hy => by have := (HF.out.rows y hy).lt; have := HO.out.2; show y.1 ≠ Mx; omega)
      have HBN : Hid (Blk (put4W w1 w.heap.size k (Mx, cx, nthP P k)) w.heap.size (put4C cs k (Mx, cx, nthP P k)) 48) := put4W_blk (HM.out.1.grow HZ.out)
      have HLN : Hid (Below w.heap.size w (put4W w1 w.heap.size k (Mx, cx, nthP P k))) := put4W_low (grow_on HB.out HZ.out) (Nat.le_refl _)
      clear c0 c1 c2 c3 f0 f1 f2 f3
      go_roundw
      case rel => exact ⟨k + 1, _, _, by omega, by go_num, HBN.out, by rw [put4_size]; exact HM.out.2, HFN.out, HLN.out⟩
      case measure => simp [intOf]; omega
    · have hge : ¬ (k : Int) < (P.length : Int) := by omega
      have HE : Hid (k = P.length) := by show k = P.length; omega
      go_wp2
      go_ret
      have hf := HF.out
      rw [HE.out] at hf
      obtain ⟨h1, h2⟩ := hf.ab HM.out.1 HM.out.2 (Nat.le_refl _) hl
      exact ⟨⟨w.heap.size, rfl, rs, h1, h2⟩, HB.out⟩
end Go.Proofs.Ytgncimlojbnbfaa.ChnC
namespace Go.Proofs.Ytgncimlojbnbfaa.Chs
open Go.RowKit
open Go.Proofs.Ytgncimlojbnbfaa.Labs Go.Proofs.Ytgncimlojbnbfaa.LabS Go.Proofs.Ytgncimlojbnbfaa.Alms Go.Proofs.Ytgncimlojbnbfaa.AlmM Go.Proofs.Ytgncimlojbnbfaa.Over Go.Proofs.Ytgncimlojbnbfaa.Blk Go.Proofs.Ytgncimlojbnbfaa.App Go.Proofs.Ytgncimlojbnbfaa.Rws Go.Proofs.Ytgncimlojbnbfaa.ChnI Go.Proofs.Ytgncimlojbnbfaa.ChnC
set_option linter.unusedVariables false
/-- what holds alarms and labels is as it was -/
structure Moved (w w' : World) : Prop where
  A : ∀ {k : Nat} {cs : Array Value}, Blk w k cs 48 → Blk w' k cs 48
  L : ∀ {k : Nat} {cs : Array Value}, Blk w k cs 73 → Blk w' k cs 73
theorem Moved.refl (w : World) : Moved w w := ⟨id, id⟩
theorem Moved.trans {a b c : World} (h : Moved a b) (k : Moved b c) : Moved a c := ⟨fun x => k.A (h.A x), fun x => k.L (h.L x)⟩
theorem Moved.of {w w' : World} (h : Below w.heap.size w w') : Moved w w' := ⟨fun x => x.grow h, fun x => x.grow h⟩
theorem Moved.set {w : World} {N : Nat} {cs : Array Value} {T : TypeId} (hN : Blk w N cs T) (hA : T ≠ 48) (hL : T ≠ 73) (i : Nat) (v : Value) : Moved w (w.setCell ⟨N, i, none⟩ v) := by
  have ne : ∀ {k : Nat} {ds : Array Value} {U : TypeId}, Blk w k ds U → T ≠ U → N ≠ k := fun h hU e => by
    subst e
    unfold Blk at h hN
    rw [hN] at h
    injection h with h
    injection h with _ h
    exact hU h
  exact ⟨fun x => x.set_other (ne x hA) _, fun x => x.set_other (ne x hL) _⟩
theorem Moved.far {w w' : World} {N : Nat} {cs : Array Value} {T : TypeId} (hN : Blk w N cs T) (hA : T ≠ 48) (hL : T ≠ 73) (hg : w.grownBy w' (some N)) : Moved w w' := by
  have ne : ∀ {k : Nat} {ds : Array Value} {U : TypeId}, Blk w k ds U → T ≠ U → some k ≠ some N := fun h hU e => by
    injection e with e
    subst e
    unfold Blk at h hN
    rw [hN] at h
    injection h with h
    injection h with _ h
    exact hU h
  exact ⟨fun x => blk_far x hg (ne x hA), fun x => blk_far x hg (ne x hL)⟩
theorem ab_moved {lo : Nat} {w w' : World} {M c : Nat} {rs : List ARow} (h : AB lo w M c rs) (hm : Moved w w') : AB lo w' M c rs := by
  obtain ⟨cur, h1, h2⟩ := h.outer
  refine ⟨h.at', h.cap, ⟨cur, hm.A h1, h2⟩, fun x hx => ?_, h.ne⟩
  obtain ⟨h0, h1, ds, h2, h3⟩ := h.rows x hx
  exact ⟨h0, h1, ds, hm.L h2, h3⟩
/-- what is read stays as it is while memory grows -/
def Stays (R : World → Option Addr → List PAl → Prop) : Prop := ∀ (w w' : World) (a : Option Addr) (P : List PAl), R w a P → Below w.heap.size w w' → R w' a P
theorem stays_rd : Stays RdA := fun _ _ _ _ h hb => h.below hb
theorem stays_rn : Stays RdN := fun _ _ _ _ h hb => h.below hb
theorem lenM_of {P : List PAl} (h : sumL P ≤ 1048576) : LenM P := fun i hi => Nat.le_trans (sum_nth hi) h
theorem lenP_of {P : List PAl} (h : FitsP P) : LenP P := fun i hi => (h i hi).len
end Go.Proofs.Ytgncimlojbnbfaa.Chs
namespace Go.Proofs.Ytgncimlojbnbfaa.DrawC
open Go.RowKit
open Go.Proofs.Ytgncimlojbnbfaa.Labs Go.Proofs.Ytgncimlojbnbfaa.LabS Go.Proofs.Ytgncimlojbnbfaa.Alms Go.Proofs.Ytgncimlojbnbfaa.AlmM Go.Proofs.Ytgncimlojbnbfaa.Over Go.Proofs.Ytgncimlojbnbfaa.Blk Go.Proofs.Ytgncimlojbnbfaa.App Go.Proofs.Ytgncimlojbnbfaa.Rws Go.Proofs.Ytgncimlojbnbfaa.ChnI Go.Proofs.Ytgncimlojbnbfaa.ChnC
set_option linter.unusedVariables false
theorem own_set {lo : Nat} {w : World} {x : ARow} {A : Nat} (h : OwnA lo w x) (hne : A ≠ x.1) (i : Nat) (v : Value) : OwnA lo (w.setCell ⟨A, i, none⟩ v) x := by
  obtain ⟨h1, h2, ds, hb, h3⟩ := h
  exact ⟨h1, h2, ds, hb.set_other hne v, h3⟩
theorem ab_under {lo : Nat} {w : World} {A M cap : Nat} {rs : List ARow} (h : AB lo w M cap rs) (hA : A < lo) (i : Nat) (v : Value) : AB lo (w.setCell ⟨A, i, none⟩ v) M cap rs := by
  obtain ⟨cur, h1, h2⟩ := h.outer
  exact ⟨h.at', h.cap, ⟨cur, h1.set_other (by have := h.at'; show A ≠ M; omega) v, h2⟩, fun x hx => own_set (h.rows x hx) (by have := (h.rows x hx).1; omega) i v, h.ne⟩
end Go.Proofs.Ytgncimlojbnbfaa.DrawC
