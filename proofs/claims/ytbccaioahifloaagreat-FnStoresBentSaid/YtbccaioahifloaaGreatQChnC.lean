/-
  PROVED: impl.copiedChain gives a chain of the same alarms in memory of its own, each alarm's labels in a block of their own; nothing that was there is changed.
-/
import Derived.Test.YtbccaioahifloaaGreatQChnI
import Derived.Deep.DeepCutAuto
set_option linter.unusedVariables false
namespace Go.Proofs.YtbccaioahifloaaGreat.ChnC
open Go.RowKit
open Labs LabS Alms AlmM Over Blk Rnd Plc Lop App Rws ChnI
attribute [local go_sem] Oper.semAt_some

def LenM (P : List PAl) : Prop := ∀ i, i < P.length → (nthP P i).l.length ≤ 1048576
theorem blkC_ne {w : World} {a : Nat} {cs ds : Array Value} (h : Blk w a cs 75) (k : Blk w a ds 72) : False := by
  unfold Blk at h k
  rw [h] at k
  injection k with k
  injection k with _ k
  exact absurd k (by decide)
theorem keeps_put4 {B : Nat} {W w : World} {M k : Nat} {x : ARow} (h : KeepsFrom B W w) : KeepsFrom B W (put4W w M k x) :=
  (((h.trans ((KeepsOthers.setCell _ _ _).from _)).trans ((KeepsOthers.setCell _ _ _).from _)).trans ((KeepsOthers.setCell _ _ _).from _)).trans ((KeepsOthers.setCell _ _ _).from _)
structure Fill (lo : Nat) (w : World) (M : Nat) (P : List PAl) (k : Nat) (cs : Array Value) (rs : List ARow) : Prop where
  len : rs.length = k
  pal : pals rs = P.take k
  cell : ∀ i, i < k → Four (fun j => cs[j]?) i (nthA rs i)
  rows : ∀ x ∈ rs, OwnA lo w x
  ne : rs.Pairwise fun x y => x.1 ≠ y.1
theorem Fill.moved {lo : Nat} {w w' : World} {M : Nat} {P : List PAl} {k : Nat} {cs : Array Value} {rs : List ARow} (h : Fill lo w M P k cs rs) (hm : ∀ x, OwnA lo w x → OwnA lo w' x) : Fill lo w' M P k cs rs :=
  ⟨h.len, h.pal, h.cell, fun x hx => hm x (h.rows x hx), h.ne⟩
theorem Fill.next {lo : Nat} {w : World} {M : Nat} {P : List PAl} {k : Nat} {cs : Array Value} {rs : List ARow} {x : ARow} (h : Fill lo w M P k cs rs) (hM : Blk w M cs 27) (hs : cs.size = P.length * 4) (hk : k < P.length) (hx : OwnA lo w x) (hp : x.2.2 = nthP P k) (hne : ∀ y ∈ rs, y.1 ≠ x.1) :
    Fill lo (put4W w M k x) M P (k + 1) (put4C cs k x) (rs ++ [x]) := by
  have far : ∀ y, OwnA lo w y → OwnA lo (put4W w M k x) y := fun y hy => by
    obtain ⟨h0, h1, ds, h2, h3⟩ := hy
    exact ⟨h0, h1, ds, put4W_other h2 (blkA_ne hM h2), h3⟩
  have hl := h.len
  refine ⟨by simp [hl], by rw [pals_app, h.pal, takeP_up hk, hp], fun i hi => ?_, fun y hy => ?_, ?_⟩
  · by_cases e : i < k
    · rw [nthA_app_lt (by omega)]
      exact (h.cell i e).congr fun j h0 h1 => put4_ne (by omega)
    · have : i = rs.length := by omega
      subst this
      rw [nthA_app_eq, hl]
      exact put4_at (by omega)
  · rcases List.mem_append.1 hy with hy | hy
    · exact far y (h.rows y hy)
    · rw [List.mem_singleton.1 hy]; exact far x hx
  · rw [List.pairwise_append]
    exact ⟨h.ne, List.pairwise_singleton _ _, fun a ha b hb => by rw [List.mem_singleton.1 hb]; exact hne a ha⟩
theorem Fill.ab {lo : Nat} {w : World} {M : Nat} {P : List PAl} {cs : Array Value} {rs : List ARow} (h : Fill lo w M P P.length cs rs) (hM : Blk w M cs 27) (hs : cs.size = P.length * 4) (hlo : lo ≤ M) (hl : P.length ≤ 1048576) : AB lo w M P.length rs ∧ pals rs = P :=
  ⟨⟨hlo, ⟨by rw [h.len]; exact Nat.le_refl _, by unfold maxLen; omega⟩, ⟨cs, hM, hs, fun i hi => h.cell i (by rw [← h.len]; exact hi)⟩, h.rows, h.ne⟩, by rw [h.pal]; exact List.take_length⟩
set_option maxRecDepth 100000 in
set_option maxHeartbeats 2000000 in
theorem implCopy_any (f : Int) (a : Option Addr) (cap : Nat) (P : List PAl) (w : World) (hr : RdA w a P) (hl : P.length ≤ 1048576) (hs : LenM P) :
    Calls Tryz.prog 74 #[.agg #[.int .i64 f, .slice a P.length cap]] w fun e w' => (∃ M rs, e = .returned (.agg #[.int .i64 f, .slice (some ⟨M, 0, none⟩) P.length P.length]) ∧ AB w.heap.size w' M P.length rs ∧ pals rs = P) ∧ Below w.heap.size w w' := by
  obtain ⟨b, off, ad, cp, ha, hat⟩ := pick hr
  have HA : Hid (∀ i, i < P.length → At w b off i (nthP P i) (ad i) (cp i)) := hat
  have HF : Hid (LenM P) := hs
  have HAB : Hid (P = [] ∨ (a = some ⟨b, off, none⟩ ∧ b < w.heap.size)) := ha
  clear hr hat hs ha
  have hmk := make_k (P := Tryz.prog) 34 27 (.agg #[.slice none 0 0, .int .i64 0, .int .i64 0, .string ByteArray.empty]) 4 56 Tryz.underlying34 infoA .i64 .i64 P.length (by omega) (by omega)
  refine (callsIn_wide (n := 2)).1 ?_
  refine callsIn_of_wp_marks Tryz.func74 rfl trivial ?_ rfl
  simp only [Tryz.ntmps74, List.size_toArray, List.length_cons, List.length_nil, Nat.reduceAdd, Nat.reduceSub, Array.replicate_succ, Array.replicate_zero, List.push_toArray, List.append_toArray, List.nil_append, List.cons_append]
  refine wpIn_wide.2 ?_
  go_upto_region 1 with fail
  go_cut [3] from 6 to 12 (fun s3 wx => ∃ (N M : Nat), s3 = .pointer (some ⟨N, 0, none⟩) ∧ Blk wx N #[.int .i64 f, .slice (some ⟨M, 0, none⟩) P.length P.length] 75 ∧ Blk wx M (madeCells (Value.agg #[.slice none 0 0, .int .i64 0, .int .i64 0, .string ByteArray.empty]).cells (P.length * 4)) 27 ∧ (w.heap.size + 2 ≤ N ∧ w.heap.size + 2 ≤ M ∧ N ≠ M) ∧ Blk wx w.heap.size #[.int .i64 f, .slice a P.length cap] 75 ∧ Blk wx (w.heap.size + 1) #[.int .i64 0, .slice none 0 0] 75 ∧ Below w.heap.size w wx)
  case first =>
    go_region
    all_goals (go_wp2_with fail)
    all_goals go_meet
    · exact ⟨_, w.heap.size + 1 + 1, rfl, (Blk.new_at (by simp)).drew, ((Blk.new_at (by simp)).alloc _).drew, ⟨by omega, by omega, by omega⟩, ((((Blk.new _ _ _).alloc _).alloc _).alloc _).drew, (((Blk.new_at (by simp)).alloc _).alloc _).drew, (((Alm.below3 w _ _ _).alloc (by simp; omega) _)).drew⟩
    · exact ⟨_, w.heap.size + 1 + 1 + 1, rfl, ((Blk.new_at (by simp)).alloc _).drew, (Blk.new_at (by simp)).drew, ⟨by omega, by omega, by omega⟩, ((((Blk.new _ _ _).alloc _).alloc _).alloc _).drew, (((Blk.new_at (by simp)).alloc _).alloc _).drew, (((Alm.below3 w _ _ _).alloc (by simp; omega) _)).drew⟩
  case rest =>
    obtain ⟨N, M, rfl, hN, hM, hNM, hC, hR, hB⟩ := hcut
    obtain ⟨w1, hwc⟩ : ∃ x, x = wc := ⟨_, rfl⟩
    subst hwc
    clear hmk
    have c0 : w1.cell? ⟨w.heap.size, 0, none⟩ = some (.int .i64 f) := hC.cell 0
    have c1 : w1.cell? ⟨w.heap.size, 1, none⟩ = some (.slice a P.length cap) := hC.cell 1
    have hN1 := hN.lt
    have hM1 := hM.lt
    go_wp2_with fail
    refine (places_any f a P.length cap _).mono ?_
    rintro e w2 ⟨rfl, rfl⟩
    go_wp2_with fail
    have hsz : (w1.alloc (.cells #[.int .i64 f, .slice a P.length cap] 75)).heap.size = w1.heap.size + 1 := by simp
    have hW3 : Blk (w1.alloc (.cells #[.int .i64 f, .slice a P.length cap] 75)) w1.heap.size #[.int .i64 f, .slice a P.length cap] 75 := Blk.new _ _ _
    replace hN := hN.alloc (.cells #[.int .i64 f, .slice a P.length cap] 75)
    replace hM := hM.alloc (.cells #[.int .i64 f, .slice a P.length cap] 75)
    replace hR := hR.alloc (.cells #[.int .i64 f, .slice a P.length cap] 75)
    replace hB := grow_on hB (Go.Joins.below_alloc1 w1 (.cells #[.int .i64 f, .slice a P.length cap] 75))
    clear hC c0 c1
    generalize w1.alloc (.cells #[.int .i64 f, .slice a P.length cap] 75) = W0 at *
    refine loop_places (B := w1.heap.size) (n₀ := w.heap.size) (P := P) (s := a) (cap := cap) (b := b) (off := off) (ad := ad) (cp := cp) rfl rfl (by omega) (by omega) (hW3.cell 1) hl HAB.out (fun i hi => (HA.out i hi).below hB (by
        rcases HAB.out with e | h
        · rw [e] at hi; simp at hi
        · exact h.2))
      (fun pre W => Blk W N #[.int .i64 f, .slice (some ⟨M, 0, none⟩) P.length P.length] 75 ∧ (∃ cs : Array Value, Blk W M cs 27 ∧ cs.size = P.length * 4 ∧ (InTurn pre → ∃ rs, Fill w.heap.size W M P pre.length cs rs)) ∧ Blk W (w.heap.size + 1) #[.int .i64 0, .slice none 0 0] 75 ∧ Below w.heap.size w W ∧ W0.heap.size ≤ W.heap.size)
      (fun pre W => False)
      (fun pre W W' h ht => by
        obtain ⟨h1, ⟨cs, h2, h3, h4⟩, h5, h6, h7⟩ := h
        refine ⟨ht.blk h1, ⟨cs, ht.blk h2, h3, fun hg => ?_⟩, ht.blk h5, ht.below (Nat.le_refl _) (by omega) h6, Nat.le_trans h7 ht.size⟩
        obtain ⟨rs, hf⟩ := h4 hg
        exact ⟨rs, hf.moved fun x hx => by
          obtain ⟨k0, k1, ds, k2, k3⟩ := hx
          exact ⟨k0, k1, ds, ht.blk k2, k3⟩⟩)
      (fun pre W W' h ht => h)
      (fun pre W h => h.2.2.2.2) ⟨hN, ⟨_, hM, by simp [size_madeCells], fun _ => ⟨[], rfl, rfl, fun i hi => by simp at hi, fun x hx => by simp at hx, List.Pairwise.nil⟩⟩, hR, hB, Nat.le_refl _⟩
      (fun x Nx => { tmps := #[.agg #[.int .i64 f, .slice a P.length cap], .pointer (some ⟨w.heap.size, 0, none⟩), .pointer (some ⟨w.heap.size + 1, 0, none⟩), .pointer (some ⟨N, 0, none⟩), .int .i64 (x.1 : Int), .pointer (some ⟨Nx, 0, none⟩), u6, u7, u8, u9, u10, u11, u12, .agg #[.int .i64 f, .slice a P.length cap], .func (.func 120) #[] #[.pointer (some ⟨w1.heap.size, 0, none⟩)], .int .i64 (x.1 : Int), .agg #[.slice (ad x.1) (nthP P x.1).l.length (cp x.1), .int .i64 (nthP P x.1).s, .int .i64 (nthP P x.1).e, .string (nthP P x.1).n], undef, undef, undef, undef, undef, undef, undef], defers := [] }) ?assign ?body ?done ?stop
    case assign =>
      intro l x W K hK
      dsimp only [enc]
      gi_wp2
      exact hK
    case body =>
      rintro l pre x Nx W hNx hx ⟨h1, ⟨cs, h2, h3, h4⟩, h5, h6, h7⟩ hlt
      have HX : Hid (Blk W Nx (alC (nthP P x.1) (ad x.1) (cp x.1)) 27) := hx
      have H1 : Hid (Blk W N #[.int .i64 f, .slice (some ⟨M, 0, none⟩) P.length P.length] 75) := h1
      have H2 : Hid (Blk W M cs 27 ∧ cs.size = P.length * 4) := ⟨h2, h3⟩
      have H4 : Hid (InTurn pre → ∃ rs, Fill w.heap.size W M P pre.length cs rs) := h4
      have H5 : Hid (Blk W (w.heap.size + 1) #[.int .i64 0, .slice none 0 0] 75) := h5
      have HB : Hid (Below w.heap.size w W ∧ W0.heap.size ≤ W.heap.size) := ⟨h6, h7⟩
      have HC : Hid (∀ y, Below W.heap.size W y → Calls Tryz.prog 45 #[.agg #[.slice (ad x.1) (nthP P x.1).l.length (cp x.1), .int .i64 (nthP P x.1).s, .int .i64 (nthP P x.1).e, .string (nthP P x.1).n]] y fun r w' => (∃ Mx c, r = .returned (.agg #[.slice (some ⟨Mx, 0, none⟩) (nthP P x.1).l.length c, .int .i64 (nthP P x.1).s, .int .i64 (nthP P x.1).e, .string (nthP P x.1).n]) ∧ LabR.Own y w' Mx (nthP P x.1).l) ∧ Below y.heap.size y w') := fun y hy => copyI_any _ _ _ _ _ _ y ((HA.out x.1 x.2).reads.below (grow_on h6 hy)) (HF.out x.1 x.2)
      have hx0 : ¬ (x.1 : Int) < 0 := by omega
      have hx1 : (x.1 : Int) < (P.length : Int) := by have := x.2; omega
      clear hx h1 h2 h3 h4 h5 h6 h7
      gi_wp2
      have HS : Hid (∀ w', Blk w' N #[.int .i64 f, .slice (some ⟨M, 0, none⟩) P.length P.length] 75 → Blk w' Nx (alC (nthP P x.1) (ad x.1) (cp x.1)) 27 → w'.cell? ⟨N, 1, none⟩ = some (.slice (some ⟨M, 0, none⟩) P.length P.length) ∧ w'.cell? ⟨Nx, 0, none⟩ = some (.slice (ad x.1) (nthP P x.1).l.length (cp x.1)) ∧ w'.cell? ⟨Nx, 1, none⟩ = some (.int .i64 (nthP P x.1).s) ∧ w'.cell? ⟨Nx, 2, none⟩ = some (.int .i64 (nthP P x.1).e) ∧ w'.cell? ⟨Nx, 3, none⟩ = some (.string (nthP P x.1).n)) := fun w' h k => ⟨h.cell 1, k.cell 0, k.cell 1, k.cell 2, k.cell 3⟩
      refine held_in (S := fun w' => w'.cell? ⟨N, 1, none⟩ = some (.slice (some ⟨M, 0, none⟩) P.length P.length) ∧ w'.cell? ⟨Nx, 0, none⟩ = some (.slice (ad x.1) (nthP P x.1).l.length (cp x.1)) ∧ w'.cell? ⟨Nx, 1, none⟩ = some (.int .i64 (nthP P x.1).s) ∧ w'.cell? ⟨Nx, 2, none⟩ = some (.int .i64 (nthP P x.1).e) ∧ w'.cell? ⟨Nx, 3, none⟩ = some (.string (nthP P x.1).n)) (by kernel_rfl) (by kernel_rfl) (fun h => by obtain ⟨_, _, h⟩ := h; exact h) (HS.out _ H1.out.drew HX.out.drew) (fun hHeld => ?_)
      refine wpAnyH_take (i := 0) (oi := { dst := some 17, op := Op.fieldAddr 75 (Operand.tmp 3) 1, type := 0, pos := "l06_chain.go:61", after := #[], guard := none }) (v := ?vq0) rfl (by kernel_rfl) (by kernel_rfl) (by kernel_rfl) (fun _ _ _ h => h) (Or.inl ⟨by rfl, ?hyq0⟩) hHeld ?_
      case hyq0 => (intro w hSw; (try dsimp only at hSw); go_simp <;> with_reducible rfl)
      try simp only [Act.put, List.setIfInBounds_toArray, List.set_cons_zero, List.set_cons_succ]
      refine wpAnyH_take (i := 1) (oi := { dst := some 18, op := Op.load 34 (Operand.tmp 17), type := 34, pos := "l06_chain.go:61", after := #[{ on := 0, ground := Ground.data }], guard := none }) (v := ?vq1) rfl (by kernel_rfl) (by kernel_rfl) (by kernel_rfl) (fun _ _ _ h => h) (Or.inl ⟨by rfl, ?hyq1⟩) hHeld ?_
      case hyq1 => (intro w hSw; (try dsimp only at hSw); go_simp <;> with_reducible rfl)
      try simp only [Act.put, List.setIfInBounds_toArray, List.set_cons_zero, List.set_cons_succ]
      refine wpAnyH_take (i := 2) (oi := { dst := some 19, op := Op.move (Operand.tmp 4), type := 3, pos := "l06_chain.go:61", after := #[], guard := none }) (v := ?vq2) rfl (by kernel_rfl) (by kernel_rfl) (by kernel_rfl) (fun _ _ _ h => h) (Or.inl ⟨by rfl, ?hyq2⟩) hHeld ?_
      case hyq2 => (intro w hSw; (try dsimp only at hSw); go_simp <;> with_reducible rfl)
      try simp only [Act.put, List.setIfInBounds_toArray, List.set_cons_zero, List.set_cons_succ]
      refine wpAnyH_take (i := 3) (oi := { dst := some 20, op := Op.load 27 (Operand.tmp 5), type := 27, pos := "l06_chain.go:61", after := #[], guard := none }) (v := ?vq3) rfl (by kernel_rfl) (by kernel_rfl) (by kernel_rfl) (fun _ _ _ h => h) (Or.inl ⟨by rfl, ?hyq3⟩) hHeld ?_
      case hyq3 => (intro w hSw; (try dsimp only at hSw); go_simp <;> with_reducible rfl)
      try simp only [Act.put, List.setIfInBounds_toArray, List.set_cons_zero, List.set_cons_succ]
      refine wpAnyH_ready (rs := [4]) (by kernel_rfl) (by simp) ?_
      refine AllReadyH.cons (o := { dst := some 21, op := Op.call { callee := Callee.value (Operand.func 45), args := #[Operand.tmp 20], argTypes := #[27] }, type := 27, pos := "l06_chain.go:61", after := #[{ on := 3, ground := Ground.data }], guard := none }) rfl (fun K hK => ?_) AllReadyH.nil
      go_simp
      refine (HC.out _ (Below.refl _ _).drew).mono ?_
      rintro r wyq4 ⟨⟨Mx, cx, rfl, hO⟩, hy⟩
      have hz : Below W.heap.size W wyq4 := grow_on (Below.refl _ _).drew hy
      have HZ : Hid (Below W.heap.size W wyq4) := hz
      have HO : Hid (OwnA w.heap.size wyq4 (Mx, cx, nthP P x.1) ∧ W.heap.size ≤ Mx) := ⟨(own_of_copy hO (HF.out x.1 x.2)).down (by have := HB.out.1.size; show w.heap.size ≤ W.drew.heap.size; simp; omega), hO.1⟩
      have h2 := H2.out.1.grow hz
      have hcs := H2.out.2
      have hx2 := x.2
      obtain ⟨v0, p0⟩ : ∃ v, wyq4.cell? ⟨M, x.1 * 4, none⟩ = some v := ⟨cs[x.1 * 4]'(by omega), by rw [h2.cell]; simp⟩
      obtain ⟨v1, p1⟩ : ∃ v, wyq4.cell? ⟨M, x.1 * 4 + 1, none⟩ = some v := ⟨cs[x.1 * 4 + 1]'(by omega), by rw [h2.cell]; simp⟩
      obtain ⟨v2, p2⟩ : ∃ v, wyq4.cell? ⟨M, x.1 * 4 + 2, none⟩ = some v := ⟨cs[x.1 * 4 + 2]'(by omega), by rw [h2.cell]; simp⟩
      obtain ⟨v3, p3⟩ : ∃ v, wyq4.cell? ⟨M, x.1 * 4 + 3, none⟩ = some v := ⟨cs[x.1 * 4 + 3]'(by omega), by rw [h2.cell]; simp⟩
      have f0 := h2.frozen (x.1 * 4)
      have f1 := h2.frozen (x.1 * 4 + 1)
      have f2 := h2.frozen (x.1 * 4 + 2)
      have f3 := h2.frozen (x.1 * 4 + 3)
      clear hy hz hO h2 hcs hx2
      clear hHeld
      refine hK.out _ _ (HS.out _ (H1.out.grow HZ.out) (HX.out.grow HZ.out)) (fun hHeld => ?_)
      clear hK K
      try simp only [Act.put, List.setIfInBounds_toArray, List.set_cons_zero, List.set_cons_succ]
      refine wpAnyH_take (i := 5) (oi := { dst := some 22, op := Op.indexAddr 34 (Operand.tmp 18) (Operand.tmp 19), type := 0, pos := "l06_chain.go:61", after := #[{ on := 1, ground := Ground.data }, { on := 2, ground := Ground.data }, { on := 0, ground := Ground.phase }, { on := 1, ground := Ground.phase }, { on := 2, ground := Ground.phase }, { on := 3, ground := Ground.phase }, { on := 4, ground := Ground.phase }], guard := none }) (v := ?vq5) rfl (by kernel_rfl) (by kernel_rfl) (by kernel_rfl) (fun _ _ _ h => h) (Or.inl ⟨by rfl, ?hyq5⟩) hHeld ?_
      case hyq5 => (intro w hSw; (try dsimp only at hSw); go_simp <;> with_reducible rfl)
      try simp only [Act.put, List.setIfInBounds_toArray, List.set_cons_zero, List.set_cons_succ]
      have hMN : M ≠ N := fun e => hNM.2.2 e.symm
      have hMX : M ≠ Nx := by omega
      refine wpAnyH_ready (rs := [6]) (by kernel_rfl) (by simp) ?_
      refine AllReadyH.cons (o := { dst := none, op := Op.store 27 (Operand.tmp 22) (Operand.tmp 21), type := 0, pos := "l06_chain.go:61", after := #[{ on := 5, ground := Ground.data }, { on := 4, ground := Ground.data }, { on := 4, ground := Ground.chain }, { on := 0, ground := Ground.phase }, { on := 1, ground := Ground.phase }, { on := 2, ground := Ground.phase }, { on := 3, ground := Ground.phase }, { on := 4, ground := Ground.phase }], guard := none }) rfl (fun K hK => ?_) AllReadyH.nil
      go_simp
      clear hHeld
      refine hK.out _ _ (HS.out (put4W wyq4 M x.1 (Mx, cx, nthP P x.1)) (put4W_other (H1.out.grow HZ.out) hMN) (put4W_other (HX.out.grow HZ.out) hMX)) (fun hHeld => ?_)
      clear hK K
      try simp only [Act.put, List.setIfInBounds_toArray, List.set_cons_zero, List.set_cons_succ]
      refine wpAnyH_done (by kernel_rfl) ?_ _
      obtain ⟨W3, hW3⟩ : ∃ W3, put4W wyq4 M x.1 (Mx, cx, nthP P x.1) = W3 := ⟨_, rfl⟩
      have HK1 : Hid (KeepsFrom W0.heap.size W W3) := by rw [← hW3]; exact keeps_put4 (keeps_of HZ.out)
      have HK2 : Hid (Below w.heap.size W W3) := by rw [← hW3]; exact put4W_low (HZ.out.mono HB.out.1.size) (by omega)
      have HK3 : Hid (Blk W3 N #[.int .i64 f, .slice (some ⟨M, 0, none⟩) P.length P.length] 75) := by rw [← hW3]; exact put4W_other (H1.out.grow HZ.out) hMN
      have HK4 : Hid (Blk W3 M (put4C cs x.1 (Mx, cx, nthP P x.1)) 27) := by rw [← hW3]; exact put4W_blk (H2.out.1.grow HZ.out)
      have HK5 : Hid (Blk W3 (w.heap.size + 1) #[.int .i64 0, .slice none 0 0] 75) := by rw [← hW3]; exact put4W_other (H5.out.grow HZ.out) (by omega)
      have HK6 : Hid (Below w.heap.size w W3) := by rw [← hW3]; exact put4W_low (grow_on HB.out.1 HZ.out) (by omega)
      have HK7 : Hid (W0.heap.size ≤ W3.heap.size) := Nat.le_trans HB.out.2 HK2.out.size
      have HK8 : Hid (∀ rs, Fill w.heap.size wyq4 M P x.1 cs rs → (∀ y ∈ rs, y.1 ≠ Mx) → Fill w.heap.size W3 M P (x.1 + 1) (put4C cs x.1 (Mx, cx, nthP P x.1)) (rs ++ [(Mx, cx, nthP P x.1)])) := fun rs hf hne => by
        rw [← hW3]
        exact hf.next (H2.out.1.grow HZ.out) H2.out.2 x.2 HO.out.1 rfl hne
      simp only [put4W] at hW3
      rw [hW3]
      clear hW3 p0 p1 p2 p3 f0 f1 f2 f3
      gi_wp2
      refine ⟨HK1.out, HK2.out, HK3.out, ⟨put4C cs x.1 (Mx, cx, nthP P x.1), HK4.out, by rw [put4_size]; exact H2.out.2, fun hg => ?_⟩, HK5.out, HK6.out, HK7.out⟩
      obtain ⟨hg1, hg2⟩ := good_front hg
      obtain ⟨rs, hf⟩ := H4.out hg1
      rw [List.length_append, List.length_singleton, ← hg2]
      rw [← hg2] at hf
      exact ⟨_, HK8.out rs (hf.moved fun y hy => hy.grow HZ.out) (fun y hy => by have := (hf.rows y hy).lt; have := HO.out.2; omega)⟩
    case done =>
      rintro D xs W hD hlen hg ⟨h1, ⟨cs, h2, h3, h4⟩, h5, h6, h7⟩ hK
      obtain ⟨rs, hf⟩ := h4 hg
      have c0 : W.cell? ⟨N, 0, none⟩ = some (.int .i64 f) := h1.cell 0
      have c1 : W.cell? ⟨N, 1, none⟩ = some (.slice (some ⟨M, 0, none⟩) P.length P.length) := h1.cell 1
      have r0 : W.cell? ⟨w.heap.size + 1, 0, none⟩ = some (.int .i64 0) := h5.cell 0
      have r1 : W.cell? ⟨w.heap.size + 1, 1, none⟩ = some (.slice none 0 0) := h5.cell 1
      have f0 := h5.frozen 0
      have f1 := h5.frozen 1
      rw [hlen] at hf
      have HF1 : Hid (Fill w.heap.size W M P P.length cs rs ∧ Blk W M cs 27 ∧ cs.size = P.length * 4) := ⟨hf, h2, h3⟩
      clear hf h2 h4
      go_wp2
      have hs : Blk ((W.setCell ⟨w.heap.size + 1, 0, none⟩ (.int .i64 f)).setCell ⟨w.heap.size + 1, 1, none⟩ (.slice (some ⟨M, 0, none⟩) P.length P.length)) (w.heap.size + 1) #[.int .i64 f, .slice (some ⟨M, 0, none⟩) P.length P.length] 75 := (h5.set 0 _).set 1 _
      have hK' : ((W.setCell ⟨w.heap.size + 1, 0, none⟩ (.int .i64 f)).setCell ⟨w.heap.size + 1, 1, none⟩ (.slice (some ⟨M, 0, none⟩) P.length P.length)).heap[D]? = some (.deferred (some [])) := (Below.heap_setCell _ _ _ _ (by show D ≠ w.heap.size + 1; omega)).trans ((Below.heap_setCell _ _ _ _ (by show D ≠ w.heap.size + 1; omega)).trans hK)
      have ht := turn_shut (o := .deferred none) hK' hD
      have hR0 := (ht.blk hs).cell 0
      have hR1 := (ht.blk hs).cell 1
      refine ⟨by simp, .inl ⟨_, _, rfl, run_takeDeferred hK', ?_⟩⟩
      have hab := HF1.out.1.ab HF1.out.2.1 HF1.out.2.2 (by omega) hl
      have hrow : ∀ {T : TypeId} {k : Nat} {ds : Array Value}, Blk W k ds T → k ≠ w.heap.size + 1 → Blk (((W.setCell ⟨w.heap.size + 1, 0, none⟩ (.int .i64 f)).setCell ⟨w.heap.size + 1, 1, none⟩ (.slice (some ⟨M, 0, none⟩) P.length P.length)).putObj D (.deferred none)) k ds T := fun h hk => ht.blk ((h.set_other (fun e => hk e.symm) _).set_other (fun e => hk e.symm) _)
      refine ⟨.agg #[.int .i64 f, .slice (some ⟨M, 0, none⟩) P.length P.length], ?_, ⟨M, rs, rfl, ?_, hab.2⟩, ht.below (Nat.le_refl _) (by omega) (set_low (set_low h6 (by omega) _ _) (by omega) _ _)⟩
      · simp [results, Tryz.results74, go_sem, hR0, hR1]
      · obtain ⟨q0, q1, ⟨cu, q2, q3, q4⟩, q5, q6⟩ := hab.1
        exact ⟨q0, q1, ⟨cu, hrow q2 (by omega), q3, q4⟩, fun y hy => by
          obtain ⟨k0, k1, ds, k2, k3⟩ := q5 y hy
          exact ⟨k0, k1, ds, hrow k2 (fun e => blkC_ne h5 (by rw [← e]; exact k2)), k3⟩, q6⟩
    case stop =>
      rintro D pre W hD hg h hK
      exact h.elim
end Go.Proofs.YtbccaioahifloaaGreat.ChnC
