/-
  PROVED: over two parts in memory spec.SamePart and impl.SamePart answer alike, as a plain function on lists of chains says; nothing that was there is changed.
  PROVED: the contract of l8Any: a store, bent or not, in memory of its own (rows may stand twice); nothing that was there is changed but the cursor.
  PROVED: the contracts of the draws of chapter 8: stores, bent or not, and what comes beside them, in new memory.
  PROVED: laws.sameStore finds two of the same alike; the functions of chapter 8 at drawn stores, as the law of bent stores calls them.
-/
import Derived.Test.YtooninmicfcfoaaGreatQPrtO
import Derived.Test.YtooninmicfcfoaaGreatQDrwW
import Derived.Test.YtooninmicfcfoaaGreatQStsA
import Derived.Deep.RegionHeld3
import Derived.Test.YtooninmicfcfoaaGreatQPrt
set_option linter.unusedVariables false
namespace Go.Proofs.YtooninmicfcfoaaGreat.PrtS
open Go.RowKit
open Labs LabS Alms AlmS AlmM Over Blk App Rws ChnI ChnC ChnP ChnS ChnT ChnK Chs Prt PrtO
open StrB (retB)
open Alm (at_par)

def sameY (x y : PCh) : Bool := sameCB x.f x.P y.f y.P
def sameYs (C D : List PCh) : Bool := decide (C.length = D.length) && (List.range C.length).all fun i => sameY (nthC C i) (nthC D i)
theorem sameY_self (x : PCh) : sameY x x = true := by unfold sameY; rw [sameC_y rfl]; exact same_refl _
theorem sameYs_refl (C : List PCh) : sameYs C C = true := by simp [sameYs, sameY_self]
theorem sameYs_len {C D : List PCh} (h : C.length ≠ D.length) : sameYs C D = false := by simp [sameYs, h]
theorem sameYs_bad {C D : List PCh} {k : Nat} (hk : k < C.length) (h : sameY (nthC C k) (nthC D k) = false) : sameYs C D = false := by
  unfold sameYs
  rw [Bool.and_eq_false_iff]
  right
  rw [List.all_eq_false]
  exact ⟨k, by simpa using hk, by simp [h]⟩
theorem sameYs_good {C D : List PCh} (hl : C.length = D.length) (h : ∀ k, k < C.length → sameY (nthC C k) (nthC D k) = true) : sameYs C D = true := by
  unfold sameYs
  rw [Bool.and_eq_true]
  exact ⟨by simp [hl], by rw [List.all_eq_true]; intro k hk; exact h k (by simpa using hk)⟩
def samePB (hd vr : Int) (C : List PCh) (hd' vr' : Int) (D : List PCh) : Bool := decide (hd = hd') && (decide (vr = vr') && sameYs C D)
theorem sameP_1 {hd vr hd' vr' : Int} {C D : List PCh} (h : hd ≠ hd') : samePB hd vr C hd' vr' D = false := by simp [samePB, h]
theorem sameP_2 {hd vr hd' vr' : Int} {C D : List PCh} (h : vr ≠ vr') : samePB hd vr C hd' vr' D = false := by simp [samePB, h]
theorem sameP_y {hd vr : Int} {C D : List PCh} : samePB hd vr C hd vr D = sameYs C D := by simp [samePB]

set_option maxHeartbeats 1600000 in
theorem equalFC_any (a a' : Option Addr) (cap cap' : Nat) (C D : List PCh) (w : World) (hr : RdG RdA w a C) (hr' : RdG RdA w a' D) (hl : C.length ≤ 1048576) (hl' : D.length ≤ 1048576) (hs : Small C) (hs' : Small D) :
    Calls Tryz.prog 82 #[.slice a C.length cap, .slice a' D.length cap', .func (.func 83) #[] #[]] w fun e w' => e = .returned (.bool (sameYs C D)) ∧ Below w.heap.size w w' := by
  have HR : Hid (RdG RdA w a C ∧ RdG RdA w a' D ∧ Small C ∧ Small D) := ⟨hr, hr', hs, hs'⟩
  clear hr hr' hs hs'
  by_cases hlen : C.length = D.length
  · have HL : Hid (C.length = D.length) := hlen
    rw [← hlen]
    clear hlen hl'
    go_enter Tryz.func82, Tryz.ntmps82
    go_wp2
    go_loopw [17] (fun i w' => ∃ k : Nat, i = .int .i64 k ∧ k ≤ C.length ∧ (∀ j, j < k → sameY (nthC C j) (nthC D j) = true) ∧ Below w.heap.size w w') (fun i _ => C.length - (intOf i).toNat)
    case atStart => exact ⟨0, rfl, Nat.zero_le _, fun j h => by omega, Below.refl _ _⟩
    case round =>
      obtain ⟨k, rfl, hk, hu, hw0⟩ := hrel
      have HU : Hid (∀ j, j < k → sameY (nthC C j) (nthC D j) = true) := hu
      have HB : Hid (Below w.heap.size w wr) := hw0
      clear hw0 hu
      by_cases hlt : k < C.length
      · have hlt' : (k : Int) < (C.length : Int) := by omega
        have hltQ : k < D.length := by rw [← HL.out]; exact hlt
        obtain ⟨b, off, rfl, hb, ad, cp, hat⟩ := (HR.out.1.below stays_rd HB.out).get hlt
        obtain ⟨b', off', rfl, hb', ad', cp', hat'⟩ := (HR.out.2.1.below stays_rd HB.out).get hltQ
        have x0 := hat.c0
        have x1 := hat.c1
        generalize hO : Obj.cells #[.int .i64 (nthC C k).f, .slice ad (nthC C k).P.length cp] 96 = Ob
        have hba := Go.Joins.below_alloc1 wr Ob
        have y0 := (hba.cell (p := ⟨b', off' + k * 2, none⟩) hb').trans hat'.c0
        have y1 := (hba.cell (p := ⟨b', off' + k * 2 + 1, none⟩) hb').trans hat'.c1
        subst hO
        clear hba
        have HC : Hid (∀ x, Below wr.heap.size wr x → Calls Tryz.prog 83 #[.agg #[.int .i64 (nthC C k).f, .slice ad (nthC C k).P.length cp], .agg #[.int .i64 (nthC D k).f, .slice ad' (nthC D k).P.length cp']] x fun e w' => e = .returned (.bool (sameY (nthC C k) (nthC D k))) ∧ Below x.heap.size x w') := fun x hx => implSameC_any _ _ ad ad' cp cp' _ _ x (hat.reads.below hx) (hat'.reads.below hx) (HR.out.2.2.1 _ (nthC_mem hlt)).1 (HR.out.2.2.2 _ (nthC_mem hltQ)).1 (len_m (HR.out.2.2.1 _ (nthC_mem hlt)).2) (len_m (HR.out.2.2.2 _ (nthC_mem hltQ)).2)
        clear hat hat' hltQ
        cases hx : sameY (nthC C k) (nthC D k) with
        | true =>
          rw [hx] at HC
          have HU1 : Hid (∀ j, j < k + 1 → sameY (nthC C j) (nthC D j) = true) := fun j hj => by
            by_cases e : j = k
            · subst e; exact hx
            · exact HU.out j (by omega)
          clear hx
          go_wp2_with fail
          refine (HC.out _ (Go.Joins.below_alloc2 wr _ _)).mono ?_
          rintro e w2 ⟨rfl, hb2⟩
          have HB2 : Hid (Below w.heap.size w w2) := grow_on HB.out (grow_on (Go.Joins.below_alloc2 wr _ _) hb2)
          clear hb2 x0 x1 y0 y1 HC
          go_wp2
          go_roundw
          case rel => exact ⟨k + 1, by go_num, by omega, HU1.out, HB2.out⟩
          case measure => simp [intOf]; omega
        | false =>
          rw [hx] at HC
          have HE : Hid (sameYs C D = false) := sameYs_bad hlt hx
          clear hx
          go_wp2_with fail
          refine (HC.out _ (Go.Joins.below_alloc2 wr _ _)).mono ?_
          rintro e w2 ⟨rfl, hb2⟩
          have HB2 : Hid (Below w.heap.size w w2) := grow_on HB.out (grow_on (Go.Joins.below_alloc2 wr _ _) hb2)
          clear hb2 x0 x1 y0 y1 HC
          go_wp2
          go_ret
          exact ⟨retB HE.out.symm, HB2.out⟩
      · have hge : ¬ (k : Int) < (C.length : Int) := by omega
        have HE : Hid (sameYs C D = true) := sameYs_good HL.out fun j hj => HU.out j (by omega)
        go_wp2
        go_ret
        exact ⟨retB HE.out.symm, HB.out⟩
  · have HE : Hid (sameYs C D = false) := sameYs_len hlen
    have hne : ¬ (C.length : Int) = (D.length : Int) := by omega
    go_enter Tryz.func82, Tryz.ntmps82
    go_wp2
    go_ret
    exact ⟨retB HE.out.symm, Below.refl _ _⟩

set_option maxHeartbeats 800000 in
theorem implSameP_any (hd vr hd' vr' : Int) (a a' : Option Addr) (cap cap' : Nat) (C D : List PCh) (w : World) (hr : RdG RdA w a C) (hr' : RdG RdA w a' D) (hl : C.length ≤ 1048576) (hl' : D.length ≤ 1048576) (hs : Small C) (hs' : Small D) :
    Calls Tryz.prog 19 #[.agg #[.int .i64 hd, .int .i64 vr, .slice a C.length cap], .agg #[.int .i64 hd', .int .i64 vr', .slice a' D.length cap']] w fun e w' => e = .returned (.bool (samePB hd vr C hd' vr' D)) ∧ Below w.heap.size w w' := by
  have HR : Hid (RdG RdA w a C ∧ RdG RdA w a' D ∧ Small C ∧ Small D) := ⟨hr, hr', hs, hs'⟩
  clear hr hr' hs hs'
  by_cases h1 : hd = hd'
  · by_cases h2 : vr = vr'
    · subst h1 h2
      have HE : Hid (samePB hd vr C hd vr D = sameYs C D) := sameP_y
      go_enter Tryz.func19, Tryz.ntmps19
      go_wp2_with fail
      refine (equalFC_any a a' cap cap' C D _ (HR.out.1.below stays_rd (Go.Joins.below_alloc2 w _ _)) (HR.out.2.1.below stays_rd (Go.Joins.below_alloc2 w _ _)) hl hl' HR.out.2.2.1 HR.out.2.2.2).mono ?_
      rintro e w2 ⟨rfl, hb⟩
      have HB : Hid (Below w.heap.size w w2) := grow_on (Go.Joins.below_alloc2 w _ _) hb
      clear hb
      go_wp2
      go_ret
      exact ⟨retB HE.out.symm, HB.out⟩
    · have HE : Hid (samePB hd vr C hd' vr' D = false) := sameP_2 h2
      subst h1
      go_enter Tryz.func19, Tryz.ntmps19
      go_wp2
      go_ret
      exact ⟨retB HE.out.symm, Go.Joins.below_alloc2 w _ _⟩
  · have HE : Hid (samePB hd vr C hd' vr' D = false) := sameP_1 h1
    go_enter Tryz.func19, Tryz.ntmps19
    go_wp2
    go_ret
    exact ⟨retB HE.out.symm, Go.Joins.below_alloc2 w _ _⟩

end Go.Proofs.YtooninmicfcfoaaGreat.PrtS
namespace Go.Proofs.YtooninmicfcfoaaGreat.DrwX
open Go.RowKit
open Draw
open Labs LabS Over Blk App DrawL DrawT Alms AlmM DrawA Rws ChnK DrawC DrawG DrawH Chs Prt PrtC Sts StsC StsN StsP Rgt DrawS DrwT

structure Few (S : List PPt) : Prop where
  len : S.length ≤ 6
  fits : FitsT S
  sum : sumT S ≤ 600
  few : ∀ p ∈ S, FinC 7 p.C
theorem few_gd {S : List PPt} (h : Gd 7 S) : Few S := ⟨by have := h.rst.len; omega, h.fits, by have := h.sum; omega, h.few⟩
theorem few_set {S : List PPt} (h : Gd 7 S) {k : Nat} (hk : k < S.length) {y : PPt} (hf : FitT y) (hc : y.C.length ≤ 8) (hy : FinC 7 y.C) : Few (S.set k y) := by
  have h1 := h.rst.len
  have h2 := h.sum
  have h3 := sumT_set S k y hk
  have h4 := hy.sum
  have h5 : y.C.length * (9 * 7) ≤ 8 * 63 := Nat.mul_le_mul hc (by omega)
  refine ⟨by rw [List.length_set]; omega, fun p hp => ?_, by omega, fun p hp => ?_⟩
  · rcases List.mem_or_eq_of_mem_set hp with hp | rfl
    · exact h.fits p hp
    · exact hf
  · rcases List.mem_or_eq_of_mem_set hp with hp | rfl
    · exact h.few p hp
    · exact hy
theorem few_one {S : List PPt} (h : Gd 7 S) : Few (S ++ [noneP]) := by
  have h1 := h.rst.len
  have h2 := h.sum
  have h3 : sumT [noneP] = 0 := rfl
  refine ⟨by simp; omega, fun p hp => ?_, by rw [sumT_app, h3]; omega, fun p hp => ?_⟩
  · rcases List.mem_append.1 hp with hp | hp
    · exact h.fits p hp
    · exact none_fits 1 p (by simpa using hp)
  · rcases List.mem_append.1 hp with hp | hp
    · exact h.few p hp
    · rw [List.mem_singleton.1 hp]; exact FinC.nil _
theorem few_two {S : List PPt} (h : Gd 7 S) : Few (S ++ S) := by
  have h1 := h.rst.len
  have h2 := h.sum
  refine ⟨by simp; omega, fun p hp => ?_, by rw [sumT_app]; omega, fun p hp => ?_⟩
  · rcases List.mem_append.1 hp with hp | hp <;> exact h.fits p hp
  · rcases List.mem_append.1 hp with hp | hp <;> exact h.few p hp
theorem few_nil : Few [] := ⟨by simp, fun p hp => by simp at hp, by simp [sumT], fun p hp => by simp at hp⟩
theorem pts_app2 (p q : List PRow) : pts (p ++ q) = pts p ++ pts q := by simp [pts]
theorem pts_set' (ps : List PRow) (k : Nat) (x : PRow) : pts (ps.set k x) = (pts ps).set k x.pt := by unfold pts; rw [List.map_set]
theorem nthQ_app_ge {ps qs : List PRow} {i : Nat} (h : ps.length ≤ i) (hi : i < ps.length + qs.length) : nthQ (ps ++ qs) i = nthQ qs (i - ps.length) := by
  rw [nthQ_eq (by simp; omega), nthQ_eq (by omega), List.getElem_append_right h]
theorem PB.dup {lo : Nat} {W w' : World} {M c : Nat} {ps : List PRow} {xs : List Value} {v' : Value} (h : PB lo W M c ps) (h0 : 0 < ps.length) (hl : xs.length = ps.length * 3) (hxs : ∀ i, i < ps.length → Cel3 (fun k => xs[k]?) i (nthQ ps i))
    (hown : w'.ownsRow lo 26 3 v' (ps.length + ps.length) (xs ++ xs)) (hg : W.grownBy w' (some M)) : ∃ M' c', v' = .slice (some ⟨M', 0, none⟩) (ps ++ ps).length c' ∧ PB lo w' M' c' (ps ++ ps) := by
  rcases hown.2 with ⟨_, e⟩ | ⟨g, cap, cur, e, hb, hgb, hc, hm, hz, ht⟩
  · omega
  · obtain ⟨cu0, hcu0, _⟩ := h.outer
    have hmv : MovedP W w' := MovedP.far hcu0 hg
    refine ⟨g, cap, by rw [e, List.length_append], hb, ⟨by simp; omega, hm⟩, ⟨cur, hgb, hz, fun i hi => ?_⟩, fun y hy => ?_⟩
    · have at' : ∀ k, k < (ps.length + ps.length) * 3 → cur[k]? = (xs ++ xs)[k]? := fun k hk => by
        rw [← ht, List.getElem?_take_of_lt hk]; simp
      simp at hi
      by_cases hlt : i < ps.length
      · have e1 : nthQ (ps ++ ps) i = nthQ ps i := by rw [nthQ_eq (by simp; omega), nthQ_eq hlt, List.getElem_append_left hlt]
        rw [e1]
        refine (hxs i hlt).congr fun k _ hk => ?_
        show cur[k]? = xs[k]?
        rw [at' k (by omega), List.getElem?_append_left (by omega)]
      · rw [nthQ_app_ge (by omega) (by omega)]
        obtain ⟨c0, c1, c2⟩ := hxs (i - ps.length) (by omega)
        have sh : ∀ j, j < 3 → cur[i * 3 + j]? = xs[(i - ps.length) * 3 + j]? := fun j hj => by
          rw [at' _ (by omega), List.getElem?_append_right (by omega), hl]
          congr 1; omega
        exact ⟨(sh 0 (by omega)).trans c0, (sh 1 (by omega)).trans c1, (sh 2 (by omega)).trans c2⟩
    · rcases List.mem_append.1 hy with hy | hy <;> exact (h.rows y hy).moved hmv
theorem PB.own2 {lo : Nat} {w : World} {M c : Nat} {ps : List PRow} (h : PB lo w M c ps) : ∃ xs : List Value, w.ownsRow lo 26 3 (.slice (some ⟨M, 0, none⟩) ps.length c) ps.length xs ∧ xs.length = ps.length * 3 ∧ (∀ i, i < ps.length → Cel3 (fun k => xs[k]?) i (nthQ ps i)) ∧ (∀ j u, xs[j]? = some u → w.cell? ((⟨M, 0, none⟩ : Addr).add j) = some u) ∧ ∀ u ∈ xs, u.oneCell' = true := by
  obtain ⟨cur, h1, h2, h3⟩ := h.outer
  have hc := h.cap
  have hlen : (cur.toList.take (ps.length * 3)).length = ps.length * 3 := by simp; omega
  have hcel : ∀ i, i < ps.length → Cel3 (fun k => (cur.toList.take (ps.length * 3))[k]?) i (nthQ ps i) := fun i hi => by
    refine (h3 i hi).congr fun k _ hk => ?_
    show (cur.toList.take _)[k]? = cur[k]?
    rw [List.getElem?_take_of_lt (by omega)]
    simp
  refine ⟨cur.toList.take (ps.length * 3), ⟨hlen, .inr ⟨M, c, cur, rfl, h.at', h1, hc.1, hc.2, h2, rfl⟩⟩, hlen, hcel, fun j u hj => ?_, fun u hu => ?_⟩
  · have hj2 : j < ps.length * 3 := by
      have := (List.getElem?_eq_some_iff.1 hj).1
      omega
    rw [List.getElem?_take_of_lt hj2] at hj
    exact blk_news h1 j u hj
  · obtain ⟨j, hj, rfl⟩ := List.mem_iff_getElem.1 hu
    obtain ⟨c0, c1, c2⟩ := hcel (j / 3) (by omega)
    have e : (cur.toList.take (ps.length * 3))[j]? = some (cur.toList.take (ps.length * 3))[j] := List.getElem?_eq_getElem hj
    generalize (cur.toList.take (ps.length * 3))[j] = u at e ⊢
    have hr : j = j / 3 * 3 ∨ j = j / 3 * 3 + 1 ∨ j = j / 3 * 3 + 2 := by omega
    rcases hr with hr | hr | hr <;> rw [hr] at e <;> simp only at c0 c1 c2
    · rw [c0] at e; cases e; rfl
    · rw [c1] at e; cases e; rfl
    · rw [c2] at e; cases e; rfl
theorem retS' {M n n' c : Nat} (h : n = n') : Ending.returned (.slice (some ⟨M, 0, none⟩) n c) = .returned (.slice (some ⟨M, 0, none⟩) n' c) := by rw [h]
theorem hst_of {w : World} {c : Nat} {wr w' : World} {M cap M' cap' : Nat} {ps ps' : List PRow} (h : HSt w c wr M cap ps) (hc : Cur w' c) (hk : Kept c w w') (hp : PB w.heap.size w' M' cap' ps') : HSt w c w' M' cap' ps' := ⟨hc, hk, h.clt, hp⟩

set_option maxRecDepth 100000 in
set_option maxHeartbeats 6400000 in
theorem l8Any_any (c : Nat) (w : World) (hc : Cur w c) :
    Calls Tryz.prog 102 #[.pointer (some ⟨c, 0, none⟩)] w fun r w' => ∃ (M cap : Nat) (ps : List PRow), r = .returned (.slice (some ⟨M, 0, none⟩) ps.length cap) ∧ HSt w c w' M cap ps ∧ Few (pts ps) := by
  have HC : Hid (Cur w c) := hc
  have HL : Hid (c < w.heap.size) := hc.lt
  clear hc
  obtain ⟨i0, hi, hz0, hz1, hz2⟩ := info_parts infoP
  have HI : Hid (Tryz.prog.info? 26 = some i0 ∧ i0.zero = some (.agg #[.int .i64 0, .int .i64 0, .slice none 0 0]) ∧ i0.size = 3 ∧ i0.bytes = 40) := ⟨hi, hz0, hz1, hz2⟩
  clear hi hz0 hz1 hz2
  go_enter Tryz.func102, Tryz.ntmps102
  go_wp2_with fail
  refine (l8Draw_any c _ HC.out).mono ?_
  rintro r w1 ⟨M, cap, ps, rfl, hst, hgd⟩
  have HS1 : Hid (HSt w c w1 M cap ps) := hst
  have HG : Hid (Gd 7 (pts ps)) := hgd
  have hln : 1 ≤ ps.length ∧ ps.length ≤ 3 := by have := hgd.rst.len; rw [pts_len] at this; omega
  clear hst hgd HC
  go_wp2_with fail
  refine (below_any c (ps.length : Int) _ HS1.out.cur (by omega) (by omega)).mono ?_
  rintro r w2 ⟨⟨z0, rfl, hy0, hy1⟩, hc2, hk2⟩
  obtain ⟨i, rfl⟩ := Int.eq_ofNat_of_zero_le hy0
  have hi : i < ps.length := by omega
  have HS2 : Hid (HSt w c w2 M cap ps) := HS1.out.keep hc2 hk2
  clear hy0 hy1 hc2 hk2 HS1
  go_wp2_with fail
  refine (below_any c 12 _ HS2.out.cur (by decide) (by decide)).mono ?_
  rintro r w3 ⟨⟨z, rfl, hy0, hy1⟩, hc3, hk3⟩
  have HS3 : Hid (HSt w c w3 M cap ps) := HS2.out.keep hc3 hk3
  clear hc3 hk3 HS2 hy0 hy1
  by_cases e0 : z = 0
  · subst e0
    go_wp2_with fail
    refine (l7Any_any c (i : Int) (ps.length : Int) _ HS3.out.cur ⟨by omega, by omega⟩).mono ?_
    rintro r w4 ⟨hd, vr, a, cp, cs, rfl, hdr, h8, hhd, hv0, hv1⟩
    have HS4 : Hid (HSt w c w4 M cap ps) := HS3.out.keep hdr.cur hdr.kept
    have HP4 : Hid (PO w.heap.size w4 a cp cs ∧ FinC 7 (chs cs) ∧ cs.length ≤ 8 ∧ DrawA.I64 hd ∧ -1 ≤ vr ∧ vr ≤ 7) := ⟨PL.down hdr.list (by have := HS3.out.kept.size; omega), hdr.fine, h8, hhd, hv0, hv1⟩
    clear hdr h8 hhd hv0 hv1 HS3
    go_upto_region 6 with fail
    obtain ⟨w5, hw5⟩ : ∃ w5, w4.alloc (.cells #[.int .i64 hd, .int .i64 vr, .slice a cs.length cp] 26) = w5 := ⟨_, rfl⟩
    have hb5 : Below w4.heap.size w4 w5 := by rw [← hw5]; exact Go.Joins.below_alloc1 w4 _
    have HX5 : Hid (Blk w5 w4.heap.size #[.int .i64 hd, .int .i64 vr, .slice a cs.length cp] 26) := by rw [← hw5]; exact Blk.new _ _ _
    have HS5 : Hid (HSt w c w5 M cap ps) := HS4.out.grow hb5
    have HP5 : Hid (PO w.heap.size w5 a cp cs) := HP4.out.1.grow hb5
    rw [hw5]
    clear hb5 hw5 HS4
    have HF : Hid (Few (pts (ps.set i ⟨hd, vr, a, cp, cs⟩))) := by
      rw [pts_set']
      have h := HP4.out
      refine few_set HG.out (by rw [pts_len]; exact hi) ⟨h.2.2.2.1, ⟨by show _ ≤ vr; omega, by show vr ≤ _; omega⟩, ?_, h.2.1.fits (by omega)⟩ ?_ h.2.1
      · show (chs cs).length ≤ _; rw [chs_len]; unfold maxLen; omega
      · show (chs cs).length ≤ _; rw [chs_len]; omega
    have HPB : Hid (HSt w c (put3W w5 M i ⟨hd, vr, a, cp, cs⟩) M cap (ps.set i ⟨hd, vr, a, cp, cs⟩)) := by
      have h1 := HS5.out.pb.at'
      have h2 := HS5.out.clt
      exact ⟨cur_set (cur_set (cur_set HS5.out.cur (by omega) _ _) (by omega) _ _) (by omega) _ _, DrawC.kept_set (DrawC.kept_set (DrawC.kept_set HS5.out.kept h1 _ _) h1 _ _) h1 _ _, h2, HS5.out.pb.put hi HP5.out⟩
    have HP0 := HPB.out
    unfold put3W at HP0
    dsimp only at HP0
    have HP1 : Hid _ := HP0
    clear HPB HP0
    have x0 : w5.cell? ⟨w4.heap.size, 0, none⟩ = some (.int .i64 hd) := HX5.out.cell 0
    have x1 : w5.cell? ⟨w4.heap.size, 1, none⟩ = some (.int .i64 vr) := HX5.out.cell 1
    have x2 : w5.cell? ⟨w4.heap.size, 2, none⟩ = some (.slice a cs.length cp) := HX5.out.cell 2
    obtain ⟨cur, hcu, hcs, hc3⟩ := HS5.out.pb.outer
    have hcap := HS5.out.pb.cap
    obtain ⟨v0, q0⟩ : ∃ v, w5.cell? ⟨M, i * 3, none⟩ = some v := ⟨cur[i * 3]'(by omega), by rw [hcu.cell]; simp⟩
    obtain ⟨v1, q1⟩ : ∃ v, w5.cell? ⟨M, i * 3 + 1, none⟩ = some v := ⟨cur[i * 3 + 1]'(by omega), by rw [hcu.cell]; simp⟩
    obtain ⟨v2, q2⟩ : ∃ v, w5.cell? ⟨M, i * 3 + 2, none⟩ = some v := ⟨cur[i * 3 + 2]'(by omega), by rw [hcu.cell]; simp⟩
    have f0 := hcu.frozen (i * 3)
    have f1 := hcu.frozen (i * 3 + 1)
    have f2 := hcu.frozen (i * 3 + 2)
    have hi' : (i : Int) < (ps.length : Int) := by omega
    clear hcu hcs hc3 hcap
    go_wp2
    go_ret
    exact ⟨M, cap, ps.set i ⟨hd, vr, a, cp, cs⟩, retS' (by rw [List.length_set]), HP1.out, HF.out⟩
  have d0 : (z == 0) = false := by simpa using e0
  by_cases e1 : z = 1
  · subst e1
    obtain ⟨xs, hox, hxl, hxs⟩ := HS3.out.pb.own
    have HOX : Hid (∀ o1, (w3.alloc o1).ownsRow w.heap.size 26 3 (.slice (some ⟨M, 0, none⟩) ps.length cap) ps.length xs) := fun o1 => ChnP.own_grow hox (Go.Joins.below_alloc1 w3 o1)
    have HXS : Hid (xs.length = ps.length * 3 ∧ ∀ i, i < ps.length → Cel3 (fun k => xs[k]?) i (nthQ ps i)) := ⟨hxl, hxs⟩
    have hws : w.heap.size ≤ w3.heap.size := HS3.out.kept.size
    have hMl : w.heap.size ≤ M := HS3.out.pb.at'
    clear hox hxl hxs
    go_wp2_with (at_builtin; refine wpList_append_own_at _ rfl _ _ 54 rfl w.heap.size 26 i0 (.agg #[.int .i64 0, .int .i64 0, .slice none 0 0]) 3 40 Tryz.underlying54 HI.out.1 HI.out.2.1 HI.out.2.2.1 HI.out.2.2.2 rfl (by decide) _ _ _ rfl (HOX.out _) ⟨w3.heap.size, 0, none⟩ 1 1 (rowP noneR) rfl rfl ?c1 (rowP_one _) ?c3 ?c4 ?c5 ?_)
    case c1 => exact blk_news (Blk.new _ _ _)
    case c3 => unfold maxLen; omega
    case c4 => omega
    case c5 => simp; omega
    intro v' w5 hown hg hnil hat
    obtain ⟨M3, c3, rfl, hAB3⟩ := (HS3.out.pb.grow (Go.Joins.below_alloc1 w3 _)).app (x := noneR) (.inl ⟨rfl, rfl, rfl⟩) HXS.out.1 HXS.out.2 hown hg
    have HE : Hid (HSt w c w5 M3 c3 (ps ++ [noneR]) ∧ Few (pts (ps ++ [noneR]))) := by
      have hlt := HL.out
      have hb := Go.Joins.below_alloc1 w3 (.cells #[.int .i64 (-1), .int .i64 0, .slice none 0 0] 26)
      refine ⟨hst_of HS3.out ((cur_bel HS3.out.cur hb).grown hg (fun k hk => by cases hk; show c < M; omega)) (kept_grown (B := w.heap.size) (HS3.out.kept.trans (kept_bel hb)) hg (fun k hk => by cases hk; exact hMl)) hAB3, ?_⟩
      rw [pts_app]; exact few_one HG.out
    clear hown hg hnil hat hAB3
    go_wp2
    go_ret
    exact ⟨M3, c3, ps ++ [noneR], retS' (by simp), HE.out⟩
  have d1 : (z == 1) = false := by simpa using e1
  by_cases e2 : z = 2
  · subst e2
    have HS4 : Hid (HSt w c (w3.alloc (.cells #[] 26)) M cap ps) := HS3.out.grow (Go.Joins.below_alloc1 w3 _)
    have hws : w.heap.size ≤ w3.heap.size := HS3.out.kept.size
    go_wp2
    go_ret
    exact ⟨w3.heap.size, 0, [], rfl, hst_of HS4.out HS4.out.cur HS4.out.kept (PB.nil (Blk.new _ _ _) hws), few_nil⟩
  have d2 : (z == 2) = false := by simpa using e2
  by_cases e3 : z = 3
  · subst e3
    obtain ⟨xs, hox, hxl, hxs, hxc, hx1⟩ := PB.own2 HS3.out.pb
    have HOX : Hid (w3.ownsRow w.heap.size 26 3 (.slice (some ⟨M, 0, none⟩) ps.length cap) ps.length xs) := hox
    have HXS : Hid (xs.length = ps.length * 3 ∧ (∀ i, i < ps.length → Cel3 (fun k => xs[k]?) i (nthQ ps i)) ∧ (∀ j u, xs[j]? = some u → w3.cell? ((⟨M, 0, none⟩ : Addr).add j) = some u) ∧ ∀ u ∈ xs, u.oneCell' = true) := ⟨hxl, hxs, hxc, hx1⟩
    have hws : w.heap.size ≤ w3.heap.size := HS3.out.kept.size
    have hMl : w.heap.size ≤ M := HS3.out.pb.at'
    clear hox hxl hxs hxc hx1
    go_wp2_with (at_builtin; refine wpList_append_own_at _ rfl _ _ 54 rfl w.heap.size 26 i0 (.agg #[.int .i64 0, .int .i64 0, .slice none 0 0]) 3 40 Tryz.underlying54 HI.out.1 HI.out.2.1 HI.out.2.2.1 HI.out.2.2.2 rfl (by decide) _ _ _ rfl HOX.out ⟨M, 0, none⟩ ps.length cap xs rfl HXS.out.1 HXS.out.2.2.1 HXS.out.2.2.2 ?c3 ?c4 ?c5 ?_)
    case c3 => unfold maxLen; omega
    case c4 => omega
    case c5 => omega
    intro v' w5 hown hg hnil hat
    obtain ⟨M3, c3, rfl, hAB3⟩ := PB.dup HS3.out.pb (by omega) HXS.out.1 HXS.out.2.1 hown hg
    have HE : Hid (HSt w c w5 M3 c3 (ps ++ ps) ∧ Few (pts (ps ++ ps))) := by
      have hlt := HL.out
      refine ⟨hst_of HS3.out (HS3.out.cur.grown hg (fun k hk => by cases hk; show c < M; omega)) (kept_grown (B := w.heap.size) HS3.out.kept hg (fun k hk => by cases hk; exact hMl)) hAB3, ?_⟩
      rw [pts_app2]; exact few_two HG.out
    clear hown hg hnil hat hAB3
    go_wp2
    go_ret
    exact ⟨M3, c3, ps ++ ps, rfl, HE.out⟩
  have d3 : (z == 3) = false := by simpa using e3
  go_wp2
  go_ret
  exact ⟨M, cap, ps, rfl, HS3.out, few_gd HG.out⟩
end Go.Proofs.YtooninmicfcfoaaGreat.DrwX
namespace Go.Proofs.YtooninmicfcfoaaGreat.DrwY
open Go.RowKit
open Draw
open Labs LabS Over Blk App DrawL DrawT Alms AlmM DrawA Rws ChnK DrawC DrawE DrawG DrawI Chs Prt PrtC Sts StsA StsN StsP Rgt DrawS DrwT DrwX
open SrtP (sortP sort_perm)

theorem retS2 {M n n' c : Nat} {v : Value} (h : n = n') : Ending.returned (.tuple #[.slice (some ⟨M, 0, none⟩) n c, v]) = .returned (.tuple #[.slice (some ⟨M, 0, none⟩) n' c, v]) := by rw [h]
def DS (w : World) (M : Nat) (S : List PPt) : Prop := RdS RdN w (some ⟨M, 0, none⟩) S ∧ Few S
theorem DS.below {w w' : World} {M : Nat} {S : List PPt} (h : DS w M S) (hb : Below w.heap.size w w') : DS w' M S := ⟨h.1.below stays_rn hb, h.2⟩
theorem few_all {S : List PPt} (h : Few S) {x : PAl} (hx : x ∈ allT S) : Fine x := by
  obtain ⟨p, hp, hx⟩ := allT_mem hx
  obtain ⟨c, hc, hx⟩ := PrtA.allC_mem hx
  exact (h.few p hp c hc).1 x hx
theorem few_sorted {S : List PPt} (h : Few S) {P : List PAl} (hP : P = sortP (allT S)) : Fines P ∧ P.length ≤ 600 := by
  have h1 := (sort_perm (allT S)).length_eq
  have h2 := allT_sum S
  have h3 := h.sum
  exact ⟨fun x hx => few_all h ((sort_perm _).mem_iff.2 (by rw [← hP]; exact hx)), by rw [hP]; omega⟩

set_option maxRecDepth 100000 in
set_option maxHeartbeats 1600000 in
theorem drawStoreOk_any (a : Option Addr) (len cap : Nat) (w : World) (hl : len ≤ maxLen) (hb : Bytes w a len w.heap.size) :
    Calls Tryz.prog 36 #[.slice a len cap] w fun r w' => (∃ (M c : Nat) (S : List PPt), r = .returned (.slice (some ⟨M, 0, none⟩) S.length c) ∧ DS w' M S) ∧ Below w.heap.size w w' := by
  have HB : Hid (Bytes w a len w.heap.size) := hb
  have HL : Hid (len ≤ maxLen) := hl
  clear hb hl
  go_enter Tryz.func36, Tryz.ntmps36
  go_wp2_with fail
  refine (new_any a len cap _ HL.out HB.out).mono ?_
  rintro r w1 ⟨rfl, hc1, hb1⟩
  have HC1 : Hid (Cur w1 w.heap.size ∧ Below w.heap.size w w1) := ⟨hc1, hb1⟩
  clear hc1 hb1 HB HL
  go_wp2_with fail
  refine (l8Any_any w.heap.size _ HC1.out.1).mono ?_
  rintro r w2 ⟨M, c2, ps, rfl, hst, hf⟩
  have HE : Hid (DS w2 M (pts ps) ∧ Below w.heap.size w w2) := ⟨⟨hst.pb.rn, hf⟩, HC1.out.2.trans (hst.kept.below (by omega) HC1.out.2.size)⟩
  clear hst hf
  go_wp2
  go_ret
  exact ⟨⟨M, c2, pts ps, retS' (pts_len ps).symm, HE.out.1⟩, HE.out.2⟩
set_option maxRecDepth 100000 in
set_option maxHeartbeats 1600000 in
theorem drawAllAlarms_any (a : Option Addr) (len cap : Nat) (w : World) (hl : len ≤ maxLen) (hb : Bytes w a len w.heap.size) :
    Calls Tryz.prog 41 #[.slice a len cap] w fun r w' => (∃ (M c : Nat) (S : List PPt), r = .returned (.slice (some ⟨M, 0, none⟩) S.length c) ∧ DS w' M S) ∧ Below w.heap.size w w' := by
  have HB : Hid (Bytes w a len w.heap.size) := hb
  have HL : Hid (len ≤ maxLen) := hl
  clear hb hl
  go_enter Tryz.func41, Tryz.ntmps41
  go_wp2_with fail
  refine (new_any a len cap _ HL.out HB.out).mono ?_
  rintro r w1 ⟨rfl, hc1, hb1⟩
  have HC1 : Hid (Cur w1 w.heap.size ∧ Below w.heap.size w w1) := ⟨hc1, hb1⟩
  clear hc1 hb1 HB HL
  go_wp2_with fail
  refine (l8Any_any w.heap.size _ HC1.out.1).mono ?_
  rintro r w2 ⟨M, c2, ps, rfl, hst, hf⟩
  have HE : Hid (DS w2 M (pts ps) ∧ Below w.heap.size w w2) := ⟨⟨hst.pb.rn, hf⟩, HC1.out.2.trans (hst.kept.below (by omega) HC1.out.2.size)⟩
  clear hst hf
  go_wp2
  go_ret
  exact ⟨⟨M, c2, pts ps, retS' (pts_len ps).symm, HE.out.1⟩, HE.out.2⟩

set_option maxHeartbeats 1600000 in
theorem drawStoreNew_any (a : Option Addr) (len cap : Nat) (w : World) (hl : len ≤ maxLen) (hb : Bytes w a len w.heap.size) :
    Calls Tryz.prog 43 #[.slice a len cap] w fun r w' => (∃ n : Int, r = .returned (.int .i64 n) ∧ -1 ≤ n ∧ n ≤ 4) ∧ Below w.heap.size w w' := by
  have HB : Hid (Bytes w a len w.heap.size) := hb
  have HL : Hid (len ≤ maxLen) := hl
  clear hb hl
  go_enter Tryz.func43, Tryz.ntmps43
  go_wp2_with fail
  refine (new_any a len cap _ HL.out HB.out).mono ?_
  rintro r w1 ⟨rfl, hc1, hb1⟩
  have HC1 : Hid (Cur w1 w.heap.size ∧ Below w.heap.size w w1) := ⟨hc1, hb1⟩
  clear hc1 hb1 HB HL
  go_wp2_with fail
  refine (below_any w.heap.size 6 _ HC1.out.1 (by decide) (by decide)).mono ?_
  rintro r w2 ⟨⟨z, rfl, hy0, hy1⟩, hc2, hk2⟩
  have HE : Hid (Below w.heap.size w w2) := HC1.out.2.trans (hk2.below (by omega) HC1.out.2.size)
  have HZ : Hid (0 ≤ z ∧ z ≤ 5) := ⟨hy0, by omega⟩
  clear hc2 hk2 hy0 hy1
  go_wp2
  go_ret
  refine ⟨⟨_, rfl, ?_, ?_⟩, HE.out⟩
  · have := HZ.out; try unfold wrap64
    try rw [IntKind.wrap_i64]
    omega
  · have := HZ.out; try unfold wrap64
    try rw [IntKind.wrap_i64]
    omega

set_option maxRecDepth 100000 in
set_option maxHeartbeats 1600000 in
theorem drawHomeOf_any (a : Option Addr) (len cap : Nat) (w : World) (hl : len ≤ maxLen) (hb : Bytes w a len w.heap.size) :
    Calls Tryz.prog 42 #[.slice a len cap] w fun r w' => (∃ (M c : Nat) (S : List PPt) (g cg : Nat) (q : List Lab), r = .returned (.tuple #[.slice (some ⟨M, 0, none⟩) S.length c, .slice (some ⟨g, 0, none⟩) q.length cg]) ∧ DS w' M S ∧ Reads w' (some ⟨g, 0, none⟩) q ∧ LabT.Fits q ∧ q.length ≤ 8) ∧ Below w.heap.size w w' := by
  have HB : Hid (Bytes w a len w.heap.size) := hb
  have HL : Hid (len ≤ maxLen) := hl
  clear hb hl
  go_enter Tryz.func42, Tryz.ntmps42
  go_wp2_with fail
  refine (new_any a len cap _ HL.out HB.out).mono ?_
  rintro r w1 ⟨rfl, hc1, hb1⟩
  have HC1 : Hid (Cur w1 w.heap.size ∧ Below w.heap.size w w1) := ⟨hc1, hb1⟩
  clear hc1 hb1 HB HL
  go_wp2_with fail
  refine (l8Any_any w.heap.size _ HC1.out.1).mono ?_
  rintro r w2 ⟨M, c2, ps, rfl, hst, hf⟩
  have HS2 : Hid (DrwT.HSt w1 w.heap.size w2 M c2 ps) := hst
  have HF : Hid (Few (pts ps)) := hf
  clear hst hf
  go_wp2_with fail
  refine (l2Draw_any w.heap.size _ HS2.out.cur).mono ?_
  rintro r w3 ⟨v, rfl, p, hst, hp1, hp2⟩
  obtain ⟨g, cg, rfl⟩ := hst.lies
  have HQ : Hid (QDr w2 w.heap.size w3 g cg p) := qdr_of (Kept.refl _ w2) hst (by omega)
  have HS3 : Hid (DrwT.HSt w1 w.heap.size w3 M c2 ps) := HS2.out.keep HQ.out.cur HQ.out.kept
  clear hst hp1 hp2 HS2
  go_wp2
  go_ret2
  exact ⟨⟨M, c2, pts ps, g, cg, p, retS2 (pts_len ps).symm, ⟨HS3.out.pb.rn, HF.out⟩, HQ.out.own.reads, HQ.out.fits, HQ.out.few⟩, HC1.out.2.trans (HS3.out.kept.below (by omega) HC1.out.2.size)⟩

theorem allY {w : World} {M cap : Nat} {lo : Nat} {ps : List PRow} (hp : PB lo w M cap ps) (hf : Few (pts ps)) :
    Calls Tryz.prog 47 #[.slice (some ⟨M, 0, none⟩) ps.length cap] w fun e w' => (∃ M c rs, e = .returned (.slice (some ⟨M, 0, none⟩) rs.length c) ∧ AB w.heap.size w' M c rs ∧ Fines (pals rs) ∧ rs.length ≤ 1000) ∧ Below w.heap.size w w' := by
  have h1 := hf.len
  have h2 := hf.sum
  have h := specAllS_any (some ⟨M, 0, none⟩) cap (pts ps) w hp.rn (by omega) (by omega)
  rw [pts_len] at h
  refine h.mono fun e w' ⟨⟨M, c, rs, he, hab, hal⟩, hb⟩ => ⟨⟨M, c, rs, he, hab, ?_⟩, hb⟩
  have h3 := few_sorted hf hal
  rw [pals_len] at h3
  exact ⟨h3.1, by omega⟩

set_option maxRecDepth 100000 in
set_option maxHeartbeats 1600000 in
theorem drawFindAlarm_any (a : Option Addr) (len cap : Nat) (w : World) (hl : len ≤ maxLen) (hb : Bytes w a len w.heap.size) :
    Calls Tryz.prog 39 #[.slice a len cap] w fun r w' => (∃ (M c : Nat) (S : List PPt) (g cg : Nat) (q : List Lab), r = .returned (.tuple #[.slice (some ⟨M, 0, none⟩) S.length c, .slice (some ⟨g, 0, none⟩) q.length cg]) ∧ DS w' M S ∧ Reads w' (some ⟨g, 0, none⟩) q ∧ LabT.Fits q ∧ q.length ≤ 8) ∧ Below w.heap.size w w' := by
  have HB : Hid (Bytes w a len w.heap.size) := hb
  have HL : Hid (len ≤ maxLen) := hl
  clear hb hl
  go_enter Tryz.func39, Tryz.ntmps39
  go_wp2_with fail
  refine (new_any a len cap _ HL.out HB.out).mono ?_
  rintro r w1 ⟨rfl, hc1, hb1⟩
  have HC1 : Hid (Cur w1 w.heap.size ∧ Below w.heap.size w w1) := ⟨hc1, hb1⟩
  clear hc1 hb1 HB HL
  go_wp2_with fail
  refine (l8Any_any w.heap.size _ HC1.out.1).mono ?_
  rintro r w2 ⟨M, c2, ps, rfl, hst, hf⟩
  have HS2 : Hid (DrwT.HSt w1 w.heap.size w2 M c2 ps) := hst
  have HF : Hid (Few (pts ps)) := hf
  clear hst hf
  go_wp2_with fail
  refine (allY HS2.out.pb HF.out).mono ?_
  rintro r w3 ⟨⟨AM, Ac, Ar, rfl, hab, hal, har⟩, hb3⟩
  have HS3 : Hid (DrwT.HSt w1 w.heap.size w3 M c2 ps) := HS2.out.grow hb3
  have HA3 : Hid (AB w2.heap.size w3 AM Ac Ar ∧ Fines (pals Ar) ∧ Ar.length ≤ 1000 ∧ w.heap.size < w2.heap.size) := ⟨hab, hal, har, by have := HS2.out.kept.size; have := HS2.out.clt; omega⟩
  clear hab hal har hb3 HS2
  go_wp2_with fail
  refine (l7Labels_any w.heap.size AM Ac w2.heap.size Ar w3 HS3.out.cur HA3.out.1 HA3.out.2.2.2 HA3.out.2.1 HA3.out.2.2.1).mono ?_
  rintro r w4 ⟨g, cg, q, rfl, hq⟩
  have HQ : Hid (QDr w3 w.heap.size w4 g cg q) := hq
  have HS4 : Hid (DrwT.HSt w1 w.heap.size w4 M c2 ps) := HS3.out.keep HQ.out.cur HQ.out.kept
  clear hq HS3 HA3
  go_wp2
  go_ret2
  exact ⟨⟨M, c2, pts ps, g, cg, q, retS2 (pts_len ps).symm, ⟨HS4.out.pb.rn, HF.out⟩, HQ.out.own.reads, HQ.out.fits, HQ.out.few⟩, HC1.out.2.trans (HS4.out.kept.below (by omega) HC1.out.2.size)⟩

theorem pb_setY {lo A : Nat} {w : World} {M cap : Nat} {ps : List PRow} (h : PB lo w M cap ps) (hA : ∀ k, StsM.blksS M ps k → k ≠ A) (i : Nat) (v : Value) : PB lo (w.setCell ⟨A, i, none⟩ v) M cap ps :=
  StsM.pb_only (S := fun k => k = A) h (Only.set (S := fun k => k = A) (Only.refl _ w) rfl i v) hA
structure VSt (w : World) (wr : World) (M cap : Nat) (ps : List PRow) : Prop where
  cur : Cur wr (w.heap.size + 1)
  low : Below w.heap.size w wr
  ord : w.heap.size + 1 < wr.heap.size
  bV : Blk wr w.heap.size #[.slice none 0 0, .int .i64 0, .int .i64 0, .string ⟨#[]⟩] 29
  pb : PB (w.heap.size + 2) wr M cap ps
theorem VSt.keep {w wr w' : World} {M cap : Nat} {ps : List PRow} (h : VSt w wr M cap ps) (hc : Cur w' (w.heap.size + 1)) (hk : Kept (w.heap.size + 1) wr w') : VSt w w' M cap ps := by
  have h1 := h.ord
  exact ⟨hc, h.low.trans (hk.below (by omega) h.low.size), Nat.lt_of_lt_of_le h1 hk.size, blk_kept h.bV hk (by omega), pb_kept h.pb hk (by omega)⟩
theorem VSt.grow {w wr w' : World} {M cap : Nat} {ps : List PRow} (h : VSt w wr M cap ps) (hb : Below wr.heap.size wr w') : VSt w w' M cap ps := h.keep (cur_bel h.cur hb) (kept_bel hb)
set_option maxRecDepth 100000 in
set_option maxHeartbeats 1600000 in
theorem drawPutAlarm_any (a : Option Addr) (len cap : Nat) (w : World) (hl : len ≤ maxLen) (hb : Bytes w a len w.heap.size) :
    Calls Tryz.prog 37 #[.slice a len cap] w fun r w' => (∃ (M c : Nat) (S : List PPt) (g c2 : Nat) (x : PAl), r = .returned (.tuple #[.slice (some ⟨M, 0, none⟩) S.length c, .agg #[.slice (some ⟨g, 0, none⟩) x.l.length c2, .int .i64 x.s, .int .i64 x.e, .string x.n]]) ∧ DS w' M S ∧ DAl w' g x) ∧ Below w.heap.size w w' := by
  have HB : Hid (Bytes w a len w.heap.size) := hb
  have HL : Hid (len ≤ maxLen) := hl
  clear hb hl
  go_enter Tryz.func37, Tryz.ntmps37
  go_wp2_with fail
  refine (new_any a len cap _ HL.out (LawB.bytes_up HB.out (Go.Joins.below_alloc1 w _))).mono ?_
  rintro r w1 ⟨rfl, hc1, hb1⟩
  have HC1 : Hid (Cur w1 (w.heap.size + 1)) := by simp at hc1; exact hc1
  have HV1 : Hid (Blk w1 w.heap.size #[.slice none 0 0, .int .i64 0, .int .i64 0, .string ⟨#[]⟩] 29) := (Blk.new _ _ _).grow hb1
  have HB1 : Hid (Below w.heap.size w w1) := grow_on (Go.Joins.below_alloc1 w _) hb1
  clear hc1 hb1 HB HL
  go_wp2_with fail
  refine (l8Any_any (w.heap.size + 1) _ HC1.out).mono ?_
  rintro r w2 ⟨M, cap, ps, rfl, hpd, hgd⟩
  have HG : Hid (Few (pts ps)) := hgd
  have HY2 : Hid (VSt w w2 M cap ps) := by
    have h1 := HC1.out.lt
    have h2 := hpd.kept.size
    exact ⟨hpd.cur, HB1.out.trans (hpd.kept.below (by omega) HB1.out.size), by omega, blk_kept HV1.out hpd.kept (by omega), hpd.pb.down (by omega)⟩
  clear hpd HC1 HB1 HV1 hgd
  go_wp2_with fail
  refine (l4Draw_any (w.heap.size + 1) _ HY2.out.cur).mono ?_
  rintro r w4 ⟨g, cg, p, s, e, n, rfl, hst, hp, hs, he, hn⟩
  have HF : Hid (Fine ⟨p, s, e, n⟩) := fine_of hp hst.fit hs he hn
  have HY4 : Hid (VSt w w4 M cap ps) := HY2.out.keep hst.cur hst.kept
  clear hst hp hs he hn HY2
  obtain ⟨w5, hw5⟩ : ∃ w5, w4.alloc (.cells #[.slice (some ⟨g, 0, none⟩) p.length cg, .int .i64 s, .int .i64 e, .string n] 29) = w5 := ⟨_, rfl⟩
  have hb5 : Below w4.heap.size w4 w5 := by rw [← hw5]; exact Go.Joins.below_alloc1 w4 _
  have HY5 : Hid (VSt w w5 M cap ps) := HY4.out.grow hb5
  have HA5 : Hid (Blk w5 w4.heap.size #[.slice (some ⟨g, 0, none⟩) p.length cg, .int .i64 s, .int .i64 e, .string n] 29) := by rw [← hw5]; exact Blk.new _ _ _
  have HXA : Hid (w.heap.size + 1 < w4.heap.size ∧ w4.heap.size < w5.heap.size) := ⟨HY4.out.ord, HA5.out.lt⟩
  have HPA : Hid (∀ k, StsM.blksS M ps k → k ≠ w4.heap.size) := fun k hk e => by have := StsM.blksS_high HY4.out.pb k hk; omega
  have HAL : Hid (Calls Tryz.prog 47 #[.slice (some ⟨M, 0, none⟩) ps.length cap] w5 fun e w' => (∃ M c rs, e = .returned (.slice (some ⟨M, 0, none⟩) rs.length c) ∧ AB w5.heap.size w' M c rs ∧ Fines (pals rs) ∧ rs.length ≤ 1000) ∧ Below w5.heap.size w5 w') := allY HY5.out.pb HG.out
  clear hb5 HY4
  go_wp2_with fail
  refine HAL.out.mono ?_
  rintro r w6 ⟨⟨AM, Ac, Ar, rfl, hab, hal, har⟩, hb6⟩
  have HY6 : Hid (VSt w w6 M cap ps) := HY5.out.grow hb6
  have HA6 : Hid (Blk w6 w4.heap.size #[.slice (some ⟨g, 0, none⟩) p.length cg, .int .i64 s, .int .i64 e, .string n] 29) := HA5.out.grow hb6
  have HR6 : Hid (AB (w.heap.size + 2) w6 AM Ac Ar ∧ Fines (pals Ar) ∧ Ar.length ≤ 1000 ∧ w4.heap.size < w6.heap.size) := ⟨hab.down (by have := HY5.out.ord; omega), hal, har, HA6.out.lt⟩
  clear hab hal har hb6 hw5 HY5 HA5 HAL
  go_wp2_with fail
  refine (l7Labels_any (w.heap.size + 1) AM Ac (w.heap.size + 2) Ar w6 HY6.out.cur HR6.out.1 (by omega) HR6.out.2.1 HR6.out.2.2.1).mono ?_
  rintro r w7 ⟨g2, cg2, q, rfl, hq⟩
  have HY7 : Hid (VSt w w7 M cap ps) := HY6.out.keep hq.cur hq.kept
  have HA7 : Hid (Blk w7 w4.heap.size #[.slice (some ⟨g, 0, none⟩) p.length cg, .int .i64 s, .int .i64 e, .string n] 29) := blk_kept HA6.out hq.kept (by have := HXA.out; omega)
  have HQ : Hid (OwnA (w4.heap.size + 1) w7 (g2, cg2, ⟨q, s, e, n⟩) ∧ LabT.Fits q ∧ q.length ≤ 8) := ⟨by obtain ⟨h1, h2, h3⟩ := hq.own; exact ⟨Nat.le_trans HR6.out.2.2.2 h1, h2, h3⟩, hq.fits, hq.few⟩
  clear hq HY6 HA6 HR6
  generalize w4.heap.size = A at HXA HA7 HQ HPA ⊢
  have c0 : w7.cell? ⟨A, 0, none⟩ = some (.slice (some ⟨g, 0, none⟩) p.length cg) := HA7.out.cell 0
  have fc := HA7.out.frozen 0
  go_upto_region 5 with fail
  clear c0 fc
  obtain ⟨W3, hW3⟩ : ∃ W3, w7.setCell ⟨A, 0, none⟩ (.slice (some ⟨g2, 0, none⟩) q.length cg2) = W3 := ⟨_, rfl⟩
  have hA0 := HXA.out
  have HY : Hid (VSt w W3 M cap ps) := by
    rw [← hW3]
    exact ⟨cur_set HY7.out.cur (by omega) _ _, ChnI.set_low HY7.out.low (by omega) _ _, by simpa using HY7.out.ord, HY7.out.bV.set_other (by show A ≠ _; omega) _, pb_setY HY7.out.pb HPA.out _ _⟩
  have HA : Hid (Blk W3 A #[.slice (some ⟨g2, 0, none⟩) q.length cg2, .int .i64 s, .int .i64 e, .string n] 29) := by rw [← hW3]; exact HA7.out.set 0 _
  have HO : Hid (OwnA (w.heap.size + 2) W3 (g2, cg2, ⟨q, s, e, n⟩)) := by
    rw [← hW3]
    have hne : A ≠ g2 := by have h : A + 1 ≤ g2 := HQ.out.1.1; omega
    exact own_set (HQ.out.1.down (by omega)) hne _ _
  have HFx : Hid (Fine ⟨q, s, e, n⟩) := ⟨⟨by have := HQ.out.2.2; show q.length ≤ _; unfold maxLen; omega, HQ.out.2.1, HF.out.1.sb, HF.out.1.eb, HF.out.1.note⟩, HQ.out.2.2⟩
  rw [hW3]
  clear hW3 HY7 HA7 HQ HF HPA
  have d1 : ¬ A = w.heap.size := by omega
  have d2 : ¬ w.heap.size = A := by omega
  have a0 : W3.cell? ⟨A, 0, none⟩ = some (.slice (some ⟨g2, 0, none⟩) q.length cg2) := HA.out.cell 0
  have a1 : W3.cell? ⟨A, 1, none⟩ = some (.int .i64 s) := HA.out.cell 1
  have a2 : W3.cell? ⟨A, 2, none⟩ = some (.int .i64 e) := HA.out.cell 2
  have a3 : W3.cell? ⟨A, 3, none⟩ = some (.string n) := HA.out.cell 3
  have v0 : W3.cell? ⟨w.heap.size, 0, none⟩ = some (.slice none 0 0) := HY.out.bV.cell 0
  have fv0 := HY.out.bV.frozen 0
  have v1 : W3.cell? ⟨w.heap.size, 1, none⟩ = some (.int .i64 0) := HY.out.bV.cell 1
  have fv1 := HY.out.bV.frozen 1
  have v2 : W3.cell? ⟨w.heap.size, 2, none⟩ = some (.int .i64 0) := HY.out.bV.cell 2
  have fv2 := HY.out.bV.frozen 2
  have v3 : W3.cell? ⟨w.heap.size, 3, none⟩ = some (.string ⟨#[]⟩) := HY.out.bV.cell 3
  have fv3 := HY.out.bV.frozen 3
  go_region
  go_wp2
  have ht := (Alm.put4 HY.out.bV (.slice (some ⟨g2, 0, none⟩) q.length cg2) (.int .i64 s) (.int .i64 e) (.string n)).drew
  have t0 := ht.cell 0
  have t1 := ht.cell 1
  have t2 := ht.cell 2
  have t3 := ht.cell 3
  refine bodyPost_ret (v := .tuple #[.slice (some ⟨M, 0, none⟩) ps.length cap, .agg #[.slice (some ⟨g2, 0, none⟩) q.length cg2, .int .i64 s, .int .i64 e, .string n]]) (by simp [results, Tryz.results37, go_sem, t0, t1, t2, t3]) rfl ?_
  have hg1 : w.heap.size ≠ g2 := by have h : w.heap.size + 2 ≤ g2 := HO.out.1; omega
  have hg2 : ∀ k, StsM.blksS M ps k → k ≠ w.heap.size := fun k hk => by have := StsM.blksS_low HY.out.pb k hk; omega
  have hpb := (pb_setY (pb_setY (pb_setY (pb_setY HY.out.pb hg2 0 (.slice (some ⟨g2, 0, none⟩) q.length cg2)) hg2 1 (.int .i64 s)) hg2 2 (.int .i64 e)) hg2 3 (.string n)).grow (Below.refl _ _).drew
  have hox := (own_set (own_set (own_set (own_set HO.out hg1 0 (.slice (some ⟨g2, 0, none⟩) q.length cg2)) hg1 1 (.int .i64 s)) hg1 2 (.int .i64 e)) hg1 3 (.string n)).grow (Below.refl _ _).drew
  exact ⟨⟨M, cap, pts ps, g2, cg2, ⟨q, s, e, n⟩, retS2 (pts_len ps).symm, ⟨hpb.rn, HG.out⟩, ⟨hox.reads, HFx.out⟩⟩, (Alm.set4 HY.out.low (Nat.le_refl _) _ _ _ _).drew⟩
end Go.Proofs.YtooninmicfcfoaaGreat.DrwY
namespace Go.Proofs.YtooninmicfcfoaaGreat.DrwZ
open Go.RowKit
open Draw
open Labs LabS Over Blk App DrawL DrawT Alms AlmM DrawA Rws ChnI ChnK DrawC DrawE DrawG Chs Prt PrtF PrtC PrtS Sts StsA StsF StsH StsK StsN StsO StsP Rgt DrwT DrwX DrwY
open DrwW (zeroA findSD fine_zero own_reads)
open SrtP (sortP sort_perm)

theorem same_part (hd vr : Int) (C : List PCh) : samePB hd vr C hd vr C = true := sameP_y.trans (sameYs_refl C)
set_option maxHeartbeats 1600000 in
theorem sameStore_any (a a' : Option Addr) (cap cap' : Nat) (S : List PPt) (w : World) (hr : RdS RdA w a S) (hr' : RdS RdA w a' S) (hl : S.length ≤ 1048576) (hs : sumT S ≤ 1048576) :
    Calls Tryz.prog 46 #[.slice a S.length cap, .slice a' S.length cap'] w fun e w' => e = .returned (.bool true) ∧ Below w.heap.size w w' := by
  have HR : Hid (RdS RdA w a S ∧ RdS RdA w a' S ∧ sumT S ≤ 1048576) := ⟨hr, hr', hs⟩
  clear hr hr' hs
  go_enter Tryz.func46, Tryz.ntmps46
  go_wp2
  go_loopw [5] (fun i w' => ∃ k : Nat, i = .int .i64 k ∧ k ≤ S.length ∧ Below w.heap.size w w') (fun i _ => S.length - (intOf i).toNat)
  case atStart => exact ⟨0, rfl, Nat.zero_le _, Below.refl _ _⟩
  case round =>
    obtain ⟨k, rfl, hk, hw0⟩ := hrel
    have HB : Hid (Below w.heap.size w wr) := hw0
    clear hw0
    by_cases hlt : k < S.length
    · have hlt' : (k : Int) < (S.length : Int) := by omega
      obtain ⟨b, off, rfl, hb, ad, cp, hat⟩ := (HR.out.1.below stays_rd HB.out).get hlt
      obtain ⟨b', off', rfl, hb', ad', cp', hat'⟩ := (HR.out.2.1.below stays_rd HB.out).get hlt
      have hne := Grown.some wr
      have x0 := fun x : Grown wr => x.cell hb hat.c0
      have x1 := fun x : Grown wr => x.cell hb hat.c1
      have x2 := fun x : Grown wr => x.cell hb hat.c2
      have y0 := fun x : Grown wr => x.cell hb' hat'.c0
      have y1 := fun x : Grown wr => x.cell hb' hat'.c1
      have y2 := fun x : Grown wr => x.cell hb' hat'.c2
      have hn0 := sumT_nth hlt
      have hn1 := HR.out.2.2
      have HC : ∀ x : Grown wr, Hid (Calls Tryz.prog 19 #[.agg #[.int .i64 (nthT S k).hd, .int .i64 (nthT S k).vr, .slice ad (nthT S k).C.length cp], .agg #[.int .i64 (nthT S k).hd, .int .i64 (nthT S k).vr, .slice ad' (nthT S k).C.length cp']] x.out fun e w' => e = .returned (.bool true) ∧ Below x.out.heap.size x.out w') := fun x => by
        have h := implSameP_any (nthT S k).hd (nthT S k).vr (nthT S k).hd (nthT S k).vr ad ad' cp cp' (nthT S k).C (nthT S k).C x.out (hat.reads.below stays_rd x.bel) (hat'.reads.below stays_rd x.bel) (by omega) (by omega) (small_of (by omega)) (small_of (by omega))
        rw [same_part] at h
        exact h
      clear hat hat' hn0 hn1
      go_wp2
      refine wp_over (z := wr) (by kernel_rfl) (by kernel_rfl) (Below.refl _ _) ?_
      repeat (go_big_quiet_step (first | (go_at_call 19; exact call_over (HC _).out)))
      refine wpQuiet_nil ?_
      intro w2 hw2
      have HB2 : Hid (Below w.heap.size w w2) := grow_on HB.out (over_bel hw2)
      clear hw2 hne x0 x1 x2 y0 y1 y2 HC
      go_wp2
      go_roundw
      case rel => exact ⟨k + 1, by go_num, by omega, HB2.out⟩
      case measure => simp [intOf]; omega
    · have hge : ¬ (k : Int) < (S.length : Int) := by omega
      go_wp2
      go_ret
      exact ⟨rfl, HB.out⟩

def SR (w : World) (M : Nat) (S : List PPt) : Prop := RdS RdA w (some ⟨M, 0, none⟩) S ∧ FitsT S ∧ S.length ≤ 1000 ∧ sumT S ≤ 1000
theorem SR.below {w w' : World} {M : Nat} {S : List PPt} (h : SR w M S) (hb : Below w.heap.size w w') : SR w' M S := ⟨h.1.below stays_rd hb, h.2⟩
theorem sr_ds {w : World} {M : Nat} {S : List PPt} (h : DS w M S) : SR w M S := ⟨h.1.rd, h.2.fits, by have := h.2.len; omega, by have := h.2.sum; omega⟩
theorem fine_sd {S : List PPt} (h : Few S) (l : List Lab) : Fine (findSD S l) := by
  unfold findSD
  cases hf : findS S l with
  | none => exact fine_zero
  | some x =>
    by_cases h0 : S.length = 0
    · rw [findS_none h0] at hf; cases hf
    · rw [findS_some h0] at hf
      obtain ⟨c, hc, i, hi, rfl⟩ := PrtJ.find_in hf
      exact (h.few _ (nthT_mem (home_lt (by omega))) c hc).1 _ (nthP_mem hi)
theorem same_store {w : World} {M M' c c' : Nat} {S : List PPt} (h : SR w M S) (h' : SR w M' S) :
    Calls Tryz.prog 46 #[.slice (some ⟨M, 0, none⟩) S.length c, .slice (some ⟨M', 0, none⟩) S.length c'] w fun e w' => e = .returned (.bool true) ∧ Below w.heap.size w w' :=
  sameStore_any _ _ c c' S w h.1 h'.1 (by have := h.2.2.1; omega) (by have := h.2.2.2; omega)
theorem implOkZ {w : World} {M c : Nat} {S : List PPt} (h : SR w M S) {b : Bool} (hb : storeB S = b) :
    Calls Tryz.prog 33 #[.slice (some ⟨M, 0, none⟩) S.length c] w fun e w' => e = .returned (.bool b) ∧ Below w.heap.size w w' := by
  subst hb
  exact implStore_any _ c S w h.1 (by have := h.2.2.1; omega) h.2.1 (by have := h.2.2.2; omega)
theorem specOkZ {w : World} {M c : Nat} {S : List PPt} (h : SR w M S) {b : Bool} (hb : storeB S = b) :
    Calls Tryz.prog 45 #[.slice (some ⟨M, 0, none⟩) S.length c] w fun e w' => e = .returned (.bool b) ∧ Below w.heap.size w w' := by
  subst hb
  exact specStore_any _ c S w h.1 (by have := h.2.2.1; omega) h.2.1 (by have := h.2.2.2; omega)
theorem countZ {w : World} {M c : Nat} {S : List PPt} (h : SR w M S) {n : Nat} (hn : cntT S = n) :
    Calls Tryz.prog 35 #[.slice (some ⟨M, 0, none⟩) S.length c] w fun e w' => e = .returned (.int .i64 n) ∧ Below w.heap.size w w' := by
  subst hn
  exact implCount_any _ c S w h.1 (by have := h.2.2.1; omega) (by have := h.2.2.2; omega)
theorem put_sr {S : List PPt} {x : PAl} (h : Few S) (hx : Fine x) : FitsT (putS S x) ∧ (putS S x).length ≤ 1000 ∧ sumT (putS S x) ≤ 1000 := by
  have h1 := putS_sum S x
  have h2 := h.sum
  have h3 := hx.2
  exact ⟨putS_fits h.fits (by omega) hx.1, by rw [putS_len]; have := h.len; omega, by omega⟩
theorem implPutZ {w : World} {M c g c2 : Nat} {S : List PPt} {x : PAl} (h : DS w M S) (hx : DAl w g x) {Q : List PPt} {nu : Bool} (hQ : putS S x = Q) (hn : freshS S x = nu) :
    Calls Tryz.prog 30 #[.slice (some ⟨M, 0, none⟩) S.length c, .agg #[.slice (some ⟨g, 0, none⟩) x.l.length c2, .int .i64 x.s, .int .i64 x.e, .string x.n]] w fun e w' => (∃ M' c', e = .returned (.tuple #[.slice (some ⟨M', 0, none⟩) Q.length c', .bool nu]) ∧ SR w' M' Q) ∧ Below w.heap.size w w' := by
  subst hQ hn
  have h1 := h.2.len
  have h2 := h.2.sum
  refine (implPutA_any (some ⟨M, 0, none⟩) c S g 0 c2 x w h.1.rd hx.1 (by omega) (by omega) (by have := hx.2.2; omega) hx.2.1.fits).mono fun e w' k => ?_
  obtain ⟨⟨M', c', he, ps, hp, hq, _⟩, hb⟩ := k
  refine ⟨⟨M', c', by rw [putS_len]; exact he, ?_, put_sr h.2 hx.2⟩, hb⟩
  rw [← hq]; exact hp.rd
theorem specPutZ {w : World} {M c g c2 : Nat} {S : List PPt} {x : PAl} (h : DS w M S) (hx : DAl w g x) {Q : List PPt} {nu : Bool} (hQ : putS S x = Q) (hn : freshS S x = nu) :
    Calls Tryz.prog 38 #[.slice (some ⟨M, 0, none⟩) S.length c, .agg #[.slice (some ⟨g, 0, none⟩) x.l.length c2, .int .i64 x.s, .int .i64 x.e, .string x.n]] w fun e w' => (∃ M' c', e = .returned (.tuple #[.slice (some ⟨M', 0, none⟩) Q.length c', .bool nu]) ∧ SR w' M' Q) ∧ Below w.heap.size w w' := by
  subst hQ hn
  have h1 := h.2.len
  have h2 := h.2.sum
  refine (specPutA_any (some ⟨M, 0, none⟩) c S g 0 c2 x w h.1 hx.1 (by omega) (by omega) (by have := hx.2.2; omega) hx.2.1.fits).mono fun e w' k => ?_
  obtain ⟨⟨M', c', he, ps, hp, hq, _⟩, hb⟩ := k
  refine ⟨⟨M', c', by rw [putS_len]; exact he, ?_, put_sr h.2 hx.2⟩, hb⟩
  rw [← hq]; exact hp.rd
theorem implFindZ {w : World} {M c g c2 : Nat} {S : List PPt} {l : List Lab} (h : DS w M S) (hr : Reads w (some ⟨g, 0, none⟩) l) (hl : l.length ≤ 8) (hf : LabT.Fits l) {Y : PAl} {ok : Bool} (hY : findSD S l = Y) (hk : (findS S l).isSome = ok) :
    Calls Tryz.prog 31 #[.slice (some ⟨M, 0, none⟩) S.length c, .slice (some ⟨g, 0, none⟩) l.length c2] w fun e w' => (∃ b c, e = .returned (.tuple #[.agg #[.slice b Y.l.length c, .int .i64 Y.s, .int .i64 Y.e, .string Y.n], .bool ok]) ∧ Reads w' b Y.l) ∧ Below w.heap.size w w' := by
  subst hY hk
  have h1 := h.2.len
  have h2 := h.2.sum
  refine (implFindA_any (some ⟨M, 0, none⟩) (some ⟨g, 0, none⟩) c c2 S l w h.1.rd hr (by omega) (by omega) (by unfold maxLen; omega) hf).mono fun e w' h => ?_
  unfold findSD
  cases hb : findS S l with
  | none =>
    rw [hb] at h
    exact ⟨⟨none, 0, h.1, .inl rfl⟩, h.2⟩
  | some x =>
    rw [hb] at h
    obtain ⟨⟨M, c, he, ho⟩, hb'⟩ := h
    exact ⟨⟨some ⟨M, 0, none⟩, c, he, own_reads ho⟩, hb'⟩
theorem specFindZ {w : World} {M c g c2 : Nat} {S : List PPt} {l : List Lab} (h : DS w M S) (hr : Reads w (some ⟨g, 0, none⟩) l) (hl : l.length ≤ 8) (hf : LabT.Fits l) {Y : PAl} {ok : Bool} (hY : findSD S l = Y) (hk : (findS S l).isSome = ok) :
    Calls Tryz.prog 40 #[.slice (some ⟨M, 0, none⟩) S.length c, .slice (some ⟨g, 0, none⟩) l.length c2] w fun e w' => (∃ b c, e = .returned (.tuple #[.agg #[.slice b Y.l.length c, .int .i64 Y.s, .int .i64 Y.e, .string Y.n], .bool ok]) ∧ Reads w' b Y.l) ∧ Below w.heap.size w w' := by
  subst hY hk
  have h1 := h.2.len
  have h2 := h.2.sum
  refine (specFindA_any (some ⟨M, 0, none⟩) (some ⟨g, 0, none⟩) c c2 S l w h.1 hr (by omega) (by omega) (by unfold maxLen; omega) hf).mono fun e w' h => ?_
  unfold findSD
  cases hb : findS S l with
  | none =>
    rw [hb] at h
    exact ⟨⟨none, 0, h.1, .inl rfl⟩, h.2⟩
  | some x =>
    rw [hb] at h
    obtain ⟨⟨M, c, he, ho⟩, hb'⟩ := h
    exact ⟨⟨some ⟨M, 0, none⟩, c, he, own_reads ho⟩, hb'⟩
theorem implAllZ {w : World} {M c : Nat} {S : List PPt} (h : DS w M S) {P : List PAl} (hP : sortP (allT S) = P) :
    Calls Tryz.prog 32 #[.slice (some ⟨M, 0, none⟩) S.length c] w fun e w' => (∃ M c, e = .returned (.slice (some ⟨M, 0, none⟩) P.length c) ∧ RdN w' (some ⟨M, 0, none⟩) P) ∧ Below w.heap.size w w' := by
  subst hP
  have h1 := h.2.len
  have h2 := h.2.sum
  refine (implAllS_any (some ⟨M, 0, none⟩) c S w h.1.rd (by omega) (by omega)).mono fun e w' h => ?_
  obtain ⟨⟨M, c, rs, he, hab, hp⟩, hb⟩ := h
  exact ⟨⟨M, c, by rw [← hp, pals_len]; exact he, by rw [← hp]; exact hab.rd⟩, hb⟩
theorem specAllZ {w : World} {M c : Nat} {S : List PPt} (h : DS w M S) {P : List PAl} (hP : sortP (allT S) = P) :
    Calls Tryz.prog 47 #[.slice (some ⟨M, 0, none⟩) S.length c] w fun e w' => (∃ M c, e = .returned (.slice (some ⟨M, 0, none⟩) P.length c) ∧ RdN w' (some ⟨M, 0, none⟩) P) ∧ Below w.heap.size w w' := by
  subst hP
  have h1 := h.2.len
  have h2 := h.2.sum
  refine (specAllS_any (some ⟨M, 0, none⟩) c S w h.1 (by omega) (by omega)).mono fun e w' h => ?_
  obtain ⟨⟨M, c, rs, he, hab, hp⟩, hb⟩ := h
  exact ⟨⟨M, c, by rw [← hp, pals_len]; exact he, by rw [← hp]; exact hab.rd⟩, hb⟩
theorem implHomeZ {w : World} {M c g c2 : Nat} {S : List PPt} {l : List Lab} (h : DS w M S) (hr : Reads w (some ⟨g, 0, none⟩) l) (hl : l.length ≤ 8) (hf : LabT.Fits l) {n : Nat} (hn : homeN S.length l = n) :
    Calls Tryz.prog 48 #[.slice (some ⟨M, 0, none⟩) S.length c, .slice (some ⟨g, 0, none⟩) l.length c2] w fun e w' => e = .returned (.int .i64 n) ∧ Below w.heap.size w w' := by
  subst hn
  exact implHome_any _ _ S.length c c2 l w hr (by have := h.2.len; unfold maxLen; omega) (by unfold maxLen; omega) hf
theorem specHomeZ {w : World} {M c g c2 : Nat} {S : List PPt} {l : List Lab} (h : DS w M S) (hr : Reads w (some ⟨g, 0, none⟩) l) (hl : l.length ≤ 8) (hf : LabT.Fits l) {n : Nat} (hn : homeN S.length l = n) :
    Calls Tryz.prog 49 #[.slice (some ⟨M, 0, none⟩) S.length c, .slice (some ⟨g, 0, none⟩) l.length c2] w fun e w' => e = .returned (.int .i64 n) ∧ Below w.heap.size w w' := by
  subst hn
  exact specHome_any _ _ S.length c c2 l w hr (by have := h.2.len; unfold maxLen; omega) (by unfold maxLen; omega) hf
theorem sr_new {n : Int} : FitsT (newS n) ∧ (newS n).length ≤ 1000 ∧ sumT (newS n) ≤ 1000 := ⟨none_fits _, by rw [new_len]; have := newN_le n; omega, by unfold newS; rw [none_sum]; omega⟩
theorem implNewZ {w : World} {n : Int} (hn : -1 ≤ n ∧ n ≤ 4) {N : List PPt} (hN : newS n = N) :
    Calls Tryz.prog 44 #[.int .i64 n] w fun e w' => (∃ M c, e = .returned (.slice (some ⟨M, 0, none⟩) N.length c) ∧ SR w' M N) ∧ Below w.heap.size w w' := by
  subst hN
  refine (implNew_any n w ⟨by omega, by omega⟩).mono fun e w' h => ?_
  obtain ⟨⟨M, he, ps, hp, hq, _⟩, hb⟩ := h
  exact ⟨⟨M, _, by rw [new_len]; exact he, by rw [← hq]; exact hp.rd, sr_new⟩, hb⟩
theorem specNewZ {w : World} {n : Int} (hn : -1 ≤ n ∧ n ≤ 4) {N : List PPt} (hN : newS n = N) :
    Calls Tryz.prog 50 #[.int .i64 n] w fun e w' => (∃ M c, e = .returned (.slice (some ⟨M, 0, none⟩) N.length c) ∧ SR w' M N) ∧ Below w.heap.size w w' := by
  subst hN
  refine (specNew_any n w ⟨by omega, by omega⟩).mono fun e w' h => ?_
  obtain ⟨⟨M, c, he, hp⟩, hb⟩ := h
  refine ⟨⟨M, c, by rw [new_len]; exact he, ?_, sr_new⟩, hb⟩
  have := hp.rd
  rw [none_pts] at this
  exact this
theorem new_facts (n : Int) : storeB (newS n) = true ∧ cntT (newS n) = 0 := by
  refine ⟨(rst_iff _).2 (rst_new (newN_le n)), ?_⟩
  have h1 := cntT_sum (newS n)
  have h2 : sumT (newS n) = 0 := none_sum _
  omega
end Go.Proofs.YtooninmicfcfoaaGreat.DrwZ
