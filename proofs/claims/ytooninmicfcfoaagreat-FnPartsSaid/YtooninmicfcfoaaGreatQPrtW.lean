/-
  PROVED: the marks that markChainS and markPart write lie in the chains' own memory alone, and heldChainS and heldPart find them.
  PROVED: over a part in memory spec.AlarmsIn and impl.AlarmsIn give all its alarms, chain by chain, in memory of their own; nothing that was there is changed.
  PROVED: what is left of a part's chains, and what goes, on plain lists; rows of alarms and of chains are kept while another row of alarms is written; over a part in memory spec.SweepIn answers so, in memory of its own; nothing that was there is changed.
-/
import Derived.Test.YtooninmicfcfoaaGreatQPrt
set_option linter.unusedVariables false
namespace Go.Proofs.YtooninmicfcfoaaGreat.PrtM
open Go.RowKit
open Labs LabS Alms AlmM Over Blk App Rws ChnI ChnC ChnP ChnK Chs Prt

def blksC (M : Nat) (cs : List CRow) (k : Nat) : Prop := k = M ∨ ∃ x ∈ cs, blks x.M x.rs k
theorem blksC_low {lo : Nat} {w : World} {M c : Nat} {cs : List CRow} (h : CB lo w M c cs) (k : Nat) (hk : blksC M cs k) : lo ≤ k := by
  rcases hk with rfl | ⟨x, hx, hk⟩
  · exact h.at'
  · exact blks_low (h.rows.rows x hx) k hk
end Go.Proofs.YtooninmicfcfoaaGreat.PrtM
namespace Go.Proofs.YtooninmicfcfoaaGreat.PrtA
open Go.RowKit
open Labs LabS Alms AlmM Over Blk App Rws ChnI ChnC ChnP ChnK ChnT Chs Prt

def SmallA (C : List PCh) : Prop := ∀ x ∈ C, x.P.length ≤ 1048576 ∧ LenM x.P
def flatA : List ARow → List Value
  | [] => []
  | x :: rs => rowV x ++ flatA rs
theorem flatA_len : ∀ rs : List ARow, (flatA rs).length = rs.length * 4
  | [] => rfl
  | x :: rs => by rw [flatA, List.length_append, flatA_len rs]; simp [rowV]; omega
theorem flatA_one : ∀ (rs : List ARow), ∀ v ∈ flatA rs, v.oneCell' = true
  | [], v, hv => by simp [flatA] at hv
  | x :: rs, v, hv => by
    rw [flatA] at hv
    rcases List.mem_append.1 hv with hv | hv
    · exact row_one x v hv
    · exact flatA_one rs v hv
theorem flatA_four : ∀ (rs : List ARow) (i : Nat), i < rs.length → Four (fun k => (flatA rs)[k]?) i (nthA rs i)
  | [], i, h => by simp at h
  | x :: rs, 0, h => by
    have e : nthA (x :: rs) 0 = x := by rw [nthA_eq (by simp)]; simp
    rw [e]
    have hr : ∀ j, j < 4 → (flatA (x :: rs))[0 * 4 + j]? = (rowV x)[j]? := fun j hj => by
      rw [flatA, Nat.zero_mul, Nat.zero_add, List.getElem?_append_left (by simp [rowV]; exact hj)]
    exact ⟨hr 0 (by omega), hr 1 (by omega), hr 2 (by omega), hr 3 (by omega)⟩
  | x :: rs, i + 1, h => by
    have hi : i < rs.length := by simpa using h
    have e : nthA (x :: rs) (i + 1) = nthA rs i := by rw [nthA_eq h, nthA_eq hi]; simp
    rw [e]
    have h4 := flatA_four rs i hi
    have hs : ∀ k, (flatA (x :: rs))[k + 4]? = (flatA rs)[k]? := fun k => by
      rw [flatA, List.getElem?_append_right (by simp [rowV])]
      simp [rowV]
    obtain ⟨h0, h1, h2, h3⟩ := h4
    refine ⟨?_, ?_, ?_, ?_⟩
    · show (flatA (x :: rs))[(i + 1) * 4]? = _
      have q : (i + 1) * 4 = i * 4 + 4 := by omega
      rw [q, hs]; exact h0
    · show (flatA (x :: rs))[(i + 1) * 4 + 1]? = _
      have q : (i + 1) * 4 + 1 = i * 4 + 1 + 4 := by omega
      rw [q, hs]; exact h1
    · show (flatA (x :: rs))[(i + 1) * 4 + 2]? = _
      have q : (i + 1) * 4 + 2 = i * 4 + 2 + 4 := by omega
      rw [q, hs]; exact h2
    · show (flatA (x :: rs))[(i + 1) * 4 + 3]? = _
      have q : (i + 1) * 4 + 3 = i * 4 + 3 + 4 := by omega
      rw [q, hs]; exact h3
theorem flatA_news {lo : Nat} {w : World} {M c : Nat} {rs : List ARow} (h : AB lo w M c rs) : ∀ j u, (flatA rs)[j]? = some u → w.cell? ((⟨M, 0, none⟩ : Addr).add j) = some u := fun j u hj => by
  obtain ⟨cur, h1, h2, h3⟩ := h.outer
  have hlt : j < rs.length * 4 := by
    have := (List.getElem?_eq_some_iff.1 hj).1
    rwa [flatA_len] at this
  have ea : (⟨M, 0, none⟩ : Addr).add j = ⟨M, j, none⟩ := by by_cases h : j = 0 <;> simp [Addr.add, h]
  rw [ea, h1.cell, ← hj]
  obtain ⟨i, r, hi, hr, e⟩ : ∃ i r, i < rs.length ∧ r < 4 ∧ j = i * 4 + r := ⟨j / 4, j % 4, by omega, Nat.mod_lt _ (by omega), by omega⟩
  obtain ⟨a0, a1, a2, a3⟩ := h3 i hi
  obtain ⟨b0, b1, b2, b3⟩ := flatA_four rs i hi
  subst e
  match r, hr with
  | 0, _ => exact a0.trans b0.symm
  | 1, _ => exact a1.trans b1.symm
  | 2, _ => exact a2.trans b2.symm
  | 3, _ => exact a3.trans b3.symm
theorem nthA_two_lt {rs qs : List ARow} {i : Nat} (h : i < rs.length) : nthA (rs ++ qs) i = nthA rs i := by
  rw [nthA_eq (by simp; omega), nthA_eq h, List.getElem_append_left h]
theorem nthA_two_ge {rs qs : List ARow} {i : Nat} (h : i < qs.length) : nthA (rs ++ qs) (rs.length + i) = nthA qs i := by
  rw [nthA_eq (by simp; omega), nthA_eq h, List.getElem_append_right (by omega)]
  simp
theorem AB.appAll {lo : Nat} {W w' : World} {M c : Nat} {rs qs : List ARow} {xs : List Value} {v' : Value} (h : AB lo W M c rs) (hq : ∀ x ∈ qs, OwnA lo W x) (hqn : qs.Pairwise fun x y => x.1 ≠ y.1) (hne : ∀ y ∈ rs, ∀ x ∈ qs, y.1 ≠ x.1) (hl : xs.length = rs.length * 4) (hxs : ∀ i, i < rs.length → Four (fun k => xs[k]?) i (nthA rs i))
    (hown : w'.ownsRow lo 29 4 v' (rs.length + qs.length) (xs ++ flatA qs)) (hg : W.grownBy w' (some M)) (hnn : v' ≠ .slice none 0 0) : ∃ M' c', v' = .slice (some ⟨M', 0, none⟩) (rs.length + qs.length) c' ∧ AB lo w' M' c' (rs ++ qs) := by
  rcases hown.2 with ⟨e, _⟩ | ⟨g, cap, cur, e, hb, hgb, hc, hm, hz, ht⟩
  · exact absurd e hnn
  · obtain ⟨cu0, hcu0, _⟩ := h.outer
    have far : ∀ y, OwnA lo W y → OwnA lo w' y := fun y hy => by
      obtain ⟨h0, h1, ds, h2, h3⟩ := hy
      exact ⟨h0, h1, ds, blk_far h2 hg (fun e => blkA_ne hcu0 h2 (Option.some.inj e).symm), h3⟩
    refine ⟨g, cap, e, hb, ⟨by simp; omega, hm⟩, ⟨cur, hgb, hz, fun i hi => ?_⟩, fun y hy => ?_, ?_⟩
    · have at' : ∀ k, k < (rs.length + qs.length) * 4 → cur[k]? = (xs ++ flatA qs)[k]? := fun k hk => by
        rw [← ht, List.getElem?_take_of_lt hk]; simp
      simp at hi
      by_cases hlt : i < rs.length
      · rw [nthA_two_lt hlt]
        refine (hxs i hlt).congr fun k _ hk => ?_
        show cur[k]? = xs[k]?
        rw [at' k (by omega), List.getElem?_append_left (by omega)]
      · obtain ⟨m, rfl⟩ : ∃ m, i = rs.length + m := ⟨i - rs.length, by omega⟩
        have hm' : m < qs.length := by omega
        rw [nthA_two_ge hm']
        have h4 := flatA_four qs m hm'
        have hr : ∀ r, r < 4 → cur[(rs.length + m) * 4 + r]? = (flatA qs)[m * 4 + r]? := fun r hr => by
          rw [at' _ (by omega), List.getElem?_append_right (by omega), hl]
          congr 1; omega
        exact ⟨(hr 0 (by omega)).trans h4.1, (hr 1 (by omega)).trans h4.2.1, (hr 2 (by omega)).trans h4.2.2.1, (hr 3 (by omega)).trans h4.2.2.2⟩
    · rcases List.mem_append.1 hy with hy | hy
      · exact far y (h.rows y hy)
      · exact far y (hq y hy)
    · rw [List.pairwise_append]
      exact ⟨h.ne, hqn, fun a ha b hb => hne a ha b hb⟩
def allC : List PCh → List PAl
  | [] => []
  | x :: C => x.P ++ allC C
theorem allC_app (p q : List PCh) : allC (p ++ q) = allC p ++ allC q := by
  induction p with
  | nil => rfl
  | cons x p ih => rw [List.cons_append, allC, ih, allC, List.append_assoc]
theorem allC_up {C : List PCh} {k : Nat} (h : k < C.length) : allC (C.take (k + 1)) = allC (C.take k) ++ (nthC C k).P := by rw [takeC_up h, allC_app]; simp [allC]
theorem allC_sum (C : List PCh) : (allC C).length + sumL (allC C) = sumC C := by
  induction C with
  | nil => rfl
  | cons x C ih => rw [allC, sumC, sum_app, List.length_append]; omega
theorem allC_mem {C : List PCh} {x : PAl} (h : x ∈ allC C) : ∃ c ∈ C, x ∈ c.P := by
  induction C with
  | nil => simp [allC] at h
  | cons y C ih =>
    rw [allC] at h
    rcases List.mem_append.1 h with h | h
    · exact ⟨y, by simp, h⟩
    · obtain ⟨c, hc, hx⟩ := ih h
      exact ⟨c, by simp [hc], hx⟩
theorem pals_two (rs qs : List ARow) : pals (rs ++ qs) = pals rs ++ pals qs := by simp [pals]
theorem fieldL (f : Int) (a : Option Addr) (n c : Nat) (w : World) : (Instr.field 96 (.agg #[.int .i64 f, .slice a n c]) 1).run Tryz.prog w = .ok (.slice a n c) w := by kernel_rfl
theorem bel_id {w w' : World} (h : Below w.heap.size w w') : Below w.heap.size w w' := h
theorem bel_box {w w' : World} {o : Obj} (h : Below (w.alloc o).heap.size (w.alloc o) w') : Below w.heap.size w w' := grow_on (Go.Joins.below_alloc1 w o) h
set_option maxRecDepth 100000 in
set_option maxHeartbeats 1600000 in
theorem specAll_any (hd vr : Int) (a : Option Addr) (cap : Nat) (C : List PCh) (w : World) (hr : RdG RdN w a C) (hl : C.length ≤ 1048576) (hs : SmallA C) (hc : sumC C ≤ 1048576) :
    Calls Tryz.prog 28 #[.agg #[.int .i64 hd, .int .i64 vr, .slice a C.length cap]] w fun e w' => (∃ M c rs, e = .returned (.slice (some ⟨M, 0, none⟩) rs.length c) ∧ AB w.heap.size w' M c rs ∧ pals rs = allC C) ∧ Below w.heap.size w w' := by
  have HR : Hid (RdG RdN w a C ∧ SmallA C ∧ sumC C ≤ 1048576) := ⟨hr, hs, hc⟩
  clear hr hs hc
  obtain ⟨i0, hi, hz0, hz1, hz2⟩ := info_parts infoA
  go_enter Tryz.func28, Tryz.ntmps28
  go_wp2
  obtain ⟨W0, hW0⟩ : ∃ W0, (w.alloc (.cells #[.int .i64 hd, .int .i64 vr, .slice a C.length cap] 26)).alloc (.cells #[] 29) = W0 := ⟨_, rfl⟩
  have HW0 : Hid (Below w.heap.size w W0 ∧ Blk W0 w.heap.size #[.int .i64 hd, .int .i64 vr, .slice a C.length cap] 26 ∧ AB (w.heap.size + 1) W0 (w.heap.size + 1) 0 []) := by
    rw [← hW0]
    exact ⟨Go.Joins.below_alloc2 w _ _, (Blk.new _ _ _).alloc _, AB.nil (Blk.new_at (by simp)) (Nat.le_refl _)⟩
  try rw [hW0]
  clear hW0
  go_loopw [3, 4] (fun v i w' => ∃ (k M c : Nat) (rs : List ARow), i = .int .i64 k ∧ k ≤ C.length ∧ v = .slice (some ⟨M, 0, none⟩) rs.length c ∧ AB (w.heap.size + 1) w' M c rs ∧ pals rs = allC (C.take k) ∧ Blk w' w.heap.size #[.int .i64 hd, .int .i64 vr, .slice a C.length cap] 26 ∧ Below w.heap.size w w') (fun _ i _ => C.length - (intOf i).toNat)
  case atStart => exact ⟨0, w.heap.size + 1, 0, [], rfl, Nat.zero_le _, rfl, HW0.out.2.2, rfl, HW0.out.2.1, HW0.out.1⟩
  case round =>
    obtain ⟨k, M, c, rs, rfl, hk, rfl, hab, hp, hpt, hb⟩ := hrel
    have HAB : Hid (AB (w.heap.size + 1) wr M c rs) := hab
    have HP : Hid (pals rs = allC (C.take k)) := hp
    have HB : Hid (Below w.heap.size w wr) := hb
    have HPT : Hid (Blk wr w.heap.size #[.int .i64 hd, .int .i64 vr, .slice a C.length cap] 26) := hpt
    have HRl : Hid (rs.length + sumL (pals rs) ≤ sumC (C.take k)) := by show _ ≤ _; rw [← pals_len, hp]; have := allC_sum (C.take k); omega
    have hrl : rs.length ≤ 1048576 := by have := HRl.out; have := sumC_le C k; have := HR.out.2.2; omega
    have cp2 : wr.cell? ⟨w.heap.size, 2, none⟩ = some (.slice a C.length cap) := hpt.cell 2
    clear hab hp hb hpt
    by_cases hlt : k < C.length
    · have hlt' : (k : Int) < (C.length : Int) := by omega
      obtain ⟨b, off, ea, hb, ad, cp, hat⟩ := (HR.out.1.below stays_rn HB.out).get hlt
      cases ea
      have h2 := hat.c0
      have h3 := hat.c1
      have HRD : Hid (RdN wr ad (nthC C k).P) := hat.reads
      have HSk : Hid ((nthC C k).P.length ≤ 1048576 ∧ LenM (nthC C k).P) := HR.out.2.1 _ (nthC_mem hlt)
      have HSu : Hid (sumC (C.take (k + 1)) = sumC (C.take k) + (nthC C k).P.length + sumL (nthC C k).P ∧ sumC (C.take (k + 1)) ≤ 1048576) := ⟨sumC_up hlt, Nat.le_trans (sumC_le C (k + 1)) HR.out.2.2⟩
      clear hat
      go_wp2_with fail
      refine (l4All_any ad cp (nthC C k).P wr HRD.out HSk.out.1 HSk.out.2).mono ?_
      rintro e w1 ⟨⟨Mx, cx, qs, rfl, hab, hpq⟩, hb1⟩
      have HAB1 : Hid (AB (w.heap.size + 1) w1 M c rs) := HAB.out.grow (bel_id hb1)
      have HQ1 : Hid (AB wr.heap.size w1 Mx cx qs ∧ pals qs = (nthC C k).P) := ⟨hab.down (by first | exact Nat.le_refl _ | simp), hpq⟩
      have HPT1 : Hid (Blk w1 w.heap.size _ _) := HPT.out.grow (bel_id hb1)
      have HB1 : Hid (Below w.heap.size w w1) := grow_on HB.out (bel_id hb1)
      have HQl : Hid (qs.length = (nthC C k).P.length) := by show _ = _; rw [← pals_len, hpq]
      have hql : rs.length + qs.length ≤ 1048576 := by have h1 := HRl.out; have h2 := HSu.out; have h3 := HQl.out; omega
      have hwz : w.heap.size + 1 ≤ wr.heap.size := HPT.out.lt
      obtain ⟨xs, hox, hxl, hxs⟩ := HAB1.out.own
      have HOX : Hid (w1.ownsRow (w.heap.size + 1) 29 4 (.slice (some ⟨M, 0, none⟩) rs.length c) rs.length xs) := hox
      have HXS : Hid (xs.length = rs.length * 4 ∧ ∀ i, i < rs.length → Four (fun k => xs[k]?) i (nthA rs i)) := ⟨hxl, hxs⟩
      clear hb1 hab hpq h2 h3 hox hxl hxs
      try rw [← HQl.out]
      go_wp2_with (at_builtin; refine wpList_append_own_at _ rfl _ _ 40 rfl (w.heap.size + 1) 29 i0 (.agg #[.slice none 0 0, .int .i64 0, .int .i64 0, .string ByteArray.empty]) 4 56 Tryz.underlying40 hi hz0 hz1 hz2 rfl (by decide) _ _ _ rfl HOX.out ⟨Mx, 0, none⟩ qs.length _ (flatA qs) rfl (flatA_len qs) ?c1 (flatA_one _) ?c3 ?c4 ?c5 ?_)
      case c1 => exact flatA_news HQ1.out.1
      case c3 => unfold maxLen; omega
      case c4 => omega
      case c5 => have := HB1.out.size; have := HPT1.out.lt; omega
      intro v' w2 hown hg hnil hat
      obtain ⟨M3, c3, rfl, hAB3⟩ := AB.appAll HAB1.out (fun x hx => (HQ1.out.1.rows x hx).down hwz) HQ1.out.1.ne (fun y hy x hx => by have := (HAB.out.rows y hy).lt; have := (HQ1.out.1.rows x hx).1; omega) HXS.out.1 HXS.out.2 hown hg (fun e => by rw [e] at hat; simp [Value.ownBlock] at hat)
      have HAB3 : Hid (AB (w.heap.size + 1) w2 M3 c3 (rs ++ qs)) := hAB3
      have HB3 : Hid (Below w.heap.size w w2) := HB1.out.grown hg (by have := HB1.out.size; omega) (fun k e => by have h : M = k := Option.some.inj e; have := HAB.out.at'; omega)
      have HPT3 : Hid (Blk w2 w.heap.size _ _) := blk_far HPT1.out hg (fun e => by have h : w.heap.size = M := Option.some.inj e; have := HAB.out.at'; omega)
      have HP3 : Hid (pals (rs ++ qs) = allC (C.take (k + 1))) := by show _ = _; rw [pals_two, HP.out, HQ1.out.2, allC_up hlt]
      have HL3 : Hid ((rs ++ qs).length = rs.length + qs.length) := by show _ = _; simp
      clear hown hg hnil hat hAB3
      go_wp2
      go_roundw
      case rel => exact ⟨k + 1, M3, c3, _, by go_num, by omega, by rw [HL3.out], HAB3.out, HP3.out, HPT3.out, HB3.out⟩
      case measure => simp [intOf]; omega
    · have hge : ¬ (k : Int) < (C.length : Int) := by omega
      have HF : Hid (pals rs = allC C) := by show _ = _; rw [HP.out]; congr 1; exact List.take_of_length_le (by omega)
      go_wp2
      go_ret
      exact ⟨⟨M, c, rs, rfl, HAB.out.down (by omega), HF.out⟩, HB.out⟩
set_option maxRecDepth 100000 in
set_option maxHeartbeats 1600000 in
theorem implAll_any (hd vr : Int) (a : Option Addr) (cap : Nat) (C : List PCh) (w : World) (hr : RdG RdA w a C) (hl : C.length ≤ 1048576) (hs : SmallA C) (hc : sumC C ≤ 1048576) :
    Calls Tryz.prog 26 #[.agg #[.int .i64 hd, .int .i64 vr, .slice a C.length cap]] w fun e w' => (∃ M c rs, e = .returned (.slice (some ⟨M, 0, none⟩) rs.length c) ∧ AB w.heap.size w' M c rs ∧ pals rs = allC C) ∧ Below w.heap.size w w' := by
  have HR : Hid (RdG RdA w a C ∧ SmallA C ∧ sumC C ≤ 1048576) := ⟨hr, hs, hc⟩
  clear hr hs hc
  obtain ⟨i0, hi, hz0, hz1, hz2⟩ := info_parts infoA
  go_enter Tryz.func26, Tryz.ntmps26
  go_wp2
  obtain ⟨W0, hW0⟩ : ∃ W0, (w.alloc (.cells #[.int .i64 hd, .int .i64 vr, .slice a C.length cap] 26)).alloc (.cells #[] 29) = W0 := ⟨_, rfl⟩
  have HW0 : Hid (Below w.heap.size w W0 ∧ Blk W0 w.heap.size #[.int .i64 hd, .int .i64 vr, .slice a C.length cap] 26 ∧ AB (w.heap.size + 1) W0 (w.heap.size + 1) 0 []) := by
    rw [← hW0]
    exact ⟨Go.Joins.below_alloc2 w _ _, (Blk.new _ _ _).alloc _, AB.nil (Blk.new_at (by simp)) (Nat.le_refl _)⟩
  try rw [hW0]
  clear hW0
  go_loopw [3, 10] (fun v i w' => ∃ (k M c : Nat) (rs : List ARow), i = .int .i64 k ∧ k ≤ C.length ∧ v = .slice (some ⟨M, 0, none⟩) rs.length c ∧ AB (w.heap.size + 1) w' M c rs ∧ pals rs = allC (C.take k) ∧ Blk w' w.heap.size #[.int .i64 hd, .int .i64 vr, .slice a C.length cap] 26 ∧ Below w.heap.size w w') (fun _ i _ => C.length - (intOf i).toNat)
  case atStart => exact ⟨0, w.heap.size + 1, 0, [], rfl, Nat.zero_le _, rfl, HW0.out.2.2, rfl, HW0.out.2.1, HW0.out.1⟩
  case round =>
    obtain ⟨k, M, c, rs, rfl, hk, rfl, hab, hp, hpt, hb⟩ := hrel
    have HAB : Hid (AB (w.heap.size + 1) wr M c rs) := hab
    have HP : Hid (pals rs = allC (C.take k)) := hp
    have HB : Hid (Below w.heap.size w wr) := hb
    have HPT : Hid (Blk wr w.heap.size #[.int .i64 hd, .int .i64 vr, .slice a C.length cap] 26) := hpt
    have HRl : Hid (rs.length + sumL (pals rs) ≤ sumC (C.take k)) := by show _ ≤ _; rw [← pals_len, hp]; have := allC_sum (C.take k); omega
    have hrl : rs.length ≤ 1048576 := by have := HRl.out; have := sumC_le C k; have := HR.out.2.2; omega
    have cp2 : wr.cell? ⟨w.heap.size, 2, none⟩ = some (.slice a C.length cap) := hpt.cell 2
    clear hab hp hb hpt
    by_cases hlt : k < C.length
    · have hlt' : (k : Int) < (C.length : Int) := by omega
      obtain ⟨b, off, ea, hb, ad, cp, hat⟩ := (HR.out.1.below stays_rd HB.out).get hlt
      cases ea
      have h2 := hat.c0
      have h3 := hat.c1
      have HRD : Hid (RdA wr ad (nthC C k).P) := hat.reads
      have HSk : Hid ((nthC C k).P.length ≤ 1048576 ∧ LenM (nthC C k).P) := HR.out.2.1 _ (nthC_mem hlt)
      have HSu : Hid (sumC (C.take (k + 1)) = sumC (C.take k) + (nthC C k).P.length + sumL (nthC C k).P ∧ sumC (C.take (k + 1)) ≤ 1048576) := ⟨sumC_up hlt, Nat.le_trans (sumC_le C (k + 1)) HR.out.2.2⟩
      clear hat
      go_wp2_with fail
      refine (implCopy_any _ ad cp (nthC C k).P _ (HRD.out.below (Go.Joins.below_alloc1 wr _)) HSk.out.1 HSk.out.2).mono ?_
      rintro e w1 ⟨⟨Mx, qs, rfl, hab, hpq⟩, hb1⟩; obtain ⟨cx, hab⟩ : ∃ cx, AB _ w1 Mx cx qs := ⟨_, hab⟩; have hfd := fieldL
      have HAB1 : Hid (AB (w.heap.size + 1) w1 M c rs) := HAB.out.grow (bel_box hb1)
      have HQ1 : Hid (AB wr.heap.size w1 Mx cx qs ∧ pals qs = (nthC C k).P) := ⟨hab.down (by first | exact Nat.le_refl _ | simp), hpq⟩
      have HPT1 : Hid (Blk w1 w.heap.size _ _) := HPT.out.grow (bel_box hb1)
      have HB1 : Hid (Below w.heap.size w w1) := grow_on HB.out (bel_box hb1)
      have HQl : Hid (qs.length = (nthC C k).P.length) := by show _ = _; rw [← pals_len, hpq]
      have hql : rs.length + qs.length ≤ 1048576 := by have h1 := HRl.out; have h2 := HSu.out; have h3 := HQl.out; omega
      have hwz : w.heap.size + 1 ≤ wr.heap.size := HPT.out.lt
      obtain ⟨xs, hox, hxl, hxs⟩ := HAB1.out.own
      have HOX : Hid (w1.ownsRow (w.heap.size + 1) 29 4 (.slice (some ⟨M, 0, none⟩) rs.length c) rs.length xs) := hox
      have HXS : Hid (xs.length = rs.length * 4 ∧ ∀ i, i < rs.length → Four (fun k => xs[k]?) i (nthA rs i)) := ⟨hxl, hxs⟩
      clear hb1 hab hpq h2 h3 hox hxl hxs
      try rw [← HQl.out]
      go_wp2_with (at_builtin; refine wpList_append_own_at _ rfl _ _ 40 rfl (w.heap.size + 1) 29 i0 (.agg #[.slice none 0 0, .int .i64 0, .int .i64 0, .string ByteArray.empty]) 4 56 Tryz.underlying40 hi hz0 hz1 hz2 rfl (by decide) _ _ _ rfl HOX.out ⟨Mx, 0, none⟩ qs.length _ (flatA qs) rfl (flatA_len qs) ?c1 (flatA_one _) ?c3 ?c4 ?c5 ?_)
      case c1 => exact flatA_news HQ1.out.1
      case c3 => unfold maxLen; omega
      case c4 => omega
      case c5 => have := HB1.out.size; have := HPT1.out.lt; omega
      intro v' w2 hown hg hnil hat
      obtain ⟨M3, c3, rfl, hAB3⟩ := AB.appAll HAB1.out (fun x hx => (HQ1.out.1.rows x hx).down hwz) HQ1.out.1.ne (fun y hy x hx => by have := (HAB.out.rows y hy).lt; have := (HQ1.out.1.rows x hx).1; omega) HXS.out.1 HXS.out.2 hown hg (fun e => by rw [e] at hat; simp [Value.ownBlock] at hat)
      have HAB3 : Hid (AB (w.heap.size + 1) w2 M3 c3 (rs ++ qs)) := hAB3
      have HB3 : Hid (Below w.heap.size w w2) := HB1.out.grown hg (by have := HB1.out.size; omega) (fun k e => by have h : M = k := Option.some.inj e; have := HAB.out.at'; omega)
      have HPT3 : Hid (Blk w2 w.heap.size _ _) := blk_far HPT1.out hg (fun e => by have h : w.heap.size = M := Option.some.inj e; have := HAB.out.at'; omega)
      have HP3 : Hid (pals (rs ++ qs) = allC (C.take (k + 1))) := by show _ = _; rw [pals_two, HP.out, HQ1.out.2, allC_up hlt]
      have HL3 : Hid ((rs ++ qs).length = rs.length + qs.length) := by show _ = _; simp
      clear hown hg hnil hat hAB3
      go_wp2
      go_roundw
      case rel => exact ⟨k + 1, M3, c3, _, by go_num, by omega, by rw [HL3.out], HAB3.out, HP3.out, HPT3.out, HB3.out⟩
      case measure => simp [intOf]; omega
    · have hge : ¬ (k : Int) < (C.length : Int) := by omega
      have HF : Hid (pals rs = allC C) := by show _ = _; rw [HP.out]; congr 1; exact List.take_of_length_le (by omega)
      go_wp2
      go_ret
      exact ⟨⟨M, c, rs, rfl, HAB.out.down (by omega), HF.out⟩, HB.out⟩
end Go.Proofs.YtooninmicfcfoaaGreat.PrtA
namespace Go.Proofs.YtooninmicfcfoaaGreat.PrtW
open Go.RowKit
open Labs LabS Alms AlmM Over Blk App Rws ChnI ChnC ChnP ChnD ChnV ChnK Chs Prt PrtA PrtM

def sweep1 (now : Int) (x : PCh) : Option PCh := if (leftTo x.P now x.P.length).length = 0 then none else some ⟨x.f, leftTo x.P now x.P.length⟩
theorem sweep1_no {now : Int} {x : PCh} (h : (leftTo x.P now x.P.length).length = 0) : sweep1 now x = none := if_pos h
theorem sweep1_yes {now : Int} {x : PCh} (h : ¬ (leftTo x.P now x.P.length).length = 0) : sweep1 now x = some ⟨x.f, leftTo x.P now x.P.length⟩ := if_neg h
def sweepTo (C : List PCh) (now : Int) (k : Nat) : List PCh := (C.take k).filterMap (sweep1 now)
def gonesTo (C : List PCh) (now : Int) (k : Nat) : List PAl := (C.take k).flatMap fun x => goneTo x.P now x.P.length
theorem sweep_no {C : List PCh} {now : Int} {k : Nat} (h : k < C.length) (hv : sweep1 now (nthC C k) = none) : sweepTo C now (k + 1) = sweepTo C now k := by
  unfold sweepTo
  rw [takeC_up h, List.filterMap_append]
  simp [hv]
theorem sweep_yes {C : List PCh} {now : Int} {k : Nat} {x : PCh} (h : k < C.length) (hv : sweep1 now (nthC C k) = some x) : sweepTo C now (k + 1) = sweepTo C now k ++ [x] := by
  unfold sweepTo
  rw [takeC_up h, List.filterMap_append]
  simp [hv]
theorem gones_up {C : List PCh} {now : Int} {k : Nat} (h : k < C.length) : gonesTo C now (k + 1) = gonesTo C now k ++ goneTo (nthC C k).P now (nthC C k).P.length := by
  unfold gonesTo
  rw [takeC_up h, List.flatMap_append]
  simp
theorem left_gone (P : List PAl) (now : Int) : (leftTo P now P.length).length + (goneTo P now P.length).length = P.length ∧ sumL (leftTo P now P.length) + sumL (goneTo P now P.length) = sumL P := by
  have h1 := drop_len P now P.length
  have h2 := drop_sum P now P.length
  rw [List.take_length] at h1 h2
  exact ⟨h1, h2⟩
theorem sweep_sum {C : List PCh} {now : Int} : ∀ {k : Nat}, k ≤ C.length → sumC (sweepTo C now k) + (gonesTo C now k).length + sumL (gonesTo C now k) ≤ sumC (C.take k) ∧ (sweepTo C now k).length ≤ k
  | 0, _ => by simp [sweepTo, gonesTo, sumC, sumL]
  | k + 1, h => by
    have ih := sweep_sum (C := C) (now := now) (k := k) (by omega)
    have h1 := left_gone (nthC C k).P now
    have h2 := sumC_up (C := C) (k := k) (by omega)
    rw [gones_up (by omega), List.length_append, sum_app]
    by_cases e : (leftTo (nthC C k).P now (nthC C k).P.length).length = 0
    · rw [sweep_no (by omega) (sweep1_no e)]
      omega
    · rw [sweep_yes (by omega) (sweep1_yes e), sumC_app, List.length_append]
      simp only [sumC, List.length_cons, List.length_nil]
      omega
theorem sweep_all {C : List PCh} {now : Int} {k : Nat} (h : C.length ≤ k) : sweepTo C now k = sweepTo C now C.length ∧ gonesTo C now k = gonesTo C now C.length := by
  unfold sweepTo gonesTo
  rw [List.take_of_length_le h, List.take_length]
  exact ⟨rfl, rfl⟩
theorem ab_far {lo : Nat} {W w' : World} {M c Md : Nat} {rs : List ARow} {cur : Array Value} (h : AB lo W M c rs) (hd : Blk W Md cur 29) (hg : W.grownBy w' (some Md)) (hne : M ≠ Md) : AB lo w' M c rs := by
  obtain ⟨cu, h1, h2⟩ := h.outer
  refine ⟨h.at', h.cap, ⟨cu, blk_far h1 hg (fun e => hne (Option.some.inj e)), h2⟩, fun x hx => ?_, h.ne⟩
  obtain ⟨k0, k1, ds, k2, k3⟩ := h.rows x hx
  exact ⟨k0, k1, ds, blk_far k2 hg (fun e => blkA_ne hd k2 (Option.some.inj e).symm), k3⟩
theorem cb_far {lo : Nat} {W w' : World} {M c Md : Nat} {cs : List CRow} {cur : Array Value} (h : CB lo W M c cs) (hd : Blk W Md cur 29) (hg : W.grownBy w' (some Md)) (hne : ∀ x ∈ cs, x.M ≠ Md) : CB lo w' M c cs := by
  obtain ⟨cu, h1, h2⟩ := h.outer
  exact ⟨h.at', h.cap, ⟨cu, blk_far h1 hg (fun e => blkT_ne h1 hd (by decide) (Option.some.inj e)), h2⟩, ⟨fun x hx => ab_far (h.rows.rows x hx) hd hg (hne x hx), h.rows.ne⟩⟩
theorem ab_out {lo : Nat} {w : World} {M c : Nat} {rs : List ARow} (h : AB lo w M c rs) : ∃ cur : Array Value, Blk w M cur 29 := by
  obtain ⟨cu, h1, _⟩ := h.outer
  exact ⟨cu, h1⟩
def verS (vr : Int) (n : Nat) : Int := if n = 0 then vr else IntKind.i64.wrap (vr + 1)
theorem verS_0 {vr : Int} {n : Nat} (h : n = 0) : verS vr n = vr := if_pos h
theorem verS_1 {vr : Int} {n : Nat} (h : ¬ n = 0) : verS vr n = IntKind.i64.wrap (vr + 1) := if_neg h
theorem at_new {v' : Value} {M W M' n c : Nat} (hat : v'.ownBlock = some M ∨ v'.ownBlock = some W) (e : v' = .slice (some ⟨M', 0, none⟩) n c) : M' = M ∨ M' = W := by
  subst e
  rcases hat with h | h
  · exact .inl (by simpa [Value.ownBlock] using h)
  · exact .inr (by simpa [Value.ownBlock] using h)

structure MidW (w : World) (hd vr : Int) (a : Option Addr) (n cap : Nat) (W : World) (Md cd : Nat) (rs : List ARow) (M c : Nat) (cs : List CRow) : Prop where
  part : Blk W w.heap.size #[.int .i64 hd, .int .i64 vr, .slice a n cap] 26
  res : Blk W (w.heap.size + 1) #[.int .i64 0, .int .i64 0, .slice none 0 0] 26
  out : Blk W (w.heap.size + 3) #[.int .i64 hd, .int .i64 vr, .slice (some ⟨M, 0, none⟩) cs.length c] 26
  gone : AB (w.heap.size + 2) W Md cd rs
  left : CB (w.heap.size + 2) W M c cs
  ne : ∀ x ∈ cs, x.M ≠ Md
  low : Below w.heap.size w W
  size : w.heap.size + 5 ≤ W.heap.size
theorem MidW.grow {w : World} {hd vr : Int} {a : Option Addr} {n cap : Nat} {W W' : World} {Md cd : Nat} {rs : List ARow} {M c : Nat} {cs : List CRow} (h : MidW w hd vr a n cap W Md cd rs M c cs) (hb : Below W.heap.size W W') : MidW w hd vr a n cap W' Md cd rs M c cs :=
  ⟨h.part.grow hb, h.res.grow hb, h.out.grow hb, h.gone.grow hb, h.left.grow hb, h.ne, grow_on h.low hb, Nat.le_trans h.size hb.size⟩
end Go.Proofs.YtooninmicfcfoaaGreat.PrtW
