/-
  PROVED: impl.laidTogether lays pieces of alarms one behind the other, and impl.withAlarms gives a group with these alams alone, in memory of their own; nothing that was there is changed.
-/
import Derived.Test.YtgncimlojbnbfaaGreatQTk
import Derived.Test.YtgncimlojbnbfaaGreatQGrpC
import Derived.Test.YtgncimlojbnbfaaGreatQFlt
import Derived.Laws.CopyRow
import Derived.Deep.RegionLaw
import Derived.Deep.RegionHeld3
set_option linter.unusedVariables false
namespace Go.Proofs.YtgncimlojbnbfaaGreat.GrpL
open Go.RowKit
open Labs LabS Alms AlmS AlmM Over Blk App Rws ChnI ChnC ChnK Chs Grp GrpC Flt
open LabT (Held)
theorem run_copy_sub {P : Program} (w : World) (dT sT ty elem : TypeId) (k g o dn dc : Nat) (ad : Addr) (sn sc m : Nat) (cur : Array Value) (t : TypeId) (cs : List Value)
    (hu : P.underlying dT = some (.slice elem)) (hs : (P.info? elem).map (·.size) = some k) (hg : Blk w g cur t) (hm : Nat.min sn dn = m) (hcs : cs.length = m * k) (hfit : o + cs.length ≤ cur.size)
    (hsrc : ∀ j v, cs[j]? = some v → w.cell? (ad.add j) = some v) (h1 : ∀ v ∈ cs, v.oneCell' = true) :
    (Builtin.copy_ #[dT, sT] ty #[.slice (some ⟨g, o, none⟩) dn dc, .slice (some ad) sn sc]).run P w = .ok (goInt m) (w.setRow g (cur.toList.take o ++ cs ++ cur.toList.drop (o + cs.length)).toArray) := by
  have hg' : w.heap[g]? = some (.cells cur t (0, 0)) := hg
  have hst := run_storeCells_at P g o t cs 0 cur w hg' (by omega) h1
  simp only [Nat.add_zero] at hst
  have hfc : (Builtin.firstCells k m (.slice (some ad) sn sc)).run P w = .ok cs.toArray w := run_firstCells_some (P := P) (w := w) _ _ _ _ _ _ hcs hsrc
  cases hq : P.info? elem with
  | none => simp [hq] at hs
  | some i =>
    have hi : i.size = k := by simpa [hq] using hs
    simp [Builtin.copy_, run_underlying hu, Builtin.lenOf, sizeOf, typeInfo, hq, hi, hm, hfc, hst]
theorem step_copy {P : Program} {ops : Array Oper} {o : Oper} {a : Act} {w : World} {K : Act → World → Prop} {Q : Exit → Act → World → Prop} {E : Prop} (hg : o.guard = none) (d x : Operand) (dT sT : TypeId)
    (hop : o.op = .call { callee := .builtin .copy, args := #[d, x], argTypes := #[dT, sT] }) (v u : Value) (hd : a.eval d = v) (hx : a.eval x = u) {v' : Value} {w' : World}
    (hr : (Builtin.copy_ #[dT, sT] o.type #[v, u]).run P w = .ok v' w') (hK : K (a.put o.dst v') w') : if Region.wanted o (yielded ops a.tmps) = true then Oper.wp P o a w K Q else E := by
  have hw : Region.wanted o (yielded ops a.tmps) = true := by simp [Region.wanted, hg]
  rw [if_pos hw]
  unfold Oper.wp
  simp [execOp, hop, resolve, invoke, builtin, hd, hx, hr, Result.andThen]
  exact hK
theorem if_slice {p : Prop} [Decidable p] (x y : Addr) (n c : Nat) : Value.slice (if p then some x else some y) n c = .slice (some (if p then x else y)) n c := by split <;> rfl
theorem infoA4 : (Tryz.prog.info? 27).map (·.size) = some 4 := by kernel_rfl
abbrev Pc := Option Addr × Nat × List PAl
def pcV (x : Pc) : Value := .slice x.1 x.2.2.length x.2.1
def nthQ (Q : List Pc) (i : Nat) : Pc := Q.getD i (none, 0, [])
theorem nthQ_eq {Q : List Pc} {i : Nat} (h : i < Q.length) : nthQ Q i = Q[i] := by unfold nthQ; simp [h]
theorem nthQ_mem {Q : List Pc} {i : Nat} (h : i < Q.length) : nthQ Q i ∈ Q := by rw [nthQ_eq h]; exact List.getElem_mem _
def upto (Q : List Pc) (k : Nat) : List PAl := (Q.take k).flatMap (fun x => x.2.2)
theorem upto_up {Q : List Pc} {k : Nat} (h : k < Q.length) : upto Q (k + 1) = upto Q k ++ (nthQ Q k).2.2 := by
  unfold upto
  rw [List.take_add_one, List.flatMap_append, nthQ_eq h]
  simp [h]
theorem upto_le (Q : List Pc) {k : Nat} (h : k ≤ Q.length) : (upto Q k).length ≤ (upto Q Q.length).length := by
  have e : upto Q Q.length = upto Q k ++ (Q.drop k).flatMap (fun x => x.2.2) := by
    unfold upto
    rw [← List.flatMap_append, List.take_append_drop, List.take_length]
  rw [e, List.length_append]; omega
structure Pcs (w : World) (a : Option Addr) (Q : List Pc) : Prop where
  cell : Q = [] ∨ ∃ b off, a = some ⟨b, off, none⟩ ∧ b < w.heap.size ∧ ∀ i, i < Q.length → w.cell? ⟨b, off + i, none⟩ = some (pcV (nthQ Q i))
  rd : ∀ x ∈ Q, RdA w x.1 x.2.2 ∧ LenM x.2.2
theorem Pcs.below {w w' : World} {a : Option Addr} {Q : List Pc} (h : Pcs w a Q) (hb : Below w.heap.size w w') : Pcs w' a Q := by
  refine ⟨?_, fun x hx => ⟨(h.rd x hx).1.below hb, (h.rd x hx).2⟩⟩
  rcases h.cell with e | ⟨b, off, e, h1, h2⟩
  · exact .inl e
  · exact .inr ⟨b, off, e, Nat.lt_of_lt_of_le h1 hb.size, fun i hi => (hb.cell (p := ⟨b, off + i, none⟩) h1).trans (h2 i hi)⟩
theorem Pcs.get {w : World} {a : Option Addr} {Q : List Pc} (h : Pcs w a Q) {i : Nat} (hi : i < Q.length) : ∃ b off, a = some ⟨b, off, none⟩ ∧ b < w.heap.size ∧ w.cell? ⟨b, off + i, none⟩ = some (pcV (nthQ Q i)) := by
  rcases h.cell with e | ⟨b, off, e, h1, h2⟩
  · rw [e] at hi; simp at hi
  · exact ⟨b, off, e, h1, h2 i hi⟩
structure Laid (lo : Nat) (w : World) (M : Nat) (p : List PAl) (cs : Array Value) (rs : List ARow) : Prop where
  blk : Blk w M cs 27
  pal : pals rs = p
  cell : ∃ r, cs.toList = flatA rs ++ r
  rows : ∀ x ∈ rs, OwnA lo w x
  ne : rs.Pairwise fun x y => x.1 ≠ y.1
theorem Laid.grow {lo : Nat} {w w' : World} {M : Nat} {p : List PAl} {cs : Array Value} {rs : List ARow} (h : Laid lo w M p cs rs) (hb : Below w.heap.size w w') : Laid lo w' M p cs rs :=
  ⟨h.blk.grow hb, h.pal, h.cell, fun x hx => (h.rows x hx).grow hb, h.ne⟩
theorem Laid.next {lo lo2 : Nat} {w : World} {M : Nat} {p q : List PAl} {cs : Array Value} {rs qs : List ARow} (h : Laid lo w M p cs rs) {M2 c2 : Nat} (k : AB lo2 w M2 c2 qs) (hq : pals qs = q) (hlo : lo ≤ lo2) (hsep : ∀ y ∈ rs, y.1 < lo2) :
    Laid lo (w.setRow M (cs.toList.take (rs.length * 4) ++ flatA qs ++ cs.toList.drop (rs.length * 4 + (flatA qs).length)).toArray) M (p ++ q) (cs.toList.take (rs.length * 4) ++ flatA qs ++ cs.toList.drop (rs.length * 4 + (flatA qs).length)).toArray (rs ++ qs) := by
  have far : ∀ y l, OwnA l w y → OwnA l (w.setRow M (cs.toList.take (rs.length * 4) ++ flatA qs ++ cs.toList.drop (rs.length * 4 + (flatA qs).length)).toArray) y := fun y l hy => by
    obtain ⟨h0, h1, ds, h2, h3⟩ := hy
    refine ⟨h0, h1, ds, ?_, h3⟩
    have hne := blkA_ne h.blk h2
    unfold Blk at *
    rw [setRow_other w _ _ _ hne.symm]; exact h2
  obtain ⟨r, hr⟩ := h.cell
  refine ⟨setRow_heap w _ _ _ _ _ h.blk, by rw [← h.pal, ← hq]; simp [pals], ⟨cs.toList.drop (rs.length * 4 + (flatA qs).length), ?_⟩, fun y hy => ?_, ?_⟩
  · have e : cs.toList.take (rs.length * 4) = flatA rs := by rw [hr, ← flatA_len rs, List.take_left]
    rw [List.toList_toArray, e, flatA_app]
  · rcases List.mem_append.1 hy with hy | hy
    · exact far y _ (h.rows y hy)
    · exact far y _ ((k.rows y hy).down hlo)
  · rw [List.pairwise_append]
    refine ⟨h.ne, k.ne, fun a ha b hb => ?_⟩
    have h1 := hsep a ha
    have h2 := (k.rows b hb).1
    omega
theorem Laid.ab {lo : Nat} {w : World} {M : Nat} {p : List PAl} {cs : Array Value} {rs : List ARow} (h : Laid lo w M p cs rs) (hs : cs.size = p.length * 4) (hlo : lo ≤ M) (hl : p.length ≤ 3000000) : AB lo w M rs.length rs ∧ pals rs = p := by
  obtain ⟨r, hr⟩ := h.cell
  have hlen : rs.length = p.length := by rw [← h.pal, pals_len]
  have hr0 : r = [] := by
    have h1 := congrArg List.length hr
    rw [List.length_append, flatA_len, Array.length_toList] at h1
    exact List.eq_nil_of_length_eq_zero (by omega)
  rw [hr0, List.append_nil] at hr
  refine ⟨⟨hlo, ⟨Nat.le_refl _, by unfold maxLen; omega⟩, ⟨cs, h.blk, by omega, fun i hi => ?_⟩, h.rows, h.ne⟩, h.pal⟩
  refine (flatA_four rs i hi).congr fun j _ _ => ?_
  show cs[j]? = (flatA rs)[j]?
  rw [← hr]; simp
theorem Laid.len {lo : Nat} {w : World} {M : Nat} {p : List PAl} {cs : Array Value} {rs : List ARow} (h : Laid lo w M p cs rs) : rs.length = p.length := by rw [← h.pal, pals_len]
set_option maxRecDepth 100000 in
set_option maxHeartbeats 3200000 in
theorem laidT_any (a : Option Addr) (cap : Nat) (Q : List Pc) (w : World) (hq : Pcs w a Q) (hQ : Q.length ≤ 1000) (hl : (upto Q Q.length).length ≤ 3000000) (hl1 : ∀ x ∈ Q, x.2.2.length ≤ 1048576) :
    Calls Tryz.prog 97 #[.slice a Q.length cap] w fun e w' => (∃ M rs, e = .returned (.slice (some ⟨M, 0, none⟩) rs.length rs.length) ∧ AB w.heap.size w' M rs.length rs ∧ pals rs = upto Q Q.length) ∧ Below w.heap.size w w' := by
  have HQ : Hid (Pcs w a Q ∧ ∀ x ∈ Q, x.2.2.length ≤ 1048576) := ⟨hq, hl1⟩
  have hmk := make_k (P := Tryz.prog) 35 27 (.agg #[.slice none 0 0, .int .i64 0, .int .i64 0, .string ByteArray.empty]) 4 56 Tryz.underlying35 infoA .i64 .i64 (upto Q Q.length).length (by omega) (by omega)
  clear hq hl1
  go_enter Tryz.func97, Tryz.ntmps97
  go_upto_region 3 with fail
  go_loopw [3, 12] (fun s i w' => ∃ k : Nat, i = .int .i64 k ∧ k ≤ Q.length ∧ s = .int .i64 ((upto Q k).length : Int) ∧ Below w.heap.size w w') (fun _ i _ => Q.length - (intOf i).toNat)
  case atStart => exact ⟨0, rfl, Nat.zero_le _, rfl, Below.refl _ _⟩
  case round =>
    obtain ⟨k, rfl, hk, rfl, hw0⟩ := hrel
    have HB0 : Hid (Below w.heap.size w wr) := hw0
    clear hw0
    by_cases hlt : k < Q.length
    · have hlt' : (k : Int) < (Q.length : Int) := by omega
      obtain ⟨b, off, rfl, hb, hc⟩ := (HQ.out.1.below HB0.out).get hlt
      unfold pcV at hc
      have HE : Hid ((upto Q (k + 1)).length = (upto Q k).length + (nthQ Q k).2.2.length) := by unfold Hid; rw [upto_up hlt, List.length_append]
      have hbd : (upto Q (k + 1)).length ≤ 3000000 := Nat.le_trans (upto_le Q (by omega)) hl
      rw [HE.out] at hbd
      clear hmk
      go_wp2
      go_roundw
      case rel => exact ⟨k + 1, by go_num, by omega, by rw [HE.out]; go_num, HB0.out⟩
      case measure => simp [intOf]; omega
    · have hge : ¬ (k : Int) < (Q.length : Int) := by omega
      have hkk : k = Q.length := by omega
      subst hkk
      generalize hF : (upto Q Q.length).length = n at *
      generalize wr = w1 at *
      go_upto_region 9 with fail
      clear hmk
      have HN : Hid ((upto Q Q.length).length = n) := hF
      go_loopw [7, 25] (fun e i w' => ∃ (k : Nat) (cs : Array Value) (rs : List ARow), i = .int .i64 k ∧ k ≤ Q.length ∧ e = .int .i64 ((upto Q k).length : Int) ∧ cs.size = n * 4 ∧ Laid w.heap.size w' w1.heap.size (upto Q k) cs rs ∧ Below w.heap.size w w' ∧ w1.heap.size < w'.heap.size) (fun _ i _ => Q.length - (intOf i).toNat)
      case atStart => exact ⟨0, madeCells (Value.agg #[.slice none 0 0, .int .i64 0, .int .i64 0, .string ByteArray.empty]).cells (n * 4), [], rfl, Nat.zero_le _, rfl, by simp [size_madeCells], ⟨Blk.new _ _ _, rfl, ⟨_, (List.nil_append _).symm⟩, fun x hx => by simp at hx, List.Pairwise.nil⟩, grow_on HB0.out (Go.Joins.below_alloc1 w1 _), by simp⟩
      case round =>
        obtain ⟨k, cs, rs, rfl, hk, rfl, hcs, hL, hw, hw1⟩ := hrel
        have HL : Hid (Laid w.heap.size wr w1.heap.size (upto Q k) cs rs ∧ cs.size = n * 4 ∧ w1.heap.size < wr.heap.size) := ⟨hL, hcs, hw1⟩
        have HB : Hid (Below w.heap.size w wr) := hw
        clear hL hcs hw hw1
        by_cases hlt : k < Q.length
        · have hlt' : (k : Int) < (Q.length : Int) := by omega
          obtain ⟨b, off, rfl, hb, hc⟩ := (HQ.out.1.below HB.out).get hlt
          unfold pcV at hc
          have HE : Hid (upto Q (k + 1) = upto Q k ++ (nthQ Q k).2.2) := upto_up hlt
          have hbd : (upto Q k).length + (nthQ Q k).2.2.length ≤ n := by
            have h1 := upto_le Q (k := k + 1) (by omega)
            rw [HE.out, List.length_append, HN.out] at h1
            exact h1
          have HRd : Hid (RdA wr (nthQ Q k).1 (nthQ Q k).2.2 ∧ LenM (nthQ Q k).2.2 ∧ (nthQ Q k).2.2.length ≤ 1048576) := ⟨((HQ.out.1.rd _ (nthQ_mem hlt)).1).below HB.out, (HQ.out.1.rd _ (nthQ_mem hlt)).2, HQ.out.2 _ (nthQ_mem hlt)⟩
          have HU : Hid (rs.length = (upto Q k).length) := HL.out.1.len
          have HC : Hid (∀ y, Below wr.heap.size wr y → Calls Tryz.prog 72 #[.slice (nthQ Q k).1 (nthQ Q k).2.2.length (nthQ Q k).2.1] y fun e w' => (∃ M2 qs, e = .returned (.slice (some ⟨M2, 0, none⟩) (nthQ Q k).2.2.length (nthQ Q k).2.2.length) ∧ AB y.heap.size w' M2 (nthQ Q k).2.2.length qs ∧ pals qs = (nthQ Q k).2.2) ∧ Below y.heap.size y w') := fun y hy => implCopies_any _ _ _ y (HRd.out.1.below hy) HRd.out.2.2 HRd.out.2.1
          generalize hu : (upto Q k).length = u at *
          generalize hm : (nthQ Q k).2.2.length = m at *
          have h0 : (0 : Int) ≤ (u : Int) := by omega
          have hun : (u : Int) ≤ (n : Int) := by omega
          have hn63 : (n : Int) ≤ 9223372036854775807 := by omega
          go_upto_region 11 with fail
          refine wp_region_held_drew (S := fun w' => True) (by kernel_rfl) (by trivial) (fun hHeld => ?_)
          refine tk 0 ⟨some 29, .move (.tmp 7), 3, "l11_group.go:98", #[], none⟩ hHeld ?_
          try go_frame
          refine tk 1 ⟨some 30, .move (.tmp 6), 35, "l11_group.go:98", #[], none⟩ hHeld ?_
          try go_frame
          refine tk 2 ⟨some 31, .move (.tmp 7), 3, "l11_group.go:98", #[], none⟩ hHeld ?_
          try go_frame
          refine tk 3 ⟨some 32, .slice 35 (.tmp 30) (some (.tmp 31)) none none, 35, "l11_group.go:98", #[⟨1, .data⟩, ⟨2, .data⟩], none⟩ hHeld ?_
          try go_frame
          refine tk 4 ⟨some 33, .move (.tmp 9), 35, "l11_group.go:98", #[], none⟩ hHeld ?_
          try go_frame
          try rw [if_slice]
          refine rd1 5 ⟨some 34, .call { callee := .value (.func 72), args := #[.tmp 33], argTypes := #[35] }, 35, "l11_group.go:98", #[⟨4, .data⟩], none⟩ (fun K hK => ?_)
          go_simp
          refine (HC.out _ (Below.refl _ _).drew).mono ?_
          rintro r wc ⟨⟨M2, qs, rfl, hA, hP⟩, hb2⟩
          have hbz : Below wr.heap.size wr wc := grow_on (Below.refl _ _).drew hb2
          have HZ : Hid (Below wr.heap.size wr wc) := hbz
          have HA : Hid (AB wr.heap.size wc M2 m qs ∧ pals qs = (nthQ Q k).2.2) := ⟨hA, hP⟩
          clear hA hP hb2 hbz
          clear hHeld
          refine hK.out _ _ trivial (fun hHeld => ?_)
          clear hK K
          try go_frame
          refine rd1 6 ⟨some 35, .call { callee := .builtin .copy, args := #[.tmp 32, .tmp 34], argTypes := #[35, 35] }, 3, "l11_group.go:98", #[⟨3, .data⟩, ⟨5, .data⟩, ⟨5, .chain⟩], none⟩ (fun K hK => ?_)
          have HM : Hid (Blk wc w1.heap.size cs 27) := HL.out.1.blk.grow HZ.out
          have hsz := HL.out.2.1
          have hul := HU.out
          have hqm : qs.length = m := by have h1 := congrArg List.length HA.out.2; rw [pals_len] at h1; omega
          have HM5 : Hid (∃ W, (Builtin.copy_ #[35, 35] 3 #[.slice (some (if n = u then ⟨w1.heap.size, 0, none⟩ else ⟨w1.heap.size, u * 4, none⟩)) (n - u) (n - u), .slice (some ⟨M2, 0, none⟩) m m]).run Tryz.prog wc = .ok (.int .i64 (m : Int)) W ∧ (∃ cs', Laid w.heap.size W w1.heap.size (upto Q (k + 1)) cs' (rs ++ qs) ∧ cs'.size = n * 4) ∧ Below w.heap.size w W ∧ w1.heap.size < W.heap.size) := by
            have hnx := HL.out.1.grow HZ.out
            have hlo : w.heap.size ≤ wr.heap.size := HB.out.size
            have hsep : ∀ y ∈ rs, y.1 < wr.heap.size := fun y hy => (HL.out.1.rows y hy).lt
            have hL2 := hnx.next HA.out.1 HA.out.2 hlo hsep
            have h4 : (flatA qs).length = m * 4 := by rw [flatA_len, hqm]
            have hB1 : w.heap.size ≤ w1.heap.size := HB0.out.size
            by_cases e : n = u
            · have hm0 : m = 0 := by omega
              have hf0 : flatA qs = [] := List.eq_nil_of_length_eq_zero (by omega)
              rw [if_pos e]
              have hr := run_copy_sub (P := Tryz.prog) wc 35 35 3 27 4 w1.heap.size 0 (n - u) (n - u) ⟨M2, 0, none⟩ m m 0 cs 27 [] Tryz.underlying35 infoA4 HM.out (by rw [hm0]; simp) rfl (by simp) (fun j v hj => by simp at hj) (fun v hv => by simp at hv)
              have hself : (cs.toList.take 0 ++ ([] : List Value) ++ cs.toList.drop (0 + ([] : List Value).length)).toArray = cs := by simp
              rw [hself, setRow_self wc _ _ _ _ HM.out] at hr
              rw [hm0] at hr ⊢
              refine ⟨wc, hr, ⟨cs, ⟨hnx.blk, ?_, ?_, ?_, ?_⟩, hsz⟩, grow_on HB.out HZ.out, Nat.lt_of_lt_of_le HL.out.2.2 HZ.out.size⟩
              · rw [HE.out]; have := hL2.pal; exact this
              · obtain ⟨r, hr'⟩ := hnx.cell; exact ⟨r, by rw [flatA_app, hf0, List.append_nil]; exact hr'⟩
              · exact fun y hy => by
                  rcases List.mem_append.1 hy with hy | hy
                  · exact hnx.rows y hy
                  · exact (HA.out.1.rows y hy).down hlo
              · exact hL2.ne
            · rw [if_neg e]
              have hr := run_copy_sub (P := Tryz.prog) wc 35 35 3 27 4 w1.heap.size (u * 4) (n - u) (n - u) ⟨M2, 0, none⟩ m m m cs 27 (flatA qs) Tryz.underlying35 infoA4 HM.out (by simp only [Nat.min_def]; split <;> omega) h4 (by omega) (flatA_news HA.out.1) (flatA_one qs)
              rw [hul] at hL2
              refine ⟨_, hr, ⟨_, by rw [HE.out]; exact hL2, ?_⟩, below_setRow (grow_on HB.out HZ.out) hB1 _, by simp; exact Nat.lt_of_lt_of_le HL.out.2.2 HZ.out.size⟩
              simp only [List.size_toArray, List.length_append, List.length_take, List.length_drop, Array.length_toList]
              omega
          clear hsz hul
          obtain ⟨W, hrun, hLW, hBW, h1W⟩ := HM5.out
          have HW : Hid ((∃ cs', Laid w.heap.size W w1.heap.size (upto Q (k + 1)) cs' (rs ++ qs) ∧ cs'.size = n * 4) ∧ Below w.heap.size w W ∧ w1.heap.size < W.heap.size) := ⟨hLW, hBW, h1W⟩
          clear hLW hBW h1W HM5 HM hqm
          refine step_copy rfl (Operand.tmp 32) (Operand.tmp 34) 35 35 rfl _ _ rfl rfl hrun ?_
          clear hrun
          clear hHeld
          refine hK.out _ _ trivial (fun hHeld => ?_)
          clear hK K
          try go_frame
          refine tk 7 ⟨some 36, .binOp .add 3 (.tmp 29) (.tmp 35) 3, 3, "l11_group.go:98", #[⟨0, .data⟩, ⟨6, .data⟩], none⟩ hHeld ?_
          try go_frame
          refine tk 8 ⟨some 7, .assign (.tmp 36), 3, "l11_group.go:98", #[⟨7, .data⟩, ⟨6, .chain⟩, ⟨0, .phase⟩, ⟨1, .phase⟩, ⟨2, .phase⟩, ⟨3, .phase⟩, ⟨4, .phase⟩, ⟨5, .phase⟩, ⟨6, .phase⟩, ⟨7, .phase⟩], none⟩ hHeld ?_
          try go_frame
          refine wpAnyH_done (by kernel_rfl) ?_ _
          clear hHeld
          have HUP : Hid ((upto Q (k + 1)).length = u + m) := by unfold Hid; rw [HE.out, List.length_append, hu, hm]
          have hwr : IntKind.i64.wrap ((u : Int) + (m : Int)) = (u : Int) + (m : Int) := by rw [IntKind.wrap_i64]; omega
          clear HC HRd HL HA HZ HU
          go_wp2
          go_roundw
          case rel => obtain ⟨cs', h1, h2⟩ := HW.out.1; exact ⟨k + 1, cs', rs ++ qs, by go_num, by omega, by rw [HUP.out]; (try rw [hwr]); go_num, h2, h1, HW.out.2.1, HW.out.2.2⟩
          case measure => simp [intOf]; omega
        · have hge2 : ¬ (k : Int) < (Q.length : Int) := by omega
          have hkk : k = Q.length := by omega
          subst hkk
          have hfin := HL.out.1.ab (by rw [HN.out]; exact HL.out.2.1) HB0.out.size (by rw [HN.out]; exact hl)
          have HF : Hid (AB w.heap.size wr w1.heap.size rs.length rs ∧ pals rs = upto Q Q.length ∧ rs.length = n) := ⟨hfin.1, hfin.2, by rw [HL.out.1.len]; exact HN.out⟩
          clear hfin HL
          go_wp2
          go_ret
          exact ⟨⟨w1.heap.size, rs, by rw [HF.out.2.2]; rfl, HF.out.1, HF.out.2.1⟩, HB.out⟩
set_option maxHeartbeats 3200000 in
theorem withA_any (n b t : Int) (gk ok kc : Nat) (key : List Lab) (a0 : Option Addr) (k0 c0 : Nat) (a : Option Addr) (cap : Nat) (Q : List Pc) (w : World) (hk : Reads w (some ⟨gk, ok, none⟩) key) (hkl : key.length ≤ 1048576) (hq : Pcs w a Q) (hQ : Q.length ≤ 1000) (hl : (upto Q Q.length).length ≤ 3000000) (hl1 : ∀ x ∈ Q, x.2.2.length ≤ 1048576) :
    Calls Tryz.prog 61 #[.agg #[.int .i64 n, .slice (some ⟨gk, ok, none⟩) key.length kc, .int .i64 b, .int .i64 t, .slice a0 k0 c0], .slice a Q.length cap] w fun e w' => (∃ Ke M rs, e = .returned (.agg #[.int .i64 n, .slice (some ⟨Ke, 0, none⟩) key.length key.length, .int .i64 b, .int .i64 t, .slice (some ⟨M, 0, none⟩) rs.length rs.length]) ∧ GB w.heap.size w' Ke key M 0 rs ∧ AB w.heap.size w' M rs.length rs ∧ pals rs = upto Q Q.length) ∧ Below w.heap.size w w' := by
  have HK : Hid (Reads w (some ⟨gk, ok, none⟩) key) := hk
  have HQ : Hid (Pcs w a Q ∧ Q.length ≤ 1000 ∧ (upto Q Q.length).length ≤ 3000000 ∧ ∀ x ∈ Q, x.2.2.length ≤ 1048576) := ⟨hq, hQ, hl, hl1⟩
  clear hk hq hQ hl hl1
  go_enter Tryz.func61, Tryz.ntmps61
  go_wp2_with fail
  refine (LabR.copied_any _ _ key _ (w.heap.size + 2) (by simp) (HK.out.below (Go.Joins.below_alloc2 w _ _)) hkl).mono ?_
  rintro e w1 ⟨rfl, hb1, hB⟩
  generalize hKe : w.heap.size + 2 = Ke at *
  have HO : Hid (OwnL (w.heap.size + 2) w1 Ke key) := ⟨by omega, _, hB, by rw [List.size_toArray, LabR.flat_len]; exact Nat.le_refl _, fun j hj => by have h := LabR.flat_get key j hj; simpa using h⟩
  have hbz : Below ((w.alloc (.cells #[.int .i64 n, .slice (some ⟨gk, ok, none⟩) key.length kc, .int .i64 b, .int .i64 t, .slice a0 k0 c0] 53)).alloc (.cells #[.int .i64 0, .slice none 0 0, .int .i64 0, .int .i64 0, .slice none 0 0] 53)).heap.size ((w.alloc (.cells #[.int .i64 n, .slice (some ⟨gk, ok, none⟩) key.length kc, .int .i64 b, .int .i64 t, .slice a0 k0 c0] 53)).alloc (.cells #[.int .i64 0, .slice none 0 0, .int .i64 0, .int .i64 0, .slice none 0 0] 53)) w1 := by rw [← hKe] at hb1; exact hb1.mono (by simp)
  have BP1 : Hid (Blk w1 w.heap.size #[.int .i64 n, .slice (some ⟨gk, ok, none⟩) key.length kc, .int .i64 b, .int .i64 t, .slice a0 k0 c0] 53) := ((Blk.new _ _ _).alloc _).grow hbz
  have BR1 : Hid (Blk w1 (w.heap.size + 1) #[.int .i64 0, .slice none 0 0, .int .i64 0, .int .i64 0, .slice none 0 0] 53) := (Blk.new_at (by simp)).grow hbz
  have HB1 : Hid (Below w.heap.size w w1) := grow_on (Go.Joins.below_alloc2 w _ _) hbz
  have HL1 : Hid (Ke < w1.heap.size) := HO.out.lt
  have HK2 : Hid (Ke = w.heap.size + 2) := hKe.symm
  have p1 := BP1.out.cell 1
  have fp1 := BP1.out.frozen 1
  simp at p1
  clear hbz hb1 hB hKe
  go_wp2_with fail
  have HP2 : Hid (Blk (w1.setCell ⟨w.heap.size, 1, none⟩ (.slice (some ⟨Ke, 0, none⟩) key.length key.length)) w.heap.size #[.int .i64 n, .slice (some ⟨Ke, 0, none⟩) key.length key.length, .int .i64 b, .int .i64 t, .slice a0 k0 c0] 53) := BP1.out.set 1 _
  have HR2 : Hid (Blk (w1.setCell ⟨w.heap.size, 1, none⟩ (.slice (some ⟨Ke, 0, none⟩) key.length key.length)) (w.heap.size + 1) #[.int .i64 0, .slice none 0 0, .int .i64 0, .int .i64 0, .slice none 0 0] 53) := BR1.out.set_other (by show w.heap.size ≠ (w.heap.size + 1); omega) _
  have HB2 : Hid (Below w.heap.size w (w1.setCell ⟨w.heap.size, 1, none⟩ (.slice (some ⟨Ke, 0, none⟩) key.length key.length))) := set_low HB1.out (Nat.le_refl _) _ _
  have HO2 : Hid (OwnL (w.heap.size + 2) (w1.setCell ⟨w.heap.size, 1, none⟩ (.slice (some ⟨Ke, 0, none⟩) key.length key.length)) Ke key) := HO.out.set (R := w.heap.size) (by have := HK2.out; omega) _ _
  have HL2 : Hid (Ke < (w1.setCell ⟨w.heap.size, 1, none⟩ (.slice (some ⟨Ke, 0, none⟩) key.length key.length)).heap.size) := by show _ < _; simpa using HL1.out
  clear p1 fp1 BP1 BR1 HB1 HO HL1
  generalize w1.setCell ⟨w.heap.size, 1, none⟩ (.slice (some ⟨Ke, 0, none⟩) key.length key.length) = W2 at *
  refine (laidT_any a cap Q W2 (HQ.out.1.below HB2.out) HQ.out.2.1 HQ.out.2.2.1 HQ.out.2.2.2).mono ?_
  rintro e w3 ⟨⟨M, rs, rfl, hA, hP⟩, hb⟩
  have HA : Hid (AB (w.heap.size + 2) w3 M rs.length rs ∧ pals rs = upto Q Q.length ∧ ¬ blks M rs Ke) := ⟨hA.down (by have := HL2.out; have := HK2.out; omega), hP, fun h => by
    have h1 := ChnK.aoblks_low (ChnK.AB.ao hA) Ke h
    have h2 := HL2.out
    omega⟩
  have P5 : Hid (Blk w3 w.heap.size #[.int .i64 n, .slice (some ⟨Ke, 0, none⟩) key.length key.length, .int .i64 b, .int .i64 t, .slice a0 k0 c0] 53) := HP2.out.grow hb
  have R5 : Hid (Blk w3 (w.heap.size + 1) #[.int .i64 0, .slice none 0 0, .int .i64 0, .int .i64 0, .slice none 0 0] 53) := HR2.out.grow hb
  have HK5 : Hid (OwnL (w.heap.size + 2) w3 Ke key) := HO2.out.grow hb
  have HB5 : Hid (Below w.heap.size w w3) := grow_on HB2.out hb
  clear hA hP hb HP2 HR2 HO2 HB2 HL2
  have p0 := P5.out.cell 0
  have r0 := R5.out.cell 0
  have fr0 := R5.out.frozen 0
  have p1 := P5.out.cell 1
  have r1 := R5.out.cell 1
  have fr1 := R5.out.frozen 1
  have p2 := P5.out.cell 2
  have r2 := R5.out.cell 2
  have fr2 := R5.out.frozen 2
  have p3 := P5.out.cell 3
  have r3 := R5.out.cell 3
  have fr3 := R5.out.frozen 3
  have p4 := P5.out.cell 4
  have r4 := R5.out.cell 4
  have fr4 := R5.out.frozen 4
  have fp := P5.out.frozen 4
  simp at p0 r0 p1 r1 p2 r2 p3 r3 p4 r4
  have hne : w.heap.size ≠ (w.heap.size + 1) := by omega
  go_wp2
  have hs : Blk _ (w.heap.size + 1) #[.int .i64 n, .slice (some ⟨Ke, 0, none⟩) key.length key.length, .int .i64 b, .int .i64 t, .slice (some ⟨M, 0, none⟩) rs.length rs.length] 53 := (((((R5.out.set_other (p := ⟨w.heap.size, 4, none⟩) (by show w.heap.size ≠ (w.heap.size + 1); omega) (.slice (some ⟨M, 0, none⟩) rs.length rs.length)).set 0 (.int .i64 n)).set 1 (.slice (some ⟨Ke, 0, none⟩) key.length key.length)).set 2 (.int .i64 b)).set 3 (.int .i64 t)).set 4 (.slice (some ⟨M, 0, none⟩) rs.length rs.length)
  have s0 := hs.cell 0
  have s1 := hs.cell 1
  have s2 := hs.cell 2
  have s3 := hs.cell 3
  have s4 := hs.cell 4
  refine bodyPost_ret (v := .agg #[.int .i64 n, .slice (some ⟨Ke, 0, none⟩) key.length key.length, .int .i64 b, .int .i64 t, .slice (some ⟨M, 0, none⟩) rs.length rs.length]) (by simp [results, Tryz.results61, go_sem, s0, s1, s2, s3, s4]) rfl ?_
  have hab := (DrawC.ab_under (DrawC.ab_under (DrawC.ab_under (DrawC.ab_under (DrawC.ab_under (DrawC.ab_under HA.out.1 (A := w.heap.size) (by omega) 4 (.slice (some ⟨M, 0, none⟩) rs.length rs.length)) (A := (w.heap.size + 1)) (by omega) 0 (.int .i64 n)) (A := (w.heap.size + 1)) (by omega) 1 (.slice (some ⟨Ke, 0, none⟩) key.length key.length)) (A := (w.heap.size + 1)) (by omega) 2 (.int .i64 b)) (A := (w.heap.size + 1)) (by omega) 3 (.int .i64 t)) (A := (w.heap.size + 1)) (by omega) 4 (.slice (some ⟨M, 0, none⟩) rs.length rs.length))
  exact ⟨⟨Ke, M, rs, rfl, ⟨((((((HK5.out.set (R := w.heap.size) (by have := HK2.out; omega) 4 (.slice (some ⟨M, 0, none⟩) rs.length rs.length)).set (R := (w.heap.size + 1)) (by have := HK2.out; omega) 0 (.int .i64 n)).set (R := (w.heap.size + 1)) (by have := HK2.out; omega) 1 (.slice (some ⟨Ke, 0, none⟩) key.length key.length)).set (R := (w.heap.size + 1)) (by have := HK2.out; omega) 2 (.int .i64 b)).set (R := (w.heap.size + 1)) (by have := HK2.out; omega) 3 (.int .i64 t)).set (R := (w.heap.size + 1)) (by have := HK2.out; omega) 4 (.slice (some ⟨M, 0, none⟩) rs.length rs.length)).down (by omega), ChnK.AO.down (ChnK.AB.ao hab) (by omega), HA.out.2.2⟩, hab.down (by omega), HA.out.2.1⟩, (set_low (set_low (set_low (set_low (set_low (set_low HB5.out (M := w.heap.size) (by omega) 4 (.slice (some ⟨M, 0, none⟩) rs.length rs.length)) (M := (w.heap.size + 1)) (by omega) 0 (.int .i64 n)) (M := (w.heap.size + 1)) (by omega) 1 (.slice (some ⟨Ke, 0, none⟩) key.length key.length)) (M := (w.heap.size + 1)) (by omega) 2 (.int .i64 b)) (M := (w.heap.size + 1)) (by omega) 3 (.int .i64 t)) (M := (w.heap.size + 1)) (by omega) 4 (.slice (some ⟨M, 0, none⟩) rs.length rs.length))⟩
end Go.Proofs.YtgncimlojbnbfaaGreat.GrpL
