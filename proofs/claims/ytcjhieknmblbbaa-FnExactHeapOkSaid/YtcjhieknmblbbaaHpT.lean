/-
  PROVED: spec.HeapTake answers a row of the call's own that holds what the plain take says, and the first one; nothing that was there is changed.
-/
import Derived.Test.YtcjhieknmblbbaaHpD
namespace Go.Proofs.Ytcjhieknmblbbaa.HpT
open Go.RowKit
open Go.Proofs.Ytcjhieknmblbbaa.Hp Go.Proofs.Ytcjhieknmblbbaa.Tms Go.Proofs.Ytcjhieknmblbbaa.TmO Go.Proofs.Ytcjhieknmblbbaa.TmR Go.Proofs.Ytcjhieknmblbbaa.HpS Go.Proofs.Ytcjhieknmblbbaa.HpD Go.Proofs.Ytcjhieknmblbbaa.Over Go.Proofs.Ytcjhieknmblbbaa.Blk Go.Proofs.Ytcjhieknmblbbaa.App
set_option linter.unusedVariables false
/-- what is taken: the first one, or none -/
def fstT (l : List Tm) : Tm := if l = [] then (0, 0) else nthT l 0
def anyT (l : List Tm) : Bool := decide (l ≠ [])
theorem take_nil : takeT [] = [] := List.eq_nil_of_length_eq_zero (Hp.take_len [])
theorem retT {M c n : Nat} {m : List Tm} {x y : Tm} {p q : Bool} (hn : n = m.length) (hx : x = y) (hp : p = q) : Ending.returned (.tuple #[.slice (some ⟨M, 0, none⟩) n c, .agg #[.int .i64 x.1, .int .i64 x.2], .bool p]) = .returned (.tuple #[.slice (some ⟨M, 0, none⟩) m.length c, .agg #[.int .i64 y.1, .int .i64 y.2], .bool q]) := by rw [hn, hx, hp]
theorem rd_front {w : World} {a : Option Addr} {l : List Tm} {k : Nat} (h : RdT w a l) : RdT w a (l.take k) := by
  rcases h with rfl | ⟨b, off, e, hb, hc⟩
  · left; simp
  · refine .inr ⟨b, off, e, hb, fun i hi => ?_⟩
    rw [List.length_take] at hi
    have : nthT (l.take k) i = nthT l i := by rw [nth_lt (by rw [List.length_take]; exact hi), nth_lt (by omega)]; simp
    rw [this]; exact hc i (by omega)
theorem base_set {l : List Tm} {n : Nat} (hn : l.length = n + 1) (h : 0 < n) : base l = (l.take n).set 0 (nthT l n) := by
  unfold base
  rw [if_pos (by omega), List.dropLast_eq_take, hn]; rfl
theorem base_one {l : List Tm} (hn : l.length = 1) : base l = [] := by unfold base; rw [if_neg (by omega)]
theorem rd_some {w : World} {g o : Nat} {l : List Tm} (h : RdT w (some ⟨g, o, none⟩) l) {i : Nat} (hi : i < l.length) : w.cell? ⟨g, o + i * 2, none⟩ = some (.int .i64 (nthT l i).1) ∧ w.cell? ⟨g, o + i * 2 + 1, none⟩ = some (.int .i64 (nthT l i).2) := by
  obtain ⟨b, off, e, hb, hc⟩ := h.get hi
  cases e
  exact hc i hi

set_option maxRecDepth 100000 in
set_option maxHeartbeats 8000000 in
theorem specTake_any (g o cap : Nat) (l : List Tm) (w : World) (hr : RdT w (some ⟨g, o, none⟩) l) (hl : l.length ≤ 10000000) (hcap : l.length ≤ cap) :
    Calls Try.prog 20 #[.slice (some ⟨g, o, none⟩) l.length cap] w fun e w' => (∃ M c, e = .returned (.tuple #[.slice (some ⟨M, 0, none⟩) (takeT l).length c, .agg #[.int .i64 (fstT l).1, .int .i64 (fstT l).2], .bool (anyT l)]) ∧ OT w.heap.size w' M c (takeT l)) ∧ Below w.heap.size w w' := by
  have HR0 : Hid (RdT w (some ⟨g, o, none⟩) l) := hr
  clear hr
  obtain ⟨i0, hi, hz0, hz1, hz2⟩ := infoH
  have HI : Hid (Try.prog.info? 26 = some i0 ∧ i0.zero = some (.agg #[.int .i64 0, .int .i64 0]) ∧ i0.size = 2 ∧ i0.bytes = 16) := ⟨hi, hz0, hz1, hz2⟩
  clear hi hz0 hz1 hz2
  by_cases h0 : l = []
  · subst h0
    go_enter Try.func20, Try.ntmps20
    go_wp2
    have r0 : ((w.alloc (.cells #[.int .i64 0, .int .i64 0] 26)).alloc (.cells #[] 26)).cell? ⟨w.heap.size, 0, none⟩ = some (.int .i64 0) := ((Blk.new _ _ _).alloc _ : Blk _ _ #[.int .i64 0, .int .i64 0] 26).cell 0
    have r1 : ((w.alloc (.cells #[.int .i64 0, .int .i64 0] 26)).alloc (.cells #[] 26)).cell? ⟨w.heap.size, 1, none⟩ = some (.int .i64 0) := ((Blk.new _ _ _).alloc _ : Blk _ _ #[.int .i64 0, .int .i64 0] 26).cell 1
    refine bodyPost_ret (v := .tuple #[.slice (some ⟨w.heap.size + 1, 0, none⟩) 0 0, .agg #[.int .i64 0, .int .i64 0], .bool false]) (by simp [results, Try.results20, go_sem, r0, r1]) rfl ?_
    refine ⟨⟨w.heap.size + 1, 0, by rw [take_nil]; rfl, ?_⟩, Go.Joins.below_alloc2 w _ _⟩
    rw [take_nil]
    exact ⟨Nat.le_succ _, Nat.le_refl _, Nat.zero_le _, #[], Blk.new_at (by simp), rfl, fun j hj => by simp at hj⟩
  obtain ⟨n, hn⟩ : ∃ n, l.length = n + 1 := ⟨l.length - 1, by have := List.length_pos_iff.2 h0; omega⟩
  have HN : Hid (l.length = n + 1 ∧ fstT l = nthT l 0 ∧ anyT l = true) := ⟨hn, if_neg h0, decide_eq_true h0⟩
  rw [hn] at hl hcap
  rw [hn]
  clear hn h0
  have hne0 : ((n : Int) + 1 == 0) = false := by simp; omega
  have hcn : n ≤ cap := by omega
  have hcn' : (n : Int) ≤ (cap : Int) := by omega
  go_enter Try.func20, Try.ntmps20
  go_upto_region 4 with fail
  generalize hz : w.alloc (.cells #[.int .i64 0, .int .i64 0] 26) = W
  have HX : Hid (Blk W w.heap.size #[.int .i64 0, .int .i64 0] 26) := by rw [← hz]; exact Blk.new _ _ _
  have HB : Hid (Below w.heap.size w W) := by rw [← hz]; exact Go.Joins.below_alloc1 w _
  have HZ : Hid (w.heap.size < W.heap.size) := by unfold Hid; rw [← hz]; simp
  clear hz
  have HR : Hid (RdT W (some ⟨g, o, none⟩) l) := HR0.out.below HB.out
  clear HR0
  have HO : Hid ((W.alloc (.cells #[] 26)).ownsRow W.heap.size 26 2 (.slice (some ⟨W.heap.size, 0, none⟩) 0 0) 0 []) := own_empty (Blk.new _ _ _) (Nat.le_refl _)
  go_wp2_with (at_builtin; refine wpList_append_own_at _ rfl _ _ 24 rfl W.heap.size 26 i0 (.agg #[.int .i64 0, .int .i64 0]) 2 16 Try.underlying24 HI.out.1 HI.out.2.1 HI.out.2.2.1 HI.out.2.2.2 rfl (by decide) _ _ _ rfl HO.out ⟨g, o, none⟩ n cap (flatT (l.take n)) rfl ?c0 ?c1 (flat_one _) ?c3 ?c4 ?c5 ?_)
  case c0 => rw [flat_len, List.length_take, HN.out.1]; omega
  case c1 => exact src_of (rd_front (HR.out.below (Go.Joins.below_alloc1 W _)))
  case c3 => unfold maxLen; omega
  case c4 => omega
  case c5 => simp
  intro v' w4 hown hg hnil _
  have hlt : (l.take n).length = n := by rw [List.length_take, HN.out.1]; omega
  have hown3 : w4.ownsRow W.heap.size 26 2 v' (l.take n).length (flatT (l.take n)) := by rw [hlt]; exact hown
  obtain ⟨M, c, ev, hot⟩ := ot_of hown3 (fun e => by first | exact hnil e | (have := (hnil.1 e).1; cases this))
  subst ev
  rw [hlt]
  have hb4 : Below W.heap.size W w4 := (Go.Joins.below_alloc1 W _).grown hg (by simp) (by simp [Value.ownBlock])
  have HM : Hid (OT W.heap.size w4 M c (l.take n) ∧ Below W.heap.size W w4 ∧ (l.take n).length = n) := ⟨hot, hb4, hlt⟩
  clear hown hown3 hg hnil hlt hot hb4 HO
  by_cases h1 : n = 0
  ·
    have HE : Hid (base l = l.take n) := by unfold Hid; rw [base_one (by rw [HN.out.1, h1]), h1]; rfl
    have hb : decide (0 < n) = false := decide_eq_false (by omega)
    have H5 : Hid (OT W.heap.size w4 M c (base l) ∧ Below W.heap.size W w4 ∧ (base l).length = n) := ⟨by rw [HE.out]; exact HM.out.1, HM.out.2.1, by rw [base_len, HN.out.1]; rfl⟩
    clear h1 HM HE
    go_wp2
    go_loopw [7] (fun i w' => ∃ (k : Nat) (m : List Tm), i = .int .i64 k ∧ k ≤ n ∧ m.length = n ∧ down m k = takeT l ∧ OT W.heap.size w' M c m ∧ Below W.heap.size W w') (fun i _ => n - (intOf i).toNat)
    case atStart => exact ⟨0, base l, rfl, Nat.zero_le _, H5.out.2.2, rfl, H5.out.1, H5.out.2.1⟩
    case round =>
      obtain ⟨k, m, rfl, hk, hm, hd, ho, hb⟩ := hrel
      have HB5 : Hid (Below W.heap.size W wr) := hb
      have HO : Hid (OT W.heap.size wr M c m) := ho
      have HD : Hid (m.length = n ∧ down m k = takeT l) := ⟨hm, hd⟩
      clear hb hd ho hm
      obtain ⟨a, ha⟩ : ∃ a, 2 * k + 1 = a := ⟨_, rfl⟩
      have ea : 2 * (k : Int) + 1 = (a : Int) := by omega
      have hw2 : RowKit.wrap64 (2 * (k : Int)) = 2 * (k : Int) := IntWalk.wrap64_in _ (by omega)
      have hw3 : RowKit.wrap64 (a : Int) = (a : Int) := IntWalk.wrap64_in _ (by omega)
      by_cases hlt : a < n
      · have hlt' : (a : Int) < (n : Int) := by omega
      
        have HA : Hid (2 * k + 1 = a) := ha
        have hka : k < a := by omega
        have HBz : Hid (Below W.heap.size W wr) := HB5.out
        go_upto_region 10 with fail
        clear ha ea hw2 hw3
        obtain ⟨b, hb⟩ : ∃ b, a + 1 = b := ⟨_, rfl⟩
        have eb : (a : Int) + 1 = (b : Int) := by omega
        have hab : a < b := by omega
        have HA2 : Hid (2 * k + 2 = b) := by have := HA.out; unfold Hid; omega
        clear hb
        by_cases hbn : b < n
        ·
          have hbn' : (b : Int) < (n : Int) := by omega
          have db : decide (b < n) = true := decide_eq_true hbn
          obtain ⟨cs, hM, hcs, hh⟩ := HO.out.row
          have hMl := hM.lt
          have HH : Hid (Blk wr M cs 26 ∧ cs.size = c * 2 ∧ HeldT cs m m.length) := ⟨hM, hcs, hh⟩
          have h0 := hh b (by rw [HD.out.1]; omega)
          have h1 := hh a (by rw [HD.out.1]; omega)
          have hne := Grown.some wr
          have x0 := fun x : Grown wr => x.cell (p := ⟨M, b * 2, none⟩) hMl ((hM.cell _).trans h0.1)
          have x1 := fun x : Grown wr => x.cell (p := ⟨M, b * 2 + 1, none⟩) hMl ((hM.cell _).trans h0.2)
          have x2 := fun x : Grown wr => x.cell (p := ⟨M, a * 2, none⟩) hMl ((hM.cell _).trans h1.1)
          have x3 := fun x : Grown wr => x.cell (p := ⟨M, a * 2 + 1, none⟩) hMl ((hM.cell _).trans h1.2)
          clear hM hcs hh h0 h1
          by_cases cb : befB (nthT m b) (nthT m a) = true
          ·
            have HK : Hid (kid m k = b) := by unfold Hid kid; rw [HA2.out, HA.out, if_pos ⟨by rw [HD.out.1]; exact hbn, cb⟩]
            have HC : ∀ w, Hid (Calls Try.prog 29 #[.agg #[.int .i64 (nthT m b).1, .int .i64 (nthT m b).2], .agg #[.int .i64 (nthT m a).1, .int .i64 (nthT m a).2]] w fun e w' => e = .returned (.bool true) ∧ Below w.heap.size w w') := fun w => (specBefore_any (nthT m b) (nthT m a) w).mono fun e w' h => ⟨h.1.trans (retB cb), h.2⟩
            clear cb
            refine wp_over (z := wr) (by kernel_rfl) (by kernel_rfl) (Below.refl _ _) ?_
            repeat (go_big_quiet_step (first | (go_at_call 29; exact call_over (HC _).out)))
            refine wpQuiet_nil ?_
            intro w2 hw2
            have HB_w2 : Hid (Below W.heap.size W w2) := grow_on HBz.out (over_bel hw2)
            have HG_w2 : Hid (Below wr.heap.size wr w2) := over_bel hw2
            clear hw2 hne HBz
            clear x0 x1 x2 x3 HC HH hMl
            go_wp2
            have hkq : k < b := by omega
            have hq' : (b : Int) < (n : Int) := by omega
            have hk' : (k : Int) < (n : Int) := by omega
            have HO2 : Hid (OT W.heap.size w2 M c m) := HO.out.grow HG_w2.out
            have HBz : Hid (Below W.heap.size W w2) := HB_w2.out
            clear HO HG_w2 HB_w2 HB5 eb
            have HO : Hid (OT W.heap.size w2 M c m) := HO2.out
            clear HO2
            obtain ⟨cs, hM, hcs, hh⟩ := HO.out.row
            have hMl := hM.lt
            have HH : Hid (Blk w2 M cs 26 ∧ cs.size = c * 2 ∧ HeldT cs m m.length) := ⟨hM, hcs, hh⟩
            have h0 := hh b (by rw [HD.out.1]; omega)
            have h1 := hh k (by rw [HD.out.1]; omega)
            have hne := Grown.some w2
            have x0 := fun x : Grown w2 => x.cell (p := ⟨M, b * 2, none⟩) hMl ((hM.cell _).trans h0.1)
            have x1 := fun x : Grown w2 => x.cell (p := ⟨M, b * 2 + 1, none⟩) hMl ((hM.cell _).trans h0.2)
            have x2 := fun x : Grown w2 => x.cell (p := ⟨M, k * 2, none⟩) hMl ((hM.cell _).trans h1.1)
            have x3 := fun x : Grown w2 => x.cell (p := ⟨M, k * 2 + 1, none⟩) hMl ((hM.cell _).trans h1.2)
            clear hM hcs hh h0 h1
            by_cases cd : befB (nthT m b) (nthT m k) = true
            ·
              have HC : ∀ w, Hid (Calls Try.prog 29 #[.agg #[.int .i64 (nthT m b).1, .int .i64 (nthT m b).2], .agg #[.int .i64 (nthT m k).1, .int .i64 (nthT m k).2]] w fun e w' => e = .returned (.bool true) ∧ Below w.heap.size w w') := fun w => (specBefore_any (nthT m b) (nthT m k) w).mono fun e w' h => ⟨h.1.trans (retB cd), h.2⟩
              have hdd : down m k = down (swp m k (kid m k)) (kid m k) := down_go (l := m) (i := k) (by rw [HD.out.1, HA.out]; exact hlt) (by rw [HK.out]; exact cd)
              rw [HK.out] at hdd
              have HGo : Hid (down (swp m k b) b = takeT l ∧ (swp m k b).length = n) := ⟨by rw [← HD.out.2, hdd], by rw [swp_len]; exact HD.out.1⟩
              clear hdd
              clear cd
              refine wp_over (z := w2) (by kernel_rfl) (by kernel_rfl) (Below.refl _ _) ?_
              repeat (go_big_quiet_step (first | (go_at_call 29; exact call_over (HC _).out)))
              refine wpQuiet_nil ?_
              intro w3 hw2
              have HB_w3 : Hid (Below W.heap.size W w3) := grow_on HBz.out (over_bel hw2)
              have HG_w3 : Hid (Below w2.heap.size w2 w3) := over_bel hw2
              clear hw2 hne HBz
              have HN3 : Hid (Blk w3 M cs 26) := HH.out.1.grow HG_w3.out
              have hlt3 : M < w3.heap.size := HN3.out.lt
              have hne3 : M ≠ w3.heap.size := by omega
              have h0 := HH.out.2.2 b (by rw [HD.out.1]; omega)
              have h1 := HH.out.2.2 k (by rw [HD.out.1]; omega)
              have c0 : w3.cell? ⟨M, b * 2, none⟩ = some (.int .i64 (nthT m b).1) := (HN3.out.cell _).trans h0.1
              have c1 : w3.cell? ⟨M, b * 2 + 1, none⟩ = some (.int .i64 (nthT m b).2) := (HN3.out.cell _).trans h0.2
              have c2 : w3.cell? ⟨M, k * 2, none⟩ = some (.int .i64 (nthT m k).1) := (HN3.out.cell _).trans h1.1
              have c3 : w3.cell? ⟨M, k * 2 + 1, none⟩ = some (.int .i64 (nthT m k).2) := (HN3.out.cell _).trans h1.2
              have f2 := HN3.out.frozen (k * 2)
              have f3 := HN3.out.frozen (k * 2 + 1)
              have HQ : Hid (b < m.length ∧ k < m.length ∧ m.length * 2 ≤ cs.size) := ⟨by rw [HD.out.1]; omega, by rw [HD.out.1]; omega, by rw [HH.out.2.1]; have := HO.out.le; omega⟩
              clear h0 h1 x0 x1 x2 x3 HC hMl
              go_upto_region 15 with fail
              generalize hW : (((w3.setCell ⟨M, k * 2, none⟩ (.int .i64 (nthT m b).1)).setCell ⟨M, k * 2 + 1, none⟩ (.int .i64 (nthT m b).2)).alloc (.cells #[.int .i64 (nthT m k).1, .int .i64 (nthT m k).2] 26)) = W3
              have H3 : Hid (Blk W3 M ((cs.setIfInBounds (k * 2) (.int .i64 (nthT m b).1)).setIfInBounds (k * 2 + 1) (.int .i64 (nthT m b).2)) 26) := by rw [← hW]; exact ((HN3.out.set _ _).set _ _).alloc _
              have HX3 : Hid (Blk W3 w3.heap.size #[.int .i64 (nthT m k).1, .int .i64 (nthT m k).2] 26) := by rw [← hW]; exact Blk.new_at (by simp)
              have HB4 : Hid (Below W.heap.size W W3) := by rw [← hW]; exact ((HB_w3.out.setCell (p := ⟨M, k * 2, none⟩) HO.out.lo _).setCell (p := ⟨M, k * 2 + 1, none⟩) HO.out.lo _).alloc (by simp; exact HB_w3.out.size) _
              clear hW c0 c1 c2 c3 f2 f3
              have hs := H3.out
              have e0 : W3.cell? ⟨w3.heap.size, 0, none⟩ = some (.int .i64 (nthT m k).1) := HX3.out.cell 0
              have e1 : W3.cell? ⟨w3.heap.size, 1, none⟩ = some (.int .i64 (nthT m k).2) := HX3.out.cell 1
              have hsz : b * 2 + 1 < ((cs.setIfInBounds (k * 2) (.int .i64 (nthT m b).1)).setIfInBounds (k * 2 + 1) (.int .i64 (nthT m b).2)).size := by simp; have := HQ.out; omega
              obtain ⟨v2, d2⟩ : ∃ v, W3.cell? ⟨M, b * 2, none⟩ = some v := ⟨_, (hs.cell _).trans (Array.getElem?_eq_getElem (by omega))⟩
              obtain ⟨v3, d3⟩ : ∃ v, W3.cell? ⟨M, b * 2 + 1, none⟩ = some v := ⟨_, (hs.cell _).trans (Array.getElem?_eq_getElem hsz)⟩
              have g2 := hs.frozen (b * 2)
              have g3 := hs.frozen (b * 2 + 1)
              clear hs hsz
              go_wp2
              go_roundw
              case rel => exact ⟨b, swp m k b, by go_num, by omega, HGo.out.2, HGo.out.1, ⟨HO.out.lo, by rw [swp_len]; exact HO.out.le, HO.out.cap, swpC cs m k b, (H3.out.set _ _).set _ _, by rw [swpC_size]; exact HH.out.2.1, swpC_held HH.out.2.2 HQ.out.2.1 HQ.out.1 HQ.out.2.2⟩, (HB4.out.setCell (p := ⟨M, b * 2, none⟩) HO.out.lo _).setCell (p := ⟨M, b * 2 + 1, none⟩) HO.out.lo _⟩
              case measure => simp [intOf]; omega
            ·
              have cd' : befB (nthT m b) (nthT m k) = false := by simpa using cd
              have HC : ∀ w, Hid (Calls Try.prog 29 #[.agg #[.int .i64 (nthT m b).1, .int .i64 (nthT m b).2], .agg #[.int .i64 (nthT m k).1, .int .i64 (nthT m k).2]] w fun e w' => e = .returned (.bool false) ∧ Below w.heap.size w w') := fun w => (specBefore_any (nthT m b) (nthT m k) w).mono fun e w' h => ⟨h.1.trans (retB cd'), h.2⟩
              have HE : Hid (down m k = m) := down_stop (fun h => by have h2 := h.2; rw [HK.out, cd'] at h2; exact absurd h2 (by decide))
              clear cd cd'
              refine wp_over (z := w2) (by kernel_rfl) (by kernel_rfl) (Below.refl _ _) ?_
              repeat (go_big_quiet_step (first | (go_at_call 29; exact call_over (HC _).out)))
              refine wpQuiet_nil ?_
              intro w3 hw2
              have HB_w3 : Hid (Below W.heap.size W w3) := grow_on HBz.out (over_bel hw2)
              have HG_w3 : Hid (Below w2.heap.size w2 w3) := over_bel hw2
              clear hw2 hne HBz
              have HF : Hid (OT W.heap.size w3 M c (takeT l) ∧ Below W.heap.size W w3 ∧ (takeT l).length = n) := by
                rw [← HD.out.2, HE.out]
                exact ⟨HO.out.grow HG_w3.out, HB_w3.out, HD.out.1⟩
              clear x0 x1 x2 x3 HC hMl HH HE
              have HRZ : Hid (RdT w3 (some ⟨g, o, none⟩) l) := HR.out.below HF.out.2.1
              have hXz := HX.out.grow HF.out.2.1
              have HXZ : Hid (Blk w3 w.heap.size #[.int .i64 0, .int .i64 0] 26) := hXz
              obtain ⟨y0, y1⟩ := rd_some HRZ.out (i := 0) (by rw [HN.out.1]; omega)
              rw [Nat.zero_mul, Nat.add_zero] at y0 y1
              have z0 : w3.cell? ⟨w.heap.size, 0, none⟩ = some (.int .i64 0) := hXz.cell 0
              have z1 : w3.cell? ⟨w.heap.size, 1, none⟩ = some (.int .i64 0) := hXz.cell 1
              have zf0 := hXz.frozen 0
              have zf1 := hXz.frozen 1
              have hn1 : (0 : Int) < (n : Int) + 1 := by omega
              clear hXz
              go_upto_region 17 with fail
              go_region
              go_wp2_with fail
              have hs : Blk ((w3.setCell ⟨w.heap.size, 0, none⟩ (.int .i64 (nthT l 0).1)).setCell ⟨w.heap.size, 1, none⟩ (.int .i64 (nthT l 0).2)).drew w.heap.size #[.int .i64 (nthT l 0).1, .int .i64 (nthT l 0).2] 26 := ((HXZ.out.set 0 _).set 1 _).drew
              have r0 := hs.cell 0
              have r1 := hs.cell 1
              refine bodyPost_ret (v := .tuple #[.slice (some ⟨M, 0, none⟩) n c, .agg #[.int .i64 (nthT l 0).1, .int .i64 (nthT l 0).2], .bool true]) (by simp [results, Try.results20, go_sem, r0, r1]) rfl ?_
              have hne : w.heap.size ≠ M := by have := HF.out.1.lo; have := HZ.out; omega
              obtain ⟨q0, q1, q2, cs', q3, q4, q5⟩ := HF.out.1
              exact ⟨⟨M, c, retT HF.out.2.2.symm HN.out.2.1.symm HN.out.2.2.symm, by have := HZ.out; omega, q1, q2, cs', ((q3.set_other (p := ⟨w.heap.size, 0, none⟩) hne _).set_other (p := ⟨w.heap.size, 1, none⟩) hne _).drew, q4, q5⟩, (((grow_on HB.out HF.out.2.1).setCell (p := ⟨w.heap.size, 0, none⟩) (Nat.le_refl _) _).setCell (p := ⟨w.heap.size, 1, none⟩) (Nat.le_refl _) _).drew⟩
          ·
            have cb' : befB (nthT m b) (nthT m a) = false := by simpa using cb
            have HK : Hid (kid m k = a) := by unfold Hid kid; rw [HA2.out, HA.out, if_neg (fun h => cb h.2)]
            have HC : ∀ w, Hid (Calls Try.prog 29 #[.agg #[.int .i64 (nthT m b).1, .int .i64 (nthT m b).2], .agg #[.int .i64 (nthT m a).1, .int .i64 (nthT m a).2]] w fun e w' => e = .returned (.bool false) ∧ Below w.heap.size w w') := fun w => (specBefore_any (nthT m b) (nthT m a) w).mono fun e w' h => ⟨h.1.trans (retB cb'), h.2⟩
            clear cb cb'
            refine wp_over (z := wr) (by kernel_rfl) (by kernel_rfl) (Below.refl _ _) ?_
            repeat (go_big_quiet_step (first | (go_at_call 29; exact call_over (HC _).out)))
            refine wpQuiet_nil ?_
            intro w2 hw2
            have HB_w2 : Hid (Below W.heap.size W w2) := grow_on HBz.out (over_bel hw2)
            have HG_w2 : Hid (Below wr.heap.size wr w2) := over_bel hw2
            clear hw2 hne HBz
            clear x0 x1 x2 x3 HC HH hMl
            go_wp2
            have hkq : k < a := by omega
            have hq' : (a : Int) < (n : Int) := by omega
            have hk' : (k : Int) < (n : Int) := by omega
            have HO2 : Hid (OT W.heap.size w2 M c m) := HO.out.grow HG_w2.out
            have HBz : Hid (Below W.heap.size W w2) := HB_w2.out
            clear HO HG_w2 HB_w2 HB5 eb
            have HO : Hid (OT W.heap.size w2 M c m) := HO2.out
            clear HO2
            obtain ⟨cs, hM, hcs, hh⟩ := HO.out.row
            have hMl := hM.lt
            have HH : Hid (Blk w2 M cs 26 ∧ cs.size = c * 2 ∧ HeldT cs m m.length) := ⟨hM, hcs, hh⟩
            have h0 := hh a (by rw [HD.out.1]; omega)
            have h1 := hh k (by rw [HD.out.1]; omega)
            have hne := Grown.some w2
            have x0 := fun x : Grown w2 => x.cell (p := ⟨M, a * 2, none⟩) hMl ((hM.cell _).trans h0.1)
            have x1 := fun x : Grown w2 => x.cell (p := ⟨M, a * 2 + 1, none⟩) hMl ((hM.cell _).trans h0.2)
            have x2 := fun x : Grown w2 => x.cell (p := ⟨M, k * 2, none⟩) hMl ((hM.cell _).trans h1.1)
            have x3 := fun x : Grown w2 => x.cell (p := ⟨M, k * 2 + 1, none⟩) hMl ((hM.cell _).trans h1.2)
            clear hM hcs hh h0 h1
            by_cases cd : befB (nthT m a) (nthT m k) = true
            ·
              have HC : ∀ w, Hid (Calls Try.prog 29 #[.agg #[.int .i64 (nthT m a).1, .int .i64 (nthT m a).2], .agg #[.int .i64 (nthT m k).1, .int .i64 (nthT m k).2]] w fun e w' => e = .returned (.bool true) ∧ Below w.heap.size w w') := fun w => (specBefore_any (nthT m a) (nthT m k) w).mono fun e w' h => ⟨h.1.trans (retB cd), h.2⟩
              have hdd : down m k = down (swp m k (kid m k)) (kid m k) := down_go (l := m) (i := k) (by rw [HD.out.1, HA.out]; exact hlt) (by rw [HK.out]; exact cd)
              rw [HK.out] at hdd
              have HGo : Hid (down (swp m k a) a = takeT l ∧ (swp m k a).length = n) := ⟨by rw [← HD.out.2, hdd], by rw [swp_len]; exact HD.out.1⟩
              clear hdd
              clear cd
              refine wp_over (z := w2) (by kernel_rfl) (by kernel_rfl) (Below.refl _ _) ?_
              repeat (go_big_quiet_step (first | (go_at_call 29; exact call_over (HC _).out)))
              refine wpQuiet_nil ?_
              intro w3 hw2
              have HB_w3 : Hid (Below W.heap.size W w3) := grow_on HBz.out (over_bel hw2)
              have HG_w3 : Hid (Below w2.heap.size w2 w3) := over_bel hw2
              clear hw2 hne HBz
              have HN3 : Hid (Blk w3 M cs 26) := HH.out.1.grow HG_w3.out
              have hlt3 : M < w3.heap.size := HN3.out.lt
              have hne3 : M ≠ w3.heap.size := by omega
              have h0 := HH.out.2.2 a (by rw [HD.out.1]; omega)
              have h1 := HH.out.2.2 k (by rw [HD.out.1]; omega)
              have c0 : w3.cell? ⟨M, a * 2, none⟩ = some (.int .i64 (nthT m a).1) := (HN3.out.cell _).trans h0.1
              have c1 : w3.cell? ⟨M, a * 2 + 1, none⟩ = some (.int .i64 (nthT m a).2) := (HN3.out.cell _).trans h0.2
              have c2 : w3.cell? ⟨M, k * 2, none⟩ = some (.int .i64 (nthT m k).1) := (HN3.out.cell _).trans h1.1
              have c3 : w3.cell? ⟨M, k * 2 + 1, none⟩ = some (.int .i64 (nthT m k).2) := (HN3.out.cell _).trans h1.2
              have f2 := HN3.out.frozen (k * 2)
              have f3 := HN3.out.frozen (k * 2 + 1)
              have HQ : Hid (a < m.length ∧ k < m.length ∧ m.length * 2 ≤ cs.size) := ⟨by rw [HD.out.1]; omega, by rw [HD.out.1]; omega, by rw [HH.out.2.1]; have := HO.out.le; omega⟩
              clear h0 h1 x0 x1 x2 x3 HC hMl
              go_upto_region 15 with fail
              generalize hW : (((w3.setCell ⟨M, k * 2, none⟩ (.int .i64 (nthT m a).1)).setCell ⟨M, k * 2 + 1, none⟩ (.int .i64 (nthT m a).2)).alloc (.cells #[.int .i64 (nthT m k).1, .int .i64 (nthT m k).2] 26)) = W3
              have H3 : Hid (Blk W3 M ((cs.setIfInBounds (k * 2) (.int .i64 (nthT m a).1)).setIfInBounds (k * 2 + 1) (.int .i64 (nthT m a).2)) 26) := by rw [← hW]; exact ((HN3.out.set _ _).set _ _).alloc _
              have HX3 : Hid (Blk W3 w3.heap.size #[.int .i64 (nthT m k).1, .int .i64 (nthT m k).2] 26) := by rw [← hW]; exact Blk.new_at (by simp)
              have HB4 : Hid (Below W.heap.size W W3) := by rw [← hW]; exact ((HB_w3.out.setCell (p := ⟨M, k * 2, none⟩) HO.out.lo _).setCell (p := ⟨M, k * 2 + 1, none⟩) HO.out.lo _).alloc (by simp; exact HB_w3.out.size) _
              clear hW c0 c1 c2 c3 f2 f3
              have hs := H3.out
              have e0 : W3.cell? ⟨w3.heap.size, 0, none⟩ = some (.int .i64 (nthT m k).1) := HX3.out.cell 0
              have e1 : W3.cell? ⟨w3.heap.size, 1, none⟩ = some (.int .i64 (nthT m k).2) := HX3.out.cell 1
              have hsz : a * 2 + 1 < ((cs.setIfInBounds (k * 2) (.int .i64 (nthT m a).1)).setIfInBounds (k * 2 + 1) (.int .i64 (nthT m a).2)).size := by simp; have := HQ.out; omega
              obtain ⟨v2, d2⟩ : ∃ v, W3.cell? ⟨M, a * 2, none⟩ = some v := ⟨_, (hs.cell _).trans (Array.getElem?_eq_getElem (by omega))⟩
              obtain ⟨v3, d3⟩ : ∃ v, W3.cell? ⟨M, a * 2 + 1, none⟩ = some v := ⟨_, (hs.cell _).trans (Array.getElem?_eq_getElem hsz)⟩
              have g2 := hs.frozen (a * 2)
              have g3 := hs.frozen (a * 2 + 1)
              clear hs hsz
              go_wp2
              go_roundw
              case rel => exact ⟨a, swp m k a, by go_num, by omega, HGo.out.2, HGo.out.1, ⟨HO.out.lo, by rw [swp_len]; exact HO.out.le, HO.out.cap, swpC cs m k a, (H3.out.set _ _).set _ _, by rw [swpC_size]; exact HH.out.2.1, swpC_held HH.out.2.2 HQ.out.2.1 HQ.out.1 HQ.out.2.2⟩, (HB4.out.setCell (p := ⟨M, a * 2, none⟩) HO.out.lo _).setCell (p := ⟨M, a * 2 + 1, none⟩) HO.out.lo _⟩
              case measure => simp [intOf]; omega
            ·
              have cd' : befB (nthT m a) (nthT m k) = false := by simpa using cd
              have HC : ∀ w, Hid (Calls Try.prog 29 #[.agg #[.int .i64 (nthT m a).1, .int .i64 (nthT m a).2], .agg #[.int .i64 (nthT m k).1, .int .i64 (nthT m k).2]] w fun e w' => e = .returned (.bool false) ∧ Below w.heap.size w w') := fun w => (specBefore_any (nthT m a) (nthT m k) w).mono fun e w' h => ⟨h.1.trans (retB cd'), h.2⟩
              have HE : Hid (down m k = m) := down_stop (fun h => by have h2 := h.2; rw [HK.out, cd'] at h2; exact absurd h2 (by decide))
              clear cd cd'
              refine wp_over (z := w2) (by kernel_rfl) (by kernel_rfl) (Below.refl _ _) ?_
              repeat (go_big_quiet_step (first | (go_at_call 29; exact call_over (HC _).out)))
              refine wpQuiet_nil ?_
              intro w3 hw2
              have HB_w3 : Hid (Below W.heap.size W w3) := grow_on HBz.out (over_bel hw2)
              have HG_w3 : Hid (Below w2.heap.size w2 w3) := over_bel hw2
              clear hw2 hne HBz
              have HF : Hid (OT W.heap.size w3 M c (takeT l) ∧ Below W.heap.size W w3 ∧ (takeT l).length = n) := by
                rw [← HD.out.2, HE.out]
                exact ⟨HO.out.grow HG_w3.out, HB_w3.out, HD.out.1⟩
              clear x0 x1 x2 x3 HC hMl HH HE
              have HRZ : Hid (RdT w3 (some ⟨g, o, none⟩) l) := HR.out.below HF.out.2.1
              have hXz := HX.out.grow HF.out.2.1
              have HXZ : Hid (Blk w3 w.heap.size #[.int .i64 0, .int .i64 0] 26) := hXz
              obtain ⟨y0, y1⟩ := rd_some HRZ.out (i := 0) (by rw [HN.out.1]; omega)
              rw [Nat.zero_mul, Nat.add_zero] at y0 y1
              have z0 : w3.cell? ⟨w.heap.size, 0, none⟩ = some (.int .i64 0) := hXz.cell 0
              have z1 : w3.cell? ⟨w.heap.size, 1, none⟩ = some (.int .i64 0) := hXz.cell 1
              have zf0 := hXz.frozen 0
              have zf1 := hXz.frozen 1
              have hn1 : (0 : Int) < (n : Int) + 1 := by omega
              clear hXz
              go_upto_region 17 with fail
              go_region
              go_wp2_with fail
              have hs : Blk ((w3.setCell ⟨w.heap.size, 0, none⟩ (.int .i64 (nthT l 0).1)).setCell ⟨w.heap.size, 1, none⟩ (.int .i64 (nthT l 0).2)).drew w.heap.size #[.int .i64 (nthT l 0).1, .int .i64 (nthT l 0).2] 26 := ((HXZ.out.set 0 _).set 1 _).drew
              have r0 := hs.cell 0
              have r1 := hs.cell 1
              refine bodyPost_ret (v := .tuple #[.slice (some ⟨M, 0, none⟩) n c, .agg #[.int .i64 (nthT l 0).1, .int .i64 (nthT l 0).2], .bool true]) (by simp [results, Try.results20, go_sem, r0, r1]) rfl ?_
              have hne : w.heap.size ≠ M := by have := HF.out.1.lo; have := HZ.out; omega
              obtain ⟨q0, q1, q2, cs', q3, q4, q5⟩ := HF.out.1
              exact ⟨⟨M, c, retT HF.out.2.2.symm HN.out.2.1.symm HN.out.2.2.symm, by have := HZ.out; omega, q1, q2, cs', ((q3.set_other (p := ⟨w.heap.size, 0, none⟩) hne _).set_other (p := ⟨w.heap.size, 1, none⟩) hne _).drew, q4, q5⟩, (((grow_on HB.out HF.out.2.1).setCell (p := ⟨w.heap.size, 0, none⟩) (Nat.le_refl _) _).setCell (p := ⟨w.heap.size, 1, none⟩) (Nat.le_refl _) _).drew⟩
        ·
          have db : decide (b < n) = false := decide_eq_false hbn
          have HK : Hid (kid m k = a) := by unfold Hid kid; rw [HA2.out, HA.out, if_neg (fun h => hbn (by have := h.1; rw [HD.out.1] at this; exact this))]
          have hne := Grown.some wr
          refine wp_over (z := wr) (by kernel_rfl) (by kernel_rfl) (Below.refl _ _) ?_
          repeat (go_big_quiet_step (fail))
          refine wpQuiet_nil ?_
          intro w2 hw2
          have HB_w2 : Hid (Below W.heap.size W w2) := grow_on HBz.out (over_bel hw2)
          have HG_w2 : Hid (Below wr.heap.size wr w2) := over_bel hw2
          clear hw2 hne HBz
          go_wp2
          have hkq : k < a := by omega
          have hq' : (a : Int) < (n : Int) := by omega
          have hk' : (k : Int) < (n : Int) := by omega
          have HO2 : Hid (OT W.heap.size w2 M c m) := HO.out.grow HG_w2.out
          have HBz : Hid (Below W.heap.size W w2) := HB_w2.out
          clear HO HG_w2 HB_w2 HB5 eb
          have HO : Hid (OT W.heap.size w2 M c m) := HO2.out
          clear HO2
          obtain ⟨cs, hM, hcs, hh⟩ := HO.out.row
          have hMl := hM.lt
          have HH : Hid (Blk w2 M cs 26 ∧ cs.size = c * 2 ∧ HeldT cs m m.length) := ⟨hM, hcs, hh⟩
          have h0 := hh a (by rw [HD.out.1]; omega)
          have h1 := hh k (by rw [HD.out.1]; omega)
          have hne := Grown.some w2
          have x0 := fun x : Grown w2 => x.cell (p := ⟨M, a * 2, none⟩) hMl ((hM.cell _).trans h0.1)
          have x1 := fun x : Grown w2 => x.cell (p := ⟨M, a * 2 + 1, none⟩) hMl ((hM.cell _).trans h0.2)
          have x2 := fun x : Grown w2 => x.cell (p := ⟨M, k * 2, none⟩) hMl ((hM.cell _).trans h1.1)
          have x3 := fun x : Grown w2 => x.cell (p := ⟨M, k * 2 + 1, none⟩) hMl ((hM.cell _).trans h1.2)
          clear hM hcs hh h0 h1
          by_cases cd : befB (nthT m a) (nthT m k) = true
          ·
            have HC : ∀ w, Hid (Calls Try.prog 29 #[.agg #[.int .i64 (nthT m a).1, .int .i64 (nthT m a).2], .agg #[.int .i64 (nthT m k).1, .int .i64 (nthT m k).2]] w fun e w' => e = .returned (.bool true) ∧ Below w.heap.size w w') := fun w => (specBefore_any (nthT m a) (nthT m k) w).mono fun e w' h => ⟨h.1.trans (retB cd), h.2⟩
            have hdd : down m k = down (swp m k (kid m k)) (kid m k) := down_go (l := m) (i := k) (by rw [HD.out.1, HA.out]; exact hlt) (by rw [HK.out]; exact cd)
            rw [HK.out] at hdd
            have HGo : Hid (down (swp m k a) a = takeT l ∧ (swp m k a).length = n) := ⟨by rw [← HD.out.2, hdd], by rw [swp_len]; exact HD.out.1⟩
            clear hdd
            clear cd
            refine wp_over (z := w2) (by kernel_rfl) (by kernel_rfl) (Below.refl _ _) ?_
            repeat (go_big_quiet_step (first | (go_at_call 29; exact call_over (HC _).out)))
            refine wpQuiet_nil ?_
            intro w3 hw2
            have HB_w3 : Hid (Below W.heap.size W w3) := grow_on HBz.out (over_bel hw2)
            have HG_w3 : Hid (Below w2.heap.size w2 w3) := over_bel hw2
            clear hw2 hne HBz
            have HN3 : Hid (Blk w3 M cs 26) := HH.out.1.grow HG_w3.out
            have hlt3 : M < w3.heap.size := HN3.out.lt
            have hne3 : M ≠ w3.heap.size := by omega
            have h0 := HH.out.2.2 a (by rw [HD.out.1]; omega)
            have h1 := HH.out.2.2 k (by rw [HD.out.1]; omega)
            have c0 : w3.cell? ⟨M, a * 2, none⟩ = some (.int .i64 (nthT m a).1) := (HN3.out.cell _).trans h0.1
            have c1 : w3.cell? ⟨M, a * 2 + 1, none⟩ = some (.int .i64 (nthT m a).2) := (HN3.out.cell _).trans h0.2
            have c2 : w3.cell? ⟨M, k * 2, none⟩ = some (.int .i64 (nthT m k).1) := (HN3.out.cell _).trans h1.1
            have c3 : w3.cell? ⟨M, k * 2 + 1, none⟩ = some (.int .i64 (nthT m k).2) := (HN3.out.cell _).trans h1.2
            have f2 := HN3.out.frozen (k * 2)
            have f3 := HN3.out.frozen (k * 2 + 1)
            have HQ : Hid (a < m.length ∧ k < m.length ∧ m.length * 2 ≤ cs.size) := ⟨by rw [HD.out.1]; omega, by rw [HD.out.1]; omega, by rw [HH.out.2.1]; have := HO.out.le; omega⟩
            clear h0 h1 x0 x1 x2 x3 HC hMl
            go_upto_region 15 with fail
            generalize hW : (((w3.setCell ⟨M, k * 2, none⟩ (.int .i64 (nthT m a).1)).setCell ⟨M, k * 2 + 1, none⟩ (.int .i64 (nthT m a).2)).alloc (.cells #[.int .i64 (nthT m k).1, .int .i64 (nthT m k).2] 26)) = W3
            have H3 : Hid (Blk W3 M ((cs.setIfInBounds (k * 2) (.int .i64 (nthT m a).1)).setIfInBounds (k * 2 + 1) (.int .i64 (nthT m a).2)) 26) := by rw [← hW]; exact ((HN3.out.set _ _).set _ _).alloc _
            have HX3 : Hid (Blk W3 w3.heap.size #[.int .i64 (nthT m k).1, .int .i64 (nthT m k).2] 26) := by rw [← hW]; exact Blk.new_at (by simp)
            have HB4 : Hid (Below W.heap.size W W3) := by rw [← hW]; exact ((HB_w3.out.setCell (p := ⟨M, k * 2, none⟩) HO.out.lo _).setCell (p := ⟨M, k * 2 + 1, none⟩) HO.out.lo _).alloc (by simp; exact HB_w3.out.size) _
            clear hW c0 c1 c2 c3 f2 f3
            have hs := H3.out
            have e0 : W3.cell? ⟨w3.heap.size, 0, none⟩ = some (.int .i64 (nthT m k).1) := HX3.out.cell 0
            have e1 : W3.cell? ⟨w3.heap.size, 1, none⟩ = some (.int .i64 (nthT m k).2) := HX3.out.cell 1
            have hsz : a * 2 + 1 < ((cs.setIfInBounds (k * 2) (.int .i64 (nthT m a).1)).setIfInBounds (k * 2 + 1) (.int .i64 (nthT m a).2)).size := by simp; have := HQ.out; omega
            obtain ⟨v2, d2⟩ : ∃ v, W3.cell? ⟨M, a * 2, none⟩ = some v := ⟨_, (hs.cell _).trans (Array.getElem?_eq_getElem (by omega))⟩
            obtain ⟨v3, d3⟩ : ∃ v, W3.cell? ⟨M, a * 2 + 1, none⟩ = some v := ⟨_, (hs.cell _).trans (Array.getElem?_eq_getElem hsz)⟩
            have g2 := hs.frozen (a * 2)
            have g3 := hs.frozen (a * 2 + 1)
            clear hs hsz
            go_wp2
            go_roundw
            case rel => exact ⟨a, swp m k a, by go_num, by omega, HGo.out.2, HGo.out.1, ⟨HO.out.lo, by rw [swp_len]; exact HO.out.le, HO.out.cap, swpC cs m k a, (H3.out.set _ _).set _ _, by rw [swpC_size]; exact HH.out.2.1, swpC_held HH.out.2.2 HQ.out.2.1 HQ.out.1 HQ.out.2.2⟩, (HB4.out.setCell (p := ⟨M, a * 2, none⟩) HO.out.lo _).setCell (p := ⟨M, a * 2 + 1, none⟩) HO.out.lo _⟩
            case measure => simp [intOf]; omega
          ·
            have cd' : befB (nthT m a) (nthT m k) = false := by simpa using cd
            have HC : ∀ w, Hid (Calls Try.prog 29 #[.agg #[.int .i64 (nthT m a).1, .int .i64 (nthT m a).2], .agg #[.int .i64 (nthT m k).1, .int .i64 (nthT m k).2]] w fun e w' => e = .returned (.bool false) ∧ Below w.heap.size w w') := fun w => (specBefore_any (nthT m a) (nthT m k) w).mono fun e w' h => ⟨h.1.trans (retB cd'), h.2⟩
            have HE : Hid (down m k = m) := down_stop (fun h => by have h2 := h.2; rw [HK.out, cd'] at h2; exact absurd h2 (by decide))
            clear cd cd'
            refine wp_over (z := w2) (by kernel_rfl) (by kernel_rfl) (Below.refl _ _) ?_
            repeat (go_big_quiet_step (first | (go_at_call 29; exact call_over (HC _).out)))
            refine wpQuiet_nil ?_
            intro w3 hw2
            have HB_w3 : Hid (Below W.heap.size W w3) := grow_on HBz.out (over_bel hw2)
            have HG_w3 : Hid (Below w2.heap.size w2 w3) := over_bel hw2
            clear hw2 hne HBz
            have HF : Hid (OT W.heap.size w3 M c (takeT l) ∧ Below W.heap.size W w3 ∧ (takeT l).length = n) := by
              rw [← HD.out.2, HE.out]
              exact ⟨HO.out.grow HG_w3.out, HB_w3.out, HD.out.1⟩
            clear x0 x1 x2 x3 HC hMl HH HE
            have HRZ : Hid (RdT w3 (some ⟨g, o, none⟩) l) := HR.out.below HF.out.2.1
            have hXz := HX.out.grow HF.out.2.1
            have HXZ : Hid (Blk w3 w.heap.size #[.int .i64 0, .int .i64 0] 26) := hXz
            obtain ⟨y0, y1⟩ := rd_some HRZ.out (i := 0) (by rw [HN.out.1]; omega)
            rw [Nat.zero_mul, Nat.add_zero] at y0 y1
            have z0 : w3.cell? ⟨w.heap.size, 0, none⟩ = some (.int .i64 0) := hXz.cell 0
            have z1 : w3.cell? ⟨w.heap.size, 1, none⟩ = some (.int .i64 0) := hXz.cell 1
            have zf0 := hXz.frozen 0
            have zf1 := hXz.frozen 1
            have hn1 : (0 : Int) < (n : Int) + 1 := by omega
            clear hXz
            go_upto_region 17 with fail
            go_region
            go_wp2_with fail
            have hs : Blk ((w3.setCell ⟨w.heap.size, 0, none⟩ (.int .i64 (nthT l 0).1)).setCell ⟨w.heap.size, 1, none⟩ (.int .i64 (nthT l 0).2)).drew w.heap.size #[.int .i64 (nthT l 0).1, .int .i64 (nthT l 0).2] 26 := ((HXZ.out.set 0 _).set 1 _).drew
            have r0 := hs.cell 0
            have r1 := hs.cell 1
            refine bodyPost_ret (v := .tuple #[.slice (some ⟨M, 0, none⟩) n c, .agg #[.int .i64 (nthT l 0).1, .int .i64 (nthT l 0).2], .bool true]) (by simp [results, Try.results20, go_sem, r0, r1]) rfl ?_
            have hne : w.heap.size ≠ M := by have := HF.out.1.lo; have := HZ.out; omega
            obtain ⟨q0, q1, q2, cs', q3, q4, q5⟩ := HF.out.1
            exact ⟨⟨M, c, retT HF.out.2.2.symm HN.out.2.1.symm HN.out.2.2.symm, by have := HZ.out; omega, q1, q2, cs', ((q3.set_other (p := ⟨w.heap.size, 0, none⟩) hne _).set_other (p := ⟨w.heap.size, 1, none⟩) hne _).drew, q4, q5⟩, (((grow_on HB.out HF.out.2.1).setCell (p := ⟨w.heap.size, 0, none⟩) (Nat.le_refl _) _).setCell (p := ⟨w.heap.size, 1, none⟩) (Nat.le_refl _) _).drew⟩
      · have hge : ¬ (a : Int) < (n : Int) := by omega
        have HF : Hid (OT W.heap.size wr M c (takeT l) ∧ Below W.heap.size W wr ∧ (takeT l).length = n) := by
          have e : down m k = m := down_stop (fun h => hlt (by rw [HD.out.1] at h; omega))
          rw [← HD.out.2, e]
          exact ⟨HO.out, HB5.out, HD.out.1⟩
        clear ha hlt
        have HRZ : Hid (RdT wr (some ⟨g, o, none⟩) l) := HR.out.below HF.out.2.1
        have hXz := HX.out.grow HF.out.2.1
        have HXZ : Hid (Blk wr w.heap.size #[.int .i64 0, .int .i64 0] 26) := hXz
        obtain ⟨y0, y1⟩ := rd_some HRZ.out (i := 0) (by rw [HN.out.1]; omega)
        rw [Nat.zero_mul, Nat.add_zero] at y0 y1
        have z0 : wr.cell? ⟨w.heap.size, 0, none⟩ = some (.int .i64 0) := hXz.cell 0
        have z1 : wr.cell? ⟨w.heap.size, 1, none⟩ = some (.int .i64 0) := hXz.cell 1
        have zf0 := hXz.frozen 0
        have zf1 := hXz.frozen 1
        have hn1 : (0 : Int) < (n : Int) + 1 := by omega
        clear hXz
        go_upto_region 17 with fail
        go_region
        go_wp2_with fail
        have hs : Blk ((wr.setCell ⟨w.heap.size, 0, none⟩ (.int .i64 (nthT l 0).1)).setCell ⟨w.heap.size, 1, none⟩ (.int .i64 (nthT l 0).2)).drew w.heap.size #[.int .i64 (nthT l 0).1, .int .i64 (nthT l 0).2] 26 := ((HXZ.out.set 0 _).set 1 _).drew
        have r0 := hs.cell 0
        have r1 := hs.cell 1
        refine bodyPost_ret (v := .tuple #[.slice (some ⟨M, 0, none⟩) n c, .agg #[.int .i64 (nthT l 0).1, .int .i64 (nthT l 0).2], .bool true]) (by simp [results, Try.results20, go_sem, r0, r1]) rfl ?_
        have hne : w.heap.size ≠ M := by have := HF.out.1.lo; have := HZ.out; omega
        obtain ⟨q0, q1, q2, cs', q3, q4, q5⟩ := HF.out.1
        exact ⟨⟨M, c, retT HF.out.2.2.symm HN.out.2.1.symm HN.out.2.2.symm, by have := HZ.out; omega, q1, q2, cs', ((q3.set_other (p := ⟨w.heap.size, 0, none⟩) hne _).set_other (p := ⟨w.heap.size, 1, none⟩) hne _).drew, q4, q5⟩, (((grow_on HB.out HF.out.2.1).setCell (p := ⟨w.heap.size, 0, none⟩) (Nat.le_refl _) _).setCell (p := ⟨w.heap.size, 1, none⟩) (Nat.le_refl _) _).drew⟩
  ·
    have HE : Hid (base l = (l.take n).set 0 (nthT l n)) := base_set HN.out.1 (by omega)
    have hb : decide (0 < n) = true := decide_eq_true (by omega)
    have h0n : (0 : Int) < (n : Int) := by omega
    have hnn : (n : Int) < (n : Int) + 1 := by omega
    have HQ : Hid (0 < n) := by unfold Hid; omega
    obtain ⟨y0, y1⟩ := rd_some (HR.out.below HM.out.2.1) (i := n) (by rw [HN.out.1]; omega)
    obtain ⟨cs, hM, hcs, hh⟩ := HM.out.1.row
    have HH : Hid (Blk w4 M cs 26 ∧ cs.size = c * 2 ∧ HeldT cs (l.take n) (l.take n).length) := ⟨hM, hcs, hh⟩
    have hc1 : n ≤ c := by have := HM.out.1.le; rw [HM.out.2.2] at this; exact this
    obtain ⟨u0, p0⟩ : ∃ v, w4.cell? ⟨M, 0, none⟩ = some v := ⟨_, (hM.cell _).trans (Array.getElem?_eq_getElem (by omega))⟩
    obtain ⟨u1, p1⟩ : ∃ v, w4.cell? ⟨M, 1, none⟩ = some v := ⟨_, (hM.cell _).trans (Array.getElem?_eq_getElem (by omega))⟩
    have f0 := hM.frozen 0
    have f1 := hM.frozen 1
    clear hM hcs hh h1
    go_upto_region 7 with fail
    generalize hW : (w4.setCell ⟨M, 0, none⟩ (.int .i64 (nthT l n).1)).setCell ⟨M, 1, none⟩ (.int .i64 (nthT l n).2) = w5
    have H5 : Hid (OT W.heap.size w5 M c (base l) ∧ Below W.heap.size W w5 ∧ (base l).length = n) := by
      rw [← hW]
      refine ⟨?_, (HM.out.2.1.setCell (p := ⟨M, 0, none⟩) HM.out.1.lo _).setCell (p := ⟨M, 1, none⟩) HM.out.1.lo _, by rw [base_len, HN.out.1]; rfl⟩
      rw [HE.out]
      refine ⟨HM.out.1.lo, by rw [List.length_set]; exact HM.out.1.le, HM.out.1.cap, _, (HH.out.1.set 0 _).set 1 _, by simp; exact HH.out.2.1, ?_⟩
      exact held_set (k := 0) (x := nthT l n) HH.out.2.2 (by rw [HM.out.2.2]; exact HQ.out) (by rw [HM.out.2.2, HH.out.2.1]; omega)
    clear hW HE HH HM p0 p1 f0 f1 y0 y1 hc1 h0n hnn
    go_wp2
    go_loopw [7] (fun i w' => ∃ (k : Nat) (m : List Tm), i = .int .i64 k ∧ k ≤ n ∧ m.length = n ∧ down m k = takeT l ∧ OT W.heap.size w' M c m ∧ Below W.heap.size W w') (fun i _ => n - (intOf i).toNat)
    case atStart => exact ⟨0, base l, rfl, Nat.zero_le _, H5.out.2.2, rfl, H5.out.1, H5.out.2.1⟩
    case round =>
      obtain ⟨k, m, rfl, hk, hm, hd, ho, hb⟩ := hrel
      have HB5 : Hid (Below W.heap.size W wr) := hb
      have HO : Hid (OT W.heap.size wr M c m) := ho
      have HD : Hid (m.length = n ∧ down m k = takeT l) := ⟨hm, hd⟩
      clear hb hd ho hm
      obtain ⟨a, ha⟩ : ∃ a, 2 * k + 1 = a := ⟨_, rfl⟩
      have ea : 2 * (k : Int) + 1 = (a : Int) := by omega
      have hw2 : RowKit.wrap64 (2 * (k : Int)) = 2 * (k : Int) := IntWalk.wrap64_in _ (by omega)
      have hw3 : RowKit.wrap64 (a : Int) = (a : Int) := IntWalk.wrap64_in _ (by omega)
      by_cases hlt : a < n
      · have hlt' : (a : Int) < (n : Int) := by omega
      
        have HA : Hid (2 * k + 1 = a) := ha
        have hka : k < a := by omega
        have HBz : Hid (Below W.heap.size W wr) := HB5.out
        go_upto_region 10 with fail
        clear ha ea hw2 hw3
        obtain ⟨b, hb⟩ : ∃ b, a + 1 = b := ⟨_, rfl⟩
        have eb : (a : Int) + 1 = (b : Int) := by omega
        have hab : a < b := by omega
        have HA2 : Hid (2 * k + 2 = b) := by have := HA.out; unfold Hid; omega
        clear hb
        by_cases hbn : b < n
        ·
          have hbn' : (b : Int) < (n : Int) := by omega
          have db : decide (b < n) = true := decide_eq_true hbn
          obtain ⟨cs, hM, hcs, hh⟩ := HO.out.row
          have hMl := hM.lt
          have HH : Hid (Blk wr M cs 26 ∧ cs.size = c * 2 ∧ HeldT cs m m.length) := ⟨hM, hcs, hh⟩
          have h0 := hh b (by rw [HD.out.1]; omega)
          have h1 := hh a (by rw [HD.out.1]; omega)
          have hne := Grown.some wr
          have x0 := fun x : Grown wr => x.cell (p := ⟨M, b * 2, none⟩) hMl ((hM.cell _).trans h0.1)
          have x1 := fun x : Grown wr => x.cell (p := ⟨M, b * 2 + 1, none⟩) hMl ((hM.cell _).trans h0.2)
          have x2 := fun x : Grown wr => x.cell (p := ⟨M, a * 2, none⟩) hMl ((hM.cell _).trans h1.1)
          have x3 := fun x : Grown wr => x.cell (p := ⟨M, a * 2 + 1, none⟩) hMl ((hM.cell _).trans h1.2)
          clear hM hcs hh h0 h1
          by_cases cb : befB (nthT m b) (nthT m a) = true
          ·
            have HK : Hid (kid m k = b) := by unfold Hid kid; rw [HA2.out, HA.out, if_pos ⟨by rw [HD.out.1]; exact hbn, cb⟩]
            have HC : ∀ w, Hid (Calls Try.prog 29 #[.agg #[.int .i64 (nthT m b).1, .int .i64 (nthT m b).2], .agg #[.int .i64 (nthT m a).1, .int .i64 (nthT m a).2]] w fun e w' => e = .returned (.bool true) ∧ Below w.heap.size w w') := fun w => (specBefore_any (nthT m b) (nthT m a) w).mono fun e w' h => ⟨h.1.trans (retB cb), h.2⟩
            clear cb
            refine wp_over (z := wr) (by kernel_rfl) (by kernel_rfl) (Below.refl _ _) ?_
            repeat (go_big_quiet_step (first | (go_at_call 29; exact call_over (HC _).out)))
            refine wpQuiet_nil ?_
            intro w2 hw2
            have HB_w2 : Hid (Below W.heap.size W w2) := grow_on HBz.out (over_bel hw2)
            have HG_w2 : Hid (Below wr.heap.size wr w2) := over_bel hw2
            clear hw2 hne HBz
            clear x0 x1 x2 x3 HC HH hMl
            go_wp2
            have hkq : k < b := by omega
            have hq' : (b : Int) < (n : Int) := by omega
            have hk' : (k : Int) < (n : Int) := by omega
            have HO2 : Hid (OT W.heap.size w2 M c m) := HO.out.grow HG_w2.out
            have HBz : Hid (Below W.heap.size W w2) := HB_w2.out
            clear HO HG_w2 HB_w2 HB5 eb
            have HO : Hid (OT W.heap.size w2 M c m) := HO2.out
            clear HO2
            obtain ⟨cs, hM, hcs, hh⟩ := HO.out.row
            have hMl := hM.lt
            have HH : Hid (Blk w2 M cs 26 ∧ cs.size = c * 2 ∧ HeldT cs m m.length) := ⟨hM, hcs, hh⟩
            have h0 := hh b (by rw [HD.out.1]; omega)
            have h1 := hh k (by rw [HD.out.1]; omega)
            have hne := Grown.some w2
            have x0 := fun x : Grown w2 => x.cell (p := ⟨M, b * 2, none⟩) hMl ((hM.cell _).trans h0.1)
            have x1 := fun x : Grown w2 => x.cell (p := ⟨M, b * 2 + 1, none⟩) hMl ((hM.cell _).trans h0.2)
            have x2 := fun x : Grown w2 => x.cell (p := ⟨M, k * 2, none⟩) hMl ((hM.cell _).trans h1.1)
            have x3 := fun x : Grown w2 => x.cell (p := ⟨M, k * 2 + 1, none⟩) hMl ((hM.cell _).trans h1.2)
            clear hM hcs hh h0 h1
            by_cases cd : befB (nthT m b) (nthT m k) = true
            ·
              have HC : ∀ w, Hid (Calls Try.prog 29 #[.agg #[.int .i64 (nthT m b).1, .int .i64 (nthT m b).2], .agg #[.int .i64 (nthT m k).1, .int .i64 (nthT m k).2]] w fun e w' => e = .returned (.bool true) ∧ Below w.heap.size w w') := fun w => (specBefore_any (nthT m b) (nthT m k) w).mono fun e w' h => ⟨h.1.trans (retB cd), h.2⟩
              have hdd : down m k = down (swp m k (kid m k)) (kid m k) := down_go (l := m) (i := k) (by rw [HD.out.1, HA.out]; exact hlt) (by rw [HK.out]; exact cd)
              rw [HK.out] at hdd
              have HGo : Hid (down (swp m k b) b = takeT l ∧ (swp m k b).length = n) := ⟨by rw [← HD.out.2, hdd], by rw [swp_len]; exact HD.out.1⟩
              clear hdd
              clear cd
              refine wp_over (z := w2) (by kernel_rfl) (by kernel_rfl) (Below.refl _ _) ?_
              repeat (go_big_quiet_step (first | (go_at_call 29; exact call_over (HC _).out)))
              refine wpQuiet_nil ?_
              intro w3 hw2
              have HB_w3 : Hid (Below W.heap.size W w3) := grow_on HBz.out (over_bel hw2)
              have HG_w3 : Hid (Below w2.heap.size w2 w3) := over_bel hw2
              clear hw2 hne HBz
              have HN3 : Hid (Blk w3 M cs 26) := HH.out.1.grow HG_w3.out
              have hlt3 : M < w3.heap.size := HN3.out.lt
              have hne3 : M ≠ w3.heap.size := by omega
              have h0 := HH.out.2.2 b (by rw [HD.out.1]; omega)
              have h1 := HH.out.2.2 k (by rw [HD.out.1]; omega)
              have c0 : w3.cell? ⟨M, b * 2, none⟩ = some (.int .i64 (nthT m b).1) := (HN3.out.cell _).trans h0.1
              have c1 : w3.cell? ⟨M, b * 2 + 1, none⟩ = some (.int .i64 (nthT m b).2) := (HN3.out.cell _).trans h0.2
              have c2 : w3.cell? ⟨M, k * 2, none⟩ = some (.int .i64 (nthT m k).1) := (HN3.out.cell _).trans h1.1
              have c3 : w3.cell? ⟨M, k * 2 + 1, none⟩ = some (.int .i64 (nthT m k).2) := (HN3.out.cell _).trans h1.2
              have f2 := HN3.out.frozen (k * 2)
              have f3 := HN3.out.frozen (k * 2 + 1)
              have HQ : Hid (b < m.length ∧ k < m.length ∧ m.length * 2 ≤ cs.size) := ⟨by rw [HD.out.1]; omega, by rw [HD.out.1]; omega, by rw [HH.out.2.1]; have := HO.out.le; omega⟩
              clear h0 h1 x0 x1 x2 x3 HC hMl
              go_upto_region 15 with fail
              generalize hW : (((w3.setCell ⟨M, k * 2, none⟩ (.int .i64 (nthT m b).1)).setCell ⟨M, k * 2 + 1, none⟩ (.int .i64 (nthT m b).2)).alloc (.cells #[.int .i64 (nthT m k).1, .int .i64 (nthT m k).2] 26)) = W3
              have H3 : Hid (Blk W3 M ((cs.setIfInBounds (k * 2) (.int .i64 (nthT m b).1)).setIfInBounds (k * 2 + 1) (.int .i64 (nthT m b).2)) 26) := by rw [← hW]; exact ((HN3.out.set _ _).set _ _).alloc _
              have HX3 : Hid (Blk W3 w3.heap.size #[.int .i64 (nthT m k).1, .int .i64 (nthT m k).2] 26) := by rw [← hW]; exact Blk.new_at (by simp)
              have HB4 : Hid (Below W.heap.size W W3) := by rw [← hW]; exact ((HB_w3.out.setCell (p := ⟨M, k * 2, none⟩) HO.out.lo _).setCell (p := ⟨M, k * 2 + 1, none⟩) HO.out.lo _).alloc (by simp; exact HB_w3.out.size) _
              clear hW c0 c1 c2 c3 f2 f3
              have hs := H3.out
              have e0 : W3.cell? ⟨w3.heap.size, 0, none⟩ = some (.int .i64 (nthT m k).1) := HX3.out.cell 0
              have e1 : W3.cell? ⟨w3.heap.size, 1, none⟩ = some (.int .i64 (nthT m k).2) := HX3.out.cell 1
              have hsz : b * 2 + 1 < ((cs.setIfInBounds (k * 2) (.int .i64 (nthT m b).1)).setIfInBounds (k * 2 + 1) (.int .i64 (nthT m b).2)).size := by simp; have := HQ.out; omega
              obtain ⟨v2, d2⟩ : ∃ v, W3.cell? ⟨M, b * 2, none⟩ = some v := ⟨_, (hs.cell _).trans (Array.getElem?_eq_getElem (by omega))⟩
              obtain ⟨v3, d3⟩ : ∃ v, W3.cell? ⟨M, b * 2 + 1, none⟩ = some v := ⟨_, (hs.cell _).trans (Array.getElem?_eq_getElem hsz)⟩
              have g2 := hs.frozen (b * 2)
              have g3 := hs.frozen (b * 2 + 1)
              clear hs hsz
              go_wp2
              go_roundw
              case rel => exact ⟨b, swp m k b, by go_num, by omega, HGo.out.2, HGo.out.1, ⟨HO.out.lo, by rw [swp_len]; exact HO.out.le, HO.out.cap, swpC cs m k b, (H3.out.set _ _).set _ _, by rw [swpC_size]; exact HH.out.2.1, swpC_held HH.out.2.2 HQ.out.2.1 HQ.out.1 HQ.out.2.2⟩, (HB4.out.setCell (p := ⟨M, b * 2, none⟩) HO.out.lo _).setCell (p := ⟨M, b * 2 + 1, none⟩) HO.out.lo _⟩
              case measure => simp [intOf]; omega
            ·
              have cd' : befB (nthT m b) (nthT m k) = false := by simpa using cd
              have HC : ∀ w, Hid (Calls Try.prog 29 #[.agg #[.int .i64 (nthT m b).1, .int .i64 (nthT m b).2], .agg #[.int .i64 (nthT m k).1, .int .i64 (nthT m k).2]] w fun e w' => e = .returned (.bool false) ∧ Below w.heap.size w w') := fun w => (specBefore_any (nthT m b) (nthT m k) w).mono fun e w' h => ⟨h.1.trans (retB cd'), h.2⟩
              have HE : Hid (down m k = m) := down_stop (fun h => by have h2 := h.2; rw [HK.out, cd'] at h2; exact absurd h2 (by decide))
              clear cd cd'
              refine wp_over (z := w2) (by kernel_rfl) (by kernel_rfl) (Below.refl _ _) ?_
              repeat (go_big_quiet_step (first | (go_at_call 29; exact call_over (HC _).out)))
              refine wpQuiet_nil ?_
              intro w3 hw2
              have HB_w3 : Hid (Below W.heap.size W w3) := grow_on HBz.out (over_bel hw2)
              have HG_w3 : Hid (Below w2.heap.size w2 w3) := over_bel hw2
              clear hw2 hne HBz
              have HF : Hid (OT W.heap.size w3 M c (takeT l) ∧ Below W.heap.size W w3 ∧ (takeT l).length = n) := by
                rw [← HD.out.2, HE.out]
                exact ⟨HO.out.grow HG_w3.out, HB_w3.out, HD.out.1⟩
              clear x0 x1 x2 x3 HC hMl HH HE
              have HRZ : Hid (RdT w3 (some ⟨g, o, none⟩) l) := HR.out.below HF.out.2.1
              have hXz := HX.out.grow HF.out.2.1
              have HXZ : Hid (Blk w3 w.heap.size #[.int .i64 0, .int .i64 0] 26) := hXz
              obtain ⟨y0, y1⟩ := rd_some HRZ.out (i := 0) (by rw [HN.out.1]; omega)
              rw [Nat.zero_mul, Nat.add_zero] at y0 y1
              have z0 : w3.cell? ⟨w.heap.size, 0, none⟩ = some (.int .i64 0) := hXz.cell 0
              have z1 : w3.cell? ⟨w.heap.size, 1, none⟩ = some (.int .i64 0) := hXz.cell 1
              have zf0 := hXz.frozen 0
              have zf1 := hXz.frozen 1
              have hn1 : (0 : Int) < (n : Int) + 1 := by omega
              clear hXz
              go_upto_region 17 with fail
              go_region
              go_wp2_with fail
              have hs : Blk ((w3.setCell ⟨w.heap.size, 0, none⟩ (.int .i64 (nthT l 0).1)).setCell ⟨w.heap.size, 1, none⟩ (.int .i64 (nthT l 0).2)).drew w.heap.size #[.int .i64 (nthT l 0).1, .int .i64 (nthT l 0).2] 26 := ((HXZ.out.set 0 _).set 1 _).drew
              have r0 := hs.cell 0
              have r1 := hs.cell 1
              refine bodyPost_ret (v := .tuple #[.slice (some ⟨M, 0, none⟩) n c, .agg #[.int .i64 (nthT l 0).1, .int .i64 (nthT l 0).2], .bool true]) (by simp [results, Try.results20, go_sem, r0, r1]) rfl ?_
              have hne : w.heap.size ≠ M := by have := HF.out.1.lo; have := HZ.out; omega
              obtain ⟨q0, q1, q2, cs', q3, q4, q5⟩ := HF.out.1
              exact ⟨⟨M, c, retT HF.out.2.2.symm HN.out.2.1.symm HN.out.2.2.symm, by have := HZ.out; omega, q1, q2, cs', ((q3.set_other (p := ⟨w.heap.size, 0, none⟩) hne _).set_other (p := ⟨w.heap.size, 1, none⟩) hne _).drew, q4, q5⟩, (((grow_on HB.out HF.out.2.1).setCell (p := ⟨w.heap.size, 0, none⟩) (Nat.le_refl _) _).setCell (p := ⟨w.heap.size, 1, none⟩) (Nat.le_refl _) _).drew⟩
          ·
            have cb' : befB (nthT m b) (nthT m a) = false := by simpa using cb
            have HK : Hid (kid m k = a) := by unfold Hid kid; rw [HA2.out, HA.out, if_neg (fun h => cb h.2)]
            have HC : ∀ w, Hid (Calls Try.prog 29 #[.agg #[.int .i64 (nthT m b).1, .int .i64 (nthT m b).2], .agg #[.int .i64 (nthT m a).1, .int .i64 (nthT m a).2]] w fun e w' => e = .returned (.bool false) ∧ Below w.heap.size w w') := fun w => (specBefore_any (nthT m b) (nthT m a) w).mono fun e w' h => ⟨h.1.trans (retB cb'), h.2⟩
            clear cb cb'
            refine wp_over (z := wr) (by kernel_rfl) (by kernel_rfl) (Below.refl _ _) ?_
            repeat (go_big_quiet_step (first | (go_at_call 29; exact call_over (HC _).out)))
            refine wpQuiet_nil ?_
            intro w2 hw2
            have HB_w2 : Hid (Below W.heap.size W w2) := grow_on HBz.out (over_bel hw2)
            have HG_w2 : Hid (Below wr.heap.size wr w2) := over_bel hw2
            clear hw2 hne HBz
            clear x0 x1 x2 x3 HC HH hMl
            go_wp2
            have hkq : k < a := by omega
            have hq' : (a : Int) < (n : Int) := by omega
            have hk' : (k : Int) < (n : Int) := by omega
            have HO2 : Hid (OT W.heap.size w2 M c m) := HO.out.grow HG_w2.out
            have HBz : Hid (Below W.heap.size W w2) := HB_w2.out
            clear HO HG_w2 HB_w2 HB5 eb
            have HO : Hid (OT W.heap.size w2 M c m) := HO2.out
            clear HO2
            obtain ⟨cs, hM, hcs, hh⟩ := HO.out.row
            have hMl := hM.lt
            have HH : Hid (Blk w2 M cs 26 ∧ cs.size = c * 2 ∧ HeldT cs m m.length) := ⟨hM, hcs, hh⟩
            have h0 := hh a (by rw [HD.out.1]; omega)
            have h1 := hh k (by rw [HD.out.1]; omega)
            have hne := Grown.some w2
            have x0 := fun x : Grown w2 => x.cell (p := ⟨M, a * 2, none⟩) hMl ((hM.cell _).trans h0.1)
            have x1 := fun x : Grown w2 => x.cell (p := ⟨M, a * 2 + 1, none⟩) hMl ((hM.cell _).trans h0.2)
            have x2 := fun x : Grown w2 => x.cell (p := ⟨M, k * 2, none⟩) hMl ((hM.cell _).trans h1.1)
            have x3 := fun x : Grown w2 => x.cell (p := ⟨M, k * 2 + 1, none⟩) hMl ((hM.cell _).trans h1.2)
            clear hM hcs hh h0 h1
            by_cases cd : befB (nthT m a) (nthT m k) = true
            ·
              have HC : ∀ w, Hid (Calls Try.prog 29 #[.agg #[.int .i64 (nthT m a).1, .int .i64 (nthT m a).2], .agg #[.int .i64 (nthT m k).1, .int .i64 (nthT m k).2]] w fun e w' => e = .returned (.bool true) ∧ Below w.heap.size w w') := fun w => (specBefore_any (nthT m a) (nthT m k) w).mono fun e w' h => ⟨h.1.trans (retB cd), h.2⟩
              have hdd : down m k = down (swp m k (kid m k)) (kid m k) := down_go (l := m) (i := k) (by rw [HD.out.1, HA.out]; exact hlt) (by rw [HK.out]; exact cd)
              rw [HK.out] at hdd
              have HGo : Hid (down (swp m k a) a = takeT l ∧ (swp m k a).length = n) := ⟨by rw [← HD.out.2, hdd], by rw [swp_len]; exact HD.out.1⟩
              clear hdd
              clear cd
              refine wp_over (z := w2) (by kernel_rfl) (by kernel_rfl) (Below.refl _ _) ?_
              repeat (go_big_quiet_step (first | (go_at_call 29; exact call_over (HC _).out)))
              refine wpQuiet_nil ?_
              intro w3 hw2
              have HB_w3 : Hid (Below W.heap.size W w3) := grow_on HBz.out (over_bel hw2)
              have HG_w3 : Hid (Below w2.heap.size w2 w3) := over_bel hw2
              clear hw2 hne HBz
              have HN3 : Hid (Blk w3 M cs 26) := HH.out.1.grow HG_w3.out
              have hlt3 : M < w3.heap.size := HN3.out.lt
              have hne3 : M ≠ w3.heap.size := by omega
              have h0 := HH.out.2.2 a (by rw [HD.out.1]; omega)
              have h1 := HH.out.2.2 k (by rw [HD.out.1]; omega)
              have c0 : w3.cell? ⟨M, a * 2, none⟩ = some (.int .i64 (nthT m a).1) := (HN3.out.cell _).trans h0.1
              have c1 : w3.cell? ⟨M, a * 2 + 1, none⟩ = some (.int .i64 (nthT m a).2) := (HN3.out.cell _).trans h0.2
              have c2 : w3.cell? ⟨M, k * 2, none⟩ = some (.int .i64 (nthT m k).1) := (HN3.out.cell _).trans h1.1
              have c3 : w3.cell? ⟨M, k * 2 + 1, none⟩ = some (.int .i64 (nthT m k).2) := (HN3.out.cell _).trans h1.2
              have f2 := HN3.out.frozen (k * 2)
              have f3 := HN3.out.frozen (k * 2 + 1)
              have HQ : Hid (a < m.length ∧ k < m.length ∧ m.length * 2 ≤ cs.size) := ⟨by rw [HD.out.1]; omega, by rw [HD.out.1]; omega, by rw [HH.out.2.1]; have := HO.out.le; omega⟩
              clear h0 h1 x0 x1 x2 x3 HC hMl
              go_upto_region 15 with fail
              generalize hW : (((w3.setCell ⟨M, k * 2, none⟩ (.int .i64 (nthT m a).1)).setCell ⟨M, k * 2 + 1, none⟩ (.int .i64 (nthT m a).2)).alloc (.cells #[.int .i64 (nthT m k).1, .int .i64 (nthT m k).2] 26)) = W3
              have H3 : Hid (Blk W3 M ((cs.setIfInBounds (k * 2) (.int .i64 (nthT m a).1)).setIfInBounds (k * 2 + 1) (.int .i64 (nthT m a).2)) 26) := by rw [← hW]; exact ((HN3.out.set _ _).set _ _).alloc _
              have HX3 : Hid (Blk W3 w3.heap.size #[.int .i64 (nthT m k).1, .int .i64 (nthT m k).2] 26) := by rw [← hW]; exact Blk.new_at (by simp)
              have HB4 : Hid (Below W.heap.size W W3) := by rw [← hW]; exact ((HB_w3.out.setCell (p := ⟨M, k * 2, none⟩) HO.out.lo _).setCell (p := ⟨M, k * 2 + 1, none⟩) HO.out.lo _).alloc (by simp; exact HB_w3.out.size) _
              clear hW c0 c1 c2 c3 f2 f3
              have hs := H3.out
              have e0 : W3.cell? ⟨w3.heap.size, 0, none⟩ = some (.int .i64 (nthT m k).1) := HX3.out.cell 0
              have e1 : W3.cell? ⟨w3.heap.size, 1, none⟩ = some (.int .i64 (nthT m k).2) := HX3.out.cell 1
              have hsz : a * 2 + 1 < ((cs.setIfInBounds (k * 2) (.int .i64 (nthT m a).1)).setIfInBounds (k * 2 + 1) (.int .i64 (nthT m a).2)).size := by simp; have := HQ.out; omega
              obtain ⟨v2, d2⟩ : ∃ v, W3.cell? ⟨M, a * 2, none⟩ = some v := ⟨_, (hs.cell _).trans (Array.getElem?_eq_getElem (by omega))⟩
              obtain ⟨v3, d3⟩ : ∃ v, W3.cell? ⟨M, a * 2 + 1, none⟩ = some v := ⟨_, (hs.cell _).trans (Array.getElem?_eq_getElem hsz)⟩
              have g2 := hs.frozen (a * 2)
              have g3 := hs.frozen (a * 2 + 1)
              clear hs hsz
              go_wp2
              go_roundw
              case rel => exact ⟨a, swp m k a, by go_num, by omega, HGo.out.2, HGo.out.1, ⟨HO.out.lo, by rw [swp_len]; exact HO.out.le, HO.out.cap, swpC cs m k a, (H3.out.set _ _).set _ _, by rw [swpC_size]; exact HH.out.2.1, swpC_held HH.out.2.2 HQ.out.2.1 HQ.out.1 HQ.out.2.2⟩, (HB4.out.setCell (p := ⟨M, a * 2, none⟩) HO.out.lo _).setCell (p := ⟨M, a * 2 + 1, none⟩) HO.out.lo _⟩
              case measure => simp [intOf]; omega
            ·
              have cd' : befB (nthT m a) (nthT m k) = false := by simpa using cd
              have HC : ∀ w, Hid (Calls Try.prog 29 #[.agg #[.int .i64 (nthT m a).1, .int .i64 (nthT m a).2], .agg #[.int .i64 (nthT m k).1, .int .i64 (nthT m k).2]] w fun e w' => e = .returned (.bool false) ∧ Below w.heap.size w w') := fun w => (specBefore_any (nthT m a) (nthT m k) w).mono fun e w' h => ⟨h.1.trans (retB cd'), h.2⟩
              have HE : Hid (down m k = m) := down_stop (fun h => by have h2 := h.2; rw [HK.out, cd'] at h2; exact absurd h2 (by decide))
              clear cd cd'
              refine wp_over (z := w2) (by kernel_rfl) (by kernel_rfl) (Below.refl _ _) ?_
              repeat (go_big_quiet_step (first | (go_at_call 29; exact call_over (HC _).out)))
              refine wpQuiet_nil ?_
              intro w3 hw2
              have HB_w3 : Hid (Below W.heap.size W w3) := grow_on HBz.out (over_bel hw2)
              have HG_w3 : Hid (Below w2.heap.size w2 w3) := over_bel hw2
              clear hw2 hne HBz
              have HF : Hid (OT W.heap.size w3 M c (takeT l) ∧ Below W.heap.size W w3 ∧ (takeT l).length = n) := by
                rw [← HD.out.2, HE.out]
                exact ⟨HO.out.grow HG_w3.out, HB_w3.out, HD.out.1⟩
              clear x0 x1 x2 x3 HC hMl HH HE
              have HRZ : Hid (RdT w3 (some ⟨g, o, none⟩) l) := HR.out.below HF.out.2.1
              have hXz := HX.out.grow HF.out.2.1
              have HXZ : Hid (Blk w3 w.heap.size #[.int .i64 0, .int .i64 0] 26) := hXz
              obtain ⟨y0, y1⟩ := rd_some HRZ.out (i := 0) (by rw [HN.out.1]; omega)
              rw [Nat.zero_mul, Nat.add_zero] at y0 y1
              have z0 : w3.cell? ⟨w.heap.size, 0, none⟩ = some (.int .i64 0) := hXz.cell 0
              have z1 : w3.cell? ⟨w.heap.size, 1, none⟩ = some (.int .i64 0) := hXz.cell 1
              have zf0 := hXz.frozen 0
              have zf1 := hXz.frozen 1
              have hn1 : (0 : Int) < (n : Int) + 1 := by omega
              clear hXz
              go_upto_region 17 with fail
              go_region
              go_wp2_with fail
              have hs : Blk ((w3.setCell ⟨w.heap.size, 0, none⟩ (.int .i64 (nthT l 0).1)).setCell ⟨w.heap.size, 1, none⟩ (.int .i64 (nthT l 0).2)).drew w.heap.size #[.int .i64 (nthT l 0).1, .int .i64 (nthT l 0).2] 26 := ((HXZ.out.set 0 _).set 1 _).drew
              have r0 := hs.cell 0
              have r1 := hs.cell 1
              refine bodyPost_ret (v := .tuple #[.slice (some ⟨M, 0, none⟩) n c, .agg #[.int .i64 (nthT l 0).1, .int .i64 (nthT l 0).2], .bool true]) (by simp [results, Try.results20, go_sem, r0, r1]) rfl ?_
              have hne : w.heap.size ≠ M := by have := HF.out.1.lo; have := HZ.out; omega
              obtain ⟨q0, q1, q2, cs', q3, q4, q5⟩ := HF.out.1
              exact ⟨⟨M, c, retT HF.out.2.2.symm HN.out.2.1.symm HN.out.2.2.symm, by have := HZ.out; omega, q1, q2, cs', ((q3.set_other (p := ⟨w.heap.size, 0, none⟩) hne _).set_other (p := ⟨w.heap.size, 1, none⟩) hne _).drew, q4, q5⟩, (((grow_on HB.out HF.out.2.1).setCell (p := ⟨w.heap.size, 0, none⟩) (Nat.le_refl _) _).setCell (p := ⟨w.heap.size, 1, none⟩) (Nat.le_refl _) _).drew⟩
        ·
          have db : decide (b < n) = false := decide_eq_false hbn
          have HK : Hid (kid m k = a) := by unfold Hid kid; rw [HA2.out, HA.out, if_neg (fun h => hbn (by have := h.1; rw [HD.out.1] at this; exact this))]
          have hne := Grown.some wr
          refine wp_over (z := wr) (by kernel_rfl) (by kernel_rfl) (Below.refl _ _) ?_
          repeat (go_big_quiet_step (fail))
          refine wpQuiet_nil ?_
          intro w2 hw2
          have HB_w2 : Hid (Below W.heap.size W w2) := grow_on HBz.out (over_bel hw2)
          have HG_w2 : Hid (Below wr.heap.size wr w2) := over_bel hw2
          clear hw2 hne HBz
          go_wp2
          have hkq : k < a := by omega
          have hq' : (a : Int) < (n : Int) := by omega
          have hk' : (k : Int) < (n : Int) := by omega
          have HO2 : Hid (OT W.heap.size w2 M c m) := HO.out.grow HG_w2.out
          have HBz : Hid (Below W.heap.size W w2) := HB_w2.out
          clear HO HG_w2 HB_w2 HB5 eb
          have HO : Hid (OT W.heap.size w2 M c m) := HO2.out
          clear HO2
          obtain ⟨cs, hM, hcs, hh⟩ := HO.out.row
          have hMl := hM.lt
          have HH : Hid (Blk w2 M cs 26 ∧ cs.size = c * 2 ∧ HeldT cs m m.length) := ⟨hM, hcs, hh⟩
          have h0 := hh a (by rw [HD.out.1]; omega)
          have h1 := hh k (by rw [HD.out.1]; omega)
          have hne := Grown.some w2
          have x0 := fun x : Grown w2 => x.cell (p := ⟨M, a * 2, none⟩) hMl ((hM.cell _).trans h0.1)
          have x1 := fun x : Grown w2 => x.cell (p := ⟨M, a * 2 + 1, none⟩) hMl ((hM.cell _).trans h0.2)
          have x2 := fun x : Grown w2 => x.cell (p := ⟨M, k * 2, none⟩) hMl ((hM.cell _).trans h1.1)
          have x3 := fun x : Grown w2 => x.cell (p := ⟨M, k * 2 + 1, none⟩) hMl ((hM.cell _).trans h1.2)
          clear hM hcs hh h0 h1
          by_cases cd : befB (nthT m a) (nthT m k) = true
          ·
            have HC : ∀ w, Hid (Calls Try.prog 29 #[.agg #[.int .i64 (nthT m a).1, .int .i64 (nthT m a).2], .agg #[.int .i64 (nthT m k).1, .int .i64 (nthT m k).2]] w fun e w' => e = .returned (.bool true) ∧ Below w.heap.size w w') := fun w => (specBefore_any (nthT m a) (nthT m k) w).mono fun e w' h => ⟨h.1.trans (retB cd), h.2⟩
            have hdd : down m k = down (swp m k (kid m k)) (kid m k) := down_go (l := m) (i := k) (by rw [HD.out.1, HA.out]; exact hlt) (by rw [HK.out]; exact cd)
            rw [HK.out] at hdd
            have HGo : Hid (down (swp m k a) a = takeT l ∧ (swp m k a).length = n) := ⟨by rw [← HD.out.2, hdd], by rw [swp_len]; exact HD.out.1⟩
            clear hdd
            clear cd
            refine wp_over (z := w2) (by kernel_rfl) (by kernel_rfl) (Below.refl _ _) ?_
            repeat (go_big_quiet_step (first | (go_at_call 29; exact call_over (HC _).out)))
            refine wpQuiet_nil ?_
            intro w3 hw2
            have HB_w3 : Hid (Below W.heap.size W w3) := grow_on HBz.out (over_bel hw2)
            have HG_w3 : Hid (Below w2.heap.size w2 w3) := over_bel hw2
            clear hw2 hne HBz
            have HN3 : Hid (Blk w3 M cs 26) := HH.out.1.grow HG_w3.out
            have hlt3 : M < w3.heap.size := HN3.out.lt
            have hne3 : M ≠ w3.heap.size := by omega
            have h0 := HH.out.2.2 a (by rw [HD.out.1]; omega)
            have h1 := HH.out.2.2 k (by rw [HD.out.1]; omega)
            have c0 : w3.cell? ⟨M, a * 2, none⟩ = some (.int .i64 (nthT m a).1) := (HN3.out.cell _).trans h0.1
            have c1 : w3.cell? ⟨M, a * 2 + 1, none⟩ = some (.int .i64 (nthT m a).2) := (HN3.out.cell _).trans h0.2
            have c2 : w3.cell? ⟨M, k * 2, none⟩ = some (.int .i64 (nthT m k).1) := (HN3.out.cell _).trans h1.1
            have c3 : w3.cell? ⟨M, k * 2 + 1, none⟩ = some (.int .i64 (nthT m k).2) := (HN3.out.cell _).trans h1.2
            have f2 := HN3.out.frozen (k * 2)
            have f3 := HN3.out.frozen (k * 2 + 1)
            have HQ : Hid (a < m.length ∧ k < m.length ∧ m.length * 2 ≤ cs.size) := ⟨by rw [HD.out.1]; omega, by rw [HD.out.1]; omega, by rw [HH.out.2.1]; have := HO.out.le; omega⟩
            clear h0 h1 x0 x1 x2 x3 HC hMl
            go_upto_region 15 with fail
            generalize hW : (((w3.setCell ⟨M, k * 2, none⟩ (.int .i64 (nthT m a).1)).setCell ⟨M, k * 2 + 1, none⟩ (.int .i64 (nthT m a).2)).alloc (.cells #[.int .i64 (nthT m k).1, .int .i64 (nthT m k).2] 26)) = W3
            have H3 : Hid (Blk W3 M ((cs.setIfInBounds (k * 2) (.int .i64 (nthT m a).1)).setIfInBounds (k * 2 + 1) (.int .i64 (nthT m a).2)) 26) := by rw [← hW]; exact ((HN3.out.set _ _).set _ _).alloc _
            have HX3 : Hid (Blk W3 w3.heap.size #[.int .i64 (nthT m k).1, .int .i64 (nthT m k).2] 26) := by rw [← hW]; exact Blk.new_at (by simp)
            have HB4 : Hid (Below W.heap.size W W3) := by rw [← hW]; exact ((HB_w3.out.setCell (p := ⟨M, k * 2, none⟩) HO.out.lo _).setCell (p := ⟨M, k * 2 + 1, none⟩) HO.out.lo _).alloc (by simp; exact HB_w3.out.size) _
            clear hW c0 c1 c2 c3 f2 f3
            have hs := H3.out
            have e0 : W3.cell? ⟨w3.heap.size, 0, none⟩ = some (.int .i64 (nthT m k).1) := HX3.out.cell 0
            have e1 : W3.cell? ⟨w3.heap.size, 1, none⟩ = some (.int .i64 (nthT m k).2) := HX3.out.cell 1
            have hsz : a * 2 + 1 < ((cs.setIfInBounds (k * 2) (.int .i64 (nthT m a).1)).setIfInBounds (k * 2 + 1) (.int .i64 (nthT m a).2)).size := by simp; have := HQ.out; omega
            obtain ⟨v2, d2⟩ : ∃ v, W3.cell? ⟨M, a * 2, none⟩ = some v := ⟨_, (hs.cell _).trans (Array.getElem?_eq_getElem (by omega))⟩
            obtain ⟨v3, d3⟩ : ∃ v, W3.cell? ⟨M, a * 2 + 1, none⟩ = some v := ⟨_, (hs.cell _).trans (Array.getElem?_eq_getElem hsz)⟩
            have g2 := hs.frozen (a * 2)
            have g3 := hs.frozen (a * 2 + 1)
            clear hs hsz
            go_wp2
            go_roundw
            case rel => exact ⟨a, swp m k a, by go_num, by omega, HGo.out.2, HGo.out.1, ⟨HO.out.lo, by rw [swp_len]; exact HO.out.le, HO.out.cap, swpC cs m k a, (H3.out.set _ _).set _ _, by rw [swpC_size]; exact HH.out.2.1, swpC_held HH.out.2.2 HQ.out.2.1 HQ.out.1 HQ.out.2.2⟩, (HB4.out.setCell (p := ⟨M, a * 2, none⟩) HO.out.lo _).setCell (p := ⟨M, a * 2 + 1, none⟩) HO.out.lo _⟩
            case measure => simp [intOf]; omega
          ·
            have cd' : befB (nthT m a) (nthT m k) = false := by simpa using cd
            have HC : ∀ w, Hid (Calls Try.prog 29 #[.agg #[.int .i64 (nthT m a).1, .int .i64 (nthT m a).2], .agg #[.int .i64 (nthT m k).1, .int .i64 (nthT m k).2]] w fun e w' => e = .returned (.bool false) ∧ Below w.heap.size w w') := fun w => (specBefore_any (nthT m a) (nthT m k) w).mono fun e w' h => ⟨h.1.trans (retB cd'), h.2⟩
            have HE : Hid (down m k = m) := down_stop (fun h => by have h2 := h.2; rw [HK.out, cd'] at h2; exact absurd h2 (by decide))
            clear cd cd'
            refine wp_over (z := w2) (by kernel_rfl) (by kernel_rfl) (Below.refl _ _) ?_
            repeat (go_big_quiet_step (first | (go_at_call 29; exact call_over (HC _).out)))
            refine wpQuiet_nil ?_
            intro w3 hw2
            have HB_w3 : Hid (Below W.heap.size W w3) := grow_on HBz.out (over_bel hw2)
            have HG_w3 : Hid (Below w2.heap.size w2 w3) := over_bel hw2
            clear hw2 hne HBz
            have HF : Hid (OT W.heap.size w3 M c (takeT l) ∧ Below W.heap.size W w3 ∧ (takeT l).length = n) := by
              rw [← HD.out.2, HE.out]
              exact ⟨HO.out.grow HG_w3.out, HB_w3.out, HD.out.1⟩
            clear x0 x1 x2 x3 HC hMl HH HE
            have HRZ : Hid (RdT w3 (some ⟨g, o, none⟩) l) := HR.out.below HF.out.2.1
            have hXz := HX.out.grow HF.out.2.1
            have HXZ : Hid (Blk w3 w.heap.size #[.int .i64 0, .int .i64 0] 26) := hXz
            obtain ⟨y0, y1⟩ := rd_some HRZ.out (i := 0) (by rw [HN.out.1]; omega)
            rw [Nat.zero_mul, Nat.add_zero] at y0 y1
            have z0 : w3.cell? ⟨w.heap.size, 0, none⟩ = some (.int .i64 0) := hXz.cell 0
            have z1 : w3.cell? ⟨w.heap.size, 1, none⟩ = some (.int .i64 0) := hXz.cell 1
            have zf0 := hXz.frozen 0
            have zf1 := hXz.frozen 1
            have hn1 : (0 : Int) < (n : Int) + 1 := by omega
            clear hXz
            go_upto_region 17 with fail
            go_region
            go_wp2_with fail
            have hs : Blk ((w3.setCell ⟨w.heap.size, 0, none⟩ (.int .i64 (nthT l 0).1)).setCell ⟨w.heap.size, 1, none⟩ (.int .i64 (nthT l 0).2)).drew w.heap.size #[.int .i64 (nthT l 0).1, .int .i64 (nthT l 0).2] 26 := ((HXZ.out.set 0 _).set 1 _).drew
            have r0 := hs.cell 0
            have r1 := hs.cell 1
            refine bodyPost_ret (v := .tuple #[.slice (some ⟨M, 0, none⟩) n c, .agg #[.int .i64 (nthT l 0).1, .int .i64 (nthT l 0).2], .bool true]) (by simp [results, Try.results20, go_sem, r0, r1]) rfl ?_
            have hne : w.heap.size ≠ M := by have := HF.out.1.lo; have := HZ.out; omega
            obtain ⟨q0, q1, q2, cs', q3, q4, q5⟩ := HF.out.1
            exact ⟨⟨M, c, retT HF.out.2.2.symm HN.out.2.1.symm HN.out.2.2.symm, by have := HZ.out; omega, q1, q2, cs', ((q3.set_other (p := ⟨w.heap.size, 0, none⟩) hne _).set_other (p := ⟨w.heap.size, 1, none⟩) hne _).drew, q4, q5⟩, (((grow_on HB.out HF.out.2.1).setCell (p := ⟨w.heap.size, 0, none⟩) (Nat.le_refl _) _).setCell (p := ⟨w.heap.size, 1, none⟩) (Nat.le_refl _) _).drew⟩
      · have hge : ¬ (a : Int) < (n : Int) := by omega
        have HF : Hid (OT W.heap.size wr M c (takeT l) ∧ Below W.heap.size W wr ∧ (takeT l).length = n) := by
          have e : down m k = m := down_stop (fun h => hlt (by rw [HD.out.1] at h; omega))
          rw [← HD.out.2, e]
          exact ⟨HO.out, HB5.out, HD.out.1⟩
        clear ha hlt
        have HRZ : Hid (RdT wr (some ⟨g, o, none⟩) l) := HR.out.below HF.out.2.1
        have hXz := HX.out.grow HF.out.2.1
        have HXZ : Hid (Blk wr w.heap.size #[.int .i64 0, .int .i64 0] 26) := hXz
        obtain ⟨y0, y1⟩ := rd_some HRZ.out (i := 0) (by rw [HN.out.1]; omega)
        rw [Nat.zero_mul, Nat.add_zero] at y0 y1
        have z0 : wr.cell? ⟨w.heap.size, 0, none⟩ = some (.int .i64 0) := hXz.cell 0
        have z1 : wr.cell? ⟨w.heap.size, 1, none⟩ = some (.int .i64 0) := hXz.cell 1
        have zf0 := hXz.frozen 0
        have zf1 := hXz.frozen 1
        have hn1 : (0 : Int) < (n : Int) + 1 := by omega
        clear hXz
        go_upto_region 17 with fail
        go_region
        go_wp2_with fail
        have hs : Blk ((wr.setCell ⟨w.heap.size, 0, none⟩ (.int .i64 (nthT l 0).1)).setCell ⟨w.heap.size, 1, none⟩ (.int .i64 (nthT l 0).2)).drew w.heap.size #[.int .i64 (nthT l 0).1, .int .i64 (nthT l 0).2] 26 := ((HXZ.out.set 0 _).set 1 _).drew
        have r0 := hs.cell 0
        have r1 := hs.cell 1
        refine bodyPost_ret (v := .tuple #[.slice (some ⟨M, 0, none⟩) n c, .agg #[.int .i64 (nthT l 0).1, .int .i64 (nthT l 0).2], .bool true]) (by simp [results, Try.results20, go_sem, r0, r1]) rfl ?_
        have hne : w.heap.size ≠ M := by have := HF.out.1.lo; have := HZ.out; omega
        obtain ⟨q0, q1, q2, cs', q3, q4, q5⟩ := HF.out.1
        exact ⟨⟨M, c, retT HF.out.2.2.symm HN.out.2.1.symm HN.out.2.2.symm, by have := HZ.out; omega, q1, q2, cs', ((q3.set_other (p := ⟨w.heap.size, 0, none⟩) hne _).set_other (p := ⟨w.heap.size, 1, none⟩) hne _).drew, q4, q5⟩, (((grow_on HB.out HF.out.2.1).setCell (p := ⟨w.heap.size, 0, none⟩) (Nat.le_refl _) _).setCell (p := ⟨w.heap.size, 1, none⟩) (Nat.le_refl _) _).drew⟩
end Go.Proofs.Ytcjhieknmblbbaa.HpT
