/-
  PROVED: the contracts of the comparing function that SortSet hands to the library's sort, and of the library's insertion sort over labels: it leaves the row sorted as the plain lists say.
-/
import Derived.Test.YtinegehejinmiaaLabP
import Derived.Test.YtinegehejinmiaaLabT
namespace Go.Proofs.Ytinegehejinmiaa.LabQ
open Go.RowKit
open Go.Proofs.Ytinegehejinmiaa.Labs Go.Proofs.Ytinegehejinmiaa.LabS Go.Proofs.Ytinegehejinmiaa.LabP Go.Proofs.Ytinegehejinmiaa.Over Go.Proofs.Ytinegehejinmiaa.Blk
open Go.Proofs.Ytinegehejinmiaa.StrB (lessB retB)
set_option linter.unusedVariables false

def cmpI (x y : Lab) : Int := if lessB x.1 y.1 = true then -1 else if lessB y.1 x.1 = true then 1 else 0
theorem cmp_less {x y : Lab} (h : lessB x.1 y.1 = true) : cmpI x y = -1 := if_pos h
theorem cmp_more {x y : Lab} (h : lessB x.1 y.1 = false) (k : lessB y.1 x.1 = true) : cmpI x y = 1 := by unfold cmpI; rw [if_neg (by rw [h]; simp), if_pos k]
theorem cmp_same {x y : Lab} (h : lessB x.1 y.1 = false) (k : lessB y.1 x.1 = false) : cmpI x y = 0 := by unfold cmpI; rw [if_neg (by rw [h]; simp), if_neg (by rw [k]; simp)]
theorem cmp_ge {x y : Lab} (h : lessB x.1 y.1 = false) : 0 ≤ cmpI x y := by
  cases k : lessB y.1 x.1 with
  | true => rw [cmp_more h k]; decide
  | false => rw [cmp_same h k]; decide
theorem retI {a b : Int} (h : a = b) : Ending.returned (.int .i64 a) = .returned (.int .i64 b) := by rw [h]

theorem cmp_any (x y : Lab) (b0 : Nat) (w : World) (hc : w.cell? ⟨b0, 0, none⟩ = some (.func (.func 63) #[] #[])) (hb : b0 < w.heap.size) :
    Calls Try.prog 94 #[.agg #[.string x.1, .string x.2], .agg #[.string y.1, .string y.2], .pointer (some ⟨b0, 0, none⟩)] w fun e w' => e = .returned (.int .i64 (cmpI x y)) ∧ Below w.heap.size w w' := by
  obtain ⟨n, v⟩ := x
  obtain ⟨m, u⟩ := y
  have HA : ∀ o o', Hid (Below w.heap.size w ((w.alloc o).alloc o')) := fun o o' => ((Below.refl _ _).alloc (Nat.le_refl _) o).alloc (by simp) o'
  have hc1 : ∀ o o', ((w.alloc o).alloc o').cell? ⟨b0, 0, none⟩ = some (.func (.func 63) #[] #[]) := fun o o' => by
    rw [World.cell?_alloc_lt _ _ _ (by simp; omega), World.cell?_alloc_lt _ _ _ hb]; exact hc
  clear hc
  cases h : lessB n m with
  | true =>
    have HL : Hid (cmpI (n, v) (m, u) = -1) := cmp_less h
    go_enter Try.func94, Try.ntmps94
    go_wp2_with fail
    refine (nameLess_any (n, v) (m, u) _).mono ?_
    rintro e w1 ⟨rfl, hb1⟩
    have HB1 : Hid (Below w.heap.size w w1) := grow_on (HA _ _).out hb1
    clear hb1
    simp only [h]
    go_wp2
    go_ret
    exact ⟨retI HL.out.symm, HB1.out⟩
  | false =>
    have k2 : cmpI (n, v) (m, u) = if lessB m n = true then 1 else 0 := by unfold cmpI; rw [if_neg (by rw [h]; simp)]
    have HL : Hid (cmpI (n, v) (m, u) = if lessB m n = true then 1 else 0) := k2
    clear k2
    go_enter Try.func94, Try.ntmps94
    go_wp2_with fail
    refine (nameLess_any (n, v) (m, u) _).mono ?_
    rintro e w1 ⟨rfl, hb1⟩
    have HB1 : Hid (Below w.heap.size w w1) := grow_on (HA _ _).out hb1
    have c0 : w1.cell? ⟨b0, 0, none⟩ = some (.func (.func 63) #[] #[]) := by rw [hb1.cell (by simp; omega)]; exact hc1 _ _
    have c1 : w1.cell? ⟨w.heap.size, 0, none⟩ = some (.string n) := by rw [hb1.cell (by simp; omega)]; simp
    have c2 : w1.cell? ⟨w.heap.size, 1, none⟩ = some (.string v) := by rw [hb1.cell (by simp; omega)]; simp
    have c3 : w1.cell? ⟨w.heap.size + 1, 0, none⟩ = some (.string m) := by rw [hb1.cell (by simp)]; simp
    have c4 : w1.cell? ⟨w.heap.size + 1, 1, none⟩ = some (.string u) := by rw [hb1.cell (by simp)]; simp
    clear hb1
    simp only [h]
    go_wp2_with fail
    refine (nameLess_any (m, u) (n, v) _).mono ?_
    rintro e w2 ⟨rfl, hb2⟩
    have HB2 : Hid (Below w.heap.size w w2) := grow_on HB1.out hb2
    clear hb2
    cases k : lessB m n with
    | true =>
      have HK : Hid (cmpI (n, v) (m, u) = 1) := by show _ = _; rw [HL.out, if_pos k]
      go_wp2
      go_ret
      exact ⟨retI HK.out.symm, HB2.out⟩
    | false =>
      have HK : Hid (cmpI (n, v) (m, u) = 0) := by show _ = _; rw [HL.out, if_neg (by rw [k]; simp)]
      go_wp2
      go_ret
      exact ⟨retI HK.out.symm, HB2.out⟩

/-- the cells hold what f says, up to the n-th element -/
def HeldF (cs : Array Value) (f : Nat → Lab) (n : Nat) : Prop := ∀ m, m < n → cs[m * 2]? = some (.string (f m).1) ∧ cs[m * 2 + 1]? = some (.string (f m).2)
theorem HeldF.of {cs : Array Value} {f g : Nat → Lab} {n : Nat} (h : HeldF cs f n) (e : ∀ m, m < n → g m = f m) : HeldF cs g n := fun m hm => by rw [e m hm]; exact h m hm
theorem upto_one (l : List Lab) : upto l 1 = [nth l 0] := rfl

theorem set_hit {cs : Array Value} {i : Nat} {v : Value} (h : i < cs.size) : (cs.setIfInBounds i v)[i]? = some v := by
  rw [Array.getElem?_setIfInBounds, if_pos rfl, if_pos h]
theorem set_miss {cs : Array Value} {i j : Nat} {v : Value} (h : i ≠ j) : (cs.setIfInBounds i v)[j]? = cs[j]? := Array.getElem?_setIfInBounds_ne h
theorem swap_held {cs : Array Value} {l : List Lab} {i k n : Nat} (h : HeldF cs (nth (row l i (k + 1))) n) (hk : k + 1 ≤ i) (hn : k + 1 < n) (hs : cs.size = n * 2) :
    HeldF ((((cs.setIfInBounds ((k + 1) * 2) (.string (nth (upto l i) k).1)).setIfInBounds ((k + 1) * 2 + 1) (.string (nth (upto l i) k).2)).setIfInBounds (k * 2) (.string (nth l i).1)).setIfInBounds (k * 2 + 1) (.string (nth l i).2)) (nth (row l i k)) n := by
  intro m hm
  rw [row_swap hk]
  by_cases h1 : m = k
  · rw [if_pos h1, row_at hk, h1]
    exact ⟨by rw [set_miss (by omega), set_hit (by simp; omega)], by rw [set_hit (by simp; omega)]⟩
  · rw [if_neg h1]
    by_cases h2 : m = k + 1
    · rw [if_pos h2, row_ahead hk, h2]
      exact ⟨by rw [set_miss (by omega), set_miss (by omega), set_miss (by omega), set_hit (by omega)], by rw [set_miss (by omega), set_miss (by omega), set_hit (by simp; omega)]⟩
    · rw [if_neg h2]
      rw [set_miss (by omega), set_miss (by omega), set_miss (by omega), set_miss (by omega), set_miss (by omega), set_miss (by omega), set_miss (by omega), set_miss (by omega)]
      exact h m hm

set_option maxHeartbeats 1600000 in
theorem ins_any (M b0 cap : Nat) (l : List Lab) (cs : Array Value) (w : World) (hB : Blk w M cs 29) (hs : cs.size = l.length * 2) (hh : HeldF cs (nth l) l.length) (hl : l.length ≤ 20)
    (hc : w.cell? ⟨b0, 0, none⟩ = some (.func (.func 63) #[] #[])) (hb0 : b0 < M) :
    Calls Try.prog 115 #[.slice (some ⟨M, 0, none⟩) l.length cap, .int .i64 0, .int .i64 l.length, .func (.func 94) #[] #[.pointer (some ⟨b0, 0, none⟩)]] w
      fun e w' => e = .returned (.tuple #[]) ∧ Below M w w' ∧ ∃ cs' : Array Value, Blk w' M cs' 29 ∧ cs'.size = l.length * 2 ∧ HeldF cs' (nth (upto l l.length)) l.length := by
  have HC : Hid (w.cell? ⟨b0, 0, none⟩ = some (.func (.func 63) #[] #[])) := hc
  have HK : Hid (Blk w M cs 29) := hB
  have HS : Hid (cs.size = l.length * 2) := hs
  have HH : Hid (HeldF cs (nth l) l.length) := hh
  clear hc hB hs hh
  go_enter Try.func115, Try.ntmps115
  go_wp2
  go_loopw [8] (fun v w' => ∃ (i : Nat) (cs' : Array Value), v = .int .i64 (i + 1) ∧ (i + 1 ≤ l.length ∨ i = 0) ∧ Below M w w' ∧ Blk w' M cs' 29 ∧ cs'.size = l.length * 2 ∧ HeldF cs' (fun m => if m < i + 1 then nth (upto l (i + 1)) m else nth l m) l.length) (fun v _ => l.length + 1 - (intOf v).toNat)
  case atStart =>
    refine ⟨0, cs, rfl, .inr rfl, Below.refl _ _, HK.out, HS.out, HH.out.of fun m hm => ?_⟩
    by_cases h0 : m < 0 + 1
    · obtain rfl : m = 0 := by omega
      rw [if_pos h0]; rfl
    · rw [if_neg h0]
  case round =>
    obtain ⟨i, cs1, rfl, hi, hw0, hB, hs, hh⟩ := hrel
    have HW : Hid (Below M w wr) := hw0
    have HK1 : Hid (Blk wr M cs1 29) := hB
    have HS1 : Hid (cs1.size = l.length * 2) := hs
    have HH1 : Hid (HeldF cs1 (fun m => if m < i + 1 then nth (upto l (i + 1)) m else nth l m) l.length) := hh
    clear hw0 hB hs hh HK HS HH
    by_cases hlt : i + 1 < l.length
    · have hlt' : (i : Int) + 1 < (l.length : Int) := by omega
      go_wp2
      go_loopw [9] (fun v w' => ∃ (j : Nat) (cs' : Array Value), v = .int .i64 j ∧ j ≤ i + 1 ∧ pos (nth l (i + 1)) (upto l (i + 1)) (i + 1) = pos (nth l (i + 1)) (upto l (i + 1)) j ∧ Below M w w' ∧ Blk w' M cs' 29 ∧ cs'.size = l.length * 2 ∧ HeldF cs' (nth (row l (i + 1) j)) l.length) (fun v _ => (intOf v).toNat)
      case atStart => exact ⟨i + 1, cs1, by go_num, Nat.le_refl _, rfl, HW.out, HK1.out, HS1.out, HH1.out.of fun m hm => row_start hlt⟩
      case round =>
        obtain ⟨j, cs2, rfl, hj, hp, hw0, hB, hs, hh⟩ := hrel
        have HW2 : Hid (Below M w wr) := hw0
        have HK2 : Hid (Blk wr M cs2 29) := hB
        have HS2 : Hid (cs2.size = l.length * 2) := hs
        have HH2 : Hid (HeldF cs2 (nth (row l (i + 1) j)) l.length) := hh
        have HP : Hid (pos (nth l (i + 1)) (upto l (i + 1)) (i + 1) = pos (nth l (i + 1)) (upto l (i + 1)) j) := hp
        have hMr : M < wr.heap.size := hB.lt
        have hne := Grown.some wr
        have HCm : ∀ (x y : Lab) (q : Grown wr), Hid (Calls Try.prog 94 #[.agg #[.string x.1, .string x.2], .agg #[.string y.1, .string y.2], .pointer (some ⟨b0, 0, none⟩)] q.out fun e w' => e = .returned (.int .i64 (cmpI x y)) ∧ Below q.out.heap.size q.out w') := fun x y q =>
          cmp_any x y b0 q.out (by rw [q.bel.cell (by simp; omega), hw0.cell (by exact hb0)]; exact HC.out) (Nat.lt_of_lt_of_le (Nat.lt_trans hb0 hMr) q.bel.size)
        clear hw0 hB hs hh hp HW HK1 HS1 HH1
        by_cases hj0 : j = 0
        · have hd : decide (0 < j) = false := decide_eq_false (by omega)
          have HE : Hid (HeldF cs2 (fun m => if m < i + 1 + 1 then nth (upto l (i + 1 + 1)) m else nth l m) l.length) := HH2.out.of fun m hm => by
            have := row_end (m := m) hlt
            rw [HP.out, hj0, pos_zero] at this
            rw [hj0]; exact this.symm
          clear hj0
          go_wp2
          refine wp_over (z := wr) (by kernel_rfl) (by kernel_rfl) (Below.refl _ _) ?_
          repeat (go_big_quiet_step (fail))
          refine wpQuiet_nil ?_
          intro w2 hw2
          have hb2 := over_bel hw2
          have HK3 : Hid (Blk w2 M cs2 29) := HK2.out.grow hb2
          have HW3 : Hid (Below M w w2) := HW2.out.trans (hb2.mono (Nat.le_of_lt hMr))
          clear hw2 hne hb2
          go_wp2
          go_roundw
          case rel => exact ⟨i + 1, cs2, by go_num, .inl (by omega), HW3.out, HK3.out, HS2.out, HE.out⟩
          case measure => simp [intOf]; omega
        · obtain ⟨k, rfl⟩ : ∃ k, j = k + 1 := ⟨j - 1, by omega⟩
          have ek : ((k + 1 : Nat) : Int) = (k : Int) + 1 := by omega
          have hk1 : (k : Int) + 1 < (l.length : Int) := by omega
          have hk0 : (k : Int) < (l.length : Int) := by omega
          have hkp : (0 : Int) < (k : Int) + 1 := by omega
          have hw : IntKind.i64.wrap (k : Int) = (k : Int) := by rw [IntKind.wrap_i64]; omega
          obtain ⟨g0, g1⟩ := HH2.out (k + 1) (by omega)
          obtain ⟨g2, g3⟩ := HH2.out k (by omega)
          rw [row_at hj] at g0 g1
          rw [row_ahead hj] at g2 g3
          have x0 := fun q : Grown wr => q.cell (p := ⟨M, (k + 1) * 2, none⟩) hMr ((HK2.out.cell _).trans g0)
          have x1 := fun q : Grown wr => q.cell (p := ⟨M, (k + 1) * 2 + 1, none⟩) hMr ((HK2.out.cell _).trans g1)
          have x2 := fun q : Grown wr => q.cell (p := ⟨M, k * 2, none⟩) hMr ((HK2.out.cell _).trans g2)
          have x3 := fun q : Grown wr => q.cell (p := ⟨M, k * 2 + 1, none⟩) hMr ((HK2.out.cell _).trans g3)
          clear g0 g1 g2 g3 hj0
          cases hq : lessB (nth l (i + 1)).1 (nth (upto l (i + 1)) k).1 with
          | true =>
            have HC1 : ∀ q : Grown wr, Hid (Calls Try.prog 94 #[.agg #[.string (nth l (i + 1)).1, .string (nth l (i + 1)).2], .agg #[.string (nth (upto l (i + 1)) k).1, .string (nth (upto l (i + 1)) k).2], .pointer (some ⟨b0, 0, none⟩)] q.out fun e w' => e = .returned (.int .i64 (-1)) ∧ Below q.out.heap.size q.out w') := fun q => (HCm _ _ q).out.mono fun e w' h => ⟨h.1.trans (retI (cmp_less hq)), h.2⟩
            have HQ : Hid (lessB (nth l (i + 1)).1 (nth (upto l (i + 1)) k).1 = true) := hq
            clear hq
            rw [ek]
            go_wp2
            refine wp_over (z := wr) (by kernel_rfl) (by kernel_rfl) (Below.refl _ _) ?_
            repeat (go_big_quiet_step (first | (go_at_call 94; exact call_over (HC1 _).out)))
            refine wpQuiet_nil ?_
            intro w2 hw2
            have hb2 := over_bel hw2
            have HK3 : Hid (Blk w2 M cs2 29) := HK2.out.grow hb2
            have HW3 : Hid (Below M w w2) := HW2.out.trans (hb2.mono (Nat.le_of_lt hMr))
            have hb3 := hb2
            clear hw2 hne hb2
            have y0 : w2.cell? ⟨M, (k + 1) * 2, none⟩ = some (.string (nth l (i + 1)).1) := x0 ⟨w2, hb3⟩
            have y1 : w2.cell? ⟨M, (k + 1) * 2 + 1, none⟩ = some (.string (nth l (i + 1)).2) := x1 ⟨w2, hb3⟩
            have y2 : w2.cell? ⟨M, k * 2, none⟩ = some (.string (nth (upto l (i + 1)) k).1) := x2 ⟨w2, hb3⟩
            have y3 : w2.cell? ⟨M, k * 2 + 1, none⟩ = some (.string (nth (upto l (i + 1)) k).2) := x3 ⟨w2, hb3⟩
            have f0 := HK3.out.frozen ((k + 1) * 2)
            have f1 := HK3.out.frozen ((k + 1) * 2 + 1)
            have f2 := HK3.out.frozen (k * 2)
            have f3 := HK3.out.frozen (k * 2 + 1)
            clear hb3 x0 x1 x2 x3 HCm HC1
            have HP2 : Hid (pos (nth l (i + 1)) (upto l (i + 1)) (i + 1) = pos (nth l (i + 1)) (upto l (i + 1)) k) := HP.out.trans (pos_yes HQ.out)
            have HE := swap_held HH2.out hj (by omega) HS2.out
            have HE1 : Hid (HeldF ((((cs2.setIfInBounds ((k + 1) * 2) (.string (nth (upto l (i + 1)) k).1)).setIfInBounds ((k + 1) * 2 + 1) (.string (nth (upto l (i + 1)) k).2)).setIfInBounds (k * 2) (.string (nth l (i + 1)).1)).setIfInBounds (k * 2 + 1) (.string (nth l (i + 1)).2)) (nth (row l (i + 1) k)) l.length) := HE
            clear HE
            go_wp2
            go_region
            go_wp2
            go_roundw
            case rel => exact ⟨k, _, by go_num, by omega, HP2.out, ((((HW3.out.setCell (Nat.le_refl _) _).setCell (Nat.le_refl _) _).setCell (Nat.le_refl _) _).setCell (Nat.le_refl _) _).drew, ((((HK3.out.set _ _).set _ _).set _ _).set _ _).drew, by simp [HS2.out], HE1.out⟩
            case measure => simp [intOf]
          | false =>
            have HC1 : ∀ q : Grown wr, Hid (Calls Try.prog 94 #[.agg #[.string (nth l (i + 1)).1, .string (nth l (i + 1)).2], .agg #[.string (nth (upto l (i + 1)) k).1, .string (nth (upto l (i + 1)) k).2], .pointer (some ⟨b0, 0, none⟩)] q.out fun e w' => e = .returned (.int .i64 (cmpI (nth l (i + 1)) (nth (upto l (i + 1)) k))) ∧ Below q.out.heap.size q.out w') := fun q => HCm _ _ q
            have hge : ¬ cmpI (nth l (i + 1)) (nth (upto l (i + 1)) k) < 0 := by have := cmp_ge hq; omega
            have HE : Hid (HeldF cs2 (fun m => if m < i + 1 + 1 then nth (upto l (i + 1 + 1)) m else nth l m) l.length) := HH2.out.of fun m hm => by
              have := row_end (m := m) hlt
              rw [HP.out, pos_no hq] at this
              exact this.symm
            clear hq HCm
            rw [ek]
            go_wp2
            refine wp_over (z := wr) (by kernel_rfl) (by kernel_rfl) (Below.refl _ _) ?_
            repeat (go_big_quiet_step (first | (go_at_call 94; exact call_over (HC1 _).out)))
            refine wpQuiet_nil ?_
            intro w2 hw2
            have hb2 := over_bel hw2
            have HK3 : Hid (Blk w2 M cs2 29) := HK2.out.grow hb2
            have HW3 : Hid (Below M w w2) := HW2.out.trans (hb2.mono (Nat.le_of_lt hMr))
            clear hw2 hne hb2
            go_wp2
            go_roundw
            case rel => exact ⟨i + 1, cs2, by go_num, .inl (by omega), HW3.out, HK3.out, HS2.out, HE.out⟩
            case measure => simp [intOf]; omega
    · have hge : ¬ (i : Int) + 1 < (l.length : Int) := by omega
      have HE : Hid (HeldF cs1 (nth (upto l l.length)) l.length) := HH1.out.of fun m hm => by
        by_cases h0 : l.length = 0
        · omega
        · have e : i + 1 = l.length := by omega
          rw [if_pos (by omega), e]
      go_wp2
      go_end0
      exact ⟨rfl, HW.out, cs1, HK1.out, HS1.out, HE.out⟩

set_option maxHeartbeats 800000 in
theorem stable_any (M b0 cap : Nat) (l : List Lab) (cs : Array Value) (w : World) (hB : Blk w M cs 29) (hs : cs.size = l.length * 2) (hh : HeldF cs (nth l) l.length) (hl : l.length ≤ 19)
    (hc : w.cell? ⟨b0, 0, none⟩ = some (.func (.func 63) #[] #[])) (hb0 : b0 < M) :
    Calls Try.prog 108 #[.slice (some ⟨M, 0, none⟩) l.length cap, .int .i64 l.length, .func (.func 94) #[] #[.pointer (some ⟨b0, 0, none⟩)]] w
      fun e w' => e = .returned (.tuple #[]) ∧ Below M w w' ∧ ∃ cs' : Array Value, Blk w' M cs' 29 ∧ cs'.size = l.length * 2 ∧ HeldF cs' (nth (upto l l.length)) l.length := by
  have HI : Hid (Calls Try.prog 115 #[.slice (some ⟨M, 0, none⟩) l.length cap, .int .i64 0, .int .i64 l.length, .func (.func 94) #[] #[.pointer (some ⟨b0, 0, none⟩)]] w
      fun e w' => e = .returned (.tuple #[]) ∧ Below M w w' ∧ ∃ cs' : Array Value, Blk w' M cs' 29 ∧ cs'.size = l.length * 2 ∧ HeldF cs' (nth (upto l l.length)) l.length) := ins_any M b0 cap l cs w hB hs hh (by omega) hc hb0
  clear hB hs hh hc
  have hlt : ¬ (20 : Int) ≤ (l.length : Int) := by omega
  have hlt2 : ¬ (20 : Int) < (l.length : Int) := by omega
  go_enter Try.func108, Try.ntmps108
  go_wp2
  go_loopw [7, 8] (fun x y w' => x = .int .i64 0 ∧ y = .int .i64 20 ∧ w' = w) (fun _ _ _ => 0)
  case atStart => exact ⟨rfl, rfl, rfl⟩
  case round =>
    obtain ⟨rfl, rfl, rfl⟩ := hrel
    go_wp2_with fail
    refine HI.out.mono ?_
    rintro e w1 ⟨rfl, hb, cs', hB, hs, hh⟩
    have HE : Hid (Below M wr w1 ∧ ∃ cs' : Array Value, Blk w1 M cs' 29 ∧ cs'.size = l.length * 2 ∧ HeldF cs' (nth (upto l l.length)) l.length) := ⟨hb, cs', hB, hs, hh⟩
    clear hb hB hs hh HI
    go_wp2
    go_loopw [6, 7, 8, 9] (fun x _ _ _ w' => x = .int .i64 20 ∧ w' = w1) (fun _ _ _ _ _ => 0)
    case atStart => exact ⟨rfl, rfl⟩
    case round =>
      obtain ⟨rfl, rfl⟩ := hrel
      go_wp2
      go_end0
      exact ⟨rfl, HE.out⟩
end Go.Proofs.Ytinegehejinmiaa.LabQ
