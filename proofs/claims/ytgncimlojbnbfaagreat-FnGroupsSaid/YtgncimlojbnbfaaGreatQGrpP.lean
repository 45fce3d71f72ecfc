/-
  PROVED: impl.placeFor tells where a group's alarm of these labels comes: in the place of the one that has them, else ahead of the first of greater ones; nothing that was there is changed.
-/
import Derived.Test.YtgncimlojbnbfaaGreatQGrpJ
set_option linter.unusedVariables false
namespace Go.Proofs.YtgncimlojbnbfaaGreat.GrpP
open Go.RowKit
open Labs LabS Alms AlmS AlmM Over Blk App Rws ChnI ChnC GrpJ
open StrB (retB)
open LabL (slB implLessS_any)
def eqP (l : List Lab) (y : PAl) : Bool := decide (y.l = l)
def ltP (l : List Lab) (y : PAl) : Bool := slB l y.l
def aheadA (p : PAl → Bool) (P : List PAl) : Nat := P.findIdx p
theorem find_at {p : PAl → Bool} {P : List PAl} {k : Nat} (hk : k < P.length) (hj : ∀ j, j < k → p (nthP P j) = false) (h : p (nthP P k) = true) : aheadA p P = k := by
  unfold aheadA
  rw [List.findIdx_eq hk]
  refine ⟨by rw [nthP_eq hk] at h; exact h, fun j hj' => ?_⟩
  have := hj j hj'
  rwa [nthP_eq (by omega)] at this
theorem find_end {p : PAl → Bool} {P : List PAl} (hj : ∀ j, j < P.length → p (nthP P j) = false) : aheadA p P = P.length := by
  unfold aheadA
  rw [List.findIdx_eq_length]
  intro y hy
  obtain ⟨j, hj', rfl⟩ := List.getElem_of_mem hy
  have := hj j hj'
  rwa [nthP_eq hj'] at this
theorem eqC_any (b0 : Nat) (ad ga : Option Addr) (cp cx : Nat) (y : PAl) (l : List Lab) (w : World) (hc : w.cell? ⟨b0, 0, none⟩ = some (.slice ga l.length cx)) (hx : Reads w ad y.l) (hr : Reads w ga l) (h1 : y.l.length ≤ maxLen) (h2 : l.length ≤ maxLen) :
    Calls Tryz.prog 94 #[.agg #[.slice ad y.l.length cp, .int .i64 y.s, .int .i64 y.e, .string y.n], .pointer (some ⟨b0, 0, none⟩)] w fun e w' => e = .returned (.bool (eqP l y)) ∧ Below w.heap.size w w' := by
  have hb0 : b0 < w.heap.size := World.block_lt_of_cell? w _ hc
  have hc1 : ∀ o, (w.alloc o).cell? ⟨b0, 0, none⟩ = some (.slice ga l.length cx) := fun o => by
    rw [World.cell?_alloc_lt _ _ _ hb0]; exact hc
  have HR : Hid (Reads w ad y.l ∧ Reads w ga l ∧ y.l.length ≤ maxLen ∧ l.length ≤ maxLen) := ⟨hx, hr, h1, h2⟩
  clear hc hx hr h1 h2
  go_enter Tryz.func94, Tryz.ntmps94
  go_wp2_with fail
  refine (calls_drew (implSame_any _ _ _ _ _ _ _ (HR.out.1.below (Go.Joins.below_alloc1 w _)) (HR.out.2.1.below (Go.Joins.below_alloc1 w _)) HR.out.2.2.1 HR.out.2.2.2)).mono ?_
  rintro e w1 ⟨rfl, hb1⟩
  have HB1 : Hid (Below w.heap.size w w1) := grow_on (Go.Joins.below_alloc1 w _) hb1
  clear hb1
  go_wp2
  go_ret
  exact ⟨rfl, HB1.out⟩
theorem ltC_any (b0 : Nat) (ad ga : Option Addr) (cp cx : Nat) (y : PAl) (l : List Lab) (w : World) (hc : w.cell? ⟨b0, 0, none⟩ = some (.slice ga l.length cx)) (hx : Reads w ad y.l) (hr : Reads w ga l) (h1 : y.l.length ≤ maxLen) (h2 : l.length ≤ maxLen) :
    Calls Tryz.prog 95 #[.agg #[.slice ad y.l.length cp, .int .i64 y.s, .int .i64 y.e, .string y.n], .pointer (some ⟨b0, 0, none⟩)] w fun e w' => e = .returned (.bool (ltP l y)) ∧ Below w.heap.size w w' := by
  have hb0 : b0 < w.heap.size := World.block_lt_of_cell? w _ hc
  have hc1 : ∀ o, (w.alloc o).cell? ⟨b0, 0, none⟩ = some (.slice ga l.length cx) := fun o => by
    rw [World.cell?_alloc_lt _ _ _ hb0]; exact hc
  have HR : Hid (Reads w ad y.l ∧ Reads w ga l ∧ y.l.length ≤ maxLen ∧ l.length ≤ maxLen) := ⟨hx, hr, h1, h2⟩
  clear hc hx hr h1 h2
  go_enter Tryz.func95, Tryz.ntmps95
  go_wp2_with fail
  refine (implLessS_any _ _ _ _ _ _ _ (HR.out.2.1.below (Go.Joins.below_alloc1 w _)) (HR.out.1.below (Go.Joins.below_alloc1 w _)) HR.out.2.2.2 HR.out.2.2.1).mono ?_
  rintro e w1 ⟨rfl, hb1⟩
  have HB1 : Hid (Below w.heap.size w w1) := grow_on (Go.Joins.below_alloc1 w _) hb1
  clear hb1
  go_wp2
  go_ret
  exact ⟨rfl, HB1.out⟩
set_option maxHeartbeats 1600000 in
theorem indexE_any (b0 : Nat) (a ga : Option Addr) (cap cx : Nat) (P : List PAl) (l : List Lab) (w : World) (hr : RdA w a P) (hc : w.cell? ⟨b0, 0, none⟩ = some (.slice ga l.length cx)) (hl : Reads w ga l) (hll : l.length ≤ maxLen) (hP : P.length ≤ 1048576) (hs : LenP P) :
    Calls Tryz.prog 108 #[.slice a P.length cap, .func (.func 94) #[] #[.pointer (some ⟨b0, 0, none⟩)]] w fun e w' => (∃ x : Int, e = .returned (.int .i64 x) ∧ ((x = -1 ∧ aheadA (eqP l) P = P.length) ∨ (x = (aheadA (eqP l) P : Int) ∧ aheadA (eqP l) P < P.length))) ∧ Below w.heap.size w w' := by
  have HR : Hid (RdA w a P ∧ w.cell? ⟨b0, 0, none⟩ = some (.slice ga l.length cx) ∧ Reads w ga l ∧ l.length ≤ maxLen ∧ LenP P) := ⟨hr, hc, hl, hll, hs⟩
  have hb0 : b0 < w.heap.size := World.block_lt_of_cell? w _ hc
  clear hr hc hl hll hs
  go_enter Tryz.func108, Tryz.ntmps108
  go_wp2
  go_loopw [8] (fun i w' => ∃ k : Nat, i = .int .i64 k ∧ k ≤ P.length ∧ (∀ j, j < k → eqP l (nthP P j) = false) ∧ Below w.heap.size w w') (fun i _ => P.length - (intOf i).toNat)
  case atStart => exact ⟨0, rfl, Nat.zero_le _, fun j h => by omega, Below.refl _ _⟩
  case round =>
    obtain ⟨k, rfl, hk, hu, hw⟩ := hrel
    have HU : Hid (∀ j, j < k → eqP l (nthP P j) = false) := hu
    have HB : Hid (Below w.heap.size w wr) := hw
    clear hu hw
    by_cases hlt : k < P.length
    · have hlt' : (k : Int) < (P.length : Int) := by omega
      obtain ⟨b, off, rfl, hb, ad, cp, hat⟩ := (HR.out.1.below HB.out).get hlt
      have x0 := hat.c0
      have x1 := hat.c1
      have x2 := hat.c2
      have x3 := hat.c3
      have HC1 : Hid (Calls Tryz.prog 94 #[.agg #[.slice ad (nthP P k).l.length cp, .int .i64 (nthP P k).s, .int .i64 (nthP P k).e, .string (nthP P k).n], .pointer (some ⟨b0, 0, none⟩)] wr fun e w' => e = .returned (.bool (eqP l (nthP P k))) ∧ Below wr.heap.size wr w') := eqC_any b0 ad ga cp cx (nthP P k) l wr ((HB.out.cell (p := ⟨b0, 0, none⟩) hb0).trans HR.out.2.1) hat.reads (HR.out.2.2.1.below HB.out) (HR.out.2.2.2.2 k hlt) HR.out.2.2.2.1
      clear hat
      cases he : eqP l (nthP P k) with
      | true =>
        rw [he] at HC1
        have HE : Hid (aheadA (eqP l) P = k) := find_at hlt HU.out he
        clear he
        go_wp2_with fail
        refine HC1.out.mono ?_
        rintro e w1 ⟨rfl, hb1⟩
        have HB1 : Hid (Below w.heap.size w w1) := grow_on HB.out hb1
        clear hb1 x0 x1 x2 x3 HC1
        go_wp2
        go_ret
        refine ⟨⟨(k : Int), rfl, .inr ?_⟩, HB1.out⟩
        rw [HE.out]
        exact ⟨rfl, hlt⟩
      | false =>
        rw [he] at HC1
        have HU1 : Hid (∀ j, j < k + 1 → eqP l (nthP P j) = false) := fun j hj => by
          by_cases e : j = k
          · subst e; exact he
          · exact HU.out j (by omega)
        clear he
        go_wp2_with fail
        refine HC1.out.mono ?_
        rintro e w1 ⟨rfl, hb1⟩
        have HB1 : Hid (Below w.heap.size w w1) := grow_on HB.out hb1
        clear hb1 x0 x1 x2 x3 HC1
        go_wp2
        go_roundw
        case rel => exact ⟨k + 1, by go_num, by omega, HU1.out, HB1.out⟩
        case measure => simp [intOf]; omega
    · have hge : ¬ (k : Int) < (P.length : Int) := by omega
      have HE : Hid (aheadA (eqP l) P = P.length) := find_end fun j hj => HU.out j (by omega)
      go_wp2
      go_ret
      exact ⟨⟨-1, rfl, .inl ⟨rfl, HE.out⟩⟩, HB.out⟩
theorem howE_any (b0 : Nat) (a ga : Option Addr) (cap cx : Nat) (P : List PAl) (l : List Lab) (w : World) (hr : RdA w a P) (hc : w.cell? ⟨b0, 0, none⟩ = some (.slice ga l.length cx)) (hl : Reads w ga l) (hll : l.length ≤ maxLen) (hP : P.length ≤ 1048576) (hs : LenP P) :
    Calls Tryz.prog 93 #[.slice a P.length cap, .func (.func 94) #[] #[.pointer (some ⟨b0, 0, none⟩)]] w fun e w' => e = .returned (.int .i64 (aheadA (eqP l) P : Int)) ∧ Below w.heap.size w w' := by
  have HC : Hid (Calls Tryz.prog 108 #[.slice a P.length cap, .func (.func 94) #[] #[.pointer (some ⟨b0, 0, none⟩)]] w fun e w' => (∃ x : Int, e = .returned (.int .i64 x) ∧ ((x = -1 ∧ aheadA (eqP l) P = P.length) ∨ (x = (aheadA (eqP l) P : Int) ∧ aheadA (eqP l) P < P.length))) ∧ Below w.heap.size w w') := indexE_any b0 a ga cap cx P l w hr hc hl hll hP hs
  clear hr hc hl hll hs
  go_enter Tryz.func93, Tryz.ntmps93
  go_wp2_with fail
  refine HC.out.mono ?_
  rintro e w1 ⟨⟨x, rfl, hx⟩, hb1⟩
  have HB1 : Hid (Below w.heap.size w w1) := hb1
  clear hb1 HC
  rcases hx with ⟨rfl, he⟩ | ⟨hx, he⟩
  · have HE : Hid (aheadA (eqP l) P = P.length) := he
    clear he
    go_wp2
    go_ret
    exact ⟨ChnI.retI (by rw [HE.out]), HB1.out⟩
  · have h0 : (0 : Int) ≤ x := by omega
    have HE : Hid (x = (aheadA (eqP l) P : Int)) := hx
    clear hx he
    go_wp2
    go_ret
    exact ⟨ChnI.retI HE.out, HB1.out⟩
set_option maxHeartbeats 1600000 in
theorem indexL_any (b0 : Nat) (a ga : Option Addr) (cap cx : Nat) (P : List PAl) (l : List Lab) (w : World) (hr : RdA w a P) (hc : w.cell? ⟨b0, 0, none⟩ = some (.slice ga l.length cx)) (hl : Reads w ga l) (hll : l.length ≤ maxLen) (hP : P.length ≤ 1048576) (hs : LenP P) :
    Calls Tryz.prog 108 #[.slice a P.length cap, .func (.func 95) #[] #[.pointer (some ⟨b0, 0, none⟩)]] w fun e w' => (∃ x : Int, e = .returned (.int .i64 x) ∧ ((x = -1 ∧ aheadA (ltP l) P = P.length) ∨ (x = (aheadA (ltP l) P : Int) ∧ aheadA (ltP l) P < P.length))) ∧ Below w.heap.size w w' := by
  have HR : Hid (RdA w a P ∧ w.cell? ⟨b0, 0, none⟩ = some (.slice ga l.length cx) ∧ Reads w ga l ∧ l.length ≤ maxLen ∧ LenP P) := ⟨hr, hc, hl, hll, hs⟩
  have hb0 : b0 < w.heap.size := World.block_lt_of_cell? w _ hc
  clear hr hc hl hll hs
  go_enter Tryz.func108, Tryz.ntmps108
  go_wp2
  go_loopw [8] (fun i w' => ∃ k : Nat, i = .int .i64 k ∧ k ≤ P.length ∧ (∀ j, j < k → ltP l (nthP P j) = false) ∧ Below w.heap.size w w') (fun i _ => P.length - (intOf i).toNat)
  case atStart => exact ⟨0, rfl, Nat.zero_le _, fun j h => by omega, Below.refl _ _⟩
  case round =>
    obtain ⟨k, rfl, hk, hu, hw⟩ := hrel
    have HU : Hid (∀ j, j < k → ltP l (nthP P j) = false) := hu
    have HB : Hid (Below w.heap.size w wr) := hw
    clear hu hw
    by_cases hlt : k < P.length
    · have hlt' : (k : Int) < (P.length : Int) := by omega
      obtain ⟨b, off, rfl, hb, ad, cp, hat⟩ := (HR.out.1.below HB.out).get hlt
      have x0 := hat.c0
      have x1 := hat.c1
      have x2 := hat.c2
      have x3 := hat.c3
      have HC1 : Hid (Calls Tryz.prog 95 #[.agg #[.slice ad (nthP P k).l.length cp, .int .i64 (nthP P k).s, .int .i64 (nthP P k).e, .string (nthP P k).n], .pointer (some ⟨b0, 0, none⟩)] wr fun e w' => e = .returned (.bool (ltP l (nthP P k))) ∧ Below wr.heap.size wr w') := ltC_any b0 ad ga cp cx (nthP P k) l wr ((HB.out.cell (p := ⟨b0, 0, none⟩) hb0).trans HR.out.2.1) hat.reads (HR.out.2.2.1.below HB.out) (HR.out.2.2.2.2 k hlt) HR.out.2.2.2.1
      clear hat
      cases he : ltP l (nthP P k) with
      | true =>
        rw [he] at HC1
        have HE : Hid (aheadA (ltP l) P = k) := find_at hlt HU.out he
        clear he
        go_wp2_with fail
        refine HC1.out.mono ?_
        rintro e w1 ⟨rfl, hb1⟩
        have HB1 : Hid (Below w.heap.size w w1) := grow_on HB.out hb1
        clear hb1 x0 x1 x2 x3 HC1
        go_wp2
        go_ret
        refine ⟨⟨(k : Int), rfl, .inr ?_⟩, HB1.out⟩
        rw [HE.out]
        exact ⟨rfl, hlt⟩
      | false =>
        rw [he] at HC1
        have HU1 : Hid (∀ j, j < k + 1 → ltP l (nthP P j) = false) := fun j hj => by
          by_cases e : j = k
          · subst e; exact he
          · exact HU.out j (by omega)
        clear he
        go_wp2_with fail
        refine HC1.out.mono ?_
        rintro e w1 ⟨rfl, hb1⟩
        have HB1 : Hid (Below w.heap.size w w1) := grow_on HB.out hb1
        clear hb1 x0 x1 x2 x3 HC1
        go_wp2
        go_roundw
        case rel => exact ⟨k + 1, by go_num, by omega, HU1.out, HB1.out⟩
        case measure => simp [intOf]; omega
    · have hge : ¬ (k : Int) < (P.length : Int) := by omega
      have HE : Hid (aheadA (ltP l) P = P.length) := find_end fun j hj => HU.out j (by omega)
      go_wp2
      go_ret
      exact ⟨⟨-1, rfl, .inl ⟨rfl, HE.out⟩⟩, HB.out⟩
theorem howL_any (b0 : Nat) (a ga : Option Addr) (cap cx : Nat) (P : List PAl) (l : List Lab) (w : World) (hr : RdA w a P) (hc : w.cell? ⟨b0, 0, none⟩ = some (.slice ga l.length cx)) (hl : Reads w ga l) (hll : l.length ≤ maxLen) (hP : P.length ≤ 1048576) (hs : LenP P) :
    Calls Tryz.prog 93 #[.slice a P.length cap, .func (.func 95) #[] #[.pointer (some ⟨b0, 0, none⟩)]] w fun e w' => e = .returned (.int .i64 (aheadA (ltP l) P : Int)) ∧ Below w.heap.size w w' := by
  have HC : Hid (Calls Tryz.prog 108 #[.slice a P.length cap, .func (.func 95) #[] #[.pointer (some ⟨b0, 0, none⟩)]] w fun e w' => (∃ x : Int, e = .returned (.int .i64 x) ∧ ((x = -1 ∧ aheadA (ltP l) P = P.length) ∨ (x = (aheadA (ltP l) P : Int) ∧ aheadA (ltP l) P < P.length))) ∧ Below w.heap.size w w') := indexL_any b0 a ga cap cx P l w hr hc hl hll hP hs
  clear hr hc hl hll hs
  go_enter Tryz.func93, Tryz.ntmps93
  go_wp2_with fail
  refine HC.out.mono ?_
  rintro e w1 ⟨⟨x, rfl, hx⟩, hb1⟩
  have HB1 : Hid (Below w.heap.size w w1) := hb1
  clear hb1 HC
  rcases hx with ⟨rfl, he⟩ | ⟨hx, he⟩
  · have HE : Hid (aheadA (ltP l) P = P.length) := he
    clear he
    go_wp2
    go_ret
    exact ⟨ChnI.retI (by rw [HE.out]), HB1.out⟩
  · have h0 : (0 : Int) ≤ x := by omega
    have HE : Hid (x = (aheadA (ltP l) P : Int)) := hx
    clear hx he
    go_wp2
    go_ret
    exact ⟨ChnI.retI HE.out, HB1.out⟩
def placeG (P : List PAl) (l : List Lab) : Nat × Nat := if aheadA (eqP l) P < P.length then (aheadA (eqP l) P, aheadA (eqP l) P + 1) else (aheadA (ltP l) P, aheadA (ltP l) P)
theorem place_le (P : List PAl) (l : List Lab) : (placeG P l).1 ≤ P.length ∧ (placeG P l).2 ≤ P.length := by
  have h1 := pos_le P l
  unfold placeG
  split
  · exact ⟨by show _ ≤ _; omega, by show _ ≤ _; omega⟩
  · exact ⟨h1, h1⟩
theorem join_place (P : List PAl) (x : PAl) : joinG P x = P.take (placeG P x.l).1 ++ x :: P.drop (placeG P x.l).2 := by
  rcases idxTo_cases P x.l P.length with h | ⟨k, hk, he, hj⟩
  · have h1 : aheadA (eqP x.l) P = P.length := find_end fun j hj => decide_eq_false (h j hj)
    rw [join_miss h]
    unfold placeG
    rw [if_neg (by omega)]
    rfl
  · have h1 : aheadA (eqP x.l) P = k := find_at hk (fun j hj' => decide_eq_false (hj j hj')) (decide_eq_true he)
    rw [join_hit hj he hk]
    unfold placeG
    rw [h1, if_pos hk]
    exact List.set_eq_take_append_cons_drop.trans (if_pos hk)
set_option maxHeartbeats 1600000 in
theorem place_any (a ga : Option Addr) (cap cx : Nat) (P : List PAl) (l : List Lab) (w : World) (hr : RdA w a P) (hl : Reads w ga l) (hll : l.length ≤ maxLen) (hP : P.length ≤ 1048576) (hs : LenP P) :
    Calls Tryz.prog 60 #[.slice a P.length cap, .slice ga l.length cx] w fun e w' => e = .returned (.tuple #[.int .i64 ((placeG P l).1 : Int), .int .i64 ((placeG P l).2 : Int)]) ∧ Below w.heap.size w w' := by
  have HR : Hid (RdA w a P ∧ Reads w ga l ∧ l.length ≤ maxLen ∧ LenP P) := ⟨hr, hl, hll, hs⟩
  have HE1 : Hid (Calls Tryz.prog 93 #[.slice a P.length cap, .func (.func 94) #[] #[.pointer (some ⟨w.heap.size, 0, none⟩)]] (w.alloc (.cells #[.slice ga l.length cx] 25)) fun e w' => e = .returned (.int .i64 (aheadA (eqP l) P : Int)) ∧ Below (w.alloc (.cells #[.slice ga l.length cx] 25)).heap.size (w.alloc (.cells #[.slice ga l.length cx] 25)) w') := howE_any w.heap.size a ga cap cx P l _ (hr.below (Go.Joins.below_alloc1 w _)) (by simp) (hl.below (Go.Joins.below_alloc1 w _)) hll hP hs
  clear hr hl hll hs
  go_enter Tryz.func60, Tryz.ntmps60
  go_wp2_with fail
  refine HE1.out.mono ?_
  rintro e w1 ⟨rfl, hb1⟩
  have HB1 : Hid (Below w.heap.size w w1) := grow_on (Go.Joins.below_alloc1 w _) hb1
  have HC1 : Hid (w1.cell? ⟨w.heap.size, 0, none⟩ = some (.slice ga l.length cx)) := by
    unfold Hid
    rw [hb1.cell (by simp)]; simp
  clear hb1 HE1
  have HL : Hid (aheadA (eqP l) P ≤ P.length) := List.findIdx_le_length
  by_cases hf : aheadA (eqP l) P < P.length
  · have HE : Hid (placeG P l = (aheadA (eqP l) P, aheadA (eqP l) P + 1)) := if_pos hf
    generalize aheadA (eqP l) P = k at *
    have hf' : (k : Int) < (P.length : Int) := by omega
    go_wp2
    refine bodyPost_ret (v := .tuple #[.int .i64 (k : Int), .int .i64 ((k : Int) + 1)]) (by simp [results, Tryz.results60, go_sem]) rfl ?_
    rw [HE.out]
    exact ⟨by simp, HB1.out⟩
  · have HE : Hid (placeG P l = (aheadA (ltP l) P, aheadA (ltP l) P)) := if_neg hf
    have hfe : aheadA (eqP l) P = P.length := by have := HL.out; omega
    rw [hfe]
    clear hf hfe HL
    go_wp2_with fail
    refine (howL_any w.heap.size a ga cap cx P l _ (HR.out.1.below HB1.out) HC1.out (HR.out.2.1.below HB1.out) HR.out.2.2.1 hP HR.out.2.2.2).mono ?_
    rintro e w2 ⟨rfl, hb2⟩
    have HB2 : Hid (Below w.heap.size w w2) := grow_on HB1.out hb2
    clear hb2 HC1
    generalize aheadA (ltP l) P = k at *
    go_wp2
    refine bodyPost_ret (v := .tuple #[.int .i64 (k : Int), .int .i64 (k : Int)]) (by simp [results, Tryz.results60, go_sem]) rfl ?_
    rw [HE.out]
    exact ⟨rfl, HB2.out⟩
end Go.Proofs.YtgncimlojbnbfaaGreat.GrpP
