/-
  PROVED: impl.Heard and spec.Heard answer as a plain function on lists says, in memory of their own; nothing that was there is changed.
-/
import Derived.Test.YtdmhccheaemkkaaTel
import Derived.Deep.DeepCutAuto
namespace Go.Proofs.Ytdmhccheaemkkaa.Hrd
open Go.RowKit
open Go.Proofs.Ytdmhccheaemkkaa.Labs Go.Proofs.Ytdmhccheaemkkaa.LabS Go.Proofs.Ytdmhccheaemkkaa.Alms Go.Proofs.Ytdmhccheaemkkaa.AlmM Go.Proofs.Ytdmhccheaemkkaa.Over Go.Proofs.Ytdmhccheaemkkaa.Blk Go.Proofs.Ytdmhccheaemkkaa.App Go.Proofs.Ytdmhccheaemkkaa.Rws Go.Proofs.Ytdmhccheaemkkaa.ChnI Go.Proofs.Ytdmhccheaemkkaa.ChnC Go.Proofs.Ytdmhccheaemkkaa.ChnT Go.Proofs.Ytdmhccheaemkkaa.ChnK Go.Proofs.Ytdmhccheaemkkaa.Chs Go.Proofs.Ytdmhccheaemkkaa.Que Go.Proofs.Ytdmhccheaemkkaa.Tel
open Go.Proofs.Ytdmhccheaemkkaa.ChnP (set2 own_grow)
set_option linter.unusedVariables false

/-- what one has, and whether it lags, when it is told all of l -/
def told (P : List PAl) (g : Bool) (l : List PAl) : List PAl × Bool := l.foldl (fun q x => tellB q.1 q.2 x) (P, g)
def heardB (l : List PAl) (P : List PAl) (g : Bool) : List PAl := if (told P g l).2 = true then [] else (told P g l).1
theorem bel_alloc {z w : World} (h : Below z.heap.size z w) (o : Obj) : Below z.heap.size z (w.alloc o) := h.alloc h.size o
theorem told_nil (P : List PAl) (g : Bool) : told P g [] = (P, g) := rfl
theorem told_app (P : List PAl) (g : Bool) (l : List PAl) (x : PAl) : told P g (l ++ [x]) = tellB (told P g l).1 (told P g l).2 x := by simp [told, List.foldl_append]
theorem told_up {P : List PAl} {g : Bool} {l : List PAl} {k : Nat} (h : k < l.length) : told P g (l.take (k + 1)) = tellB (told P g (l.take k)).1 (told P g (l.take k)).2 (nthP l k) := by
  rw [takeP_up h, told_app]
theorem told_lags (P : List PAl) : ∀ l : List PAl, told P true l = (P, true)
  | [] => rfl
  | x :: l => by
    have h := told_lags P l
    unfold told at h ⊢
    rw [List.foldl_cons]
    exact h
theorem told_split (P : List PAl) (g : Bool) (l m : List PAl) : told P g (l ++ m) = told (told P g l).1 (told P g l).2 m := by simp [told, List.foldl_append]
theorem told_lag {P : List PAl} {g : Bool} {l : List PAl} {k : Nat} (h : (told P g (l.take k)).2 = true) : (told P g l).2 = true := by
  have e := told_split P g (l.take k) (l.drop k)
  rw [List.take_append_drop, h, told_lags] at e
  rw [e]
theorem told_all {P : List PAl} {g : Bool} {l : List PAl} {k : Nat} (h : l.length ≤ k) : told P g (l.take k) = told P g l := by rw [List.take_of_length_le h]
theorem tell_mem {P : List PAl} {g : Bool} {x y : PAl} (h : y ∈ (tellB P g x).1) : y ∈ P ∨ y = x := by
  unfold tellB at h
  split at h
  · exact .inl h
  · split at h
    · simp at h
    · rcases List.mem_append.1 h with h | h
      · exact .inl h
      · exact .inr (List.mem_singleton.1 h)
theorem tell_len (P : List PAl) (g : Bool) (x : PAl) : (tellB P g x).1.length ≤ P.length ∨ (tellB P g x).1.length ≤ 3 := by
  unfold tellB
  split
  · exact .inl (Nat.le_refl _)
  · split
    · exact .inr (by simp)
    · exact .inr (by simp; omega)
theorem told_len (P : List PAl) (g : Bool) (l : List PAl) : ∀ k, (told P g (l.take k)).1.length ≤ P.length ∨ (told P g (l.take k)).1.length ≤ 3
  | 0 => .inl (Nat.le_refl _)
  | k + 1 => by
    by_cases h : k < l.length
    · rw [told_up h]
      rcases tell_len (told P g (l.take k)).1 (told P g (l.take k)).2 (nthP l k) with h1 | h1
      · rcases told_len P g l k with h2 | h2
        · exact .inl (Nat.le_trans h1 h2)
        · exact .inr (Nat.le_trans h1 h2)
      · exact .inr h1
    · rw [told_all (by omega), ← told_all (k := k) (by omega)]
      exact told_len P g l k
theorem told_mem (P : List PAl) (g : Bool) (l : List PAl) : ∀ k, ∀ y ∈ (told P g (l.take k)).1, y ∈ P ∨ y ∈ l
  | 0 => fun y h => .inl h
  | k + 1 => fun y h => by
    by_cases hk : k < l.length
    · rw [told_up hk] at h
      rcases tell_mem h with h1 | h1
      · exact told_mem P g l k y h1
      · rw [h1, nthP_eq hk]; exact .inr (List.getElem_mem hk)
    · rw [told_all (by omega), ← told_all (k := k) (by omega)] at h
      exact told_mem P g l k y h
theorem told_lenM {P l : List PAl} (g : Bool) (k : Nat) (hP : LenM P) (hl : LenM l) : LenM (told P g (l.take k)).1 := fun i hi => by
  rw [nthP_eq hi]
  rcases told_mem P g l k _ (List.getElem_mem hi) with h | h
  · obtain ⟨j, hj, e⟩ := List.getElem_of_mem h
    rw [← e, ← nthP_eq hj]; exact hP j hj
  · obtain ⟨j, hj, e⟩ := List.getElem_of_mem h
    rw [← e, ← nthP_eq hj]; exact hl j hj
theorem told_few {P l : List PAl} (g : Bool) (k : Nat) (hP : P.length ≤ 1048576) : (told P g (l.take k)).1.length ≤ 1048576 := by
  rcases told_len P g l k with h | h <;> omega

set_option maxRecDepth 100000 in
set_option maxHeartbeats 2000000 in
theorem specHeard_any (al : Option Addr) (capl : Nat) (l : List PAl) (a : Option Addr) (cap : Nat) (P : List PAl) (g : Bool) (w : World) (hr : RdN w al l) (hr' : RdN w a P) (hl : l.length ≤ 1048576) (hl' : P.length ≤ 1048576) (hs : LenM l) (hs' : LenM P) :
    Calls Try.prog 30 #[.slice al l.length capl, .agg #[.slice a P.length cap, .bool g]] w fun e w' => (∃ M c rs, e = .returned (.slice (some ⟨M, 0, none⟩) rs.length c) ∧ AB w.heap.size w' M c rs ∧ pals rs = heardB l P g) ∧ Below w.heap.size w w' := by
  have HR : Hid (RdN w al l ∧ RdN w a P ∧ LenM l ∧ LenM P) := ⟨hr, hr', hs, hs'⟩
  clear hr hr' hs hs'
  go_enter Try.func30, Try.ntmps30
  go_wp2_with fail
  refine (l9Copy_any a cap P g _ (HR.out.2.1.below (Go.Joins.below_alloc1 w _)) hl' HR.out.2.2.2).mono ?_
  rintro e w1 ⟨⟨M, c, rs, rfl, hab, hp⟩, hb⟩
  have HB1 : Hid (Below w.heap.size w w1) := grow_on (Go.Joins.below_alloc1 w _) hb
  have HAB1 : Hid (AB w.heap.size w1 M c rs ∧ pals rs = P) := ⟨hab.down (by simp; omega), hp⟩
  have HW : Hid (w.heap.size < w1.heap.size) := by have := hb.size; simp at this; show _ < _; omega
  clear hb hab hp
  go_wp2
  go_loopw [6] (fun i w' => ∃ (k : Nat) (xa : Option Addr) (xc : Nat) (xr : List ARow), i = .int .i64 k ∧ k ≤ l.length ∧ Blk w' w1.heap.size #[.slice xa xr.length xc, .bool (told P g (l.take k)).2] 26 ∧ QO w.heap.size w' xa xc xr ∧ pals xr = (told P g (l.take k)).1 ∧ Below w.heap.size w w' ∧ w1.heap.size < w'.heap.size) (fun i _ => l.length - (intOf i).toNat)
  case atStart => exact ⟨0, _, c, rs, rfl, Nat.zero_le _, Blk.new _ _ _, .inr ⟨M, rfl, HAB1.out.1.grow (Go.Joins.below_alloc1 w1 _)⟩, HAB1.out.2, grow_on HB1.out (Go.Joins.below_alloc1 w1 _), by simp⟩
  case round =>
    obtain ⟨k, xa, xc, xr, rfl, hk, hX, hQ, hp, hb, hz⟩ := hrel
    obtain ⟨TL, TG, hT⟩ : ∃ TL TG, told P g (l.take k) = (TL, TG) := ⟨_, _, rfl⟩
    rw [hT] at hX hp
    have HT : Hid (told P g (l.take k) = (TL, TG)) := hT
    have HX : Hid (Blk wr w1.heap.size #[.slice xa xr.length xc, .bool TG] 26) := hX
    have HQ : Hid (QO w.heap.size wr xa xc xr ∧ pals xr = TL) := ⟨hQ, hp⟩
    have HB : Hid (Below w.heap.size w wr) := hb
    have HZ : Hid (w1.heap.size < wr.heap.size) := hz
    have HTL : Hid (TL.length ≤ 1048576 ∧ LenM TL) := by have h1 := told_few (l := l) g k hl'; have h2 := told_lenM g k HR.out.2.2.2 HR.out.2.2.1; rw [hT] at h1 h2; exact ⟨h1, h2⟩
    clear hX hQ hp hb hz hT
    by_cases hlt : k < l.length
    · have hlt' : (k : Int) < (l.length : Int) := by omega
      obtain ⟨b, off, rfl, hbb, gx, ox, cp, hat⟩ := (HR.out.1.below HB.out).get hlt
      have HU : Hid (told P g (l.take (k + 1)) = tellB TL TG (nthP l k)) := by show _ = _; rw [told_up hlt, HT.out]
      have HE : Hid (∀ w', Below wr.heap.size wr w' → w'.cell? ⟨b, off + k * 4, none⟩ = some (.slice (some ⟨gx, ox, none⟩) (nthP l k).l.length cp) ∧ w'.cell? ⟨b, off + k * 4 + 1, none⟩ = some (.int .i64 (nthP l k).s) ∧ w'.cell? ⟨b, off + k * 4 + 2, none⟩ = some (.int .i64 (nthP l k).e) ∧ w'.cell? ⟨b, off + k * 4 + 3, none⟩ = some (.string (nthP l k).n)) := fun w' h => by have q := hat.below h hbb; exact ⟨q.c0, q.c1, q.c2, q.c3⟩
      have HC : Hid (∀ y, Below wr.heap.size wr y → Calls Try.prog 19 #[.agg #[.slice xa xr.length xc, .bool TG], .agg #[.slice (some ⟨gx, ox, none⟩) (nthP l k).l.length cp, .int .i64 (nthP l k).s, .int .i64 (nthP l k).e, .string (nthP l k).n]] y fun e w' => (∃ a' c rs, e = .returned (.agg #[.slice a' rs.length c, .bool (tellB TL TG (nthP l k)).2]) ∧ QO y.heap.size w' a' c rs ∧ pals rs = (tellB TL TG (nthP l k)).1) ∧ Below y.heap.size y w') := fun y hy => by
        have h1 := (HQ.out.1.rd.below hy)
        rw [HQ.out.2] at h1
        rw [Que.len_of HQ.out.2]
        exact specTell_any xa xc TL TG gx ox cp (nthP l k) y h1 (hat.reads.below hy) HTL.out.1 HTL.out.2 (HR.out.2.2.1 k hlt)
      clear hat
      go_upto_region 5 with fail
      have HS : Hid (∀ w', Below wr.heap.size wr w' → Below wr.heap.size wr w' ∧ w'.cell? ⟨w1.heap.size, 0, none⟩ = some (.slice xa xr.length xc) ∧ w'.cell? ⟨w1.heap.size, 1, none⟩ = some (.bool TG) ∧ w'.cell? ⟨b, off + k * 4, none⟩ = some (.slice (some ⟨gx, ox, none⟩) (nthP l k).l.length cp) ∧ w'.cell? ⟨b, off + k * 4 + 1, none⟩ = some (.int .i64 (nthP l k).s) ∧ w'.cell? ⟨b, off + k * 4 + 2, none⟩ = some (.int .i64 (nthP l k).e) ∧ w'.cell? ⟨b, off + k * 4 + 3, none⟩ = some (.string (nthP l k).n)) := fun w' h => ⟨h, (HX.out.grow h).cell 0, (HX.out.grow h).cell 1, HE.out w' h⟩
      go_cut [7] from 15 to 22 (fun s7 wx => ∃ (N : Nat) (a' : Option Addr) (c' : Nat) (rs' : List ARow), s7 = .pointer (some ⟨N, 0, none⟩) ∧ Blk wx N #[.slice a' rs'.length c', .bool (tellB TL TG (nthP l k)).2] 26 ∧ QO wr.heap.size wx a' c' rs' ∧ pals rs' = (tellB TL TG (nthP l k)).1 ∧ wr.heap.size ≤ N ∧ Below wr.heap.size wr wx)
      case first =>
        refine wp_region_held_drew (S := fun w' => Below wr.heap.size wr w' ∧ w'.cell? ⟨w1.heap.size, 0, none⟩ = some (.slice xa xr.length xc) ∧ w'.cell? ⟨w1.heap.size, 1, none⟩ = some (.bool TG) ∧ w'.cell? ⟨b, off + k * 4, none⟩ = some (.slice (some ⟨gx, ox, none⟩) (nthP l k).l.length cp) ∧ w'.cell? ⟨b, off + k * 4 + 1, none⟩ = some (.int .i64 (nthP l k).s) ∧ w'.cell? ⟨b, off + k * 4 + 2, none⟩ = some (.int .i64 (nthP l k).e) ∧ w'.cell? ⟨b, off + k * 4 + 3, none⟩ = some (.string (nthP l k).n)) (by kernel_rfl) (HS.out _ (Below.refl _ _).drew) (fun hHeld => ?_)
        refine wpAnyH_take (i := 0) (oi := { dst := some 16, op := Op.load 26 (Operand.tmp 5), type := 26, pos := "l09_sub.go:62", after := #[], guard := none }) (v := ?vh1) rfl (by kernel_rfl) (by kernel_rfl) (by kernel_rfl) (fun _ _ _ h => h) (Or.inl ⟨by rfl, ?hyh1⟩) hHeld ?_
        case hyh1 => (intro w hSw; (try dsimp only at hSw); go_simp <;> with_reducible rfl)
        try simp only [Act.put, List.setIfInBounds_toArray, List.set_cons_zero, List.set_cons_succ]
        refine wpAnyH_take (i := 1) (oi := { dst := some 17, op := Op.move (Operand.tmp 0), type := 24, pos := "l09_sub.go:62", after := #[], guard := none }) (v := ?vh2) rfl (by kernel_rfl) (by kernel_rfl) (by kernel_rfl) (fun _ _ _ h => h) (Or.inl ⟨by rfl, ?hyh2⟩) hHeld ?_
        case hyh2 => (intro w hSw; (try dsimp only at hSw); go_simp <;> with_reducible rfl)
        try simp only [Act.put, List.setIfInBounds_toArray, List.set_cons_zero, List.set_cons_succ]
        refine wpAnyH_take (i := 2) (oi := { dst := some 18, op := Op.move (Operand.tmp 6), type := 3, pos := "l09_sub.go:62", after := #[], guard := none }) (v := ?vh3) rfl (by kernel_rfl) (by kernel_rfl) (by kernel_rfl) (fun _ _ _ h => h) (Or.inl ⟨by rfl, ?hyh3⟩) hHeld ?_
        case hyh3 => (intro w hSw; (try dsimp only at hSw); go_simp <;> with_reducible rfl)
        try simp only [Act.put, List.setIfInBounds_toArray, List.set_cons_zero, List.set_cons_succ]
        refine wpAnyH_take (i := 3) (oi := { dst := some 19, op := Op.indexAddr 24 (Operand.tmp 17) (Operand.tmp 18), type := 0, pos := "l09_sub.go:62", after := #[{ on := 1, ground := Ground.data }, { on := 2, ground := Ground.data }], guard := none }) (v := ?vh4) rfl (by kernel_rfl) (by kernel_rfl) (by kernel_rfl) (fun _ _ _ h => h) (Or.inl ⟨by rfl, ?hyh4⟩) hHeld ?_
        case hyh4 => (intro w hSw; (try dsimp only at hSw); go_simp <;> with_reducible rfl)
        try simp only [Act.put, List.setIfInBounds_toArray, List.set_cons_zero, List.set_cons_succ]
        refine wpAnyH_take (i := 4) (oi := { dst := some 20, op := Op.load 29 (Operand.tmp 19), type := 29, pos := "l09_sub.go:62", after := #[{ on := 3, ground := Ground.data }], guard := none }) (v := ?vh5) rfl (by kernel_rfl) (by kernel_rfl) (by kernel_rfl) (fun _ _ _ h => h) (Or.inl ⟨by rfl, ?hyh5⟩) hHeld ?_
        case hyh5 => (intro w hSw; (try dsimp only at hSw); go_simp <;> with_reducible rfl)
        try simp only [Act.put, List.setIfInBounds_toArray, List.set_cons_zero, List.set_cons_succ]
        refine wpAnyH_ready (rs := [5, 6]) (by kernel_rfl) (by simp) ?_
        refine AllReadyH.cons (o := { dst := some 21, op := Op.call { callee := Callee.value (Operand.func 19), args := #[Operand.tmp 16, Operand.tmp 20], argTypes := #[26, 29] }, type := 26, pos := "l09_sub.go:62", after := #[{ on := 0, ground := Ground.data }, { on := 4, ground := Ground.data }], guard := none }) rfl (fun K hK => ?_) ?_
        ·
          go_simp
          refine (HC.out _ ((Below.refl wr.heap.size wr).drew)).mono ?_
          rintro r wc ⟨⟨Oa, Oc, Oz, rfl, hA, hP⟩, hy⟩
          have ZC : Hid (Below wr.heap.size wr wc) := grow_on ((Below.refl wr.heap.size wr).drew) hy
          have OA : Hid (QO wr.heap.size wc Oa Oc Oz ∧ pals Oz = (tellB TL TG (nthP l k)).1) := ⟨hA.down ((Below.refl wr.heap.size wr).drew).size, hP⟩
          clear hA hP hy
          clear hHeld
          refine hK.out _ _ (HS.out _ (ZC.out)) (fun hHeld => ?_)
          clear hK K
          try simp only [Act.put, List.setIfInBounds_toArray, List.set_cons_zero, List.set_cons_succ]
          refine wpAnyH_ready (rs := [6]) (by kernel_rfl) (by simp) ?_
          refine AllReadyH.cons (o := { dst := some 7, op := Op.alloc 26, type := 0, pos := "l09_sub.go:62", after := #[], guard := none }) rfl (fun K hK => ?_) AllReadyH.nil
          go_simp
          clear hHeld
          refine hK.out _ _ (HS.out _ (bel_alloc ZC.out _)) (fun hHeld => ?_)
          clear hK K
          try simp only [Act.put, List.setIfInBounds_toArray, List.set_cons_zero, List.set_cons_succ]
          refine wpAnyH_ready (rs := [7]) (by kernel_rfl) (by simp) ?_
          refine AllReadyH.cons (o := { dst := none, op := Op.store 26 (Operand.tmp 7) (Operand.tmp 21), type := 0, pos := "l09_sub.go:62", after := #[{ on := 6, ground := Ground.data }, { on := 5, ground := Ground.data }, { on := 5, ground := Ground.chain }, { on := 0, ground := Ground.phase }, { on := 1, ground := Ground.phase }, { on := 2, ground := Ground.phase }, { on := 3, ground := Ground.phase }, { on := 4, ground := Ground.phase }, { on := 5, ground := Ground.phase }, { on := 6, ground := Ground.phase }], guard := none }) rfl (fun K hK => ?_) AllReadyH.nil
          go_simp
          clear hHeld
          refine hK.out _ _ (HS.out _ (bel_alloc ZC.out _)) (fun hHeld => ?_)
          clear hK K
          try simp only [Act.put, List.setIfInBounds_toArray, List.set_cons_zero, List.set_cons_succ]
          refine wpAnyH_done (by kernel_rfl) ?_ _
          go_wp2_with fail
          go_meet
          exact ⟨_, Oa, Oc, Oz, rfl, Blk.new _ _ _, OA.out.1.grow (Go.Joins.below_alloc1 wc _), OA.out.2, ZC.out.size, bel_alloc ZC.out _⟩
        refine AllReadyH.cons (o := { dst := some 7, op := Op.alloc 26, type := 0, pos := "l09_sub.go:62", after := #[], guard := none }) rfl (fun K hK => ?_) AllReadyH.nil
        go_simp
        clear hHeld
        refine hK.out _ _ (HS.out _ (bel_alloc (Below.refl wr.heap.size wr).drew _)) (fun hHeld => ?_)
        clear hK K
        try simp only [Act.put, List.setIfInBounds_toArray, List.set_cons_zero, List.set_cons_succ]
        refine wpAnyH_ready (rs := [5]) (by kernel_rfl) (by simp) ?_
        refine AllReadyH.cons (o := { dst := some 21, op := Op.call { callee := Callee.value (Operand.func 19), args := #[Operand.tmp 16, Operand.tmp 20], argTypes := #[26, 29] }, type := 26, pos := "l09_sub.go:62", after := #[{ on := 0, ground := Ground.data }, { on := 4, ground := Ground.data }], guard := none }) rfl (fun K hK => ?_) AllReadyH.nil
        go_simp
        refine (HC.out _ ((bel_alloc (Below.refl wr.heap.size wr).drew _))).mono ?_
        rintro r wc ⟨⟨Oa, Oc, Oz, rfl, hA, hP⟩, hy⟩
        have ZC : Hid (Below wr.heap.size wr wc) := grow_on ((bel_alloc (Below.refl wr.heap.size wr).drew _)) hy
        have OA : Hid (QO wr.heap.size wc Oa Oc Oz ∧ pals Oz = (tellB TL TG (nthP l k)).1) := ⟨hA.down ((bel_alloc (Below.refl wr.heap.size wr).drew _)).size, hP⟩
        have NB : Hid (Blk wc wr.heap.size #[.slice none 0 0, .bool false] 26) := (Blk.new wr.drew _ _).grow hy
        clear hA hP hy
        clear hHeld
        refine hK.out _ _ (HS.out _ (ZC.out)) (fun hHeld => ?_)
        clear hK K
        try simp only [Act.put, List.setIfInBounds_toArray, List.set_cons_zero, List.set_cons_succ]
        refine wpAnyH_ready (rs := [7]) (by kernel_rfl) (by simp) ?_
        refine AllReadyH.cons (o := { dst := none, op := Op.store 26 (Operand.tmp 7) (Operand.tmp 21), type := 0, pos := "l09_sub.go:62", after := #[{ on := 6, ground := Ground.data }, { on := 5, ground := Ground.data }, { on := 5, ground := Ground.chain }, { on := 0, ground := Ground.phase }, { on := 1, ground := Ground.phase }, { on := 2, ground := Ground.phase }, { on := 3, ground := Ground.phase }, { on := 4, ground := Ground.phase }, { on := 5, ground := Ground.phase }, { on := 6, ground := Ground.phase }], guard := none }) rfl (fun K hK => ?_) AllReadyH.nil
        have n0 : wc.cell? ⟨wr.heap.size, 0, none⟩ = some (.slice none 0 0) := NB.out.cell 0
        have n1 : wc.cell? ⟨wr.heap.size, 1, none⟩ = some (.bool false) := NB.out.cell 1
        have m0 := NB.out.frozen 0
        have m1 := NB.out.frozen 1
        go_simp
        clear n0 n1 m0 m1
        clear hHeld
        refine hK.out _ _ (HS.out _ (set2 ZC.out (Nat.le_refl _) _ _)) (fun hHeld => ?_)
        clear hK K
        try simp only [Act.put, List.setIfInBounds_toArray, List.set_cons_zero, List.set_cons_succ]
        refine wpAnyH_done (by kernel_rfl) ?_ _
        go_wp2_with fail
        go_meet
        exact ⟨_, Oa, Oc, Oz, rfl, (NB.out.set 0 _).set 1 _, OA.out.1.moved (sub_moved NB.out (by decide) (by decide) _ _), OA.out.2, Nat.le_refl _, set2 ZC.out (Nat.le_refl _) _ _⟩
      case rest =>
        obtain ⟨N, a', c', rs', rfl, hN, hQ, hp, hNz, hb⟩ := hcut
        obtain ⟨w2, hwc⟩ : ∃ x, x = wc := ⟨_, rfl⟩
        subst hwc
        rw [← HU.out] at hN hp
        obtain ⟨TL2, TG2, hT2⟩ : ∃ TL2 TG2, told P g (l.take (k + 1)) = (TL2, TG2) := ⟨_, _, rfl⟩
        rw [hT2] at hN hp
        have HT2 : Hid (told P g (l.take (k + 1)) = (TL2, TG2)) := hT2
        have N2 : Hid (Blk w2 N #[.slice a' rs'.length c', .bool TG2] 26) := hN
        have X2 : Hid (Blk w2 w1.heap.size #[.slice xa xr.length xc, .bool TG] 26) := HX.out.grow hb
        have Q2 : Hid (QO w.heap.size w2 a' c' rs' ∧ pals rs' = TL2) := ⟨hQ.down HB.out.size, hp⟩
        have B2 : Hid (Below w.heap.size w w2) := grow_on HB.out hb
        have HNN : Hid (wr.heap.size ≤ N ∧ wr.heap.size ≤ w2.heap.size) := ⟨hNz, hb.size⟩
        clear hN hQ hp hb hNz hT2 HS HC HE
        obtain ⟨n0, n1⟩ := cells2 N2.out
        obtain ⟨x0, x1⟩ := cells2 X2.out
        have f0 := X2.out.frozen 0
        have f1 := X2.out.frozen 1
        go_wp2
        go_roundw
        case rel => exact ⟨k + 1, a', c', rs', by go_num, by omega, by rw [HT2.out]; exact (X2.out.set 0 _).set 1 _, Q2.out.1.moved (sub_moved X2.out (by decide) (by decide) _ _), by rw [HT2.out]; exact Q2.out.2, set2 B2.out (Nat.le_of_lt HW.out) _ _, by have h1 := HNN.out; have h2 := HZ.out; simp; omega⟩
        case measure => simp [intOf]; omega
    · have hge : ¬ (k : Int) < (l.length : Int) := by omega
      have HA : Hid (told P g l = (TL, TG)) := by show _ = _; rw [← HT.out]; exact (told_all (by omega)).symm
      obtain ⟨x0, x1⟩ := cells2 HX.out
      cases TG with
      | true =>
        have HH : Hid (heardB l P g = []) := by show _ = _; unfold heardB; rw [HA.out]; rfl
        go_wp2
        go_ret
        exact ⟨⟨wr.heap.size, 0, [], rfl, AB.nil (Blk.new _ _ _) HB.out.size, HH.out.symm⟩, grow_on HB.out (Go.Joins.below_alloc1 wr _)⟩
      | false =>
        have HH : Hid (heardB l P g = TL) := by show _ = _; unfold heardB; rw [HA.out]; rfl
        have HC : Hid (Calls Try.prog 48 #[.slice xa xr.length xc] wr fun e w' => (∃ M c rs, e = .returned (.slice (some ⟨M, 0, none⟩) rs.length c) ∧ AB wr.heap.size w' M c rs ∧ pals rs = TL) ∧ Below wr.heap.size wr w') := by
          have h1 := HQ.out.1.rd
          rw [HQ.out.2] at h1
          rw [Que.len_of HQ.out.2]
          exact l4All_any xa xc TL wr h1 HTL.out.1 HTL.out.2
        go_wp2_with fail
        refine HC.out.mono ?_
        rintro e w2 ⟨⟨M2, c2, rs2, rfl, hab, hp⟩, hb⟩
        have H2 : Hid (AB w.heap.size w2 M2 c2 rs2 ∧ pals rs2 = TL ∧ Below w.heap.size w w2) := ⟨hab.down HB.out.size, hp, grow_on HB.out hb⟩
        clear hab hp hb x0 x1
        go_wp2
        go_ret
        exact ⟨⟨M2, c2, rs2, rfl, H2.out.1, H2.out.2.1.trans HH.out.symm⟩, H2.out.2.2⟩

set_option maxRecDepth 100000 in
set_option maxHeartbeats 2000000 in
theorem implHeard_any (al : Option Addr) (capl : Nat) (l : List PAl) (a : Option Addr) (cap : Nat) (P : List PAl) (g : Bool) (w : World) (hr : RdA w al l) (hr' : RdA w a P) (hl : l.length ≤ 1048576) (hl' : P.length ≤ 1048576) (hs : LenM l) (hs' : LenM P) :
    Calls Try.prog 29 #[.slice al l.length capl, .agg #[.slice a P.length cap, .bool g]] w fun e w' => (∃ M c rs, e = .returned (.slice (some ⟨M, 0, none⟩) rs.length c) ∧ AB w.heap.size w' M c rs ∧ pals rs = heardB l P g) ∧ Below w.heap.size w w' := by
  have HR : Hid (RdA w al l ∧ RdA w a P ∧ LenM l ∧ LenM P) := ⟨hr, hr', hs, hs'⟩
  clear hr hr' hs hs'
  go_enter Try.func29, Try.ntmps29
  go_wp2_with fail
  refine (queueOf_any a cap P g _ (HR.out.2.1.below (Go.Joins.below_alloc1 w _)) hl' HR.out.2.2.2).mono ?_
  rintro e w1 ⟨⟨M, rs, rfl, hab, hp⟩, hb⟩
  have HB1 : Hid (Below w.heap.size w w1) := grow_on (Go.Joins.below_alloc1 w _) hb
  have HAB1 : Hid (AB w.heap.size w1 M P.length rs ∧ pals rs = P ∧ rs.length = P.length) := ⟨hab.down (by simp; omega), hp, Que.len_of hp⟩
  have HW : Hid (w.heap.size < w1.heap.size) := by have := hb.size; simp at this; show _ < _; omega
  clear hb hab hp
  go_wp2
  go_loopw [6] (fun i w' => ∃ (k : Nat) (M' c' : Nat) (rs' : List ARow), i = .int .i64 k ∧ k ≤ l.length ∧ Blk w' w1.heap.size #[.slice (some ⟨M', 0, none⟩) rs'.length c', .bool (told P g (l.take k)).2] 69 ∧ AB w.heap.size w' M' c' rs' ∧ pals rs' = (told P g (l.take k)).1 ∧ Below w.heap.size w w') (fun i _ => l.length - (intOf i).toNat)
  case atStart => exact ⟨0, M, P.length, rs, rfl, Nat.zero_le _, by rw [HAB1.out.2.2]; exact Blk.new _ _ _, HAB1.out.1.grow (Go.Joins.below_alloc1 w1 _), HAB1.out.2.1, grow_on HB1.out (Go.Joins.below_alloc1 w1 _)⟩
  case round =>
    obtain ⟨k, M', c', rs', rfl, hk, hX, hQ, hp, hb⟩ := hrel
    obtain ⟨TL, TG, hT⟩ : ∃ TL TG, told P g (l.take k) = (TL, TG) := ⟨_, _, rfl⟩
    rw [hT] at hX hp
    have HT : Hid (told P g (l.take k) = (TL, TG)) := hT
    have HX : Hid (Blk wr w1.heap.size #[.slice (some ⟨M', 0, none⟩) rs'.length c', .bool TG] 69) := hX
    have HQ : Hid (AB w.heap.size wr M' c' rs' ∧ pals rs' = TL) := ⟨hQ, hp⟩
    have HB : Hid (Below w.heap.size w wr) := hb
    clear hX hQ hp hb hT
    obtain ⟨x0, x1⟩ := cells2 HX.out
    by_cases hlt : k < l.length
    · have hlt' : (k : Int) < (l.length : Int) := by omega
      cases TG with
      | true =>
        have HH : Hid (heardB l P g = []) := by show _ = _; unfold heardB; rw [told_lag (k := k) (by rw [HT.out])]; rfl
        go_wp2
        go_ret
        exact ⟨⟨wr.heap.size, 0, [], rfl, AB.nil (Blk.new _ _ _) HB.out.size, HH.out.symm⟩, grow_on HB.out (Go.Joins.below_alloc1 wr _)⟩
      | false =>
        have HU : Hid (told P g (l.take (k + 1)) = tellB TL false (nthP l k)) := by show _ = _; rw [told_up hlt, HT.out]
        obtain ⟨b, off, rfl, hbb, ad, cp, hat⟩ := (HR.out.1.below HB.out).get hlt
        have h2 := hat.c0
        have h3 := hat.c1
        have h4 := hat.c2
        have h5 := hat.c3
        have HC : Hid (Calls Try.prog 46 #[.agg #[.slice ad (nthP l k).l.length cp, .int .i64 (nthP l k).s, .int .i64 (nthP l k).e, .string (nthP l k).n]] wr fun r w' => (∃ Mx c, r = .returned (.agg #[.slice (some ⟨Mx, 0, none⟩) (nthP l k).l.length c, .int .i64 (nthP l k).s, .int .i64 (nthP l k).e, .string (nthP l k).n]) ∧ LabR.Own wr w' Mx (nthP l k).l) ∧ Below wr.heap.size wr w') := copyI_any _ _ _ _ _ _ wr hat.reads (HR.out.2.2.1 k hlt)
        clear hat
        go_wp2_with fail
        refine HC.out.mono ?_
        rintro e w2 ⟨⟨Mx, cx, rfl, hO⟩, hy⟩
        have HY : Hid (Below wr.heap.size wr w2) := hy
        have HO : Hid (OwnA w.heap.size w2 (Mx, cx, nthP l k) ∧ wr.heap.size ≤ Mx) := ⟨(own_of_copy hO (HR.out.2.2.1 k hlt)).down HB.out.size, hO.1⟩
        have HXlt : Hid (w1.heap.size < wr.heap.size) := HX.out.lt
        clear hy hO h2 h3 h4 h5 HC x0 x1
        go_wp2_with fail
        refine (add_any w.heap.size w1.heap.size M' c' Mx cx rs' false (nthP l k) _ (HX.out.grow HY.out) (HQ.out.1.grow HY.out) HO.out.1 (fun y hy => by have := (HQ.out.1.rows y hy).lt; have := HO.out.2; omega)).mono ?_
        rintro e w3 ⟨rfl, ⟨M3, c3, rs3, hN3, hA3, hp3⟩, ho⟩
        rw [HQ.out.2, ← HU.out] at hN3 hp3
        have H3 : Hid (Blk w3 w1.heap.size #[.slice (some ⟨M3, 0, none⟩) rs3.length c3, .bool (told P g (l.take (k + 1))).2] 69 ∧ AB w.heap.size w3 M3 c3 rs3 ∧ pals rs3 = (told P g (l.take (k + 1))).1) := ⟨hN3, hA3, hp3⟩
        have B3 : Hid (Below w.heap.size w w3) := (grow_on HB.out HY.out).trans (ho.low (fun k h => by have h1 := HQ.out.1.at'; have h2 := HW.out; rcases h with h | h <;> omega) (grow_on HB.out HY.out).size)
        clear hN3 hA3 hp3 ho
        go_wp2
        go_roundw
        case rel => exact ⟨k + 1, M3, c3, rs3, by go_num, by omega, H3.out.1, H3.out.2.1, H3.out.2.2, B3.out⟩
        case measure => simp [intOf]; omega
    · have hge : ¬ (k : Int) < (l.length : Int) := by omega
      have HA : Hid (told P g l = (TL, TG)) := by show _ = _; rw [← HT.out]; exact (told_all (by omega)).symm
      cases TG with
      | true =>
        have HH : Hid (heardB l P g = []) := by show _ = _; unfold heardB; rw [HA.out]; rfl
        go_wp2
        go_ret
        exact ⟨⟨wr.heap.size, 0, [], rfl, AB.nil (Blk.new _ _ _) HB.out.size, HH.out.symm⟩, grow_on HB.out (Go.Joins.below_alloc1 wr _)⟩
      | false =>
        have HH : Hid (heardB l P g = TL) := by show _ = _; unfold heardB; rw [HA.out]; rfl
        go_wp2
        go_ret
        exact ⟨⟨M', c', rs', rfl, HQ.out.1, HQ.out.2.trans HH.out.symm⟩, HB.out⟩
end Go.Proofs.Ytdmhccheaemkkaa.Hrd
