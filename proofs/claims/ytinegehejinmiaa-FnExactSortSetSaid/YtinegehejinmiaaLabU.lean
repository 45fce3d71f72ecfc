/-
  PROVED: spec.SortSet answers what the plain lists say, in memory of its own; nothing that was there is changed.
-/
import Derived.Test.YtinegehejinmiaaLabR
import Derived.Test.YtinegehejinmiaaApp
namespace Go.Proofs.Ytinegehejinmiaa.LabU
open Go.RowKit
open Go.Proofs.Ytinegehejinmiaa.Labs Go.Proofs.Ytinegehejinmiaa.LabS Go.Proofs.Ytinegehejinmiaa.LabP Go.Proofs.Ytinegehejinmiaa.LabQ Go.Proofs.Ytinegehejinmiaa.LabR Go.Proofs.Ytinegehejinmiaa.Over Go.Proofs.Ytinegehejinmiaa.Blk Go.Proofs.Ytinegehejinmiaa.App
open Go.Proofs.Ytinegehejinmiaa.StrB (lessB retB specLess_any)
open Go.Proofs.Ytinegehejinmiaa.LabO (setB set_long specSet_any Fits)
open Go.Proofs.Ytinegehejinmiaa.LabT (Held held_reads infoL)
set_option linter.unusedVariables false

/-- out holds these labels, in a block of the call's own -/
structure Out (w wr : World) (v : Value) (p : List Lab) : Prop where
  own : wr.ownsRow w.heap.size 29 2 v p.length (flat p)
  lies : ∃ g c, v = .slice (some ⟨g, 0, none⟩) p.length c
  low : Below w.heap.size w wr
theorem Out.grow {w wr w' : World} {v : Value} {p : List Lab} (h : Out w wr v p) (hb : Below wr.heap.size wr w') : Out w w' v p :=
  ⟨h.own.kept (bel_grown hb) (by cases hv : v.ownBlock with | none => exact .inl rfl | some k => exact .inr (fun e => by cases e)), h.lies, grow_on h.low hb⟩

theorem flat_app (p q : List Lab) : flat (p ++ q) = flat p ++ flat q := by
  induction p with
  | nil => rfl
  | cons x p ih => rw [List.cons_append, flat, ih]; rfl
theorem flat_take : ∀ (p : List Lab) (k : Nat), (flat p).take (k * 2) = flat (p.take k)
  | p, 0 => by simp [flat]
  | [], k + 1 => by simp [flat]
  | x :: p, k + 1 => by
    have e : (k + 1) * 2 = k * 2 + 1 + 1 := by omega
    rw [e, flat, List.take_succ_cons, List.take_succ_cons, flat_take p k, List.take_succ_cons, flat]
theorem Out.cell {w wr : World} {g c : Nat} {p : List Lab} (h : Out w wr (.slice (some ⟨g, 0, none⟩) p.length c) p) {m : Nat} (hm : m < p.length) : wr.cell? ⟨g, m * 2, none⟩ = some (.string (nth p m).1) ∧ wr.cell? ⟨g, m * 2 + 1, none⟩ = some (.string (nth p m).2) := by
  have ea : ∀ j, (⟨g, 0, none⟩ : Addr).add j = ⟨g, j, none⟩ := fun j => by by_cases h : j = 0 <;> simp [Addr.add, h]
  have h0 := h.own.cells (g := g) rfl (m * 2) _ (flat_get p m hm).1
  have h1 := h.own.cells (g := g) rfl (m * 2 + 1) _ (flat_get p m hm).2
  rw [ea] at h0 h1
  exact ⟨h0, h1⟩
theorem Out.lt {w wr : World} {g c : Nat} {p : List Lab} (h : Out w wr (.slice (some ⟨g, 0, none⟩) p.length c) p) : w.heap.size ≤ g ∧ g < wr.heap.size := h.own.lt g rfl
theorem Out.cap {w wr : World} {g c : Nat} {p : List Lab} (h : Out w wr (.slice (some ⟨g, 0, none⟩) p.length c) p) : p.length ≤ c ∧ c ≤ maxLen := by
  rcases h.own.2 with ⟨e, _⟩ | ⟨g', cap, cur, e, _, _, h1, h2, _⟩
  · cases e
  · cases e; exact ⟨h1, h2⟩

theorem add_block (a : Addr) (j : Nat) : (a.add j).block = a.block := by unfold Addr.add; split <;> simp_all
theorem Out.news1 {w wr : World} {g c i : Nat} {l : List Lab} (h : Out w wr (.slice (some ⟨g, 0, none⟩) i c) (upto l i)) (k : Nat) (hk : k ≤ i) :
    ∀ W, Below wr.heap.size wr W → ∀ j u, (flat ((upto l i).take k))[j]? = some u → W.cell? ((⟨g, 0, none⟩ : Addr).add j) = some u := fun W hb j u hj => by
  have hlt := h.own.lt g rfl
  have hj' : (flat (upto l i))[j]? = some u := by
    rw [← flat_take] at hj
    rw [List.getElem?_take] at hj
    split at hj
    · exact hj
    · cases hj
  rw [hb.cell (p := (⟨g, 0, none⟩ : Addr).add j) (by rw [add_block]; exact hlt.2)]
  exact h.own.cells (g := g) rfl j u hj'
theorem flat_drop : ∀ (p : List Lab) (k : Nat), (flat p).drop (k * 2) = flat (p.drop k)
  | p, 0 => by simp
  | [], k + 1 => by simp [flat]
  | x :: p, k + 1 => by
    have e : (k + 1) * 2 = k * 2 + 1 + 1 := by omega
    rw [e, flat, List.drop_succ_cons, List.drop_succ_cons, flat_drop p k, List.drop_succ_cons]
theorem Out.news3 {w wr : World} {g c i : Nat} {l : List Lab} (h : Out w wr (.slice (some ⟨g, 0, none⟩) i c) (upto l i)) (k : Nat) (hk : k ≤ i) :
    ∀ W, Below wr.heap.size wr W → ∀ j u, (flat ((upto l i).drop k))[j]? = some u → W.cell? ((⟨g, k * 2, none⟩ : Addr).add j) = some u := fun W hb j u hj => by
  have hlt := h.own.lt g rfl
  have hj' : (flat (upto l i))[k * 2 + j]? = some u := by
    rw [← flat_drop, List.getElem?_drop] at hj
    exact hj
  have ea : (⟨g, k * 2, none⟩ : Addr).add j = (⟨g, 0, none⟩ : Addr).add (k * 2 + j) := by by_cases e : j = 0 <;> by_cases e' : k * 2 + j = 0 <;> simp [Addr.add, e] <;> omega
  rw [ea, hb.cell (p := (⟨g, 0, none⟩ : Addr).add (k * 2 + j)) (by rw [add_block]; exact hlt.2)]
  exact h.own.cells (g := g) rfl _ u hj'
theorem if_slice {p : Prop} [Decidable p] (x y : Addr) (n c : Nat) : Value.slice (if p then some x else some y) n c = .slice (some (if p then x else y)) n c := by split <;> rfl
theorem Out.news4 {w wr : World} {g c i : Nat} {l : List Lab} (h : Out w wr (.slice (some ⟨g, 0, none⟩) i c) (upto l i)) (k : Nat) (hk : k ≤ i) (hc : i ≤ c) :
    ∀ W, Below wr.heap.size wr W → ∀ j u, (flat ((upto l i).drop k))[j]? = some u → W.cell? ((if c = k then (⟨g, 0, none⟩ : Addr) else ⟨g, k * 2, none⟩).add j) = some u := fun W hb j u hj => by
  by_cases e : c = k
  · have : (upto l i).drop k = [] := List.drop_eq_nil_of_le (by rw [upto_length]; omega)
    rw [this] at hj
    simp [flat] at hj
  · rw [if_neg e]
    exact h.news3 k hk W hb j u hj
theorem bel1 (w : World) (o : Obj) : Below w.heap.size w (w.alloc o).drew := ((Below.refl _ _).alloc (Nat.le_refl _) _).drew
theorem bel2 (w : World) (o o' : Obj) : Below w.heap.size w ((w.alloc o).alloc o').drew := (((Below.refl _ _).alloc (Nat.le_refl _) _).alloc (by simp) _).drew
theorem own1 (w : World) : (w.alloc (.cells #[] 29)).drew.ownsRow w.heap.size 29 2 (.slice (some ⟨w.heap.size, 0, none⟩) 0 0) 0 [] := own_empty (Blk.new _ _ _).drew (Nat.le_refl _)
theorem own2 (w : World) (o : Obj) : ((w.alloc (.cells #[] 29)).alloc o).drew.ownsRow w.heap.size 29 2 (.slice (some ⟨w.heap.size, 0, none⟩) 0 0) 0 [] := own_empty ((Blk.new _ _ _).alloc _).drew (Nat.le_refl _)
theorem own3 (w : World) (o : Obj) : ((w.alloc o).alloc (.cells #[] 29)).drew.ownsRow w.heap.size 29 2 (.slice (some ⟨w.heap.size + 1, 0, none⟩) 0 0) 0 [] := own_empty (Blk.new_at (by simp)).drew (by omega)
theorem Out.next {w w2 w5 : World} {v v3 : Value} {l : List Lab} {i k : Nat} (h : Out w w2 v (upto l i)) (he : upto l (i + 1) = mid (upto l i) (nth l i) k)
    (ho : w5.ownsRow w2.heap.size 29 2 v3 (0 + k + 1 + (i - k)) ([] ++ flat ((upto l i).take k) ++ [.string (nth l i).1, .string (nth l i).2] ++ flat ((upto l i).drop k))) (hb : Below w2.heap.size w2 w5) (hk : k ≤ i) : Out w w5 v3 (upto l (i + 1)) := by
  have en : 0 + k + 1 + (i - k) = i + 1 := by omega
  have el : [] ++ flat ((upto l i).take k) ++ [.string (nth l i).1, .string (nth l i).2] ++ flat ((upto l i).drop k) = flat (upto l (i + 1)) := by
    rw [he, mid, flat_app, flat, List.nil_append, List.append_assoc]; rfl
  rw [en, el] at ho
  have ho' : w5.ownsRow w.heap.size 29 2 v3 (upto l (i + 1)).length (flat (upto l (i + 1))) := by rw [upto_length]; exact own_mono ho h.low.size
  refine ⟨ho', ?_, grow_on h.low hb⟩
  obtain ⟨g, c, e, _⟩ := ho'.form (by rw [upto_length]; omega)
  exact ⟨g, c, e⟩
theorem own_of {w w2 : World} {g c i : Nat} {l : List Lab} (h : Out w w2 (.slice (some ⟨g, 0, none⟩) i c) (upto l i)) (hg : w.heap.size ≤ g) : Own w w2 g (upto l i) := by
  have ho' : Out w w2 (.slice (some ⟨g, 0, none⟩) (upto l i).length c) (upto l i) := by rw [upto_length]; exact h
  refine ⟨hg, ?_⟩
  rcases ho'.own.2 with ⟨e, _⟩ | ⟨g', cap, cur, e, _, hb, h1, _, hs, ht⟩
  · cases e
  · cases e
    refine ⟨cur, hb, by rw [hs]; omega, fun j hj => ?_⟩
    have hh : Blk w2 g cur 29 := hb
    have := ho'.cell hj
    rw [hh.cell, hh.cell] at this
    exact this
set_option maxHeartbeats 1600000 in
theorem specSort_any (a : Option Addr) (cap : Nat) (l : List Lab) (w : World) (hr : Reads w a l) (hl : l.length ≤ maxLen) (hf : Fits l) :
    Calls Try.prog 11 #[.slice a l.length cap] w fun e w' => (∃ M c, e = .returned (.tuple #[.slice (some ⟨M, 0, none⟩) (sortB l).1.length c, .bool (sortB l).2]) ∧ Own w w' M (sortB l).1) ∧ Below w.heap.size w w' := by
  unfold maxLen at hl
  have HR : Hid (Reads w a l) := hr
  have HF : Hid (Fits l) := hf
  clear hr hf
  go_enter Try.func11, Try.ntmps11
  go_wp2
  go_loopw [4, 5] (fun v i w' => ∃ k : Nat, i = .int .i64 k ∧ k ≤ l.length ∧ k ≤ 5 ∧ Out w w' v (upto l k)) (fun _ i _ => l.length - (intOf i).toNat)
  case atStart => exact ⟨0, rfl, Nat.zero_le _, Nat.zero_le _, World.ownsRow_made w #[] 0 (Nat.le_refl _) (by simp [maxLen]) rfl, ⟨w.heap.size, 0, rfl⟩, (Below.refl _ _).alloc (Nat.le_refl _) _⟩
  case round =>
    obtain ⟨i, rfl, hi, hi5, ho⟩ := hrel
    obtain ⟨g, c, rfl⟩ := ho.lies
    rw [upto_length] at ho ⊢
    have HO : Hid (Out w wr (.slice (some ⟨g, 0, none⟩) i c) (upto l i)) := ho
    clear ho
    by_cases hlt : i < l.length ∧ i ≤ 4
    · obtain ⟨hlt, hle⟩ := hlt
      have hlt' : (i : Int) < (l.length : Int) := by omega
      have hle' : (i : Int) ≤ 4 := by omega
      obtain ⟨wq, rfl⟩ : ∃ x, x = wr := ⟨wr, rfl⟩
      go_wp2
      go_loopw [6] (fun v w' => ∃ k : Nat, v = .int .i64 k ∧ k ≤ i ∧ pos (nth l i) (upto l i) i = pos (nth l i) (upto l i) k ∧ Out w w' (.slice (some ⟨g, 0, none⟩) i c) (upto l i)) (fun v _ => (intOf v).toNat)
      case atStart => exact ⟨i, rfl, Nat.le_refl _, rfl, HO.out⟩
      case round =>
        obtain ⟨k, rfl, hk, hp, ho⟩ := hrel
        have HP : Hid (pos (nth l i) (upto l i) i = pos (nth l i) (upto l i) k) := hp
        have HO2 : Hid (Out w wr (.slice (some ⟨g, 0, none⟩) i c) (upto l i)) := ho
        have ho' : Out w wr (.slice (some ⟨g, 0, none⟩) (upto l i).length c) (upto l i) := by rw [upto_length]; exact ho
        have hci : i ≤ c := by have := ho'.cap.1; rwa [upto_length] at this
        have hcm : c ≤ 2 ^ 63 - 1 := ho'.cap.2
        have hgr : g < wr.heap.size := ho'.lt.2
        have hgw : w.heap.size ≤ g := ho'.lt.1
        obtain ⟨b, off, rfl, hb0, hc⟩ := HR.out.get hlt
        have hb : b < wr.heap.size := Nat.lt_of_lt_of_le hb0 ho.low.size
        obtain ⟨h0, h1⟩ := hc i hlt
        rw [← ho.low.cell (p := ⟨b, off + i * 2, none⟩) hb0] at h0
        rw [← ho.low.cell (p := ⟨b, off + i * 2 + 1, none⟩) hb0] at h1
        clear hp hc hb0
        have hne := Grown.some wr
        have x0 := fun q : Grown wr => q.cell hb h0
        by_cases hk0 : k = 0
        · subst hk0
          clear ho ho'
          go_wp2
          refine wp_over (z := wr) (by kernel_rfl) (by kernel_rfl) (Below.refl _ _) ?_
          repeat (go_big_quiet_step (fail))
          refine wpQuiet_nil ?_
          intro w2 hw2
          have hb2 := over_bel hw2
          have HE : Hid (upto l (i + 1) = mid (upto l i) (nth l i) 0) := by
            show _ = _
            rw [upto, ins, upto_length, HP.out, pos_zero]
          have HO3 : Hid (Out w w2 (.slice (some ⟨g, 0, none⟩) i c) (upto l i)) := HO2.out.grow hb2
          have c0 : w2.cell? ⟨b, off + i * 2, none⟩ = some (.string (nth l i).1) := by rw [hb2.cell hb]; exact h0
          have c1 : w2.cell? ⟨b, off + i * 2 + 1, none⟩ = some (.string (nth l i).2) := by rw [hb2.cell hb]; exact h1
          have hbb : b < w2.heap.size := Nat.lt_of_lt_of_le hb hb2.size
          have hkc : ((0 : Nat) : Int) ≤ (c : Int) := by omega
          have hki : ((0 : Nat) : Int) ≤ (i : Int) := by omega
          have hic : (i : Int) ≤ (c : Int) := by omega
          obtain ⟨i0, hi0, hz0, hz1, hz2⟩ := info_parts infoL
          have HI : Hid (Try.prog.info? 29 = some i0) := hi0
          have Z0 : Hid (i0.zero = some (.agg #[.string ByteArray.empty, .string ByteArray.empty])) := hz0
          have Z1 : Hid (i0.size = 2) := hz1
          have Z2 : Hid (i0.bytes = 32) := hz2
          have N1 := HO3.out.news1 0 hk
          have N3 := HO3.out.news3 0 hk
          have N4 := HO3.out.news4 0 hk hci
          clear hw2 hne hb2 x0 h0 h1 hcm hgw hi0 hz0 hz1 hz2
          go_wp2
          go_region_held3 (fun w' => w'.cell? ⟨b, off + i * 2, none⟩ = some (.string (nth l i).1) ∧ w'.cell? ⟨b, off + i * 2 + 1, none⟩ = some (.string (nth l i).2)) (first | go_keep | (go_split_ands; exact ⟨(bl1.cell hbb).trans c0, (bl1.cell hbb).trans c1⟩) | (go_split_ands; exact ⟨((bl1.alloc bl1.size _).cell hbb).trans c0, ((bl1.alloc bl1.size _).cell hbb).trans c1⟩) | (go_split_ands; exact ⟨(bl2.cell hbb).trans c0, (bl2.cell hbb).trans c1⟩) | (go_split_ands; exact ⟨(bl3.cell hbb).trans c0, (bl3.cell hbb).trans c1⟩)) (first
            | ((refine step_app (by rfl) _ _ 24 (by rfl) 29 i0 _ 2 32 Try.underlying24 HI.out Z0.out Z1.out Z2.out (by rfl) (by decide) w2 bl2 v2 _ _ (by rfl) hown2 ⟨g, 0 * 2, none⟩ (i - 0) (c - 0) (flat ((upto l i).drop 0)) (by rfl) (by rw [flat_len, List.length_drop, upto_length]) (N3 _ bl2) (flat_one _) (by unfold maxLen; omega) (by omega) ?_); intro v3 w5 hown3 bl3 hg3 hat3)
            | ((refine step_app (by rfl) _ _ 24 (by rfl) 29 i0 _ 2 32 Try.underlying24 HI.out Z0.out Z1.out Z2.out (by rfl) (by decide) w2 bl2 v2 _ _ (by rfl) hown2 (if c = 0 then (⟨g, 0, none⟩ : Addr) else ⟨g, 0 * 2, none⟩) (i - 0) (c - 0) (flat ((upto l i).drop 0)) (by exact if_slice _ _ _ _) (by rw [flat_len, List.length_drop, upto_length]) (N4 _ bl2) (flat_one _) (by unfold maxLen; omega) (by omega) ?_); intro v3 w5 hown3 bl3 hg3 hat3)
            | ((refine step_app (by rfl) _ _ 24 (by rfl) 29 i0 _ 2 32 Try.underlying24 HI.out Z0.out Z1.out Z2.out (by rfl) (by decide) w2 (bl1.alloc bl1.size _) v1 _ _ (by rfl) (hown1.alloc _) ⟨w3.heap.size, 0, none⟩ 1 1 [.string (nth l i).1, .string (nth l i).2] (by rfl) (by rfl) (blk_news (Blk.new w3 _ _)) (flat_one [nth l i]) (by unfold maxLen; omega) (by omega) ?_); intro v2 w4 hown2 bl2 hg2 hat2)
            | ((refine step_app (by rfl) _ _ 24 (by rfl) 29 i0 _ 2 32 Try.underlying24 HI.out Z0.out Z1.out Z2.out (by rfl) (by decide) w2 bl1 v1 _ _ (by rfl) hown1 ⟨w2.heap.size + 1, 0, none⟩ 1 1 [.string (nth l i).1, .string (nth l i).2] (by rfl) (by rfl) (blk_news (blk_far (M := w2.heap.size + 1) (Blk.new_at (by simp)).drew hg1 (fun e => absurd (show w2.heap.size + 1 = w2.heap.size from Option.some.inj e) (by omega)))) (flat_one [nth l i]) (by unfold maxLen; omega) (by omega) ?_); intro v2 w4 hown2 bl2 hg2 hat2)
            | ((refine step_app (by rfl) _ _ 24 (by rfl) 29 i0 _ 2 32 Try.underlying24 HI.out Z0.out Z1.out Z2.out (by rfl) (by decide) w2 bl1 v1 _ _ (by rfl) hown1 ⟨w2.heap.size, 0, none⟩ 1 1 [.string (nth l i).1, .string (nth l i).2] (by rfl) (by rfl) (blk_news (blk_far (M := w2.heap.size) ((Blk.new _ _ _).alloc _).drew hg1 (fun e => absurd (show w2.heap.size = w2.heap.size + 1 from Option.some.inj e) (by omega)))) (flat_one [nth l i]) (by unfold maxLen; omega) (by omega) ?_); intro v2 w4 hown2 bl2 hg2 hat2)
            | ((refine step_app (by rfl) _ _ 24 (by rfl) 29 i0 _ 2 32 Try.underlying24 HI.out Z0.out Z1.out Z2.out (by rfl) (by decide) w2 (by first | exact bel1 _ _ | exact bel2 _ _ _) _ 0 [] (by rfl) (by first | exact own1 _ | exact own2 _ _ | exact own3 _ _) ⟨g, 0, none⟩ 0 c (flat ((upto l i).take 0)) (by rfl) (by rw [flat_len, List.length_take, upto_length]; omega) (by first | exact N1 _ (bel1 _ _) | exact N1 _ (bel2 _ _ _)) (flat_one _) (by unfold maxLen; omega) (by omega) ?_); intro v1 w3 hown1 bl1 hg1 hat1))
          all_goals (have HO5 : Hid (Out w w5 v3 (upto l (i + 1))) := Out.next HO3.out HE.out hown3 bl3 hk)
          all_goals clear hown1 hown2 hown3 bl1 bl2 bl3 hg1 hg2 hg3 hat1 hat2 hat3 N1 N3 N4
          all_goals go_wp2
          all_goals go_roundw
          case rel => exact ⟨i + 1, by go_num, by omega, by omega, HO5.out⟩
          case measure => simp [intOf]; omega
          case rel => exact ⟨i + 1, by go_num, by omega, by omega, HO5.out⟩
          case measure => simp [intOf]; omega
          case rel => exact ⟨i + 1, by go_num, by omega, by omega, HO5.out⟩
          case measure => simp [intOf]; omega
        · obtain ⟨j, rfl⟩ : ∃ j, k = j + 1 := ⟨k - 1, by omega⟩
          have ek : ((j + 1 : Nat) : Int) = (j : Int) + 1 := by omega
          have hj1 : (j : Int) < (i : Int) := by omega
          have hjp : (0 : Int) < (j : Int) + 1 := by omega
          have hw : IntKind.i64.wrap (j : Int) = (j : Int) := by rw [IntKind.wrap_i64]; omega
          have x2 := fun q : Grown wr => q.cell (p := ⟨g, j * 2, none⟩) hgr (ho'.cell (m := j) (by rw [upto_length]; omega)).1
          clear ho ho' hk0
          cases hq : lessB (nth l i).1 (nth (upto l i) j).1 with
          | true =>
            have HP2 : Hid (pos (nth l i) (upto l i) i = pos (nth l i) (upto l i) j) := HP.out.trans (pos_yes hq)
            have HC1 : ∀ q : Grown wr, Hid (Calls Try.prog 64 #[.string (nth l i).1, .string (nth (upto l i) j).1] q.out fun e w' => e = .returned (.bool true) ∧ w' = q.out) := fun q => (specLess_any _ _ q.out).mono fun e w' h => ⟨h.1.trans (retB hq), h.2⟩
            clear hq
            rw [ek]
            go_wp2
            refine wp_over (z := wr) (by kernel_rfl) (by kernel_rfl) (Below.refl _ _) ?_
            repeat (go_big_quiet_step (first | (go_at_call 64; exact call_still (HC1 _).out)))
            refine wpQuiet_nil ?_
            intro w2 hw2
            have hb2 := over_bel hw2
            have HO3 : Hid (Out w w2 (.slice (some ⟨g, 0, none⟩) i c) (upto l i)) := HO2.out.grow hb2
            clear hw2 hne hb2 x0 x2 HC1 h0 h1
            go_wp2
            go_roundw
            case rel => exact ⟨j, by go_num, by omega, HP2.out, HO3.out⟩
            case measure => simp [intOf]
          | false =>
            have HC1 : ∀ q : Grown wr, Hid (Calls Try.prog 64 #[.string (nth l i).1, .string (nth (upto l i) j).1] q.out fun e w' => e = .returned (.bool false) ∧ w' = q.out) := fun q => (specLess_any _ _ q.out).mono fun e w' h => ⟨h.1.trans (retB hq), h.2⟩
            have HE : Hid (upto l (i + 1) = mid (upto l i) (nth l i) (j + 1)) := by
              show _ = _
              rw [upto, ins, upto_length, HP.out, pos_no hq]
            clear hq
            rw [ek]
            go_wp2
            refine wp_over (z := wr) (by kernel_rfl) (by kernel_rfl) (Below.refl _ _) ?_
            repeat (go_big_quiet_step (first | (go_at_call 64; exact call_still (HC1 _).out)))
            refine wpQuiet_nil ?_
            intro w2 hw2
            have hb2 := over_bel hw2
            rw [← ek]
            clear x2 HC1 ek hj1 hjp hw HP
            generalize hkk : j + 1 = k at *
            clear hkk
            have HO3 : Hid (Out w w2 (.slice (some ⟨g, 0, none⟩) i c) (upto l i)) := HO2.out.grow hb2
            have c0 : w2.cell? ⟨b, off + i * 2, none⟩ = some (.string (nth l i).1) := by rw [hb2.cell hb]; exact h0
            have c1 : w2.cell? ⟨b, off + i * 2 + 1, none⟩ = some (.string (nth l i).2) := by rw [hb2.cell hb]; exact h1
            have hbb : b < w2.heap.size := Nat.lt_of_lt_of_le hb hb2.size
            have hkc : ((k : Nat) : Int) ≤ (c : Int) := by omega
            have hki : ((k : Nat) : Int) ≤ (i : Int) := by omega
            have hic : (i : Int) ≤ (c : Int) := by omega
            obtain ⟨i0, hi0, hz0, hz1, hz2⟩ := info_parts infoL
            have HI : Hid (Try.prog.info? 29 = some i0) := hi0
            have Z0 : Hid (i0.zero = some (.agg #[.string ByteArray.empty, .string ByteArray.empty])) := hz0
            have Z1 : Hid (i0.size = 2) := hz1
            have Z2 : Hid (i0.bytes = 32) := hz2
            have N1 := HO3.out.news1 k hk
            have N3 := HO3.out.news3 k hk
            have N4 := HO3.out.news4 k hk hci
            clear hw2 hne hb2 x0 h0 h1 hcm hgw hi0 hz0 hz1 hz2
            go_wp2
            go_region_held3 (fun w' => w'.cell? ⟨b, off + i * 2, none⟩ = some (.string (nth l i).1) ∧ w'.cell? ⟨b, off + i * 2 + 1, none⟩ = some (.string (nth l i).2)) (first | go_keep | (go_split_ands; exact ⟨(bl1.cell hbb).trans c0, (bl1.cell hbb).trans c1⟩) | (go_split_ands; exact ⟨((bl1.alloc bl1.size _).cell hbb).trans c0, ((bl1.alloc bl1.size _).cell hbb).trans c1⟩) | (go_split_ands; exact ⟨(bl2.cell hbb).trans c0, (bl2.cell hbb).trans c1⟩) | (go_split_ands; exact ⟨(bl3.cell hbb).trans c0, (bl3.cell hbb).trans c1⟩)) (first
              | ((refine step_app (by rfl) _ _ 24 (by rfl) 29 i0 _ 2 32 Try.underlying24 HI.out Z0.out Z1.out Z2.out (by rfl) (by decide) w2 bl2 v2 _ _ (by rfl) hown2 ⟨g, k * 2, none⟩ (i - k) (c - k) (flat ((upto l i).drop k)) (by rfl) (by rw [flat_len, List.length_drop, upto_length]) (N3 _ bl2) (flat_one _) (by unfold maxLen; omega) (by omega) ?_); intro v3 w5 hown3 bl3 hg3 hat3)
              | ((refine step_app (by rfl) _ _ 24 (by rfl) 29 i0 _ 2 32 Try.underlying24 HI.out Z0.out Z1.out Z2.out (by rfl) (by decide) w2 bl2 v2 _ _ (by rfl) hown2 (if c = k then (⟨g, 0, none⟩ : Addr) else ⟨g, k * 2, none⟩) (i - k) (c - k) (flat ((upto l i).drop k)) (by exact if_slice _ _ _ _) (by rw [flat_len, List.length_drop, upto_length]) (N4 _ bl2) (flat_one _) (by unfold maxLen; omega) (by omega) ?_); intro v3 w5 hown3 bl3 hg3 hat3)
              | ((refine step_app (by rfl) _ _ 24 (by rfl) 29 i0 _ 2 32 Try.underlying24 HI.out Z0.out Z1.out Z2.out (by rfl) (by decide) w2 (bl1.alloc bl1.size _) v1 _ _ (by rfl) (hown1.alloc _) ⟨w3.heap.size, 0, none⟩ 1 1 [.string (nth l i).1, .string (nth l i).2] (by rfl) (by rfl) (blk_news (Blk.new w3 _ _)) (flat_one [nth l i]) (by unfold maxLen; omega) (by omega) ?_); intro v2 w4 hown2 bl2 hg2 hat2)
              | ((refine step_app (by rfl) _ _ 24 (by rfl) 29 i0 _ 2 32 Try.underlying24 HI.out Z0.out Z1.out Z2.out (by rfl) (by decide) w2 bl1 v1 _ _ (by rfl) hown1 ⟨w2.heap.size + 1, 0, none⟩ 1 1 [.string (nth l i).1, .string (nth l i).2] (by rfl) (by rfl) (blk_news (blk_far (M := w2.heap.size + 1) (Blk.new_at (by simp)).drew hg1 (fun e => absurd (show w2.heap.size + 1 = w2.heap.size from Option.some.inj e) (by omega)))) (flat_one [nth l i]) (by unfold maxLen; omega) (by omega) ?_); intro v2 w4 hown2 bl2 hg2 hat2)
              | ((refine step_app (by rfl) _ _ 24 (by rfl) 29 i0 _ 2 32 Try.underlying24 HI.out Z0.out Z1.out Z2.out (by rfl) (by decide) w2 bl1 v1 _ _ (by rfl) hown1 ⟨w2.heap.size, 0, none⟩ 1 1 [.string (nth l i).1, .string (nth l i).2] (by rfl) (by rfl) (blk_news (blk_far (M := w2.heap.size) ((Blk.new _ _ _).alloc _).drew hg1 (fun e => absurd (show w2.heap.size = w2.heap.size + 1 from Option.some.inj e) (by omega)))) (flat_one [nth l i]) (by unfold maxLen; omega) (by omega) ?_); intro v2 w4 hown2 bl2 hg2 hat2)
              | ((refine step_app (by rfl) _ _ 24 (by rfl) 29 i0 _ 2 32 Try.underlying24 HI.out Z0.out Z1.out Z2.out (by rfl) (by decide) w2 (by first | exact bel1 _ _ | exact bel2 _ _ _) _ 0 [] (by rfl) (by first | exact own1 _ | exact own2 _ _ | exact own3 _ _) ⟨g, 0, none⟩ k c (flat ((upto l i).take k)) (by rfl) (by rw [flat_len, List.length_take, upto_length]; omega) (by first | exact N1 _ (bel1 _ _) | exact N1 _ (bel2 _ _ _)) (flat_one _) (by unfold maxLen; omega) (by omega) ?_); intro v1 w3 hown1 bl1 hg1 hat1))
            all_goals (have HO5 : Hid (Out w w5 v3 (upto l (i + 1))) := Out.next HO3.out HE.out hown3 bl3 hk)
            all_goals clear hown1 hown2 hown3 bl1 bl2 bl3 hg1 hg2 hg3 hat1 hat2 hat3 N1 N3 N4
            all_goals go_wp2
            all_goals go_roundw
            case rel => exact ⟨i + 1, by go_num, by omega, by omega, HO5.out⟩
            case measure => simp [intOf]; omega
            case rel => exact ⟨i + 1, by go_num, by omega, by omega, HO5.out⟩
            case measure => simp [intOf]; omega
            case rel => exact ⟨i + 1, by go_num, by omega, by omega, HO5.out⟩
            case measure => simp [intOf]; omega
    · have ho' : Out w wr (.slice (some ⟨g, 0, none⟩) (upto l i).length c) (upto l i) := by rw [upto_length]; exact HO.out
      have hrd : Reads wr (some ⟨g, 0, none⟩) (upto l i) := .inr ⟨g, 0, rfl, ho'.lt.2, fun m hm => by
        have := ho'.cell hm
        rw [Nat.zero_add]; exact this⟩
      have hfi : Fits (upto l i) := fun m hm => by
        rw [upto_length] at hm
        obtain ⟨q, hq, e⟩ := nth_upto l i m hm
        rw [e]; exact HF.out q (by omega)
      have hset := specSet_any (some ⟨g, 0, none⟩) c (upto l i) wr hrd (by rw [upto_length]; unfold maxLen; omega) hfi
      rw [upto_length] at hset
      have HC : Hid (Calls Try.prog 20 #[.slice (some ⟨g, 0, none⟩) i c] wr fun e w' => e = .returned (.bool (setB (upto l i))) ∧ Below wr.heap.size wr w') := hset
      have HG : Hid (w.heap.size ≤ g) := ho'.lt.1
      have HX : Hid ((setB (upto l i) = false ∧ sortB l = ([], false)) ∨ (setB (upto l i) = true ∧ sortB l = (upto l i, true))) := by
        by_cases h4 : 4 < l.length
        · left
          exact ⟨set_long (by rw [upto_length]; omega), sort_long h4⟩
        · obtain rfl : i = l.length := by omega
          cases hs : setB (upto l l.length) with
          | true => right; exact ⟨rfl, sort_yes h4 hs⟩
          | false => left; exact ⟨rfl, sort_no h4 hs⟩
      clear ho' hrd hfi hset
      have go : ∀ q : Bool, setB (upto l i) = q → Hid (Calls Try.prog 20 #[.slice (some ⟨g, 0, none⟩) i c] wr fun e w' => e = .returned (.bool q) ∧ Below wr.heap.size wr w') := fun q h => by
        have := HC.out
        rw [h] at this
        exact this
      by_cases hil : i < l.length
      · have hil' : (i : Int) < (l.length : Int) := by omega
        have h5 : ¬ (i : Int) ≤ 4 := by omega
        rcases HX.out with ⟨hs, hb⟩ | ⟨hs, hb⟩
        · have HS : Hid (sortB l = ([], false)) := hb
          have H1 := go _ hs
          clear hs hb go HC HX
          go_wp2_with fail
          refine H1.out.mono ?_
          rintro e w2 ⟨rfl, hb2⟩
          have HB2 : Hid (Below w.heap.size w w2) := grow_on HO.out.low hb2
          clear hb2 H1
          go_wp2
          go_ret2
          exact ⟨⟨w2.heap.size, 0, retSB HS.out rfl, by rw [HS.out]; exact own_none w _ rfl HB2.out.size⟩, HB2.out.alloc HB2.out.size _⟩
        · have HS : Hid (sortB l = (upto l i, true)) := hb
          have H1 := go _ hs
          clear hs hb go HC HX
          go_wp2_with fail
          refine H1.out.mono ?_
          rintro e w2 ⟨rfl, hb2⟩
          have HO2 : Hid (Out w w2 (.slice (some ⟨g, 0, none⟩) i c) (upto l i)) := HO.out.grow hb2
          clear hb2 H1
          go_wp2
          go_ret2
          exact ⟨⟨g, c, retSB HS.out (upto_length l i), by rw [HS.out]; exact own_of HO2.out HG.out⟩, HO2.out.low⟩
      · have hil' : ¬ (i : Int) < (l.length : Int) := by omega
        rcases HX.out with ⟨hs, hb⟩ | ⟨hs, hb⟩
        · have HS : Hid (sortB l = ([], false)) := hb
          have H1 := go _ hs
          clear hs hb go HC HX
          go_wp2_with fail
          refine H1.out.mono ?_
          rintro e w2 ⟨rfl, hb2⟩
          have HB2 : Hid (Below w.heap.size w w2) := grow_on HO.out.low hb2
          clear hb2 H1
          go_wp2
          go_ret2
          exact ⟨⟨w2.heap.size, 0, retSB HS.out rfl, by rw [HS.out]; exact own_none w _ rfl HB2.out.size⟩, HB2.out.alloc HB2.out.size _⟩
        · have HS : Hid (sortB l = (upto l i, true)) := hb
          have H1 := go _ hs
          clear hs hb go HC HX
          go_wp2_with fail
          refine H1.out.mono ?_
          rintro e w2 ⟨rfl, hb2⟩
          have HO2 : Hid (Out w w2 (.slice (some ⟨g, 0, none⟩) i c) (upto l i)) := HO.out.grow hb2
          clear hb2 H1
          go_wp2
          go_ret2
          exact ⟨⟨g, c, retSB HS.out (upto_length l i), by rw [HS.out]; exact own_of HO2.out HG.out⟩, HO2.out.low⟩
end Go.Proofs.Ytinegehejinmiaa.LabU
