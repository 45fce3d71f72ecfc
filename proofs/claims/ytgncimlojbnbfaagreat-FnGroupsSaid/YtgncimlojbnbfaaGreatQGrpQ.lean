/-
  PROVED: impl.chosen with impl.Flush's own question gives those alarms that are not over, as they stand, in a row of its own; nothing that was there is changed.
-/
import Derived.Test.YtgncimlojbnbfaaGreatQGrpF
set_option linter.unusedVariables false
namespace Go.Proofs.YtgncimlojbnbfaaGreat.GrpQ
open Go.RowKit
open Labs LabS Alms AlmS AlmM Over Blk App Rws ChnI ChnC ChnK Chs Grp GrpF
open ChnP (own_grow)
structure CsA (w : World) (xs : List Value) (p : List PAl) : Prop where
  len : xs.length = p.length * 4
  cell : ∀ i, i < p.length → ∃ ad cp, xs[i * 4]? = some (.slice ad (nthP p i).l.length cp) ∧ xs[i * 4 + 1]? = some (.int .i64 (nthP p i).s) ∧ xs[i * 4 + 2]? = some (.int .i64 (nthP p i).e) ∧ xs[i * 4 + 3]? = some (.string (nthP p i).n) ∧ Reads w ad (nthP p i).l
def alV (ad : Option Addr) (cp : Nat) (x : PAl) : List Value := [.slice ad x.l.length cp, .int .i64 x.s, .int .i64 x.e, .string x.n]
theorem alV_one (ad : Option Addr) (cp : Nat) (x : PAl) : ∀ v ∈ alV ad cp x, v.oneCell' = true := fun v hv => by
  simp only [alV, List.mem_cons, List.not_mem_nil, or_false] at hv
  rcases hv with rfl | rfl | rfl | rfl <;> rfl
theorem nthP_app_lt {p : List PAl} {x : PAl} {i : Nat} (h : i < p.length) : nthP (p ++ [x]) i = nthP p i := by
  rw [nthP_eq (by simp; omega), nthP_eq h]; simp [h]
theorem nthP_app_eq (p : List PAl) (x : PAl) : nthP (p ++ [x]) p.length = x := by
  rw [nthP_eq (by simp)]; simp
theorem CsA.app {w : World} {xs : List Value} {p : List PAl} {ad : Option Addr} {cp : Nat} {x : PAl} (h : CsA w xs p) (hx : Reads w ad x.l) : CsA w (xs ++ alV ad cp x) (p ++ [x]) := by
  have hl := h.len
  refine ⟨by simp [alV, hl]; omega, fun i hi => ?_⟩
  by_cases e : i < p.length
  · rw [nthP_app_lt e]
    obtain ⟨ad', cp', h0, h1, h2, h3, h4⟩ := h.cell i e
    exact ⟨ad', cp', by rw [List.getElem?_append_left (by omega)]; exact h0, by rw [List.getElem?_append_left (by omega)]; exact h1, by rw [List.getElem?_append_left (by omega)]; exact h2, by rw [List.getElem?_append_left (by omega)]; exact h3, h4⟩
  · have : i = p.length := by simp at hi; omega
    subst this
    rw [nthP_app_eq]
    refine ⟨ad, cp, ?_, ?_, ?_, ?_, hx⟩
    · rw [List.getElem?_append_right (by omega), hl, Nat.sub_self]; rfl
    · rw [List.getElem?_append_right (by omega), hl, show p.length * 4 + 1 - p.length * 4 = 1 by omega]; rfl
    · rw [List.getElem?_append_right (by omega), hl, show p.length * 4 + 2 - p.length * 4 = 2 by omega]; rfl
    · rw [List.getElem?_append_right (by omega), hl, show p.length * 4 + 3 - p.length * 4 = 3 by omega]; rfl
structure OutA (w wr : World) (v : Value) (p : List PAl) (xs : List Value) : Prop where
  own : wr.ownsRow w.heap.size 27 4 v p.length xs
  lies : ∃ g c, v = .slice (some ⟨g, 0, none⟩) p.length c
  low : Below w.heap.size w wr
  cs : CsA w xs p
theorem OutA.grow {w wr w' : World} {v : Value} {p : List PAl} {xs : List Value} (h : OutA w wr v p xs) (hb : Below wr.heap.size wr w') : OutA w w' v p xs :=
  ⟨own_grow h.own hb, h.lies, grow_on h.low hb, h.cs⟩
theorem OutA.add {w W w' : World} {v v' : Value} {p : List PAl} {xs : List Value} {ad : Option Addr} {cp : Nat} {x : PAl} (h : OutA w W v p xs) (hx : Reads w ad x.l)
    (hown : w'.ownsRow w.heap.size 27 4 v' (p.length + 1) (xs ++ alV ad cp x)) (hg : W.grownBy w' v.ownBlock) (hn : v' ≠ .slice none 0 0) : OutA w w' v' (p ++ [x]) (xs ++ alV ad cp x) := by
  have ho : w'.ownsRow w.heap.size 27 4 v' (p ++ [x]).length (xs ++ alV ad cp x) := by rw [List.length_append]; exact hown
  refine ⟨ho, ?_, h.low.grown hg h.low.size (fun k hk => (h.own.lt k hk).1), h.cs.app hx⟩
  rcases ho.2 with ⟨e, _⟩ | ⟨g, c, cur, e, _⟩
  · exact absurd e hn
  · exact ⟨g, c, e⟩
theorem OutA.rd {w w2 : World} {g c n : Nat} {p : List PAl} {xs : List Value} (h : OutA w w2 (.slice (some ⟨g, 0, none⟩) n c) p xs) : RdA w2 (some ⟨g, 0, none⟩) p := by
  rcases h.own.2 with ⟨e, _⟩ | ⟨g', cap', cur, e, hb, hg, hc, _, hz, ht⟩
  · cases e
  · cases e
    have hbk : Blk w2 g cur 27 := hg
    refine .inr ⟨g, 0, rfl, hbk.lt, fun i hi => ?_⟩
    obtain ⟨ad, cp, h0, h1, h2, h3, h4⟩ := h.cs.cell i hi
    have hl := h.cs.len
    have hat : ∀ j, j < p.length * 4 → w2.cell? ⟨g, 0 + j, none⟩ = xs[j]? := fun j hj => by
      rw [Nat.zero_add, hbk.cell, ← ht, List.getElem?_take_of_lt (by omega)]; simp
    exact ⟨ad, cp, (hat (i * 4) (by omega)).trans h0, (hat (i * 4 + 1) (by omega)).trans h1, (hat (i * 4 + 2) (by omega)).trans h2, (hat (i * 4 + 3) (by omega)).trans h3, h4.below h.low⟩
theorem notOver_any (b0 : Nat) (ad : Option Addr) (cp : Nat) (x : PAl) (now : Int) (w : World) (hc : w.cell? ⟨b0, 0, none⟩ = some (.int .i64 now)) :
    Calls Tryz.prog 69 #[.agg #[.slice ad x.l.length cp, .int .i64 x.s, .int .i64 x.e, .string x.n], .pointer (some ⟨b0, 0, none⟩)] w fun e w' => e = .returned (.bool (!overB x.e now)) ∧ Below w.heap.size w w' := by
  have hb0 : b0 < w.heap.size := World.block_lt_of_cell? w _ hc
  have hc1 : ∀ o, (w.alloc o).cell? ⟨b0, 0, none⟩ = some (.int .i64 now) := fun o => by
    rw [World.cell?_alloc_lt _ _ _ hb0]; exact hc
  clear hc
  go_enter Tryz.func69, Tryz.ntmps69
  go_wp2_with fail
  refine (implOver_any _ _ _ _ _ _).mono ?_
  rintro e w1 ⟨rfl, hb1⟩
  have HB1 : Hid (Below w.heap.size w w1) := grow_on (Go.Joins.below_alloc1 w _) hb1
  clear hb1
  go_wp2
  go_ret
  exact ⟨by simp, HB1.out⟩
set_option maxHeartbeats 1600000 in
theorem chosenA_any (a : Option Addr) (b0 cap : Nat) (P : List PAl) (now : Int) (w : World) (hr : RdA w a P) (hc : w.cell? ⟨b0, 0, none⟩ = some (.int .i64 now)) (hl : P.length ≤ 1048576) :
    Calls Tryz.prog 68 #[.slice a P.length cap, .func (.func 69) #[] #[.pointer (some ⟨b0, 0, none⟩)]] w fun e w' => (∃ M c, e = .returned (.slice (some ⟨M, 0, none⟩) (leftTo P now P.length).length c) ∧ RdA w' (some ⟨M, 0, none⟩) (leftTo P now P.length)) ∧ Below w.heap.size w w' := by
  have HR : Hid (RdA w a P) := hr
  have HC : Hid (w.cell? ⟨b0, 0, none⟩ = some (.int .i64 now)) := hc
  have hb0 : b0 < w.heap.size := World.block_lt_of_cell? w _ hc
  clear hr hc
  obtain ⟨i0, hi, hz0, hz1, hz2⟩ := info_parts infoA
  go_enter Tryz.func68, Tryz.ntmps68
  go_wp2
  go_loopw [5, 11] (fun v i w' => ∃ (k : Nat) (p : List PAl) (xs : List Value), i = .int .i64 k ∧ k ≤ P.length ∧ OutA w w' v p xs ∧ p = leftTo P now k) (fun _ i _ => P.length - (intOf i).toNat)
  case atStart => exact ⟨0, [], [], rfl, Nat.zero_le _, ⟨World.ownsRow_made w #[] 0 (Nat.le_refl _) (by simp [maxLen]) rfl, ⟨w.heap.size, 0, rfl⟩, (Below.refl _ _).alloc (Nat.le_refl _) _, ⟨rfl, fun i hi => by simp at hi⟩⟩, by unfold leftTo; simp⟩
  case round =>
    obtain ⟨k, p, xs, rfl, hk, ho, hp⟩ := hrel
    obtain ⟨g, c, rfl⟩ := ho.lies
    have HO : Hid (OutA w wr (.slice (some ⟨g, 0, none⟩) p.length c) p xs) := ho
    have HP : Hid (p = leftTo P now k) := hp
    have HL : Hid (p.length ≤ P.length) := by show _ ≤ _; rw [hp]; exact left_le hk
    clear ho hp
    by_cases hlt : k < P.length
    · have hlt' : (k : Int) < (P.length : Int) := by omega
      obtain ⟨b, off, rfl, hb, ad, cp, hat⟩ := HR.out.get hlt
      have hat' := hat.below HO.out.low hb
      have h2 := hat'.c0
      have h3 := hat'.c1
      have h4 := hat'.c2
      have h5 := hat'.c3
      have HRd : Hid (Reads w ad (nthP P k).l) := hat.reads
      have HV : Hid (∀ y, Below wr.heap.size wr y → Calls Tryz.prog 69 #[.agg #[.slice ad (nthP P k).l.length cp, .int .i64 (nthP P k).s, .int .i64 (nthP P k).e, .string (nthP P k).n], .pointer (some ⟨b0, 0, none⟩)] y fun e w' => e = .returned (.bool (!overB (nthP P k).e now)) ∧ Below y.heap.size y w') := fun y hy => notOver_any b0 ad cp (nthP P k) now y (((grow_on HO.out.low hy).cell (p := ⟨b0, 0, none⟩) hb0).trans HC.out)
      clear hat hat'
      cases hov : overB (nthP P k).e now with
      | true =>
        rw [hov] at HV
        have HE : Hid (leftTo P now (k + 1) = leftTo P now k) := left_o hlt hov
        clear hov
        go_wp2_with fail
        refine (HV.out _ (Go.Joins.below_alloc1 wr _)).mono ?_
        rintro e w1 ⟨rfl, hb1⟩
        have HO1 : Hid (OutA w w1 (.slice (some ⟨g, 0, none⟩) p.length c) p xs) := HO.out.grow (grow_on (Go.Joins.below_alloc1 wr _) hb1)
        clear hb1 h2 h3 h4 h5 HV HO
        go_wp2
        go_roundw
        case rel => exact ⟨k + 1, p, xs, by go_num, by omega, HO1.out, HP.out.trans HE.out.symm⟩
        case measure => simp [intOf]; omega
      | false =>
        rw [hov] at HV
        have HE : Hid (leftTo P now (k + 1) = leftTo P now k ++ [nthP P k]) := left_k hlt hov
        clear hov
        go_wp2_with fail
        refine (HV.out _ (Go.Joins.below_alloc1 wr _)).mono ?_
        rintro e w1 ⟨rfl, hb1⟩
        have HX : Hid (Blk w1 wr.heap.size #[.slice ad (nthP P k).l.length cp, .int .i64 (nthP P k).s, .int .i64 (nthP P k).e, .string (nthP P k).n] 27) := (Blk.new _ _ _).grow hb1
        have HO1 : Hid (OutA w w1 (.slice (some ⟨g, 0, none⟩) p.length c) p xs) := HO.out.grow (grow_on (Go.Joins.below_alloc1 wr _) hb1)
        have HO2 : Hid (OutA w (w1.alloc (.cells #[.slice ad (nthP P k).l.length cp, .int .i64 (nthP P k).s, .int .i64 (nthP P k).e, .string (nthP P k).n] 27)) (.slice (some ⟨g, 0, none⟩) p.length c) p xs) := HO1.out.grow (Go.Joins.below_alloc1 w1 _)
        have z0 : w1.cell? ⟨wr.heap.size, 0, none⟩ = some (.slice ad (nthP P k).l.length cp) := HX.out.cell 0
        have z1 : w1.cell? ⟨wr.heap.size, 1, none⟩ = some (.int .i64 (nthP P k).s) := HX.out.cell 1
        have z2 : w1.cell? ⟨wr.heap.size, 2, none⟩ = some (.int .i64 (nthP P k).e) := HX.out.cell 2
        have z3 : w1.cell? ⟨wr.heap.size, 3, none⟩ = some (.string (nthP P k).n) := HX.out.cell 3
        have hpl : p.length ≤ 1048576 := Nat.le_trans HL.out hl
        clear hb1 h2 h3 h4 h5 HV HO
        go_wp2_with (at_builtin; refine wpList_append_own_at _ rfl _ _ 35 rfl w.heap.size 27 i0 (.agg #[.slice none 0 0, .int .i64 0, .int .i64 0, .string ByteArray.empty]) 4 56 Tryz.underlying35 hi hz0 hz1 hz2 rfl (by decide) _ _ _ rfl HO2.out.own ⟨w1.heap.size, 0, none⟩ 1 1 (alV ad cp (nthP P k)) rfl rfl ?c1 (alV_one _ _ _) ?c3 ?c4 ?c5 ?_)
        case c1 => exact blk_news (Blk.new _ _ _)
        case c3 => unfold maxLen; omega
        case c4 => omega
        case c5 => have := HO1.out.low.size; simp; omega
        intro v' w3 hown hg hnil _
        have HO3 : Hid (OutA w w3 v' (p ++ [nthP P k]) (xs ++ alV ad cp (nthP P k))) := HO2.out.add HRd.out hown hg hnil
        clear hown hg hnil z0 z1 z2 z3 HO1 HO2 HX
        go_wp2
        go_roundw
        case rel => exact ⟨k + 1, _, _, by go_num, by omega, HO3.out, by rw [HE.out, HP.out]⟩
        case measure => simp [intOf]; omega
    · have hge : ¬ (k : Int) < (P.length : Int) := by omega
      have HE : Hid (p = leftTo P now P.length) := by unfold Hid; rw [HP.out, show k = P.length by omega]
      go_wp2
      go_ret
      refine ⟨⟨g, ⟨c, ?_⟩, ?_⟩, HO.out.low⟩
      · rw [← HE.out]; rfl
      · rw [← HE.out]; exact HO.out.rd
end Go.Proofs.YtgncimlojbnbfaaGreat.GrpQ
