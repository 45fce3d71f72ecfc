/-
  PROVED: over a part in memory impl.SweepIn gives what is left, chain by chain, and what goes, as plain functions on lists say, in memory of its own; nothing that was there is changed.
-/
import Derived.Test.YtooninmicfcfoaaGreatQPrtW
import Derived.Test.YtooninmicfcfoaaGreatQPrtL
import Derived.Deep.RegionHeld3
set_option linter.unusedVariables false
namespace Go.Proofs.YtooninmicfcfoaaGreat.PrtY
open Go.RowKit
open Labs LabS Alms AlmM Over Blk App Rws ChnI ChnC ChnP ChnD ChnK Chs Prt PrtA PrtM PrtW PrtH PrtL Mps

theorem bel_alloc {z w : World} (h : Below z.heap.size z w) (o : Obj) : Below z.heap.size z (w.alloc o) := h.alloc h.size o
theorem moved_map {ι : Type} {enc : ι → Value} {w w' : World} {b : Nat} {g : ι → Option Value} (hm : MapG enc w b g) (hg : w.grownBy w' (some b)) : Moved w w' := ⟨fun h => blk_map h hm hg, fun h => blk_map h hm hg⟩
def Done (lo : Nat) (w : World) (Md : Nat) (o : Option Value) (v : Option PCh) : Prop :=
  match v with
  | none => o = none
  | some x => ∃ M c rs, o = some (.agg #[.int .i64 x.f, .slice (some ⟨M, 0, none⟩) rs.length c]) ∧ AB lo w M c rs ∧ pals rs = x.P ∧ M ≠ Md
theorem Done.imp {lo : Nat} {w w' : World} {Md Md' : Nat} {o : Option Value} {v : Option PCh} (h : Done lo w Md o v) (f : ∀ M c rs, AB lo w M c rs → M ≠ Md → AB lo w' M c rs ∧ M ≠ Md') : Done lo w' Md' o v := by
  cases v with
  | none => exact h
  | some x =>
    obtain ⟨M, c, rs, h1, h2, h3, h4⟩ := h
    exact ⟨M, c, rs, h1, (f M c rs h2 h4).1, h3, (f M c rs h2 h4).2⟩
theorem Done.ent {lo : Nat} {w : World} {Md : Nat} {o : Option Value} {v : Option PCh} (h : Done lo w Md o v) : Ent w o v := by
  cases v with
  | none => exact h
  | some x =>
    obtain ⟨M, c, rs, h1, h2, h3, h4⟩ := h
    have hr := h2.rd.rd
    rw [h3] at hr
    exact ⟨some ⟨M, 0, none⟩, c, by rw [h1, ← pals_len, h3], hr⟩
def keysC (C : List PCh) : List (Int × Int) := (List.range C.length).map (keyC C)
def valsC (C : List PCh) (now : Int) : List (Option PCh) := (List.range C.length).map fun i => sweep1 now (nthC C i)
theorem keys_len (C : List PCh) : (keysC C).length = C.length := by simp [keysC]
theorem vals_len (C : List PCh) (now : Int) : (valsC C now).length = C.length := by simp [valsC]
theorem keys_nth {C : List PCh} {i : Nat} (h : i < C.length) : nthK (keysC C) i = keyC C i := by rw [nthK_eq (by rw [keys_len]; exact h)]; simp [keysC]
theorem vals_nth {C : List PCh} {now : Int} {i : Nat} (h : i < C.length) : nthV (valsC C now) i = sweep1 now (nthC C i) := by rw [nthV_eq (by rw [vals_len]; exact h)]; simp [valsC]
theorem vals_laid (C : List PCh) (now : Int) : laidTo (valsC C now) C.length = sweepTo C now C.length := by
  unfold laidTo sweepTo
  rw [List.take_of_length_le (by rw [vals_len]; exact Nat.le_refl _), List.take_length]
  have e : C = (List.range C.length).map (nthC C) := by
    apply List.ext_getElem
    · simp
    · intro i h1 h2
      simp only [List.getElem_map, List.getElem_range]
      exact (nthC_eq h1).symm
  have e2 : valsC C now = C.map (sweep1 now) := by
    unfold valsC
    rw [e, List.map_map]
    simp only [List.length_map, List.length_range]
    rw [← e]
    rfl
  rw [e2, List.filterMap_map]
  rfl
theorem slots_list {w : World} {M : Nat} {C : List PCh} {cs : Array Value} (h : SlotsK w M C C.length cs) : SlotL w M (keysC C) :=
  ⟨cs, h.blk, by rw [keys_len, h.size]; exact Nat.le_refl _, fun i hi => by
    rw [keys_len] at hi
    rw [keys_nth hi]
    exact h.cell i hi⟩
structure MidY (W0 : World) (C : List PCh) (now : Int) (ad : Nat → Option Addr) (cp : Nat → Nat) (Mm Ms T : Nat) (sc : Array Value) (k : Nat) (W : World) (Md cd : Nat) (rs : List ARow) (g : Int × Int → Option Value) : Prop where
  low : Below W0.heap.size W0 W
  shelf : Blk W T #[.map (some Mm), .slice (some ⟨Ms, 0, none⟩) C.length C.length] 90
  gone : AB W0.heap.size W Md cd rs
  slots : SlotsK W Ms C C.length sc
  map : MapG TwoK W Mm g
  lm : W0.heap.size ≤ Mm
  old : ∀ i, k ≤ i → i < C.length → g (keyC C i) = some (chV (nthC C i) (ad i) (cp i))
  new : ∀ i, i < k → Done W0.heap.size W Md (g (keyC C i)) (sweep1 now (nthC C i))
theorem MidY.grow {W0 : World} {C : List PCh} {now : Int} {ad : Nat → Option Addr} {cp : Nat → Nat} {Mm Ms T : Nat} {sc : Array Value} {k : Nat} {W W' : World} {Md cd : Nat} {rs : List ARow} {g : Int × Int → Option Value} (h : MidY W0 C now ad cp Mm Ms T sc k W Md cd rs g) (hb : Below W.heap.size W W') : MidY W0 C now ad cp Mm Ms T sc k W' Md cd rs g :=
  ⟨grow_on h.low hb, h.shelf.grow hb, h.gone.grow hb, h.slots.grow hb, h.map.grow hb, h.lm, h.old, fun i hi => (h.new i hi).imp fun M c rs ha hn => ⟨ha.grow hb, hn⟩⟩
set_option maxRecDepth 100000 in
set_option maxHeartbeats 4000000 in
theorem implSweep_any (hd vr now : Int) (a : Option Addr) (cap : Nat) (C : List PCh) (w : World) (hr : RdG RdA w a C) (hl : C.length ≤ 1048576) (hs : SmallA C) (hc : sumC C ≤ 1048576) :
    Calls Tryz.prog 15 #[.agg #[.int .i64 hd, .int .i64 vr, .slice a C.length cap], .int .i64 now] w fun e w' => (∃ M c cs Md cd rs, e = .returned (.tuple #[.agg #[.int .i64 hd, .int .i64 (verS vr (gonesTo C now C.length).length), .slice (some ⟨M, 0, none⟩) cs.length c], .slice (some ⟨Md, 0, none⟩) rs.length cd]) ∧ CB w.heap.size w' M c cs ∧ AB w.heap.size w' Md cd rs ∧ chs cs = sweepTo C now C.length ∧ pals rs = gonesTo C now C.length ∧ ∀ k, blksC M cs k → ¬ blks Md rs k) ∧ Below w.heap.size w w' := by
  have HR : Hid (RdG RdA w a C ∧ SmallA C ∧ sumC C ≤ 1048576) := ⟨hr, hs, hc⟩
  clear hr hs hc
  obtain ⟨i0, hi, hz0, hz1, hz2⟩ := info_parts infoA
  go_enter Tryz.func15, Tryz.ntmps15
  go_wp2_with fail
  obtain ⟨W0, hW0⟩ : ∃ W0, (w.alloc (.cells #[.int .i64 hd, .int .i64 vr, .slice a C.length cap] 26)).alloc (.cells #[.int .i64 0, .int .i64 0, .slice none 0 0] 26) = W0 := ⟨_, rfl⟩
  have HW0 : Hid (Below w.heap.size w W0 ∧ Blk W0 w.heap.size #[.int .i64 hd, .int .i64 vr, .slice a C.length cap] 26 ∧ Blk W0 (w.heap.size + 1) #[.int .i64 0, .int .i64 0, .slice none 0 0] 26 ∧ W0.heap.size = w.heap.size + 2) := by
    rw [← hW0]
    exact ⟨Go.Joins.below_alloc2 w _ _, (Blk.new _ _ _).alloc _, Blk.new_at (by simp), by simp⟩
  rw [hW0]
  clear hW0
  refine (shelve_any a cap C W0 (HR.out.1.below stays_rd HW0.out.1) hl).mono ?_
  rintro e w2 ⟨⟨Mm, Ms, rfl, ad, cp, hsh⟩, hb2⟩
  obtain ⟨sc, hsc⟩ := hsh.slots
  have HSH : Hid (Shelved W0.heap.size W0 w2 C ad cp Mm Ms) := hsh
  have HSC : Hid (SlotsK w2 Ms C C.length sc) := hsc
  have HB2 : Hid (Below W0.heap.size W0 w2) := hb2
  clear hsh hsc hb2
  obtain ⟨W3, hW3⟩ : ∃ W3, (w2.alloc (.cells #[] 29)).alloc (.cells #[.map (some Mm), .slice (some ⟨Ms, 0, none⟩) C.length C.length] 90) = W3 := ⟨_, rfl⟩
  have H3 : Hid (MidY W0 C now ad cp Mm Ms (w2.heap.size + 1) sc 0 W3 w2.heap.size 0 [] (shG C (fun i => chV (nthC C i) (ad i) (cp i)) C.length)) := by
    have hbb : Below w2.heap.size w2 W3 := by rw [← hW3]; exact Go.Joins.below_alloc2 w2 _ _
    have h1 : Blk W3 (w2.heap.size + 1) #[.map (some Mm), .slice (some ⟨Ms, 0, none⟩) C.length C.length] 90 := by rw [← hW3]; exact Blk.new_at (by simp)
    have h2 : Blk W3 w2.heap.size #[] 29 := by rw [← hW3]; exact (Blk.new _ _ _).alloc _
    exact ⟨grow_on HB2.out hbb, h1, AB.nil h2 HB2.out.size, HSC.out.grow hbb, HSH.out.map.grow hbb, HSH.out.lm, fun i _ hi => shG_at hi, fun i hi => by omega⟩
  have t1 : W3.cell? ⟨w2.heap.size + 1, 1, none⟩ = some (.slice (some ⟨Ms, 0, none⟩) C.length C.length) := H3.out.shelf.cell 1
  go_wp2
  try rw [hW3]
  clear hW3 t1
  go_loopw [7, 20] (fun v i w' => ∃ (k Md cd : Nat) (rs : List ARow) (g : Int × Int → Option Value), i = .int .i64 k ∧ k ≤ C.length ∧ v = .slice (some ⟨Md, 0, none⟩) rs.length cd ∧ MidY W0 C now ad cp Mm Ms (w2.heap.size + 1) sc k w' Md cd rs g ∧ pals rs = gonesTo C now k) (fun _ i _ => C.length - (intOf i).toNat)
  case atStart => exact ⟨0, w2.heap.size, 0, [], _, rfl, Nat.zero_le _, rfl, H3.out, rfl⟩
  case round =>
    obtain ⟨k, Md, cd, rs, g, rfl, hk, rfl, hmid, hpg⟩ := hrel
    have HM : Hid (MidY W0 C now ad cp Mm Ms (w2.heap.size + 1) sc k wr Md cd rs g) := hmid
    have HP : Hid (pals rs = gonesTo C now k) := hpg
    clear hmid hpg
    by_cases hlt : k < C.length
    · have hlt' : (k : Int) < (C.length : Int) := by omega
      obtain ⟨k0, k1⟩ := HM.out.slots.cell k hlt
      have x0 : wr.cell? ⟨Ms, k * 2, none⟩ = some (.int .i64 (keyC C k).1) := (HM.out.slots.blk.cell _).trans k0
      have x1 : wr.cell? ⟨Ms, k * 2 + 1, none⟩ = some (.int .i64 (keyC C k).2) := (HM.out.slots.blk.cell _).trans k1
      clear k0 k1
      obtain ⟨W4, hW4⟩ : ∃ W4, wr.alloc (.cells #[.int .i64 (keyC C k).1, .int .i64 (keyC C k).2] 94) = W4 := ⟨_, rfl⟩
      have H4 : Hid (Below wr.heap.size wr W4 ∧ Blk W4 wr.heap.size #[.int .i64 (keyC C k).1, .int .i64 (keyC C k).2] 94) := by
        rw [← hW4]
        exact ⟨Go.Joins.below_alloc1 wr _, Blk.new _ _ _⟩
      have HM4 : Hid (MidY W0 C now ad cp Mm Ms (w2.heap.size + 1) sc k W4 Md cd rs g) := HM.out.grow H4.out.1
      have y0 : W4.cell? ⟨wr.heap.size, 0, none⟩ = some (.int .i64 (keyC C k).1) := H4.out.2.cell 0
      have y1 : W4.cell? ⟨wr.heap.size, 1, none⟩ = some (.int .i64 (keyC C k).2) := H4.out.2.cell 1
      have t0 : W4.cell? ⟨w2.heap.size + 1, 0, none⟩ = some (.map (some Mm)) := HM4.out.shelf.cell 0
      have HG : Hid ((g (keyC C k)).getD (.agg #[.int .i64 0, .slice none 0 0]) = .agg #[.int .i64 (nthC C k).f, .slice (ad k) (nthC C k).P.length (cp k)]) := by show Option.getD _ _ = _; rw [HM.out.old k (Nat.le_refl _) hlt]; rfl
      have HSk : Hid ((nthC C k).P.length ≤ 1048576 ∧ LenM (nthC C k).P) := HR.out.2.1 _ (nthC_mem hlt)
      go_wp2_with (at_lookup; refine wp_lookup _ rfl _ _ 87 false rfl 94 96 TwoK asked_slot Tryz.underlying87 (zeroC _) Mm g rfl HM4.out.map (keyC C k) rfl (.agg #[.int .i64 (nthC C k).f, .slice (ad k) (nthC C k).P.length (cp k)]) HG.out ?_)
      go_wp2_with fail
      refine (implDrop_any _ (ad k) (cp k) (nthC C k).P now W4 ((HSH.out.reads k hlt).below HM4.out.low) HSk.out.1 HSk.out.2).mono ?_
      rintro e w5 ⟨⟨M1, c1, rs1, M2, c2', rs2, rfl, hT, hp1, hp2⟩, hb5⟩
      have HT : Hid (Two W4.heap.size w5 M1 c1 rs1 M2 c2' rs2 ∧ pals rs1 = leftTo (nthC C k).P now (nthC C k).P.length ∧ pals rs2 = goneTo (nthC C k).P now (nthC C k).P.length) := ⟨hT, hp1, hp2⟩
      have HB5 : Hid (Below W4.heap.size W4 w5) := hb5
      clear hT hp1 hp2 hb5 x0 x1 y0 y1 t0 hW4
      obtain ⟨W6, hW6⟩ : ∃ W6, w5.alloc (.cells #[.int .i64 (nthC C k).f, .slice (some ⟨M1, 0, none⟩) rs1.length c1] 96) = W6 := ⟨_, rfl⟩
      have H6 : Hid (Below w5.heap.size w5 W6 ∧ Blk W6 w5.heap.size #[.int .i64 (nthC C k).f, .slice (some ⟨M1, 0, none⟩) rs1.length c1] 96) := by
        rw [← hW6]
        exact ⟨Go.Joins.below_alloc1 w5 _, Blk.new _ _ _⟩
      have HM6 : Hid (MidY W0 C now ad cp Mm Ms (w2.heap.size + 1) sc k W6 Md cd rs g ∧ Blk W6 wr.heap.size #[.int .i64 (keyC C k).1, .int .i64 (keyC C k).2] 94) := ⟨(HM4.out.grow HB5.out).grow H6.out.1, (H4.out.2.grow HB5.out).grow H6.out.1⟩
      have HT6 : Hid (Two W4.heap.size W6 M1 c1 rs1 M2 c2' rs2) := HT.out.1.grow H6.out.1
      have HL : Hid (rs1.length = (leftTo (nthC C k).P now (nthC C k).P.length).length ∧ rs2.length = (goneTo (nthC C k).P now (nthC C k).P.length).length) := ⟨by rw [← pals_len, HT.out.2.1], by rw [← pals_len, HT.out.2.2]⟩
      have hgl : rs.length + rs2.length ≤ 1048576 := by
        have h1 := (sweep_sum (C := C) (now := now) (k := k + 1) (by omega)).1
        have h2 := sumC_le C (k + 1)
        have h3 := HR.out.2.2
        rw [gones_up hlt, List.length_append, ← HP.out, pals_len, ← HL.out.2] at h1
        omega
      have hwz : W0.heap.size ≤ W4.heap.size := HM4.out.low.size
      obtain ⟨xs, hox, hxl, hxs⟩ := HM6.out.1.gone.own
      have HOX : Hid (W6.ownsRow W0.heap.size 29 4 (.slice (some ⟨Md, 0, none⟩) rs.length cd) rs.length xs) := hox
      have HXS : Hid (xs.length = rs.length * 4 ∧ ∀ i, i < rs.length → Four (fun k => xs[k]?) i (nthA rs i)) := ⟨hxl, hxs⟩
      clear hox hxl hxs
      go_wp2_with (at_builtin; refine wpList_append_own_at _ rfl _ _ 40 rfl W0.heap.size 29 i0 (.agg #[.slice none 0 0, .int .i64 0, .int .i64 0, .string ByteArray.empty]) 4 56 Tryz.underlying40 hi hz0 hz1 hz2 rfl (by decide) _ _ _ rfl HOX.out ⟨M2, 0, none⟩ rs2.length _ (flatA rs2) rfl (flatA_len rs2) (flatA_news HT6.out.b) (flatA_one _) ?c3 ?c4 ?c5 ?_)
      case c3 => unfold maxLen; omega
      case c4 => omega
      case c5 => exact HM6.out.1.low.size
      intro v' w7 hown hg hnil hat
      obtain ⟨M7, c7, rfl, hAB7⟩ := AB.appAll HM6.out.1.gone (fun x hx => (HT6.out.b.rows x hx).down hwz) HT6.out.b.ne (fun y hy x hx => by have := (HM4.out.gone.rows y hy).lt; have := (HT6.out.b.rows x hx).1; omega) HXS.out.1 HXS.out.2 hown hg (fun e => by rw [e] at hat; simp [Value.ownBlock] at hat)
      have hM7 : M7 = Md ∨ M7 = W6.heap.size := at_new hat rfl
      obtain ⟨cu, hcu⟩ := ab_out HM6.out.1.gone
      have hMd := HM4.out.gone.lt
      have fr : ∀ {N : Nat} {ds : Array Value} {T : TypeId}, Blk W6 N ds T → T ≠ 29 → Blk w7 N ds T := fun h hT => blk_far h hg (fun e => blkT_ne h hcu hT (Option.some.inj e))
      have HM7 : Hid (MidY W0 C now ad cp Mm Ms (w2.heap.size + 1) sc k w7 M7 c7 (rs ++ rs2) g) := ⟨HM6.out.1.low.grown hg HM6.out.1.low.size (fun q e => by have h : Md = q := Option.some.inj e; have := HM.out.gone.at'; omega), fr HM6.out.1.shelf (by decide), hAB7, HM6.out.1.slots.kept (fr HM6.out.1.slots.blk (by decide)), HM6.out.1.map.far hg (fun e => HM6.out.1.map.ne_blk hcu (Option.some.inj e).symm), HM.out.lm, HM.out.old, fun i hi => (HM6.out.1.new i hi).imp fun M c rs ha hn => ⟨ab_far ha hcu hg hn, by
        rcases hM7 with e | e
        · rw [e]; exact hn
        · have := ha.lt; omega⟩⟩
      have HX7 : Hid (Blk w7 w5.heap.size #[.int .i64 (nthC C k).f, .slice (some ⟨M1, 0, none⟩) rs1.length c1] 96 ∧ Blk w7 wr.heap.size #[.int .i64 (keyC C k).1, .int .i64 (keyC C k).2] 94) := ⟨fr H6.out.2 (by decide), fr HM6.out.2 (by decide)⟩
      have HA7 : Hid (AB W0.heap.size w7 M1 c1 rs1 ∧ M1 ≠ M7) := ⟨(ab_far HT6.out.a hcu hg (by have := HT6.out.a.at'; omega)).down hwz, by
        rcases hM7 with e | e
        · have := HT6.out.a.at'; omega
        · have := HT6.out.a.lt; omega⟩
      have HG7 : Hid (pals (rs ++ rs2) = gonesTo C now (k + 1)) := by show _ = _; rw [pals_two, HP.out, HT.out.2.2, gones_up hlt]
      have hl7 : (rs ++ rs2).length = rs.length + rs2.length := by simp
      rw [← hl7]
      have x0 : w7.cell? ⟨w5.heap.size, 0, none⟩ = some (.int .i64 (nthC C k).f) := HX7.out.1.cell 0
      have x1 : w7.cell? ⟨w5.heap.size, 1, none⟩ = some (.slice (some ⟨M1, 0, none⟩) rs1.length c1) := HX7.out.1.cell 1
      have y0 : w7.cell? ⟨wr.heap.size, 0, none⟩ = some (.int .i64 (keyC C k).1) := HX7.out.2.cell 0
      have y1 : w7.cell? ⟨wr.heap.size, 1, none⟩ = some (.int .i64 (keyC C k).2) := HX7.out.2.cell 1
      have t0 : w7.cell? ⟨w2.heap.size + 1, 0, none⟩ = some (.map (some Mm)) := HM7.out.shelf.cell 0
      clear hown hg hnil hat hAB7 hM7 hcu hMd hW6 hl7 fr
      generalize hqq : rs ++ rs2 = qs at HM7 HG7 ⊢
      clear hqq
      go_wp2_with (at_mapUpdate; refine wp_update _ rfl _ _ _ 87 rfl 94 96 TwoK asked_slot Tryz.underlying87 Mm g rfl HM7.out.map (keyC C k) (.agg #[.int .i64 (nthC C k).f, .slice (some ⟨M1, 0, none⟩) rs1.length c1]) rfl rfl ?_)
      intro w8 hm8 hg8 hs8
      have HNK : Hid (∀ i, i ≠ k → keyC C i ≠ keyC C k) := fun i hi e => hi (keyC_inj e)
      have hold8 : ∀ i, k + 1 ≤ i → i < C.length → updG g (keyC C k) (some (.agg #[.int .i64 (nthC C k).f, .slice (some ⟨M1, 0, none⟩) rs1.length c1])) (keyC C i) = some (chV (nthC C i) (ad i) (cp i)) := fun i h1 h2 => by rw [upd_no (HNK.out i (by omega))]; exact HM.out.old i (by omega) h2
      have hnew8 : ∀ i, i < k → updG g (keyC C k) (some (.agg #[.int .i64 (nthC C k).f, .slice (some ⟨M1, 0, none⟩) rs1.length c1])) (keyC C i) = g (keyC C i) := fun i h1 => upd_no (HNK.out i (by omega))
      have HA8 : Hid (AB W0.heap.size w8 M1 c1 rs1) := ab_moved HA7.out.1 (moved_map HM7.out.map hg8)
      have HM8 : Hid (Below W0.heap.size W0 w8 ∧ Blk w8 (w2.heap.size + 1) #[.map (some Mm), .slice (some ⟨Ms, 0, none⟩) C.length C.length] 90 ∧ AB W0.heap.size w8 M7 c7 qs ∧ SlotsK w8 Ms C C.length sc ∧ MapG TwoK w8 Mm (updG g (keyC C k) (some (.agg #[.int .i64 (nthC C k).f, .slice (some ⟨M1, 0, none⟩) rs1.length c1]))) ∧ ∀ i, i < k → Done W0.heap.size w8 M7 (updG g (keyC C k) (some (.agg #[.int .i64 (nthC C k).f, .slice (some ⟨M1, 0, none⟩) rs1.length c1])) (keyC C i)) (sweep1 now (nthC C i))) := ⟨mapDown HM7.out.low hg8 (Nat.le_refl _) HM.out.lm, blk_map HM7.out.shelf HM7.out.map hg8, ab_moved HM7.out.gone (moved_map HM7.out.map hg8), HM7.out.slots.kept (blk_map HM7.out.slots.blk HM7.out.map hg8), hm8, fun i hi => by
        rw [hnew8 i hi]
        exact (HM7.out.new i hi).imp fun M c rs ha hn => ⟨ab_moved ha (moved_map HM7.out.map hg8), hn⟩⟩
      have HH8 : Hid (∀ i, k + 1 ≤ i → i < C.length → updG g (keyC C k) (some (.agg #[.int .i64 (nthC C k).f, .slice (some ⟨M1, 0, none⟩) rs1.length c1])) (keyC C i) = some (chV (nthC C i) (ad i) (cp i))) := hold8
      have x1' : w8.cell? ⟨w5.heap.size, 1, none⟩ = some (.slice (some ⟨M1, 0, none⟩) rs1.length c1) := (blk_map HX7.out.1 HM7.out.map hg8).cell 1
      have y0' : w8.cell? ⟨wr.heap.size, 0, none⟩ = some (.int .i64 (keyC C k).1) := (blk_map HX7.out.2 HM7.out.map hg8).cell 0
      have y1' : w8.cell? ⟨wr.heap.size, 1, none⟩ = some (.int .i64 (keyC C k).2) := (blk_map HX7.out.2 HM7.out.map hg8).cell 1
      have t0' : w8.cell? ⟨w2.heap.size + 1, 0, none⟩ = some (.map (some Mm)) := HM8.out.2.1.cell 0
      clear hm8 hg8 hs8 hold8 hnew8 x0 x1 y0 y1 t0
      by_cases hle : rs1.length = 0
      · have HS : Hid (sweep1 now (nthC C k) = none) := sweep1_no (by have := HL.out.1; omega)
        go_wp2_with (at_delete; refine wp_delete _ rfl _ _ 87 94 rfl 96 TwoK asked_slot Tryz.underlying87 Mm _ rfl HM8.out.2.2.2.2.1 (keyC C k) rfl ?_)
        intro w9 hm9 hg9 hs9
        have hmp := HM8.out.2.2.2.2.1
        have HM9 : Hid (MidY W0 C now ad cp Mm Ms (w2.heap.size + 1) sc (k + 1) w9 M7 c7 qs (updG (updG g (keyC C k) (some (.agg #[.int .i64 (nthC C k).f, .slice (some ⟨M1, 0, none⟩) rs1.length c1]))) (keyC C k) none)) := ⟨mapDown HM8.out.1 hg9 (Nat.le_refl _) HM.out.lm, blk_map HM8.out.2.1 hmp hg9, ab_moved HM8.out.2.2.1 (moved_map hmp hg9), HM8.out.2.2.2.1.kept (blk_map HM8.out.2.2.2.1.blk hmp hg9), (by first | exact hm9 | (rw [hle]; exact hm9)), HM.out.lm, fun i h1 h2 => by rw [upd_no (HNK.out i (by omega))]; exact HH8.out i h1 h2, fun i h1 => by
          by_cases e : i = k
          · subst e; rw [upd_at, HS.out]; exact rfl
          · rw [upd_no (HNK.out i e)]
            exact (HM8.out.2.2.2.2.2 i (by omega)).imp fun M c rs ha hn => ⟨ab_moved ha (moved_map hmp hg9), hn⟩⟩
        clear hm9 hg9 hs9 hmp x1' y0' y1' t0' hle
        go_wp2
        go_roundw
        case rel => exact ⟨k + 1, M7, c7, qs, _, by go_num, by omega, rfl, HM9.out, HG7.out⟩
        case measure => simp [intOf]; omega
      · have HS : Hid (sweep1 now (nthC C k) = some ⟨(nthC C k).f, leftTo (nthC C k).P now (nthC C k).P.length⟩) := sweep1_yes (by have := HL.out.1; omega)
        have hle' : ¬ (rs1.length : Int) = 0 := by omega
        have HM9 : Hid (MidY W0 C now ad cp Mm Ms (w2.heap.size + 1) sc (k + 1) w8 M7 c7 qs (updG g (keyC C k) (some (.agg #[.int .i64 (nthC C k).f, .slice (some ⟨M1, 0, none⟩) rs1.length c1])))) := ⟨HM8.out.1, HM8.out.2.1, HM8.out.2.2.1, HM8.out.2.2.2.1, HM8.out.2.2.2.2.1, HM.out.lm, HH8.out, fun i h1 => by
          by_cases e : i = k
          · subst e; rw [upd_at, HS.out]; exact ⟨M1, c1, rs1, rfl, HA8.out, HT.out.2.1, HA7.out.2⟩
          · exact HM8.out.2.2.2.2.2 i (by omega)⟩
        go_wp2
        go_roundw
        case rel => exact ⟨k + 1, M7, c7, qs, _, by go_num, by omega, rfl, HM9.out, HG7.out⟩
        case measure => simp [intOf]; omega
    · have hge : ¬ (k : Int) < (C.length : Int) := by omega
      have HE : Hid (k = C.length) := by show k = C.length; omega
      have HF : Hid (pals rs = gonesTo C now C.length) := by show _ = _; rw [HP.out, HE.out]
      have HRL : Hid (rs.length = (gonesTo C now C.length).length) := by show _ = _; rw [← pals_len, HF.out]
      have HPT : Hid (Blk wr w.heap.size #[.int .i64 hd, .int .i64 vr, .slice a C.length cap] 26 ∧ Blk wr (w.heap.size + 1) #[.int .i64 0, .int .i64 0, .slice none 0 0] 26) := ⟨HW0.out.2.1.grow HM.out.low, HW0.out.2.2.1.grow HM.out.low⟩
      have HLA : Hid (∀ z, Below wr.heap.size wr z → Calls Tryz.prog 68 #[.agg #[.map (some Mm), .slice (some ⟨Ms, 0, none⟩) C.length C.length]] z fun e w' => (∃ M c cs, e = .returned (.slice (some ⟨M, 0, none⟩) cs.length c) ∧ CB z.heap.size w' M c cs ∧ chs cs = sweepTo C now C.length) ∧ Below z.heap.size z w') := fun z hz => by
        have hM := HM.out
        rw [HE.out] at hM
        have h := laid_any Mm Ms C.length g (keysC C) (valsC C now) z (hM.map.grow hz) ((slots_list hM.slots).grow hz) (by rw [keys_len, vals_len]) (fun i hi => by
          rw [keys_len] at hi
          rw [keys_nth hi, vals_nth hi]
          exact (hM.new i hi).ent.grow hz) (by rw [keys_len]; omega) (fun i x hi hv => by
          rw [keys_len] at hi
          rw [vals_nth hi] at hv
          have h1 := HR.out.2.1 _ (nthC_mem hi)
          have h2 := left_gone (nthC C i).P now
          by_cases q : (leftTo (nthC C i).P now (nthC C i).P.length).length = 0
          · rw [sweep1_no q] at hv; cases hv
          · rw [sweep1_yes q] at hv
            cases hv
            refine ⟨by show (leftTo _ _ _).length ≤ _; omega, fun j hj => ?_⟩
            have hmem : nthP (leftTo (nthC C i).P now (nthC C i).P.length) j ∈ leftTo (nthC C i).P now (nthC C i).P.length := by rw [nthP_eq hj]; exact List.getElem_mem _
            have hm2 := List.mem_of_mem_take (List.mem_filter.1 hmem).1
            obtain ⟨q, hq, e⟩ := List.getElem_of_mem hm2
            have := h1.2 q hq
            rw [nthP_eq hq, e] at this
            exact this)
        rw [keys_len, vals_laid] at h
        exact h
      go_upto_region 11 with fail
      have HS : Hid (∀ w', Blk w' w.heap.size #[.int .i64 hd, .int .i64 vr, .slice a C.length cap] 26 → Blk w' (w2.heap.size + 1) #[.map (some Mm), .slice (some ⟨Ms, 0, none⟩) C.length C.length] 90 → w'.cell? ⟨w.heap.size, 0, none⟩ = some (.int .i64 hd) ∧ w'.cell? ⟨w.heap.size, 1, none⟩ = some (.int .i64 vr) ∧ w'.cell? ⟨w2.heap.size + 1, 0, none⟩ = some (.map (some Mm)) ∧ w'.cell? ⟨w2.heap.size + 1, 1, none⟩ = some (.slice (some ⟨Ms, 0, none⟩) C.length C.length)) := fun w' h k => ⟨h.cell 0, h.cell 1, k.cell 0, k.cell 1⟩
      go_cut [12] from 48 to 54 (fun s12 wx => ∃ (N M c : Nat) (cs : List CRow), s12 = .pointer (some ⟨N, 0, none⟩) ∧ Blk wx N #[.int .i64 hd, .int .i64 vr, .slice (some ⟨M, 0, none⟩) cs.length c] 26 ∧ CB wr.heap.size wx M c cs ∧ chs cs = sweepTo C now C.length ∧ wr.heap.size ≤ N ∧ Below wr.heap.size wr wx)
      case first =>
        refine wp_region_held_drew (S := fun w' => w'.cell? ⟨w.heap.size, 0, none⟩ = some (.int .i64 hd) ∧ w'.cell? ⟨w.heap.size, 1, none⟩ = some (.int .i64 vr) ∧ w'.cell? ⟨w2.heap.size + 1, 0, none⟩ = some (.map (some Mm)) ∧ w'.cell? ⟨w2.heap.size + 1, 1, none⟩ = some (.slice (some ⟨Ms, 0, none⟩) C.length C.length)) (by kernel_rfl) (HS.out _ HPT.out.1.drew HM.out.shelf.drew) (fun hHeld => ?_)
        refine wpAnyH_take (i := 0) (oi := { dst := some 48, op := Op.fieldAddr 26 (Operand.tmp 2) 0, type := 0, pos := "l07_part.go:117", after := #[], guard := none }) (v := ?vy1) rfl (by kernel_rfl) (by kernel_rfl) (by kernel_rfl) (fun _ _ _ h => h) (Or.inl ⟨by rfl, ?hyy1⟩) hHeld ?_
        case hyy1 => (intro w hSw; (try dsimp only at hSw); go_simp <;> with_reducible rfl)
        try simp only [Act.put, List.setIfInBounds_toArray, List.set_cons_zero, List.set_cons_succ]
        refine wpAnyH_take (i := 1) (oi := { dst := some 49, op := Op.load 3 (Operand.tmp 48), type := 3, pos := "l07_part.go:117", after := #[{ on := 0, ground := Ground.data }], guard := none }) (v := ?vy2) rfl (by kernel_rfl) (by kernel_rfl) (by kernel_rfl) (fun _ _ _ h => h) (Or.inl ⟨by rfl, ?hyy2⟩) hHeld ?_
        case hyy2 => (intro w hSw; (try dsimp only at hSw); go_simp <;> with_reducible rfl)
        try simp only [Act.put, List.setIfInBounds_toArray, List.set_cons_zero, List.set_cons_succ]
        refine wpAnyH_take (i := 2) (oi := { dst := some 50, op := Op.fieldAddr 26 (Operand.tmp 2) 1, type := 0, pos := "l07_part.go:117", after := #[], guard := none }) (v := ?vy3) rfl (by kernel_rfl) (by kernel_rfl) (by kernel_rfl) (fun _ _ _ h => h) (Or.inl ⟨by rfl, ?hyy3⟩) hHeld ?_
        case hyy3 => (intro w hSw; (try dsimp only at hSw); go_simp <;> with_reducible rfl)
        try simp only [Act.put, List.setIfInBounds_toArray, List.set_cons_zero, List.set_cons_succ]
        refine wpAnyH_take (i := 3) (oi := { dst := some 51, op := Op.load 3 (Operand.tmp 50), type := 3, pos := "l07_part.go:117", after := #[{ on := 2, ground := Ground.data }], guard := none }) (v := ?vy4) rfl (by kernel_rfl) (by kernel_rfl) (by kernel_rfl) (fun _ _ _ h => h) (Or.inl ⟨by rfl, ?hyy4⟩) hHeld ?_
        case hyy4 => (intro w hSw; (try dsimp only at hSw); go_simp <;> with_reducible rfl)
        try simp only [Act.put, List.setIfInBounds_toArray, List.set_cons_zero, List.set_cons_succ]
        refine wpAnyH_take (i := 4) (oi := { dst := some 52, op := Op.load 90 (Operand.tmp 6), type := 90, pos := "l07_part.go:117", after := #[], guard := none }) (v := ?vy5) rfl (by kernel_rfl) (by kernel_rfl) (by kernel_rfl) (fun _ _ _ h => h) (Or.inl ⟨by rfl, ?hyy5⟩) hHeld ?_
        case hyy5 => (intro w hSw; (try dsimp only at hSw); go_simp <;> with_reducible rfl)
        try simp only [Act.put, List.setIfInBounds_toArray, List.set_cons_zero, List.set_cons_succ]
        refine wpAnyH_ready (rs := [5, 7]) (by kernel_rfl) (by simp) ?_
        refine AllReadyH.cons (o := { dst := some 53, op := Op.call { callee := Callee.value (Operand.func 68), args := #[Operand.tmp 52], argTypes := #[90] }, type := 24, pos := "l07_part.go:117", after := #[{ on := 4, ground := Ground.data }], guard := none }) rfl (fun K hK => ?_) ?_
        ·
          go_simp
          refine (HLA.out _ ((Below.refl wr.heap.size wr).drew)).mono ?_
          rintro r wa ⟨⟨OM, Oc, Oz, rfl, hA, hP⟩, hy⟩
          have ZA : Hid (Below wr.heap.size wr wa) := grow_on ((Below.refl wr.heap.size wr).drew) hy
          have OA : Hid (CB wr.heap.size wa OM Oc Oz ∧ chs Oz = sweepTo C now C.length) := ⟨hA.down ((Below.refl wr.heap.size wr).drew).size, hP⟩
          clear hA hP hy
          clear hHeld
          refine hK.out _ _ (HS.out _ (HPT.out.1.grow (ZA.out)) (HM.out.shelf.grow (ZA.out))) (fun hHeld => ?_)
          clear hK K
          try simp only [Act.put, List.setIfInBounds_toArray, List.set_cons_zero, List.set_cons_succ]
          refine wpAnyH_take (i := 6) (oi := { dst := some 54, op := Op.build 26 #[(0, Operand.tmp 49), (1, Operand.tmp 51), (2, Operand.tmp 53)], type := 26, pos := "l07_part.go:117", after := #[{ on := 1, ground := Ground.data }, { on := 3, ground := Ground.data }, { on := 5, ground := Ground.data }], guard := none }) (v := ?vy7) rfl (by kernel_rfl) (by kernel_rfl) (by kernel_rfl) (fun _ _ _ h => h) (Or.inl ⟨by rfl, ?hyy7⟩) hHeld ?_
          case hyy7 => (intro w hSw; (try dsimp only at hSw); go_simp <;> with_reducible rfl)
          try simp only [Act.put, List.setIfInBounds_toArray, List.set_cons_zero, List.set_cons_succ]
          refine wpAnyH_ready (rs := [7]) (by kernel_rfl) (by simp) ?_
          refine AllReadyH.cons (o := { dst := some 12, op := Op.alloc 26, type := 0, pos := "l07_part.go:117", after := #[], guard := none }) rfl (fun K hK => ?_) AllReadyH.nil
          go_simp
          clear hHeld
          refine hK.out _ _ (HS.out _ (HPT.out.1.grow (bel_alloc (ZA.out) _)) (HM.out.shelf.grow (bel_alloc (ZA.out) _))) (fun hHeld => ?_)
          clear hK K
          try simp only [Act.put, List.setIfInBounds_toArray, List.set_cons_zero, List.set_cons_succ]
          refine wpAnyH_ready (rs := [8]) (by kernel_rfl) (by simp) ?_
          refine AllReadyH.cons (o := { dst := none, op := Op.store 26 (Operand.tmp 12) (Operand.tmp 54), type := 0, pos := "l07_part.go:117", after := #[{ on := 7, ground := Ground.data }, { on := 6, ground := Ground.data }, { on := 5, ground := Ground.chain }, { on := 0, ground := Ground.phase }, { on := 1, ground := Ground.phase }, { on := 2, ground := Ground.phase }, { on := 3, ground := Ground.phase }, { on := 4, ground := Ground.phase }, { on := 5, ground := Ground.phase }, { on := 6, ground := Ground.phase }, { on := 7, ground := Ground.phase }], guard := none }) rfl (fun K hK => ?_) AllReadyH.nil
          go_simp
          clear hHeld
          refine hK.out _ _ (HS.out _ (HPT.out.1.grow (bel_alloc ZA.out _)) (HM.out.shelf.grow (bel_alloc ZA.out _))) (fun hHeld => ?_)
          clear hK K
          try simp only [Act.put, List.setIfInBounds_toArray, List.set_cons_zero, List.set_cons_succ]
          refine wpAnyH_done (by kernel_rfl) ?_ _
          go_wp2_with fail
          go_meet
          exact ⟨_, OM, Oc, Oz, rfl, Blk.new _ _ _, OA.out.1.grow (Go.Joins.below_alloc1 wa _), OA.out.2, ZA.out.size, bel_alloc ZA.out _⟩
        refine AllReadyH.cons (o := { dst := some 12, op := Op.alloc 26, type := 0, pos := "l07_part.go:117", after := #[], guard := none }) rfl (fun K hK => ?_) AllReadyH.nil
        go_simp
        clear hHeld
        refine hK.out _ _ (HS.out _ (HPT.out.1.grow (bel_alloc ((Below.refl wr.heap.size wr).drew) _)) (HM.out.shelf.grow (bel_alloc ((Below.refl wr.heap.size wr).drew) _))) (fun hHeld => ?_)
        clear hK K
        try simp only [Act.put, List.setIfInBounds_toArray, List.set_cons_zero, List.set_cons_succ]
        refine wpAnyH_ready (rs := [5]) (by kernel_rfl) (by simp) ?_
        refine AllReadyH.cons (o := { dst := some 53, op := Op.call { callee := Callee.value (Operand.func 68), args := #[Operand.tmp 52], argTypes := #[90] }, type := 24, pos := "l07_part.go:117", after := #[{ on := 4, ground := Ground.data }], guard := none }) rfl (fun K hK => ?_) AllReadyH.nil
        go_simp
        refine (HLA.out _ (bel_alloc ((Below.refl wr.heap.size wr).drew) _)).mono ?_
        rintro r wa ⟨⟨OM, Oc, Oz, rfl, hA, hP⟩, hy⟩
        have ZA : Hid (Below wr.heap.size wr wa) := grow_on (bel_alloc ((Below.refl wr.heap.size wr).drew) _) hy
        have OA : Hid (CB wr.heap.size wa OM Oc Oz ∧ chs Oz = sweepTo C now C.length) := ⟨hA.down (bel_alloc ((Below.refl wr.heap.size wr).drew) _).size, hP⟩
        have NB : Hid (Blk wa wr.heap.size #[.int .i64 0, .int .i64 0, .slice none 0 0] 26) := (Blk.new wr.drew _ _).grow hy
        clear hA hP hy
        clear hHeld
        refine hK.out _ _ (HS.out _ (HPT.out.1.grow (ZA.out)) (HM.out.shelf.grow (ZA.out))) (fun hHeld => ?_)
        clear hK K
        try simp only [Act.put, List.setIfInBounds_toArray, List.set_cons_zero, List.set_cons_succ]
        refine wpAnyH_take (i := 6) (oi := { dst := some 54, op := Op.build 26 #[(0, Operand.tmp 49), (1, Operand.tmp 51), (2, Operand.tmp 53)], type := 26, pos := "l07_part.go:117", after := #[{ on := 1, ground := Ground.data }, { on := 3, ground := Ground.data }, { on := 5, ground := Ground.data }], guard := none }) (v := ?vy12) rfl (by kernel_rfl) (by kernel_rfl) (by kernel_rfl) (fun _ _ _ h => h) (Or.inl ⟨by rfl, ?hyy12⟩) hHeld ?_
        case hyy12 => (intro w hSw; (try dsimp only at hSw); go_simp <;> with_reducible rfl)
        try simp only [Act.put, List.setIfInBounds_toArray, List.set_cons_zero, List.set_cons_succ]
        refine wpAnyH_ready (rs := [8]) (by kernel_rfl) (by simp) ?_
        refine AllReadyH.cons (o := { dst := none, op := Op.store 26 (Operand.tmp 12) (Operand.tmp 54), type := 0, pos := "l07_part.go:117", after := #[{ on := 7, ground := Ground.data }, { on := 6, ground := Ground.data }, { on := 5, ground := Ground.chain }, { on := 0, ground := Ground.phase }, { on := 1, ground := Ground.phase }, { on := 2, ground := Ground.phase }, { on := 3, ground := Ground.phase }, { on := 4, ground := Ground.phase }, { on := 5, ground := Ground.phase }, { on := 6, ground := Ground.phase }, { on := 7, ground := Ground.phase }], guard := none }) rfl (fun K hK => ?_) AllReadyH.nil
        have n0 : wa.cell? ⟨wr.heap.size, 0, none⟩ = some (.int .i64 0) := NB.out.cell 0
        have n1 : wa.cell? ⟨wr.heap.size, 1, none⟩ = some (.int .i64 0) := NB.out.cell 1
        have n2 : wa.cell? ⟨wr.heap.size, 2, none⟩ = some (.slice none 0 0) := NB.out.cell 2
        have m0 := NB.out.frozen 0
        have m1 := NB.out.frozen 1
        have m2 := NB.out.frozen 2
        go_simp
        clear n0 n1 n2 m0 m1 m2 hHeld
        have hz : Below wr.heap.size wr (((wa.setCell ⟨wr.heap.size, 0, none⟩ (.int .i64 hd)).setCell ⟨wr.heap.size, 1, none⟩ (.int .i64 vr)).setCell ⟨wr.heap.size, 2, none⟩ (.slice (some ⟨OM, 0, none⟩) Oz.length Oc)) := set3 ZA.out (Nat.le_refl _) _ _ _
        refine hK.out _ _ (HS.out _ (HPT.out.1.grow hz) (HM.out.shelf.grow hz)) (fun hHeld => ?_)
        clear hK K hz
        try simp only [Act.put, List.setIfInBounds_toArray, List.set_cons_zero, List.set_cons_succ]
        refine wpAnyH_done (by kernel_rfl) ?_ _
        go_wp2_with fail
        go_meet
        exact ⟨_, OM, Oc, Oz, rfl, put3 NB.out _ _ _, CB.set3 OA.out.1 NB.out _ _ _, OA.out.2, Nat.le_refl _, set3 ZA.out (Nat.le_refl _) _ _ _⟩
      case rest =>
        obtain ⟨N, M, c, cs, rfl, hN, hC, hch, hlo, hb⟩ := hcut
        obtain ⟨w9, hwc⟩ : ∃ x, x = wc := ⟨_, rfl⟩
        subst hwc
        have H9 : Hid (Blk w9 N #[.int .i64 hd, .int .i64 vr, .slice (some ⟨M, 0, none⟩) cs.length c] 26 ∧ CB wr.heap.size w9 M c cs ∧ chs cs = sweepTo C now C.length ∧ wr.heap.size ≤ N ∧ Below w.heap.size w w9 ∧ AB W0.heap.size w9 Md cd rs ∧ Blk w9 (w.heap.size + 1) #[.int .i64 0, .int .i64 0, .slice none 0 0] 26) := ⟨hN, hC, hch, hlo, grow_on (grow_on HW0.out.1 HM.out.low) hb, HM.out.gone.grow hb, HPT.out.2.grow hb⟩
        have hwr : w.heap.size + 2 ≤ wr.heap.size := by have h1 := HM.out.low.size; have h2 := HW0.out.2.2.2; omega
        have HDJ : Hid (∀ k, blksC M cs k → ¬ blks Md rs k) := fun k h1 h2 => by have h3 := blksC_low hC k h1; have h4 := blks_high HM.out.gone k h2; omega
        have hne : N ≠ w.heap.size + 1 := by omega
        have n0 : w9.cell? ⟨N, 0, none⟩ = some (.int .i64 hd) := hN.cell 0
        have n1 : w9.cell? ⟨N, 1, none⟩ = some (.int .i64 vr) := hN.cell 1
        have n2 : w9.cell? ⟨N, 2, none⟩ = some (.slice (some ⟨M, 0, none⟩) cs.length c) := hN.cell 2
        have g1 := hN.frozen 1
        have hR := H9.out.2.2.2.2.2.2
        have r0 : w9.cell? ⟨w.heap.size + 1, 0, none⟩ = some (.int .i64 0) := hR.cell 0
        have r1 : w9.cell? ⟨w.heap.size + 1, 1, none⟩ = some (.int .i64 0) := hR.cell 1
        have r2 : w9.cell? ⟨w.heap.size + 1, 2, none⟩ = some (.slice none 0 0) := hR.cell 2
        have f0 := hR.frozen 0
        have f1 := hR.frozen 1
        have f2 := hR.frozen 2
        clear hN hC hch hlo hb hR
        by_cases hz : rs.length = 0
        · have hz' : ¬ (0 : Int) < (rs.length : Int) := by omega
          have HV : Hid (verS vr (gonesTo C now C.length).length = vr) := verS_0 (by have := HRL.out; omega)
          go_wp2
          have hs := put3 H9.out.2.2.2.2.2.2 (.int .i64 hd) (.int .i64 vr) (.slice (some ⟨M, 0, none⟩) cs.length c)
          have s0 := hs.cell 0
          have s1 := hs.cell 1
          have s2 := hs.cell 2
          refine bodyPost_ret (v := .tuple #[.agg #[.int .i64 hd, .int .i64 vr, .slice (some ⟨M, 0, none⟩) cs.length c], .slice (some ⟨Md, 0, none⟩) rs.length cd]) (by simp [results, Tryz.results15, go_sem, s0, s1, s2, hz]) rfl ?_
          rw [HV.out]
          have hr1 := H9.out.2.2.2.2.2.2
          exact ⟨⟨M, c, cs, Md, cd, rs, rfl, (CB.set3 H9.out.2.1 hr1 _ _ _).down (by omega), (ab_moved H9.out.2.2.2.2.2.1 (((Moved.set hr1 (by decide) (by decide) _ _).trans (Moved.set (hr1.set 0 _) (by decide) (by decide) _ _)).trans (Moved.set ((hr1.set 0 _).set 1 _) (by decide) (by decide) _ _))).down HW0.out.1.size, H9.out.2.2.1, HF.out, HDJ.out⟩, set3 H9.out.2.2.2.2.1 (by omega) _ _ _⟩
        · have hz' : (0 : Int) < (rs.length : Int) := by omega
          obtain ⟨vu, hvu⟩ : ∃ vu, IntKind.i64.wrap (vr + 1) = vu := ⟨_, rfl⟩
          have HV : Hid (verS vr (gonesTo C now C.length).length = vu) := by show _ = _; rw [← hvu]; exact verS_1 (by have := HRL.out; omega)
          go_wp2
          have hr1 := H9.out.2.2.2.2.2.2.set_other (p := ⟨N, 1, none⟩) hne (.int .i64 vu)
          have hs := put3 hr1 (.int .i64 hd) (.int .i64 vu) (.slice (some ⟨M, 0, none⟩) cs.length c)
          have s0 := hs.cell 0
          have s1 := hs.cell 1
          have s2 := hs.cell 2
          refine bodyPost_ret (v := .tuple #[.agg #[.int .i64 hd, .int .i64 vu, .slice (some ⟨M, 0, none⟩) cs.length c], .slice (some ⟨Md, 0, none⟩) rs.length cd]) (by simp [results, Tryz.results15, go_sem, s0, s1, s2]) rfl ?_
          rw [HV.out]
          exact ⟨⟨M, c, cs, Md, cd, rs, rfl, (CB.set3 (CB.set' H9.out.2.1 H9.out.1 1 _) hr1 _ _ _).down (by omega), (ab_moved H9.out.2.2.2.2.2.1 ((Moved.set H9.out.1 (by decide) (by decide) 1 _).trans (((Moved.set hr1 (by decide) (by decide) _ _).trans (Moved.set (hr1.set 0 _) (by decide) (by decide) _ _)).trans (Moved.set ((hr1.set 0 _).set 1 _) (by decide) (by decide) _ _)))).down HW0.out.1.size, H9.out.2.2.1, HF.out, HDJ.out⟩, set3 (ChnI.set_low H9.out.2.2.2.2.1 (by have := H9.out.2.2.2.1; omega) _ _) (by omega) _ _ _⟩
end Go.Proofs.YtooninmicfcfoaaGreat.PrtY
