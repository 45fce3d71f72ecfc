/-
  PROVED: spec.JoinAll answers the groups with the alarm in the one of its key, or with a new one behind them, in memory of their own; nothing that was there is changed.
  What JoinAll's and FlushAt's answers come to: how long they are, and that they fit.
-/
import Derived.Test.YtgncimlojbnbfaaGreatQTk
import Derived.Test.YtgncimlojbnbfaaGreatQGpOf
import Derived.Test.YtgncimlojbnbfaaGreatQGpC
import Derived.Test.YtgncimlojbnbfaaGreatQGrpJ
import Derived.Test.YtgncimlojbnbfaaGreatQPro
import Derived.Deep.DeepCutAuto
import Derived.Deep.CutRange
import Derived.Test.YtgncimlojbnbfaaGreatQGpF
set_option linter.unusedVariables false
namespace Go.Proofs.YtgncimlojbnbfaaGreat.GpJ
open Go.RowKit
open Labs LabS Alms AlmS AlmM Over Blk App Rws ChnI ChnC ChnK Chs Grp GrpC Gps GpD GpOf GpC
open GrpJ (joinG specJoin_any join_len bel_alloc)
open Pro (projB RdS own_reads)
open ChnP (own_grow)
def putG (x : PAl) (y : PGr) : PGr := ⟨y.n, y.key, y.b, y.t, joinG y.P x⟩
def posJ (U : List PGr) (x : PAl) (by' : List ByteArray) : Nat := U.findIdx (keyIs (projB x.l by'))
def joinAllG (U : List PGr) (x : PAl) (by' : List ByteArray) (n now : Int) : List PGr := if posJ U x by' < U.length then U.set (posJ U x by') (putG x (nthG U (posJ U x by'))) else U ++ [⟨n, (projB x.l by'), now, -1, [x]⟩]
def newJ (U : List PGr) (x : PAl) (by' : List ByteArray) : Bool := !decide (posJ U x by' < U.length)
theorem joinA_hit {U : List PGr} {x : PAl} {by' : List ByteArray} {n now : Int} {k : Nat} (h : ofI (keyIs (projB x.l by')) U = (k : Int)) : k < U.length ∧ joinAllG U x by' n now = U.set k (putG x (nthG U k)) ∧ newJ U x by' = false := by
  unfold ofI at h
  split at h
  · rename_i hlt
    have e : posJ U x by' = k := by unfold posJ; omega
    have hk : posJ U x by' < U.length := hlt
    unfold joinAllG newJ
    rw [if_pos hk, e]
    rw [e] at hk
    exact ⟨hk, rfl, by simp [hk]⟩
  · omega
theorem joinA_miss {U : List PGr} {x : PAl} {by' : List ByteArray} {n now : Int} (h : ofI (keyIs (projB x.l by')) U = -1) : joinAllG U x by' n now = U ++ [⟨n, (projB x.l by'), now, -1, [x]⟩] ∧ newJ U x by' = true := by
  have hk : ¬ posJ U x by' < U.length := by
    intro hlt
    unfold posJ at hlt
    unfold ofI at h
    rw [if_pos hlt] at h
    omega
  unfold joinAllG newJ
  rw [if_neg hk]
  exact ⟨rfl, by simp [hk]⟩
theorem one_ab {lo : Nat} {w : World} {M : Nat} {x : ARow} (h : Blk w M #[.slice (some ⟨x.1, 0, none⟩) x.2.2.l.length x.2.1, .int .i64 x.2.2.s, .int .i64 x.2.2.e, .string x.2.2.n] 27) (hl : lo ≤ M) (hx : OwnA lo w x) : AB lo w M 1 [x] :=
  ⟨hl, ⟨by simp, by unfold maxLen; omega⟩, ⟨_, h, rfl, fun i hi => by
    have e : i = 0 := by simp at hi; exact hi
    subst e
    exact ⟨rfl, rfl, rfl, rfl⟩⟩, fun y hy => by rw [List.mem_singleton.1 hy]; exact hx, List.pairwise_singleton _ _⟩
set_option maxRecDepth 100000 in
set_option maxHeartbeats 6400000 in
theorem specJoinA_any (a ba : Option Addr) (cap bc : Nat) (U : List PGr) (by' : List ByteArray) (gx ox cx : Nat) (x : PAl) (n now : Int) (w : World) (hr : RdGs GN w a U) (hl : U.length ≤ 1048576) (hs : SmallG U) (hx : Reads w (some ⟨gx, ox, none⟩) x.l) (hxl : x.l.length ≤ 1048576) (hb : RdS w ba by') (hbl : by'.length ≤ maxLen) :
    Calls Tryz.prog 7 #[.slice a U.length cap, .agg #[.slice (some ⟨gx, ox, none⟩) x.l.length cx, .int .i64 x.s, .int .i64 x.e, .string x.n], .slice ba by'.length bc, .int .i64 n, .int .i64 now] w fun e w' => (∃ M c us, e = .returned (.tuple #[.slice (some ⟨M, 0, none⟩) us.length c, .bool (newJ U x by')]) ∧ GsB w.heap.size w' M c us ∧ grs us = joinAllG U x by' n now ∧ CapsG us) ∧ Below w.heap.size w w' := by
  have HR : Hid (RdGs GN w a U ∧ SmallG U) := ⟨hr, hs⟩
  have HX : Hid (Reads w (some ⟨gx, ox, none⟩) x.l ∧ x.l.length ≤ 1048576) := ⟨hx, hxl⟩
  have HY : Hid (RdS w ba by' ∧ by'.length ≤ maxLen) := ⟨hb, hbl⟩
  clear hr hs hx hxl hb hbl
  obtain ⟨i0, hi, hz0, hz1, hz2⟩ := info_parts infoG
  generalize hW0 : w.alloc (.cells #[.slice (some ⟨gx, ox, none⟩) x.l.length cx, .int .i64 x.s, .int .i64 x.e, .string x.n] 27) = W0
  have HB0 : Hid (Below w.heap.size w W0) := by rw [← hW0]; exact Go.Joins.below_alloc1 w _
  have BX0 : Hid (Blk W0 w.heap.size #[.slice (some ⟨gx, ox, none⟩) x.l.length cx, .int .i64 x.s, .int .i64 x.e, .string x.n] 27) := by rw [← hW0]; exact Blk.new _ _ _
  have HZ0 : Hid (W0.heap.size = w.heap.size + 1) := by show _ = _; rw [← hW0]; simp
  go_enter Tryz.func7, Tryz.ntmps7
  go_upto_region 1 with fail
  try rw [hW0]
  clear hW0
  go_wp2_with fail
  refine (l12Copy_any a cap U _ (HR.out.1.below stays_gn HB0.out) hl HR.out.2).mono ?_
  rintro e w1 ⟨⟨M, c, us, rfl, hg, hp, hcp⟩, hb1⟩
  have HG1 : Hid (GsB (w.heap.size + 1) w1 M c us ∧ CapsG us) := ⟨hg.down (by rw [HZ0.out]; exact Nat.le_refl _), hcp⟩
  have HP : Hid (grs us = U) := hp
  have HUL : Hid (us.length = U.length) := by have := congrArg List.length hp; rw [grs_len] at this; exact this
  have HB1 : Hid (Below w.heap.size w w1) := grow_on HB0.out hb1
  have BX1 : Hid (Blk w1 w.heap.size #[.slice (some ⟨gx, ox, none⟩) x.l.length cx, .int .i64 x.s, .int .i64 x.e, .string x.n] 27) := BX0.out.grow hb1
  have x0 := BX1.out.cell 0
  have x1 := BX1.out.cell 1
  have x2 := BX1.out.cell 2
  have x3 := BX1.out.cell 3
  simp at x0 x1 x2 x3
  clear hg hp hcp hb1 BX0 HB0
  go_wp2_with fail
  refine (Pro.specKey_any _ _ _ _ x.l x.s x.e x.n by' _ (HX.out.1.below HB1.out) (HY.out.1.below HB1.out) HX.out.2 HY.out.2).mono ?_
  rintro e w2 ⟨⟨K, kd, rfl, ho⟩, hb2⟩
  have HO2 : Hid (LabR.Own w1 w2 K (projB x.l by')) := ho
  have HG2 : Hid (GsB (w.heap.size + 1) w2 M c us) := HG1.out.1.grow hb2
  have HB2 : Hid (Below w.heap.size w w2) := grow_on HB1.out hb2
  have BX2 : Hid (Blk w2 w.heap.size #[.slice (some ⟨gx, ox, none⟩) x.l.length cx, .int .i64 x.s, .int .i64 x.e, .string x.n] 27) := BX1.out.grow hb2
  have HL12 : Hid (w.heap.size + 1 ≤ w1.heap.size ∧ w1.heap.size ≤ w2.heap.size) := ⟨by have := BX1.out.lt; omega, hb2.size⟩
  have HPL : Hid ((projB x.l by').length ≤ 1048576) := by have h1 := Pro.proj_len x.l by'; have h2 := HX.out.2; show _ ≤ _; omega
  have HN1 : Hid (∀ y ∈ us, ∀ q, y.blks q → q < w1.heap.size) := fun y hy q hq => (HG1.out.1.rows.rng hy q hq).2
  clear ho hb2 x0 x1 x2 x3 BX1 HB1
  go_wp2_with fail
  refine (specOf_any a (some ⟨K, 0, none⟩) cap kd U (projB x.l by') _ ((HR.out.1.below stays_gn HB2.out).rd) (own_reads HO2.out) hl (by have := HPL.out; unfold maxLen; omega) (fun y hy => by have := (HR.out.2 y hy).1; unfold maxLen; omega)).mono ?_
  rintro e z ⟨rfl, hb3⟩
  have HOz : Hid (LabR.Own w1 z K (projB x.l by')) := Pro.own_grow HO2.out hb3
  have HG : Hid (GsB (w.heap.size + 1) z M c us) := HG2.out.grow hb3
  have HB : Hid (Below w.heap.size w z) := grow_on HB2.out hb3
  have BX : Hid (Blk z w.heap.size #[.slice (some ⟨gx, ox, none⟩) x.l.length cx, .int .i64 x.s, .int .i64 x.e, .string x.n] 27) := BX2.out.grow hb3
  have HLz : Hid (w.heap.size + 1 ≤ w1.heap.size ∧ w1.heap.size ≤ z.heap.size) := ⟨HL12.out.1, Nat.le_trans HL12.out.2 hb3.size⟩
  clear hb3 HO2 HG2 HB2 BX2 HL12
  rcases ofI_cases (keyIs (projB x.l by')) U with ⟨he, _⟩ | ⟨k, he, _, _, _⟩
  · obtain ⟨hj1, hj2⟩ := joinA_miss (n := n) (now := now) he
    have HJ : Hid (joinAllG U x by' n now = U ++ [⟨n, (projB x.l by'), now, -1, [x]⟩] ∧ newJ U x by' = true) := ⟨hj1, hj2⟩
    rw [he]
    clear hj1 hj2 he
    have x0 := BX.out.cell 0
    have x1 := BX.out.cell 1
    have x2 := BX.out.cell 2
    have x3 := BX.out.cell 3
    simp at x0 x1 x2 x3
    go_wp2_with fail
    refine (copyS_any gx ox cx x.l x.s x.e x.n _ (HX.out.1.below HB.out) HX.out.2).mono ?_
    rintro r w4 ⟨⟨Mx, cy, rfl, hO⟩, hb4⟩
    have HO4 : Hid (OwnA w1.heap.size w4 (Mx, cy, x)) := (own_of_copy hO HX.out.2).down HLz.out.2
    have HK4 : Hid (OwnL w1.heap.size w4 K (projB x.l by') ∧ K < z.heap.size ∧ z.heap.size ≤ Mx) := by
      obtain ⟨h0, cs, h1, h2⟩ := HOz.out
      exact ⟨⟨h0, cs, h1.grow hb4, h2⟩, h1.lt, hO.1⟩
    have HG4 : Hid (GsB (w.heap.size + 1) w4 M c us) := HG.out.grow hb4
    have HB4 : Hid (Below w.heap.size w w4) := grow_on HB.out hb4
    have HL4 : Hid (w1.heap.size ≤ w4.heap.size) := Nat.le_trans HLz.out.2 hb4.size
    clear hO hb4 x0 x1 x2 x3 HOz HG HB BX HLz
    obtain ⟨y, hy⟩ : ∃ y : GRow, y = ⟨n, K, kd, (projB x.l by'), now, -1, w4.heap.size, 0, 1, [(Mx, cy, x)]⟩ := ⟨_, rfl⟩
    obtain ⟨xs, hox, hxl, hxs⟩ := HG4.out.own
    have hul : us.length ≤ 1048576 := by have := HUL.out; omega
    have HOX : Hid (∀ o1 o2, ((w4.alloc o1).alloc o2).ownsRow (w.heap.size + 1) 53 5 (.slice (some ⟨M, 0, none⟩) us.length c) us.length xs) := fun o1 o2 => own_grow hox (Go.Joins.below_alloc2 w4 o1 o2)
    have HXS : Hid (xs.length = us.length * 5 ∧ ∀ i, i < us.length → Cel5 (fun k => xs[k]?) i (nthR us i)) := ⟨hxl, hxs⟩
    clear hox hxl hxs
    have hrow : rowG y = [.int .i64 n, .slice (some ⟨K, 0, none⟩) (projB x.l by').length kd, .int .i64 now, .int .i64 (-1), .slice (some ⟨w4.heap.size, 0, none⟩) 1 1] := by rw [hy]; rfl
    have HRW : Hid (rowG y = [.int .i64 n, .slice (some ⟨K, 0, none⟩) (projB x.l by').length kd, .int .i64 now, .int .i64 (-1), .slice (some ⟨w4.heap.size, 0, none⟩) 1 1]) := hrow
    have HYD : Hid (y = ⟨n, K, kd, (projB x.l by'), now, -1, w4.heap.size, 0, 1, [(Mx, cy, x)]⟩) := hy
    clear hrow hy
    go_wp2_with (at_builtin; refine wpList_append_own_at _ rfl _ _ 24 rfl (w.heap.size + 1) 53 i0 (.agg #[.int .i64 0, .slice none 0 0, .int .i64 0, .int .i64 0, .slice none 0 0]) 5 72 Tryz.underlying24 hi hz0 hz1 hz2 rfl (by decide) _ _ _ rfl (HOX.out _ _) ⟨w4.heap.size + 1, 0, none⟩ 1 1 (rowG y) rfl (by rw [HRW.out]; rfl) ?c1 (rowG_one _) ?c3 ?c4 ?c5 ?_)
    case c1 => rw [HRW.out]; exact blk_news (Blk.new_at (by simp))
    case c3 => unfold maxLen; omega
    case c4 => omega
    case c5 => have := HB4.out.size; have := HL4.out; have := HG4.out.lt; simp; omega
    intro v' w5 hown hg hnil _
    generalize hU1 : w4.alloc (.cells #[.slice (some ⟨Mx, 0, none⟩) x.l.length cy, .int .i64 x.s, .int .i64 x.e, .string x.n] 27) = u1 at *
    have hb5 : Below w4.heap.size w4 u1 := by rw [← hU1]; exact Go.Joins.below_alloc1 w4 _
    have hab : AB w1.heap.size u1 w4.heap.size 1 [(Mx, cy, x)] := one_ab (by rw [← hU1]; exact Blk.new _ _ _) HL4.out (HO4.out.grow hb5)
    have hkl : OwnL w1.heap.size u1 K (projB x.l by') := HK4.out.1.grow hb5
    have hne : ¬ blks w4.heap.size [(Mx, cy, x)] K := fun h => by
      rcases h with e | ⟨q, hq, e⟩
      · have h1 := HK4.out.1.lt; omega
      · rw [List.mem_singleton.1 hq] at e
        have h1 := HK4.out.2; have e' : Mx = K := e; omega
    have hgb : GB w1.heap.size u1 y.K y.key y.M y.o y.rs := by rw [HYD.out]; exact ⟨hkl, ChnK.AB.ao hab, hne⟩
    have hU := Go.Joins.below_alloc1 u1 (.cells #[.int .i64 n, .slice (some ⟨K, 0, none⟩) (projB x.l by').length kd, .int .i64 now, .int .i64 (-1), .slice (some ⟨w4.heap.size, 0, none⟩) 1 1] 53)
    have hbb := grow_on hb5 hU
    obtain ⟨M3, c3, e3, hG3⟩ := (HG4.out.grow hbb).app (vs := [y]) (ys := rowG y) ((RowsG.one (x := y) (gb_moved hgb (Moved.of hU))).down (by have := HG1.out.1.lt; have := HG1.out.1.at'; omega)) (fun u hu v hv q h1 h2 => by
      rw [List.mem_singleton.1 hv] at h2
      have e1 := HN1.out u hu q h1
      have e2 := (hgb.rng q h2).1
      omega) HXS.out.1 HXS.out.2 rfl (row_cel y) (.inl (by simp)) hown hg
    subst e3
    have HG5 : Hid (GsB (w.heap.size + 1) w5 M3 c3 (us ++ [y])) := hG3
    have HB5 : Hid (Below w.heap.size w w5) := (grow_on HB4.out hbb).grown hg (by have := HB4.out.size; have := hbb.size; omega) (fun q e => by have h : M = q := Option.some.inj e; have := HG1.out.1.at'; omega)
    have HP5 : Hid (grs (us ++ [y]) = joinAllG U x by' n now) := by
      unfold Hid
      rw [grs_app, HP.out, HJ.out.1, HYD.out]; rfl
    have HC5 : Hid (CapsG (us ++ [y])) := caps_app HG1.out.2 (caps_one (by rw [HYD.out]; exact ⟨Nat.le_refl _, by show 1 ≤ maxLen; unfold maxLen; omega⟩))
    have HL5 : Hid ((us ++ [y]).length = us.length + 1) := by show _ = _; simp
    clear hown hg hnil hG3 hU hbb hab hkl hne hgb hb5 hU1
    go_wp2
    refine bodyPost_ret (v := .tuple #[.slice (some ⟨M3, 0, none⟩) (us.length + 1) c3, .bool true]) (by simp [results, Tryz.results7, go_sem]) rfl ?_
    exact ⟨⟨M3, c3, us ++ [y], by rw [HL5.out, HJ.out.2], HG5.out.down (by omega), HP5.out, HC5.out⟩, HB5.out⟩
  · obtain ⟨hkl, hj1, hj2⟩ := joinA_hit (n := n) (now := now) he
    have HJ : Hid (joinAllG U x by' n now = U.set k (putG x (nthG U k)) ∧ newJ U x by' = false) := ⟨hj1, hj2⟩
    have hk0 : (0 : Int) ≤ (k : Int) := by omega
    have hklt : (k : Int) < (U.length : Int) := by omega
    rw [he]
    clear hj1 hj2 he
    obtain ⟨b, off, rfl, hbz, ka, kc, ad, cp, hat⟩ := (HR.out.1.below stays_gn HB.out).get hkl
    obtain ⟨⟨gk, ok, rfl⟩, ⟨gl, ol, rfl⟩, _, _, _⟩ := hat.reads
    have HAT : Hid (AtG GN z b off k (nthG U k) (some ⟨gk, ok, none⟩) kc (some ⟨gl, ol, none⟩) cp) := hat
    have hsm : Hid (SmG (nthG U k)) := HR.out.2 _ (nthG_mem hkl)
    clear hat
    go_upto_region 5 with fail
    have HS : Hid (∀ w', Below z.heap.size z w' → w'.cell? ⟨b, off + k * 5, none⟩ = some (.int .i64 (nthG U k).n) ∧ w'.cell? ⟨b, off + k * 5 + 1, none⟩ = some (.slice (some ⟨gk, ok, none⟩) (nthG U k).key.length kc) ∧ w'.cell? ⟨b, off + k * 5 + 2, none⟩ = some (.int .i64 (nthG U k).b) ∧ w'.cell? ⟨b, off + k * 5 + 3, none⟩ = some (.int .i64 (nthG U k).t) ∧ w'.cell? ⟨b, off + k * 5 + 4, none⟩ = some (.slice (some ⟨gl, ol, none⟩) (nthG U k).P.length cp) ∧ w'.cell? ⟨w.heap.size, 0, none⟩ = some (.slice (some ⟨gx, ox, none⟩) x.l.length cx) ∧ w'.cell? ⟨w.heap.size, 1, none⟩ = some (.int .i64 x.s) ∧ w'.cell? ⟨w.heap.size, 2, none⟩ = some (.int .i64 x.e) ∧ w'.cell? ⟨w.heap.size, 3, none⟩ = some (.string x.n)) := fun w' h => ⟨(h.cell (p := ⟨b, off + k * 5, none⟩) hbz).trans HAT.out.c0, (h.cell (p := ⟨b, off + k * 5 + 1, none⟩) hbz).trans HAT.out.c1, (h.cell (p := ⟨b, off + k * 5 + 2, none⟩) hbz).trans HAT.out.c2, (h.cell (p := ⟨b, off + k * 5 + 3, none⟩) hbz).trans HAT.out.c3, (h.cell (p := ⟨b, off + k * 5 + 4, none⟩) hbz).trans HAT.out.c4, (BX.out.grow h).cell 0, (BX.out.grow h).cell 1, (BX.out.grow h).cell 2, (BX.out.grow h).cell 3⟩
    go_cut [15] from 26 to 31 (fun s15 wx => ∃ (N : Nat) (y : GRow), s15 = .pointer (some ⟨N, 0, none⟩) ∧ Blk wx N #[.int .i64 y.n, .slice (some ⟨y.K, 0, none⟩) y.key.length y.kd, .int .i64 y.b, .int .i64 y.t, .slice (some ⟨y.M, y.o, none⟩) y.rs.length y.c] 53 ∧ GB z.heap.size wx y.K y.key y.M y.o y.rs ∧ (y.rs.length ≤ y.c ∧ y.c ≤ maxLen) ∧ y.gr = putG x (nthG U k) ∧ z.heap.size ≤ N ∧ Below z.heap.size z wx)
    case first =>
      refine wp_region_held_drew (S := fun w' => w'.cell? ⟨b, off + k * 5, none⟩ = some (.int .i64 (nthG U k).n) ∧ w'.cell? ⟨b, off + k * 5 + 1, none⟩ = some (.slice (some ⟨gk, ok, none⟩) (nthG U k).key.length kc) ∧ w'.cell? ⟨b, off + k * 5 + 2, none⟩ = some (.int .i64 (nthG U k).b) ∧ w'.cell? ⟨b, off + k * 5 + 3, none⟩ = some (.int .i64 (nthG U k).t) ∧ w'.cell? ⟨b, off + k * 5 + 4, none⟩ = some (.slice (some ⟨gl, ol, none⟩) (nthG U k).P.length cp) ∧ w'.cell? ⟨w.heap.size, 0, none⟩ = some (.slice (some ⟨gx, ox, none⟩) x.l.length cx) ∧ w'.cell? ⟨w.heap.size, 1, none⟩ = some (.int .i64 x.s) ∧ w'.cell? ⟨w.heap.size, 2, none⟩ = some (.int .i64 x.e) ∧ w'.cell? ⟨w.heap.size, 3, none⟩ = some (.string x.n)) (by kernel_rfl) (HS.out _ (Below.refl _ _).drew) (fun hHeld => ?_)
      refine tk 0 ⟨some 26, .move (.tmp 0), 24, "l12_groups.go:51", #[], none⟩ hHeld ?_
      try go_frame
      refine tk 1 ⟨some 27, .move (.tmp 14), 3, "l12_groups.go:51", #[], none⟩ hHeld ?_
      try go_frame
      refine tk 2 ⟨some 28, .indexAddr 24 (.tmp 26) (.tmp 27), 0, "l12_groups.go:51", #[⟨0, .data⟩, ⟨1, .data⟩], none⟩ hHeld ?_
      try go_frame
      refine tk 3 ⟨some 29, .load 53 (.tmp 28), 53, "l12_groups.go:51", #[⟨2, .data⟩], none⟩ hHeld ?_
      try go_frame
      refine tk 4 ⟨some 30, .load 27 (.tmp 6), 27, "l12_groups.go:51", #[], none⟩ hHeld ?_
      try go_frame
      refine wpAnyH_ready (rs := [5, 6]) (by kernel_rfl) (by simp) ?_
      refine AllReadyH.cons (o := ⟨some 31, .call { callee := .value (.func 36), args := #[.tmp 29, .tmp 30], argTypes := #[53, 27] }, 53, "l12_groups.go:51", #[⟨3, .data⟩, ⟨4, .data⟩], none⟩) rfl (fun K hK => ?_) ?_
      ·
        go_simp
        refine (specJoin_any (nthG U k).n (nthG U k).b (nthG U k).t gk ok kc (nthG U k).key gl ol cp (nthG U k).P gx ox cx x _ (HAT.out.reads.2.2.2.1.below ((Below.refl z.heap.size z)).drew) hsm.out.1 (HAT.out.reads.2.2.2.2.below ((Below.refl z.heap.size z)).drew) hsm.out.2.1 hsm.out.2.2 HAT.out.reads.2.2.1 (HX.out.1.below (grow_on HB.out ((Below.refl z.heap.size z)).drew)) HX.out.2).mono ?_
        rintro r wa ⟨⟨Ke, kd2, M2, c2, rs, rfl, hG, hA, hP⟩, hb⟩
        have ZA : Hid (Below z.heap.size z wa) := grow_on ((Below.refl z.heap.size z)).drew hb
        have HGA : Hid (GB z.heap.size wa Ke (nthG U k).key M2 0 rs ∧ (rs.length ≤ c2 ∧ c2 ≤ maxLen) ∧ pals rs = joinG (nthG U k).P x) := ⟨hG.down ((Below.refl z.heap.size z)).drew.size, hA.cap, hP⟩
        clear hG hA hP hb
        clear hHeld
        refine hK.out _ _ (HS.out _ ZA.out) (fun hHeld => ?_)
        clear hK K
        try go_frame
        refine rd1 6 ⟨some 15, .alloc 53, 0, "l12_groups.go:51", #[], none⟩ (fun K hK => ?_)
        go_simp
        clear hHeld
        refine hK.out _ _ (HS.out _ (bel_alloc ZA.out (.cells #[.int .i64 0, .slice none 0 0, .int .i64 0, .int .i64 0, .slice none 0 0] 53))) (fun hHeld => ?_)
        clear hK K
        try go_frame
        refine rd1 7 ⟨none, .store 53 (.tmp 15) (.tmp 31), 0, "l12_groups.go:51", #[⟨6, .data⟩, ⟨5, .data⟩, ⟨5, .chain⟩, ⟨0, .phase⟩, ⟨1, .phase⟩, ⟨2, .phase⟩, ⟨3, .phase⟩, ⟨4, .phase⟩, ⟨5, .phase⟩, ⟨6, .phase⟩], none⟩ (fun K hK => ?_)
        go_simp
        clear hHeld
        refine hK.out _ _ (HS.out _ (bel_alloc ZA.out (.cells #[.int .i64 (nthG U k).n, .slice (some ⟨Ke, 0, none⟩) (nthG U k).key.length kd2, .int .i64 (nthG U k).b, .int .i64 (nthG U k).t, .slice (some ⟨M2, 0, none⟩) rs.length c2] 53))) (fun hHeld => ?_)
        clear hK K
        try go_frame
        refine wpAnyH_done (by kernel_rfl) ?_ _
        clear hHeld
        go_wp2_with fail
        go_meet
        exact ⟨_, ⟨(nthG U k).n, Ke, kd2, (nthG U k).key, (nthG U k).b, (nthG U k).t, M2, 0, c2, rs⟩, rfl, Blk.new _ _ _, HGA.out.1.grow (Go.Joins.below_alloc1 wa _), HGA.out.2.1, by unfold GRow.gr putG; rw [HGA.out.2.2], ZA.out.size, bel_alloc ZA.out _⟩
      refine AllReadyH.cons (o := ⟨some 15, .alloc 53, 0, "l12_groups.go:51", #[], none⟩) rfl (fun K hK => ?_) AllReadyH.nil
      go_simp
      clear hHeld
      refine hK.out _ _ (HS.out _ (bel_alloc (Below.refl z.heap.size z) (.cells #[.int .i64 0, .slice none 0 0, .int .i64 0, .int .i64 0, .slice none 0 0] 53)).drew) (fun hHeld => ?_)
      clear hK K
      try go_frame
      refine rd1 5 ⟨some 31, .call { callee := .value (.func 36), args := #[.tmp 29, .tmp 30], argTypes := #[53, 27] }, 53, "l12_groups.go:51", #[⟨3, .data⟩, ⟨4, .data⟩], none⟩ (fun K hK => ?_)
      go_simp
      refine (specJoin_any (nthG U k).n (nthG U k).b (nthG U k).t gk ok kc (nthG U k).key gl ol cp (nthG U k).P gx ox cx x _ (HAT.out.reads.2.2.2.1.below ((bel_alloc (Below.refl z.heap.size z) (.cells #[.int .i64 0, .slice none 0 0, .int .i64 0, .int .i64 0, .slice none 0 0] 53))).drew) hsm.out.1 (HAT.out.reads.2.2.2.2.below ((bel_alloc (Below.refl z.heap.size z) (.cells #[.int .i64 0, .slice none 0 0, .int .i64 0, .int .i64 0, .slice none 0 0] 53))).drew) hsm.out.2.1 hsm.out.2.2 HAT.out.reads.2.2.1 (HX.out.1.below (grow_on HB.out ((bel_alloc (Below.refl z.heap.size z) (.cells #[.int .i64 0, .slice none 0 0, .int .i64 0, .int .i64 0, .slice none 0 0] 53))).drew)) HX.out.2).mono ?_
      rintro r wa ⟨⟨Ke, kd2, M2, c2, rs, rfl, hG, hA, hP⟩, hb⟩
      have ZA : Hid (Below z.heap.size z wa) := grow_on ((bel_alloc (Below.refl z.heap.size z) (.cells #[.int .i64 0, .slice none 0 0, .int .i64 0, .int .i64 0, .slice none 0 0] 53))).drew hb
      have HGA : Hid (GB z.heap.size wa Ke (nthG U k).key M2 0 rs ∧ (rs.length ≤ c2 ∧ c2 ≤ maxLen) ∧ pals rs = joinG (nthG U k).P x) := ⟨hG.down ((bel_alloc (Below.refl z.heap.size z) (.cells #[.int .i64 0, .slice none 0 0, .int .i64 0, .int .i64 0, .slice none 0 0] 53))).drew.size, hA.cap, hP⟩
      have NB : Hid (Blk wa z.heap.size #[.int .i64 0, .slice none 0 0, .int .i64 0, .int .i64 0, .slice none 0 0] 53) := (Blk.new z.drew _ _).grow hb
      clear hG hA hP hb
      clear hHeld
      refine hK.out _ _ (HS.out _ ZA.out) (fun hHeld => ?_)
      clear hK K
      try go_frame
      refine rd1 7 ⟨none, .store 53 (.tmp 15) (.tmp 31), 0, "l12_groups.go:51", #[⟨6, .data⟩, ⟨5, .data⟩, ⟨5, .chain⟩, ⟨0, .phase⟩, ⟨1, .phase⟩, ⟨2, .phase⟩, ⟨3, .phase⟩, ⟨4, .phase⟩, ⟨5, .phase⟩, ⟨6, .phase⟩], none⟩ (fun K hK => ?_)
      have n0' := NB.out.cell 0
      have m0' := NB.out.frozen 0
      have n1' := NB.out.cell 1
      have m1' := NB.out.frozen 1
      have n2' := NB.out.cell 2
      have m2' := NB.out.frozen 2
      have n3' := NB.out.cell 3
      have m3' := NB.out.frozen 3
      have n4' := NB.out.cell 4
      have m4' := NB.out.frozen 4
      simp at n0' n1' n2' n3' n4'
      go_simp
      clear n0' m0' n1' m1' n2' m2' n3' m3' n4' m4'
      have hzz := (set_low (set_low (set_low (set_low (set_low ZA.out (M := z.heap.size) (Nat.le_refl _) 0 (.int .i64 (nthG U k).n)) (M := z.heap.size) (Nat.le_refl _) 1 (.slice (some ⟨Ke, 0, none⟩) (nthG U k).key.length kd2)) (M := z.heap.size) (Nat.le_refl _) 2 (.int .i64 (nthG U k).b)) (M := z.heap.size) (Nat.le_refl _) 3 (.int .i64 (nthG U k).t)) (M := z.heap.size) (Nat.le_refl _) 4 (.slice (some ⟨M2, 0, none⟩) rs.length c2))
      clear hHeld
      refine hK.out _ _ (HS.out _ hzz) (fun hHeld => ?_)
      clear hK K
      try go_frame
      clear hzz
      refine wpAnyH_done (by kernel_rfl) ?_ _
      clear hHeld
      go_wp2_with fail
      go_meet
      exact ⟨_, ⟨(nthG U k).n, Ke, kd2, (nthG U k).key, (nthG U k).b, (nthG U k).t, M2, 0, c2, rs⟩, rfl, (((((NB.out.set 0 (.int .i64 (nthG U k).n)).set 1 (.slice (some ⟨Ke, 0, none⟩) (nthG U k).key.length kd2)).set 2 (.int .i64 (nthG U k).b)).set 3 (.int .i64 (nthG U k).t)).set 4 (.slice (some ⟨M2, 0, none⟩) rs.length c2)), (gb_moved (gb_moved (gb_moved (gb_moved (gb_moved HGA.out.1 (Moved.set NB.out (by decide) (by decide) 0 (.int .i64 (nthG U k).n))) (Moved.set (NB.out.set 0 (.int .i64 (nthG U k).n)) (by decide) (by decide) 1 (.slice (some ⟨Ke, 0, none⟩) (nthG U k).key.length kd2))) (Moved.set ((NB.out.set 0 (.int .i64 (nthG U k).n)).set 1 (.slice (some ⟨Ke, 0, none⟩) (nthG U k).key.length kd2)) (by decide) (by decide) 2 (.int .i64 (nthG U k).b))) (Moved.set (((NB.out.set 0 (.int .i64 (nthG U k).n)).set 1 (.slice (some ⟨Ke, 0, none⟩) (nthG U k).key.length kd2)).set 2 (.int .i64 (nthG U k).b)) (by decide) (by decide) 3 (.int .i64 (nthG U k).t))) (Moved.set ((((NB.out.set 0 (.int .i64 (nthG U k).n)).set 1 (.slice (some ⟨Ke, 0, none⟩) (nthG U k).key.length kd2)).set 2 (.int .i64 (nthG U k).b)).set 3 (.int .i64 (nthG U k).t)) (by decide) (by decide) 4 (.slice (some ⟨M2, 0, none⟩) rs.length c2))), HGA.out.2.1, by unfold GRow.gr putG; rw [HGA.out.2.2], Nat.le_refl _, (set_low (set_low (set_low (set_low (set_low ZA.out (M := z.heap.size) (Nat.le_refl _) 0 (.int .i64 (nthG U k).n)) (M := z.heap.size) (Nat.le_refl _) 1 (.slice (some ⟨Ke, 0, none⟩) (nthG U k).key.length kd2)) (M := z.heap.size) (Nat.le_refl _) 2 (.int .i64 (nthG U k).b)) (M := z.heap.size) (Nat.le_refl _) 3 (.int .i64 (nthG U k).t)) (M := z.heap.size) (Nat.le_refl _) 4 (.slice (some ⟨M2, 0, none⟩) rs.length c2))⟩
    case rest =>
      obtain ⟨N, y, rfl, hN, hgb, hcp, hgr, hNz, hbc⟩ := hcut
      have HBc : Hid (Below w.heap.size w wc) := grow_on HB.out hbc
      have HGc : Hid (GsB (w.heap.size + 1) wc M c us) := HG.out.grow hbc
      have HYc : Hid (GB z.heap.size wc y.K y.key y.M y.o y.rs ∧ (y.rs.length ≤ y.c ∧ y.c ≤ maxLen) ∧ y.gr = putG x (nthG U k)) := ⟨hgb, hcp, hgr⟩
      have HNE : Hid (∀ u ∈ us, ∀ q, u.blks q → ¬ y.blks q) := fun u hu q h1 h2 => by
        have e1 := (HG.out.rows.rng hu q h1).2
        have e2 := (hgb.rng q h2).1
        omega
      obtain ⟨cur, hc1, hc2, _⟩ := HGc.out.outer
      have hcap := HGc.out.cap
      have hku : k < us.length := by have := HUL.out; omega
      have HKU : Hid (k < us.length) := hku
      have HUL2 : Hid (us.length = U.length) := HUL.out
      have hku' : (k : Int) < (us.length : Int) := by omega
      obtain ⟨v0, v1, v2, v3, v4, q0, q1, q2, q3, q4⟩ := five_cells hc1 k (by omega)
      have f0 := hc1.frozen (k * 5)
      have f1 := hc1.frozen (k * 5 + 1)
      have f2 := hc1.frozen (k * 5 + 2)
      have f3 := hc1.frozen (k * 5 + 3)
      have f4 := hc1.frozen (k * 5 + 4)
      have n0 := hN.cell 0
      have n1 := hN.cell 1
      have n2 := hN.cell 2
      have n3 := hN.cell 3
      have n4 := hN.cell 4
      simp at n0 n1 n2 n3 n4
      have HPUT : Hid (GsB (w.heap.size + 1) (put5W wc M k y) M c (us.set k y)) := GsB.put HGc.out hku (HYc.out.1.down (by have := HLz.out; omega)) HNE.out
      have HBP : Hid (Below w.heap.size w (put5W wc M k y)) := put5W_low HBc.out (by have := HG.out.at'; omega)
      have HPG : Hid (grs (us.set k y) = joinAllG U x by' n now) := by
        unfold Hid
        rw [grs_set, HP.out, HJ.out.1, HYc.out.2.2]
      have HCG : Hid (CapsG (us.set k y)) := caps_set HG1.out.2 HYc.out.2.1
      have HLG : Hid ((us.set k y).length = us.length) := List.length_set
      clear hN hgb hcp hgr hNz hbc hc1 hc2 hcap hku HS HAT BX HOz HB HG
      unfold put5W at HPUT HBP
      go_wp2
      refine bodyPost_ret (v := .tuple #[.slice (some ⟨M, 0, none⟩) us.length c, .bool false]) (by simp [results, Tryz.results7, go_sem]) rfl ?_
      exact ⟨⟨M, c, us.set k y, by rw [HLG.out, HJ.out.2], HPUT.out.down (by omega), HPG.out, HCG.out⟩, HBP.out⟩
end Go.Proofs.YtgncimlojbnbfaaGreat.GpJ
namespace Go.Proofs.YtgncimlojbnbfaaGreat.GpX
open Go.RowKit
open Labs LabS Alms Over Rws ChnI ChnC ChnK Gps GpD GpJ GpF
open GrpJ (joinG join_len posG)
open Pro (projB)
open LabT (Fits)
end Go.Proofs.YtgncimlojbnbfaaGreat.GpX
