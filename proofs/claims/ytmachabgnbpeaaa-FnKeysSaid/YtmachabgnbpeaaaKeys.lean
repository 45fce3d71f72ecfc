/-
  PROVED: whatever the code, the law laws.FnKeys returns true and leaves the code as it was: of the drawn labels, alarms and names what is together is of one key; each alarm's key is among the keys, and these are all unlike; each function of chapter 5 answers as the specification has it. No condition.
-/
import Derived.Test.YtmachabgnbpeaaaRows
import Derived.WalkKit
import Derived.ProofKit
import Derived.OpenShut
import Derived.ShutString
import Derived.ChangeOld
import Derived.Below
import Derived.WalkLawsBesides
import Derived.WalkSpells
import Derived.Test.YtmachabgnbpeaaaDrawK
import Derived.Test.YtmachabgnbpeaaaTog
import Derived.Test.YtmachabgnbpeaaaKysK
import Derived.Test.YtmachabgnbpeaaaByOk
import Derived.Deep.RegionHeld3
namespace Go.Proofs.Ytmachabgnbpeaaa.FnKeys
open Go.ChangeShapes Go.WideShapes Go.ChangeAt Go.RowKit
open Go.ChangeMaps (open_string shut_string)
set_option linter.unusedVariables false

open Go.Proofs.Ytmachabgnbpeaaa.Labs Go.Proofs.Ytmachabgnbpeaaa.LabS Go.Proofs.Ytmachabgnbpeaaa.Draw Go.Proofs.Ytmachabgnbpeaaa.DrawL Go.Proofs.Ytmachabgnbpeaaa.DrawB Go.Proofs.Ytmachabgnbpeaaa.LawB Go.Proofs.Ytmachabgnbpeaaa.Over Go.Proofs.Ytmachabgnbpeaaa.Blk Go.Proofs.Ytmachabgnbpeaaa.Pro Go.Proofs.Ytmachabgnbpeaaa.Tog Go.Proofs.Ytmachabgnbpeaaa.Kys Go.Proofs.Ytmachabgnbpeaaa.DrawK
open Go.Proofs.Ytmachabgnbpeaaa.Alms (PAl nthP RdA sumL At sum_nth)
open Go.Proofs.Ytmachabgnbpeaaa.ByOk (byB specBy_any implBy_any)
open Go.Proofs.Ytmachabgnbpeaaa.StrT (FitsS)
open Go.Proofs.Ytmachabgnbpeaaa.LabR (Own)

theorem proj_again (l : List Lab) (b : List ByteArray) : projB (projB l b) b = projB l b := by
  unfold projB
  rw [List.filter_filter]
  congr 1
  funext x
  exact Bool.and_self _
theorem tog_comm (l l' : List Lab) (b : List ByteArray) : togB l' l b = togB l l' b := by
  unfold togB
  by_cases h : projB l b = projB l' b
  · rw [decide_eq_true h, decide_eq_true h.symm]
  · rw [decide_eq_false h, decide_eq_false (fun e => h e.symm)]
theorem tog_self (l : List Lab) (b : List ByteArray) : togB l l b = true := decide_eq_true rfl
theorem hasK_iff {ks : List (List Lab)} {k : List Lab} : hasK ks k = true ↔ k ∈ ks := by
  unfold hasK
  simp only [List.any_eq_true, decide_eq_true_eq]
  constructor
  · rintro ⟨x, hx, rfl⟩; exact hx
  · intro h; exact ⟨k, h, rfl⟩
theorem add_nodup {ks : List (List Lab)} (h : ks.Nodup) (k : List Lab) : (addK ks k).Nodup := by
  cases hk : hasK ks k with
  | true => rw [add_yes hk]; exact h
  | false =>
    rw [add_no hk]
    have hn : k ∉ ks := fun hm => by rw [hasK_iff.2 hm] at hk; cases hk
    rw [List.nodup_append]
    refine ⟨h, by simp, fun a ha b hb => ?_⟩
    rw [List.mem_singleton.1 hb]
    exact fun e => hn (e ▸ ha)
theorem keys_nodup {P : List PAl} {b : List ByteArray} : ∀ {k : Nat}, k ≤ P.length → (keysTo P b k).Nodup
  | 0, _ => by rw [keys_zero]; exact List.nodup_nil
  | k + 1, h => by rw [keys_up (by omega)]; exact add_nodup (keys_nodup (by omega)) _
theorem add_has {ks : List (List Lab)} (k : List Lab) : k ∈ addK ks k := by
  cases hk : hasK ks k with
  | true => rw [add_yes hk]; exact hasK_iff.1 hk
  | false => rw [add_no hk]; simp
theorem add_keeps {ks : List (List Lab)} {q : List Lab} (k : List Lab) (h : q ∈ ks) : q ∈ addK ks k := by
  cases hk : hasK ks k with
  | true => rw [add_yes hk]; exact h
  | false => rw [add_no hk]; exact List.mem_append_left _ h
theorem keys_has {P : List PAl} {b : List ByteArray} : ∀ {k : Nat}, k ≤ P.length → ∀ i, i < k → projB (nthP P i).l b ∈ keysTo P b k
  | 0, _, i, hi => by omega
  | k + 1, h, i, hi => by
    rw [keys_up (by omega)]
    by_cases e : i = k
    · subst e; exact add_has _
    · exact add_keeps _ (keys_has (by omega) i (by omega))
theorem rows_ne {P : List PAl} {b : List ByteArray} {rs : List Row} (h : labs rs = keysB P b) {i j : Nat} (hi : i < rs.length) (hj : j < rs.length) (hne : i ≠ j) : (nthR rs i).2.2 ≠ (nthR rs j).2.2 := by
  have hn : (labs rs).Nodup := by rw [h, ← keys_all (Nat.le_refl P.length)]; exact keys_nodup (Nat.le_refl _)
  rw [nthR_eq hi, nthR_eq hj]
  unfold labs at hn
  intro e
  rw [List.Nodup, List.pairwise_iff_getElem] at hn
  rcases Nat.lt_or_gt_of_ne hne with hlt | hlt
  · exact hn i j (by simpa using hi) (by simpa using hj) hlt (by simpa using e)
  · exact hn j i (by simpa using hj) (by simpa using hi) hlt (by simpa using e.symm)
theorem rows_has {P : List PAl} {b : List ByteArray} {rs : List Row} (h : labs rs = keysB P b) {i : Nat} (hi : i < P.length) : hasK (labs rs) (projB (nthP P i).l b) = true := by
  rw [h, ← keys_all (Nat.le_refl P.length)]
  exact hasK_iff.2 (keys_has (Nat.le_refl _) i hi)
theorem few3 {xs : List ByteArray} (h : xs.length ≤ 3) : xs.length ≤ maxLen := by unfold maxLen; omega
theorem few8 {p : List Lab} (h : p.length ≤ 8) : p.length ≤ 1048576 := by omega

set_option maxRecDepth 100000 in
set_option maxHeartbeats 40000000 in
theorem core (a : Option Addr) (len cap : Nat) (w : World) (hl : len ≤ maxLen) (hb : Bytes w a len w.heap.size) :
    Calls Try.prog 3 #[.slice a len cap] w fun e w' => e = .returned (.bool true) ∧ Below w.heap.size w w' := by
  have HB : Hid (Bytes w a len w.heap.size) := hb
  have HL : Hid (len ≤ maxLen) := hl
  clear hb hl
  by_cases hbig : (1048576 : Int) < (len : Int)
  · have HC : Hid (Calls Try.prog 9 #[.slice a len cap] w fun e w' => e = .returned (.bool true) ∧ w' = w) := (big_any a len cap w HL.out).mono fun e w' h => ⟨h.1.trans (retB (decide_eq_true hbig)), h.2⟩
    go_enter Try.func3, Try.ntmps3
    go_wp2_with fail
    refine HC.out.mono ?_
    rintro e w1 ⟨rfl, rfl⟩
    go_wp2
    go_ret
    exact ⟨rfl, Below.refl _ _⟩
  have HC : Hid (Calls Try.prog 9 #[.slice a len cap] w fun e w' => e = .returned (.bool false) ∧ w' = w) := (big_any a len cap w HL.out).mono fun e w' h => ⟨h.1.trans (retB (decide_eq_false hbig)), h.2⟩
  go_enter Try.func3, Try.ntmps3
  go_wp2_with fail
  refine HC.out.mono ?_
  rintro e wq ⟨rfl, hw⟩
  obtain rfl := hw.symm
  clear HC hw
  have B0 : Hid (Below w.heap.size w w) := Below.refl _ _
  go_wp2_with fail
  refine (drawKeys_any a len cap _ HL.out (bytes_up HB.out B0.out)).mono ?_
  rintro e w1 ⟨⟨gl, cl, P, gb, cb, bs, rfl, hr, hs, hp, hq, hn⟩, hb⟩
  have LA_1 : Hid (RdA w1 (some ⟨gl, 0, none⟩) P) := hr
  have BY_1 : Hid (RdS w1 (some ⟨gb, 0, none⟩) bs) := hs
  have NP : Hid (P.length ≤ 5 ∧ sumL P ≤ 40) := ⟨hp, hq⟩
  have NB : Hid (bs.length ≤ 3) := hn
  have B1 : Hid (Below w.heap.size w w1) := grow_on B0.out hb
  clear hb hr hs hp hq hn
  go_wp2_with fail
  refine (implKeys_any _ _ _ _ P bs _ LA_1.out BY_1.out (by have := NP.out.1; omega) (by have := NP.out.2; omega) (few3 NB.out)).mono ?_
  rintro e w2 ⟨v, rfl, rs, hS, hE⟩
  obtain ⟨gk, ck, rfl⟩ := hS.lies
  have hb := hS.low
  have Q_2 : Hid (RdK w2 gk rs) := hS.rd
  have HE : Hid (labs rs = keysB P bs) := hE
  have NR : Hid (rs.length ≤ 5) := Nat.le_trans (rows_len hE) NP.out.1
  clear hS hE
  have B2 : Hid (Below w.heap.size w w2) := grow_on B1.out hb
  have LA_2 : Hid (RdA w2 (some ⟨gl, 0, none⟩) P) := LA_1.out.below hb
  have BY_2 : Hid (RdS w2 (some ⟨gb, 0, none⟩) bs) := BY_1.out.below hb
  clear hb
  go_wp2_with fail
  refine (drawTogether_any a len cap _ HL.out (bytes_up HB.out B2.out)).mono ?_
  rintro e w3 ⟨⟨g3, c3, p3, s3, e3, n3, g4, c4, p4, s4, e4, n4, gn, cn, ns, rfl, hd3, hd4, hs, hn⟩, hb⟩
  have D3_3 : Hid (Drawn w3 g3 p3 s3 e3 n3) := hd3
  have D4_3 : Hid (Drawn w3 g4 p4 s4 e4 n4) := hd4
  have NM_3 : Hid (RdS w3 (some ⟨gn, 0, none⟩) ns) := hs
  have NN : Hid (ns.length ≤ 3) := hn
  have B3 : Hid (Below w.heap.size w w3) := grow_on B2.out hb
  have LA_3 : Hid (RdA w3 (some ⟨gl, 0, none⟩) P) := LA_2.out.below hb
  have BY_3 : Hid (RdS w3 (some ⟨gb, 0, none⟩) bs) := BY_2.out.below hb
  have Q_3 : Hid (RdK w3 gk rs) := Q_2.out.below hb
  clear hb hd3 hd4 hs hn
  go_wp2_with fail
  refine (drawProject_any a len cap _ HL.out (bytes_up HB.out (grow_on B3.out (Go.Joins.below_alloc2 w3 _ _)))).mono ?_
  rintro e w4 ⟨⟨gs, cs, sl, gp, cp, ps, rfl, hr, hs, hp, hn⟩, hb⟩
  have SL_4 : Hid (Reads w4 (some ⟨gs, 0, none⟩) sl) := hr
  have PS_4 : Hid (RdS w4 (some ⟨gp, 0, none⟩) ps) := hs
  have NS : Hid (sl.length ≤ 8 ∧ ps.length ≤ 3) := ⟨hp, hn⟩
  have A3_4 : Hid (Blk w4 w3.heap.size #[.slice (some ⟨g3, 0, none⟩) p3.length c3, .int .i64 s3, .int .i64 e3, .string n3] 32) := ((Blk.new _ _ _).alloc _).grow hb
  have A4_4 : Hid (Blk w4 (w3.heap.size + 1) #[.slice (some ⟨g4, 0, none⟩) p4.length c4, .int .i64 s4, .int .i64 e4, .string n4] 32) := (Blk.new_at (by simp)).grow hb
  replace hb := grow_on (Go.Joins.below_alloc2 w3 _ _) hb
  have B4 : Hid (Below w.heap.size w w4) := grow_on B3.out hb
  have LA_4 : Hid (RdA w4 (some ⟨gl, 0, none⟩) P) := LA_3.out.below hb
  have BY_4 : Hid (RdS w4 (some ⟨gb, 0, none⟩) bs) := BY_3.out.below hb
  have Q_4 : Hid (RdK w4 gk rs) := Q_3.out.below hb
  have D3_4 : Hid (Drawn w4 g3 p3 s3 e3 n3) := D3_3.out.below hb
  have D4_4 : Hid (Drawn w4 g4 p4 s4 e4 n4) := D4_3.out.below hb
  have NM_4 : Hid (RdS w4 (some ⟨gn, 0, none⟩) ns) := NM_3.out.below hb
  clear hb hr hs hp hn
  go_wp2_with fail
  refine (implPro_any _ _ _ _ sl ps _ SL_4.out PS_4.out (few8 NS.out.1) (few3 NS.out.2)).mono ?_
  rintro e w5 ⟨⟨gj, cj, rfl, ho⟩, hb⟩
  have J_5 : Hid (Reads w5 (some ⟨gj, 0, none⟩) (projB sl ps)) := own_reads ho
  have B5 : Hid (Below w.heap.size w w5) := grow_on B4.out hb
  have LA_5 : Hid (RdA w5 (some ⟨gl, 0, none⟩) P) := LA_4.out.below hb
  have BY_5 : Hid (RdS w5 (some ⟨gb, 0, none⟩) bs) := BY_4.out.below hb
  have Q_5 : Hid (RdK w5 gk rs) := Q_4.out.below hb
  have D3_5 : Hid (Drawn w5 g3 p3 s3 e3 n3) := D3_4.out.below hb
  have D4_5 : Hid (Drawn w5 g4 p4 s4 e4 n4) := D4_4.out.below hb
  have NM_5 : Hid (RdS w5 (some ⟨gn, 0, none⟩) ns) := NM_4.out.below hb
  have A3_5 : Hid (Blk w5 w3.heap.size #[.slice (some ⟨g3, 0, none⟩) p3.length c3, .int .i64 s3, .int .i64 e3, .string n3] 32) := A3_4.out.grow hb
  have A4_5 : Hid (Blk w5 (w3.heap.size + 1) #[.slice (some ⟨g4, 0, none⟩) p4.length c4, .int .i64 s4, .int .i64 e4, .string n4] 32) := A4_4.out.grow hb
  have SL_5 : Hid (Reads w5 (some ⟨gs, 0, none⟩) sl) := SL_4.out.below hb
  have PS_5 : Hid (RdS w5 (some ⟨gp, 0, none⟩) ps) := PS_4.out.below hb
  clear hb ho
  have NJ : Hid ((projB sl ps).length ≤ 8) := Nat.le_trans (proj_len sl ps) NS.out.1
  go_wp2_with fail
  refine (drawByOk_any a len cap _ HL.out (bytes_up HB.out B5.out)).mono ?_
  rintro e w6 ⟨⟨go, co, os, rfl, hr, hn, hf⟩, hb⟩
  have O_6 : Hid (RdS w6 (some ⟨go, 0, none⟩) os) := hr
  have NO : Hid (os.length ≤ 3) := hn
  have FO : Hid (FitsS os) := hf
  have B6 : Hid (Below w.heap.size w w6) := grow_on B5.out hb
  have LA_6 : Hid (RdA w6 (some ⟨gl, 0, none⟩) P) := LA_5.out.below hb
  have BY_6 : Hid (RdS w6 (some ⟨gb, 0, none⟩) bs) := BY_5.out.below hb
  have Q_6 : Hid (RdK w6 gk rs) := Q_5.out.below hb
  have D3_6 : Hid (Drawn w6 g3 p3 s3 e3 n3) := D3_5.out.below hb
  have D4_6 : Hid (Drawn w6 g4 p4 s4 e4 n4) := D4_5.out.below hb
  have NM_6 : Hid (RdS w6 (some ⟨gn, 0, none⟩) ns) := NM_5.out.below hb
  have A3_6 : Hid (Blk w6 w3.heap.size #[.slice (some ⟨g3, 0, none⟩) p3.length c3, .int .i64 s3, .int .i64 e3, .string n3] 32) := A3_5.out.grow hb
  have A4_6 : Hid (Blk w6 (w3.heap.size + 1) #[.slice (some ⟨g4, 0, none⟩) p4.length c4, .int .i64 s4, .int .i64 e4, .string n4] 32) := A4_5.out.grow hb
  have SL_6 : Hid (Reads w6 (some ⟨gs, 0, none⟩) sl) := SL_5.out.below hb
  have PS_6 : Hid (RdS w6 (some ⟨gp, 0, none⟩) ps) := PS_5.out.below hb
  have J_6 : Hid (Reads w6 (some ⟨gj, 0, none⟩) (projB sl ps)) := J_5.out.below hb
  clear hb hr hn hf
  go_wp2_with fail
  refine (drawKeyOf_any a len cap _ HL.out (bytes_up HB.out B6.out)).mono ?_
  rintro e w7 ⟨⟨g5, c5, p5, s5, e5, n5, gv, cv, vs, rfl, hd5, hs, hn⟩, hb⟩
  have D5_7 : Hid (Drawn w7 g5 p5 s5 e5 n5) := hd5
  have VS_7 : Hid (RdS w7 (some ⟨gv, 0, none⟩) vs) := hs
  have NV : Hid (vs.length ≤ 3) := hn
  have B7 : Hid (Below w.heap.size w w7) := grow_on B6.out hb
  have LA_7 : Hid (RdA w7 (some ⟨gl, 0, none⟩) P) := LA_6.out.below hb
  have BY_7 : Hid (RdS w7 (some ⟨gb, 0, none⟩) bs) := BY_6.out.below hb
  have Q_7 : Hid (RdK w7 gk rs) := Q_6.out.below hb
  have D3_7 : Hid (Drawn w7 g3 p3 s3 e3 n3) := D3_6.out.below hb
  have D4_7 : Hid (Drawn w7 g4 p4 s4 e4 n4) := D4_6.out.below hb
  have NM_7 : Hid (RdS w7 (some ⟨gn, 0, none⟩) ns) := NM_6.out.below hb
  have A3_7 : Hid (Blk w7 w3.heap.size #[.slice (some ⟨g3, 0, none⟩) p3.length c3, .int .i64 s3, .int .i64 e3, .string n3] 32) := A3_6.out.grow hb
  have A4_7 : Hid (Blk w7 (w3.heap.size + 1) #[.slice (some ⟨g4, 0, none⟩) p4.length c4, .int .i64 s4, .int .i64 e4, .string n4] 32) := A4_6.out.grow hb
  have SL_7 : Hid (Reads w7 (some ⟨gs, 0, none⟩) sl) := SL_6.out.below hb
  have PS_7 : Hid (RdS w7 (some ⟨gp, 0, none⟩) ps) := PS_6.out.below hb
  have J_7 : Hid (Reads w7 (some ⟨gj, 0, none⟩) (projB sl ps)) := J_6.out.below hb
  have O_7 : Hid (RdS w7 (some ⟨go, 0, none⟩) os) := O_6.out.below hb
  clear hb hd5 hs hn
  go_wp2
  generalize hz : w7.alloc (.cells #[.slice (some ⟨g5, 0, none⟩) p5.length c5, .int .i64 s5, .int .i64 e5, .string n5] 32) = z
  have hbz : Below w7.heap.size w7 z := by rw [← hz]; exact Go.Joins.below_alloc1 w7 _
  have A5_z : Hid (Blk z w7.heap.size #[.slice (some ⟨g5, 0, none⟩) p5.length c5, .int .i64 s5, .int .i64 e5, .string n5] 32) := by rw [← hz]; exact Blk.new _ _ _
  have LA_z : Hid (RdA z (some ⟨gl, 0, none⟩) P) := LA_7.out.below hbz
  have BY_z : Hid (RdS z (some ⟨gb, 0, none⟩) bs) := BY_7.out.below hbz
  have Q_z : Hid (RdK z gk rs) := Q_7.out.below hbz
  have D3_z : Hid (Drawn z g3 p3 s3 e3 n3) := D3_7.out.below hbz
  have D4_z : Hid (Drawn z g4 p4 s4 e4 n4) := D4_7.out.below hbz
  have NM_z : Hid (RdS z (some ⟨gn, 0, none⟩) ns) := NM_7.out.below hbz
  have A3_z : Hid (Blk z w3.heap.size #[.slice (some ⟨g3, 0, none⟩) p3.length c3, .int .i64 s3, .int .i64 e3, .string n3] 32) := A3_7.out.grow hbz
  have A4_z : Hid (Blk z (w3.heap.size + 1) #[.slice (some ⟨g4, 0, none⟩) p4.length c4, .int .i64 s4, .int .i64 e4, .string n4] 32) := A4_7.out.grow hbz
  have SL_z : Hid (Reads z (some ⟨gs, 0, none⟩) sl) := SL_7.out.below hbz
  have PS_z : Hid (RdS z (some ⟨gp, 0, none⟩) ps) := PS_7.out.below hbz
  have J_z : Hid (Reads z (some ⟨gj, 0, none⟩) (projB sl ps)) := J_7.out.below hbz
  have O_z : Hid (RdS z (some ⟨go, 0, none⟩) os) := O_7.out.below hbz
  have D5_z : Hid (Drawn z g5 p5 s5 e5 n5) := D5_7.out.below hbz
  have VS_z : Hid (RdS z (some ⟨gv, 0, none⟩) vs) := VS_7.out.below hbz
  have BZ : Hid (Below w.heap.size w z) := grow_on B7.out hbz
  clear hz hbz
  have kA3 := A3_z.out.lt
  have cA30 : z.cell? ⟨w3.heap.size, 0, none⟩ = some (.slice (some ⟨g3, 0, none⟩) p3.length c3) := A3_z.out.cell 0
  have cA31 : z.cell? ⟨w3.heap.size, 1, none⟩ = some (.int .i64 s3) := A3_z.out.cell 1
  have cA32 : z.cell? ⟨w3.heap.size, 2, none⟩ = some (.int .i64 e3) := A3_z.out.cell 2
  have cA33 : z.cell? ⟨w3.heap.size, 3, none⟩ = some (.string n3) := A3_z.out.cell 3
  have kA4 := A4_z.out.lt
  have cA40 : z.cell? ⟨(w3.heap.size + 1), 0, none⟩ = some (.slice (some ⟨g4, 0, none⟩) p4.length c4) := A4_z.out.cell 0
  have cA41 : z.cell? ⟨(w3.heap.size + 1), 1, none⟩ = some (.int .i64 s4) := A4_z.out.cell 1
  have cA42 : z.cell? ⟨(w3.heap.size + 1), 2, none⟩ = some (.int .i64 e4) := A4_z.out.cell 2
  have cA43 : z.cell? ⟨(w3.heap.size + 1), 3, none⟩ = some (.string n4) := A4_z.out.cell 3
  have kA5 := A5_z.out.lt
  have cA50 : z.cell? ⟨w7.heap.size, 0, none⟩ = some (.slice (some ⟨g5, 0, none⟩) p5.length c5) := A5_z.out.cell 0
  have cA51 : z.cell? ⟨w7.heap.size, 1, none⟩ = some (.int .i64 s5) := A5_z.out.cell 1
  have cA52 : z.cell? ⟨w7.heap.size, 2, none⟩ = some (.int .i64 e5) := A5_z.out.cell 2
  have cA53 : z.cell? ⟨w7.heap.size, 3, none⟩ = some (.string n5) := A5_z.out.cell 3
  have HS : Hid (∀ w', Below z.heap.size z w' → Below z.heap.size z w' ∧ w'.cell? ⟨w3.heap.size, 0, none⟩ = some (.slice (some ⟨g3, 0, none⟩) p3.length c3) ∧ w'.cell? ⟨w3.heap.size, 1, none⟩ = some (.int .i64 s3) ∧ w'.cell? ⟨w3.heap.size, 2, none⟩ = some (.int .i64 e3) ∧ w'.cell? ⟨w3.heap.size, 3, none⟩ = some (.string n3) ∧ w'.cell? ⟨(w3.heap.size + 1), 0, none⟩ = some (.slice (some ⟨g4, 0, none⟩) p4.length c4) ∧ w'.cell? ⟨(w3.heap.size + 1), 1, none⟩ = some (.int .i64 s4) ∧ w'.cell? ⟨(w3.heap.size + 1), 2, none⟩ = some (.int .i64 e4) ∧ w'.cell? ⟨(w3.heap.size + 1), 3, none⟩ = some (.string n4) ∧ w'.cell? ⟨w7.heap.size, 0, none⟩ = some (.slice (some ⟨g5, 0, none⟩) p5.length c5) ∧ w'.cell? ⟨w7.heap.size, 1, none⟩ = some (.int .i64 s5) ∧ w'.cell? ⟨w7.heap.size, 2, none⟩ = some (.int .i64 e5) ∧ w'.cell? ⟨w7.heap.size, 3, none⟩ = some (.string n5)) := fun w' h => ⟨h, (h.cell kA3).trans cA30, (h.cell kA3).trans cA31, (h.cell kA3).trans cA32, (h.cell kA3).trans cA33, (h.cell kA4).trans cA40, (h.cell kA4).trans cA41, (h.cell kA4).trans cA42, (h.cell kA4).trans cA43, (h.cell kA5).trans cA50, (h.cell kA5).trans cA51, (h.cell kA5).trans cA52, (h.cell kA5).trans cA53⟩
  have kz : Below z.heap.size z z.drew := (Below.refl _ _).drew
  have T1 : Hid (∀ (x : World), Below z.heap.size z x → Calls Try.prog 17 #[.agg #[.slice (some ⟨g3, 0, none⟩) p3.length c3, .int .i64 s3, .int .i64 e3, .string n3], .agg #[.slice (some ⟨g4, 0, none⟩) p4.length c4, .int .i64 s4, .int .i64 e4, .string n4], .slice (some ⟨gn, 0, none⟩) ns.length cn] x fun r w' => r = .returned (.bool (togB p3 p4 ns)) ∧ Below x.heap.size x w') := fun x hx => implTog_any _ _ _ _ _ _ p3 p4 s3 e3 s4 e4 n3 n4 ns _ (D3_z.out.reads.below hx) (D4_z.out.reads.below hx) (NM_z.out.below hx) D3_z.out.mid D4_z.out.mid (few3 NN.out)
  have T2 : Hid (∀ (x : World), Below z.heap.size z x → Calls Try.prog 18 #[.agg #[.slice (some ⟨g3, 0, none⟩) p3.length c3, .int .i64 s3, .int .i64 e3, .string n3], .agg #[.slice (some ⟨g4, 0, none⟩) p4.length c4, .int .i64 s4, .int .i64 e4, .string n4], .slice (some ⟨gn, 0, none⟩) ns.length cn] x fun r w' => r = .returned (.bool (togB p3 p4 ns)) ∧ Below x.heap.size x w') := fun x hx => specTog_any _ _ _ _ _ _ p3 p4 s3 e3 s4 e4 n3 n4 ns _ (D3_z.out.reads.below hx) (D4_z.out.reads.below hx) (NM_z.out.below hx) D3_z.out.mid D4_z.out.mid (few3 NN.out)
  have T3 : Hid (∀ (x : World), Below z.heap.size z x → Calls Try.prog 17 #[.agg #[.slice (some ⟨g3, 0, none⟩) p3.length c3, .int .i64 s3, .int .i64 e3, .string n3], .agg #[.slice (some ⟨g3, 0, none⟩) p3.length c3, .int .i64 s3, .int .i64 e3, .string n3], .slice (some ⟨gn, 0, none⟩) ns.length cn] x fun r w' => r = .returned (.bool true) ∧ Below x.heap.size x w') := fun x hx => (implTog_any _ _ _ _ _ _ p3 p3 s3 e3 s3 e3 n3 n3 ns _ (D3_z.out.reads.below hx) (D3_z.out.reads.below hx) (NM_z.out.below hx) D3_z.out.mid D3_z.out.mid (few3 NN.out)).mono fun r w' h => ⟨h.1.trans (retB (tog_self _ _)), h.2⟩
  have P1 : Hid (∀ (x : World), Below z.heap.size z x → Calls Try.prog 20 #[.slice (some ⟨gs, 0, none⟩) sl.length cs, .slice (some ⟨gp, 0, none⟩) ps.length cp] x fun r w' => (∃ (M c : Nat), r = .returned (.slice (some ⟨M, 0, none⟩) (projB sl ps).length c) ∧ Own x w' M (projB sl ps)) ∧ Below x.heap.size x w') := fun x hx => specPro_any _ _ _ _ sl ps x (SL_z.out.below hx) (PS_z.out.below hx) (few8 NS.out.1) (few3 NS.out.2)
  have S1 : Hid (∀ (x : World) (M c : Nat), Below z.heap.size z x → Reads x (some ⟨M, 0, none⟩) (projB sl ps) → Calls Try.prog 19 #[.slice (some ⟨gj, 0, none⟩) (projB sl ps).length cj, .slice (some ⟨M, 0, none⟩) (projB sl ps).length c] x fun r w' => r = .returned (.bool true) ∧ Below x.heap.size x w') := fun x M c hx hr => (calls_drew (implSame_any _ _ _ _ (projB sl ps) (projB sl ps) x (J_z.out.below hx) hr (len_max (few8 NJ.out)) (len_max (few8 NJ.out)))).mono fun r w' h => ⟨h.1.trans (retB (decide_eq_true rfl)), h.2⟩
  have Y1 : Hid (∀ (x : World), Below z.heap.size z x → Calls Try.prog 21 #[.slice (some ⟨go, 0, none⟩) os.length co] x fun r w' => r = .returned (.bool (byB os)) ∧ Below x.heap.size x w') := fun x hx => implBy_any _ _ os x (O_z.out.below hx) (few3 NO.out) FO.out
  have Y2 : Hid (∀ (x : World), Below z.heap.size z x → Calls Try.prog 22 #[.slice (some ⟨go, 0, none⟩) os.length co] x fun r w' => r = .returned (.bool (byB os)) ∧ Below x.heap.size x w') := fun x hx => specBy_any _ _ os x (O_z.out.below hx) (few3 NO.out) FO.out
  have K1 : Hid (∀ (x : World), Below z.heap.size z x → Calls Try.prog 23 #[.agg #[.slice (some ⟨g5, 0, none⟩) p5.length c5, .int .i64 s5, .int .i64 e5, .string n5], .slice (some ⟨gv, 0, none⟩) vs.length cv] x fun r w' => (∃ (M c : Nat), r = .returned (.slice (some ⟨M, 0, none⟩) (projB p5 vs).length c) ∧ Own x w' M (projB p5 vs)) ∧ Below x.heap.size x w') := fun x hx => implKey_any _ _ _ _ p5 s5 e5 n5 vs x (D5_z.out.reads.below hx) (VS_z.out.below hx) D5_z.out.mid (few3 NV.out)
  have K2 : Hid (∀ (x : World), Below z.heap.size z x → Calls Try.prog 24 #[.agg #[.slice (some ⟨g5, 0, none⟩) p5.length c5, .int .i64 s5, .int .i64 e5, .string n5], .slice (some ⟨gv, 0, none⟩) vs.length cv] x fun r w' => (∃ (M c : Nat), r = .returned (.slice (some ⟨M, 0, none⟩) (projB p5 vs).length c) ∧ Own x w' M (projB p5 vs)) ∧ Below x.heap.size x w') := fun x hx => specKey_any _ _ _ _ p5 s5 e5 n5 vs x (D5_z.out.reads.below hx) (VS_z.out.below hx) D5_z.out.mid (few3 NV.out)
  have N5 : Hid ((projB p5 vs).length ≤ maxLen) := len_max (Nat.le_trans (proj_len p5 vs) D5_z.out.mid)
  have S2 : Hid (∀ (x : World) (M c M' c' : Nat), Below z.heap.size z x → Reads x (some ⟨M, 0, none⟩) (projB p5 vs) → Reads x (some ⟨M', 0, none⟩) (projB p5 vs) → Calls Try.prog 19 #[.slice (some ⟨M, 0, none⟩) (projB p5 vs).length c, .slice (some ⟨M', 0, none⟩) (projB p5 vs).length c'] x fun r w' => r = .returned (.bool true) ∧ Below x.heap.size x w') := fun x M c M' c' hx hr hr' => (calls_drew (implSame_any _ _ _ _ (projB p5 vs) (projB p5 vs) x hr hr' N5.out N5.out)).mono fun r w' h => ⟨h.1.trans (retB (decide_eq_true rfl)), h.2⟩
  have E1 : Hid (∀ rs' : List Row, labs rs' = keysB P bs → rs'.length = rs.length) := fun rs' h => by rw [← labs_len, ← labs_len, h, HE.out]
  have Z1 : Hid (∀ (x : World), Below z.heap.size z x → Calls Try.prog 25 #[.slice (some ⟨gl, 0, none⟩) P.length cl, .slice (some ⟨gb, 0, none⟩) bs.length cb] x fun r w' => (∃ (M c : Nat), r = .returned (.slice (some ⟨M, 0, none⟩) rs.length c)) ∧ Below x.heap.size x w') := fun x hx => (specKeys_any _ _ _ _ P bs x (LA_z.out.below hx) (BY_z.out.below hx) (by have := NP.out.1; omega) (by have := NP.out.2; omega) (few3 NB.out)).mono fun r w' ⟨v, he, rs', hS, hE⟩ => ⟨(by obtain ⟨M, c, hv⟩ := hS.lies; exact ⟨M, c, by rw [he, hv, E1.out rs' hE]⟩), hS.low⟩
  have tq : ((togB p3 p4 ns) != (togB p3 p4 ns)) = false := by simp
  have bq : (byB os != byB os) = false := by simp
  go_region_held3 (fun w' => Below z.heap.size z w' ∧ w'.cell? ⟨w3.heap.size, 0, none⟩ = some (.slice (some ⟨g3, 0, none⟩) p3.length c3) ∧ w'.cell? ⟨w3.heap.size, 1, none⟩ = some (.int .i64 s3) ∧ w'.cell? ⟨w3.heap.size, 2, none⟩ = some (.int .i64 e3) ∧ w'.cell? ⟨w3.heap.size, 3, none⟩ = some (.string n3) ∧ w'.cell? ⟨(w3.heap.size + 1), 0, none⟩ = some (.slice (some ⟨g4, 0, none⟩) p4.length c4) ∧ w'.cell? ⟨(w3.heap.size + 1), 1, none⟩ = some (.int .i64 s4) ∧ w'.cell? ⟨(w3.heap.size + 1), 2, none⟩ = some (.int .i64 e4) ∧ w'.cell? ⟨(w3.heap.size + 1), 3, none⟩ = some (.string n4) ∧ w'.cell? ⟨w7.heap.size, 0, none⟩ = some (.slice (some ⟨g5, 0, none⟩) p5.length c5) ∧ w'.cell? ⟨w7.heap.size, 1, none⟩ = some (.int .i64 s5) ∧ w'.cell? ⟨w7.heap.size, 2, none⟩ = some (.int .i64 e5) ∧ w'.cell? ⟨w7.heap.size, 3, none⟩ = some (.string n5)) (first | with_reducible exact HS.out _ kz | with_reducible exact HS.out _ hz | (go_keep; done)) (first | (go_at_call 17; go_split_ands; (with_reducible refine (T1.out _ (by assumption)).mono ?_); rintro r wy ⟨rfl, hy⟩; (have hz : Below z.heap.size z wy := grow_on (by assumption) hy)) | (go_at_call 18; go_split_ands; (with_reducible refine (T2.out _ (by assumption)).mono ?_); rintro r wy ⟨rfl, hy⟩; (have hz : Below z.heap.size z wy := grow_on (by assumption) hy)) | (go_at_call 20; go_split_ands; (with_reducible refine (P1.out _ (by assumption)).mono ?_); rintro r wy ⟨⟨gP, cP, rfl, ho⟩, hy⟩; (have HP1 := own_reads ho); (have hz : Below z.heap.size z wy := grow_on (by assumption) hy)) | (go_at_call 19; go_split_ands; (with_reducible refine (S1.out _ _ _ (by assumption) HP1).mono ?_); rintro r wy ⟨rfl, hy⟩; (have hz : Below z.heap.size z wy := grow_on (by assumption) hy)) | (go_at_call 21; go_split_ands; (with_reducible refine (Y1.out _ (by assumption)).mono ?_); rintro r wy ⟨rfl, hy⟩; (have hz : Below z.heap.size z wy := grow_on (by assumption) hy)) | (go_at_call 22; go_split_ands; (with_reducible refine (Y2.out _ (by assumption)).mono ?_); rintro r wy ⟨rfl, hy⟩; (have hz : Below z.heap.size z wy := grow_on (by assumption) hy)) | (go_at_call 23; go_split_ands; (with_reducible refine (K1.out _ (by assumption)).mono ?_); rintro r wy ⟨⟨gK, cK, rfl, ho⟩, hy⟩; (have HK1 := own_reads ho); (have hz : Below z.heap.size z wy := grow_on (by assumption) hy)) | (go_at_call 24; go_split_ands; (with_reducible refine (K2.out _ (by assumption)).mono ?_); rintro r wy ⟨⟨gL, cL, rfl, ho⟩, hy⟩; (have HK2 := own_reads ho); (have HK3 := HK1.below hy); (have hz : Below z.heap.size z wy := grow_on (by assumption) hy)) | (go_at_call 19; go_split_ands; (with_reducible refine (S2.out _ _ _ _ _ (by assumption) HK3 HK2).mono ?_); rintro r wy ⟨rfl, hy⟩; (have hz : Below z.heap.size z wy := grow_on (by assumption) hy)) | (go_at_call 17; go_split_ands; (with_reducible refine (T3.out _ (by assumption)).mono ?_); rintro r wy ⟨rfl, hy⟩; (have hz : Below z.heap.size z wy := grow_on (by assumption) hy)) | (go_at_call 25; go_split_ands; (with_reducible refine (Z1.out _ (by assumption)).mono ?_); rintro r wy ⟨⟨gZ, cZ, rfl⟩, hy⟩; (have hz : Below z.heap.size z wy := grow_on (by assumption) hy)))
  have LA_y : Hid (RdA wy (some ⟨gl, 0, none⟩) P) := LA_z.out.below hz
  have BY_y : Hid (RdS wy (some ⟨gb, 0, none⟩) bs) := BY_z.out.below hz
  have Q_y : Hid (RdK wy gk rs) := Q_z.out.below hz
  have D3_y : Hid (Drawn wy g3 p3 s3 e3 n3) := D3_z.out.below hz
  have D4_y : Hid (Drawn wy g4 p4 s4 e4 n4) := D4_z.out.below hz
  have NM_y : Hid (RdS wy (some ⟨gn, 0, none⟩) ns) := NM_z.out.below hz
  have SL_y : Hid (Reads wy (some ⟨gs, 0, none⟩) sl) := SL_z.out.below hz
  have PS_y : Hid (RdS wy (some ⟨gp, 0, none⟩) ps) := PS_z.out.below hz
  have J_y : Hid (Reads wy (some ⟨gj, 0, none⟩) (projB sl ps)) := J_z.out.below hz
  have A3_y : Hid (Blk wy w3.heap.size #[.slice (some ⟨g3, 0, none⟩) p3.length c3, .int .i64 s3, .int .i64 e3, .string n3] 32) := A3_z.out.grow hz
  have A4_y : Hid (Blk wy (w3.heap.size + 1) #[.slice (some ⟨g4, 0, none⟩) p4.length c4, .int .i64 s4, .int .i64 e4, .string n4] 32) := A4_z.out.grow hz
  have BY0 : Hid (Below w.heap.size w wy) := grow_on BZ.out hz
  clear kA3 cA30 cA31 cA32 cA33 kA4 cA40 cA41 cA42 cA43 kA5 cA50 cA51 cA52 cA53 HS kz T1 T2 T3 P1 S1 Y1 Y2 K1 K2 S2 E1 Z1 tq bq N5
  clear hz hy HP1 HK1 HK2 HK3
  clear LA_z BY_z Q_z D3_z D4_z NM_z A3_z A4_z SL_z PS_z J_z O_z D5_z VS_z A5_z
  obtain ⟨y, hyy⟩ : ∃ y, y = wy := ⟨_, rfl⟩
  subst hyy
  have hrl : rs.length ≤ 5 := NR.out
  have hpl : P.length ≤ 5 := NP.out.1
  go_wp2
  go_loopw [15] (fun i w' => ∃ n : Nat, i = .int .i64 n ∧ n ≤ rs.length ∧ Below y.heap.size y w') (fun i _ => rs.length - (intOf i).toNat)
  case atStart => exact ⟨0, rfl, Nat.zero_le _, Below.refl _ _⟩
  case round =>
    obtain ⟨n, rfl, hn, hw0⟩ := hrel
    have HW : Hid (Below y.heap.size y wr) := hw0
    clear hw0
    by_cases hlt : n < rs.length
    · have hlt' : (n : Int) < (rs.length : Int) := by omega
      obtain ⟨wq, hwq⟩ : ∃ x, x = wr := ⟨_, rfl⟩
      subst hwq
      go_wp2
      go_loopw [16] (fun m w' => ∃ u : Nat, m = .int .i64 u ∧ u ≤ n ∧ Below y.heap.size y w') (fun m _ => n - (intOf m).toNat)
      case atStart => exact ⟨0, rfl, Nat.zero_le _, HW.out⟩
      case round =>
        obtain ⟨u, rfl, hu, hw0⟩ := hrel
        have HV : Hid (Below y.heap.size y wr) := hw0
        clear hw0
        by_cases hum : u < n
        · have hum' : (u : Int) < (n : Int) := by omega
          have hum2 : (u : Int) < (rs.length : Int) := by omega
          have h1 := Q_y.out.below HV.out
          have hne := Grown.some wr
          have x0 : ∀ x : Grown wr, x.out.cell? ⟨gk, u, none⟩ = some (.slice (some ⟨(nthR rs u).1, 0, none⟩) (nthR rs u).2.2.length (nthR rs u).2.1) := fun x => x.cell h1.lt (h1.cell u (by omega))
          have x1 : ∀ x : Grown wr, x.out.cell? ⟨gk, n, none⟩ = some (.slice (some ⟨(nthR rs n).1, 0, none⟩) (nthR rs n).2.2.length (nthR rs n).2.1) := fun x => x.cell h1.lt (h1.cell n hlt)
          have HC : ∀ x : Grown wr, Hid (Calls Try.prog 19 #[.slice (some ⟨(nthR rs u).1, 0, none⟩) (nthR rs u).2.2.length (nthR rs u).2.1, .slice (some ⟨(nthR rs n).1, 0, none⟩) (nthR rs n).2.2.length (nthR rs n).2.1] x.out fun e w' => e = .returned (.bool false) ∧ Below x.out.heap.size x.out w') := fun x => (calls_drew (implSame_any _ _ _ _ _ _ x.out ((h1.key u (by omega)).below x.bel) ((h1.key n hlt).below x.bel) (h1.len u (by omega)) (h1.len n hlt))).mono fun e w' h => ⟨h.1.trans (retB (decide_eq_false (rows_ne HE.out (by omega) hlt (by omega)))), h.2⟩
          clear h1
          go_wp2
          refine wp_over (z := wr) (by kernel_rfl) (by kernel_rfl) (Below.refl _ _) ?_
          repeat (go_big_quiet_step (first | (go_at_call 19; exact call_over (HC _).out)))
          refine wpQuiet_nil ?_
          intro w2 hw2
          have hb2 := over_bel hw2
          have HV2 : Hid (Below y.heap.size y w2) := grow_on HV.out hb2
          clear hw2 hne hb2 x0 x1 HC
          go_wp2
          go_roundw
          case rel => exact ⟨u + 1, by go_num, by omega, HV2.out⟩
          case measure => simp [intOf]; omega
        · have hge : ¬ (u : Int) < (n : Int) := by omega
          go_wp2
          go_roundw
          case rel => exact ⟨n + 1, by go_num, by omega, HV.out⟩
          case measure => simp [intOf]; omega
    · have hge : ¬ (n : Int) < (rs.length : Int) := by omega
      obtain ⟨wq, hwq⟩ : ∃ x, x = wr := ⟨_, rfl⟩
      subst hwq
      go_wp2
      go_loopw [17] (fun i w' => ∃ n : Nat, i = .int .i64 n ∧ n ≤ P.length ∧ Below y.heap.size y w') (fun i _ => P.length - (intOf i).toNat)
      case atStart => exact ⟨0, rfl, Nat.zero_le _, HW.out⟩
      case round =>
        clear hge HW hlt hn
        obtain ⟨n, rfl, hn, hw0⟩ := hrel
        have HW : Hid (Below y.heap.size y wr) := hw0
        clear hw0
        by_cases hlt : n < P.length
        · have hlt' : (n : Int) < (P.length : Int) := by omega
          have HT : Hid (hasK (labs rs) (projB (nthP P n).l bs) = true) := rows_has HE.out hlt
          have HQ : Hid ((projB (nthP P n).l bs).length ≤ 1048576 ∧ (nthP P n).l.length ≤ 1048576) := by
            have h1 := sum_nth hlt; have h2 := NP.out.2; have h3 := proj_len (nthP P n).l bs
            exact ⟨by omega, by omega⟩
          obtain ⟨wq, hwq⟩ : ∃ x, x = wr := ⟨_, rfl⟩
          subst hwq
          go_wp2
          go_loopw [18, 19] (fun t m w' => ∃ u : Nat, m = .int .i64 u ∧ u ≤ rs.length ∧ t = .bool (hasTo rs (projB (nthP P n).l bs) u) ∧ Below y.heap.size y w') (fun _ m _ => rs.length - (intOf m).toNat)
          case atStart => exact ⟨0, rfl, Nat.zero_le _, rfl, HW.out⟩
          case round =>
            obtain ⟨u, rfl, hu, rfl, hw0⟩ := hrel
            have HV : Hid (Below y.heap.size y wr) := hw0
            clear hw0
            by_cases hum : u < rs.length
            · have hum' : (u : Int) < (rs.length : Int) := by omega
              have HU2 : Hid (hasTo rs (projB (nthP P n).l bs) (u + 1) = (hasTo rs (projB (nthP P n).l bs) u || decide ((nthR rs u).2.2 = projB (nthP P n).l bs))) := hasTo_up rs _ u
              cases hp : hasTo rs (projB (nthP P n).l bs) u with
              | true =>
                have HF : Hid (hasTo rs (projB (nthP P n).l bs) (u + 1) = true) := by show _ = _; rw [HU2.out, hp]; rfl
                clear hp
                have hne := Grown.some wr
                go_wp2
                refine wp_over (z := wr) (by kernel_rfl) (by kernel_rfl) (Below.refl _ _) ?_
                repeat (go_big_quiet_step (fail))
                refine wpQuiet_nil ?_
                intro w2 hw2
                have hb2 := over_bel hw2
                have HV2 : Hid (Below y.heap.size y w2) := grow_on HV.out hb2
                clear hw2 hne hb2
                go_wp2
                go_roundw
                case rel => exact ⟨u + 1, by go_num, by omega, by rw [HF.out], HV2.out⟩
                case measure => simp [intOf]; omega
              | false =>
                have HF : Hid (hasTo rs (projB (nthP P n).l bs) (u + 1) = decide ((nthR rs u).2.2 = projB (nthP P n).l bs)) := by show _ = _; rw [HU2.out, hp]; rfl
                clear hp
                obtain ⟨b0, off0, e0, hb0, ad0, cp0, hat⟩ := (LA_y.out.below HV.out).get hlt
                cases e0
                have h1 := Q_y.out.below HV.out
                have k0 := h1.lt
                have c0 : wr.cell? ⟨gk, u, none⟩ = some (.slice (some ⟨(nthR rs u).1, 0, none⟩) (nthR rs u).2.2.length (nthR rs u).2.1) := h1.cell u hum
                have c1 : wr.cell? ⟨gl, n * 4, none⟩ = some (.slice ad0 (nthP P n).l.length cp0) := by have := hat.c0; rwa [Nat.zero_add] at this
                have c2 : wr.cell? ⟨gl, n * 4 + 1, none⟩ = some (.int .i64 (nthP P n).s) := by have := hat.c1; rwa [Nat.zero_add] at this
                have c3 : wr.cell? ⟨gl, n * 4 + 2, none⟩ = some (.int .i64 (nthP P n).e) := by have := hat.c2; rwa [Nat.zero_add] at this
                have c4 : wr.cell? ⟨gl, n * 4 + 3, none⟩ = some (.string (nthP P n).n) := by have := hat.c3; rwa [Nat.zero_add] at this
                have KO : Hid (∀ (x : World), Below wr.heap.size wr x → Calls Try.prog 23 #[.agg #[.slice ad0 (nthP P n).l.length cp0, .int .i64 (nthP P n).s, .int .i64 (nthP P n).e, .string (nthP P n).n], .slice (some ⟨gb, 0, none⟩) bs.length cb] x fun r w' => (∃ (M c : Nat), r = .returned (.slice (some ⟨M, 0, none⟩) (projB (nthP P n).l bs).length c) ∧ Own x w' M (projB (nthP P n).l bs)) ∧ Below x.heap.size x w') := fun x hx => implKey_any _ _ _ _ (nthP P n).l _ _ _ bs x (hat.reads.below hx) (BY_y.out.below (grow_on HV.out hx)) HQ.out.2 (few3 NB.out)
                have SS : Hid (∀ (x : World) (M c : Nat), Below wr.heap.size wr x → Reads x (some ⟨M, 0, none⟩) (projB (nthP P n).l bs) → Calls Try.prog 19 #[.slice (some ⟨(nthR rs u).1, 0, none⟩) (nthR rs u).2.2.length (nthR rs u).2.1, .slice (some ⟨M, 0, none⟩) (projB (nthP P n).l bs).length c] x fun r w' => r = .returned (.bool (decide ((nthR rs u).2.2 = projB (nthP P n).l bs))) ∧ Below x.heap.size x w') := fun x M c hx hr => calls_drew (implSame_any _ _ _ _ (nthR rs u).2.2 _ x ((h1.key u hum).below hx) hr (h1.len u hum) (len_max HQ.out.1))
                have kz : Below wr.heap.size wr wr.drew := (Below.refl _ _).drew
                have HS : Hid (∀ w', Below wr.heap.size wr w' → Below wr.heap.size wr w' ∧ w'.cell? ⟨gk, u, none⟩ = some (.slice (some ⟨(nthR rs u).1, 0, none⟩) (nthR rs u).2.2.length (nthR rs u).2.1) ∧ w'.cell? ⟨gl, n * 4, none⟩ = some (.slice ad0 (nthP P n).l.length cp0) ∧ w'.cell? ⟨gl, n * 4 + 1, none⟩ = some (.int .i64 (nthP P n).s) ∧ w'.cell? ⟨gl, n * 4 + 2, none⟩ = some (.int .i64 (nthP P n).e) ∧ w'.cell? ⟨gl, n * 4 + 3, none⟩ = some (.string (nthP P n).n)) := fun w' h => ⟨h, (h.cell k0).trans c0, (h.cell hb0).trans c1, (h.cell hb0).trans c2, (h.cell hb0).trans c3, (h.cell hb0).trans c4⟩
                clear hat h1 HU2
                go_wp2
                go_region_held3 (fun w' => Below wr.heap.size wr w' ∧ w'.cell? ⟨gk, u, none⟩ = some (.slice (some ⟨(nthR rs u).1, 0, none⟩) (nthR rs u).2.2.length (nthR rs u).2.1) ∧ w'.cell? ⟨gl, n * 4, none⟩ = some (.slice ad0 (nthP P n).l.length cp0) ∧ w'.cell? ⟨gl, n * 4 + 1, none⟩ = some (.int .i64 (nthP P n).s) ∧ w'.cell? ⟨gl, n * 4 + 2, none⟩ = some (.int .i64 (nthP P n).e) ∧ w'.cell? ⟨gl, n * 4 + 3, none⟩ = some (.string (nthP P n).n)) (first | with_reducible exact HS.out _ kz | with_reducible exact HS.out _ hz | (go_keep; done)) (first | (go_at_call 23; go_split_ands; (with_reducible refine (KO.out _ (by assumption)).mono ?_); rintro r wy ⟨⟨gK, cK, rfl, ho⟩, hy⟩; (have HK1 := own_reads ho); (have hz : Below wr.heap.size wr wy := grow_on (by assumption) hy)) | (go_at_call 19; go_split_ands; (with_reducible refine (SS.out _ _ _ (by assumption) HK1).mono ?_); rintro r wy ⟨rfl, hy⟩; (have hz : Below wr.heap.size wr wy := grow_on (by assumption) hy)))
                have HV2 : Hid (Below y.heap.size y wy) := grow_on HV.out hz
                clear hz hy HK1 KO SS kz HS c0 c1 c2 c3 c4 k0 hb0
                go_wp2
                go_roundw
                case rel => exact ⟨u + 1, by go_num, by omega, by rw [HF.out], HV2.out⟩
                case measure => simp [intOf]; omega
            · have hge : ¬ (u : Int) < (rs.length : Int) := by omega
              have ht : hasTo rs (projB (nthP P n).l bs) u = true := by rw [hasTo_all (by omega)]; exact HT.out
              rw [ht]
              clear ht
              go_wp2
              go_roundw
              case rel => exact ⟨n + 1, by go_num, by omega, HV.out⟩
              case measure => simp [intOf]; omega
        · have hge : ¬ (n : Int) < (P.length : Int) := by omega
          have D3_wr : Hid (Drawn wr g3 p3 s3 e3 n3) := D3_y.out.below HW.out
          have D4_wr : Hid (Drawn wr g4 p4 s4 e4 n4) := D4_y.out.below HW.out
          have NM_wr : Hid (RdS wr (some ⟨gn, 0, none⟩) ns) := NM_y.out.below HW.out
          have PS_wr : Hid (RdS wr (some ⟨gp, 0, none⟩) ps) := PS_y.out.below HW.out
          have J_wr : Hid (Reads wr (some ⟨gj, 0, none⟩) (projB sl ps)) := J_y.out.below HW.out
          have A3_wr : Hid (Blk wr w3.heap.size #[.slice (some ⟨g3, 0, none⟩) p3.length c3, .int .i64 s3, .int .i64 e3, .string n3] 32) := A3_y.out.grow HW.out
          have A4_wr : Hid (Blk wr (w3.heap.size + 1) #[.slice (some ⟨g4, 0, none⟩) p4.length c4, .int .i64 s4, .int .i64 e4, .string n4] 32) := A4_y.out.grow HW.out
          have kA3 := A3_wr.out.lt
          have cA30 : wr.cell? ⟨w3.heap.size, 0, none⟩ = some (.slice (some ⟨g3, 0, none⟩) p3.length c3) := A3_wr.out.cell 0
          have cA31 : wr.cell? ⟨w3.heap.size, 1, none⟩ = some (.int .i64 s3) := A3_wr.out.cell 1
          have cA32 : wr.cell? ⟨w3.heap.size, 2, none⟩ = some (.int .i64 e3) := A3_wr.out.cell 2
          have cA33 : wr.cell? ⟨w3.heap.size, 3, none⟩ = some (.string n3) := A3_wr.out.cell 3
          have kA4 := A4_wr.out.lt
          have cA40 : wr.cell? ⟨(w3.heap.size + 1), 0, none⟩ = some (.slice (some ⟨g4, 0, none⟩) p4.length c4) := A4_wr.out.cell 0
          have cA41 : wr.cell? ⟨(w3.heap.size + 1), 1, none⟩ = some (.int .i64 s4) := A4_wr.out.cell 1
          have cA42 : wr.cell? ⟨(w3.heap.size + 1), 2, none⟩ = some (.int .i64 e4) := A4_wr.out.cell 2
          have cA43 : wr.cell? ⟨(w3.heap.size + 1), 3, none⟩ = some (.string n4) := A4_wr.out.cell 3
          have HS : Hid (∀ w', Below wr.heap.size wr w' → Below wr.heap.size wr w' ∧ w'.cell? ⟨w3.heap.size, 0, none⟩ = some (.slice (some ⟨g3, 0, none⟩) p3.length c3) ∧ w'.cell? ⟨w3.heap.size, 1, none⟩ = some (.int .i64 s3) ∧ w'.cell? ⟨w3.heap.size, 2, none⟩ = some (.int .i64 e3) ∧ w'.cell? ⟨w3.heap.size, 3, none⟩ = some (.string n3) ∧ w'.cell? ⟨(w3.heap.size + 1), 0, none⟩ = some (.slice (some ⟨g4, 0, none⟩) p4.length c4) ∧ w'.cell? ⟨(w3.heap.size + 1), 1, none⟩ = some (.int .i64 s4) ∧ w'.cell? ⟨(w3.heap.size + 1), 2, none⟩ = some (.int .i64 e4) ∧ w'.cell? ⟨(w3.heap.size + 1), 3, none⟩ = some (.string n4)) := fun w' h => ⟨h, (h.cell kA3).trans cA30, (h.cell kA3).trans cA31, (h.cell kA3).trans cA32, (h.cell kA3).trans cA33, (h.cell kA4).trans cA40, (h.cell kA4).trans cA41, (h.cell kA4).trans cA42, (h.cell kA4).trans cA43⟩
          have kz : Below wr.heap.size wr wr.drew := (Below.refl _ _).drew
          have T1 : Hid (∀ (x : World), Below wr.heap.size wr x → Calls Try.prog 17 #[.agg #[.slice (some ⟨g3, 0, none⟩) p3.length c3, .int .i64 s3, .int .i64 e3, .string n3], .agg #[.slice (some ⟨g4, 0, none⟩) p4.length c4, .int .i64 s4, .int .i64 e4, .string n4], .slice (some ⟨gn, 0, none⟩) ns.length cn] x fun r w' => r = .returned (.bool (togB p3 p4 ns)) ∧ Below x.heap.size x w') := fun x hx => implTog_any _ _ _ _ _ _ p3 p4 s3 e3 s4 e4 n3 n4 ns _ (D3_wr.out.reads.below hx) (D4_wr.out.reads.below hx) (NM_wr.out.below hx) D3_wr.out.mid D4_wr.out.mid (few3 NN.out)
          have T2 : Hid (∀ (x : World), Below wr.heap.size wr x → Calls Try.prog 17 #[.agg #[.slice (some ⟨g4, 0, none⟩) p4.length c4, .int .i64 s4, .int .i64 e4, .string n4], .agg #[.slice (some ⟨g3, 0, none⟩) p3.length c3, .int .i64 s3, .int .i64 e3, .string n3], .slice (some ⟨gn, 0, none⟩) ns.length cn] x fun r w' => r = .returned (.bool (togB p3 p4 ns)) ∧ Below x.heap.size x w') := fun x hx => (implTog_any _ _ _ _ _ _ p4 p3 s4 e4 s3 e3 n4 n3 ns _ (D4_wr.out.reads.below hx) (D3_wr.out.reads.below hx) (NM_wr.out.below hx) D4_wr.out.mid D3_wr.out.mid (few3 NN.out)).mono fun r w' h => ⟨h.1.trans (retB (tog_comm p3 p4 ns)), h.2⟩
          have P1 : Hid (∀ (x : World), Below wr.heap.size wr x → Calls Try.prog 14 #[.slice (some ⟨gj, 0, none⟩) (projB sl ps).length cj, .slice (some ⟨gp, 0, none⟩) ps.length cp] x fun r w' => (∃ (M c : Nat), r = .returned (.slice (some ⟨M, 0, none⟩) (projB sl ps).length c) ∧ Own x w' M (projB sl ps)) ∧ Below x.heap.size x w') := fun x hx => by have h := implPro_any _ _ cj cp (projB sl ps) ps x (J_wr.out.below hx) (PS_wr.out.below hx) (few8 NJ.out) (few3 NS.out.2); rw [proj_again] at h; exact h
          have S1 : Hid (∀ (x : World) (M c : Nat), Below wr.heap.size wr x → Reads x (some ⟨M, 0, none⟩) (projB sl ps) → Calls Try.prog 19 #[.slice (some ⟨M, 0, none⟩) (projB sl ps).length c, .slice (some ⟨gj, 0, none⟩) (projB sl ps).length cj] x fun r w' => r = .returned (.bool true) ∧ Below x.heap.size x w') := fun x M c hx hr => (calls_drew (implSame_any _ _ _ _ (projB sl ps) (projB sl ps) x hr (J_wr.out.below hx) (len_max (few8 NJ.out)) (len_max (few8 NJ.out)))).mono fun r w' h => ⟨h.1.trans (retB (decide_eq_true rfl)), h.2⟩
          have hle : ((projB sl ps).length : Int) ≤ (sl.length : Int) := by have := proj_len sl ps; omega
          have tq : ((togB p3 p4 ns) == (togB p3 p4 ns)) = true := beq_self_eq_true _
          go_wp2
          go_region_held3 (fun w' => Below wr.heap.size wr w' ∧ w'.cell? ⟨w3.heap.size, 0, none⟩ = some (.slice (some ⟨g3, 0, none⟩) p3.length c3) ∧ w'.cell? ⟨w3.heap.size, 1, none⟩ = some (.int .i64 s3) ∧ w'.cell? ⟨w3.heap.size, 2, none⟩ = some (.int .i64 e3) ∧ w'.cell? ⟨w3.heap.size, 3, none⟩ = some (.string n3) ∧ w'.cell? ⟨(w3.heap.size + 1), 0, none⟩ = some (.slice (some ⟨g4, 0, none⟩) p4.length c4) ∧ w'.cell? ⟨(w3.heap.size + 1), 1, none⟩ = some (.int .i64 s4) ∧ w'.cell? ⟨(w3.heap.size + 1), 2, none⟩ = some (.int .i64 e4) ∧ w'.cell? ⟨(w3.heap.size + 1), 3, none⟩ = some (.string n4)) (first | with_reducible exact HS.out _ kz | with_reducible exact HS.out _ hz | (go_keep; done)) (first | (go_at_call 17; go_split_ands; (with_reducible refine (T1.out _ (by assumption)).mono ?_); rintro r wy ⟨rfl, hy⟩; (have hz : Below wr.heap.size wr wy := grow_on (by assumption) hy)) | (go_at_call 17; go_split_ands; (with_reducible refine (T2.out _ (by assumption)).mono ?_); rintro r wy ⟨rfl, hy⟩; (have hz : Below wr.heap.size wr wy := grow_on (by assumption) hy)) | (go_at_call 14; go_split_ands; (with_reducible refine (P1.out _ (by assumption)).mono ?_); rintro r wy ⟨⟨gP, cP, rfl, ho⟩, hy⟩; (have HP1 := own_reads ho); (have hz : Below wr.heap.size wr wy := grow_on (by assumption) hy)) | (go_at_call 19; go_split_ands; (with_reducible refine (S1.out _ _ _ (by assumption) HP1).mono ?_); rintro r wy ⟨rfl, hy⟩; (have hz : Below wr.heap.size wr wy := grow_on (by assumption) hy)))
          have HF : Hid (Below w.heap.size w wy) := grow_on BY0.out (grow_on HW.out hz)
          clear hz hy HP1 HS kz T1 T2 P1 S1 kA3 cA30 cA31 cA32 cA33 kA4 cA40 cA41 cA42 cA43
          go_wp2
          go_ret
          exact ⟨rfl, HF.out⟩

theorem walk (a : Option Addr) (len cap : Nat) (zs : List Int) (w : World) (h : IsRow .u8 w a len cap zs) :
    Calls Try.prog 3 #[.slice a len cap] w fun e w' => e = .returned (.bool true) ∧ Below w.heap.size w w' := by
  obtain ⟨hl, hb⟩ := bytes_of h
  exact core a len cap w hl hb
theorem own : ownKnob Try.prog.godebug = none := by kernel_rfl
theorem laidOut : laidOutB Try.prog = true := by kernel_rfl
set_option maxRecDepth 100000 in
theorem lifted (os : Os) (started : os.Started) (H : Type) (enc : TypeId × Value → H) :
    ReturnsInHanded {} Try.checked os 3 .any (Rows.fnKeysSpec.pre6 enc Try.prog Try.f3 Rows.fnKeysRow.domain false) (Rows.fnKeysSpec.post enc Try.prog Try.f3 false true false false) := by
  refine returnsInHanded_of_change (C := Try.checked) own started (by kernel_rfl) Try.func3
    (ChangeSpec.witness6 (enc := enc) (C := Try.checked) false ⟨#[], #[.slice none 0 0], []⟩ 8 (by kernel_rfl) (by kernel_rfl) (by kernel_rfl) (by kernel_rfl)) ?_
  intro W base args ds gs before hval0 hW hcnd _
  have hval : ∀ (j : Nat) t v, Try.f3.params[j]? = some t → args[j]? = some v → Value.okWide Try.prog W .any base t v := hval0
  have hW' := hW
  obtain ⟨p, q, hA0, hV, rfl, hfz, hnd⟩ := hW
  have hA : DataW.TrodAll enc Try.prog W 0 (fun _ => true) true Try.f3.params.toList args.toList ds p := hA0
  rw [Try.params3] at hA hval
  obtain ⟨v0, vs0, d0, ds0, p0, q0, hargs, rfl, rfl, h0, r0⟩ := trodAll_cons hA
  obtain ⟨rfl, rfl, rfl⟩ := trodAll_nil r0
  obtain rfl : args = #[v0] := by cases args; simp_all
  obtain ⟨rfl, rfl⟩ := trodVars_none hV
  obtain ⟨a0, len0, cap0, rfl⟩ := okWide_slice Try.underlying22 (hval 0 22 v0 rfl rfl)
  have k0 := h0
  have lt0 : ∀ x ∈ p0, x.block < W.heap.size := by obtain ⟨m, hm⟩ := k0; exact DataW.trod_lt m _ _ _ hm
  obtain ⟨z0, w0⟩ : ∃ zs, IsRow .u8 W a0 len0 cap0 zs := by
    obtain ⟨fuel, hf⟩ := h0
    rcases open_ints Try.underlying22 Try.underlying5 (by kernel_rfl) hf with ⟨hcs, _⟩ | ⟨x, l, c, zs, hcs, _, hl, hm, hz, _, hcell, hwz⟩
    · simp [Value.cells] at hcs
      obtain ⟨rfl, rfl, rfl⟩ := hcs
      exact ⟨[], .inl ⟨rfl, rfl, rfl, rfl⟩⟩
    · simp [Value.cells] at hcs
      obtain ⟨rfl, rfl, rfl⟩ := hcs
      exact ⟨zs, .inr ⟨_, rfl, hl, hm, by simpa using hz, hcell, hwz⟩⟩
  clear hA0 hval0
  refine (walk a0 len0 cap0 z0 W w0).mono fun e W' ⟨he, bel⟩ => ?_
  subst he
  exact ⟨_, rfl, _, _, _, [], _, [], hW', trodAll_mk1 (shut_bool Try.underlying4 _), (trodAll_cons_mk (Below.trod laidOut (by kernel_rfl) (of_decide_eq_true (by kernel_rfl)) k0 bel lt0) trodAll_mk0), rfl, bel.frame _, fun h => by cases h⟩

theorem over : Rows.fnKeysRow.holds Try.pinned (OpenSpec.ofChange Rows.fnKeysSpec) :=
  OpenClaim.holds_of_wide 3 Try.f3 rfl rfl rfl rfl rfl rfl rfl ⟨rfl, rfl, rfl, rfl, rfl⟩ rfl rfl rfl rfl rfl (by kernel_rfl) Try.func3 (by kernel_rfl)
    (of_decide_eq_true (by kernel_rfl)) (by unfold Func.isWrapper; first | (rw [if_pos (by decide +kernel)]; kernel_rfl) | (rw [if_neg (by decide +kernel)]; exact ⟨rfl, rfl⟩))
    (fun os started H enc _ => lifted os started H enc)

end Go.Proofs.Ytmachabgnbpeaaa.FnKeys
namespace Go.Proofs.Ytmachabgnbpeaaa
theorem fnKeys_holds : Rows.FnKeysSaid := FnKeys.over
#print axioms fnKeys_holds
end Go.Proofs.Ytmachabgnbpeaaa
