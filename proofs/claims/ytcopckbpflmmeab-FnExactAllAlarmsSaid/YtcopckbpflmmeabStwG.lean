/-
  PROVED: sortedBy gives a new row of the same alarms, sorted by their labels, those of the same labels in their order; nothing that was there is changed.
-/
import Derived.Test.YtcopckbpflmmeabStwF
import Derived.Test.YtcopckbpflmmeabSrtP
namespace Go.Proofs.Ytcopckbpflmmeab.StwG
open Go.RowKit
open Go.Proofs.Ytcopckbpflmmeab.Labs Go.Proofs.Ytcopckbpflmmeab.LabS Go.Proofs.Ytcopckbpflmmeab.Alms Go.Proofs.Ytcopckbpflmmeab.AlmS Go.Proofs.Ytcopckbpflmmeab.AlmM Go.Proofs.Ytcopckbpflmmeab.Over Go.Proofs.Ytcopckbpflmmeab.Blk Go.Proofs.Ytcopckbpflmmeab.App Go.Proofs.Ytcopckbpflmmeab.Rws Go.Proofs.Ytcopckbpflmmeab.ChnI Go.Proofs.Ytcopckbpflmmeab.ChnC Go.Proofs.Ytcopckbpflmmeab.Stb
open Go.Proofs.Ytcopckbpflmmeab.LabL (slB)
open Go.Proofs.Ytcopckbpflmmeab.Mark (Apart)
open Go.Proofs.Ytcopckbpflmmeab.StrB (retB)
set_option linter.unusedVariables false
open Go.Proofs.Ytcopckbpflmmeab.StwA
open Go.Proofs.Ytcopckbpflmmeab.StwF
open Go.Proofs.Ytcopckbpflmmeab.SrtP (IsSort)
theorem stableFunc_any (M b0 cap lo n : Nat) (f : Nat → ARow) (w : World) (hS : SR lo w M n f) (hn : n ≤ 2097152) (hc : w.cell? ⟨b0, 0, none⟩ = some (.func (.func 47) #[] #[])) (hb0 : b0 < w.heap.size) (hM : b0 ≠ M) :
    Calls Try.prog 61 #[.slice (some ⟨M, 0, none⟩) n cap, .func (.func 62) #[] #[.pointer (some ⟨b0, 0, none⟩)]] w fun e w' => e = .returned (.tuple #[]) ∧ Sx lo w M n f w' := by
  have H : Hid (Calls Try.prog 70 #[.slice (some ⟨M, 0, none⟩) n cap, .int .i64 n, .func (.func 62) #[] #[.pointer (some ⟨b0, 0, none⟩)]] w fun e w' => e = .returned (.tuple #[]) ∧ Sx lo w M n f w') := stable_any M b0 cap lo n f w hS hn hc hb0 hM
  clear hS hc
  go_enter Try.func61, Try.ntmps61
  go_wp2_with fail
  refine H.out.mono ?_
  rintro e w1 ⟨rfl, hE⟩
  have HE : Hid (Sx lo w M n f w1) := hE
  clear hE H
  go_wp2
  go_end0
  exact ⟨rfl, HE.out⟩
theorem infoK : (Try.prog.info? 68).map (·.size) = some 4 := by kernel_rfl
set_option maxHeartbeats 800000 in
theorem copied_any (M c lo : Nat) (rs : List ARow) (w : World) (N : Nat) (hN : N = w.heap.size) (h : AB lo w M c rs) (hl : rs.length ≤ 1048576) :
    Calls Try.prog 60 #[.slice (some ⟨M, 0, none⟩) rs.length c] w fun e w' => e = .returned (.slice (some ⟨N, 0, none⟩) rs.length rs.length) ∧ Below N w w' ∧ Blk w' N (PrtA.flatA rs).toArray 68 := by
  subst hN
  have HR : Hid (AB lo w M c rs) := h
  clear h
  have hmk := make_k (P := Try.prog) 29 68 (.agg #[.slice none 0 0, .int .i64 0, .int .i64 0, .string ByteArray.empty]) 4 56 Try.underlying29 infoA .i64 .i64 rs.length (by omega) (by omega)
  go_enter Try.func60, Try.ntmps60
  go_wp2_with (refine CopyK.wpList_copy_k (by rfl) _ _ 29 29 (by rfl) 68 4 Try.underlying29 infoK w.heap.size rs.length rs.length c (some ⟨M, 0, none⟩) (by rfl) (by rfl) (madeCells #[.slice none 0 0, .int .i64 0, .int .i64 0, .string ByteArray.empty] (rs.length * 4)) 68 ?c1 ?c2 (PrtA.flatA rs) (PrtA.flatA_len rs) ?c3 (PrtA.flatA_one rs) w.heap.size _ (Below.refl _ _) (Nat.le_refl _) ?_)
  case c1 => exact Blk.new_at rfl
  case c2 => simp [size_madeCells]
  case c3 => exact .inr ⟨⟨M, 0, none⟩, rfl, PrtA.flatA_news (HR.out.grow (Go.Joins.below_alloc1 w _))⟩
  intro w2 hB2 hb2
  have HB2 : Hid (Blk w2 w.heap.size (PrtA.flatA rs).toArray 68) := hB2
  have HW2 : Hid (Below w.heap.size w w2) := ((Below.refl _ _).alloc (Nat.le_refl _) _).trans hb2
  clear hB2 hb2 hmk
  go_wp2
  go_ret
  exact ⟨rfl, HW2.out, HB2.out⟩
theorem seg_nth (rs : List ARow) : seg (nthA rs) 0 rs.length = rs := by
  apply List.ext_getElem?
  intro i
  by_cases h : i < rs.length
  · rw [seg_get h, Nat.zero_add, nthA_eq h]; simp [h]
  · rw [List.getElem?_eq_none (by rw [seg_len]; omega), List.getElem?_eq_none (by omega)]
/-- a row that was sorted -/
theorem sr_ab {lo : Nat} {w : World} {M n : Nat} {g : Nat → ARow} (h : SR lo w M n g) (hlo : lo ≤ M) (hn : n ≤ maxLen) (hne : (seg g 0 n).Pairwise fun x y => x.1 ≠ y.1) : AB lo w M n (seg g 0 n) := by
  obtain ⟨cur, h1, h2, h3⟩ := h.outer
  have hnth : ∀ i, i < n → nthA (seg g 0 n) i = g i := fun i hi => by
    have := seg_get (f := g) (a := 0) hi
    rw [nthA_eq (by rw [seg_len]; exact hi)]
    rw [List.getElem?_eq_getElem (by rw [seg_len]; exact hi), Nat.zero_add] at this
    exact Option.some.inj this
  refine ⟨hlo, by rw [seg_len]; exact ⟨Nat.le_refl _, hn⟩, ⟨cur, h1, h2, fun i hi => ?_⟩, fun x hx => ?_, hne⟩
  · rw [seg_len] at hi
    rw [hnth i hi]; exact h3 i hi
  · obtain ⟨i, _, hi, rfl⟩ := seg_mem hx
    exact h.rows i (by omega)
theorem pw_perm {l m : List ARow} (h : l.Perm m) (hp : l.Pairwise fun x y => x.1 ≠ y.1) : m.Pairwise fun x y => x.1 ≠ y.1 := (List.Perm.pairwise_iff (fun {_ _} h => Ne.symm h) h).1 hp
theorem st_pals {rs rs' : List ARow} (h : St keyA rs rs') : St (fun x : PAl => x.l) (pals rs) (pals rs') := ⟨h.perm.map _, fun k => by
  unfold pals
  rw [List.filter_map, List.filter_map]
  exact congrArg _ (h.same k)⟩
theorem srt_pals {rs : List ARow} (h : SrtL slB keyA rs) : SrtL slB (fun x : PAl => x.l) (pals rs) := by
  unfold SrtL pals
  rw [List.pairwise_map]
  exact h
set_option maxHeartbeats 1600000 in
theorem sorted_any (M c lo : Nat) (rs : List ARow) (w : World) (h : AB lo w M c rs) (hl : rs.length ≤ 1048576) :
    Calls Try.prog 46 #[.slice (some ⟨M, 0, none⟩) rs.length c, .func (.func 47) #[] #[]] w fun e w' => (∃ N rs', e = .returned (.slice (some ⟨N, 0, none⟩) rs'.length rs'.length) ∧ AB lo w' N rs'.length rs' ∧ IsSort (pals rs) (pals rs') ∧ w.heap.size < N) ∧ Below w.heap.size w w' := by
  have HR : Hid (AB lo w M c rs) := h
  clear h
  go_enter Try.func46, Try.ntmps46
  go_wp2_with fail
  refine (copied_any M c lo rs _ (w.heap.size + 1) (by simp) (HR.out.grow (Go.Joins.below_alloc1 w _)) hl).mono ?_
  rintro e w2 ⟨rfl, hb2, hB2⟩
  have HW2 : Hid (Below w.heap.size w w2) := ((Below.refl _ _).alloc (Nat.le_refl _) _).trans (hb2.mono (by simp))
  have hc2 : w2.cell? ⟨w.heap.size, 0, none⟩ = some (.func (.func 47) #[] #[]) := by rw [hb2.cell (by simp)]; simp
  have hS2 : SR lo w2 (w.heap.size + 1) rs.length (nthA rs) := ⟨⟨_, hB2, by simp [PrtA.flatA_len], fun i hi => by have := PrtA.flatA_four rs i hi; simpa using this⟩, fun i hi => (HR.out.rows _ (nthA_mem hi)).grow HW2.out⟩
  have HS : Hid (Calls Try.prog 61 #[.slice (some ⟨w.heap.size + 1, 0, none⟩) rs.length rs.length, .func (.func 62) #[] #[.pointer (some ⟨w.heap.size, 0, none⟩)]] w2 fun e w' => e = .returned (.tuple #[]) ∧ Sx lo w2 (w.heap.size + 1) rs.length (nthA rs) w') := stableFunc_any (w.heap.size + 1) w.heap.size rs.length lo rs.length (nthA rs) w2 hS2 (by omega) hc2 (by have := hB2.lt; omega) (by omega)
  clear hS2 hc2 hB2 hb2
  go_wp2_with fail
  refine HS.out.mono ?_
  rintro e w3 ⟨rfl, hD⟩
  obtain ⟨⟨g, hS3, hT3, hP3⟩, hA3⟩ := hD
  rw [seg_nth] at hP3
  have HAB : Hid (AB lo w3 (w.heap.size + 1) rs.length (seg g 0 rs.length) ∧ IsSort (pals rs) (pals (seg g 0 rs.length))) := ⟨sr_ab hS3 (by have := HR.out.at'; have := HR.out.lt; omega) (by unfold maxLen; omega) (pw_perm hP3.perm HR.out.ne), st_pals hP3, srt_pals (srt_seg hT3)⟩
  have HL : Hid ((seg g 0 rs.length).length = rs.length) := seg_len _ _ _
  have HW3 : Hid (Below w.heap.size w w3) := HW2.out.trans (hA3.low (by omega) HW2.out.size)
  clear hS3 hT3 hP3 hA3 HS
  go_wp2
  go_ret
  exact ⟨⟨w.heap.size + 1, seg g 0 rs.length, by rw [HL.out]; rfl, by rw [HL.out]; exact HAB.out.1, HAB.out.2, by omega⟩, HW3.out⟩
end Go.Proofs.Ytcopckbpflmmeab.StwG
