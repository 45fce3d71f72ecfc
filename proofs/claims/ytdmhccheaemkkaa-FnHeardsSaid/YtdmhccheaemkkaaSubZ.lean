/-
  PROVED: the functions of chapter 9 over drawn listeners, as the drawn laws call them; laws.sameSubs finds alike what is alike; plain facts on what is heard.
-/
import Derived.Test.YtdmhccheaemkkaaDrawQ
import Derived.Test.YtdmhccheaemkkaaTelA
import Derived.Test.YtdmhccheaemkkaaHrd
import Derived.Test.YtdmhccheaemkkaaLsS
namespace Go.Proofs.Ytdmhccheaemkkaa.SubZ
open Go.RowKit
open Go.Proofs.Ytdmhccheaemkkaa.Labs Go.Proofs.Ytdmhccheaemkkaa.LabS Go.Proofs.Ytdmhccheaemkkaa.Alms Go.Proofs.Ytdmhccheaemkkaa.AlmM Go.Proofs.Ytdmhccheaemkkaa.AlmS Go.Proofs.Ytdmhccheaemkkaa.Over Go.Proofs.Ytdmhccheaemkkaa.Blk Go.Proofs.Ytdmhccheaemkkaa.Rws Go.Proofs.Ytdmhccheaemkkaa.ChnI Go.Proofs.Ytdmhccheaemkkaa.ChnC Go.Proofs.Ytdmhccheaemkkaa.ChnK Go.Proofs.Ytdmhccheaemkkaa.Chs Go.Proofs.Ytdmhccheaemkkaa.DrawC Go.Proofs.Ytdmhccheaemkkaa.Que Go.Proofs.Ytdmhccheaemkkaa.Tel Go.Proofs.Ytdmhccheaemkkaa.Her Go.Proofs.Ytdmhccheaemkkaa.Subs Go.Proofs.Ytdmhccheaemkkaa.TelA Go.Proofs.Ytdmhccheaemkkaa.Hrd Go.Proofs.Ytdmhccheaemkkaa.DrawQ
open Go.Proofs.Ytdmhccheaemkkaa.Sub (sameSB implSameS_any specSameS_any sameS_y subB implSubOk_any specSubOk_any)
open Go.Proofs.Ytdmhccheaemkkaa.StrB (retB)
set_option linter.unusedVariables false

theorem fine_max {x : PAl} (h : Fine x) : x.l.length ≤ maxLen := by have := h.2; unfold maxLen; omega
theorem finesP {P : List PAl} (h : Fines P) : LenP P := ChnP.len_m h.lens
theorem same_y {P : List PAl} {g : Bool} : sameSB P g P g = true := (sameS_y rfl).trans (same_refl P)
theorem retL {n n' c : Nat} {a : Option Addr} {g : Bool} (h : n = n') : Ending.returned (.agg #[.slice a n c, .bool g]) = .returned (.agg #[.slice a n' c, .bool g]) := by rw [h]
theorem retT {n n' c : Nat} {a : Option Addr} {v u : Value} {g : Bool} (h : n = n') : Ending.returned (.tuple #[.agg #[.slice a n c, .bool g], v, u]) = .returned (.tuple #[.agg #[.slice a n' c, .bool g], v, u]) := by rw [h]

theorem implTellZ {P : List PAl} {g : Bool} {x : PAl} {TL : List PAl} {TG : Bool} {a : Option Addr} {cap gx cx : Nat} {w : World} (hP : DQ w a cap P) (hx : DAl w gx x) (hT : tellB P g x = (TL, TG)) :
    Calls Try.prog 11 #[.agg #[.slice a P.length cap, .bool g], .agg #[.slice (some ⟨gx, 0, none⟩) x.l.length cx, .int .i64 x.s, .int .i64 x.e, .string x.n]] w fun e w' => (∃ M c, e = .returned (.agg #[.slice (some ⟨M, 0, none⟩) TL.length c, .bool TG]) ∧ RdN w' (some ⟨M, 0, none⟩) TL ∧ TL.length ≤ c) ∧ Below w.heap.size w w' := by
  have h := implTell_any a cap P g _ cx x w hP.1.rd hx.1 (by have := hP.2.2.1; omega) hP.2.1.lens (by have := hx.2.2; omega)
  rw [hT] at h
  dsimp only at h
  exact h.mono fun e w' ⟨⟨M, c, rs, he, hab, hp⟩, hb⟩ => ⟨⟨M, c, by rw [he]; exact retL (by rw [← hp, pals_len]), by rw [← hp]; exact hab.rd, by rw [← hp, pals_len]; exact hab.cap.1⟩, hb⟩
theorem specTellZ {P : List PAl} {g : Bool} {x : PAl} {TL : List PAl} {TG : Bool} {a : Option Addr} {cap gx cx : Nat} {w : World} (hP : DQ w a cap P) (hx : DAl w gx x) (hT : tellB P g x = (TL, TG)) :
    Calls Try.prog 19 #[.agg #[.slice a P.length cap, .bool g], .agg #[.slice (some ⟨gx, 0, none⟩) x.l.length cx, .int .i64 x.s, .int .i64 x.e, .string x.n]] w fun e w' => (∃ a' c, e = .returned (.agg #[.slice a' TL.length c, .bool TG]) ∧ RdN w' a' TL) ∧ Below w.heap.size w w' := by
  have h := specTell_any a cap P g gx 0 cx x w hP.1 hx.1 (by have := hP.2.2.1; omega) hP.2.1.lens (by have := hx.2.2; omega)
  rw [hT] at h
  dsimp only at h
  exact h.mono fun e w' ⟨⟨a', c, rs, he, hq, hp⟩, hb⟩ => ⟨⟨a', c, by rw [he]; exact retL (by rw [← hp, pals_len]), by rw [← hp]; exact hq.rd⟩, hb⟩
theorem implHearZ {P HP : List PAl} {g : Bool} {X : PAl} {n : Int} {a : Option Addr} {cap : Nat} {w : World} (hP : DQ w a cap P) (h1 : hearP P g = HP) (h2 : hearX P g = X) (h3 : hearN P g = n) :
    Calls Try.prog 13 #[.agg #[.slice a P.length cap, .bool g]] w fun e w' => (∃ a' c ax cx, e = .returned (.tuple #[.agg #[.slice a' HP.length c, .bool false], .agg #[.slice ax X.l.length cx, .int .i64 X.s, .int .i64 X.e, .string X.n], .int .i64 n]) ∧ RdN w' a' HP ∧ Reads w' ax X.l) ∧ Below w.heap.size w w' := by
  have h := implHear_any a cap P g w hP.1.rd (by have := hP.2.2.1; omega) hP.2.1.lens
  rw [h1, h2, h3] at h
  exact h.mono fun e w' ⟨⟨a', c, ax, cx, rs, he, hq, hp, hy, _⟩, hb⟩ => ⟨⟨a', c, ax, cx, by rw [he]; exact retT (by rw [← hp, pals_len]), by rw [← hp]; exact hq.rd, hy.rd⟩, hb⟩
theorem specHearZ {P HP : List PAl} {g : Bool} {X : PAl} {n : Int} {a : Option Addr} {cap : Nat} {w : World} (hP : DQ w a cap P) (h1 : hearP P g = HP) (h2 : hearX P g = X) (h3 : hearN P g = n) :
    Calls Try.prog 14 #[.agg #[.slice a P.length cap, .bool g]] w fun e w' => (∃ a' c ax cx, e = .returned (.tuple #[.agg #[.slice a' HP.length c, .bool false], .agg #[.slice ax X.l.length cx, .int .i64 X.s, .int .i64 X.e, .string X.n], .int .i64 n]) ∧ RdN w' a' HP ∧ Reads w' ax X.l) ∧ Below w.heap.size w w' := by
  have h := specHear_any a cap P g w hP.1 (by have := hP.2.2.1; omega) hP.2.1.lens hP.2.2.2
  rw [h1, h2, h3] at h
  exact h.mono fun e w' ⟨⟨a', c, ax, cx, rs, he, hq, hp, hy⟩, hb⟩ => ⟨⟨a', c, ax, cx, by rw [he]; exact retT (by rw [← hp, pals_len]), by rw [← hp]; exact hq.rd, hy.rd⟩, hb⟩
theorem hear_few {P HP : List PAl} {g : Bool} {X : PAl} (hf : Fines P) (h4 : P.length ≤ 4) (h1 : hearP P g = HP) (h2 : hearX P g = X) : Fines HP ∧ HP.length ≤ 4 ∧ X.l.length ≤ maxLen := by
  subst h1; subst h2
  refine ⟨fun x hx => ?_, ?_, ?_⟩
  · unfold hearP at hx
    split at hx
    · simp at hx
    · exact hf x (List.mem_of_mem_tail hx)
  · have := (hear_sum P g).1; omega
  · unfold hearX
    split
    · simp [zX]
    · cases P with
      | nil => simp [zX]
      | cons y P => exact fine_max (hf y (by simp))
/-- two of the same alarms are alike -/
theorem sameZ {P : List PAl} {g : Bool} {a a' : Option Addr} {c c' : Nat} {w : World} (h : RdN w a P) (h' : RdN w a' P) (hl : P.length ≤ 1048576) (hs : LenP P) :
    Calls Try.prog 18 #[.agg #[.slice a P.length c, .bool g], .agg #[.slice a' P.length c', .bool g]] w fun e w' => e = .returned (.bool true) ∧ Below w.heap.size w w' :=
  (implSameS_any g g a a' c c' P P w h.rd h'.rd hl hl hs hs).mono fun e w' h => ⟨h.1.trans (retB same_y), h.2⟩
theorem sameListZ {P : List PAl} {a a' : Option Addr} {c c' : Nat} {w : World} (h : RdA w a P) (h' : RdA w a' P) (hl : P.length ≤ 1048576) (hs : LenP P) :
    Calls Try.prog 27 #[.slice a P.length c, .slice a' P.length c'] w fun e w' => e = .returned (.bool true) ∧ Below w.heap.size w w' :=
  (ChnS.sameList_any a a' c c' P P w h h' hl hl hs hs).mono fun e w' h => ⟨h.1.trans (retB (same_refl P)), h.2⟩
theorem tell_few {P TL : List PAl} {g TG : Bool} {x : PAl} (hf : Fines P) (hx : Fine x) (h4 : P.length ≤ 4) (hT : tellB P g x = (TL, TG)) : Fines TL ∧ TL.length ≤ 5 := by
  have e1 : (tellB P g x).1 = TL := by rw [hT]
  refine ⟨by rw [← e1]; exact fines_tell hf hx, ?_⟩
  rw [← e1]
  unfold tellB
  split
  · show P.length ≤ 5; omega
  · split
    · show ([] : List PAl).length ≤ 5; simp
    · show (P ++ [x]).length ≤ 5; simp; omega
/-- a drawn list of those who listen, to be read -/
def FewU (U : List PSb) : Prop := U.length ≤ 3 ∧ ∀ u ∈ U, Fines u.P ∧ u.P.length ≤ 5
theorem few_at {U : List PSb} (h : FewU U) {i : Nat} (hi : i < U.length) : Fines (nthB U i).P ∧ (nthB U i).P.length ≤ 5 := h.2 _ (by rw [nthB_eq hi]; exact List.getElem_mem _)
theorem few_len {U : List PSb} (h : FewU U) : LenU U := fun i hi => ⟨(few_at h hi).1.lens, by have := (few_at h hi).2; omega⟩
theorem few_tell {U V : List PSb} {x : PAl} (h : U.length ≤ 3 ∧ ∀ u ∈ U, Fines u.P ∧ u.P.length ≤ 4) (hx : Fine x) (hV : tellS U x = V) : FewU V := by
  subst hV
  refine ⟨by rw [tellS_len]; exact h.1, fun u hu => ?_⟩
  obtain ⟨v, hv, rfl⟩ := List.mem_map.1 hu
  exact tell_few (h.2 v hv).1 hx (h.2 v hv).2 rfl
theorem implAllZ {U V : List PSb} {x : PAl} {M cap gx cx : Nat} {w : World} (hr : RdU RdN w (some ⟨M, 0, none⟩) U) (hx : DAl w gx x) (hU : FewU U) (hV : tellS U x = V) :
    Calls Try.prog 25 #[.slice (some ⟨M, 0, none⟩) U.length cap, .agg #[.slice (some ⟨gx, 0, none⟩) x.l.length cx, .int .i64 x.s, .int .i64 x.e, .string x.n]] w fun e w' => (∃ M c, e = .returned (.slice (some ⟨M, 0, none⟩) V.length c) ∧ RdU RdN w' (some ⟨M, 0, none⟩) V) ∧ Below w.heap.size w w' := by
  have h := implAll_any _ cap U _ cx x w hr.rd hx.1 (by have := hU.1; omega) (few_len hU) (by have := hx.2.2; omega)
  exact h.mono fun e w' ⟨⟨M, us, he, hu, hs⟩, hb⟩ => ⟨⟨M, us.length, by rw [he]; exact TelA.retS (by rw [← hV, ← hs, sbs_len]), by rw [← hV, ← hs]; exact hu.rn⟩, hb⟩
theorem specAllZ {U V : List PSb} {x : PAl} {M cap gx cx : Nat} {w : World} (hr : RdU RdN w (some ⟨M, 0, none⟩) U) (hx : DAl w gx x) (hU : FewU U) (hV : tellS U x = V) :
    Calls Try.prog 26 #[.slice (some ⟨M, 0, none⟩) U.length cap, .agg #[.slice (some ⟨gx, 0, none⟩) x.l.length cx, .int .i64 x.s, .int .i64 x.e, .string x.n]] w fun e w' => (∃ M c, e = .returned (.slice (some ⟨M, 0, none⟩) V.length c) ∧ RdU RdN w' (some ⟨M, 0, none⟩) V) ∧ Below w.heap.size w w' := by
  have h := specAll_any _ cap U gx 0 cx x w hr hx.1 (by have := hU.1; omega) (few_len hU) (by have := hx.2.2; omega)
  exact h.mono fun e w' ⟨⟨M, c, us, he, hu, hs⟩, hb⟩ => ⟨⟨M, c, by rw [he]; exact TelA.retS (by rw [← hV, ← hs, sbs_len]), by rw [← hV, ← hs]; exact hu.rn⟩, hb⟩

set_option maxHeartbeats 1600000 in
theorem sameSubsZ (a a' : Option Addr) (cap cap' : Nat) (U : List PSb) (w : World) (hr : RdU RdA w a U) (hr' : RdU RdA w a' U) (hU : FewU U) :
    Calls Try.prog 24 #[.slice a U.length cap, .slice a' U.length cap'] w fun e w' => e = .returned (.bool true) ∧ Below w.heap.size w w' := by
  have HR : Hid (RdU RdA w a U ∧ RdU RdA w a' U ∧ FewU U) := ⟨hr, hr', hU⟩
  have hl := hU.1
  clear hr hr' hU
  go_enter Try.func24, Try.ntmps24
  go_wp2
  go_loopw [5] (fun i w' => ∃ k : Nat, i = .int .i64 k ∧ k ≤ U.length ∧ Below w.heap.size w w') (fun i _ => U.length - (intOf i).toNat)
  case atStart => exact ⟨0, rfl, Nat.zero_le _, Below.refl _ _⟩
  case round =>
    obtain ⟨k, rfl, hk, hw0⟩ := hrel
    have HB : Hid (Below w.heap.size w wr) := hw0
    clear hw0
    by_cases hlt : k < U.length
    · have hlt' : (k : Int) < (U.length : Int) := by omega
      obtain ⟨b, off, rfl, hb, ad, cp, hat⟩ := (HR.out.1.below stays_rd HB.out).get hlt
      obtain ⟨b', off', rfl, hb', ad', cp', hat'⟩ := (HR.out.2.1.below stays_rd HB.out).get hlt
      have hne := Grown.some wr
      have x0 := fun x : Grown wr => x.cell hb hat.c0
      have x1 := fun x : Grown wr => x.cell hb hat.c1
      have y0 := fun x : Grown wr => x.cell hb' hat'.c0
      have y1 := fun x : Grown wr => x.cell hb' hat'.c1
      have HC : ∀ x : Grown wr, Hid (Calls Try.prog 18 #[.agg #[.slice ad (nthB U k).P.length cp, .bool (nthB U k).g], .agg #[.slice ad' (nthB U k).P.length cp', .bool (nthB U k).g]] x.out fun e w' => e = .returned (.bool true) ∧ Below x.out.heap.size x.out w') := fun x => (implSameS_any _ _ ad ad' cp cp' _ _ x.out (hat.reads.below x.bel) (hat'.reads.below x.bel) (by have := (few_at HR.out.2.2 hlt).2; omega) (by have := (few_at HR.out.2.2 hlt).2; omega) (finesP (few_at HR.out.2.2 hlt).1) (finesP (few_at HR.out.2.2 hlt).1)).mono fun e w' h => ⟨h.1.trans (retB same_y), h.2⟩
      clear hat hat'
      go_wp2
      refine wp_over (z := wr) (by kernel_rfl) (by kernel_rfl) (Below.refl _ _) ?_
      repeat (go_big_quiet_step (first | (go_at_call 18; exact call_over (HC _).out)))
      refine wpQuiet_nil ?_
      intro w2 hw2
      have HB2 : Hid (Below w.heap.size w w2) := grow_on HB.out (over_bel hw2)
      clear hw2 hne x0 x1 y0 y1 HC
      go_wp2
      go_roundw
      case rel => exact ⟨k + 1, by go_num, by omega, HB2.out⟩
      case measure => simp [intOf]; omega
    · have hge : ¬ (k : Int) < (U.length : Int) := by omega
      go_wp2
      go_ret
      exact ⟨rfl, HB.out⟩

theorem implHeardZ {l P H : List PAl} {g : Bool} {Ml cl : Nat} {a : Option Addr} {cap : Nat} {w : World} (hl : RdN w (some ⟨Ml, 0, none⟩) l) (hf : Fines l) (h5 : l.length ≤ 5) (hP : DQ w a cap P) (hH : heardB l P g = H) :
    Calls Try.prog 29 #[.slice (some ⟨Ml, 0, none⟩) l.length cl, .agg #[.slice a P.length cap, .bool g]] w fun e w' => (∃ M c, e = .returned (.slice (some ⟨M, 0, none⟩) H.length c) ∧ RdN w' (some ⟨M, 0, none⟩) H ∧ H.length ≤ c ∧ c ≤ maxLen) ∧ Below w.heap.size w w' := by
  have h := implHeard_any _ cl l a cap P g w hl.rd hP.1.rd (by omega) (by have := hP.2.2.1; omega) hf.lens hP.2.1.lens
  rw [hH] at h
  exact h.mono fun e w' ⟨⟨M, c, rs, he, hab, hp⟩, hb⟩ => ⟨⟨M, c, by rw [he]; exact TelA.retS (by rw [← hp, pals_len]), by rw [← hp]; exact hab.rd, by rw [← hp, pals_len]; exact hab.cap.1, hab.cap.2⟩, hb⟩
theorem specHeardZ {l P H : List PAl} {g : Bool} {Ml cl : Nat} {a : Option Addr} {cap : Nat} {w : World} (hl : RdN w (some ⟨Ml, 0, none⟩) l) (hf : Fines l) (h5 : l.length ≤ 5) (hP : DQ w a cap P) (hH : heardB l P g = H) :
    Calls Try.prog 30 #[.slice (some ⟨Ml, 0, none⟩) l.length cl, .agg #[.slice a P.length cap, .bool g]] w fun e w' => (∃ M c, e = .returned (.slice (some ⟨M, 0, none⟩) H.length c) ∧ RdN w' (some ⟨M, 0, none⟩) H) ∧ Below w.heap.size w w' := by
  have h := specHeard_any _ cl l a cap P g w hl hP.1 (by omega) (by have := hP.2.2.1; omega) hf.lens hP.2.1.lens
  rw [hH] at h
  exact h.mono fun e w' ⟨⟨M, c, rs, he, hab, hp⟩, hb⟩ => ⟨⟨M, c, by rw [he]; exact TelA.retS (by rw [← hp, pals_len]), by rw [← hp]; exact hab.rd⟩, hb⟩
theorem told_room : ∀ (l P : List PAl), P.length + l.length ≤ 3 → told P false l = (P ++ l, false)
  | [], P, _ => by simp [told]
  | x :: l, P, h => by
    have e : told P false (x :: l) = told (tellB P false x).1 (tellB P false x).2 l := rfl
    rw [e, tell_room x (by simp at h; omega), told_room l (P ++ [x]) (by simp at h ⊢; omega)]
    simp
theorem told_much : ∀ (l P : List PAl), l ≠ [] → 3 < P.length + l.length → (told P false l).2 = true
  | [], P, h, _ => absurd rfl h
  | x :: l, P, _, h => by
    have e : told P false (x :: l) = told (tellB P false x).1 (tellB P false x).2 l := rfl
    rw [e]
    by_cases h3 : 3 ≤ P.length
    · rw [tell_full x h3, told_lags]
    · rw [tell_room x h3]
      exact told_much l (P ++ [x]) (by intro e; subst e; simp at h; omega) (by simp at h ⊢; omega)
theorem heard_all {l P : List PAl} {g : Bool} (hg : g = false) (h : P.length + l.length ≤ 3) : heardB l P g = P ++ l := by subst hg; simp [heardB, told_room l P h]
theorem heard_none {l P : List PAl} {g : Bool} (h : ¬ (g = false ∧ P.length + l.length ≤ 3)) (hl : l ≠ []) : heardB l P g = [] := by
  unfold heardB
  cases g with
  | true => rw [told_lags]; simp
  | false => rw [told_much l P hl (by by_cases k : P.length + l.length ≤ 3; exact absurd ⟨rfl, k⟩ h; omega)]; simp
theorem heard_few {l P : List PAl} {g : Bool} (hP : Fines P) (hl : Fines l) (h4 : P.length ≤ 4) : Fines (heardB l P g) ∧ (heardB l P g).length ≤ 4 := by
  unfold heardB
  split
  · exact ⟨fines_nil, by simp⟩
  · have e := told_all (P := P) (g := g) (Nat.le_refl l.length)
    refine ⟨fun x hx => ?_, ?_⟩
    · rw [← e] at hx
      rcases told_mem P g l l.length x hx with h | h
      · exact hP x h
      · exact hl x h
    · rw [← e]
      rcases told_len P g l l.length with h | h <;> omega
/-- the part of a row that comes behind its first k -/
theorem rd_drop {w : World} {b off : Nat} {P Q : List PAl} (h : RdA w (some ⟨b, off, none⟩) (P ++ Q)) : RdA w (some ⟨b, off + P.length * 4, none⟩) Q := by
  rcases h with h | ⟨b', off', e, hb, h⟩
  · exact .inl (List.append_eq_nil_iff.1 h).2
  · cases e
    refine .inr ⟨b, off + P.length * 4, rfl, hb, fun i hi => ?_⟩
    obtain ⟨ad, c, h⟩ := h (P.length + i) (by simp; omega)
    have en : nthP (P ++ Q) (P.length + i) = nthP Q i := by unfold nthP; simp [List.getD, List.getElem?_append_right]
    have eo : ∀ j, off + P.length * 4 + i * 4 + j = off + (P.length + i) * 4 + j := fun j => by omega
    rw [en] at h
    exact ⟨ad, c, by have := h.c0; rwa [← Nat.add_zero (off + (P.length + i) * 4), ← eo 0] at this, by have := h.c1; rwa [← eo 1] at this, by have := h.c2; rwa [← eo 2] at this, by have := h.c3; rwa [← eo 3] at this, h.reads⟩
/-- .. and the first ones -/
theorem rd_take {w : World} {a : Option Addr} {P Q : List PAl} (h : RdA w a (P ++ Q)) : RdA w a P := by
  rcases h with h | ⟨b, off, e, hb, h⟩
  · exact .inl (List.append_eq_nil_iff.1 h).1
  · refine .inr ⟨b, off, e, hb, fun i hi => ?_⟩
    obtain ⟨ad, c, h⟩ := h i (by simp; omega)
    have en : nthP (P ++ Q) i = nthP P i := by unfold nthP; simp [List.getD, List.getElem?_append_left hi]
    rw [en] at h
    exact ⟨ad, c, h⟩
theorem nthP_app_eq (P : List PAl) (x : PAl) : nthP (P ++ [x]) P.length = x := by
  unfold nthP; simp [List.getD]
end Go.Proofs.Ytdmhccheaemkkaa.SubZ
