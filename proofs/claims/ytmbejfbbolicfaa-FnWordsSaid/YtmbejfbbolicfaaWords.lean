/-
  PROVED: whatever the code, the law laws.FnWords returns true and leaves the code as it was: of the drawn texts which are names and plain is as the specification has it, and of two unlike ones one is ahead of the other. No condition.
-/
import Derived.Test.YtmbejfbbolicfaaRows
import Derived.WalkKit
import Derived.ProofKit
import Derived.OpenShut
import Derived.ShutString
import Derived.ChangeOld
import Derived.Below
import Derived.WalkLawsBesides
import Derived.WalkSpells
import Derived.Test.YtmbejfbbolicfaaNames
import Derived.Test.YtmbejfbbolicfaaDrawO
namespace Go.Proofs.Ytmbejfbbolicfaa.FnWords
open Go.ChangeShapes Go.WideShapes Go.ChangeAt Go.RowKit
open Go.ChangeMaps (open_string shut_string)
set_option linter.unusedVariables false

open Go.Proofs.Ytmbejfbbolicfaa.Names Go.Proofs.Ytmbejfbbolicfaa.StrB Go.Proofs.Ytmbejfbbolicfaa.Draw

/-- what the walk is told of the slice of bytes that came in -/
def IsRow (k : IntKind) (w : World) (a : Option Addr) (len cap : Nat) (zs : List Int) : Prop :=
  (a = none ∧ len = 0 ∧ cap = 0 ∧ zs = []) ∨
  ∃ x, a = some x ∧ len ≤ cap ∧ cap ≤ maxLen ∧ zs.length = cap ∧ (∀ i, i < zs.length → w.cell? (x.add i) = some (.int k (zs.getD i 0))) ∧ ∀ n ∈ zs, (Lit.int k n).wf = true

theorem block_lt {w : World} {x : Addr} {v : Value} (h : w.cell? x = some v) : x.block < w.heap.size := by
  by_cases hb : x.block < w.heap.size
  · exact hb
  · have : w.heap[x.block]? = none := by simp; omega
    simp [World.cell?, this] at h

theorem bytes_of {w : World} {a : Option Addr} {len cap : Nat} {zs : List Int} (h : IsRow .u8 w a len cap zs) : len ≤ maxLen ∧ Bytes w a len w.heap.size := by
  rcases h with ⟨rfl, rfl, rfl, rfl⟩ | ⟨x, rfl, hl, hm, hz, hc, hs⟩
  · exact ⟨by simp, .inl rfl⟩
  · refine ⟨by omega, ?_⟩
    by_cases h0 : len = 0
    · exact .inl h0
    · obtain ⟨b, off, spot⟩ := x
      have h00 := hc 0 (by omega)
      have hspot : spot = none := by simpa [Addr.add] using World.cell?_spot h00
      subst hspot
      refine .inr ⟨b, off, rfl, block_lt (x := ⟨b, off, none⟩) (by simpa [Addr.add] using h00), fun i hi => ?_⟩
      have hii := hc i (by omega)
      have ea : (⟨b, off, none⟩ : Addr).add i = ⟨b, off + i, none⟩ := by by_cases h : i = 0 <;> simp [Addr.add, h]
      rw [ea] at hii
      have hi' : i < zs.length := by omega
      have hw := hs (zs.getD i 0) (by rw [List.getD_eq_getElem?_getD, List.getElem?_eq_getElem hi']; exact List.getElem_mem _)
      have hbd := bounds_u8 hw
      exact ⟨_, hii, hbd.1, hbd.2⟩

theorem bytes_up {w w' : World} {a : Option Addr} {len : Nat} (h : Bytes w a len w.heap.size) (hb : Below w.heap.size w w') : Bytes w' a len w'.heap.size := by
  rcases h with h | ⟨b, off, rfl, hlt, hz⟩
  · exact .inl h
  · exact .inr ⟨b, off, rfl, Nat.lt_of_lt_of_le hlt hb.size, fun j hj => by
      obtain ⟨z, h1, h2⟩ := hz j hj
      exact ⟨z, by rw [hb.cell (p := ⟨b, off + j, none⟩) hlt]; exact h1, h2⟩⟩

theorem less_irrefl : ∀ l : List UInt8, Op.bytesLess l l = false
  | [] => rfl
  | a :: l => by simp [Op.bytesLess, less_irrefl l]
theorem less_total : ∀ l m : List UInt8, l ≠ m → (Op.bytesLess l m != Op.bytesLess m l) = true
  | [], [], h => absurd rfl h
  | [], b :: m, _ => rfl
  | a :: l, [], _ => rfl
  | a :: l, b :: m, h => by
    simp only [Op.bytesLess]
    by_cases e : a = b
    · subst e
      have hlm : l ≠ m := fun e => h (by rw [e])
      have := less_total l m hlm
      simpa using this
    · have e1 : (a == b) = false := by simpa using e
      have e2 : (b == a) = false := by simpa using fun e' => e e'.symm
      rw [e1, e2]
      simp only [Bool.false_and, Bool.or_false]
      by_cases hl : a < b
      · have : ¬ b < a := fun h' => by
          rw [UInt8.lt_iff_toNat_lt] at h' hl; omega
        simp [hl, this]
      · have : b < a := by
          rw [UInt8.lt_iff_toNat_lt] at hl ⊢
          have hne : a.toNat ≠ b.toNat := fun h' => e (UInt8.toNat_inj.1 h')
          omega
        simp [hl, this]

def leastI (x y : Int) : Int := if y < x then y else x
def mostI (x y : Int) : Int := if x < y then y else x
theorem least_le_most (x y : Int) : leastI x y ≤ mostI x y := by unfold leastI mostI; split <;> split <;> omega
theorem retI {a b : Int} (h : a = b) : Ending.returned (.int .i64 a) = .returned (.int .i64 b) := by rw [h]

theorem implLeast_any (x y : Int) (w : World) : Calls Try.prog 17 #[.int .i64 x, .int .i64 y] w fun e w' => e = .returned (.int .i64 (leastI x y)) ∧ w' = w := by
  by_cases c : y < x
  · have HE : Hid (y = leastI x y) := by show y = leastI x y; unfold leastI; rw [if_pos c]
    go_enter Try.func17, Try.ntmps17
    go_wp2
    go_ret
    exact ⟨retI HE.out, rfl⟩
  · have HE : Hid (x = leastI x y) := by show x = leastI x y; unfold leastI; rw [if_neg c]
    go_enter Try.func17, Try.ntmps17
    go_wp2
    go_ret
    exact ⟨retI HE.out, rfl⟩
theorem specLeast_any (x y : Int) (w : World) : Calls Try.prog 18 #[.int .i64 x, .int .i64 y] w fun e w' => e = .returned (.int .i64 (leastI x y)) ∧ w' = w := by
  by_cases c : y < x
  · have HE : Hid (y = leastI x y) := by show y = leastI x y; unfold leastI; rw [if_pos c]
    go_enter Try.func18, Try.ntmps18
    go_wp2
    go_ret
    exact ⟨retI HE.out, rfl⟩
  · have HE : Hid (x = leastI x y) := by show x = leastI x y; unfold leastI; rw [if_neg c]
    go_enter Try.func18, Try.ntmps18
    go_wp2
    go_ret
    exact ⟨retI HE.out, rfl⟩
theorem implMost_any (x y : Int) (w : World) : Calls Try.prog 19 #[.int .i64 x, .int .i64 y] w fun e w' => e = .returned (.int .i64 (mostI x y)) ∧ w' = w := by
  by_cases c : x < y
  · have HE : Hid (y = mostI x y) := by show y = mostI x y; unfold mostI; rw [if_pos c]
    go_enter Try.func19, Try.ntmps19
    go_wp2
    go_ret
    exact ⟨retI HE.out, rfl⟩
  · have HE : Hid (x = mostI x y) := by show x = mostI x y; unfold mostI; rw [if_neg c]
    go_enter Try.func19, Try.ntmps19
    go_wp2
    go_ret
    exact ⟨retI HE.out, rfl⟩
theorem specMost_any (x y : Int) (w : World) : Calls Try.prog 20 #[.int .i64 x, .int .i64 y] w fun e w' => e = .returned (.int .i64 (mostI x y)) ∧ w' = w := by
  by_cases c : x < y
  · have HE : Hid (y = mostI x y) := by show y = mostI x y; unfold mostI; rw [if_pos c]
    go_enter Try.func20, Try.ntmps20
    go_wp2
    go_ret
    exact ⟨retI HE.out, rfl⟩
  · have HE : Hid (x = mostI x y) := by show x = mostI x y; unfold mostI; rw [if_neg c]
    go_enter Try.func20, Try.ntmps20
    go_wp2
    go_ret
    exact ⟨retI HE.out, rfl⟩
theorem big_any (a : Option Addr) (len cap : Nat) (w : World) (hl : len ≤ maxLen) :
    Calls Try.prog 4 #[.slice a len cap] w fun e w' => e = .returned (.bool (decide ((1048576 : Int) < (len : Int)))) ∧ w' = w := by
  unfold maxLen at hl
  by_cases c : (1048576 : Int) < (len : Int)
  all_goals
    go_enter Try.func4, Try.ntmps4
    go_wp2
    go_ret
    exact ⟨Names.retB (by simp; omega), rfl⟩

theorem plain_empty : plainB ⟨#[]⟩ = true := by decide

set_option maxHeartbeats 2000000 in
theorem core (a : Option Addr) (len cap : Nat) (w : World) (hl : len ≤ maxLen) (hb : Bytes w a len w.heap.size) :
    Calls Try.prog 3 #[.slice a len cap] w fun e w' => e = .returned (.bool true) ∧ Below w.heap.size w w' := by
  have HL : Hid (len ≤ maxLen) := hl
  have HB : Hid (Bytes w a len w.heap.size) := hb
  clear hl hb
  by_cases c : (1048576 : Int) < (len : Int)
  · go_enter Try.func3, Try.ntmps3
    go_wp2_with fail
    refine (big_any a len cap _ HL.out).mono ?_
    rintro e w' ⟨rfl, rfl⟩
    go_wp2
    go_ret
    exact ⟨rfl, Below.refl _ _⟩
  · go_enter Try.func3, Try.ntmps3
    go_wp2_with fail
    refine (big_any a len cap _ HL.out).mono ?_
    rintro e w' ⟨rfl, rfl⟩
    go_wp2_with fail
    refine (drawName_any a len cap _ HL.out HB.out).mono ?_
    rintro e w1 ⟨⟨u, rfl, hu⟩, hb1⟩
    have HU : Hid (u.size ≤ maxLen) := by show u.size ≤ maxLen; unfold maxLen; omega
    have H1 : Hid (Below w'.heap.size w' w1) := hb1
    have B1 : Hid (Bytes w1 a len w1.heap.size) := bytes_up HB.out hb1
    clear hb1 hu
    go_wp2_with fail
    refine (drawPlain_any a len cap _ HL.out B1.out).mono ?_
    rintro e w2 ⟨⟨v, rfl, hv⟩, hb2⟩
    have HV : Hid (v.size ≤ maxLen) := by show v.size ≤ maxLen; unfold maxLen; omega
    have H2 : Hid (Below w'.heap.size w' w2) := H1.out.trans (hb2.mono H1.out.size)
    have B2 : Hid (Bytes w2 a len w2.heap.size) := bytes_up B1.out hb2
    clear hb2 hv
    go_wp2_with fail
    refine (drawLess_any a len cap _ HL.out B2.out).mono ?_
    rintro e w3 ⟨⟨s, t, rfl⟩, hb3⟩
    have H3 : Hid (Below w'.heap.size w' w3) := H2.out.trans (hb3.mono H2.out.size)
    have B3 : Hid (Bytes w3 a len w3.heap.size) := bytes_up B2.out hb3
    clear hb3
    go_wp2_with fail
    refine (drawOrd_any a len cap _ HL.out B3.out).mono ?_
    rintro e w4 ⟨⟨d, cap', l, rfl, hl5, hr4⟩, hb4⟩
    have H4 : Hid (Below w'.heap.size w' w4) := H3.out.trans (hb4.mono H3.out.size)
    have B4 : Hid (Bytes w4 a len w4.heap.size) := bytes_up B3.out hb4
    have R4 : Hid (Reads w4 d l) := hr4
    have LL : Hid (l.length ≤ maxLen) := by show l.length ≤ maxLen; unfold maxLen; omega
    clear hb4 hr4
    go_wp2_with fail
    refine (drawLeast_any a len cap _ HL.out B4.out).mono ?_
    rintro e w5 ⟨⟨x, y, rfl⟩, hb5⟩
    have H5 : Hid (Below w'.heap.size w' w5) := H4.out.trans (hb5.mono H4.out.size)
    have B5 : Hid (Bytes w5 a len w5.heap.size) := bytes_up B4.out hb5
    have R5 : Hid (Reads w5 d l) := R4.out.below hb5
    clear hb5
    go_wp2_with fail
    refine (drawMost_any a len cap _ HL.out B5.out).mono ?_
    rintro e w6 ⟨⟨x', y', rfl⟩, hb6⟩
    have H6 : Hid (Below w'.heap.size w' w6) := H5.out.trans (hb6.mono H5.out.size)
    have R6 : Hid (Reads w6 d l) := R5.out.below hb6
    clear hb6
    go_wp2_with fail
    refine (implName_any u _ HU.out).mono ?_
    rintro e w7 ⟨rfl, hb7⟩
    have H7 : Hid (Below w'.heap.size w' w7) := H6.out.trans (hb7.mono H6.out.size)
    have R7 : Hid (Reads w7 d l) := R6.out.below hb7
    clear hb7
    go_wp2_with fail
    refine (specName_any u _ HU.out).mono ?_
    rintro e w7' ⟨rfl, rfl⟩
    go_wp2_with fail
    refine (implPlain_any v _ HV.out).mono ?_
    rintro e w8 ⟨rfl, hb8⟩
    have H8 : Hid (Below w'.heap.size w' w8) := H7.out.trans (hb8.mono H7.out.size)
    have R8 : Hid (Reads w8 d l) := R7.out.below hb8
    clear hb8
    go_wp2_with fail
    refine (specPlain_any v _ HV.out).mono ?_
    rintro e w8' ⟨rfl, rfl⟩
    go_wp2_with fail
    refine (implInOrder_any d cap' l _ R8.out LL.out).mono ?_
    rintro e w9 ⟨rfl, n9, rfl⟩
    go_wp2_with fail
    refine (specInOrder_any d cap' l _ (R8.out.drewN n9) LL.out).mono ?_
    rintro e w10 ⟨rfl, n10, rfl⟩
    go_wp2_with fail
    refine (implLeast_any x y _).mono ?_
    rintro e w11 ⟨rfl, rfl⟩
    go_wp2_with fail
    refine (specLeast_any x y _).mono ?_
    rintro e w11 ⟨rfl, rfl⟩
    go_wp2_with fail
    refine (implMost_any x' y' _).mono ?_
    rintro e w11 ⟨rfl, rfl⟩
    go_wp2_with fail
    refine (specMost_any x' y' _).mono ?_
    rintro e w11 ⟨rfl, rfl⟩
    go_wp2_with fail
    refine (StrB.implLess_any s t _).mono ?_
    rintro e w11 ⟨rfl, rfl⟩
    go_wp2_with fail
    refine (StrB.specLess_any s t _).mono ?_
    rintro e w11 ⟨rfl, rfl⟩
    have hirr : lessB s s = false := less_irrefl _
    have hle := least_le_most x y
    have hpe := plain_empty
    cases hst : (s.toList == t.toList) with
    | true =>
      go_wp2_with fail
      refine (StrB.implLess_any s s _).mono ?_
      rintro e w11 ⟨rfl, rfl⟩
      go_wp2_with fail
      refine (implLeast_any x y _).mono ?_
      rintro e w11 ⟨rfl, rfl⟩
      go_wp2_with fail
      refine (implMost_any x y _).mono ?_
      rintro e w11 ⟨rfl, rfl⟩
      go_wp2_with fail
      refine (implPlain_any ⟨#[]⟩ _ (by decide)).mono ?_
      rintro e w12 ⟨rfl, hb12⟩
      have H12 : Hid (Below w'.heap.size w' w12) := (below_drewN H8.out (n9 + n10)).trans (hb12.mono H8.out.size)
      clear hb12
      go_wp2
      go_ret
      exact ⟨rfl, H12.out⟩
    | false =>
      have htot : (lessB s t != lessB t s) = true := less_total _ _ (by simpa using hst)
      obtain ⟨p, q, hp, hq, hpq⟩ : ∃ p q : Bool, lessB s t = p ∧ lessB t s = q ∧ (p = true ∧ q = false ∨ p = false ∧ q = true) := by
        refine ⟨_, _, rfl, rfl, ?_⟩
        cases h1 : lessB s t <;> cases h2 : lessB t s <;> simp [h1, h2] at htot ⊢
      clear htot
      rcases hpq with ⟨rfl, rfl⟩ | ⟨rfl, rfl⟩
      all_goals
        go_wp2_with fail
        refine (StrB.implLess_any s t _).mono ?_
        rintro e w11 ⟨rfl, rfl⟩
        go_wp2_with fail
        refine (StrB.implLess_any t s _).mono ?_
        rintro e w11 ⟨rfl, rfl⟩
        go_wp2_with fail
        refine (StrB.implLess_any s s _).mono ?_
        rintro e w11 ⟨rfl, rfl⟩
        go_wp2_with fail
        refine (implLeast_any x y _).mono ?_
        rintro e w11 ⟨rfl, rfl⟩
        go_wp2_with fail
        refine (implMost_any x y _).mono ?_
        rintro e w11 ⟨rfl, rfl⟩
        go_wp2_with fail
        refine (implPlain_any ⟨#[]⟩ _ (by decide)).mono ?_
        rintro e w12 ⟨rfl, hb12⟩
        have H12 : Hid (Below w'.heap.size w' w12) := (below_drewN H8.out (n9 + n10)).trans (hb12.mono H8.out.size)
        clear hb12
        go_wp2
        go_ret
        exact ⟨rfl, H12.out⟩

theorem walk (a : Option Addr) (len cap : Nat) (zs : List Int) (w : World) (h : IsRow .u8 w a len cap zs) :
    Calls Try.prog 3 #[.slice a len cap] w fun e w' => e = .returned (.bool true) ∧ Below w.heap.size w w' := by
  obtain ⟨hl, hb⟩ := bytes_of h
  exact core a len cap w hl hb

theorem own : ownKnob Try.prog.godebug = none := by kernel_rfl
theorem laidOut : laidOutB Try.prog = true := by kernel_rfl
set_option maxRecDepth 100000 in
theorem lifted (os : Os) (started : os.Started) (H : Type) (enc : TypeId × Value → H) :
    ReturnsInHanded {} Try.checked os 3 .any (Rows.fnWordsSpec.pre6 enc Try.prog Try.f3 Rows.fnWordsRow.domain false) (Rows.fnWordsSpec.post enc Try.prog Try.f3 false true false false) := by
  refine returnsInHanded_of_change (C := Try.checked) own started (by kernel_rfl) Try.func3
    (ChangeSpec.witness6 (enc := enc) (C := Try.checked) false ⟨#[], #[.slice none 0 0], []⟩ 8 (by kernel_rfl) (by kernel_rfl) (by kernel_rfl) (by kernel_rfl)) ?_
  intro W base args ds gs before hval0 hW hcnd _
  have hval : ∀ (j : Nat) t v, Try.f3.params[j]? = some t → args[j]? = some v → Value.okWide Try.prog W .any base t v := hval0
  have hW' := hW
  obtain ⟨p, q, hA0, hV, rfl, hfz, hnd⟩ := hW
  have hA : DataW.TrodAll enc Try.prog W 0 (fun _ => true) true Try.f3.params.toList args.toList ds p := hA0
  rw [Try.params3] at hA hval
  obtain ⟨v0, vs0, d0, ds0, p0, q0, hargs, rfl, rfl, h0, r0⟩ := trodAll_cons hA
  obtain ⟨rfl, rfl, rfl⟩ := trodAll_nil r0
  obtain rfl : args = #[v0] := by cases args; simp_all
  obtain ⟨rfl, rfl⟩ := trodVars_none hV
  obtain ⟨a0, len0, cap0, rfl⟩ := okWide_slice Try.underlying22 (hval 0 22 v0 rfl rfl)
  have k0 := h0
  have lt0 : ∀ x ∈ p0, x.block < W.heap.size := by obtain ⟨m, hm⟩ := k0; exact DataW.trod_lt m _ _ _ hm
  obtain ⟨z0, w0⟩ : ∃ zs, IsRow .u8 W a0 len0 cap0 zs := by
    obtain ⟨fuel, hf⟩ := h0
    rcases open_ints Try.underlying22 Try.underlying5 (by kernel_rfl) hf with ⟨hcs, _⟩ | ⟨x, l, c, zs, hcs, _, hl, hm, hz, _, hcell, hwz⟩
    · simp [Value.cells] at hcs
      obtain ⟨rfl, rfl, rfl⟩ := hcs
      exact ⟨[], .inl ⟨rfl, rfl, rfl, rfl⟩⟩
    · simp [Value.cells] at hcs
      obtain ⟨rfl, rfl, rfl⟩ := hcs
      exact ⟨zs, .inr ⟨_, rfl, hl, hm, by simpa using hz, hcell, hwz⟩⟩
  clear hA0 hval0
  refine (walk a0 len0 cap0 z0 W w0).mono fun e W' ⟨he, bel⟩ => ?_
  subst he
  exact ⟨_, rfl, _, _, _, [], _, [], hW', trodAll_mk1 (shut_bool Try.underlying4 _), (trodAll_cons_mk (Below.trod laidOut (by kernel_rfl) (of_decide_eq_true (by kernel_rfl)) k0 bel lt0) trodAll_mk0), rfl, bel.frame _, fun h => by cases h⟩

theorem over : Rows.fnWordsRow.holds Try.pinned (OpenSpec.ofChange Rows.fnWordsSpec) :=
  OpenClaim.holds_of_wide 3 Try.f3 rfl rfl rfl rfl rfl rfl rfl ⟨rfl, rfl, rfl, rfl, rfl⟩ rfl rfl rfl rfl rfl (by kernel_rfl) Try.func3 (by kernel_rfl)
    (of_decide_eq_true (by kernel_rfl)) (by unfold Func.isWrapper; first | (rw [if_pos (by decide +kernel)]; kernel_rfl) | (rw [if_neg (by decide +kernel)]; exact ⟨rfl, rfl⟩))
    (fun os started H enc _ => lifted os started H enc)

end Go.Proofs.Ytmbejfbbolicfaa.FnWords
namespace Go.Proofs.Ytmbejfbbolicfaa
theorem fnWords_holds : Rows.FnWordsSaid := FnWords.over
#print axioms fnWords_holds
end Go.Proofs.Ytmbejfbbolicfaa
