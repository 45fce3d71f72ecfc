/-
  PROVED: at every slice of strings impl.InOrder answers as spec.InOrder and leaves it as it was, so the law laws.FnExactInOrder returns true, whatever its argument. No condition.
-/
import Derived.Test.YtmbejfbbolicfajRows
import Derived.WalkKit
import Derived.ProofKit
import Derived.OpenShut
import Derived.ShutString
import Derived.ChangeOld
import Derived.Below
import Derived.WalkLawsBesides
import Derived.WalkSpells
import Derived.SliceStrings
import Derived.Test.YtmbejfbbolicfajStrs
namespace Go.Proofs.Ytmbejfbbolicfaj.FnExactInOrder
open Go.ChangeShapes Go.WideShapes Go.ChangeAt Go.RowKit
open Go.ChangeMaps (open_string shut_string)
set_option linter.unusedVariables false

open Go.Proofs.Ytmbejfbbolicfaj.Strs

/-- what the walk is told of a slice of strings that came in -/
def IsStrs (w : World) (a : Option Addr) (len cap : Nat) (zs : List ByteArray) : Prop :=
  (a = none ∧ len = 0 ∧ cap = 0 ∧ zs = []) ∨
  ∃ x, a = some x ∧ len ≤ cap ∧ cap ≤ maxLen ∧ zs.length = cap ∧ (∀ i, i < zs.length → w.cell? (x.add i) = some (.string (zs.getD i ByteArray.empty))) ∧ ∀ s ∈ zs, s.size ≤ maxLen

theorem block_lt {w : World} {x : Addr} {v : Value} (h : w.cell? x = some v) : x.block < w.heap.size := by
  by_cases hb : x.block < w.heap.size
  · exact hb
  · have : w.heap[x.block]? = none := by simp; omega
    simp [World.cell?, this] at h

theorem reads_of {w : World} {a : Option Addr} {len cap : Nat} {zs : List ByteArray} (h : IsStrs w a len cap zs) :
    ∃ l : List ByteArray, len = l.length ∧ Reads w a l ∧ l.length ≤ maxLen ∧ ∀ i, i < l.length → (nth l i).size ≤ maxLen := by
  rcases h with ⟨rfl, rfl, rfl, rfl⟩ | ⟨x, rfl, hl, hm, hz, hc, hs⟩
  · exact ⟨[], rfl, .inl rfl, by simp, fun i h => by simp at h⟩
  · have e : (zs.take len).length = len := by simp; omega
    refine ⟨zs.take len, e.symm, ?_, by omega, fun i hi => ?_⟩
    · by_cases h0 : len = 0
      · left; rw [h0]; simp
      · right
        obtain ⟨b, off, spot⟩ := x
        have h00 := hc 0 (by omega)
        have hspot : spot = none := by simpa [Addr.add] using World.cell?_spot h00
        subst hspot
        refine ⟨b, off, rfl, block_lt (x := ⟨b, off, none⟩) (by simpa [Addr.add] using h00), fun i hi => ?_⟩
        have hii := hc i (by omega)
        have en : nth (zs.take len) i = zs.getD i ByteArray.empty := by
          unfold nth
          simp only [List.getD_eq_getElem?_getD]
          rw [List.getElem?_take_of_lt (by omega)]
        have ea : (⟨b, off, none⟩ : Addr).add i = ⟨b, off + i, none⟩ := by by_cases h : i = 0 <;> simp [Addr.add, h]
        rw [en, ← ea]
        exact hii
    · have hi' : i < zs.length := by omega
      have en : nth (zs.take len) i = zs[i] := by
        unfold nth
        simp only [List.getD_eq_getElem?_getD]
        rw [List.getElem?_take_of_lt (by omega), List.getElem?_eq_getElem hi']; rfl
      rw [en]
      exact hs _ (List.getElem_mem _)

set_option maxHeartbeats 400000 in
theorem core (a : Option Addr) (cap : Nat) (l : List ByteArray) (w : World) (hr : Reads w a l) (hl : l.length ≤ maxLen) (hz : ∀ i, i < l.length → (nth l i).size ≤ maxLen) :
    Calls Try.prog 5 #[.slice a l.length cap] w fun e w' => e = .returned (.bool true) ∧ Below w.heap.size w w' := by
  have HR : Hid (Reads w a l) := hr
  have HL : Hid (l.length ≤ maxLen) := hl
  have HZ : Hid (∀ i, i < l.length → (nth l i).size ≤ maxLen) := hz
  clear hr hz hl
  go_enter Try.func5, Try.ntmps5
  go_wp2_with fail
  refine (sz_any a cap l _ _ HR.out HL.out HZ.out (by omega) (by omega)).mono ?_
  rintro e w' ⟨⟨n, rfl, hn⟩, rfl⟩
  by_cases hneg : n < 0
  · clear hn
    go_wp2
    go_ret
    exact ⟨rfl, Below.refl _ _⟩
  · have hlen : l.length ≤ 1048576 := by have := hn (by omega); omega
    clear hn
    go_wp2_with fail
    refine (to_any a cap l _ HR.out hlen).mono ?_
    rintro e w1 ⟨⟨c1, rfl, hr1⟩, hb1⟩
    have HR1 : Hid (Reads w1 c1 l) := hr1
    have HB1 : Hid (Below w'.heap.size w' w1) := hb1
    clear hr1 hb1
    go_wp2_with fail
    refine (specInOrder_any c1 _ l _ HR1.out HL.out).mono ?_
    rintro e w2 ⟨rfl, n2, rfl⟩
    have HA2 : Hid (Reads (w1.drewN n2) a l) := HR.out.below (below_drewN HB1.out n2)
    go_wp2_with fail
    refine (to_any a cap l _ HA2.out hlen).mono ?_
    rintro e w3 ⟨⟨c3, rfl, hr3⟩, hb3⟩
    have HR3 : Hid (Reads w3 c3 l) := hr3
    have HB3 : Hid (Below (w1.drewN n2).heap.size (w1.drewN n2) w3) := hb3
    have HA3 : Hid (Reads w3 a l) := HA2.out.below hb3
    clear hr3 hb3
    go_wp2_with fail
    refine (implInOrder_any c3 _ l _ HR3.out HL.out).mono ?_
    rintro e w4 ⟨rfl, n4, rfl⟩
    have HA4 : Hid (Reads (w3.drewN n4) a l) := HA3.out.drewN n4
    go_wp2_with fail
    refine (to_any a cap l _ HA4.out hlen).mono ?_
    rintro e w5 ⟨⟨c5, rfl, hr5⟩, hb5⟩
    have HR5 : Hid (Reads w5 c5 l) := hr5
    have HB5 : Hid (Below (w3.drewN n4).heap.size (w3.drewN n4) w5) := hb5
    have HR35 : Hid (Reads w5 c3 l) := (HR3.out.drewN n4).below hb5
    clear hr5 hb5
    go_wp2_with fail
    refine (eq_any c3 _ c5 _ l _ HR35.out HR5.out HL.out).mono ?_
    rintro e w6 ⟨rfl, n6, rfl⟩
    go_wp2
    go_ret
    refine ⟨rfl, ?_⟩
    have b1 := HB1.out
    have b3 : Below w'.heap.size (w1.drewN n2) w3 := HB3.out.mono b1.size
    have b5 : Below w'.heap.size (w3.drewN n4) w5 := HB5.out.mono (Nat.le_trans b1.size HB3.out.size)
    exact below_drewN ((below_drewN ((below_drewN b1 n2).trans b3) n4).trans b5) n6

theorem walk (a : Option Addr) (len cap : Nat) (zs : List ByteArray) (w : World) (h : IsStrs w a len cap zs) :
    Calls Try.prog 5 #[.slice a len cap] w fun e w' => e = .returned (.bool true) ∧ Below w.heap.size w w' := by
  obtain ⟨l, rfl, hr, hl, hz⟩ := reads_of h
  exact core a cap l w hr hl hz

theorem own : ownKnob Try.prog.godebug = none := by kernel_rfl
theorem laidOut : laidOutB Try.prog = true := by kernel_rfl
set_option maxRecDepth 100000 in
theorem lifted (os : Os) (started : os.Started) (H : Type) (enc : TypeId × Value → H) :
    ReturnsInHanded {} Try.checked os 5 .any (Rows.fnExactInOrderSpec.pre6 enc Try.prog Try.f5 Rows.fnExactInOrderRow.domain false) (Rows.fnExactInOrderSpec.post enc Try.prog Try.f5 false true false false) := by
  refine returnsInHanded_of_change (C := Try.checked) own started (by kernel_rfl) Try.func5
    (ChangeSpec.witness6 (enc := enc) (C := Try.checked) false ⟨#[], #[.slice none 0 0], []⟩ 8 (by kernel_rfl) (by kernel_rfl) (by kernel_rfl) (by kernel_rfl)) ?_
  intro W base args ds gs before hval0 hW hcnd _
  have hval : ∀ (j : Nat) t v, Try.f5.params[j]? = some t → args[j]? = some v → Value.okWide Try.prog W .any base t v := hval0
  have hW' := hW
  obtain ⟨p, q, hA0, hV, rfl, hfz, hnd⟩ := hW
  have hA : DataW.TrodAll enc Try.prog W 0 (fun _ => true) true Try.f5.params.toList args.toList ds p := hA0
  rw [Try.params5] at hA hval
  obtain ⟨v0, vs0, d0, ds0, p0, q0, hargs, rfl, rfl, h0, r0⟩ := trodAll_cons hA
  obtain ⟨rfl, rfl, rfl⟩ := trodAll_nil r0
  obtain rfl : args = #[v0] := by cases args; simp_all
  obtain ⟨rfl, rfl⟩ := trodVars_none hV
  obtain ⟨a0, len0, cap0, rfl⟩ := okWide_slice Try.underlying26 (hval 0 26 v0 rfl rfl)
  have k0 := h0
  have lt0 : ∀ x ∈ p0, x.block < W.heap.size := by obtain ⟨m, hm⟩ := k0; exact DataW.trod_lt m _ _ _ hm
  obtain ⟨z0, w0⟩ : ∃ zs, IsStrs W a0 len0 cap0 zs := by
    obtain ⟨fuel, hf⟩ := h0
    rcases open_strings Try.underlying26 Try.underlying9 (by kernel_rfl) hf with ⟨hcs, _⟩ | ⟨x, l, c, zs, hcs, _, hl, hm, hz, _, hcell, hwz⟩
    · simp [Value.cells] at hcs
      obtain ⟨rfl, rfl, rfl⟩ := hcs
      exact ⟨[], .inl ⟨rfl, rfl, rfl, rfl⟩⟩
    · simp [Value.cells] at hcs
      obtain ⟨rfl, rfl, rfl⟩ := hcs
      exact ⟨zs, .inr ⟨_, rfl, hl, hm, by simpa using hz, hcell, hwz⟩⟩
  clear hA0 hval0
  refine (walk a0 len0 cap0 z0 W w0).mono fun e W' ⟨he, bel⟩ => ?_
  subst he
  exact ⟨_, rfl, _, _, _, [], _, [], hW', trodAll_mk1 (shut_bool Try.underlying4 _), (trodAll_cons_mk (Below.trod laidOut (by kernel_rfl) (of_decide_eq_true (by kernel_rfl)) k0 bel lt0) trodAll_mk0), rfl, bel.frame _, fun h => by cases h⟩

theorem over : Rows.fnExactInOrderRow.holds Try.pinned (OpenSpec.ofChange Rows.fnExactInOrderSpec) :=
  OpenClaim.holds_of_wide 5 Try.f5 rfl rfl rfl rfl rfl rfl rfl ⟨rfl, rfl, rfl, rfl, rfl⟩ rfl rfl rfl rfl rfl (by kernel_rfl) Try.func5 (by kernel_rfl)
    (of_decide_eq_true (by kernel_rfl)) (by unfold Func.isWrapper; first | (rw [if_pos (by decide +kernel)]; kernel_rfl) | (rw [if_neg (by decide +kernel)]; exact ⟨rfl, rfl⟩))
    (fun os started H enc _ => lifted os started H enc)

end Go.Proofs.Ytmbejfbbolicfaj.FnExactInOrder
namespace Go.Proofs.Ytmbejfbbolicfaj
theorem fnExactInOrder_holds : Rows.FnExactInOrderSaid := FnExactInOrder.over
#print axioms fnExactInOrder_holds
end Go.Proofs.Ytmbejfbbolicfaj
