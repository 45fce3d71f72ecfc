/-
  PROVED: over a slice of alarms and a slice of strings in memory spec.Keys and impl.Keys answer alike, as a plain function on lists says, in memory of their own, each key in a block of its own; nothing that was there is changed.
-/
import Derived.Test.YtmachabgnbpeaaaPro
import Derived.Test.YtmachabgnbpeaaaAlmsK
namespace Go.Proofs.Ytmachabgnbpeaaa.Kys
open Go.RowKit
open Go.Proofs.Ytmachabgnbpeaaa.Labs Go.Proofs.Ytmachabgnbpeaaa.LabS Go.Proofs.Ytmachabgnbpeaaa.Pro Go.Proofs.Ytmachabgnbpeaaa.Over Go.Proofs.Ytmachabgnbpeaaa.Blk Go.Proofs.Ytmachabgnbpeaaa.App
open Go.Proofs.Ytmachabgnbpeaaa.Alms (PAl nthP RdA FitsP sumL takeP_up sum_up sum_nth sum_le sum_all)
open Go.Proofs.Ytmachabgnbpeaaa.StrB (retB drew_more)
open Go.Proofs.Ytmachabgnbpeaaa.LabT (Held held_reads)
open Go.Proofs.Ytmachabgnbpeaaa.LabR (Own)
set_option linter.unusedVariables false

/-- a key in memory: its block, its room, its labels -/
abbrev Row := Nat × Nat × List Lab
def keyV (x : Row) : Value := .slice (some ⟨x.1, 0, none⟩) x.2.2.length x.2.1
def labs (rs : List Row) : List (List Lab) := rs.map fun x => x.2.2
def nthR (rs : List Row) (i : Nat) : Row := rs.getD i (0, 0, [])
theorem nthR_eq {rs : List Row} {i : Nat} (h : i < rs.length) : nthR rs i = rs[i] := by unfold nthR; simp [h]
theorem nthR_mem {rs : List Row} {i : Nat} (h : i < rs.length) : nthR rs i ∈ rs := by rw [nthR_eq h]; exact List.getElem_mem _
theorem labs_len (rs : List Row) : (labs rs).length = rs.length := by simp [labs]

/-- a key lies in a block of its own -/
def OwnK (lo : Nat) (w : World) (x : Row) : Prop := lo ≤ x.1 ∧ x.2.2.length ≤ 1048576 ∧ ∃ ds : Array Value, Blk w x.1 ds 78 ∧ x.2.2.length * 2 ≤ ds.size ∧ Held ds x.2.2 x.2.2.length
theorem OwnK.grow {lo : Nat} {w w' : World} {x : Row} (h : OwnK lo w x) (hb : Below w.heap.size w w') : OwnK lo w' x := by
  obtain ⟨h0, h1, ds, h2, h3⟩ := h
  exact ⟨h0, h1, ds, h2.grow hb, h3⟩
theorem OwnK.reads {lo : Nat} {w : World} {x : Row} (h : OwnK lo w x) : Reads w (some ⟨x.1, 0, none⟩) x.2.2 := by
  obtain ⟨h0, h1, ds, h2, h3, h4⟩ := h
  exact held_reads h2 h4
theorem OwnK.lt {lo : Nat} {w : World} {x : Row} (h : OwnK lo w x) : x.1 < w.heap.size := by
  obtain ⟨h0, h1, ds, h2, h3, h4⟩ := h
  exact h2.lt
theorem len_max {n : Nat} (h : n ≤ 1048576) : n ≤ maxLen := by unfold maxLen; omega
/-- the keys that are gathered -/
structure KSt (w wr : World) (v : Value) (rs : List Row) : Prop where
  own : wr.ownsRow w.heap.size 30 1 v rs.length (rs.map keyV)
  lies : ∃ g c, v = .slice (some ⟨g, 0, none⟩) rs.length c
  keys : ∀ x ∈ rs, OwnK w.heap.size wr x
  inc : rs.Pairwise fun x y => x.1 < y.1
  low : Below w.heap.size w wr
theorem KSt.grow {w wr w' : World} {v : Value} {rs : List Row} (h : KSt w wr v rs) (hb : Below wr.heap.size wr w') : KSt w w' v rs :=
  ⟨h.own.kept (bel_grown hb) (by cases hv : v.ownBlock with | none => exact .inl rfl | some k => exact .inr (fun e => by cases e)), h.lies, fun x hx => (h.keys x hx).grow hb, h.inc, grow_on h.low hb⟩
theorem KSt.outer {w wr : World} {g n c : Nat} {rs : List Row} (h : KSt w wr (.slice (some ⟨g, 0, none⟩) n c) rs) : w.heap.size ≤ g ∧ ∃ cur : Array Value, Blk wr g cur 30 ∧ rs.length ≤ cur.size ∧ ∀ i, i < rs.length → cur[i]? = some (keyV (nthR rs i)) := by
  rcases h.own.2 with ⟨e, _⟩ | ⟨g', c', cur, e, hb, hg, hc, _, hz, ht⟩
  · cases e
  · cases e
    refine ⟨hb, cur, hg, by rw [hz]; omega, fun i hi => ?_⟩
    have h2 : (rs.map keyV)[i]? = some (keyV (nthR rs i)) := by rw [nthR_eq hi]; simp [hi]
    rw [← ht, List.getElem?_take_of_lt (by omega)] at h2
    simpa using h2
theorem tyne : (30 : TypeId) ≠ 78 := by decide
theorem blk_ne {w : World} {a b : Nat} {cs ds : Array Value} (h : Blk w a cs 30) (k : Blk w b ds 78) : a ≠ b := fun e => by
  subst e
  unfold Blk at h k
  rw [h] at k
  injection k with k
  injection k with _ k
  exact tyne k
theorem KSt.add {w W w' : World} {v v' : Value} {rs : List Row} {x : Row} (h : KSt w W v rs) (hx : OwnK w.heap.size W x) (hlt : ∀ y ∈ rs, y.1 < x.1)
    (hown : w'.ownsRow w.heap.size 30 1 v' (rs.length + 1) (rs.map keyV ++ [keyV x])) (hg : W.grownBy w' v.ownBlock) (hn : v' ≠ .slice none 0 0) : KSt w w' v' (rs ++ [x]) := by
  have ho : w'.ownsRow w.heap.size 30 1 v' (rs ++ [x]).length ((rs ++ [x]).map keyV) := by rw [List.map_append, List.length_append]; exact hown
  obtain ⟨g, c, rfl⟩ := h.lies
  obtain ⟨_, cur, hcur, _⟩ := h.outer
  have far : ∀ y, OwnK w.heap.size W y → OwnK w.heap.size w' y := fun y hy => by
    obtain ⟨h0, h1, ds, h2, h3⟩ := hy
    exact ⟨h0, h1, ds, blk_far h2 hg (fun e => blk_ne hcur h2 (Option.some.inj e).symm), h3⟩
  refine ⟨ho, ?_, fun y hy => ?_, ?_, h.low.grown hg h.low.size (fun k hk => (h.own.lt k hk).1)⟩
  · rcases ho.2 with ⟨e, _⟩ | ⟨g, c, cur, e, _⟩
    · exact absurd e hn
    · exact ⟨g, c, e⟩
  · rcases List.mem_append.1 hy with hy | hy
    · exact far y (h.keys y hy)
    · rw [List.mem_singleton.1 hy]; exact far x hx
  · rw [List.pairwise_append]
    exact ⟨h.inc, List.pairwise_singleton _ _, fun a ha b hb => by rw [List.mem_singleton.1 hb]; exact hlt a ha⟩

/-- whether k is one of ks -/
def hasK (ks : List (List Lab)) (k : List Lab) : Bool := ks.any fun x => decide (x = k)
def hasTo (rs : List Row) (q : List Lab) (j : Nat) : Bool := (List.range j).any fun i => decide ((nthR rs i).2.2 = q)
theorem hasTo_zero (rs : List Row) (q : List Lab) : hasTo rs q 0 = false := rfl
theorem hasTo_up (rs : List Row) (q : List Lab) (j : Nat) : hasTo rs q (j + 1) = (hasTo rs q j || decide ((nthR rs j).2.2 = q)) := by
  unfold hasTo
  rw [List.range_succ, List.any_append]
  simp
theorem hasTo_all {rs : List Row} {q : List Lab} {j : Nat} (h : j = rs.length) : hasTo rs q j = hasK (labs rs) q := by
  subst h
  unfold hasTo hasK labs
  apply Bool.eq_iff_iff.2
  simp only [List.any_eq_true, List.mem_range, decide_eq_true_eq, List.mem_map]
  constructor
  · rintro ⟨i, hi, e⟩
    exact ⟨_, ⟨nthR rs i, nthR_mem hi, rfl⟩, e⟩
  · rintro ⟨_, ⟨x, hx, rfl⟩, e⟩
    obtain ⟨i, hi, rfl⟩ := List.getElem_of_mem hx
    exact ⟨i, hi, by rw [nthR_eq hi]; exact e⟩
theorem hasK_hit {rs : List Row} {q : List Lab} {j : Nat} (hj : j < rs.length) (h : (nthR rs j).2.2 = q) : hasK (labs rs) q = true := by
  unfold hasK labs
  simp only [List.any_eq_true, decide_eq_true_eq, List.mem_map]
  exact ⟨_, ⟨nthR rs j, nthR_mem hj, rfl⟩, h⟩
theorem hasK_miss {rs : List Row} {q : List Lab} (h : ∀ j, j < rs.length → (nthR rs j).2.2 ≠ q) : hasK (labs rs) q = false := by
  unfold hasK labs
  rw [List.any_eq_false]
  intro y hy
  obtain ⟨x, hx, rfl⟩ := List.mem_map.1 hy
  obtain ⟨i, hi, rfl⟩ := List.getElem_of_mem hx
  have := h i hi
  rw [nthR_eq hi] at this
  simpa using this
def addK (ks : List (List Lab)) (k : List Lab) : List (List Lab) := if hasK ks k = true then ks else ks ++ [k]
theorem add_yes {ks : List (List Lab)} {k : List Lab} (h : hasK ks k = true) : addK ks k = ks := if_pos h
theorem add_no {ks : List (List Lab)} {k : List Lab} (h : hasK ks k = false) : addK ks k = ks ++ [k] := by unfold addK; rw [h]; rfl
/-- the keys of the first k -/
def keysTo (P : List PAl) (by' : List ByteArray) (k : Nat) : List (List Lab) := (P.take k).foldl (fun ks x => addK ks (projB x.l by')) []
def keysB (P : List PAl) (by' : List ByteArray) : List (List Lab) := P.foldl (fun ks x => addK ks (projB x.l by')) []
theorem keys_zero (P : List PAl) (by' : List ByteArray) : keysTo P by' 0 = [] := rfl
theorem keys_up {P : List PAl} {by' : List ByteArray} {k : Nat} (h : k < P.length) : keysTo P by' (k + 1) = addK (keysTo P by' k) (projB (nthP P k).l by') := by
  unfold keysTo
  rw [takeP_up h, List.foldl_append]; rfl
theorem keys_all {P : List PAl} {by' : List ByteArray} {k : Nat} (h : P.length ≤ k) : keysTo P by' k = keysB P by' := by
  unfold keysTo keysB
  rw [List.take_of_length_le h]
theorem add_len (ks : List (List Lab)) (k : List Lab) : (addK ks k).length ≤ ks.length + 1 := by unfold addK; split <;> simp
theorem keys_len {P : List PAl} {by' : List ByteArray} : ∀ {k : Nat}, k ≤ P.length → (keysTo P by' k).length ≤ k
  | 0, _ => by simp [keys_zero]
  | k + 1, h => by
    rw [keys_up (by omega)]
    have h1 := add_len (keysTo P by' k) (projB (nthP P k).l by')
    have h2 := keys_len (P := P) (by' := by') (k := k) (by omega)
    omega
theorem infoK : (Try.prog.info? 30).map (fun i => (i.zero, i.size, i.bytes)) = some (some (.slice none 0 0), 1, 24) := by kernel_rfl
theorem key_one (x : Row) : ∀ v ∈ [keyV x], v.oneCell' = true := fun v hv => by
  rw [List.mem_singleton.1 hv]; rfl

/-- a slice of keys that lie in memory -/
structure RdK (w : World) (g : Nat) (rs : List Row) : Prop where
  lt : g < w.heap.size
  cell : ∀ i, i < rs.length → w.cell? ⟨g, i, none⟩ = some (keyV (nthR rs i))
  key : ∀ i, i < rs.length → Reads w (some ⟨(nthR rs i).1, 0, none⟩) (nthR rs i).2.2
  len : ∀ i, i < rs.length → (nthR rs i).2.2.length ≤ maxLen
theorem RdK.below {w w' : World} {g : Nat} {rs : List Row} (h : RdK w g rs) (hb : Below w.heap.size w w') : RdK w' g rs :=
  ⟨Nat.lt_of_lt_of_le h.lt hb.size, fun i hi => (hb.cell (p := ⟨g, i, none⟩) h.lt).trans (h.cell i hi), fun i hi => (h.key i hi).below hb, h.len⟩
theorem KSt.rd {w wr : World} {g n c : Nat} {rs : List Row} (h : KSt w wr (.slice (some ⟨g, 0, none⟩) n c) rs) : RdK wr g rs := by
  obtain ⟨_, cur, hc, _, hk⟩ := h.outer
  exact ⟨hc.lt, fun i hi => (hc.cell i).trans (hk i hi), fun i hi => (h.keys _ (nthR_mem hi)).reads, fun i hi => len_max (h.keys _ (nthR_mem hi)).2.1⟩

set_option maxRecDepth 100000 in
set_option maxHeartbeats 1600000 in
theorem specKeys_any (a a' : Option Addr) (cap cap' : Nat) (P : List PAl) (by' : List ByteArray) (w : World) (hr : RdA w a P) (hr' : RdS w a' by') (hl : P.length ≤ 1048576) (hs : sumL P ≤ 1048576) (hl' : by'.length ≤ maxLen) :
    Calls Try.prog 25 #[.slice a P.length cap, .slice a' by'.length cap'] w fun e w' => ∃ v, e = .returned v ∧ ∃ rs, KSt w w' v rs ∧ labs rs = keysB P by' := by
  have HR : Hid (RdA w a P) := hr
  have HS : Hid (RdS w a' by') := hr'
  have HL : Hid (sumL P ≤ 1048576 ∧ by'.length ≤ maxLen) := ⟨hs, hl'⟩
  clear hr hr' hl' hs
  obtain ⟨i0, hi, hz0, hz1, hz2⟩ := info_parts infoK
  go_enter Try.func25, Try.ntmps25
  go_wp2
  go_loopw [5, 6] (fun v i w' => ∃ (k : Nat) (rs : List Row), i = .int .i64 k ∧ k ≤ P.length ∧ KSt w w' v rs ∧ labs rs = keysTo P by' k) (fun _ i _ => P.length - (intOf i).toNat)
  case atStart => exact ⟨0, [], rfl, Nat.zero_le _, ⟨World.ownsRow_made w #[] 0 (Nat.le_refl _) (by simp [maxLen]) rfl, ⟨w.heap.size, 0, rfl⟩, fun x hx => by simp at hx, List.Pairwise.nil, (Below.refl _ _).alloc (Nat.le_refl _) _⟩, rfl⟩
  case round =>
    obtain ⟨k, rs, rfl, hk, ho, he⟩ := hrel
    obtain ⟨g, c, rfl⟩ := ho.lies
    have HO : Hid (KSt w wr (.slice (some ⟨g, 0, none⟩) rs.length c) rs) := ho
    have HE : Hid (labs rs = keysTo P by' k) := he
    have HN : Hid (rs.length ≤ k) := by show _ ≤ _; rw [← labs_len, he]; exact keys_len hk
    clear ho he
    by_cases hlt : k < P.length
    · have hlt' : (k : Int) < (P.length : Int) := by omega
      have HU : Hid (keysTo P by' (k + 1) = addK (labs rs) (projB (nthP P k).l by')) := by show _ = _; rw [HE.out]; exact keys_up hlt
      obtain ⟨b, off, rfl, hb, ad, cp, hat⟩ := (HR.out.below HO.out.low).get hlt
      have h2 := hat.c0
      have h3 := hat.c1
      have h4 := hat.c2
      have h5 := hat.c3
      have HA : Hid (Reads wr ad (nthP P k).l) := hat.reads
      have HLn : Hid ((nthP P k).l.length ≤ 1048576) := Nat.le_trans (sum_nth hlt) HL.out.1
      clear hat
      go_wp2_with fail
      refine (specKey_any ad a' cp cap' _ _ _ _ by' _ HA.out (HS.out.below HO.out.low) HLn.out HL.out.2).mono ?_
      rintro e w1 ⟨⟨M, c1, rfl, hown⟩, hb1⟩
      have HO1 : Hid (KSt w w1 (.slice (some ⟨g, 0, none⟩) rs.length c) rs) := HO.out.grow hb1
      have HX : Hid (OwnK w.heap.size w1 (M, c1, projB (nthP P k).l by') ∧ ∀ y ∈ rs, y.1 < M) := by
        refine ⟨⟨Nat.le_trans HO.out.low.size hown.1, Nat.le_trans (proj_len _ _) HLn.out, hown.2⟩, fun y hy => ?_⟩
        exact Nat.lt_of_lt_of_le (HO.out.keys y hy).lt hown.1
      clear hown hb1 h2 h3 h4 h5 HA HO
      have HQ : Hid ((projB (nthP P k).l by').length ≤ maxLen) := len_max HX.out.1.2.1
      generalize projB (nthP P k).l by' = q at HX HU HQ ⊢
      have hrl : rs.length ≤ 1048576 := by have := HN.out; omega
      obtain ⟨wq, hwq⟩ : ∃ x, x = w1 := ⟨_, rfl⟩
      subst hwq
      go_wp2
      go_loopw [8, 9] (fun t j w' => ∃ m : Nat, j = .int .i64 m ∧ m ≤ rs.length ∧ t = .bool (hasTo rs q m) ∧ Below wq.heap.size wq w') (fun _ j _ => rs.length - (intOf j).toNat)
      case atStart => exact ⟨0, rfl, Nat.zero_le _, rfl, Below.refl _ _⟩
      case round =>
        obtain ⟨m, rfl, hm, rfl, hw0⟩ := hrel
        have HW : Hid (Below wq.heap.size wq wr) := hw0
        clear hw0
        by_cases hml : m < rs.length
        · have hml' : (m : Int) < (rs.length : Int) := by omega
          have hrd := HO1.out.rd.below HW.out
          have c0 : wr.cell? ⟨g, m, none⟩ = some (.slice (some ⟨(nthR rs m).1, 0, none⟩) (nthR rs m).2.2.length (nthR rs m).2.1) := hrd.cell m hml
          have HRd : Hid (RdK wr g rs) := hrd
          have HU2 : Hid (hasTo rs q (m + 1) = (hasTo rs q m || decide ((nthR rs m).2.2 = q))) := hasTo_up rs q m
          clear hrd
          cases hp : hasTo rs q m with
          | true =>
            have HT : Hid (hasTo rs q (m + 1) = true) := by show _ = _; rw [HU2.out, hp]; rfl
            clear hp
            go_wp2
            go_roundw
            case rel => exact ⟨m + 1, by go_num, by omega, by rw [HT.out], HW.out⟩
            case measure => simp [intOf]; omega
          | false =>
            have HT : Hid (hasTo rs q (m + 1) = decide ((nthR rs m).2.2 = q)) := by show _ = _; rw [HU2.out, hp]; rfl
            clear hp
            go_wp2_with fail
            refine (calls_drew (specSame_any _ _ _ _ (nthR rs m).2.2 q _ (HRd.out.key m hml) (HX.out.1.reads.below HW.out) (HRd.out.len m hml) HQ.out)).mono ?_
            rintro e w2 ⟨rfl, hb2⟩
            have HW2 : Hid (Below wq.heap.size wq w2) := grow_on HW.out hb2
            clear hb2 c0
            go_wp2
            go_roundw
            case rel => exact ⟨m + 1, by go_num, by omega, by rw [HT.out], HW2.out⟩
            case measure => simp [intOf]; omega
        · have hge : ¬ (m : Int) < (rs.length : Int) := by omega
          have HT : Hid (hasTo rs q m = hasK (labs rs) q) := hasTo_all (by omega)
          have HO2 : Hid (KSt w wr (.slice (some ⟨g, 0, none⟩) rs.length c) rs) := HO1.out.grow HW.out
          have HX2 : Hid (OwnK w.heap.size wr (M, c1, q) ∧ ∀ y ∈ rs, y.1 < M) := ⟨HX.out.1.grow HW.out, HX.out.2⟩
          cases hp : hasTo rs q m with
          | true =>
            have HF : Hid (labs rs = keysTo P by' (k + 1)) := by show _ = _; rw [HU.out, add_yes (by rw [← HT.out]; exact hp)]
            clear hp
            go_wp2
            go_roundw
            case rel => exact ⟨k + 1, rs, by go_num, by omega, HO2.out, HF.out⟩
            case measure => simp [intOf]; omega
          | false =>
            have HF : Hid (labs (rs ++ [(M, c1, q)]) = keysTo P by' (k + 1)) := by show _ = _; rw [HU.out, add_no (by rw [← HT.out]; exact hp)]; simp [labs]
            have HO3 : Hid (KSt w (wr.alloc (.cells #[.slice (some ⟨M, 0, none⟩) q.length c1] 30)) (.slice (some ⟨g, 0, none⟩) rs.length c) rs) := HO2.out.grow (Go.Joins.below_alloc1 wr _)
            have HX3 : Hid (OwnK w.heap.size (wr.alloc (.cells #[.slice (some ⟨M, 0, none⟩) q.length c1] 30)) (M, c1, q)) := HX2.out.1.grow (Go.Joins.below_alloc1 wr _)
            clear hp
            go_wp2_with (at_builtin; refine wpList_append_own_at _ rfl _ _ 28 rfl w.heap.size 30 i0 (.slice none 0 0) 1 24 Try.underlying28 hi hz0 hz1 hz2 rfl (by decide) _ _ _ rfl HO3.out.own ⟨wr.heap.size, 0, none⟩ 1 1 [keyV (M, c1, q)] rfl rfl ?c1 ?c2 ?c3 ?c4 ?c5 ?_)
            case c1 => exact fun j u h => h
            case c2 => rfl
            case c3 => unfold maxLen; omega
            case c4 => omega
            case c5 => have := HO2.out.low.size; simp; omega
            intro v' w2 hown hg hnil hat
            have HO4 : Hid (KSt w w2 v' (rs ++ [(M, c1, q)])) := HO3.out.add HX3.out HX2.out.2 hown hg hnil
            clear hown hg hnil hat
            go_wp2
            go_roundw
            case rel => exact ⟨k + 1, _, by go_num, by omega, HO4.out, HF.out⟩
            case measure => simp [intOf]; omega
    · have hge : ¬ (k : Int) < (P.length : Int) := by omega
      have HF : Hid (labs rs = keysB P by') := by show _ = _; rw [HE.out]; exact keys_all (by omega)
      go_wp2
      go_ret
      exact ⟨_, rfl, rs, HO.out, HF.out⟩

/-- where q is among them -/
def idxK (rs : List Row) (q : List Lab) (x : Int) : Prop := (x = -1 ∧ hasK (labs rs) q = false) ∨ (0 ≤ x ∧ hasK (labs rs) q = true)
theorem same1_any (b0 : Nat) (a a' : Option Addr) (cap cap' : Nat) (l q : List Lab) (w : World) (hc : w.cell? ⟨b0, 0, none⟩ = some (.slice a' q.length cap')) (hr : Reads w a l) (hr' : Reads w a' q) (hl : l.length ≤ maxLen) (hl' : q.length ≤ maxLen) :
    Calls Try.prog 70 #[.slice a l.length cap, .pointer (some ⟨b0, 0, none⟩)] w fun e w' => e = .returned (.bool (decide (l = q))) ∧ Below w.heap.size w w' := by
  have HR : Hid (Reads w a l ∧ Reads w a' q ∧ l.length ≤ maxLen ∧ q.length ≤ maxLen) := ⟨hr, hr', hl, hl'⟩
  clear hr hr' hl hl'
  go_enter Try.func70, Try.ntmps70
  go_wp2_with fail
  refine (calls_drew (implSame_any a a' cap cap' l q _ HR.out.1 HR.out.2.1 HR.out.2.2.1 HR.out.2.2.2)).mono ?_
  rintro e w1 ⟨rfl, hb1⟩
  have HB1 : Hid (Below w.heap.size w w1) := hb1
  clear hb1
  go_wp2
  go_ret
  exact ⟨rfl, HB1.out⟩
set_option maxHeartbeats 800000 in
theorem indexF_any (g c b0 : Nat) (a' : Option Addr) (cap' : Nat) (rs : List Row) (q : List Lab) (w : World) (hk : RdK w g rs) (hc : w.cell? ⟨b0, 0, none⟩ = some (.slice a' q.length cap')) (hb : b0 < w.heap.size) (hr' : Reads w a' q) (hl : rs.length ≤ maxLen) (hl' : q.length ≤ maxLen) :
    Calls Try.prog 85 #[.slice (some ⟨g, 0, none⟩) rs.length c, .func (.func 70) #[] #[.pointer (some ⟨b0, 0, none⟩)]] w fun e w' => (∃ x, e = .returned (.int .i64 x) ∧ idxK rs q x) ∧ Below w.heap.size w w' := by
  unfold maxLen at hl
  have HK : Hid (RdK w g rs) := hk
  have HR : Hid (w.cell? ⟨b0, 0, none⟩ = some (.slice a' q.length cap') ∧ Reads w a' q ∧ q.length ≤ maxLen) := ⟨hc, hr', hl'⟩
  clear hk hc hr' hl'
  go_enter Try.func85, Try.ntmps85
  go_wp2
  go_loopw [8] (fun i w' => ∃ k : Nat, i = .int .i64 k ∧ k ≤ rs.length ∧ (∀ j, j < k → (nthR rs j).2.2 ≠ q) ∧ Below w.heap.size w w') (fun i _ => rs.length - (intOf i).toNat)
  case atStart => exact ⟨0, rfl, Nat.zero_le _, fun j h => by omega, Below.refl _ _⟩
  case round =>
    obtain ⟨k, rfl, hk, hu, hw⟩ := hrel
    have HU : Hid (∀ j, j < k → (nthR rs j).2.2 ≠ q) := hu
    have HB : Hid (Below w.heap.size w wr) := hw
    clear hu hw
    by_cases hlt : k < rs.length
    · have hlt' : (k : Int) < (rs.length : Int) := by omega
      have hrd := HK.out.below HB.out
      have c0 : wr.cell? ⟨g, k, none⟩ = some (.slice (some ⟨(nthR rs k).1, 0, none⟩) (nthR rs k).2.2.length (nthR rs k).2.1) := hrd.cell k hlt
      have HC1 : Hid (Calls Try.prog 70 #[.slice (some ⟨(nthR rs k).1, 0, none⟩) (nthR rs k).2.2.length (nthR rs k).2.1, .pointer (some ⟨b0, 0, none⟩)] wr fun e w' => e = .returned (.bool (decide ((nthR rs k).2.2 = q))) ∧ Below wr.heap.size wr w') := same1_any b0 (some ⟨(nthR rs k).1, 0, none⟩) a' (nthR rs k).2.1 cap' (nthR rs k).2.2 q wr ((HB.out.cell hb).trans HR.out.1) (hrd.key k hlt) (HR.out.2.1.below HB.out) (hrd.len k hlt) HR.out.2.2
      clear hrd
      by_cases he : (nthR rs k).2.2 = q
      · have HY : Hid (hasK (labs rs) q = true) := hasK_hit hlt he
        have hd : decide ((nthR rs k).2.2 = q) = true := decide_eq_true he
        clear he
        go_wp2_with fail
        refine HC1.out.mono ?_
        rintro e w1 ⟨rfl, hb1⟩
        have HB1 : Hid (Below w.heap.size w w1) := grow_on HB.out hb1
        clear hb1
        go_wp2
        go_ret
        exact ⟨⟨_, rfl, .inr ⟨by omega, HY.out⟩⟩, HB1.out⟩
      · have HU1 : Hid (∀ j, j < k + 1 → (nthR rs j).2.2 ≠ q) := fun j hj => by
          by_cases e : j = k
          · subst e; exact he
          · exact HU.out j (by omega)
        have hd : decide ((nthR rs k).2.2 = q) = false := decide_eq_false he
        clear he
        go_wp2_with fail
        refine HC1.out.mono ?_
        rintro e w1 ⟨rfl, hb1⟩
        have HB1 : Hid (Below w.heap.size w w1) := grow_on HB.out hb1
        clear hb1
        go_wp2
        go_roundw
        case rel => exact ⟨k + 1, by go_num, by omega, HU1.out, HB1.out⟩
        case measure => simp [intOf]; omega
    · have hge : ¬ (k : Int) < (rs.length : Int) := by omega
      have HN : Hid (hasK (labs rs) q = false) := hasK_miss fun j hj => HU.out j (by omega)
      go_wp2
      go_ret
      exact ⟨⟨_, rfl, .inl ⟨rfl, HN.out⟩⟩, HB.out⟩
theorem containsF_any (g c b0 : Nat) (a' : Option Addr) (cap' : Nat) (rs : List Row) (q : List Lab) (w : World) (hk : RdK w g rs) (hc : w.cell? ⟨b0, 0, none⟩ = some (.slice a' q.length cap')) (hb : b0 < w.heap.size) (hr' : Reads w a' q) (hl : rs.length ≤ maxLen) (hl' : q.length ≤ maxLen) :
    Calls Try.prog 69 #[.slice (some ⟨g, 0, none⟩) rs.length c, .func (.func 70) #[] #[.pointer (some ⟨b0, 0, none⟩)]] w fun e w' => e = .returned (.bool (hasK (labs rs) q)) ∧ Below w.heap.size w w' := by
  have HC1 : Hid (Calls Try.prog 85 #[.slice (some ⟨g, 0, none⟩) rs.length c, .func (.func 70) #[] #[.pointer (some ⟨b0, 0, none⟩)]] w fun e w' => (∃ x, e = .returned (.int .i64 x) ∧ idxK rs q x) ∧ Below w.heap.size w w') := indexF_any g c b0 a' cap' rs q w hk hc hb hr' hl hl'
  clear hk hc hr'
  go_enter Try.func69, Try.ntmps69
  go_wp2_with fail
  refine HC1.out.mono ?_
  rintro e w1 ⟨⟨x, rfl, hx⟩, hb1⟩
  have HB : Hid (Below w.heap.size w w1) := hb1
  clear hb1 HC1
  rcases hx with ⟨rfl, hx⟩ | ⟨hx0, hx⟩
  · have HN : Hid (hasK (labs rs) q = false) := hx
    clear hx
    go_wp2
    go_ret
    exact ⟨retB HN.out.symm, HB.out⟩
  · have HN : Hid (hasK (labs rs) q = true) := hx
    clear hx
    go_wp2
    go_ret
    exact ⟨retB HN.out.symm, HB.out⟩
theorem hasSet_any (g c : Nat) (a' : Option Addr) (cap' : Nat) (rs : List Row) (q : List Lab) (w : World) (hk : RdK w g rs) (hr' : Reads w a' q) (hl : rs.length ≤ maxLen) (hl' : q.length ≤ maxLen) :
    Calls Try.prog 49 #[.slice (some ⟨g, 0, none⟩) rs.length c, .slice a' q.length cap'] w fun e w' => e = .returned (.bool (hasK (labs rs) q)) ∧ Below w.heap.size w w' := by
  have HC : ∀ T, Hid (Calls Try.prog 69 #[.slice (some ⟨g, 0, none⟩) rs.length c, .func (.func 70) #[] #[.pointer (some ⟨w.heap.size, 0, none⟩)]] (w.alloc (.cells #[.slice a' q.length cap'] T)) fun e w' => e = .returned (.bool (hasK (labs rs) q)) ∧ Below (w.alloc (.cells #[.slice a' q.length cap'] T)).heap.size (w.alloc (.cells #[.slice a' q.length cap'] T)) w') := fun T =>
    containsF_any g c w.heap.size a' cap' rs q _ (hk.below (Go.Joins.below_alloc1 w _)) (by simp) (by simp) (hr'.below (Go.Joins.below_alloc1 w _)) hl hl'
  clear hk hr'
  go_enter Try.func49, Try.ntmps49
  go_wp2_with fail
  refine (HC _).out.mono ?_
  rintro e w1 ⟨rfl, hb1⟩
  have HB : Hid (Below w.heap.size w w1) := grow_on (Go.Joins.below_alloc1 w _) hb1
  clear hb1 HC
  go_wp2
  go_ret
  exact ⟨rfl, HB.out⟩

set_option maxRecDepth 100000 in
set_option maxHeartbeats 1600000 in
theorem implKeys_any (a a' : Option Addr) (cap cap' : Nat) (P : List PAl) (by' : List ByteArray) (w : World) (hr : RdA w a P) (hr' : RdS w a' by') (hl : P.length ≤ 1048576) (hs : sumL P ≤ 1048576) (hl' : by'.length ≤ maxLen) :
    Calls Try.prog 11 #[.slice a P.length cap, .slice a' by'.length cap'] w fun e w' => ∃ v, e = .returned v ∧ ∃ rs, KSt w w' v rs ∧ labs rs = keysB P by' := by
  have HR : Hid (RdA w a P) := hr
  have HS : Hid (RdS w a' by') := hr'
  have HL : Hid (sumL P ≤ 1048576 ∧ by'.length ≤ maxLen) := ⟨hs, hl'⟩
  clear hr hr' hl' hs
  obtain ⟨i0, hi, hz0, hz1, hz2⟩ := info_parts infoK
  go_enter Try.func11, Try.ntmps11
  go_wp2
  go_loopw [5, 12] (fun v i w' => ∃ (k : Nat) (rs : List Row), i = .int .i64 k ∧ k ≤ P.length ∧ KSt w w' v rs ∧ labs rs = keysTo P by' k) (fun _ i _ => P.length - (intOf i).toNat)
  case atStart => exact ⟨0, [], rfl, Nat.zero_le _, ⟨World.ownsRow_made w #[] 0 (Nat.le_refl _) (by simp [maxLen]) rfl, ⟨w.heap.size, 0, rfl⟩, fun x hx => by simp at hx, List.Pairwise.nil, (Below.refl _ _).alloc (Nat.le_refl _) _⟩, rfl⟩
  case round =>
    obtain ⟨k, rs, rfl, hk, ho, he⟩ := hrel
    obtain ⟨g, c, rfl⟩ := ho.lies
    have HO : Hid (KSt w wr (.slice (some ⟨g, 0, none⟩) rs.length c) rs) := ho
    have HE : Hid (labs rs = keysTo P by' k) := he
    have HN : Hid (rs.length ≤ k) := by show _ ≤ _; rw [← labs_len, he]; exact keys_len hk
    clear ho he
    by_cases hlt : k < P.length
    · have hlt' : (k : Int) < (P.length : Int) := by omega
      have HU : Hid (keysTo P by' (k + 1) = addK (labs rs) (projB (nthP P k).l by')) := by show _ = _; rw [HE.out]; exact keys_up hlt
      obtain ⟨b, off, rfl, hb, ad, cp, hat⟩ := (HR.out.below HO.out.low).get hlt
      have h2 := hat.c0
      have h3 := hat.c1
      have h4 := hat.c2
      have h5 := hat.c3
      have HA : Hid (Reads wr ad (nthP P k).l) := hat.reads
      have HLn : Hid ((nthP P k).l.length ≤ 1048576) := Nat.le_trans (sum_nth hlt) HL.out.1
      clear hat
      go_wp2_with fail
      refine (implKey_any ad a' cp cap' _ _ _ _ by' _ (HA.out.below (Go.Joins.below_alloc1 wr _)) (HS.out.below (grow_on HO.out.low (Go.Joins.below_alloc1 wr _))) HLn.out HL.out.2).mono ?_
      rintro e w1 ⟨⟨M, c1, rfl, hown⟩, hb1⟩
      have hb0 : Below wr.heap.size wr w1 := grow_on (Go.Joins.below_alloc1 wr _) hb1
      have HO1 : Hid (KSt w w1 (.slice (some ⟨g, 0, none⟩) rs.length c) rs) := HO.out.grow hb0
      have hM : wr.heap.size ≤ M := by have := hown.1; simp at this; omega
      have HX : Hid (OwnK w.heap.size w1 (M, c1, projB (nthP P k).l by') ∧ ∀ y ∈ rs, y.1 < M) := by
        refine ⟨⟨Nat.le_trans HO.out.low.size hM, Nat.le_trans (proj_len _ _) HLn.out, hown.2⟩, fun y hy => ?_⟩
        exact Nat.lt_of_lt_of_le (HO.out.keys y hy).lt hM
      clear hown hb1 hb0 hM h2 h3 h4 h5 HA HO
      have HQ : Hid ((projB (nthP P k).l by').length ≤ maxLen) := len_max HX.out.1.2.1
      generalize projB (nthP P k).l by' = q at HX HU HQ ⊢
      have hrl : rs.length ≤ 1048576 := by have := HN.out; omega
      go_wp2_with fail
      refine (hasSet_any g c (some ⟨M, 0, none⟩) c1 rs q _ HO1.out.rd HX.out.1.reads (len_max hrl) HQ.out).mono ?_
      rintro e w2 ⟨rfl, hb2⟩
      have HO2 : Hid (KSt w w2 (.slice (some ⟨g, 0, none⟩) rs.length c) rs) := HO1.out.grow hb2
      have HX2 : Hid (OwnK w.heap.size w2 (M, c1, q) ∧ ∀ y ∈ rs, y.1 < M) := ⟨HX.out.1.grow hb2, HX.out.2⟩
      clear hb2 HO1 HX
      cases hp : hasK (labs rs) q with
      | true =>
        have HF : Hid (labs rs = keysTo P by' (k + 1)) := by show _ = _; rw [HU.out, add_yes hp]
        clear hp
        go_wp2
        go_roundw
        case rel => exact ⟨k + 1, rs, by go_num, by omega, HO2.out, HF.out⟩
        case measure => simp [intOf]; omega
      | false =>
        have HF : Hid (labs (rs ++ [(M, c1, q)]) = keysTo P by' (k + 1)) := by show _ = _; rw [HU.out, add_no hp]; simp [labs]
        have HO3 : Hid (KSt w (w2.alloc (.cells #[.slice (some ⟨M, 0, none⟩) q.length c1] 30)) (.slice (some ⟨g, 0, none⟩) rs.length c) rs) := HO2.out.grow (Go.Joins.below_alloc1 w2 _)
        have HX3 : Hid (OwnK w.heap.size (w2.alloc (.cells #[.slice (some ⟨M, 0, none⟩) q.length c1] 30)) (M, c1, q)) := HX2.out.1.grow (Go.Joins.below_alloc1 w2 _)
        clear hp
        go_wp2_with (at_builtin; refine wpList_append_own_at _ rfl _ _ 28 rfl w.heap.size 30 i0 (.slice none 0 0) 1 24 Try.underlying28 hi hz0 hz1 hz2 rfl (by decide) _ _ _ rfl HO3.out.own ⟨w2.heap.size, 0, none⟩ 1 1 [keyV (M, c1, q)] rfl rfl ?c1 ?c2 ?c3 ?c4 ?c5 ?_)
        case c1 => exact blk_news (Blk.new _ _ _)
        case c2 => exact key_one _
        case c3 => unfold maxLen; omega
        case c4 => omega
        case c5 => have := HO2.out.low.size; simp; omega
        intro v' w3 hown hg hnil hat
        have HO4 : Hid (KSt w w3 v' (rs ++ [(M, c1, q)])) := HO3.out.add HX3.out HX2.out.2 hown hg hnil
        clear hown hg hnil hat
        go_wp2
        go_roundw
        case rel => exact ⟨k + 1, _, by go_num, by omega, HO4.out, HF.out⟩
        case measure => simp [intOf]; omega
    · have hge : ¬ (k : Int) < (P.length : Int) := by omega
      have HF : Hid (labs rs = keysB P by') := by show _ = _; rw [HE.out]; exact keys_all (by omega)
      go_wp2
      go_ret
      exact ⟨_, rfl, rs, HO.out, HF.out⟩
end Go.Proofs.Ytmachabgnbpeaaa.Kys
