/-
  PROVED: impl.shelve lays the chains of a slice in a map of its own, each under its number and how many of that number are ahead of it, and these keys in order in a slice of its own; nothing that was there is changed.
  PROVED: over a part in memory spec.PartOk and impl.PartOk answer alike, as a plain function on lists of chains says; nothing that was there is changed.
  PROVED: over a part in memory spec.l7At finds the first chain of a number, and spec.FindIn gives a copy of the first alarm of the labels in it, as plain functions on lists of chains say; nothing that was there is changed.
  PROVED: over a part in memory impl.FindIn gives a copy of the first alarm of the labels in the first chain of their number, as a plain function on lists of chains says; nothing that was there is changed.
  PROVED: what FindIn answers, case by case, of both sides; what an alarm that was found is; marks and their search in an alarm without labels.
  PROVED: over a slice of parts in memory spec.HomeOf and impl.HomeOf answer alike, as a plain function says; so does impl.homePart, by a pointer; nothing that was there is changed.
  PROVED: over a slice of parts and a slice of labels in memory spec.FindAlarm and impl.FindAlarm answer alike, as a plain function says, in memory of their own; nothing that was there is changed.
-/
import Derived.Test.YtbccaioahifloaaQSts
import Derived.Test.YtbccaioahifloaaQMps
import Derived.Deep.DeepCutAuto
import Derived.Test.YtbccaioahifloaaQAlmK
namespace Go.Proofs.Ytbccaioahifloaa.PrtH
open Go.RowKit
open Go.Proofs.Ytbccaioahifloaa.Labs Go.Proofs.Ytbccaioahifloaa.LabS Go.Proofs.Ytbccaioahifloaa.Alms Go.Proofs.Ytbccaioahifloaa.AlmM Go.Proofs.Ytbccaioahifloaa.Over Go.Proofs.Ytbccaioahifloaa.Blk Go.Proofs.Ytbccaioahifloaa.App Go.Proofs.Ytbccaioahifloaa.Rws Go.Proofs.Ytbccaioahifloaa.ChnI Go.Proofs.Ytbccaioahifloaa.ChnC Go.Proofs.Ytbccaioahifloaa.ChnP Go.Proofs.Ytbccaioahifloaa.ChnK Go.Proofs.Ytbccaioahifloaa.Chs Go.Proofs.Ytbccaioahifloaa.Prt Go.Proofs.Ytbccaioahifloaa.Mps
set_option linter.unusedVariables false

theorem mkMap2 (w : World) (k : Int) : (Instr.makeMap 88 (some (.int .i64 k))).run Try.prog w = .ok (.map (some w.heap.size)) (w.alloc (.map #[] 0)) := by
  kernel_rfl
theorem mkMap1 (w : World) : (Instr.makeMap 112 none).run Try.prog w = .ok (.map (some w.heap.size)) (w.alloc (.map #[] 0)) := rfl
theorem infoS : (Try.prog.info? 94).map (fun i => (i.zero, i.size, i.bytes)) = some (some (.agg #[.int .i64 0, .int .i64 0]), 2, 16) := by kernel_rfl
theorem zeroC (w : World) : (zeroValue 77).run Try.prog w = .ok (.agg #[.int .i64 0, .slice none 0 0]) w := by kernel_rfl
theorem zeroI (w : World) : (zeroValue 3).run Try.prog w = .ok (.int .i64 0) w := by kernel_rfl

/-- how many of the first k chains have the number f -/
def cntF (C : List PCh) (f : Int) : Nat → Nat
  | 0 => 0
  | k + 1 => cntF C f k + if (nthC C k).f = f then 1 else 0
theorem cntF_le (C : List PCh) (f : Int) : ∀ k, cntF C f k ≤ k
  | 0 => Nat.le_refl _
  | k + 1 => by have := cntF_le C f k; rw [cntF]; split <;> omega
theorem cntF_mono (C : List PCh) (f : Int) {i j : Nat} (h : i ≤ j) : cntF C f i ≤ cntF C f j := by
  induction j with
  | zero => have : i = 0 := by omega
            subst this; exact Nat.le_refl _
  | succ j ih =>
    by_cases e : i = j + 1
    · subst e; exact Nat.le_refl _
    · have := ih (by omega)
      rw [cntF]; omega
/-- the key of the i-th chain -/
def keyC (C : List PCh) (i : Nat) : Int × Int := ((nthC C i).f, (cntF C (nthC C i).f i : Int))
theorem keyC_ne {C : List PCh} {i j : Nat} (h : i < j) : keyC C i ≠ keyC C j := fun e => by
  have e1 : (nthC C i).f = (nthC C j).f := congrArg Prod.fst e
  have e2 : (cntF C (nthC C i).f i : Int) = (cntF C (nthC C j).f j : Int) := congrArg Prod.snd e
  have h1 := cntF_mono C (nthC C i).f (i := i + 1) (j := j) (by omega)
  rw [cntF, if_pos rfl] at h1
  rw [e1] at h1 e2
  omega
theorem keyC_inj {C : List PCh} {i j : Nat} (h : keyC C i = keyC C j) : i = j := by
  rcases Nat.lt_trichotomy i j with hlt | e | hlt
  · exact absurd h (keyC_ne hlt)
  · exact e
  · exact absurd h.symm (keyC_ne hlt)
/-- the map of the chains, as far as they have come -/
def shG (C : List PCh) (val : Nat → Value) : Nat → Int × Int → Option Value
  | 0 => fun _ => none
  | k + 1 => updG (shG C val k) (keyC C k) (some (val k))
theorem shG_at {C : List PCh} {val : Nat → Value} {i : Nat} : ∀ {k : Nat}, i < k → shG C val k (keyC C i) = some (val i)
  | 0, h => by omega
  | k + 1, h => by
    rw [shG]
    by_cases e : i = k
    · subst e; exact upd_at _ _ _
    · rw [upd_no (fun q => e (keyC_inj q))]
      exact shG_at (by omega)
theorem shG_no {C : List PCh} {val : Nat → Value} {p : Int × Int} : ∀ {k : Nat}, (∀ i, i < k → p ≠ keyC C i) → shG C val k p = none
  | 0, _ => rfl
  | k + 1, h => by
    rw [shG, upd_no (h k (by omega))]
    exact shG_no fun i hi => h i (by omega)
/-- the map of how many have come of each number -/
def metG (C : List PCh) (k : Nat) (f : Int) : Option Value := if cntF C f k = 0 then none else some (.int .i64 (cntF C f k : Int))
theorem metG_get (C : List PCh) (k : Nat) (f : Int) : (metG C k f).getD (.int .i64 0) = .int .i64 (cntF C f k : Int) := by
  unfold metG
  split
  · next h => rw [h]; rfl
  · rfl
theorem metG_up (C : List PCh) (k : Nat) (f : Int) : metG C (k + 1) f = updG (metG C k) (nthC C k).f (some (.int .i64 ((cntF C (nthC C k).f k : Int) + 1))) f := by
  by_cases e : f = (nthC C k).f
  · subst e
    rw [upd_at]
    have q : cntF C (nthC C k).f (k + 1) = cntF C (nthC C k).f k + 1 := by rw [cntF, if_pos rfl]
    unfold metG
    rw [q, if_neg (by omega)]
    rfl
  · rw [upd_no e]
    unfold metG
    have q : cntF C f (k + 1) = cntF C f k := by rw [cntF, if_neg (fun h => e h.symm)]; rfl
    rw [q]
/-- the slots, as far as they are laid -/
structure SlotsK (w : World) (M : Nat) (C : List PCh) (k : Nat) (cs : Array Value) : Prop where
  blk : Blk w M cs 94
  size : cs.size = C.length * 2
  cell : ∀ i, i < k → cs[i * 2]? = some (.int .i64 (keyC C i).1) ∧ cs[i * 2 + 1]? = some (.int .i64 (keyC C i).2)
theorem SlotsK.next {w : World} {M : Nat} {C : List PCh} {k : Nat} {cs : Array Value} (h : SlotsK w M C k cs) (hk : k < C.length) :
    SlotsK ((w.setCell ⟨M, k * 2, none⟩ (.int .i64 (keyC C k).1)).setCell ⟨M, k * 2 + 1, none⟩ (.int .i64 (keyC C k).2)) M C (k + 1) ((cs.setIfInBounds (k * 2) (.int .i64 (keyC C k).1)).setIfInBounds (k * 2 + 1) (.int .i64 (keyC C k).2)) := by
  have hs := h.size
  refine ⟨(h.blk.set _ _).set _ _, by simpa using hs, fun i hi => ?_⟩
  by_cases e : i = k
  · subst e
    exact ⟨by rw [set_ne (by omega), set_at (by omega)], by rw [set_at (by simp; omega)]⟩
  · obtain ⟨h0, h1⟩ := h.cell i (by omega)
    exact ⟨by rw [set_ne (by omega), set_ne (by omega)]; exact h0, by rw [set_ne (by omega), set_ne (by omega)]; exact h1⟩
theorem SlotsK.grow {w w' : World} {M : Nat} {C : List PCh} {k : Nat} {cs : Array Value} (h : SlotsK w M C k cs) (hb : Below w.heap.size w w') : SlotsK w' M C k cs := ⟨h.blk.grow hb, h.size, h.cell⟩
theorem SlotsK.kept {w w' : World} {M : Nat} {C : List PCh} {k : Nat} {cs : Array Value} (h : SlotsK w M C k cs) (hb : Blk w' M cs 94) : SlotsK w' M C k cs := ⟨hb, h.size, h.cell⟩
theorem mapNew {ι : Type} {enc : ι → Value} {w : World} {M : Nat} (h : M = w.heap.size) : MapG enc (w.alloc (.map #[] 0)) M (fun _ => none) := by subst h; exact MapG.new w
theorem mapDrew {ι : Type} {enc : ι → Value} {w : World} {M : Nat} {g : ι → Option Value} (h : MapG enc w M g) : MapG enc w.drew M g := h
theorem mapDown {w0 w w' : World} {B b : Nat} (h : Below B w0 w) (hg : w.grownBy w' (some b)) (hw : B ≤ w0.heap.size) (hB : B ≤ b) : Below B w0 w' := h.grown hg (Nat.le_trans hw h.size) (fun k e => by have : b = k := Option.some.inj e; omega)
/-- the value that stands for a chain in the map -/
def chV (x : PCh) (ad : Option Addr) (cp : Nat) : Value := .agg #[.int .i64 x.f, .slice ad x.P.length cp]
/-- where the chains' alarms lie -/
theorem pickC {R : World → Option Addr → List PAl → Prop} {w : World} {a : Option Addr} {C : List PCh} (h : RdG R w a C) : ∃ (b off : Nat) (ad : Nat → Option Addr) (cp : Nat → Nat), (C = [] ∨ (a = some ⟨b, off, none⟩ ∧ b < w.heap.size)) ∧ ∀ i, i < C.length → AtC R w b off i (nthC C i) (ad i) (cp i) := by
  rcases h with h | ⟨b, off, e, hb, hc⟩
  · exact ⟨0, 0, fun _ => none, fun _ => 0, .inl h, fun i hi => by rw [h] at hi; simp at hi⟩
  · obtain ⟨f, hf⟩ := Go.Deep.choose_lt (α := Option Addr × Nat) (p := fun i z => AtC R w b off i (nthC C i) z.1 z.2) (n := C.length) (fun i hi => by obtain ⟨ad, cp, h⟩ := hc i hi; exact ⟨(ad, cp), h⟩)
    exact ⟨b, off, fun i => (f i).1, fun i => (f i).2, .inr ⟨e, hb⟩, hf⟩
/-- what shelve has laid: a map at Mm and a slice at Ms -/
structure Shelved (lo : Nat) (w w' : World) (C : List PCh) (ad : Nat → Option Addr) (cp : Nat → Nat) (Mm Ms : Nat) : Prop where
  map : MapG TwoK w' Mm (shG C (fun i => chV (nthC C i) (ad i) (cp i)) C.length)
  slots : ∃ cs, SlotsK w' Ms C C.length cs
  lm : lo ≤ Mm
  ls : lo ≤ Ms
  reads : ∀ i, i < C.length → RdA w (ad i) (nthC C i).P
set_option maxRecDepth 100000 in
set_option maxHeartbeats 4000000 in
theorem shelve_any (a : Option Addr) (cap : Nat) (C : List PCh) (w : World) (hr : RdG RdA w a C) (hl : C.length ≤ 1048576) :
    Calls Try.prog 64 #[.slice a C.length cap] w fun e w' => (∃ (Mm Ms : Nat), e = .returned (.agg #[.map (some Mm), .slice (some ⟨Ms, 0, none⟩) C.length C.length]) ∧ ∃ (ad : Nat → Option Addr) (cp : Nat → Nat), Shelved w.heap.size w w' C ad cp Mm Ms) ∧ Below w.heap.size w w' := by
  obtain ⟨b, off, ad, cp, ha, hat⟩ := pickC hr
  have HA : Hid ((C = [] ∨ (a = some ⟨b, off, none⟩ ∧ b < w.heap.size)) ∧ ∀ i, i < C.length → AtC RdA w b off i (nthC C i) (ad i) (cp i)) := ⟨ha, hat⟩
  clear hr ha hat
  have hmk := make_k (P := Try.prog) 89 94 (.agg #[.int .i64 0, .int .i64 0]) 2 16 Try.underlying89 infoS .i64 .i64 C.length (by omega) (by omega)
  have hmm := mkMap2
  go_enter Try.func64, Try.ntmps64
  go_upto_region 1 with fail
  go_cut [3] from 8 to 14 (fun s3 wx => ∃ (N Mm Ms : Nat), s3 = .pointer (some ⟨N, 0, none⟩) ∧ Blk wx N #[.map (some Mm), .slice (some ⟨Ms, 0, none⟩) C.length C.length] 91 ∧ MapG TwoK wx Mm (fun _ => none) ∧ Blk wx Ms (madeCells (Value.agg #[.int .i64 0, .int .i64 0]).cells (C.length * 2)) 94 ∧ (w.heap.size + 1 ≤ N ∧ w.heap.size + 1 ≤ Mm ∧ w.heap.size + 1 ≤ Ms) ∧ Blk wx w.heap.size #[.map none, .slice none 0 0] 91 ∧ Below w.heap.size w wx)
  case first =>
    go_region
    all_goals (go_wp2_with fail)
    all_goals go_meet
    · exact ⟨_, w.heap.size + 1, w.heap.size + 1 + 1, rfl, (Blk.new_at (by simp)).drew, mapDrew (((mapNew (by simp)).alloc _).alloc _), ((Blk.new_at (by simp)).alloc _).drew, ⟨by omega, by omega, by omega⟩, ((((Blk.new _ _ _).alloc _).alloc _).alloc _).drew, (((Alm.below3 w _ _ _).alloc (by simp; omega) _)).drew⟩
    · exact ⟨_, w.heap.size + 1, w.heap.size + 1 + 1 + 1, rfl, ((Blk.new_at (by simp)).alloc _).drew, mapDrew (((mapNew (by simp)).alloc _).alloc _), (Blk.new_at (by simp)).drew, ⟨by omega, by omega, by omega⟩, ((((Blk.new _ _ _).alloc _).alloc _).alloc _).drew, (((Alm.below3 w _ _ _).alloc (by simp; omega) _)).drew⟩
    · exact ⟨_, w.heap.size + 1 + 1, w.heap.size + 1, rfl, (Blk.new_at (by simp)).drew, mapDrew ((mapNew (by simp)).alloc _), (((Blk.new_at (by simp)).alloc _).alloc _).drew, ⟨by omega, by omega, by omega⟩, ((((Blk.new _ _ _).alloc _).alloc _).alloc _).drew, (((Alm.below3 w _ _ _).alloc (by simp; omega) _)).drew⟩
    · exact ⟨_, w.heap.size + 1 + 1 + 1, w.heap.size + 1, rfl, ((Blk.new_at (by simp)).alloc _).drew, mapDrew (mapNew (by simp)), (((Blk.new_at (by simp)).alloc _).alloc _).drew, ⟨by omega, by omega, by omega⟩, ((((Blk.new _ _ _).alloc _).alloc _).alloc _).drew, (((Alm.below3 w _ _ _).alloc (by simp; omega) _)).drew⟩
    · exact ⟨_, w.heap.size + 1 + 1, w.heap.size + 1 + 1 + 1, rfl, (((Blk.new_at (by simp)).alloc _).alloc _).drew, mapDrew ((mapNew (by simp)).alloc _), (Blk.new_at (by simp)).drew, ⟨by omega, by omega, by omega⟩, ((((Blk.new _ _ _).alloc _).alloc _).alloc _).drew, (((Alm.below3 w _ _ _).alloc (by simp; omega) _)).drew⟩
    · exact ⟨_, w.heap.size + 1 + 1 + 1, w.heap.size + 1 + 1, rfl, (((Blk.new_at (by simp)).alloc _).alloc _).drew, mapDrew (mapNew (by simp)), ((Blk.new_at (by simp)).alloc _).drew, ⟨by omega, by omega, by omega⟩, ((((Blk.new _ _ _).alloc _).alloc _).alloc _).drew, (((Alm.below3 w _ _ _).alloc (by simp; omega) _)).drew⟩
  case rest =>
    obtain ⟨N, Mm, Ms, rfl, hN, hM, hS, hlo, hR, hB⟩ := hcut
    obtain ⟨w1, hwc⟩ : ∃ x, x = wc := ⟨_, rfl⟩
    subst hwc
    clear hmk hmm
    have H1 : Hid (Blk w1 N #[.map (some Mm), .slice (some ⟨Ms, 0, none⟩) C.length C.length] 91 ∧ MapG TwoK w1 Mm (shG C (fun i => chV (nthC C i) (ad i) (cp i)) 0) ∧ SlotsK w1 Ms C 0 (madeCells (Value.agg #[.int .i64 0, .int .i64 0]).cells (C.length * 2)) ∧ Blk w1 w.heap.size #[.map none, .slice none 0 0] 91 ∧ Below w.heap.size w w1) := ⟨hN, hM, ⟨hS, by simp [size_madeCells], fun i hi => by omega⟩, hR, hB⟩
    have HLO : Hid ((w.heap.size + 1 ≤ N ∧ w.heap.size + 1 ≤ Mm ∧ w.heap.size + 1 ≤ Ms) ∧ Mm < w1.heap.size) := ⟨hlo, hM.lt⟩
    have hmm1 := mkMap1
    clear hN hM hS hlo hR hB
    go_wp2
    clear hmm1
    go_loopw [18] (fun i w' => ∃ (k : Nat) (cs : Array Value), i = .int .i64 k ∧ k ≤ C.length ∧ Blk w' N #[.map (some Mm), .slice (some ⟨Ms, 0, none⟩) C.length C.length] 91 ∧ MapG TwoK w' Mm (shG C (fun i => chV (nthC C i) (ad i) (cp i)) k) ∧ MapG IntK w' w1.heap.size (metG C k) ∧ SlotsK w' Ms C k cs ∧ Blk w' w.heap.size #[.map none, .slice none 0 0] 91 ∧ Below w.heap.size w w') (fun i _ => C.length - (intOf i).toNat)
    case atStart => exact ⟨0, _, rfl, Nat.zero_le _, H1.out.1.alloc _, H1.out.2.1.alloc _, (MapG.new w1).congr (fun f => by unfold metG cntF; rfl), H1.out.2.2.1.grow (Go.Joins.below_alloc1 w1 _), H1.out.2.2.2.1.alloc _, grow_on H1.out.2.2.2.2 (Go.Joins.below_alloc1 w1 _)⟩
    case round =>
      obtain ⟨k, cs, rfl, hk, hN, hM, hT, hS, hR, hB⟩ := hrel
      have HW : Hid (Blk wr N #[.map (some Mm), .slice (some ⟨Ms, 0, none⟩) C.length C.length] 91 ∧ MapG TwoK wr Mm (shG C (fun i => chV (nthC C i) (ad i) (cp i)) k) ∧ MapG IntK wr w1.heap.size (metG C k) ∧ SlotsK wr Ms C k cs ∧ Blk wr w.heap.size #[.map none, .slice none 0 0] 91 ∧ Below w.heap.size w wr) := ⟨hN, hM, hT, hS, hR, hB⟩
      clear hN hM hT hS hR hB
      by_cases hlt : k < C.length
      · have hlt' : (k : Int) < (C.length : Int) := by omega
        obtain ⟨rfl, hb⟩ : a = some ⟨b, off, none⟩ ∧ b < w.heap.size := by
          rcases HA.out.1 with e | h
          · rw [e] at hlt; simp at hlt
          · exact h
        have x0 : wr.cell? ⟨b, off + k * 2, none⟩ = some (.int .i64 (nthC C k).f) := (HW.out.2.2.2.2.2.cell hb).trans (HA.out.2 k hlt).c0
        have x1 : wr.cell? ⟨b, off + k * 2 + 1, none⟩ = some (.slice (ad k) (nthC C k).P.length (cp k)) := (HW.out.2.2.2.2.2.cell hb).trans (HA.out.2 k hlt).c1
        have hcb := cntF_le C (nthC C k).f k
        have hw1 : IntKind.i64.wrap ((cntF C (nthC C k).f k : Int) + 1) = (cntF C (nthC C k).f k : Int) + 1 := by rw [IntKind.wrap_i64]; omega
        go_wp2_with (first | (at_lookup; refine wp_lookup _ rfl _ _ 112 false rfl 3 3 IntK (asked_int Try.underlying3) Try.underlying112 (zeroI _) w1.heap.size (metG C k) rfl (by first | exact HW.out.2.2.1.alloc _ | exact (HW.out.2.2.1.alloc _).alloc _) (nthC C k).f rfl (.int .i64 (cntF C (nthC C k).f k : Int)) (metG_get _ _ _) ?_) | (at_mapUpdate; refine wp_update _ rfl _ _ _ 112 rfl 3 3 IntK (asked_int Try.underlying3) Try.underlying112 w1.heap.size (metG C k) rfl ((HW.out.2.2.1.alloc _).alloc _) (nthC C k).f (.int .i64 ((cntF C (nthC C k).f k : Int) + 1)) rfl rfl ?_))
        intro w3 hm3 hg3 hs3
        have HB2 : Hid (∀ o1 o2, Below wr.heap.size wr ((wr.alloc o1).alloc o2)) := fun o1 o2 => Go.Joins.below_alloc2 wr o1 o2
        have hk6 : Blk w3 wr.heap.size #[.int .i64 (nthC C k).f, .slice (ad k) (nthC C k).P.length (cp k)] 77 := blk_map ((Blk.new _ _ _).alloc _) ((HW.out.2.2.1.alloc _).alloc _) hg3
        have hk7 : Blk w3 (wr.heap.size + 1) #[.int .i64 (nthC C k).f, .int .i64 (cntF C (nthC C k).f k : Int)] 94 := blk_map (Blk.new_at (by simp)) ((HW.out.2.2.1.alloc _).alloc _) hg3
        have hN3 : Blk w3 N #[.map (some Mm), .slice (some ⟨Ms, 0, none⟩) C.length C.length] 91 := blk_map ((HW.out.1.alloc _).alloc _) ((HW.out.2.2.1.alloc _).alloc _) hg3
        have hS3 : SlotsK w3 Ms C k cs := HW.out.2.2.2.1.kept (blk_map ((HW.out.2.2.2.1.blk.alloc _).alloc _) ((HW.out.2.2.1.alloc _).alloc _) hg3)
        have hR3 : Blk w3 w.heap.size #[.map none, .slice none 0 0] 91 := blk_map ((HW.out.2.2.2.2.1.alloc _).alloc _) ((HW.out.2.2.1.alloc _).alloc _) hg3
        have hM3 : MapG TwoK w3 Mm (shG C (fun i => chV (nthC C i) (ad i) (cp i)) k) := ((HW.out.2.1.alloc _).alloc _).far hg3 (fun e => by have h : Mm = w1.heap.size := Option.some.inj e; have := HLO.out.2; omega)
        have hT3 : MapG IntK w3 w1.heap.size (metG C (k + 1)) := hm3.congr (metG_up C k)
        have hB3 : Below w.heap.size w w3 := mapDown (grow_on HW.out.2.2.2.2.2 (HB2.out _ _)) hg3 (Nat.le_refl _) (by have := H1.out.2.2.2.2.size; omega)
        have H3 : Hid (Blk w3 N #[.map (some Mm), .slice (some ⟨Ms, 0, none⟩) C.length C.length] 91 ∧ SlotsK w3 Ms C k cs ∧ Blk w3 w.heap.size #[.map none, .slice none 0 0] 91 ∧ MapG TwoK w3 Mm (shG C (fun i => chV (nthC C i) (ad i) (cp i)) k) ∧ MapG IntK w3 w1.heap.size (metG C (k + 1)) ∧ Below w.heap.size w w3 ∧ Blk w3 wr.heap.size #[.int .i64 (nthC C k).f, .slice (ad k) (nthC C k).P.length (cp k)] 77 ∧ Blk w3 (wr.heap.size + 1) #[.int .i64 (nthC C k).f, .int .i64 (cntF C (nthC C k).f k : Int)] 94) := ⟨hN3, hS3, hR3, hM3, hT3, hB3, hk6, hk7⟩
        have n0 : w3.cell? ⟨N, 0, none⟩ = some (.map (some Mm)) := hN3.cell 0
        have q0 : w3.cell? ⟨wr.heap.size, 0, none⟩ = some (.int .i64 (nthC C k).f) := hk6.cell 0
        have q1 : w3.cell? ⟨wr.heap.size, 1, none⟩ = some (.slice (ad k) (nthC C k).P.length (cp k)) := hk6.cell 1
        have t0 : w3.cell? ⟨wr.heap.size + 1, 0, none⟩ = some (.int .i64 (nthC C k).f) := hk7.cell 0
        have t1 : w3.cell? ⟨wr.heap.size + 1, 1, none⟩ = some (.int .i64 (cntF C (nthC C k).f k : Int)) := hk7.cell 1
        clear hk6 hk7 hN3 hS3 hR3 hM3 hT3 hB3 hm3 hg3 hs3 x0 x1
        go_wp2_with (at_mapUpdate; refine wp_update _ rfl _ _ _ 88 rfl 94 77 TwoK asked_slot Try.underlying88 Mm (shG C (fun i => chV (nthC C i) (ad i) (cp i)) k) rfl H3.out.2.2.2.1 (keyC C k) (chV (nthC C k) (ad k) (cp k)) rfl rfl ?_)
        intro w4 hm4 hg4 hs4
        have hM := H3.out.2.2.2.1
        have hN4 := blk_map H3.out.1 hM hg4
        have hS4 : SlotsK w4 Ms C k cs := H3.out.2.1.kept (blk_map H3.out.2.1.blk hM hg4)
        have hk74 := blk_map H3.out.2.2.2.2.2.2.2 hM hg4
        have hB4 : Below w.heap.size w w4 := mapDown H3.out.2.2.2.2.2.1 hg4 (Nat.le_refl _) (by have := HLO.out; omega)
        have hT4 : MapG IntK w4 w1.heap.size (metG C (k + 1)) := H3.out.2.2.2.2.1.far hg4 (fun e => by have h : w1.heap.size = Mm := Option.some.inj e; have := HLO.out.2; omega)
        have hR4 := blk_map H3.out.2.2.1 hM hg4
        have H4 : Hid (Blk w4 N #[.map (some Mm), .slice (some ⟨Ms, 0, none⟩) C.length C.length] 91 ∧ MapG TwoK w4 Mm (shG C (fun i => chV (nthC C i) (ad i) (cp i)) (k + 1)) ∧ MapG IntK w4 w1.heap.size (metG C (k + 1)) ∧ SlotsK w4 Ms C k cs ∧ Blk w4 w.heap.size #[.map none, .slice none 0 0] 91 ∧ Below w.heap.size w w4) := ⟨hN4, hm4, hT4, hS4, hR4, hB4⟩
        have n1 : w4.cell? ⟨N, 1, none⟩ = some (.slice (some ⟨Ms, 0, none⟩) C.length C.length) := hN4.cell 1
        have t0' : w4.cell? ⟨wr.heap.size + 1, 0, none⟩ = some (.int .i64 (nthC C k).f) := hk74.cell 0
        have t1' : w4.cell? ⟨wr.heap.size + 1, 1, none⟩ = some (.int .i64 (cntF C (nthC C k).f k : Int)) := hk74.cell 1
        have hsz := hS4.size
        obtain ⟨v0, s0⟩ : ∃ v, w4.cell? ⟨Ms, k * 2, none⟩ = some v := ⟨cs[k * 2]'(by omega), by rw [hS4.blk.cell]; simp⟩
        obtain ⟨v1, s1⟩ : ∃ v, w4.cell? ⟨Ms, k * 2 + 1, none⟩ = some v := ⟨cs[k * 2 + 1]'(by omega), by rw [hS4.blk.cell]; simp⟩
        have f0 := hS4.blk.frozen (k * 2)
        have f1 := hS4.blk.frozen (k * 2 + 1)
        clear hM hN4 hS4 hk74 hB4 hT4 hR4 hm4 hg4 hs4 hsz n0 q0 q1 t0 t1
        go_wp2
        go_roundw
        case rel =>
          have hne : ∀ {T : TypeId} {M : Nat} {ds : Array Value}, Blk w4 M ds T → T ≠ 94 → Ms ≠ M := fun h hT => blkT_ne H4.out.2.2.2.1.blk h (Ne.symm hT)
          have hmm : ∀ {ι : Type} {enc : ι → Value} {M : Nat} {g : ι → Option Value}, MapG enc w4 M g → Ms ≠ M := fun h => h.ne_blk H4.out.2.2.2.1.blk
          exact ⟨k + 1, _, by go_num, by omega, (H4.out.1.set_other (hne H4.out.1 (by decide)) _).set_other (hne H4.out.1 (by decide)) _, (H4.out.2.1.set (hmm H4.out.2.1)).set (hmm H4.out.2.1), (H4.out.2.2.1.set (hmm H4.out.2.2.1)).set (hmm H4.out.2.2.1), H4.out.2.2.2.1.next hlt, (H4.out.2.2.2.2.1.set_other (hne H4.out.2.2.2.2.1 (by decide)) _).set_other (hne H4.out.2.2.2.2.1 (by decide)) _, (H4.out.2.2.2.2.2.setCell (by have := HLO.out; show w.heap.size ≤ Ms; omega) _).setCell (by have := HLO.out; show w.heap.size ≤ Ms; omega) _⟩
        case measure => simp [intOf]; omega
      · have hge : ¬ (k : Int) < (C.length : Int) := by omega
        have HE : Hid (k = C.length) := by show k = C.length; omega
        have hN := HW.out.1
        have hR := HW.out.2.2.2.2.1
        have n0 : wr.cell? ⟨N, 0, none⟩ = some (.map (some Mm)) := hN.cell 0
        have n1 : wr.cell? ⟨N, 1, none⟩ = some (.slice (some ⟨Ms, 0, none⟩) C.length C.length) := hN.cell 1
        have r0 : wr.cell? ⟨w.heap.size, 0, none⟩ = some (.map none) := hR.cell 0
        have r1 : wr.cell? ⟨w.heap.size, 1, none⟩ = some (.slice none 0 0) := hR.cell 1
        have f0 := hR.frozen 0
        have f1 := hR.frozen 1
        clear hN hR
        go_wp2
        have hs := (HW.out.2.2.2.2.1.set 0 (.map (some Mm))).set 1 (.slice (some ⟨Ms, 0, none⟩) C.length C.length)
        have s0 := hs.cell 0
        have s1 := hs.cell 1
        refine bodyPost_ret (v := .agg #[.map (some Mm), .slice (some ⟨Ms, 0, none⟩) C.length C.length]) (by simp [results, Try.results64, go_sem, s0, s1]) rfl ?_
        have hq := HW.out
        rw [HE.out] at hq
        have hne : w.heap.size ≠ Ms := by have := HLO.out; omega
        have hnm : w.heap.size ≠ Mm := by have := HLO.out; omega
        exact ⟨⟨Mm, Ms, rfl, ad, cp, ⟨(hq.2.1.set hnm).set hnm, ⟨cs, hq.2.2.2.1.kept ((hq.2.2.2.1.blk.set_other hne _).set_other hne _)⟩, by have := HLO.out; omega, by have := HLO.out; omega, fun i hi => (HA.out.2 i hi).reads⟩⟩, ChnP.set2 HW.out.2.2.2.2.2 (Nat.le_refl _) _ _⟩
end Go.Proofs.Ytbccaioahifloaa.PrtH
namespace Go.Proofs.Ytbccaioahifloaa.PrtO
open Go.RowKit
open Go.Proofs.Ytbccaioahifloaa.Labs Go.Proofs.Ytbccaioahifloaa.LabS Go.Proofs.Ytbccaioahifloaa.Alms Go.Proofs.Ytbccaioahifloaa.AlmS Go.Proofs.Ytbccaioahifloaa.AlmM Go.Proofs.Ytbccaioahifloaa.Over Go.Proofs.Ytbccaioahifloaa.Blk Go.Proofs.Ytbccaioahifloaa.App Go.Proofs.Ytbccaioahifloaa.Rws Go.Proofs.Ytbccaioahifloaa.ChnI Go.Proofs.Ytbccaioahifloaa.ChnC Go.Proofs.Ytbccaioahifloaa.ChnP Go.Proofs.Ytbccaioahifloaa.ChnO Go.Proofs.Ytbccaioahifloaa.ChnS Go.Proofs.Ytbccaioahifloaa.ChnK Go.Proofs.Ytbccaioahifloaa.Chs Go.Proofs.Ytbccaioahifloaa.Prt
open Go.Proofs.Ytbccaioahifloaa.StrB (retB)
open Go.Proofs.Ytbccaioahifloaa.Sums (partB)
open Go.Proofs.Ytbccaioahifloaa.Alm (at_par)
set_option linter.unusedVariables false

/-- what is known of the chains of a part that is small enough -/
def Small (C : List PCh) : Prop := ∀ x ∈ C, x.P.length ≤ 1048576 ∧ LenM x.P
end Go.Proofs.Ytbccaioahifloaa.PrtO
namespace Go.Proofs.Ytbccaioahifloaa.PrtF
open Go.RowKit
open Go.Proofs.Ytbccaioahifloaa.Labs Go.Proofs.Ytbccaioahifloaa.LabS Go.Proofs.Ytbccaioahifloaa.Alms Go.Proofs.Ytbccaioahifloaa.AlmS Go.Proofs.Ytbccaioahifloaa.AlmM Go.Proofs.Ytbccaioahifloaa.Over Go.Proofs.Ytbccaioahifloaa.Blk Go.Proofs.Ytbccaioahifloaa.App Go.Proofs.Ytbccaioahifloaa.Rws Go.Proofs.Ytbccaioahifloaa.ChnI Go.Proofs.Ytbccaioahifloaa.ChnC Go.Proofs.Ytbccaioahifloaa.ChnP Go.Proofs.Ytbccaioahifloaa.ChnS Go.Proofs.Ytbccaioahifloaa.ChnK Go.Proofs.Ytbccaioahifloaa.Chs Go.Proofs.Ytbccaioahifloaa.Prt Go.Proofs.Ytbccaioahifloaa.PrtO
open Go.Proofs.Ytbccaioahifloaa.Fing (fingerB)
open Go.Proofs.Ytbccaioahifloaa.Alm (at_par)
set_option linter.unusedVariables false

/-- where the first chain of the number f stands -/
def atTo (C : List PCh) (f : Int) : Nat → Option Nat
  | 0 => none
  | k + 1 => match atTo C f k with
    | some j => some j
    | none => if (nthC C k).f = f then some k else none
def atO (C : List PCh) (f : Int) : Option Nat := atTo C f C.length
def atB (C : List PCh) (f : Int) : Int :=
  match atO C f with
  | some j => (j : Int)
  | none => -1
theorem atTo_none {C : List PCh} {f : Int} : ∀ {k : Nat}, (∀ j, j < k → (nthC C j).f ≠ f) → atTo C f k = none
  | 0, _ => rfl
  | k + 1, h => by
    rw [atTo, atTo_none (fun j hj => h j (by omega))]
    simp only []
    rw [if_neg (h k (by omega))]
theorem atTo_some {C : List PCh} {f : Int} {j : Nat} (hj : ∀ i, i < j → (nthC C i).f ≠ f) (he : (nthC C j).f = f) : ∀ {k : Nat}, j < k → atTo C f k = some j
  | 0, h => by omega
  | k + 1, h => by
    by_cases e : j = k
    · subst e
      rw [atTo, atTo_none hj]
      simp only []
      rw [if_pos he]
    · rw [atTo, atTo_some hj he (k := k) (by omega)]
theorem atTo_cases (C : List PCh) (f : Int) : ∀ k, (∀ j, j < k → (nthC C j).f ≠ f) ∨ ∃ j, j < k ∧ (nthC C j).f = f ∧ ∀ i, i < j → (nthC C i).f ≠ f
  | 0 => .inl fun j h => by omega
  | k + 1 => by
    rcases atTo_cases C f k with h | ⟨j, h0, h1, h2⟩
    · by_cases e : (nthC C k).f = f
      · exact .inr ⟨k, by omega, e, h⟩
      · refine .inl fun j hj => ?_
        by_cases q : j = k
        · subst q; exact e
        · exact h j (by omega)
    · exact .inr ⟨j, by omega, h1, h2⟩
theorem at_cases (C : List PCh) (f : Int) : (atO C f = none ∧ atB C f = -1 ∧ ∀ j, j < C.length → (nthC C j).f ≠ f) ∨ ∃ k : Nat, atO C f = some k ∧ atB C f = (k : Int) ∧ k < C.length ∧ (nthC C k).f = f ∧ ∀ j, j < k → (nthC C j).f ≠ f := by
  rcases atTo_cases C f C.length with h | ⟨k, h0, h1, h2⟩
  · have e : atO C f = none := atTo_none h
    exact .inl ⟨e, by unfold atB; rw [e], h⟩
  · have e : atO C f = some k := atTo_some h2 h1 h0
    exact .inr ⟨k, e, by unfold atB; rw [e], h0, h1, h2⟩
theorem at_miss {C : List PCh} {f : Int} (h : ∀ j, j < C.length → (nthC C j).f ≠ f) : atB C f = -1 := by
  have e : atO C f = none := atTo_none h
  unfold atB; rw [e]
theorem at_hit {C : List PCh} {f : Int} {j : Nat} (hj : ∀ i, i < j → (nthC C i).f ≠ f) (he : (nthC C j).f = f) (hl : j < C.length) : atB C f = (j : Int) := by
  have e : atO C f = some j := atTo_some hj he hl
  unfold atB; rw [e]
/-- the alarm of the labels l in a part -/
def findB (C : List PCh) (l : List Lab) : Option PAl :=
  match atO C (fingerB l) with
  | none => none
  | some k => match idxTo (nthC C k).P l (nthC C k).P.length with
    | none => none
    | some i => some (nthP (nthC C k).P i)
theorem find_1 {C : List PCh} {l : List Lab} (h : atO C (fingerB l) = none) : findB C l = none := by unfold findB; rw [h]
theorem find_2 {C : List PCh} {l : List Lab} {k : Nat} (h : atO C (fingerB l) = some k) (h2 : ∀ j, j < (nthC C k).P.length → (nthP (nthC C k).P j).l ≠ l) : findB C l = none := by
  unfold findB; rw [h]; simp only []; rw [idxTo_none h2]
theorem find_3 {C : List PCh} {l : List Lab} {k i : Nat} (h : atO C (fingerB l) = some k) (hj : ∀ j, j < i → (nthP (nthC C k).P j).l ≠ l) (he : (nthP (nthC C k).P i).l = l) (hi : i < (nthC C k).P.length) : findB C l = some (nthP (nthC C k).P i) := by
  unfold findB; rw [h]; simp only []; rw [idxTo_some hj he hi]
/-- what FindIn answers -/
def Found (w w' : World) (e : Ending) (o : Option PAl) : Prop :=
  match o with
  | none => e = .returned (.tuple #[.agg #[.slice none 0 0, .int .i64 0, .int .i64 0, .string ByteArray.empty], .bool false])
  | some x => ∃ M c, e = .returned (.tuple #[.agg #[.slice (some ⟨M, 0, none⟩) x.l.length c, .int .i64 x.s, .int .i64 x.e, .string x.n], .bool true]) ∧ LabR.Own w w' M x.l

set_option maxHeartbeats 800000 in
theorem l7At_any (hd vr f : Int) (a : Option Addr) (cap : Nat) (C : List PCh) (w : World) (hr : RdG RdA w a C) (hl : C.length ≤ 1048576) :
    Calls Try.prog 61 #[.agg #[.int .i64 hd, .int .i64 vr, .slice a C.length cap], .int .i64 f] w fun e w' => e = .returned (.int .i64 (atB C f)) ∧ Below w.heap.size w w' := by
  have HR : Hid (RdG RdA w a C) := hr
  clear hr
  go_enter Try.func61, Try.ntmps61
  go_wp2
  go_loopw [5] (fun q w' => ∃ k : Nat, q = .int .i64 k ∧ k ≤ C.length ∧ (∀ j, j < k → (nthC C j).f ≠ f) ∧ Below (w.alloc (.cells #[.int .i64 hd, .int .i64 vr, .slice a C.length cap] 53)).heap.size (w.alloc (.cells #[.int .i64 hd, .int .i64 vr, .slice a C.length cap] 53)) w') (fun q _ => C.length - (intOf q).toNat)
  case atStart => exact ⟨0, rfl, Nat.zero_le _, fun j h => by omega, Below.refl _ _⟩
  case round =>
    obtain ⟨k, rfl, hk, hu, hw⟩ := hrel
    have HU : Hid (∀ j, j < k → (nthC C j).f ≠ f) := hu
    have c2 : wr.cell? ⟨w.heap.size, 2, none⟩ = some (.slice a C.length cap) := at_par hw 2 rfl
    have HB0 : Hid (Below (w.alloc (.cells #[.int .i64 hd, .int .i64 vr, .slice a C.length cap] 53)).heap.size (w.alloc (.cells #[.int .i64 hd, .int .i64 vr, .slice a C.length cap] 53)) wr) := hw
    have HBW : Hid (Below w.heap.size w wr) := grow_on (Go.Joins.below_alloc1 w _) hw
    clear hu hw
    by_cases hlt : k < C.length
    · have hlt' : (k : Int) < (C.length : Int) := by omega
      obtain ⟨b, off, ea, hb, ad, cp, hat⟩ := (HR.out.below stays_rd HBW.out).get hlt
      cases ea
      have x0 := hat.c0
      clear hat
      by_cases hf : (nthC C k).f = f
      · have HE : Hid (atB C f = (k : Int)) := at_hit HU.out hf hlt
        go_wp2
        go_ret
        exact ⟨ChnI.retI HE.out.symm, HBW.out⟩
      · have HU1 : Hid (∀ j, j < k + 1 → (nthC C j).f ≠ f) := fun j hj => by
          by_cases e : j = k
          · subst e; exact hf
          · exact HU.out j (by omega)
        go_wp2
        go_roundw
        case rel => exact ⟨k + 1, by go_num, by omega, HU1.out, HB0.out⟩
        case measure => simp [intOf]; omega
    · have hge : ¬ (k : Int) < (C.length : Int) := by omega
      have HE : Hid (atB C f = -1) := at_miss fun j hj => HU.out j (by omega)
      go_wp2
      go_ret
      exact ⟨ChnI.retI HE.out.symm, HBW.out⟩

set_option maxRecDepth 100000 in
set_option maxHeartbeats 1600000 in
theorem specFind_any (hd vr : Int) (a a' : Option Addr) (cap cap' : Nat) (C : List PCh) (l : List Lab) (w : World) (hr : RdG RdN w a C) (hr' : Reads w a' l) (hl : C.length ≤ 1048576) (hs : Small C) (hll : l.length ≤ maxLen) (hlf : LabT.Fits l) :
    Calls Try.prog 44 #[.agg #[.int .i64 hd, .int .i64 vr, .slice a C.length cap], .slice a' l.length cap'] w fun e w' => Found w w' e (findB C l) ∧ Below w.heap.size w w' := by
  have HR : Hid (RdG RdN w a C ∧ Reads w a' l ∧ Small C ∧ l.length ≤ maxLen ∧ LabT.Fits l) := ⟨hr, hr', hs, hll, hlf⟩
  clear hr hr' hs hll hlf
  go_enter Try.func44, Try.ntmps44
  go_upto_region 1 with fail
  obtain ⟨W0, hW0⟩ : ∃ W0, (w.alloc (.cells #[.int .i64 hd, .int .i64 vr, .slice a C.length cap] 53)).alloc (.cells #[.slice none 0 0, .int .i64 0, .int .i64 0, .string ByteArray.empty] 40) = W0 := ⟨_, rfl⟩
  have HW0 : Hid (Below w.heap.size w W0 ∧ Blk W0 w.heap.size #[.int .i64 hd, .int .i64 vr, .slice a C.length cap] 53 ∧ Blk W0 (w.heap.size + 1) #[.slice none 0 0, .int .i64 0, .int .i64 0, .string ByteArray.empty] 40) := by
    rw [← hW0]
    exact ⟨Go.Joins.below_alloc2 w _ _, (Blk.new _ _ _).alloc _, Blk.new_at (by simp)⟩
  have hW0' : (w.alloc (.cells #[.int .i64 hd, .int .i64 vr, .slice a C.length cap] 53)).alloc (.cells #[.slice none 0 0, .int .i64 0, .int .i64 0, .string ⟨#[]⟩] 40) = W0 := hW0
  first | rw [hW0'] | rw [hW0]
  clear hW0 hW0'
  have hne := Grown.some W0
  have lp := HW0.out.2.1.lt
  have x0 := fun x : Grown W0 => x.cell lp (HW0.out.2.1.cell 0)
  have x1 := fun x : Grown W0 => x.cell lp (HW0.out.2.1.cell 1)
  have x2 := fun x : Grown W0 => x.cell lp (HW0.out.2.1.cell 2)
  have HFi : ∀ x : Grown W0, Hid (Calls Try.prog 39 #[.slice a' l.length cap'] x.out fun e w' => e = .returned (.int .i64 (fingerB l)) ∧ Below x.out.heap.size x.out w') := fun x => Fing.specFinger_any _ _ _ _ ((HR.out.2.1.below HW0.out.1).below x.bel) HR.out.2.2.2.1 HR.out.2.2.2.2
  have HAt : ∀ x : Grown W0, Hid (Calls Try.prog 61 #[.agg #[.int .i64 hd, .int .i64 vr, .slice a C.length cap], .int .i64 (fingerB l)] x.out fun e w' => e = .returned (.int .i64 (atB C (fingerB l))) ∧ Below x.out.heap.size x.out w') := fun x => l7At_any _ _ _ _ _ _ _ ((HR.out.1.rd.below stays_rd HW0.out.1).below stays_rd x.bel) hl
  rcases at_cases C (fingerB l) with ⟨h0, h1, h2⟩ | ⟨k, h0, h1, hk, h3, h4⟩
  · have HE : Hid (findB C l = none) := find_1 h0
    rw [h1] at HAt
    clear h0 h1 h2
    go_wp2
    refine wp_over (z := W0) (by kernel_rfl) (by kernel_rfl) (Below.refl _ _) ?_
    repeat (go_big_quiet_step (first | (go_at_call 39; exact call_over (HFi _).out) | (go_at_call 61; exact call_over (HAt _).out)))
    refine wpQuiet_nil ?_
    intro w2 hw2
    have HB2 : Hid (Below W0.heap.size W0 w2) := over_bel hw2
    clear hw2 hne x0 x1 x2 HFi HAt
    have HRs : Hid (Blk w2 (w.heap.size + 1) #[.slice none 0 0, .int .i64 0, .int .i64 0, .string ByteArray.empty] 40) := HW0.out.2.2.grow HB2.out
    have r0 : w2.cell? ⟨w.heap.size + 1, 0, none⟩ = some (.slice none 0 0) := HRs.out.cell 0
    have r1 : w2.cell? ⟨w.heap.size + 1, 1, none⟩ = some (.int .i64 0) := HRs.out.cell 1
    have r2 : w2.cell? ⟨w.heap.size + 1, 2, none⟩ = some (.int .i64 0) := HRs.out.cell 2
    have r3 : w2.cell? ⟨w.heap.size + 1, 3, none⟩ = some (.string ByteArray.empty) := HRs.out.cell 3
    have f0 := HRs.out.frozen 0
    have f1 := HRs.out.frozen 1
    have f2 := HRs.out.frozen 2
    have f3 := HRs.out.frozen 3
    go_wp2
    have hs := Alm.put4 HRs.out (.slice none 0 0) (.int .i64 0) (.int .i64 0) (.string ⟨#[]⟩)
    have s0 := hs.cell 0
    have s1 := hs.cell 1
    have s2 := hs.cell 2
    have s3 := hs.cell 3
    refine bodyPost_ret (v := .tuple #[.agg #[.slice none 0 0, .int .i64 0, .int .i64 0, .string ⟨#[]⟩], .bool false]) (by simp [results, Try.results44, go_sem, s0, s1, s2, s3]) rfl ?_
    rw [HE.out]
    exact ⟨rfl, Alm.set4 (grow_on HW0.out.1 HB2.out) (by omega) _ _ _ _⟩
  · rw [h1] at HAt
    have HK : Hid (atO C (fingerB l) = some k) := h0
    have hk' : (k : Int) < (C.length : Int) := by omega
    clear h0 h1 h3 h4
    go_wp2
    refine wp_over (z := W0) (by kernel_rfl) (by kernel_rfl) (Below.refl _ _) ?_
    repeat (go_big_quiet_step (first | (go_at_call 39; exact call_over (HFi _).out) | (go_at_call 61; exact call_over (HAt _).out)))
    refine wpQuiet_nil ?_
    intro w2 hw2
    have HB2 : Hid (Below W0.heap.size W0 w2) := over_bel hw2
    clear hw2 hne x0 x1 x2 HFi HAt
    have p0 : w2.cell? ⟨w.heap.size, 0, none⟩ = some (.int .i64 hd) := (HW0.out.2.1.grow HB2.out).cell 0
    have p1 : w2.cell? ⟨w.heap.size, 1, none⟩ = some (.int .i64 vr) := (HW0.out.2.1.grow HB2.out).cell 1
    have p2 : w2.cell? ⟨w.heap.size, 2, none⟩ = some (.slice a C.length cap) := (HW0.out.2.1.grow HB2.out).cell 2
    have HB : Hid (Below w.heap.size w w2) := grow_on HW0.out.1 HB2.out
    obtain ⟨b, off, ea, hb, ad, cp, hat⟩ := (HR.out.1.below stays_rn HB.out).get hk
    cases ea
    have y0 := hat.c0
    have y1 := hat.c1
    have HRD : Hid (RdN w2 ad (nthC C k).P ∧ b < w2.heap.size) := ⟨hat.reads, hb⟩
    have HS : Hid ((nthC C k).P.length ≤ 1048576 ∧ LenM (nthC C k).P) := HR.out.2.2.1 _ (nthC_mem hk)
    clear hat hb
    go_wp2_with fail
    refine (specIn_any _ ad a' cp cap' (nthC C k).P l w2 HRD.out.1.rd (HR.out.2.1.below HB.out) HS.out.1 (len_m HS.out.2) HR.out.2.2.2.1).mono ?_
    rintro e w3 ⟨rfl, hb3⟩
    have HB3 : Hid (Below w2.heap.size w2 w3) := hb3
    have HBB : Hid (Below W0.heap.size W0 w3) := grow_on HB2.out hb3
    have z2 : w3.cell? ⟨w.heap.size, 2, none⟩ = some (.slice (some ⟨b, off, none⟩) C.length cap) := (hb3.cell (p := ⟨w.heap.size, 2, none⟩) (HW0.out.2.1.grow HB2.out).lt).trans p2
    have z0 := (hb3.cell (p := ⟨b, off + k * 2, none⟩) HRD.out.2).trans y0
    have z1 := (hb3.cell (p := ⟨b, off + k * 2 + 1, none⟩) HRD.out.2).trans y1
    clear hb3 p0 p1 p2 y0 y1
    rcases idx_cases (nthC C k).P l with ⟨i1, i2⟩ | ⟨i, i1, hi, i3, i4⟩
    · have HE : Hid (findB C l = none) := find_2 HK.out i2
      rw [i1]
      clear i1 i2
      have HRs : Hid (Blk w3 (w.heap.size + 1) #[.slice none 0 0, .int .i64 0, .int .i64 0, .string ByteArray.empty] 40) := HW0.out.2.2.grow HBB.out
      have r0 : w3.cell? ⟨w.heap.size + 1, 0, none⟩ = some (.slice none 0 0) := HRs.out.cell 0
      have r1 : w3.cell? ⟨w.heap.size + 1, 1, none⟩ = some (.int .i64 0) := HRs.out.cell 1
      have r2 : w3.cell? ⟨w.heap.size + 1, 2, none⟩ = some (.int .i64 0) := HRs.out.cell 2
      have r3 : w3.cell? ⟨w.heap.size + 1, 3, none⟩ = some (.string ByteArray.empty) := HRs.out.cell 3
      have f0 := HRs.out.frozen 0
      have f1 := HRs.out.frozen 1
      have f2 := HRs.out.frozen 2
      have f3 := HRs.out.frozen 3
      go_wp2
      have hs := Alm.put4 HRs.out (.slice none 0 0) (.int .i64 0) (.int .i64 0) (.string ⟨#[]⟩)
      have s0 := hs.cell 0
      have s1 := hs.cell 1
      have s2 := hs.cell 2
      have s3 := hs.cell 3
      refine bodyPost_ret (v := .tuple #[.agg #[.slice none 0 0, .int .i64 0, .int .i64 0, .string ⟨#[]⟩], .bool false]) (by simp [results, Try.results44, go_sem, s0, s1, s2, s3]) rfl ?_
      rw [HE.out]
      exact ⟨rfl, Alm.set4 (grow_on HW0.out.1 HBB.out) (by omega) _ _ _ _⟩
    · have HE : Hid (findB C l = some (nthP (nthC C k).P i)) := find_3 HK.out i4 i3 hi
      rw [i1]
      have hi' : (i : Int) < ((nthC C k).P.length : Int) := by omega
      obtain ⟨b1, off1, ea, hb1, g, o, cp1, hat⟩ := (HRD.out.1.below HB3.out).get hi
      cases ea
      have u0 := hat.c0
      have u1 := hat.c1
      have u2 := hat.c2
      have u3 := hat.c3
      have HRL : Hid (Reads w3 (some ⟨g, o, none⟩) (nthP (nthC C k).P i).l) := hat.reads
      clear hat hb1 i1 i3 i4
      go_wp2_with fail
      refine (copyS_any g o cp1 _ _ _ _ w3 HRL.out (HS.out.2 i hi)).mono ?_
      rintro e w4 ⟨⟨M, c, rfl, hO⟩, hb4⟩
      have HB4 : Hid (Below W0.heap.size W0 w4) := grow_on HBB.out hb4
      have HO : Hid (LabR.Own w w4 M (nthP (nthC C k).P i).l) := ⟨Nat.le_trans (grow_on HW0.out.1 HBB.out).size hO.1, hO.2⟩
      have HML : Hid (W0.heap.size ≤ M) := Nat.le_trans HBB.out.size hO.1
      clear hb4 hO z0 z1 z2 u0 u1 u2 u3
      have HRs : Hid (Blk w4 (w.heap.size + 1) #[.slice none 0 0, .int .i64 0, .int .i64 0, .string ByteArray.empty] 40) := HW0.out.2.2.grow HB4.out
      have r0 : w4.cell? ⟨w.heap.size + 1, 0, none⟩ = some (.slice none 0 0) := HRs.out.cell 0
      have r1 : w4.cell? ⟨w.heap.size + 1, 1, none⟩ = some (.int .i64 0) := HRs.out.cell 1
      have r2 : w4.cell? ⟨w.heap.size + 1, 2, none⟩ = some (.int .i64 0) := HRs.out.cell 2
      have r3 : w4.cell? ⟨w.heap.size + 1, 3, none⟩ = some (.string ByteArray.empty) := HRs.out.cell 3
      have f0 := HRs.out.frozen 0
      have f1 := HRs.out.frozen 1
      have f2 := HRs.out.frozen 2
      have f3 := HRs.out.frozen 3
      go_wp2
      have hs := Alm.put4 HRs.out (.slice (some ⟨M, 0, none⟩) (nthP (nthC C k).P i).l.length c) (.int .i64 (nthP (nthC C k).P i).s) (.int .i64 (nthP (nthC C k).P i).e) (.string (nthP (nthC C k).P i).n)
      have s0 := hs.cell 0
      have s1 := hs.cell 1
      have s2 := hs.cell 2
      have s3 := hs.cell 3
      refine bodyPost_ret (v := .tuple #[.agg #[.slice (some ⟨M, 0, none⟩) (nthP (nthC C k).P i).l.length c, .int .i64 (nthP (nthC C k).P i).s, .int .i64 (nthP (nthC C k).P i).e, .string (nthP (nthC C k).P i).n], .bool true]) (by simp [results, Try.results44, go_sem, s0, s1, s2, s3]) rfl ?_
      rw [HE.out]
      obtain ⟨q1, ds, q2, q3⟩ := HO.out
      exact ⟨⟨M, c, rfl, q1, ds, Alm.blk4 q2 (by have := HML.out; have := HW0.out.2.2.lt; omega) _ _ _ _, q3⟩, Alm.set4 (grow_on HW0.out.1 HB4.out) (by omega) _ _ _ _⟩
end Go.Proofs.Ytbccaioahifloaa.PrtF
namespace Go.Proofs.Ytbccaioahifloaa.PrtI
open Go.RowKit
open Go.Proofs.Ytbccaioahifloaa.Labs Go.Proofs.Ytbccaioahifloaa.LabS Go.Proofs.Ytbccaioahifloaa.Alms Go.Proofs.Ytbccaioahifloaa.AlmS Go.Proofs.Ytbccaioahifloaa.AlmM Go.Proofs.Ytbccaioahifloaa.Over Go.Proofs.Ytbccaioahifloaa.Blk Go.Proofs.Ytbccaioahifloaa.App Go.Proofs.Ytbccaioahifloaa.Rws Go.Proofs.Ytbccaioahifloaa.ChnI Go.Proofs.Ytbccaioahifloaa.ChnC Go.Proofs.Ytbccaioahifloaa.ChnP Go.Proofs.Ytbccaioahifloaa.ChnS Go.Proofs.Ytbccaioahifloaa.ChnK Go.Proofs.Ytbccaioahifloaa.Chs Go.Proofs.Ytbccaioahifloaa.Prt Go.Proofs.Ytbccaioahifloaa.PrtO Go.Proofs.Ytbccaioahifloaa.PrtF Go.Proofs.Ytbccaioahifloaa.PrtH Go.Proofs.Ytbccaioahifloaa.Mps
open Go.Proofs.Ytbccaioahifloaa.Fing (fingerB)
set_option linter.unusedVariables false

theorem cntF_zero {C : List PCh} {f : Int} : ∀ {k : Nat}, (∀ j, j < k → (nthC C j).f ≠ f) → cntF C f k = 0
  | 0, _ => rfl
  | k + 1, h => by rw [cntF, cntF_zero (fun j hj => h j (by omega)), if_neg (h k (by omega))]
theorem shG_first {C : List PCh} {val : Nat → Value} {f : Int} {k : Nat} (hk : k < C.length) (hf : (nthC C k).f = f) (h : ∀ j, j < k → (nthC C j).f ≠ f) : shG C val C.length (f, 0) = some (val k) := by
  have e : keyC C k = (f, 0) := by unfold keyC; rw [hf, cntF_zero h]; rfl
  rw [← e]; exact shG_at hk
theorem shG_miss {C : List PCh} {val : Nat → Value} {f z : Int} (h : ∀ j, j < C.length → (nthC C j).f ≠ f) : shG C val C.length (f, z) = none :=
  shG_no fun i hi e => h i hi (congrArg Prod.fst e).symm
theorem fieldM (f : Option Nat) (a : Option Addr) (n c : Nat) (w : World) : (Instr.field 91 (.agg #[.map f, .slice a n c]) 0).run Try.prog w = .ok (.map f) w := by kernel_rfl
set_option maxRecDepth 100000 in
set_option maxHeartbeats 1600000 in
theorem implFind_any (hd vr : Int) (a a' : Option Addr) (cap cap' : Nat) (C : List PCh) (l : List Lab) (w : World) (hr : RdG RdA w a C) (hr' : Reads w a' l) (hl : C.length ≤ 1048576) (hs : Small C) (hll : l.length ≤ maxLen) (hlf : LabT.Fits l) :
    Calls Try.prog 46 #[.agg #[.int .i64 hd, .int .i64 vr, .slice a C.length cap], .slice a' l.length cap'] w fun e w' => PrtF.Found w w' e (findB C l) ∧ Below w.heap.size w w' := by
  have HR : Hid (RdG RdA w a C ∧ Reads w a' l ∧ Small C ∧ l.length ≤ maxLen ∧ LabT.Fits l) := ⟨hr, hr', hs, hll, hlf⟩
  clear hr hr' hs hll hlf
  go_enter Try.func46, Try.ntmps46
  go_wp2_with fail
  obtain ⟨W0, hW0⟩ : ∃ W0, (w.alloc (.cells #[.int .i64 hd, .int .i64 vr, .slice a C.length cap] 53)).alloc (.cells #[.slice none 0 0, .int .i64 0, .int .i64 0, .string ByteArray.empty] 40) = W0 := ⟨_, rfl⟩
  have HW0 : Hid (Below w.heap.size w W0 ∧ Blk W0 w.heap.size #[.int .i64 hd, .int .i64 vr, .slice a C.length cap] 53 ∧ Blk W0 (w.heap.size + 1) #[.slice none 0 0, .int .i64 0, .int .i64 0, .string ByteArray.empty] 40) := by
    rw [← hW0]
    exact ⟨Go.Joins.below_alloc2 w _ _, (Blk.new _ _ _).alloc _, Blk.new_at (by simp)⟩
  have hW0' : (w.alloc (.cells #[.int .i64 hd, .int .i64 vr, .slice a C.length cap] 53)).alloc (.cells #[.slice none 0 0, .int .i64 0, .int .i64 0, .string ⟨#[]⟩] 40) = W0 := hW0
  first | rw [hW0'] | rw [hW0]
  clear hW0 hW0'
  refine (shelve_any a cap C W0 (HR.out.1.below stays_rd HW0.out.1) hl).mono ?_
  rintro e w2 ⟨⟨Mm, Ms, rfl, ad, cp, hsh⟩, hb2⟩
  have HSH : Hid (Shelved W0.heap.size W0 w2 C ad cp Mm Ms) := hsh
  have HB2 : Hid (Below W0.heap.size W0 w2) := hb2
  have hfd := fieldM
  clear hsh hb2
  go_wp2_with fail
  refine (Fing.implFinger_any a' cap' l w2 (HR.out.2.1.below (grow_on HW0.out.1 HB2.out)) HR.out.2.2.2.1 HR.out.2.2.2.2).mono ?_
  rintro e w3 ⟨rfl, hb3⟩
  have HB3 : Hid (Below W0.heap.size W0 w3) := grow_on HB2.out hb3
  have HM3 : Hid (MapG TwoK w3 Mm (shG C (fun i => chV (nthC C i) (ad i) (cp i)) C.length)) := HSH.out.map.grow hb3
  clear hb3 hfd
  rcases at_cases C (fingerB l) with ⟨h0, h1, h2⟩ | ⟨k, h0, h1, hk, h3, h4⟩
  · have HE : Hid (findB C l = none) := find_1 h0
    have HLk : Hid ((shG C (fun i => chV (nthC C i) (ad i) (cp i)) C.length ((fingerB l : Int), 0)).getD (.agg #[.int .i64 0, .slice none 0 0]) = .agg #[.int .i64 0, .slice none 0 0]) := by show Option.getD _ _ = _; rw [shG_miss h2]; rfl
    clear h0 h1 h2
    go_wp2_with (at_lookup; refine wp_lookup _ rfl _ _ 88 false rfl 94 77 TwoK asked_slot Try.underlying88 (zeroC _) Mm (shG C (fun i => chV (nthC C i) (ad i) (cp i)) C.length) rfl HM3.out ((fingerB l : Int), 0) rfl (.agg #[.int .i64 0, .slice none 0 0]) HLk.out ?_)
    go_wp2_with fail
    refine (implIn_any 0 none a' 0 cap' [] l _ (.inl rfl) ((HR.out.2.1.below (grow_on HW0.out.1 HB3.out)).below (Go.Joins.below_alloc1 w3 _)) (by simp) (fun i hi => by simp at hi) HR.out.2.2.2.1).mono ?_
    rintro e w4 ⟨rfl, hb4⟩
    have HB4 : Hid (Below W0.heap.size W0 w4) := grow_on (grow_on HB3.out (Go.Joins.below_alloc1 w3 _)) hb4
    have hi1 : idxB [] l = -1 := idx_miss (fun j hj => by simp at hj)
    rw [hi1]
    clear hb4 hi1
    have HRs : Hid (Blk w4 (w.heap.size + 1) #[.slice none 0 0, .int .i64 0, .int .i64 0, .string ByteArray.empty] 40) := HW0.out.2.2.grow HB4.out
    have r0 : w4.cell? ⟨w.heap.size + 1, 0, none⟩ = some (.slice none 0 0) := HRs.out.cell 0
    have r1 : w4.cell? ⟨w.heap.size + 1, 1, none⟩ = some (.int .i64 0) := HRs.out.cell 1
    have r2 : w4.cell? ⟨w.heap.size + 1, 2, none⟩ = some (.int .i64 0) := HRs.out.cell 2
    have r3 : w4.cell? ⟨w.heap.size + 1, 3, none⟩ = some (.string ByteArray.empty) := HRs.out.cell 3
    have f0 := HRs.out.frozen 0
    have f1 := HRs.out.frozen 1
    have f2 := HRs.out.frozen 2
    have f3 := HRs.out.frozen 3
    go_wp2
    have hs := Alm.put4 HRs.out (.slice none 0 0) (.int .i64 0) (.int .i64 0) (.string ⟨#[]⟩)
    have s0 := hs.cell 0
    have s1 := hs.cell 1
    have s2 := hs.cell 2
    have s3 := hs.cell 3
    refine bodyPost_ret (v := .tuple #[.agg #[.slice none 0 0, .int .i64 0, .int .i64 0, .string ⟨#[]⟩], .bool false]) (by simp [results, Try.results46, go_sem, s0, s1, s2, s3]) rfl ?_
    rw [HE.out]
    exact ⟨rfl, Alm.set4 (grow_on HW0.out.1 HB4.out) (by omega) _ _ _ _⟩
  · have HK : Hid (atO C (fingerB l) = some k) := h0
    have HLk : Hid ((shG C (fun i => chV (nthC C i) (ad i) (cp i)) C.length ((fingerB l : Int), 0)).getD (.agg #[.int .i64 0, .slice none 0 0]) = .agg #[.int .i64 (nthC C k).f, .slice (ad k) (nthC C k).P.length (cp k)]) := by show Option.getD _ _ = _; rw [shG_first hk h3 h4]; rfl
    clear h0 h1 h3 h4
    go_wp2_with (at_lookup; refine wp_lookup _ rfl _ _ 88 false rfl 94 77 TwoK asked_slot Try.underlying88 (zeroC _) Mm (shG C (fun i => chV (nthC C i) (ad i) (cp i)) C.length) rfl HM3.out ((fingerB l : Int), 0) rfl (.agg #[.int .i64 (nthC C k).f, .slice (ad k) (nthC C k).P.length (cp k)]) HLk.out ?_)
    have HS : Hid ((nthC C k).P.length ≤ 1048576 ∧ LenM (nthC C k).P) := HR.out.2.2.1 _ (nthC_mem hk)
    have HRD : Hid (RdA w3 (ad k) (nthC C k).P) := (HSH.out.reads k hk).below HB3.out
    go_wp2_with fail
    obtain ⟨W4, hW4⟩ : ∃ W4, w3.alloc (.cells #[.int .i64 (nthC C k).f, .slice (ad k) (nthC C k).P.length (cp k)] 77) = W4 := ⟨_, rfl⟩
    have H4 : Hid (Below w3.heap.size w3 W4 ∧ Blk W4 w3.heap.size #[.int .i64 (nthC C k).f, .slice (ad k) (nthC C k).P.length (cp k)] 77) := by
      rw [← hW4]
      exact ⟨Go.Joins.below_alloc1 w3 _, Blk.new _ _ _⟩
    try rw [hW4]
    clear hW4
    refine (implIn_any _ (ad k) a' (cp k) cap' (nthC C k).P l W4 (HRD.out.below H4.out.1) ((HR.out.2.1.below (grow_on HW0.out.1 HB3.out)).below H4.out.1) HS.out.1 (len_m HS.out.2) HR.out.2.2.2.1).mono ?_
    rintro e w5 ⟨rfl, hb5⟩
    have HB5 : Hid (Below W0.heap.size W0 w5) := grow_on (grow_on HB3.out H4.out.1) hb5
    have HK5 : Hid (Blk w5 w3.heap.size #[.int .i64 (nthC C k).f, .slice (ad k) (nthC C k).P.length (cp k)] 77) := H4.out.2.grow hb5
    have HRD5 : Hid (RdA w5 (ad k) (nthC C k).P) := (HRD.out.below H4.out.1).below hb5
    clear hb5
    rcases idx_cases (nthC C k).P l with ⟨i1, i2⟩ | ⟨i, i1, hi, i3, i4⟩
    · have HE : Hid (findB C l = none) := find_2 HK.out i2
      rw [i1]
      clear i1 i2
      have HRs : Hid (Blk w5 (w.heap.size + 1) #[.slice none 0 0, .int .i64 0, .int .i64 0, .string ByteArray.empty] 40) := HW0.out.2.2.grow HB5.out
      have r0 : w5.cell? ⟨w.heap.size + 1, 0, none⟩ = some (.slice none 0 0) := HRs.out.cell 0
      have r1 : w5.cell? ⟨w.heap.size + 1, 1, none⟩ = some (.int .i64 0) := HRs.out.cell 1
      have r2 : w5.cell? ⟨w.heap.size + 1, 2, none⟩ = some (.int .i64 0) := HRs.out.cell 2
      have r3 : w5.cell? ⟨w.heap.size + 1, 3, none⟩ = some (.string ByteArray.empty) := HRs.out.cell 3
      have f0 := HRs.out.frozen 0
      have f1 := HRs.out.frozen 1
      have f2 := HRs.out.frozen 2
      have f3 := HRs.out.frozen 3
      go_wp2
      have hs := Alm.put4 HRs.out (.slice none 0 0) (.int .i64 0) (.int .i64 0) (.string ⟨#[]⟩)
      have s0 := hs.cell 0
      have s1 := hs.cell 1
      have s2 := hs.cell 2
      have s3 := hs.cell 3
      refine bodyPost_ret (v := .tuple #[.agg #[.slice none 0 0, .int .i64 0, .int .i64 0, .string ⟨#[]⟩], .bool false]) (by simp [results, Try.results46, go_sem, s0, s1, s2, s3]) rfl ?_
      rw [HE.out]
      exact ⟨rfl, Alm.set4 (grow_on HW0.out.1 HB5.out) (by omega) _ _ _ _⟩
    · have HE : Hid (findB C l = some (nthP (nthC C k).P i)) := find_3 HK.out i4 i3 hi
      rw [i1]
      have hi' : (i : Int) < ((nthC C k).P.length : Int) := by omega
      have q1 : w5.cell? ⟨w3.heap.size, 1, none⟩ = some (.slice (ad k) (nthC C k).P.length (cp k)) := HK5.out.cell 1
      obtain ⟨b1, off1, ea, hb1, g, cp1, hat⟩ := HRD5.out.get hi
      rw [ea] at q1 ⊢
      have u0 := hat.c0
      have u1 := hat.c1
      have u2 := hat.c2
      have u3 := hat.c3
      have HRL : Hid (Reads w5 g (nthP (nthC C k).P i).l) := hat.reads
      clear hat hb1 i1 i3 i4
      go_wp2_with fail
      refine (copyI_any g cp1 _ _ _ _ w5 HRL.out (HS.out.2 i hi)).mono ?_
      rintro e w6 ⟨⟨M, c, rfl, hO⟩, hb6⟩
      have HB6 : Hid (Below W0.heap.size W0 w6) := grow_on HB5.out hb6
      have HO : Hid (LabR.Own w w6 M (nthP (nthC C k).P i).l) := ⟨Nat.le_trans (grow_on HW0.out.1 HB5.out).size hO.1, hO.2⟩
      have HML : Hid (W0.heap.size ≤ M) := Nat.le_trans HB5.out.size hO.1
      clear hb6 hO q1 u0 u1 u2 u3
      have HRs : Hid (Blk w6 (w.heap.size + 1) #[.slice none 0 0, .int .i64 0, .int .i64 0, .string ByteArray.empty] 40) := HW0.out.2.2.grow HB6.out
      have r0 : w6.cell? ⟨w.heap.size + 1, 0, none⟩ = some (.slice none 0 0) := HRs.out.cell 0
      have r1 : w6.cell? ⟨w.heap.size + 1, 1, none⟩ = some (.int .i64 0) := HRs.out.cell 1
      have r2 : w6.cell? ⟨w.heap.size + 1, 2, none⟩ = some (.int .i64 0) := HRs.out.cell 2
      have r3 : w6.cell? ⟨w.heap.size + 1, 3, none⟩ = some (.string ByteArray.empty) := HRs.out.cell 3
      have f0 := HRs.out.frozen 0
      have f1 := HRs.out.frozen 1
      have f2 := HRs.out.frozen 2
      have f3 := HRs.out.frozen 3
      go_wp2
      have hs := Alm.put4 HRs.out (.slice (some ⟨M, 0, none⟩) (nthP (nthC C k).P i).l.length c) (.int .i64 (nthP (nthC C k).P i).s) (.int .i64 (nthP (nthC C k).P i).e) (.string (nthP (nthC C k).P i).n)
      have s0 := hs.cell 0
      have s1 := hs.cell 1
      have s2 := hs.cell 2
      have s3 := hs.cell 3
      refine bodyPost_ret (v := .tuple #[.agg #[.slice (some ⟨M, 0, none⟩) (nthP (nthC C k).P i).l.length c, .int .i64 (nthP (nthC C k).P i).s, .int .i64 (nthP (nthC C k).P i).e, .string (nthP (nthC C k).P i).n], .bool true]) (by simp [results, Try.results46, go_sem, s0, s1, s2, s3]) rfl ?_
      rw [HE.out]
      obtain ⟨q1, ds, q2, q3⟩ := HO.out
      exact ⟨⟨M, _, rfl, q1, ds, Alm.blk4 q2 (by have := HML.out; have := HW0.out.2.2.lt; omega) _ _ _ _, q3⟩, Alm.set4 (grow_on HW0.out.1 HB6.out) (by omega) _ _ _ _⟩
end Go.Proofs.Ytbccaioahifloaa.PrtI
namespace Go.Proofs.Ytbccaioahifloaa.PrtJ
open Go.RowKit
open Go.Proofs.Ytbccaioahifloaa.Labs Go.Proofs.Ytbccaioahifloaa.LabS Go.Proofs.Ytbccaioahifloaa.Alms Go.Proofs.Ytbccaioahifloaa.AlmS Go.Proofs.Ytbccaioahifloaa.AlmM Go.Proofs.Ytbccaioahifloaa.Over Go.Proofs.Ytbccaioahifloaa.Blk Go.Proofs.Ytbccaioahifloaa.App Go.Proofs.Ytbccaioahifloaa.Rws Go.Proofs.Ytbccaioahifloaa.ChnC Go.Proofs.Ytbccaioahifloaa.ChnK Go.Proofs.Ytbccaioahifloaa.Chs Go.Proofs.Ytbccaioahifloaa.Prt Go.Proofs.Ytbccaioahifloaa.PrtO Go.Proofs.Ytbccaioahifloaa.PrtF
open Go.Proofs.Ytbccaioahifloaa.Fing (fingerB)
set_option linter.unusedVariables false
theorem find_in {C : List PCh} {l : List Lab} {x : PAl} (h : findB C l = some x) : ∃ c ∈ C, ∃ i, i < c.P.length ∧ x = nthP c.P i := by
  rcases at_cases C (fingerB l) with ⟨h0, _⟩ | ⟨k, h0, _, hk, _⟩
  · rw [find_1 h0] at h; cases h
  · rcases idx_cases (nthC C k).P l with ⟨_, h2⟩ | ⟨i, _, hi, h3, h4⟩
    · rw [find_2 h0 h2] at h; cases h
    · rw [find_3 h0 h4 h3 hi] at h
      exact ⟨_, nthC_mem hk, i, hi, (Option.some.inj h).symm⟩
theorem find_fit {C : List PCh} {l : List Lab} {x : PAl} (h : findB C l = some x) (hf : FitsC C) (hs : Small C) : FitA x ∧ x.l.length ≤ 1048576 := by
  obtain ⟨c, hc, i, hi, rfl⟩ := find_in h
  exact ⟨(hf c hc).fits i hi, (hs c hc).2 i hi⟩
theorem specFind_no (hd vr : Int) (a a' : Option Addr) (cap cap' : Nat) (C : List PCh) (l : List Lab) (w : World) (hr : RdG RdN w a C) (hr' : Reads w a' l) (hl : C.length ≤ 1048576) (hs : Small C) (hll : l.length ≤ maxLen) (hlf : LabT.Fits l) (hF : findB C l = none) :
    Calls Try.prog 44 #[.agg #[.int .i64 hd, .int .i64 vr, .slice a C.length cap], .slice a' l.length cap'] w fun e w' => e = .returned (.tuple #[.agg #[.slice none 0 0, .int .i64 0, .int .i64 0, .string ByteArray.empty], .bool false]) ∧ Below w.heap.size w w' :=
  (specFind_any hd vr a a' cap cap' C l w hr hr' hl hs hll hlf).mono fun e w' h => by
    rw [hF] at h
    exact h
theorem specFind_yes (hd vr : Int) (a a' : Option Addr) (cap cap' : Nat) (C : List PCh) (l : List Lab) (x : PAl) (w : World) (hr : RdG RdN w a C) (hr' : Reads w a' l) (hl : C.length ≤ 1048576) (hs : Small C) (hll : l.length ≤ maxLen) (hlf : LabT.Fits l) (hF : findB C l = some x) :
    Calls Try.prog 44 #[.agg #[.int .i64 hd, .int .i64 vr, .slice a C.length cap], .slice a' l.length cap'] w fun e w' => (∃ M c, e = .returned (.tuple #[.agg #[.slice (some ⟨M, 0, none⟩) x.l.length c, .int .i64 x.s, .int .i64 x.e, .string x.n], .bool true]) ∧ LabR.Own w w' M x.l) ∧ Below w.heap.size w w' :=
  (specFind_any hd vr a a' cap cap' C l w hr hr' hl hs hll hlf).mono fun e w' h => by
    rw [hF] at h
    exact h
theorem implFind_no (hd vr : Int) (a a' : Option Addr) (cap cap' : Nat) (C : List PCh) (l : List Lab) (w : World) (hr : RdG RdA w a C) (hr' : Reads w a' l) (hl : C.length ≤ 1048576) (hs : Small C) (hll : l.length ≤ maxLen) (hlf : LabT.Fits l) (hF : findB C l = none) :
    Calls Try.prog 46 #[.agg #[.int .i64 hd, .int .i64 vr, .slice a C.length cap], .slice a' l.length cap'] w fun e w' => e = .returned (.tuple #[.agg #[.slice none 0 0, .int .i64 0, .int .i64 0, .string ByteArray.empty], .bool false]) ∧ Below w.heap.size w w' :=
  (PrtI.implFind_any hd vr a a' cap cap' C l w hr hr' hl hs hll hlf).mono fun e w' h => by
    rw [hF] at h
    exact h
theorem implFind_yes (hd vr : Int) (a a' : Option Addr) (cap cap' : Nat) (C : List PCh) (l : List Lab) (x : PAl) (w : World) (hr : RdG RdA w a C) (hr' : Reads w a' l) (hl : C.length ≤ 1048576) (hs : Small C) (hll : l.length ≤ maxLen) (hlf : LabT.Fits l) (hF : findB C l = some x) :
    Calls Try.prog 46 #[.agg #[.int .i64 hd, .int .i64 vr, .slice a C.length cap], .slice a' l.length cap'] w fun e w' => (∃ M c, e = .returned (.tuple #[.agg #[.slice (some ⟨M, 0, none⟩) x.l.length c, .int .i64 x.s, .int .i64 x.e, .string x.n], .bool true]) ∧ LabR.Own w w' M x.l) ∧ Below w.heap.size w w' :=
  (PrtI.implFind_any hd vr a a' cap cap' C l w hr hr' hl hs hll hlf).mono fun e w' h => by
    rw [hF] at h
    exact h
theorem markNilS_any (k : Nat) (w : World) (hk2 : k ≤ 10000000) :
    Calls Try.prog 24 #[.slice none 0 0, .int .i64 k] w fun r w' => r = .returned (.int .i64 (k : Int)) ∧ Below w.heap.size w w' := by
  go_enter Try.func24, Try.ntmps24
  go_wp2
  go_loopw [1, 5] (fun x i w' => x = .int .i64 k ∧ i = .int .i64 0 ∧ Below w.heap.size w w') (fun _ i _ => 0)
  case atStart => exact ⟨rfl, rfl, Below.refl _ _⟩
  case round =>
    obtain ⟨rfl, rfl, hb⟩ := hrel
    have HB : Hid (Below w.heap.size w wr) := hb
    clear hb
    go_wp2
    go_ret
    exact ⟨rfl, HB.out⟩
theorem markNil_any (k : Nat) (s e : Int) (t : ByteArray) (w : World) (hk2 : k ≤ 10000000) :
    Calls Try.prog 25 #[.agg #[.slice none 0 0, .int .i64 s, .int .i64 e, .string t], .int .i64 k] w fun r w' => r = .returned (.int .i64 (k : Int)) ∧ Below w.heap.size w w' := by
  have hq : ¬ (k : Int) < 0 := by omega
  go_enter Try.func25, Try.ntmps25
  go_wp2_with fail
  refine (markNilS_any k _ hk2).mono ?_
  rintro r w1 ⟨rfl, hb⟩
  have HB : Hid (Below w.heap.size w w1) := grow_on (Go.Joins.below_alloc1 w _) hb
  clear hb
  go_wp2
  go_ret
  exact ⟨rfl, HB.out⟩
theorem heldNilS_any (k : Nat) (w : World) (hk2 : k ≤ 10000000) :
    Calls Try.prog 48 #[.slice none 0 0, .int .i64 k] w fun r w' => r = .returned (.int .i64 (k : Int)) ∧ Below w.heap.size w w' := by
  go_enter Try.func48, Try.ntmps48
  go_wp2
  go_loopw [1, 5] (fun x i w' => x = .int .i64 k ∧ i = .int .i64 0 ∧ Below w.heap.size w w') (fun _ i _ => 0)
  case atStart => exact ⟨rfl, rfl, Below.refl _ _⟩
  case round =>
    obtain ⟨rfl, rfl, hb⟩ := hrel
    have HB : Hid (Below w.heap.size w wr) := hb
    clear hb
    go_wp2
    go_ret
    exact ⟨rfl, HB.out⟩
theorem heldNil_any (k : Nat) (s e : Int) (t : ByteArray) (w : World) (hk2 : k ≤ 10000000) :
    Calls Try.prog 26 #[.agg #[.slice none 0 0, .int .i64 s, .int .i64 e, .string t], .int .i64 k] w fun r w' => r = .returned (.int .i64 (k : Int)) ∧ Below w.heap.size w w' := by
  have hq : ¬ (k : Int) < 0 := by omega
  go_enter Try.func26, Try.ntmps26
  go_wp2_with fail
  refine (heldNilS_any k _ hk2).mono ?_
  rintro r w1 ⟨rfl, hb⟩
  have HB : Hid (Below w.heap.size w w1) := grow_on (Go.Joins.below_alloc1 w _) hb
  clear hb
  go_wp2
  go_ret
  exact ⟨rfl, HB.out⟩
end Go.Proofs.Ytbccaioahifloaa.PrtJ
namespace Go.Proofs.Ytbccaioahifloaa.StsH
open Go.RowKit
open Go.Proofs.Ytbccaioahifloaa.Labs Go.Proofs.Ytbccaioahifloaa.LabS Go.Proofs.Ytbccaioahifloaa.Over Go.Proofs.Ytbccaioahifloaa.Blk Go.Proofs.Ytbccaioahifloaa.Chs Go.Proofs.Ytbccaioahifloaa.Prt Go.Proofs.Ytbccaioahifloaa.Sts
open Go.Proofs.Ytbccaioahifloaa.Fing (fingerB finger_lt)
open Go.Proofs.Ytbccaioahifloaa.Sums (partB)
set_option linter.unusedVariables false

/-- which of n parts is the home of these labels -/
def homeN (n : Nat) (l : List Lab) : Nat := if n = 0 then 0 else fingerB l % n
theorem home_lt {n : Nat} {l : List Lab} (h : 0 < n) : homeN n l < n := by unfold homeN; rw [if_neg (by omega)]; exact Nat.mod_lt _ h
theorem home_part (n : Nat) (l : List Lab) : partB (fingerB l : Int) (n : Int) = (homeN n l : Int) := by
  unfold partB homeN
  by_cases h : n = 0
  · rw [if_pos (by omega), if_pos h]; rfl
  · rw [if_neg (by omega), if_neg h]; omega
theorem specHome_any (a a' : Option Addr) (n cap cap' : Nat) (l : List Lab) (w : World) (hr : Reads w a' l) (hn : n ≤ maxLen) (hl : l.length ≤ maxLen) (hz : LabT.Fits l) :
    Calls Try.prog 17 #[.slice a n cap, .slice a' l.length cap'] w fun e w' => e = .returned (.int .i64 (homeN n l)) ∧ Below w.heap.size w w' := by
  unfold maxLen at hn
  have HC : Hid (Calls Try.prog 39 #[.slice a' l.length cap'] w fun e w' => e = .returned (.int .i64 (fingerB l)) ∧ Below w.heap.size w w') := Fing.specFinger_any a' cap' l w hr hl hz
  have HE : Hid (partB (fingerB l : Int) (n : Int) = (homeN n l : Int)) := home_part n l
  have hf := finger_lt l
  clear hr hl hz
  generalize homeN n l = h at HE ⊢
  generalize fingerB l = f at HC HE hf
  go_enter Try.func17, Try.ntmps17
  go_wp2_with fail
  refine HC.out.mono ?_
  rintro e w1 ⟨rfl, hb⟩
  have HB : Hid (Below w.heap.size w w1) := hb
  clear hb
  go_wp2_with fail
  refine (Sums.specPart_any (f : Int) (n : Int) _ (by omega) (by omega) (by omega) (by omega)).mono ?_
  rintro e w2 ⟨rfl, rfl⟩
  rw [HE.out]
  go_wp2
  go_ret
  exact ⟨rfl, HB.out⟩
theorem implHome_any (a a' : Option Addr) (n cap cap' : Nat) (l : List Lab) (w : World) (hr : Reads w a' l) (hn : n ≤ maxLen) (hl : l.length ≤ maxLen) (hz : LabT.Fits l) :
    Calls Try.prog 19 #[.slice a n cap, .slice a' l.length cap'] w fun e w' => e = .returned (.int .i64 (homeN n l)) ∧ Below w.heap.size w w' := by
  unfold maxLen at hn
  have HC : Hid (Calls Try.prog 42 #[.slice a' l.length cap'] w fun e w' => e = .returned (.int .i64 (fingerB l)) ∧ Below w.heap.size w w') := Fing.implFinger_any a' cap' l w hr hl hz
  have HE : Hid (partB (fingerB l : Int) (n : Int) = (homeN n l : Int)) := home_part n l
  have hf := finger_lt l
  clear hr hl hz
  generalize homeN n l = h at HE ⊢
  generalize fingerB l = f at HC HE hf
  go_enter Try.func19, Try.ntmps19
  go_wp2_with fail
  refine HC.out.mono ?_
  rintro e w1 ⟨rfl, hb⟩
  have HB : Hid (Below w.heap.size w w1) := hb
  clear hb
  go_wp2_with fail
  refine (Sums.implPart_any (f : Int) (n : Int) _ (by omega) (by omega) (by omega) (by omega)).mono ?_
  rintro e w2 ⟨rfl, rfl⟩
  rw [HE.out]
  go_wp2
  go_ret
  exact ⟨rfl, HB.out⟩
theorem homeNone_any (a a' : Option Addr) (cap cap' : Nat) (l : List Lab) (w : World) :
    Calls Try.prog 45 #[.slice a 0 cap, .slice a' l.length cap'] w fun e w' => e = .returned (.pointer none) ∧ w' = w := by
  go_enter Try.func45, Try.ntmps45
  go_wp2
  go_ret
  exact ⟨rfl, rfl⟩
theorem homePart_any (b off n cap cap' : Nat) (a' : Option Addr) (l : List Lab) (w : World) (h0 : 0 < n) (hr : Reads w a' l) (hn : n ≤ maxLen) (hl : l.length ≤ maxLen) (hz : LabT.Fits l) :
    Calls Try.prog 45 #[.slice (some ⟨b, off, none⟩) n cap, .slice a' l.length cap'] w fun e w' => e = .returned (.pointer (some ⟨b, off + homeN n l * 3, none⟩)) ∧ Below w.heap.size w w' := by
  unfold maxLen at hn
  have HC : Hid (Calls Try.prog 19 #[.slice (some ⟨b, off, none⟩) n cap, .slice a' l.length cap'] w fun e w' => e = .returned (.int .i64 (homeN n l)) ∧ Below w.heap.size w w') := implHome_any _ _ n cap cap' l w hr (by unfold maxLen; omega) hl hz
  have hk := home_lt (l := l) h0
  have hne : ((n : Int) == 0) = false := by simp; omega
  have hne2 : ¬ n = 0 := by omega
  clear hr hl hz
  generalize homeN n l = h at HC hk ⊢
  have hk' : (h : Int) < (n : Int) := by omega
  go_enter Try.func45, Try.ntmps45
  go_wp2_with fail
  refine HC.out.mono ?_
  rintro e w1 ⟨rfl, hb⟩
  have HB : Hid (Below w.heap.size w w1) := hb
  clear hb
  go_wp2
  go_ret
  exact ⟨rfl, HB.out⟩
end Go.Proofs.Ytbccaioahifloaa.StsH
namespace Go.Proofs.Ytbccaioahifloaa.StsF
open Go.RowKit
open Go.Proofs.Ytbccaioahifloaa.Labs Go.Proofs.Ytbccaioahifloaa.LabS Go.Proofs.Ytbccaioahifloaa.Alms Go.Proofs.Ytbccaioahifloaa.Rws Go.Proofs.Ytbccaioahifloaa.Over Go.Proofs.Ytbccaioahifloaa.Blk Go.Proofs.Ytbccaioahifloaa.Chs Go.Proofs.Ytbccaioahifloaa.Prt Go.Proofs.Ytbccaioahifloaa.PrtF Go.Proofs.Ytbccaioahifloaa.PrtJ Go.Proofs.Ytbccaioahifloaa.Sts Go.Proofs.Ytbccaioahifloaa.StsH
set_option linter.unusedVariables false

/-- the alarm of the labels l in a store -/
def findS (S : List PPt) (l : List Lab) : Option PAl := if S.length = 0 then none else findB (nthT S (homeN S.length l)).C l
theorem findS_none {S : List PPt} {l : List Lab} (h : S.length = 0) : findS S l = none := if_pos h
theorem findS_some {S : List PPt} {l : List Lab} (h : ¬ S.length = 0) : findS S l = findB (nthT S (homeN S.length l)).C l := if_neg h
theorem found_no {w w' : World} {e : Ending} {o : Option PAl} (h : o = none) (he : e = .returned (.tuple #[.agg #[.slice none 0 0, .int .i64 0, .int .i64 0, .string ByteArray.empty], .bool false])) : PrtF.Found w w' e o := by rw [h]; exact he
theorem found_yes {w w' : World} {e : Ending} {o : Option PAl} {x : PAl} {M c : Nat} (h : o = some x) (he : e = .returned (.tuple #[.agg #[.slice (some ⟨M, 0, none⟩) x.l.length c, .int .i64 x.s, .int .i64 x.e, .string x.n], .bool true])) (ho : LabR.Own w w' M x.l) : PrtF.Found w w' e o := by rw [h]; exact ⟨M, c, he, ho⟩
theorem own_low {w z w' : World} {M : Nat} {p : List Lab} (h : LabR.Own z w' M p) (hz : w.heap.size ≤ z.heap.size) : LabR.Own w w' M p := ⟨Nat.le_trans hz h.1, h.2⟩
theorem own4 {w w' : World} {M A : Nat} {p : List Lab} {cs : Array Value} (h : LabR.Own w w' M p) (hA : Blk w' A cs 40) (v0 v1 v2 v3 : Value) : LabR.Own w ((((w'.setCell ⟨A, 0, none⟩ v0).setCell ⟨A, 1, none⟩ v1).setCell ⟨A, 2, none⟩ v2).setCell ⟨A, 3, none⟩ v3) M p := by
  obtain ⟨h0, ds, h1, h2⟩ := h
  have hne : A ≠ M := blkT_ne hA h1 (by decide)
  exact ⟨h0, ds, (((h1.set_other hne v0).set_other hne v1).set_other hne v2).set_other hne v3, h2⟩
set_option maxRecDepth 100000 in
set_option maxHeartbeats 3200000 in
theorem specFindA_any (a a' : Option Addr) (cap cap' : Nat) (S : List PPt) (l : List Lab) (w : World) (hr : RdS RdN w a S) (hr' : Reads w a' l) (hl : S.length ≤ 1048576) (hs : sumT S ≤ 1048576) (hll : l.length ≤ maxLen) (hlf : LabT.Fits l) :
    Calls Try.prog 21 #[.slice a S.length cap, .slice a' l.length cap'] w fun e w' => PrtF.Found w w' e (findS S l) ∧ Below w.heap.size w w' := by
  have HR : Hid (RdS RdN w a S ∧ Reads w a' l ∧ l.length ≤ maxLen ∧ LabT.Fits l ∧ sumT S ≤ 1048576) := ⟨hr, hr', hll, hlf, hs⟩
  clear hr hr' hs hll hlf
  go_enter Try.func21, Try.ntmps21
  go_upto_region 1 with fail
  obtain ⟨W0, hW0⟩ : ∃ W0, w.alloc (.cells #[.slice none 0 0, .int .i64 0, .int .i64 0, .string ByteArray.empty] 40) = W0 := ⟨_, rfl⟩
  have HW0 : Hid (Below w.heap.size w W0 ∧ Blk W0 w.heap.size #[.slice none 0 0, .int .i64 0, .int .i64 0, .string ByteArray.empty] 40) := by
    rw [← hW0]
    exact ⟨Go.Joins.below_alloc1 w _, Blk.new _ _ _⟩
  have hW0' : w.alloc (.cells #[.slice none 0 0, .int .i64 0, .int .i64 0, .string ⟨#[]⟩] 40) = W0 := hW0
  first | rw [hW0'] | rw [hW0]
  clear hW0 hW0'
  by_cases hne : S.length = 0
  · have HE : Hid (findS S l = none) := findS_none hne
    have HBr : Hid (Below W0.heap.size W0 W0) := Below.refl _ _
    rw [hne]
    have HRs : Hid (Blk W0 w.heap.size #[.slice none 0 0, .int .i64 0, .int .i64 0, .string ByteArray.empty] 40) := HW0.out.2.grow HBr.out
    have r0 : W0.cell? ⟨w.heap.size, 0, none⟩ = some (.slice none 0 0) := HRs.out.cell 0
    have f0 := HRs.out.frozen 0
    have r1 : W0.cell? ⟨w.heap.size, 1, none⟩ = some (.int .i64 0) := HRs.out.cell 1
    have f1 := HRs.out.frozen 1
    have r2 : W0.cell? ⟨w.heap.size, 2, none⟩ = some (.int .i64 0) := HRs.out.cell 2
    have f2 := HRs.out.frozen 2
    have r3 : W0.cell? ⟨w.heap.size, 3, none⟩ = some (.string ByteArray.empty) := HRs.out.cell 3
    have f3 := HRs.out.frozen 3
    go_wp2
    have hs := Alm.put4 HRs.out (.slice none 0 0) (.int .i64 0) (.int .i64 0) (.string ⟨#[]⟩)
    have s0 := hs.cell 0
    have s1 := hs.cell 1
    have s2 := hs.cell 2
    have s3 := hs.cell 3
    refine bodyPost_ret (v := .tuple #[.agg #[.slice none 0 0, .int .i64 0, .int .i64 0, .string ⟨#[]⟩], .bool false]) (by simp [results, Try.results21, go_sem, s0, s1, s2, s3]) rfl ?_
    exact ⟨found_no HE.out rfl, Alm.set4 (grow_on HW0.out.1 HBr.out) (Nat.le_refl _) _ _ _ _⟩
  obtain ⟨k, hkk⟩ : ∃ k, homeN S.length l = k := ⟨_, rfl⟩
  have HK : Hid (homeN S.length l = k) := hkk
  have hk : k < S.length := by rw [← hkk]; exact home_lt (by omega)
  have hk' : (k : Int) < (S.length : Int) := by omega
  have hne2 : ((S.length : Int) == 0) = false := by rw [beq_eq_false_iff_ne]; omega
  have HH : Hid (Calls Try.prog 17 #[.slice a S.length cap, .slice a' l.length cap'] W0 fun e w' => e = .returned (.int .i64 k) ∧ Below W0.heap.size W0 w') := by
    rw [← hkk]
    exact specHome_any a a' S.length cap cap' l W0 (HR.out.2.1.below HW0.out.1) (by unfold maxLen; omega) HR.out.2.2.1 HR.out.2.2.2.1
  clear hkk
  go_wp2_with fail
  refine HH.out.mono ?_
  rintro e w1 ⟨rfl, hb1⟩
  have HB1 : Hid (Below W0.heap.size W0 w1) := hb1
  clear hb1 HH
  obtain ⟨b, off, rfl, hb, ad, cp, hat⟩ := (HR.out.1.below stays_rn (grow_on HW0.out.1 HB1.out)).get hk
  have h2 := hat.c0
  have h3 := hat.c1
  have h4 := hat.c2
  have HA : Hid (RdG RdN w1 ad (nthT S k).C) := hat.reads
  have HSm : Hid ((nthT S k).C.length ≤ 1048576 ∧ PrtO.Small (nthT S k).C) := by have h0 := sumT_nth hk; have h1 := HR.out.2.2.2.2; exact ⟨by omega, small_of (by omega)⟩
  clear hat hb
  rcases hFB : findB (nthT S k).C l with _ | x
  · have HE : Hid (findS S l = none) := by show _ = _; rw [findS_some hne, HK.out, hFB]
    have HC : Hid (Calls Try.prog 44 #[.agg #[.int .i64 (nthT S k).hd, .int .i64 (nthT S k).vr, .slice ad (nthT S k).C.length cp], .slice a' l.length cap'] w1 fun e w' => e = .returned (.tuple #[.agg #[.slice none 0 0, .int .i64 0, .int .i64 0, .string ByteArray.empty], .bool false]) ∧ Below w1.heap.size w1 w') := specFind_no _ _ ad a' cp cap' _ l w1 HA.out (HR.out.2.1.below (grow_on HW0.out.1 HB1.out)) HSm.out.1 HSm.out.2 HR.out.2.2.1 HR.out.2.2.2.1 hFB
    clear hFB
    go_wp2_with fail
    refine HC.out.mono ?_
    rintro e w2 ⟨rfl, hb2⟩
    have HB2 : Hid (Below W0.heap.size W0 w2) := grow_on HB1.out hb2
    have HRs : Hid (Blk w2 w.heap.size #[.slice none 0 0, .int .i64 0, .int .i64 0, .string ByteArray.empty] 40) := HW0.out.2.grow HB2.out
    have r0 : w2.cell? ⟨w.heap.size, 0, none⟩ = some (.slice none 0 0) := HRs.out.cell 0
    have f0 := HRs.out.frozen 0
    have r1 : w2.cell? ⟨w.heap.size, 1, none⟩ = some (.int .i64 0) := HRs.out.cell 1
    have f1 := HRs.out.frozen 1
    have r2 : w2.cell? ⟨w.heap.size, 2, none⟩ = some (.int .i64 0) := HRs.out.cell 2
    have f2 := HRs.out.frozen 2
    have r3 : w2.cell? ⟨w.heap.size, 3, none⟩ = some (.string ByteArray.empty) := HRs.out.cell 3
    have f3 := HRs.out.frozen 3
    clear hb2 h2 h3 h4 HC
    go_wp2
    have hs := Alm.put4 HRs.out (.slice none 0 0) (.int .i64 0) (.int .i64 0) (.string ByteArray.empty)
    have s0 := hs.cell 0
    have s1 := hs.cell 1
    have s2 := hs.cell 2
    have s3 := hs.cell 3
    refine bodyPost_ret (v := .tuple #[.agg #[.slice none 0 0, .int .i64 0, .int .i64 0, .string ByteArray.empty], .bool false]) (by simp [results, Try.results21, go_sem, s0, s1, s2, s3]) rfl ?_
    exact ⟨found_no HE.out rfl, Alm.set4 (grow_on HW0.out.1 HB2.out) (Nat.le_refl _) _ _ _ _⟩
  · have HE : Hid (findS S l = some x) := by show _ = _; rw [findS_some hne, HK.out, hFB]
    have HC : Hid (Calls Try.prog 44 #[.agg #[.int .i64 (nthT S k).hd, .int .i64 (nthT S k).vr, .slice ad (nthT S k).C.length cp], .slice a' l.length cap'] w1 fun e w' => (∃ M c, e = .returned (.tuple #[.agg #[.slice (some ⟨M, 0, none⟩) x.l.length c, .int .i64 x.s, .int .i64 x.e, .string x.n], .bool true]) ∧ LabR.Own w1 w' M x.l) ∧ Below w1.heap.size w1 w') := specFind_yes _ _ ad a' cp cap' _ l x w1 HA.out (HR.out.2.1.below (grow_on HW0.out.1 HB1.out)) HSm.out.1 HSm.out.2 HR.out.2.2.1 HR.out.2.2.2.1 hFB
    clear hFB
    go_wp2_with fail
    refine HC.out.mono ?_
    rintro e w2 ⟨⟨OM, Oc, rfl, hO⟩, hb2⟩
    have HB2 : Hid (Below W0.heap.size W0 w2) := grow_on HB1.out hb2
    have HO : Hid (LabR.Own w1 w2 OM x.l) := hO
    clear hO
    have HRs : Hid (Blk w2 w.heap.size #[.slice none 0 0, .int .i64 0, .int .i64 0, .string ByteArray.empty] 40) := HW0.out.2.grow HB2.out
    have r0 : w2.cell? ⟨w.heap.size, 0, none⟩ = some (.slice none 0 0) := HRs.out.cell 0
    have f0 := HRs.out.frozen 0
    have r1 : w2.cell? ⟨w.heap.size, 1, none⟩ = some (.int .i64 0) := HRs.out.cell 1
    have f1 := HRs.out.frozen 1
    have r2 : w2.cell? ⟨w.heap.size, 2, none⟩ = some (.int .i64 0) := HRs.out.cell 2
    have f2 := HRs.out.frozen 2
    have r3 : w2.cell? ⟨w.heap.size, 3, none⟩ = some (.string ByteArray.empty) := HRs.out.cell 3
    have f3 := HRs.out.frozen 3
    clear hb2 h2 h3 h4 HC
    go_wp2
    have hs := Alm.put4 HRs.out (.slice (some ⟨OM, 0, none⟩) x.l.length Oc) (.int .i64 x.s) (.int .i64 x.e) (.string x.n)
    have s0 := hs.cell 0
    have s1 := hs.cell 1
    have s2 := hs.cell 2
    have s3 := hs.cell 3
    refine bodyPost_ret (v := .tuple #[.agg #[.slice (some ⟨OM, 0, none⟩) x.l.length Oc, .int .i64 x.s, .int .i64 x.e, .string x.n], .bool true]) (by simp [results, Try.results21, go_sem, s0, s1, s2, s3]) rfl ?_
    exact ⟨found_yes HE.out rfl (own4 (own_low HO.out (grow_on HW0.out.1 HB1.out).size) HRs.out _ _ _ _), Alm.set4 (grow_on HW0.out.1 HB2.out) (Nat.le_refl _) _ _ _ _⟩
set_option maxRecDepth 100000 in
set_option maxHeartbeats 3200000 in
theorem implFindA_any (a a' : Option Addr) (cap cap' : Nat) (S : List PPt) (l : List Lab) (w : World) (hr : RdS RdA w a S) (hr' : Reads w a' l) (hl : S.length ≤ 1048576) (hs : sumT S ≤ 1048576) (hll : l.length ≤ maxLen) (hlf : LabT.Fits l) :
    Calls Try.prog 22 #[.slice a S.length cap, .slice a' l.length cap'] w fun e w' => PrtF.Found w w' e (findS S l) ∧ Below w.heap.size w w' := by
  have HR : Hid (RdS RdA w a S ∧ Reads w a' l ∧ l.length ≤ maxLen ∧ LabT.Fits l ∧ sumT S ≤ 1048576) := ⟨hr, hr', hll, hlf, hs⟩
  clear hr hr' hs hll hlf
  go_enter Try.func22, Try.ntmps22
  go_upto_region 1 with fail
  obtain ⟨W0, hW0⟩ : ∃ W0, w.alloc (.cells #[.slice none 0 0, .int .i64 0, .int .i64 0, .string ByteArray.empty] 40) = W0 := ⟨_, rfl⟩
  have HW0 : Hid (Below w.heap.size w W0 ∧ Blk W0 w.heap.size #[.slice none 0 0, .int .i64 0, .int .i64 0, .string ByteArray.empty] 40) := by
    rw [← hW0]
    exact ⟨Go.Joins.below_alloc1 w _, Blk.new _ _ _⟩
  have hW0' : w.alloc (.cells #[.slice none 0 0, .int .i64 0, .int .i64 0, .string ⟨#[]⟩] 40) = W0 := hW0
  first | rw [hW0'] | rw [hW0]
  clear hW0 hW0'
  by_cases hne : S.length = 0
  · have HE : Hid (findS S l = none) := findS_none hne
    have HBr : Hid (Below W0.heap.size W0 W0) := Below.refl _ _
    rw [hne]
    go_wp2_with fail
    refine (homeNone_any a a' cap cap' l W0).mono ?_
    rintro e w1 ⟨rfl, rfl⟩
    have HRs : Hid (Blk w1 w.heap.size #[.slice none 0 0, .int .i64 0, .int .i64 0, .string ByteArray.empty] 40) := HW0.out.2.grow HBr.out
    have r0 : w1.cell? ⟨w.heap.size, 0, none⟩ = some (.slice none 0 0) := HRs.out.cell 0
    have f0 := HRs.out.frozen 0
    have r1 : w1.cell? ⟨w.heap.size, 1, none⟩ = some (.int .i64 0) := HRs.out.cell 1
    have f1 := HRs.out.frozen 1
    have r2 : w1.cell? ⟨w.heap.size, 2, none⟩ = some (.int .i64 0) := HRs.out.cell 2
    have f2 := HRs.out.frozen 2
    have r3 : w1.cell? ⟨w.heap.size, 3, none⟩ = some (.string ByteArray.empty) := HRs.out.cell 3
    have f3 := HRs.out.frozen 3
    go_wp2
    have hs := Alm.put4 HRs.out (.slice none 0 0) (.int .i64 0) (.int .i64 0) (.string ⟨#[]⟩)
    have s0 := hs.cell 0
    have s1 := hs.cell 1
    have s2 := hs.cell 2
    have s3 := hs.cell 3
    refine bodyPost_ret (v := .tuple #[.agg #[.slice none 0 0, .int .i64 0, .int .i64 0, .string ⟨#[]⟩], .bool false]) (by simp [results, Try.results22, go_sem, s0, s1, s2, s3]) rfl ?_
    exact ⟨found_no HE.out rfl, Alm.set4 (grow_on HW0.out.1 HBr.out) (Nat.le_refl _) _ _ _ _⟩
  obtain ⟨k, hkk⟩ : ∃ k, homeN S.length l = k := ⟨_, rfl⟩
  have HK : Hid (homeN S.length l = k) := hkk
  have hk : k < S.length := by rw [← hkk]; exact home_lt (by omega)
  have hk' : (k : Int) < (S.length : Int) := by omega
  have hne2 : ((S.length : Int) == 0) = false := by rw [beq_eq_false_iff_ne]; omega
  obtain ⟨b, off, rfl, hb, _⟩ := HR.out.1.get hk
  have HH : Hid (Calls Try.prog 45 #[.slice (some ⟨b, off, none⟩) S.length cap, .slice a' l.length cap'] W0 fun e w' => e = .returned (.pointer (some ⟨b, off + k * 3, none⟩)) ∧ Below W0.heap.size W0 w') := by
    rw [← hkk]
    exact homePart_any b off S.length cap cap' a' l W0 (by omega) (HR.out.2.1.below HW0.out.1) (by unfold maxLen; omega) HR.out.2.2.1 HR.out.2.2.2.1
  clear hkk
  go_wp2_with fail
  refine HH.out.mono ?_
  rintro e w1 ⟨rfl, hb1⟩
  have HB1 : Hid (Below W0.heap.size W0 w1) := hb1
  clear hb1 HH
  obtain ⟨b2, off2, ea, hb, ad, cp, hat⟩ := (HR.out.1.below stays_rd (grow_on HW0.out.1 HB1.out)).get hk
  cases ea
  have h2 := hat.c0
  have h3 := hat.c1
  have h4 := hat.c2
  have HA : Hid (RdG RdA w1 ad (nthT S k).C) := hat.reads
  have HSm : Hid ((nthT S k).C.length ≤ 1048576 ∧ PrtO.Small (nthT S k).C) := by have h0 := sumT_nth hk; have h1 := HR.out.2.2.2.2; exact ⟨by omega, small_of (by omega)⟩
  clear hat hb
  rcases hFB : findB (nthT S k).C l with _ | x
  · have HE : Hid (findS S l = none) := by show _ = _; rw [findS_some hne, HK.out, hFB]
    have HC : Hid (Calls Try.prog 46 #[.agg #[.int .i64 (nthT S k).hd, .int .i64 (nthT S k).vr, .slice ad (nthT S k).C.length cp], .slice a' l.length cap'] w1 fun e w' => e = .returned (.tuple #[.agg #[.slice none 0 0, .int .i64 0, .int .i64 0, .string ByteArray.empty], .bool false]) ∧ Below w1.heap.size w1 w') := implFind_no _ _ ad a' cp cap' _ l w1 HA.out (HR.out.2.1.below (grow_on HW0.out.1 HB1.out)) HSm.out.1 HSm.out.2 HR.out.2.2.1 HR.out.2.2.2.1 hFB
    clear hFB
    go_wp2_with fail
    refine HC.out.mono ?_
    rintro e w2 ⟨rfl, hb2⟩
    have HB2 : Hid (Below W0.heap.size W0 w2) := grow_on HB1.out hb2
    have HRs : Hid (Blk w2 w.heap.size #[.slice none 0 0, .int .i64 0, .int .i64 0, .string ByteArray.empty] 40) := HW0.out.2.grow HB2.out
    have r0 : w2.cell? ⟨w.heap.size, 0, none⟩ = some (.slice none 0 0) := HRs.out.cell 0
    have f0 := HRs.out.frozen 0
    have r1 : w2.cell? ⟨w.heap.size, 1, none⟩ = some (.int .i64 0) := HRs.out.cell 1
    have f1 := HRs.out.frozen 1
    have r2 : w2.cell? ⟨w.heap.size, 2, none⟩ = some (.int .i64 0) := HRs.out.cell 2
    have f2 := HRs.out.frozen 2
    have r3 : w2.cell? ⟨w.heap.size, 3, none⟩ = some (.string ByteArray.empty) := HRs.out.cell 3
    have f3 := HRs.out.frozen 3
    clear hb2 h2 h3 h4 HC
    go_wp2
    have hs := Alm.put4 HRs.out (.slice none 0 0) (.int .i64 0) (.int .i64 0) (.string ByteArray.empty)
    have s0 := hs.cell 0
    have s1 := hs.cell 1
    have s2 := hs.cell 2
    have s3 := hs.cell 3
    refine bodyPost_ret (v := .tuple #[.agg #[.slice none 0 0, .int .i64 0, .int .i64 0, .string ByteArray.empty], .bool false]) (by simp [results, Try.results22, go_sem, s0, s1, s2, s3]) rfl ?_
    exact ⟨found_no HE.out rfl, Alm.set4 (grow_on HW0.out.1 HB2.out) (Nat.le_refl _) _ _ _ _⟩
  · have HE : Hid (findS S l = some x) := by show _ = _; rw [findS_some hne, HK.out, hFB]
    have HC : Hid (Calls Try.prog 46 #[.agg #[.int .i64 (nthT S k).hd, .int .i64 (nthT S k).vr, .slice ad (nthT S k).C.length cp], .slice a' l.length cap'] w1 fun e w' => (∃ M c, e = .returned (.tuple #[.agg #[.slice (some ⟨M, 0, none⟩) x.l.length c, .int .i64 x.s, .int .i64 x.e, .string x.n], .bool true]) ∧ LabR.Own w1 w' M x.l) ∧ Below w1.heap.size w1 w') := implFind_yes _ _ ad a' cp cap' _ l x w1 HA.out (HR.out.2.1.below (grow_on HW0.out.1 HB1.out)) HSm.out.1 HSm.out.2 HR.out.2.2.1 HR.out.2.2.2.1 hFB
    clear hFB
    go_wp2_with fail
    refine HC.out.mono ?_
    rintro e w2 ⟨⟨OM, Oc, rfl, hO⟩, hb2⟩
    have HB2 : Hid (Below W0.heap.size W0 w2) := grow_on HB1.out hb2
    have HO : Hid (LabR.Own w1 w2 OM x.l) := hO
    clear hO
    have HRs : Hid (Blk w2 w.heap.size #[.slice none 0 0, .int .i64 0, .int .i64 0, .string ByteArray.empty] 40) := HW0.out.2.grow HB2.out
    have r0 : w2.cell? ⟨w.heap.size, 0, none⟩ = some (.slice none 0 0) := HRs.out.cell 0
    have f0 := HRs.out.frozen 0
    have r1 : w2.cell? ⟨w.heap.size, 1, none⟩ = some (.int .i64 0) := HRs.out.cell 1
    have f1 := HRs.out.frozen 1
    have r2 : w2.cell? ⟨w.heap.size, 2, none⟩ = some (.int .i64 0) := HRs.out.cell 2
    have f2 := HRs.out.frozen 2
    have r3 : w2.cell? ⟨w.heap.size, 3, none⟩ = some (.string ByteArray.empty) := HRs.out.cell 3
    have f3 := HRs.out.frozen 3
    clear hb2 h2 h3 h4 HC
    go_wp2
    have hs := Alm.put4 HRs.out (.slice (some ⟨OM, 0, none⟩) x.l.length Oc) (.int .i64 x.s) (.int .i64 x.e) (.string x.n)
    have s0 := hs.cell 0
    have s1 := hs.cell 1
    have s2 := hs.cell 2
    have s3 := hs.cell 3
    refine bodyPost_ret (v := .tuple #[.agg #[.slice (some ⟨OM, 0, none⟩) x.l.length Oc, .int .i64 x.s, .int .i64 x.e, .string x.n], .bool true]) (by simp [results, Try.results22, go_sem, s0, s1, s2, s3]) rfl ?_
    exact ⟨found_yes HE.out rfl (own4 (own_low HO.out (grow_on HW0.out.1 HB1.out).size) HRs.out _ _ _ _), Alm.set4 (grow_on HW0.out.1 HB2.out) (Nat.le_refl _) _ _ _ _⟩
theorem find_fitS {S : List PPt} {l : List Lab} {x : PAl} (h : findS S l = some x) (hf : FitsT S) (hs : sumT S ≤ 1048576) : FitA x ∧ x.l.length ≤ 1048576 := by
  by_cases hne : S.length = 0
  · rw [findS_none hne] at h; cases h
  · rw [findS_some hne] at h
    have hk := home_lt (l := l) (show 0 < S.length by omega)
    have := sumT_nth hk
    exact find_fit h (hf _ (nthT_mem hk)).fits (small_of (by omega))
theorem specFindA_no (a a' : Option Addr) (cap cap' : Nat) (S : List PPt) (l : List Lab) (w : World) (hr : RdS RdN w a S) (hr' : Reads w a' l) (hl : S.length ≤ 1048576) (hs : sumT S ≤ 1048576) (hll : l.length ≤ maxLen) (hlf : LabT.Fits l) (hF : findS S l = none) :
    Calls Try.prog 21 #[.slice a S.length cap, .slice a' l.length cap'] w fun e w' => e = .returned (.tuple #[.agg #[.slice none 0 0, .int .i64 0, .int .i64 0, .string ByteArray.empty], .bool false]) ∧ Below w.heap.size w w' :=
  (specFindA_any a a' cap cap' S l w hr hr' hl hs hll hlf).mono fun e w' h => by
    rw [hF] at h
    exact h
theorem specFindA_yes (a a' : Option Addr) (cap cap' : Nat) (S : List PPt) (l : List Lab) (x : PAl) (w : World) (hr : RdS RdN w a S) (hr' : Reads w a' l) (hl : S.length ≤ 1048576) (hs : sumT S ≤ 1048576) (hll : l.length ≤ maxLen) (hlf : LabT.Fits l) (hF : findS S l = some x) :
    Calls Try.prog 21 #[.slice a S.length cap, .slice a' l.length cap'] w fun e w' => (∃ M c, e = .returned (.tuple #[.agg #[.slice (some ⟨M, 0, none⟩) x.l.length c, .int .i64 x.s, .int .i64 x.e, .string x.n], .bool true]) ∧ LabR.Own w w' M x.l) ∧ Below w.heap.size w w' :=
  (specFindA_any a a' cap cap' S l w hr hr' hl hs hll hlf).mono fun e w' h => by
    rw [hF] at h
    exact h
theorem implFindA_no (a a' : Option Addr) (cap cap' : Nat) (S : List PPt) (l : List Lab) (w : World) (hr : RdS RdA w a S) (hr' : Reads w a' l) (hl : S.length ≤ 1048576) (hs : sumT S ≤ 1048576) (hll : l.length ≤ maxLen) (hlf : LabT.Fits l) (hF : findS S l = none) :
    Calls Try.prog 22 #[.slice a S.length cap, .slice a' l.length cap'] w fun e w' => e = .returned (.tuple #[.agg #[.slice none 0 0, .int .i64 0, .int .i64 0, .string ByteArray.empty], .bool false]) ∧ Below w.heap.size w w' :=
  (implFindA_any a a' cap cap' S l w hr hr' hl hs hll hlf).mono fun e w' h => by
    rw [hF] at h
    exact h
theorem implFindA_yes (a a' : Option Addr) (cap cap' : Nat) (S : List PPt) (l : List Lab) (x : PAl) (w : World) (hr : RdS RdA w a S) (hr' : Reads w a' l) (hl : S.length ≤ 1048576) (hs : sumT S ≤ 1048576) (hll : l.length ≤ maxLen) (hlf : LabT.Fits l) (hF : findS S l = some x) :
    Calls Try.prog 22 #[.slice a S.length cap, .slice a' l.length cap'] w fun e w' => (∃ M c, e = .returned (.tuple #[.agg #[.slice (some ⟨M, 0, none⟩) x.l.length c, .int .i64 x.s, .int .i64 x.e, .string x.n], .bool true]) ∧ LabR.Own w w' M x.l) ∧ Below w.heap.size w w' :=
  (implFindA_any a a' cap cap' S l w hr hr' hl hs hll hlf).mono fun e w' h => by
    rw [hF] at h
    exact h
end Go.Proofs.Ytbccaioahifloaa.StsF
