/-
  PROVED: impl.shelve lays the chains of a slice in a map of its own, each under its number and how many of that number are ahead of it, and these keys in order in a slice of its own; nothing that was there is changed.
  PROVED: the method laid of impl.shelf gives copies of the chains that are in its map, in the order of its slots, in memory of their own; nothing that was there is changed.
  PROVED: over a part in memory impl.SweepIn gives what is left, chain by chain, and what goes, as plain functions on lists say, in memory of its own; nothing that was there is changed.
-/
import Derived.Test.YtcopckbpflmmeabQPrtW
import Derived.Test.YtcopckbpflmmeabQMps
import Derived.Deep.DeepCutAuto
import Derived.Deep.RegionHeld3
set_option linter.unusedVariables false
namespace Go.Proofs.Ytcopckbpflmmeab.PrtH
open Go.RowKit
open Labs LabS Alms AlmM Over Blk App Rws ChnI ChnC ChnP ChnK Chs Prt Mps

theorem mkMap2 (w : World) (k : Int) : (Instr.makeMap 56 (some (.int .i64 k))).run Try.prog w = .ok (.map (some w.heap.size)) (w.alloc (.map #[] 0)) := by
  kernel_rfl
theorem mkMap1 (w : World) : (Instr.makeMap 86 none).run Try.prog w = .ok (.map (some w.heap.size)) (w.alloc (.map #[] 0)) := rfl
theorem infoS : (Try.prog.info? 62).map (fun i => (i.zero, i.size, i.bytes)) = some (some (.agg #[.int .i64 0, .int .i64 0]), 2, 16) := by kernel_rfl
theorem zeroC (w : World) : (zeroValue 52).run Try.prog w = .ok (.agg #[.int .i64 0, .slice none 0 0]) w := by kernel_rfl
theorem zeroI (w : World) : (zeroValue 3).run Try.prog w = .ok (.int .i64 0) w := by kernel_rfl

def cntF (C : List PCh) (f : Int) : Nat → Nat
  | 0 => 0
  | k + 1 => cntF C f k + if (nthC C k).f = f then 1 else 0
theorem cntF_le (C : List PCh) (f : Int) : ∀ k, cntF C f k ≤ k
  | 0 => Nat.le_refl _
  | k + 1 => by have := cntF_le C f k; rw [cntF]; split <;> omega
theorem cntF_mono (C : List PCh) (f : Int) {i j : Nat} (h : i ≤ j) : cntF C f i ≤ cntF C f j := by
  induction j with
  | zero => have : i = 0 := by omega
            subst this; exact Nat.le_refl _
  | succ j ih =>
    by_cases e : i = j + 1
    · subst e; exact Nat.le_refl _
    · have := ih (by omega)
      rw [cntF]; omega
def keyC (C : List PCh) (i : Nat) : Int × Int := ((nthC C i).f, (cntF C (nthC C i).f i : Int))
theorem keyC_ne {C : List PCh} {i j : Nat} (h : i < j) : keyC C i ≠ keyC C j := fun e => by
  have e1 : (nthC C i).f = (nthC C j).f := congrArg Prod.fst e
  have e2 : (cntF C (nthC C i).f i : Int) = (cntF C (nthC C j).f j : Int) := congrArg Prod.snd e
  have h1 := cntF_mono C (nthC C i).f (i := i + 1) (j := j) (by omega)
  rw [cntF, if_pos rfl] at h1
  rw [e1] at h1 e2
  omega
theorem keyC_inj {C : List PCh} {i j : Nat} (h : keyC C i = keyC C j) : i = j := by
  rcases Nat.lt_trichotomy i j with hlt | e | hlt
  · exact absurd h (keyC_ne hlt)
  · exact e
  · exact absurd h.symm (keyC_ne hlt)
def shG (C : List PCh) (val : Nat → Value) : Nat → Int × Int → Option Value
  | 0 => fun _ => none
  | k + 1 => updG (shG C val k) (keyC C k) (some (val k))
theorem shG_at {C : List PCh} {val : Nat → Value} {i : Nat} : ∀ {k : Nat}, i < k → shG C val k (keyC C i) = some (val i)
  | 0, h => by omega
  | k + 1, h => by
    rw [shG]
    by_cases e : i = k
    · subst e; exact upd_at _ _ _
    · rw [upd_no (fun q => e (keyC_inj q))]
      exact shG_at (by omega)
def metG (C : List PCh) (k : Nat) (f : Int) : Option Value := if cntF C f k = 0 then none else some (.int .i64 (cntF C f k : Int))
theorem metG_get (C : List PCh) (k : Nat) (f : Int) : (metG C k f).getD (.int .i64 0) = .int .i64 (cntF C f k : Int) := by
  unfold metG
  split
  · next h => rw [h]; rfl
  · rfl
theorem metG_up (C : List PCh) (k : Nat) (f : Int) : metG C (k + 1) f = updG (metG C k) (nthC C k).f (some (.int .i64 ((cntF C (nthC C k).f k : Int) + 1))) f := by
  by_cases e : f = (nthC C k).f
  · subst e
    rw [upd_at]
    have q : cntF C (nthC C k).f (k + 1) = cntF C (nthC C k).f k + 1 := by rw [cntF, if_pos rfl]
    unfold metG
    rw [q, if_neg (by omega)]
    rfl
  · rw [upd_no e]
    unfold metG
    have q : cntF C f (k + 1) = cntF C f k := by rw [cntF, if_neg (fun h => e h.symm)]; rfl
    rw [q]
structure SlotsK (w : World) (M : Nat) (C : List PCh) (k : Nat) (cs : Array Value) : Prop where
  blk : Blk w M cs 62
  size : cs.size = C.length * 2
  cell : ∀ i, i < k → cs[i * 2]? = some (.int .i64 (keyC C i).1) ∧ cs[i * 2 + 1]? = some (.int .i64 (keyC C i).2)
theorem SlotsK.next {w : World} {M : Nat} {C : List PCh} {k : Nat} {cs : Array Value} (h : SlotsK w M C k cs) (hk : k < C.length) :
    SlotsK ((w.setCell ⟨M, k * 2, none⟩ (.int .i64 (keyC C k).1)).setCell ⟨M, k * 2 + 1, none⟩ (.int .i64 (keyC C k).2)) M C (k + 1) ((cs.setIfInBounds (k * 2) (.int .i64 (keyC C k).1)).setIfInBounds (k * 2 + 1) (.int .i64 (keyC C k).2)) := by
  have hs := h.size
  refine ⟨(h.blk.set _ _).set _ _, by simpa using hs, fun i hi => ?_⟩
  by_cases e : i = k
  · subst e
    exact ⟨by rw [set_ne (by omega), set_at (by omega)], by rw [set_at (by simp; omega)]⟩
  · obtain ⟨h0, h1⟩ := h.cell i (by omega)
    exact ⟨by rw [set_ne (by omega), set_ne (by omega)]; exact h0, by rw [set_ne (by omega), set_ne (by omega)]; exact h1⟩
theorem SlotsK.grow {w w' : World} {M : Nat} {C : List PCh} {k : Nat} {cs : Array Value} (h : SlotsK w M C k cs) (hb : Below w.heap.size w w') : SlotsK w' M C k cs := ⟨h.blk.grow hb, h.size, h.cell⟩
theorem SlotsK.kept {w w' : World} {M : Nat} {C : List PCh} {k : Nat} {cs : Array Value} (h : SlotsK w M C k cs) (hb : Blk w' M cs 62) : SlotsK w' M C k cs := ⟨hb, h.size, h.cell⟩
theorem mapNew {ι : Type} {enc : ι → Value} {w : World} {M : Nat} (h : M = w.heap.size) : MapG enc (w.alloc (.map #[] 0)) M (fun _ => none) := by subst h; exact MapG.new w
theorem mapDrew {ι : Type} {enc : ι → Value} {w : World} {M : Nat} {g : ι → Option Value} (h : MapG enc w M g) : MapG enc w.drew M g := h
theorem mapDown {w0 w w' : World} {B b : Nat} (h : Below B w0 w) (hg : w.grownBy w' (some b)) (hw : B ≤ w0.heap.size) (hB : B ≤ b) : Below B w0 w' := h.grown hg (Nat.le_trans hw h.size) (fun k e => by have : b = k := Option.some.inj e; omega)
def chV (x : PCh) (ad : Option Addr) (cp : Nat) : Value := .agg #[.int .i64 x.f, .slice ad x.P.length cp]
theorem pickC {R : World → Option Addr → List PAl → Prop} {w : World} {a : Option Addr} {C : List PCh} (h : RdG R w a C) : ∃ (b off : Nat) (ad : Nat → Option Addr) (cp : Nat → Nat), (C = [] ∨ (a = some ⟨b, off, none⟩ ∧ b < w.heap.size)) ∧ ∀ i, i < C.length → AtC R w b off i (nthC C i) (ad i) (cp i) := by
  rcases h with h | ⟨b, off, e, hb, hc⟩
  · exact ⟨0, 0, fun _ => none, fun _ => 0, .inl h, fun i hi => by rw [h] at hi; simp at hi⟩
  · obtain ⟨f, hf⟩ := Go.Deep.choose_lt (α := Option Addr × Nat) (p := fun i z => AtC R w b off i (nthC C i) z.1 z.2) (n := C.length) (fun i hi => by obtain ⟨ad, cp, h⟩ := hc i hi; exact ⟨(ad, cp), h⟩)
    exact ⟨b, off, fun i => (f i).1, fun i => (f i).2, .inr ⟨e, hb⟩, hf⟩
structure Shelved (lo : Nat) (w w' : World) (C : List PCh) (ad : Nat → Option Addr) (cp : Nat → Nat) (Mm Ms : Nat) : Prop where
  map : MapG TwoK w' Mm (shG C (fun i => chV (nthC C i) (ad i) (cp i)) C.length)
  slots : ∃ cs, SlotsK w' Ms C C.length cs
  lm : lo ≤ Mm
  ls : lo ≤ Ms
  reads : ∀ i, i < C.length → RdA w (ad i) (nthC C i).P
set_option maxRecDepth 100000 in
set_option maxHeartbeats 4000000 in
theorem shelve_any (a : Option Addr) (cap : Nat) (C : List PCh) (w : World) (hr : RdG RdA w a C) (hl : C.length ≤ 1048576) :
    Calls Try.prog 31 #[.slice a C.length cap] w fun e w' => (∃ (Mm Ms : Nat), e = .returned (.agg #[.map (some Mm), .slice (some ⟨Ms, 0, none⟩) C.length C.length]) ∧ ∃ (ad : Nat → Option Addr) (cp : Nat → Nat), Shelved w.heap.size w w' C ad cp Mm Ms) ∧ Below w.heap.size w w' := by
  obtain ⟨b, off, ad, cp, ha, hat⟩ := pickC hr
  have HA : Hid ((C = [] ∨ (a = some ⟨b, off, none⟩ ∧ b < w.heap.size)) ∧ ∀ i, i < C.length → AtC RdA w b off i (nthC C i) (ad i) (cp i)) := ⟨ha, hat⟩
  clear hr ha hat
  have hmk := make_k (P := Try.prog) 57 62 (.agg #[.int .i64 0, .int .i64 0]) 2 16 Try.underlying57 infoS .i64 .i64 C.length (by omega) (by omega)
  have hmm := mkMap2
  go_enter Try.func31, Try.ntmps31
  go_upto_region 1 with fail
  go_cut [3] from 8 to 14 (fun s3 wx => ∃ (N Mm Ms : Nat), s3 = .pointer (some ⟨N, 0, none⟩) ∧ Blk wx N #[.map (some Mm), .slice (some ⟨Ms, 0, none⟩) C.length C.length] 59 ∧ MapG TwoK wx Mm (fun _ => none) ∧ Blk wx Ms (madeCells (Value.agg #[.int .i64 0, .int .i64 0]).cells (C.length * 2)) 62 ∧ (w.heap.size + 1 ≤ N ∧ w.heap.size + 1 ≤ Mm ∧ w.heap.size + 1 ≤ Ms) ∧ Blk wx w.heap.size #[.map none, .slice none 0 0] 59 ∧ Below w.heap.size w wx)
  case first =>
    go_region
    all_goals (go_wp2_with fail)
    all_goals go_meet
    · exact ⟨_, w.heap.size + 1, w.heap.size + 1 + 1, rfl, (Blk.new_at (by simp)).drew, mapDrew (((mapNew (by simp)).alloc _).alloc _), ((Blk.new_at (by simp)).alloc _).drew, ⟨by omega, by omega, by omega⟩, ((((Blk.new _ _ _).alloc _).alloc _).alloc _).drew, (((Alm.below3 w _ _ _).alloc (by simp; omega) _)).drew⟩
    · exact ⟨_, w.heap.size + 1, w.heap.size + 1 + 1 + 1, rfl, ((Blk.new_at (by simp)).alloc _).drew, mapDrew (((mapNew (by simp)).alloc _).alloc _), (Blk.new_at (by simp)).drew, ⟨by omega, by omega, by omega⟩, ((((Blk.new _ _ _).alloc _).alloc _).alloc _).drew, (((Alm.below3 w _ _ _).alloc (by simp; omega) _)).drew⟩
    · exact ⟨_, w.heap.size + 1 + 1, w.heap.size + 1, rfl, (Blk.new_at (by simp)).drew, mapDrew ((mapNew (by simp)).alloc _), (((Blk.new_at (by simp)).alloc _).alloc _).drew, ⟨by omega, by omega, by omega⟩, ((((Blk.new _ _ _).alloc _).alloc _).alloc _).drew, (((Alm.below3 w _ _ _).alloc (by simp; omega) _)).drew⟩
    · exact ⟨_, w.heap.size + 1 + 1 + 1, w.heap.size + 1, rfl, ((Blk.new_at (by simp)).alloc _).drew, mapDrew (mapNew (by simp)), (((Blk.new_at (by simp)).alloc _).alloc _).drew, ⟨by omega, by omega, by omega⟩, ((((Blk.new _ _ _).alloc _).alloc _).alloc _).drew, (((Alm.below3 w _ _ _).alloc (by simp; omega) _)).drew⟩
    · exact ⟨_, w.heap.size + 1 + 1, w.heap.size + 1 + 1 + 1, rfl, (((Blk.new_at (by simp)).alloc _).alloc _).drew, mapDrew ((mapNew (by simp)).alloc _), (Blk.new_at (by simp)).drew, ⟨by omega, by omega, by omega⟩, ((((Blk.new _ _ _).alloc _).alloc _).alloc _).drew, (((Alm.below3 w _ _ _).alloc (by simp; omega) _)).drew⟩
    · exact ⟨_, w.heap.size + 1 + 1 + 1, w.heap.size + 1 + 1, rfl, (((Blk.new_at (by simp)).alloc _).alloc _).drew, mapDrew (mapNew (by simp)), ((Blk.new_at (by simp)).alloc _).drew, ⟨by omega, by omega, by omega⟩, ((((Blk.new _ _ _).alloc _).alloc _).alloc _).drew, (((Alm.below3 w _ _ _).alloc (by simp; omega) _)).drew⟩
  case rest =>
    obtain ⟨N, Mm, Ms, rfl, hN, hM, hS, hlo, hR, hB⟩ := hcut
    obtain ⟨w1, hwc⟩ : ∃ x, x = wc := ⟨_, rfl⟩
    subst hwc
    clear hmk hmm
    have H1 : Hid (Blk w1 N #[.map (some Mm), .slice (some ⟨Ms, 0, none⟩) C.length C.length] 59 ∧ MapG TwoK w1 Mm (shG C (fun i => chV (nthC C i) (ad i) (cp i)) 0) ∧ SlotsK w1 Ms C 0 (madeCells (Value.agg #[.int .i64 0, .int .i64 0]).cells (C.length * 2)) ∧ Blk w1 w.heap.size #[.map none, .slice none 0 0] 59 ∧ Below w.heap.size w w1) := ⟨hN, hM, ⟨hS, by simp [size_madeCells], fun i hi => by omega⟩, hR, hB⟩
    have HLO : Hid ((w.heap.size + 1 ≤ N ∧ w.heap.size + 1 ≤ Mm ∧ w.heap.size + 1 ≤ Ms) ∧ Mm < w1.heap.size) := ⟨hlo, hM.lt⟩
    have hmm1 := mkMap1
    clear hN hM hS hlo hR hB
    go_wp2
    clear hmm1
    go_loopw [18] (fun i w' => ∃ (k : Nat) (cs : Array Value), i = .int .i64 k ∧ k ≤ C.length ∧ Blk w' N #[.map (some Mm), .slice (some ⟨Ms, 0, none⟩) C.length C.length] 59 ∧ MapG TwoK w' Mm (shG C (fun i => chV (nthC C i) (ad i) (cp i)) k) ∧ MapG IntK w' w1.heap.size (metG C k) ∧ SlotsK w' Ms C k cs ∧ Blk w' w.heap.size #[.map none, .slice none 0 0] 59 ∧ Below w.heap.size w w') (fun i _ => C.length - (intOf i).toNat)
    case atStart => exact ⟨0, _, rfl, Nat.zero_le _, H1.out.1.alloc _, H1.out.2.1.alloc _, (MapG.new w1).congr (fun f => by unfold metG cntF; rfl), H1.out.2.2.1.grow (Go.Joins.below_alloc1 w1 _), H1.out.2.2.2.1.alloc _, grow_on H1.out.2.2.2.2 (Go.Joins.below_alloc1 w1 _)⟩
    case round =>
      obtain ⟨k, cs, rfl, hk, hN, hM, hT, hS, hR, hB⟩ := hrel
      have HW : Hid (Blk wr N #[.map (some Mm), .slice (some ⟨Ms, 0, none⟩) C.length C.length] 59 ∧ MapG TwoK wr Mm (shG C (fun i => chV (nthC C i) (ad i) (cp i)) k) ∧ MapG IntK wr w1.heap.size (metG C k) ∧ SlotsK wr Ms C k cs ∧ Blk wr w.heap.size #[.map none, .slice none 0 0] 59 ∧ Below w.heap.size w wr) := ⟨hN, hM, hT, hS, hR, hB⟩
      clear hN hM hT hS hR hB
      by_cases hlt : k < C.length
      · have hlt' : (k : Int) < (C.length : Int) := by omega
        obtain ⟨rfl, hb⟩ : a = some ⟨b, off, none⟩ ∧ b < w.heap.size := by
          rcases HA.out.1 with e | h
          · rw [e] at hlt; simp at hlt
          · exact h
        have x0 : wr.cell? ⟨b, off + k * 2, none⟩ = some (.int .i64 (nthC C k).f) := (HW.out.2.2.2.2.2.cell hb).trans (HA.out.2 k hlt).c0
        have x1 : wr.cell? ⟨b, off + k * 2 + 1, none⟩ = some (.slice (ad k) (nthC C k).P.length (cp k)) := (HW.out.2.2.2.2.2.cell hb).trans (HA.out.2 k hlt).c1
        have hcb := cntF_le C (nthC C k).f k
        have hw1 : IntKind.i64.wrap ((cntF C (nthC C k).f k : Int) + 1) = (cntF C (nthC C k).f k : Int) + 1 := by rw [IntKind.wrap_i64]; omega
        go_wp2_with (first | (at_lookup; refine wp_lookup _ rfl _ _ 86 false rfl 3 3 IntK (asked_int Try.underlying3) Try.underlying86 (zeroI _) w1.heap.size (metG C k) rfl (by first | exact HW.out.2.2.1.alloc _ | exact (HW.out.2.2.1.alloc _).alloc _) (nthC C k).f rfl (.int .i64 (cntF C (nthC C k).f k : Int)) (metG_get _ _ _) ?_) | (at_mapUpdate; refine wp_update _ rfl _ _ _ 86 rfl 3 3 IntK (asked_int Try.underlying3) Try.underlying86 w1.heap.size (metG C k) rfl ((HW.out.2.2.1.alloc _).alloc _) (nthC C k).f (.int .i64 ((cntF C (nthC C k).f k : Int) + 1)) rfl rfl ?_))
        intro w3 hm3 hg3 hs3
        have HB2 : Hid (∀ o1 o2, Below wr.heap.size wr ((wr.alloc o1).alloc o2)) := fun o1 o2 => Go.Joins.below_alloc2 wr o1 o2
        have hk6 : Blk w3 wr.heap.size #[.int .i64 (nthC C k).f, .slice (ad k) (nthC C k).P.length (cp k)] 52 := blk_map ((Blk.new _ _ _).alloc _) ((HW.out.2.2.1.alloc _).alloc _) hg3
        have hk7 : Blk w3 (wr.heap.size + 1) #[.int .i64 (nthC C k).f, .int .i64 (cntF C (nthC C k).f k : Int)] 62 := blk_map (Blk.new_at (by simp)) ((HW.out.2.2.1.alloc _).alloc _) hg3
        have hN3 : Blk w3 N #[.map (some Mm), .slice (some ⟨Ms, 0, none⟩) C.length C.length] 59 := blk_map ((HW.out.1.alloc _).alloc _) ((HW.out.2.2.1.alloc _).alloc _) hg3
        have hS3 : SlotsK w3 Ms C k cs := HW.out.2.2.2.1.kept (blk_map ((HW.out.2.2.2.1.blk.alloc _).alloc _) ((HW.out.2.2.1.alloc _).alloc _) hg3)
        have hR3 : Blk w3 w.heap.size #[.map none, .slice none 0 0] 59 := blk_map ((HW.out.2.2.2.2.1.alloc _).alloc _) ((HW.out.2.2.1.alloc _).alloc _) hg3
        have hM3 : MapG TwoK w3 Mm (shG C (fun i => chV (nthC C i) (ad i) (cp i)) k) := ((HW.out.2.1.alloc _).alloc _).far hg3 (fun e => by have h : Mm = w1.heap.size := Option.some.inj e; have := HLO.out.2; omega)
        have hT3 : MapG IntK w3 w1.heap.size (metG C (k + 1)) := hm3.congr (metG_up C k)
        have hB3 : Below w.heap.size w w3 := mapDown (grow_on HW.out.2.2.2.2.2 (HB2.out _ _)) hg3 (Nat.le_refl _) (by have := H1.out.2.2.2.2.size; omega)
        have H3 : Hid (Blk w3 N #[.map (some Mm), .slice (some ⟨Ms, 0, none⟩) C.length C.length] 59 ∧ SlotsK w3 Ms C k cs ∧ Blk w3 w.heap.size #[.map none, .slice none 0 0] 59 ∧ MapG TwoK w3 Mm (shG C (fun i => chV (nthC C i) (ad i) (cp i)) k) ∧ MapG IntK w3 w1.heap.size (metG C (k + 1)) ∧ Below w.heap.size w w3 ∧ Blk w3 wr.heap.size #[.int .i64 (nthC C k).f, .slice (ad k) (nthC C k).P.length (cp k)] 52 ∧ Blk w3 (wr.heap.size + 1) #[.int .i64 (nthC C k).f, .int .i64 (cntF C (nthC C k).f k : Int)] 62) := ⟨hN3, hS3, hR3, hM3, hT3, hB3, hk6, hk7⟩
        have n0 : w3.cell? ⟨N, 0, none⟩ = some (.map (some Mm)) := hN3.cell 0
        have q0 : w3.cell? ⟨wr.heap.size, 0, none⟩ = some (.int .i64 (nthC C k).f) := hk6.cell 0
        have q1 : w3.cell? ⟨wr.heap.size, 1, none⟩ = some (.slice (ad k) (nthC C k).P.length (cp k)) := hk6.cell 1
        have t0 : w3.cell? ⟨wr.heap.size + 1, 0, none⟩ = some (.int .i64 (nthC C k).f) := hk7.cell 0
        have t1 : w3.cell? ⟨wr.heap.size + 1, 1, none⟩ = some (.int .i64 (cntF C (nthC C k).f k : Int)) := hk7.cell 1
        clear hk6 hk7 hN3 hS3 hR3 hM3 hT3 hB3 hm3 hg3 hs3 x0 x1
        go_wp2_with (at_mapUpdate; refine wp_update _ rfl _ _ _ 56 rfl 62 52 TwoK asked_slot Try.underlying56 Mm (shG C (fun i => chV (nthC C i) (ad i) (cp i)) k) rfl H3.out.2.2.2.1 (keyC C k) (chV (nthC C k) (ad k) (cp k)) rfl rfl ?_)
        intro w4 hm4 hg4 hs4
        have hM := H3.out.2.2.2.1
        have hN4 := blk_map H3.out.1 hM hg4
        have hS4 : SlotsK w4 Ms C k cs := H3.out.2.1.kept (blk_map H3.out.2.1.blk hM hg4)
        have hk74 := blk_map H3.out.2.2.2.2.2.2.2 hM hg4
        have hB4 : Below w.heap.size w w4 := mapDown H3.out.2.2.2.2.2.1 hg4 (Nat.le_refl _) (by have := HLO.out; omega)
        have hT4 : MapG IntK w4 w1.heap.size (metG C (k + 1)) := H3.out.2.2.2.2.1.far hg4 (fun e => by have h : w1.heap.size = Mm := Option.some.inj e; have := HLO.out.2; omega)
        have hR4 := blk_map H3.out.2.2.1 hM hg4
        have H4 : Hid (Blk w4 N #[.map (some Mm), .slice (some ⟨Ms, 0, none⟩) C.length C.length] 59 ∧ MapG TwoK w4 Mm (shG C (fun i => chV (nthC C i) (ad i) (cp i)) (k + 1)) ∧ MapG IntK w4 w1.heap.size (metG C (k + 1)) ∧ SlotsK w4 Ms C k cs ∧ Blk w4 w.heap.size #[.map none, .slice none 0 0] 59 ∧ Below w.heap.size w w4) := ⟨hN4, hm4, hT4, hS4, hR4, hB4⟩
        have n1 : w4.cell? ⟨N, 1, none⟩ = some (.slice (some ⟨Ms, 0, none⟩) C.length C.length) := hN4.cell 1
        have t0' : w4.cell? ⟨wr.heap.size + 1, 0, none⟩ = some (.int .i64 (nthC C k).f) := hk74.cell 0
        have t1' : w4.cell? ⟨wr.heap.size + 1, 1, none⟩ = some (.int .i64 (cntF C (nthC C k).f k : Int)) := hk74.cell 1
        have hsz := hS4.size
        obtain ⟨v0, s0⟩ : ∃ v, w4.cell? ⟨Ms, k * 2, none⟩ = some v := ⟨cs[k * 2]'(by omega), by rw [hS4.blk.cell]; simp⟩
        obtain ⟨v1, s1⟩ : ∃ v, w4.cell? ⟨Ms, k * 2 + 1, none⟩ = some v := ⟨cs[k * 2 + 1]'(by omega), by rw [hS4.blk.cell]; simp⟩
        have f0 := hS4.blk.frozen (k * 2)
        have f1 := hS4.blk.frozen (k * 2 + 1)
        clear hM hN4 hS4 hk74 hB4 hT4 hR4 hm4 hg4 hs4 hsz n0 q0 q1 t0 t1
        go_wp2
        go_roundw
        case rel =>
          have hne : ∀ {T : TypeId} {M : Nat} {ds : Array Value}, Blk w4 M ds T → T ≠ 62 → Ms ≠ M := fun h hT => blkT_ne H4.out.2.2.2.1.blk h (Ne.symm hT)
          have hmm : ∀ {ι : Type} {enc : ι → Value} {M : Nat} {g : ι → Option Value}, MapG enc w4 M g → Ms ≠ M := fun h => h.ne_blk H4.out.2.2.2.1.blk
          exact ⟨k + 1, _, by go_num, by omega, (H4.out.1.set_other (hne H4.out.1 (by decide)) _).set_other (hne H4.out.1 (by decide)) _, (H4.out.2.1.set (hmm H4.out.2.1)).set (hmm H4.out.2.1), (H4.out.2.2.1.set (hmm H4.out.2.2.1)).set (hmm H4.out.2.2.1), H4.out.2.2.2.1.next hlt, (H4.out.2.2.2.2.1.set_other (hne H4.out.2.2.2.2.1 (by decide)) _).set_other (hne H4.out.2.2.2.2.1 (by decide)) _, (H4.out.2.2.2.2.2.setCell (by have := HLO.out; show w.heap.size ≤ Ms; omega) _).setCell (by have := HLO.out; show w.heap.size ≤ Ms; omega) _⟩
        case measure => simp [intOf]; omega
      · have hge : ¬ (k : Int) < (C.length : Int) := by omega
        have HE : Hid (k = C.length) := by show k = C.length; omega
        have hN := HW.out.1
        have hR := HW.out.2.2.2.2.1
        have n0 : wr.cell? ⟨N, 0, none⟩ = some (.map (some Mm)) := hN.cell 0
        have n1 : wr.cell? ⟨N, 1, none⟩ = some (.slice (some ⟨Ms, 0, none⟩) C.length C.length) := hN.cell 1
        have r0 : wr.cell? ⟨w.heap.size, 0, none⟩ = some (.map none) := hR.cell 0
        have r1 : wr.cell? ⟨w.heap.size, 1, none⟩ = some (.slice none 0 0) := hR.cell 1
        have f0 := hR.frozen 0
        have f1 := hR.frozen 1
        clear hN hR
        go_wp2
        have hs := (HW.out.2.2.2.2.1.set 0 (.map (some Mm))).set 1 (.slice (some ⟨Ms, 0, none⟩) C.length C.length)
        have s0 := hs.cell 0
        have s1 := hs.cell 1
        refine bodyPost_ret (v := .agg #[.map (some Mm), .slice (some ⟨Ms, 0, none⟩) C.length C.length]) (by simp [results, Try.results31, go_sem, s0, s1]) rfl ?_
        have hq := HW.out
        rw [HE.out] at hq
        have hne : w.heap.size ≠ Ms := by have := HLO.out; omega
        have hnm : w.heap.size ≠ Mm := by have := HLO.out; omega
        exact ⟨⟨Mm, Ms, rfl, ad, cp, ⟨(hq.2.1.set hnm).set hnm, ⟨cs, hq.2.2.2.1.kept ((hq.2.2.2.1.blk.set_other hne _).set_other hne _)⟩, by have := HLO.out; omega, by have := HLO.out; omega, fun i hi => (HA.out.2 i hi).reads⟩⟩, ChnP.set2 HW.out.2.2.2.2.2 (Nat.le_refl _) _ _⟩
end Go.Proofs.Ytcopckbpflmmeab.PrtH
namespace Go.Proofs.Ytcopckbpflmmeab.PrtL
open Go.RowKit
open Labs LabS Alms AlmM Over Blk App Rws ChnI ChnC ChnP ChnK Chs Prt PrtH Mps

def nthK (ks : List (Int × Int)) (i : Nat) : Int × Int := ks.getD i (0, 0)
def nthV (vs : List (Option PCh)) (i : Nat) : Option PCh := vs.getD i none
theorem nthV_eq {vs : List (Option PCh)} {i : Nat} (h : i < vs.length) : nthV vs i = vs[i] := by unfold nthV; simp [h]
theorem nthK_eq {ks : List (Int × Int)} {i : Nat} (h : i < ks.length) : nthK ks i = ks[i] := by unfold nthK; simp [h]
def SlotL (w : World) (M : Nat) (ks : List (Int × Int)) : Prop := ∃ cs : Array Value, Blk w M cs 62 ∧ ks.length * 2 ≤ cs.size ∧ ∀ i, i < ks.length → cs[i * 2]? = some (.int .i64 (nthK ks i).1) ∧ cs[i * 2 + 1]? = some (.int .i64 (nthK ks i).2)
theorem SlotL.grow {w w' : World} {M : Nat} {ks : List (Int × Int)} (h : SlotL w M ks) (hb : Below w.heap.size w w') : SlotL w' M ks := by
  obtain ⟨cs, h1, h2⟩ := h
  exact ⟨cs, h1.grow hb, h2⟩
theorem SlotL.lt {w : World} {M : Nat} {ks : List (Int × Int)} (h : SlotL w M ks) : M < w.heap.size := by
  obtain ⟨cs, h1, h2⟩ := h
  exact h1.lt
def Ent (w : World) (o : Option Value) (v : Option PCh) : Prop :=
  match v with
  | none => o = none
  | some x => ∃ ad cp, o = some (.agg #[.int .i64 x.f, .slice ad x.P.length cp]) ∧ RdA w ad x.P
theorem Ent.grow {w w' : World} {o : Option Value} {v : Option PCh} (h : Ent w o v) (hb : Below w.heap.size w w') : Ent w' o v := by
  cases v with
  | none => exact h
  | some x =>
    obtain ⟨ad, cp, h1, h2⟩ := h
    exact ⟨ad, cp, h1, h2.below hb⟩
def laidTo (vs : List (Option PCh)) (k : Nat) : List PCh := (vs.take k).filterMap id
theorem laid_no {vs : List (Option PCh)} {k : Nat} (h : k < vs.length) (hv : nthV vs k = none) : laidTo vs (k + 1) = laidTo vs k := by
  unfold laidTo
  rw [List.take_succ_eq_append_getElem h, List.filterMap_append, ← nthV_eq h, hv]
  simp
theorem laid_yes {vs : List (Option PCh)} {k : Nat} {x : PCh} (h : k < vs.length) (hv : nthV vs k = some x) : laidTo vs (k + 1) = laidTo vs k ++ [x] := by
  unfold laidTo
  rw [List.take_succ_eq_append_getElem h, List.filterMap_append, ← nthV_eq h, hv]
  simp
theorem laid_le (vs : List (Option PCh)) (k : Nat) : (laidTo vs k).length ≤ k := by
  unfold laidTo
  exact Nat.le_trans (List.length_filterMap_le _ _) (by simp; omega)
set_option maxRecDepth 100000 in
set_option maxHeartbeats 2000000 in
theorem laid_any (Mm Ms c : Nat) (g : Int × Int → Option Value) (ks : List (Int × Int)) (vs : List (Option PCh)) (w : World) (hm : MapG TwoK w Mm g) (hs : SlotL w Ms ks) (hlen : vs.length = ks.length) (he : ∀ i, i < ks.length → Ent w (g (nthK ks i)) (nthV vs i)) (hl : ks.length ≤ 1048577) (hsm : ∀ i x, i < ks.length → nthV vs i = some x → x.P.length ≤ 1048576 ∧ LenM x.P) :
    Calls Try.prog 33 #[.agg #[.map (some Mm), .slice (some ⟨Ms, 0, none⟩) ks.length c]] w fun e w' => (∃ M c cs, e = .returned (.slice (some ⟨M, 0, none⟩) cs.length c) ∧ CB w.heap.size w' M c cs ∧ chs cs = laidTo vs ks.length) ∧ Below w.heap.size w w' := by
  have HR : Hid (MapG TwoK w Mm g ∧ SlotL w Ms ks ∧ (∀ i, i < ks.length → Ent w (g (nthK ks i)) (nthV vs i)) ∧ vs.length = ks.length ∧ ∀ i x, i < ks.length → nthV vs i = some x → x.P.length ≤ 1048576 ∧ LenM x.P) := ⟨hm, hs, he, hlen, hsm⟩
  clear hm hs he hlen hsm
  obtain ⟨i0, hi, hz0, hz1, hz2⟩ := info_parts infoC
  go_enter Try.func33, Try.ntmps33
  go_wp2
  obtain ⟨W0, hW0⟩ : ∃ W0, (w.alloc (.cells #[.map (some Mm), .slice (some ⟨Ms, 0, none⟩) ks.length c] 59)).alloc (.cells #[] 52) = W0 := ⟨_, rfl⟩
  have HW0 : Hid (Below w.heap.size w W0 ∧ Blk W0 w.heap.size #[.map (some Mm), .slice (some ⟨Ms, 0, none⟩) ks.length c] 59 ∧ CB (w.heap.size + 1) W0 (w.heap.size + 1) 0 []) := by
    rw [← hW0]
    exact ⟨Go.Joins.below_alloc2 w _ _, (Blk.new _ _ _).alloc _, CB.nil (Blk.new_at (by simp)) (Nat.le_refl _)⟩
  try rw [hW0]
  clear hW0
  go_loopw [3, 12] (fun v i w' => ∃ (k M c' : Nat) (cs : List CRow), i = .int .i64 k ∧ k ≤ ks.length ∧ v = .slice (some ⟨M, 0, none⟩) cs.length c' ∧ CB (w.heap.size + 1) w' M c' cs ∧ chs cs = laidTo vs k ∧ Blk w' w.heap.size #[.map (some Mm), .slice (some ⟨Ms, 0, none⟩) ks.length c] 59 ∧ Below w.heap.size w w') (fun _ i _ => ks.length - (intOf i).toNat)
  case atStart => exact ⟨0, w.heap.size + 1, 0, [], rfl, Nat.zero_le _, rfl, HW0.out.2.2, rfl, HW0.out.2.1, HW0.out.1⟩
  case round =>
    obtain ⟨k, M, c', cs, rfl, hk, rfl, hab, hp, hpt, hb⟩ := hrel
    have HAB : Hid (CB (w.heap.size + 1) wr M c' cs) := hab
    have HP : Hid (chs cs = laidTo vs k) := hp
    have HB : Hid (Below w.heap.size w wr) := hb
    have HPT : Hid (Blk wr w.heap.size #[.map (some Mm), .slice (some ⟨Ms, 0, none⟩) ks.length c] 59) := hpt
    have hrl : cs.length ≤ 1048577 := by have h1 := laid_le vs k; rw [← hp, chs_len] at h1; omega
    clear hab hp hb hpt
    by_cases hlt : k < ks.length
    · have hlt' : (k : Int) < (ks.length : Int) := by omega
      obtain ⟨sc, hs1, hs2, hs3⟩ := HR.out.2.1.grow HB.out
      obtain ⟨k0, k1⟩ := hs3 k hlt
      have x0 : wr.cell? ⟨Ms, k * 2, none⟩ = some (.int .i64 (nthK ks k).1) := (hs1.cell _).trans k0
      have x1 : wr.cell? ⟨Ms, k * 2 + 1, none⟩ = some (.int .i64 (nthK ks k).2) := (hs1.cell _).trans k1
      have HMr : Hid (MapG TwoK wr Mm g) := HR.out.1.grow HB.out
      have HEr : Hid (Ent wr (g (nthK ks k)) (nthV vs k)) := (HR.out.2.2.1 k hlt).grow HB.out
      clear hs1 hs2 hs3 k0 k1 sc
      obtain ⟨W1, hW1⟩ : ∃ W1, wr.alloc (.cells #[.int .i64 (nthK ks k).1, .int .i64 (nthK ks k).2] 62) = W1 := ⟨_, rfl⟩
      have H1 : Hid (Below wr.heap.size wr W1 ∧ Blk W1 wr.heap.size #[.int .i64 (nthK ks k).1, .int .i64 (nthK ks k).2] 62) := by
        rw [← hW1]
        exact ⟨Go.Joins.below_alloc1 wr _, Blk.new _ _ _⟩
      have HM1 : Hid (MapG TwoK W1 Mm g) := HMr.out.grow H1.out.1
      have y0 : W1.cell? ⟨wr.heap.size, 0, none⟩ = some (.int .i64 (nthK ks k).1) := H1.out.2.cell 0
      have y1 : W1.cell? ⟨wr.heap.size, 1, none⟩ = some (.int .i64 (nthK ks k).2) := H1.out.2.cell 1
      have p0 : W1.cell? ⟨w.heap.size, 0, none⟩ = some (.map (some Mm)) := (HPT.out.grow H1.out.1).cell 0
      cases hv : nthV vs k with
      | none =>
        have HG : Hid (g (nthK ks k) = none) := by have h := HEr.out; rw [hv] at h; exact h
        have HL : Hid (laidTo vs (k + 1) = laidTo vs k) := laid_no (by rw [HR.out.2.2.2.1]; exact hlt) hv
        clear hv
        go_wp2_with (at_lookup; refine wp_lookup _ rfl _ _ 56 true rfl 62 52 TwoK asked_slot Try.underlying56 (zeroC _) Mm g rfl HM1.out (nthK ks k) rfl (.tuple #[.agg #[.int .i64 0, .slice none 0 0], .bool false]) (by rw [HG.out]; rfl) ?_)
        clear hW1
        go_wp2
        go_roundw
        case rel => exact ⟨k + 1, M, c', cs, by go_num, by omega, rfl, (HAB.out.grow H1.out.1).grow (Go.Joins.below_alloc1 W1 _), by rw [HL.out]; exact HP.out, (HPT.out.grow H1.out.1).alloc _, grow_on (grow_on HB.out H1.out.1) (Go.Joins.below_alloc1 W1 _)⟩
        case measure => simp [intOf]; omega
      | some x =>
        obtain ⟨ad, cp, hg, hrd⟩ : ∃ ad cp, g (nthK ks k) = some (.agg #[.int .i64 x.f, .slice ad x.P.length cp]) ∧ RdA wr ad x.P := by have h := HEr.out; rw [hv] at h; exact h
        have HG : Hid (g (nthK ks k) = some (.agg #[.int .i64 x.f, .slice ad x.P.length cp]) ∧ RdA wr ad x.P ∧ x.P.length ≤ 1048576 ∧ LenM x.P) := ⟨hg, hrd, HR.out.2.2.2.2 k x hlt hv⟩
        have HL : Hid (laidTo vs (k + 1) = laidTo vs k ++ [x]) := laid_yes (by rw [HR.out.2.2.2.1]; exact hlt) hv
        clear hv hg hrd
        go_wp2_with (at_lookup; refine wp_lookup _ rfl _ _ 56 true rfl 62 52 TwoK asked_slot Try.underlying56 (zeroC _) Mm g rfl HM1.out (nthK ks k) rfl (.tuple #[.agg #[.int .i64 x.f, .slice ad x.P.length cp], .bool true]) (by rw [HG.out.1]; rfl) ?_)
        clear hW1 y0 y1 p0 x0 x1
        go_wp2_with fail
        refine (implCopy_any x.f ad cp x.P _ ((HG.out.2.1.below H1.out.1).below (Go.Joins.below_alloc1 W1 _)) HG.out.2.2.1 HG.out.2.2.2).mono ?_
        rintro e w2 ⟨⟨Mx, qs, rfl, hab, hpq⟩, hb2⟩
        have HB2 : Hid (Below wr.heap.size wr w2) := grow_on (grow_on H1.out.1 (Go.Joins.below_alloc1 W1 _)) hb2
        have HQl : Hid (x.P.length = qs.length) := by show _ = _; rw [← pals_len, hpq]
        have HQ : Hid (AB (wr.heap.size + 1) w2 Mx x.P.length qs ∧ pals qs = x.P) := ⟨hab.down (by have h1 := H1.out.2.lt; simp; omega), hpq⟩
        have HAB2 : Hid (CB (w.heap.size + 1) w2 M c' cs) := HAB.out.grow HB2.out
        have HPT2 : Hid (Blk w2 w.heap.size _ _) := HPT.out.grow HB2.out
        have hwz : w.heap.size + 1 ≤ wr.heap.size := HPT.out.lt
        have HXB : Hid (AB (w.heap.size + 1) w2 (⟨x.f, Mx, x.P.length, qs⟩ : CRow).M (⟨x.f, Mx, x.P.length, qs⟩ : CRow).c (⟨x.f, Mx, x.P.length, qs⟩ : CRow).rs) := HQ.out.1.down (by omega)
        have HFr := HAB.out.rows.fresh (x := ⟨x.f, Mx, x.P.length, qs⟩) HQ.out.1 (Nat.le_succ _)
        have HFR : Hid (∀ y ∈ cs, ∀ k, blks y.M y.rs k → ¬ blks (⟨x.f, Mx, x.P.length, qs⟩ : CRow).M (⟨x.f, Mx, x.P.length, qs⟩ : CRow).rs k) := HFr
        obtain ⟨xs, hox, hxl, hxs⟩ := HAB2.out.own
        have HOX : Hid (∀ o, (w2.alloc o).ownsRow (w.heap.size + 1) 52 2 (.slice (some ⟨M, 0, none⟩) cs.length c') cs.length xs) := fun o => own_grow hox (Go.Joins.below_alloc1 w2 o)
        have HXS : Hid (xs.length = cs.length * 2 ∧ ∀ i, i < cs.length → Cel (fun k => xs[k]?) i (nthR cs i)) := ⟨hxl, hxs⟩
        have HU : Hid (∀ o, Below w2.heap.size w2 (w2.alloc o)) := fun o => Go.Joins.below_alloc1 w2 o
        have HNW : Hid (∀ j u, (rowC ⟨x.f, Mx, x.P.length, qs⟩)[j]? = some u → (w2.alloc (.cells #[.int .i64 x.f, .slice (some ⟨Mx, 0, none⟩) x.P.length x.P.length] 52)).cell? ((⟨w2.heap.size, 0, none⟩ : Addr).add j) = some u) := by
          have e : rowC ⟨x.f, Mx, x.P.length, qs⟩ = (#[.int .i64 x.f, .slice (some ⟨Mx, 0, none⟩) x.P.length x.P.length] : Array Value).toList := by unfold rowC; rw [HQl.out]
          rw [e]
          exact blk_news (Blk.new _ _ _)
        clear hb2 hab hpq hox hxl hxs HFr
        go_wp2_with (at_builtin; refine wpList_append_own_at _ rfl _ _ 26 rfl (w.heap.size + 1) 52 i0 (.agg #[.int .i64 0, .slice none 0 0]) 2 32 Try.underlying26 hi hz0 hz1 hz2 rfl (by decide) _ _ _ rfl (HOX.out _) ⟨w2.heap.size, 0, none⟩ 1 1 (rowC ⟨x.f, Mx, x.P.length, qs⟩) rfl rfl HNW.out (rowC_one _) ?c3 ?c4 ?c5 ?_)
        case c3 => unfold maxLen; omega
        case c4 => omega
        case c5 => have := HPT2.out.lt; simp; omega
        intro v' w3 hown hg hnil hat
        obtain ⟨M3, c3, rfl, hAB3⟩ := (HAB2.out.grow (HU.out _)).app (x := ⟨x.f, Mx, x.P.length, qs⟩) (HXB.out.grow (HU.out _)) HFR.out HXS.out.1 HXS.out.2 hown hg
        have HAB3 : Hid (CB (w.heap.size + 1) w3 M3 c3 (cs ++ [⟨x.f, Mx, x.P.length, qs⟩])) := hAB3
        have HB3 : Hid (Below w.heap.size w w3) := (grow_on (grow_on HB.out HB2.out) (HU.out _)).grown hg (by have h1 := HPT2.out.lt; simp; omega) (fun k e => by have h : M = k := Option.some.inj e; have := HAB.out.at'; omega)
        have HPT3 : Hid (Blk w3 w.heap.size _ _) := blk_far (HPT2.out.grow (HU.out _)) hg (fun e => by have h : w.heap.size = M := Option.some.inj e; have := HAB.out.at'; omega)
        have HP3 : Hid (chs (cs ++ [⟨x.f, Mx, x.P.length, qs⟩]) = laidTo vs (k + 1)) := by
          show _ = _
          rw [chs_app, HP.out, HL.out]
          congr 2
          unfold CRow.ch
          rw [HQ.out.2]
        have HL3 : Hid ((cs ++ [(⟨x.f, Mx, x.P.length, qs⟩ : CRow)]).length = cs.length + 1) := by show _ = _; simp
        clear hown hg hnil hat hAB3
        go_wp2
        go_roundw
        case rel => exact ⟨k + 1, M3, c3, _, by go_num, by omega, by rw [HL3.out], HAB3.out, HP3.out, HPT3.out, HB3.out⟩
        case measure => simp [intOf]; omega
    · have hge : ¬ (k : Int) < (ks.length : Int) := by omega
      have HF : Hid (chs cs = laidTo vs ks.length) := by
        show _ = _
        rw [HP.out]
        congr 1
        omega
      go_wp2
      go_ret
      exact ⟨⟨M, c', cs, rfl, HAB.out.down (by omega), HF.out⟩, HB.out⟩
end Go.Proofs.Ytcopckbpflmmeab.PrtL
namespace Go.Proofs.Ytcopckbpflmmeab.PrtY
open Go.RowKit
open Labs LabS Alms AlmM Over Blk App Rws ChnI ChnC ChnP ChnD ChnK Chs Prt PrtA PrtM PrtW PrtH PrtL Mps

theorem bel_alloc {z w : World} (h : Below z.heap.size z w) (o : Obj) : Below z.heap.size z (w.alloc o) := h.alloc h.size o
theorem moved_map {ι : Type} {enc : ι → Value} {w w' : World} {b : Nat} {g : ι → Option Value} (hm : MapG enc w b g) (hg : w.grownBy w' (some b)) : Moved w w' := ⟨fun h => blk_map h hm hg, fun h => blk_map h hm hg⟩
def Done (lo : Nat) (w : World) (Md : Nat) (o : Option Value) (v : Option PCh) : Prop :=
  match v with
  | none => o = none
  | some x => ∃ M c rs, o = some (.agg #[.int .i64 x.f, .slice (some ⟨M, 0, none⟩) rs.length c]) ∧ AB lo w M c rs ∧ pals rs = x.P ∧ M ≠ Md
theorem Done.imp {lo : Nat} {w w' : World} {Md Md' : Nat} {o : Option Value} {v : Option PCh} (h : Done lo w Md o v) (f : ∀ M c rs, AB lo w M c rs → M ≠ Md → AB lo w' M c rs ∧ M ≠ Md') : Done lo w' Md' o v := by
  cases v with
  | none => exact h
  | some x =>
    obtain ⟨M, c, rs, h1, h2, h3, h4⟩ := h
    exact ⟨M, c, rs, h1, (f M c rs h2 h4).1, h3, (f M c rs h2 h4).2⟩
theorem Done.ent {lo : Nat} {w : World} {Md : Nat} {o : Option Value} {v : Option PCh} (h : Done lo w Md o v) : Ent w o v := by
  cases v with
  | none => exact h
  | some x =>
    obtain ⟨M, c, rs, h1, h2, h3, h4⟩ := h
    have hr := h2.rd.rd
    rw [h3] at hr
    exact ⟨some ⟨M, 0, none⟩, c, by rw [h1, ← pals_len, h3], hr⟩
def keysC (C : List PCh) : List (Int × Int) := (List.range C.length).map (keyC C)
def valsC (C : List PCh) (now : Int) : List (Option PCh) := (List.range C.length).map fun i => sweep1 now (nthC C i)
theorem keys_len (C : List PCh) : (keysC C).length = C.length := by simp [keysC]
theorem vals_len (C : List PCh) (now : Int) : (valsC C now).length = C.length := by simp [valsC]
theorem keys_nth {C : List PCh} {i : Nat} (h : i < C.length) : nthK (keysC C) i = keyC C i := by rw [nthK_eq (by rw [keys_len]; exact h)]; simp [keysC]
theorem vals_nth {C : List PCh} {now : Int} {i : Nat} (h : i < C.length) : nthV (valsC C now) i = sweep1 now (nthC C i) := by rw [nthV_eq (by rw [vals_len]; exact h)]; simp [valsC]
theorem vals_laid (C : List PCh) (now : Int) : laidTo (valsC C now) C.length = sweepTo C now C.length := by
  unfold laidTo sweepTo
  rw [List.take_of_length_le (by rw [vals_len]; exact Nat.le_refl _), List.take_length]
  have e : C = (List.range C.length).map (nthC C) := by
    apply List.ext_getElem
    · simp
    · intro i h1 h2
      simp only [List.getElem_map, List.getElem_range]
      exact (nthC_eq h1).symm
  have e2 : valsC C now = C.map (sweep1 now) := by
    unfold valsC
    rw [e, List.map_map]
    simp only [List.length_map, List.length_range]
    rw [← e]
    rfl
  rw [e2, List.filterMap_map]
  rfl
theorem slots_list {w : World} {M : Nat} {C : List PCh} {cs : Array Value} (h : SlotsK w M C C.length cs) : SlotL w M (keysC C) :=
  ⟨cs, h.blk, by rw [keys_len, h.size]; exact Nat.le_refl _, fun i hi => by
    rw [keys_len] at hi
    rw [keys_nth hi]
    exact h.cell i hi⟩
structure MidY (W0 : World) (C : List PCh) (now : Int) (ad : Nat → Option Addr) (cp : Nat → Nat) (Mm Ms T : Nat) (sc : Array Value) (k : Nat) (W : World) (Md cd : Nat) (rs : List ARow) (g : Int × Int → Option Value) : Prop where
  low : Below W0.heap.size W0 W
  shelf : Blk W T #[.map (some Mm), .slice (some ⟨Ms, 0, none⟩) C.length C.length] 59
  gone : AB W0.heap.size W Md cd rs
  slots : SlotsK W Ms C C.length sc
  map : MapG TwoK W Mm g
  lm : W0.heap.size ≤ Mm
  old : ∀ i, k ≤ i → i < C.length → g (keyC C i) = some (chV (nthC C i) (ad i) (cp i))
  new : ∀ i, i < k → Done W0.heap.size W Md (g (keyC C i)) (sweep1 now (nthC C i))
theorem MidY.grow {W0 : World} {C : List PCh} {now : Int} {ad : Nat → Option Addr} {cp : Nat → Nat} {Mm Ms T : Nat} {sc : Array Value} {k : Nat} {W W' : World} {Md cd : Nat} {rs : List ARow} {g : Int × Int → Option Value} (h : MidY W0 C now ad cp Mm Ms T sc k W Md cd rs g) (hb : Below W.heap.size W W') : MidY W0 C now ad cp Mm Ms T sc k W' Md cd rs g :=
  ⟨grow_on h.low hb, h.shelf.grow hb, h.gone.grow hb, h.slots.grow hb, h.map.grow hb, h.lm, h.old, fun i hi => (h.new i hi).imp fun M c rs ha hn => ⟨ha.grow hb, hn⟩⟩
theorem MidY.turn {W0 : World} {C : List PCh} {now : Int} {ad : Nat → Option Addr} {cp : Nat → Nat} {Mm Ms T : Nat} {sc : Array Value} {k : Nat} {W W' : World} {Md cd : Nat} {rs : List ARow} {g g' : Int × Int → Option Value} (h : MidY W0 C now ad cp Mm Ms T sc k W Md cd rs g) (hm : MapG TwoK W' Mm g') (hg : W.grownBy W' (some Mm)) (hold : ∀ i, k ≤ i → i < C.length → g' (keyC C i) = some (chV (nthC C i) (ad i) (cp i))) (hnew : ∀ i, i < k → g' (keyC C i) = g (keyC C i)) : MidY W0 C now ad cp Mm Ms T sc k W' Md cd rs g' :=
  ⟨mapDown h.low hg (Nat.le_refl _) h.lm, blk_map h.shelf h.map hg, ab_moved h.gone (moved_map h.map hg), h.slots.kept (blk_map h.slots.blk h.map hg), hm, h.lm, hold, fun i hi => by
    rw [hnew i hi]
    exact (h.new i hi).imp fun M c rs ha hn => ⟨ab_moved ha (moved_map h.map hg), hn⟩⟩

set_option maxRecDepth 100000 in
set_option maxHeartbeats 4000000 in
theorem implSweep_any (hd vr now : Int) (a : Option Addr) (cap : Nat) (C : List PCh) (w : World) (hr : RdG RdA w a C) (hl : C.length ≤ 1048576) (hs : SmallA C) (hc : sumC C ≤ 1048576) :
    Calls Try.prog 10 #[.agg #[.int .i64 hd, .int .i64 vr, .slice a C.length cap], .int .i64 now] w fun e w' => (∃ M c cs Md cd rs, e = .returned (.tuple #[.agg #[.int .i64 hd, .int .i64 (verS vr (gonesTo C now C.length).length), .slice (some ⟨M, 0, none⟩) cs.length c], .slice (some ⟨Md, 0, none⟩) rs.length cd]) ∧ CB w.heap.size w' M c cs ∧ AB w.heap.size w' Md cd rs ∧ chs cs = sweepTo C now C.length ∧ pals rs = gonesTo C now C.length ∧ ∀ k, blksC M cs k → ¬ blks Md rs k) ∧ Below w.heap.size w w' := by
  have HR : Hid (RdG RdA w a C ∧ SmallA C ∧ sumC C ≤ 1048576) := ⟨hr, hs, hc⟩
  clear hr hs hc
  obtain ⟨i0, hi, hz0, hz1, hz2⟩ := info_parts infoA
  go_enter Try.func10, Try.ntmps10
  go_wp2_with fail
  obtain ⟨W0, hW0⟩ : ∃ W0, (w.alloc (.cells #[.int .i64 hd, .int .i64 vr, .slice a C.length cap] 28)).alloc (.cells #[.int .i64 0, .int .i64 0, .slice none 0 0] 28) = W0 := ⟨_, rfl⟩
  have HW0 : Hid (Below w.heap.size w W0 ∧ Blk W0 w.heap.size #[.int .i64 hd, .int .i64 vr, .slice a C.length cap] 28 ∧ Blk W0 (w.heap.size + 1) #[.int .i64 0, .int .i64 0, .slice none 0 0] 28 ∧ W0.heap.size = w.heap.size + 2) := by
    rw [← hW0]
    exact ⟨Go.Joins.below_alloc2 w _ _, (Blk.new _ _ _).alloc _, Blk.new_at (by simp), by simp⟩
  rw [hW0]
  clear hW0
  refine (shelve_any a cap C W0 (HR.out.1.below stays_rd HW0.out.1) hl).mono ?_
  rintro e w2 ⟨⟨Mm, Ms, rfl, ad, cp, hsh⟩, hb2⟩
  obtain ⟨sc, hsc⟩ := hsh.slots
  have HSH : Hid (Shelved W0.heap.size W0 w2 C ad cp Mm Ms) := hsh
  have HSC : Hid (SlotsK w2 Ms C C.length sc) := hsc
  have HB2 : Hid (Below W0.heap.size W0 w2) := hb2
  clear hsh hsc hb2
  obtain ⟨W3, hW3⟩ : ∃ W3, (w2.alloc (.cells #[] 68)).alloc (.cells #[.map (some Mm), .slice (some ⟨Ms, 0, none⟩) C.length C.length] 59) = W3 := ⟨_, rfl⟩
  have H3 : Hid (MidY W0 C now ad cp Mm Ms (w2.heap.size + 1) sc 0 W3 w2.heap.size 0 [] (shG C (fun i => chV (nthC C i) (ad i) (cp i)) C.length)) := by
    have hbb : Below w2.heap.size w2 W3 := by rw [← hW3]; exact Go.Joins.below_alloc2 w2 _ _
    have h1 : Blk W3 (w2.heap.size + 1) #[.map (some Mm), .slice (some ⟨Ms, 0, none⟩) C.length C.length] 59 := by rw [← hW3]; exact Blk.new_at (by simp)
    have h2 : Blk W3 w2.heap.size #[] 68 := by rw [← hW3]; exact (Blk.new _ _ _).alloc _
    exact ⟨grow_on HB2.out hbb, h1, AB.nil h2 HB2.out.size, HSC.out.grow hbb, HSH.out.map.grow hbb, HSH.out.lm, fun i _ hi => shG_at hi, fun i hi => by omega⟩
  have t1 : W3.cell? ⟨w2.heap.size + 1, 1, none⟩ = some (.slice (some ⟨Ms, 0, none⟩) C.length C.length) := H3.out.shelf.cell 1
  go_wp2
  try rw [hW3]
  clear hW3 t1
  go_loopw [7, 20] (fun v i w' => ∃ (k Md cd : Nat) (rs : List ARow) (g : Int × Int → Option Value), i = .int .i64 k ∧ k ≤ C.length ∧ v = .slice (some ⟨Md, 0, none⟩) rs.length cd ∧ MidY W0 C now ad cp Mm Ms (w2.heap.size + 1) sc k w' Md cd rs g ∧ pals rs = gonesTo C now k) (fun _ i _ => C.length - (intOf i).toNat)
  case atStart => exact ⟨0, w2.heap.size, 0, [], _, rfl, Nat.zero_le _, rfl, H3.out, rfl⟩
  case round =>
    obtain ⟨k, Md, cd, rs, g, rfl, hk, rfl, hmid, hpg⟩ := hrel
    have HM : Hid (MidY W0 C now ad cp Mm Ms (w2.heap.size + 1) sc k wr Md cd rs g) := hmid
    have HP : Hid (pals rs = gonesTo C now k) := hpg
    clear hmid hpg
    by_cases hlt : k < C.length
    · have hlt' : (k : Int) < (C.length : Int) := by omega
      obtain ⟨k0, k1⟩ := HM.out.slots.cell k hlt
      have x0 : wr.cell? ⟨Ms, k * 2, none⟩ = some (.int .i64 (keyC C k).1) := (HM.out.slots.blk.cell _).trans k0
      have x1 : wr.cell? ⟨Ms, k * 2 + 1, none⟩ = some (.int .i64 (keyC C k).2) := (HM.out.slots.blk.cell _).trans k1
      clear k0 k1
      obtain ⟨W4, hW4⟩ : ∃ W4, wr.alloc (.cells #[.int .i64 (keyC C k).1, .int .i64 (keyC C k).2] 62) = W4 := ⟨_, rfl⟩
      have H4 : Hid (Below wr.heap.size wr W4 ∧ Blk W4 wr.heap.size #[.int .i64 (keyC C k).1, .int .i64 (keyC C k).2] 62) := by
        rw [← hW4]
        exact ⟨Go.Joins.below_alloc1 wr _, Blk.new _ _ _⟩
      have HM4 : Hid (MidY W0 C now ad cp Mm Ms (w2.heap.size + 1) sc k W4 Md cd rs g) := HM.out.grow H4.out.1
      have y0 : W4.cell? ⟨wr.heap.size, 0, none⟩ = some (.int .i64 (keyC C k).1) := H4.out.2.cell 0
      have y1 : W4.cell? ⟨wr.heap.size, 1, none⟩ = some (.int .i64 (keyC C k).2) := H4.out.2.cell 1
      have t0 : W4.cell? ⟨w2.heap.size + 1, 0, none⟩ = some (.map (some Mm)) := HM4.out.shelf.cell 0
      have HG : Hid ((g (keyC C k)).getD (.agg #[.int .i64 0, .slice none 0 0]) = .agg #[.int .i64 (nthC C k).f, .slice (ad k) (nthC C k).P.length (cp k)]) := by show Option.getD _ _ = _; rw [HM.out.old k (Nat.le_refl _) hlt]; rfl
      have HSk : Hid ((nthC C k).P.length ≤ 1048576 ∧ LenM (nthC C k).P) := HR.out.2.1 _ (nthC_mem hlt)
      go_wp2_with (at_lookup; refine wp_lookup _ rfl _ _ 56 false rfl 62 52 TwoK asked_slot Try.underlying56 (zeroC _) Mm g rfl HM4.out.map (keyC C k) rfl (.agg #[.int .i64 (nthC C k).f, .slice (ad k) (nthC C k).P.length (cp k)]) HG.out ?_)
      go_wp2_with fail
      refine (implDrop_any _ (ad k) (cp k) (nthC C k).P now W4 ((HSH.out.reads k hlt).below HM4.out.low) HSk.out.1 HSk.out.2).mono ?_
      rintro e w5 ⟨⟨M1, c1, rs1, M2, c2', rs2, rfl, hT, hp1, hp2⟩, hb5⟩
      have HT : Hid (Two W4.heap.size w5 M1 c1 rs1 M2 c2' rs2 ∧ pals rs1 = leftTo (nthC C k).P now (nthC C k).P.length ∧ pals rs2 = goneTo (nthC C k).P now (nthC C k).P.length) := ⟨hT, hp1, hp2⟩
      have HB5 : Hid (Below W4.heap.size W4 w5) := hb5
      clear hT hp1 hp2 hb5 x0 x1 y0 y1 t0 hW4
      obtain ⟨W6, hW6⟩ : ∃ W6, w5.alloc (.cells #[.int .i64 (nthC C k).f, .slice (some ⟨M1, 0, none⟩) rs1.length c1] 52) = W6 := ⟨_, rfl⟩
      have H6 : Hid (Below w5.heap.size w5 W6 ∧ Blk W6 w5.heap.size #[.int .i64 (nthC C k).f, .slice (some ⟨M1, 0, none⟩) rs1.length c1] 52) := by
        rw [← hW6]
        exact ⟨Go.Joins.below_alloc1 w5 _, Blk.new _ _ _⟩
      have HM6 : Hid (MidY W0 C now ad cp Mm Ms (w2.heap.size + 1) sc k W6 Md cd rs g ∧ Blk W6 wr.heap.size #[.int .i64 (keyC C k).1, .int .i64 (keyC C k).2] 62) := ⟨(HM4.out.grow HB5.out).grow H6.out.1, (H4.out.2.grow HB5.out).grow H6.out.1⟩
      have HT6 : Hid (Two W4.heap.size W6 M1 c1 rs1 M2 c2' rs2) := HT.out.1.grow H6.out.1
      have HL : Hid (rs1.length = (leftTo (nthC C k).P now (nthC C k).P.length).length ∧ rs2.length = (goneTo (nthC C k).P now (nthC C k).P.length).length) := ⟨by rw [← pals_len, HT.out.2.1], by rw [← pals_len, HT.out.2.2]⟩
      have hgl : rs.length + rs2.length ≤ 1048576 := by
        have h1 := (sweep_sum (C := C) (now := now) (k := k + 1) (by omega)).1
        have h2 := sumC_le C (k + 1)
        have h3 := HR.out.2.2
        rw [gones_up hlt, List.length_append, ← HP.out, pals_len, ← HL.out.2] at h1
        omega
      have hwz : W0.heap.size ≤ W4.heap.size := HM4.out.low.size
      obtain ⟨xs, hox, hxl, hxs⟩ := HM6.out.1.gone.own
      have HOX : Hid (W6.ownsRow W0.heap.size 68 4 (.slice (some ⟨Md, 0, none⟩) rs.length cd) rs.length xs) := hox
      have HXS : Hid (xs.length = rs.length * 4 ∧ ∀ i, i < rs.length → Four (fun k => xs[k]?) i (nthA rs i)) := ⟨hxl, hxs⟩
      clear hox hxl hxs
      go_wp2_with (at_builtin; refine wpList_append_own_at _ rfl _ _ 29 rfl W0.heap.size 68 i0 (.agg #[.slice none 0 0, .int .i64 0, .int .i64 0, .string ByteArray.empty]) 4 56 Try.underlying29 hi hz0 hz1 hz2 rfl (by decide) _ _ _ rfl HOX.out ⟨M2, 0, none⟩ rs2.length _ (flatA rs2) rfl (flatA_len rs2) (flatA_news HT6.out.b) (flatA_one _) ?c3 ?c4 ?c5 ?_)
      case c3 => unfold maxLen; omega
      case c4 => omega
      case c5 => exact HM6.out.1.low.size
      intro v' w7 hown hg hnil hat
      obtain ⟨M7, c7, rfl, hAB7⟩ := AB.appAll HM6.out.1.gone (fun x hx => (HT6.out.b.rows x hx).down hwz) HT6.out.b.ne (fun y hy x hx => by have := (HM4.out.gone.rows y hy).lt; have := (HT6.out.b.rows x hx).1; omega) HXS.out.1 HXS.out.2 hown hg (fun e => by rw [e] at hat; simp [Value.ownBlock] at hat)
      have hM7 : M7 = Md ∨ M7 = W6.heap.size := at_new hat rfl
      obtain ⟨cu, hcu⟩ := ab_out HM6.out.1.gone
      have hMd := HM4.out.gone.lt
      have fr : ∀ {N : Nat} {ds : Array Value} {T : TypeId}, Blk W6 N ds T → T ≠ 68 → Blk w7 N ds T := fun h hT => blk_far h hg (fun e => blkT_ne h hcu hT (Option.some.inj e))
      have HM7 : Hid (MidY W0 C now ad cp Mm Ms (w2.heap.size + 1) sc k w7 M7 c7 (rs ++ rs2) g) := ⟨HM6.out.1.low.grown hg HM6.out.1.low.size (fun q e => by have h : Md = q := Option.some.inj e; have := HM.out.gone.at'; omega), fr HM6.out.1.shelf (by decide), hAB7, HM6.out.1.slots.kept (fr HM6.out.1.slots.blk (by decide)), HM6.out.1.map.far hg (fun e => HM6.out.1.map.ne_blk hcu (Option.some.inj e).symm), HM.out.lm, HM.out.old, fun i hi => (HM6.out.1.new i hi).imp fun M c rs ha hn => ⟨ab_far ha hcu hg hn, by
        rcases hM7 with e | e
        · rw [e]; exact hn
        · have := ha.lt; omega⟩⟩
      have HX7 : Hid (Blk w7 w5.heap.size #[.int .i64 (nthC C k).f, .slice (some ⟨M1, 0, none⟩) rs1.length c1] 52 ∧ Blk w7 wr.heap.size #[.int .i64 (keyC C k).1, .int .i64 (keyC C k).2] 62) := ⟨fr H6.out.2 (by decide), fr HM6.out.2 (by decide)⟩
      have HA7 : Hid (AB W0.heap.size w7 M1 c1 rs1 ∧ M1 ≠ M7) := ⟨(ab_far HT6.out.a hcu hg (by have := HT6.out.a.at'; omega)).down hwz, by
        rcases hM7 with e | e
        · have := HT6.out.a.at'; omega
        · have := HT6.out.a.lt; omega⟩
      have HG7 : Hid (pals (rs ++ rs2) = gonesTo C now (k + 1)) := by show _ = _; rw [pals_two, HP.out, HT.out.2.2, gones_up hlt]
      have hl7 : (rs ++ rs2).length = rs.length + rs2.length := by simp
      rw [← hl7]
      have x0 : w7.cell? ⟨w5.heap.size, 0, none⟩ = some (.int .i64 (nthC C k).f) := HX7.out.1.cell 0
      have x1 : w7.cell? ⟨w5.heap.size, 1, none⟩ = some (.slice (some ⟨M1, 0, none⟩) rs1.length c1) := HX7.out.1.cell 1
      have y0 : w7.cell? ⟨wr.heap.size, 0, none⟩ = some (.int .i64 (keyC C k).1) := HX7.out.2.cell 0
      have y1 : w7.cell? ⟨wr.heap.size, 1, none⟩ = some (.int .i64 (keyC C k).2) := HX7.out.2.cell 1
      have t0 : w7.cell? ⟨w2.heap.size + 1, 0, none⟩ = some (.map (some Mm)) := HM7.out.shelf.cell 0
      clear hown hg hnil hat hAB7 hM7 hcu hMd hW6 hl7 fr
      generalize hqq : rs ++ rs2 = qs at HM7 HG7 ⊢
      clear hqq
      go_wp2_with (at_mapUpdate; refine wp_update _ rfl _ _ _ 56 rfl 62 52 TwoK asked_slot Try.underlying56 Mm g rfl HM7.out.map (keyC C k) (.agg #[.int .i64 (nthC C k).f, .slice (some ⟨M1, 0, none⟩) rs1.length c1]) rfl rfl ?_)
      intro w8 hm8 hg8 hs8
      have HNK : Hid (∀ i, i ≠ k → keyC C i ≠ keyC C k) := fun i hi e => hi (keyC_inj e)
      have hold8 : ∀ i, k + 1 ≤ i → i < C.length → updG g (keyC C k) (some (.agg #[.int .i64 (nthC C k).f, .slice (some ⟨M1, 0, none⟩) rs1.length c1])) (keyC C i) = some (chV (nthC C i) (ad i) (cp i)) := fun i h1 h2 => by rw [upd_no (HNK.out i (by omega))]; exact HM.out.old i (by omega) h2
      have hnew8 : ∀ i, i < k → updG g (keyC C k) (some (.agg #[.int .i64 (nthC C k).f, .slice (some ⟨M1, 0, none⟩) rs1.length c1])) (keyC C i) = g (keyC C i) := fun i h1 => upd_no (HNK.out i (by omega))
      have HA8 : Hid (AB W0.heap.size w8 M1 c1 rs1) := ab_moved HA7.out.1 (moved_map HM7.out.map hg8)
      have HM8 : Hid (Below W0.heap.size W0 w8 ∧ Blk w8 (w2.heap.size + 1) #[.map (some Mm), .slice (some ⟨Ms, 0, none⟩) C.length C.length] 59 ∧ AB W0.heap.size w8 M7 c7 qs ∧ SlotsK w8 Ms C C.length sc ∧ MapG TwoK w8 Mm (updG g (keyC C k) (some (.agg #[.int .i64 (nthC C k).f, .slice (some ⟨M1, 0, none⟩) rs1.length c1]))) ∧ ∀ i, i < k → Done W0.heap.size w8 M7 (updG g (keyC C k) (some (.agg #[.int .i64 (nthC C k).f, .slice (some ⟨M1, 0, none⟩) rs1.length c1])) (keyC C i)) (sweep1 now (nthC C i))) := ⟨mapDown HM7.out.low hg8 (Nat.le_refl _) HM.out.lm, blk_map HM7.out.shelf HM7.out.map hg8, ab_moved HM7.out.gone (moved_map HM7.out.map hg8), HM7.out.slots.kept (blk_map HM7.out.slots.blk HM7.out.map hg8), hm8, fun i hi => by
        rw [hnew8 i hi]
        exact (HM7.out.new i hi).imp fun M c rs ha hn => ⟨ab_moved ha (moved_map HM7.out.map hg8), hn⟩⟩
      have HH8 : Hid (∀ i, k + 1 ≤ i → i < C.length → updG g (keyC C k) (some (.agg #[.int .i64 (nthC C k).f, .slice (some ⟨M1, 0, none⟩) rs1.length c1])) (keyC C i) = some (chV (nthC C i) (ad i) (cp i))) := hold8
      have x1' : w8.cell? ⟨w5.heap.size, 1, none⟩ = some (.slice (some ⟨M1, 0, none⟩) rs1.length c1) := (blk_map HX7.out.1 HM7.out.map hg8).cell 1
      have y0' : w8.cell? ⟨wr.heap.size, 0, none⟩ = some (.int .i64 (keyC C k).1) := (blk_map HX7.out.2 HM7.out.map hg8).cell 0
      have y1' : w8.cell? ⟨wr.heap.size, 1, none⟩ = some (.int .i64 (keyC C k).2) := (blk_map HX7.out.2 HM7.out.map hg8).cell 1
      have t0' : w8.cell? ⟨w2.heap.size + 1, 0, none⟩ = some (.map (some Mm)) := HM8.out.2.1.cell 0
      clear hm8 hg8 hs8 hold8 hnew8 x0 x1 y0 y1 t0
      by_cases hle : rs1.length = 0
      · have HS : Hid (sweep1 now (nthC C k) = none) := sweep1_no (by have := HL.out.1; omega)
        go_wp2_with (at_delete; refine wp_delete _ rfl _ _ 56 62 rfl 52 TwoK asked_slot Try.underlying56 Mm _ rfl HM8.out.2.2.2.2.1 (keyC C k) rfl ?_)
        intro w9 hm9 hg9 hs9
        have hmp := HM8.out.2.2.2.2.1
        have HM9 : Hid (MidY W0 C now ad cp Mm Ms (w2.heap.size + 1) sc (k + 1) w9 M7 c7 qs (updG (updG g (keyC C k) (some (.agg #[.int .i64 (nthC C k).f, .slice (some ⟨M1, 0, none⟩) rs1.length c1]))) (keyC C k) none)) := ⟨mapDown HM8.out.1 hg9 (Nat.le_refl _) HM.out.lm, blk_map HM8.out.2.1 hmp hg9, ab_moved HM8.out.2.2.1 (moved_map hmp hg9), HM8.out.2.2.2.1.kept (blk_map HM8.out.2.2.2.1.blk hmp hg9), (by first | exact hm9 | (rw [hle]; exact hm9)), HM.out.lm, fun i h1 h2 => by rw [upd_no (HNK.out i (by omega))]; exact HH8.out i h1 h2, fun i h1 => by
          by_cases e : i = k
          · subst e; rw [upd_at, HS.out]; exact rfl
          · rw [upd_no (HNK.out i e)]
            exact (HM8.out.2.2.2.2.2 i (by omega)).imp fun M c rs ha hn => ⟨ab_moved ha (moved_map hmp hg9), hn⟩⟩
        clear hm9 hg9 hs9 hmp x1' y0' y1' t0' hle
        go_wp2
        go_roundw
        case rel => exact ⟨k + 1, M7, c7, qs, _, by go_num, by omega, rfl, HM9.out, HG7.out⟩
        case measure => simp [intOf]; omega
      · have HS : Hid (sweep1 now (nthC C k) = some ⟨(nthC C k).f, leftTo (nthC C k).P now (nthC C k).P.length⟩) := sweep1_yes (by have := HL.out.1; omega)
        have hle' : ¬ (rs1.length : Int) = 0 := by omega
        have HM9 : Hid (MidY W0 C now ad cp Mm Ms (w2.heap.size + 1) sc (k + 1) w8 M7 c7 qs (updG g (keyC C k) (some (.agg #[.int .i64 (nthC C k).f, .slice (some ⟨M1, 0, none⟩) rs1.length c1])))) := ⟨HM8.out.1, HM8.out.2.1, HM8.out.2.2.1, HM8.out.2.2.2.1, HM8.out.2.2.2.2.1, HM.out.lm, HH8.out, fun i h1 => by
          by_cases e : i = k
          · subst e; rw [upd_at, HS.out]; exact ⟨M1, c1, rs1, rfl, HA8.out, HT.out.2.1, HA7.out.2⟩
          · exact HM8.out.2.2.2.2.2 i (by omega)⟩
        go_wp2
        go_roundw
        case rel => exact ⟨k + 1, M7, c7, qs, _, by go_num, by omega, rfl, HM9.out, HG7.out⟩
        case measure => simp [intOf]; omega
    · have hge : ¬ (k : Int) < (C.length : Int) := by omega
      have HE : Hid (k = C.length) := by show k = C.length; omega
      have HF : Hid (pals rs = gonesTo C now C.length) := by show _ = _; rw [HP.out, HE.out]
      have HRL : Hid (rs.length = (gonesTo C now C.length).length) := by show _ = _; rw [← pals_len, HF.out]
      have HPT : Hid (Blk wr w.heap.size #[.int .i64 hd, .int .i64 vr, .slice a C.length cap] 28 ∧ Blk wr (w.heap.size + 1) #[.int .i64 0, .int .i64 0, .slice none 0 0] 28) := ⟨HW0.out.2.1.grow HM.out.low, HW0.out.2.2.1.grow HM.out.low⟩
      have HLA : Hid (∀ z, Below wr.heap.size wr z → Calls Try.prog 33 #[.agg #[.map (some Mm), .slice (some ⟨Ms, 0, none⟩) C.length C.length]] z fun e w' => (∃ M c cs, e = .returned (.slice (some ⟨M, 0, none⟩) cs.length c) ∧ CB z.heap.size w' M c cs ∧ chs cs = sweepTo C now C.length) ∧ Below z.heap.size z w') := fun z hz => by
        have hM := HM.out
        rw [HE.out] at hM
        have h := laid_any Mm Ms C.length g (keysC C) (valsC C now) z (hM.map.grow hz) ((slots_list hM.slots).grow hz) (by rw [keys_len, vals_len]) (fun i hi => by
          rw [keys_len] at hi
          rw [keys_nth hi, vals_nth hi]
          exact (hM.new i hi).ent.grow hz) (by rw [keys_len]; omega) (fun i x hi hv => by
          rw [keys_len] at hi
          rw [vals_nth hi] at hv
          have h1 := HR.out.2.1 _ (nthC_mem hi)
          have h2 := left_gone (nthC C i).P now
          by_cases q : (leftTo (nthC C i).P now (nthC C i).P.length).length = 0
          · rw [sweep1_no q] at hv; cases hv
          · rw [sweep1_yes q] at hv
            cases hv
            refine ⟨by show (leftTo _ _ _).length ≤ _; omega, fun j hj => ?_⟩
            have hmem : nthP (leftTo (nthC C i).P now (nthC C i).P.length) j ∈ leftTo (nthC C i).P now (nthC C i).P.length := by rw [nthP_eq hj]; exact List.getElem_mem _
            have hm2 := List.mem_of_mem_take (List.mem_filter.1 hmem).1
            obtain ⟨q, hq, e⟩ := List.getElem_of_mem hm2
            have := h1.2 q hq
            rw [nthP_eq hq, e] at this
            exact this)
        rw [keys_len, vals_laid] at h
        exact h
      go_upto_region 11 with fail
      have HS : Hid (∀ w', Blk w' w.heap.size #[.int .i64 hd, .int .i64 vr, .slice a C.length cap] 28 → Blk w' (w2.heap.size + 1) #[.map (some Mm), .slice (some ⟨Ms, 0, none⟩) C.length C.length] 59 → w'.cell? ⟨w.heap.size, 0, none⟩ = some (.int .i64 hd) ∧ w'.cell? ⟨w.heap.size, 1, none⟩ = some (.int .i64 vr) ∧ w'.cell? ⟨w2.heap.size + 1, 0, none⟩ = some (.map (some Mm)) ∧ w'.cell? ⟨w2.heap.size + 1, 1, none⟩ = some (.slice (some ⟨Ms, 0, none⟩) C.length C.length)) := fun w' h k => ⟨h.cell 0, h.cell 1, k.cell 0, k.cell 1⟩
      go_cut [12] from 48 to 54 (fun s12 wx => ∃ (N M c : Nat) (cs : List CRow), s12 = .pointer (some ⟨N, 0, none⟩) ∧ Blk wx N #[.int .i64 hd, .int .i64 vr, .slice (some ⟨M, 0, none⟩) cs.length c] 28 ∧ CB wr.heap.size wx M c cs ∧ chs cs = sweepTo C now C.length ∧ wr.heap.size ≤ N ∧ Below wr.heap.size wr wx)
      case first =>
        refine wp_region_held_drew (S := fun w' => w'.cell? ⟨w.heap.size, 0, none⟩ = some (.int .i64 hd) ∧ w'.cell? ⟨w.heap.size, 1, none⟩ = some (.int .i64 vr) ∧ w'.cell? ⟨w2.heap.size + 1, 0, none⟩ = some (.map (some Mm)) ∧ w'.cell? ⟨w2.heap.size + 1, 1, none⟩ = some (.slice (some ⟨Ms, 0, none⟩) C.length C.length)) (by kernel_rfl) (HS.out _ HPT.out.1.drew HM.out.shelf.drew) (fun hHeld => ?_)
        refine wpAnyH_take (i := 0) (oi := { dst := some 48, op := Op.fieldAddr 28 (Operand.tmp 2) 0, type := 0, pos := "l07_part.go:120", after := #[], guard := none }) (v := ?vy1) rfl (by kernel_rfl) (by kernel_rfl) (by kernel_rfl) (fun _ _ _ h => h) (Or.inl ⟨by rfl, ?hyy1⟩) hHeld ?_
        case hyy1 => (intro w hSw; (try dsimp only at hSw); go_simp <;> with_reducible rfl)
        try simp only [Act.put, List.setIfInBounds_toArray, List.set_cons_zero, List.set_cons_succ]
        refine wpAnyH_take (i := 1) (oi := { dst := some 49, op := Op.load 3 (Operand.tmp 48), type := 3, pos := "l07_part.go:120", after := #[{ on := 0, ground := Ground.data }], guard := none }) (v := ?vy2) rfl (by kernel_rfl) (by kernel_rfl) (by kernel_rfl) (fun _ _ _ h => h) (Or.inl ⟨by rfl, ?hyy2⟩) hHeld ?_
        case hyy2 => (intro w hSw; (try dsimp only at hSw); go_simp <;> with_reducible rfl)
        try simp only [Act.put, List.setIfInBounds_toArray, List.set_cons_zero, List.set_cons_succ]
        refine wpAnyH_take (i := 2) (oi := { dst := some 50, op := Op.fieldAddr 28 (Operand.tmp 2) 1, type := 0, pos := "l07_part.go:120", after := #[], guard := none }) (v := ?vy3) rfl (by kernel_rfl) (by kernel_rfl) (by kernel_rfl) (fun _ _ _ h => h) (Or.inl ⟨by rfl, ?hyy3⟩) hHeld ?_
        case hyy3 => (intro w hSw; (try dsimp only at hSw); go_simp <;> with_reducible rfl)
        try simp only [Act.put, List.setIfInBounds_toArray, List.set_cons_zero, List.set_cons_succ]
        refine wpAnyH_take (i := 3) (oi := { dst := some 51, op := Op.load 3 (Operand.tmp 50), type := 3, pos := "l07_part.go:120", after := #[{ on := 2, ground := Ground.data }], guard := none }) (v := ?vy4) rfl (by kernel_rfl) (by kernel_rfl) (by kernel_rfl) (fun _ _ _ h => h) (Or.inl ⟨by rfl, ?hyy4⟩) hHeld ?_
        case hyy4 => (intro w hSw; (try dsimp only at hSw); go_simp <;> with_reducible rfl)
        try simp only [Act.put, List.setIfInBounds_toArray, List.set_cons_zero, List.set_cons_succ]
        refine wpAnyH_take (i := 4) (oi := { dst := some 52, op := Op.load 59 (Operand.tmp 6), type := 59, pos := "l07_part.go:120", after := #[], guard := none }) (v := ?vy5) rfl (by kernel_rfl) (by kernel_rfl) (by kernel_rfl) (fun _ _ _ h => h) (Or.inl ⟨by rfl, ?hyy5⟩) hHeld ?_
        case hyy5 => (intro w hSw; (try dsimp only at hSw); go_simp <;> with_reducible rfl)
        try simp only [Act.put, List.setIfInBounds_toArray, List.set_cons_zero, List.set_cons_succ]
        refine wpAnyH_ready (rs := [5, 7]) (by kernel_rfl) (by simp) ?_
        refine AllReadyH.cons (o := { dst := some 53, op := Op.call { callee := Callee.value (Operand.func 33), args := #[Operand.tmp 52], argTypes := #[59] }, type := 26, pos := "l07_part.go:120", after := #[{ on := 4, ground := Ground.data }], guard := none }) rfl (fun K hK => ?_) ?_
        ·
          go_simp
          refine (HLA.out _ ((Below.refl wr.heap.size wr).drew)).mono ?_
          rintro r wa ⟨⟨OM, Oc, Oz, rfl, hA, hP⟩, hy⟩
          have ZA : Hid (Below wr.heap.size wr wa) := grow_on ((Below.refl wr.heap.size wr).drew) hy
          have OA : Hid (CB wr.heap.size wa OM Oc Oz ∧ chs Oz = sweepTo C now C.length) := ⟨hA.down ((Below.refl wr.heap.size wr).drew).size, hP⟩
          clear hA hP hy
          clear hHeld
          refine hK.out _ _ (HS.out _ (HPT.out.1.grow (ZA.out)) (HM.out.shelf.grow (ZA.out))) (fun hHeld => ?_)
          clear hK K
          try simp only [Act.put, List.setIfInBounds_toArray, List.set_cons_zero, List.set_cons_succ]
          refine wpAnyH_take (i := 6) (oi := { dst := some 54, op := Op.build 28 #[(0, Operand.tmp 49), (1, Operand.tmp 51), (2, Operand.tmp 53)], type := 28, pos := "l07_part.go:120", after := #[{ on := 1, ground := Ground.data }, { on := 3, ground := Ground.data }, { on := 5, ground := Ground.data }], guard := none }) (v := ?vy7) rfl (by kernel_rfl) (by kernel_rfl) (by kernel_rfl) (fun _ _ _ h => h) (Or.inl ⟨by rfl, ?hyy7⟩) hHeld ?_
          case hyy7 => (intro w hSw; (try dsimp only at hSw); go_simp <;> with_reducible rfl)
          try simp only [Act.put, List.setIfInBounds_toArray, List.set_cons_zero, List.set_cons_succ]
          refine wpAnyH_ready (rs := [7]) (by kernel_rfl) (by simp) ?_
          refine AllReadyH.cons (o := { dst := some 12, op := Op.alloc 28, type := 0, pos := "l07_part.go:120", after := #[], guard := none }) rfl (fun K hK => ?_) AllReadyH.nil
          go_simp
          clear hHeld
          refine hK.out _ _ (HS.out _ (HPT.out.1.grow (bel_alloc (ZA.out) _)) (HM.out.shelf.grow (bel_alloc (ZA.out) _))) (fun hHeld => ?_)
          clear hK K
          try simp only [Act.put, List.setIfInBounds_toArray, List.set_cons_zero, List.set_cons_succ]
          refine wpAnyH_ready (rs := [8]) (by kernel_rfl) (by simp) ?_
          refine AllReadyH.cons (o := { dst := none, op := Op.store 28 (Operand.tmp 12) (Operand.tmp 54), type := 0, pos := "l07_part.go:120", after := #[{ on := 7, ground := Ground.data }, { on := 6, ground := Ground.data }, { on := 5, ground := Ground.chain }, { on := 0, ground := Ground.phase }, { on := 1, ground := Ground.phase }, { on := 2, ground := Ground.phase }, { on := 3, ground := Ground.phase }, { on := 4, ground := Ground.phase }, { on := 5, ground := Ground.phase }, { on := 6, ground := Ground.phase }, { on := 7, ground := Ground.phase }], guard := none }) rfl (fun K hK => ?_) AllReadyH.nil
          go_simp
          clear hHeld
          refine hK.out _ _ (HS.out _ (HPT.out.1.grow (bel_alloc ZA.out _)) (HM.out.shelf.grow (bel_alloc ZA.out _))) (fun hHeld => ?_)
          clear hK K
          try simp only [Act.put, List.setIfInBounds_toArray, List.set_cons_zero, List.set_cons_succ]
          refine wpAnyH_done (by kernel_rfl) ?_ _
          go_wp2_with fail
          go_meet
          exact ⟨_, OM, Oc, Oz, rfl, Blk.new _ _ _, OA.out.1.grow (Go.Joins.below_alloc1 wa _), OA.out.2, ZA.out.size, bel_alloc ZA.out _⟩
        refine AllReadyH.cons (o := { dst := some 12, op := Op.alloc 28, type := 0, pos := "l07_part.go:120", after := #[], guard := none }) rfl (fun K hK => ?_) AllReadyH.nil
        go_simp
        clear hHeld
        refine hK.out _ _ (HS.out _ (HPT.out.1.grow (bel_alloc ((Below.refl wr.heap.size wr).drew) _)) (HM.out.shelf.grow (bel_alloc ((Below.refl wr.heap.size wr).drew) _))) (fun hHeld => ?_)
        clear hK K
        try simp only [Act.put, List.setIfInBounds_toArray, List.set_cons_zero, List.set_cons_succ]
        refine wpAnyH_ready (rs := [5]) (by kernel_rfl) (by simp) ?_
        refine AllReadyH.cons (o := { dst := some 53, op := Op.call { callee := Callee.value (Operand.func 33), args := #[Operand.tmp 52], argTypes := #[59] }, type := 26, pos := "l07_part.go:120", after := #[{ on := 4, ground := Ground.data }], guard := none }) rfl (fun K hK => ?_) AllReadyH.nil
        go_simp
        refine (HLA.out _ (bel_alloc ((Below.refl wr.heap.size wr).drew) _)).mono ?_
        rintro r wa ⟨⟨OM, Oc, Oz, rfl, hA, hP⟩, hy⟩
        have ZA : Hid (Below wr.heap.size wr wa) := grow_on (bel_alloc ((Below.refl wr.heap.size wr).drew) _) hy
        have OA : Hid (CB wr.heap.size wa OM Oc Oz ∧ chs Oz = sweepTo C now C.length) := ⟨hA.down (bel_alloc ((Below.refl wr.heap.size wr).drew) _).size, hP⟩
        have NB : Hid (Blk wa wr.heap.size #[.int .i64 0, .int .i64 0, .slice none 0 0] 28) := (Blk.new wr.drew _ _).grow hy
        clear hA hP hy
        clear hHeld
        refine hK.out _ _ (HS.out _ (HPT.out.1.grow (ZA.out)) (HM.out.shelf.grow (ZA.out))) (fun hHeld => ?_)
        clear hK K
        try simp only [Act.put, List.setIfInBounds_toArray, List.set_cons_zero, List.set_cons_succ]
        refine wpAnyH_take (i := 6) (oi := { dst := some 54, op := Op.build 28 #[(0, Operand.tmp 49), (1, Operand.tmp 51), (2, Operand.tmp 53)], type := 28, pos := "l07_part.go:120", after := #[{ on := 1, ground := Ground.data }, { on := 3, ground := Ground.data }, { on := 5, ground := Ground.data }], guard := none }) (v := ?vy12) rfl (by kernel_rfl) (by kernel_rfl) (by kernel_rfl) (fun _ _ _ h => h) (Or.inl ⟨by rfl, ?hyy12⟩) hHeld ?_
        case hyy12 => (intro w hSw; (try dsimp only at hSw); go_simp <;> with_reducible rfl)
        try simp only [Act.put, List.setIfInBounds_toArray, List.set_cons_zero, List.set_cons_succ]
        refine wpAnyH_ready (rs := [8]) (by kernel_rfl) (by simp) ?_
        refine AllReadyH.cons (o := { dst := none, op := Op.store 28 (Operand.tmp 12) (Operand.tmp 54), type := 0, pos := "l07_part.go:120", after := #[{ on := 7, ground := Ground.data }, { on := 6, ground := Ground.data }, { on := 5, ground := Ground.chain }, { on := 0, ground := Ground.phase }, { on := 1, ground := Ground.phase }, { on := 2, ground := Ground.phase }, { on := 3, ground := Ground.phase }, { on := 4, ground := Ground.phase }, { on := 5, ground := Ground.phase }, { on := 6, ground := Ground.phase }, { on := 7, ground := Ground.phase }], guard := none }) rfl (fun K hK => ?_) AllReadyH.nil
        have n0 : wa.cell? ⟨wr.heap.size, 0, none⟩ = some (.int .i64 0) := NB.out.cell 0
        have n1 : wa.cell? ⟨wr.heap.size, 1, none⟩ = some (.int .i64 0) := NB.out.cell 1
        have n2 : wa.cell? ⟨wr.heap.size, 2, none⟩ = some (.slice none 0 0) := NB.out.cell 2
        have m0 := NB.out.frozen 0
        have m1 := NB.out.frozen 1
        have m2 := NB.out.frozen 2
        go_simp
        clear n0 n1 n2 m0 m1 m2 hHeld
        have hz : Below wr.heap.size wr (((wa.setCell ⟨wr.heap.size, 0, none⟩ (.int .i64 hd)).setCell ⟨wr.heap.size, 1, none⟩ (.int .i64 vr)).setCell ⟨wr.heap.size, 2, none⟩ (.slice (some ⟨OM, 0, none⟩) Oz.length Oc)) := set3 ZA.out (Nat.le_refl _) _ _ _
        refine hK.out _ _ (HS.out _ (HPT.out.1.grow hz) (HM.out.shelf.grow hz)) (fun hHeld => ?_)
        clear hK K hz
        try simp only [Act.put, List.setIfInBounds_toArray, List.set_cons_zero, List.set_cons_succ]
        refine wpAnyH_done (by kernel_rfl) ?_ _
        go_wp2_with fail
        go_meet
        exact ⟨_, OM, Oc, Oz, rfl, put3 NB.out _ _ _, CB.set3 OA.out.1 NB.out _ _ _, OA.out.2, Nat.le_refl _, set3 ZA.out (Nat.le_refl _) _ _ _⟩
      case rest =>
        obtain ⟨N, M, c, cs, rfl, hN, hC, hch, hlo, hb⟩ := hcut
        obtain ⟨w9, hwc⟩ : ∃ x, x = wc := ⟨_, rfl⟩
        subst hwc
        have H9 : Hid (Blk w9 N #[.int .i64 hd, .int .i64 vr, .slice (some ⟨M, 0, none⟩) cs.length c] 28 ∧ CB wr.heap.size w9 M c cs ∧ chs cs = sweepTo C now C.length ∧ wr.heap.size ≤ N ∧ Below w.heap.size w w9 ∧ AB W0.heap.size w9 Md cd rs ∧ Blk w9 (w.heap.size + 1) #[.int .i64 0, .int .i64 0, .slice none 0 0] 28) := ⟨hN, hC, hch, hlo, grow_on (grow_on HW0.out.1 HM.out.low) hb, HM.out.gone.grow hb, HPT.out.2.grow hb⟩
        have hwr : w.heap.size + 2 ≤ wr.heap.size := by have h1 := HM.out.low.size; have h2 := HW0.out.2.2.2; omega
        have HDJ : Hid (∀ k, blksC M cs k → ¬ blks Md rs k) := fun k h1 h2 => by have h3 := blksC_low hC k h1; have h4 := blks_high HM.out.gone k h2; omega
        have hne : N ≠ w.heap.size + 1 := by omega
        have n0 : w9.cell? ⟨N, 0, none⟩ = some (.int .i64 hd) := hN.cell 0
        have n1 : w9.cell? ⟨N, 1, none⟩ = some (.int .i64 vr) := hN.cell 1
        have n2 : w9.cell? ⟨N, 2, none⟩ = some (.slice (some ⟨M, 0, none⟩) cs.length c) := hN.cell 2
        have g1 := hN.frozen 1
        have hR := H9.out.2.2.2.2.2.2
        have r0 : w9.cell? ⟨w.heap.size + 1, 0, none⟩ = some (.int .i64 0) := hR.cell 0
        have r1 : w9.cell? ⟨w.heap.size + 1, 1, none⟩ = some (.int .i64 0) := hR.cell 1
        have r2 : w9.cell? ⟨w.heap.size + 1, 2, none⟩ = some (.slice none 0 0) := hR.cell 2
        have f0 := hR.frozen 0
        have f1 := hR.frozen 1
        have f2 := hR.frozen 2
        clear hN hC hch hlo hb hR
        by_cases hz : rs.length = 0
        · have hz' : ¬ (0 : Int) < (rs.length : Int) := by omega
          have HV : Hid (verS vr (gonesTo C now C.length).length = vr) := verS_0 (by have := HRL.out; omega)
          go_wp2
          have hs := put3 H9.out.2.2.2.2.2.2 (.int .i64 hd) (.int .i64 vr) (.slice (some ⟨M, 0, none⟩) cs.length c)
          have s0 := hs.cell 0
          have s1 := hs.cell 1
          have s2 := hs.cell 2
          refine bodyPost_ret (v := .tuple #[.agg #[.int .i64 hd, .int .i64 vr, .slice (some ⟨M, 0, none⟩) cs.length c], .slice (some ⟨Md, 0, none⟩) rs.length cd]) (by simp [results, Try.results10, go_sem, s0, s1, s2, hz]) rfl ?_
          rw [HV.out]
          have hr1 := H9.out.2.2.2.2.2.2
          exact ⟨⟨M, c, cs, Md, cd, rs, rfl, (CB.set3 H9.out.2.1 hr1 _ _ _).down (by omega), (ab_moved H9.out.2.2.2.2.2.1 (((Moved.set hr1 (by decide) (by decide) _ _).trans (Moved.set (hr1.set 0 _) (by decide) (by decide) _ _)).trans (Moved.set ((hr1.set 0 _).set 1 _) (by decide) (by decide) _ _))).down HW0.out.1.size, H9.out.2.2.1, HF.out, HDJ.out⟩, set3 H9.out.2.2.2.2.1 (by omega) _ _ _⟩
        · have hz' : (0 : Int) < (rs.length : Int) := by omega
          obtain ⟨vu, hvu⟩ : ∃ vu, IntKind.i64.wrap (vr + 1) = vu := ⟨_, rfl⟩
          have HV : Hid (verS vr (gonesTo C now C.length).length = vu) := by show _ = _; rw [← hvu]; exact verS_1 (by have := HRL.out; omega)
          go_wp2
          have hr1 := H9.out.2.2.2.2.2.2.set_other (p := ⟨N, 1, none⟩) hne (.int .i64 vu)
          have hs := put3 hr1 (.int .i64 hd) (.int .i64 vu) (.slice (some ⟨M, 0, none⟩) cs.length c)
          have s0 := hs.cell 0
          have s1 := hs.cell 1
          have s2 := hs.cell 2
          refine bodyPost_ret (v := .tuple #[.agg #[.int .i64 hd, .int .i64 vu, .slice (some ⟨M, 0, none⟩) cs.length c], .slice (some ⟨Md, 0, none⟩) rs.length cd]) (by simp [results, Try.results10, go_sem, s0, s1, s2]) rfl ?_
          rw [HV.out]
          exact ⟨⟨M, c, cs, Md, cd, rs, rfl, (CB.set3 (CB.set' H9.out.2.1 H9.out.1 1 _) hr1 _ _ _).down (by omega), (ab_moved H9.out.2.2.2.2.2.1 ((Moved.set H9.out.1 (by decide) (by decide) 1 _).trans (((Moved.set hr1 (by decide) (by decide) _ _).trans (Moved.set (hr1.set 0 _) (by decide) (by decide) _ _)).trans (Moved.set ((hr1.set 0 _).set 1 _) (by decide) (by decide) _ _)))).down HW0.out.1.size, H9.out.2.2.1, HF.out, HDJ.out⟩, set3 (ChnI.set_low H9.out.2.2.2.2.1 (by have := H9.out.2.2.2.1; omega) _ _) (by omega) _ _ _⟩
end Go.Proofs.Ytcopckbpflmmeab.PrtY
