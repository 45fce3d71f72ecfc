/-
  PROVED: impl.shelve lays the chains of a slice in a map of its own, each under its number and how many of that number are ahead of it, and these keys in order in a slice of its own; nothing that was there is changed.
  PROVED: the method laid of impl.shelf gives copies of the chains that are in its map, in the order of its slots, in memory of their own; nothing that was there is changed.
-/
import Derived.Test.YtooninmicfcfoaaGreatQPrt
import Derived.Test.YtooninmicfcfoaaGreatQMps
import Derived.Deep.DeepCutAuto
set_option linter.unusedVariables false
namespace Go.Proofs.YtooninmicfcfoaaGreat.PrtH
open Go.RowKit
open Labs LabS Alms AlmM Over Blk App Rws ChnI ChnC ChnP ChnK Chs Prt Mps

theorem mkMap2 (w : World) (k : Int) : (Instr.makeMap 87 (some (.int .i64 k))).run Tryz.prog w = .ok (.map (some w.heap.size)) (w.alloc (.map #[] 0)) := by
  kernel_rfl
theorem mkMap1 (w : World) : (Instr.makeMap 145 none).run Tryz.prog w = .ok (.map (some w.heap.size)) (w.alloc (.map #[] 0)) := rfl
theorem infoS : (Tryz.prog.info? 94).map (fun i => (i.zero, i.size, i.bytes)) = some (some (.agg #[.int .i64 0, .int .i64 0]), 2, 16) := by kernel_rfl
theorem zeroC (w : World) : (zeroValue 96).run Tryz.prog w = .ok (.agg #[.int .i64 0, .slice none 0 0]) w := by kernel_rfl
theorem zeroI (w : World) : (zeroValue 3).run Tryz.prog w = .ok (.int .i64 0) w := by kernel_rfl

def cntF (C : List PCh) (f : Int) : Nat → Nat
  | 0 => 0
  | k + 1 => cntF C f k + if (nthC C k).f = f then 1 else 0
theorem cntF_le (C : List PCh) (f : Int) : ∀ k, cntF C f k ≤ k
  | 0 => Nat.le_refl _
  | k + 1 => by have := cntF_le C f k; rw [cntF]; split <;> omega
theorem cntF_mono (C : List PCh) (f : Int) {i j : Nat} (h : i ≤ j) : cntF C f i ≤ cntF C f j := by
  induction j with
  | zero => have : i = 0 := by omega
            subst this; exact Nat.le_refl _
  | succ j ih =>
    by_cases e : i = j + 1
    · subst e; exact Nat.le_refl _
    · have := ih (by omega)
      rw [cntF]; omega
def keyC (C : List PCh) (i : Nat) : Int × Int := ((nthC C i).f, (cntF C (nthC C i).f i : Int))
theorem keyC_ne {C : List PCh} {i j : Nat} (h : i < j) : keyC C i ≠ keyC C j := fun e => by
  have e1 : (nthC C i).f = (nthC C j).f := congrArg Prod.fst e
  have e2 : (cntF C (nthC C i).f i : Int) = (cntF C (nthC C j).f j : Int) := congrArg Prod.snd e
  have h1 := cntF_mono C (nthC C i).f (i := i + 1) (j := j) (by omega)
  rw [cntF, if_pos rfl] at h1
  rw [e1] at h1 e2
  omega
theorem keyC_inj {C : List PCh} {i j : Nat} (h : keyC C i = keyC C j) : i = j := by
  rcases Nat.lt_trichotomy i j with hlt | e | hlt
  · exact absurd h (keyC_ne hlt)
  · exact e
  · exact absurd h.symm (keyC_ne hlt)
def shG (C : List PCh) (val : Nat → Value) : Nat → Int × Int → Option Value
  | 0 => fun _ => none
  | k + 1 => updG (shG C val k) (keyC C k) (some (val k))
theorem shG_at {C : List PCh} {val : Nat → Value} {i : Nat} : ∀ {k : Nat}, i < k → shG C val k (keyC C i) = some (val i)
  | 0, h => by omega
  | k + 1, h => by
    rw [shG]
    by_cases e : i = k
    · subst e; exact upd_at _ _ _
    · rw [upd_no (fun q => e (keyC_inj q))]
      exact shG_at (by omega)
theorem shG_no {C : List PCh} {val : Nat → Value} {p : Int × Int} : ∀ {k : Nat}, (∀ i, i < k → p ≠ keyC C i) → shG C val k p = none
  | 0, _ => rfl
  | k + 1, h => by
    rw [shG, upd_no (h k (by omega))]
    exact shG_no fun i hi => h i (by omega)
def metG (C : List PCh) (k : Nat) (f : Int) : Option Value := if cntF C f k = 0 then none else some (.int .i64 (cntF C f k : Int))
theorem metG_get (C : List PCh) (k : Nat) (f : Int) : (metG C k f).getD (.int .i64 0) = .int .i64 (cntF C f k : Int) := by
  unfold metG
  split
  · next h => rw [h]; rfl
  · rfl
theorem metG_up (C : List PCh) (k : Nat) (f : Int) : metG C (k + 1) f = updG (metG C k) (nthC C k).f (some (.int .i64 ((cntF C (nthC C k).f k : Int) + 1))) f := by
  by_cases e : f = (nthC C k).f
  · subst e
    rw [upd_at]
    have q : cntF C (nthC C k).f (k + 1) = cntF C (nthC C k).f k + 1 := by rw [cntF, if_pos rfl]
    unfold metG
    rw [q, if_neg (by omega)]
    rfl
  · rw [upd_no e]
    unfold metG
    have q : cntF C f (k + 1) = cntF C f k := by rw [cntF, if_neg (fun h => e h.symm)]; rfl
    rw [q]
structure SlotsK (w : World) (M : Nat) (C : List PCh) (k : Nat) (cs : Array Value) : Prop where
  blk : Blk w M cs 94
  size : cs.size = C.length * 2
  cell : ∀ i, i < k → cs[i * 2]? = some (.int .i64 (keyC C i).1) ∧ cs[i * 2 + 1]? = some (.int .i64 (keyC C i).2)
theorem SlotsK.next {w : World} {M : Nat} {C : List PCh} {k : Nat} {cs : Array Value} (h : SlotsK w M C k cs) (hk : k < C.length) :
    SlotsK ((w.setCell ⟨M, k * 2, none⟩ (.int .i64 (keyC C k).1)).setCell ⟨M, k * 2 + 1, none⟩ (.int .i64 (keyC C k).2)) M C (k + 1) ((cs.setIfInBounds (k * 2) (.int .i64 (keyC C k).1)).setIfInBounds (k * 2 + 1) (.int .i64 (keyC C k).2)) := by
  have hs := h.size
  refine ⟨(h.blk.set _ _).set _ _, by simpa using hs, fun i hi => ?_⟩
  by_cases e : i = k
  · subst e
    exact ⟨by rw [set_ne (by omega), set_at (by omega)], by rw [set_at (by simp; omega)]⟩
  · obtain ⟨h0, h1⟩ := h.cell i (by omega)
    exact ⟨by rw [set_ne (by omega), set_ne (by omega)]; exact h0, by rw [set_ne (by omega), set_ne (by omega)]; exact h1⟩
theorem SlotsK.grow {w w' : World} {M : Nat} {C : List PCh} {k : Nat} {cs : Array Value} (h : SlotsK w M C k cs) (hb : Below w.heap.size w w') : SlotsK w' M C k cs := ⟨h.blk.grow hb, h.size, h.cell⟩
theorem SlotsK.kept {w w' : World} {M : Nat} {C : List PCh} {k : Nat} {cs : Array Value} (h : SlotsK w M C k cs) (hb : Blk w' M cs 94) : SlotsK w' M C k cs := ⟨hb, h.size, h.cell⟩
theorem mapNew {ι : Type} {enc : ι → Value} {w : World} {M : Nat} (h : M = w.heap.size) : MapG enc (w.alloc (.map #[] 0)) M (fun _ => none) := by subst h; exact MapG.new w
theorem mapDrew {ι : Type} {enc : ι → Value} {w : World} {M : Nat} {g : ι → Option Value} (h : MapG enc w M g) : MapG enc w.drew M g := h
theorem mapDown {w0 w w' : World} {B b : Nat} (h : Below B w0 w) (hg : w.grownBy w' (some b)) (hw : B ≤ w0.heap.size) (hB : B ≤ b) : Below B w0 w' := h.grown hg (Nat.le_trans hw h.size) (fun k e => by have : b = k := Option.some.inj e; omega)
def chV (x : PCh) (ad : Option Addr) (cp : Nat) : Value := .agg #[.int .i64 x.f, .slice ad x.P.length cp]
theorem pickC {R : World → Option Addr → List PAl → Prop} {w : World} {a : Option Addr} {C : List PCh} (h : RdG R w a C) : ∃ (b off : Nat) (ad : Nat → Option Addr) (cp : Nat → Nat), (C = [] ∨ (a = some ⟨b, off, none⟩ ∧ b < w.heap.size)) ∧ ∀ i, i < C.length → AtC R w b off i (nthC C i) (ad i) (cp i) := by
  rcases h with h | ⟨b, off, e, hb, hc⟩
  · exact ⟨0, 0, fun _ => none, fun _ => 0, .inl h, fun i hi => by rw [h] at hi; simp at hi⟩
  · obtain ⟨f, hf⟩ := Go.Deep.choose_lt (α := Option Addr × Nat) (p := fun i z => AtC R w b off i (nthC C i) z.1 z.2) (n := C.length) (fun i hi => by obtain ⟨ad, cp, h⟩ := hc i hi; exact ⟨(ad, cp), h⟩)
    exact ⟨b, off, fun i => (f i).1, fun i => (f i).2, .inr ⟨e, hb⟩, hf⟩
structure Shelved (lo : Nat) (w w' : World) (C : List PCh) (ad : Nat → Option Addr) (cp : Nat → Nat) (Mm Ms : Nat) : Prop where
  map : MapG TwoK w' Mm (shG C (fun i => chV (nthC C i) (ad i) (cp i)) C.length)
  slots : ∃ cs, SlotsK w' Ms C C.length cs
  lm : lo ≤ Mm
  ls : lo ≤ Ms
  reads : ∀ i, i < C.length → RdA w (ad i) (nthC C i).P
set_option maxRecDepth 100000 in
set_option maxHeartbeats 4000000 in
theorem shelve_any (a : Option Addr) (cap : Nat) (C : List PCh) (w : World) (hr : RdG RdA w a C) (hl : C.length ≤ 1048576) :
    Calls Tryz.prog 64 #[.slice a C.length cap] w fun e w' => (∃ (Mm Ms : Nat), e = .returned (.agg #[.map (some Mm), .slice (some ⟨Ms, 0, none⟩) C.length C.length]) ∧ ∃ (ad : Nat → Option Addr) (cp : Nat → Nat), Shelved w.heap.size w w' C ad cp Mm Ms) ∧ Below w.heap.size w w' := by
  obtain ⟨b, off, ad, cp, ha, hat⟩ := pickC hr
  have HA : Hid ((C = [] ∨ (a = some ⟨b, off, none⟩ ∧ b < w.heap.size)) ∧ ∀ i, i < C.length → AtC RdA w b off i (nthC C i) (ad i) (cp i)) := ⟨ha, hat⟩
  clear hr ha hat
  have hmk := make_k (P := Tryz.prog) 88 94 (.agg #[.int .i64 0, .int .i64 0]) 2 16 Tryz.underlying88 infoS .i64 .i64 C.length (by omega) (by omega)
  have hmm := mkMap2
  go_enter Tryz.func64, Tryz.ntmps64
  go_upto_region 1 with fail
  go_cut [3] from 8 to 14 (fun s3 wx => ∃ (N Mm Ms : Nat), s3 = .pointer (some ⟨N, 0, none⟩) ∧ Blk wx N #[.map (some Mm), .slice (some ⟨Ms, 0, none⟩) C.length C.length] 90 ∧ MapG TwoK wx Mm (fun _ => none) ∧ Blk wx Ms (madeCells (Value.agg #[.int .i64 0, .int .i64 0]).cells (C.length * 2)) 94 ∧ (w.heap.size + 1 ≤ N ∧ w.heap.size + 1 ≤ Mm ∧ w.heap.size + 1 ≤ Ms) ∧ Blk wx w.heap.size #[.map none, .slice none 0 0] 90 ∧ Below w.heap.size w wx)
  case first =>
    go_region
    all_goals (go_wp2_with fail)
    all_goals go_meet
    · exact ⟨_, w.heap.size + 1, w.heap.size + 1 + 1, rfl, (Blk.new_at (by simp)).drew, mapDrew (((mapNew (by simp)).alloc _).alloc _), ((Blk.new_at (by simp)).alloc _).drew, ⟨by omega, by omega, by omega⟩, ((((Blk.new _ _ _).alloc _).alloc _).alloc _).drew, (((Alm.below3 w _ _ _).alloc (by simp; omega) _)).drew⟩
    · exact ⟨_, w.heap.size + 1, w.heap.size + 1 + 1 + 1, rfl, ((Blk.new_at (by simp)).alloc _).drew, mapDrew (((mapNew (by simp)).alloc _).alloc _), (Blk.new_at (by simp)).drew, ⟨by omega, by omega, by omega⟩, ((((Blk.new _ _ _).alloc _).alloc _).alloc _).drew, (((Alm.below3 w _ _ _).alloc (by simp; omega) _)).drew⟩
    · exact ⟨_, w.heap.size + 1 + 1, w.heap.size + 1, rfl, (Blk.new_at (by simp)).drew, mapDrew ((mapNew (by simp)).alloc _), (((Blk.new_at (by simp)).alloc _).alloc _).drew, ⟨by omega, by omega, by omega⟩, ((((Blk.new _ _ _).alloc _).alloc _).alloc _).drew, (((Alm.below3 w _ _ _).alloc (by simp; omega) _)).drew⟩
    · exact ⟨_, w.heap.size + 1 + 1 + 1, w.heap.size + 1, rfl, ((Blk.new_at (by simp)).alloc _).drew, mapDrew (mapNew (by simp)), (((Blk.new_at (by simp)).alloc _).alloc _).drew, ⟨by omega, by omega, by omega⟩, ((((Blk.new _ _ _).alloc _).alloc _).alloc _).drew, (((Alm.below3 w _ _ _).alloc (by simp; omega) _)).drew⟩
    · exact ⟨_, w.heap.size + 1 + 1, w.heap.size + 1 + 1 + 1, rfl, (((Blk.new_at (by simp)).alloc _).alloc _).drew, mapDrew ((mapNew (by simp)).alloc _), (Blk.new_at (by simp)).drew, ⟨by omega, by omega, by omega⟩, ((((Blk.new _ _ _).alloc _).alloc _).alloc _).drew, (((Alm.below3 w _ _ _).alloc (by simp; omega) _)).drew⟩
    · exact ⟨_, w.heap.size + 1 + 1 + 1, w.heap.size + 1 + 1, rfl, (((Blk.new_at (by simp)).alloc _).alloc _).drew, mapDrew (mapNew (by simp)), ((Blk.new_at (by simp)).alloc _).drew, ⟨by omega, by omega, by omega⟩, ((((Blk.new _ _ _).alloc _).alloc _).alloc _).drew, (((Alm.below3 w _ _ _).alloc (by simp; omega) _)).drew⟩
  case rest =>
    obtain ⟨N, Mm, Ms, rfl, hN, hM, hS, hlo, hR, hB⟩ := hcut
    obtain ⟨w1, hwc⟩ : ∃ x, x = wc := ⟨_, rfl⟩
    subst hwc
    clear hmk hmm
    have H1 : Hid (Blk w1 N #[.map (some Mm), .slice (some ⟨Ms, 0, none⟩) C.length C.length] 90 ∧ MapG TwoK w1 Mm (shG C (fun i => chV (nthC C i) (ad i) (cp i)) 0) ∧ SlotsK w1 Ms C 0 (madeCells (Value.agg #[.int .i64 0, .int .i64 0]).cells (C.length * 2)) ∧ Blk w1 w.heap.size #[.map none, .slice none 0 0] 90 ∧ Below w.heap.size w w1) := ⟨hN, hM, ⟨hS, by simp [size_madeCells], fun i hi => by omega⟩, hR, hB⟩
    have HLO : Hid ((w.heap.size + 1 ≤ N ∧ w.heap.size + 1 ≤ Mm ∧ w.heap.size + 1 ≤ Ms) ∧ Mm < w1.heap.size) := ⟨hlo, hM.lt⟩
    have hmm1 := mkMap1
    clear hN hM hS hlo hR hB
    go_wp2
    clear hmm1
    go_loopw [18] (fun i w' => ∃ (k : Nat) (cs : Array Value), i = .int .i64 k ∧ k ≤ C.length ∧ Blk w' N #[.map (some Mm), .slice (some ⟨Ms, 0, none⟩) C.length C.length] 90 ∧ MapG TwoK w' Mm (shG C (fun i => chV (nthC C i) (ad i) (cp i)) k) ∧ MapG IntK w' w1.heap.size (metG C k) ∧ SlotsK w' Ms C k cs ∧ Blk w' w.heap.size #[.map none, .slice none 0 0] 90 ∧ Below w.heap.size w w') (fun i _ => C.length - (intOf i).toNat)
    case atStart => exact ⟨0, _, rfl, Nat.zero_le _, H1.out.1.alloc _, H1.out.2.1.alloc _, (MapG.new w1).congr (fun f => by unfold metG cntF; rfl), H1.out.2.2.1.grow (Go.Joins.below_alloc1 w1 _), H1.out.2.2.2.1.alloc _, grow_on H1.out.2.2.2.2 (Go.Joins.below_alloc1 w1 _)⟩
    case round =>
      obtain ⟨k, cs, rfl, hk, hN, hM, hT, hS, hR, hB⟩ := hrel
      have HW : Hid (Blk wr N #[.map (some Mm), .slice (some ⟨Ms, 0, none⟩) C.length C.length] 90 ∧ MapG TwoK wr Mm (shG C (fun i => chV (nthC C i) (ad i) (cp i)) k) ∧ MapG IntK wr w1.heap.size (metG C k) ∧ SlotsK wr Ms C k cs ∧ Blk wr w.heap.size #[.map none, .slice none 0 0] 90 ∧ Below w.heap.size w wr) := ⟨hN, hM, hT, hS, hR, hB⟩
      clear hN hM hT hS hR hB
      by_cases hlt : k < C.length
      · have hlt' : (k : Int) < (C.length : Int) := by omega
        obtain ⟨rfl, hb⟩ : a = some ⟨b, off, none⟩ ∧ b < w.heap.size := by
          rcases HA.out.1 with e | h
          · rw [e] at hlt; simp at hlt
          · exact h
        have x0 : wr.cell? ⟨b, off + k * 2, none⟩ = some (.int .i64 (nthC C k).f) := (HW.out.2.2.2.2.2.cell hb).trans (HA.out.2 k hlt).c0
        have x1 : wr.cell? ⟨b, off + k * 2 + 1, none⟩ = some (.slice (ad k) (nthC C k).P.length (cp k)) := (HW.out.2.2.2.2.2.cell hb).trans (HA.out.2 k hlt).c1
        have hcb := cntF_le C (nthC C k).f k
        have hw1 : IntKind.i64.wrap ((cntF C (nthC C k).f k : Int) + 1) = (cntF C (nthC C k).f k : Int) + 1 := by rw [IntKind.wrap_i64]; omega
        go_wp2_with (first | (at_lookup; refine wp_lookup _ rfl _ _ 145 false rfl 3 3 IntK (asked_int Tryz.underlying3) Tryz.underlying145 (zeroI _) w1.heap.size (metG C k) rfl (by first | exact HW.out.2.2.1.alloc _ | exact (HW.out.2.2.1.alloc _).alloc _) (nthC C k).f rfl (.int .i64 (cntF C (nthC C k).f k : Int)) (metG_get _ _ _) ?_) | (at_mapUpdate; refine wp_update _ rfl _ _ _ 145 rfl 3 3 IntK (asked_int Tryz.underlying3) Tryz.underlying145 w1.heap.size (metG C k) rfl ((HW.out.2.2.1.alloc _).alloc _) (nthC C k).f (.int .i64 ((cntF C (nthC C k).f k : Int) + 1)) rfl rfl ?_))
        intro w3 hm3 hg3 hs3
        have HB2 : Hid (∀ o1 o2, Below wr.heap.size wr ((wr.alloc o1).alloc o2)) := fun o1 o2 => Go.Joins.below_alloc2 wr o1 o2
        have hk6 : Blk w3 wr.heap.size #[.int .i64 (nthC C k).f, .slice (ad k) (nthC C k).P.length (cp k)] 96 := blk_map ((Blk.new _ _ _).alloc _) ((HW.out.2.2.1.alloc _).alloc _) hg3
        have hk7 : Blk w3 (wr.heap.size + 1) #[.int .i64 (nthC C k).f, .int .i64 (cntF C (nthC C k).f k : Int)] 94 := blk_map (Blk.new_at (by simp)) ((HW.out.2.2.1.alloc _).alloc _) hg3
        have hN3 : Blk w3 N #[.map (some Mm), .slice (some ⟨Ms, 0, none⟩) C.length C.length] 90 := blk_map ((HW.out.1.alloc _).alloc _) ((HW.out.2.2.1.alloc _).alloc _) hg3
        have hS3 : SlotsK w3 Ms C k cs := HW.out.2.2.2.1.kept (blk_map ((HW.out.2.2.2.1.blk.alloc _).alloc _) ((HW.out.2.2.1.alloc _).alloc _) hg3)
        have hR3 : Blk w3 w.heap.size #[.map none, .slice none 0 0] 90 := blk_map ((HW.out.2.2.2.2.1.alloc _).alloc _) ((HW.out.2.2.1.alloc _).alloc _) hg3
        have hM3 : MapG TwoK w3 Mm (shG C (fun i => chV (nthC C i) (ad i) (cp i)) k) := ((HW.out.2.1.alloc _).alloc _).far hg3 (fun e => by have h : Mm = w1.heap.size := Option.some.inj e; have := HLO.out.2; omega)
        have hT3 : MapG IntK w3 w1.heap.size (metG C (k + 1)) := hm3.congr (metG_up C k)
        have hB3 : Below w.heap.size w w3 := mapDown (grow_on HW.out.2.2.2.2.2 (HB2.out _ _)) hg3 (Nat.le_refl _) (by have := H1.out.2.2.2.2.size; omega)
        have H3 : Hid (Blk w3 N #[.map (some Mm), .slice (some ⟨Ms, 0, none⟩) C.length C.length] 90 ∧ SlotsK w3 Ms C k cs ∧ Blk w3 w.heap.size #[.map none, .slice none 0 0] 90 ∧ MapG TwoK w3 Mm (shG C (fun i => chV (nthC C i) (ad i) (cp i)) k) ∧ MapG IntK w3 w1.heap.size (metG C (k + 1)) ∧ Below w.heap.size w w3 ∧ Blk w3 wr.heap.size #[.int .i64 (nthC C k).f, .slice (ad k) (nthC C k).P.length (cp k)] 96 ∧ Blk w3 (wr.heap.size + 1) #[.int .i64 (nthC C k).f, .int .i64 (cntF C (nthC C k).f k : Int)] 94) := ⟨hN3, hS3, hR3, hM3, hT3, hB3, hk6, hk7⟩
        have n0 : w3.cell? ⟨N, 0, none⟩ = some (.map (some Mm)) := hN3.cell 0
        have q0 : w3.cell? ⟨wr.heap.size, 0, none⟩ = some (.int .i64 (nthC C k).f) := hk6.cell 0
        have q1 : w3.cell? ⟨wr.heap.size, 1, none⟩ = some (.slice (ad k) (nthC C k).P.length (cp k)) := hk6.cell 1
        have t0 : w3.cell? ⟨wr.heap.size + 1, 0, none⟩ = some (.int .i64 (nthC C k).f) := hk7.cell 0
        have t1 : w3.cell? ⟨wr.heap.size + 1, 1, none⟩ = some (.int .i64 (cntF C (nthC C k).f k : Int)) := hk7.cell 1
        clear hk6 hk7 hN3 hS3 hR3 hM3 hT3 hB3 hm3 hg3 hs3 x0 x1
        go_wp2_with (at_mapUpdate; refine wp_update _ rfl _ _ _ 87 rfl 94 96 TwoK asked_slot Tryz.underlying87 Mm (shG C (fun i => chV (nthC C i) (ad i) (cp i)) k) rfl H3.out.2.2.2.1 (keyC C k) (chV (nthC C k) (ad k) (cp k)) rfl rfl ?_)
        intro w4 hm4 hg4 hs4
        have hM := H3.out.2.2.2.1
        have hN4 := blk_map H3.out.1 hM hg4
        have hS4 : SlotsK w4 Ms C k cs := H3.out.2.1.kept (blk_map H3.out.2.1.blk hM hg4)
        have hk74 := blk_map H3.out.2.2.2.2.2.2.2 hM hg4
        have hB4 : Below w.heap.size w w4 := mapDown H3.out.2.2.2.2.2.1 hg4 (Nat.le_refl _) (by have := HLO.out; omega)
        have hT4 : MapG IntK w4 w1.heap.size (metG C (k + 1)) := H3.out.2.2.2.2.1.far hg4 (fun e => by have h : w1.heap.size = Mm := Option.some.inj e; have := HLO.out.2; omega)
        have hR4 := blk_map H3.out.2.2.1 hM hg4
        have H4 : Hid (Blk w4 N #[.map (some Mm), .slice (some ⟨Ms, 0, none⟩) C.length C.length] 90 ∧ MapG TwoK w4 Mm (shG C (fun i => chV (nthC C i) (ad i) (cp i)) (k + 1)) ∧ MapG IntK w4 w1.heap.size (metG C (k + 1)) ∧ SlotsK w4 Ms C k cs ∧ Blk w4 w.heap.size #[.map none, .slice none 0 0] 90 ∧ Below w.heap.size w w4) := ⟨hN4, hm4, hT4, hS4, hR4, hB4⟩
        have n1 : w4.cell? ⟨N, 1, none⟩ = some (.slice (some ⟨Ms, 0, none⟩) C.length C.length) := hN4.cell 1
        have t0' : w4.cell? ⟨wr.heap.size + 1, 0, none⟩ = some (.int .i64 (nthC C k).f) := hk74.cell 0
        have t1' : w4.cell? ⟨wr.heap.size + 1, 1, none⟩ = some (.int .i64 (cntF C (nthC C k).f k : Int)) := hk74.cell 1
        have hsz := hS4.size
        obtain ⟨v0, s0⟩ : ∃ v, w4.cell? ⟨Ms, k * 2, none⟩ = some v := ⟨cs[k * 2]'(by omega), by rw [hS4.blk.cell]; simp⟩
        obtain ⟨v1, s1⟩ : ∃ v, w4.cell? ⟨Ms, k * 2 + 1, none⟩ = some v := ⟨cs[k * 2 + 1]'(by omega), by rw [hS4.blk.cell]; simp⟩
        have f0 := hS4.blk.frozen (k * 2)
        have f1 := hS4.blk.frozen (k * 2 + 1)
        clear hM hN4 hS4 hk74 hB4 hT4 hR4 hm4 hg4 hs4 hsz n0 q0 q1 t0 t1
        go_wp2
        go_roundw
        case rel =>
          have hne : ∀ {T : TypeId} {M : Nat} {ds : Array Value}, Blk w4 M ds T → T ≠ 94 → Ms ≠ M := fun h hT => blkT_ne H4.out.2.2.2.1.blk h (Ne.symm hT)
          have hmm : ∀ {ι : Type} {enc : ι → Value} {M : Nat} {g : ι → Option Value}, MapG enc w4 M g → Ms ≠ M := fun h => h.ne_blk H4.out.2.2.2.1.blk
          exact ⟨k + 1, _, by go_num, by omega, (H4.out.1.set_other (hne H4.out.1 (by decide)) _).set_other (hne H4.out.1 (by decide)) _, (H4.out.2.1.set (hmm H4.out.2.1)).set (hmm H4.out.2.1), (H4.out.2.2.1.set (hmm H4.out.2.2.1)).set (hmm H4.out.2.2.1), H4.out.2.2.2.1.next hlt, (H4.out.2.2.2.2.1.set_other (hne H4.out.2.2.2.2.1 (by decide)) _).set_other (hne H4.out.2.2.2.2.1 (by decide)) _, (H4.out.2.2.2.2.2.setCell (by have := HLO.out; show w.heap.size ≤ Ms; omega) _).setCell (by have := HLO.out; show w.heap.size ≤ Ms; omega) _⟩
        case measure => simp [intOf]; omega
      · have hge : ¬ (k : Int) < (C.length : Int) := by omega
        have HE : Hid (k = C.length) := by show k = C.length; omega
        have hN := HW.out.1
        have hR := HW.out.2.2.2.2.1
        have n0 : wr.cell? ⟨N, 0, none⟩ = some (.map (some Mm)) := hN.cell 0
        have n1 : wr.cell? ⟨N, 1, none⟩ = some (.slice (some ⟨Ms, 0, none⟩) C.length C.length) := hN.cell 1
        have r0 : wr.cell? ⟨w.heap.size, 0, none⟩ = some (.map none) := hR.cell 0
        have r1 : wr.cell? ⟨w.heap.size, 1, none⟩ = some (.slice none 0 0) := hR.cell 1
        have f0 := hR.frozen 0
        have f1 := hR.frozen 1
        clear hN hR
        go_wp2
        have hs := (HW.out.2.2.2.2.1.set 0 (.map (some Mm))).set 1 (.slice (some ⟨Ms, 0, none⟩) C.length C.length)
        have s0 := hs.cell 0
        have s1 := hs.cell 1
        refine bodyPost_ret (v := .agg #[.map (some Mm), .slice (some ⟨Ms, 0, none⟩) C.length C.length]) (by simp [results, Tryz.results64, go_sem, s0, s1]) rfl ?_
        have hq := HW.out
        rw [HE.out] at hq
        have hne : w.heap.size ≠ Ms := by have := HLO.out; omega
        have hnm : w.heap.size ≠ Mm := by have := HLO.out; omega
        exact ⟨⟨Mm, Ms, rfl, ad, cp, ⟨(hq.2.1.set hnm).set hnm, ⟨cs, hq.2.2.2.1.kept ((hq.2.2.2.1.blk.set_other hne _).set_other hne _)⟩, by have := HLO.out; omega, by have := HLO.out; omega, fun i hi => (HA.out.2 i hi).reads⟩⟩, ChnP.set2 HW.out.2.2.2.2.2 (Nat.le_refl _) _ _⟩
end Go.Proofs.YtooninmicfcfoaaGreat.PrtH
namespace Go.Proofs.YtooninmicfcfoaaGreat.PrtL
open Go.RowKit
open Labs LabS Alms AlmM Over Blk App Rws ChnI ChnC ChnP ChnK Chs Prt PrtH Mps

def nthK (ks : List (Int × Int)) (i : Nat) : Int × Int := ks.getD i (0, 0)
def nthV (vs : List (Option PCh)) (i : Nat) : Option PCh := vs.getD i none
theorem nthV_eq {vs : List (Option PCh)} {i : Nat} (h : i < vs.length) : nthV vs i = vs[i] := by unfold nthV; simp [h]
theorem nthK_eq {ks : List (Int × Int)} {i : Nat} (h : i < ks.length) : nthK ks i = ks[i] := by unfold nthK; simp [h]
def SlotL (w : World) (M : Nat) (ks : List (Int × Int)) : Prop := ∃ cs : Array Value, Blk w M cs 94 ∧ ks.length * 2 ≤ cs.size ∧ ∀ i, i < ks.length → cs[i * 2]? = some (.int .i64 (nthK ks i).1) ∧ cs[i * 2 + 1]? = some (.int .i64 (nthK ks i).2)
theorem SlotL.grow {w w' : World} {M : Nat} {ks : List (Int × Int)} (h : SlotL w M ks) (hb : Below w.heap.size w w') : SlotL w' M ks := by
  obtain ⟨cs, h1, h2⟩ := h
  exact ⟨cs, h1.grow hb, h2⟩
def Ent (w : World) (o : Option Value) (v : Option PCh) : Prop :=
  match v with
  | none => o = none
  | some x => ∃ ad cp, o = some (.agg #[.int .i64 x.f, .slice ad x.P.length cp]) ∧ RdA w ad x.P
theorem Ent.grow {w w' : World} {o : Option Value} {v : Option PCh} (h : Ent w o v) (hb : Below w.heap.size w w') : Ent w' o v := by
  cases v with
  | none => exact h
  | some x =>
    obtain ⟨ad, cp, h1, h2⟩ := h
    exact ⟨ad, cp, h1, h2.below hb⟩
def laidTo (vs : List (Option PCh)) (k : Nat) : List PCh := (vs.take k).filterMap id
theorem laid_no {vs : List (Option PCh)} {k : Nat} (h : k < vs.length) (hv : nthV vs k = none) : laidTo vs (k + 1) = laidTo vs k := by
  unfold laidTo
  rw [List.take_succ_eq_append_getElem h, List.filterMap_append, ← nthV_eq h, hv]
  simp
theorem laid_yes {vs : List (Option PCh)} {k : Nat} {x : PCh} (h : k < vs.length) (hv : nthV vs k = some x) : laidTo vs (k + 1) = laidTo vs k ++ [x] := by
  unfold laidTo
  rw [List.take_succ_eq_append_getElem h, List.filterMap_append, ← nthV_eq h, hv]
  simp
theorem laid_le (vs : List (Option PCh)) (k : Nat) : (laidTo vs k).length ≤ k := by
  unfold laidTo
  exact Nat.le_trans (List.length_filterMap_le _ _) (by simp; omega)
set_option maxRecDepth 100000 in
set_option maxHeartbeats 2000000 in
theorem laid_any (Mm Ms c : Nat) (g : Int × Int → Option Value) (ks : List (Int × Int)) (vs : List (Option PCh)) (w : World) (hm : MapG TwoK w Mm g) (hs : SlotL w Ms ks) (hlen : vs.length = ks.length) (he : ∀ i, i < ks.length → Ent w (g (nthK ks i)) (nthV vs i)) (hl : ks.length ≤ 1048577) (hsm : ∀ i x, i < ks.length → nthV vs i = some x → x.P.length ≤ 1048576 ∧ LenM x.P) :
    Calls Tryz.prog 68 #[.agg #[.map (some Mm), .slice (some ⟨Ms, 0, none⟩) ks.length c]] w fun e w' => (∃ M c cs, e = .returned (.slice (some ⟨M, 0, none⟩) cs.length c) ∧ CB w.heap.size w' M c cs ∧ chs cs = laidTo vs ks.length) ∧ Below w.heap.size w w' := by
  have HR : Hid (MapG TwoK w Mm g ∧ SlotL w Ms ks ∧ (∀ i, i < ks.length → Ent w (g (nthK ks i)) (nthV vs i)) ∧ vs.length = ks.length ∧ ∀ i x, i < ks.length → nthV vs i = some x → x.P.length ≤ 1048576 ∧ LenM x.P) := ⟨hm, hs, he, hlen, hsm⟩
  clear hm hs he hlen hsm
  obtain ⟨i0, hi, hz0, hz1, hz2⟩ := info_parts infoC
  go_enter Tryz.func68, Tryz.ntmps68
  go_wp2
  obtain ⟨W0, hW0⟩ : ∃ W0, (w.alloc (.cells #[.map (some Mm), .slice (some ⟨Ms, 0, none⟩) ks.length c] 90)).alloc (.cells #[] 96) = W0 := ⟨_, rfl⟩
  have HW0 : Hid (Below w.heap.size w W0 ∧ Blk W0 w.heap.size #[.map (some Mm), .slice (some ⟨Ms, 0, none⟩) ks.length c] 90 ∧ CB (w.heap.size + 1) W0 (w.heap.size + 1) 0 []) := by
    rw [← hW0]
    exact ⟨Go.Joins.below_alloc2 w _ _, (Blk.new _ _ _).alloc _, CB.nil (Blk.new_at (by simp)) (Nat.le_refl _)⟩
  try rw [hW0]
  clear hW0
  go_loopw [3, 12] (fun v i w' => ∃ (k M c' : Nat) (cs : List CRow), i = .int .i64 k ∧ k ≤ ks.length ∧ v = .slice (some ⟨M, 0, none⟩) cs.length c' ∧ CB (w.heap.size + 1) w' M c' cs ∧ chs cs = laidTo vs k ∧ Blk w' w.heap.size #[.map (some Mm), .slice (some ⟨Ms, 0, none⟩) ks.length c] 90 ∧ Below w.heap.size w w') (fun _ i _ => ks.length - (intOf i).toNat)
  case atStart => exact ⟨0, w.heap.size + 1, 0, [], rfl, Nat.zero_le _, rfl, HW0.out.2.2, rfl, HW0.out.2.1, HW0.out.1⟩
  case round =>
    obtain ⟨k, M, c', cs, rfl, hk, rfl, hab, hp, hpt, hb⟩ := hrel
    have HAB : Hid (CB (w.heap.size + 1) wr M c' cs) := hab
    have HP : Hid (chs cs = laidTo vs k) := hp
    have HB : Hid (Below w.heap.size w wr) := hb
    have HPT : Hid (Blk wr w.heap.size #[.map (some Mm), .slice (some ⟨Ms, 0, none⟩) ks.length c] 90) := hpt
    have hrl : cs.length ≤ 1048577 := by have h1 := laid_le vs k; rw [← hp, chs_len] at h1; omega
    clear hab hp hb hpt
    by_cases hlt : k < ks.length
    · have hlt' : (k : Int) < (ks.length : Int) := by omega
      obtain ⟨sc, hs1, hs2, hs3⟩ := HR.out.2.1.grow HB.out
      obtain ⟨k0, k1⟩ := hs3 k hlt
      have x0 : wr.cell? ⟨Ms, k * 2, none⟩ = some (.int .i64 (nthK ks k).1) := (hs1.cell _).trans k0
      have x1 : wr.cell? ⟨Ms, k * 2 + 1, none⟩ = some (.int .i64 (nthK ks k).2) := (hs1.cell _).trans k1
      have HMr : Hid (MapG TwoK wr Mm g) := HR.out.1.grow HB.out
      have HEr : Hid (Ent wr (g (nthK ks k)) (nthV vs k)) := (HR.out.2.2.1 k hlt).grow HB.out
      clear hs1 hs2 hs3 k0 k1 sc
      obtain ⟨W1, hW1⟩ : ∃ W1, wr.alloc (.cells #[.int .i64 (nthK ks k).1, .int .i64 (nthK ks k).2] 94) = W1 := ⟨_, rfl⟩
      have H1 : Hid (Below wr.heap.size wr W1 ∧ Blk W1 wr.heap.size #[.int .i64 (nthK ks k).1, .int .i64 (nthK ks k).2] 94) := by
        rw [← hW1]
        exact ⟨Go.Joins.below_alloc1 wr _, Blk.new _ _ _⟩
      have HM1 : Hid (MapG TwoK W1 Mm g) := HMr.out.grow H1.out.1
      have y0 : W1.cell? ⟨wr.heap.size, 0, none⟩ = some (.int .i64 (nthK ks k).1) := H1.out.2.cell 0
      have y1 : W1.cell? ⟨wr.heap.size, 1, none⟩ = some (.int .i64 (nthK ks k).2) := H1.out.2.cell 1
      have p0 : W1.cell? ⟨w.heap.size, 0, none⟩ = some (.map (some Mm)) := (HPT.out.grow H1.out.1).cell 0
      cases hv : nthV vs k with
      | none =>
        have HG : Hid (g (nthK ks k) = none) := by have h := HEr.out; rw [hv] at h; exact h
        have HL : Hid (laidTo vs (k + 1) = laidTo vs k) := laid_no (by rw [HR.out.2.2.2.1]; exact hlt) hv
        clear hv
        go_wp2_with (at_lookup; refine wp_lookup _ rfl _ _ 87 true rfl 94 96 TwoK asked_slot Tryz.underlying87 (zeroC _) Mm g rfl HM1.out (nthK ks k) rfl (.tuple #[.agg #[.int .i64 0, .slice none 0 0], .bool false]) (by rw [HG.out]; rfl) ?_)
        clear hW1
        go_wp2
        go_roundw
        case rel => exact ⟨k + 1, M, c', cs, by go_num, by omega, rfl, (HAB.out.grow H1.out.1).grow (Go.Joins.below_alloc1 W1 _), by rw [HL.out]; exact HP.out, (HPT.out.grow H1.out.1).alloc _, grow_on (grow_on HB.out H1.out.1) (Go.Joins.below_alloc1 W1 _)⟩
        case measure => simp [intOf]; omega
      | some x =>
        obtain ⟨ad, cp, hg, hrd⟩ : ∃ ad cp, g (nthK ks k) = some (.agg #[.int .i64 x.f, .slice ad x.P.length cp]) ∧ RdA wr ad x.P := by have h := HEr.out; rw [hv] at h; exact h
        have HG : Hid (g (nthK ks k) = some (.agg #[.int .i64 x.f, .slice ad x.P.length cp]) ∧ RdA wr ad x.P ∧ x.P.length ≤ 1048576 ∧ LenM x.P) := ⟨hg, hrd, HR.out.2.2.2.2 k x hlt hv⟩
        have HL : Hid (laidTo vs (k + 1) = laidTo vs k ++ [x]) := laid_yes (by rw [HR.out.2.2.2.1]; exact hlt) hv
        clear hv hg hrd
        go_wp2_with (at_lookup; refine wp_lookup _ rfl _ _ 87 true rfl 94 96 TwoK asked_slot Tryz.underlying87 (zeroC _) Mm g rfl HM1.out (nthK ks k) rfl (.tuple #[.agg #[.int .i64 x.f, .slice ad x.P.length cp], .bool true]) (by rw [HG.out.1]; rfl) ?_)
        clear hW1 y0 y1 p0 x0 x1
        go_wp2_with fail
        refine (implCopy_any x.f ad cp x.P _ ((HG.out.2.1.below H1.out.1).below (Go.Joins.below_alloc1 W1 _)) HG.out.2.2.1 HG.out.2.2.2).mono ?_
        rintro e w2 ⟨⟨Mx, qs, rfl, hab, hpq⟩, hb2⟩
        have HB2 : Hid (Below wr.heap.size wr w2) := grow_on (grow_on H1.out.1 (Go.Joins.below_alloc1 W1 _)) hb2
        have HQl : Hid (x.P.length = qs.length) := by show _ = _; rw [← pals_len, hpq]
        have HQ : Hid (AB (wr.heap.size + 1) w2 Mx x.P.length qs ∧ pals qs = x.P) := ⟨hab.down (by have h1 := H1.out.2.lt; simp; omega), hpq⟩
        have HAB2 : Hid (CB (w.heap.size + 1) w2 M c' cs) := HAB.out.grow HB2.out
        have HPT2 : Hid (Blk w2 w.heap.size _ _) := HPT.out.grow HB2.out
        have hwz : w.heap.size + 1 ≤ wr.heap.size := HPT.out.lt
        have HXB : Hid (AB (w.heap.size + 1) w2 (⟨x.f, Mx, x.P.length, qs⟩ : CRow).M (⟨x.f, Mx, x.P.length, qs⟩ : CRow).c (⟨x.f, Mx, x.P.length, qs⟩ : CRow).rs) := HQ.out.1.down (by omega)
        have HFr := HAB.out.rows.fresh (x := ⟨x.f, Mx, x.P.length, qs⟩) HQ.out.1 (Nat.le_succ _)
        have HFR : Hid (∀ y ∈ cs, ∀ k, blks y.M y.rs k → ¬ blks (⟨x.f, Mx, x.P.length, qs⟩ : CRow).M (⟨x.f, Mx, x.P.length, qs⟩ : CRow).rs k) := HFr
        obtain ⟨xs, hox, hxl, hxs⟩ := HAB2.out.own
        have HOX : Hid (∀ o, (w2.alloc o).ownsRow (w.heap.size + 1) 96 2 (.slice (some ⟨M, 0, none⟩) cs.length c') cs.length xs) := fun o => own_grow hox (Go.Joins.below_alloc1 w2 o)
        have HXS : Hid (xs.length = cs.length * 2 ∧ ∀ i, i < cs.length → Cel (fun k => xs[k]?) i (nthR cs i)) := ⟨hxl, hxs⟩
        have HU : Hid (∀ o, Below w2.heap.size w2 (w2.alloc o)) := fun o => Go.Joins.below_alloc1 w2 o
        have HNW : Hid (∀ j u, (rowC ⟨x.f, Mx, x.P.length, qs⟩)[j]? = some u → (w2.alloc (.cells #[.int .i64 x.f, .slice (some ⟨Mx, 0, none⟩) x.P.length x.P.length] 96)).cell? ((⟨w2.heap.size, 0, none⟩ : Addr).add j) = some u) := by
          have e : rowC ⟨x.f, Mx, x.P.length, qs⟩ = (#[.int .i64 x.f, .slice (some ⟨Mx, 0, none⟩) x.P.length x.P.length] : Array Value).toList := by unfold rowC; rw [HQl.out]
          rw [e]
          exact blk_news (Blk.new _ _ _)
        clear hb2 hab hpq hox hxl hxs HFr
        go_wp2_with (at_builtin; refine wpList_append_own_at _ rfl _ _ 24 rfl (w.heap.size + 1) 96 i0 (.agg #[.int .i64 0, .slice none 0 0]) 2 32 Tryz.underlying24 hi hz0 hz1 hz2 rfl (by decide) _ _ _ rfl (HOX.out _) ⟨w2.heap.size, 0, none⟩ 1 1 (rowC ⟨x.f, Mx, x.P.length, qs⟩) rfl rfl HNW.out (rowC_one _) ?c3 ?c4 ?c5 ?_)
        case c3 => unfold maxLen; omega
        case c4 => omega
        case c5 => have := HPT2.out.lt; simp; omega
        intro v' w3 hown hg hnil hat
        obtain ⟨M3, c3, rfl, hAB3⟩ := (HAB2.out.grow (HU.out _)).app (x := ⟨x.f, Mx, x.P.length, qs⟩) (HXB.out.grow (HU.out _)) HFR.out HXS.out.1 HXS.out.2 hown hg
        have HAB3 : Hid (CB (w.heap.size + 1) w3 M3 c3 (cs ++ [⟨x.f, Mx, x.P.length, qs⟩])) := hAB3
        have HB3 : Hid (Below w.heap.size w w3) := (grow_on (grow_on HB.out HB2.out) (HU.out _)).grown hg (by have h1 := HPT2.out.lt; simp; omega) (fun k e => by have h : M = k := Option.some.inj e; have := HAB.out.at'; omega)
        have HPT3 : Hid (Blk w3 w.heap.size _ _) := blk_far (HPT2.out.grow (HU.out _)) hg (fun e => by have h : w.heap.size = M := Option.some.inj e; have := HAB.out.at'; omega)
        have HP3 : Hid (chs (cs ++ [⟨x.f, Mx, x.P.length, qs⟩]) = laidTo vs (k + 1)) := by
          show _ = _
          rw [chs_app, HP.out, HL.out]
          congr 2
          unfold CRow.ch
          rw [HQ.out.2]
        have HL3 : Hid ((cs ++ [(⟨x.f, Mx, x.P.length, qs⟩ : CRow)]).length = cs.length + 1) := by show _ = _; simp
        clear hown hg hnil hat hAB3
        go_wp2
        go_roundw
        case rel => exact ⟨k + 1, M3, c3, _, by go_num, by omega, by rw [HL3.out], HAB3.out, HP3.out, HPT3.out, HB3.out⟩
        case measure => simp [intOf]; omega
    · have hge : ¬ (k : Int) < (ks.length : Int) := by omega
      have HF : Hid (chs cs = laidTo vs ks.length) := by
        show _ = _
        rw [HP.out]
        congr 1
        omega
      go_wp2
      go_ret
      exact ⟨⟨M, c', cs, rfl, HAB.out.down (by omega), HF.out⟩, HB.out⟩
end Go.Proofs.YtooninmicfcfoaaGreat.PrtL
