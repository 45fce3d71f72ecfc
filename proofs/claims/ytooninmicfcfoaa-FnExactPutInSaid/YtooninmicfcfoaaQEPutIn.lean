/-
  PROVED: at every part and every alarm impl.PutIn answers as spec.PutIn, leaves them as they were, keeps nothing of them, and its answer lies in memory of its own, so the law laws.FnExactPutIn returns true, whatever its arguments. No condition.
-/
import Derived.Test.YtooninmicfcfoaaRows
import Derived.WalkKit
import Derived.ProofKit
import Derived.OpenShut
import Derived.ShutString
import Derived.ChangeOld
import Derived.Below
import Derived.WalkLawsBesides
import Derived.WalkSpells
import Derived.Test.YtooninmicfcfoaaQPrtV
import Derived.Test.YtooninmicfcfoaaQPrtZ
import Derived.Test.YtooninmicfcfoaaQPrtM
import Derived.Test.YtooninmicfcfoaaQPutS
import Derived.Deep.RegionHeld3
import Derived.Deep.DeepCutAuto
set_option linter.unusedVariables false
namespace Go.Proofs.Ytooninmicfcfoaa.FnExactPutIn
open Go.ChangeShapes Go.WideShapes Go.ChangeAt Go.RowKit
open Go.ChangeMaps (open_string shut_string)

open Labs LabS Over Blk Alms Rws ChnC ChnK Chs Prt
open Alm (AlIn)
open LabT (held_reads)
open PrtM (MC blksC blksC_low blksC_high sumM sumM_chs)
theorem len_of {rs : List ARow} {P : List PAl} (h : pals rs = P) : rs.length = P.length := by rw [← pals_len, h]
theorem lenc_of {cs : List CRow} {C : List PCh} (h : chs cs = C) : cs.length = C.length := by rw [← chs_len, h]
theorem eqA_any (M M' c c' lo lo' d d' : Nat) (rs rs' : List ARow) (P : List PAl) (w : World) (h : AB lo w M d rs) (h' : AB lo' w M' d' rs') (hp : pals rs = P) (hp' : pals rs' = P) (hl : P.length ≤ maxLen) (hz : FitsP P) :
    Calls Try.prog 76 #[.slice (some ⟨M, 0, none⟩) rs.length c, .slice (some ⟨M', 0, none⟩) rs'.length c'] w fun e w' => e = .returned (.bool true) ∧ Below w.heap.size w w' := by
  have h1 := h.rd
  have h2 := h'.rd
  rw [hp] at h1
  rw [hp'] at h2
  rw [len_of hp, len_of hp']
  exact Alms.eq_any _ _ c c' P w h1.rd h2.rd hl hz
theorem rng {lo : Nat} {w : World} {M c : Nat} {rs : List ARow} (h : AB lo w M c rs) : ∀ k, blks M rs k → lo ≤ k ∧ k < w.heap.size := fun k hk => ⟨blks_low h k hk, blks_high h k hk⟩
theorem rngC {lo : Nat} {w : World} {M c : Nat} {cs : List CRow} (h : CB lo w M c cs) : ∀ k, blksC M cs k → lo ≤ k ∧ k < w.heap.size := fun k hk => ⟨blksC_low h k hk, blksC_high h k hk⟩
theorem row_len {lo : Nat} {w : World} {M c : Nat} {rs : List ARow} (h : AB lo w M c rs) : ∀ x ∈ rs, x.2.2.l.length ≤ 1048576 := fun x hx => (h.rows x hx).2.1
theorem rowC_len {lo : Nat} {w : World} {M c : Nat} {cs : List CRow} {C : List PCh} (h : CB lo w M c cs) (hp : chs cs = C) (hs : sumC C ≤ 2000000) : ∀ x ∈ cs, x.rs.length ≤ 2000000 ∧ ∀ y ∈ x.rs, y.2.2.l.length ≤ 1048576 := fun x hx => by
  refine ⟨?_, row_len (h.rows.rows x hx)⟩
  have hm : x.ch ∈ C := by rw [← hp]; exact List.mem_map.2 ⟨x, hx, rfl⟩
  have h1 := sumC_mem hm
  have h2 := pals_len x.rs
  have h3 : x.ch.P = pals x.rs := rfl
  rw [h3] at h1
  omega
theorem marksC {cs : List CRow} {C : List PCh} (hp : chs cs = C) (hl : C.length ≤ 1100000) (hs : sumC C ≤ 2200000) : 1 + sumM cs ≤ 8000000 := by
  have h1 := sumM_chs cs
  rw [hp, lenc_of hp] at h1
  omega
theorem eqPC_any (hd vr : Int) (M M' c c' lo lo' d d' : Nat) (cs cs' : List CRow) (C : List PCh) (w : World) (h : CB lo w M d cs) (h' : CB lo' w M' d' cs') (hp : chs cs = C) (hp' : chs cs' = C) (hl : C.length ≤ maxLen) (hz : FitsC C) :
    Calls Try.prog 10 #[.agg #[.int .i64 hd, .int .i64 vr, .slice (some ⟨M, 0, none⟩) cs.length c], .agg #[.int .i64 hd, .int .i64 vr, .slice (some ⟨M', 0, none⟩) cs'.length c']] w fun e w' => e = .returned (.bool true) ∧ Below w.heap.size w w' := by
  have h1 := h.rd
  have h2 := h'.rd
  rw [hp] at h1
  rw [hp'] at h2
  rw [lenc_of hp, lenc_of hp']
  exact eqPart_any hd vr _ _ c c' C w h1 h2 hl hz
open PrtC (putC newC)
open Go.Proofs.Ytooninmicfcfoaa.Mark (Apart Marked)
theorem bel_alloc {z w : World} (h : Below z.heap.size z w) (o : Obj) : Below z.heap.size z (w.alloc o) := h.alloc h.size o

theorem rnC {lo : Nat} {w : World} {M c : Nat} {cs : List CRow} {C : List PCh} (h : CB lo w M c cs) (hp : chs cs = C) : RdG RdN w (some ⟨M, 0, none⟩) C := by have := h.rn; rwa [hp] at this
theorem rdC {lo : Nat} {w : World} {M c : Nat} {cs : List CRow} {C : List PCh} (h : CB lo w M c cs) (hp : chs cs = C) : RdG RdA w (some ⟨M, 0, none⟩) C := (rnC h hp).rd
set_option maxRecDepth 100000 in
set_option maxHeartbeats 4000000 in
theorem walk (hd0 vr0 : Int) (a0 : Option Addr) (cap0 : Nat) (l0 : List PCh) (a1 : Option Addr) (cap1 : Nat) (l1 : List Lab) (s1 e1 : Int) (n1 : ByteArray) (w : World) (r0 : RdG RdA w a0 l0) (m0 : l0.length ≤ maxLen) (z0 : FitsC l0) (y0 : I64 hd0) (x0 : I64 vr0) (g1 : AlIn w a1 l1 s1 e1 n1) :
    Calls Try.prog 3 #[.agg #[.int .i64 hd0, .int .i64 vr0, .slice a0 l0.length cap0], .agg #[.slice a1 l1.length cap1, .int .i64 s1, .int .i64 e1, .string n1]] w fun e w' => e = .returned (.bool true) ∧ Below w.heap.size w w' := by
  have R0 : Hid (RdG RdA w a0 l0) := r0
  have M0 : Hid (l0.length ≤ maxLen) := m0
  have F0 : Hid (FitsC l0) := z0
  have I0 : Hid (I64 hd0 ∧ I64 vr0) := ⟨y0, x0⟩
  clear r0 m0 z0 y0 x0
  have R1 : Hid (Reads w a1 l1) := g1.reads
  have M1 : Hid (l1.length ≤ maxLen) := g1.len
  have G1 : Hid (AlIn w a1 l1 s1 e1 n1) := g1
  clear g1
  have B0 : Hid (Below w.heap.size w w) := Below.refl _ _
  go_enter Try.func3, Try.ntmps3
  go_wp2_with fail
  refine (szPart_any hd0 vr0 a0 cap0 l0 1048576 _ (R0.out.below stays_rd (grow_on B0.out (Go.Joins.below_alloc2 w _ _))) M0.out F0.out (by omega) (by omega)).mono ?_
  rintro e w1 ⟨⟨k0, rfl, p0, hn⟩, hb⟩
  have P0_1 : Hid (Blk w1 w.heap.size #[.int .i64 hd0, .int .i64 vr0, .slice a0 l0.length cap0] 24) := ((Blk.new _ _ _).alloc _).grow hb
  have U_P0 : Hid (w.heap.size ≤ w.heap.size ∧ w.heap.size < w1.heap.size) := ⟨by omega, P0_1.out.lt⟩
  have P1_1 : Hid (Blk w1 (w.heap.size + 1) #[.slice a1 l1.length cap1, .int .i64 s1, .int .i64 e1, .string n1] 27) := (Blk.new_at (by simp)).grow hb
  have U_P1 : Hid (w.heap.size ≤ (w.heap.size + 1) ∧ (w.heap.size + 1) < w1.heap.size) := ⟨by omega, P1_1.out.lt⟩
  replace hb := grow_on (Go.Joins.below_alloc2 w _ _) hb
  have B1 : Hid (Below w.heap.size w w1) := grow_on B0.out hb
  have Z1 : Hid (w.heap.size ≤ w1.heap.size) := hb.size
  clear hb
  by_cases g0 : k0 < 0
  · clear hn
    go_wp2
    go_ret
    exact ⟨rfl, B1.out⟩
  have K0 : Hid (l0.length ≤ 1048576 ∧ sumC l0 ≤ 1048576 ∧ l0.length + sumC l0 ≤ 1048576) := by have := hn (by omega); exact ⟨by omega, by omega, by omega⟩
  have N0 : Hid (PrtO.Small l0) := fun q hq => by have := sumC_mem hq; have := K0.out.2.1; exact ⟨by omega, lenM_of (by omega)⟩
  clear hn
  have cP00 : w1.cell? ⟨w.heap.size, 0, none⟩ = some (.int .i64 hd0) := (P0_1.out).cell 0
  have cP01 : w1.cell? ⟨w.heap.size, 1, none⟩ = some (.int .i64 vr0) := (P0_1.out).cell 1
  have cP02 : w1.cell? ⟨w.heap.size, 2, none⟩ = some (.slice a0 l0.length cap0) := (P0_1.out).cell 2
  have cP10 : w1.cell? ⟨(w.heap.size + 1), 0, none⟩ = some (.slice a1 l1.length cap1) := (P1_1.out).cell 0
  have cP11 : w1.cell? ⟨(w.heap.size + 1), 1, none⟩ = some (.int .i64 s1) := (P1_1.out).cell 1
  have cP12 : w1.cell? ⟨(w.heap.size + 1), 2, none⟩ = some (.int .i64 e1) := (P1_1.out).cell 2
  have cP13 : w1.cell? ⟨(w.heap.size + 1), 3, none⟩ = some (.string n1) := (P1_1.out).cell 3
  go_wp2_with fail
  refine (Alm.sz_any a1 cap1 l1 s1 e1 n1 k0 _ (G1.out.below B1.out) (by omega) (by omega)).mono ?_
  rintro e w2 ⟨⟨k1, rfl, p1, hn⟩, hb⟩
  have B2 : Hid (Below w.heap.size w w2) := grow_on B1.out hb
  have Z2 : Hid (w1.heap.size ≤ w2.heap.size) := hb.size
  have P0_2 : Hid (Blk w2 w.heap.size #[.int .i64 hd0, .int .i64 vr0, .slice a0 l0.length cap0] 24) := P0_1.out.grow hb
  have P1_2 : Hid (Blk w2 (w.heap.size + 1) #[.slice a1 l1.length cap1, .int .i64 s1, .int .i64 e1, .string n1] 27) := P1_1.out.grow hb
  clear hb cP00 cP01 cP02 cP10 cP11 cP12 cP13
  by_cases g1 : k1 < 0
  · clear hn
    go_wp2
    go_ret
    exact ⟨rfl, B2.out⟩
  have K1 : Hid (l1.length ≤ 1048576) := by have := hn (by omega); show l1.length ≤ 1048576; omega
  clear hn
  have FA : Hid (Alms.FitA (⟨l1, s1, e1, n1⟩ : PAl)) := ⟨M1.out, G1.out.fits, G1.out.sb, G1.out.eb, G1.out.note⟩
  have PS : Hid ((putC l0 (⟨l1, s1, e1, n1⟩ : PAl)).length ≤ 1048577 ∧ sumC (putC l0 (⟨l1, s1, e1, n1⟩ : PAl)) ≤ 2097153) := by
    have h1 := PutS.putC_sum l0 (⟨l1, s1, e1, n1⟩ : PAl)
    have h2 := K0.out
    have h3 := K1.out
    have h4 : (⟨l1, s1, e1, n1⟩ : PAl).l.length = l1.length := rfl
    exact ⟨by omega, by omega⟩
  have PL : Hid ((putC l0 (⟨l1, s1, e1, n1⟩ : PAl)).length ≤ maxLen ∧ FitsC (putC l0 (⟨l1, s1, e1, n1⟩ : PAl))) := ⟨ChnK.len_max PS.out.1, PutS.fitsC_put F0.out N0.out FA.out⟩
  obtain ⟨vu, hvu⟩ : ∃ vu, IntKind.i64.wrap (vr0 + 1) = vu := ⟨_, rfl⟩
  obtain ⟨nu, hnu⟩ : ∃ nu, newC l0 (⟨l1, s1, e1, n1⟩ : PAl) = nu := ⟨_, rfl⟩
  have HVU : Hid (IntKind.i64.wrap (vr0 + 1) = vu ∧ newC l0 (⟨l1, s1, e1, n1⟩ : PAl) = nu) := ⟨hvu, hnu⟩
  clear hvu hnu
  have cP00 : w2.cell? ⟨w.heap.size, 0, none⟩ = some (.int .i64 hd0) := (P0_2.out).cell 0
  have cP01 : w2.cell? ⟨w.heap.size, 1, none⟩ = some (.int .i64 vr0) := (P0_2.out).cell 1
  have cP02 : w2.cell? ⟨w.heap.size, 2, none⟩ = some (.slice a0 l0.length cap0) := (P0_2.out).cell 2
  have cP10 : w2.cell? ⟨(w.heap.size + 1), 0, none⟩ = some (.slice a1 l1.length cap1) := (P1_2.out).cell 0
  have cP11 : w2.cell? ⟨(w.heap.size + 1), 1, none⟩ = some (.int .i64 s1) := (P1_2.out).cell 1
  have cP12 : w2.cell? ⟨(w.heap.size + 1), 2, none⟩ = some (.int .i64 e1) := (P1_2.out).cell 2
  have cP13 : w2.cell? ⟨(w.heap.size + 1), 3, none⟩ = some (.string n1) := (P1_2.out).cell 3
  go_upto_region 8 with fail
  clear cP00 cP01 cP02 cP10 cP11 cP12 cP13
  have HS : Hid (∀ w', Blk w' w.heap.size #[.int .i64 hd0, .int .i64 vr0, .slice a0 l0.length cap0] 24 → Blk w' (w.heap.size + 1) #[.slice a1 l1.length cap1, .int .i64 s1, .int .i64 e1, .string n1] 27 → w'.cell? ⟨w.heap.size, 0, none⟩ = some (.int .i64 hd0) ∧ w'.cell? ⟨w.heap.size, 1, none⟩ = some (.int .i64 vr0) ∧ w'.cell? ⟨w.heap.size, 2, none⟩ = some (.slice a0 l0.length cap0) ∧ w'.cell? ⟨(w.heap.size + 1), 0, none⟩ = some (.slice a1 l1.length cap1) ∧ w'.cell? ⟨(w.heap.size + 1), 1, none⟩ = some (.int .i64 s1) ∧ w'.cell? ⟨(w.heap.size + 1), 2, none⟩ = some (.int .i64 e1) ∧ w'.cell? ⟨(w.heap.size + 1), 3, none⟩ = some (.string n1)) := fun w' h k => ⟨h.cell 0, h.cell 1, h.cell 2, k.cell 0, k.cell 1, k.cell 2, k.cell 3⟩
  go_cut [6, 7] from 27 to 34 (fun s6 s7 wx => ∃ (N M c : Nat) (cs : List CRow), s6 = .pointer (some ⟨N, 0, none⟩) ∧ s7 = .bool nu ∧ Blk wx N #[.int .i64 hd0, .int .i64 vu, .slice (some ⟨M, 0, none⟩) cs.length c] 32 ∧ CB w2.heap.size wx M c cs ∧ chs cs = putC l0 (⟨l1, s1, e1, n1⟩ : PAl) ∧ w2.heap.size ≤ N ∧ Below w2.heap.size w2 wx)
  case first =>
    refine wp_region_held_drew (S := fun w' => w'.cell? ⟨w.heap.size, 0, none⟩ = some (.int .i64 hd0) ∧ w'.cell? ⟨w.heap.size, 1, none⟩ = some (.int .i64 vr0) ∧ w'.cell? ⟨w.heap.size, 2, none⟩ = some (.slice a0 l0.length cap0) ∧ w'.cell? ⟨(w.heap.size + 1), 0, none⟩ = some (.slice a1 l1.length cap1) ∧ w'.cell? ⟨(w.heap.size + 1), 1, none⟩ = some (.int .i64 s1) ∧ w'.cell? ⟨(w.heap.size + 1), 2, none⟩ = some (.int .i64 e1) ∧ w'.cell? ⟨(w.heap.size + 1), 3, none⟩ = some (.string n1)) (by kernel_rfl) (HS.out _ P0_2.out.drew P1_2.out.drew) (fun hHeld => ?_)
    refine wpAnyH_take (i := 0) (oi := { dst := some 28, op := Op.load 24 (Operand.tmp 2), type := 24, pos := "exact.go:3172", after := #[], guard := none }) (v := ?vW1) rfl (by kernel_rfl) (by kernel_rfl) (by kernel_rfl) (fun _ _ _ h => h) (Or.inl ⟨by rfl, ?hyW1⟩) hHeld ?_
    case hyW1 => (intro w hSw; (try dsimp only at hSw); go_simp <;> with_reducible rfl)
    try simp only [Act.put, List.setIfInBounds_toArray, List.set_cons_zero, List.set_cons_succ]
    refine wpAnyH_take (i := 2) (oi := { dst := some 30, op := Op.load 27 (Operand.tmp 3), type := 27, pos := "exact.go:3172", after := #[], guard := none }) (v := ?vW2) rfl (by kernel_rfl) (by kernel_rfl) (by kernel_rfl) (fun _ _ _ h => h) (Or.inl ⟨by rfl, ?hyW2⟩) hHeld ?_
    case hyW2 => (intro w hSw; (try dsimp only at hSw); go_simp <;> with_reducible rfl)
    try simp only [Act.put, List.setIfInBounds_toArray, List.set_cons_zero, List.set_cons_succ]
    refine wpAnyH_ready (rs := [1, 8]) (by kernel_rfl) (by simp) ?_
    refine AllReadyH.cons (o := { dst := some 29, op := Op.call { callee := Callee.value (Operand.func 7), args := #[Operand.tmp 28], argTypes := #[24] }, type := 32, pos := "exact.go:3172", after := #[{ on := 0, ground := Ground.data }], guard := none }) rfl (fun K hK => ?_) ?_
    ·
      go_simp
      refine (toPart_any hd0 vr0 a0 cap0 l0 _ (R0.out.below stays_rd (grow_on B2.out ((Below.refl w2.heap.size w2).drew))) K0.out.1 K0.out.2.1).mono ?_
      rintro r wa ⟨⟨TM, Tr, rfl, hA, hP⟩, hy⟩
      have ZA : Hid (Below w2.heap.size w2 wa) := grow_on ((Below.refl w2.heap.size w2).drew) hy
      have TA : Hid (RdG RdN wa (some ⟨TM, 0, none⟩) l0) := rnC hA hP
      clear hA hP hy
      clear hHeld
      refine hK.out _ _ (HS.out _ (P0_2.out.grow (ZA.out)) (P1_2.out.grow (ZA.out))) (fun hHeld => ?_)
      clear hK K
      try simp only [Act.put, List.setIfInBounds_toArray, List.set_cons_zero, List.set_cons_succ]
      refine wpAnyH_ready (rs := [3, 8]) (by kernel_rfl) (by simp) ?_
      refine AllReadyH.cons (o := { dst := some 31, op := Op.call { callee := Callee.value (Operand.func 8), args := #[Operand.tmp 30], argTypes := #[27] }, type := 38, pos := "exact.go:3172", after := #[{ on := 2, ground := Ground.data }, { on := 1, ground := Ground.chain }], guard := none }) rfl (fun K hK => ?_) ?_
      ·
        go_simp
        refine (Alm.to_any a1 cap1 l1 s1 e1 n1 _ (R1.out.below (grow_on B2.out (ZA.out))) K1.out).mono ?_
        rintro r wb ⟨⟨AM, Acs, rfl, -, hk, -, hh⟩, hy⟩
        have ZB : Hid (Below w2.heap.size w2 wb) := grow_on (ZA.out) hy
        have TB : Hid (RdG RdN wb (some ⟨TM, 0, none⟩) l0 ∧ Reads wb (some ⟨AM, 0, none⟩) l1) := ⟨TA.out.below stays_rn (grow_on (Below.refl _ _) hy), held_reads hk hh⟩
        clear hk hh hy
        clear hHeld
        refine hK.out _ _ (HS.out _ (P0_2.out.grow (ZB.out)) (P1_2.out.grow (ZB.out))) (fun hHeld => ?_)
        clear hK K
        try simp only [Act.put, List.setIfInBounds_toArray, List.set_cons_zero, List.set_cons_succ]
        refine wpAnyH_ready (rs := [4, 8]) (by kernel_rfl) (by simp) ?_
        refine AllReadyH.cons (o := { dst := some 32, op := Op.call { callee := Callee.value (Operand.func 6), args := #[Operand.tmp 29, Operand.tmp 31], argTypes := #[32, 38] }, type := 33, pos := "exact.go:3172", after := #[{ on := 1, ground := Ground.data }, { on := 3, ground := Ground.data }, { on := 3, ground := Ground.chain }], guard := none }) rfl (fun K hK => ?_) ?_
        ·
          go_simp
          refine (PrtV.specPut_any hd0 vr0 _ _ l0 AM 0 _ (⟨l1, s1, e1, n1⟩ : PAl) _ (TB.out.1.below stays_rn (Below.refl _ _)) (TB.out.2.below (Below.refl _ _)) K0.out.1 N0.out K0.out.2.2 K1.out G1.out.fits).mono ?_
          rintro r wc ⟨⟨OM, Oc, Oz, rfl, hA, hP⟩, hy⟩
          rw [HVU.out.1, HVU.out.2]
          have ZC : Hid (Below w2.heap.size w2 wc) := grow_on (ZB.out) hy
          have OA : Hid (CB w2.heap.size wc OM Oc Oz ∧ chs Oz = putC l0 (⟨l1, s1, e1, n1⟩ : PAl)) := ⟨hA.down (ZB.out).size, hP⟩
          clear hA hP hy
          try dsimp only
          clear hHeld
          refine hK.out _ _ (HS.out _ (P0_2.out.grow (ZC.out)) (P1_2.out.grow (ZC.out))) (fun hHeld => ?_)
          clear hK K
          try simp only [Act.put, List.setIfInBounds_toArray, List.set_cons_zero, List.set_cons_succ]
          refine wpAnyH_take (i := 5) (oi := { dst := some 27, op := Op.move (Operand.tmp 32), type := 33, pos := "exact.go:3172", after := #[{ on := 4, ground := Ground.data }], guard := none }) (v := ?vW6) rfl (by kernel_rfl) (by kernel_rfl) (by kernel_rfl) (fun _ _ _ h => h) (Or.inl ⟨by rfl, ?hyW6⟩) hHeld ?_
          case hyW6 => (intro w hSw; (try dsimp only at hSw); go_simp <;> with_reducible rfl)
          try simp only [Act.put, List.setIfInBounds_toArray, List.set_cons_zero, List.set_cons_succ]
          refine wpAnyH_take (i := 6) (oi := { dst := some 33, op := Op.extract (Operand.tmp 27) 0, type := 32, pos := "exact.go:3172", after := #[{ on := 5, ground := Ground.data }], guard := none }) (v := ?vW7) rfl (by kernel_rfl) (by kernel_rfl) (by kernel_rfl) (fun _ _ _ h => h) (Or.inl ⟨by rfl, ?hyW7⟩) hHeld ?_
          case hyW7 => (intro w hSw; (try dsimp only at hSw); go_simp <;> with_reducible rfl)
          try simp only [Act.put, List.setIfInBounds_toArray, List.set_cons_zero, List.set_cons_succ]
          refine wpAnyH_take (i := 7) (oi := { dst := some 34, op := Op.extract (Operand.tmp 27) 1, type := 4, pos := "exact.go:3172", after := #[{ on := 5, ground := Ground.data }, { on := 9, ground := Ground.gcOnly Departure.lateStores }], guard := none }) (v := ?vW8) rfl (by kernel_rfl) (by kernel_rfl) (by kernel_rfl) (fun _ _ _ h => h) (Or.inl ⟨by rfl, ?hyW8⟩) hHeld ?_
          case hyW8 => (intro w hSw; (try dsimp only at hSw); go_simp <;> with_reducible rfl)
          try simp only [Act.put, List.setIfInBounds_toArray, List.set_cons_zero, List.set_cons_succ]
          refine wpAnyH_ready (rs := [8]) (by kernel_rfl) (by simp) ?_
          refine AllReadyH.cons (o := { dst := some 6, op := Op.alloc 32, type := 0, pos := "exact.go:3172", after := #[], guard := none }) rfl (fun K hK => ?_) AllReadyH.nil
          go_simp
          clear hHeld
          refine hK.out _ _ (HS.out _ (P0_2.out.grow (bel_alloc (ZC.out) _)) (P1_2.out.grow (bel_alloc (ZC.out) _))) (fun hHeld => ?_)
          clear hK K
          try simp only [Act.put, List.setIfInBounds_toArray, List.set_cons_zero, List.set_cons_succ]
          refine wpAnyH_ready (rs := [9]) (by kernel_rfl) (by simp) ?_
          refine AllReadyH.cons (o := { dst := none, op := Op.store 32 (Operand.tmp 6) (Operand.tmp 33), type := 0, pos := "exact.go:3172", after := #[{ on := 8, ground := Ground.data }, { on := 6, ground := Ground.data }, { on := 4, ground := Ground.chain }, { on := 0, ground := Ground.phase }, { on := 1, ground := Ground.phase }, { on := 2, ground := Ground.phase }, { on := 3, ground := Ground.phase }, { on := 4, ground := Ground.phase }, { on := 5, ground := Ground.phase }, { on := 6, ground := Ground.phase }, { on := 7, ground := Ground.textOnly Departure.lateStores }, { on := 8, ground := Ground.phase }], guard := none }) rfl (fun K hK => ?_) AllReadyH.nil
          go_simp
          clear hHeld
          refine hK.out _ _ (HS.out _ (P0_2.out.grow (bel_alloc ZC.out _)) (P1_2.out.grow (bel_alloc ZC.out _))) (fun hHeld => ?_)
          clear hK K
          try simp only [Act.put, List.setIfInBounds_toArray, List.set_cons_zero, List.set_cons_succ]
          refine wpAnyH_take (i := 10) (oi := { dst := some 7, op := Op.assign (Operand.tmp 34), type := 4, pos := "exact.go:3172", after := #[{ on := 7, ground := Ground.data }, { on := 9, ground := Ground.chain }, { on := 0, ground := Ground.phase }, { on := 1, ground := Ground.phase }, { on := 2, ground := Ground.phase }, { on := 3, ground := Ground.phase }, { on := 4, ground := Ground.phase }, { on := 5, ground := Ground.phase }, { on := 6, ground := Ground.phase }, { on := 7, ground := Ground.phase }, { on := 8, ground := Ground.phase }, { on := 9, ground := Ground.phase }], guard := none }) (v := ?vW11) rfl (by kernel_rfl) (by kernel_rfl) (by kernel_rfl) (fun _ _ _ h => h) (Or.inl ⟨by rfl, ?hyW11⟩) hHeld ?_
          case hyW11 => (intro w hSw; (try dsimp only at hSw); go_simp <;> with_reducible rfl)
          try simp only [Act.put, List.setIfInBounds_toArray, List.set_cons_zero, List.set_cons_succ]
          refine wpAnyH_done (by kernel_rfl) ?_ _
          go_wp2_with fail
          go_meet
          exact ⟨_, OM, Oc, Oz, rfl, rfl, Blk.new _ _ _, OA.out.1.grow (Go.Joins.below_alloc1 wc _), OA.out.2, ZC.out.size, bel_alloc ZC.out _⟩
        refine AllReadyH.cons (o := { dst := some 6, op := Op.alloc 32, type := 0, pos := "exact.go:3172", after := #[], guard := none }) rfl (fun K hK => ?_) AllReadyH.nil
        go_simp
        clear hHeld
        refine hK.out _ _ (HS.out _ (P0_2.out.grow (bel_alloc (ZB.out) _)) (P1_2.out.grow (bel_alloc (ZB.out) _))) (fun hHeld => ?_)
        clear hK K
        try simp only [Act.put, List.setIfInBounds_toArray, List.set_cons_zero, List.set_cons_succ]
        refine wpAnyH_ready (rs := [4]) (by kernel_rfl) (by simp) ?_
        refine AllReadyH.cons (o := { dst := some 32, op := Op.call { callee := Callee.value (Operand.func 6), args := #[Operand.tmp 29, Operand.tmp 31], argTypes := #[32, 38] }, type := 33, pos := "exact.go:3172", after := #[{ on := 1, ground := Ground.data }, { on := 3, ground := Ground.data }, { on := 3, ground := Ground.chain }], guard := none }) rfl (fun K hK => ?_) AllReadyH.nil
        go_simp
        refine (PrtV.specPut_any hd0 vr0 _ _ l0 AM 0 _ (⟨l1, s1, e1, n1⟩ : PAl) _ (TB.out.1.below stays_rn (bel_alloc (Below.refl _ _) _)) (TB.out.2.below (bel_alloc (Below.refl _ _) _)) K0.out.1 N0.out K0.out.2.2 K1.out G1.out.fits).mono ?_
        rintro r wc ⟨⟨OM, Oc, Oz, rfl, hA, hP⟩, hy⟩
        rw [HVU.out.1, HVU.out.2]
        have ZC : Hid (Below w2.heap.size w2 wc) := grow_on (bel_alloc (ZB.out) _) hy
        have OA : Hid (CB w2.heap.size wc OM Oc Oz ∧ chs Oz = putC l0 (⟨l1, s1, e1, n1⟩ : PAl)) := ⟨hA.down (bel_alloc (ZB.out) _).size, hP⟩
        have NBC : Hid (Blk wc wb.heap.size #[.int .i64 0, .int .i64 0, .slice none 0 0] 32) := (Blk.new wb _ _).grow hy
        clear hA hP hy
        try dsimp only
        clear hHeld
        refine hK.out _ _ (HS.out _ (P0_2.out.grow (ZC.out)) (P1_2.out.grow (ZC.out))) (fun hHeld => ?_)
        clear hK K
        try simp only [Act.put, List.setIfInBounds_toArray, List.set_cons_zero, List.set_cons_succ]
        refine wpAnyH_take (i := 5) (oi := { dst := some 27, op := Op.move (Operand.tmp 32), type := 33, pos := "exact.go:3172", after := #[{ on := 4, ground := Ground.data }], guard := none }) (v := ?vW14) rfl (by kernel_rfl) (by kernel_rfl) (by kernel_rfl) (fun _ _ _ h => h) (Or.inl ⟨by rfl, ?hyW14⟩) hHeld ?_
        case hyW14 => (intro w hSw; (try dsimp only at hSw); go_simp <;> with_reducible rfl)
        try simp only [Act.put, List.setIfInBounds_toArray, List.set_cons_zero, List.set_cons_succ]
        refine wpAnyH_take (i := 6) (oi := { dst := some 33, op := Op.extract (Operand.tmp 27) 0, type := 32, pos := "exact.go:3172", after := #[{ on := 5, ground := Ground.data }], guard := none }) (v := ?vW15) rfl (by kernel_rfl) (by kernel_rfl) (by kernel_rfl) (fun _ _ _ h => h) (Or.inl ⟨by rfl, ?hyW15⟩) hHeld ?_
        case hyW15 => (intro w hSw; (try dsimp only at hSw); go_simp <;> with_reducible rfl)
        try simp only [Act.put, List.setIfInBounds_toArray, List.set_cons_zero, List.set_cons_succ]
        refine wpAnyH_take (i := 7) (oi := { dst := some 34, op := Op.extract (Operand.tmp 27) 1, type := 4, pos := "exact.go:3172", after := #[{ on := 5, ground := Ground.data }, { on := 9, ground := Ground.gcOnly Departure.lateStores }], guard := none }) (v := ?vW16) rfl (by kernel_rfl) (by kernel_rfl) (by kernel_rfl) (fun _ _ _ h => h) (Or.inl ⟨by rfl, ?hyW16⟩) hHeld ?_
        case hyW16 => (intro w hSw; (try dsimp only at hSw); go_simp <;> with_reducible rfl)
        try simp only [Act.put, List.setIfInBounds_toArray, List.set_cons_zero, List.set_cons_succ]
        refine wpAnyH_ready (rs := [9]) (by kernel_rfl) (by simp) ?_
        refine AllReadyH.cons (o := { dst := none, op := Op.store 32 (Operand.tmp 6) (Operand.tmp 33), type := 0, pos := "exact.go:3172", after := #[{ on := 8, ground := Ground.data }, { on := 6, ground := Ground.data }, { on := 4, ground := Ground.chain }, { on := 0, ground := Ground.phase }, { on := 1, ground := Ground.phase }, { on := 2, ground := Ground.phase }, { on := 3, ground := Ground.phase }, { on := 4, ground := Ground.phase }, { on := 5, ground := Ground.phase }, { on := 6, ground := Ground.phase }, { on := 7, ground := Ground.textOnly Departure.lateStores }, { on := 8, ground := Ground.phase }], guard := none }) rfl (fun K hK => ?_) AllReadyH.nil
        have n0 : wc.cell? ⟨wb.heap.size, 0, none⟩ = some (.int .i64 0) := NBC.out.cell 0
        have n1 : wc.cell? ⟨wb.heap.size, 1, none⟩ = some (.int .i64 0) := NBC.out.cell 1
        have n2 : wc.cell? ⟨wb.heap.size, 2, none⟩ = some (.slice none 0 0) := NBC.out.cell 2
        have m0 := NBC.out.frozen 0
        have m1 := NBC.out.frozen 1
        have m2 := NBC.out.frozen 2
        go_simp
        clear n0 n1 n2 m0 m1 m2 hHeld
        have hz : Below w2.heap.size w2 (((wc.setCell ⟨wb.heap.size, 0, none⟩ (.int .i64 hd0)).setCell ⟨wb.heap.size, 1, none⟩ (.int .i64 vu)).setCell ⟨wb.heap.size, 2, none⟩ (.slice (some ⟨OM, 0, none⟩) Oz.length Oc)) := set3 ZC.out (ZB.out.size) _ _ _
        refine hK.out _ _ (HS.out _ (P0_2.out.grow hz) (P1_2.out.grow hz)) (fun hHeld => ?_)
        clear hK K hz
        try simp only [Act.put, List.setIfInBounds_toArray, List.set_cons_zero, List.set_cons_succ]
        refine wpAnyH_take (i := 10) (oi := { dst := some 7, op := Op.assign (Operand.tmp 34), type := 4, pos := "exact.go:3172", after := #[{ on := 7, ground := Ground.data }, { on := 9, ground := Ground.chain }, { on := 0, ground := Ground.phase }, { on := 1, ground := Ground.phase }, { on := 2, ground := Ground.phase }, { on := 3, ground := Ground.phase }, { on := 4, ground := Ground.phase }, { on := 5, ground := Ground.phase }, { on := 6, ground := Ground.phase }, { on := 7, ground := Ground.phase }, { on := 8, ground := Ground.phase }, { on := 9, ground := Ground.phase }], guard := none }) (v := ?vW18) rfl (by kernel_rfl) (by kernel_rfl) (by kernel_rfl) (fun _ _ _ h => h) (Or.inl ⟨by rfl, ?hyW18⟩) hHeld ?_
        case hyW18 => (intro w hSw; (try dsimp only at hSw); go_simp <;> with_reducible rfl)
        try simp only [Act.put, List.setIfInBounds_toArray, List.set_cons_zero, List.set_cons_succ]
        refine wpAnyH_done (by kernel_rfl) ?_ _
        go_wp2_with fail
        go_meet
        exact ⟨_, OM, Oc, Oz, rfl, rfl, put3 NBC.out _ _ _, CB.set3 OA.out.1 NBC.out _ _ _, OA.out.2, ZB.out.size, set3 ZC.out (ZB.out.size) _ _ _⟩
      refine AllReadyH.cons (o := { dst := some 6, op := Op.alloc 32, type := 0, pos := "exact.go:3172", after := #[], guard := none }) rfl (fun K hK => ?_) AllReadyH.nil
      go_simp
      clear hHeld
      refine hK.out _ _ (HS.out _ (P0_2.out.grow (bel_alloc (ZA.out) _)) (P1_2.out.grow (bel_alloc (ZA.out) _))) (fun hHeld => ?_)
      clear hK K
      try simp only [Act.put, List.setIfInBounds_toArray, List.set_cons_zero, List.set_cons_succ]
      refine wpAnyH_ready (rs := [3]) (by kernel_rfl) (by simp) ?_
      refine AllReadyH.cons (o := { dst := some 31, op := Op.call { callee := Callee.value (Operand.func 8), args := #[Operand.tmp 30], argTypes := #[27] }, type := 38, pos := "exact.go:3172", after := #[{ on := 2, ground := Ground.data }, { on := 1, ground := Ground.chain }], guard := none }) rfl (fun K hK => ?_) AllReadyH.nil
      go_simp
      refine (Alm.to_any a1 cap1 l1 s1 e1 n1 _ (R1.out.below (grow_on B2.out (bel_alloc (ZA.out) _))) K1.out).mono ?_
      rintro r wb ⟨⟨AM, Acs, rfl, -, hk, -, hh⟩, hy⟩
      have ZB : Hid (Below w2.heap.size w2 wb) := grow_on (bel_alloc (ZA.out) _) hy
      have TB : Hid (RdG RdN wb (some ⟨TM, 0, none⟩) l0 ∧ Reads wb (some ⟨AM, 0, none⟩) l1) := ⟨TA.out.below stays_rn (grow_on (bel_alloc (Below.refl _ _) _) hy), held_reads hk hh⟩
      have NBB : Hid (Blk wb wa.heap.size #[.int .i64 0, .int .i64 0, .slice none 0 0] 32) := (Blk.new wa _ _).grow hy
      clear hk hh hy
      clear hHeld
      refine hK.out _ _ (HS.out _ (P0_2.out.grow (ZB.out)) (P1_2.out.grow (ZB.out))) (fun hHeld => ?_)
      clear hK K
      try simp only [Act.put, List.setIfInBounds_toArray, List.set_cons_zero, List.set_cons_succ]
      refine wpAnyH_ready (rs := [4]) (by kernel_rfl) (by simp) ?_
      refine AllReadyH.cons (o := { dst := some 32, op := Op.call { callee := Callee.value (Operand.func 6), args := #[Operand.tmp 29, Operand.tmp 31], argTypes := #[32, 38] }, type := 33, pos := "exact.go:3172", after := #[{ on := 1, ground := Ground.data }, { on := 3, ground := Ground.data }, { on := 3, ground := Ground.chain }], guard := none }) rfl (fun K hK => ?_) AllReadyH.nil
      go_simp
      refine (PrtV.specPut_any hd0 vr0 _ _ l0 AM 0 _ (⟨l1, s1, e1, n1⟩ : PAl) _ (TB.out.1.below stays_rn (Below.refl _ _)) (TB.out.2.below (Below.refl _ _)) K0.out.1 N0.out K0.out.2.2 K1.out G1.out.fits).mono ?_
      rintro r wc ⟨⟨OM, Oc, Oz, rfl, hA, hP⟩, hy⟩
      rw [HVU.out.1, HVU.out.2]
      have ZC : Hid (Below w2.heap.size w2 wc) := grow_on (ZB.out) hy
      have OA : Hid (CB w2.heap.size wc OM Oc Oz ∧ chs Oz = putC l0 (⟨l1, s1, e1, n1⟩ : PAl)) := ⟨hA.down (ZB.out).size, hP⟩
      have NBC : Hid (Blk wc wa.heap.size #[.int .i64 0, .int .i64 0, .slice none 0 0] 32) := NBB.out.grow hy
      clear hA hP hy
      try dsimp only
      clear hHeld
      refine hK.out _ _ (HS.out _ (P0_2.out.grow (ZC.out)) (P1_2.out.grow (ZC.out))) (fun hHeld => ?_)
      clear hK K
      try simp only [Act.put, List.setIfInBounds_toArray, List.set_cons_zero, List.set_cons_succ]
      refine wpAnyH_take (i := 5) (oi := { dst := some 27, op := Op.move (Operand.tmp 32), type := 33, pos := "exact.go:3172", after := #[{ on := 4, ground := Ground.data }], guard := none }) (v := ?vW22) rfl (by kernel_rfl) (by kernel_rfl) (by kernel_rfl) (fun _ _ _ h => h) (Or.inl ⟨by rfl, ?hyW22⟩) hHeld ?_
      case hyW22 => (intro w hSw; (try dsimp only at hSw); go_simp <;> with_reducible rfl)
      try simp only [Act.put, List.setIfInBounds_toArray, List.set_cons_zero, List.set_cons_succ]
      refine wpAnyH_take (i := 6) (oi := { dst := some 33, op := Op.extract (Operand.tmp 27) 0, type := 32, pos := "exact.go:3172", after := #[{ on := 5, ground := Ground.data }], guard := none }) (v := ?vW23) rfl (by kernel_rfl) (by kernel_rfl) (by kernel_rfl) (fun _ _ _ h => h) (Or.inl ⟨by rfl, ?hyW23⟩) hHeld ?_
      case hyW23 => (intro w hSw; (try dsimp only at hSw); go_simp <;> with_reducible rfl)
      try simp only [Act.put, List.setIfInBounds_toArray, List.set_cons_zero, List.set_cons_succ]
      refine wpAnyH_take (i := 7) (oi := { dst := some 34, op := Op.extract (Operand.tmp 27) 1, type := 4, pos := "exact.go:3172", after := #[{ on := 5, ground := Ground.data }, { on := 9, ground := Ground.gcOnly Departure.lateStores }], guard := none }) (v := ?vW24) rfl (by kernel_rfl) (by kernel_rfl) (by kernel_rfl) (fun _ _ _ h => h) (Or.inl ⟨by rfl, ?hyW24⟩) hHeld ?_
      case hyW24 => (intro w hSw; (try dsimp only at hSw); go_simp <;> with_reducible rfl)
      try simp only [Act.put, List.setIfInBounds_toArray, List.set_cons_zero, List.set_cons_succ]
      refine wpAnyH_ready (rs := [9]) (by kernel_rfl) (by simp) ?_
      refine AllReadyH.cons (o := { dst := none, op := Op.store 32 (Operand.tmp 6) (Operand.tmp 33), type := 0, pos := "exact.go:3172", after := #[{ on := 8, ground := Ground.data }, { on := 6, ground := Ground.data }, { on := 4, ground := Ground.chain }, { on := 0, ground := Ground.phase }, { on := 1, ground := Ground.phase }, { on := 2, ground := Ground.phase }, { on := 3, ground := Ground.phase }, { on := 4, ground := Ground.phase }, { on := 5, ground := Ground.phase }, { on := 6, ground := Ground.phase }, { on := 7, ground := Ground.textOnly Departure.lateStores }, { on := 8, ground := Ground.phase }], guard := none }) rfl (fun K hK => ?_) AllReadyH.nil
      have n0 : wc.cell? ⟨wa.heap.size, 0, none⟩ = some (.int .i64 0) := NBC.out.cell 0
      have n1 : wc.cell? ⟨wa.heap.size, 1, none⟩ = some (.int .i64 0) := NBC.out.cell 1
      have n2 : wc.cell? ⟨wa.heap.size, 2, none⟩ = some (.slice none 0 0) := NBC.out.cell 2
      have m0 := NBC.out.frozen 0
      have m1 := NBC.out.frozen 1
      have m2 := NBC.out.frozen 2
      go_simp
      clear n0 n1 n2 m0 m1 m2 hHeld
      have hz : Below w2.heap.size w2 (((wc.setCell ⟨wa.heap.size, 0, none⟩ (.int .i64 hd0)).setCell ⟨wa.heap.size, 1, none⟩ (.int .i64 vu)).setCell ⟨wa.heap.size, 2, none⟩ (.slice (some ⟨OM, 0, none⟩) Oz.length Oc)) := set3 ZC.out (ZA.out.size) _ _ _
      refine hK.out _ _ (HS.out _ (P0_2.out.grow hz) (P1_2.out.grow hz)) (fun hHeld => ?_)
      clear hK K hz
      try simp only [Act.put, List.setIfInBounds_toArray, List.set_cons_zero, List.set_cons_succ]
      refine wpAnyH_take (i := 10) (oi := { dst := some 7, op := Op.assign (Operand.tmp 34), type := 4, pos := "exact.go:3172", after := #[{ on := 7, ground := Ground.data }, { on := 9, ground := Ground.chain }, { on := 0, ground := Ground.phase }, { on := 1, ground := Ground.phase }, { on := 2, ground := Ground.phase }, { on := 3, ground := Ground.phase }, { on := 4, ground := Ground.phase }, { on := 5, ground := Ground.phase }, { on := 6, ground := Ground.phase }, { on := 7, ground := Ground.phase }, { on := 8, ground := Ground.phase }, { on := 9, ground := Ground.phase }], guard := none }) (v := ?vW26) rfl (by kernel_rfl) (by kernel_rfl) (by kernel_rfl) (fun _ _ _ h => h) (Or.inl ⟨by rfl, ?hyW26⟩) hHeld ?_
      case hyW26 => (intro w hSw; (try dsimp only at hSw); go_simp <;> with_reducible rfl)
      try simp only [Act.put, List.setIfInBounds_toArray, List.set_cons_zero, List.set_cons_succ]
      refine wpAnyH_done (by kernel_rfl) ?_ _
      go_wp2_with fail
      go_meet
      exact ⟨_, OM, Oc, Oz, rfl, rfl, put3 NBC.out _ _ _, CB.set3 OA.out.1 NBC.out _ _ _, OA.out.2, ZA.out.size, set3 ZC.out (ZA.out.size) _ _ _⟩
    refine AllReadyH.cons (o := { dst := some 6, op := Op.alloc 32, type := 0, pos := "exact.go:3172", after := #[], guard := none }) rfl (fun K hK => ?_) AllReadyH.nil
    go_simp
    clear hHeld
    refine hK.out _ _ (HS.out _ (P0_2.out.grow (bel_alloc ((Below.refl w2.heap.size w2).drew) _)) (P1_2.out.grow (bel_alloc ((Below.refl w2.heap.size w2).drew) _))) (fun hHeld => ?_)
    clear hK K
    try simp only [Act.put, List.setIfInBounds_toArray, List.set_cons_zero, List.set_cons_succ]
    refine wpAnyH_ready (rs := [1]) (by kernel_rfl) (by simp) ?_
    refine AllReadyH.cons (o := { dst := some 29, op := Op.call { callee := Callee.value (Operand.func 7), args := #[Operand.tmp 28], argTypes := #[24] }, type := 32, pos := "exact.go:3172", after := #[{ on := 0, ground := Ground.data }], guard := none }) rfl (fun K hK => ?_) AllReadyH.nil
    go_simp
    refine (toPart_any hd0 vr0 a0 cap0 l0 _ (R0.out.below stays_rd (grow_on B2.out (bel_alloc ((Below.refl w2.heap.size w2).drew) _))) K0.out.1 K0.out.2.1).mono ?_
    rintro r wa ⟨⟨TM, Tr, rfl, hA, hP⟩, hy⟩
    have ZA : Hid (Below w2.heap.size w2 wa) := grow_on (bel_alloc ((Below.refl w2.heap.size w2).drew) _) hy
    have TA : Hid (RdG RdN wa (some ⟨TM, 0, none⟩) l0) := rnC hA hP
    have NBA : Hid (Blk wa w2.heap.size #[.int .i64 0, .int .i64 0, .slice none 0 0] 32) := (Blk.new w2.drew _ _).grow hy
    clear hA hP hy
    clear hHeld
    refine hK.out _ _ (HS.out _ (P0_2.out.grow (ZA.out)) (P1_2.out.grow (ZA.out))) (fun hHeld => ?_)
    clear hK K
    try simp only [Act.put, List.setIfInBounds_toArray, List.set_cons_zero, List.set_cons_succ]
    refine wpAnyH_ready (rs := [3]) (by kernel_rfl) (by simp) ?_
    refine AllReadyH.cons (o := { dst := some 31, op := Op.call { callee := Callee.value (Operand.func 8), args := #[Operand.tmp 30], argTypes := #[27] }, type := 38, pos := "exact.go:3172", after := #[{ on := 2, ground := Ground.data }, { on := 1, ground := Ground.chain }], guard := none }) rfl (fun K hK => ?_) AllReadyH.nil
    go_simp
    refine (Alm.to_any a1 cap1 l1 s1 e1 n1 _ (R1.out.below (grow_on B2.out (ZA.out))) K1.out).mono ?_
    rintro r wb ⟨⟨AM, Acs, rfl, -, hk, -, hh⟩, hy⟩
    have ZB : Hid (Below w2.heap.size w2 wb) := grow_on (ZA.out) hy
    have TB : Hid (RdG RdN wb (some ⟨TM, 0, none⟩) l0 ∧ Reads wb (some ⟨AM, 0, none⟩) l1) := ⟨TA.out.below stays_rn (grow_on (Below.refl _ _) hy), held_reads hk hh⟩
    have NBB : Hid (Blk wb w2.heap.size #[.int .i64 0, .int .i64 0, .slice none 0 0] 32) := NBA.out.grow hy
    clear hk hh hy
    clear hHeld
    refine hK.out _ _ (HS.out _ (P0_2.out.grow (ZB.out)) (P1_2.out.grow (ZB.out))) (fun hHeld => ?_)
    clear hK K
    try simp only [Act.put, List.setIfInBounds_toArray, List.set_cons_zero, List.set_cons_succ]
    refine wpAnyH_ready (rs := [4]) (by kernel_rfl) (by simp) ?_
    refine AllReadyH.cons (o := { dst := some 32, op := Op.call { callee := Callee.value (Operand.func 6), args := #[Operand.tmp 29, Operand.tmp 31], argTypes := #[32, 38] }, type := 33, pos := "exact.go:3172", after := #[{ on := 1, ground := Ground.data }, { on := 3, ground := Ground.data }, { on := 3, ground := Ground.chain }], guard := none }) rfl (fun K hK => ?_) AllReadyH.nil
    go_simp
    refine (PrtV.specPut_any hd0 vr0 _ _ l0 AM 0 _ (⟨l1, s1, e1, n1⟩ : PAl) _ (TB.out.1.below stays_rn (Below.refl _ _)) (TB.out.2.below (Below.refl _ _)) K0.out.1 N0.out K0.out.2.2 K1.out G1.out.fits).mono ?_
    rintro r wc ⟨⟨OM, Oc, Oz, rfl, hA, hP⟩, hy⟩
    rw [HVU.out.1, HVU.out.2]
    have ZC : Hid (Below w2.heap.size w2 wc) := grow_on (ZB.out) hy
    have OA : Hid (CB w2.heap.size wc OM Oc Oz ∧ chs Oz = putC l0 (⟨l1, s1, e1, n1⟩ : PAl)) := ⟨hA.down (ZB.out).size, hP⟩
    have NBC : Hid (Blk wc w2.heap.size #[.int .i64 0, .int .i64 0, .slice none 0 0] 32) := NBB.out.grow hy
    clear hA hP hy
    try dsimp only
    clear hHeld
    refine hK.out _ _ (HS.out _ (P0_2.out.grow (ZC.out)) (P1_2.out.grow (ZC.out))) (fun hHeld => ?_)
    clear hK K
    try simp only [Act.put, List.setIfInBounds_toArray, List.set_cons_zero, List.set_cons_succ]
    refine wpAnyH_take (i := 5) (oi := { dst := some 27, op := Op.move (Operand.tmp 32), type := 33, pos := "exact.go:3172", after := #[{ on := 4, ground := Ground.data }], guard := none }) (v := ?vW31) rfl (by kernel_rfl) (by kernel_rfl) (by kernel_rfl) (fun _ _ _ h => h) (Or.inl ⟨by rfl, ?hyW31⟩) hHeld ?_
    case hyW31 => (intro w hSw; (try dsimp only at hSw); go_simp <;> with_reducible rfl)
    try simp only [Act.put, List.setIfInBounds_toArray, List.set_cons_zero, List.set_cons_succ]
    refine wpAnyH_take (i := 6) (oi := { dst := some 33, op := Op.extract (Operand.tmp 27) 0, type := 32, pos := "exact.go:3172", after := #[{ on := 5, ground := Ground.data }], guard := none }) (v := ?vW32) rfl (by kernel_rfl) (by kernel_rfl) (by kernel_rfl) (fun _ _ _ h => h) (Or.inl ⟨by rfl, ?hyW32⟩) hHeld ?_
    case hyW32 => (intro w hSw; (try dsimp only at hSw); go_simp <;> with_reducible rfl)
    try simp only [Act.put, List.setIfInBounds_toArray, List.set_cons_zero, List.set_cons_succ]
    refine wpAnyH_take (i := 7) (oi := { dst := some 34, op := Op.extract (Operand.tmp 27) 1, type := 4, pos := "exact.go:3172", after := #[{ on := 5, ground := Ground.data }, { on := 9, ground := Ground.gcOnly Departure.lateStores }], guard := none }) (v := ?vW33) rfl (by kernel_rfl) (by kernel_rfl) (by kernel_rfl) (fun _ _ _ h => h) (Or.inl ⟨by rfl, ?hyW33⟩) hHeld ?_
    case hyW33 => (intro w hSw; (try dsimp only at hSw); go_simp <;> with_reducible rfl)
    try simp only [Act.put, List.setIfInBounds_toArray, List.set_cons_zero, List.set_cons_succ]
    refine wpAnyH_ready (rs := [9]) (by kernel_rfl) (by simp) ?_
    refine AllReadyH.cons (o := { dst := none, op := Op.store 32 (Operand.tmp 6) (Operand.tmp 33), type := 0, pos := "exact.go:3172", after := #[{ on := 8, ground := Ground.data }, { on := 6, ground := Ground.data }, { on := 4, ground := Ground.chain }, { on := 0, ground := Ground.phase }, { on := 1, ground := Ground.phase }, { on := 2, ground := Ground.phase }, { on := 3, ground := Ground.phase }, { on := 4, ground := Ground.phase }, { on := 5, ground := Ground.phase }, { on := 6, ground := Ground.phase }, { on := 7, ground := Ground.textOnly Departure.lateStores }, { on := 8, ground := Ground.phase }], guard := none }) rfl (fun K hK => ?_) AllReadyH.nil
    have n0 : wc.cell? ⟨w2.heap.size, 0, none⟩ = some (.int .i64 0) := NBC.out.cell 0
    have n1 : wc.cell? ⟨w2.heap.size, 1, none⟩ = some (.int .i64 0) := NBC.out.cell 1
    have n2 : wc.cell? ⟨w2.heap.size, 2, none⟩ = some (.slice none 0 0) := NBC.out.cell 2
    have m0 := NBC.out.frozen 0
    have m1 := NBC.out.frozen 1
    have m2 := NBC.out.frozen 2
    go_simp
    clear n0 n1 n2 m0 m1 m2 hHeld
    have hz : Below w2.heap.size w2 (((wc.setCell ⟨w2.heap.size, 0, none⟩ (.int .i64 hd0)).setCell ⟨w2.heap.size, 1, none⟩ (.int .i64 vu)).setCell ⟨w2.heap.size, 2, none⟩ (.slice (some ⟨OM, 0, none⟩) Oz.length Oc)) := set3 ZC.out (Nat.le_refl _) _ _ _
    refine hK.out _ _ (HS.out _ (P0_2.out.grow hz) (P1_2.out.grow hz)) (fun hHeld => ?_)
    clear hK K hz
    try simp only [Act.put, List.setIfInBounds_toArray, List.set_cons_zero, List.set_cons_succ]
    refine wpAnyH_take (i := 10) (oi := { dst := some 7, op := Op.assign (Operand.tmp 34), type := 4, pos := "exact.go:3172", after := #[{ on := 7, ground := Ground.data }, { on := 9, ground := Ground.chain }, { on := 0, ground := Ground.phase }, { on := 1, ground := Ground.phase }, { on := 2, ground := Ground.phase }, { on := 3, ground := Ground.phase }, { on := 4, ground := Ground.phase }, { on := 5, ground := Ground.phase }, { on := 6, ground := Ground.phase }, { on := 7, ground := Ground.phase }, { on := 8, ground := Ground.phase }, { on := 9, ground := Ground.phase }], guard := none }) (v := ?vW35) rfl (by kernel_rfl) (by kernel_rfl) (by kernel_rfl) (fun _ _ _ h => h) (Or.inl ⟨by rfl, ?hyW35⟩) hHeld ?_
    case hyW35 => (intro w hSw; (try dsimp only at hSw); go_simp <;> with_reducible rfl)
    try simp only [Act.put, List.setIfInBounds_toArray, List.set_cons_zero, List.set_cons_succ]
    refine wpAnyH_done (by kernel_rfl) ?_ _
    go_wp2_with fail
    go_meet
    exact ⟨_, OM, Oc, Oz, rfl, rfl, put3 NBC.out _ _ _, CB.set3 OA.out.1 NBC.out _ _ _, OA.out.2, Nat.le_refl _, set3 ZC.out (Nat.le_refl _) _ _ _⟩
  case rest =>
  obtain ⟨WN, WM, Wc, Wr, rfl, rfl, hW1, hA, hP, hN, hb⟩ := hcut
  obtain ⟨w3, hwc⟩ : ∃ x, x = wc := ⟨_, rfl⟩
  subst hwc
  have W0_3 : Hid (Blk w3 WN #[.int .i64 hd0, .int .i64 vu, .slice (some ⟨WM, 0, none⟩) Wr.length Wc] 32) := hW1
  have W_3 : Hid (CB w2.heap.size w3 WM Wc Wr) := hA
  have WP : Hid (chs Wr = putC l0 (⟨l1, s1, e1, n1⟩ : PAl)) := hP
  have WR : Hid (∀ k, blksC WM Wr k → w2.heap.size ≤ k ∧ k < w3.heap.size) := rngC hA
  have U_W : Hid (w2.heap.size ≤ WN ∧ WN < w3.heap.size) := ⟨hN, hW1.lt⟩
  have B3 : Hid (Below w.heap.size w w3) := grow_on B2.out hb
  have Z3 : Hid (w2.heap.size ≤ w3.heap.size) := hb.size
  have P0_3 : Hid (Blk w3 w.heap.size #[.int .i64 hd0, .int .i64 vr0, .slice a0 l0.length cap0] 24) := P0_2.out.grow hb
  have P1_3 : Hid (Blk w3 (w.heap.size + 1) #[.slice a1 l1.length cap1, .int .i64 s1, .int .i64 e1, .string n1] 27) := P1_2.out.grow hb
  clear hb HS hW1 hA hP hN
  have cP00 : w3.cell? ⟨w.heap.size, 0, none⟩ = some (.int .i64 hd0) := (P0_3.out).cell 0
  have cP01 : w3.cell? ⟨w.heap.size, 1, none⟩ = some (.int .i64 vr0) := (P0_3.out).cell 1
  have cP02 : w3.cell? ⟨w.heap.size, 2, none⟩ = some (.slice a0 l0.length cap0) := (P0_3.out).cell 2
  have cP10 : w3.cell? ⟨(w.heap.size + 1), 0, none⟩ = some (.slice a1 l1.length cap1) := (P1_3.out).cell 0
  have cP11 : w3.cell? ⟨(w.heap.size + 1), 1, none⟩ = some (.int .i64 s1) := (P1_3.out).cell 1
  have cP12 : w3.cell? ⟨(w.heap.size + 1), 2, none⟩ = some (.int .i64 e1) := (P1_3.out).cell 2
  have cP13 : w3.cell? ⟨(w.heap.size + 1), 3, none⟩ = some (.string n1) := (P1_3.out).cell 3
  have cW00 : w3.cell? ⟨WN, 0, none⟩ = some (.int .i64 hd0) := (W0_3.out).cell 0
  have cW01 : w3.cell? ⟨WN, 1, none⟩ = some (.int .i64 vu) := (W0_3.out).cell 1
  have cW02 : w3.cell? ⟨WN, 2, none⟩ = some (.slice (some ⟨WM, 0, none⟩) Wr.length Wc) := (W0_3.out).cell 2
  go_wp2_with fail
  refine (toPart_any hd0 vr0 a0 cap0 l0 _ (R0.out.below stays_rd B3.out) K0.out.1 K0.out.2.1).mono ?_
  rintro e w4 ⟨⟨XM, Xr, rfl, hA, hP⟩, hb⟩
  have X_4 : Hid (CB w3.heap.size w4 XM l0.length Xr) := hA.down (by first | exact Nat.le_refl _ | simp)
  have XP : Hid (chs Xr = l0) := hP
  have U_X : Hid (w3.heap.size ≤ XM ∧ XM < w4.heap.size) := ⟨X_4.out.at', X_4.out.lt⟩
  clear hA hP
  have B4 : Hid (Below w.heap.size w w4) := grow_on B3.out hb
  have Z4 : Hid (w3.heap.size ≤ w4.heap.size) := hb.size
  have P0_4 : Hid (Blk w4 w.heap.size #[.int .i64 hd0, .int .i64 vr0, .slice a0 l0.length cap0] 24) := P0_3.out.grow hb
  have P1_4 : Hid (Blk w4 (w.heap.size + 1) #[.slice a1 l1.length cap1, .int .i64 s1, .int .i64 e1, .string n1] 27) := P1_3.out.grow hb
  have W0_4 : Hid (Blk w4 WN #[.int .i64 hd0, .int .i64 vu, .slice (some ⟨WM, 0, none⟩) Wr.length Wc] 32) := W0_3.out.grow hb
  have W_4 : Hid (CB w2.heap.size w4 WM Wc Wr) := W_3.out.grow hb
  clear hb cP00 cP01 cP02 cP10 cP11 cP12 cP13 cW00 cW01 cW02
  have XR : Hid (∀ k, blksC XM Xr k → w3.heap.size ≤ k ∧ k < w4.heap.size) := rngC X_4.out
  have cP00 : (w4.alloc (.cells #[.int .i64 hd0, .int .i64 vr0, .slice (some ⟨XM, 0, none⟩) l0.length l0.length] 32)).cell? ⟨w.heap.size, 0, none⟩ = some (.int .i64 hd0) := ((P0_4.out.alloc _)).cell 0
  have cP01 : (w4.alloc (.cells #[.int .i64 hd0, .int .i64 vr0, .slice (some ⟨XM, 0, none⟩) l0.length l0.length] 32)).cell? ⟨w.heap.size, 1, none⟩ = some (.int .i64 vr0) := ((P0_4.out.alloc _)).cell 1
  have cP02 : (w4.alloc (.cells #[.int .i64 hd0, .int .i64 vr0, .slice (some ⟨XM, 0, none⟩) l0.length l0.length] 32)).cell? ⟨w.heap.size, 2, none⟩ = some (.slice a0 l0.length cap0) := ((P0_4.out.alloc _)).cell 2
  have cP10 : (w4.alloc (.cells #[.int .i64 hd0, .int .i64 vr0, .slice (some ⟨XM, 0, none⟩) l0.length l0.length] 32)).cell? ⟨(w.heap.size + 1), 0, none⟩ = some (.slice a1 l1.length cap1) := ((P1_4.out.alloc _)).cell 0
  have cP11 : (w4.alloc (.cells #[.int .i64 hd0, .int .i64 vr0, .slice (some ⟨XM, 0, none⟩) l0.length l0.length] 32)).cell? ⟨(w.heap.size + 1), 1, none⟩ = some (.int .i64 s1) := ((P1_4.out.alloc _)).cell 1
  have cP12 : (w4.alloc (.cells #[.int .i64 hd0, .int .i64 vr0, .slice (some ⟨XM, 0, none⟩) l0.length l0.length] 32)).cell? ⟨(w.heap.size + 1), 2, none⟩ = some (.int .i64 e1) := ((P1_4.out.alloc _)).cell 2
  have cP13 : (w4.alloc (.cells #[.int .i64 hd0, .int .i64 vr0, .slice (some ⟨XM, 0, none⟩) l0.length l0.length] 32)).cell? ⟨(w.heap.size + 1), 3, none⟩ = some (.string n1) := ((P1_4.out.alloc _)).cell 3
  have cW00 : (w4.alloc (.cells #[.int .i64 hd0, .int .i64 vr0, .slice (some ⟨XM, 0, none⟩) l0.length l0.length] 32)).cell? ⟨WN, 0, none⟩ = some (.int .i64 hd0) := ((W0_4.out.alloc _)).cell 0
  have cW01 : (w4.alloc (.cells #[.int .i64 hd0, .int .i64 vr0, .slice (some ⟨XM, 0, none⟩) l0.length l0.length] 32)).cell? ⟨WN, 1, none⟩ = some (.int .i64 vu) := ((W0_4.out.alloc _)).cell 1
  have cW02 : (w4.alloc (.cells #[.int .i64 hd0, .int .i64 vr0, .slice (some ⟨XM, 0, none⟩) l0.length l0.length] 32)).cell? ⟨WN, 2, none⟩ = some (.slice (some ⟨WM, 0, none⟩) Wr.length Wc) := ((W0_4.out.alloc _)).cell 2
  go_wp2_with fail
  refine (Alm.to_any a1 cap1 l1 s1 e1 n1 _ (R1.out.below (grow_on B4.out (Go.Joins.below_alloc1 w4 _))) K1.out).mono ?_
  rintro e w5 ⟨⟨YM, Ycs, rfl, hXM, hk, hs, hh⟩, hb⟩
  have Y_5 : Hid (Blk w5 YM Ycs 84) := hk
  have Ys : Hid (Ycs.size = l1.length * 2) := hs
  have Yh : Hid (LabT.Held Ycs l1 l1.length) := hh
  have U_Y : Hid (w4.heap.size ≤ YM ∧ YM < w5.heap.size) := ⟨Nat.le_trans (by simp) hXM, hk.lt⟩
  clear hk hs hh hXM
  have Q0_5 : Hid (Blk w5 w4.heap.size #[.int .i64 hd0, .int .i64 vr0, .slice (some ⟨XM, 0, none⟩) l0.length l0.length] 32) := (Blk.new _ _ _).grow hb
  have U_Q0 : Hid (w4.heap.size ≤ w4.heap.size ∧ w4.heap.size < w5.heap.size) := ⟨by omega, Q0_5.out.lt⟩
  replace hb := grow_on (Go.Joins.below_alloc1 w4 _) hb
  have B5 : Hid (Below w.heap.size w w5) := grow_on B4.out hb
  have Z5 : Hid (w4.heap.size ≤ w5.heap.size) := hb.size
  have P0_5 : Hid (Blk w5 w.heap.size #[.int .i64 hd0, .int .i64 vr0, .slice a0 l0.length cap0] 24) := P0_4.out.grow hb
  have P1_5 : Hid (Blk w5 (w.heap.size + 1) #[.slice a1 l1.length cap1, .int .i64 s1, .int .i64 e1, .string n1] 27) := P1_4.out.grow hb
  have W0_5 : Hid (Blk w5 WN #[.int .i64 hd0, .int .i64 vu, .slice (some ⟨WM, 0, none⟩) Wr.length Wc] 32) := W0_4.out.grow hb
  have W_5 : Hid (CB w2.heap.size w5 WM Wc Wr) := W_4.out.grow hb
  have X_5 : Hid (CB w3.heap.size w5 XM l0.length Xr) := X_4.out.grow hb
  clear hb cP00 cP01 cP02 cP10 cP11 cP12 cP13 cW00 cW01 cW02
  have cP00 : (w5.alloc (.cells #[.slice (some ⟨YM, 0, none⟩) l1.length l1.length, .int .i64 s1, .int .i64 e1, .string n1] 38)).cell? ⟨w.heap.size, 0, none⟩ = some (.int .i64 hd0) := ((P0_5.out.alloc _)).cell 0
  have cP01 : (w5.alloc (.cells #[.slice (some ⟨YM, 0, none⟩) l1.length l1.length, .int .i64 s1, .int .i64 e1, .string n1] 38)).cell? ⟨w.heap.size, 1, none⟩ = some (.int .i64 vr0) := ((P0_5.out.alloc _)).cell 1
  have cP02 : (w5.alloc (.cells #[.slice (some ⟨YM, 0, none⟩) l1.length l1.length, .int .i64 s1, .int .i64 e1, .string n1] 38)).cell? ⟨w.heap.size, 2, none⟩ = some (.slice a0 l0.length cap0) := ((P0_5.out.alloc _)).cell 2
  have cP10 : (w5.alloc (.cells #[.slice (some ⟨YM, 0, none⟩) l1.length l1.length, .int .i64 s1, .int .i64 e1, .string n1] 38)).cell? ⟨(w.heap.size + 1), 0, none⟩ = some (.slice a1 l1.length cap1) := ((P1_5.out.alloc _)).cell 0
  have cP11 : (w5.alloc (.cells #[.slice (some ⟨YM, 0, none⟩) l1.length l1.length, .int .i64 s1, .int .i64 e1, .string n1] 38)).cell? ⟨(w.heap.size + 1), 1, none⟩ = some (.int .i64 s1) := ((P1_5.out.alloc _)).cell 1
  have cP12 : (w5.alloc (.cells #[.slice (some ⟨YM, 0, none⟩) l1.length l1.length, .int .i64 s1, .int .i64 e1, .string n1] 38)).cell? ⟨(w.heap.size + 1), 2, none⟩ = some (.int .i64 e1) := ((P1_5.out.alloc _)).cell 2
  have cP13 : (w5.alloc (.cells #[.slice (some ⟨YM, 0, none⟩) l1.length l1.length, .int .i64 s1, .int .i64 e1, .string n1] 38)).cell? ⟨(w.heap.size + 1), 3, none⟩ = some (.string n1) := ((P1_5.out.alloc _)).cell 3
  have cW00 : (w5.alloc (.cells #[.slice (some ⟨YM, 0, none⟩) l1.length l1.length, .int .i64 s1, .int .i64 e1, .string n1] 38)).cell? ⟨WN, 0, none⟩ = some (.int .i64 hd0) := ((W0_5.out.alloc _)).cell 0
  have cW01 : (w5.alloc (.cells #[.slice (some ⟨YM, 0, none⟩) l1.length l1.length, .int .i64 s1, .int .i64 e1, .string n1] 38)).cell? ⟨WN, 1, none⟩ = some (.int .i64 vu) := ((W0_5.out.alloc _)).cell 1
  have cW02 : (w5.alloc (.cells #[.slice (some ⟨YM, 0, none⟩) l1.length l1.length, .int .i64 s1, .int .i64 e1, .string n1] 38)).cell? ⟨WN, 2, none⟩ = some (.slice (some ⟨WM, 0, none⟩) Wr.length Wc) := ((W0_5.out.alloc _)).cell 2
  have cQ00 : (w5.alloc (.cells #[.slice (some ⟨YM, 0, none⟩) l1.length l1.length, .int .i64 s1, .int .i64 e1, .string n1] 38)).cell? ⟨w4.heap.size, 0, none⟩ = some (.int .i64 hd0) := ((Q0_5.out.alloc _)).cell 0
  have cQ01 : (w5.alloc (.cells #[.slice (some ⟨YM, 0, none⟩) l1.length l1.length, .int .i64 s1, .int .i64 e1, .string n1] 38)).cell? ⟨w4.heap.size, 1, none⟩ = some (.int .i64 vr0) := ((Q0_5.out.alloc _)).cell 1
  have cQ02 : (w5.alloc (.cells #[.slice (some ⟨YM, 0, none⟩) l1.length l1.length, .int .i64 s1, .int .i64 e1, .string n1] 38)).cell? ⟨w4.heap.size, 2, none⟩ = some (.slice (some ⟨XM, 0, none⟩) l0.length l0.length) := ((Q0_5.out.alloc _)).cell 2
  go_wp2_with fail
  refine (PrtZ.implPut_any hd0 vr0 _ _ l0 YM 0 _ (⟨l1, s1, e1, n1⟩ : PAl) _ ((rdC X_5.out XP.out).below stays_rd (Go.Joins.below_alloc1 w5 _)) ((held_reads Y_5.out Yh.out).below (Go.Joins.below_alloc1 w5 _)) K0.out.1 N0.out K0.out.2.2 K1.out G1.out.fits).mono ?_
  rintro e w6 ⟨⟨GM, Gc, Gr, rfl, hA, hP⟩, hb⟩
  rw [HVU.out.1, HVU.out.2]
  have G_6 : Hid (CB w5.heap.size w6 GM Gc Gr) := hA.down (by simp)
  have GP : Hid (chs Gr = putC l0 (⟨l1, s1, e1, n1⟩ : PAl)) := hP
  have GR : Hid (∀ k, blksC GM Gr k → w5.heap.size < k ∧ k < w6.heap.size) := fun k hk => by have := rngC hA k hk; simp at this; omega
  have GL : Hid (∀ x ∈ Gr, x.rs.length ≤ 2000000 ∧ ∀ y ∈ x.rs, y.2.2.l.length ≤ 1048576) := fun x hx => ⟨by have h1 := (PL.out.2 x.ch (by rw [← hP]; exact List.mem_map.2 ⟨x, hx, rfl⟩)); have h2 := sumC_mem (show x.ch ∈ putC l0 (⟨l1, s1, e1, n1⟩ : PAl) by rw [← hP]; exact List.mem_map.2 ⟨x, hx, rfl⟩); have h3 := pals_len x.rs; have h4 : x.ch.P = pals x.rs := rfl; rw [h4] at h2; have h5 := PutS.putC_one (N0.out) (show x.ch ∈ putC l0 (⟨l1, s1, e1, n1⟩ : PAl) by rw [← hP]; exact List.mem_map.2 ⟨x, hx, rfl⟩); rw [h4] at h5; omega, row_len (hA.rows.rows x hx)⟩
  clear hA hP
  have Q1_6 : Hid (Blk w6 w5.heap.size #[.slice (some ⟨YM, 0, none⟩) l1.length l1.length, .int .i64 s1, .int .i64 e1, .string n1] 38) := (Blk.new _ _ _).grow hb
  have U_Q1 : Hid (w5.heap.size ≤ w5.heap.size ∧ w5.heap.size < w6.heap.size) := ⟨by omega, Q1_6.out.lt⟩
  replace hb := grow_on (Go.Joins.below_alloc1 w5 _) hb
  have B6 : Hid (Below w.heap.size w w6) := grow_on B5.out hb
  have Z6 : Hid (w5.heap.size ≤ w6.heap.size) := hb.size
  have P0_6 : Hid (Blk w6 w.heap.size #[.int .i64 hd0, .int .i64 vr0, .slice a0 l0.length cap0] 24) := P0_5.out.grow hb
  have P1_6 : Hid (Blk w6 (w.heap.size + 1) #[.slice a1 l1.length cap1, .int .i64 s1, .int .i64 e1, .string n1] 27) := P1_5.out.grow hb
  have W0_6 : Hid (Blk w6 WN #[.int .i64 hd0, .int .i64 vu, .slice (some ⟨WM, 0, none⟩) Wr.length Wc] 32) := W0_5.out.grow hb
  have W_6 : Hid (CB w2.heap.size w6 WM Wc Wr) := W_5.out.grow hb
  have X_6 : Hid (CB w3.heap.size w6 XM l0.length Xr) := X_5.out.grow hb
  have Q0_6 : Hid (Blk w6 w4.heap.size #[.int .i64 hd0, .int .i64 vr0, .slice (some ⟨XM, 0, none⟩) l0.length l0.length] 32) := Q0_5.out.grow hb
  have Y_6 : Hid (Blk w6 YM Ycs 84) := Y_5.out.grow hb
  clear hb cP00 cP01 cP02 cP10 cP11 cP12 cP13 cW00 cW01 cW02 cQ00 cQ01 cQ02
  have cP00 : (w6.alloc (.cells #[.int .i64 hd0, .int .i64 vu, .slice (some ⟨GM, 0, none⟩) Gr.length Gc] 32)).cell? ⟨w.heap.size, 0, none⟩ = some (.int .i64 hd0) := ((P0_6.out.alloc _)).cell 0
  have cP01 : (w6.alloc (.cells #[.int .i64 hd0, .int .i64 vu, .slice (some ⟨GM, 0, none⟩) Gr.length Gc] 32)).cell? ⟨w.heap.size, 1, none⟩ = some (.int .i64 vr0) := ((P0_6.out.alloc _)).cell 1
  have cP02 : (w6.alloc (.cells #[.int .i64 hd0, .int .i64 vu, .slice (some ⟨GM, 0, none⟩) Gr.length Gc] 32)).cell? ⟨w.heap.size, 2, none⟩ = some (.slice a0 l0.length cap0) := ((P0_6.out.alloc _)).cell 2
  have cP10 : (w6.alloc (.cells #[.int .i64 hd0, .int .i64 vu, .slice (some ⟨GM, 0, none⟩) Gr.length Gc] 32)).cell? ⟨(w.heap.size + 1), 0, none⟩ = some (.slice a1 l1.length cap1) := ((P1_6.out.alloc _)).cell 0
  have cP11 : (w6.alloc (.cells #[.int .i64 hd0, .int .i64 vu, .slice (some ⟨GM, 0, none⟩) Gr.length Gc] 32)).cell? ⟨(w.heap.size + 1), 1, none⟩ = some (.int .i64 s1) := ((P1_6.out.alloc _)).cell 1
  have cP12 : (w6.alloc (.cells #[.int .i64 hd0, .int .i64 vu, .slice (some ⟨GM, 0, none⟩) Gr.length Gc] 32)).cell? ⟨(w.heap.size + 1), 2, none⟩ = some (.int .i64 e1) := ((P1_6.out.alloc _)).cell 2
  have cP13 : (w6.alloc (.cells #[.int .i64 hd0, .int .i64 vu, .slice (some ⟨GM, 0, none⟩) Gr.length Gc] 32)).cell? ⟨(w.heap.size + 1), 3, none⟩ = some (.string n1) := ((P1_6.out.alloc _)).cell 3
  have cW00 : (w6.alloc (.cells #[.int .i64 hd0, .int .i64 vu, .slice (some ⟨GM, 0, none⟩) Gr.length Gc] 32)).cell? ⟨WN, 0, none⟩ = some (.int .i64 hd0) := ((W0_6.out.alloc _)).cell 0
  have cW01 : (w6.alloc (.cells #[.int .i64 hd0, .int .i64 vu, .slice (some ⟨GM, 0, none⟩) Gr.length Gc] 32)).cell? ⟨WN, 1, none⟩ = some (.int .i64 vu) := ((W0_6.out.alloc _)).cell 1
  have cW02 : (w6.alloc (.cells #[.int .i64 hd0, .int .i64 vu, .slice (some ⟨GM, 0, none⟩) Gr.length Gc] 32)).cell? ⟨WN, 2, none⟩ = some (.slice (some ⟨WM, 0, none⟩) Wr.length Wc) := ((W0_6.out.alloc _)).cell 2
  have cQ00 : (w6.alloc (.cells #[.int .i64 hd0, .int .i64 vu, .slice (some ⟨GM, 0, none⟩) Gr.length Gc] 32)).cell? ⟨w4.heap.size, 0, none⟩ = some (.int .i64 hd0) := ((Q0_6.out.alloc _)).cell 0
  have cQ01 : (w6.alloc (.cells #[.int .i64 hd0, .int .i64 vu, .slice (some ⟨GM, 0, none⟩) Gr.length Gc] 32)).cell? ⟨w4.heap.size, 1, none⟩ = some (.int .i64 vr0) := ((Q0_6.out.alloc _)).cell 1
  have cQ02 : (w6.alloc (.cells #[.int .i64 hd0, .int .i64 vu, .slice (some ⟨GM, 0, none⟩) Gr.length Gc] 32)).cell? ⟨w4.heap.size, 2, none⟩ = some (.slice (some ⟨XM, 0, none⟩) l0.length l0.length) := ((Q0_6.out.alloc _)).cell 2
  have cQ10 : (w6.alloc (.cells #[.int .i64 hd0, .int .i64 vu, .slice (some ⟨GM, 0, none⟩) Gr.length Gc] 32)).cell? ⟨w5.heap.size, 0, none⟩ = some (.slice (some ⟨YM, 0, none⟩) l1.length l1.length) := ((Q1_6.out.alloc _)).cell 0
  have cQ11 : (w6.alloc (.cells #[.int .i64 hd0, .int .i64 vu, .slice (some ⟨GM, 0, none⟩) Gr.length Gc] 32)).cell? ⟨w5.heap.size, 1, none⟩ = some (.int .i64 s1) := ((Q1_6.out.alloc _)).cell 1
  have cQ12 : (w6.alloc (.cells #[.int .i64 hd0, .int .i64 vu, .slice (some ⟨GM, 0, none⟩) Gr.length Gc] 32)).cell? ⟨w5.heap.size, 2, none⟩ = some (.int .i64 e1) := ((Q1_6.out.alloc _)).cell 2
  have cQ13 : (w6.alloc (.cells #[.int .i64 hd0, .int .i64 vu, .slice (some ⟨GM, 0, none⟩) Gr.length Gc] 32)).cell? ⟨w5.heap.size, 3, none⟩ = some (.string n1) := ((Q1_6.out.alloc _)).cell 3
  go_wp2_with fail
  refine (eqPC_any hd0 vu _ _ _ _ _ _ _ _ Gr Wr _ _ (G_6.out.grow (Go.Joins.below_alloc1 w6 _)) (W_6.out.grow (Go.Joins.below_alloc1 w6 _)) GP.out WP.out PL.out.1 PL.out.2).mono ?_
  rintro e w7 ⟨rfl, hb⟩
  have G0_7 : Hid (Blk w7 w6.heap.size #[.int .i64 hd0, .int .i64 vu, .slice (some ⟨GM, 0, none⟩) Gr.length Gc] 32) := (Blk.new _ _ _).grow hb
  have U_G0 : Hid (w6.heap.size ≤ w6.heap.size ∧ w6.heap.size < w7.heap.size) := ⟨by omega, G0_7.out.lt⟩
  replace hb := grow_on (Go.Joins.below_alloc1 w6 _) hb
  have B7 : Hid (Below w.heap.size w w7) := grow_on B6.out hb
  have Z7 : Hid (w6.heap.size ≤ w7.heap.size) := hb.size
  have P0_7 : Hid (Blk w7 w.heap.size #[.int .i64 hd0, .int .i64 vr0, .slice a0 l0.length cap0] 24) := P0_6.out.grow hb
  have P1_7 : Hid (Blk w7 (w.heap.size + 1) #[.slice a1 l1.length cap1, .int .i64 s1, .int .i64 e1, .string n1] 27) := P1_6.out.grow hb
  have W0_7 : Hid (Blk w7 WN #[.int .i64 hd0, .int .i64 vu, .slice (some ⟨WM, 0, none⟩) Wr.length Wc] 32) := W0_6.out.grow hb
  have W_7 : Hid (CB w2.heap.size w7 WM Wc Wr) := W_6.out.grow hb
  have X_7 : Hid (CB w3.heap.size w7 XM l0.length Xr) := X_6.out.grow hb
  have Q0_7 : Hid (Blk w7 w4.heap.size #[.int .i64 hd0, .int .i64 vr0, .slice (some ⟨XM, 0, none⟩) l0.length l0.length] 32) := Q0_6.out.grow hb
  have Y_7 : Hid (Blk w7 YM Ycs 84) := Y_6.out.grow hb
  have Q1_7 : Hid (Blk w7 w5.heap.size #[.slice (some ⟨YM, 0, none⟩) l1.length l1.length, .int .i64 s1, .int .i64 e1, .string n1] 38) := Q1_6.out.grow hb
  have G_7 : Hid (CB w5.heap.size w7 GM Gc Gr) := G_6.out.grow hb
  clear hb cP00 cP01 cP02 cP10 cP11 cP12 cP13 cW00 cW01 cW02 cQ00 cQ01 cQ02 cQ10 cQ11 cQ12 cQ13
  have cP00 : w7.cell? ⟨w.heap.size, 0, none⟩ = some (.int .i64 hd0) := (P0_7.out).cell 0
  have cP01 : w7.cell? ⟨w.heap.size, 1, none⟩ = some (.int .i64 vr0) := (P0_7.out).cell 1
  have cP02 : w7.cell? ⟨w.heap.size, 2, none⟩ = some (.slice a0 l0.length cap0) := (P0_7.out).cell 2
  have cQ00 : w7.cell? ⟨w4.heap.size, 0, none⟩ = some (.int .i64 hd0) := (Q0_7.out).cell 0
  have cQ01 : w7.cell? ⟨w4.heap.size, 1, none⟩ = some (.int .i64 vr0) := (Q0_7.out).cell 1
  have cQ02 : w7.cell? ⟨w4.heap.size, 2, none⟩ = some (.slice (some ⟨XM, 0, none⟩) l0.length l0.length) := (Q0_7.out).cell 2
  go_wp2
  have kz : Below w7.heap.size w7 w7.drew := (Below.refl _ _).drew
  have kP0 := P0_7.out.lt
  have kQ0 := Q0_7.out.lt
  have HS : Hid (∀ w', Below w7.heap.size w7 w' → Below w7.heap.size w7 w' ∧ w'.cell? ⟨w.heap.size, 0, none⟩ = some (.int .i64 hd0) ∧ w'.cell? ⟨w.heap.size, 1, none⟩ = some (.int .i64 vr0) ∧ w'.cell? ⟨w.heap.size, 2, none⟩ = some (.slice a0 l0.length cap0) ∧ w'.cell? ⟨w4.heap.size, 0, none⟩ = some (.int .i64 hd0) ∧ w'.cell? ⟨w4.heap.size, 1, none⟩ = some (.int .i64 vr0) ∧ w'.cell? ⟨w4.heap.size, 2, none⟩ = some (.slice (some ⟨XM, 0, none⟩) l0.length l0.length)) := fun w' h => ⟨h, (h.cell kP0).trans cP00, (h.cell kP0).trans cP01, (h.cell kP0).trans cP02, (h.cell kQ0).trans cQ00, (h.cell kQ0).trans cQ01, (h.cell kQ0).trans cQ02⟩
  go_region_held3 (fun w' => Below w7.heap.size w7 w' ∧ w'.cell? ⟨w.heap.size, 0, none⟩ = some (.int .i64 hd0) ∧ w'.cell? ⟨w.heap.size, 1, none⟩ = some (.int .i64 vr0) ∧ w'.cell? ⟨w.heap.size, 2, none⟩ = some (.slice a0 l0.length cap0) ∧ w'.cell? ⟨w4.heap.size, 0, none⟩ = some (.int .i64 hd0) ∧ w'.cell? ⟨w4.heap.size, 1, none⟩ = some (.int .i64 vr0) ∧ w'.cell? ⟨w4.heap.size, 2, none⟩ = some (.slice (some ⟨XM, 0, none⟩) l0.length l0.length)) (first | with_reducible exact HS.out _ kz | with_reducible exact HS.out _ (grow_on kz hy0) | with_reducible exact HS.out _ (grow_on (grow_on kz hy0) hy1) | (go_keep; done)) (first | (go_at_call 7; with_reducible refine (toPart_any hd0 vr0 a0 cap0 l0 _ (R0.out.below stays_rd (grow_on B7.out kz)) K0.out.1 K0.out.2.1).mono ?_; rintro e wy ⟨⟨EM, Er, rfl, hA, hP⟩, hy0⟩) | (go_at_call 10; refine (eqPart_any hd0 vr0 _ _ _ _ l0 _ ((rdC X_7.out XP.out).below stays_rd (grow_on kz hy0)) (rdC hA hP) M0.out F0.out).mono ?_; rintro e w8 ⟨rfl, hy1⟩))
  have hb := (grow_on (grow_on kz hy0) hy1)
  have B8 : Hid (Below w.heap.size w w8) := grow_on B7.out hb
  have Z8 : Hid (w7.heap.size ≤ w8.heap.size) := hb.size
  have P0_8 : Hid (Blk w8 w.heap.size #[.int .i64 hd0, .int .i64 vr0, .slice a0 l0.length cap0] 24) := P0_7.out.grow hb
  have P1_8 : Hid (Blk w8 (w.heap.size + 1) #[.slice a1 l1.length cap1, .int .i64 s1, .int .i64 e1, .string n1] 27) := P1_7.out.grow hb
  have W0_8 : Hid (Blk w8 WN #[.int .i64 hd0, .int .i64 vu, .slice (some ⟨WM, 0, none⟩) Wr.length Wc] 32) := W0_7.out.grow hb
  have W_8 : Hid (CB w2.heap.size w8 WM Wc Wr) := W_7.out.grow hb
  have X_8 : Hid (CB w3.heap.size w8 XM l0.length Xr) := X_7.out.grow hb
  have Q0_8 : Hid (Blk w8 w4.heap.size #[.int .i64 hd0, .int .i64 vr0, .slice (some ⟨XM, 0, none⟩) l0.length l0.length] 32) := Q0_7.out.grow hb
  have Y_8 : Hid (Blk w8 YM Ycs 84) := Y_7.out.grow hb
  have Q1_8 : Hid (Blk w8 w5.heap.size #[.slice (some ⟨YM, 0, none⟩) l1.length l1.length, .int .i64 s1, .int .i64 e1, .string n1] 38) := Q1_7.out.grow hb
  have G_8 : Hid (CB w5.heap.size w8 GM Gc Gr) := G_7.out.grow hb
  have G0_8 : Hid (Blk w8 w6.heap.size #[.int .i64 hd0, .int .i64 vu, .slice (some ⟨GM, 0, none⟩) Gr.length Gc] 32) := G0_7.out.grow hb
  clear hb kz HS hy0 hy1 kP0 kQ0 cP00 cP01 cP02 cQ00 cQ01 cQ02 hA hP
  have eA : Alm.sameB l1 s1 e1 n1 l1 s1 e1 n1 = true := Alm.same_self _ _ _ _
  have cP10 : w8.cell? ⟨(w.heap.size + 1), 0, none⟩ = some (.slice a1 l1.length cap1) := (P1_8.out).cell 0
  have cP11 : w8.cell? ⟨(w.heap.size + 1), 1, none⟩ = some (.int .i64 s1) := (P1_8.out).cell 1
  have cP12 : w8.cell? ⟨(w.heap.size + 1), 2, none⟩ = some (.int .i64 e1) := (P1_8.out).cell 2
  have cP13 : w8.cell? ⟨(w.heap.size + 1), 3, none⟩ = some (.string n1) := (P1_8.out).cell 3
  have cQ10 : w8.cell? ⟨w5.heap.size, 0, none⟩ = some (.slice (some ⟨YM, 0, none⟩) l1.length l1.length) := (Q1_8.out).cell 0
  have cQ11 : w8.cell? ⟨w5.heap.size, 1, none⟩ = some (.int .i64 s1) := (Q1_8.out).cell 1
  have cQ12 : w8.cell? ⟨w5.heap.size, 2, none⟩ = some (.int .i64 e1) := (Q1_8.out).cell 2
  have cQ13 : w8.cell? ⟨w5.heap.size, 3, none⟩ = some (.string n1) := (Q1_8.out).cell 3
  go_wp2
  have kz : Below w8.heap.size w8 w8.drew := (Below.refl _ _).drew
  have kP1 := P1_8.out.lt
  have kQ1 := Q1_8.out.lt
  have HS : Hid (∀ w', Below w8.heap.size w8 w' → Below w8.heap.size w8 w' ∧ w'.cell? ⟨(w.heap.size + 1), 0, none⟩ = some (.slice a1 l1.length cap1) ∧ w'.cell? ⟨(w.heap.size + 1), 1, none⟩ = some (.int .i64 s1) ∧ w'.cell? ⟨(w.heap.size + 1), 2, none⟩ = some (.int .i64 e1) ∧ w'.cell? ⟨(w.heap.size + 1), 3, none⟩ = some (.string n1) ∧ w'.cell? ⟨w5.heap.size, 0, none⟩ = some (.slice (some ⟨YM, 0, none⟩) l1.length l1.length) ∧ w'.cell? ⟨w5.heap.size, 1, none⟩ = some (.int .i64 s1) ∧ w'.cell? ⟨w5.heap.size, 2, none⟩ = some (.int .i64 e1) ∧ w'.cell? ⟨w5.heap.size, 3, none⟩ = some (.string n1)) := fun w' h => ⟨h, (h.cell kP1).trans cP10, (h.cell kP1).trans cP11, (h.cell kP1).trans cP12, (h.cell kP1).trans cP13, (h.cell kQ1).trans cQ10, (h.cell kQ1).trans cQ11, (h.cell kQ1).trans cQ12, (h.cell kQ1).trans cQ13⟩
  go_region_held3 (fun w' => Below w8.heap.size w8 w' ∧ w'.cell? ⟨(w.heap.size + 1), 0, none⟩ = some (.slice a1 l1.length cap1) ∧ w'.cell? ⟨(w.heap.size + 1), 1, none⟩ = some (.int .i64 s1) ∧ w'.cell? ⟨(w.heap.size + 1), 2, none⟩ = some (.int .i64 e1) ∧ w'.cell? ⟨(w.heap.size + 1), 3, none⟩ = some (.string n1) ∧ w'.cell? ⟨w5.heap.size, 0, none⟩ = some (.slice (some ⟨YM, 0, none⟩) l1.length l1.length) ∧ w'.cell? ⟨w5.heap.size, 1, none⟩ = some (.int .i64 s1) ∧ w'.cell? ⟨w5.heap.size, 2, none⟩ = some (.int .i64 e1) ∧ w'.cell? ⟨w5.heap.size, 3, none⟩ = some (.string n1)) (first | with_reducible exact HS.out _ kz | with_reducible exact HS.out _ (grow_on kz hy0) | with_reducible exact HS.out _ (grow_on (grow_on kz hy0) hy1) | (go_keep; done)) (first | (go_at_call 8; with_reducible refine (Alm.to_any a1 cap1 l1 s1 e1 n1 _ (R1.out.below (grow_on B8.out kz)) K1.out).mono ?_; rintro e wy ⟨⟨EM, Ecs, rfl, -, hk, -, hh⟩, hy0⟩) | (go_at_call 11; refine (Alm.eq_any _ _ _ _ l1 l1 s1 e1 s1 e1 n1 n1 _ ((held_reads Y_8.out Yh.out).below (grow_on kz hy0)) (held_reads hk hh) M1.out M1.out).mono ?_; rintro e w9 ⟨rfl, hy1⟩))
  have hb := (grow_on (grow_on kz hy0) hy1)
  have B9 : Hid (Below w.heap.size w w9) := grow_on B8.out hb
  have Z9 : Hid (w8.heap.size ≤ w9.heap.size) := hb.size
  have P0_9 : Hid (Blk w9 w.heap.size #[.int .i64 hd0, .int .i64 vr0, .slice a0 l0.length cap0] 24) := P0_8.out.grow hb
  have P1_9 : Hid (Blk w9 (w.heap.size + 1) #[.slice a1 l1.length cap1, .int .i64 s1, .int .i64 e1, .string n1] 27) := P1_8.out.grow hb
  have W0_9 : Hid (Blk w9 WN #[.int .i64 hd0, .int .i64 vu, .slice (some ⟨WM, 0, none⟩) Wr.length Wc] 32) := W0_8.out.grow hb
  have W_9 : Hid (CB w2.heap.size w9 WM Wc Wr) := W_8.out.grow hb
  have X_9 : Hid (CB w3.heap.size w9 XM l0.length Xr) := X_8.out.grow hb
  have Q0_9 : Hid (Blk w9 w4.heap.size #[.int .i64 hd0, .int .i64 vr0, .slice (some ⟨XM, 0, none⟩) l0.length l0.length] 32) := Q0_8.out.grow hb
  have Y_9 : Hid (Blk w9 YM Ycs 84) := Y_8.out.grow hb
  have Q1_9 : Hid (Blk w9 w5.heap.size #[.slice (some ⟨YM, 0, none⟩) l1.length l1.length, .int .i64 s1, .int .i64 e1, .string n1] 38) := Q1_8.out.grow hb
  have G_9 : Hid (CB w5.heap.size w9 GM Gc Gr) := G_8.out.grow hb
  have G0_9 : Hid (Blk w9 w6.heap.size #[.int .i64 hd0, .int .i64 vu, .slice (some ⟨GM, 0, none⟩) Gr.length Gc] 32) := G0_8.out.grow hb
  clear hb kz HS hy0 hy1 kP1 kQ1 cP10 cP11 cP12 cP13 cQ10 cQ11 cQ12 cQ13 hk hh
  have XL : Hid (Xr.length = l0.length) := lenc_of XP.out
  have XS : Hid (1 + sumM Xr ≤ 9000000) := by have := marksC XP.out (by have := K0.out; omega) (by have := K0.out; omega); show _ ≤ _; omega
  have hXM : Hid (Calls Try.prog 12 #[.agg #[.int .i64 hd0, .int .i64 vr0, .slice (some ⟨XM, 0, none⟩) l0.length l0.length], .int .i64 1] w9 fun e w' => e = .returned (.int .i64 ((1 + sumM Xr : Nat) : Int)) ∧ Only (blksC XM Xr) w9 w') := by
    have h := (PrtM.markPart_any hd0 vr0 XM l0.length 1 _ l0.length Xr w9 X_9.out (by rw [XL.out]; have := K0.out.1; omega) (fun x hx => (rowC_len X_9.out XP.out (by have := K0.out; omega) x hx).1) (by omega) XS.out).mono (fun e w' h => (⟨h.1, h.2.2⟩ : e = .returned (.int .i64 ((1 + sumM Xr : Nat) : Int)) ∧ Only (blksC XM Xr) w9 w'))
    rw [XL.out] at h
    exact h
  have cP00 : w9.cell? ⟨w.heap.size, 0, none⟩ = some (.int .i64 hd0) := (P0_9.out).cell 0
  have cP01 : w9.cell? ⟨w.heap.size, 1, none⟩ = some (.int .i64 vr0) := (P0_9.out).cell 1
  have cP02 : w9.cell? ⟨w.heap.size, 2, none⟩ = some (.slice a0 l0.length cap0) := (P0_9.out).cell 2
  have cP10 : w9.cell? ⟨(w.heap.size + 1), 0, none⟩ = some (.slice a1 l1.length cap1) := (P1_9.out).cell 0
  have cP11 : w9.cell? ⟨(w.heap.size + 1), 1, none⟩ = some (.int .i64 s1) := (P1_9.out).cell 1
  have cP12 : w9.cell? ⟨(w.heap.size + 1), 2, none⟩ = some (.int .i64 e1) := (P1_9.out).cell 2
  have cP13 : w9.cell? ⟨(w.heap.size + 1), 3, none⟩ = some (.string n1) := (P1_9.out).cell 3
  have cW00 : w9.cell? ⟨WN, 0, none⟩ = some (.int .i64 hd0) := (W0_9.out).cell 0
  have cW01 : w9.cell? ⟨WN, 1, none⟩ = some (.int .i64 vu) := (W0_9.out).cell 1
  have cW02 : w9.cell? ⟨WN, 2, none⟩ = some (.slice (some ⟨WM, 0, none⟩) Wr.length Wc) := (W0_9.out).cell 2
  have cQ00 : w9.cell? ⟨w4.heap.size, 0, none⟩ = some (.int .i64 hd0) := (Q0_9.out).cell 0
  have cQ01 : w9.cell? ⟨w4.heap.size, 1, none⟩ = some (.int .i64 vr0) := (Q0_9.out).cell 1
  have cQ02 : w9.cell? ⟨w4.heap.size, 2, none⟩ = some (.slice (some ⟨XM, 0, none⟩) l0.length l0.length) := (Q0_9.out).cell 2
  have cQ10 : w9.cell? ⟨w5.heap.size, 0, none⟩ = some (.slice (some ⟨YM, 0, none⟩) l1.length l1.length) := (Q1_9.out).cell 0
  have cQ11 : w9.cell? ⟨w5.heap.size, 1, none⟩ = some (.int .i64 s1) := (Q1_9.out).cell 1
  have cQ12 : w9.cell? ⟨w5.heap.size, 2, none⟩ = some (.int .i64 e1) := (Q1_9.out).cell 2
  have cQ13 : w9.cell? ⟨w5.heap.size, 3, none⟩ = some (.string n1) := (Q1_9.out).cell 3
  have cG00 : w9.cell? ⟨w6.heap.size, 0, none⟩ = some (.int .i64 hd0) := (G0_9.out).cell 0
  have cG01 : w9.cell? ⟨w6.heap.size, 1, none⟩ = some (.int .i64 vu) := (G0_9.out).cell 1
  have cG02 : w9.cell? ⟨w6.heap.size, 2, none⟩ = some (.slice (some ⟨GM, 0, none⟩) Gr.length Gc) := (G0_9.out).cell 2
  go_wp2_with fail
  refine (hXM.out).mono ?_
  rintro e w10 ⟨rfl, ho⟩
  have B10 : Hid (Below w.heap.size w w10) := B9.out.trans (ho.low (fun k hk => by have hx := XR.out k hk; have hw := B3.out.size; omega) B9.out.size)
  have Z10 : Hid (w9.heap.size ≤ w10.heap.size) := ho.size
  have P0_10 : Hid (Blk w10 w.heap.size #[.int .i64 hd0, .int .i64 vr0, .slice a0 l0.length cap0] 24) := ho.blk P0_9.out (fun hs => by have hx := XR.out _ hs; have h0 := Z1.out; have h1 := Z2.out; have h2 := Z3.out; have h3 := Z4.out; have h4 := Z5.out; have h5 := Z6.out; have h6 := Z7.out; have h7 := Z8.out; have h8 := Z9.out; have h9 := Z10.out; have h10 := U_P0.out; have h11 := U_P1.out; have h12 := U_W.out; have h13 := U_X.out; have h14 := U_Q0.out; have h15 := U_Y.out; have h16 := U_Q1.out; have h17 := U_G0.out; omega)
  have P1_10 : Hid (Blk w10 (w.heap.size + 1) #[.slice a1 l1.length cap1, .int .i64 s1, .int .i64 e1, .string n1] 27) := ho.blk P1_9.out (fun hs => by have hx := XR.out _ hs; have h0 := Z1.out; have h1 := Z2.out; have h2 := Z3.out; have h3 := Z4.out; have h4 := Z5.out; have h5 := Z6.out; have h6 := Z7.out; have h7 := Z8.out; have h8 := Z9.out; have h9 := Z10.out; have h10 := U_P0.out; have h11 := U_P1.out; have h12 := U_W.out; have h13 := U_X.out; have h14 := U_Q0.out; have h15 := U_Y.out; have h16 := U_Q1.out; have h17 := U_G0.out; omega)
  have W0_10 : Hid (Blk w10 WN #[.int .i64 hd0, .int .i64 vu, .slice (some ⟨WM, 0, none⟩) Wr.length Wc] 32) := ho.blk W0_9.out (fun hs => by have hx := XR.out _ hs; have h0 := Z1.out; have h1 := Z2.out; have h2 := Z3.out; have h3 := Z4.out; have h4 := Z5.out; have h5 := Z6.out; have h6 := Z7.out; have h7 := Z8.out; have h8 := Z9.out; have h9 := Z10.out; have h10 := U_P0.out; have h11 := U_P1.out; have h12 := U_W.out; have h13 := U_X.out; have h14 := U_Q0.out; have h15 := U_Y.out; have h16 := U_Q1.out; have h17 := U_G0.out; omega)
  have W_10 : Hid (CB w2.heap.size w10 WM Wc Wr) := PrtM.cb_only W_9.out ho (fun k hk hs => by have hx := XR.out k hs; have hy := WR.out k hk; have h0 := Z1.out; have h1 := Z2.out; have h2 := Z3.out; have h3 := Z4.out; have h4 := Z5.out; have h5 := Z6.out; have h6 := Z7.out; have h7 := Z8.out; have h8 := Z9.out; have h9 := Z10.out; have h10 := U_P0.out; have h11 := U_P1.out; have h12 := U_W.out; have h13 := U_X.out; have h14 := U_Q0.out; have h15 := U_Y.out; have h16 := U_Q1.out; have h17 := U_G0.out; omega)
  have Y_10 : Hid (Blk w10 YM Ycs 84) := ho.blk Y_9.out (fun hs => by have hx := XR.out _ hs; have h0 := Z1.out; have h1 := Z2.out; have h2 := Z3.out; have h3 := Z4.out; have h4 := Z5.out; have h5 := Z6.out; have h6 := Z7.out; have h7 := Z8.out; have h8 := Z9.out; have h9 := Z10.out; have h10 := U_P0.out; have h11 := U_P1.out; have h12 := U_W.out; have h13 := U_X.out; have h14 := U_Q0.out; have h15 := U_Y.out; have h16 := U_Q1.out; have h17 := U_G0.out; omega)
  have Q1_10 : Hid (Blk w10 w5.heap.size #[.slice (some ⟨YM, 0, none⟩) l1.length l1.length, .int .i64 s1, .int .i64 e1, .string n1] 38) := ho.blk Q1_9.out (fun hs => by have hx := XR.out _ hs; have h0 := Z1.out; have h1 := Z2.out; have h2 := Z3.out; have h3 := Z4.out; have h4 := Z5.out; have h5 := Z6.out; have h6 := Z7.out; have h7 := Z8.out; have h8 := Z9.out; have h9 := Z10.out; have h10 := U_P0.out; have h11 := U_P1.out; have h12 := U_W.out; have h13 := U_X.out; have h14 := U_Q0.out; have h15 := U_Y.out; have h16 := U_Q1.out; have h17 := U_G0.out; omega)
  have G_10 : Hid (CB w5.heap.size w10 GM Gc Gr) := PrtM.cb_only G_9.out ho (fun k hk hs => by have hx := XR.out k hs; have hy := GR.out k hk; have h0 := Z1.out; have h1 := Z2.out; have h2 := Z3.out; have h3 := Z4.out; have h4 := Z5.out; have h5 := Z6.out; have h6 := Z7.out; have h7 := Z8.out; have h8 := Z9.out; have h9 := Z10.out; have h10 := U_P0.out; have h11 := U_P1.out; have h12 := U_W.out; have h13 := U_X.out; have h14 := U_Q0.out; have h15 := U_Y.out; have h16 := U_Q1.out; have h17 := U_G0.out; omega)
  have G0_10 : Hid (Blk w10 w6.heap.size #[.int .i64 hd0, .int .i64 vu, .slice (some ⟨GM, 0, none⟩) Gr.length Gc] 32) := ho.blk G0_9.out (fun hs => by have hx := XR.out _ hs; have h0 := Z1.out; have h1 := Z2.out; have h2 := Z3.out; have h3 := Z4.out; have h4 := Z5.out; have h5 := Z6.out; have h6 := Z7.out; have h7 := Z8.out; have h8 := Z9.out; have h9 := Z10.out; have h10 := U_P0.out; have h11 := U_P1.out; have h12 := U_W.out; have h13 := U_X.out; have h14 := U_Q0.out; have h15 := U_Y.out; have h16 := U_Q1.out; have h17 := U_G0.out; omega)
  clear ho cP00 cP01 cP02 cP10 cP11 cP12 cP13 cW00 cW01 cW02 cQ00 cQ01 cQ02 cQ10 cQ11 cQ12 cQ13 cG00 cG01 cG02
  have MX : Hid (1 ≤ 1 + sumM Xr ∧ 1 + sumM Xr ≤ 10000000) := by have := XS.out; exact ⟨by omega, by omega⟩
  generalize 1 + sumM Xr = m1 at MX ⊢
  have cP00 : w10.cell? ⟨w.heap.size, 0, none⟩ = some (.int .i64 hd0) := (P0_10.out).cell 0
  have cP01 : w10.cell? ⟨w.heap.size, 1, none⟩ = some (.int .i64 vr0) := (P0_10.out).cell 1
  have cP02 : w10.cell? ⟨w.heap.size, 2, none⟩ = some (.slice a0 l0.length cap0) := (P0_10.out).cell 2
  have cP10 : w10.cell? ⟨(w.heap.size + 1), 0, none⟩ = some (.slice a1 l1.length cap1) := (P1_10.out).cell 0
  have cP11 : w10.cell? ⟨(w.heap.size + 1), 1, none⟩ = some (.int .i64 s1) := (P1_10.out).cell 1
  have cP12 : w10.cell? ⟨(w.heap.size + 1), 2, none⟩ = some (.int .i64 e1) := (P1_10.out).cell 2
  have cP13 : w10.cell? ⟨(w.heap.size + 1), 3, none⟩ = some (.string n1) := (P1_10.out).cell 3
  have cW00 : w10.cell? ⟨WN, 0, none⟩ = some (.int .i64 hd0) := (W0_10.out).cell 0
  have cW01 : w10.cell? ⟨WN, 1, none⟩ = some (.int .i64 vu) := (W0_10.out).cell 1
  have cW02 : w10.cell? ⟨WN, 2, none⟩ = some (.slice (some ⟨WM, 0, none⟩) Wr.length Wc) := (W0_10.out).cell 2
  have cQ10 : w10.cell? ⟨w5.heap.size, 0, none⟩ = some (.slice (some ⟨YM, 0, none⟩) l1.length l1.length) := (Q1_10.out).cell 0
  have cQ11 : w10.cell? ⟨w5.heap.size, 1, none⟩ = some (.int .i64 s1) := (Q1_10.out).cell 1
  have cQ12 : w10.cell? ⟨w5.heap.size, 2, none⟩ = some (.int .i64 e1) := (Q1_10.out).cell 2
  have cQ13 : w10.cell? ⟨w5.heap.size, 3, none⟩ = some (.string n1) := (Q1_10.out).cell 3
  have cG00 : w10.cell? ⟨w6.heap.size, 0, none⟩ = some (.int .i64 hd0) := (G0_10.out).cell 0
  have cG01 : w10.cell? ⟨w6.heap.size, 1, none⟩ = some (.int .i64 vu) := (G0_10.out).cell 1
  have cG02 : w10.cell? ⟨w6.heap.size, 2, none⟩ = some (.slice (some ⟨GM, 0, none⟩) Gr.length Gc) := (G0_10.out).cell 2
  go_wp2_with fail
  refine (AlmK.markA_any YM l1.length l1.length m1 s1 e1 n1 Ycs _ Y_10.out (by rw [Ys.out]; exact Nat.le_refl _) K1.out MX.out.1 MX.out.2).mono ?_
  rintro e w11 ⟨rfl, -, ha⟩
  have B11 : Hid (Below w.heap.size w w11) := B10.out.trans (ha.low (by have h0 := B4.out.size; have h0 := Z1.out; have h1 := Z2.out; have h2 := Z3.out; have h3 := Z4.out; have h4 := Z5.out; have h5 := Z6.out; have h6 := Z7.out; have h7 := Z8.out; have h8 := Z9.out; have h9 := Z10.out; have h10 := U_P0.out; have h11 := U_P1.out; have h12 := U_W.out; have h13 := U_X.out; have h14 := U_Q0.out; have h15 := U_Y.out; have h16 := U_Q1.out; have h17 := U_G0.out; omega) B10.out.size)
  have Z11 : Hid (w10.heap.size ≤ w11.heap.size) := ha.size
  have P0_11 : Hid (Blk w11 w.heap.size #[.int .i64 hd0, .int .i64 vr0, .slice a0 l0.length cap0] 24) := ha.blk P0_10.out (by have h0 := Z1.out; have h1 := Z2.out; have h2 := Z3.out; have h3 := Z4.out; have h4 := Z5.out; have h5 := Z6.out; have h6 := Z7.out; have h7 := Z8.out; have h8 := Z9.out; have h9 := Z10.out; have h10 := Z11.out; have h11 := U_P0.out; have h12 := U_P1.out; have h13 := U_W.out; have h14 := U_X.out; have h15 := U_Q0.out; have h16 := U_Y.out; have h17 := U_Q1.out; have h18 := U_G0.out; omega)
  have P1_11 : Hid (Blk w11 (w.heap.size + 1) #[.slice a1 l1.length cap1, .int .i64 s1, .int .i64 e1, .string n1] 27) := ha.blk P1_10.out (by have h0 := Z1.out; have h1 := Z2.out; have h2 := Z3.out; have h3 := Z4.out; have h4 := Z5.out; have h5 := Z6.out; have h6 := Z7.out; have h7 := Z8.out; have h8 := Z9.out; have h9 := Z10.out; have h10 := Z11.out; have h11 := U_P0.out; have h12 := U_P1.out; have h13 := U_W.out; have h14 := U_X.out; have h15 := U_Q0.out; have h16 := U_Y.out; have h17 := U_Q1.out; have h18 := U_G0.out; omega)
  have W0_11 : Hid (Blk w11 WN #[.int .i64 hd0, .int .i64 vu, .slice (some ⟨WM, 0, none⟩) Wr.length Wc] 32) := ha.blk W0_10.out (by have h0 := Z1.out; have h1 := Z2.out; have h2 := Z3.out; have h3 := Z4.out; have h4 := Z5.out; have h5 := Z6.out; have h6 := Z7.out; have h7 := Z8.out; have h8 := Z9.out; have h9 := Z10.out; have h10 := Z11.out; have h11 := U_P0.out; have h12 := U_P1.out; have h13 := U_W.out; have h14 := U_X.out; have h15 := U_Q0.out; have h16 := U_Y.out; have h17 := U_Q1.out; have h18 := U_G0.out; omega)
  have W_11 : Hid (CB w2.heap.size w11 WM Wc Wr) := PrtM.cb_only W_10.out (Only.apart (S := fun k => k = YM) ha rfl) (fun k hk hs => by have hy := WR.out k hk; have h0 := Z1.out; have h1 := Z2.out; have h2 := Z3.out; have h3 := Z4.out; have h4 := Z5.out; have h5 := Z6.out; have h6 := Z7.out; have h7 := Z8.out; have h8 := Z9.out; have h9 := Z10.out; have h10 := Z11.out; have h11 := U_P0.out; have h12 := U_P1.out; have h13 := U_W.out; have h14 := U_X.out; have h15 := U_Q0.out; have h16 := U_Y.out; have h17 := U_Q1.out; have h18 := U_G0.out; omega)
  have G_11 : Hid (CB w5.heap.size w11 GM Gc Gr) := PrtM.cb_only G_10.out (Only.apart (S := fun k => k = YM) ha rfl) (fun k hk hs => by have hy := GR.out k hk; have h0 := Z1.out; have h1 := Z2.out; have h2 := Z3.out; have h3 := Z4.out; have h4 := Z5.out; have h5 := Z6.out; have h6 := Z7.out; have h7 := Z8.out; have h8 := Z9.out; have h9 := Z10.out; have h10 := Z11.out; have h11 := U_P0.out; have h12 := U_P1.out; have h13 := U_W.out; have h14 := U_X.out; have h15 := U_Q0.out; have h16 := U_Y.out; have h17 := U_Q1.out; have h18 := U_G0.out; omega)
  have G0_11 : Hid (Blk w11 w6.heap.size #[.int .i64 hd0, .int .i64 vu, .slice (some ⟨GM, 0, none⟩) Gr.length Gc] 32) := ha.blk G0_10.out (by have h0 := Z1.out; have h1 := Z2.out; have h2 := Z3.out; have h3 := Z4.out; have h4 := Z5.out; have h5 := Z6.out; have h6 := Z7.out; have h7 := Z8.out; have h8 := Z9.out; have h9 := Z10.out; have h10 := Z11.out; have h11 := U_P0.out; have h12 := U_P1.out; have h13 := U_W.out; have h14 := U_X.out; have h15 := U_Q0.out; have h16 := U_Y.out; have h17 := U_Q1.out; have h18 := U_G0.out; omega)
  clear ha cP00 cP01 cP02 cP10 cP11 cP12 cP13 cW00 cW01 cW02 cQ10 cQ11 cQ12 cQ13 cG00 cG01 cG02
  have hq : ¬ ((m1 + 2 * l1.length : Nat) : Int) < 0 := by omega
  generalize m1 + 2 * l1.length = m2 at hq ⊢
  have cP00 : w11.cell? ⟨w.heap.size, 0, none⟩ = some (.int .i64 hd0) := (P0_11.out).cell 0
  have cP01 : w11.cell? ⟨w.heap.size, 1, none⟩ = some (.int .i64 vr0) := (P0_11.out).cell 1
  have cP02 : w11.cell? ⟨w.heap.size, 2, none⟩ = some (.slice a0 l0.length cap0) := (P0_11.out).cell 2
  have cP10 : w11.cell? ⟨(w.heap.size + 1), 0, none⟩ = some (.slice a1 l1.length cap1) := (P1_11.out).cell 0
  have cP11 : w11.cell? ⟨(w.heap.size + 1), 1, none⟩ = some (.int .i64 s1) := (P1_11.out).cell 1
  have cP12 : w11.cell? ⟨(w.heap.size + 1), 2, none⟩ = some (.int .i64 e1) := (P1_11.out).cell 2
  have cP13 : w11.cell? ⟨(w.heap.size + 1), 3, none⟩ = some (.string n1) := (P1_11.out).cell 3
  have cW00 : w11.cell? ⟨WN, 0, none⟩ = some (.int .i64 hd0) := (W0_11.out).cell 0
  have cW01 : w11.cell? ⟨WN, 1, none⟩ = some (.int .i64 vu) := (W0_11.out).cell 1
  have cW02 : w11.cell? ⟨WN, 2, none⟩ = some (.slice (some ⟨WM, 0, none⟩) Wr.length Wc) := (W0_11.out).cell 2
  have cG00 : w11.cell? ⟨w6.heap.size, 0, none⟩ = some (.int .i64 hd0) := (G0_11.out).cell 0
  have cG01 : w11.cell? ⟨w6.heap.size, 1, none⟩ = some (.int .i64 vu) := (G0_11.out).cell 1
  have cG02 : w11.cell? ⟨w6.heap.size, 2, none⟩ = some (.slice (some ⟨GM, 0, none⟩) Gr.length Gc) := (G0_11.out).cell 2
  go_wp2_with fail
  refine (eqPC_any hd0 vu _ _ _ _ _ _ _ _ Gr Wr _ _ (G_11.out) (W_11.out) GP.out WP.out PL.out.1 PL.out.2).mono ?_
  rintro e w12 ⟨rfl, hb⟩
  have B12 : Hid (Below w.heap.size w w12) := grow_on B11.out hb
  have Z12 : Hid (w11.heap.size ≤ w12.heap.size) := hb.size
  have P0_12 : Hid (Blk w12 w.heap.size #[.int .i64 hd0, .int .i64 vr0, .slice a0 l0.length cap0] 24) := P0_11.out.grow hb
  have P1_12 : Hid (Blk w12 (w.heap.size + 1) #[.slice a1 l1.length cap1, .int .i64 s1, .int .i64 e1, .string n1] 27) := P1_11.out.grow hb
  have W0_12 : Hid (Blk w12 WN #[.int .i64 hd0, .int .i64 vu, .slice (some ⟨WM, 0, none⟩) Wr.length Wc] 32) := W0_11.out.grow hb
  have W_12 : Hid (CB w2.heap.size w12 WM Wc Wr) := W_11.out.grow hb
  have G_12 : Hid (CB w5.heap.size w12 GM Gc Gr) := G_11.out.grow hb
  have G0_12 : Hid (Blk w12 w6.heap.size #[.int .i64 hd0, .int .i64 vu, .slice (some ⟨GM, 0, none⟩) Gr.length Gc] 32) := G0_11.out.grow hb
  clear hb cP00 cP01 cP02 cP10 cP11 cP12 cP13 cW00 cW01 cW02 cG00 cG01 cG02
  clear hq
  have GS : Hid (1 + sumM Gr ≤ 9000000 ∧ Gr.length ≤ 2000000) := by
    have h1 := marksC GP.out (by have := PS.out.1; omega) (by have := PS.out.2; omega)
    have h2 := lenc_of GP.out
    have h3 := PS.out.1
    exact ⟨by omega, by omega⟩
  have cP00 : w12.cell? ⟨w.heap.size, 0, none⟩ = some (.int .i64 hd0) := (P0_12.out).cell 0
  have cP01 : w12.cell? ⟨w.heap.size, 1, none⟩ = some (.int .i64 vr0) := (P0_12.out).cell 1
  have cP02 : w12.cell? ⟨w.heap.size, 2, none⟩ = some (.slice a0 l0.length cap0) := (P0_12.out).cell 2
  have cP10 : w12.cell? ⟨(w.heap.size + 1), 0, none⟩ = some (.slice a1 l1.length cap1) := (P1_12.out).cell 0
  have cP11 : w12.cell? ⟨(w.heap.size + 1), 1, none⟩ = some (.int .i64 s1) := (P1_12.out).cell 1
  have cP12 : w12.cell? ⟨(w.heap.size + 1), 2, none⟩ = some (.int .i64 e1) := (P1_12.out).cell 2
  have cP13 : w12.cell? ⟨(w.heap.size + 1), 3, none⟩ = some (.string n1) := (P1_12.out).cell 3
  have cW00 : w12.cell? ⟨WN, 0, none⟩ = some (.int .i64 hd0) := (W0_12.out).cell 0
  have cW01 : w12.cell? ⟨WN, 1, none⟩ = some (.int .i64 vu) := (W0_12.out).cell 1
  have cW02 : w12.cell? ⟨WN, 2, none⟩ = some (.slice (some ⟨WM, 0, none⟩) Wr.length Wc) := (W0_12.out).cell 2
  have cG00 : w12.cell? ⟨w6.heap.size, 0, none⟩ = some (.int .i64 hd0) := (G0_12.out).cell 0
  have cG01 : w12.cell? ⟨w6.heap.size, 1, none⟩ = some (.int .i64 vu) := (G0_12.out).cell 1
  have cG02 : w12.cell? ⟨w6.heap.size, 2, none⟩ = some (.slice (some ⟨GM, 0, none⟩) Gr.length Gc) := (G0_12.out).cell 2
  go_wp2_with fail
  refine (PrtM.markPart_any hd0 vu GM Gc 1 _ Gc Gr w12 G_12.out GS.out.2 (fun x hx => (GL.out x hx).1) (by omega) (by have := GS.out.1; omega)).mono ?_
  rintro e w13 ⟨rfl, hm, ho⟩
  have B13 : Hid (Below w.heap.size w w13) := B12.out.trans (ho.low (fun k hk => by have hx := GR.out k hk; have hw := B4.out.size; have h0 := Z1.out; have h1 := Z2.out; have h2 := Z3.out; have h3 := Z4.out; have h4 := Z5.out; have h5 := Z6.out; have h6 := Z7.out; have h7 := Z8.out; have h8 := Z9.out; have h9 := Z10.out; have h10 := Z11.out; have h11 := Z12.out; have h12 := U_P0.out; have h13 := U_P1.out; have h14 := U_W.out; have h15 := U_X.out; have h16 := U_Q0.out; have h17 := U_Y.out; have h18 := U_Q1.out; have h19 := U_G0.out; omega) B12.out.size)
  have Z13 : Hid (w12.heap.size ≤ w13.heap.size) := ho.size
  have P0_13 : Hid (Blk w13 w.heap.size #[.int .i64 hd0, .int .i64 vr0, .slice a0 l0.length cap0] 24) := ho.blk P0_12.out (fun hs => by have hx := GR.out _ hs; have h0 := Z1.out; have h1 := Z2.out; have h2 := Z3.out; have h3 := Z4.out; have h4 := Z5.out; have h5 := Z6.out; have h6 := Z7.out; have h7 := Z8.out; have h8 := Z9.out; have h9 := Z10.out; have h10 := Z11.out; have h11 := Z12.out; have h12 := Z13.out; have h13 := U_P0.out; have h14 := U_P1.out; have h15 := U_W.out; have h16 := U_X.out; have h17 := U_Q0.out; have h18 := U_Y.out; have h19 := U_Q1.out; have h20 := U_G0.out; omega)
  have P1_13 : Hid (Blk w13 (w.heap.size + 1) #[.slice a1 l1.length cap1, .int .i64 s1, .int .i64 e1, .string n1] 27) := ho.blk P1_12.out (fun hs => by have hx := GR.out _ hs; have h0 := Z1.out; have h1 := Z2.out; have h2 := Z3.out; have h3 := Z4.out; have h4 := Z5.out; have h5 := Z6.out; have h6 := Z7.out; have h7 := Z8.out; have h8 := Z9.out; have h9 := Z10.out; have h10 := Z11.out; have h11 := Z12.out; have h12 := Z13.out; have h13 := U_P0.out; have h14 := U_P1.out; have h15 := U_W.out; have h16 := U_X.out; have h17 := U_Q0.out; have h18 := U_Y.out; have h19 := U_Q1.out; have h20 := U_G0.out; omega)
  have W0_13 : Hid (Blk w13 WN #[.int .i64 hd0, .int .i64 vu, .slice (some ⟨WM, 0, none⟩) Wr.length Wc] 32) := ho.blk W0_12.out (fun hs => by have hx := GR.out _ hs; have h0 := Z1.out; have h1 := Z2.out; have h2 := Z3.out; have h3 := Z4.out; have h4 := Z5.out; have h5 := Z6.out; have h6 := Z7.out; have h7 := Z8.out; have h8 := Z9.out; have h9 := Z10.out; have h10 := Z11.out; have h11 := Z12.out; have h12 := Z13.out; have h13 := U_P0.out; have h14 := U_P1.out; have h15 := U_W.out; have h16 := U_X.out; have h17 := U_Q0.out; have h18 := U_Y.out; have h19 := U_Q1.out; have h20 := U_G0.out; omega)
  have W_13 : Hid (CB w2.heap.size w13 WM Wc Wr) := PrtM.cb_only W_12.out ho (fun k hk hs => by have hx := GR.out k hs; have hy := WR.out k hk; have h0 := Z1.out; have h1 := Z2.out; have h2 := Z3.out; have h3 := Z4.out; have h4 := Z5.out; have h5 := Z6.out; have h6 := Z7.out; have h7 := Z8.out; have h8 := Z9.out; have h9 := Z10.out; have h10 := Z11.out; have h11 := Z12.out; have h12 := Z13.out; have h13 := U_P0.out; have h14 := U_P1.out; have h15 := U_W.out; have h16 := U_X.out; have h17 := U_Q0.out; have h18 := U_Y.out; have h19 := U_Q1.out; have h20 := U_G0.out; omega)
  have G0_13 : Hid (Blk w13 w6.heap.size #[.int .i64 hd0, .int .i64 vu, .slice (some ⟨GM, 0, none⟩) Gr.length Gc] 32) := ho.blk G0_12.out (fun hs => by have hx := GR.out _ hs; have h0 := Z1.out; have h1 := Z2.out; have h2 := Z3.out; have h3 := Z4.out; have h4 := Z5.out; have h5 := Z6.out; have h6 := Z7.out; have h7 := Z8.out; have h8 := Z9.out; have h9 := Z10.out; have h10 := Z11.out; have h11 := Z12.out; have h12 := Z13.out; have h13 := U_P0.out; have h14 := U_P1.out; have h15 := U_W.out; have h16 := U_X.out; have h17 := U_Q0.out; have h18 := U_Y.out; have h19 := U_Q1.out; have h20 := U_G0.out; omega)
  have H_13 : Hid (MC w13 GM Gr 1 Gr.length) := hm
  clear hm
  clear ho cP00 cP01 cP02 cP10 cP11 cP12 cP13 cW00 cW01 cW02 cG00 cG01 cG02
  generalize hz1 : 1 + sumM Gr = z1
  have HZ1 : Hid (1 + sumM Gr = z1) := hz1
  clear hz1
  have hH1 : Hid (Calls Try.prog 14 #[.agg #[.int .i64 hd0, .int .i64 vu, .slice (some ⟨GM, 0, none⟩) Gr.length Gc], .int .i64 1] w13 fun e w' => e = .returned (.int .i64 (z1 : Int)) ∧ Below w13.heap.size w13 w') := (PrtM.heldPart_any hd0 vu GM 1 Gc Gr w13 H_13.out GL.out GS.out.2 (by omega) (by have := GS.out.1; omega)).mono (fun e w' h => ⟨h.1.trans (Mark.retI (by have := HZ1.out; omega)), h.2⟩)
  have hq1 : ¬ (z1 : Int) < 0 := by omega
  have cP00 : w13.cell? ⟨w.heap.size, 0, none⟩ = some (.int .i64 hd0) := (P0_13.out).cell 0
  have cP01 : w13.cell? ⟨w.heap.size, 1, none⟩ = some (.int .i64 vr0) := (P0_13.out).cell 1
  have cP02 : w13.cell? ⟨w.heap.size, 2, none⟩ = some (.slice a0 l0.length cap0) := (P0_13.out).cell 2
  have cP10 : w13.cell? ⟨(w.heap.size + 1), 0, none⟩ = some (.slice a1 l1.length cap1) := (P1_13.out).cell 0
  have cP11 : w13.cell? ⟨(w.heap.size + 1), 1, none⟩ = some (.int .i64 s1) := (P1_13.out).cell 1
  have cP12 : w13.cell? ⟨(w.heap.size + 1), 2, none⟩ = some (.int .i64 e1) := (P1_13.out).cell 2
  have cP13 : w13.cell? ⟨(w.heap.size + 1), 3, none⟩ = some (.string n1) := (P1_13.out).cell 3
  have cW00 : w13.cell? ⟨WN, 0, none⟩ = some (.int .i64 hd0) := (W0_13.out).cell 0
  have cW01 : w13.cell? ⟨WN, 1, none⟩ = some (.int .i64 vu) := (W0_13.out).cell 1
  have cW02 : w13.cell? ⟨WN, 2, none⟩ = some (.slice (some ⟨WM, 0, none⟩) Wr.length Wc) := (W0_13.out).cell 2
  have cG00 : w13.cell? ⟨w6.heap.size, 0, none⟩ = some (.int .i64 hd0) := (G0_13.out).cell 0
  have cG01 : w13.cell? ⟨w6.heap.size, 1, none⟩ = some (.int .i64 vu) := (G0_13.out).cell 1
  have cG02 : w13.cell? ⟨w6.heap.size, 2, none⟩ = some (.slice (some ⟨GM, 0, none⟩) Gr.length Gc) := (G0_13.out).cell 2
  go_wp2_with fail
  refine (hH1.out).mono ?_
  rintro e w14 ⟨rfl, hb⟩
  have B14 : Hid (Below w.heap.size w w14) := grow_on B13.out hb
  have Z14 : Hid (w13.heap.size ≤ w14.heap.size) := hb.size
  have P0_14 : Hid (Blk w14 w.heap.size #[.int .i64 hd0, .int .i64 vr0, .slice a0 l0.length cap0] 24) := P0_13.out.grow hb
  have P1_14 : Hid (Blk w14 (w.heap.size + 1) #[.slice a1 l1.length cap1, .int .i64 s1, .int .i64 e1, .string n1] 27) := P1_13.out.grow hb
  have W0_14 : Hid (Blk w14 WN #[.int .i64 hd0, .int .i64 vu, .slice (some ⟨WM, 0, none⟩) Wr.length Wc] 32) := W0_13.out.grow hb
  have W_14 : Hid (CB w2.heap.size w14 WM Wc Wr) := W_13.out.grow hb
  have G0_14 : Hid (Blk w14 w6.heap.size #[.int .i64 hd0, .int .i64 vu, .slice (some ⟨GM, 0, none⟩) Gr.length Gc] 32) := G0_13.out.grow hb
  have H_14 : Hid (MC w14 GM Gr 1 Gr.length) := H_13.out.grow hb
  clear hb cP00 cP01 cP02 cP10 cP11 cP12 cP13 cW00 cW01 cW02 cG00 cG01 cG02 hH1
  clear hq1
  have cP00 : w14.cell? ⟨w.heap.size, 0, none⟩ = some (.int .i64 hd0) := (P0_14.out).cell 0
  have cP01 : w14.cell? ⟨w.heap.size, 1, none⟩ = some (.int .i64 vr0) := (P0_14.out).cell 1
  have cP02 : w14.cell? ⟨w.heap.size, 2, none⟩ = some (.slice a0 l0.length cap0) := (P0_14.out).cell 2
  have cP10 : w14.cell? ⟨(w.heap.size + 1), 0, none⟩ = some (.slice a1 l1.length cap1) := (P1_14.out).cell 0
  have cP11 : w14.cell? ⟨(w.heap.size + 1), 1, none⟩ = some (.int .i64 s1) := (P1_14.out).cell 1
  have cP12 : w14.cell? ⟨(w.heap.size + 1), 2, none⟩ = some (.int .i64 e1) := (P1_14.out).cell 2
  have cP13 : w14.cell? ⟨(w.heap.size + 1), 3, none⟩ = some (.string n1) := (P1_14.out).cell 3
  go_upto_region 31 with fail
  clear cP00 cP01 cP02 cP10 cP11 cP12 cP13
  have HS : Hid (∀ w', Blk w' w.heap.size #[.int .i64 hd0, .int .i64 vr0, .slice a0 l0.length cap0] 24 → Blk w' (w.heap.size + 1) #[.slice a1 l1.length cap1, .int .i64 s1, .int .i64 e1, .string n1] 27 → w'.cell? ⟨w.heap.size, 0, none⟩ = some (.int .i64 hd0) ∧ w'.cell? ⟨w.heap.size, 1, none⟩ = some (.int .i64 vr0) ∧ w'.cell? ⟨w.heap.size, 2, none⟩ = some (.slice a0 l0.length cap0) ∧ w'.cell? ⟨(w.heap.size + 1), 0, none⟩ = some (.slice a1 l1.length cap1) ∧ w'.cell? ⟨(w.heap.size + 1), 1, none⟩ = some (.int .i64 s1) ∧ w'.cell? ⟨(w.heap.size + 1), 2, none⟩ = some (.int .i64 e1) ∧ w'.cell? ⟨(w.heap.size + 1), 3, none⟩ = some (.string n1)) := fun w' h k => ⟨h.cell 0, h.cell 1, h.cell 2, k.cell 0, k.cell 1, k.cell 2, k.cell 3⟩
  go_cut [15, 16] from 94 to 101 (fun s15 s16 wx => ∃ (N M c : Nat) (cs : List CRow), s15 = .pointer (some ⟨N, 0, none⟩) ∧ s16 = .bool nu ∧ Blk wx N #[.int .i64 hd0, .int .i64 vu, .slice (some ⟨M, 0, none⟩) cs.length c] 32 ∧ CB w14.heap.size wx M c cs ∧ chs cs = putC l0 (⟨l1, s1, e1, n1⟩ : PAl) ∧ w14.heap.size ≤ N ∧ Below w14.heap.size w14 wx)
  case first =>
    refine wp_region_held_drew (S := fun w' => w'.cell? ⟨w.heap.size, 0, none⟩ = some (.int .i64 hd0) ∧ w'.cell? ⟨w.heap.size, 1, none⟩ = some (.int .i64 vr0) ∧ w'.cell? ⟨w.heap.size, 2, none⟩ = some (.slice a0 l0.length cap0) ∧ w'.cell? ⟨(w.heap.size + 1), 0, none⟩ = some (.slice a1 l1.length cap1) ∧ w'.cell? ⟨(w.heap.size + 1), 1, none⟩ = some (.int .i64 s1) ∧ w'.cell? ⟨(w.heap.size + 1), 2, none⟩ = some (.int .i64 e1) ∧ w'.cell? ⟨(w.heap.size + 1), 3, none⟩ = some (.string n1)) (by kernel_rfl) (HS.out _ P0_14.out.drew P1_14.out.drew) (fun hHeld => ?_)
    refine wpAnyH_take (i := 0) (oi := { dst := some 95, op := Op.load 24 (Operand.tmp 2), type := 24, pos := "exact.go:3201", after := #[], guard := none }) (v := ?vV1) rfl (by kernel_rfl) (by kernel_rfl) (by kernel_rfl) (fun _ _ _ h => h) (Or.inl ⟨by rfl, ?hyV1⟩) hHeld ?_
    case hyV1 => (intro w hSw; (try dsimp only at hSw); go_simp <;> with_reducible rfl)
    try simp only [Act.put, List.setIfInBounds_toArray, List.set_cons_zero, List.set_cons_succ]
    refine wpAnyH_take (i := 2) (oi := { dst := some 97, op := Op.load 27 (Operand.tmp 3), type := 27, pos := "exact.go:3201", after := #[], guard := none }) (v := ?vV2) rfl (by kernel_rfl) (by kernel_rfl) (by kernel_rfl) (fun _ _ _ h => h) (Or.inl ⟨by rfl, ?hyV2⟩) hHeld ?_
    case hyV2 => (intro w hSw; (try dsimp only at hSw); go_simp <;> with_reducible rfl)
    try simp only [Act.put, List.setIfInBounds_toArray, List.set_cons_zero, List.set_cons_succ]
    refine wpAnyH_ready (rs := [1, 8]) (by kernel_rfl) (by simp) ?_
    refine AllReadyH.cons (o := { dst := some 96, op := Op.call { callee := Callee.value (Operand.func 7), args := #[Operand.tmp 95], argTypes := #[24] }, type := 32, pos := "exact.go:3201", after := #[{ on := 0, ground := Ground.data }], guard := none }) rfl (fun K hK => ?_) ?_
    ·
      go_simp
      refine (toPart_any hd0 vr0 a0 cap0 l0 _ (R0.out.below stays_rd (grow_on B14.out ((Below.refl w14.heap.size w14).drew))) K0.out.1 K0.out.2.1).mono ?_
      rintro r wa ⟨⟨TM, Tr, rfl, hA, hP⟩, hy⟩
      have ZA : Hid (Below w14.heap.size w14 wa) := grow_on ((Below.refl w14.heap.size w14).drew) hy
      have TA : Hid (RdG RdN wa (some ⟨TM, 0, none⟩) l0) := rnC hA hP
      clear hA hP hy
      clear hHeld
      refine hK.out _ _ (HS.out _ (P0_14.out.grow (ZA.out)) (P1_14.out.grow (ZA.out))) (fun hHeld => ?_)
      clear hK K
      try simp only [Act.put, List.setIfInBounds_toArray, List.set_cons_zero, List.set_cons_succ]
      refine wpAnyH_ready (rs := [3, 8]) (by kernel_rfl) (by simp) ?_
      refine AllReadyH.cons (o := { dst := some 98, op := Op.call { callee := Callee.value (Operand.func 8), args := #[Operand.tmp 97], argTypes := #[27] }, type := 38, pos := "exact.go:3201", after := #[{ on := 2, ground := Ground.data }, { on := 1, ground := Ground.chain }], guard := none }) rfl (fun K hK => ?_) ?_
      ·
        go_simp
        refine (Alm.to_any a1 cap1 l1 s1 e1 n1 _ (R1.out.below (grow_on B14.out (ZA.out))) K1.out).mono ?_
        rintro r wb ⟨⟨AM, Acs, rfl, -, hk, -, hh⟩, hy⟩
        have ZB : Hid (Below w14.heap.size w14 wb) := grow_on (ZA.out) hy
        have TB : Hid (RdG RdN wb (some ⟨TM, 0, none⟩) l0 ∧ Reads wb (some ⟨AM, 0, none⟩) l1) := ⟨TA.out.below stays_rn (grow_on (Below.refl _ _) hy), held_reads hk hh⟩
        clear hk hh hy
        clear hHeld
        refine hK.out _ _ (HS.out _ (P0_14.out.grow (ZB.out)) (P1_14.out.grow (ZB.out))) (fun hHeld => ?_)
        clear hK K
        try simp only [Act.put, List.setIfInBounds_toArray, List.set_cons_zero, List.set_cons_succ]
        refine wpAnyH_ready (rs := [4, 8]) (by kernel_rfl) (by simp) ?_
        refine AllReadyH.cons (o := { dst := some 99, op := Op.call { callee := Callee.value (Operand.func 9), args := #[Operand.tmp 96, Operand.tmp 98], argTypes := #[32, 38] }, type := 33, pos := "exact.go:3201", after := #[{ on := 1, ground := Ground.data }, { on := 3, ground := Ground.data }, { on := 3, ground := Ground.chain }], guard := none }) rfl (fun K hK => ?_) ?_
        ·
          go_simp
          refine (PrtZ.implPut_any hd0 vr0 _ _ l0 AM 0 _ (⟨l1, s1, e1, n1⟩ : PAl) _ (TB.out.1.rd.below stays_rd (Below.refl _ _)) (TB.out.2.below (Below.refl _ _)) K0.out.1 N0.out K0.out.2.2 K1.out G1.out.fits).mono ?_
          rintro r wc ⟨⟨OM, Oc, Oz, rfl, hA, hP⟩, hy⟩
          rw [HVU.out.1, HVU.out.2]
          have ZC : Hid (Below w14.heap.size w14 wc) := grow_on (ZB.out) hy
          have OA : Hid (CB w14.heap.size wc OM Oc Oz ∧ chs Oz = putC l0 (⟨l1, s1, e1, n1⟩ : PAl)) := ⟨hA.down (ZB.out).size, hP⟩
          clear hA hP hy
          try dsimp only
          clear hHeld
          refine hK.out _ _ (HS.out _ (P0_14.out.grow (ZC.out)) (P1_14.out.grow (ZC.out))) (fun hHeld => ?_)
          clear hK K
          try simp only [Act.put, List.setIfInBounds_toArray, List.set_cons_zero, List.set_cons_succ]
          refine wpAnyH_take (i := 5) (oi := { dst := some 94, op := Op.move (Operand.tmp 99), type := 33, pos := "exact.go:3201", after := #[{ on := 4, ground := Ground.data }], guard := none }) (v := ?vV6) rfl (by kernel_rfl) (by kernel_rfl) (by kernel_rfl) (fun _ _ _ h => h) (Or.inl ⟨by rfl, ?hyV6⟩) hHeld ?_
          case hyV6 => (intro w hSw; (try dsimp only at hSw); go_simp <;> with_reducible rfl)
          try simp only [Act.put, List.setIfInBounds_toArray, List.set_cons_zero, List.set_cons_succ]
          refine wpAnyH_take (i := 6) (oi := { dst := some 100, op := Op.extract (Operand.tmp 94) 0, type := 32, pos := "exact.go:3201", after := #[{ on := 5, ground := Ground.data }], guard := none }) (v := ?vV7) rfl (by kernel_rfl) (by kernel_rfl) (by kernel_rfl) (fun _ _ _ h => h) (Or.inl ⟨by rfl, ?hyV7⟩) hHeld ?_
          case hyV7 => (intro w hSw; (try dsimp only at hSw); go_simp <;> with_reducible rfl)
          try simp only [Act.put, List.setIfInBounds_toArray, List.set_cons_zero, List.set_cons_succ]
          refine wpAnyH_take (i := 7) (oi := { dst := some 101, op := Op.extract (Operand.tmp 94) 1, type := 4, pos := "exact.go:3201", after := #[{ on := 5, ground := Ground.data }, { on := 9, ground := Ground.gcOnly Departure.lateStores }], guard := none }) (v := ?vV8) rfl (by kernel_rfl) (by kernel_rfl) (by kernel_rfl) (fun _ _ _ h => h) (Or.inl ⟨by rfl, ?hyV8⟩) hHeld ?_
          case hyV8 => (intro w hSw; (try dsimp only at hSw); go_simp <;> with_reducible rfl)
          try simp only [Act.put, List.setIfInBounds_toArray, List.set_cons_zero, List.set_cons_succ]
          refine wpAnyH_ready (rs := [8]) (by kernel_rfl) (by simp) ?_
          refine AllReadyH.cons (o := { dst := some 15, op := Op.alloc 32, type := 0, pos := "exact.go:3201", after := #[], guard := none }) rfl (fun K hK => ?_) AllReadyH.nil
          go_simp
          clear hHeld
          refine hK.out _ _ (HS.out _ (P0_14.out.grow (bel_alloc (ZC.out) _)) (P1_14.out.grow (bel_alloc (ZC.out) _))) (fun hHeld => ?_)
          clear hK K
          try simp only [Act.put, List.setIfInBounds_toArray, List.set_cons_zero, List.set_cons_succ]
          refine wpAnyH_ready (rs := [9]) (by kernel_rfl) (by simp) ?_
          refine AllReadyH.cons (o := { dst := none, op := Op.store 32 (Operand.tmp 15) (Operand.tmp 100), type := 0, pos := "exact.go:3201", after := #[{ on := 8, ground := Ground.data }, { on := 6, ground := Ground.data }, { on := 4, ground := Ground.chain }, { on := 0, ground := Ground.phase }, { on := 1, ground := Ground.phase }, { on := 2, ground := Ground.phase }, { on := 3, ground := Ground.phase }, { on := 4, ground := Ground.phase }, { on := 5, ground := Ground.phase }, { on := 6, ground := Ground.phase }, { on := 7, ground := Ground.textOnly Departure.lateStores }, { on := 8, ground := Ground.phase }], guard := none }) rfl (fun K hK => ?_) AllReadyH.nil
          go_simp
          clear hHeld
          refine hK.out _ _ (HS.out _ (P0_14.out.grow (bel_alloc ZC.out _)) (P1_14.out.grow (bel_alloc ZC.out _))) (fun hHeld => ?_)
          clear hK K
          try simp only [Act.put, List.setIfInBounds_toArray, List.set_cons_zero, List.set_cons_succ]
          refine wpAnyH_take (i := 10) (oi := { dst := some 16, op := Op.assign (Operand.tmp 101), type := 4, pos := "exact.go:3201", after := #[{ on := 7, ground := Ground.data }, { on := 9, ground := Ground.chain }, { on := 0, ground := Ground.phase }, { on := 1, ground := Ground.phase }, { on := 2, ground := Ground.phase }, { on := 3, ground := Ground.phase }, { on := 4, ground := Ground.phase }, { on := 5, ground := Ground.phase }, { on := 6, ground := Ground.phase }, { on := 7, ground := Ground.phase }, { on := 8, ground := Ground.phase }, { on := 9, ground := Ground.phase }], guard := none }) (v := ?vV11) rfl (by kernel_rfl) (by kernel_rfl) (by kernel_rfl) (fun _ _ _ h => h) (Or.inl ⟨by rfl, ?hyV11⟩) hHeld ?_
          case hyV11 => (intro w hSw; (try dsimp only at hSw); go_simp <;> with_reducible rfl)
          try simp only [Act.put, List.setIfInBounds_toArray, List.set_cons_zero, List.set_cons_succ]
          refine wpAnyH_done (by kernel_rfl) ?_ _
          go_wp2_with fail
          go_meet
          exact ⟨_, OM, Oc, Oz, rfl, rfl, Blk.new _ _ _, OA.out.1.grow (Go.Joins.below_alloc1 wc _), OA.out.2, ZC.out.size, bel_alloc ZC.out _⟩
        refine AllReadyH.cons (o := { dst := some 15, op := Op.alloc 32, type := 0, pos := "exact.go:3201", after := #[], guard := none }) rfl (fun K hK => ?_) AllReadyH.nil
        go_simp
        clear hHeld
        refine hK.out _ _ (HS.out _ (P0_14.out.grow (bel_alloc (ZB.out) _)) (P1_14.out.grow (bel_alloc (ZB.out) _))) (fun hHeld => ?_)
        clear hK K
        try simp only [Act.put, List.setIfInBounds_toArray, List.set_cons_zero, List.set_cons_succ]
        refine wpAnyH_ready (rs := [4]) (by kernel_rfl) (by simp) ?_
        refine AllReadyH.cons (o := { dst := some 99, op := Op.call { callee := Callee.value (Operand.func 9), args := #[Operand.tmp 96, Operand.tmp 98], argTypes := #[32, 38] }, type := 33, pos := "exact.go:3201", after := #[{ on := 1, ground := Ground.data }, { on := 3, ground := Ground.data }, { on := 3, ground := Ground.chain }], guard := none }) rfl (fun K hK => ?_) AllReadyH.nil
        go_simp
        refine (PrtZ.implPut_any hd0 vr0 _ _ l0 AM 0 _ (⟨l1, s1, e1, n1⟩ : PAl) _ (TB.out.1.rd.below stays_rd (bel_alloc (Below.refl _ _) _)) (TB.out.2.below (bel_alloc (Below.refl _ _) _)) K0.out.1 N0.out K0.out.2.2 K1.out G1.out.fits).mono ?_
        rintro r wc ⟨⟨OM, Oc, Oz, rfl, hA, hP⟩, hy⟩
        rw [HVU.out.1, HVU.out.2]
        have ZC : Hid (Below w14.heap.size w14 wc) := grow_on (bel_alloc (ZB.out) _) hy
        have OA : Hid (CB w14.heap.size wc OM Oc Oz ∧ chs Oz = putC l0 (⟨l1, s1, e1, n1⟩ : PAl)) := ⟨hA.down (bel_alloc (ZB.out) _).size, hP⟩
        have NBC : Hid (Blk wc wb.heap.size #[.int .i64 0, .int .i64 0, .slice none 0 0] 32) := (Blk.new wb _ _).grow hy
        clear hA hP hy
        try dsimp only
        clear hHeld
        refine hK.out _ _ (HS.out _ (P0_14.out.grow (ZC.out)) (P1_14.out.grow (ZC.out))) (fun hHeld => ?_)
        clear hK K
        try simp only [Act.put, List.setIfInBounds_toArray, List.set_cons_zero, List.set_cons_succ]
        refine wpAnyH_take (i := 5) (oi := { dst := some 94, op := Op.move (Operand.tmp 99), type := 33, pos := "exact.go:3201", after := #[{ on := 4, ground := Ground.data }], guard := none }) (v := ?vV14) rfl (by kernel_rfl) (by kernel_rfl) (by kernel_rfl) (fun _ _ _ h => h) (Or.inl ⟨by rfl, ?hyV14⟩) hHeld ?_
        case hyV14 => (intro w hSw; (try dsimp only at hSw); go_simp <;> with_reducible rfl)
        try simp only [Act.put, List.setIfInBounds_toArray, List.set_cons_zero, List.set_cons_succ]
        refine wpAnyH_take (i := 6) (oi := { dst := some 100, op := Op.extract (Operand.tmp 94) 0, type := 32, pos := "exact.go:3201", after := #[{ on := 5, ground := Ground.data }], guard := none }) (v := ?vV15) rfl (by kernel_rfl) (by kernel_rfl) (by kernel_rfl) (fun _ _ _ h => h) (Or.inl ⟨by rfl, ?hyV15⟩) hHeld ?_
        case hyV15 => (intro w hSw; (try dsimp only at hSw); go_simp <;> with_reducible rfl)
        try simp only [Act.put, List.setIfInBounds_toArray, List.set_cons_zero, List.set_cons_succ]
        refine wpAnyH_take (i := 7) (oi := { dst := some 101, op := Op.extract (Operand.tmp 94) 1, type := 4, pos := "exact.go:3201", after := #[{ on := 5, ground := Ground.data }, { on := 9, ground := Ground.gcOnly Departure.lateStores }], guard := none }) (v := ?vV16) rfl (by kernel_rfl) (by kernel_rfl) (by kernel_rfl) (fun _ _ _ h => h) (Or.inl ⟨by rfl, ?hyV16⟩) hHeld ?_
        case hyV16 => (intro w hSw; (try dsimp only at hSw); go_simp <;> with_reducible rfl)
        try simp only [Act.put, List.setIfInBounds_toArray, List.set_cons_zero, List.set_cons_succ]
        refine wpAnyH_ready (rs := [9]) (by kernel_rfl) (by simp) ?_
        refine AllReadyH.cons (o := { dst := none, op := Op.store 32 (Operand.tmp 15) (Operand.tmp 100), type := 0, pos := "exact.go:3201", after := #[{ on := 8, ground := Ground.data }, { on := 6, ground := Ground.data }, { on := 4, ground := Ground.chain }, { on := 0, ground := Ground.phase }, { on := 1, ground := Ground.phase }, { on := 2, ground := Ground.phase }, { on := 3, ground := Ground.phase }, { on := 4, ground := Ground.phase }, { on := 5, ground := Ground.phase }, { on := 6, ground := Ground.phase }, { on := 7, ground := Ground.textOnly Departure.lateStores }, { on := 8, ground := Ground.phase }], guard := none }) rfl (fun K hK => ?_) AllReadyH.nil
        have n0 : wc.cell? ⟨wb.heap.size, 0, none⟩ = some (.int .i64 0) := NBC.out.cell 0
        have n1 : wc.cell? ⟨wb.heap.size, 1, none⟩ = some (.int .i64 0) := NBC.out.cell 1
        have n2 : wc.cell? ⟨wb.heap.size, 2, none⟩ = some (.slice none 0 0) := NBC.out.cell 2
        have m0 := NBC.out.frozen 0
        have m1 := NBC.out.frozen 1
        have m2 := NBC.out.frozen 2
        go_simp
        clear n0 n1 n2 m0 m1 m2 hHeld
        have hz : Below w14.heap.size w14 (((wc.setCell ⟨wb.heap.size, 0, none⟩ (.int .i64 hd0)).setCell ⟨wb.heap.size, 1, none⟩ (.int .i64 vu)).setCell ⟨wb.heap.size, 2, none⟩ (.slice (some ⟨OM, 0, none⟩) Oz.length Oc)) := set3 ZC.out (ZB.out.size) _ _ _
        refine hK.out _ _ (HS.out _ (P0_14.out.grow hz) (P1_14.out.grow hz)) (fun hHeld => ?_)
        clear hK K hz
        try simp only [Act.put, List.setIfInBounds_toArray, List.set_cons_zero, List.set_cons_succ]
        refine wpAnyH_take (i := 10) (oi := { dst := some 16, op := Op.assign (Operand.tmp 101), type := 4, pos := "exact.go:3201", after := #[{ on := 7, ground := Ground.data }, { on := 9, ground := Ground.chain }, { on := 0, ground := Ground.phase }, { on := 1, ground := Ground.phase }, { on := 2, ground := Ground.phase }, { on := 3, ground := Ground.phase }, { on := 4, ground := Ground.phase }, { on := 5, ground := Ground.phase }, { on := 6, ground := Ground.phase }, { on := 7, ground := Ground.phase }, { on := 8, ground := Ground.phase }, { on := 9, ground := Ground.phase }], guard := none }) (v := ?vV18) rfl (by kernel_rfl) (by kernel_rfl) (by kernel_rfl) (fun _ _ _ h => h) (Or.inl ⟨by rfl, ?hyV18⟩) hHeld ?_
        case hyV18 => (intro w hSw; (try dsimp only at hSw); go_simp <;> with_reducible rfl)
        try simp only [Act.put, List.setIfInBounds_toArray, List.set_cons_zero, List.set_cons_succ]
        refine wpAnyH_done (by kernel_rfl) ?_ _
        go_wp2_with fail
        go_meet
        exact ⟨_, OM, Oc, Oz, rfl, rfl, put3 NBC.out _ _ _, CB.set3 OA.out.1 NBC.out _ _ _, OA.out.2, ZB.out.size, set3 ZC.out (ZB.out.size) _ _ _⟩
      refine AllReadyH.cons (o := { dst := some 15, op := Op.alloc 32, type := 0, pos := "exact.go:3201", after := #[], guard := none }) rfl (fun K hK => ?_) AllReadyH.nil
      go_simp
      clear hHeld
      refine hK.out _ _ (HS.out _ (P0_14.out.grow (bel_alloc (ZA.out) _)) (P1_14.out.grow (bel_alloc (ZA.out) _))) (fun hHeld => ?_)
      clear hK K
      try simp only [Act.put, List.setIfInBounds_toArray, List.set_cons_zero, List.set_cons_succ]
      refine wpAnyH_ready (rs := [3]) (by kernel_rfl) (by simp) ?_
      refine AllReadyH.cons (o := { dst := some 98, op := Op.call { callee := Callee.value (Operand.func 8), args := #[Operand.tmp 97], argTypes := #[27] }, type := 38, pos := "exact.go:3201", after := #[{ on := 2, ground := Ground.data }, { on := 1, ground := Ground.chain }], guard := none }) rfl (fun K hK => ?_) AllReadyH.nil
      go_simp
      refine (Alm.to_any a1 cap1 l1 s1 e1 n1 _ (R1.out.below (grow_on B14.out (bel_alloc (ZA.out) _))) K1.out).mono ?_
      rintro r wb ⟨⟨AM, Acs, rfl, -, hk, -, hh⟩, hy⟩
      have ZB : Hid (Below w14.heap.size w14 wb) := grow_on (bel_alloc (ZA.out) _) hy
      have TB : Hid (RdG RdN wb (some ⟨TM, 0, none⟩) l0 ∧ Reads wb (some ⟨AM, 0, none⟩) l1) := ⟨TA.out.below stays_rn (grow_on (bel_alloc (Below.refl _ _) _) hy), held_reads hk hh⟩
      have NBB : Hid (Blk wb wa.heap.size #[.int .i64 0, .int .i64 0, .slice none 0 0] 32) := (Blk.new wa _ _).grow hy
      clear hk hh hy
      clear hHeld
      refine hK.out _ _ (HS.out _ (P0_14.out.grow (ZB.out)) (P1_14.out.grow (ZB.out))) (fun hHeld => ?_)
      clear hK K
      try simp only [Act.put, List.setIfInBounds_toArray, List.set_cons_zero, List.set_cons_succ]
      refine wpAnyH_ready (rs := [4]) (by kernel_rfl) (by simp) ?_
      refine AllReadyH.cons (o := { dst := some 99, op := Op.call { callee := Callee.value (Operand.func 9), args := #[Operand.tmp 96, Operand.tmp 98], argTypes := #[32, 38] }, type := 33, pos := "exact.go:3201", after := #[{ on := 1, ground := Ground.data }, { on := 3, ground := Ground.data }, { on := 3, ground := Ground.chain }], guard := none }) rfl (fun K hK => ?_) AllReadyH.nil
      go_simp
      refine (PrtZ.implPut_any hd0 vr0 _ _ l0 AM 0 _ (⟨l1, s1, e1, n1⟩ : PAl) _ (TB.out.1.rd.below stays_rd (Below.refl _ _)) (TB.out.2.below (Below.refl _ _)) K0.out.1 N0.out K0.out.2.2 K1.out G1.out.fits).mono ?_
      rintro r wc ⟨⟨OM, Oc, Oz, rfl, hA, hP⟩, hy⟩
      rw [HVU.out.1, HVU.out.2]
      have ZC : Hid (Below w14.heap.size w14 wc) := grow_on (ZB.out) hy
      have OA : Hid (CB w14.heap.size wc OM Oc Oz ∧ chs Oz = putC l0 (⟨l1, s1, e1, n1⟩ : PAl)) := ⟨hA.down (ZB.out).size, hP⟩
      have NBC : Hid (Blk wc wa.heap.size #[.int .i64 0, .int .i64 0, .slice none 0 0] 32) := NBB.out.grow hy
      clear hA hP hy
      try dsimp only
      clear hHeld
      refine hK.out _ _ (HS.out _ (P0_14.out.grow (ZC.out)) (P1_14.out.grow (ZC.out))) (fun hHeld => ?_)
      clear hK K
      try simp only [Act.put, List.setIfInBounds_toArray, List.set_cons_zero, List.set_cons_succ]
      refine wpAnyH_take (i := 5) (oi := { dst := some 94, op := Op.move (Operand.tmp 99), type := 33, pos := "exact.go:3201", after := #[{ on := 4, ground := Ground.data }], guard := none }) (v := ?vV22) rfl (by kernel_rfl) (by kernel_rfl) (by kernel_rfl) (fun _ _ _ h => h) (Or.inl ⟨by rfl, ?hyV22⟩) hHeld ?_
      case hyV22 => (intro w hSw; (try dsimp only at hSw); go_simp <;> with_reducible rfl)
      try simp only [Act.put, List.setIfInBounds_toArray, List.set_cons_zero, List.set_cons_succ]
      refine wpAnyH_take (i := 6) (oi := { dst := some 100, op := Op.extract (Operand.tmp 94) 0, type := 32, pos := "exact.go:3201", after := #[{ on := 5, ground := Ground.data }], guard := none }) (v := ?vV23) rfl (by kernel_rfl) (by kernel_rfl) (by kernel_rfl) (fun _ _ _ h => h) (Or.inl ⟨by rfl, ?hyV23⟩) hHeld ?_
      case hyV23 => (intro w hSw; (try dsimp only at hSw); go_simp <;> with_reducible rfl)
      try simp only [Act.put, List.setIfInBounds_toArray, List.set_cons_zero, List.set_cons_succ]
      refine wpAnyH_take (i := 7) (oi := { dst := some 101, op := Op.extract (Operand.tmp 94) 1, type := 4, pos := "exact.go:3201", after := #[{ on := 5, ground := Ground.data }, { on := 9, ground := Ground.gcOnly Departure.lateStores }], guard := none }) (v := ?vV24) rfl (by kernel_rfl) (by kernel_rfl) (by kernel_rfl) (fun _ _ _ h => h) (Or.inl ⟨by rfl, ?hyV24⟩) hHeld ?_
      case hyV24 => (intro w hSw; (try dsimp only at hSw); go_simp <;> with_reducible rfl)
      try simp only [Act.put, List.setIfInBounds_toArray, List.set_cons_zero, List.set_cons_succ]
      refine wpAnyH_ready (rs := [9]) (by kernel_rfl) (by simp) ?_
      refine AllReadyH.cons (o := { dst := none, op := Op.store 32 (Operand.tmp 15) (Operand.tmp 100), type := 0, pos := "exact.go:3201", after := #[{ on := 8, ground := Ground.data }, { on := 6, ground := Ground.data }, { on := 4, ground := Ground.chain }, { on := 0, ground := Ground.phase }, { on := 1, ground := Ground.phase }, { on := 2, ground := Ground.phase }, { on := 3, ground := Ground.phase }, { on := 4, ground := Ground.phase }, { on := 5, ground := Ground.phase }, { on := 6, ground := Ground.phase }, { on := 7, ground := Ground.textOnly Departure.lateStores }, { on := 8, ground := Ground.phase }], guard := none }) rfl (fun K hK => ?_) AllReadyH.nil
      have n0 : wc.cell? ⟨wa.heap.size, 0, none⟩ = some (.int .i64 0) := NBC.out.cell 0
      have n1 : wc.cell? ⟨wa.heap.size, 1, none⟩ = some (.int .i64 0) := NBC.out.cell 1
      have n2 : wc.cell? ⟨wa.heap.size, 2, none⟩ = some (.slice none 0 0) := NBC.out.cell 2
      have m0 := NBC.out.frozen 0
      have m1 := NBC.out.frozen 1
      have m2 := NBC.out.frozen 2
      go_simp
      clear n0 n1 n2 m0 m1 m2 hHeld
      have hz : Below w14.heap.size w14 (((wc.setCell ⟨wa.heap.size, 0, none⟩ (.int .i64 hd0)).setCell ⟨wa.heap.size, 1, none⟩ (.int .i64 vu)).setCell ⟨wa.heap.size, 2, none⟩ (.slice (some ⟨OM, 0, none⟩) Oz.length Oc)) := set3 ZC.out (ZA.out.size) _ _ _
      refine hK.out _ _ (HS.out _ (P0_14.out.grow hz) (P1_14.out.grow hz)) (fun hHeld => ?_)
      clear hK K hz
      try simp only [Act.put, List.setIfInBounds_toArray, List.set_cons_zero, List.set_cons_succ]
      refine wpAnyH_take (i := 10) (oi := { dst := some 16, op := Op.assign (Operand.tmp 101), type := 4, pos := "exact.go:3201", after := #[{ on := 7, ground := Ground.data }, { on := 9, ground := Ground.chain }, { on := 0, ground := Ground.phase }, { on := 1, ground := Ground.phase }, { on := 2, ground := Ground.phase }, { on := 3, ground := Ground.phase }, { on := 4, ground := Ground.phase }, { on := 5, ground := Ground.phase }, { on := 6, ground := Ground.phase }, { on := 7, ground := Ground.phase }, { on := 8, ground := Ground.phase }, { on := 9, ground := Ground.phase }], guard := none }) (v := ?vV26) rfl (by kernel_rfl) (by kernel_rfl) (by kernel_rfl) (fun _ _ _ h => h) (Or.inl ⟨by rfl, ?hyV26⟩) hHeld ?_
      case hyV26 => (intro w hSw; (try dsimp only at hSw); go_simp <;> with_reducible rfl)
      try simp only [Act.put, List.setIfInBounds_toArray, List.set_cons_zero, List.set_cons_succ]
      refine wpAnyH_done (by kernel_rfl) ?_ _
      go_wp2_with fail
      go_meet
      exact ⟨_, OM, Oc, Oz, rfl, rfl, put3 NBC.out _ _ _, CB.set3 OA.out.1 NBC.out _ _ _, OA.out.2, ZA.out.size, set3 ZC.out (ZA.out.size) _ _ _⟩
    refine AllReadyH.cons (o := { dst := some 15, op := Op.alloc 32, type := 0, pos := "exact.go:3201", after := #[], guard := none }) rfl (fun K hK => ?_) AllReadyH.nil
    go_simp
    clear hHeld
    refine hK.out _ _ (HS.out _ (P0_14.out.grow (bel_alloc ((Below.refl w14.heap.size w14).drew) _)) (P1_14.out.grow (bel_alloc ((Below.refl w14.heap.size w14).drew) _))) (fun hHeld => ?_)
    clear hK K
    try simp only [Act.put, List.setIfInBounds_toArray, List.set_cons_zero, List.set_cons_succ]
    refine wpAnyH_ready (rs := [1]) (by kernel_rfl) (by simp) ?_
    refine AllReadyH.cons (o := { dst := some 96, op := Op.call { callee := Callee.value (Operand.func 7), args := #[Operand.tmp 95], argTypes := #[24] }, type := 32, pos := "exact.go:3201", after := #[{ on := 0, ground := Ground.data }], guard := none }) rfl (fun K hK => ?_) AllReadyH.nil
    go_simp
    refine (toPart_any hd0 vr0 a0 cap0 l0 _ (R0.out.below stays_rd (grow_on B14.out (bel_alloc ((Below.refl w14.heap.size w14).drew) _))) K0.out.1 K0.out.2.1).mono ?_
    rintro r wa ⟨⟨TM, Tr, rfl, hA, hP⟩, hy⟩
    have ZA : Hid (Below w14.heap.size w14 wa) := grow_on (bel_alloc ((Below.refl w14.heap.size w14).drew) _) hy
    have TA : Hid (RdG RdN wa (some ⟨TM, 0, none⟩) l0) := rnC hA hP
    have NBA : Hid (Blk wa w14.heap.size #[.int .i64 0, .int .i64 0, .slice none 0 0] 32) := (Blk.new w14.drew _ _).grow hy
    clear hA hP hy
    clear hHeld
    refine hK.out _ _ (HS.out _ (P0_14.out.grow (ZA.out)) (P1_14.out.grow (ZA.out))) (fun hHeld => ?_)
    clear hK K
    try simp only [Act.put, List.setIfInBounds_toArray, List.set_cons_zero, List.set_cons_succ]
    refine wpAnyH_ready (rs := [3]) (by kernel_rfl) (by simp) ?_
    refine AllReadyH.cons (o := { dst := some 98, op := Op.call { callee := Callee.value (Operand.func 8), args := #[Operand.tmp 97], argTypes := #[27] }, type := 38, pos := "exact.go:3201", after := #[{ on := 2, ground := Ground.data }, { on := 1, ground := Ground.chain }], guard := none }) rfl (fun K hK => ?_) AllReadyH.nil
    go_simp
    refine (Alm.to_any a1 cap1 l1 s1 e1 n1 _ (R1.out.below (grow_on B14.out (ZA.out))) K1.out).mono ?_
    rintro r wb ⟨⟨AM, Acs, rfl, -, hk, -, hh⟩, hy⟩
    have ZB : Hid (Below w14.heap.size w14 wb) := grow_on (ZA.out) hy
    have TB : Hid (RdG RdN wb (some ⟨TM, 0, none⟩) l0 ∧ Reads wb (some ⟨AM, 0, none⟩) l1) := ⟨TA.out.below stays_rn (grow_on (Below.refl _ _) hy), held_reads hk hh⟩
    have NBB : Hid (Blk wb w14.heap.size #[.int .i64 0, .int .i64 0, .slice none 0 0] 32) := NBA.out.grow hy
    clear hk hh hy
    clear hHeld
    refine hK.out _ _ (HS.out _ (P0_14.out.grow (ZB.out)) (P1_14.out.grow (ZB.out))) (fun hHeld => ?_)
    clear hK K
    try simp only [Act.put, List.setIfInBounds_toArray, List.set_cons_zero, List.set_cons_succ]
    refine wpAnyH_ready (rs := [4]) (by kernel_rfl) (by simp) ?_
    refine AllReadyH.cons (o := { dst := some 99, op := Op.call { callee := Callee.value (Operand.func 9), args := #[Operand.tmp 96, Operand.tmp 98], argTypes := #[32, 38] }, type := 33, pos := "exact.go:3201", after := #[{ on := 1, ground := Ground.data }, { on := 3, ground := Ground.data }, { on := 3, ground := Ground.chain }], guard := none }) rfl (fun K hK => ?_) AllReadyH.nil
    go_simp
    refine (PrtZ.implPut_any hd0 vr0 _ _ l0 AM 0 _ (⟨l1, s1, e1, n1⟩ : PAl) _ (TB.out.1.rd.below stays_rd (Below.refl _ _)) (TB.out.2.below (Below.refl _ _)) K0.out.1 N0.out K0.out.2.2 K1.out G1.out.fits).mono ?_
    rintro r wc ⟨⟨OM, Oc, Oz, rfl, hA, hP⟩, hy⟩
    rw [HVU.out.1, HVU.out.2]
    have ZC : Hid (Below w14.heap.size w14 wc) := grow_on (ZB.out) hy
    have OA : Hid (CB w14.heap.size wc OM Oc Oz ∧ chs Oz = putC l0 (⟨l1, s1, e1, n1⟩ : PAl)) := ⟨hA.down (ZB.out).size, hP⟩
    have NBC : Hid (Blk wc w14.heap.size #[.int .i64 0, .int .i64 0, .slice none 0 0] 32) := NBB.out.grow hy
    clear hA hP hy
    try dsimp only
    clear hHeld
    refine hK.out _ _ (HS.out _ (P0_14.out.grow (ZC.out)) (P1_14.out.grow (ZC.out))) (fun hHeld => ?_)
    clear hK K
    try simp only [Act.put, List.setIfInBounds_toArray, List.set_cons_zero, List.set_cons_succ]
    refine wpAnyH_take (i := 5) (oi := { dst := some 94, op := Op.move (Operand.tmp 99), type := 33, pos := "exact.go:3201", after := #[{ on := 4, ground := Ground.data }], guard := none }) (v := ?vV31) rfl (by kernel_rfl) (by kernel_rfl) (by kernel_rfl) (fun _ _ _ h => h) (Or.inl ⟨by rfl, ?hyV31⟩) hHeld ?_
    case hyV31 => (intro w hSw; (try dsimp only at hSw); go_simp <;> with_reducible rfl)
    try simp only [Act.put, List.setIfInBounds_toArray, List.set_cons_zero, List.set_cons_succ]
    refine wpAnyH_take (i := 6) (oi := { dst := some 100, op := Op.extract (Operand.tmp 94) 0, type := 32, pos := "exact.go:3201", after := #[{ on := 5, ground := Ground.data }], guard := none }) (v := ?vV32) rfl (by kernel_rfl) (by kernel_rfl) (by kernel_rfl) (fun _ _ _ h => h) (Or.inl ⟨by rfl, ?hyV32⟩) hHeld ?_
    case hyV32 => (intro w hSw; (try dsimp only at hSw); go_simp <;> with_reducible rfl)
    try simp only [Act.put, List.setIfInBounds_toArray, List.set_cons_zero, List.set_cons_succ]
    refine wpAnyH_take (i := 7) (oi := { dst := some 101, op := Op.extract (Operand.tmp 94) 1, type := 4, pos := "exact.go:3201", after := #[{ on := 5, ground := Ground.data }, { on := 9, ground := Ground.gcOnly Departure.lateStores }], guard := none }) (v := ?vV33) rfl (by kernel_rfl) (by kernel_rfl) (by kernel_rfl) (fun _ _ _ h => h) (Or.inl ⟨by rfl, ?hyV33⟩) hHeld ?_
    case hyV33 => (intro w hSw; (try dsimp only at hSw); go_simp <;> with_reducible rfl)
    try simp only [Act.put, List.setIfInBounds_toArray, List.set_cons_zero, List.set_cons_succ]
    refine wpAnyH_ready (rs := [9]) (by kernel_rfl) (by simp) ?_
    refine AllReadyH.cons (o := { dst := none, op := Op.store 32 (Operand.tmp 15) (Operand.tmp 100), type := 0, pos := "exact.go:3201", after := #[{ on := 8, ground := Ground.data }, { on := 6, ground := Ground.data }, { on := 4, ground := Ground.chain }, { on := 0, ground := Ground.phase }, { on := 1, ground := Ground.phase }, { on := 2, ground := Ground.phase }, { on := 3, ground := Ground.phase }, { on := 4, ground := Ground.phase }, { on := 5, ground := Ground.phase }, { on := 6, ground := Ground.phase }, { on := 7, ground := Ground.textOnly Departure.lateStores }, { on := 8, ground := Ground.phase }], guard := none }) rfl (fun K hK => ?_) AllReadyH.nil
    have n0 : wc.cell? ⟨w14.heap.size, 0, none⟩ = some (.int .i64 0) := NBC.out.cell 0
    have n1 : wc.cell? ⟨w14.heap.size, 1, none⟩ = some (.int .i64 0) := NBC.out.cell 1
    have n2 : wc.cell? ⟨w14.heap.size, 2, none⟩ = some (.slice none 0 0) := NBC.out.cell 2
    have m0 := NBC.out.frozen 0
    have m1 := NBC.out.frozen 1
    have m2 := NBC.out.frozen 2
    go_simp
    clear n0 n1 n2 m0 m1 m2 hHeld
    have hz : Below w14.heap.size w14 (((wc.setCell ⟨w14.heap.size, 0, none⟩ (.int .i64 hd0)).setCell ⟨w14.heap.size, 1, none⟩ (.int .i64 vu)).setCell ⟨w14.heap.size, 2, none⟩ (.slice (some ⟨OM, 0, none⟩) Oz.length Oc)) := set3 ZC.out (Nat.le_refl _) _ _ _
    refine hK.out _ _ (HS.out _ (P0_14.out.grow hz) (P1_14.out.grow hz)) (fun hHeld => ?_)
    clear hK K hz
    try simp only [Act.put, List.setIfInBounds_toArray, List.set_cons_zero, List.set_cons_succ]
    refine wpAnyH_take (i := 10) (oi := { dst := some 16, op := Op.assign (Operand.tmp 101), type := 4, pos := "exact.go:3201", after := #[{ on := 7, ground := Ground.data }, { on := 9, ground := Ground.chain }, { on := 0, ground := Ground.phase }, { on := 1, ground := Ground.phase }, { on := 2, ground := Ground.phase }, { on := 3, ground := Ground.phase }, { on := 4, ground := Ground.phase }, { on := 5, ground := Ground.phase }, { on := 6, ground := Ground.phase }, { on := 7, ground := Ground.phase }, { on := 8, ground := Ground.phase }, { on := 9, ground := Ground.phase }], guard := none }) (v := ?vV35) rfl (by kernel_rfl) (by kernel_rfl) (by kernel_rfl) (fun _ _ _ h => h) (Or.inl ⟨by rfl, ?hyV35⟩) hHeld ?_
    case hyV35 => (intro w hSw; (try dsimp only at hSw); go_simp <;> with_reducible rfl)
    try simp only [Act.put, List.setIfInBounds_toArray, List.set_cons_zero, List.set_cons_succ]
    refine wpAnyH_done (by kernel_rfl) ?_ _
    go_wp2_with fail
    go_meet
    exact ⟨_, OM, Oc, Oz, rfl, rfl, put3 NBC.out _ _ _, CB.set3 OA.out.1 NBC.out _ _ _, OA.out.2, Nat.le_refl _, set3 ZC.out (Nat.le_refl _) _ _ _⟩
  case rest =>
  obtain ⟨VN, VM, Vc, Vr, rfl, rfl, hW1, hA, hP, hN, hb⟩ := hcut
  obtain ⟨w15, hwc⟩ : ∃ x, x = wc := ⟨_, rfl⟩
  subst hwc
  have V0_15 : Hid (Blk w15 VN #[.int .i64 hd0, .int .i64 vu, .slice (some ⟨VM, 0, none⟩) Vr.length Vc] 32) := hW1
  have V_15 : Hid (CB w14.heap.size w15 VM Vc Vr) := hA
  have VP : Hid (chs Vr = putC l0 (⟨l1, s1, e1, n1⟩ : PAl)) := hP
  have VR : Hid (∀ k, blksC VM Vr k → w14.heap.size ≤ k ∧ k < w15.heap.size) := rngC hA
  have U_V : Hid (w14.heap.size ≤ VN ∧ VN < w15.heap.size) := ⟨hN, hW1.lt⟩
  have B15 : Hid (Below w.heap.size w w15) := grow_on B14.out hb
  have Z15 : Hid (w14.heap.size ≤ w15.heap.size) := hb.size
  have P0_15 : Hid (Blk w15 w.heap.size #[.int .i64 hd0, .int .i64 vr0, .slice a0 l0.length cap0] 24) := P0_14.out.grow hb
  have P1_15 : Hid (Blk w15 (w.heap.size + 1) #[.slice a1 l1.length cap1, .int .i64 s1, .int .i64 e1, .string n1] 27) := P1_14.out.grow hb
  have W0_15 : Hid (Blk w15 WN #[.int .i64 hd0, .int .i64 vu, .slice (some ⟨WM, 0, none⟩) Wr.length Wc] 32) := W0_14.out.grow hb
  have W_15 : Hid (CB w2.heap.size w15 WM Wc Wr) := W_14.out.grow hb
  have G0_15 : Hid (Blk w15 w6.heap.size #[.int .i64 hd0, .int .i64 vu, .slice (some ⟨GM, 0, none⟩) Gr.length Gc] 32) := G0_14.out.grow hb
  have H_15 : Hid (MC w15 GM Gr 1 Gr.length) := H_14.out.grow hb
  clear hb HS hW1 hA hP hN
  have cP00 : w15.cell? ⟨w.heap.size, 0, none⟩ = some (.int .i64 hd0) := (P0_15.out).cell 0
  have cP01 : w15.cell? ⟨w.heap.size, 1, none⟩ = some (.int .i64 vr0) := (P0_15.out).cell 1
  have cP02 : w15.cell? ⟨w.heap.size, 2, none⟩ = some (.slice a0 l0.length cap0) := (P0_15.out).cell 2
  have cP10 : w15.cell? ⟨(w.heap.size + 1), 0, none⟩ = some (.slice a1 l1.length cap1) := (P1_15.out).cell 0
  have cP11 : w15.cell? ⟨(w.heap.size + 1), 1, none⟩ = some (.int .i64 s1) := (P1_15.out).cell 1
  have cP12 : w15.cell? ⟨(w.heap.size + 1), 2, none⟩ = some (.int .i64 e1) := (P1_15.out).cell 2
  have cP13 : w15.cell? ⟨(w.heap.size + 1), 3, none⟩ = some (.string n1) := (P1_15.out).cell 3
  have cW00 : w15.cell? ⟨WN, 0, none⟩ = some (.int .i64 hd0) := (W0_15.out).cell 0
  have cW01 : w15.cell? ⟨WN, 1, none⟩ = some (.int .i64 vu) := (W0_15.out).cell 1
  have cW02 : w15.cell? ⟨WN, 2, none⟩ = some (.slice (some ⟨WM, 0, none⟩) Wr.length Wc) := (W0_15.out).cell 2
  have cG00 : w15.cell? ⟨w6.heap.size, 0, none⟩ = some (.int .i64 hd0) := (G0_15.out).cell 0
  have cG01 : w15.cell? ⟨w6.heap.size, 1, none⟩ = some (.int .i64 vu) := (G0_15.out).cell 1
  have cG02 : w15.cell? ⟨w6.heap.size, 2, none⟩ = some (.slice (some ⟨GM, 0, none⟩) Gr.length Gc) := (G0_15.out).cell 2
  have cV00 : w15.cell? ⟨VN, 0, none⟩ = some (.int .i64 hd0) := (V0_15.out).cell 0
  have cV01 : w15.cell? ⟨VN, 1, none⟩ = some (.int .i64 vu) := (V0_15.out).cell 1
  have cV02 : w15.cell? ⟨VN, 2, none⟩ = some (.slice (some ⟨VM, 0, none⟩) Vr.length Vc) := (V0_15.out).cell 2
  go_wp2_with fail
  refine (eqPC_any hd0 vu _ _ _ _ _ _ _ _ Vr Wr _ _ (V_15.out) (W_15.out) VP.out WP.out PL.out.1 PL.out.2).mono ?_
  rintro e w16 ⟨rfl, hb⟩
  have B16 : Hid (Below w.heap.size w w16) := grow_on B15.out hb
  have Z16 : Hid (w15.heap.size ≤ w16.heap.size) := hb.size
  have P0_16 : Hid (Blk w16 w.heap.size #[.int .i64 hd0, .int .i64 vr0, .slice a0 l0.length cap0] 24) := P0_15.out.grow hb
  have P1_16 : Hid (Blk w16 (w.heap.size + 1) #[.slice a1 l1.length cap1, .int .i64 s1, .int .i64 e1, .string n1] 27) := P1_15.out.grow hb
  have W0_16 : Hid (Blk w16 WN #[.int .i64 hd0, .int .i64 vu, .slice (some ⟨WM, 0, none⟩) Wr.length Wc] 32) := W0_15.out.grow hb
  have W_16 : Hid (CB w2.heap.size w16 WM Wc Wr) := W_15.out.grow hb
  have G0_16 : Hid (Blk w16 w6.heap.size #[.int .i64 hd0, .int .i64 vu, .slice (some ⟨GM, 0, none⟩) Gr.length Gc] 32) := G0_15.out.grow hb
  have H_16 : Hid (MC w16 GM Gr 1 Gr.length) := H_15.out.grow hb
  have V0_16 : Hid (Blk w16 VN #[.int .i64 hd0, .int .i64 vu, .slice (some ⟨VM, 0, none⟩) Vr.length Vc] 32) := V0_15.out.grow hb
  have V_16 : Hid (CB w14.heap.size w16 VM Vc Vr) := V_15.out.grow hb
  clear hb cP00 cP01 cP02 cP10 cP11 cP12 cP13 cW00 cW01 cW02 cG00 cG01 cG02 cV00 cV01 cV02
  have hH1 : Hid (Calls Try.prog 14 #[.agg #[.int .i64 hd0, .int .i64 vu, .slice (some ⟨GM, 0, none⟩) Gr.length Gc], .int .i64 1] w16 fun e w' => e = .returned (.int .i64 (z1 : Int)) ∧ Below w16.heap.size w16 w') := (PrtM.heldPart_any hd0 vu GM 1 Gc Gr w16 H_16.out GL.out GS.out.2 (by omega) (by have := GS.out.1; omega)).mono (fun e w' h => ⟨h.1.trans (Mark.retI (by have := HZ1.out; omega)), h.2⟩)
  have hq1 : ¬ (z1 : Int) < 0 := by omega
  have cP00 : w16.cell? ⟨w.heap.size, 0, none⟩ = some (.int .i64 hd0) := (P0_16.out).cell 0
  have cP01 : w16.cell? ⟨w.heap.size, 1, none⟩ = some (.int .i64 vr0) := (P0_16.out).cell 1
  have cP02 : w16.cell? ⟨w.heap.size, 2, none⟩ = some (.slice a0 l0.length cap0) := (P0_16.out).cell 2
  have cP10 : w16.cell? ⟨(w.heap.size + 1), 0, none⟩ = some (.slice a1 l1.length cap1) := (P1_16.out).cell 0
  have cP11 : w16.cell? ⟨(w.heap.size + 1), 1, none⟩ = some (.int .i64 s1) := (P1_16.out).cell 1
  have cP12 : w16.cell? ⟨(w.heap.size + 1), 2, none⟩ = some (.int .i64 e1) := (P1_16.out).cell 2
  have cP13 : w16.cell? ⟨(w.heap.size + 1), 3, none⟩ = some (.string n1) := (P1_16.out).cell 3
  have cW00 : w16.cell? ⟨WN, 0, none⟩ = some (.int .i64 hd0) := (W0_16.out).cell 0
  have cW01 : w16.cell? ⟨WN, 1, none⟩ = some (.int .i64 vu) := (W0_16.out).cell 1
  have cW02 : w16.cell? ⟨WN, 2, none⟩ = some (.slice (some ⟨WM, 0, none⟩) Wr.length Wc) := (W0_16.out).cell 2
  have cG00 : w16.cell? ⟨w6.heap.size, 0, none⟩ = some (.int .i64 hd0) := (G0_16.out).cell 0
  have cG01 : w16.cell? ⟨w6.heap.size, 1, none⟩ = some (.int .i64 vu) := (G0_16.out).cell 1
  have cG02 : w16.cell? ⟨w6.heap.size, 2, none⟩ = some (.slice (some ⟨GM, 0, none⟩) Gr.length Gc) := (G0_16.out).cell 2
  have cV00 : w16.cell? ⟨VN, 0, none⟩ = some (.int .i64 hd0) := (V0_16.out).cell 0
  have cV01 : w16.cell? ⟨VN, 1, none⟩ = some (.int .i64 vu) := (V0_16.out).cell 1
  have cV02 : w16.cell? ⟨VN, 2, none⟩ = some (.slice (some ⟨VM, 0, none⟩) Vr.length Vc) := (V0_16.out).cell 2
  go_wp2_with fail
  refine (hH1.out).mono ?_
  rintro e w17 ⟨rfl, hb⟩
  have B17 : Hid (Below w.heap.size w w17) := grow_on B16.out hb
  have Z17 : Hid (w16.heap.size ≤ w17.heap.size) := hb.size
  have P0_17 : Hid (Blk w17 w.heap.size #[.int .i64 hd0, .int .i64 vr0, .slice a0 l0.length cap0] 24) := P0_16.out.grow hb
  have P1_17 : Hid (Blk w17 (w.heap.size + 1) #[.slice a1 l1.length cap1, .int .i64 s1, .int .i64 e1, .string n1] 27) := P1_16.out.grow hb
  have W0_17 : Hid (Blk w17 WN #[.int .i64 hd0, .int .i64 vu, .slice (some ⟨WM, 0, none⟩) Wr.length Wc] 32) := W0_16.out.grow hb
  have W_17 : Hid (CB w2.heap.size w17 WM Wc Wr) := W_16.out.grow hb
  have G0_17 : Hid (Blk w17 w6.heap.size #[.int .i64 hd0, .int .i64 vu, .slice (some ⟨GM, 0, none⟩) Gr.length Gc] 32) := G0_16.out.grow hb
  have H_17 : Hid (MC w17 GM Gr 1 Gr.length) := H_16.out.grow hb
  have V0_17 : Hid (Blk w17 VN #[.int .i64 hd0, .int .i64 vu, .slice (some ⟨VM, 0, none⟩) Vr.length Vc] 32) := V0_16.out.grow hb
  have V_17 : Hid (CB w14.heap.size w17 VM Vc Vr) := V_16.out.grow hb
  clear hb cP00 cP01 cP02 cP10 cP11 cP12 cP13 cW00 cW01 cW02 cG00 cG01 cG02 cV00 cV01 cV02 hH1
  have cP00 : w17.cell? ⟨w.heap.size, 0, none⟩ = some (.int .i64 hd0) := (P0_17.out).cell 0
  have cP01 : w17.cell? ⟨w.heap.size, 1, none⟩ = some (.int .i64 vr0) := (P0_17.out).cell 1
  have cP02 : w17.cell? ⟨w.heap.size, 2, none⟩ = some (.slice a0 l0.length cap0) := (P0_17.out).cell 2
  have cP10 : w17.cell? ⟨(w.heap.size + 1), 0, none⟩ = some (.slice a1 l1.length cap1) := (P1_17.out).cell 0
  have cP11 : w17.cell? ⟨(w.heap.size + 1), 1, none⟩ = some (.int .i64 s1) := (P1_17.out).cell 1
  have cP12 : w17.cell? ⟨(w.heap.size + 1), 2, none⟩ = some (.int .i64 e1) := (P1_17.out).cell 2
  have cP13 : w17.cell? ⟨(w.heap.size + 1), 3, none⟩ = some (.string n1) := (P1_17.out).cell 3
  have cW00 : w17.cell? ⟨WN, 0, none⟩ = some (.int .i64 hd0) := (W0_17.out).cell 0
  have cW01 : w17.cell? ⟨WN, 1, none⟩ = some (.int .i64 vu) := (W0_17.out).cell 1
  have cW02 : w17.cell? ⟨WN, 2, none⟩ = some (.slice (some ⟨WM, 0, none⟩) Wr.length Wc) := (W0_17.out).cell 2
  have cG00 : w17.cell? ⟨w6.heap.size, 0, none⟩ = some (.int .i64 hd0) := (G0_17.out).cell 0
  have cG01 : w17.cell? ⟨w6.heap.size, 1, none⟩ = some (.int .i64 vu) := (G0_17.out).cell 1
  have cG02 : w17.cell? ⟨w6.heap.size, 2, none⟩ = some (.slice (some ⟨GM, 0, none⟩) Gr.length Gc) := (G0_17.out).cell 2
  have cV00 : w17.cell? ⟨VN, 0, none⟩ = some (.int .i64 hd0) := (V0_17.out).cell 0
  have cV01 : w17.cell? ⟨VN, 1, none⟩ = some (.int .i64 vu) := (V0_17.out).cell 1
  have cV02 : w17.cell? ⟨VN, 2, none⟩ = some (.slice (some ⟨VM, 0, none⟩) Vr.length Vc) := (V0_17.out).cell 2
  go_wp2
  go_ret
  exact ⟨rfl, B17.out⟩
theorem own : ownKnob Try.prog.godebug = none := by kernel_rfl
theorem laidOut : laidOutB Try.prog = true := by kernel_rfl
set_option maxRecDepth 100000 in
theorem lifted (os : Os) (started : os.Started) (H : Type) (enc : TypeId × Value → H) :
    ReturnsInHanded {} Try.checked os 3 .any (Rows.fnExactPutInSpec.pre6 enc Try.prog Try.f3 Rows.fnExactPutInRow.domain false) (Rows.fnExactPutInSpec.post enc Try.prog Try.f3 false true false false) := by
  refine returnsInHanded_of_change (C := Try.checked) own started (by kernel_rfl) Try.func3
    (ChangeSpec.witness6 (enc := enc) (C := Try.checked) false ⟨#[], #[.agg #[.int .i64 0, .int .i64 0, .slice none 0 0], .agg #[.slice none 0 0, .int .i64 0, .int .i64 0, .string ⟨#[]⟩]], []⟩ 8 (by kernel_rfl) (by kernel_rfl) (by kernel_rfl) (by kernel_rfl)) ?_
  intro W base args ds gs before hval0 hW hcnd _
  have hval : ∀ (j : Nat) t v, Try.f3.params[j]? = some t → args[j]? = some v → Value.okWide Try.prog W .any base t v := hval0
  have hW' := hW
  obtain ⟨p, q, hA0, hV, rfl, hfz, hnd⟩ := hW
  have hA : DataW.TrodAll enc Try.prog W 0 (fun _ => true) true Try.f3.params.toList args.toList ds p := hA0
  rw [Try.params3] at hA hval
  obtain ⟨v0, vs0, d0, ds0, p0, q0, hargs, rfl, rfl, h0, r0⟩ := trodAll_cons hA
  obtain ⟨v1, vs1, d1, ds1, p1, q1, rfl, rfl, rfl, h1, r1⟩ := trodAll_cons r0
  obtain ⟨rfl, rfl, rfl⟩ := trodAll_nil r1
  obtain rfl : args = #[v0, v1] := by cases args; simp_all
  obtain ⟨rfl, rfl⟩ := trodVars_none hV
  have k0 := h0
  have lt0 : ∀ x ∈ p0, x.block < W.heap.size := by obtain ⟨m, hm⟩ := k0; exact DataW.trod_lt m _ _ _ hm
  obtain ⟨hd0, vr0, a0, cap0, l0, rfl, w0, m0, z0, y0, x0⟩ := Go.Proofs.Ytooninmicfcfoaa.Prt.open_part (hval 0 24 v0 rfl rfl) h0
  have k1 := h1
  have lt1 : ∀ x ∈ p1, x.block < W.heap.size := by obtain ⟨m, hm⟩ := k1; exact DataW.trod_lt m _ _ _ hm
  obtain ⟨a1, cap1, l1, s1, e1, n1, rfl, w1⟩ := Go.Proofs.Ytooninmicfcfoaa.Alm.open_alarm (hval 1 27 v1 rfl rfl) h1
  clear hA0 hval0
  refine (walk hd0 vr0 a0 cap0 l0 a1 cap1 l1 s1 e1 n1 W w0 m0 z0 y0 x0 w1).mono fun e W' ⟨he, bel⟩ => ?_
  subst he
  exact ⟨_, rfl, _, _, _, [], _, [], hW', trodAll_mk1 (shut_bool Try.underlying4 _), (trodAll_cons_mk (Below.trod laidOut (by kernel_rfl) (of_decide_eq_true (by kernel_rfl)) k0 bel lt0) (trodAll_cons_mk (Below.trod laidOut (by kernel_rfl) (of_decide_eq_true (by kernel_rfl)) k1 bel lt1) trodAll_mk0)), rfl, bel.frame _, fun h => by cases h⟩

theorem over : Rows.fnExactPutInRow.holds Try.pinned (OpenSpec.ofChange Rows.fnExactPutInSpec) :=
  OpenClaim.holds_of_wide 3 Try.f3 rfl rfl rfl rfl rfl rfl rfl ⟨rfl, rfl, rfl, rfl, rfl⟩ rfl rfl rfl rfl rfl (by kernel_rfl) Try.func3 (by kernel_rfl)
    (of_decide_eq_true (by kernel_rfl)) (by unfold Func.isWrapper; first | (rw [if_pos (by decide +kernel)]; kernel_rfl) | (rw [if_neg (by decide +kernel)]; exact ⟨rfl, rfl⟩))
    (fun os started H enc _ => lifted os started H enc)

end Go.Proofs.Ytooninmicfcfoaa.FnExactPutIn
namespace Go.Proofs.Ytooninmicfcfoaa
theorem fnExactPutIn_holds : Rows.FnExactPutInSaid := FnExactPutIn.over
#print axioms fnExactPutIn_holds
end Go.Proofs.Ytooninmicfcfoaa
