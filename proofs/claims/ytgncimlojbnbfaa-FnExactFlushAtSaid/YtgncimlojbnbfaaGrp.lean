/-
  PROVED: the contracts of what the exact laws call over a group and over a batch: the size that is counted, the copy that is made, that two of the same are found alike, the marks that are written and found; what one that came in is.
-/
import Derived.Test.YtgncimlojbnbfaaLsO
import Derived.Test.YtgncimlojbnbfaaLsS
import Derived.Test.YtgncimlojbnbfaaOpn
import Derived.Deep.DeepCutAuto
namespace Go.Proofs.Ytgncimlojbnbfaa.Grp
open Go.RowKit
open Go.ChangeShapes Go.WideShapes
open Go.Proofs.Ytgncimlojbnbfaa.Labs Go.Proofs.Ytgncimlojbnbfaa.LabS Go.Proofs.Ytgncimlojbnbfaa.Alms Go.Proofs.Ytgncimlojbnbfaa.AlmS Go.Proofs.Ytgncimlojbnbfaa.AlmM Go.Proofs.Ytgncimlojbnbfaa.Over Go.Proofs.Ytgncimlojbnbfaa.Blk Go.Proofs.Ytgncimlojbnbfaa.App Go.Proofs.Ytgncimlojbnbfaa.Rws Go.Proofs.Ytgncimlojbnbfaa.ChnI Go.Proofs.Ytgncimlojbnbfaa.ChnC Go.Proofs.Ytgncimlojbnbfaa.ChnK Go.Proofs.Ytgncimlojbnbfaa.Chs
open Go.Proofs.Ytgncimlojbnbfaa.StrB (retB)
open Go.Proofs.Ytgncimlojbnbfaa.LabT (Held held_reads Fits)
open Go.Proofs.Ytgncimlojbnbfaa.Mark (Apart Marked)
set_option linter.unusedVariables false
/-- labels in a block of the call's own -/
def OwnL (lo : Nat) (w : World) (K : Nat) (key : List Lab) : Prop := lo ≤ K ∧ ∃ cs : Array Value, Blk w K cs 73 ∧ key.length * 2 ≤ cs.size ∧ Held cs key key.length
theorem OwnL.grow {lo : Nat} {w w' : World} {K : Nat} {key : List Lab} (h : OwnL lo w K key) (hb : Below w.heap.size w w') : OwnL lo w' K key := by
  obtain ⟨h0, cs, h1, h2⟩ := h
  exact ⟨h0, cs, h1.grow hb, h2⟩
theorem OwnL.down {lo lo' : Nat} {w : World} {K : Nat} {key : List Lab} (h : OwnL lo w K key) (hl : lo' ≤ lo) : OwnL lo' w K key := ⟨Nat.le_trans hl h.1, h.2⟩
theorem OwnL.lt {lo : Nat} {w : World} {K : Nat} {key : List Lab} (h : OwnL lo w K key) : K < w.heap.size := by obtain ⟨h0, cs, h1, h2⟩ := h; exact h1.lt
theorem OwnL.rd {lo : Nat} {w : World} {K : Nat} {key : List Lab} (h : OwnL lo w K key) : Reads w (some ⟨K, 0, none⟩) key := by obtain ⟨h0, cs, h1, h2, h3⟩ := h; exact held_reads h1 h3
theorem OwnL.set {lo : Nat} {w : World} {K : Nat} {key : List Lab} (h : OwnL lo w K key) {R : Nat} (hR : R ≠ K) (i : Nat) (v : Value) : OwnL lo (w.setCell ⟨R, i, none⟩ v) K key := by
  obtain ⟨h0, cs, h1, h2⟩ := h
  exact ⟨h0, cs, h1.set_other hR _, h2⟩
theorem OwnL.only {S : Nat → Prop} {lo : Nat} {w w' : World} {K : Nat} {key : List Lab} (h : OwnL lo w K key) (ho : Only S w w') (hn : ¬ S K) : OwnL lo w' K key := by
  obtain ⟨h0, cs, h1, h2⟩ := h
  exact ⟨h0, cs, ho.blk h1 hn, h2⟩
/-- the marks in a block of labels -/
def LM (w : World) (K n k : Nat) : Prop := ∃ cs : Array Value, Blk w K cs 73 ∧ Marked cs k n
theorem LM.grow {w w' : World} {K n k : Nat} (h : LM w K n k) (hb : Below w.heap.size w w') : LM w' K n k := by
  obtain ⟨cs, h1, h2⟩ := h
  exact ⟨cs, h1.grow hb, h2⟩
theorem LM.only {S : Nat → Prop} {w w' : World} {K n k : Nat} (h : LM w K n k) (ho : Only S w w') (hn : ¬ S K) : LM w' K n k := by
  obtain ⟨cs, h1, h2⟩ := h
  exact ⟨cs, ho.blk h1 hn, h2⟩
/-- the blocks of a key and a row -/
def gblks (K M : Nat) (rs : List ARow) (k : Nat) : Prop := k = K ∨ blks M rs k
/-- a key and a row of the call's own -/
structure GB (lo : Nat) (w : World) (K : Nat) (key : List Lab) (M o : Nat) (rs : List ARow) : Prop where
  key : OwnL lo w K key
  row : AO lo w M o rs
  ne : ¬ blks M rs K
theorem GB.grow {lo : Nat} {w w' : World} {K M o : Nat} {key : List Lab} {rs : List ARow} (h : GB lo w K key M o rs) (hb : Below w.heap.size w w') : GB lo w' K key M o rs := ⟨h.key.grow hb, h.row.grow hb, h.ne⟩
theorem GB.down {lo lo' : Nat} {w : World} {K M o : Nat} {key : List Lab} {rs : List ARow} (h : GB lo w K key M o rs) (hl : lo' ≤ lo) : GB lo' w K key M o rs := ⟨h.key.down hl, h.row.down hl, h.ne⟩
theorem GB.only {S : Nat → Prop} {lo : Nat} {w w' : World} {K M o : Nat} {key : List Lab} {rs : List ARow} (h : GB lo w K key M o rs) (ho : Only S w w') (hn : ∀ k, gblks K M rs k → ¬ S k) : GB lo w' K key M o rs := ⟨h.key.only ho (hn K (.inl rfl)), ao_only h.row ho fun k hk => hn k (.inr hk), h.ne⟩
theorem GB.rng {lo : Nat} {w : World} {K M o : Nat} {key : List Lab} {rs : List ARow} (h : GB lo w K key M o rs) : ∀ k, gblks K M rs k → lo ≤ k ∧ k < w.heap.size := fun k hk => by
  rcases hk with rfl | hk
  · exact ⟨h.key.1, h.key.lt⟩
  · exact ⟨aoblks_low h.row k hk, aoblks_high h.row k hk⟩
theorem GB.len {lo : Nat} {w : World} {K M o : Nat} {key : List Lab} {rs : List ARow} (h : GB lo w K key M o rs) : ∀ x ∈ rs, x.2.2.l.length ≤ 1048576 := fun x hx => (h.row.rows x hx).2.1
/-- a key that was laid ahead of a row is none of its blocks -/
theorem gb_of {lo lo' : Nat} {w : World} {K M o : Nat} {key : List Lab} {rs : List ARow} (h : OwnL lo w K key) (k : AO lo' w M o rs) (hK : K < lo') (hl : lo ≤ lo') : GB lo w K key M o rs := ⟨h, k.down hl, fun hb => by have := aoblks_low k K hb; omega⟩
/-- both marked -/
structure GM (w : World) (K n : Nat) (M o : Nat) (rs : List ARow) (k : Nat) : Prop where
  key : LM w K n k
  row : MO w M o rs (k + 2 * n) rs.length
theorem GM.grow {w w' : World} {K n M o : Nat} {rs : List ARow} {k : Nat} (h : GM w K n M o rs k) (hb : Below w.heap.size w w') : GM w' K n M o rs k := ⟨h.key.grow hb, h.row.grow hb⟩
theorem GM.only {S : Nat → Prop} {w w' : World} {K n M o : Nat} {rs : List ARow} {k : Nat} (h : GM w K n M o rs k) (ho : Only S w w') (hn : ∀ j, gblks K M rs j → ¬ S j) : GM w' K n M o rs k := ⟨h.key.only ho (hn K (.inl rfl)), h.row.only ho fun j hj => hn j (.inr hj)⟩

theorem toL_any (a : Option Addr) (cap : Nat) (l : List Lab) (w : World) (hr : Reads w a l) (hl : l.length ≤ 1048576) :
    Calls Try.prog 18 #[.slice a l.length cap] w fun e w' => (∃ K, e = .returned (.slice (some ⟨K, 0, none⟩) l.length l.length) ∧ OwnL w.heap.size w' K l) ∧ Below w.heap.size w w' :=
  (LabT.to_any a cap l w hr hl).mono fun e w' ⟨he, ⟨cs, h1, h2, h3⟩, hb⟩ => ⟨⟨_, he, Nat.le_refl _, cs, h1, by omega, h3⟩, hb⟩
theorem toA_any (a : Option Addr) (cap : Nat) (P : List PAl) (w : World) (hr : RdA w a P) (hl : P.length ≤ 1048576) (hs : sumL P ≤ 1048576) :
    Calls Try.prog 71 #[.slice a P.length cap] w fun e w' => (∃ M rs, e = .returned (.slice (some ⟨M, 0, none⟩) P.length P.length) ∧ AB w.heap.size w' M P.length rs ∧ pals rs = P) ∧ Below w.heap.size w w' :=
  (Alms.to_any a cap P w hr hl hs).mono fun e w' ⟨he, ⟨cs, g, hC⟩, hb⟩ => by
    obtain ⟨rs, h1, h2⟩ := copy_ab hC (Nat.le_refl _) hl (fun i hi => Nat.le_trans (sum_nth hi) hs)
    exact ⟨⟨_, rs, he, h1, h2⟩, hb⟩
set_option maxHeartbeats 400000 in
theorem szGroup_any (n b t : Int) (ka : Option Addr) (kc : Nat) (key : List Lab) (a : Option Addr) (cap : Nat) (P : List PAl) (left : Int) (w : World) (hk : Reads w ka key) (hkl : key.length ≤ maxLen) (hkz : Fits key) (hr : RdA w a P) (hl : P.length ≤ maxLen) (hz : FitsP P) (h0 : 0 ≤ left) (h1 : left ≤ 1048576) :
    Calls Try.prog 37 #[.agg #[.int .i64 n, .slice ka key.length kc, .int .i64 b, .int .i64 t, .slice a P.length cap], .int .i64 left] w fun e w' => (∃ m : Int, e = .returned (.int .i64 m) ∧ m ≤ left ∧ (0 ≤ m → m + (key.length : Int) + (P.length : Int) + (sumL P : Int) ≤ left)) ∧ Below w.heap.size w w' := by
  have HR : Hid (RdA w a P ∧ P.length ≤ maxLen ∧ FitsP P) := ⟨hr, hl, hz⟩
  have HK : Hid (Reads w ka key ∧ key.length ≤ maxLen ∧ Fits key) := ⟨hk, hkl, hkz⟩
  have HP : Hid (Blk (w.alloc (.cells #[.int .i64 n, .slice ka key.length kc, .int .i64 b, .int .i64 t, .slice a P.length cap] 64)) w.heap.size #[.int .i64 n, .slice ka key.length kc, .int .i64 b, .int .i64 t, .slice a P.length cap] 64) := Blk.new _ _ _
  clear hr hl hz hk hkl hkz
  go_enter Try.func37, Try.ntmps37
  go_wp2_with fail
  refine (LabT.sz_any ka kc key left _ (HK.out.1.below (Go.Joins.below_alloc1 w _)) HK.out.2.1 HK.out.2.2 h0 h1).mono ?_
  rintro r w1 ⟨⟨m, rfl, hm, hm2⟩, hb⟩
  have HB : Hid (Below w.heap.size w w1) := grow_on (Go.Joins.below_alloc1 w _) hb
  have p1 : w1.cell? ⟨w.heap.size, 4, none⟩ = some (.slice a P.length cap) := (HP.out.grow hb).cell 4
  have HN : Hid (0 ≤ m → m + (key.length : Int) ≤ left) := hm2
  clear hb hm2
  by_cases g : m < 0
  · go_wp2
    go_ret
    exact ⟨⟨-1, rfl, by omega, fun h => by omega⟩, HB.out⟩
  · go_wp2_with fail
    refine (Alms.sz_any a cap P m _ (HR.out.1.below HB.out) HR.out.2.1 HR.out.2.2 (by omega) (by omega)).mono ?_
    rintro r w2 ⟨⟨q, rfl, hq, hq2⟩, hb⟩
    have HB2 : Hid (Below w.heap.size w w2) := grow_on HB.out hb
    have HN2 : Hid (0 ≤ q → q + (P.length : Int) + (sumL P : Int) ≤ m) := hq2
    clear hb hq2
    by_cases g2 : q < 0
    · go_wp2
      go_ret
      exact ⟨⟨-1, rfl, by omega, fun h => by omega⟩, HB2.out⟩
    · go_wp2
      go_ret
      exact ⟨⟨q, rfl, by omega, fun h => by have h1 := HN.out (by omega); have h2 := HN2.out h; omega⟩, HB2.out⟩
set_option maxHeartbeats 400000 in
theorem eqGroup_any (n b t : Int) (ka ka' : Option Addr) (kc kc' : Nat) (key : List Lab) (a a' : Option Addr) (cap cap' : Nat) (P : List PAl) (w : World) (hk : Reads w ka key) (hk' : Reads w ka' key) (hkl : key.length ≤ maxLen) (hr : RdA w a P) (hr' : RdA w a' P) (hl : P.length ≤ maxLen) (hz : FitsP P) :
    Calls Try.prog 42 #[.agg #[.int .i64 n, .slice ka key.length kc, .int .i64 b, .int .i64 t, .slice a P.length cap], .agg #[.int .i64 n, .slice ka' key.length kc', .int .i64 b, .int .i64 t, .slice a' P.length cap']] w fun e w' => e = .returned (.bool true) ∧ Below w.heap.size w w' := by
  have HR : Hid (RdA w a P ∧ RdA w a' P ∧ P.length ≤ maxLen ∧ FitsP P) := ⟨hr, hr', hl, hz⟩
  have HK : Hid (Reads w ka key ∧ Reads w ka' key ∧ key.length ≤ maxLen) := ⟨hk, hk', hkl⟩
  have HW : Hid (Blk ((w.alloc (.cells #[.int .i64 n, .slice ka key.length kc, .int .i64 b, .int .i64 t, .slice a P.length cap] 67)).alloc (.cells #[.int .i64 n, .slice ka' key.length kc', .int .i64 b, .int .i64 t, .slice a' P.length cap'] 67)) w.heap.size #[.int .i64 n, .slice ka key.length kc, .int .i64 b, .int .i64 t, .slice a P.length cap] 67 ∧ Blk ((w.alloc (.cells #[.int .i64 n, .slice ka key.length kc, .int .i64 b, .int .i64 t, .slice a P.length cap] 67)).alloc (.cells #[.int .i64 n, .slice ka' key.length kc', .int .i64 b, .int .i64 t, .slice a' P.length cap'] 67)) (w.heap.size + 1) #[.int .i64 n, .slice ka' key.length kc', .int .i64 b, .int .i64 t, .slice a' P.length cap'] 67) := ⟨(Blk.new _ _ _).alloc _, Blk.new_at (by simp)⟩
  clear hr hr' hl hz hk hk' hkl
  go_enter Try.func42, Try.ntmps42
  go_wp2_with fail
  refine (LabT.eq_any ka ka' kc kc' key key _ (HK.out.1.below (Go.Joins.below_alloc2 w _ _)) (HK.out.2.1.below (Go.Joins.below_alloc2 w _ _)) HK.out.2.2 HK.out.2.2).mono ?_
  rintro r w1 ⟨rfl, hb⟩
  have HB : Hid (Below w.heap.size w w1) := grow_on (Go.Joins.below_alloc2 w _ _) hb
  have HP : Hid (Blk w1 w.heap.size #[.int .i64 n, .slice ka key.length kc, .int .i64 b, .int .i64 t, .slice a P.length cap] 67 ∧ Blk w1 (w.heap.size + 1) #[.int .i64 n, .slice ka' key.length kc', .int .i64 b, .int .i64 t, .slice a' P.length cap'] 67) := ⟨HW.out.1.grow hb, HW.out.2.grow hb⟩
  have hd : decide (key = key) = true := by simp
  rw [hd]
  clear hb hd
  have p2 := HP.out.1.cell 2
  have q2 := HP.out.2.cell 2
  have p3 := HP.out.1.cell 3
  have q3 := HP.out.2.cell 3
  have p4 := HP.out.1.cell 4
  have q4 := HP.out.2.cell 4
  simp at p2 q2 p3 q3 p4 q4
  go_wp2_with fail
  refine (Alms.eq_any a a' cap cap' P _ (HR.out.1.below HB.out) (HR.out.2.1.below HB.out) HR.out.2.2.1 HR.out.2.2.2).mono ?_
  rintro r w2 ⟨rfl, hb⟩
  have HB2 : Hid (Below w.heap.size w w2) := grow_on HB.out hb
  clear hb p2 q2 p3 q3 p4 q4
  go_wp2
  go_ret
  exact ⟨rfl, HB2.out⟩
set_option maxHeartbeats 1600000 in
theorem toGroup_any (n b t : Int) (ka : Option Addr) (kc : Nat) (key : List Lab) (a : Option Addr) (cap : Nat) (P : List PAl) (w : World) (hk : Reads w ka key) (hkl : key.length ≤ 1048576) (hr : RdA w a P) (hl : P.length ≤ 1048576) (hs : sumL P ≤ 1048576) :
    Calls Try.prog 40 #[.agg #[.int .i64 n, .slice ka key.length kc, .int .i64 b, .int .i64 t, .slice a P.length cap]] w fun r w' => (∃ K M rs, r = .returned (.agg #[.int .i64 n, .slice (some ⟨K, 0, none⟩) key.length key.length, .int .i64 b, .int .i64 t, .slice (some ⟨M, 0, none⟩) P.length P.length]) ∧ GB (w.heap.size + 3) w' K key M 0 rs ∧ AB (w.heap.size + 3) w' M P.length rs ∧ pals rs = P) ∧ Below w.heap.size w w' := by
  have HR : Hid (RdA w a P ∧ sumL P ≤ 1048576) := ⟨hr, hs⟩
  have HK : Hid (Reads w ka key) := hk
  clear hr hs hk
  generalize hW0 : ((w.alloc (.cells #[.int .i64 n, .slice ka key.length kc, .int .i64 b, .int .i64 t, .slice a P.length cap] 64)).alloc (.cells #[.int .i64 0, .slice none 0 0, .int .i64 0, .int .i64 0, .slice none 0 0] 67)).alloc (.cells #[.int .i64 0, .slice none 0 0, .int .i64 0, .int .i64 0, .slice none 0 0] 67) = W0
  have HB0 : Hid (Below w.heap.size w W0) := by rw [← hW0]; exact Alm.below3 w _ _ _
  have P0 : Hid (Blk W0 w.heap.size #[.int .i64 n, .slice ka key.length kc, .int .i64 b, .int .i64 t, .slice a P.length cap] 64) := by rw [← hW0]; exact ((Blk.new _ _ _).alloc _).alloc _
  have R0 : Hid (Blk W0 (w.heap.size + 1) #[.int .i64 0, .slice none 0 0, .int .i64 0, .int .i64 0, .slice none 0 0] 67) := by rw [← hW0]; exact (Blk.new_at (by simp)).alloc _
  have O0 : Hid (Blk W0 (w.heap.size + 1 + 1) #[.int .i64 0, .slice none 0 0, .int .i64 0, .int .i64 0, .slice none 0 0] 67) := by rw [← hW0]; exact Blk.new_at (by simp)
  have HZ : Hid (W0.heap.size = w.heap.size + 3) := by show _ = _; rw [← hW0]; simp
  go_enter Try.func40, Try.ntmps40
  go_upto_region 2 with fail
  clear hW0
  have p0 := P0.out.cell 0
  have p1 := P0.out.cell 1
  have o0 := O0.out.cell 0
  have fo0 := O0.out.frozen 0
  simp at p0 p1 o0
  go_wp2_with fail
  refine (toL_any ka kc key _ (HK.out.below (set_low HB0.out (M := (w.heap.size + 1 + 1)) (by omega) _ _)) hkl).mono ?_
  rintro r w1 ⟨⟨K, rfl, hK⟩, hb⟩
  have HK1 : Hid (OwnL (w.heap.size + 3) w1 K key) := hK.down (by rw [size_setCell, HZ.out]; exact Nat.le_refl _)
  have HB1 : Hid (Below w.heap.size w w1) := (set_low HB0.out (M := (w.heap.size + 1 + 1)) (by omega) _ _).trans (hb.mono (by rw [size_setCell]; exact HB0.out.size))
  have P1 : Hid (Blk w1 w.heap.size #[.int .i64 n, .slice ka key.length kc, .int .i64 b, .int .i64 t, .slice a P.length cap] 64) := (P0.out.set_other (by show (w.heap.size + 1 + 1) ≠ w.heap.size; omega) _).grow hb
  have R1 : Hid (Blk w1 (w.heap.size + 1) #[.int .i64 0, .slice none 0 0, .int .i64 0, .int .i64 0, .slice none 0 0] 67) := (R0.out.set_other (by show (w.heap.size + 1 + 1) ≠ (w.heap.size + 1); omega) _).grow hb
  have O1 : Hid (Blk w1 (w.heap.size + 1 + 1) #[.int .i64 n, .slice none 0 0, .int .i64 0, .int .i64 0, .slice none 0 0] 67) := (O0.out.set 0 _).grow hb
  have HL1 : Hid (w.heap.size + 3 ≤ w1.heap.size) := by have := hb.size; rw [size_setCell, HZ.out] at this; exact this
  clear hb hK p0 p1 o0 fo0
  have p2 := P1.out.cell 2
  have p3 := P1.out.cell 3
  have p4 := P1.out.cell 4
  have o1 := O1.out.cell 1
  have fo1 := O1.out.frozen 1
  have o2 := O1.out.cell 2
  have fo2 := O1.out.frozen 2
  have o3 := O1.out.cell 3
  have fo3 := O1.out.frozen 3
  simp at p2 p3 p4 o1 o2 o3
  have hn1 : (w.heap.size + 1 + 1) ≠ w.heap.size := by omega
  go_wp2_with fail
  refine (toA_any a cap P _ (HR.out.1.below (set_low (set_low (set_low HB1.out (M := (w.heap.size + 1 + 1)) (by omega) _ _) (M := (w.heap.size + 1 + 1)) (by omega) _ _) (M := (w.heap.size + 1 + 1)) (by omega) _ _)) hl HR.out.2).mono ?_
  rintro r w2 ⟨⟨M, rs, rfl, hA, hP⟩, hb⟩
  have HS2 : Hid (w1.heap.size ≤ w2.heap.size) := by unfold Hid; have := hb.size; simpa using this
  have HA2 : Hid (AB (w.heap.size + 3) w2 M P.length rs ∧ pals rs = P ∧ ¬ blks M rs K) := ⟨hA.down (by simp; exact HL1.out), hP, fun h => by
    have h1 := aoblks_low (AB.ao hA) K h
    have h2 := HK1.out.lt
    simp at h1
    omega⟩
  have HB2 : Hid (Below w.heap.size w w2) := (set_low (set_low (set_low HB1.out (M := (w.heap.size + 1 + 1)) (by omega) _ _) (M := (w.heap.size + 1 + 1)) (by omega) _ _) (M := (w.heap.size + 1 + 1)) (by omega) _ _).trans (hb.mono (by have := HL1.out; simp; omega))
  have HK2 : Hid (OwnL (w.heap.size + 3) w2 K key) := (((HK1.out.set (R := (w.heap.size + 1 + 1)) (by have := HK1.out.1; omega) _ _).set (R := (w.heap.size + 1 + 1)) (by have := HK1.out.1; omega) _ _).set (R := (w.heap.size + 1 + 1)) (by have := HK1.out.1; omega) _ _).grow hb
  have R2 : Hid (Blk w2 (w.heap.size + 1) #[.int .i64 0, .slice none 0 0, .int .i64 0, .int .i64 0, .slice none 0 0] 67) := (((R1.out.set_other (by show (w.heap.size + 1 + 1) ≠ (w.heap.size + 1); omega) _).set_other (by show (w.heap.size + 1 + 1) ≠ (w.heap.size + 1); omega) _).set_other (by show (w.heap.size + 1 + 1) ≠ (w.heap.size + 1); omega) _).grow hb
  have O2 : Hid (Blk w2 (w.heap.size + 1 + 1) #[.int .i64 n, .slice (some ⟨K, 0, none⟩) key.length key.length, .int .i64 b, .int .i64 t, .slice none 0 0] 67) := (((O1.out.set 1 _).set 2 _).set 3 _).grow hb
  clear hb hA hP p2 p3 p4 o1 fo1 o2 fo2 o3 fo3
  have o0 := O2.out.cell 0
  have r0 := R2.out.cell 0
  have fr0 := R2.out.frozen 0
  have o1 := O2.out.cell 1
  have r1 := R2.out.cell 1
  have fr1 := R2.out.frozen 1
  have o2 := O2.out.cell 2
  have r2 := R2.out.cell 2
  have fr2 := R2.out.frozen 2
  have o3 := O2.out.cell 3
  have r3 := R2.out.cell 3
  have fr3 := R2.out.frozen 3
  have o4 := O2.out.cell 4
  have r4 := R2.out.cell 4
  have fr4 := R2.out.frozen 4
  have fo := O2.out.frozen 4
  simp at o0 r0 o1 r1 o2 r2 o3 r3 o4 r4
  go_wp2
  have hs : Blk _ (w.heap.size + 1) #[.int .i64 n, .slice (some ⟨K, 0, none⟩) key.length key.length, .int .i64 b, .int .i64 t, .slice (some ⟨M, 0, none⟩) P.length P.length] 67 := ((((((R2.out.set_other (p := ⟨(w.heap.size + 1 + 1), 4, none⟩) (by show (w.heap.size + 1 + 1) ≠ (w.heap.size + 1); omega) (.slice (some ⟨M, 0, none⟩) P.length P.length)).set 0 (.int .i64 n)).set 1 (.slice (some ⟨K, 0, none⟩) key.length key.length)).set 2 (.int .i64 b)).set 3 (.int .i64 t)).set 4 (.slice (some ⟨M, 0, none⟩) P.length P.length))
  have s0 := hs.cell 0
  have s1 := hs.cell 1
  have s2 := hs.cell 2
  have s3 := hs.cell 3
  have s4 := hs.cell 4
  refine bodyPost_ret (v := .agg #[.int .i64 n, .slice (some ⟨K, 0, none⟩) key.length key.length, .int .i64 b, .int .i64 t, .slice (some ⟨M, 0, none⟩) P.length P.length]) (by simp [results, Try.results40, go_sem, s0, s1, s2, s3, s4]) rfl ?_
  have hab := (DrawC.ab_under (DrawC.ab_under (DrawC.ab_under (DrawC.ab_under (DrawC.ab_under (DrawC.ab_under HA2.out.1 (A := (w.heap.size + 1 + 1)) (by omega) 4 (.slice (some ⟨M, 0, none⟩) P.length P.length)) (A := (w.heap.size + 1)) (by omega) 0 (.int .i64 n)) (A := (w.heap.size + 1)) (by omega) 1 (.slice (some ⟨K, 0, none⟩) key.length key.length)) (A := (w.heap.size + 1)) (by omega) 2 (.int .i64 b)) (A := (w.heap.size + 1)) (by omega) 3 (.int .i64 t)) (A := (w.heap.size + 1)) (by omega) 4 (.slice (some ⟨M, 0, none⟩) P.length P.length))
  exact ⟨⟨K, M, rs, rfl, ⟨((((((HK2.out.set (R := (w.heap.size + 1 + 1)) (by have := HK2.out.1; omega) _ _).set (R := (w.heap.size + 1)) (by have := HK2.out.1; omega) _ _).set (R := (w.heap.size + 1)) (by have := HK2.out.1; omega) _ _).set (R := (w.heap.size + 1)) (by have := HK2.out.1; omega) _ _).set (R := (w.heap.size + 1)) (by have := HK2.out.1; omega) _ _).set (R := (w.heap.size + 1)) (by have := HK2.out.1; omega) _ _), AB.ao hab, HA2.out.2.2⟩, hab, HA2.out.2.1⟩, (set_low (set_low (set_low (set_low (set_low (set_low HB2.out (M := (w.heap.size + 1 + 1)) (by omega) _ _) (M := (w.heap.size + 1)) (by omega) _ _) (M := (w.heap.size + 1)) (by omega) _ _) (M := (w.heap.size + 1)) (by omega) _ _) (M := (w.heap.size + 1)) (by omega) _ _) (M := (w.heap.size + 1)) (by omega) _ _)⟩
theorem cellsGroup : Try.prog.cellsOf 64 = 5 := by kernel_rfl
set_option maxRecDepth 100000 in
theorem open_group {H : Type} {enc : TypeId × Value → H} {W : World} {base b0 : Nat} {spare : Nat → Bool} {held : Bool} {r : Reach} {v : Value} {d : DataW H} {p : List MemPlace}
    (hv : Value.okWide Try.prog W r b0 64 v) (h : DataW.Trod enc Try.prog W base spare held 64 v d p) :
    ∃ (n b t : Int) (ka : Option Addr) (kc : Nat) (key : List Lab) (a : Option Addr) (cap : Nat) (P : List PAl), v = .agg #[.int .i64 n, .slice ka key.length kc, .int .i64 b, .int .i64 t, .slice a P.length cap] ∧ Reads W ka key ∧ key.length ≤ maxLen ∧ Fits key ∧ RdA W a P ∧ P.length ≤ maxLen ∧ FitsP P ∧ (-9223372036854775808 ≤ n ∧ n ≤ 9223372036854775807) ∧ (-9223372036854775808 ≤ b ∧ b ≤ 9223372036854775807) ∧ (-9223372036854775808 ≤ t ∧ t ≤ 9223372036854775807) := by
  obtain ⟨cs, m, rfl, hsz, hf⟩ := Opn.open_fields Try.underlying64 (by kernel_rfl) hv h
  rw [cellsGroup] at hsz
  obtain ⟨cl⟩ := cs
  match cl, hsz with
  | [c0, c1, c2, c3, c4], _ =>
    obtain ⟨y0, h0⟩ := hf 0 _ c0 rfl rfl
    obtain ⟨n, e0, _, z0⟩ := DataW.trod_int Try.underlying3 h0
    obtain ⟨y1, h1⟩ := hf 1 _ c1 rfl rfl
    obtain ⟨ka, kl, kc, e1⟩ := Go.Joins.slice_form Try.underlying33 h1
    obtain ⟨y2, h2⟩ := hf 2 _ c2 rfl rfl
    obtain ⟨b, e2, _, z2⟩ := DataW.trod_int Try.underlying3 h2
    obtain ⟨y3, h3⟩ := hf 3 _ c3 rfl rfl
    obtain ⟨t, e3, _, z3⟩ := DataW.trod_int Try.underlying3 h3
    obtain ⟨y4, h4⟩ := hf 4 _ c4 rfl rfl
    obtain ⟨a, len, cap, e4⟩ := Go.Joins.slice_form Try.underlying62 h4
    simp at e0 e1 e2 e3 e4
    subst e0 e1 e2 e3 e4
    obtain ⟨key, rfl, hr1, hl1, hf1⟩ := LabT.open_labs h1
    obtain ⟨P, rfl, hr2, hl2, hf2⟩ := open_alarms (enc := enc) (W := W) (d := y4.1) (p := y4.2) ⟨m, by simpa [Value.cells] using h4⟩
    exact ⟨n, b, t, ka, kc, key, a, cap, P, rfl, hr1, hl1, hf1, hr2, hl2, hf2, Go.bounds_i64 z0, Go.bounds_i64 z2, Go.bounds_i64 z3⟩
set_option maxHeartbeats 400000 in
theorem eqBatch_any (n b : Int) (ka ka' : Option Addr) (kc kc' : Nat) (key : List Lab) (a a' : Option Addr) (cap cap' : Nat) (P : List PAl) (w : World) (hk : Reads w ka key) (hk' : Reads w ka' key) (hkl : key.length ≤ maxLen) (hr : RdA w a P) (hr' : RdA w a' P) (hl : P.length ≤ maxLen) (hz : FitsP P) :
    Calls Try.prog 34 #[.agg #[.int .i64 n, .slice ka key.length kc, .int .i64 b, .slice a P.length cap], .agg #[.int .i64 n, .slice ka' key.length kc', .int .i64 b, .slice a' P.length cap']] w fun e w' => e = .returned (.bool true) ∧ Below w.heap.size w w' := by
  have HR : Hid (RdA w a P ∧ RdA w a' P ∧ P.length ≤ maxLen ∧ FitsP P) := ⟨hr, hr', hl, hz⟩
  have HK : Hid (Reads w ka key ∧ Reads w ka' key ∧ key.length ≤ maxLen) := ⟨hk, hk', hkl⟩
  have HW : Hid (Blk ((w.alloc (.cells #[.int .i64 n, .slice ka key.length kc, .int .i64 b, .slice a P.length cap] 55)).alloc (.cells #[.int .i64 n, .slice ka' key.length kc', .int .i64 b, .slice a' P.length cap'] 55)) w.heap.size #[.int .i64 n, .slice ka key.length kc, .int .i64 b, .slice a P.length cap] 55 ∧ Blk ((w.alloc (.cells #[.int .i64 n, .slice ka key.length kc, .int .i64 b, .slice a P.length cap] 55)).alloc (.cells #[.int .i64 n, .slice ka' key.length kc', .int .i64 b, .slice a' P.length cap'] 55)) (w.heap.size + 1) #[.int .i64 n, .slice ka' key.length kc', .int .i64 b, .slice a' P.length cap'] 55) := ⟨(Blk.new _ _ _).alloc _, Blk.new_at (by simp)⟩
  clear hr hr' hl hz hk hk' hkl
  go_enter Try.func34, Try.ntmps34
  go_wp2_with fail
  refine (LabT.eq_any ka ka' kc kc' key key _ (HK.out.1.below (Go.Joins.below_alloc2 w _ _)) (HK.out.2.1.below (Go.Joins.below_alloc2 w _ _)) HK.out.2.2 HK.out.2.2).mono ?_
  rintro r w1 ⟨rfl, hb⟩
  have HB : Hid (Below w.heap.size w w1) := grow_on (Go.Joins.below_alloc2 w _ _) hb
  have HP : Hid (Blk w1 w.heap.size #[.int .i64 n, .slice ka key.length kc, .int .i64 b, .slice a P.length cap] 55 ∧ Blk w1 (w.heap.size + 1) #[.int .i64 n, .slice ka' key.length kc', .int .i64 b, .slice a' P.length cap'] 55) := ⟨HW.out.1.grow hb, HW.out.2.grow hb⟩
  have hd : decide (key = key) = true := by simp
  rw [hd]
  clear hb hd
  have p2 := HP.out.1.cell 2
  have q2 := HP.out.2.cell 2
  have p3 := HP.out.1.cell 3
  have q3 := HP.out.2.cell 3
  simp at p2 q2 p3 q3
  go_wp2_with fail
  refine (Alms.eq_any a a' cap cap' P _ (HR.out.1.below HB.out) (HR.out.2.1.below HB.out) HR.out.2.2.1 HR.out.2.2.2).mono ?_
  rintro r w2 ⟨rfl, hb⟩
  have HB2 : Hid (Below w.heap.size w w2) := grow_on HB.out hb
  clear hb p2 q2 p3 q3
  go_wp2
  go_ret
  exact ⟨rfl, HB2.out⟩
set_option maxHeartbeats 800000 in
theorem markBatch_any (n b : Int) (K kc : Nat) (key : List Lab) (M o c k lo : Nat) (rs : List ARow) (w : World) (hG : GB lo w K key M o rs) (hkl : key.length ≤ 1048576) (hl : rs.length ≤ 2000000) (hk : 1 ≤ k) (hk2 : k + 2 * key.length + sumA rs ≤ 9000000) :
    Calls Try.prog 35 #[.agg #[.int .i64 n, .slice (some ⟨K, 0, none⟩) key.length kc, .int .i64 b, .slice (some ⟨M, o, none⟩) rs.length c], .int .i64 k] w fun e w' => e = .returned (.int .i64 ((k + 2 * key.length + sumA rs : Nat) : Int)) ∧ GM w' K key.length M o rs k ∧ Only (gblks K M rs) w w' := by
  have HG : Hid (GB lo w K key M o rs) := hG
  have hKlt := hG.key.lt
  have HN : Hid (K < w.heap.size ∧ k + 2 * key.length + sumA rs ≤ 9000000) := ⟨hKlt, hk2⟩
  obtain ⟨_, cs, hB, hcs, _⟩ := hG.key
  have HC : Hid (cs.size ≥ key.length * 2) := hcs
  have hM := Mark.mark_any K key.length kc k cs _ (hB.grow (Go.Joins.below_alloc1 w (.cells #[.int .i64 n, .slice (some ⟨K, 0, none⟩) key.length kc, .int .i64 b, .slice (some ⟨M, o, none⟩) rs.length c] 55))) hcs hkl hk (by omega)
  have HP : Hid (Blk (w.alloc (.cells #[.int .i64 n, .slice (some ⟨K, 0, none⟩) key.length kc, .int .i64 b, .slice (some ⟨M, o, none⟩) rs.length c] 55)) w.heap.size #[.int .i64 n, .slice (some ⟨K, 0, none⟩) key.length kc, .int .i64 b, .slice (some ⟨M, o, none⟩) rs.length c] 55) := Blk.new _ _ _
  clear hG hB hcs
  go_enter Try.func35, Try.ntmps35
  go_wp2_with fail
  refine hM.mono ?_
  rintro r w1 ⟨rfl, ⟨cs', hb', _, hm'⟩, ha⟩
  have HK1 : Hid (LM w1 K key.length k) := ⟨cs', hb', hm'⟩
  have HO1 : Hid (Only (gblks K M rs) w w1) := Only.ahead (Go.Joins.below_alloc1 w _) (Only.apart ha (.inl rfl))
  have hp1 : Blk w1 w.heap.size #[.int .i64 n, .slice (some ⟨K, 0, none⟩) key.length kc, .int .i64 b, .slice (some ⟨M, o, none⟩) rs.length c] 55 := ha.blk HP.out (by have := HN.out.1; omega)
  have p3 : w1.cell? ⟨w.heap.size, 3, none⟩ = some (.slice (some ⟨M, o, none⟩) rs.length c) := hp1.cell 3
  have HA1 : Hid (AO lo w1 M o rs) := ao_only HG.out.row (Only.ahead (S := fun j => j = K) (Go.Joins.below_alloc1 w _) (Only.apart ha rfl)) (fun j hj e => HG.out.ne (by rw [← e]; exact hj))
  have HA := markO_any M o (k + 2 * key.length) lo c rs w1 HA1.out hl (by omega) HN.out.2
  clear hM hb' hm' ha hp1 hk2
  generalize hz : k + 2 * key.length = z at HA
  have HZ : Hid (k + 2 * key.length = z) := hz
  have ez : ((k + 2 * key.length : Nat) : Int) = (z : Int) := by omega
  try rw [ez]
  clear ez hz
  go_wp2_with fail
  refine HA.mono ?_
  rintro r w2 ⟨rfl, hm, ho⟩
  have HK2 : Hid (LM w2 K key.length k) := HK1.out.only ho HG.out.ne
  have HM2 : Hid (MO w2 M o rs z rs.length) := hm
  have HO2 : Hid (Only (gblks K M rs) w w2) := HO1.out.trans ⟨ho.os, ho.tape, ho.output, ho.size, fun j hj hn => ho.block j hj (fun h => hn (.inr h))⟩
  clear hm ho HA p3
  generalize hy : z + sumA rs = y
  have HY : Hid (z + sumA rs = y) := hy
  clear hy
  go_wp2
  go_ret
  exact ⟨Mark.retI (by have := HY.out; have := HZ.out; omega), ⟨HK2.out, by rw [HZ.out]; exact HM2.out⟩, HO2.out⟩
set_option maxHeartbeats 800000 in
theorem heldBatch_any (n b : Int) (K kc : Nat) (key : List Lab) (M o c k : Nat) (rs : List ARow) (w : World) (hG : GM w K key.length M o rs k) (hll : ∀ x ∈ rs, x.2.2.l.length ≤ 1048576) (hkl : key.length ≤ 1048576) (hl : rs.length ≤ 2000000) (hk : 1 ≤ k) (hk2 : k + 2 * key.length + sumA rs ≤ 9000000) :
    Calls Try.prog 36 #[.agg #[.int .i64 n, .slice (some ⟨K, 0, none⟩) key.length kc, .int .i64 b, .slice (some ⟨M, o, none⟩) rs.length c], .int .i64 k] w fun e w' => e = .returned (.int .i64 ((k + 2 * key.length + sumA rs : Nat) : Int)) ∧ Below w.heap.size w w' := by
  have HG : Hid (GM w K key.length M o rs k) := hG
  have HN : Hid ((∀ x ∈ rs, x.2.2.l.length ≤ 1048576) ∧ k + 2 * key.length + sumA rs ≤ 9000000) := ⟨hll, hk2⟩
  obtain ⟨cs, hB, hm⟩ := hG.key
  have hM := Mark.held_any K key.length kc k cs _ (hB.grow (Go.Joins.below_alloc1 w (.cells #[.int .i64 n, .slice (some ⟨K, 0, none⟩) key.length kc, .int .i64 b, .slice (some ⟨M, o, none⟩) rs.length c] 55))) hm hkl hk (by omega)
  have HP : Hid (Blk (w.alloc (.cells #[.int .i64 n, .slice (some ⟨K, 0, none⟩) key.length kc, .int .i64 b, .slice (some ⟨M, o, none⟩) rs.length c] 55)) w.heap.size #[.int .i64 n, .slice (some ⟨K, 0, none⟩) key.length kc, .int .i64 b, .slice (some ⟨M, o, none⟩) rs.length c] 55) := Blk.new _ _ _
  clear hG hB hm hll
  go_enter Try.func36, Try.ntmps36
  go_wp2_with fail
  refine hM.mono ?_
  rintro r w1 ⟨rfl, hb⟩
  have HB1 : Hid (Below w.heap.size w w1) := grow_on (Go.Joins.below_alloc1 w _) hb
  have p3 : w1.cell? ⟨w.heap.size, 3, none⟩ = some (.slice (some ⟨M, o, none⟩) rs.length c) := (HP.out.grow hb).cell 3
  have HA := heldO_any M o (k + 2 * key.length) c rs w1 (HG.out.row.grow HB1.out) HN.out.1 hl (by omega) HN.out.2
  clear hM hb hk2
  generalize hz : k + 2 * key.length = z at HA
  have HZ : Hid (k + 2 * key.length = z) := hz
  have ez : ((k + 2 * key.length : Nat) : Int) = (z : Int) := by omega
  have hzz : ¬ (z : Int) < 0 := by omega
  try rw [ez]
  clear ez hz
  go_wp2_with fail
  refine HA.mono ?_
  rintro r w2 ⟨rfl, hb⟩
  have HB2 : Hid (Below w.heap.size w w2) := grow_on HB1.out hb
  clear hb HA p3
  generalize hy : z + sumA rs = y
  have HY : Hid (z + sumA rs = y) := hy
  have hyy : ¬ (y : Int) < 0 := by omega
  clear hy
  go_wp2
  go_ret
  exact ⟨Mark.retI (by have := HY.out; have := HZ.out; omega), HB2.out⟩
end Go.Proofs.Ytgncimlojbnbfaa.Grp
