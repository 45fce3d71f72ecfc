/-
  PROVED: the contracts of what the exact laws call over a group and over a batch: the size that is counted, the copy that is made, that two of the same are found alike, the marks that are written and found; what one that came in is.
-/
import Derived.Test.YtgncimlojbnbfabLsO
import Derived.Test.YtgncimlojbnbfabLsS
import Derived.Test.YtgncimlojbnbfabOpn
import Derived.Deep.DeepCutAuto
namespace Go.Proofs.Ytgncimlojbnbfab.Grp
open Go.RowKit
open Go.ChangeShapes Go.WideShapes
open Go.Proofs.Ytgncimlojbnbfab.Labs Go.Proofs.Ytgncimlojbnbfab.LabS Go.Proofs.Ytgncimlojbnbfab.Alms Go.Proofs.Ytgncimlojbnbfab.AlmS Go.Proofs.Ytgncimlojbnbfab.AlmM Go.Proofs.Ytgncimlojbnbfab.Over Go.Proofs.Ytgncimlojbnbfab.Blk Go.Proofs.Ytgncimlojbnbfab.App Go.Proofs.Ytgncimlojbnbfab.Rws Go.Proofs.Ytgncimlojbnbfab.ChnI Go.Proofs.Ytgncimlojbnbfab.ChnC Go.Proofs.Ytgncimlojbnbfab.ChnK Go.Proofs.Ytgncimlojbnbfab.Chs
open Go.Proofs.Ytgncimlojbnbfab.StrB (retB)
open Go.Proofs.Ytgncimlojbnbfab.LabT (Held held_reads Fits)
open Go.Proofs.Ytgncimlojbnbfab.Mark (Apart Marked)
set_option linter.unusedVariables false
/-- labels in a block of the call's own -/
def OwnL (lo : Nat) (w : World) (K : Nat) (key : List Lab) : Prop := lo ≤ K ∧ ∃ cs : Array Value, Blk w K cs 47 ∧ key.length * 2 ≤ cs.size ∧ Held cs key key.length
theorem OwnL.grow {lo : Nat} {w w' : World} {K : Nat} {key : List Lab} (h : OwnL lo w K key) (hb : Below w.heap.size w w') : OwnL lo w' K key := by
  obtain ⟨h0, cs, h1, h2⟩ := h
  exact ⟨h0, cs, h1.grow hb, h2⟩
theorem OwnL.down {lo lo' : Nat} {w : World} {K : Nat} {key : List Lab} (h : OwnL lo w K key) (hl : lo' ≤ lo) : OwnL lo' w K key := ⟨Nat.le_trans hl h.1, h.2⟩
theorem OwnL.lt {lo : Nat} {w : World} {K : Nat} {key : List Lab} (h : OwnL lo w K key) : K < w.heap.size := by obtain ⟨h0, cs, h1, h2⟩ := h; exact h1.lt
theorem OwnL.rd {lo : Nat} {w : World} {K : Nat} {key : List Lab} (h : OwnL lo w K key) : Reads w (some ⟨K, 0, none⟩) key := by obtain ⟨h0, cs, h1, h2, h3⟩ := h; exact held_reads h1 h3
theorem OwnL.set {lo : Nat} {w : World} {K : Nat} {key : List Lab} (h : OwnL lo w K key) {R : Nat} (hR : R ≠ K) (i : Nat) (v : Value) : OwnL lo (w.setCell ⟨R, i, none⟩ v) K key := by
  obtain ⟨h0, cs, h1, h2⟩ := h
  exact ⟨h0, cs, h1.set_other hR _, h2⟩
theorem OwnL.only {S : Nat → Prop} {lo : Nat} {w w' : World} {K : Nat} {key : List Lab} (h : OwnL lo w K key) (ho : Only S w w') (hn : ¬ S K) : OwnL lo w' K key := by
  obtain ⟨h0, cs, h1, h2⟩ := h
  exact ⟨h0, cs, ho.blk h1 hn, h2⟩
/-- the marks in a block of labels -/
def LM (w : World) (K n k : Nat) : Prop := ∃ cs : Array Value, Blk w K cs 47 ∧ Marked cs k n
theorem LM.grow {w w' : World} {K n k : Nat} (h : LM w K n k) (hb : Below w.heap.size w w') : LM w' K n k := by
  obtain ⟨cs, h1, h2⟩ := h
  exact ⟨cs, h1.grow hb, h2⟩
theorem LM.only {S : Nat → Prop} {w w' : World} {K n k : Nat} (h : LM w K n k) (ho : Only S w w') (hn : ¬ S K) : LM w' K n k := by
  obtain ⟨cs, h1, h2⟩ := h
  exact ⟨cs, ho.blk h1 hn, h2⟩
/-- the blocks of a key and a row -/
def gblks (K M : Nat) (rs : List ARow) (k : Nat) : Prop := k = K ∨ blks M rs k
/-- a key and a row of the call's own -/
structure GB (lo : Nat) (w : World) (K : Nat) (key : List Lab) (M o : Nat) (rs : List ARow) : Prop where
  key : OwnL lo w K key
  row : AO lo w M o rs
  ne : ¬ blks M rs K
theorem GB.grow {lo : Nat} {w w' : World} {K M o : Nat} {key : List Lab} {rs : List ARow} (h : GB lo w K key M o rs) (hb : Below w.heap.size w w') : GB lo w' K key M o rs := ⟨h.key.grow hb, h.row.grow hb, h.ne⟩
theorem GB.down {lo lo' : Nat} {w : World} {K M o : Nat} {key : List Lab} {rs : List ARow} (h : GB lo w K key M o rs) (hl : lo' ≤ lo) : GB lo' w K key M o rs := ⟨h.key.down hl, h.row.down hl, h.ne⟩
theorem GB.only {S : Nat → Prop} {lo : Nat} {w w' : World} {K M o : Nat} {key : List Lab} {rs : List ARow} (h : GB lo w K key M o rs) (ho : Only S w w') (hn : ∀ k, gblks K M rs k → ¬ S k) : GB lo w' K key M o rs := ⟨h.key.only ho (hn K (.inl rfl)), ao_only h.row ho fun k hk => hn k (.inr hk), h.ne⟩
theorem GB.rng {lo : Nat} {w : World} {K M o : Nat} {key : List Lab} {rs : List ARow} (h : GB lo w K key M o rs) : ∀ k, gblks K M rs k → lo ≤ k ∧ k < w.heap.size := fun k hk => by
  rcases hk with rfl | hk
  · exact ⟨h.key.1, h.key.lt⟩
  · exact ⟨aoblks_low h.row k hk, aoblks_high h.row k hk⟩
theorem GB.len {lo : Nat} {w : World} {K M o : Nat} {key : List Lab} {rs : List ARow} (h : GB lo w K key M o rs) : ∀ x ∈ rs, x.2.2.l.length ≤ 1048576 := fun x hx => (h.row.rows x hx).2.1
/-- a key that was laid ahead of a row is none of its blocks -/
theorem gb_of {lo lo' : Nat} {w : World} {K M o : Nat} {key : List Lab} {rs : List ARow} (h : OwnL lo w K key) (k : AO lo' w M o rs) (hK : K < lo') (hl : lo ≤ lo') : GB lo w K key M o rs := ⟨h, k.down hl, fun hb => by have := aoblks_low k K hb; omega⟩
/-- both marked -/
structure GM (w : World) (K n : Nat) (M o : Nat) (rs : List ARow) (k : Nat) : Prop where
  key : LM w K n k
  row : MO w M o rs (k + 2 * n) rs.length
theorem GM.grow {w w' : World} {K n M o : Nat} {rs : List ARow} {k : Nat} (h : GM w K n M o rs k) (hb : Below w.heap.size w w') : GM w' K n M o rs k := ⟨h.key.grow hb, h.row.grow hb⟩
theorem GM.only {S : Nat → Prop} {w w' : World} {K n M o : Nat} {rs : List ARow} {k : Nat} (h : GM w K n M o rs k) (ho : Only S w w') (hn : ∀ j, gblks K M rs j → ¬ S j) : GM w' K n M o rs k := ⟨h.key.only ho (hn K (.inl rfl)), h.row.only ho fun j hj => hn j (.inr hj)⟩

theorem toL_any (a : Option Addr) (cap : Nat) (l : List Lab) (w : World) (hr : Reads w a l) (hl : l.length ≤ 1048576) :
    Calls Try.prog 8 #[.slice a l.length cap] w fun e w' => (∃ K, e = .returned (.slice (some ⟨K, 0, none⟩) l.length l.length) ∧ OwnL w.heap.size w' K l) ∧ Below w.heap.size w w' :=
  (LabT.to_any a cap l w hr hl).mono fun e w' ⟨he, ⟨cs, h1, h2, h3⟩, hb⟩ => ⟨⟨_, he, Nat.le_refl _, cs, h1, by omega, h3⟩, hb⟩
theorem toA_any (a : Option Addr) (cap : Nat) (P : List PAl) (w : World) (hr : RdA w a P) (hl : P.length ≤ 1048576) (hs : sumL P ≤ 1048576) :
    Calls Try.prog 21 #[.slice a P.length cap] w fun e w' => (∃ M rs, e = .returned (.slice (some ⟨M, 0, none⟩) P.length P.length) ∧ AB w.heap.size w' M P.length rs ∧ pals rs = P) ∧ Below w.heap.size w w' :=
  (Alms.to_any a cap P w hr hl hs).mono fun e w' ⟨he, ⟨cs, g, hC⟩, hb⟩ => by
    obtain ⟨rs, h1, h2⟩ := copy_ab hC (Nat.le_refl _) hl (fun i hi => Nat.le_trans (sum_nth hi) hs)
    exact ⟨⟨_, rs, he, h1, h2⟩, hb⟩
set_option maxHeartbeats 400000 in
theorem szGroup_any (n b t : Int) (ka : Option Addr) (kc : Nat) (key : List Lab) (a : Option Addr) (cap : Nat) (P : List PAl) (left : Int) (w : World) (hk : Reads w ka key) (hkl : key.length ≤ maxLen) (hkz : Fits key) (hr : RdA w a P) (hl : P.length ≤ maxLen) (hz : FitsP P) (h0 : 0 ≤ left) (h1 : left ≤ 1048576) :
    Calls Try.prog 12 #[.agg #[.int .i64 n, .slice ka key.length kc, .int .i64 b, .int .i64 t, .slice a P.length cap], .int .i64 left] w fun e w' => (∃ m : Int, e = .returned (.int .i64 m) ∧ m ≤ left ∧ (0 ≤ m → m + (key.length : Int) + (P.length : Int) + (sumL P : Int) ≤ left)) ∧ Below w.heap.size w w' := by
  have HR : Hid (RdA w a P ∧ P.length ≤ maxLen ∧ FitsP P) := ⟨hr, hl, hz⟩
  have HK : Hid (Reads w ka key ∧ key.length ≤ maxLen ∧ Fits key) := ⟨hk, hkl, hkz⟩
  have HP : Hid (Blk (w.alloc (.cells #[.int .i64 n, .slice ka key.length kc, .int .i64 b, .int .i64 t, .slice a P.length cap] 37)) w.heap.size #[.int .i64 n, .slice ka key.length kc, .int .i64 b, .int .i64 t, .slice a P.length cap] 37) := Blk.new _ _ _
  clear hr hl hz hk hkl hkz
  go_enter Try.func12, Try.ntmps12
  go_wp2_with fail
  refine (LabT.sz_any ka kc key left _ (HK.out.1.below (Go.Joins.below_alloc1 w _)) HK.out.2.1 HK.out.2.2 h0 h1).mono ?_
  rintro r w1 ⟨⟨m, rfl, hm, hm2⟩, hb⟩
  have HB : Hid (Below w.heap.size w w1) := grow_on (Go.Joins.below_alloc1 w _) hb
  have p1 : w1.cell? ⟨w.heap.size, 4, none⟩ = some (.slice a P.length cap) := (HP.out.grow hb).cell 4
  have HN : Hid (0 ≤ m → m + (key.length : Int) ≤ left) := hm2
  clear hb hm2
  by_cases g : m < 0
  · go_wp2
    go_ret
    exact ⟨⟨-1, rfl, by omega, fun h => by omega⟩, HB.out⟩
  · go_wp2_with fail
    refine (Alms.sz_any a cap P m _ (HR.out.1.below HB.out) HR.out.2.1 HR.out.2.2 (by omega) (by omega)).mono ?_
    rintro r w2 ⟨⟨q, rfl, hq, hq2⟩, hb⟩
    have HB2 : Hid (Below w.heap.size w w2) := grow_on HB.out hb
    have HN2 : Hid (0 ≤ q → q + (P.length : Int) + (sumL P : Int) ≤ m) := hq2
    clear hb hq2
    by_cases g2 : q < 0
    · go_wp2
      go_ret
      exact ⟨⟨-1, rfl, by omega, fun h => by omega⟩, HB2.out⟩
    · go_wp2
      go_ret
      exact ⟨⟨q, rfl, by omega, fun h => by have h1 := HN.out (by omega); have h2 := HN2.out h; omega⟩, HB2.out⟩
set_option maxHeartbeats 400000 in
theorem eqGroup_any (n b t : Int) (ka ka' : Option Addr) (kc kc' : Nat) (key : List Lab) (a a' : Option Addr) (cap cap' : Nat) (P : List PAl) (w : World) (hk : Reads w ka key) (hk' : Reads w ka' key) (hkl : key.length ≤ maxLen) (hr : RdA w a P) (hr' : RdA w a' P) (hl : P.length ≤ maxLen) (hz : FitsP P) :
    Calls Try.prog 18 #[.agg #[.int .i64 n, .slice ka key.length kc, .int .i64 b, .int .i64 t, .slice a P.length cap], .agg #[.int .i64 n, .slice ka' key.length kc', .int .i64 b, .int .i64 t, .slice a' P.length cap']] w fun e w' => e = .returned (.bool true) ∧ Below w.heap.size w w' := by
  have HR : Hid (RdA w a P ∧ RdA w a' P ∧ P.length ≤ maxLen ∧ FitsP P) := ⟨hr, hr', hl, hz⟩
  have HK : Hid (Reads w ka key ∧ Reads w ka' key ∧ key.length ≤ maxLen) := ⟨hk, hk', hkl⟩
  have HW : Hid (Blk ((w.alloc (.cells #[.int .i64 n, .slice ka key.length kc, .int .i64 b, .int .i64 t, .slice a P.length cap] 43)).alloc (.cells #[.int .i64 n, .slice ka' key.length kc', .int .i64 b, .int .i64 t, .slice a' P.length cap'] 43)) w.heap.size #[.int .i64 n, .slice ka key.length kc, .int .i64 b, .int .i64 t, .slice a P.length cap] 43 ∧ Blk ((w.alloc (.cells #[.int .i64 n, .slice ka key.length kc, .int .i64 b, .int .i64 t, .slice a P.length cap] 43)).alloc (.cells #[.int .i64 n, .slice ka' key.length kc', .int .i64 b, .int .i64 t, .slice a' P.length cap'] 43)) (w.heap.size + 1) #[.int .i64 n, .slice ka' key.length kc', .int .i64 b, .int .i64 t, .slice a' P.length cap'] 43) := ⟨(Blk.new _ _ _).alloc _, Blk.new_at (by simp)⟩
  clear hr hr' hl hz hk hk' hkl
  go_enter Try.func18, Try.ntmps18
  go_wp2_with fail
  refine (LabT.eq_any ka ka' kc kc' key key _ (HK.out.1.below (Go.Joins.below_alloc2 w _ _)) (HK.out.2.1.below (Go.Joins.below_alloc2 w _ _)) HK.out.2.2 HK.out.2.2).mono ?_
  rintro r w1 ⟨rfl, hb⟩
  have HB : Hid (Below w.heap.size w w1) := grow_on (Go.Joins.below_alloc2 w _ _) hb
  have HP : Hid (Blk w1 w.heap.size #[.int .i64 n, .slice ka key.length kc, .int .i64 b, .int .i64 t, .slice a P.length cap] 43 ∧ Blk w1 (w.heap.size + 1) #[.int .i64 n, .slice ka' key.length kc', .int .i64 b, .int .i64 t, .slice a' P.length cap'] 43) := ⟨HW.out.1.grow hb, HW.out.2.grow hb⟩
  have hd : decide (key = key) = true := by simp
  rw [hd]
  clear hb hd
  have p2 := HP.out.1.cell 2
  have q2 := HP.out.2.cell 2
  have p3 := HP.out.1.cell 3
  have q3 := HP.out.2.cell 3
  have p4 := HP.out.1.cell 4
  have q4 := HP.out.2.cell 4
  simp at p2 q2 p3 q3 p4 q4
  go_wp2_with fail
  refine (Alms.eq_any a a' cap cap' P _ (HR.out.1.below HB.out) (HR.out.2.1.below HB.out) HR.out.2.2.1 HR.out.2.2.2).mono ?_
  rintro r w2 ⟨rfl, hb⟩
  have HB2 : Hid (Below w.heap.size w w2) := grow_on HB.out hb
  clear hb p2 q2 p3 q3 p4 q4
  go_wp2
  go_ret
  exact ⟨rfl, HB2.out⟩
set_option maxHeartbeats 1600000 in
theorem toGroup_any (n b t : Int) (ka : Option Addr) (kc : Nat) (key : List Lab) (a : Option Addr) (cap : Nat) (P : List PAl) (w : World) (hk : Reads w ka key) (hkl : key.length ≤ 1048576) (hr : RdA w a P) (hl : P.length ≤ 1048576) (hs : sumL P ≤ 1048576) :
    Calls Try.prog 15 #[.agg #[.int .i64 n, .slice ka key.length kc, .int .i64 b, .int .i64 t, .slice a P.length cap]] w fun r w' => (∃ K M rs, r = .returned (.agg #[.int .i64 n, .slice (some ⟨K, 0, none⟩) key.length key.length, .int .i64 b, .int .i64 t, .slice (some ⟨M, 0, none⟩) P.length P.length]) ∧ GB (w.heap.size + 3) w' K key M 0 rs ∧ AB (w.heap.size + 3) w' M P.length rs ∧ pals rs = P) ∧ Below w.heap.size w w' := by
  have HR : Hid (RdA w a P ∧ sumL P ≤ 1048576) := ⟨hr, hs⟩
  have HK : Hid (Reads w ka key) := hk
  clear hr hs hk
  generalize hW0 : ((w.alloc (.cells #[.int .i64 n, .slice ka key.length kc, .int .i64 b, .int .i64 t, .slice a P.length cap] 37)).alloc (.cells #[.int .i64 0, .slice none 0 0, .int .i64 0, .int .i64 0, .slice none 0 0] 43)).alloc (.cells #[.int .i64 0, .slice none 0 0, .int .i64 0, .int .i64 0, .slice none 0 0] 43) = W0
  have HB0 : Hid (Below w.heap.size w W0) := by rw [← hW0]; exact Alm.below3 w _ _ _
  have P0 : Hid (Blk W0 w.heap.size #[.int .i64 n, .slice ka key.length kc, .int .i64 b, .int .i64 t, .slice a P.length cap] 37) := by rw [← hW0]; exact ((Blk.new _ _ _).alloc _).alloc _
  have R0 : Hid (Blk W0 (w.heap.size + 1) #[.int .i64 0, .slice none 0 0, .int .i64 0, .int .i64 0, .slice none 0 0] 43) := by rw [← hW0]; exact (Blk.new_at (by simp)).alloc _
  have O0 : Hid (Blk W0 (w.heap.size + 1 + 1) #[.int .i64 0, .slice none 0 0, .int .i64 0, .int .i64 0, .slice none 0 0] 43) := by rw [← hW0]; exact Blk.new_at (by simp)
  have HZ : Hid (W0.heap.size = w.heap.size + 3) := by show _ = _; rw [← hW0]; simp
  go_enter Try.func15, Try.ntmps15
  go_upto_region 2 with fail
  clear hW0
  have p0 := P0.out.cell 0
  have p1 := P0.out.cell 1
  have o0 := O0.out.cell 0
  have fo0 := O0.out.frozen 0
  simp at p0 p1 o0
  go_wp2_with fail
  refine (toL_any ka kc key _ (HK.out.below (set_low HB0.out (M := (w.heap.size + 1 + 1)) (by omega) _ _)) hkl).mono ?_
  rintro r w1 ⟨⟨K, rfl, hK⟩, hb⟩
  have HK1 : Hid (OwnL (w.heap.size + 3) w1 K key) := hK.down (by rw [size_setCell, HZ.out]; exact Nat.le_refl _)
  have HB1 : Hid (Below w.heap.size w w1) := (set_low HB0.out (M := (w.heap.size + 1 + 1)) (by omega) _ _).trans (hb.mono (by rw [size_setCell]; exact HB0.out.size))
  have P1 : Hid (Blk w1 w.heap.size #[.int .i64 n, .slice ka key.length kc, .int .i64 b, .int .i64 t, .slice a P.length cap] 37) := (P0.out.set_other (by show (w.heap.size + 1 + 1) ≠ w.heap.size; omega) _).grow hb
  have R1 : Hid (Blk w1 (w.heap.size + 1) #[.int .i64 0, .slice none 0 0, .int .i64 0, .int .i64 0, .slice none 0 0] 43) := (R0.out.set_other (by show (w.heap.size + 1 + 1) ≠ (w.heap.size + 1); omega) _).grow hb
  have O1 : Hid (Blk w1 (w.heap.size + 1 + 1) #[.int .i64 n, .slice none 0 0, .int .i64 0, .int .i64 0, .slice none 0 0] 43) := (O0.out.set 0 _).grow hb
  have HL1 : Hid (w.heap.size + 3 ≤ w1.heap.size) := by have := hb.size; rw [size_setCell, HZ.out] at this; exact this
  clear hb hK p0 p1 o0 fo0
  have p2 := P1.out.cell 2
  have p3 := P1.out.cell 3
  have p4 := P1.out.cell 4
  have o1 := O1.out.cell 1
  have fo1 := O1.out.frozen 1
  have o2 := O1.out.cell 2
  have fo2 := O1.out.frozen 2
  have o3 := O1.out.cell 3
  have fo3 := O1.out.frozen 3
  simp at p2 p3 p4 o1 o2 o3
  have hn1 : (w.heap.size + 1 + 1) ≠ w.heap.size := by omega
  go_wp2_with fail
  refine (toA_any a cap P _ (HR.out.1.below (set_low (set_low (set_low HB1.out (M := (w.heap.size + 1 + 1)) (by omega) _ _) (M := (w.heap.size + 1 + 1)) (by omega) _ _) (M := (w.heap.size + 1 + 1)) (by omega) _ _)) hl HR.out.2).mono ?_
  rintro r w2 ⟨⟨M, rs, rfl, hA, hP⟩, hb⟩
  have HS2 : Hid (w1.heap.size ≤ w2.heap.size) := by unfold Hid; have := hb.size; simpa using this
  have HA2 : Hid (AB (w.heap.size + 3) w2 M P.length rs ∧ pals rs = P ∧ ¬ blks M rs K) := ⟨hA.down (by simp; exact HL1.out), hP, fun h => by
    have h1 := aoblks_low (AB.ao hA) K h
    have h2 := HK1.out.lt
    simp at h1
    omega⟩
  have HB2 : Hid (Below w.heap.size w w2) := (set_low (set_low (set_low HB1.out (M := (w.heap.size + 1 + 1)) (by omega) _ _) (M := (w.heap.size + 1 + 1)) (by omega) _ _) (M := (w.heap.size + 1 + 1)) (by omega) _ _).trans (hb.mono (by have := HL1.out; simp; omega))
  have HK2 : Hid (OwnL (w.heap.size + 3) w2 K key) := (((HK1.out.set (R := (w.heap.size + 1 + 1)) (by have := HK1.out.1; omega) _ _).set (R := (w.heap.size + 1 + 1)) (by have := HK1.out.1; omega) _ _).set (R := (w.heap.size + 1 + 1)) (by have := HK1.out.1; omega) _ _).grow hb
  have R2 : Hid (Blk w2 (w.heap.size + 1) #[.int .i64 0, .slice none 0 0, .int .i64 0, .int .i64 0, .slice none 0 0] 43) := (((R1.out.set_other (by show (w.heap.size + 1 + 1) ≠ (w.heap.size + 1); omega) _).set_other (by show (w.heap.size + 1 + 1) ≠ (w.heap.size + 1); omega) _).set_other (by show (w.heap.size + 1 + 1) ≠ (w.heap.size + 1); omega) _).grow hb
  have O2 : Hid (Blk w2 (w.heap.size + 1 + 1) #[.int .i64 n, .slice (some ⟨K, 0, none⟩) key.length key.length, .int .i64 b, .int .i64 t, .slice none 0 0] 43) := (((O1.out.set 1 _).set 2 _).set 3 _).grow hb
  clear hb hA hP p2 p3 p4 o1 fo1 o2 fo2 o3 fo3
  have o0 := O2.out.cell 0
  have r0 := R2.out.cell 0
  have fr0 := R2.out.frozen 0
  have o1 := O2.out.cell 1
  have r1 := R2.out.cell 1
  have fr1 := R2.out.frozen 1
  have o2 := O2.out.cell 2
  have r2 := R2.out.cell 2
  have fr2 := R2.out.frozen 2
  have o3 := O2.out.cell 3
  have r3 := R2.out.cell 3
  have fr3 := R2.out.frozen 3
  have o4 := O2.out.cell 4
  have r4 := R2.out.cell 4
  have fr4 := R2.out.frozen 4
  have fo := O2.out.frozen 4
  simp at o0 r0 o1 r1 o2 r2 o3 r3 o4 r4
  go_wp2
  have hs : Blk _ (w.heap.size + 1) #[.int .i64 n, .slice (some ⟨K, 0, none⟩) key.length key.length, .int .i64 b, .int .i64 t, .slice (some ⟨M, 0, none⟩) P.length P.length] 43 := ((((((R2.out.set_other (p := ⟨(w.heap.size + 1 + 1), 4, none⟩) (by show (w.heap.size + 1 + 1) ≠ (w.heap.size + 1); omega) (.slice (some ⟨M, 0, none⟩) P.length P.length)).set 0 (.int .i64 n)).set 1 (.slice (some ⟨K, 0, none⟩) key.length key.length)).set 2 (.int .i64 b)).set 3 (.int .i64 t)).set 4 (.slice (some ⟨M, 0, none⟩) P.length P.length))
  have s0 := hs.cell 0
  have s1 := hs.cell 1
  have s2 := hs.cell 2
  have s3 := hs.cell 3
  have s4 := hs.cell 4
  refine bodyPost_ret (v := .agg #[.int .i64 n, .slice (some ⟨K, 0, none⟩) key.length key.length, .int .i64 b, .int .i64 t, .slice (some ⟨M, 0, none⟩) P.length P.length]) (by simp [results, Try.results15, go_sem, s0, s1, s2, s3, s4]) rfl ?_
  have hab := (DrawC.ab_under (DrawC.ab_under (DrawC.ab_under (DrawC.ab_under (DrawC.ab_under (DrawC.ab_under HA2.out.1 (A := (w.heap.size + 1 + 1)) (by omega) 4 (.slice (some ⟨M, 0, none⟩) P.length P.length)) (A := (w.heap.size + 1)) (by omega) 0 (.int .i64 n)) (A := (w.heap.size + 1)) (by omega) 1 (.slice (some ⟨K, 0, none⟩) key.length key.length)) (A := (w.heap.size + 1)) (by omega) 2 (.int .i64 b)) (A := (w.heap.size + 1)) (by omega) 3 (.int .i64 t)) (A := (w.heap.size + 1)) (by omega) 4 (.slice (some ⟨M, 0, none⟩) P.length P.length))
  exact ⟨⟨K, M, rs, rfl, ⟨((((((HK2.out.set (R := (w.heap.size + 1 + 1)) (by have := HK2.out.1; omega) _ _).set (R := (w.heap.size + 1)) (by have := HK2.out.1; omega) _ _).set (R := (w.heap.size + 1)) (by have := HK2.out.1; omega) _ _).set (R := (w.heap.size + 1)) (by have := HK2.out.1; omega) _ _).set (R := (w.heap.size + 1)) (by have := HK2.out.1; omega) _ _).set (R := (w.heap.size + 1)) (by have := HK2.out.1; omega) _ _), AB.ao hab, HA2.out.2.2⟩, hab, HA2.out.2.1⟩, (set_low (set_low (set_low (set_low (set_low (set_low HB2.out (M := (w.heap.size + 1 + 1)) (by omega) _ _) (M := (w.heap.size + 1)) (by omega) _ _) (M := (w.heap.size + 1)) (by omega) _ _) (M := (w.heap.size + 1)) (by omega) _ _) (M := (w.heap.size + 1)) (by omega) _ _) (M := (w.heap.size + 1)) (by omega) _ _)⟩
theorem cellsGroup : Try.prog.cellsOf 37 = 5 := by kernel_rfl
set_option maxRecDepth 100000 in
theorem open_group {H : Type} {enc : TypeId × Value → H} {W : World} {base b0 : Nat} {spare : Nat → Bool} {held : Bool} {r : Reach} {v : Value} {d : DataW H} {p : List MemPlace}
    (hv : Value.okWide Try.prog W r b0 37 v) (h : DataW.Trod enc Try.prog W base spare held 37 v d p) :
    ∃ (n b t : Int) (ka : Option Addr) (kc : Nat) (key : List Lab) (a : Option Addr) (cap : Nat) (P : List PAl), v = .agg #[.int .i64 n, .slice ka key.length kc, .int .i64 b, .int .i64 t, .slice a P.length cap] ∧ Reads W ka key ∧ key.length ≤ maxLen ∧ Fits key ∧ RdA W a P ∧ P.length ≤ maxLen ∧ FitsP P ∧ (-9223372036854775808 ≤ n ∧ n ≤ 9223372036854775807) ∧ (-9223372036854775808 ≤ b ∧ b ≤ 9223372036854775807) ∧ (-9223372036854775808 ≤ t ∧ t ≤ 9223372036854775807) := by
  obtain ⟨cs, m, rfl, hsz, hf⟩ := Opn.open_fields Try.underlying37 (by kernel_rfl) hv h
  rw [cellsGroup] at hsz
  obtain ⟨cl⟩ := cs
  match cl, hsz with
  | [c0, c1, c2, c3, c4], _ =>
    obtain ⟨y0, h0⟩ := hf 0 _ c0 rfl rfl
    obtain ⟨n, e0, _, z0⟩ := DataW.trod_int Try.underlying3 h0
    obtain ⟨y1, h1⟩ := hf 1 _ c1 rfl rfl
    obtain ⟨ka, kl, kc, e1⟩ := Go.Joins.slice_form Try.underlying23 h1
    obtain ⟨y2, h2⟩ := hf 2 _ c2 rfl rfl
    obtain ⟨b, e2, _, z2⟩ := DataW.trod_int Try.underlying3 h2
    obtain ⟨y3, h3⟩ := hf 3 _ c3 rfl rfl
    obtain ⟨t, e3, _, z3⟩ := DataW.trod_int Try.underlying3 h3
    obtain ⟨y4, h4⟩ := hf 4 _ c4 rfl rfl
    obtain ⟨a, len, cap, e4⟩ := Go.Joins.slice_form Try.underlying35 h4
    simp at e0 e1 e2 e3 e4
    subst e0 e1 e2 e3 e4
    obtain ⟨key, rfl, hr1, hl1, hf1⟩ := LabT.open_labs h1
    obtain ⟨P, rfl, hr2, hl2, hf2⟩ := open_alarms (enc := enc) (W := W) (d := y4.1) (p := y4.2) ⟨m, by simpa [Value.cells] using h4⟩
    exact ⟨n, b, t, ka, kc, key, a, cap, P, rfl, hr1, hl1, hf1, hr2, hl2, hf2, Go.bounds_i64 z0, Go.bounds_i64 z2, Go.bounds_i64 z3⟩
end Go.Proofs.Ytgncimlojbnbfab.Grp
