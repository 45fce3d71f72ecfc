/-
  PROVED: over any string that is not too long impl.cutLabels and impl.ParseSet answer as plain functions say, in memory of their own, by the library's contracts of strings.Cut and strings.TrimPrefix; nothing that was there is changed.
-/
import Derived.Test.YtlgmhonlgckppaaTextI
import Derived.Test.YtlgmhonlgckppaaLabR
import Derived.Test.YtlgmhonlgckppaaApp
namespace Go.Proofs.Ytlgmhonlgckppaa.Cuts
open Go.Shelf Go.RowKit
open Go.Proofs.Ytlgmhonlgckppaa.Labs Go.Proofs.Ytlgmhonlgckppaa.LabS Go.Proofs.Ytlgmhonlgckppaa.LabO Go.Proofs.Ytlgmhonlgckppaa.SetP Go.Proofs.Ytlgmhonlgckppaa.TextS Go.Proofs.Ytlgmhonlgckppaa.TextI Go.Proofs.Ytlgmhonlgckppaa.LabR
open Go.Proofs.Ytlgmhonlgckppaa.Over Go.Proofs.Ytlgmhonlgckppaa.Blk Go.Proofs.Ytlgmhonlgckppaa.App
open Go.Proofs.Ytlgmhonlgckppaa.LabT (infoL Held)
set_option linter.unusedVariables false

/-- the library's variable holds some int -/
def MaxAt (w : World) : Prop := ∃ m : Int, w.cell? ⟨0, 0, none⟩ = some (.int .i64 m)
theorem cell_lt {w : World} {x : Addr} {v : Value} (h : w.cell? x = some v) : x.block < w.heap.size := World.block_lt_of_cell? w x h
theorem MaxAt.below {w w' : World} (h : MaxAt w) (hb : Below w.heap.size w w') : MaxAt w' := by
  obtain ⟨m, hm⟩ := h
  exact ⟨m, (hb.cell (cell_lt hm)).trans hm⟩
theorem maxAt {w : World} (h : w.ShapedOpen Try.prog) : MaxAt w := Try.laysM145.s1_3 w h
theorem flat_app (p q : List Lab) : flat (p ++ q) = flat p ++ flat q := by
  induction p with
  | nil => rfl
  | cons x p ih => rw [List.cons_append, flat, ih]; rfl
/-- labels in a row of the call's own, younger than w -/
structure OSt (w wr : World) (v : Value) (p : List Lab) : Prop where
  own : wr.ownsRow w.heap.size 51 2 v p.length (flat p)
  lies : ∃ g cap, v = .slice (some ⟨g, 0, none⟩) p.length cap
  bel : Below w.heap.size w wr
theorem OSt.grow {w wr w' : World} {v : Value} {p : List Lab} (h : OSt w wr v p) (hb : Below wr.heap.size wr w') : OSt w w' v p :=
  ⟨h.own.kept (bel_grown hb) (by cases hv : v.ownBlock <;> simp), h.lies, grow_on h.bel hb⟩
theorem OSt.alloc {w wr : World} {v : Value} {p : List Lab} (h : OSt w wr v p) (o : Obj) : OSt w (wr.alloc o) v p := h.grow (grow1 (Below.refl _ _) o)
theorem own_form {w : World} {B : Nat} {v : Value} {p : List Lab} (h : w.ownsRow B 51 2 v p.length (flat p)) (hp : 0 < p.length) : ∃ g cap, v = .slice (some ⟨g, 0, none⟩) p.length cap := by
  obtain ⟨g, c, e, _⟩ := h.form hp
  exact ⟨g, c, e⟩
theorem OSt.void {w W : World} (h : Below w.heap.size w W) : OSt w (W.alloc (.cells #[] 51)) (.slice (some ⟨W.heap.size, 0, none⟩) 0 0) [] :=
  ⟨own_empty (Blk.new _ _ _) h.size, ⟨_, _, rfl⟩, h.alloc h.size _⟩
theorem OSt.add {w W w' : World} {v v' : Value} {p q : List Lab} {n m : Nat} {xs ys : List Value} (h : OSt w W v p) (hn : n = p.length) (hm : m = q.length) (hx : xs = flat p) (hy : ys = flat q) (hq : 0 < q.length)
    (hown : w'.ownsRow w.heap.size 51 2 v' (n + m) (xs ++ ys)) (hg : W.grownBy w' v.ownBlock) : OSt w w' v' (p ++ q) := by
  subst hn hm hx hy
  have ho : w'.ownsRow w.heap.size 51 2 v' (p ++ q).length (flat (p ++ q)) := by rw [flat_app, List.length_append]; exact hown
  exact ⟨ho, own_form ho (by simp; omega), h.bel.grown hg h.bel.size fun k hk => (h.own.lt k hk).1⟩
theorem OSt.outs {w wr : World} {g cap n : Nat} {p : List Lab} (h : OSt w wr (.slice (some ⟨g, 0, none⟩) n cap) p) : Own w wr g p := by
  rcases h.own.2 with ⟨e, _⟩ | ⟨g', cap', cur, e, hb, hg, hc, _, hz, ht⟩
  · cases e
  · cases e
    refine ⟨hb, cur, hg, ?_, fun j hj => ?_⟩
    · rw [hz]; omega
    · have h2 := flat_get p j hj
      have hl := flat_len p
      rw [← ht, List.getElem?_take_of_lt (by omega), List.getElem?_take_of_lt (by omega)] at h2
      simpa using h2
theorem OSt.reads {w wr : World} {g cap n : Nat} {p : List Lab} (h : OSt w wr (.slice (some ⟨g, 0, none⟩) n cap) p) : Reads wr (some ⟨g, 0, none⟩) p := by
  obtain ⟨_, cs, hk, _, hh⟩ := h.outs
  exact LabT.held_reads hk hh

theorem cut_lens (s sep : List UInt8) : (Lib.cut s sep).1.length ≤ s.length ∧ (Lib.cut s sep).2.1.length ≤ s.length := by
  unfold Lib.cut
  split
  · simp; exact Nat.min_le_right _ _
  · simp
theorem trim_len (s p : List UInt8) : (Lib.trimPrefix s p).length ≤ s.length := by
  unfold Lib.trimPrefix
  split
  · simp
  · simp
theorem cut_any (s sep : ByteArray) (w : World) (hs : s.size ≤ 1048576) (hm : MaxAt w) :
    Calls Try.prog 61 #[.string s, .string sep] w fun e w' => e = .returned (.tuple #[.string (mk (Lib.cut (bs s) (bs sep)).1), .string (mk (Lib.cut (bs s) (bs sep)).2.1), .bool (Lib.cut (bs s) (bs sep)).2.2]) ∧ Below w.heap.size w w' := by
  obtain ⟨m, hm⟩ := hm
  exact calls_drew (Try.strings_Cut s sep m w (by omega) hm)
theorem trim_any (s p : ByteArray) (w : World) :
    Calls Try.prog 60 #[.string s, .string p] w fun e w' => e = .returned (.string (mk (Lib.trimPrefix (bs s) (bs p)))) ∧ Below w.heap.size w w' := calls_same (Try.strings_TrimPrefix s p w)

theorem cutN_no1 {k : Nat} {r : List UInt8} (h : (Lib.cut r [61, 34]).2.2 = false) : cutN k r = [] := by
  cases k with
  | zero => rfl
  | succ k => unfold cutN; rw [if_neg (by rw [h]; simp)]
theorem cutN_no2 {k : Nat} {r : List UInt8} (h : (Lib.cut (Lib.cut r [61, 34]).2.1 [34]).2.2 = false) : cutN k r = [] := by
  cases k with
  | zero => rfl
  | succ k => unfold cutN; rw [if_neg (by rw [h]; simp)]
theorem cutN_yes {k : Nat} {r : List UInt8} (h1 : (Lib.cut r [61, 34]).2.2 = true) (h2 : (Lib.cut (Lib.cut r [61, 34]).2.1 [34]).2.2 = true) :
    cutN (k + 1) r = (mk (Lib.cut r [61, 34]).1, mk (Lib.cut (Lib.cut r [61, 34]).2.1 [34]).1) :: cutN k (Lib.trimPrefix (Lib.cut (Lib.cut r [61, 34]).2.1 [34]).2.1 [44, 32]) := by
  conv => lhs; unfold cutN
  rw [if_pos ⟨h1, h2⟩]
theorem retL {g c n m : Nat} (h : n = m) : Ending.returned (.slice (some ⟨g, 0, none⟩) n c) = .returned (.slice (some ⟨g, 0, none⟩) m c) := by rw [h]

theorem cut_round (r : ByteArray) (k : Nat) (hk : k < 4) : Hid (((Lib.cut (bs r) (bs ⟨#[61, 34]⟩)).2.2 = false → cutN (4 - k) (bs r) = []) ∧ ((Lib.cut (bs (mk (Lib.cut (bs r) (bs ⟨#[61, 34]⟩)).2.1)) (bs ⟨#[34]⟩)).2.2 = false → cutN (4 - k) (bs r) = []) ∧
    ((Lib.cut (bs r) (bs ⟨#[61, 34]⟩)).2.2 = true → (Lib.cut (bs (mk (Lib.cut (bs r) (bs ⟨#[61, 34]⟩)).2.1)) (bs ⟨#[34]⟩)).2.2 = true → cutN (4 - k) (bs r) = (mk (Lib.cut (bs r) (bs ⟨#[61, 34]⟩)).1, mk (Lib.cut (bs (mk (Lib.cut (bs r) (bs ⟨#[61, 34]⟩)).2.1)) (bs ⟨#[34]⟩)).1) :: cutN (4 - (k + 1)) (bs (mk (Lib.trimPrefix (bs (mk (Lib.cut (bs (mk (Lib.cut (bs r) (bs ⟨#[61, 34]⟩)).2.1)) (bs ⟨#[34]⟩)).2.1)) (bs ⟨#[44, 32]⟩)))))) := by
  show _ ∧ _ ∧ _
  have e1 : bs ⟨#[61, 34]⟩ = [61, 34] := rfl
  have e2 : bs ⟨#[34]⟩ = [34] := rfl
  have e3 : bs ⟨#[44, 32]⟩ = [44, 32] := rfl
  rw [e1, e2, e3, bs_mk, bs_mk, bs_mk]
  refine ⟨cutN_no1, cutN_no2, fun h1 h2 => ?_⟩
  rw [show 4 - k = 4 - (k + 1) + 1 by omega]
  exact cutN_yes h1 h2

set_option maxHeartbeats 1600000 in
theorem implCut_any (s : ByteArray) (w : World) (hs : s.size ≤ 1048576) (hm : MaxAt w) :
    Calls Try.prog 39 #[.string s] w fun e w' => ∃ v, e = .returned v ∧ OSt w w' v (cutI s) := by
  have HM : Hid (MaxAt w) := hm
  have HC : Hid (cutI s = cutN 4 (bs (mk (Lib.trimPrefix (bs s) [123])))) := by show _ = _; rw [bs_mk]; rfl
  have HZ : Hid ((mk (Lib.trimPrefix (bs s) [123])).size ≤ 1048576) := by
    show _ ≤ _
    rw [size_mk]
    have := trim_len (bs s) [123]
    have := bs_len s
    omega
  clear hm hs
  obtain ⟨i0, hi, hz0, hz1, hz2⟩ := info_parts infoL
  go_enter Try.func39, Try.ntmps39
  go_wp2_with fail
  refine (trim_any _ _ _).mono ?_
  rintro e w1 ⟨rfl, hb⟩
  have HO : Hid (OSt w w1 (.slice (some ⟨w.heap.size, 0, none⟩) 0 0) []) := (OSt.void (Below.refl _ _)).grow hb
  clear hb
  go_wp2
  go_loopw [3, 4, 13] (fun v t i wr => ∃ (k : Nat) (r : ByteArray) (p : List Lab), k ≤ 4 ∧ i = .int .i64 k ∧ t = .string r ∧ r.size ≤ 1048576 ∧ p.length = k ∧ p ++ cutN (4 - k) (bs r) = cutI s ∧ OSt w wr v p) (fun _ _ i _ => 4 - (intOf i).toNat)
  case atStart => exact ⟨0, _, [], by omega, rfl, rfl, HZ.out, rfl, HC.out.symm, HO.out⟩
  case round =>
    obtain ⟨k, r, p, hk, rfl, rfl, hr, hp, he, hst⟩ := hrel
    have HS : Hid (OSt w wr u3 p) := hst
    have HR : Hid (r.size ≤ 1048576) := hr
    have HP : Hid (p.length = k) := hp
    have HE : Hid (p ++ cutN (4 - k) (bs r) = cutI s) := he
    clear hst hr hp he HO HZ HC
    by_cases hlt : k < 4
    · have hlt' : (k : Int) < 4 := by omega
      go_wp2_with fail
      refine (cut_any r _ _ HR.out (HM.out.below HS.out.bel)).mono ?_
      rintro e w2 ⟨rfl, hb⟩
      have HS2 : Hid (OSt w w2 u3 p) := HS.out.grow hb
      clear hb
      have HV := cut_round r k hlt
      have HL := hidL (cut_lens (bs r) (bs ⟨#[61, 34]⟩))
      have HR1 : Hid ((bs r).length ≤ 1048576) := by show _ ≤ _; rw [bs_len]; exact HR.out
      generalize Lib.cut (bs r) (bs ⟨#[61, 34]⟩) = c1 at HV HL ⊢
      obtain ⟨n1, b1, t1⟩ := c1
      dsimp only at HV HL ⊢
      have HB1 : Hid ((mk b1).size ≤ 1048576) := by show _ ≤ _; rw [size_mk]; exact Nat.le_trans HL.out.2 HR1.out
      generalize mk b1 = y1 at HV HB1 ⊢
      generalize mk n1 = x1 at HV ⊢
      go_wp2_with fail
      refine (cut_any y1 _ _ HB1.out (HM.out.below HS2.out.bel)).mono ?_
      rintro e w3 ⟨rfl, hb⟩
      have HS3 : Hid (OSt w w3 u3 p) := HS2.out.grow hb
      clear hb
      have HL2 := hidL (cut_lens (bs y1) (bs ⟨#[34]⟩))
      have HR2 : Hid ((bs y1).length ≤ 1048576) := by show _ ≤ _; rw [bs_len]; exact HB1.out
      generalize Lib.cut (bs y1) (bs ⟨#[34]⟩) = c2 at HV HL2 ⊢
      obtain ⟨n2, b2, t2⟩ := c2
      dsimp only at HV HL2 ⊢
      have HB2 : Hid ((mk b2).size ≤ 1048576) := by show _ ≤ _; rw [size_mk]; exact Nat.le_trans HL2.out.2 HR2.out
      generalize mk b2 = y2 at HV HB2 ⊢
      generalize mk n2 = x2 at HV ⊢
      cases t1 with
      | false =>
        have HF : Hid (cutI s = p) := by show _ = _; rw [← HE.out, HV.out.1 rfl, List.append_nil]
        go_wp2
        go_ret
        exact ⟨_, rfl, by rw [HF.out]; exact HS3.out⟩
      | true =>
        cases t2 with
        | false =>
          have HF : Hid (cutI s = p) := by show _ = _; rw [← HE.out, HV.out.2.1 rfl, List.append_nil]
          go_wp2
          go_ret
          exact ⟨_, rfl, by rw [HF.out]; exact HS3.out⟩
        | true =>
          have HY := hidL (HV.out.2.2 rfl rfl)
          clear HV
          go_wp2_with (at_builtin; refine wpList_append_own_at _ rfl _ _ 24 rfl w.heap.size 51 i0 (.agg #[.string ByteArray.empty, .string ByteArray.empty]) 2 32 Try.underlying24 hi hz0 hz1 hz2 rfl (by decide) _ _ _ rfl (HS3.out.alloc _).own ⟨w3.heap.size, 0, none⟩ 1 1 [.string x1, .string x2] rfl rfl ?c1 ?c2 ?c3 ?c4 ?c5 ?_)
          case c1 => exact blk_news (Blk.new _ _ _)
          case c2 => exact flat_one [(x1, x2)]
          case c3 => have := HP.out; unfold maxLen; omega
          case c4 => have := HP.out; omega
          case c5 => have := HS3.out.bel.size; simp; omega
          intro v' w4 hown hg _ hat
          have HS4 : Hid (OSt w w4 v' (p ++ [(x1, x2)])) := (HS3.out.alloc _).add (q := [(x1, x2)]) rfl rfl rfl rfl (by simp) hown hg
          clear hown hg hat
          go_wp2_with fail
          refine (trim_any y2 _ _).mono ?_
          rintro e w5 ⟨rfl, hb⟩
          have HS5 : Hid (OSt w w5 v' (p ++ [(x1, x2)])) := HS4.out.grow hb
          clear hb
          have HB3 : Hid ((mk (Lib.trimPrefix (bs y2) (bs ⟨#[44, 32]⟩))).size ≤ 1048576) := by
            show _ ≤ _
            rw [size_mk]
            exact Nat.le_trans (trim_len _ _) (by rw [bs_len]; exact HB2.out)
          generalize mk (Lib.trimPrefix (bs y2) (bs ⟨#[44, 32]⟩)) = z at HY HB3 ⊢
          go_wp2
          go_roundw
          case rel => exact ⟨k + 1, z, p ++ [(x1, x2)], by omega, by go_num, rfl, HB3.out, by have := HP.out; simp; omega, by rw [← HE.out, HY.out]; simp, HS5.out⟩
          case measure => simp [intOf]; omega
    · have hge : ¬ (k : Int) < 4 := by omega
      have HF : Hid (cutI s = p) := by
        show _ = _
        rw [← HE.out, show 4 - k = 0 by omega]
        simp [cutN]
      go_wp2
      go_ret
      exact ⟨_, rfl, by rw [HF.out]; exact HS.out⟩
end Go.Proofs.Ytlgmhonlgckppaa.Cuts
