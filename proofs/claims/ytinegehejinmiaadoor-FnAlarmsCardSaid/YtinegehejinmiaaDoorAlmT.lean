/-
  PROVED: over an alarm whose labels lie in memory spec.AlarmText and impl.AlarmText answer the same text, nothing where it may not be; nothing that was there is changed.
-/
import Derived.Test.YtinegehejinmiaaDoorAlmS
import Derived.Test.YtinegehejinmiaaDoorTextI
import Derived.Test.YtinegehejinmiaaDoorNumS
import Derived.Test.YtinegehejinmiaaDoorNumI
import Derived.Deep.RegionHeld3
namespace Go.Proofs.YtinegehejinmiaaDoor.AlmT
open Go.Shelf Go.RowKit
open Go.Proofs.YtinegehejinmiaaDoor.Labs Go.Proofs.YtinegehejinmiaaDoor.LabS Go.Proofs.YtinegehejinmiaaDoor.Alm Go.Proofs.YtinegehejinmiaaDoor.AlmS Go.Proofs.YtinegehejinmiaaDoor.Over Go.Proofs.YtinegehejinmiaaDoor.Blk
open Go.Proofs.YtinegehejinmiaaDoor.SetP (mk bs setText setText_size bs_mk mk_bs size_mk bs_len)
open Go.Proofs.YtinegehejinmiaaDoor.LabO (setB)
set_option linter.unusedVariables false

def numB (n : Int) : ByteArray := ⟨(Lib.itoa n).toArray⟩
theorem num_size {n : Int} (h0 : 0 ≤ n) (h1 : n ≤ 99999) : (numB n).size ≤ 21 := by
  unfold numB
  show (Lib.itoa n).toArray.size ≤ 21
  have : (Lib.itoa n).length ≤ 21 := by
    unfold Lib.itoa
    split
    · omega
    · have := NumI.digits_le n.toNat (by omega)
      omega
  simpa using this
/-- the text of an alarm, put together of its parts -/
def put8 (t u v n : ByteArray) : ByteArray := mk (bs t ++ (32 :: (bs u ++ (45 :: (bs v ++ (32 :: 34 :: (bs n ++ [34])))))))
def alarmText (l : List Lab) (s e : Int) (n : ByteArray) : ByteArray := if alarmB l s e n = true then put8 (setText l) (numB s) (numB e) n else ⟨#[]⟩
theorem at_yes {l : List Lab} {s e : Int} {n : ByteArray} (h : alarmB l s e n = true) : alarmText l s e n = put8 (setText l) (numB s) (numB e) n := if_pos h
theorem at_no {l : List Lab} {s e : Int} {n : ByteArray} (h : alarmB l s e n = false) : alarmText l s e n = ⟨#[]⟩ := if_neg (by rw [h]; decide)
theorem al_parts {l : List Lab} {s e : Int} {n : ByteArray} (h : alarmB l s e n = true) : 0 ≤ s ∧ s ≤ 99999 ∧ 0 ≤ e ∧ e ≤ 99999 ∧ n.size ≤ 12 := by
  simp only [alarmB, Bool.and_eq_true, decide_eq_true_eq] at h
  obtain ⟨_, _, h1, h2, h3, h4⟩ := h
  refine ⟨h1, by omega, by omega, h3, ?_⟩
  unfold Names.plainB at h4
  simp only [Bool.and_eq_true, decide_eq_true_eq] at h4
  omega
theorem cat8 (t u v n : ByteArray) : t ++ ByteArray.mk #[32] ++ u ++ ByteArray.mk #[45] ++ v ++ ByteArray.mk #[32, 34] ++ n ++ ByteArray.mk #[34] = put8 t u v n := by
  have e : ∀ (a b : ByteArray), a ++ b = mk (bs a ++ bs b) := fun a b => by rw [← mk_bs a, ← mk_bs b, TextS.mk_add, bs_mk, bs_mk]
  unfold put8
  rw [e (t ++ ByteArray.mk #[32] ++ u ++ ByteArray.mk #[45] ++ v ++ ByteArray.mk #[32, 34] ++ n), e (t ++ ByteArray.mk #[32] ++ u ++ ByteArray.mk #[45] ++ v ++ ByteArray.mk #[32, 34]), e (t ++ ByteArray.mk #[32] ++ u ++ ByteArray.mk #[45] ++ v), e (t ++ ByteArray.mk #[32] ++ u ++ ByteArray.mk #[45]), e (t ++ ByteArray.mk #[32] ++ u), e (t ++ ByteArray.mk #[32]), e t]
  simp only [bs_mk]
  congr 1
  simp [bs]

set_option maxHeartbeats 1600000 in
theorem specAlText_any (a : Option Addr) (cap : Nat) (l : List Lab) (s e : Int) (n : ByteArray) (w : World) (h : AlIn w a l s e n) :
    Calls Tryd.prog 16 #[.agg #[.slice a l.length cap, .int .i64 s, .int .i64 e, .string n]] w fun r w' => r = .returned (.string (alarmText l s e n)) ∧ Below w.heap.size w w' := by
  have HA : Hid (AlIn w a l s e n) := h
  clear h
  go_enter Tryd.func16, Tryd.ntmps16
  go_wp2_with fail
  refine (specAlarm_any a cap l s e n _ (HA.out.below (Go.Joins.below_alloc1 w _))).mono ?_
  rintro r w1 ⟨rfl, hb⟩
  have hP : Blk w1 w.heap.size #[.slice a l.length cap, .int .i64 s, .int .i64 e, .string n] 26 := (Blk.new _ _ _).grow hb
  have HB : Hid (Below w.heap.size w w1) := grow_on (Go.Joins.below_alloc1 w _) hb
  clear hb
  cases hq : alarmB l s e n with
  | false =>
    clear hP
    go_wp2
    go_ret
    exact ⟨TextS.retS (at_no hq).symm, HB.out⟩
  | true =>
    obtain ⟨b1, b2, b3, b4, b5⟩ := al_parts hq
    have HT : Hid (alarmText l s e n = put8 (setText l) (numB s) (numB e) n) := at_yes hq
    clear hq
    have hne := Grown.some w1
    have p0 : ∀ x : Grown w1, x.out.cell? ⟨w.heap.size, 0, none⟩ = some (.slice a l.length cap) := fun x => x.cell hP.lt (hP.cell 0)
    have p1 : ∀ x : Grown w1, x.out.cell? ⟨w.heap.size, 1, none⟩ = some (.int .i64 s) := fun x => x.cell hP.lt (hP.cell 1)
    have p2 : ∀ x : Grown w1, x.out.cell? ⟨w.heap.size, 2, none⟩ = some (.int .i64 e) := fun x => x.cell hP.lt (hP.cell 2)
    have p3 : ∀ x : Grown w1, x.out.cell? ⟨w.heap.size, 3, none⟩ = some (.string n) := fun x => x.cell hP.lt (hP.cell 3)
    clear hP
    have C1 : ∀ x : Grown w1, Hid (Calls Tryd.prog 33 #[.slice a l.length cap] x.out fun r w' => r = .returned (.string (setText l)) ∧ Below x.out.heap.size x.out w') := fun x => TextS.specText_any a cap l _ ((HA.out.reads.below HB.out).below x.bel) HA.out.len HA.out.fits
    have C2 : ∀ x : Grown w1, Hid (Calls Tryd.prog 34 #[.int .i64 s] x.out fun r w' => r = .returned (.string (numB s)) ∧ Below x.out.heap.size x.out w') := fun x => NumS.spec_any s _ (by omega) (by omega)
    have C3 : ∀ x : Grown w1, Hid (Calls Tryd.prog 34 #[.int .i64 e] x.out fun r w' => r = .returned (.string (numB e)) ∧ Below x.out.heap.size x.out w') := fun x => NumS.spec_any e _ (by omega) (by omega)
    have z1 := setText_size l
    have z2 := num_size b1 b2
    have z3 := num_size b3 b4
    generalize setText l = t at C1 HT z1
    generalize numB s = u at C2 HT z2
    generalize numB e = v at C3 HT z3
    clear b1 b2 b3 b4
    go_wp2
    refine wp_over (z := w1) (by kernel_rfl) (by kernel_rfl) (Below.refl _ _) ?_
    repeat (go_big_quiet_step (first | (go_at_call 33; with_reducible exact call_over (C1 _).out) | (go_at_call 34; with_reducible exact call_over (C2 _).out) | (go_at_call 34; with_reducible exact call_over (C3 _).out)))
    refine wpQuiet_nil ?_
    intro w2 hw2
    have hb2 := over_bel hw2
    have HB2 : Hid (Below w.heap.size w w2) := grow_on HB.out hb2
    clear hw2 hne hb2
    go_wp2
    go_ret
    exact ⟨TextS.retS ((cat8 t u v n).trans HT.out.symm), HB2.out⟩

theorem put8_any (bk : Nat) (t u v n : ByteArray) (w : World) (z1 : t.size ≤ 102) (z2 : u.size ≤ 21) (z3 : v.size ≤ 21) (z4 : n.size ≤ 12) (T : TypeId) (hB : Blk w bk #[.string t, .string ⟨#[32]⟩, .string u, .string ⟨#[45]⟩, .string v, .string ⟨#[32, 34]⟩, .string n, .string ⟨#[34]⟩] T) :
    Calls Tryd.prog 30 #[.slice (some ⟨bk, 0, none⟩) 8 8] w fun e w' => e = .returned (.string (put8 t u v n)) ∧ Below w.heap.size w w' := by
  have e3 : (⟨(Lib.join ([t, ⟨#[32]⟩, u, ⟨#[45]⟩, v, ⟨#[32, 34]⟩, n, ⟨#[34]⟩].map (·.data.toList)) (⟨#[]⟩ : ByteArray).data.toList).toArray⟩ : ByteArray) = put8 t u v n := by
    show mk (Lib.join _ []) = _
    rw [TextI.join_flat]
    unfold put8
    congr 1 <;> simp [bs]
  have HJ := TextI.hidL (Tryd.strings_Join bk 0 8 [t, ⟨#[32]⟩, u, ⟨#[45]⟩, v, ⟨#[32, 34]⟩, n, ⟨#[34]⟩] ⟨#[]⟩ w (fun j x hx => by
    rw [Nat.zero_add, hB.cell]
    match j, hx with
    | 0, hx => simp at hx; subst hx; rfl
    | 1, hx => simp at hx; subst hx; rfl
    | 2, hx => simp at hx; subst hx; rfl
    | 3, hx => simp at hx; subst hx; rfl
    | 4, hx => simp at hx; subst hx; rfl
    | 5, hx => simp at hx; subst hx; rfl
    | 6, hx => simp at hx; subst hx; rfl
    | 7, hx => simp at hx; subst hx; rfl
    | (j + 8), hx => simp at hx) hB.lt (by simp) (by simp) (by
      have : (Lib.join ([t, ⟨#[32]⟩, u, ⟨#[45]⟩, v, ⟨#[32, 34]⟩, n, ⟨#[34]⟩].map (·.data.toList)) (⟨#[]⟩ : ByteArray).data.toList).length = (put8 t u v n).size := by
        rw [← e3]; exact (size_mk _).symm
      rw [this]
      unfold put8
      rw [size_mk]
      have h1 := bs_len t
      have h2 := bs_len u
      have h3 := bs_len v
      have h4 := bs_len n
      simp only [List.length_append, List.length_cons, List.length_nil]
      omega))
  rw [e3] at HJ
  clear hB e3
  go_enter Tryd.func30, Tryd.ntmps30
  go_wp2_with fail
  refine HJ.out.mono ?_
  rintro e w1 ⟨rfl, hb⟩
  have HB : Hid (Below w.heap.size w w1) := hb
  clear hb
  go_wp2
  go_ret
  exact ⟨rfl, HB.out⟩

theorem Hid.of {p : Prop} (h : p) : Hid p := h
theorem bel_alloc {z w : World} (h : Below z.heap.size z w) (o : Obj) : Below z.heap.size z (w.alloc o) := h.alloc h.size o
theorem block_lt {w : World} {x : Addr} {v : Value} (h : w.cell? x = some v) : x.block < w.heap.size := World.block_lt_of_cell? w x h
/-- the library's table of powers -/
def Tab (w : World) : Prop := Lib.TabIs Tryd.prog w "internal/strconv.uint64pow10" .u64 Lib.pow10Tab
theorem Tab.below {w w' : World} (h : Tab w) (hb : Below w.heap.size w w') : Tab w' := by
  have hg : Tryd.prog.globalNamed "internal/strconv.uint64pow10" = some 0 := by kernel_rfl
  have hc := block_lt (Lib.TabIs.cell h hg 0 (by decide))
  exact var?_below hb hg hc h

set_option maxHeartbeats 1600000 in
theorem implAlText_any (a : Option Addr) (cap : Nat) (l : List Lab) (s e : Int) (n : ByteArray) (w : World) (h : AlIn w a l s e n) (ht : Tab w) :
    Calls Tryd.prog 15 #[.agg #[.slice a l.length cap, .int .i64 s, .int .i64 e, .string n]] w fun r w' => r = .returned (.string (alarmText l s e n)) ∧ Below w.heap.size w w' := by
  have HA : Hid (AlIn w a l s e n) := h
  have HTb : Hid (Tab w) := ht
  clear h ht
  go_enter Tryd.func15, Tryd.ntmps15
  go_wp2_with fail
  refine (implAlarm_any a cap l s e n _ (HA.out.below (Go.Joins.below_alloc1 w _))).mono ?_
  rintro r w1 ⟨rfl, hb⟩
  have hP : Blk w1 w.heap.size #[.slice a l.length cap, .int .i64 s, .int .i64 e, .string n] 26 := (Blk.new _ _ _).grow hb
  have HB : Hid (Below w.heap.size w w1) := grow_on (Go.Joins.below_alloc1 w _) hb
  clear hb
  cases hq : alarmB l s e n with
  | false =>
    clear hP
    go_wp2
    go_ret
    exact ⟨TextS.retS (at_no hq).symm, HB.out⟩
  | true =>
    obtain ⟨b1, b2, b3, b4, b5⟩ := al_parts hq
    have HT : Hid (alarmText l s e n = put8 (setText l) (numB s) (numB e) n) := at_yes hq
    clear hq
    have c0 : w1.cell? ⟨w.heap.size, 0, none⟩ = some (.slice a l.length cap) := hP.cell 0
    have c1 : w1.cell? ⟨w.heap.size, 1, none⟩ = some (.int .i64 s) := hP.cell 1
    have c2 : w1.cell? ⟨w.heap.size, 2, none⟩ = some (.int .i64 e) := hP.cell 2
    have c3 : w1.cell? ⟨w.heap.size, 3, none⟩ = some (.string n) := hP.cell 3
    have z1 := setText_size l
    have z2 := num_size b1 b2
    have z3 := num_size b3 b4
    have kp := hP.lt
    have HS : Hid (∀ w', Below w1.heap.size w1 w' → Below w1.heap.size w1 w' ∧ w'.cell? ⟨w.heap.size, 0, none⟩ = some (.slice a l.length cap) ∧ w'.cell? ⟨w.heap.size, 1, none⟩ = some (.int .i64 s) ∧ w'.cell? ⟨w.heap.size, 2, none⟩ = some (.int .i64 e) ∧ w'.cell? ⟨w.heap.size, 3, none⟩ = some (.string n)) := fun w' h => ⟨h, (h.cell kp).trans c0, (h.cell kp).trans c1, (h.cell kp).trans c2, (h.cell kp).trans c3⟩
    have C1 : ∀ x, Below w1.heap.size w1 x → Hid (Calls Tryd.prog 31 #[.slice a l.length cap] x fun r w' => r = .returned (.string (setText l)) ∧ Below x.heap.size x w') := fun x h => TextI.implText_any a cap l _ ((HA.out.reads.below HB.out).below h) HA.out.len HA.out.fits
    have C2 : ∀ x, Below w1.heap.size w1 x → Hid (Calls Tryd.prog 32 #[.int .i64 s] x fun r w' => r = .returned (.string (numB s)) ∧ Below x.heap.size x w') := fun x h => NumI.impl_any s _ (by omega) (by omega) ((HTb.out.below HB.out).below h)
    have C3 : ∀ x, Below w1.heap.size w1 x → Hid (Calls Tryd.prog 32 #[.int .i64 e] x fun r w' => r = .returned (.string (numB e)) ∧ Below x.heap.size x w') := fun x h => NumI.impl_any e _ (by omega) (by omega) ((HTb.out.below HB.out).below h)
    have D1 := Hid.of C1
    have D2 := Hid.of C2
    have D3 := Hid.of C3
    clear C1 C2 C3 hP b1 b2 b3 b4
    generalize setText l = t at D1 HT z1
    generalize numB s = u at D2 HT z2
    generalize numB e = v at D3 HT z3
    go_wp2
    have kz : Below w1.heap.size w1 w1.drew := (Below.refl _ _).drew
    go_region_held3 (fun w' => Below w1.heap.size w1 w' ∧ w'.cell? ⟨w.heap.size, 0, none⟩ = some (.slice a l.length cap) ∧ w'.cell? ⟨w.heap.size, 1, none⟩ = some (.int .i64 s) ∧ w'.cell? ⟨w.heap.size, 2, none⟩ = some (.int .i64 e) ∧ w'.cell? ⟨w.heap.size, 3, none⟩ = some (.string n)) (first | with_reducible exact HS.out _ kz | with_reducible exact HS.out _ (grow_on kz hy0) | with_reducible exact HS.out _ (grow_on (grow_on kz hy0) hy1) | with_reducible exact HS.out _ (grow_on (grow_on (grow_on kz hy0) hy1) hy2) | with_reducible exact HS.out _ (bel_alloc (grow_on (grow_on (grow_on kz hy0) hy1) hy2) _) | with_reducible exact HS.out _ (grow_on (bel_alloc (grow_on (grow_on (grow_on kz hy0) hy1) hy2) _) hy3) | (go_keep; done)) (first
      | (go_at_call 31; with_reducible refine ((D1.out _ kz).out).mono ?_; rintro r wa ⟨rfl, hy0⟩)
      | (go_at_call 32; with_reducible refine ((D2.out _ (grow_on kz hy0)).out).mono ?_; rintro r wb ⟨rfl, hy1⟩)
      | (go_at_call 32; with_reducible refine ((D3.out _ (grow_on (grow_on kz hy0) hy1)).out).mono ?_; rintro r wc ⟨rfl, hy2⟩)
      | (go_at_call 30; refine (put8_any _ t u v n _ z1 z2 z3 b5 _ (Blk.new _ _ _)).mono ?_; rintro r w2 ⟨rfl, hy3⟩))
    have HB2 : Hid (Below w.heap.size w w2) := grow_on HB.out (grow_on (bel_alloc (grow_on (grow_on (grow_on kz hy0) hy1) hy2) _) hy3)
    clear hy0 hy1 hy2 hy3 kz
    go_wp2
    go_ret
    exact ⟨TextS.retS HT.out.symm, HB2.out⟩
end Go.Proofs.YtinegehejinmiaaDoor.AlmT
