/-
  PROVED: the contracts of the drawing of names and of lists of alarms: l5By, l5Any, l5List, and of the draws that FnKeys begins with; nothing that was there is changed.
-/
import Derived.Test.YtmachabgnbpeaaaDrawB
import Derived.Test.YtmachabgnbpeaaaPro
import Derived.Test.YtmachabgnbpeaaaAlmsK
namespace Go.Proofs.Ytmachabgnbpeaaa.DrawK
open Go.RowKit
open Go.Proofs.Ytmachabgnbpeaaa.Draw
open Go.Proofs.Ytmachabgnbpeaaa.Labs Go.Proofs.Ytmachabgnbpeaaa.LabS Go.Proofs.Ytmachabgnbpeaaa.Over Go.Proofs.Ytmachabgnbpeaaa.Blk Go.Proofs.Ytmachabgnbpeaaa.App Go.Proofs.Ytmachabgnbpeaaa.DrawL Go.Proofs.Ytmachabgnbpeaaa.DrawT Go.Proofs.Ytmachabgnbpeaaa.DrawA Go.Proofs.Ytmachabgnbpeaaa.DrawB
open Go.Proofs.Ytmachabgnbpeaaa.Pro (RdS nthS)
open Go.Proofs.Ytmachabgnbpeaaa.LabT (Held held_reads)
open Go.Proofs.Ytmachabgnbpeaaa.Alms (PAl nthP RdA FitsP FitA sumL At nthP_eq infoA)
open Go.Proofs.Ytmachabgnbpeaaa.StrT (FitsS)
set_option linter.unusedVariables false

/-- the names drawn so far in a row of the call's own, the cursor, and all that is older than w -/
structure SSt (w : World) (c : Nat) (wr : World) (v : Value) (xs : List ByteArray) : Prop where
  own : wr.ownsRow w.heap.size 9 1 v xs.length (xs.map Value.string)
  lies : ∃ g cap, v = .slice (some ⟨g, 0, none⟩) xs.length cap
  cur : Cur wr c
  kept : Kept c w wr
  clt : c < w.heap.size
  fit : ∀ s ∈ xs, s.size ≤ 100
theorem SSt.lt {w : World} {c : Nat} {wr : World} {v : Value} {xs : List ByteArray} (h : SSt w c wr v xs) : ∀ k, v.ownBlock = some k → c < k := fun k hk => by
  have := (h.own.lt k hk).1; have := h.clt; omega
theorem SSt.keep {w : World} {c : Nat} {wr w' : World} {v : Value} {xs : List ByteArray} (h : SSt w c wr v xs) (hc : Cur w' c) (hk : Kept c wr w') : SSt w c w' v xs :=
  ⟨h.own.kept hk.grown (by
      cases hv : v.ownBlock with
      | none => exact .inl rfl
      | some k => exact .inr (fun e => by have := h.lt k hv; cases e; omega)), h.lies, hc, h.kept.trans hk, h.clt, h.fit⟩
theorem SSt.alloc {w : World} {c : Nat} {wr : World} {v : Value} {xs : List ByteArray} (h : SSt w c wr v xs) (o : Obj) : SSt w c (wr.alloc o) v xs :=
  h.keep (h.cur.alloc o) ((Kept.refl c wr).alloc o)
theorem sst_new {w : World} {c : Nat} {W : World} (xs : List ByteArray) (cs : Array Value) (n : Nat) (hc : Cur W c) (hk : Kept c w W) (hcl : c < w.heap.size) (he : cs.toList = xs.map Value.string) (hn : n = xs.length) (h5 : xs.length ≤ 5) (hf : ∀ s ∈ xs, s.size ≤ 100) :
    SSt w c (W.alloc (.cells cs 9)) (.slice (some ⟨W.heap.size, 0, none⟩) n n) xs := by
  subst hn
  have hs : cs.size = xs.length := by rw [← Array.length_toList, he, List.length_map]
  refine ⟨⟨by simp, .inr ⟨W.heap.size, xs.length, cs, rfl, hk.size, Blk.new _ _ _, Nat.le_refl _, by unfold maxLen; omega, by omega, ?_⟩⟩, ⟨_, _, rfl⟩, hc.alloc _, hk.alloc _, hcl, hf⟩
  rw [he]
  exact List.take_of_length_le (by simp)
theorem SSt.add {w : World} {c : Nat} {W w' : World} {v v' : Value} {xs : List ByteArray} {s : ByteArray} (h : SSt w c W v xs) (hs : s.size ≤ 100)
    (hown : w'.ownsRow w.heap.size 9 1 v' (xs.length + 1) (xs.map Value.string ++ [.string s])) (hg : W.grownBy w' v.ownBlock) : SSt w c w' v' (xs ++ [s]) := by
  have ho : w'.ownsRow w.heap.size 9 1 v' (xs ++ [s]).length ((xs ++ [s]).map Value.string) := by rw [List.map_append, List.length_append]; exact hown
  obtain ⟨g, cap, e⟩ := Go.Joins.ownsRow_form ho (by simp)
  refine ⟨ho, ⟨g, cap, e⟩, h.cur.grown hg h.lt, kept_grown (B := 0) h.kept hg (fun k hk => (h.own.lt k hk).1), h.clt, fun x hx => ?_⟩
  rcases List.mem_append.1 hx with hx | hx
  · exact h.fit x hx
  · rw [List.mem_singleton.1 hx]; exact hs
theorem SSt.reads {w : World} {c : Nat} {wr : World} {g cap : Nat} {xs : List ByteArray} {n : Nat} (h : SSt w c wr (.slice (some ⟨g, 0, none⟩) n cap) xs) : RdS wr (some ⟨g, 0, none⟩) xs := by
  refine .inr ⟨g, 0, rfl, (h.own.lt g rfl).2, fun i hi => ?_⟩
  have hx : (xs.map Value.string)[i]? = some (.string (nthS xs i)) := by
    show _ = some (Value.string (Go.Proofs.Ytmachabgnbpeaaa.StrB.nth xs i))
    rw [StrT.nthS_eq hi]; simp [hi]
  have hc := h.own.cells (g := g) rfl i _ hx
  have ea : (⟨g, 0, none⟩ : Addr).add i = ⟨g, 0 + i, none⟩ := by by_cases h : i = 0 <;> simp [Addr.add, h]
  rw [← ea]; exact hc
theorem SSt.fits {w : World} {c : Nat} {wr : World} {v : Value} {xs : List ByteArray} (h : SSt w c wr v xs) : FitsS xs := fun i hi => by
  rw [StrT.nthS_eq hi]
  have := h.fit _ (List.getElem_mem hi)
  unfold maxLen; omega
theorem infoS : (Try.prog.info? 9).map (fun i => (i.zero, i.size, i.bytes)) = some (some (.string ByteArray.empty), 1, 16) := by kernel_rfl

set_option maxHeartbeats 800000 in
theorem l5By_any (c : Nat) (w : World) (hc : Cur w c) :
    Calls Try.prog 48 #[.pointer (some ⟨c, 0, none⟩)] w fun e w' => ∃ v, e = .returned v ∧ ∃ xs, SSt w c w' v xs ∧ xs.length ≤ 2 := by
  have HC : Hid (Cur w c) := hc
  have HL : Hid (c < w.heap.size) := hc.lt
  clear hc
  go_enter Try.func48, Try.ntmps48
  go_wp2_with fail
  refine (below_any c 5 _ HC.out (by decide) (by decide)).mono ?_
  rintro e w1 ⟨⟨x, rfl, hx0, hx1⟩, hc1, hk1⟩
  have HS : Hid (Cur w1 c ∧ Kept c w w1) := ⟨hc1, hk1⟩
  clear hc1 hk1
  by_cases e0 : x = 0
  · subst e0
    go_wp2
    go_ret
    exact ⟨_, rfl, [], sst_new [] #[] 0 HS.out.1 HS.out.2 HL.out rfl rfl (by simp) (fun s hs => by simp at hs), by simp⟩
  have d0 : (x == 0) = false := by simpa using e0
  by_cases e1 : x = 1
  · subst e1
    go_wp2
    go_ret
    exact ⟨_, rfl, [⟨#[97, 112, 112]⟩, ⟨#[115, 101, 118]⟩], sst_new [⟨#[97, 112, 112]⟩, ⟨#[115, 101, 118]⟩] #[.string ⟨#[97, 112, 112]⟩, .string ⟨#[115, 101, 118]⟩] 2 HS.out.1 HS.out.2 HL.out rfl rfl (by simp) (fun s hs => by
      simp only [List.mem_cons, List.not_mem_nil, or_false] at hs
      rcases hs with rfl | rfl <;> decide), by simp⟩
  have d1 : (x == 1) = false := by simpa using e1
  by_cases e2 : x = 2
  · subst e2
    go_wp2
    go_ret
    exact ⟨_, rfl, [⟨#[104, 111, 115, 116]⟩], sst_new [⟨#[104, 111, 115, 116]⟩] #[.string ⟨#[104, 111, 115, 116]⟩] 1 HS.out.1 HS.out.2 HL.out rfl rfl (by simp) (fun s hs => by
      simp only [List.mem_cons, List.not_mem_nil, or_false] at hs
      rcases hs with rfl; decide), by simp⟩
  have d2 : (x == 2) = false := by simpa using e2
  go_wp2
  go_ret
  exact ⟨_, rfl, [⟨#[97, 112, 112]⟩], sst_new [⟨#[97, 112, 112]⟩] #[.string ⟨#[97, 112, 112]⟩] 1 HS.out.1 HS.out.2 HL.out rfl rfl (by simp) (fun s hs => by
      simp only [List.mem_cons, List.not_mem_nil, or_false] at hs
      rcases hs with rfl; decide), by simp⟩

set_option maxHeartbeats 800000 in
theorem l5Any_any (c : Nat) (w : World) (hc : Cur w c) :
    Calls Try.prog 52 #[.pointer (some ⟨c, 0, none⟩)] w fun e w' => ∃ v, e = .returned v ∧ ∃ xs, SSt w c w' v xs ∧ xs.length ≤ 3 := by
  have HC : Hid (Cur w c) := hc
  have HL : Hid (c < w.heap.size) := hc.lt
  clear hc
  obtain ⟨i0, hi, hz0, hz1, hz2⟩ := info_parts infoS
  go_enter Try.func52, Try.ntmps52
  go_wp2_with fail
  refine (l5By_any c _ HC.out).mono ?_
  rintro e w1 ⟨v, rfl, xs, hst, hx⟩
  obtain ⟨g, cap, rfl⟩ := hst.lies
  have HS1 : Hid (SSt w c w1 (.slice (some ⟨g, 0, none⟩) xs.length cap) xs) := hst
  clear hst
  go_wp2_with fail
  refine (once_any c 4 _ HS1.out.cur (by decide) (by decide)).mono ?_
  rintro e w2 ⟨⟨b, rfl⟩, hc2, hk2⟩
  have HS2 : Hid (SSt w c w2 (.slice (some ⟨g, 0, none⟩) xs.length cap) xs) := HS1.out.keep hc2 hk2
  clear hc2 hk2
  cases b with
  | true =>
    go_wp2_with fail
    refine (anyName_any c _ HS2.out.cur).mono ?_
    rintro e w3 ⟨⟨s, rfl, hs⟩, hc3, hk3⟩
    have HS3 : Hid (SSt w c w3 (.slice (some ⟨g, 0, none⟩) xs.length cap) xs) := HS2.out.keep hc3 hk3
    clear hc3 hk3
    go_wp2_with (at_builtin; refine wpList_append_own_at _ rfl _ _ 25 rfl w.heap.size 9 i0 (.string ByteArray.empty) 1 16 Try.underlying25 hi hz0 hz1 hz2 rfl (by decide) _ _ _ rfl (HS3.out.alloc _).own ⟨w3.heap.size, 0, none⟩ 1 1 [.string s] rfl rfl ?c1 ?c2 ?c3 ?c4 ?c5 ?_)
    case c1 => exact cell_one_new _ _ _
    case c2 => intro u hu; simp at hu; subst hu; rfl
    case c3 => unfold maxLen; omega
    case c4 => omega
    case c5 => have := HS3.out.kept.size; simp; omega
    intro v' w4 hown hg _ hat
    have HS4 : Hid (SSt w c w4 v' (xs ++ [s])) := (HS3.out.alloc _).add hs hown hg
    clear hown hg hat
    go_wp2
    go_ret
    exact ⟨_, rfl, xs ++ [s], HS4.out, by simp; omega⟩
  | false =>
    go_wp2
    go_ret
    exact ⟨_, rfl, xs, HS2.out, by omega⟩

theorem drawByOk_any (a : Option Addr) (len cap : Nat) (w : World) (hl : len ≤ maxLen) (hb : Bytes w a len w.heap.size) :
    Calls Try.prog 15 #[.slice a len cap] w fun e w' => (∃ (g c : Nat) (xs : List ByteArray), e = .returned (.slice (some ⟨g, 0, none⟩) xs.length c) ∧ RdS w' (some ⟨g, 0, none⟩) xs ∧ xs.length ≤ 3 ∧ FitsS xs) ∧ Below w.heap.size w w' := by
  have HB : Hid (Bytes w a len w.heap.size) := hb
  have HL : Hid (len ≤ maxLen) := hl
  clear hb hl
  go_enter Try.func15, Try.ntmps15
  go_wp2_with fail
  refine (new_any a len cap _ HL.out HB.out).mono ?_
  rintro e w1 ⟨rfl, hc1, hb1⟩
  have HC1 : Hid (Cur w1 w.heap.size ∧ Below w.heap.size w w1) := ⟨hc1, hb1⟩
  clear hc1 hb1
  go_wp2_with fail
  refine (l5Any_any _ _ HC1.out.1).mono ?_
  rintro e w2 ⟨v, rfl, xs, hst, hx⟩
  obtain ⟨g, c, rfl⟩ := hst.lies
  have HS2 : Hid (SSt w1 w.heap.size w2 (.slice (some ⟨g, 0, none⟩) xs.length c) xs) := hst
  clear hst
  go_wp2
  go_ret
  exact ⟨⟨g, c, xs, rfl, HS2.out.reads, hx, HS2.out.fits⟩, low_of HC1.out.2 HC1.out.1.lt HS2.out.kept⟩

theorem drawProject_any (a : Option Addr) (len cap : Nat) (w : World) (hl : len ≤ maxLen) (hb : Bytes w a len w.heap.size) :
    Calls Try.prog 13 #[.slice a len cap] w fun e w' => (∃ (g c : Nat) (p : List Lab) (g' c' : Nat) (xs : List ByteArray), e = .returned (.tuple #[.slice (some ⟨g, 0, none⟩) p.length c, .slice (some ⟨g', 0, none⟩) xs.length c']) ∧ Reads w' (some ⟨g, 0, none⟩) p ∧ RdS w' (some ⟨g', 0, none⟩) xs ∧ p.length ≤ 8 ∧ xs.length ≤ 3) ∧ Below w.heap.size w w' := by
  have HB : Hid (Bytes w a len w.heap.size) := hb
  have HL : Hid (len ≤ maxLen) := hl
  clear hb hl
  go_enter Try.func13, Try.ntmps13
  go_wp2_with fail
  refine (new_any a len cap _ HL.out HB.out).mono ?_
  rintro e w1 ⟨rfl, hc1, hb1⟩
  have HC1 : Hid (Cur w1 w.heap.size ∧ Below w.heap.size w w1) := ⟨hc1, hb1⟩
  clear hc1 hb1
  go_wp2_with fail
  refine (l2Any_any _ _ HC1.out.1).mono ?_
  rintro e w2 ⟨v, rfl, p, hst, hp⟩
  obtain ⟨g, c, rfl⟩ := hst.lies
  have HS2 : Hid (LSt w1 w.heap.size w2 (.slice (some ⟨g, 0, none⟩) p.length c) p) := hst
  clear hst
  go_wp2_with fail
  refine (l5Any_any _ _ HS2.out.cur).mono ?_
  rintro e w3 ⟨v, rfl, xs, hst, hx⟩
  obtain ⟨g', c', rfl⟩ := hst.lies
  have HS3 : Hid (SSt w2 w.heap.size w3 (.slice (some ⟨g', 0, none⟩) xs.length c') xs) := hst
  have HS4 : Hid (LSt w1 w.heap.size w3 (.slice (some ⟨g, 0, none⟩) p.length c) p) := HS2.out.keep hst.cur hst.kept
  clear hst
  go_wp2
  go_ret2
  exact ⟨⟨g, c, p, g', c', xs, rfl, HS4.out.reads, HS3.out.reads, hp, hx⟩, low_of HC1.out.2 HC1.out.1.lt HS4.out.kept⟩

/-- an alarm of the drawn list in memory: its labels' block, their room, the alarm -/
abbrev ARow := Nat × Nat × PAl
def flatA : List ARow → List Value
  | [] => []
  | x :: l => .slice (some ⟨x.1, 0, none⟩) x.2.2.l.length x.2.1 :: .int .i64 x.2.2.s :: .int .i64 x.2.2.e :: .string x.2.2.n :: flatA l
theorem flatA_len : ∀ l : List ARow, (flatA l).length = l.length * 4
  | [] => rfl
  | x :: l => by simp only [flatA, List.length_cons]; rw [flatA_len l]; omega
theorem flatA_app (p q : List ARow) : flatA (p ++ q) = flatA p ++ flatA q := by
  induction p with
  | nil => rfl
  | cons x p ih => rw [List.cons_append, flatA, ih]; rfl
theorem flatA_one : ∀ (l : List ARow), ∀ v ∈ flatA l, v.oneCell' = true
  | [], v, h => by simp [flatA] at h
  | x :: l, v, h => by
    simp only [flatA, List.mem_cons] at h
    rcases h with rfl | rfl | rfl | rfl | h
    · rfl
    · rfl
    · rfl
    · rfl
    · exact flatA_one l v h
def nthA (l : List ARow) (i : Nat) : ARow := l.getD i (0, 0, ⟨[], 0, 0, ByteArray.empty⟩)
theorem nthA_eq {l : List ARow} {i : Nat} (h : i < l.length) : nthA l i = l[i] := by unfold nthA; simp [h]
theorem flatA_get : ∀ (l : List ARow) (m : Nat), m < l.length → (flatA l)[m * 4]? = some (.slice (some ⟨(nthA l m).1, 0, none⟩) (nthA l m).2.2.l.length (nthA l m).2.1) ∧ (flatA l)[m * 4 + 1]? = some (.int .i64 (nthA l m).2.2.s) ∧ (flatA l)[m * 4 + 2]? = some (.int .i64 (nthA l m).2.2.e) ∧ (flatA l)[m * 4 + 3]? = some (.string (nthA l m).2.2.n)
  | [], m, h => by simp at h
  | x :: l, 0, _ => ⟨rfl, rfl, rfl, rfl⟩
  | x :: l, m + 1, h => by
    have := flatA_get l m (by simpa using h)
    have e : (m + 1) * 4 = m * 4 + 4 := by omega
    rw [e]
    exact this
/-- what is known of each -/
structure OwnA (lo : Nat) (w : World) (x : ARow) : Prop where
  at' : lo ≤ x.1
  blk : ∃ ds : Array Value, Blk w x.1 ds 78 ∧ Held ds x.2.2.l x.2.2.l.length
  few : x.2.2.l.length ≤ 8
  small : Small x.2.2.l
  sb : I64 x.2.2.s
  eb : I64 x.2.2.e
  note : x.2.2.n.size ≤ 100
theorem OwnA.to {lo : Nat} {w w' : World} {x : ARow} (h : OwnA lo w x) (hb : ∀ ds, Blk w x.1 ds 78 → Blk w' x.1 ds 78) : OwnA lo w' x := by
  obtain ⟨ds, h1, h2⟩ := h.blk
  exact ⟨h.at', ⟨ds, hb ds h1, h2⟩, h.few, h.small, h.sb, h.eb, h.note⟩
/-- the alarms drawn so far -/
structure AkSt (w : World) (c : Nat) (wr : World) (v : Value) (xs : List ARow) : Prop where
  own : wr.ownsRow w.heap.size 32 4 v xs.length (flatA xs)
  lies : ∃ g cap, v = .slice (some ⟨g, 0, none⟩) xs.length cap
  each : ∀ x ∈ xs, OwnA w.heap.size wr x
  cur : Cur wr c
  kept : Kept c w wr
  clt : c < w.heap.size
theorem AkSt.lt {w : World} {c : Nat} {wr : World} {v : Value} {xs : List ARow} (h : AkSt w c wr v xs) : ∀ k, v.ownBlock = some k → c < k := fun k hk => by
  have := (h.own.lt k hk).1; have := h.clt; omega
theorem AkSt.keep {w : World} {c : Nat} {wr w' : World} {v : Value} {xs : List ARow} (h : AkSt w c wr v xs) (hc : Cur w' c) (hk : Kept c wr w') : AkSt w c w' v xs :=
  ⟨h.own.kept hk.grown (by
      cases hv : v.ownBlock with
      | none => exact .inl rfl
      | some k => exact .inr (fun e => by have := h.lt k hv; cases e; omega)), h.lies, fun x hx => (h.each x hx).to (fun ds hd => blk_kept hd hk (by have := (h.each x hx).at'; have := h.clt; omega)), hc, h.kept.trans hk, h.clt⟩
theorem AkSt.alloc {w : World} {c : Nat} {wr : World} {v : Value} {xs : List ARow} (h : AkSt w c wr v xs) (o : Obj) : AkSt w c (wr.alloc o) v xs :=
  h.keep (h.cur.alloc o) ((Kept.refl c wr).alloc o)
theorem tyneA : (32 : TypeId) ≠ 78 := by decide
theorem blk_neA {w : World} {a b : Nat} {cs ds : Array Value} (h : Blk w a cs 32) (k : Blk w b ds 78) : a ≠ b := fun e => by
  subst e
  unfold Blk at h k
  rw [h] at k
  injection k with k
  injection k with _ k
  exact tyneA k
theorem AkSt.add {w : World} {c : Nat} {W w' : World} {v v' : Value} {xs : List ARow} {x : ARow} (h : AkSt w c W v xs) (hx : OwnA w.heap.size W x)
    (hown : w'.ownsRow w.heap.size 32 4 v' (xs.length + 1) (flatA xs ++ flatA [x])) (hg : W.grownBy w' v.ownBlock) : AkSt w c w' v' (xs ++ [x]) := by
  have ho : w'.ownsRow w.heap.size 32 4 v' (xs ++ [x]).length (flatA (xs ++ [x])) := by rw [flatA_app, List.length_append]; exact hown
  obtain ⟨g, cap, e⟩ := Go.Joins.ownsRow_form ho (by simp)
  have far : ∀ y, OwnA w.heap.size W y → OwnA w.heap.size w' y := fun y hy => hy.to fun ds hd => by
    refine blk_far hd hg fun e => ?_
    rcases h.own.2 with ⟨e', _⟩ | ⟨g', c', cur, e', _, hcur, _⟩
    · rw [e'] at e; cases e
    · rw [e'] at e
      exact blk_neA hcur hd (Option.some.inj e).symm
  refine ⟨ho, ⟨g, cap, e⟩, fun y hy => ?_, h.cur.grown hg h.lt, kept_grown (B := 0) h.kept hg (fun k hk => (h.own.lt k hk).1), h.clt⟩
  rcases List.mem_append.1 hy with hy | hy
  · exact far y (h.each y hy)
  · rw [List.mem_singleton.1 hy]; exact far x hx
def pals (xs : List ARow) : List PAl := xs.map fun x => x.2.2
theorem pals_len (xs : List ARow) : (pals xs).length = xs.length := by simp [pals]
theorem pals_nth {xs : List ARow} {i : Nat} (h : i < xs.length) : nthP (pals xs) i = (nthA xs i).2.2 := by
  rw [nthP_eq (by rw [pals_len]; exact h), nthA_eq h]; simp [pals]
theorem AkSt.reads {w : World} {c : Nat} {wr : World} {g cap n : Nat} {xs : List ARow} (h : AkSt w c wr (.slice (some ⟨g, 0, none⟩) n cap) xs) : RdA wr (some ⟨g, 0, none⟩) (pals xs) := by
  have ea : ∀ j, (⟨g, 0, none⟩ : Addr).add j = ⟨g, j, none⟩ := fun j => by by_cases h : j = 0 <;> simp [Addr.add, h]
  refine .inr ⟨g, 0, rfl, (h.own.lt g rfl).2, fun i hi => ?_⟩
  rw [pals_len] at hi
  rw [pals_nth hi]
  obtain ⟨f0, f1, f2, f3⟩ := flatA_get xs i hi
  have c0 := h.own.cells (g := g) rfl _ _ f0
  have c1 := h.own.cells (g := g) rfl _ _ f1
  have c2 := h.own.cells (g := g) rfl _ _ f2
  have c3 := h.own.cells (g := g) rfl _ _ f3
  rw [ea] at c0 c1 c2 c3
  obtain ⟨ds, hd, hh⟩ := (h.each (nthA xs i) (by rw [nthA_eq hi]; exact List.getElem_mem _)).blk
  exact ⟨some ⟨(nthA xs i).1, 0, none⟩, (nthA xs i).2.1, by rw [Nat.zero_add]; exact c0, by rw [Nat.zero_add]; exact c1, by rw [Nat.zero_add]; exact c2, by rw [Nat.zero_add]; exact c3, held_reads hd hh⟩
theorem AkSt.fits {w : World} {c : Nat} {wr : World} {v : Value} {xs : List ARow} (h : AkSt w c wr v xs) : FitsP (pals xs) := fun i hi => by
  rw [pals_len] at hi
  rw [pals_nth hi]
  have hx := h.each (nthA xs i) (by rw [nthA_eq hi]; exact List.getElem_mem _)
  exact ⟨by have := hx.few; unfold maxLen; omega, small_fits hx.small, hx.sb, hx.eb, by have := hx.note; unfold maxLen; omega⟩
theorem sum_few : ∀ (xs : List ARow), (∀ x ∈ xs, x.2.2.l.length ≤ 8) → sumL (pals xs) ≤ 8 * xs.length
  | [], _ => by simp [pals, sumL]
  | x :: xs, h => by
    have h1 := h x (by simp)
    have h2 := sum_few xs fun y hy => h y (by simp [hy])
    show x.2.2.l.length + sumL (pals xs) ≤ _
    rw [List.length_cons]; omega

set_option maxRecDepth 100000 in
set_option maxHeartbeats 1600000 in
theorem l5List_any (c : Nat) (w : World) (hc : Cur w c) :
    Calls Try.prog 47 #[.pointer (some ⟨c, 0, none⟩)] w fun e w' => ∃ v, e = .returned v ∧ ∃ xs, AkSt w c w' v xs ∧ xs.length ≤ 5 := by
  have HC : Hid (Cur w c) := hc
  have HL : Hid (c < w.heap.size) := hc.lt
  clear hc
  obtain ⟨i0, hi, hz0, hz1, hz2⟩ := info_parts infoA
  go_enter Try.func47, Try.ntmps47
  go_wp2_with fail
  refine (below_any c 6 _ (HC.out.alloc _) (by decide) (by decide)).mono ?_
  rintro e w1 ⟨⟨x, rfl, hx0, hx1⟩, hc1, hk1⟩
  obtain ⟨n0, rfl⟩ := Int.eq_ofNat_of_zero_le hx0
  have HA1 : Hid (AkSt w c w1 (.slice (some ⟨w.heap.size, 0, none⟩) 0 0) []) := ⟨⟨rfl, .inr ⟨w.heap.size, 0, #[], rfl, Nat.le_refl _, blk_kept (Blk.new _ _ _) hk1 (by have := HL.out; omega), Nat.le_refl _, by simp [maxLen], rfl, rfl⟩⟩, ⟨_, _, rfl⟩, fun x hx => by simp at hx, hc1, ((Kept.refl c w).alloc _).trans hk1, HL.out⟩
  clear hc1 hk1
  go_wp2
  go_loopw [3, 4] (fun v i wr => ∃ (k : Nat) (xs : List ARow), i = .int .i64 k ∧ k ≤ n0 ∧ xs.length + k = n0 ∧ AkSt w c wr v xs) (fun _ i _ => (intOf i).toNat)
  case atStart => exact ⟨n0, [], rfl, Nat.le_refl _, by simp, HA1.out⟩
  case round =>
    obtain ⟨k, xs, rfl, hk, hxk, hst⟩ := hrel
    obtain ⟨g, cp, rfl⟩ := hst.lies
    have HS : Hid (AkSt w c wr (.slice (some ⟨g, 0, none⟩) xs.length cp) xs) := hst
    clear hst
    by_cases hlt : 0 < k
    · have hlt' : (0 : Int) < (k : Int) := by omega
      go_wp2_with fail
      refine (l4Draw_any c _ HS.out.cur).mono ?_
      rintro r w2 ⟨g2, c2, p, s, e, n, rfl, hst, hp, hs, he, hn⟩
      have HS2 : Hid (AkSt w c w2 (.slice (some ⟨g, 0, none⟩) xs.length cp) xs) := HS.out.keep hst.cur hst.kept
      have HX2 : Hid (OwnA w.heap.size w2 (g2, c2, ⟨p, s, e, n⟩)) := by
        rcases hst.own.2 with ⟨e', _⟩ | ⟨g', c', cur, e', hb, hcur, hcc, _, hz, ht⟩
        · cases e'
        · cases e'
          refine ⟨Nat.le_trans HS.out.kept.size hb, ⟨cur, hcur, fun j hj => ?_⟩, hp, hst.fit, hs, he, hn⟩
          have hj' : j < p.length := hj
          have h2 := LabR.flat_get p j hj'
          have hl := LabR.flat_len p
          rw [← ht, List.getElem?_take_of_lt (by omega), List.getElem?_take_of_lt (by omega)] at h2
          simpa using h2
      clear hst hp hs he hn
      go_wp2_with (at_builtin; refine wpList_append_own_at _ rfl _ _ 24 rfl w.heap.size 32 i0 (.agg #[.slice none 0 0, .int .i64 0, .int .i64 0, .string ByteArray.empty]) 4 56 Try.underlying24 hi hz0 hz1 hz2 rfl (by decide) _ _ _ rfl ((HS2.out.alloc _).alloc _).own ⟨w2.heap.size + 1, 0, none⟩ 1 1 (flatA [(g2, c2, ⟨p, s, e, n⟩)]) ?c0 rfl ?c1 ?c2 ?c3 ?c4 ?c5 ?_)
      case c0 => simp [Act.eval]
      case c1 => exact blk_news (M := w2.heap.size + 1) (Blk.new_at (by simp))
      case c2 => exact flatA_one _
      case c3 => unfold maxLen; omega
      case c4 => omega
      case c5 => have := HS2.out.kept.size; simp; omega
      intro v' w4 hown hg _ hat
      have HS4 : Hid (AkSt w c w4 v' (xs ++ [(g2, c2, ⟨p, s, e, n⟩)])) := ((HS2.out.alloc _).alloc _).add (HX2.out.to fun ds hd => (hd.alloc _).alloc _) hown hg
      clear hown hg hat
      go_wp2
      go_roundw
      case rel => exact ⟨k - 1, _, by go_num, by omega, by simp; omega, HS4.out⟩
      case measure => simp [intOf]; omega
    · have hge : ¬ (0 : Int) < (k : Int) := by omega
      go_wp2
      go_ret
      exact ⟨_, rfl, xs, HS.out, by omega⟩

theorem drawKeys_any (a : Option Addr) (len cap : Nat) (w : World) (hl : len ≤ maxLen) (hb : Bytes w a len w.heap.size) :
    Calls Try.prog 10 #[.slice a len cap] w fun e w' => (∃ (g c : Nat) (P : List PAl) (g' c' : Nat) (xs : List ByteArray), e = .returned (.tuple #[.slice (some ⟨g, 0, none⟩) P.length c, .slice (some ⟨g', 0, none⟩) xs.length c']) ∧ RdA w' (some ⟨g, 0, none⟩) P ∧ RdS w' (some ⟨g', 0, none⟩) xs ∧ P.length ≤ 5 ∧ sumL P ≤ 40 ∧ xs.length ≤ 3) ∧ Below w.heap.size w w' := by
  have HB : Hid (Bytes w a len w.heap.size) := hb
  have HL : Hid (len ≤ maxLen) := hl
  clear hb hl
  go_enter Try.func10, Try.ntmps10
  go_wp2_with fail
  refine (new_any a len cap _ HL.out HB.out).mono ?_
  rintro e w1 ⟨rfl, hc1, hb1⟩
  have HC1 : Hid (Cur w1 w.heap.size ∧ Below w.heap.size w w1) := ⟨hc1, hb1⟩
  clear hc1 hb1
  go_wp2_with fail
  refine (l5List_any _ _ HC1.out.1).mono ?_
  rintro e w2 ⟨v, rfl, ys, hst, hp⟩
  obtain ⟨g, c, rfl⟩ := hst.lies
  have HS2 : Hid (AkSt w1 w.heap.size w2 (.slice (some ⟨g, 0, none⟩) ys.length c) ys) := hst
  clear hst
  go_wp2_with fail
  refine (l5By_any _ _ HS2.out.cur).mono ?_
  rintro e w3 ⟨v, rfl, xs, hst, hx⟩
  obtain ⟨g', c', rfl⟩ := hst.lies
  have HS3 : Hid (SSt w2 w.heap.size w3 (.slice (some ⟨g', 0, none⟩) xs.length c') xs) := hst
  have HS4 : Hid (AkSt w1 w.heap.size w3 (.slice (some ⟨g, 0, none⟩) ys.length c) ys) := HS2.out.keep hst.cur hst.kept
  clear hst
  go_wp2
  go_ret2
  refine ⟨⟨g, c, pals ys, g', c', xs, by rw [pals_len]; rfl, HS4.out.reads, HS3.out.reads, by rw [pals_len]; exact hp, ?_, by omega⟩, low_of HC1.out.2 HC1.out.1.lt HS4.out.kept⟩
  have := sum_few ys fun x hx => (HS4.out.each x hx).few
  omega

theorem rds_kept {c g : Nat} {w w' : World} {xs : List ByteArray} (h : RdS w (some ⟨g, 0, none⟩) xs) (hk : Kept c w w') (hne : g ≠ c) : RdS w' (some ⟨g, 0, none⟩) xs := by
  rcases h with h | ⟨b, off, e, hlt, hc⟩
  · exact .inl h
  · cases e
    exact .inr ⟨g, 0, rfl, Nat.lt_of_lt_of_le hlt hk.size, fun i hi => by rw [hk.cell (p := ⟨g, 0 + i, none⟩) hlt hne]; exact hc i hi⟩
theorem rds_set4 {w : World} {M g : Nat} {xs : List ByteArray} (h : RdS w (some ⟨g, 0, none⟩) xs) (hne : g ≠ M) (v0 v1 v2 v3 : Value) : RdS ((((w.setCell ⟨M, 0, none⟩ v0).setCell ⟨M, 1, none⟩ v1).setCell ⟨M, 2, none⟩ v2).setCell ⟨M, 3, none⟩ v3) (some ⟨g, 0, none⟩) xs :=
  rds_kept (c := M) h (((((Kept.refl M w).setCell 0 v0).setCell 1 v1).setCell 2 v2).setCell 3 v3) hne
theorem cells8 {w : World} {M N : Nat} {v0 v1 v2 v3 u0 u1 u2 u3 : Value} {T : TypeId} (h : Blk w M #[v0, v1, v2, v3] T) (k : Blk w N #[u0, u1, u2, u3] T) : w.cell? ⟨M, 0, none⟩ = some v0 ∧ w.cell? ⟨M, 1, none⟩ = some v1 ∧ w.cell? ⟨M, 2, none⟩ = some v2 ∧ w.cell? ⟨M, 3, none⟩ = some v3 ∧ w.cell? ⟨N, 0, none⟩ = some u0 ∧ w.cell? ⟨N, 1, none⟩ = some u1 ∧ w.cell? ⟨N, 2, none⟩ = some u2 ∧ w.cell? ⟨N, 3, none⟩ = some u3 :=
  ⟨h.cell 0, h.cell 1, h.cell 2, h.cell 3, k.cell 0, k.cell 1, k.cell 2, k.cell 3⟩
theorem SSt.blk {w : World} {c : Nat} {wr : World} {g cap : Nat} {xs : List ByteArray} {n : Nat} (h : SSt w c wr (.slice (some ⟨g, 0, none⟩) n cap) xs) : w.heap.size ≤ g ∧ g < wr.heap.size := h.own.lt g rfl

set_option maxRecDepth 100000 in
set_option maxHeartbeats 3200000 in
theorem drawKeyOf_any (a : Option Addr) (len cap : Nat) (w : World) (hl : len ≤ maxLen) (hb : Bytes w a len w.heap.size) :
    Calls Try.prog 16 #[.slice a len cap] w fun r w' => (∃ (g cap : Nat) (p : List Lab) (s e : Int) (n : ByteArray) (g' c' : Nat) (xs : List ByteArray), r = .returned (.tuple #[.agg #[.slice (some ⟨g, 0, none⟩) p.length cap, .int .i64 s, .int .i64 e, .string n], .slice (some ⟨g', 0, none⟩) xs.length c']) ∧ Drawn w' g p s e n ∧ RdS w' (some ⟨g', 0, none⟩) xs ∧ xs.length ≤ 3) ∧ Below w.heap.size w w' := by
  have HB : Hid (Bytes w a len w.heap.size) := hb
  have HL : Hid (len ≤ maxLen) := hl
  clear hb hl
  go_enter Try.func16, Try.ntmps16
  go_wp2_with fail
  refine (new_any a len cap _ HL.out (LawB.bytes_up HB.out (Go.Joins.below_alloc1 w _))).mono ?_
  rintro r w1 ⟨rfl, hc1, hb1⟩
  have HC1 : Hid (Cur w1 (w.heap.size + 1)) := by simp at hc1; exact hc1
  have HR1 : Hid (Blk w1 w.heap.size #[.slice none 0 0, .int .i64 0, .int .i64 0, .string ⟨#[]⟩] 32) := (Blk.new _ _ _).grow hb1
  have HB1 : Hid (Below w.heap.size w w1) := grow_on (Go.Joins.below_alloc1 w _) hb1
  clear hc1 hb1
  go_wp2_with fail
  refine (l4Any_any (w.heap.size + 1) _ HC1.out).mono ?_
  rintro r w2 ⟨g, c1, p, s, e, n, rfl, hst, hp, hs, he, hn⟩
  have HN : Hid (w.heap.size + 1 < g ∧ g < w2.heap.size) := ⟨Nat.lt_of_lt_of_le HC1.out.lt hst.blk.1, hst.blk.2⟩
  have HD2 : Hid (Drawn w2 g p s e n) := ⟨hst.reads, hp, hst.fit, hs, he, hn⟩
  have HC2 : Hid (Cur w2 (w.heap.size + 1)) := hst.cur
  have HB2 : Hid (Below w.heap.size w w2) := HB1.out.trans (hst.kept.below (by omega) HB1.out.size)
  have HR2 : Hid (Blk w2 w.heap.size #[.slice none 0 0, .int .i64 0, .int .i64 0, .string ⟨#[]⟩] 32) := blk_kept HR1.out hst.kept (by omega)
  clear hst hp hs he hn HR1 HC1 HB1
  go_wp2
  generalize hz : w2.alloc (.cells #[.slice (some ⟨g, 0, none⟩) p.length c1, .int .i64 s, .int .i64 e, .string n] 32) = w3
  have HA3 : Hid (Blk w3 w2.heap.size #[.slice (some ⟨g, 0, none⟩) p.length c1, .int .i64 s, .int .i64 e, .string n] 32) := by rw [← hz]; exact Blk.new _ _ _
  have HR3 : Hid (Blk w3 w.heap.size #[.slice none 0 0, .int .i64 0, .int .i64 0, .string ⟨#[]⟩] 32) := by rw [← hz]; exact HR2.out.alloc _
  have HD3 : Hid (Drawn w3 g p s e n) := by rw [← hz]; exact HD2.out.below (Go.Joins.below_alloc1 w2 _)
  have HB3 : Hid (Below w.heap.size w w3) := by rw [← hz]; exact HB2.out.alloc HB2.out.size _
  have HC3 : Hid (Cur w3 (w.heap.size + 1)) := by rw [← hz]; exact HC2.out.alloc _
  have HNN : Hid (w.heap.size + 1 < g ∧ g < w2.heap.size ∧ w2.heap.size < w3.heap.size) := ⟨HN.out.1, HN.out.2, HA3.out.lt⟩
  clear hz HN HD2 HC2 HB2 HR2
  generalize w2.heap.size = A at HA3 HNN ⊢
  have d1 : ¬ A = w.heap.size := by have := HNN.out; omega
  have d2 : ¬ w.heap.size = A := by have := HNN.out; omega
  have HCP : Hid (Calls Try.prog 52 #[.pointer (some ⟨w.heap.size + 1, 0, none⟩)] w3.drew fun r w' => ∃ v, r = .returned v ∧ ∃ xs, SSt w3.drew (w.heap.size + 1) w' v xs ∧ xs.length ≤ 3) := l5Any_any (w.heap.size + 1) w3.drew (Cur.drewN HC3.out 1)
  go_region_held3 (fun w' => w'.cell? ⟨A, 0, none⟩ = some (.slice (some ⟨g, 0, none⟩) p.length c1) ∧ w'.cell? ⟨A, 1, none⟩ = some (.int .i64 s) ∧ w'.cell? ⟨A, 2, none⟩ = some (.int .i64 e) ∧ w'.cell? ⟨A, 3, none⟩ = some (.string n)) (first | (with_reducible exact cells4 (Blk.drew HA3.out)) | (with_reducible exact cells4 hA4) | (with_reducible exact cells4 (Alm.blk4 hA4 (by omega) _ _ _ _)) | (go_keep; done)) (first
    | (go_at_call 52; refine HCP.out.mono ?_; rintro r w4 ⟨v, rfl, xs, hst, hx⟩; obtain ⟨g', c', rfl⟩ := hst.lies; (have hk4 := kept_drew hst.kept); (have hA4 := blk_kept HA3.out hk4 (by have := HNN.out; omega)); (have hR := blk_kept HR3.out hk4 (by omega))
       have R0 : w4.cell? ⟨w.heap.size, 0, none⟩ = some (.slice none 0 0) := hR.cell 0
       have R1 : w4.cell? ⟨w.heap.size, 1, none⟩ = some (.int .i64 0) := hR.cell 1
       have R2 : w4.cell? ⟨w.heap.size, 2, none⟩ = some (.int .i64 0) := hR.cell 2
       have R3 : w4.cell? ⟨w.heap.size, 3, none⟩ = some (.string ⟨#[]⟩) := hR.cell 3
       have fR0 := hR.frozen 0
       have fR1 := hR.frozen 1
       have fR2 := hR.frozen 2
       have fR3 := hR.frozen 3
       ))
  have HD4 : Hid (Drawn w4 g p s e n) := drawn_kept HD3.out hk4 (by have := HNN.out; omega)
  have HX4 : Hid (RdS w4 (some ⟨g', 0, none⟩) xs) := hst.reads
  have HM : Hid (w3.heap.size ≤ g') := hst.blk.1
  have HB4 : Hid (Below w.heap.size w w4) := HB3.out.trans (hk4.below (by omega) HB3.out.size)
  clear hk4 hst hA4 hR HCP
  go_wp2
  refine bodyPost_ret (v := .tuple #[.agg #[.slice (some ⟨g, 0, none⟩) p.length c1, .int .i64 s, .int .i64 e, .string n], .slice (some ⟨g', 0, none⟩) xs.length c']) (by simp [results, Try.results16, go_sem, R0, R1, R2, R3]) rfl ?_
  have h0 := HNN.out
  have h1 := HM.out
  exact ⟨⟨g, c1, p, s, e, n, g', c', xs, rfl, drawn_set4 HD4.out (by omega) _ _ _ _, rds_set4 HX4.out (by omega) _ _ _ _, hx⟩, Alm.set4 HB4.out (Nat.le_refl _) _ _ _ _⟩

set_option maxRecDepth 100000 in
set_option maxHeartbeats 3200000 in
theorem drawTogether_any (a : Option Addr) (len cap : Nat) (w : World) (hl : len ≤ maxLen) (hb : Bytes w a len w.heap.size) :
    Calls Try.prog 12 #[.slice a len cap] w fun r w' => (∃ (g cap : Nat) (p : List Lab) (s e : Int) (n : ByteArray) (g' cap' : Nat) (q : List Lab) (s' e' : Int) (n' : ByteArray) (g3 c3 : Nat) (xs : List ByteArray), r = .returned (.tuple #[.agg #[.slice (some ⟨g, 0, none⟩) p.length cap, .int .i64 s, .int .i64 e, .string n], .agg #[.slice (some ⟨g', 0, none⟩) q.length cap', .int .i64 s', .int .i64 e', .string n'], .slice (some ⟨g3, 0, none⟩) xs.length c3]) ∧ Drawn w' g p s e n ∧ Drawn w' g' q s' e' n' ∧ RdS w' (some ⟨g3, 0, none⟩) xs ∧ xs.length ≤ 3) ∧ Below w.heap.size w w' := by
  have HB : Hid (Bytes w a len w.heap.size) := hb
  have HL : Hid (len ≤ maxLen) := hl
  clear hb hl
  go_enter Try.func12, Try.ntmps12
  go_wp2_with fail
  refine (new_any a len cap _ HL.out (LawB.bytes_up HB.out (Go.Joins.below_alloc2 w _ _))).mono ?_
  rintro r w1 ⟨rfl, hc1, hb1⟩
  have HC1 : Hid (Cur w1 (w.heap.size + 2)) := by simp at hc1; exact hc1
  have HR1 : Hid (Blk w1 w.heap.size #[.slice none 0 0, .int .i64 0, .int .i64 0, .string ⟨#[]⟩] 32) := ((Blk.new _ _ _).alloc _).grow hb1
  have HV1 : Hid (Blk w1 (w.heap.size + 1) #[.slice none 0 0, .int .i64 0, .int .i64 0, .string ⟨#[]⟩] 32) := (Blk.new_at (by simp)).grow hb1
  have HB1 : Hid (Below w.heap.size w w1) := grow_on (Go.Joins.below_alloc2 w _ _) hb1
  clear hc1 hb1
  go_wp2_with fail
  refine (l4Draw_any (w.heap.size + 2) _ HC1.out).mono ?_
  rintro r w2 ⟨g, c1, p, s, e, n, rfl, hst, hp, hs, he, hn⟩
  have HN : Hid (w.heap.size + 2 < g ∧ g < w2.heap.size) := ⟨Nat.lt_of_lt_of_le HC1.out.lt hst.blk.1, hst.blk.2⟩
  have HD2 : Hid (Drawn w2 g p s e n) := ⟨hst.reads, by omega, hst.fit, hs, he, hn⟩
  have HC2 : Hid (Cur w2 (w.heap.size + 2)) := hst.cur
  have HB2 : Hid (Below w.heap.size w w2) := HB1.out.trans (hst.kept.below (by omega) HB1.out.size)
  have HR2 : Hid (Blk w2 w.heap.size #[.slice none 0 0, .int .i64 0, .int .i64 0, .string ⟨#[]⟩] 32) := blk_kept HR1.out hst.kept (by omega)
  have HV2 : Hid (Blk w2 (w.heap.size + 1) #[.slice none 0 0, .int .i64 0, .int .i64 0, .string ⟨#[]⟩] 32) := blk_kept HV1.out hst.kept (by omega)
  clear hst hp hs he hn HR1 HC1 HB1 HV1
  go_wp2_with fail
  refine (l4Draw_any (w.heap.size + 2) _ (HC2.out.alloc _)).mono ?_
  rintro r w3 ⟨g', c2, q, s', e', n', rfl, hst, hp, hs, he, hn⟩
  have HA3 : Hid (Blk w3 w2.heap.size #[.slice (some ⟨g, 0, none⟩) p.length c1, .int .i64 s, .int .i64 e, .string n] 32) := blk_kept (Blk.new _ _ _) hst.kept (by have := HN.out; omega)
  have HR3 : Hid (Blk w3 w.heap.size #[.slice none 0 0, .int .i64 0, .int .i64 0, .string ⟨#[]⟩] 32) := blk_kept (HR2.out.alloc _) hst.kept (by omega)
  have HV3 : Hid (Blk w3 (w.heap.size + 1) #[.slice none 0 0, .int .i64 0, .int .i64 0, .string ⟨#[]⟩] 32) := blk_kept (HV2.out.alloc _) hst.kept (by omega)
  have HD3 : Hid (Drawn w3 g p s e n) := drawn_kept (HD2.out.below (Go.Joins.below_alloc1 w2 _)) hst.kept (by have := HN.out; omega)
  have HE3 : Hid (Drawn w3 g' q s' e' n') := ⟨hst.reads, by omega, hst.fit, hs, he, hn⟩
  have HB3 : Hid (Below w.heap.size w w3) := (HB2.out.alloc HB2.out.size _).trans (hst.kept.below (by omega) (by have := HB2.out.size; simp; omega))
  have HC3 : Hid (Cur w3 (w.heap.size + 2)) := hst.cur
  have HNN : Hid (w.heap.size + 2 < g ∧ g < w2.heap.size ∧ w2.heap.size < g' ∧ g' < w3.heap.size) := by have h := hst.blk; simp at h; exact ⟨HN.out.1, HN.out.2, by omega, h.2⟩
  clear hst hp hs he hn HN HD2 HC2 HB2 HR2 HV2
  go_wp2
  generalize hz : w3.alloc (.cells #[.slice (some ⟨g', 0, none⟩) q.length c2, .int .i64 s', .int .i64 e', .string n'] 32) = z
  have HAz : Hid (Blk z w2.heap.size #[.slice (some ⟨g, 0, none⟩) p.length c1, .int .i64 s, .int .i64 e, .string n] 32) := by rw [← hz]; exact HA3.out.alloc _
  have HBz : Hid (Blk z w3.heap.size #[.slice (some ⟨g', 0, none⟩) q.length c2, .int .i64 s', .int .i64 e', .string n'] 32) := by rw [← hz]; exact Blk.new _ _ _
  have HRz : Hid (Blk z w.heap.size #[.slice none 0 0, .int .i64 0, .int .i64 0, .string ⟨#[]⟩] 32) := by rw [← hz]; exact HR3.out.alloc _
  have HVz : Hid (Blk z (w.heap.size + 1) #[.slice none 0 0, .int .i64 0, .int .i64 0, .string ⟨#[]⟩] 32) := by rw [← hz]; exact HV3.out.alloc _
  have HDz : Hid (Drawn z g p s e n) := by rw [← hz]; exact HD3.out.below (Go.Joins.below_alloc1 w3 _)
  have HEz : Hid (Drawn z g' q s' e' n') := by rw [← hz]; exact HE3.out.below (Go.Joins.below_alloc1 w3 _)
  have HLz : Hid (Below w.heap.size w z) := by rw [← hz]; exact HB3.out.alloc HB3.out.size _
  have HCz : Hid (Cur z (w.heap.size + 2)) := by rw [← hz]; exact HC3.out.alloc _
  have HZz : Hid (w3.heap.size < z.heap.size) := HBz.out.lt
  clear hz HA3 HR3 HV3 HD3 HE3 HB3 HC3
  generalize w2.heap.size = A at HAz HNN ⊢
  generalize w3.heap.size = B at HBz HNN HZz ⊢
  have d1 : ¬ A = w.heap.size := by have := HNN.out; omega
  have d2 : ¬ w.heap.size = A := by have := HNN.out; omega
  have d3 : ¬ B = w.heap.size := by have := HNN.out; omega
  have d4 : ¬ w.heap.size = B := by have := HNN.out; omega
  have d5 : ¬ A = w.heap.size + 1 := by have := HNN.out; omega
  have d6 : ¬ w.heap.size + 1 = A := by have := HNN.out; omega
  have d7 : ¬ B = w.heap.size + 1 := by have := HNN.out; omega
  have d8 : ¬ w.heap.size + 1 = B := by have := HNN.out; omega
  have HCP : Hid (Calls Try.prog 48 #[.pointer (some ⟨w.heap.size + 2, 0, none⟩)] z.drew fun r w' => ∃ v, r = .returned v ∧ ∃ xs, SSt z.drew (w.heap.size + 2) w' v xs ∧ xs.length ≤ 2) := l5By_any (w.heap.size + 2) z.drew (Cur.drewN HCz.out 1)
  go_region_held3 (fun w' => w'.cell? ⟨A, 0, none⟩ = some (.slice (some ⟨g, 0, none⟩) p.length c1) ∧ w'.cell? ⟨A, 1, none⟩ = some (.int .i64 s) ∧ w'.cell? ⟨A, 2, none⟩ = some (.int .i64 e) ∧ w'.cell? ⟨A, 3, none⟩ = some (.string n) ∧ w'.cell? ⟨B, 0, none⟩ = some (.slice (some ⟨g', 0, none⟩) q.length c2) ∧ w'.cell? ⟨B, 1, none⟩ = some (.int .i64 s') ∧ w'.cell? ⟨B, 2, none⟩ = some (.int .i64 e') ∧ w'.cell? ⟨B, 3, none⟩ = some (.string n')) (first | (with_reducible exact cells8 (Blk.drew HAz.out) (Blk.drew HBz.out)) | (with_reducible exact cells8 hA4 hB4) | (with_reducible exact cells8 (Alm.blk4 hA4 (by omega) _ _ _ _) (Alm.blk4 hB4 (by omega) _ _ _ _)) | (with_reducible exact cells8 (Alm.blk4 (Alm.blk4 hA4 (by omega) _ _ _ _) (by omega) _ _ _ _) (Alm.blk4 (Alm.blk4 hB4 (by omega) _ _ _ _) (by omega) _ _ _ _)) | (go_keep; done)) (first
    | (go_at_call 48; refine HCP.out.mono ?_; rintro r w4 ⟨v, rfl, xs, hst, hx⟩; obtain ⟨g3, c3, rfl⟩ := hst.lies; (have hk4 := kept_drew hst.kept); (have hA4 := blk_kept HAz.out hk4 (by have := HNN.out; omega)); (have hB4 := blk_kept HBz.out hk4 (by have := HNN.out; omega)); (have hR := blk_kept HRz.out hk4 (by omega)); (have hV := blk_kept HVz.out hk4 (by omega))
       have R0 : w4.cell? ⟨w.heap.size, 0, none⟩ = some (.slice none 0 0) := hR.cell 0
       have R1 : w4.cell? ⟨w.heap.size, 1, none⟩ = some (.int .i64 0) := hR.cell 1
       have R2 : w4.cell? ⟨w.heap.size, 2, none⟩ = some (.int .i64 0) := hR.cell 2
       have R3 : w4.cell? ⟨w.heap.size, 3, none⟩ = some (.string ⟨#[]⟩) := hR.cell 3
       have fR0 := hR.frozen 0
       have fR1 := hR.frozen 1
       have fR2 := hR.frozen 2
       have fR3 := hR.frozen 3
       have V0 : w4.cell? ⟨w.heap.size + 1, 0, none⟩ = some (.slice none 0 0) := hV.cell 0
       have V1 : w4.cell? ⟨w.heap.size + 1, 1, none⟩ = some (.int .i64 0) := hV.cell 1
       have V2 : w4.cell? ⟨w.heap.size + 1, 2, none⟩ = some (.int .i64 0) := hV.cell 2
       have V3 : w4.cell? ⟨w.heap.size + 1, 3, none⟩ = some (.string ⟨#[]⟩) := hV.cell 3
       have fV0 := hV.frozen 0
       have fV1 := hV.frozen 1
       have fV2 := hV.frozen 2
       have fV3 := hV.frozen 3
       ))
  have HD4 : Hid (Drawn w4 g p s e n) := drawn_kept HDz.out hk4 (by have := HNN.out; omega)
  have HE4 : Hid (Drawn w4 g' q s' e' n') := drawn_kept HEz.out hk4 (by have := HNN.out; omega)
  have HX4 : Hid (RdS w4 (some ⟨g3, 0, none⟩) xs) := hst.reads
  have HM : Hid (z.heap.size ≤ g3) := hst.blk.1
  have HB4 : Hid (Below w.heap.size w w4) := HLz.out.trans (hk4.below (by omega) HLz.out.size)
  clear hk4 hst hA4 hB4 hR hV HCP
  go_wp2
  refine bodyPost_ret (v := .tuple #[.agg #[.slice (some ⟨g, 0, none⟩) p.length c1, .int .i64 s, .int .i64 e, .string n], .agg #[.slice (some ⟨g', 0, none⟩) q.length c2, .int .i64 s', .int .i64 e', .string n'], .slice (some ⟨g3, 0, none⟩) xs.length c3]) (by simp [results, Try.results12, go_sem, R0, R1, R2, R3, V0, V1, V2, V3]) rfl ?_
  have h0 := HNN.out
  have h1 := HM.out
  have h2 := HZz.out
  exact ⟨⟨g, c1, p, s, e, n, g', c2, q, s', e', n', g3, c3, xs, rfl, drawn_set4 (drawn_set4 HD4.out (by omega) _ _ _ _) (by omega) _ _ _ _, drawn_set4 (drawn_set4 HE4.out (by omega) _ _ _ _) (by omega) _ _ _ _, rds_set4 (rds_set4 HX4.out (by omega) _ _ _ _) (by omega) _ _ _ _, by omega⟩, Alm.set4 (Alm.set4 HB4.out (Nat.le_refl _) _ _ _ _) (by omega) _ _ _ _⟩
end Go.Proofs.Ytmachabgnbpeaaa.DrawK
