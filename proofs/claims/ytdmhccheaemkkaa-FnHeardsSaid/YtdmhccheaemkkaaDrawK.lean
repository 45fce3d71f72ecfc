/-
  PROVED: the contracts of the drawing of names and of lists of alarms: l5By, l5Any, l5List, and of the draws that FnKeys begins with; nothing that was there is changed.
-/
import Derived.Test.YtdmhccheaemkkaaDrawB
import Derived.Test.YtdmhccheaemkkaaPro
import Derived.Test.YtdmhccheaemkkaaAlmsK
namespace Go.Proofs.Ytdmhccheaemkkaa.DrawK
open Go.RowKit
open Go.Proofs.Ytdmhccheaemkkaa.Draw
open Go.Proofs.Ytdmhccheaemkkaa.Labs Go.Proofs.Ytdmhccheaemkkaa.LabS Go.Proofs.Ytdmhccheaemkkaa.Over Go.Proofs.Ytdmhccheaemkkaa.Blk Go.Proofs.Ytdmhccheaemkkaa.App Go.Proofs.Ytdmhccheaemkkaa.DrawL Go.Proofs.Ytdmhccheaemkkaa.DrawT Go.Proofs.Ytdmhccheaemkkaa.DrawA Go.Proofs.Ytdmhccheaemkkaa.DrawB
open Go.Proofs.Ytdmhccheaemkkaa.Pro (RdS nthS)
open Go.Proofs.Ytdmhccheaemkkaa.LabT (Held held_reads)
open Go.Proofs.Ytdmhccheaemkkaa.Alms (PAl nthP RdA FitsP FitA sumL At nthP_eq infoA)
open Go.Proofs.Ytdmhccheaemkkaa.StrT (FitsS)
set_option linter.unusedVariables false

/-- the names drawn so far in a row of the call's own, the cursor, and all that is older than w -/
structure SSt (w : World) (c : Nat) (wr : World) (v : Value) (xs : List ByteArray) : Prop where
  own : wr.ownsRow w.heap.size 9 1 v xs.length (xs.map Value.string)
  lies : ∃ g cap, v = .slice (some ⟨g, 0, none⟩) xs.length cap
  cur : Cur wr c
  kept : Kept c w wr
  clt : c < w.heap.size
  fit : ∀ s ∈ xs, s.size ≤ 100
theorem SSt.lt {w : World} {c : Nat} {wr : World} {v : Value} {xs : List ByteArray} (h : SSt w c wr v xs) : ∀ k, v.ownBlock = some k → c < k := fun k hk => by
  have := (h.own.lt k hk).1; have := h.clt; omega
theorem SSt.keep {w : World} {c : Nat} {wr w' : World} {v : Value} {xs : List ByteArray} (h : SSt w c wr v xs) (hc : Cur w' c) (hk : Kept c wr w') : SSt w c w' v xs :=
  ⟨h.own.kept hk.grown (by
      cases hv : v.ownBlock with
      | none => exact .inl rfl
      | some k => exact .inr (fun e => by have := h.lt k hv; cases e; omega)), h.lies, hc, h.kept.trans hk, h.clt, h.fit⟩
theorem SSt.alloc {w : World} {c : Nat} {wr : World} {v : Value} {xs : List ByteArray} (h : SSt w c wr v xs) (o : Obj) : SSt w c (wr.alloc o) v xs :=
  h.keep (h.cur.alloc o) ((Kept.refl c wr).alloc o)
theorem sst_new {w : World} {c : Nat} {W : World} (xs : List ByteArray) (cs : Array Value) (n : Nat) (hc : Cur W c) (hk : Kept c w W) (hcl : c < w.heap.size) (he : cs.toList = xs.map Value.string) (hn : n = xs.length) (h5 : xs.length ≤ 5) (hf : ∀ s ∈ xs, s.size ≤ 100) :
    SSt w c (W.alloc (.cells cs 9)) (.slice (some ⟨W.heap.size, 0, none⟩) n n) xs := by
  subst hn
  have hs : cs.size = xs.length := by rw [← Array.length_toList, he, List.length_map]
  refine ⟨⟨by simp, .inr ⟨W.heap.size, xs.length, cs, rfl, hk.size, Blk.new _ _ _, Nat.le_refl _, by unfold maxLen; omega, by omega, ?_⟩⟩, ⟨_, _, rfl⟩, hc.alloc _, hk.alloc _, hcl, hf⟩
  rw [he]
  exact List.take_of_length_le (by simp)
theorem SSt.add {w : World} {c : Nat} {W w' : World} {v v' : Value} {xs : List ByteArray} {s : ByteArray} (h : SSt w c W v xs) (hs : s.size ≤ 100)
    (hown : w'.ownsRow w.heap.size 9 1 v' (xs.length + 1) (xs.map Value.string ++ [.string s])) (hg : W.grownBy w' v.ownBlock) : SSt w c w' v' (xs ++ [s]) := by
  have ho : w'.ownsRow w.heap.size 9 1 v' (xs ++ [s]).length ((xs ++ [s]).map Value.string) := by rw [List.map_append, List.length_append]; exact hown
  obtain ⟨g, cap, e⟩ := Go.Joins.ownsRow_form ho (by simp)
  refine ⟨ho, ⟨g, cap, e⟩, h.cur.grown hg h.lt, kept_grown (B := 0) h.kept hg (fun k hk => (h.own.lt k hk).1), h.clt, fun x hx => ?_⟩
  rcases List.mem_append.1 hx with hx | hx
  · exact h.fit x hx
  · rw [List.mem_singleton.1 hx]; exact hs
theorem SSt.reads {w : World} {c : Nat} {wr : World} {g cap : Nat} {xs : List ByteArray} {n : Nat} (h : SSt w c wr (.slice (some ⟨g, 0, none⟩) n cap) xs) : RdS wr (some ⟨g, 0, none⟩) xs := by
  refine .inr ⟨g, 0, rfl, (h.own.lt g rfl).2, fun i hi => ?_⟩
  have hx : (xs.map Value.string)[i]? = some (.string (nthS xs i)) := by
    show _ = some (Value.string (Go.Proofs.Ytdmhccheaemkkaa.StrB.nth xs i))
    rw [StrT.nthS_eq hi]; simp [hi]
  have hc := h.own.cells (g := g) rfl i _ hx
  have ea : (⟨g, 0, none⟩ : Addr).add i = ⟨g, 0 + i, none⟩ := by by_cases h : i = 0 <;> simp [Addr.add, h]
  rw [← ea]; exact hc
theorem SSt.fits {w : World} {c : Nat} {wr : World} {v : Value} {xs : List ByteArray} (h : SSt w c wr v xs) : FitsS xs := fun i hi => by
  rw [StrT.nthS_eq hi]
  have := h.fit _ (List.getElem_mem hi)
  unfold maxLen; omega
theorem infoS : (Try.prog.info? 9).map (fun i => (i.zero, i.size, i.bytes)) = some (some (.string ByteArray.empty), 1, 16) := by kernel_rfl

/-- an alarm of the drawn list in memory: its labels' block, their room, the alarm -/
abbrev ARow := Nat × Nat × PAl
def flatA : List ARow → List Value
  | [] => []
  | x :: l => .slice (some ⟨x.1, 0, none⟩) x.2.2.l.length x.2.1 :: .int .i64 x.2.2.s :: .int .i64 x.2.2.e :: .string x.2.2.n :: flatA l
theorem flatA_len : ∀ l : List ARow, (flatA l).length = l.length * 4
  | [] => rfl
  | x :: l => by simp only [flatA, List.length_cons]; rw [flatA_len l]; omega
theorem flatA_app (p q : List ARow) : flatA (p ++ q) = flatA p ++ flatA q := by
  induction p with
  | nil => rfl
  | cons x p ih => rw [List.cons_append, flatA, ih]; rfl
theorem flatA_one : ∀ (l : List ARow), ∀ v ∈ flatA l, v.oneCell' = true
  | [], v, h => by simp [flatA] at h
  | x :: l, v, h => by
    simp only [flatA, List.mem_cons] at h
    rcases h with rfl | rfl | rfl | rfl | h
    · rfl
    · rfl
    · rfl
    · rfl
    · exact flatA_one l v h
def nthA (l : List ARow) (i : Nat) : ARow := l.getD i (0, 0, ⟨[], 0, 0, ByteArray.empty⟩)
theorem nthA_eq {l : List ARow} {i : Nat} (h : i < l.length) : nthA l i = l[i] := by unfold nthA; simp [h]
theorem flatA_get : ∀ (l : List ARow) (m : Nat), m < l.length → (flatA l)[m * 4]? = some (.slice (some ⟨(nthA l m).1, 0, none⟩) (nthA l m).2.2.l.length (nthA l m).2.1) ∧ (flatA l)[m * 4 + 1]? = some (.int .i64 (nthA l m).2.2.s) ∧ (flatA l)[m * 4 + 2]? = some (.int .i64 (nthA l m).2.2.e) ∧ (flatA l)[m * 4 + 3]? = some (.string (nthA l m).2.2.n)
  | [], m, h => by simp at h
  | x :: l, 0, _ => ⟨rfl, rfl, rfl, rfl⟩
  | x :: l, m + 1, h => by
    have := flatA_get l m (by simpa using h)
    have e : (m + 1) * 4 = m * 4 + 4 := by omega
    rw [e]
    exact this
/-- what is known of each -/
structure OwnA (lo : Nat) (w : World) (x : ARow) : Prop where
  at' : lo ≤ x.1
  blk : ∃ ds : Array Value, Blk w x.1 ds 102 ∧ Held ds x.2.2.l x.2.2.l.length
  few : x.2.2.l.length ≤ 8
  small : Small x.2.2.l
  sb : I64 x.2.2.s
  eb : I64 x.2.2.e
  note : x.2.2.n.size ≤ 100
theorem OwnA.to {lo : Nat} {w w' : World} {x : ARow} (h : OwnA lo w x) (hb : ∀ ds, Blk w x.1 ds 102 → Blk w' x.1 ds 102) : OwnA lo w' x := by
  obtain ⟨ds, h1, h2⟩ := h.blk
  exact ⟨h.at', ⟨ds, hb ds h1, h2⟩, h.few, h.small, h.sb, h.eb, h.note⟩
/-- the alarms drawn so far -/
structure AkSt (w : World) (c : Nat) (wr : World) (v : Value) (xs : List ARow) : Prop where
  own : wr.ownsRow w.heap.size 29 4 v xs.length (flatA xs)
  lies : ∃ g cap, v = .slice (some ⟨g, 0, none⟩) xs.length cap
  each : ∀ x ∈ xs, OwnA w.heap.size wr x
  cur : Cur wr c
  kept : Kept c w wr
  clt : c < w.heap.size
theorem AkSt.lt {w : World} {c : Nat} {wr : World} {v : Value} {xs : List ARow} (h : AkSt w c wr v xs) : ∀ k, v.ownBlock = some k → c < k := fun k hk => by
  have := (h.own.lt k hk).1; have := h.clt; omega
theorem AkSt.keep {w : World} {c : Nat} {wr w' : World} {v : Value} {xs : List ARow} (h : AkSt w c wr v xs) (hc : Cur w' c) (hk : Kept c wr w') : AkSt w c w' v xs :=
  ⟨h.own.kept hk.grown (by
      cases hv : v.ownBlock with
      | none => exact .inl rfl
      | some k => exact .inr (fun e => by have := h.lt k hv; cases e; omega)), h.lies, fun x hx => (h.each x hx).to (fun ds hd => blk_kept hd hk (by have := (h.each x hx).at'; have := h.clt; omega)), hc, h.kept.trans hk, h.clt⟩
theorem AkSt.alloc {w : World} {c : Nat} {wr : World} {v : Value} {xs : List ARow} (h : AkSt w c wr v xs) (o : Obj) : AkSt w c (wr.alloc o) v xs :=
  h.keep (h.cur.alloc o) ((Kept.refl c wr).alloc o)
theorem tyneA : (29 : TypeId) ≠ 102 := by decide
theorem blk_neA {w : World} {a b : Nat} {cs ds : Array Value} (h : Blk w a cs 29) (k : Blk w b ds 102) : a ≠ b := fun e => by
  subst e
  unfold Blk at h k
  rw [h] at k
  injection k with k
  injection k with _ k
  exact tyneA k
theorem AkSt.add {w : World} {c : Nat} {W w' : World} {v v' : Value} {xs : List ARow} {x : ARow} (h : AkSt w c W v xs) (hx : OwnA w.heap.size W x)
    (hown : w'.ownsRow w.heap.size 29 4 v' (xs.length + 1) (flatA xs ++ flatA [x])) (hg : W.grownBy w' v.ownBlock) : AkSt w c w' v' (xs ++ [x]) := by
  have ho : w'.ownsRow w.heap.size 29 4 v' (xs ++ [x]).length (flatA (xs ++ [x])) := by rw [flatA_app, List.length_append]; exact hown
  obtain ⟨g, cap, e⟩ := Go.Joins.ownsRow_form ho (by simp)
  have far : ∀ y, OwnA w.heap.size W y → OwnA w.heap.size w' y := fun y hy => hy.to fun ds hd => by
    refine blk_far hd hg fun e => ?_
    rcases h.own.2 with ⟨e', _⟩ | ⟨g', c', cur, e', _, hcur, _⟩
    · rw [e'] at e; cases e
    · rw [e'] at e
      exact blk_neA hcur hd (Option.some.inj e).symm
  refine ⟨ho, ⟨g, cap, e⟩, fun y hy => ?_, h.cur.grown hg h.lt, kept_grown (B := 0) h.kept hg (fun k hk => (h.own.lt k hk).1), h.clt⟩
  rcases List.mem_append.1 hy with hy | hy
  · exact far y (h.each y hy)
  · rw [List.mem_singleton.1 hy]; exact far x hx
def pals (xs : List ARow) : List PAl := xs.map fun x => x.2.2
theorem pals_len (xs : List ARow) : (pals xs).length = xs.length := by simp [pals]
theorem pals_nth {xs : List ARow} {i : Nat} (h : i < xs.length) : nthP (pals xs) i = (nthA xs i).2.2 := by
  rw [nthP_eq (by rw [pals_len]; exact h), nthA_eq h]; simp [pals]
theorem AkSt.reads {w : World} {c : Nat} {wr : World} {g cap n : Nat} {xs : List ARow} (h : AkSt w c wr (.slice (some ⟨g, 0, none⟩) n cap) xs) : RdA wr (some ⟨g, 0, none⟩) (pals xs) := by
  have ea : ∀ j, (⟨g, 0, none⟩ : Addr).add j = ⟨g, j, none⟩ := fun j => by by_cases h : j = 0 <;> simp [Addr.add, h]
  refine .inr ⟨g, 0, rfl, (h.own.lt g rfl).2, fun i hi => ?_⟩
  rw [pals_len] at hi
  rw [pals_nth hi]
  obtain ⟨f0, f1, f2, f3⟩ := flatA_get xs i hi
  have c0 := h.own.cells (g := g) rfl _ _ f0
  have c1 := h.own.cells (g := g) rfl _ _ f1
  have c2 := h.own.cells (g := g) rfl _ _ f2
  have c3 := h.own.cells (g := g) rfl _ _ f3
  rw [ea] at c0 c1 c2 c3
  obtain ⟨ds, hd, hh⟩ := (h.each (nthA xs i) (by rw [nthA_eq hi]; exact List.getElem_mem _)).blk
  exact ⟨some ⟨(nthA xs i).1, 0, none⟩, (nthA xs i).2.1, by rw [Nat.zero_add]; exact c0, by rw [Nat.zero_add]; exact c1, by rw [Nat.zero_add]; exact c2, by rw [Nat.zero_add]; exact c3, held_reads hd hh⟩
theorem AkSt.fits {w : World} {c : Nat} {wr : World} {v : Value} {xs : List ARow} (h : AkSt w c wr v xs) : FitsP (pals xs) := fun i hi => by
  rw [pals_len] at hi
  rw [pals_nth hi]
  have hx := h.each (nthA xs i) (by rw [nthA_eq hi]; exact List.getElem_mem _)
  exact ⟨by have := hx.few; unfold maxLen; omega, small_fits hx.small, hx.sb, hx.eb, by have := hx.note; unfold maxLen; omega⟩
theorem sum_few : ∀ (xs : List ARow), (∀ x ∈ xs, x.2.2.l.length ≤ 8) → sumL (pals xs) ≤ 8 * xs.length
  | [], _ => by simp [pals, sumL]
  | x :: xs, h => by
    have h1 := h x (by simp)
    have h2 := sum_few xs fun y hy => h y (by simp [hy])
    show x.2.2.l.length + sumL (pals xs) ≤ _
    rw [List.length_cons]; omega

set_option maxRecDepth 100000 in
set_option maxHeartbeats 1600000 in
theorem l5List_any (c : Nat) (w : World) (hc : Cur w c) :
    Calls Try.prog 59 #[.pointer (some ⟨c, 0, none⟩)] w fun e w' => ∃ v, e = .returned v ∧ ∃ xs, AkSt w c w' v xs ∧ xs.length ≤ 5 := by
  have HC : Hid (Cur w c) := hc
  have HL : Hid (c < w.heap.size) := hc.lt
  clear hc
  obtain ⟨i0, hi, hz0, hz1, hz2⟩ := info_parts infoA
  go_enter Try.func59, Try.ntmps59
  go_wp2_with fail
  refine (below_any c 6 _ (HC.out.alloc _) (by decide) (by decide)).mono ?_
  rintro e w1 ⟨⟨x, rfl, hx0, hx1⟩, hc1, hk1⟩
  obtain ⟨n0, rfl⟩ := Int.eq_ofNat_of_zero_le hx0
  have HA1 : Hid (AkSt w c w1 (.slice (some ⟨w.heap.size, 0, none⟩) 0 0) []) := ⟨⟨rfl, .inr ⟨w.heap.size, 0, #[], rfl, Nat.le_refl _, blk_kept (Blk.new _ _ _) hk1 (by have := HL.out; omega), Nat.le_refl _, by simp [maxLen], rfl, rfl⟩⟩, ⟨_, _, rfl⟩, fun x hx => by simp at hx, hc1, ((Kept.refl c w).alloc _).trans hk1, HL.out⟩
  clear hc1 hk1
  go_wp2
  go_loopw [3, 4] (fun v i wr => ∃ (k : Nat) (xs : List ARow), i = .int .i64 k ∧ k ≤ n0 ∧ xs.length + k = n0 ∧ AkSt w c wr v xs) (fun _ i _ => (intOf i).toNat)
  case atStart => exact ⟨n0, [], rfl, Nat.le_refl _, by simp, HA1.out⟩
  case round =>
    obtain ⟨k, xs, rfl, hk, hxk, hst⟩ := hrel
    obtain ⟨g, cp, rfl⟩ := hst.lies
    have HS : Hid (AkSt w c wr (.slice (some ⟨g, 0, none⟩) xs.length cp) xs) := hst
    clear hst
    by_cases hlt : 0 < k
    · have hlt' : (0 : Int) < (k : Int) := by omega
      go_wp2_with fail
      refine (l4Draw_any c _ HS.out.cur).mono ?_
      rintro r w2 ⟨g2, c2, p, s, e, n, rfl, hst, hp, hs, he, hn⟩
      have HS2 : Hid (AkSt w c w2 (.slice (some ⟨g, 0, none⟩) xs.length cp) xs) := HS.out.keep hst.cur hst.kept
      have HX2 : Hid (OwnA w.heap.size w2 (g2, c2, ⟨p, s, e, n⟩)) := by
        rcases hst.own.2 with ⟨e', _⟩ | ⟨g', c', cur, e', hb, hcur, hcc, _, hz, ht⟩
        · cases e'
        · cases e'
          refine ⟨Nat.le_trans HS.out.kept.size hb, ⟨cur, hcur, fun j hj => ?_⟩, hp, hst.fit, hs, he, hn⟩
          have hj' : j < p.length := hj
          have h2 := LabR.flat_get p j hj'
          have hl := LabR.flat_len p
          rw [← ht, List.getElem?_take_of_lt (by omega), List.getElem?_take_of_lt (by omega)] at h2
          simpa using h2
      clear hst hp hs he hn
      go_wp2_with (at_builtin; refine wpList_append_own_at _ rfl _ _ 24 rfl w.heap.size 29 i0 (.agg #[.slice none 0 0, .int .i64 0, .int .i64 0, .string ByteArray.empty]) 4 56 Try.underlying24 hi hz0 hz1 hz2 rfl (by decide) _ _ _ rfl ((HS2.out.alloc _).alloc _).own ⟨w2.heap.size + 1, 0, none⟩ 1 1 (flatA [(g2, c2, ⟨p, s, e, n⟩)]) ?c0 rfl ?c1 ?c2 ?c3 ?c4 ?c5 ?_)
      case c0 => simp [Act.eval]
      case c1 => exact blk_news (M := w2.heap.size + 1) (Blk.new_at (by simp))
      case c2 => exact flatA_one _
      case c3 => unfold maxLen; omega
      case c4 => omega
      case c5 => have := HS2.out.kept.size; simp; omega
      intro v' w4 hown hg _ hat
      have HS4 : Hid (AkSt w c w4 v' (xs ++ [(g2, c2, ⟨p, s, e, n⟩)])) := ((HS2.out.alloc _).alloc _).add (HX2.out.to fun ds hd => (hd.alloc _).alloc _) hown hg
      clear hown hg hat
      go_wp2
      go_roundw
      case rel => exact ⟨k - 1, _, by go_num, by omega, by simp; omega, HS4.out⟩
      case measure => simp [intOf]; omega
    · have hge : ¬ (0 : Int) < (k : Int) := by omega
      go_wp2
      go_ret
      exact ⟨_, rfl, xs, HS.out, by omega⟩

theorem rds_kept {c g : Nat} {w w' : World} {xs : List ByteArray} (h : RdS w (some ⟨g, 0, none⟩) xs) (hk : Kept c w w') (hne : g ≠ c) : RdS w' (some ⟨g, 0, none⟩) xs := by
  rcases h with h | ⟨b, off, e, hlt, hc⟩
  · exact .inl h
  · cases e
    exact .inr ⟨g, 0, rfl, Nat.lt_of_lt_of_le hlt hk.size, fun i hi => by rw [hk.cell (p := ⟨g, 0 + i, none⟩) hlt hne]; exact hc i hi⟩
theorem rds_set4 {w : World} {M g : Nat} {xs : List ByteArray} (h : RdS w (some ⟨g, 0, none⟩) xs) (hne : g ≠ M) (v0 v1 v2 v3 : Value) : RdS ((((w.setCell ⟨M, 0, none⟩ v0).setCell ⟨M, 1, none⟩ v1).setCell ⟨M, 2, none⟩ v2).setCell ⟨M, 3, none⟩ v3) (some ⟨g, 0, none⟩) xs :=
  rds_kept (c := M) h (((((Kept.refl M w).setCell 0 v0).setCell 1 v1).setCell 2 v2).setCell 3 v3) hne
theorem cells8 {w : World} {M N : Nat} {v0 v1 v2 v3 u0 u1 u2 u3 : Value} {T : TypeId} (h : Blk w M #[v0, v1, v2, v3] T) (k : Blk w N #[u0, u1, u2, u3] T) : w.cell? ⟨M, 0, none⟩ = some v0 ∧ w.cell? ⟨M, 1, none⟩ = some v1 ∧ w.cell? ⟨M, 2, none⟩ = some v2 ∧ w.cell? ⟨M, 3, none⟩ = some v3 ∧ w.cell? ⟨N, 0, none⟩ = some u0 ∧ w.cell? ⟨N, 1, none⟩ = some u1 ∧ w.cell? ⟨N, 2, none⟩ = some u2 ∧ w.cell? ⟨N, 3, none⟩ = some u3 :=
  ⟨h.cell 0, h.cell 1, h.cell 2, h.cell 3, k.cell 0, k.cell 1, k.cell 2, k.cell 3⟩
theorem SSt.blk {w : World} {c : Nat} {wr : World} {g cap : Nat} {xs : List ByteArray} {n : Nat} (h : SSt w c wr (.slice (some ⟨g, 0, none⟩) n cap) xs) : w.heap.size ≤ g ∧ g < wr.heap.size := h.own.lt g rfl

end Go.Proofs.Ytdmhccheaemkkaa.DrawK
