/-
  PROVED: the contracts of the draws of chapter 6: chains, bent or not, and what comes beside them, in new memory.
-/
import Derived.Test.YtcopckbpflmmeaaQDrawD
set_option linter.unusedVariables false
namespace Go.Proofs.Ytcopckbpflmmeaa.DrawE
open Go.RowKit
open Draw
open Labs LabS Over Blk App DrawL DrawT Alms AlmM DrawA DrawB Rws ChnI ChnC ChnP ChnS ChnU ChnK DrawC DrawD
open LabT (Held infoL)
open LabR (flat flat_len flat_one)

theorem step_appC {P : Program} {w : World} {ops : Array Oper} {o : Oper} {a : Act} {K : Act → World → Prop} {Q : Exit → Act → World → Prop} {E : Prop} (hgd : o.guard = none) (s x : Operand) (t : TypeId)
    (ho : o.op = .call { callee := .builtin .append, args := #[s, x], argTypes := #[t, t] })
    (e : TypeId) (i : TypeInfo) (z : Value) (size bytes : Nat) (ht : P.underlying t = some (.slice e)) (hi : P.info? e = some i) (hz : i.zero = some z)
    (hsize : i.size = size) (hby : i.bytes = bytes) (hzs : z.cells.size = size) (hsz : 0 < size) (base : Nat) (hb : base ≤ w.heap.size)
    (B : Nat) (hs : a.eval s = .slice (some ⟨B, 0, none⟩) 0 0) (hown : w.ownsRow base e size (.slice (some ⟨B, 0, none⟩) 0 0) 0 [])
    (ad : Addr) (m c : Nat) (news : List Value) (hx : a.eval x = .slice (some ad) m c) (hl : news.length = m * size) (hnews : ∀ j u, news[j]? = some u → w.cell? (ad.add j) = some u) (h1 : ∀ u ∈ news, u.oneCell' = true)
    (h63 : m ≤ maxLen) (hbytes : m * bytes ≤ 140737488355328)
    (h : ∀ v' w', w'.ownsRow base e size v' m news → w.grownBy w' (some B) → v' ≠ .slice none 0 0 → K (a.put o.dst v') w') :
    if Region.wanted o (yielded ops a.tmps) = true then Oper.wp P o a w K Q else E := by
  have hw : Region.wanted o (yielded ops a.tmps) = true := by simp [Region.wanted, hgd]
  rw [if_pos hw]
  obtain ⟨v', w', hr, h2, h3, h4, h5⟩ := run_append_own_at (P := P) w base t o.type e i z size bytes ht hi hz hsize hby hzs hsz _ 0 [] hown ad m c news hl hnews h1 (by omega) (by rw [Nat.zero_add]; exact hbytes) hb
  unfold Oper.wp execOp
  simp only [ho, resolve, invoke, builtin, Sem.run_bind, Sem.run_pure, Result.andThen_ok, List.map_toArray, List.map_cons, List.map_nil, hs, hx, hr]
  rw [Nat.zero_add, List.nil_append] at h2
  exact h v' w' h2 h3 (fun e => by have := (h4.1 e).1; cases this)

def DCh (w : World) (M : Nat) (P : List PAl) : Prop := RdN w (some ⟨M, 0, none⟩) P ∧ Fines P ∧ P.length ≤ 5
theorem DCh.below {w w' : World} {M : Nat} {P : List PAl} (h : DCh w M P) (hb : Below w.heap.size w w') : DCh w' M P := ⟨h.1.below hb, h.2⟩
theorem dch_of {lo : Nat} {w : World} {M cap : Nat} {rs : List ARow} (h : AB lo w M cap rs) (hf : Fines (pals rs)) (h5 : rs.length ≤ 5) : DCh w M (pals rs) := ⟨h.rd, hf, by rw [pals_len]; exact h5⟩
def DAl (w : World) (g : Nat) (x : PAl) : Prop := Reads w (some ⟨g, 0, none⟩) x.l ∧ Fine x
theorem DAl.below {w w' : World} {g : Nat} {x : PAl} (h : DAl w g x) (hb : Below w.heap.size w w') : DAl w' g x := ⟨h.1.below hb, h.2⟩

structure YSt (w : World) (c X : Nat) (wr : World) (f : Int) (M cap : Nat) (rs : List ARow) : Prop where
  cur : Cur wr c
  low : Below w.heap.size w wr
  ord : w.heap.size < c ∧ c < X ∧ X < wr.heap.size
  bR : Blk wr w.heap.size #[.int .i64 0, .slice none 0 0] 26
  bX : Blk wr X #[.int .i64 f, .slice (some ⟨M, 0, none⟩) rs.length cap] 26
  ab : AB (c + 1) wr M cap rs
  fine : Fines (pals rs)
  few : rs.length ≤ 5
theorem YSt.keep {w : World} {c X : Nat} {wr w' : World} {f : Int} {M cap : Nat} {rs : List ARow} (h : YSt w c X wr f M cap rs) (hc : Cur w' c) (hk : Kept c wr w') : YSt w c X w' f M cap rs := by
  have h1 := h.ord
  exact ⟨hc, h.low.trans (hk.below (by omega) h.low.size), ⟨h1.1, h1.2.1, Nat.lt_of_lt_of_le h1.2.2 hk.size⟩, blk_kept h.bR hk (by omega), blk_kept h.bX hk (by omega), ab_kept h.ab hk (by omega), h.fine, h.few⟩
theorem YSt.grow {w : World} {c X : Nat} {wr w' : World} {f : Int} {M cap : Nat} {rs : List ARow} (h : YSt w c X wr f M cap rs) (hb : Below wr.heap.size wr w') : YSt w c X w' f M cap rs := h.keep (cur_bel h.cur hb) (kept_bel hb)
theorem yst_of {w w1 w2 : World} {c : Nat} {f : Int} {M cap : Nat} {rs : List ARow} (hc : w.heap.size < c) (hl : Below w.heap.size w w1) (hR : Blk w1 w.heap.size #[.int .i64 0, .slice none 0 0] 26) (h : CDr w1 c w2 M cap rs) (h5 : rs.length ≤ 5) : YSt w c w2.heap.size (w2.alloc (.cells #[.int .i64 f, .slice (some ⟨M, 0, none⟩) rs.length cap] 26)) f M cap rs := by
  have h0 := h.clt
  have h1 := h.kept.size
  exact ⟨h.cur.alloc _, (hl.trans (h.kept.below (by omega) hl.size)).alloc (by omega) _, ⟨hc, by omega, by simp⟩, (blk_kept hR h.kept (by omega)).alloc _, Blk.new _ _ _, (h.ab.grow (Go.Joins.below_alloc1 w2 _)).down (by omega), h.fine, h5⟩
theorem ab_clear {lo : Nat} {w : World} {A M cap : Nat} {rs : List ARow} (h : AB lo w M cap rs) (hA : A ≠ M) (hr : ∀ x ∈ rs, x.1 ≠ A) (i : Nat) (v : Value) : AB lo (w.setCell ⟨A, i, none⟩ v) M cap rs := by
  obtain ⟨cur, h1, h2⟩ := h.outer
  exact ⟨h.at', h.cap, ⟨cur, h1.set_other hA v, h2⟩, fun x hx => own_set (h.rows x hx) (fun e => hr x hx e.symm) i v, h.ne⟩
theorem blk2 {w : World} {M N : Nat} {cs : Array Value} {T : TypeId} (h : Blk w N cs T) (hne : M ≠ N) (v0 v1 : Value) : Blk ((w.setCell ⟨M, 0, none⟩ v0).setCell ⟨M, 1, none⟩ v1) N cs T := (h.set_other hne v0).set_other hne v1
theorem retC2 {M n n' c M2 m m' c2 : Nat} {f f2 : Int} (h : n = n') (h2 : m = m') : Ending.returned (.tuple #[.agg #[.int .i64 f, .slice (some ⟨M, 0, none⟩) n c], .agg #[.int .i64 f2, .slice (some ⟨M2, 0, none⟩) m c2]]) = .returned (.tuple #[.agg #[.int .i64 f, .slice (some ⟨M, 0, none⟩) n' c], .agg #[.int .i64 f2, .slice (some ⟨M2, 0, none⟩) m' c2]]) := by rw [h, h2]
theorem retC1 {M n n' c : Nat} {f : Int} {v : Value} (h : n = n') : Ending.returned (.tuple #[.agg #[.int .i64 f, .slice (some ⟨M, 0, none⟩) n c], v]) = .returned (.tuple #[.agg #[.int .i64 f, .slice (some ⟨M, 0, none⟩) n' c], v]) := by rw [h]

set_option maxRecDepth 100000 in
set_option maxHeartbeats 3200000 in
theorem drawChainOk_any (a : Option Addr) (len cap : Nat) (w : World) (hl : len ≤ maxLen) (hb : Bytes w a len w.heap.size) :
    Calls Try.prog 10 #[.slice a len cap] w fun r w' => (∃ (f : Int) (M cap : Nat) (P : List PAl), r = .returned (.agg #[.int .i64 f, .slice (some ⟨M, 0, none⟩) P.length cap]) ∧ DCh w' M P) ∧ Below w.heap.size w w' := by
  have HB : Hid (Bytes w a len w.heap.size) := hb
  have HL : Hid (len ≤ maxLen) := hl
  clear hb hl
  go_enter Try.func10, Try.ntmps10
  go_wp2_with fail
  refine (new_any a len cap _ HL.out (LawB.bytes_up HB.out (Go.Joins.below_alloc1 w _))).mono ?_
  rintro r w1 ⟨rfl, hc1, hb1⟩
  have HC1 : Hid (Cur w1 (w.heap.size + 1)) := by simp at hc1; exact hc1
  have HR1 : Hid (Blk w1 w.heap.size #[.int .i64 0, .slice none 0 0] 26) := (Blk.new _ _ _).grow hb1
  have HB1 : Hid (Below w.heap.size w w1) := grow_on (Go.Joins.below_alloc1 w _) hb1
  clear hc1 hb1
  go_wp2_with fail
  refine (l6Any_any (w.heap.size + 1) _ HC1.out).mono ?_
  rintro r w2 ⟨f, M, cap, rs, rfl, hd, h5, -⟩
  have HD : Hid (CDr w1 (w.heap.size + 1) w2 M cap rs) := hd
  have HR2 : Hid (Blk w2 w.heap.size #[.int .i64 0, .slice none 0 0] 26) := blk_kept HR1.out hd.kept (by omega)
  have HB2 : Hid (Below w.heap.size w w2) := HB1.out.trans (hd.kept.below (by omega) HB1.out.size)
  have r0 : w2.cell? ⟨w.heap.size, 0, none⟩ = some (.int .i64 0) := HR2.out.cell 0
  have r1 : w2.cell? ⟨w.heap.size, 1, none⟩ = some (.slice none 0 0) := HR2.out.cell 1
  have f0 := HR2.out.frozen 0
  have f1 := HR2.out.frozen 1
  clear hd
  go_wp2
  have hs : Blk ((w2.setCell ⟨w.heap.size, 0, none⟩ (.int .i64 f)).setCell ⟨w.heap.size, 1, none⟩ (.slice (some ⟨M, 0, none⟩) rs.length cap)) w.heap.size #[.int .i64 f, .slice (some ⟨M, 0, none⟩) rs.length cap] 26 := (HR2.out.set 0 _).set 1 _
  have s0 := hs.cell 0
  have s1 := hs.cell 1
  refine bodyPost_ret (v := .agg #[.int .i64 f, .slice (some ⟨M, 0, none⟩) rs.length cap]) (by simp [results, Try.results10, go_sem, s0, s1]) rfl ?_
  have h1 := HD.out.clt
  exact ⟨⟨f, M, cap, pals rs, retA (by rw [pals_len]), dch_of (ab_under (ab_under HD.out.ab (by omega) _ _) (by omega) _ _) HD.out.fine h5⟩, ChnP.set2 HB2.out (Nat.le_refl _) _ _⟩
set_option maxRecDepth 100000 in
set_option maxHeartbeats 3200000 in
theorem drawSame_any (a : Option Addr) (len cap : Nat) (w : World) (hl : len ≤ maxLen) (hb : Bytes w a len w.heap.size) :
    Calls Try.prog 11 #[.slice a len cap] w fun r w' => (∃ (f : Int) (M cap : Nat) (P : List PAl) (f2 : Int) (M2 cap2 : Nat) (Q : List PAl), r = .returned (.tuple #[.agg #[.int .i64 f, .slice (some ⟨M, 0, none⟩) P.length cap], .agg #[.int .i64 f2, .slice (some ⟨M2, 0, none⟩) Q.length cap2]]) ∧ DCh w' M P ∧ DCh w' M2 Q) ∧ Below w.heap.size w w' := by
  have HB : Hid (Bytes w a len w.heap.size) := hb
  have HL : Hid (len ≤ maxLen) := hl
  clear hb hl
  go_enter Try.func11, Try.ntmps11
  go_wp2_with fail
  refine (new_any a len cap _ HL.out (LawB.bytes_up HB.out (Go.Joins.below_alloc2 w _ _))).mono ?_
  rintro r w1 ⟨rfl, hc1, hb1⟩
  have HC1 : Hid (Cur w1 (w.heap.size + 2)) := by simp at hc1; exact hc1
  have HR1 : Hid (Blk w1 w.heap.size #[.int .i64 0, .slice none 0 0] 26) := ((Blk.new _ _ _).alloc _).grow hb1
  have HV1 : Hid (Blk w1 (w.heap.size + 1) #[.int .i64 0, .slice none 0 0] 26) := (Blk.new_at (by simp)).grow hb1
  have HB1 : Hid (Below w.heap.size w w1) := grow_on (Go.Joins.below_alloc2 w _ _) hb1
  clear hc1 hb1
  go_wp2_with fail
  refine (l6Any_any (w.heap.size + 2) _ HC1.out).mono ?_
  rintro r w2 ⟨f, M, cap, rs, rfl, hd, h5, -⟩
  have HY2 : Hid (YSt w (w.heap.size + 2) w2.heap.size (w2.alloc (.cells #[.int .i64 f, .slice (some ⟨M, 0, none⟩) rs.length cap] 26)) f M cap rs) := yst_of (by omega) HB1.out HR1.out hd h5
  have HV2 : Hid (Blk (w2.alloc (.cells #[.int .i64 f, .slice (some ⟨M, 0, none⟩) rs.length cap] 26)) (w.heap.size + 1) #[.int .i64 0, .slice none 0 0] 26) := (blk_kept HV1.out hd.kept (by omega)).alloc _
  clear hd
  go_wp2_with fail
  refine (once_any (w.heap.size + 2) 2 _ HY2.out.cur (by decide) (by decide)).mono ?_
  rintro r w3 ⟨⟨b, rfl⟩, hc3, hk3⟩
  have HY : Hid (YSt w (w.heap.size + 2) w2.heap.size w3 f M cap rs) := HY2.out.keep hc3 hk3
  have HV : Hid (Blk w3 (w.heap.size + 1) #[.int .i64 0, .slice none 0 0] 26) := blk_kept HV2.out hk3 (by omega)
  clear hc3 hk3 HY2 HV2 HC1 HR1 HV1 HB1
  generalize w2.heap.size = X at HY ⊢
  have HS : Hid (∀ w', Blk w' X #[.int .i64 f, .slice (some ⟨M, 0, none⟩) rs.length cap] 26 → w'.cell? ⟨X, 0, none⟩ = some (.int .i64 f) ∧ w'.cell? ⟨X, 1, none⟩ = some (.slice (some ⟨M, 0, none⟩) rs.length cap)) := fun w' h => ⟨h.cell 0, h.cell 1⟩
  cases b with
  | true =>
    have HC : Hid (Calls Try.prog 48 #[.agg #[.int .i64 f, .slice (some ⟨M, 0, none⟩) rs.length cap]] w3.drew fun r w' => ∃ (f2 : Int) (M2 cap2 : Nat) (rs2 : List ARow), r = .returned (.agg #[.int .i64 f2, .slice (some ⟨M2, 0, none⟩) rs2.length cap2]) ∧ YSt w (w.heap.size + 2) X w' f M cap rs ∧ Blk w' (w.heap.size + 1) #[.int .i64 0, .slice none 0 0] 26 ∧ AB (w.heap.size + 3) w' M2 cap2 rs2 ∧ Fines (pals rs2) ∧ rs2.length ≤ 5) := by
      have h := l6Copy_any f (some ⟨M, 0, none⟩) cap (pals rs) w3.drew (HY.out.ab.rd.below (Below.refl _ _).drew) (by rw [pals_len]; have := HY.out.few; omega) HY.out.fine.lens
      rw [pals_len] at h
      refine h.mono fun r w' ⟨⟨M2, c2, rs2, hr, hab, hp⟩, hb⟩ => ?_
      have hb' : Below w3.heap.size w3 w' := grow_on (Below.refl _ _).drew hb
      exact ⟨f, M2, c2, rs2, hr, HY.out.grow hb', HV.out.grow hb', hab.down (by have := HY.out.ord; show _ ≤ w3.drew.heap.size + 2; simp; omega), by rw [hp]; exact HY.out.fine, by rw [← pals_len, hp, pals_len]; exact HY.out.few⟩
    go_upto_region 4 with fail
    refine wp_region_held_drew (S := fun w' => w'.cell? ⟨X, 0, none⟩ = some (.int .i64 f) ∧ w'.cell? ⟨X, 1, none⟩ = some (.slice (some ⟨M, 0, none⟩) rs.length cap)) (by kernel_rfl) (HS.out _ HY.out.bX.drew) (fun hHeld => ?_)
    refine wpAnyH_take (i := 0) (oi := { dst := some 12, op := Op.load 26 (Operand.tmp 5), type := 26, pos := "l06_chain.go:97", after := #[], guard := none }) (v := ?vs40) rfl (by kernel_rfl) (by kernel_rfl) (by kernel_rfl) (fun _ _ _ h => h) (Or.inl ⟨by rfl, ?hys40⟩) hHeld ?_
    case hys40 => (intro w hSw; (try dsimp only at hSw); go_simp <;> with_reducible rfl)
    try simp only [Act.put, List.setIfInBounds_toArray, List.set_cons_zero, List.set_cons_succ]
    refine wpAnyH_take (i := 1) (oi := { dst := some 13, op := Op.load 26 (Operand.tmp 5), type := 26, pos := "l06_chain.go:97", after := #[], guard := none }) (v := ?vs41) rfl (by kernel_rfl) (by kernel_rfl) (by kernel_rfl) (fun _ _ _ h => h) (Or.inl ⟨by rfl, ?hys41⟩) hHeld ?_
    case hys41 => (intro w hSw; (try dsimp only at hSw); go_simp <;> with_reducible rfl)
    try simp only [Act.put, List.setIfInBounds_toArray, List.set_cons_zero, List.set_cons_succ]
    refine wpAnyH_ready (rs := [2]) (by kernel_rfl) (by simp) ?_
    refine AllReadyH.cons (o := { dst := some 14, op := Op.call { callee := Callee.value (Operand.func 48), args := #[Operand.tmp 13], argTypes := #[26] }, type := 26, pos := "l06_chain.go:97", after := #[{ on := 1, ground := Ground.data }], guard := none }) rfl (fun K hK => ?_) AllReadyH.nil
    go_simp
    refine (HC.out).mono ?_
    rintro r wys42 ⟨f2, M2, cap2, rs2, rfl, hy, hv, hab, hfi, h5⟩
    have HY4 : Hid (YSt w (w.heap.size + 2) X wys42 f M cap rs) := hy
    have HV4 : Hid (Blk wys42 (w.heap.size + 1) #[.int .i64 0, .slice none 0 0] 26) := hv
    have HAB : Hid (AB (w.heap.size + 3) wys42 M2 cap2 rs2 ∧ Fines (pals rs2) ∧ rs2.length ≤ 5) := ⟨hab, hfi, h5⟩
    have hneX : w.heap.size ≠ X ∧ w.heap.size + 1 ≠ X := by have := hy.ord; exact ⟨by omega, by omega⟩
    have r0 : wys42.cell? ⟨w.heap.size, 0, none⟩ = some (.int .i64 0) := hy.bR.cell 0
    have r1 : wys42.cell? ⟨w.heap.size, 1, none⟩ = some (.slice none 0 0) := hy.bR.cell 1
    have fr0 := hy.bR.frozen 0
    have fr1 := hy.bR.frozen 1
    have v0 : wys42.cell? ⟨w.heap.size + 1, 0, none⟩ = some (.int .i64 0) := hv.cell 0
    have v1 : wys42.cell? ⟨w.heap.size + 1, 1, none⟩ = some (.slice none 0 0) := hv.cell 1
    have fv0 := hv.frozen 0
    have fv1 := hv.frozen 1
    clear hy hv hab hfi
    clear hHeld
    refine hK.out _ _ (HS.out _ HY4.out.bX) (fun hHeld => ?_)
    clear hK K
    try simp only [Act.put, List.setIfInBounds_toArray, List.set_cons_zero, List.set_cons_succ]
    refine wpAnyH_ready (rs := [3]) (by kernel_rfl) (by simp) ?_
    refine AllReadyH.cons (o := { dst := none, op := Op.store 26 (Operand.tmp 2) (Operand.tmp 12), type := 0, pos := "l06_chain.go:97", after := #[{ on := 0, ground := Ground.data }, { on := 2, ground := Ground.chain }, { on := 0, ground := Ground.phase }, { on := 1, ground := Ground.textOnly Departure.lateStores }, { on := 2, ground := Ground.textOnly Departure.lateStoresUnsure }], guard := none }) rfl (fun K hK => ?_) AllReadyH.nil
    go_simp
    clear hHeld
    refine hK.out _ _ (HS.out _ ((HY4.out.bX.set_other hneX.1 _).set_other hneX.1 _)) (fun hHeld => ?_)
    clear hK K
    try simp only [Act.put, List.setIfInBounds_toArray, List.set_cons_zero, List.set_cons_succ]
    refine wpAnyH_ready (rs := [4]) (by kernel_rfl) (by simp) ?_
    refine AllReadyH.cons (o := { dst := none, op := Op.store 26 (Operand.tmp 3) (Operand.tmp 14), type := 0, pos := "l06_chain.go:97", after := #[{ on := 2, ground := Ground.data }, { on := 3, ground := Ground.chain }, { on := 0, ground := Ground.phase }, { on := 1, ground := Ground.phase }, { on := 2, ground := Ground.phase }, { on := 3, ground := Ground.phase }], guard := none }) rfl (fun K hK => ?_) AllReadyH.nil
    go_simp
    clear hHeld
    refine hK.out _ _ (HS.out _ ((((HY4.out.bX.set_other hneX.1 _).set_other hneX.1 _).set_other hneX.2 _).set_other hneX.2 _)) (fun hHeld => ?_)
    clear hK K
    try simp only [Act.put, List.setIfInBounds_toArray, List.set_cons_zero, List.set_cons_succ]
    refine wpAnyH_done (by kernel_rfl) ?_ _
    go_wp2
    have hs : Blk ((((wys42.setCell ⟨w.heap.size, 0, none⟩ (.int .i64 f)).setCell ⟨w.heap.size, 1, none⟩ (.slice (some ⟨M, 0, none⟩) rs.length cap)).setCell ⟨w.heap.size + 1, 0, none⟩ (.int .i64 f2)).setCell ⟨w.heap.size + 1, 1, none⟩ (.slice (some ⟨M2, 0, none⟩) rs2.length cap2)) w.heap.size #[.int .i64 f, .slice (some ⟨M, 0, none⟩) rs.length cap] 26 := (((HY4.out.bR.set 0 _).set 1 _).set_other (by show w.heap.size + 1 ≠ w.heap.size; omega) _).set_other (by show w.heap.size + 1 ≠ w.heap.size; omega) _
    have ht : Blk ((((wys42.setCell ⟨w.heap.size, 0, none⟩ (.int .i64 f)).setCell ⟨w.heap.size, 1, none⟩ (.slice (some ⟨M, 0, none⟩) rs.length cap)).setCell ⟨w.heap.size + 1, 0, none⟩ (.int .i64 f2)).setCell ⟨w.heap.size + 1, 1, none⟩ (.slice (some ⟨M2, 0, none⟩) rs2.length cap2)) (w.heap.size + 1) #[.int .i64 f2, .slice (some ⟨M2, 0, none⟩) rs2.length cap2] 26 := (((HV4.out.set_other (by show w.heap.size ≠ w.heap.size + 1; omega) _).set_other (by show w.heap.size ≠ w.heap.size + 1; omega) _).set 0 _).set 1 _
    have s0 := hs.cell 0
    have s1 := hs.cell 1
    have t0 := ht.cell 0
    have t1 := ht.cell 1
    refine bodyPost_ret (v := .tuple #[.agg #[.int .i64 f, .slice (some ⟨M, 0, none⟩) rs.length cap], .agg #[.int .i64 f2, .slice (some ⟨M2, 0, none⟩) rs2.length cap2]]) (by simp [results, Try.results11, go_sem, s0, s1, t0, t1]) rfl ?_
    exact ⟨⟨f, M, cap, pals rs, f2, M2, cap2, pals rs2, retC2 (by rw [pals_len]) (by rw [pals_len]), dch_of (ab_under (ab_under (ab_under (ab_under HY4.out.ab (by omega) _ _) (by omega) _ _) (by omega) _ _) (by omega) _ _) HY4.out.fine HY4.out.few, dch_of (ab_under (ab_under (ab_under (ab_under HAB.out.1 (by omega) _ _) (by omega) _ _) (by omega) _ _) (by omega) _ _) HAB.out.2.1 HAB.out.2.2⟩, ChnP.set2 (ChnP.set2 HY4.out.low (Nat.le_refl _) _ _) (by omega) _ _⟩
  | false =>
    have HC : Hid (Calls Try.prog 42 #[.pointer (some ⟨w.heap.size + 2, 0, none⟩)] w3.drew fun r w' => ∃ (f2 : Int) (M2 cap2 : Nat) (rs2 : List ARow), r = .returned (.agg #[.int .i64 f2, .slice (some ⟨M2, 0, none⟩) rs2.length cap2]) ∧ YSt w (w.heap.size + 2) X w' f M cap rs ∧ Blk w' (w.heap.size + 1) #[.int .i64 0, .slice none 0 0] 26 ∧ AB (w.heap.size + 3) w' M2 cap2 rs2 ∧ Fines (pals rs2) ∧ rs2.length ≤ 5) := by
      refine (l6Any_any (w.heap.size + 2) w3.drew (Cur.drewN HY.out.cur 1)).mono fun r w' ⟨f2, M2, c2, rs2, hr, hd, h5, _⟩ => ?_
      have hk := kept_drew hd.kept
      exact ⟨f2, M2, c2, rs2, hr, HY.out.keep hd.cur hk, blk_kept HV.out hk (by omega), hd.ab.down (by have := HY.out.ord; show _ ≤ w3.drew.heap.size + 1; simp; omega), hd.fine, h5⟩
    go_upto_region 5 with fail
    refine wp_region_held_drew (S := fun w' => w'.cell? ⟨X, 0, none⟩ = some (.int .i64 f) ∧ w'.cell? ⟨X, 1, none⟩ = some (.slice (some ⟨M, 0, none⟩) rs.length cap)) (by kernel_rfl) (HS.out _ HY.out.bX.drew) (fun hHeld => ?_)
    refine wpAnyH_take (i := 0) (oi := { dst := some 15, op := Op.load 26 (Operand.tmp 5), type := 26, pos := "l06_chain.go:99", after := #[], guard := none }) (v := ?vs50) rfl (by kernel_rfl) (by kernel_rfl) (by kernel_rfl) (fun _ _ _ h => h) (Or.inl ⟨by rfl, ?hys50⟩) hHeld ?_
    case hys50 => (intro w hSw; (try dsimp only at hSw); go_simp <;> with_reducible rfl)
    try simp only [Act.put, List.setIfInBounds_toArray, List.set_cons_zero, List.set_cons_succ]
    refine wpAnyH_take (i := 1) (oi := { dst := some 16, op := Op.move (Operand.tmp 4), type := 75, pos := "l06_chain.go:99", after := #[], guard := none }) (v := ?vs51) rfl (by kernel_rfl) (by kernel_rfl) (by kernel_rfl) (fun _ _ _ h => h) (Or.inl ⟨by rfl, ?hys51⟩) hHeld ?_
    case hys51 => (intro w hSw; (try dsimp only at hSw); go_simp <;> with_reducible rfl)
    try simp only [Act.put, List.setIfInBounds_toArray, List.set_cons_zero, List.set_cons_succ]
    refine wpAnyH_ready (rs := [2]) (by kernel_rfl) (by simp) ?_
    refine AllReadyH.cons (o := { dst := some 17, op := Op.call { callee := Callee.value (Operand.func 42), args := #[Operand.tmp 16], argTypes := #[75] }, type := 26, pos := "l06_chain.go:99", after := #[{ on := 1, ground := Ground.data }], guard := none }) rfl (fun K hK => ?_) AllReadyH.nil
    go_simp
    refine (HC.out).mono ?_
    rintro r wys52 ⟨f2, M2, cap2, rs2, rfl, hy, hv, hab, hfi, h5⟩
    have HY4 : Hid (YSt w (w.heap.size + 2) X wys52 f M cap rs) := hy
    have HV4 : Hid (Blk wys52 (w.heap.size + 1) #[.int .i64 0, .slice none 0 0] 26) := hv
    have HAB : Hid (AB (w.heap.size + 3) wys52 M2 cap2 rs2 ∧ Fines (pals rs2) ∧ rs2.length ≤ 5) := ⟨hab, hfi, h5⟩
    have hneX : w.heap.size ≠ X ∧ w.heap.size + 1 ≠ X := by have := hy.ord; exact ⟨by omega, by omega⟩
    have r0 : wys52.cell? ⟨w.heap.size, 0, none⟩ = some (.int .i64 0) := hy.bR.cell 0
    have r1 : wys52.cell? ⟨w.heap.size, 1, none⟩ = some (.slice none 0 0) := hy.bR.cell 1
    have fr0 := hy.bR.frozen 0
    have fr1 := hy.bR.frozen 1
    have v0 : wys52.cell? ⟨w.heap.size + 1, 0, none⟩ = some (.int .i64 0) := hv.cell 0
    have v1 : wys52.cell? ⟨w.heap.size + 1, 1, none⟩ = some (.slice none 0 0) := hv.cell 1
    have fv0 := hv.frozen 0
    have fv1 := hv.frozen 1
    clear hy hv hab hfi
    clear hHeld
    refine hK.out _ _ (HS.out _ HY4.out.bX) (fun hHeld => ?_)
    clear hK K
    try simp only [Act.put, List.setIfInBounds_toArray, List.set_cons_zero, List.set_cons_succ]
    refine wpAnyH_ready (rs := [3]) (by kernel_rfl) (by simp) ?_
    refine AllReadyH.cons (o := { dst := none, op := Op.store 26 (Operand.tmp 2) (Operand.tmp 15), type := 0, pos := "l06_chain.go:99", after := #[{ on := 0, ground := Ground.data }, { on := 2, ground := Ground.chain }, { on := 0, ground := Ground.phase }, { on := 1, ground := Ground.textOnly Departure.lateStores }, { on := 2, ground := Ground.textOnly Departure.lateStoresUnsure }], guard := none }) rfl (fun K hK => ?_) AllReadyH.nil
    go_simp
    clear hHeld
    refine hK.out _ _ (HS.out _ ((HY4.out.bX.set_other hneX.1 _).set_other hneX.1 _)) (fun hHeld => ?_)
    clear hK K
    try simp only [Act.put, List.setIfInBounds_toArray, List.set_cons_zero, List.set_cons_succ]
    refine wpAnyH_ready (rs := [4]) (by kernel_rfl) (by simp) ?_
    refine AllReadyH.cons (o := { dst := none, op := Op.store 26 (Operand.tmp 3) (Operand.tmp 17), type := 0, pos := "l06_chain.go:99", after := #[{ on := 2, ground := Ground.data }, { on := 3, ground := Ground.chain }, { on := 0, ground := Ground.phase }, { on := 1, ground := Ground.phase }, { on := 2, ground := Ground.phase }, { on := 3, ground := Ground.phase }], guard := none }) rfl (fun K hK => ?_) AllReadyH.nil
    go_simp
    clear hHeld
    refine hK.out _ _ (HS.out _ ((((HY4.out.bX.set_other hneX.1 _).set_other hneX.1 _).set_other hneX.2 _).set_other hneX.2 _)) (fun hHeld => ?_)
    clear hK K
    try simp only [Act.put, List.setIfInBounds_toArray, List.set_cons_zero, List.set_cons_succ]
    refine wpAnyH_done (by kernel_rfl) ?_ _
    go_wp2
    have hs : Blk ((((wys52.setCell ⟨w.heap.size, 0, none⟩ (.int .i64 f)).setCell ⟨w.heap.size, 1, none⟩ (.slice (some ⟨M, 0, none⟩) rs.length cap)).setCell ⟨w.heap.size + 1, 0, none⟩ (.int .i64 f2)).setCell ⟨w.heap.size + 1, 1, none⟩ (.slice (some ⟨M2, 0, none⟩) rs2.length cap2)) w.heap.size #[.int .i64 f, .slice (some ⟨M, 0, none⟩) rs.length cap] 26 := (((HY4.out.bR.set 0 _).set 1 _).set_other (by show w.heap.size + 1 ≠ w.heap.size; omega) _).set_other (by show w.heap.size + 1 ≠ w.heap.size; omega) _
    have ht : Blk ((((wys52.setCell ⟨w.heap.size, 0, none⟩ (.int .i64 f)).setCell ⟨w.heap.size, 1, none⟩ (.slice (some ⟨M, 0, none⟩) rs.length cap)).setCell ⟨w.heap.size + 1, 0, none⟩ (.int .i64 f2)).setCell ⟨w.heap.size + 1, 1, none⟩ (.slice (some ⟨M2, 0, none⟩) rs2.length cap2)) (w.heap.size + 1) #[.int .i64 f2, .slice (some ⟨M2, 0, none⟩) rs2.length cap2] 26 := (((HV4.out.set_other (by show w.heap.size ≠ w.heap.size + 1; omega) _).set_other (by show w.heap.size ≠ w.heap.size + 1; omega) _).set 0 _).set 1 _
    have s0 := hs.cell 0
    have s1 := hs.cell 1
    have t0 := ht.cell 0
    have t1 := ht.cell 1
    refine bodyPost_ret (v := .tuple #[.agg #[.int .i64 f, .slice (some ⟨M, 0, none⟩) rs.length cap], .agg #[.int .i64 f2, .slice (some ⟨M2, 0, none⟩) rs2.length cap2]]) (by simp [results, Try.results11, go_sem, s0, s1, t0, t1]) rfl ?_
    exact ⟨⟨f, M, cap, pals rs, f2, M2, cap2, pals rs2, retC2 (by rw [pals_len]) (by rw [pals_len]), dch_of (ab_under (ab_under (ab_under (ab_under HY4.out.ab (by omega) _ _) (by omega) _ _) (by omega) _ _) (by omega) _ _) HY4.out.fine HY4.out.few, dch_of (ab_under (ab_under (ab_under (ab_under HAB.out.1 (by omega) _ _) (by omega) _ _) (by omega) _ _) (by omega) _ _) HAB.out.2.1 HAB.out.2.2⟩, ChnP.set2 (ChnP.set2 HY4.out.low (Nat.le_refl _) _ _) (by omega) _ _⟩
set_option maxRecDepth 100000 in
set_option maxHeartbeats 3200000 in
theorem drawDrop_any (a : Option Addr) (len cap : Nat) (w : World) (hl : len ≤ maxLen) (hb : Bytes w a len w.heap.size) :
    Calls Try.prog 12 #[.slice a len cap] w fun r w' => (∃ (f : Int) (M cap : Nat) (P : List PAl) (now : Int), r = .returned (.tuple #[.agg #[.int .i64 f, .slice (some ⟨M, 0, none⟩) P.length cap], .int .i64 now]) ∧ DCh w' M P) ∧ Below w.heap.size w w' := by
  have HB : Hid (Bytes w a len w.heap.size) := hb
  have HL : Hid (len ≤ maxLen) := hl
  clear hb hl
  go_enter Try.func12, Try.ntmps12
  go_wp2_with fail
  refine (new_any a len cap _ HL.out (LawB.bytes_up HB.out (Go.Joins.below_alloc1 w _))).mono ?_
  rintro r w1 ⟨rfl, hc1, hb1⟩
  have HC1 : Hid (Cur w1 (w.heap.size + 1)) := by simp at hc1; exact hc1
  have HR1 : Hid (Blk w1 w.heap.size #[.int .i64 0, .slice none 0 0] 26) := (Blk.new _ _ _).grow hb1
  have HB1 : Hid (Below w.heap.size w w1) := grow_on (Go.Joins.below_alloc1 w _) hb1
  clear hc1 hb1
  go_wp2_with fail
  refine (l6Any_any (w.heap.size + 1) _ HC1.out).mono ?_
  rintro r wya ⟨f, M, cap, rs, rfl, hd, h5, -⟩
  have HK : Hid (Kept (w.heap.size + 1) w1 wya) := hd.kept
  have HA : Hid (AB (w.heap.size + 2) wya M cap rs ∧ Cur wya (w.heap.size + 1) ∧ Fines (pals rs)) := ⟨hd.ab.down (by have := hd.clt; omega), hd.cur, hd.fine⟩
  clear hd
  go_wp2_with fail
  refine (int_any (w.heap.size + 1) _ 0 6 6 (wya.alloc (.cells #[.int .i64 0, .int .i64 3, .int .i64 8, .int .i64 12, .int .i64 30, .int .i64 100] 3)) (HA.out.2.1.alloc _) (row_lit (w := wya) (by decide) rfl HA.out.2.1.lt) (by decide) (by decide)).mono ?_
  rintro r wyi ⟨⟨now, rfl, _⟩, hci, hki⟩
  have HKi : Hid (Kept (w.heap.size + 1) w1 wyi) := (HK.out.alloc _).trans hki
  have HAi : Hid (AB (w.heap.size + 2) wyi M cap rs ∧ Fines (pals rs)) := ⟨ab_kept (HA.out.1.grow (Go.Joins.below_alloc1 wya _)) hki (by omega), HA.out.2.2⟩
  have HRi : Hid (Blk wyi w.heap.size #[.int .i64 0, .slice none 0 0] 26) := blk_kept HR1.out HKi.out (by omega)
  have r0 : wyi.cell? ⟨w.heap.size, 0, none⟩ = some (.int .i64 0) := HRi.out.cell 0
  have r1 : wyi.cell? ⟨w.heap.size, 1, none⟩ = some (.slice none 0 0) := HRi.out.cell 1
  have fr0 := HRi.out.frozen 0
  have fr1 := HRi.out.frozen 1
  clear hci hki
  go_wp2
  have hs : Blk ((wyi.setCell ⟨w.heap.size, 0, none⟩ (.int .i64 f)).setCell ⟨w.heap.size, 1, none⟩ (.slice (some ⟨M, 0, none⟩) rs.length cap)) w.heap.size #[.int .i64 f, .slice (some ⟨M, 0, none⟩) rs.length cap] 26 := (HRi.out.set 0 _).set 1 _
  have s0 := hs.cell 0
  have s1 := hs.cell 1
  refine bodyPost_ret (v := .tuple #[.agg #[.int .i64 f, .slice (some ⟨M, 0, none⟩) rs.length cap], .int .i64 now]) (by simp [results, Try.results12, go_sem, s0, s1]) rfl ?_
  exact ⟨⟨f, M, cap, pals rs, now, retC1 (by rw [pals_len]), dch_of (ab_under (ab_under HAi.out.1 (by omega) _ _) (by omega) _ _) HAi.out.2 h5⟩, ChnP.set2 (HB1.out.trans (HKi.out.below (by omega) HB1.out.size)) (Nat.le_refl _) _ _⟩
set_option maxRecDepth 100000 in
set_option maxHeartbeats 3200000 in
theorem drawIn_any (a : Option Addr) (len cap : Nat) (w : World) (hl : len ≤ maxLen) (hb : Bytes w a len w.heap.size) :
    Calls Try.prog 15 #[.slice a len cap] w fun r w' => (∃ (f : Int) (M cap : Nat) (P : List PAl) (g c2 : Nat) (q : List Lab), r = .returned (.tuple #[.agg #[.int .i64 f, .slice (some ⟨M, 0, none⟩) P.length cap], .slice (some ⟨g, 0, none⟩) q.length c2]) ∧ DCh w' M P ∧ Reads w' (some ⟨g, 0, none⟩) q ∧ q.length ≤ 8) ∧ Below w.heap.size w w' := by
  have HB : Hid (Bytes w a len w.heap.size) := hb
  have HL : Hid (len ≤ maxLen) := hl
  clear hb hl
  obtain ⟨i0, hi, hz0, hz1, hz2⟩ := info_parts infoL
  go_enter Try.func15, Try.ntmps15
  go_wp2_with fail
  refine (new_any a len cap _ HL.out (LawB.bytes_up HB.out (Go.Joins.below_alloc1 w _))).mono ?_
  rintro r w1 ⟨rfl, hc1, hb1⟩
  have HC1 : Hid (Cur w1 (w.heap.size + 1)) := by simp at hc1; exact hc1
  have HR1 : Hid (Blk w1 w.heap.size #[.int .i64 0, .slice none 0 0] 26) := (Blk.new _ _ _).grow hb1
  have HB1 : Hid (Below w.heap.size w w1) := grow_on (Go.Joins.below_alloc1 w _) hb1
  clear hc1 hb1
  go_wp2_with fail
  refine (l6Any_any (w.heap.size + 1) _ HC1.out).mono ?_
  rintro r w2 ⟨f, M, cap, rs, rfl, hd, h5, -⟩
  have HY2 : Hid (YSt w (w.heap.size + 1) w2.heap.size (w2.alloc (.cells #[.int .i64 f, .slice (some ⟨M, 0, none⟩) rs.length cap] 26)) f M cap rs) := yst_of (by omega) HB1.out HR1.out hd h5
  clear hd HC1 HR1 HB1
  have xx : (w2.alloc (.cells #[.int .i64 f, .slice (some ⟨M, 0, none⟩) rs.length cap] 26)).cell? ⟨w2.heap.size, 1, none⟩ = some (.slice (some ⟨M, 0, none⟩) rs.length cap) := HY2.out.bX.cell 1
  by_cases hr0 : 0 < rs.length
  ·
    have hr0' : (rs.length : Int) > 0 := by omega
    go_wp2_with fail
    refine (once_any (w.heap.size + 1) 2 _ HY2.out.cur (by decide) (by decide)).mono ?_
    rintro r w3 ⟨⟨b, rfl⟩, hc3, hk3⟩
    have HY : Hid (YSt w (w.heap.size + 1) w2.heap.size w3 f M cap rs) := HY2.out.keep hc3 hk3
    clear hc3 hk3 HY2 xx
    generalize w2.heap.size = X at HY ⊢
    cases b with
    | true =>
      have HS : Hid (∀ w', Blk w' X #[.int .i64 f, .slice (some ⟨M, 0, none⟩) rs.length cap] 26 → w'.cell? ⟨X, 0, none⟩ = some (.int .i64 f) ∧ w'.cell? ⟨X, 1, none⟩ = some (.slice (some ⟨M, 0, none⟩) rs.length cap)) := fun w' h => ⟨h.cell 0, h.cell 1⟩
      go_upto_region 4 with fail
      refine wp_region_held_drew (S := fun w' => w'.cell? ⟨X, 0, none⟩ = some (.int .i64 f) ∧ w'.cell? ⟨X, 1, none⟩ = some (.slice (some ⟨M, 0, none⟩) rs.length cap)) (by kernel_rfl) (HS.out _ HY.out.bX.drew) (fun hHeld => ?_)
      refine wpAnyH_take (i := 0) (oi := { dst := some 18, op := Op.load 26 (Operand.tmp 5), type := 26, pos := "l06_chain.go:106", after := #[], guard := none }) (v := ?vp41) rfl (by kernel_rfl) (by kernel_rfl) (by kernel_rfl) (fun _ _ _ h => h) (Or.inl ⟨by rfl, ?hyp41⟩) hHeld ?_
      case hyp41 => (intro w hSw; (try dsimp only at hSw); go_simp <;> with_reducible rfl)
      try simp only [Act.put, List.setIfInBounds_toArray, List.set_cons_zero, List.set_cons_succ]
      refine wpAnyH_take (i := 2) (oi := { dst := some 20, op := Op.fieldAddr 26 (Operand.tmp 5) 1, type := 0, pos := "l06_chain.go:106", after := #[], guard := none }) (v := ?vp42) rfl (by kernel_rfl) (by kernel_rfl) (by kernel_rfl) (fun _ _ _ h => h) (Or.inl ⟨by rfl, ?hyp42⟩) hHeld ?_
      case hyp42 => (intro w hSw; (try dsimp only at hSw); go_simp <;> with_reducible rfl)
      try simp only [Act.put, List.setIfInBounds_toArray, List.set_cons_zero, List.set_cons_succ]
      refine wpAnyH_take (i := 3) (oi := { dst := some 21, op := Op.load 24 (Operand.tmp 20), type := 24, pos := "l06_chain.go:106", after := #[{ on := 2, ground := Ground.data }], guard := none }) (v := ?vp43) rfl (by kernel_rfl) (by kernel_rfl) (by kernel_rfl) (fun _ _ _ h => h) (Or.inl ⟨by rfl, ?hyp43⟩) hHeld ?_
      case hyp43 => (intro w hSw; (try dsimp only at hSw); go_simp <;> with_reducible rfl)
      try simp only [Act.put, List.setIfInBounds_toArray, List.set_cons_zero, List.set_cons_succ]
      refine wpAnyH_take (i := 4) (oi := { dst := some 22, op := Op.move (Operand.tmp 4), type := 75, pos := "l06_chain.go:106", after := #[], guard := none }) (v := ?vp44) rfl (by kernel_rfl) (by kernel_rfl) (by kernel_rfl) (fun _ _ _ h => h) (Or.inl ⟨by rfl, ?hyp44⟩) hHeld ?_
      case hyp44 => (intro w hSw; (try dsimp only at hSw); go_simp <;> with_reducible rfl)
      try simp only [Act.put, List.setIfInBounds_toArray, List.set_cons_zero, List.set_cons_succ]
      refine wpAnyH_take (i := 5) (oi := { dst := some 23, op := Op.fieldAddr 26 (Operand.tmp 5) 1, type := 0, pos := "l06_chain.go:106", after := #[], guard := none }) (v := ?vp45) rfl (by kernel_rfl) (by kernel_rfl) (by kernel_rfl) (fun _ _ _ h => h) (Or.inl ⟨by rfl, ?hyp45⟩) hHeld ?_
      case hyp45 => (intro w hSw; (try dsimp only at hSw); go_simp <;> with_reducible rfl)
      try simp only [Act.put, List.setIfInBounds_toArray, List.set_cons_zero, List.set_cons_succ]
      refine wpAnyH_take (i := 6) (oi := { dst := some 24, op := Op.load 24 (Operand.tmp 23), type := 24, pos := "l06_chain.go:106", after := #[{ on := 5, ground := Ground.data }], guard := none }) (v := ?vp46) rfl (by kernel_rfl) (by kernel_rfl) (by kernel_rfl) (fun _ _ _ h => h) (Or.inl ⟨by rfl, ?hyp46⟩) hHeld ?_
      case hyp46 => (intro w hSw; (try dsimp only at hSw); go_simp <;> with_reducible rfl)
      try simp only [Act.put, List.setIfInBounds_toArray, List.set_cons_zero, List.set_cons_succ]
      refine wpAnyH_take (i := 7) (oi := { dst := some 25, op := Op.call { callee := Callee.builtin Builtin.len, args := #[Operand.tmp 24], argTypes := #[24] }, type := 3, pos := "l06_chain.go:106", after := #[{ on := 6, ground := Ground.data }], guard := none }) (v := ?vp47) rfl (by kernel_rfl) (by kernel_rfl) (by kernel_rfl) (fun _ _ _ h => h) (Or.inl ⟨by rfl, ?hyp47⟩) hHeld ?_
      case hyp47 => (intro w hSw; (try dsimp only at hSw); go_simp <;> with_reducible rfl)
      try simp only [Act.put, List.setIfInBounds_toArray, List.set_cons_zero, List.set_cons_succ]
      refine wpAnyH_ready (rs := [1, 8]) (by kernel_rfl) (by simp) ?_
      refine AllReadyH.cons (o := { dst := some 19, op := Op.buildSlice 27 0 #[], type := 27, pos := "l06_chain.go:106", after := #[], guard := none }) rfl (fun K hK => ?_) ?_
      ·
        go_simp
        clear hHeld
        refine hK.out _ _ (HS.out _ ((HY.out.bX.drew.alloc _))) (fun hHeld => ?_)
        clear hK K
        try simp only [Act.put, List.setIfInBounds_toArray, List.set_cons_zero, List.set_cons_succ]
        
        refine wpAnyH_ready (rs := [8]) (by kernel_rfl) (by simp) ?_
        refine AllReadyH.cons (o := { dst := some 26, op := Op.call { callee := Callee.value (Operand.func 45), args := #[Operand.tmp 22, Operand.tmp 25], argTypes := #[75, 3] }, type := 3, pos := "l06_chain.go:106", after := #[{ on := 4, ground := Ground.data }, { on := 7, ground := Ground.data }], guard := none }) rfl (fun K hK => ?_) AllReadyH.nil
        go_simp
        refine (below_any (w.heap.size + 1) (rs.length : Int) (w3.drew.alloc (.cells #[] 125)) ((Cur.drewN HY.out.cur 1).alloc _) (by omega) (by omega)).mono ?_
        rintro r wyc ⟨⟨x, rfl, hx0, hx1⟩, hc, hk⟩
        obtain ⟨k, rfl⟩ := Int.eq_ofNat_of_zero_le hx0
        have hkl : k < rs.length := by omega
        have HKc : Hid (Kept (w.heap.size + 1) w3 wyc) := ((Kept.refl (w.heap.size + 1) w3).drew.alloc _).trans hk
        have HYc : Hid (YSt w (w.heap.size + 1) X wyc f M cap rs) := HY.out.keep hc HKc.out
        have HE : Hid (Blk wyc w3.drew.heap.size #[] 125) := blk_kept (Blk.new _ _ _) hk (by have := HY.out.ord; show w3.drew.heap.size ≠ _; simp; omega)
        clear hc hk
        clear hHeld
        refine hK.out _ _ (HS.out _ (HYc.out.bX)) (fun hHeld => ?_)
        clear hK K
        try simp only [Act.put, List.setIfInBounds_toArray, List.set_cons_zero, List.set_cons_succ]
        
        refine wpAnyH_take (i := 9) (oi := { dst := some 27, op := Op.indexAddr 24 (Operand.tmp 21) (Operand.tmp 26), type := 0, pos := "l06_chain.go:106", after := #[{ on := 3, ground := Ground.data }, { on := 8, ground := Ground.data }], guard := none }) (v := ?vp410) rfl (by kernel_rfl) (by kernel_rfl) (by kernel_rfl) (fun _ _ _ h => h) (Or.inl ⟨by rfl, ?hyp410⟩) hHeld ?_
        case hyp410 => (intro w hSw; (try dsimp only at hSw); go_simp <;> with_reducible rfl)
        try simp only [Act.put, List.setIfInBounds_toArray, List.set_cons_zero, List.set_cons_succ]
        refine wpAnyH_take (i := 10) (oi := { dst := some 28, op := Op.fieldAddr 29 (Operand.tmp 27) 0, type := 0, pos := "l06_chain.go:106", after := #[{ on := 9, ground := Ground.data }], guard := none }) (v := ?vp411) rfl (by kernel_rfl) (by kernel_rfl) (by kernel_rfl) (fun _ _ _ h => h) (Or.inl ⟨by rfl, ?hyp411⟩) hHeld ?_
        case hyp411 => (intro w hSw; (try dsimp only at hSw); go_simp <;> with_reducible rfl)
        try simp only [Act.put, List.setIfInBounds_toArray, List.set_cons_zero, List.set_cons_succ]
        refine wpAnyH_ready (rs := [11]) (by kernel_rfl) (by simp) ?_
        refine AllReadyH.cons (o := { dst := some 29, op := Op.load 27 (Operand.tmp 28), type := 27, pos := "l06_chain.go:106", after := #[{ on := 10, ground := Ground.data }], guard := none }) rfl (fun K hK => ?_) AllReadyH.nil
        obtain ⟨cu, hcu, _, h4⟩ := HYc.out.ab.outer
        have cD : wyc.cell? ⟨M, k * 4, none⟩ = some (.slice (some ⟨(nthA rs k).1, 0, none⟩) (nthA rs k).2.2.l.length (nthA rs k).2.1) := (hcu.cell (k * 4)).trans (h4 k hkl).1
        go_simp
        clear cD h4 hcu
        clear hHeld
        refine hK.out _ _ (HS.out _ (HYc.out.bX)) (fun hHeld => ?_)
        clear hK K
        try simp only [Act.put, List.setIfInBounds_toArray, List.set_cons_zero, List.set_cons_succ]
        
        refine wpAnyH_ready (rs := [12]) (by kernel_rfl) (by simp) ?_
        refine AllReadyH.cons (o := { dst := some 30, op := Op.call { callee := Callee.builtin Builtin.append, args := #[Operand.tmp 19, Operand.tmp 29], argTypes := #[27, 27] }, type := 27, pos := "l06_chain.go:106", after := #[{ on := 1, ground := Ground.data }, { on := 11, ground := Ground.data }, { on := 8, ground := Ground.chain }], guard := none }) rfl (fun K hK => ?_) AllReadyH.nil
        have HBl : Hid (w3.heap.size ≤ w3.drew.heap.size) := by show w3.heap.size ≤ w3.drew.heap.size; simp
        have hfk : Fine (nthA rs k).2.2 := by rw [← pals_nth hkl]; exact HYc.out.fine _ (nthP_mem (by rw [pals_len]; exact hkl))
        have h8 := hfk.2
        refine step_appC rfl _ _ 27 rfl 125 i0 (.agg #[.string ByteArray.empty, .string ByteArray.empty]) 2 32 Try.underlying27 hi hz0 hz1 hz2 rfl (by decide) ((w.heap.size + 1) + 1) ?j41b w3.drew.heap.size rfl (own_empty HE.out ?j41a) ⟨(nthA rs k).1, 0, none⟩ (nthA rs k).2.2.l.length (nthA rs k).2.1 (flat (nthA rs k).2.2.l) rfl (flat_len _) (src_of ((HYc.out.ab.rows _ (nthA_mem hkl)).reads)) (flat_one _) ?j41c ?j41d ?_
        case j41b => have := HY.out.ord; have := HKc.out.size; omega
        case j41a => have := HY.out.ord; have := HBl.out; omega
        case j41c => unfold maxLen; omega
        case j41d => omega
        intro v' wya hown hg hnil
        obtain ⟨Ml, cl, hv⟩ : ∃ g' c', v' = .slice (some ⟨g', 0, none⟩) (nthA rs k).2.2.l.length c' := by
          rcases hown.2 with ⟨e, _⟩ | ⟨g', c', cur, e, _⟩
          · exact absurd e hnil
          · exact ⟨g', c', e⟩
        subst hv
        have HOl : Hid (((w.heap.size + 1) + 1) ≤ Ml ∧ ∃ cs : Array Value, Blk wya Ml cs 125 ∧ (nthA rs k).2.2.l.length * 2 ≤ cs.size ∧ Held cs (nthA rs k).2.2.l (nthA rs k).2.2.l.length) := own_row hown
        have HKa : Hid (Kept (w.heap.size + 1) w3 wya) := kept_grown (B := 0) HKc.out hg (fun k hk => by cases hk; exact HBl.out)
        have HYa : Hid (YSt w (w.heap.size + 1) X wya f M cap rs) := HY.out.keep (HYc.out.cur.grown hg (fun k hk => by cases hk; have := HY.out.ord; have := HBl.out; omega)) HKa.out
        have HFk : Hid (Fine (nthA rs k).2.2) := hfk
        clear hown hg hnil hfk h8
        clear hHeld
        refine hK.out _ _ (HS.out _ (HYa.out.bX)) (fun hHeld => ?_)
        clear hK K
        try simp only [Act.put, List.setIfInBounds_toArray, List.set_cons_zero, List.set_cons_succ]
        
        refine wpAnyH_ready (rs := [13]) (by kernel_rfl) (by simp) ?_
        refine AllReadyH.cons (o := { dst := none, op := Op.store 26 (Operand.tmp 2) (Operand.tmp 18), type := 0, pos := "l06_chain.go:106", after := #[{ on := 0, ground := Ground.data }, { on := 12, ground := Ground.chain }, { on := 0, ground := Ground.phase }, { on := 1, ground := Ground.textOnly Departure.lateStores }, { on := 2, ground := Ground.textOnly Departure.lateStores }, { on := 3, ground := Ground.textOnly Departure.lateStores }, { on := 4, ground := Ground.textOnly Departure.lateStores }, { on := 5, ground := Ground.textOnly Departure.lateStores }, { on := 6, ground := Ground.textOnly Departure.lateStores }, { on := 7, ground := Ground.textOnly Departure.lateStoresUnsure }, { on := 8, ground := Ground.textOnly Departure.lateStoresUnsure }, { on := 9, ground := Ground.textOnly Departure.lateStores }, { on := 10, ground := Ground.textOnly Departure.lateStores }, { on := 11, ground := Ground.textOnly Departure.lateStores }, { on := 12, ground := Ground.textOnly Departure.lateStoresUnsure }], guard := none }) rfl (fun K hK => ?_) AllReadyH.nil
        have hneX : w.heap.size ≠ X := by have := HY.out.ord; omega
        have r0 : wya.cell? ⟨w.heap.size, 0, none⟩ = some (.int .i64 0) := HYa.out.bR.cell 0
        have r1 : wya.cell? ⟨w.heap.size, 1, none⟩ = some (.slice none 0 0) := HYa.out.bR.cell 1
        have fr0 := HYa.out.bR.frozen 0
        have fr1 := HYa.out.bR.frozen 1
        go_simp
        clear hHeld
        refine hK.out _ _ (HS.out _ ((HYa.out.bX.set_other hneX _).set_other hneX _)) (fun hHeld => ?_)
        clear hK K
        try simp only [Act.put, List.setIfInBounds_toArray, List.set_cons_zero, List.set_cons_succ]
        
        refine wpAnyH_ready (rs := [14]) (by kernel_rfl) (by simp) ?_
        refine AllReadyH.cons (o := { dst := some 3, op := Op.assign (Operand.tmp 30), type := 27, pos := "l06_chain.go:106", after := #[{ on := 12, ground := Ground.data }, { on := 13, ground := Ground.chain }, { on := 0, ground := Ground.phase }, { on := 1, ground := Ground.phase }, { on := 2, ground := Ground.phase }, { on := 3, ground := Ground.phase }, { on := 4, ground := Ground.phase }, { on := 5, ground := Ground.phase }, { on := 6, ground := Ground.phase }, { on := 7, ground := Ground.phase }, { on := 8, ground := Ground.phase }, { on := 9, ground := Ground.phase }, { on := 10, ground := Ground.phase }, { on := 11, ground := Ground.phase }, { on := 12, ground := Ground.phase }, { on := 13, ground := Ground.phase }], guard := none }) rfl (fun K hK => ?_) AllReadyH.nil
        go_simp
        clear hHeld
        refine hK.out _ _ (HS.out _ ((HYa.out.bX.set_other hneX _).set_other hneX _)) (fun hHeld => ?_)
        clear hK K
        try simp only [Act.put, List.setIfInBounds_toArray, List.set_cons_zero, List.set_cons_succ]
        
        refine wpAnyH_done (by kernel_rfl) ?_ _
        clear hHeld
        obtain ⟨hM, cs, hbk, hsz, hh⟩ := HOl.out
        have HOx : Hid (OwnA (w.heap.size + 2) wya (Ml, cl, (nthA rs k).2.2)) := ⟨hM, by have := HFk.out.2; show (nthA rs k).2.2.l.length ≤ _; omega, cs, hbk, hsz, hh⟩
        clear hM hbk hsz hh
        go_wp2
        have hs : Blk ((wya.setCell ⟨w.heap.size, 0, none⟩ (.int .i64 f)).setCell ⟨w.heap.size, 1, none⟩ (.slice (some ⟨M, 0, none⟩) rs.length cap)) w.heap.size #[.int .i64 f, .slice (some ⟨M, 0, none⟩) rs.length cap] 26 := (HYa.out.bR.set 0 _).set 1 _
        have s0 := hs.cell 0
        have s1 := hs.cell 1
        refine bodyPost_ret (v := .tuple #[.agg #[.int .i64 f, .slice (some ⟨M, 0, none⟩) rs.length cap], .slice (some ⟨Ml, 0, none⟩) (nthA rs k).2.2.l.length cl]) (by simp [results, Try.results15, go_sem, s0, s1]) rfl ?_
        exact ⟨⟨f, M, cap, pals rs, Ml, cl, (nthA rs k).2.2.l, retC1 (by rw [pals_len]), dch_of (ab_under (ab_under HYa.out.ab (by omega) _ _) (by omega) _ _) HYa.out.fine HYa.out.few, ((own_set (own_set HOx.out (by have h : w.heap.size + 2 ≤ Ml := HOx.out.1; show w.heap.size ≠ Ml; omega) _ _) (by have h : w.heap.size + 2 ≤ Ml := HOx.out.1; show w.heap.size ≠ Ml; omega) _ _).reads), HFk.out.2⟩, ChnP.set2 HYa.out.low (Nat.le_refl _) _ _⟩
      refine AllReadyH.cons (o := { dst := some 26, op := Op.call { callee := Callee.value (Operand.func 45), args := #[Operand.tmp 22, Operand.tmp 25], argTypes := #[75, 3] }, type := 3, pos := "l06_chain.go:106", after := #[{ on := 4, ground := Ground.data }, { on := 7, ground := Ground.data }], guard := none }) rfl (fun K hK => ?_) AllReadyH.nil
      go_simp
      refine (below_any (w.heap.size + 1) (rs.length : Int) w3.drew (Cur.drewN HY.out.cur 1) (by omega) (by omega)).mono ?_
      rintro r wyc ⟨⟨x, rfl, hx0, hx1⟩, hc, hk⟩
      obtain ⟨k, rfl⟩ := Int.eq_ofNat_of_zero_le hx0
      have hkl : k < rs.length := by omega
      have HKc : Hid (Kept (w.heap.size + 1) w3 wyc) := kept_drew hk
      have HYc : Hid (YSt w (w.heap.size + 1) X wyc f M cap rs) := HY.out.keep hc HKc.out
      clear hc hk
      clear hHeld
      refine hK.out _ _ (HS.out _ (HYc.out.bX)) (fun hHeld => ?_)
      clear hK K
      try simp only [Act.put, List.setIfInBounds_toArray, List.set_cons_zero, List.set_cons_succ]
      
      refine wpAnyH_take (i := 9) (oi := { dst := some 27, op := Op.indexAddr 24 (Operand.tmp 21) (Operand.tmp 26), type := 0, pos := "l06_chain.go:106", after := #[{ on := 3, ground := Ground.data }, { on := 8, ground := Ground.data }], guard := none }) (v := ?vp417) rfl (by kernel_rfl) (by kernel_rfl) (by kernel_rfl) (fun _ _ _ h => h) (Or.inl ⟨by rfl, ?hyp417⟩) hHeld ?_
      case hyp417 => (intro w hSw; (try dsimp only at hSw); go_simp <;> with_reducible rfl)
      try simp only [Act.put, List.setIfInBounds_toArray, List.set_cons_zero, List.set_cons_succ]
      refine wpAnyH_take (i := 10) (oi := { dst := some 28, op := Op.fieldAddr 29 (Operand.tmp 27) 0, type := 0, pos := "l06_chain.go:106", after := #[{ on := 9, ground := Ground.data }], guard := none }) (v := ?vp418) rfl (by kernel_rfl) (by kernel_rfl) (by kernel_rfl) (fun _ _ _ h => h) (Or.inl ⟨by rfl, ?hyp418⟩) hHeld ?_
      case hyp418 => (intro w hSw; (try dsimp only at hSw); go_simp <;> with_reducible rfl)
      try simp only [Act.put, List.setIfInBounds_toArray, List.set_cons_zero, List.set_cons_succ]
      refine wpAnyH_ready (rs := [1, 11]) (by kernel_rfl) (by simp) ?_
      refine AllReadyH.cons (o := { dst := some 19, op := Op.buildSlice 27 0 #[], type := 27, pos := "l06_chain.go:106", after := #[], guard := none }) rfl (fun K hK => ?_) ?_
      ·
        go_simp
        clear hHeld
        refine hK.out _ _ (HS.out _ ((HYc.out.bX.alloc _))) (fun hHeld => ?_)
        clear hK K
        try simp only [Act.put, List.setIfInBounds_toArray, List.set_cons_zero, List.set_cons_succ]
        
        refine wpAnyH_ready (rs := [11]) (by kernel_rfl) (by simp) ?_
        refine AllReadyH.cons (o := { dst := some 29, op := Op.load 27 (Operand.tmp 28), type := 27, pos := "l06_chain.go:106", after := #[{ on := 10, ground := Ground.data }], guard := none }) rfl (fun K hK => ?_) AllReadyH.nil
        obtain ⟨cu, hcu, _, h4⟩ := (HYc.out.ab.grow (Go.Joins.below_alloc1 wyc _)).outer
        have cD : (wyc.alloc (.cells #[] 125)).cell? ⟨M, k * 4, none⟩ = some (.slice (some ⟨(nthA rs k).1, 0, none⟩) (nthA rs k).2.2.l.length (nthA rs k).2.1) := (hcu.cell (k * 4)).trans (h4 k hkl).1
        go_simp
        clear cD h4 hcu
        clear hHeld
        refine hK.out _ _ (HS.out _ ((HYc.out.bX.alloc _))) (fun hHeld => ?_)
        clear hK K
        try simp only [Act.put, List.setIfInBounds_toArray, List.set_cons_zero, List.set_cons_succ]
        
        refine wpAnyH_ready (rs := [12]) (by kernel_rfl) (by simp) ?_
        refine AllReadyH.cons (o := { dst := some 30, op := Op.call { callee := Callee.builtin Builtin.append, args := #[Operand.tmp 19, Operand.tmp 29], argTypes := #[27, 27] }, type := 27, pos := "l06_chain.go:106", after := #[{ on := 1, ground := Ground.data }, { on := 11, ground := Ground.data }, { on := 8, ground := Ground.chain }], guard := none }) rfl (fun K hK => ?_) AllReadyH.nil
        have HBl : Hid (w3.heap.size ≤ wyc.heap.size) := by exact HKc.out.size
        have hfk : Fine (nthA rs k).2.2 := by rw [← pals_nth hkl]; exact HYc.out.fine _ (nthP_mem (by rw [pals_len]; exact hkl))
        have h8 := hfk.2
        refine step_appC rfl _ _ 27 rfl 125 i0 (.agg #[.string ByteArray.empty, .string ByteArray.empty]) 2 32 Try.underlying27 hi hz0 hz1 hz2 rfl (by decide) ((w.heap.size + 1) + 1) ?j42b wyc.heap.size rfl (own_empty (Blk.new _ _ _) ?j42a) ⟨(nthA rs k).1, 0, none⟩ (nthA rs k).2.2.l.length (nthA rs k).2.1 (flat (nthA rs k).2.2.l) rfl (flat_len _) (src_of ((HYc.out.ab.rows _ (nthA_mem hkl)).reads.below (Go.Joins.below_alloc1 wyc _))) (flat_one _) ?j42c ?j42d ?_
        case j42b => have := HY.out.ord; have := HKc.out.size; simp; omega
        case j42a => have := HY.out.ord; have := HBl.out; omega
        case j42c => unfold maxLen; omega
        case j42d => omega
        intro v' wya hown hg hnil
        obtain ⟨Ml, cl, hv⟩ : ∃ g' c', v' = .slice (some ⟨g', 0, none⟩) (nthA rs k).2.2.l.length c' := by
          rcases hown.2 with ⟨e, _⟩ | ⟨g', c', cur, e, _⟩
          · exact absurd e hnil
          · exact ⟨g', c', e⟩
        subst hv
        have HOl : Hid (((w.heap.size + 1) + 1) ≤ Ml ∧ ∃ cs : Array Value, Blk wya Ml cs 125 ∧ (nthA rs k).2.2.l.length * 2 ≤ cs.size ∧ Held cs (nthA rs k).2.2.l (nthA rs k).2.2.l.length) := own_row hown
        have HKa : Hid (Kept (w.heap.size + 1) w3 wya) := kept_grown (B := 0) (HKc.out.alloc _) hg (fun k hk => by cases hk; exact HBl.out)
        have HYa : Hid (YSt w (w.heap.size + 1) X wya f M cap rs) := HY.out.keep ((HYc.out.cur.alloc _).grown hg (fun k hk => by cases hk; have := HY.out.ord; have := HBl.out; omega)) HKa.out
        have HFk : Hid (Fine (nthA rs k).2.2) := hfk
        clear hown hg hnil hfk h8
        clear hHeld
        refine hK.out _ _ (HS.out _ (HYa.out.bX)) (fun hHeld => ?_)
        clear hK K
        try simp only [Act.put, List.setIfInBounds_toArray, List.set_cons_zero, List.set_cons_succ]
        
        refine wpAnyH_ready (rs := [13]) (by kernel_rfl) (by simp) ?_
        refine AllReadyH.cons (o := { dst := none, op := Op.store 26 (Operand.tmp 2) (Operand.tmp 18), type := 0, pos := "l06_chain.go:106", after := #[{ on := 0, ground := Ground.data }, { on := 12, ground := Ground.chain }, { on := 0, ground := Ground.phase }, { on := 1, ground := Ground.textOnly Departure.lateStores }, { on := 2, ground := Ground.textOnly Departure.lateStores }, { on := 3, ground := Ground.textOnly Departure.lateStores }, { on := 4, ground := Ground.textOnly Departure.lateStores }, { on := 5, ground := Ground.textOnly Departure.lateStores }, { on := 6, ground := Ground.textOnly Departure.lateStores }, { on := 7, ground := Ground.textOnly Departure.lateStoresUnsure }, { on := 8, ground := Ground.textOnly Departure.lateStoresUnsure }, { on := 9, ground := Ground.textOnly Departure.lateStores }, { on := 10, ground := Ground.textOnly Departure.lateStores }, { on := 11, ground := Ground.textOnly Departure.lateStores }, { on := 12, ground := Ground.textOnly Departure.lateStoresUnsure }], guard := none }) rfl (fun K hK => ?_) AllReadyH.nil
        have hneX : w.heap.size ≠ X := by have := HY.out.ord; omega
        have r0 : wya.cell? ⟨w.heap.size, 0, none⟩ = some (.int .i64 0) := HYa.out.bR.cell 0
        have r1 : wya.cell? ⟨w.heap.size, 1, none⟩ = some (.slice none 0 0) := HYa.out.bR.cell 1
        have fr0 := HYa.out.bR.frozen 0
        have fr1 := HYa.out.bR.frozen 1
        go_simp
        clear hHeld
        refine hK.out _ _ (HS.out _ ((HYa.out.bX.set_other hneX _).set_other hneX _)) (fun hHeld => ?_)
        clear hK K
        try simp only [Act.put, List.setIfInBounds_toArray, List.set_cons_zero, List.set_cons_succ]
        
        refine wpAnyH_ready (rs := [14]) (by kernel_rfl) (by simp) ?_
        refine AllReadyH.cons (o := { dst := some 3, op := Op.assign (Operand.tmp 30), type := 27, pos := "l06_chain.go:106", after := #[{ on := 12, ground := Ground.data }, { on := 13, ground := Ground.chain }, { on := 0, ground := Ground.phase }, { on := 1, ground := Ground.phase }, { on := 2, ground := Ground.phase }, { on := 3, ground := Ground.phase }, { on := 4, ground := Ground.phase }, { on := 5, ground := Ground.phase }, { on := 6, ground := Ground.phase }, { on := 7, ground := Ground.phase }, { on := 8, ground := Ground.phase }, { on := 9, ground := Ground.phase }, { on := 10, ground := Ground.phase }, { on := 11, ground := Ground.phase }, { on := 12, ground := Ground.phase }, { on := 13, ground := Ground.phase }], guard := none }) rfl (fun K hK => ?_) AllReadyH.nil
        go_simp
        clear hHeld
        refine hK.out _ _ (HS.out _ ((HYa.out.bX.set_other hneX _).set_other hneX _)) (fun hHeld => ?_)
        clear hK K
        try simp only [Act.put, List.setIfInBounds_toArray, List.set_cons_zero, List.set_cons_succ]
        
        refine wpAnyH_done (by kernel_rfl) ?_ _
        clear hHeld
        obtain ⟨hM, cs, hbk, hsz, hh⟩ := HOl.out
        have HOx : Hid (OwnA (w.heap.size + 2) wya (Ml, cl, (nthA rs k).2.2)) := ⟨hM, by have := HFk.out.2; show (nthA rs k).2.2.l.length ≤ _; omega, cs, hbk, hsz, hh⟩
        clear hM hbk hsz hh
        go_wp2
        have hs : Blk ((wya.setCell ⟨w.heap.size, 0, none⟩ (.int .i64 f)).setCell ⟨w.heap.size, 1, none⟩ (.slice (some ⟨M, 0, none⟩) rs.length cap)) w.heap.size #[.int .i64 f, .slice (some ⟨M, 0, none⟩) rs.length cap] 26 := (HYa.out.bR.set 0 _).set 1 _
        have s0 := hs.cell 0
        have s1 := hs.cell 1
        refine bodyPost_ret (v := .tuple #[.agg #[.int .i64 f, .slice (some ⟨M, 0, none⟩) rs.length cap], .slice (some ⟨Ml, 0, none⟩) (nthA rs k).2.2.l.length cl]) (by simp [results, Try.results15, go_sem, s0, s1]) rfl ?_
        exact ⟨⟨f, M, cap, pals rs, Ml, cl, (nthA rs k).2.2.l, retC1 (by rw [pals_len]), dch_of (ab_under (ab_under HYa.out.ab (by omega) _ _) (by omega) _ _) HYa.out.fine HYa.out.few, ((own_set (own_set HOx.out (by have h : w.heap.size + 2 ≤ Ml := HOx.out.1; show w.heap.size ≠ Ml; omega) _ _) (by have h : w.heap.size + 2 ≤ Ml := HOx.out.1; show w.heap.size ≠ Ml; omega) _ _).reads), HFk.out.2⟩, ChnP.set2 HYa.out.low (Nat.le_refl _) _ _⟩
      refine AllReadyH.cons (o := { dst := some 29, op := Op.load 27 (Operand.tmp 28), type := 27, pos := "l06_chain.go:106", after := #[{ on := 10, ground := Ground.data }], guard := none }) rfl (fun K hK => ?_) AllReadyH.nil
      obtain ⟨cu, hcu, _, h4⟩ := HYc.out.ab.outer
      have cD : wyc.cell? ⟨M, k * 4, none⟩ = some (.slice (some ⟨(nthA rs k).1, 0, none⟩) (nthA rs k).2.2.l.length (nthA rs k).2.1) := (hcu.cell (k * 4)).trans (h4 k hkl).1
      go_simp
      clear cD h4 hcu
      clear hHeld
      refine hK.out _ _ (HS.out _ (HYc.out.bX)) (fun hHeld => ?_)
      clear hK K
      try simp only [Act.put, List.setIfInBounds_toArray, List.set_cons_zero, List.set_cons_succ]
      
      refine wpAnyH_ready (rs := [1]) (by kernel_rfl) (by simp) ?_
      refine AllReadyH.cons (o := { dst := some 19, op := Op.buildSlice 27 0 #[], type := 27, pos := "l06_chain.go:106", after := #[], guard := none }) rfl (fun K hK => ?_) AllReadyH.nil
      go_simp
      clear hHeld
      refine hK.out _ _ (HS.out _ ((HYc.out.bX.alloc _))) (fun hHeld => ?_)
      clear hK K
      try simp only [Act.put, List.setIfInBounds_toArray, List.set_cons_zero, List.set_cons_succ]
      
      refine wpAnyH_ready (rs := [12]) (by kernel_rfl) (by simp) ?_
      refine AllReadyH.cons (o := { dst := some 30, op := Op.call { callee := Callee.builtin Builtin.append, args := #[Operand.tmp 19, Operand.tmp 29], argTypes := #[27, 27] }, type := 27, pos := "l06_chain.go:106", after := #[{ on := 1, ground := Ground.data }, { on := 11, ground := Ground.data }, { on := 8, ground := Ground.chain }], guard := none }) rfl (fun K hK => ?_) AllReadyH.nil
      have HBl : Hid (w3.heap.size ≤ wyc.heap.size) := by exact HKc.out.size
      have hfk : Fine (nthA rs k).2.2 := by rw [← pals_nth hkl]; exact HYc.out.fine _ (nthP_mem (by rw [pals_len]; exact hkl))
      have h8 := hfk.2
      refine step_appC rfl _ _ 27 rfl 125 i0 (.agg #[.string ByteArray.empty, .string ByteArray.empty]) 2 32 Try.underlying27 hi hz0 hz1 hz2 rfl (by decide) ((w.heap.size + 1) + 1) ?j43b wyc.heap.size rfl (own_empty (Blk.new _ _ _) ?j43a) ⟨(nthA rs k).1, 0, none⟩ (nthA rs k).2.2.l.length (nthA rs k).2.1 (flat (nthA rs k).2.2.l) rfl (flat_len _) (src_of ((HYc.out.ab.rows _ (nthA_mem hkl)).reads.below (Go.Joins.below_alloc1 wyc _))) (flat_one _) ?j43c ?j43d ?_
      case j43b => have := HY.out.ord; have := HKc.out.size; simp; omega
      case j43a => have := HY.out.ord; have := HBl.out; omega
      case j43c => unfold maxLen; omega
      case j43d => omega
      intro v' wya hown hg hnil
      obtain ⟨Ml, cl, hv⟩ : ∃ g' c', v' = .slice (some ⟨g', 0, none⟩) (nthA rs k).2.2.l.length c' := by
        rcases hown.2 with ⟨e, _⟩ | ⟨g', c', cur, e, _⟩
        · exact absurd e hnil
        · exact ⟨g', c', e⟩
      subst hv
      have HOl : Hid (((w.heap.size + 1) + 1) ≤ Ml ∧ ∃ cs : Array Value, Blk wya Ml cs 125 ∧ (nthA rs k).2.2.l.length * 2 ≤ cs.size ∧ Held cs (nthA rs k).2.2.l (nthA rs k).2.2.l.length) := own_row hown
      have HKa : Hid (Kept (w.heap.size + 1) w3 wya) := kept_grown (B := 0) (HKc.out.alloc _) hg (fun k hk => by cases hk; exact HBl.out)
      have HYa : Hid (YSt w (w.heap.size + 1) X wya f M cap rs) := HY.out.keep ((HYc.out.cur.alloc _).grown hg (fun k hk => by cases hk; have := HY.out.ord; have := HBl.out; omega)) HKa.out
      have HFk : Hid (Fine (nthA rs k).2.2) := hfk
      clear hown hg hnil hfk h8
      clear hHeld
      refine hK.out _ _ (HS.out _ (HYa.out.bX)) (fun hHeld => ?_)
      clear hK K
      try simp only [Act.put, List.setIfInBounds_toArray, List.set_cons_zero, List.set_cons_succ]
      
      refine wpAnyH_ready (rs := [13]) (by kernel_rfl) (by simp) ?_
      refine AllReadyH.cons (o := { dst := none, op := Op.store 26 (Operand.tmp 2) (Operand.tmp 18), type := 0, pos := "l06_chain.go:106", after := #[{ on := 0, ground := Ground.data }, { on := 12, ground := Ground.chain }, { on := 0, ground := Ground.phase }, { on := 1, ground := Ground.textOnly Departure.lateStores }, { on := 2, ground := Ground.textOnly Departure.lateStores }, { on := 3, ground := Ground.textOnly Departure.lateStores }, { on := 4, ground := Ground.textOnly Departure.lateStores }, { on := 5, ground := Ground.textOnly Departure.lateStores }, { on := 6, ground := Ground.textOnly Departure.lateStores }, { on := 7, ground := Ground.textOnly Departure.lateStoresUnsure }, { on := 8, ground := Ground.textOnly Departure.lateStoresUnsure }, { on := 9, ground := Ground.textOnly Departure.lateStores }, { on := 10, ground := Ground.textOnly Departure.lateStores }, { on := 11, ground := Ground.textOnly Departure.lateStores }, { on := 12, ground := Ground.textOnly Departure.lateStoresUnsure }], guard := none }) rfl (fun K hK => ?_) AllReadyH.nil
      have hneX : w.heap.size ≠ X := by have := HY.out.ord; omega
      have r0 : wya.cell? ⟨w.heap.size, 0, none⟩ = some (.int .i64 0) := HYa.out.bR.cell 0
      have r1 : wya.cell? ⟨w.heap.size, 1, none⟩ = some (.slice none 0 0) := HYa.out.bR.cell 1
      have fr0 := HYa.out.bR.frozen 0
      have fr1 := HYa.out.bR.frozen 1
      go_simp
      clear hHeld
      refine hK.out _ _ (HS.out _ ((HYa.out.bX.set_other hneX _).set_other hneX _)) (fun hHeld => ?_)
      clear hK K
      try simp only [Act.put, List.setIfInBounds_toArray, List.set_cons_zero, List.set_cons_succ]
      
      refine wpAnyH_ready (rs := [14]) (by kernel_rfl) (by simp) ?_
      refine AllReadyH.cons (o := { dst := some 3, op := Op.assign (Operand.tmp 30), type := 27, pos := "l06_chain.go:106", after := #[{ on := 12, ground := Ground.data }, { on := 13, ground := Ground.chain }, { on := 0, ground := Ground.phase }, { on := 1, ground := Ground.phase }, { on := 2, ground := Ground.phase }, { on := 3, ground := Ground.phase }, { on := 4, ground := Ground.phase }, { on := 5, ground := Ground.phase }, { on := 6, ground := Ground.phase }, { on := 7, ground := Ground.phase }, { on := 8, ground := Ground.phase }, { on := 9, ground := Ground.phase }, { on := 10, ground := Ground.phase }, { on := 11, ground := Ground.phase }, { on := 12, ground := Ground.phase }, { on := 13, ground := Ground.phase }], guard := none }) rfl (fun K hK => ?_) AllReadyH.nil
      go_simp
      clear hHeld
      refine hK.out _ _ (HS.out _ ((HYa.out.bX.set_other hneX _).set_other hneX _)) (fun hHeld => ?_)
      clear hK K
      try simp only [Act.put, List.setIfInBounds_toArray, List.set_cons_zero, List.set_cons_succ]
      
      refine wpAnyH_done (by kernel_rfl) ?_ _
      clear hHeld
      obtain ⟨hM, cs, hbk, hsz, hh⟩ := HOl.out
      have HOx : Hid (OwnA (w.heap.size + 2) wya (Ml, cl, (nthA rs k).2.2)) := ⟨hM, by have := HFk.out.2; show (nthA rs k).2.2.l.length ≤ _; omega, cs, hbk, hsz, hh⟩
      clear hM hbk hsz hh
      go_wp2
      have hs : Blk ((wya.setCell ⟨w.heap.size, 0, none⟩ (.int .i64 f)).setCell ⟨w.heap.size, 1, none⟩ (.slice (some ⟨M, 0, none⟩) rs.length cap)) w.heap.size #[.int .i64 f, .slice (some ⟨M, 0, none⟩) rs.length cap] 26 := (HYa.out.bR.set 0 _).set 1 _
      have s0 := hs.cell 0
      have s1 := hs.cell 1
      refine bodyPost_ret (v := .tuple #[.agg #[.int .i64 f, .slice (some ⟨M, 0, none⟩) rs.length cap], .slice (some ⟨Ml, 0, none⟩) (nthA rs k).2.2.l.length cl]) (by simp [results, Try.results15, go_sem, s0, s1]) rfl ?_
      exact ⟨⟨f, M, cap, pals rs, Ml, cl, (nthA rs k).2.2.l, retC1 (by rw [pals_len]), dch_of (ab_under (ab_under HYa.out.ab (by omega) _ _) (by omega) _ _) HYa.out.fine HYa.out.few, ((own_set (own_set HOx.out (by have h : w.heap.size + 2 ≤ Ml := HOx.out.1; show w.heap.size ≠ Ml; omega) _ _) (by have h : w.heap.size + 2 ≤ Ml := HOx.out.1; show w.heap.size ≠ Ml; omega) _ _).reads), HFk.out.2⟩, ChnP.set2 HYa.out.low (Nat.le_refl _) _ _⟩
    | false =>
      have HS : Hid (∀ w', Blk w' X #[.int .i64 f, .slice (some ⟨M, 0, none⟩) rs.length cap] 26 → w'.cell? ⟨X, 0, none⟩ = some (.int .i64 f) ∧ w'.cell? ⟨X, 1, none⟩ = some (.slice (some ⟨M, 0, none⟩) rs.length cap)) := fun w' h => ⟨h.cell 0, h.cell 1⟩
      go_upto_region 5 with fail
      refine wp_region_held_drew (S := fun w' => w'.cell? ⟨X, 0, none⟩ = some (.int .i64 f) ∧ w'.cell? ⟨X, 1, none⟩ = some (.slice (some ⟨M, 0, none⟩) rs.length cap)) (by kernel_rfl) (HS.out _ HY.out.bX.drew) (fun hHeld => ?_)
      refine wpAnyH_take (i := 0) (oi := { dst := some 31, op := Op.load 26 (Operand.tmp 5), type := 26, pos := "l06_chain.go:108", after := #[], guard := none }) (v := ?vt0) rfl (by kernel_rfl) (by kernel_rfl) (by kernel_rfl) (fun _ _ _ h => h) (Or.inl ⟨by rfl, ?hyt0⟩) hHeld ?_
      case hyt0 => (intro w hSw; (try dsimp only at hSw); go_simp <;> with_reducible rfl)
      try simp only [Act.put, List.setIfInBounds_toArray, List.set_cons_zero, List.set_cons_succ]
      refine wpAnyH_take (i := 1) (oi := { dst := some 32, op := Op.move (Operand.tmp 4), type := 75, pos := "l06_chain.go:108", after := #[], guard := none }) (v := ?vt1) rfl (by kernel_rfl) (by kernel_rfl) (by kernel_rfl) (fun _ _ _ h => h) (Or.inl ⟨by rfl, ?hyt1⟩) hHeld ?_
      case hyt1 => (intro w hSw; (try dsimp only at hSw); go_simp <;> with_reducible rfl)
      try simp only [Act.put, List.setIfInBounds_toArray, List.set_cons_zero, List.set_cons_succ]
      refine wpAnyH_ready (rs := [2]) (by kernel_rfl) (by simp) ?_
      refine AllReadyH.cons (o := { dst := some 33, op := Op.call { callee := Callee.value (Operand.func 55), args := #[Operand.tmp 32], argTypes := #[75] }, type := 27, pos := "l06_chain.go:108", after := #[{ on := 1, ground := Ground.data }], guard := none }) rfl (fun K hK => ?_) AllReadyH.nil
      go_simp
      refine (l2Draw_any (w.heap.size + 1) _ (Cur.drewN HY.out.cur 1)).mono ?_
      rintro r wyt2 ⟨v, rfl, p, hst, hp1, hp2⟩
      obtain ⟨g, cg, rfl⟩ := hst.lies
      have HY4 : Hid (YSt w (w.heap.size + 1) X wyt2 f M cap rs) := HY.out.keep hst.cur (kept_drew hst.kept)
      have HO4 : Hid (OwnA (w.heap.size + 2) wyt2 (g, cg, ⟨p, 0, 0, ByteArray.empty⟩)) := (own_lst hst (by omega)).down (by have := HY.out.ord; show _ ≤ w3.drew.heap.size; simp; omega)
      have hneX : w.heap.size ≠ X := by have := HY.out.ord; omega
      have r0 : wyt2.cell? ⟨w.heap.size, 0, none⟩ = some (.int .i64 0) := HY4.out.bR.cell 0
      have r1 : wyt2.cell? ⟨w.heap.size, 1, none⟩ = some (.slice none 0 0) := HY4.out.bR.cell 1
      have fr0 := HY4.out.bR.frozen 0
      have fr1 := HY4.out.bR.frozen 1
      clear hst
      clear hHeld
      refine hK.out _ _ (HS.out _ HY4.out.bX) (fun hHeld => ?_)
      clear hK K
      try simp only [Act.put, List.setIfInBounds_toArray, List.set_cons_zero, List.set_cons_succ]
      refine wpAnyH_ready (rs := [3]) (by kernel_rfl) (by simp) ?_
      refine AllReadyH.cons (o := { dst := none, op := Op.store 26 (Operand.tmp 2) (Operand.tmp 31), type := 0, pos := "l06_chain.go:108", after := #[{ on := 0, ground := Ground.data }, { on := 2, ground := Ground.chain }, { on := 0, ground := Ground.phase }, { on := 1, ground := Ground.textOnly Departure.lateStores }, { on := 2, ground := Ground.textOnly Departure.lateStoresUnsure }], guard := none }) rfl (fun K hK => ?_) AllReadyH.nil
      go_simp
      clear hHeld
      refine hK.out _ _ (HS.out _ ((HY4.out.bX.set_other hneX _).set_other hneX _)) (fun hHeld => ?_)
      clear hK K
      try simp only [Act.put, List.setIfInBounds_toArray, List.set_cons_zero, List.set_cons_succ]
      refine wpAnyH_ready (rs := [4]) (by kernel_rfl) (by simp) ?_
      refine AllReadyH.cons (o := { dst := some 3, op := Op.assign (Operand.tmp 33), type := 27, pos := "l06_chain.go:108", after := #[{ on := 2, ground := Ground.data }, { on := 3, ground := Ground.chain }, { on := 0, ground := Ground.phase }, { on := 1, ground := Ground.phase }, { on := 2, ground := Ground.phase }, { on := 3, ground := Ground.phase }], guard := none }) rfl (fun K hK => ?_) AllReadyH.nil
      go_simp
      clear hHeld
      refine hK.out _ _ (HS.out _ ((HY4.out.bX.set_other hneX _).set_other hneX _)) (fun hHeld => ?_)
      clear hK K
      try simp only [Act.put, List.setIfInBounds_toArray, List.set_cons_zero, List.set_cons_succ]
      refine wpAnyH_done (by kernel_rfl) ?_ _
      go_wp2
      have hs : Blk ((wyt2.setCell ⟨w.heap.size, 0, none⟩ (.int .i64 f)).setCell ⟨w.heap.size, 1, none⟩ (.slice (some ⟨M, 0, none⟩) rs.length cap)) w.heap.size #[.int .i64 f, .slice (some ⟨M, 0, none⟩) rs.length cap] 26 := (HY4.out.bR.set 0 _).set 1 _
      have s0 := hs.cell 0
      have s1 := hs.cell 1
      refine bodyPost_ret (v := .tuple #[.agg #[.int .i64 f, .slice (some ⟨M, 0, none⟩) rs.length cap], .slice (some ⟨g, 0, none⟩) p.length cg]) (by simp [results, Try.results15, go_sem, s0, s1]) rfl ?_
      exact ⟨⟨f, M, cap, pals rs, g, cg, p, retC1 (by rw [pals_len]), dch_of (ab_under (ab_under HY4.out.ab (by omega) _ _) (by omega) _ _) HY4.out.fine HY4.out.few, ((own_set (own_set HO4.out (by have := HO4.out.1; show w.heap.size ≠ g; have h : w.heap.size + 2 ≤ g := this; omega) _ _) (by have := HO4.out.1; show w.heap.size ≠ g; have h : w.heap.size + 2 ≤ g := this; omega) _ _).reads), by omega⟩, ChnP.set2 HY4.out.low (Nat.le_refl _) _ _⟩
  ·
    have hr0' : ¬ (rs.length : Int) > 0 := by omega
    go_upto_region 5 with fail
    generalize hw3 : w2.alloc (.cells #[.int .i64 f, .slice (some ⟨M, 0, none⟩) rs.length cap] 26) = w3 at *
    have HY : Hid (YSt w (w.heap.size + 1) w2.heap.size w3 f M cap rs) := HY2.out
    clear hw3 HY2 xx
    generalize w2.heap.size = X at HY ⊢
    have HS : Hid (∀ w', Blk w' X #[.int .i64 f, .slice (some ⟨M, 0, none⟩) rs.length cap] 26 → w'.cell? ⟨X, 0, none⟩ = some (.int .i64 f) ∧ w'.cell? ⟨X, 1, none⟩ = some (.slice (some ⟨M, 0, none⟩) rs.length cap)) := fun w' h => ⟨h.cell 0, h.cell 1⟩
    go_upto_region 5 with fail
    refine wp_region_held_drew (S := fun w' => w'.cell? ⟨X, 0, none⟩ = some (.int .i64 f) ∧ w'.cell? ⟨X, 1, none⟩ = some (.slice (some ⟨M, 0, none⟩) rs.length cap)) (by kernel_rfl) (HS.out _ HY.out.bX.drew) (fun hHeld => ?_)
    refine wpAnyH_take (i := 0) (oi := { dst := some 31, op := Op.load 26 (Operand.tmp 5), type := 26, pos := "l06_chain.go:108", after := #[], guard := none }) (v := ?vt0) rfl (by kernel_rfl) (by kernel_rfl) (by kernel_rfl) (fun _ _ _ h => h) (Or.inl ⟨by rfl, ?hyt0⟩) hHeld ?_
    case hyt0 => (intro w hSw; (try dsimp only at hSw); go_simp <;> with_reducible rfl)
    try simp only [Act.put, List.setIfInBounds_toArray, List.set_cons_zero, List.set_cons_succ]
    refine wpAnyH_take (i := 1) (oi := { dst := some 32, op := Op.move (Operand.tmp 4), type := 75, pos := "l06_chain.go:108", after := #[], guard := none }) (v := ?vt1) rfl (by kernel_rfl) (by kernel_rfl) (by kernel_rfl) (fun _ _ _ h => h) (Or.inl ⟨by rfl, ?hyt1⟩) hHeld ?_
    case hyt1 => (intro w hSw; (try dsimp only at hSw); go_simp <;> with_reducible rfl)
    try simp only [Act.put, List.setIfInBounds_toArray, List.set_cons_zero, List.set_cons_succ]
    refine wpAnyH_ready (rs := [2]) (by kernel_rfl) (by simp) ?_
    refine AllReadyH.cons (o := { dst := some 33, op := Op.call { callee := Callee.value (Operand.func 55), args := #[Operand.tmp 32], argTypes := #[75] }, type := 27, pos := "l06_chain.go:108", after := #[{ on := 1, ground := Ground.data }], guard := none }) rfl (fun K hK => ?_) AllReadyH.nil
    go_simp
    refine (l2Draw_any (w.heap.size + 1) _ (Cur.drewN HY.out.cur 1)).mono ?_
    rintro r wyt2 ⟨v, rfl, p, hst, hp1, hp2⟩
    obtain ⟨g, cg, rfl⟩ := hst.lies
    have HY4 : Hid (YSt w (w.heap.size + 1) X wyt2 f M cap rs) := HY.out.keep hst.cur (kept_drew hst.kept)
    have HO4 : Hid (OwnA (w.heap.size + 2) wyt2 (g, cg, ⟨p, 0, 0, ByteArray.empty⟩)) := (own_lst hst (by omega)).down (by have := HY.out.ord; show _ ≤ w3.drew.heap.size; simp; omega)
    have hneX : w.heap.size ≠ X := by have := HY.out.ord; omega
    have r0 : wyt2.cell? ⟨w.heap.size, 0, none⟩ = some (.int .i64 0) := HY4.out.bR.cell 0
    have r1 : wyt2.cell? ⟨w.heap.size, 1, none⟩ = some (.slice none 0 0) := HY4.out.bR.cell 1
    have fr0 := HY4.out.bR.frozen 0
    have fr1 := HY4.out.bR.frozen 1
    clear hst
    clear hHeld
    refine hK.out _ _ (HS.out _ HY4.out.bX) (fun hHeld => ?_)
    clear hK K
    try simp only [Act.put, List.setIfInBounds_toArray, List.set_cons_zero, List.set_cons_succ]
    refine wpAnyH_ready (rs := [3]) (by kernel_rfl) (by simp) ?_
    refine AllReadyH.cons (o := { dst := none, op := Op.store 26 (Operand.tmp 2) (Operand.tmp 31), type := 0, pos := "l06_chain.go:108", after := #[{ on := 0, ground := Ground.data }, { on := 2, ground := Ground.chain }, { on := 0, ground := Ground.phase }, { on := 1, ground := Ground.textOnly Departure.lateStores }, { on := 2, ground := Ground.textOnly Departure.lateStoresUnsure }], guard := none }) rfl (fun K hK => ?_) AllReadyH.nil
    go_simp
    clear hHeld
    refine hK.out _ _ (HS.out _ ((HY4.out.bX.set_other hneX _).set_other hneX _)) (fun hHeld => ?_)
    clear hK K
    try simp only [Act.put, List.setIfInBounds_toArray, List.set_cons_zero, List.set_cons_succ]
    refine wpAnyH_ready (rs := [4]) (by kernel_rfl) (by simp) ?_
    refine AllReadyH.cons (o := { dst := some 3, op := Op.assign (Operand.tmp 33), type := 27, pos := "l06_chain.go:108", after := #[{ on := 2, ground := Ground.data }, { on := 3, ground := Ground.chain }, { on := 0, ground := Ground.phase }, { on := 1, ground := Ground.phase }, { on := 2, ground := Ground.phase }, { on := 3, ground := Ground.phase }], guard := none }) rfl (fun K hK => ?_) AllReadyH.nil
    go_simp
    clear hHeld
    refine hK.out _ _ (HS.out _ ((HY4.out.bX.set_other hneX _).set_other hneX _)) (fun hHeld => ?_)
    clear hK K
    try simp only [Act.put, List.setIfInBounds_toArray, List.set_cons_zero, List.set_cons_succ]
    refine wpAnyH_done (by kernel_rfl) ?_ _
    go_wp2
    have hs : Blk ((wyt2.setCell ⟨w.heap.size, 0, none⟩ (.int .i64 f)).setCell ⟨w.heap.size, 1, none⟩ (.slice (some ⟨M, 0, none⟩) rs.length cap)) w.heap.size #[.int .i64 f, .slice (some ⟨M, 0, none⟩) rs.length cap] 26 := (HY4.out.bR.set 0 _).set 1 _
    have s0 := hs.cell 0
    have s1 := hs.cell 1
    refine bodyPost_ret (v := .tuple #[.agg #[.int .i64 f, .slice (some ⟨M, 0, none⟩) rs.length cap], .slice (some ⟨g, 0, none⟩) p.length cg]) (by simp [results, Try.results15, go_sem, s0, s1]) rfl ?_
    exact ⟨⟨f, M, cap, pals rs, g, cg, p, retC1 (by rw [pals_len]), dch_of (ab_under (ab_under HY4.out.ab (by omega) _ _) (by omega) _ _) HY4.out.fine HY4.out.few, ((own_set (own_set HO4.out (by have := HO4.out.1; show w.heap.size ≠ g; have h : w.heap.size + 2 ≤ g := this; omega) _ _) (by have := HO4.out.1; show w.heap.size ≠ g; have h : w.heap.size + 2 ≤ g := this; omega) _ _).reads), by omega⟩, ChnP.set2 HY4.out.low (Nat.le_refl _) _ _⟩
set_option maxRecDepth 100000 in
set_option maxHeartbeats 3200000 in
theorem drawPut_any (a : Option Addr) (len cap : Nat) (w : World) (hl : len ≤ maxLen) (hb : Bytes w a len w.heap.size) :
    Calls Try.prog 7 #[.slice a len cap] w fun r w' => (∃ (f : Int) (M cap : Nat) (P : List PAl) (g c2 : Nat) (x : PAl), r = .returned (.tuple #[.agg #[.int .i64 f, .slice (some ⟨M, 0, none⟩) P.length cap], .agg #[.slice (some ⟨g, 0, none⟩) x.l.length c2, .int .i64 x.s, .int .i64 x.e, .string x.n]]) ∧ DCh w' M P ∧ DAl w' g x) ∧ Below w.heap.size w w' := by
  have HB : Hid (Bytes w a len w.heap.size) := hb
  have HL : Hid (len ≤ maxLen) := hl
  clear hb hl
  obtain ⟨i0, hi, hz0, hz1, hz2⟩ := info_parts infoL
  go_enter Try.func7, Try.ntmps7
  go_wp2_with fail
  refine (new_any a len cap _ HL.out (LawB.bytes_up HB.out (Go.Joins.below_alloc2 w _ _))).mono ?_
  rintro r w1 ⟨rfl, hc1, hb1⟩
  have HC1 : Hid (Cur w1 (w.heap.size + 2)) := by simp at hc1; exact hc1
  have HR1 : Hid (Blk w1 w.heap.size #[.int .i64 0, .slice none 0 0] 26) := ((Blk.new _ _ _).alloc _).grow hb1
  have HV1 : Hid (Blk w1 (w.heap.size + 1) #[.slice none 0 0, .int .i64 0, .int .i64 0, .string ⟨#[]⟩] 29) := (Blk.new_at (by simp)).grow hb1
  have HB1 : Hid (Below w.heap.size w w1) := grow_on (Go.Joins.below_alloc2 w _ _) hb1
  clear hc1 hb1
  go_wp2_with fail
  refine (l6Any_any (w.heap.size + 2) _ HC1.out).mono ?_
  rintro r w2 ⟨f, M, cap, rs, rfl, hd, h5, -⟩
  have HY2 : Hid (YSt w (w.heap.size + 2) w2.heap.size (w2.alloc (.cells #[.int .i64 f, .slice (some ⟨M, 0, none⟩) rs.length cap] 26)) f M cap rs) := yst_of (by omega) HB1.out HR1.out hd h5
  have HV2 : Hid (Blk (w2.alloc (.cells #[.int .i64 f, .slice (some ⟨M, 0, none⟩) rs.length cap] 26)) (w.heap.size + 1) #[.slice none 0 0, .int .i64 0, .int .i64 0, .string ⟨#[]⟩] 29) := (blk_kept HV1.out hd.kept (by omega)).alloc _
  clear hd HC1 HR1 HB1 HV1
  go_wp2_with fail
  refine (l4Draw_any (w.heap.size + 2) _ HY2.out.cur).mono ?_
  rintro r w4 ⟨g, cg, p, s, e, n, rfl, hst, hp, hs, he, hn⟩
  have HF : Hid (Fine ⟨p, s, e, n⟩) := fine_of hp hst.fit hs he hn
  have HO4 : Hid (OwnA (w.heap.size + 3) w4 (g, cg, ⟨p, s, e, n⟩)) := (own_lst hst hp).down (by have := HY2.out.ord; omega)
  have HY4 : Hid (YSt w (w.heap.size + 2) w2.heap.size w4 f M cap rs) := HY2.out.keep hst.cur hst.kept
  have HV4 : Hid (Blk w4 (w.heap.size + 1) #[.slice none 0 0, .int .i64 0, .int .i64 0, .string ⟨#[]⟩] 29) := blk_kept HV2.out hst.kept (by omega)
  clear hst hp hs he hn HY2 HV2
  generalize w2.heap.size = X at HY4 ⊢
  have HYz : Hid (YSt w (w.heap.size + 2) X (w4.alloc (.cells #[.slice (some ⟨g, 0, none⟩) p.length cg, .int .i64 s, .int .i64 e, .string n] 29)) f M cap rs) := HY4.out.grow (Go.Joins.below_alloc1 w4 _)
  have HVz : Hid (Blk (w4.alloc (.cells #[.slice (some ⟨g, 0, none⟩) p.length cg, .int .i64 s, .int .i64 e, .string n] 29)) (w.heap.size + 1) #[.slice none 0 0, .int .i64 0, .int .i64 0, .string ⟨#[]⟩] 29) := HV4.out.alloc _
  have HAz : Hid (Blk (w4.alloc (.cells #[.slice (some ⟨g, 0, none⟩) p.length cg, .int .i64 s, .int .i64 e, .string n] 29)) w4.heap.size #[.slice (some ⟨g, 0, none⟩) p.length cg, .int .i64 s, .int .i64 e, .string n] 29) := Blk.new _ _ _
  have HOz : Hid (OwnA (w.heap.size + 3) (w4.alloc (.cells #[.slice (some ⟨g, 0, none⟩) p.length cg, .int .i64 s, .int .i64 e, .string n] 29)) (g, cg, ⟨p, s, e, n⟩)) := HO4.out.grow (Go.Joins.below_alloc1 w4 _)
  have HXA : Hid (X < w4.heap.size) := HY4.out.ord.2.2
  have HAn : Hid (w4.heap.size ≠ M ∧ ∀ x ∈ rs, x.1 ≠ w4.heap.size) := ⟨by have := HY4.out.ab.lt; omega, fun x hx => by have := (HY4.out.ab.rows x hx).lt; omega⟩
  have xx : (w4.alloc (.cells #[.slice (some ⟨g, 0, none⟩) p.length cg, .int .i64 s, .int .i64 e, .string n] 29)).cell? ⟨X, 1, none⟩ = some (.slice (some ⟨M, 0, none⟩) rs.length cap) := HYz.out.bX.cell 1
  by_cases hr0 : 0 < rs.length
  ·
    have hr0' : (rs.length : Int) > 0 := by omega
    go_wp2_with fail
    refine (once_any (w.heap.size + 2) 2 _ HYz.out.cur (by decide) (by decide)).mono ?_
    rintro r w3 ⟨⟨b, rfl⟩, hc3, hk3⟩
    have HY : Hid (YSt w (w.heap.size + 2) X w3 f M cap rs) := HYz.out.keep hc3 hk3
    have HV : Hid (Blk w3 (w.heap.size + 1) #[.slice none 0 0, .int .i64 0, .int .i64 0, .string ⟨#[]⟩] 29) := blk_kept HVz.out hk3 (by omega)
    have HA : Hid (Blk w3 w4.heap.size #[.slice (some ⟨g, 0, none⟩) p.length cg, .int .i64 s, .int .i64 e, .string n] 29) := blk_kept HAz.out hk3 (by have := HXA.out; have := HYz.out.ord; omega)
    have HO : Hid (OwnA (w.heap.size + 3) w3 (g, cg, ⟨p, s, e, n⟩)) := own_kept HOz.out hk3 (by omega)
    clear hc3 hk3 HYz HVz HAz HOz xx HY4 HV4 HO4
    generalize w4.heap.size = A at HXA HAn HA ⊢
    cases b with
    | true =>
      have HS : Hid (∀ w', Blk w' X #[.int .i64 f, .slice (some ⟨M, 0, none⟩) rs.length cap] 26 → w'.cell? ⟨X, 0, none⟩ = some (.int .i64 f) ∧ w'.cell? ⟨X, 1, none⟩ = some (.slice (some ⟨M, 0, none⟩) rs.length cap)) := fun w' h => ⟨h.cell 0, h.cell 1⟩
      go_upto_region 5 with fail
      refine wp_region_held_drew (S := fun w' => w'.cell? ⟨X, 0, none⟩ = some (.int .i64 f) ∧ w'.cell? ⟨X, 1, none⟩ = some (.slice (some ⟨M, 0, none⟩) rs.length cap)) (by kernel_rfl) (HS.out _ HY.out.bX.drew) (fun hHeld => ?_)
      refine wpAnyH_take (i := 1) (oi := { dst := some 22, op := Op.fieldAddr 26 (Operand.tmp 5) 1, type := 0, pos := "l06_chain.go:116", after := #[], guard := none }) (v := ?vp51) rfl (by kernel_rfl) (by kernel_rfl) (by kernel_rfl) (fun _ _ _ h => h) (Or.inl ⟨by rfl, ?hyp51⟩) hHeld ?_
      case hyp51 => (intro w hSw; (try dsimp only at hSw); go_simp <;> with_reducible rfl)
      try simp only [Act.put, List.setIfInBounds_toArray, List.set_cons_zero, List.set_cons_succ]
      refine wpAnyH_take (i := 2) (oi := { dst := some 23, op := Op.load 24 (Operand.tmp 22), type := 24, pos := "l06_chain.go:116", after := #[{ on := 1, ground := Ground.data }], guard := none }) (v := ?vp52) rfl (by kernel_rfl) (by kernel_rfl) (by kernel_rfl) (fun _ _ _ h => h) (Or.inl ⟨by rfl, ?hyp52⟩) hHeld ?_
      case hyp52 => (intro w hSw; (try dsimp only at hSw); go_simp <;> with_reducible rfl)
      try simp only [Act.put, List.setIfInBounds_toArray, List.set_cons_zero, List.set_cons_succ]
      refine wpAnyH_take (i := 3) (oi := { dst := some 24, op := Op.move (Operand.tmp 4), type := 75, pos := "l06_chain.go:116", after := #[], guard := none }) (v := ?vp53) rfl (by kernel_rfl) (by kernel_rfl) (by kernel_rfl) (fun _ _ _ h => h) (Or.inl ⟨by rfl, ?hyp53⟩) hHeld ?_
      case hyp53 => (intro w hSw; (try dsimp only at hSw); go_simp <;> with_reducible rfl)
      try simp only [Act.put, List.setIfInBounds_toArray, List.set_cons_zero, List.set_cons_succ]
      refine wpAnyH_take (i := 4) (oi := { dst := some 25, op := Op.fieldAddr 26 (Operand.tmp 5) 1, type := 0, pos := "l06_chain.go:116", after := #[], guard := none }) (v := ?vp54) rfl (by kernel_rfl) (by kernel_rfl) (by kernel_rfl) (fun _ _ _ h => h) (Or.inl ⟨by rfl, ?hyp54⟩) hHeld ?_
      case hyp54 => (intro w hSw; (try dsimp only at hSw); go_simp <;> with_reducible rfl)
      try simp only [Act.put, List.setIfInBounds_toArray, List.set_cons_zero, List.set_cons_succ]
      refine wpAnyH_take (i := 5) (oi := { dst := some 26, op := Op.load 24 (Operand.tmp 25), type := 24, pos := "l06_chain.go:116", after := #[{ on := 4, ground := Ground.data }], guard := none }) (v := ?vp55) rfl (by kernel_rfl) (by kernel_rfl) (by kernel_rfl) (fun _ _ _ h => h) (Or.inl ⟨by rfl, ?hyp55⟩) hHeld ?_
      case hyp55 => (intro w hSw; (try dsimp only at hSw); go_simp <;> with_reducible rfl)
      try simp only [Act.put, List.setIfInBounds_toArray, List.set_cons_zero, List.set_cons_succ]
      refine wpAnyH_take (i := 6) (oi := { dst := some 27, op := Op.call { callee := Callee.builtin Builtin.len, args := #[Operand.tmp 26], argTypes := #[24] }, type := 3, pos := "l06_chain.go:116", after := #[{ on := 5, ground := Ground.data }], guard := none }) (v := ?vp56) rfl (by kernel_rfl) (by kernel_rfl) (by kernel_rfl) (fun _ _ _ h => h) (Or.inl ⟨by rfl, ?hyp56⟩) hHeld ?_
      case hyp56 => (intro w hSw; (try dsimp only at hSw); go_simp <;> with_reducible rfl)
      try simp only [Act.put, List.setIfInBounds_toArray, List.set_cons_zero, List.set_cons_succ]
      refine wpAnyH_ready (rs := [0, 7]) (by kernel_rfl) (by simp) ?_
      refine AllReadyH.cons (o := { dst := some 21, op := Op.buildSlice 27 0 #[], type := 27, pos := "l06_chain.go:116", after := #[], guard := none }) rfl (fun K hK => ?_) ?_
      ·
        go_simp
        clear hHeld
        refine hK.out _ _ (HS.out _ ((HY.out.bX.drew.alloc _))) (fun hHeld => ?_)
        clear hK K
        try simp only [Act.put, List.setIfInBounds_toArray, List.set_cons_zero, List.set_cons_succ]
        
        refine wpAnyH_ready (rs := [7]) (by kernel_rfl) (by simp) ?_
        refine AllReadyH.cons (o := { dst := some 28, op := Op.call { callee := Callee.value (Operand.func 45), args := #[Operand.tmp 24, Operand.tmp 27], argTypes := #[75, 3] }, type := 3, pos := "l06_chain.go:116", after := #[{ on := 3, ground := Ground.data }, { on := 6, ground := Ground.data }], guard := none }) rfl (fun K hK => ?_) AllReadyH.nil
        go_simp
        refine (below_any (w.heap.size + 2) (rs.length : Int) (w3.drew.alloc (.cells #[] 125)) ((Cur.drewN HY.out.cur 1).alloc _) (by omega) (by omega)).mono ?_
        rintro r wyc ⟨⟨x, rfl, hx0, hx1⟩, hc, hk⟩
        obtain ⟨k, rfl⟩ := Int.eq_ofNat_of_zero_le hx0
        have hkl : k < rs.length := by omega
        have HKc : Hid (Kept (w.heap.size + 2) w3 wyc) := ((Kept.refl (w.heap.size + 2) w3).drew.alloc _).trans hk
        have HYc : Hid (YSt w (w.heap.size + 2) X wyc f M cap rs) := HY.out.keep hc HKc.out
        have HE : Hid (Blk wyc w3.drew.heap.size #[] 125) := blk_kept (Blk.new _ _ _) hk (by have := HY.out.ord; show w3.drew.heap.size ≠ _; simp; omega)
        clear hc hk
        clear hHeld
        refine hK.out _ _ (HS.out _ (HYc.out.bX)) (fun hHeld => ?_)
        clear hK K
        try simp only [Act.put, List.setIfInBounds_toArray, List.set_cons_zero, List.set_cons_succ]
        
        refine wpAnyH_take (i := 8) (oi := { dst := some 29, op := Op.indexAddr 24 (Operand.tmp 23) (Operand.tmp 28), type := 0, pos := "l06_chain.go:116", after := #[{ on := 2, ground := Ground.data }, { on := 7, ground := Ground.data }], guard := none }) (v := ?vp59) rfl (by kernel_rfl) (by kernel_rfl) (by kernel_rfl) (fun _ _ _ h => h) (Or.inl ⟨by rfl, ?hyp59⟩) hHeld ?_
        case hyp59 => (intro w hSw; (try dsimp only at hSw); go_simp <;> with_reducible rfl)
        try simp only [Act.put, List.setIfInBounds_toArray, List.set_cons_zero, List.set_cons_succ]
        refine wpAnyH_take (i := 9) (oi := { dst := some 30, op := Op.fieldAddr 29 (Operand.tmp 29) 0, type := 0, pos := "l06_chain.go:116", after := #[{ on := 8, ground := Ground.data }], guard := none }) (v := ?vp510) rfl (by kernel_rfl) (by kernel_rfl) (by kernel_rfl) (fun _ _ _ h => h) (Or.inl ⟨by rfl, ?hyp510⟩) hHeld ?_
        case hyp510 => (intro w hSw; (try dsimp only at hSw); go_simp <;> with_reducible rfl)
        try simp only [Act.put, List.setIfInBounds_toArray, List.set_cons_zero, List.set_cons_succ]
        refine wpAnyH_ready (rs := [10]) (by kernel_rfl) (by simp) ?_
        refine AllReadyH.cons (o := { dst := some 31, op := Op.load 27 (Operand.tmp 30), type := 27, pos := "l06_chain.go:116", after := #[{ on := 9, ground := Ground.data }], guard := none }) rfl (fun K hK => ?_) AllReadyH.nil
        obtain ⟨cu, hcu, _, h4⟩ := HYc.out.ab.outer
        have cD : wyc.cell? ⟨M, k * 4, none⟩ = some (.slice (some ⟨(nthA rs k).1, 0, none⟩) (nthA rs k).2.2.l.length (nthA rs k).2.1) := (hcu.cell (k * 4)).trans (h4 k hkl).1
        go_simp
        clear cD h4 hcu
        clear hHeld
        refine hK.out _ _ (HS.out _ (HYc.out.bX)) (fun hHeld => ?_)
        clear hK K
        try simp only [Act.put, List.setIfInBounds_toArray, List.set_cons_zero, List.set_cons_succ]
        
        refine wpAnyH_ready (rs := [11]) (by kernel_rfl) (by simp) ?_
        refine AllReadyH.cons (o := { dst := some 32, op := Op.call { callee := Callee.builtin Builtin.append, args := #[Operand.tmp 21, Operand.tmp 31], argTypes := #[27, 27] }, type := 27, pos := "l06_chain.go:116", after := #[{ on := 0, ground := Ground.data }, { on := 10, ground := Ground.data }, { on := 7, ground := Ground.chain }], guard := none }) rfl (fun K hK => ?_) AllReadyH.nil
        have HBl : Hid (w3.heap.size ≤ w3.drew.heap.size) := by show w3.heap.size ≤ w3.drew.heap.size; simp
        have hfk : Fine (nthA rs k).2.2 := by rw [← pals_nth hkl]; exact HYc.out.fine _ (nthP_mem (by rw [pals_len]; exact hkl))
        have h8 := hfk.2
        refine step_appC rfl _ _ 27 rfl 125 i0 (.agg #[.string ByteArray.empty, .string ByteArray.empty]) 2 32 Try.underlying27 hi hz0 hz1 hz2 rfl (by decide) ((w.heap.size + 2) + 1) ?j51b w3.drew.heap.size rfl (own_empty HE.out ?j51a) ⟨(nthA rs k).1, 0, none⟩ (nthA rs k).2.2.l.length (nthA rs k).2.1 (flat (nthA rs k).2.2.l) rfl (flat_len _) (src_of ((HYc.out.ab.rows _ (nthA_mem hkl)).reads)) (flat_one _) ?j51c ?j51d ?_
        case j51b => have := HY.out.ord; have := HKc.out.size; omega
        case j51a => have := HY.out.ord; have := HBl.out; omega
        case j51c => unfold maxLen; omega
        case j51d => omega
        intro v' wya hown hg hnil
        obtain ⟨Ml, cl, hv⟩ : ∃ g' c', v' = .slice (some ⟨g', 0, none⟩) (nthA rs k).2.2.l.length c' := by
          rcases hown.2 with ⟨e, _⟩ | ⟨g', c', cur, e, _⟩
          · exact absurd e hnil
          · exact ⟨g', c', e⟩
        subst hv
        have HOl : Hid (((w.heap.size + 2) + 1) ≤ Ml ∧ ∃ cs : Array Value, Blk wya Ml cs 125 ∧ (nthA rs k).2.2.l.length * 2 ≤ cs.size ∧ Held cs (nthA rs k).2.2.l (nthA rs k).2.2.l.length) := own_row hown
        have HKa : Hid (Kept (w.heap.size + 2) w3 wya) := kept_grown (B := 0) HKc.out hg (fun k hk => by cases hk; exact HBl.out)
        have HYa : Hid (YSt w (w.heap.size + 2) X wya f M cap rs) := HY.out.keep (HYc.out.cur.grown hg (fun k hk => by cases hk; have := HY.out.ord; have := HBl.out; omega)) HKa.out
        have HFk : Hid (Fine (nthA rs k).2.2) := hfk
        have HVa : Hid (Blk wya (w.heap.size + 1) #[.slice none 0 0, .int .i64 0, .int .i64 0, .string ⟨#[]⟩] 29) := blk_kept HV.out HKa.out (by omega)
        have HAa : Hid (Blk wya A #[.slice (some ⟨g, 0, none⟩) p.length cg, .int .i64 s, .int .i64 e, .string n] 29) := blk_kept HA.out HKa.out (by have := HXA.out; have := HY.out.ord; omega)
        have HAr : Hid (A ≠ M ∧ ∀ x ∈ rs, x.1 ≠ A) := HAn.out
        clear hown hg hnil hfk h8
        clear hHeld
        refine hK.out _ _ (HS.out _ (HYa.out.bX)) (fun hHeld => ?_)
        clear hK K
        try simp only [Act.put, List.setIfInBounds_toArray, List.set_cons_zero, List.set_cons_succ]
        
        refine wpAnyH_take (i := 12) (oi := { dst := some 33, op := Op.fieldAddr 29 (Operand.tmp 6) 0, type := 0, pos := "l06_chain.go:116", after := #[{ on := 0, ground := Ground.phase }, { on := 1, ground := Ground.phase }, { on := 2, ground := Ground.phase }, { on := 3, ground := Ground.phase }, { on := 4, ground := Ground.phase }, { on := 5, ground := Ground.phase }, { on := 6, ground := Ground.phase }, { on := 7, ground := Ground.phase }, { on := 8, ground := Ground.phase }, { on := 9, ground := Ground.phase }, { on := 10, ground := Ground.phase }, { on := 11, ground := Ground.phase }], guard := none }) (v := ?vp513) rfl (by kernel_rfl) (by kernel_rfl) (by kernel_rfl) (fun _ _ _ h => h) (Or.inl ⟨by rfl, ?hyp513⟩) hHeld ?_
        case hyp513 => (intro w hSw; (try dsimp only at hSw); go_simp <;> with_reducible rfl)
        try simp only [Act.put, List.setIfInBounds_toArray, List.set_cons_zero, List.set_cons_succ]
        refine wpAnyH_ready (rs := [13]) (by kernel_rfl) (by simp) ?_
        refine AllReadyH.cons (o := { dst := none, op := Op.store 27 (Operand.tmp 33) (Operand.tmp 32), type := 0, pos := "l06_chain.go:116", after := #[{ on := 12, ground := Ground.data }, { on := 11, ground := Ground.data }, { on := 11, ground := Ground.chain }, { on := 0, ground := Ground.phase }, { on := 1, ground := Ground.phase }, { on := 2, ground := Ground.phase }, { on := 3, ground := Ground.phase }, { on := 4, ground := Ground.phase }, { on := 5, ground := Ground.phase }, { on := 6, ground := Ground.phase }, { on := 7, ground := Ground.phase }, { on := 8, ground := Ground.phase }, { on := 9, ground := Ground.phase }, { on := 10, ground := Ground.phase }, { on := 11, ground := Ground.phase }], guard := none }) rfl (fun K hK => ?_) AllReadyH.nil
        have cA : wya.cell? ⟨A, 0, none⟩ = some (.slice (some ⟨g, 0, none⟩) p.length cg) := HAa.out.cell 0
        have fA := HAa.out.frozen 0
        have hneA : A ≠ X := by have := HXA.out; omega
        go_simp
        clear cA fA
        clear hHeld
        refine hK.out _ _ (HS.out _ (HYa.out.bX.set_other hneA _)) (fun hHeld => ?_)
        clear hK K
        try simp only [Act.put, List.setIfInBounds_toArray, List.set_cons_zero, List.set_cons_succ]
        
        refine wpAnyH_done (by kernel_rfl) ?_ _
        clear hHeld
        have hneA : A ≠ X := by have := HXA.out; omega
        have hA0 := HXA.out
        have hA1 := HY.out.ord
        obtain ⟨W3, hW3⟩ : ∃ W3, wya.setCell ⟨A, 0, none⟩ (.slice (some ⟨Ml, 0, none⟩) (nthA rs k).2.2.l.length cl) = W3 := ⟨_, rfl⟩
        have HY6 : Hid (YSt w (w.heap.size + 2) X W3 f M cap rs) := by
          rw [← hW3]
          obtain ⟨cu, hcu, _⟩ := HYa.out.ab.outer
          exact ⟨cur_set HYa.out.cur (by omega) _ _, set_low HYa.out.low (by omega) _ _, by simpa using HYa.out.ord, HYa.out.bR.set_other (by show A ≠ _; omega) _, HYa.out.bX.set_other hneA _, ab_clear HYa.out.ab HAr.out.1 HAr.out.2 _ _, HYa.out.fine, HYa.out.few⟩
        have HV6 : Hid (Blk W3 (w.heap.size + 1) #[.slice none 0 0, .int .i64 0, .int .i64 0, .string ⟨#[]⟩] 29) := by rw [← hW3]; exact HVa.out.set_other (by show A ≠ _; omega) _
        have HA6 : Hid (Blk W3 A #[.slice (some ⟨Ml, 0, none⟩) (nthA rs k).2.2.l.length cl, .int .i64 s, .int .i64 e, .string n] 29) := by rw [← hW3]; exact HAa.out.set 0 _
        have HO6 : Hid (OwnA (w.heap.size + 3) W3 (Ml, cl, ⟨(nthA rs k).2.2.l, s, e, n⟩)) := by
          rw [← hW3]
          obtain ⟨hM, cs, hbk, hsz, hh⟩ := HOl.out
          exact ⟨hM, by have := HFk.out.2; show (nthA rs k).2.2.l.length ≤ _; omega, cs, hbk.set_other (blkA_ne HAa.out hbk) _, hsz, hh⟩
        have HFx : Hid (Fine ⟨(nthA rs k).2.2.l, s, e, n⟩) := ⟨⟨HFk.out.1.len, HFk.out.1.fits, HF.out.1.sb, HF.out.1.eb, HF.out.1.note⟩, HFk.out.2⟩
        rw [hW3]
        clear hW3
        have HSA : Hid (∀ w', Blk w' X #[.int .i64 f, .slice (some ⟨M, 0, none⟩) rs.length cap] 26 → Blk w' A #[.slice (some ⟨Ml, 0, none⟩) (⟨(nthA rs k).2.2.l, s, e, n⟩ : PAl).l.length cl, .int .i64 (⟨(nthA rs k).2.2.l, s, e, n⟩ : PAl).s, .int .i64 (⟨(nthA rs k).2.2.l, s, e, n⟩ : PAl).e, .string (⟨(nthA rs k).2.2.l, s, e, n⟩ : PAl).n] 29 → w'.cell? ⟨X, 0, none⟩ = some (.int .i64 f) ∧ w'.cell? ⟨X, 1, none⟩ = some (.slice (some ⟨M, 0, none⟩) rs.length cap) ∧ w'.cell? ⟨A, 0, none⟩ = some (.slice (some ⟨Ml, 0, none⟩) (⟨(nthA rs k).2.2.l, s, e, n⟩ : PAl).l.length cl) ∧ w'.cell? ⟨A, 1, none⟩ = some (.int .i64 (⟨(nthA rs k).2.2.l, s, e, n⟩ : PAl).s) ∧ w'.cell? ⟨A, 2, none⟩ = some (.int .i64 (⟨(nthA rs k).2.2.l, s, e, n⟩ : PAl).e) ∧ w'.cell? ⟨A, 3, none⟩ = some (.string (⟨(nthA rs k).2.2.l, s, e, n⟩ : PAl).n)) := fun w' h k => ⟨h.cell 0, h.cell 1, k.cell 0, k.cell 1, k.cell 2, k.cell 3⟩
        go_upto_region 6 with fail
        have hnX : w.heap.size ≠ X ∧ w.heap.size + 1 ≠ X ∧ w.heap.size ≠ A ∧ w.heap.size + 1 ≠ A := by have := HY6.out.ord; have := HXA.out; exact ⟨by omega, by omega, by omega, by omega⟩
        have r0 : W3.cell? ⟨w.heap.size, 0, none⟩ = some (.int .i64 0) := HY6.out.bR.cell 0
        have r1 : W3.cell? ⟨w.heap.size, 1, none⟩ = some (.slice none 0 0) := HY6.out.bR.cell 1
        have fr0 := HY6.out.bR.frozen 0
        have fr1 := HY6.out.bR.frozen 1
        have v0 : W3.cell? ⟨w.heap.size + 1, 0, none⟩ = some (.slice none 0 0) := HV6.out.cell 0
        have fv0 := HV6.out.frozen 0
        have v1 : W3.cell? ⟨w.heap.size + 1, 1, none⟩ = some (.int .i64 0) := HV6.out.cell 1
        have fv1 := HV6.out.frozen 1
        have v2 : W3.cell? ⟨w.heap.size + 1, 2, none⟩ = some (.int .i64 0) := HV6.out.cell 2
        have fv2 := HV6.out.frozen 2
        have v3 : W3.cell? ⟨w.heap.size + 1, 3, none⟩ = some (.string ⟨#[]⟩) := HV6.out.cell 3
        have fv3 := HV6.out.frozen 3
        refine wp_region_held_drew (S := fun w' => w'.cell? ⟨X, 0, none⟩ = some (.int .i64 f) ∧ w'.cell? ⟨X, 1, none⟩ = some (.slice (some ⟨M, 0, none⟩) rs.length cap) ∧ w'.cell? ⟨A, 0, none⟩ = some (.slice (some ⟨Ml, 0, none⟩) (⟨(nthA rs k).2.2.l, s, e, n⟩ : PAl).l.length cl) ∧ w'.cell? ⟨A, 1, none⟩ = some (.int .i64 (⟨(nthA rs k).2.2.l, s, e, n⟩ : PAl).s) ∧ w'.cell? ⟨A, 2, none⟩ = some (.int .i64 (⟨(nthA rs k).2.2.l, s, e, n⟩ : PAl).e) ∧ w'.cell? ⟨A, 3, none⟩ = some (.string (⟨(nthA rs k).2.2.l, s, e, n⟩ : PAl).n)) (by kernel_rfl) (HSA.out _ HY6.out.bX.drew HA6.out.drew) (fun hHeld => ?_)
        refine wpAnyH_take (i := 0) (oi := { dst := some 34, op := Op.load 26 (Operand.tmp 5), type := 26, pos := "l06_chain.go:118", after := #[], guard := none }) (v := ?vu1x0) rfl (by kernel_rfl) (by kernel_rfl) (by kernel_rfl) (fun _ _ _ h => h) (Or.inl ⟨by rfl, ?hyu1x0⟩) hHeld ?_
        case hyu1x0 => (intro w hSw; (try dsimp only at hSw); go_simp <;> with_reducible rfl)
        try simp only [Act.put, List.setIfInBounds_toArray, List.set_cons_zero, List.set_cons_succ]
        refine wpAnyH_take (i := 1) (oi := { dst := some 35, op := Op.load 29 (Operand.tmp 6), type := 29, pos := "l06_chain.go:118", after := #[{ on := 2, ground := Ground.gcOnly Departure.lateStores }], guard := none }) (v := ?vu1x1) rfl (by kernel_rfl) (by kernel_rfl) (by kernel_rfl) (fun _ _ _ h => h) (Or.inl ⟨by rfl, ?hyu1x1⟩) hHeld ?_
        case hyu1x1 => (intro w hSw; (try dsimp only at hSw); go_simp <;> with_reducible rfl)
        try simp only [Act.put, List.setIfInBounds_toArray, List.set_cons_zero, List.set_cons_succ]
        refine wpAnyH_ready (rs := [2]) (by kernel_rfl) (by simp) ?_
        refine AllReadyH.cons (o := { dst := none, op := Op.store 26 (Operand.tmp 2) (Operand.tmp 34), type := 0, pos := "l06_chain.go:118", after := #[{ on := 0, ground := Ground.data }, { on := 0, ground := Ground.phase }, { on := 1, ground := Ground.textOnly Departure.lateStores }], guard := none }) rfl (fun K hK => ?_) AllReadyH.nil
        go_simp
        clear hHeld
        refine hK.out _ _ (HSA.out _ (blk2 HY6.out.bX hnX.1 _ _).drew (blk2 HA6.out hnX.2.2.1 _ _).drew) (fun hHeld => ?_)
        clear hK K
        try simp only [Act.put, List.setIfInBounds_toArray, List.set_cons_zero, List.set_cons_succ]
        refine wpAnyH_ready (rs := [3]) (by kernel_rfl) (by simp) ?_
        refine AllReadyH.cons (o := { dst := none, op := Op.store 29 (Operand.tmp 3) (Operand.tmp 35), type := 0, pos := "l06_chain.go:118", after := #[{ on := 1, ground := Ground.data }, { on := 2, ground := Ground.chain }, { on := 0, ground := Ground.phase }, { on := 1, ground := Ground.phase }, { on := 2, ground := Ground.phase }], guard := none }) rfl (fun K hK => ?_) AllReadyH.nil
        go_simp
        clear hHeld
        refine hK.out _ _ (HSA.out _ (Alm.blk4 (blk2 HY6.out.bX hnX.1 _ _) hnX.2.1 _ _ _ _).drew (Alm.blk4 (blk2 HA6.out hnX.2.2.1 _ _) hnX.2.2.2 _ _ _ _).drew) (fun hHeld => ?_)
        clear hK K
        try simp only [Act.put, List.setIfInBounds_toArray, List.set_cons_zero, List.set_cons_succ]
        refine wpAnyH_done (by kernel_rfl) ?_ _
        clear hHeld
        go_wp2
        have hs : Blk ((((((W3.setCell ⟨w.heap.size, 0, none⟩ (.int .i64 f)).setCell ⟨w.heap.size, 1, none⟩ (.slice (some ⟨M, 0, none⟩) rs.length cap)).setCell ⟨w.heap.size + 1, 0, none⟩ (.slice (some ⟨Ml, 0, none⟩) (⟨(nthA rs k).2.2.l, s, e, n⟩ : PAl).l.length cl)).setCell ⟨w.heap.size + 1, 1, none⟩ (.int .i64 (⟨(nthA rs k).2.2.l, s, e, n⟩ : PAl).s)).setCell ⟨w.heap.size + 1, 2, none⟩ (.int .i64 (⟨(nthA rs k).2.2.l, s, e, n⟩ : PAl).e)).setCell ⟨w.heap.size + 1, 3, none⟩ (.string (⟨(nthA rs k).2.2.l, s, e, n⟩ : PAl).n)).drew w.heap.size #[.int .i64 f, .slice (some ⟨M, 0, none⟩) rs.length cap] 26 := (Alm.blk4 ((HY6.out.bR.set 0 _).set 1 _) (by omega) _ _ _ _).drew
        have ht : Blk ((((((W3.setCell ⟨w.heap.size, 0, none⟩ (.int .i64 f)).setCell ⟨w.heap.size, 1, none⟩ (.slice (some ⟨M, 0, none⟩) rs.length cap)).setCell ⟨w.heap.size + 1, 0, none⟩ (.slice (some ⟨Ml, 0, none⟩) (⟨(nthA rs k).2.2.l, s, e, n⟩ : PAl).l.length cl)).setCell ⟨w.heap.size + 1, 1, none⟩ (.int .i64 (⟨(nthA rs k).2.2.l, s, e, n⟩ : PAl).s)).setCell ⟨w.heap.size + 1, 2, none⟩ (.int .i64 (⟨(nthA rs k).2.2.l, s, e, n⟩ : PAl).e)).setCell ⟨w.heap.size + 1, 3, none⟩ (.string (⟨(nthA rs k).2.2.l, s, e, n⟩ : PAl).n)).drew (w.heap.size + 1) #[.slice (some ⟨Ml, 0, none⟩) (⟨(nthA rs k).2.2.l, s, e, n⟩ : PAl).l.length cl, .int .i64 (⟨(nthA rs k).2.2.l, s, e, n⟩ : PAl).s, .int .i64 (⟨(nthA rs k).2.2.l, s, e, n⟩ : PAl).e, .string (⟨(nthA rs k).2.2.l, s, e, n⟩ : PAl).n] 29 := ((((((HV6.out.set_other (by show w.heap.size ≠ w.heap.size + 1; omega) _).set_other (by show w.heap.size ≠ w.heap.size + 1; omega) _).set 0 _).set 1 _).set 2 _).set 3 _).drew
        have s0 := hs.cell 0
        have s1 := hs.cell 1
        have t0 := ht.cell 0
        have t1 := ht.cell 1
        have t2 := ht.cell 2
        have t3 := ht.cell 3
        refine bodyPost_ret (v := .tuple #[.agg #[.int .i64 f, .slice (some ⟨M, 0, none⟩) rs.length cap], .agg #[.slice (some ⟨Ml, 0, none⟩) (⟨(nthA rs k).2.2.l, s, e, n⟩ : PAl).l.length cl, .int .i64 (⟨(nthA rs k).2.2.l, s, e, n⟩ : PAl).s, .int .i64 (⟨(nthA rs k).2.2.l, s, e, n⟩ : PAl).e, .string (⟨(nthA rs k).2.2.l, s, e, n⟩ : PAl).n]]) (by simp [results, Try.results7, go_sem, s0, s1, t0, t1, t2, t3]) rfl ?_
        have hg0 : w.heap.size ≠ Ml := by have h : w.heap.size + 3 ≤ Ml := HO6.out.1; omega
        have hg1 : w.heap.size + 1 ≠ Ml := by have h : w.heap.size + 3 ≤ Ml := HO6.out.1; omega
        exact ⟨⟨f, M, cap, pals rs, Ml, cl, (⟨(nthA rs k).2.2.l, s, e, n⟩ : PAl), retC1 (by rw [pals_len]), dch_of ((ab_under (ab_under (ab_under (ab_under (ab_under (ab_under (HY6.out.ab) (by omega) _ _) (by omega) _ _) (by omega) _ _) (by omega) _ _) (by omega) _ _) (by omega) _ _).grow (Below.refl _ _).drew) HY6.out.fine HY6.out.few, ((own_set (own_set (own_set (own_set (own_set (own_set (HO6.out) hg0 _ _) hg0 _ _) hg1 _ _) hg1 _ _) hg1 _ _) hg1 _ _).grow (Below.refl _ _).drew).reads, HFx.out⟩, (Alm.set4 (ChnP.set2 HY6.out.low (Nat.le_refl _) _ _) (by omega) _ _ _ _).drew⟩
      refine AllReadyH.cons (o := { dst := some 28, op := Op.call { callee := Callee.value (Operand.func 45), args := #[Operand.tmp 24, Operand.tmp 27], argTypes := #[75, 3] }, type := 3, pos := "l06_chain.go:116", after := #[{ on := 3, ground := Ground.data }, { on := 6, ground := Ground.data }], guard := none }) rfl (fun K hK => ?_) AllReadyH.nil
      go_simp
      refine (below_any (w.heap.size + 2) (rs.length : Int) w3.drew (Cur.drewN HY.out.cur 1) (by omega) (by omega)).mono ?_
      rintro r wyc ⟨⟨x, rfl, hx0, hx1⟩, hc, hk⟩
      obtain ⟨k, rfl⟩ := Int.eq_ofNat_of_zero_le hx0
      have hkl : k < rs.length := by omega
      have HKc : Hid (Kept (w.heap.size + 2) w3 wyc) := kept_drew hk
      have HYc : Hid (YSt w (w.heap.size + 2) X wyc f M cap rs) := HY.out.keep hc HKc.out
      clear hc hk
      clear hHeld
      refine hK.out _ _ (HS.out _ (HYc.out.bX)) (fun hHeld => ?_)
      clear hK K
      try simp only [Act.put, List.setIfInBounds_toArray, List.set_cons_zero, List.set_cons_succ]
      
      refine wpAnyH_take (i := 8) (oi := { dst := some 29, op := Op.indexAddr 24 (Operand.tmp 23) (Operand.tmp 28), type := 0, pos := "l06_chain.go:116", after := #[{ on := 2, ground := Ground.data }, { on := 7, ground := Ground.data }], guard := none }) (v := ?vp516) rfl (by kernel_rfl) (by kernel_rfl) (by kernel_rfl) (fun _ _ _ h => h) (Or.inl ⟨by rfl, ?hyp516⟩) hHeld ?_
      case hyp516 => (intro w hSw; (try dsimp only at hSw); go_simp <;> with_reducible rfl)
      try simp only [Act.put, List.setIfInBounds_toArray, List.set_cons_zero, List.set_cons_succ]
      refine wpAnyH_take (i := 9) (oi := { dst := some 30, op := Op.fieldAddr 29 (Operand.tmp 29) 0, type := 0, pos := "l06_chain.go:116", after := #[{ on := 8, ground := Ground.data }], guard := none }) (v := ?vp517) rfl (by kernel_rfl) (by kernel_rfl) (by kernel_rfl) (fun _ _ _ h => h) (Or.inl ⟨by rfl, ?hyp517⟩) hHeld ?_
      case hyp517 => (intro w hSw; (try dsimp only at hSw); go_simp <;> with_reducible rfl)
      try simp only [Act.put, List.setIfInBounds_toArray, List.set_cons_zero, List.set_cons_succ]
      refine wpAnyH_ready (rs := [0, 10]) (by kernel_rfl) (by simp) ?_
      refine AllReadyH.cons (o := { dst := some 21, op := Op.buildSlice 27 0 #[], type := 27, pos := "l06_chain.go:116", after := #[], guard := none }) rfl (fun K hK => ?_) ?_
      ·
        go_simp
        clear hHeld
        refine hK.out _ _ (HS.out _ ((HYc.out.bX.alloc _))) (fun hHeld => ?_)
        clear hK K
        try simp only [Act.put, List.setIfInBounds_toArray, List.set_cons_zero, List.set_cons_succ]
        
        refine wpAnyH_ready (rs := [10]) (by kernel_rfl) (by simp) ?_
        refine AllReadyH.cons (o := { dst := some 31, op := Op.load 27 (Operand.tmp 30), type := 27, pos := "l06_chain.go:116", after := #[{ on := 9, ground := Ground.data }], guard := none }) rfl (fun K hK => ?_) AllReadyH.nil
        obtain ⟨cu, hcu, _, h4⟩ := (HYc.out.ab.grow (Go.Joins.below_alloc1 wyc _)).outer
        have cD : (wyc.alloc (.cells #[] 125)).cell? ⟨M, k * 4, none⟩ = some (.slice (some ⟨(nthA rs k).1, 0, none⟩) (nthA rs k).2.2.l.length (nthA rs k).2.1) := (hcu.cell (k * 4)).trans (h4 k hkl).1
        go_simp
        clear cD h4 hcu
        clear hHeld
        refine hK.out _ _ (HS.out _ ((HYc.out.bX.alloc _))) (fun hHeld => ?_)
        clear hK K
        try simp only [Act.put, List.setIfInBounds_toArray, List.set_cons_zero, List.set_cons_succ]
        
        refine wpAnyH_ready (rs := [11]) (by kernel_rfl) (by simp) ?_
        refine AllReadyH.cons (o := { dst := some 32, op := Op.call { callee := Callee.builtin Builtin.append, args := #[Operand.tmp 21, Operand.tmp 31], argTypes := #[27, 27] }, type := 27, pos := "l06_chain.go:116", after := #[{ on := 0, ground := Ground.data }, { on := 10, ground := Ground.data }, { on := 7, ground := Ground.chain }], guard := none }) rfl (fun K hK => ?_) AllReadyH.nil
        have HBl : Hid (w3.heap.size ≤ wyc.heap.size) := by exact HKc.out.size
        have hfk : Fine (nthA rs k).2.2 := by rw [← pals_nth hkl]; exact HYc.out.fine _ (nthP_mem (by rw [pals_len]; exact hkl))
        have h8 := hfk.2
        refine step_appC rfl _ _ 27 rfl 125 i0 (.agg #[.string ByteArray.empty, .string ByteArray.empty]) 2 32 Try.underlying27 hi hz0 hz1 hz2 rfl (by decide) ((w.heap.size + 2) + 1) ?j52b wyc.heap.size rfl (own_empty (Blk.new _ _ _) ?j52a) ⟨(nthA rs k).1, 0, none⟩ (nthA rs k).2.2.l.length (nthA rs k).2.1 (flat (nthA rs k).2.2.l) rfl (flat_len _) (src_of ((HYc.out.ab.rows _ (nthA_mem hkl)).reads.below (Go.Joins.below_alloc1 wyc _))) (flat_one _) ?j52c ?j52d ?_
        case j52b => have := HY.out.ord; have := HKc.out.size; simp; omega
        case j52a => have := HY.out.ord; have := HBl.out; omega
        case j52c => unfold maxLen; omega
        case j52d => omega
        intro v' wya hown hg hnil
        obtain ⟨Ml, cl, hv⟩ : ∃ g' c', v' = .slice (some ⟨g', 0, none⟩) (nthA rs k).2.2.l.length c' := by
          rcases hown.2 with ⟨e, _⟩ | ⟨g', c', cur, e, _⟩
          · exact absurd e hnil
          · exact ⟨g', c', e⟩
        subst hv
        have HOl : Hid (((w.heap.size + 2) + 1) ≤ Ml ∧ ∃ cs : Array Value, Blk wya Ml cs 125 ∧ (nthA rs k).2.2.l.length * 2 ≤ cs.size ∧ Held cs (nthA rs k).2.2.l (nthA rs k).2.2.l.length) := own_row hown
        have HKa : Hid (Kept (w.heap.size + 2) w3 wya) := kept_grown (B := 0) (HKc.out.alloc _) hg (fun k hk => by cases hk; exact HBl.out)
        have HYa : Hid (YSt w (w.heap.size + 2) X wya f M cap rs) := HY.out.keep ((HYc.out.cur.alloc _).grown hg (fun k hk => by cases hk; have := HY.out.ord; have := HBl.out; omega)) HKa.out
        have HFk : Hid (Fine (nthA rs k).2.2) := hfk
        have HVa : Hid (Blk wya (w.heap.size + 1) #[.slice none 0 0, .int .i64 0, .int .i64 0, .string ⟨#[]⟩] 29) := blk_kept HV.out HKa.out (by omega)
        have HAa : Hid (Blk wya A #[.slice (some ⟨g, 0, none⟩) p.length cg, .int .i64 s, .int .i64 e, .string n] 29) := blk_kept HA.out HKa.out (by have := HXA.out; have := HY.out.ord; omega)
        have HAr : Hid (A ≠ M ∧ ∀ x ∈ rs, x.1 ≠ A) := HAn.out
        clear hown hg hnil hfk h8
        clear hHeld
        refine hK.out _ _ (HS.out _ (HYa.out.bX)) (fun hHeld => ?_)
        clear hK K
        try simp only [Act.put, List.setIfInBounds_toArray, List.set_cons_zero, List.set_cons_succ]
        
        refine wpAnyH_take (i := 12) (oi := { dst := some 33, op := Op.fieldAddr 29 (Operand.tmp 6) 0, type := 0, pos := "l06_chain.go:116", after := #[{ on := 0, ground := Ground.phase }, { on := 1, ground := Ground.phase }, { on := 2, ground := Ground.phase }, { on := 3, ground := Ground.phase }, { on := 4, ground := Ground.phase }, { on := 5, ground := Ground.phase }, { on := 6, ground := Ground.phase }, { on := 7, ground := Ground.phase }, { on := 8, ground := Ground.phase }, { on := 9, ground := Ground.phase }, { on := 10, ground := Ground.phase }, { on := 11, ground := Ground.phase }], guard := none }) (v := ?vp521) rfl (by kernel_rfl) (by kernel_rfl) (by kernel_rfl) (fun _ _ _ h => h) (Or.inl ⟨by rfl, ?hyp521⟩) hHeld ?_
        case hyp521 => (intro w hSw; (try dsimp only at hSw); go_simp <;> with_reducible rfl)
        try simp only [Act.put, List.setIfInBounds_toArray, List.set_cons_zero, List.set_cons_succ]
        refine wpAnyH_ready (rs := [13]) (by kernel_rfl) (by simp) ?_
        refine AllReadyH.cons (o := { dst := none, op := Op.store 27 (Operand.tmp 33) (Operand.tmp 32), type := 0, pos := "l06_chain.go:116", after := #[{ on := 12, ground := Ground.data }, { on := 11, ground := Ground.data }, { on := 11, ground := Ground.chain }, { on := 0, ground := Ground.phase }, { on := 1, ground := Ground.phase }, { on := 2, ground := Ground.phase }, { on := 3, ground := Ground.phase }, { on := 4, ground := Ground.phase }, { on := 5, ground := Ground.phase }, { on := 6, ground := Ground.phase }, { on := 7, ground := Ground.phase }, { on := 8, ground := Ground.phase }, { on := 9, ground := Ground.phase }, { on := 10, ground := Ground.phase }, { on := 11, ground := Ground.phase }], guard := none }) rfl (fun K hK => ?_) AllReadyH.nil
        have cA : wya.cell? ⟨A, 0, none⟩ = some (.slice (some ⟨g, 0, none⟩) p.length cg) := HAa.out.cell 0
        have fA := HAa.out.frozen 0
        have hneA : A ≠ X := by have := HXA.out; omega
        go_simp
        clear cA fA
        clear hHeld
        refine hK.out _ _ (HS.out _ (HYa.out.bX.set_other hneA _)) (fun hHeld => ?_)
        clear hK K
        try simp only [Act.put, List.setIfInBounds_toArray, List.set_cons_zero, List.set_cons_succ]
        
        refine wpAnyH_done (by kernel_rfl) ?_ _
        clear hHeld
        have hneA : A ≠ X := by have := HXA.out; omega
        have hA0 := HXA.out
        have hA1 := HY.out.ord
        obtain ⟨W3, hW3⟩ : ∃ W3, wya.setCell ⟨A, 0, none⟩ (.slice (some ⟨Ml, 0, none⟩) (nthA rs k).2.2.l.length cl) = W3 := ⟨_, rfl⟩
        have HY6 : Hid (YSt w (w.heap.size + 2) X W3 f M cap rs) := by
          rw [← hW3]
          obtain ⟨cu, hcu, _⟩ := HYa.out.ab.outer
          exact ⟨cur_set HYa.out.cur (by omega) _ _, set_low HYa.out.low (by omega) _ _, by simpa using HYa.out.ord, HYa.out.bR.set_other (by show A ≠ _; omega) _, HYa.out.bX.set_other hneA _, ab_clear HYa.out.ab HAr.out.1 HAr.out.2 _ _, HYa.out.fine, HYa.out.few⟩
        have HV6 : Hid (Blk W3 (w.heap.size + 1) #[.slice none 0 0, .int .i64 0, .int .i64 0, .string ⟨#[]⟩] 29) := by rw [← hW3]; exact HVa.out.set_other (by show A ≠ _; omega) _
        have HA6 : Hid (Blk W3 A #[.slice (some ⟨Ml, 0, none⟩) (nthA rs k).2.2.l.length cl, .int .i64 s, .int .i64 e, .string n] 29) := by rw [← hW3]; exact HAa.out.set 0 _
        have HO6 : Hid (OwnA (w.heap.size + 3) W3 (Ml, cl, ⟨(nthA rs k).2.2.l, s, e, n⟩)) := by
          rw [← hW3]
          obtain ⟨hM, cs, hbk, hsz, hh⟩ := HOl.out
          exact ⟨hM, by have := HFk.out.2; show (nthA rs k).2.2.l.length ≤ _; omega, cs, hbk.set_other (blkA_ne HAa.out hbk) _, hsz, hh⟩
        have HFx : Hid (Fine ⟨(nthA rs k).2.2.l, s, e, n⟩) := ⟨⟨HFk.out.1.len, HFk.out.1.fits, HF.out.1.sb, HF.out.1.eb, HF.out.1.note⟩, HFk.out.2⟩
        rw [hW3]
        clear hW3
        have HSA : Hid (∀ w', Blk w' X #[.int .i64 f, .slice (some ⟨M, 0, none⟩) rs.length cap] 26 → Blk w' A #[.slice (some ⟨Ml, 0, none⟩) (⟨(nthA rs k).2.2.l, s, e, n⟩ : PAl).l.length cl, .int .i64 (⟨(nthA rs k).2.2.l, s, e, n⟩ : PAl).s, .int .i64 (⟨(nthA rs k).2.2.l, s, e, n⟩ : PAl).e, .string (⟨(nthA rs k).2.2.l, s, e, n⟩ : PAl).n] 29 → w'.cell? ⟨X, 0, none⟩ = some (.int .i64 f) ∧ w'.cell? ⟨X, 1, none⟩ = some (.slice (some ⟨M, 0, none⟩) rs.length cap) ∧ w'.cell? ⟨A, 0, none⟩ = some (.slice (some ⟨Ml, 0, none⟩) (⟨(nthA rs k).2.2.l, s, e, n⟩ : PAl).l.length cl) ∧ w'.cell? ⟨A, 1, none⟩ = some (.int .i64 (⟨(nthA rs k).2.2.l, s, e, n⟩ : PAl).s) ∧ w'.cell? ⟨A, 2, none⟩ = some (.int .i64 (⟨(nthA rs k).2.2.l, s, e, n⟩ : PAl).e) ∧ w'.cell? ⟨A, 3, none⟩ = some (.string (⟨(nthA rs k).2.2.l, s, e, n⟩ : PAl).n)) := fun w' h k => ⟨h.cell 0, h.cell 1, k.cell 0, k.cell 1, k.cell 2, k.cell 3⟩
        go_upto_region 6 with fail
        have hnX : w.heap.size ≠ X ∧ w.heap.size + 1 ≠ X ∧ w.heap.size ≠ A ∧ w.heap.size + 1 ≠ A := by have := HY6.out.ord; have := HXA.out; exact ⟨by omega, by omega, by omega, by omega⟩
        have r0 : W3.cell? ⟨w.heap.size, 0, none⟩ = some (.int .i64 0) := HY6.out.bR.cell 0
        have r1 : W3.cell? ⟨w.heap.size, 1, none⟩ = some (.slice none 0 0) := HY6.out.bR.cell 1
        have fr0 := HY6.out.bR.frozen 0
        have fr1 := HY6.out.bR.frozen 1
        have v0 : W3.cell? ⟨w.heap.size + 1, 0, none⟩ = some (.slice none 0 0) := HV6.out.cell 0
        have fv0 := HV6.out.frozen 0
        have v1 : W3.cell? ⟨w.heap.size + 1, 1, none⟩ = some (.int .i64 0) := HV6.out.cell 1
        have fv1 := HV6.out.frozen 1
        have v2 : W3.cell? ⟨w.heap.size + 1, 2, none⟩ = some (.int .i64 0) := HV6.out.cell 2
        have fv2 := HV6.out.frozen 2
        have v3 : W3.cell? ⟨w.heap.size + 1, 3, none⟩ = some (.string ⟨#[]⟩) := HV6.out.cell 3
        have fv3 := HV6.out.frozen 3
        refine wp_region_held_drew (S := fun w' => w'.cell? ⟨X, 0, none⟩ = some (.int .i64 f) ∧ w'.cell? ⟨X, 1, none⟩ = some (.slice (some ⟨M, 0, none⟩) rs.length cap) ∧ w'.cell? ⟨A, 0, none⟩ = some (.slice (some ⟨Ml, 0, none⟩) (⟨(nthA rs k).2.2.l, s, e, n⟩ : PAl).l.length cl) ∧ w'.cell? ⟨A, 1, none⟩ = some (.int .i64 (⟨(nthA rs k).2.2.l, s, e, n⟩ : PAl).s) ∧ w'.cell? ⟨A, 2, none⟩ = some (.int .i64 (⟨(nthA rs k).2.2.l, s, e, n⟩ : PAl).e) ∧ w'.cell? ⟨A, 3, none⟩ = some (.string (⟨(nthA rs k).2.2.l, s, e, n⟩ : PAl).n)) (by kernel_rfl) (HSA.out _ HY6.out.bX.drew HA6.out.drew) (fun hHeld => ?_)
        refine wpAnyH_take (i := 0) (oi := { dst := some 34, op := Op.load 26 (Operand.tmp 5), type := 26, pos := "l06_chain.go:118", after := #[], guard := none }) (v := ?vu2x0) rfl (by kernel_rfl) (by kernel_rfl) (by kernel_rfl) (fun _ _ _ h => h) (Or.inl ⟨by rfl, ?hyu2x0⟩) hHeld ?_
        case hyu2x0 => (intro w hSw; (try dsimp only at hSw); go_simp <;> with_reducible rfl)
        try simp only [Act.put, List.setIfInBounds_toArray, List.set_cons_zero, List.set_cons_succ]
        refine wpAnyH_take (i := 1) (oi := { dst := some 35, op := Op.load 29 (Operand.tmp 6), type := 29, pos := "l06_chain.go:118", after := #[{ on := 2, ground := Ground.gcOnly Departure.lateStores }], guard := none }) (v := ?vu2x1) rfl (by kernel_rfl) (by kernel_rfl) (by kernel_rfl) (fun _ _ _ h => h) (Or.inl ⟨by rfl, ?hyu2x1⟩) hHeld ?_
        case hyu2x1 => (intro w hSw; (try dsimp only at hSw); go_simp <;> with_reducible rfl)
        try simp only [Act.put, List.setIfInBounds_toArray, List.set_cons_zero, List.set_cons_succ]
        refine wpAnyH_ready (rs := [2]) (by kernel_rfl) (by simp) ?_
        refine AllReadyH.cons (o := { dst := none, op := Op.store 26 (Operand.tmp 2) (Operand.tmp 34), type := 0, pos := "l06_chain.go:118", after := #[{ on := 0, ground := Ground.data }, { on := 0, ground := Ground.phase }, { on := 1, ground := Ground.textOnly Departure.lateStores }], guard := none }) rfl (fun K hK => ?_) AllReadyH.nil
        go_simp
        clear hHeld
        refine hK.out _ _ (HSA.out _ (blk2 HY6.out.bX hnX.1 _ _).drew (blk2 HA6.out hnX.2.2.1 _ _).drew) (fun hHeld => ?_)
        clear hK K
        try simp only [Act.put, List.setIfInBounds_toArray, List.set_cons_zero, List.set_cons_succ]
        refine wpAnyH_ready (rs := [3]) (by kernel_rfl) (by simp) ?_
        refine AllReadyH.cons (o := { dst := none, op := Op.store 29 (Operand.tmp 3) (Operand.tmp 35), type := 0, pos := "l06_chain.go:118", after := #[{ on := 1, ground := Ground.data }, { on := 2, ground := Ground.chain }, { on := 0, ground := Ground.phase }, { on := 1, ground := Ground.phase }, { on := 2, ground := Ground.phase }], guard := none }) rfl (fun K hK => ?_) AllReadyH.nil
        go_simp
        clear hHeld
        refine hK.out _ _ (HSA.out _ (Alm.blk4 (blk2 HY6.out.bX hnX.1 _ _) hnX.2.1 _ _ _ _).drew (Alm.blk4 (blk2 HA6.out hnX.2.2.1 _ _) hnX.2.2.2 _ _ _ _).drew) (fun hHeld => ?_)
        clear hK K
        try simp only [Act.put, List.setIfInBounds_toArray, List.set_cons_zero, List.set_cons_succ]
        refine wpAnyH_done (by kernel_rfl) ?_ _
        clear hHeld
        go_wp2
        have hs : Blk ((((((W3.setCell ⟨w.heap.size, 0, none⟩ (.int .i64 f)).setCell ⟨w.heap.size, 1, none⟩ (.slice (some ⟨M, 0, none⟩) rs.length cap)).setCell ⟨w.heap.size + 1, 0, none⟩ (.slice (some ⟨Ml, 0, none⟩) (⟨(nthA rs k).2.2.l, s, e, n⟩ : PAl).l.length cl)).setCell ⟨w.heap.size + 1, 1, none⟩ (.int .i64 (⟨(nthA rs k).2.2.l, s, e, n⟩ : PAl).s)).setCell ⟨w.heap.size + 1, 2, none⟩ (.int .i64 (⟨(nthA rs k).2.2.l, s, e, n⟩ : PAl).e)).setCell ⟨w.heap.size + 1, 3, none⟩ (.string (⟨(nthA rs k).2.2.l, s, e, n⟩ : PAl).n)).drew w.heap.size #[.int .i64 f, .slice (some ⟨M, 0, none⟩) rs.length cap] 26 := (Alm.blk4 ((HY6.out.bR.set 0 _).set 1 _) (by omega) _ _ _ _).drew
        have ht : Blk ((((((W3.setCell ⟨w.heap.size, 0, none⟩ (.int .i64 f)).setCell ⟨w.heap.size, 1, none⟩ (.slice (some ⟨M, 0, none⟩) rs.length cap)).setCell ⟨w.heap.size + 1, 0, none⟩ (.slice (some ⟨Ml, 0, none⟩) (⟨(nthA rs k).2.2.l, s, e, n⟩ : PAl).l.length cl)).setCell ⟨w.heap.size + 1, 1, none⟩ (.int .i64 (⟨(nthA rs k).2.2.l, s, e, n⟩ : PAl).s)).setCell ⟨w.heap.size + 1, 2, none⟩ (.int .i64 (⟨(nthA rs k).2.2.l, s, e, n⟩ : PAl).e)).setCell ⟨w.heap.size + 1, 3, none⟩ (.string (⟨(nthA rs k).2.2.l, s, e, n⟩ : PAl).n)).drew (w.heap.size + 1) #[.slice (some ⟨Ml, 0, none⟩) (⟨(nthA rs k).2.2.l, s, e, n⟩ : PAl).l.length cl, .int .i64 (⟨(nthA rs k).2.2.l, s, e, n⟩ : PAl).s, .int .i64 (⟨(nthA rs k).2.2.l, s, e, n⟩ : PAl).e, .string (⟨(nthA rs k).2.2.l, s, e, n⟩ : PAl).n] 29 := ((((((HV6.out.set_other (by show w.heap.size ≠ w.heap.size + 1; omega) _).set_other (by show w.heap.size ≠ w.heap.size + 1; omega) _).set 0 _).set 1 _).set 2 _).set 3 _).drew
        have s0 := hs.cell 0
        have s1 := hs.cell 1
        have t0 := ht.cell 0
        have t1 := ht.cell 1
        have t2 := ht.cell 2
        have t3 := ht.cell 3
        refine bodyPost_ret (v := .tuple #[.agg #[.int .i64 f, .slice (some ⟨M, 0, none⟩) rs.length cap], .agg #[.slice (some ⟨Ml, 0, none⟩) (⟨(nthA rs k).2.2.l, s, e, n⟩ : PAl).l.length cl, .int .i64 (⟨(nthA rs k).2.2.l, s, e, n⟩ : PAl).s, .int .i64 (⟨(nthA rs k).2.2.l, s, e, n⟩ : PAl).e, .string (⟨(nthA rs k).2.2.l, s, e, n⟩ : PAl).n]]) (by simp [results, Try.results7, go_sem, s0, s1, t0, t1, t2, t3]) rfl ?_
        have hg0 : w.heap.size ≠ Ml := by have h : w.heap.size + 3 ≤ Ml := HO6.out.1; omega
        have hg1 : w.heap.size + 1 ≠ Ml := by have h : w.heap.size + 3 ≤ Ml := HO6.out.1; omega
        exact ⟨⟨f, M, cap, pals rs, Ml, cl, (⟨(nthA rs k).2.2.l, s, e, n⟩ : PAl), retC1 (by rw [pals_len]), dch_of ((ab_under (ab_under (ab_under (ab_under (ab_under (ab_under (HY6.out.ab) (by omega) _ _) (by omega) _ _) (by omega) _ _) (by omega) _ _) (by omega) _ _) (by omega) _ _).grow (Below.refl _ _).drew) HY6.out.fine HY6.out.few, ((own_set (own_set (own_set (own_set (own_set (own_set (HO6.out) hg0 _ _) hg0 _ _) hg1 _ _) hg1 _ _) hg1 _ _) hg1 _ _).grow (Below.refl _ _).drew).reads, HFx.out⟩, (Alm.set4 (ChnP.set2 HY6.out.low (Nat.le_refl _) _ _) (by omega) _ _ _ _).drew⟩
      refine AllReadyH.cons (o := { dst := some 31, op := Op.load 27 (Operand.tmp 30), type := 27, pos := "l06_chain.go:116", after := #[{ on := 9, ground := Ground.data }], guard := none }) rfl (fun K hK => ?_) AllReadyH.nil
      obtain ⟨cu, hcu, _, h4⟩ := HYc.out.ab.outer
      have cD : wyc.cell? ⟨M, k * 4, none⟩ = some (.slice (some ⟨(nthA rs k).1, 0, none⟩) (nthA rs k).2.2.l.length (nthA rs k).2.1) := (hcu.cell (k * 4)).trans (h4 k hkl).1
      go_simp
      clear cD h4 hcu
      clear hHeld
      refine hK.out _ _ (HS.out _ (HYc.out.bX)) (fun hHeld => ?_)
      clear hK K
      try simp only [Act.put, List.setIfInBounds_toArray, List.set_cons_zero, List.set_cons_succ]
      
      refine wpAnyH_ready (rs := [0]) (by kernel_rfl) (by simp) ?_
      refine AllReadyH.cons (o := { dst := some 21, op := Op.buildSlice 27 0 #[], type := 27, pos := "l06_chain.go:116", after := #[], guard := none }) rfl (fun K hK => ?_) AllReadyH.nil
      go_simp
      clear hHeld
      refine hK.out _ _ (HS.out _ ((HYc.out.bX.alloc _))) (fun hHeld => ?_)
      clear hK K
      try simp only [Act.put, List.setIfInBounds_toArray, List.set_cons_zero, List.set_cons_succ]
      
      refine wpAnyH_ready (rs := [11]) (by kernel_rfl) (by simp) ?_
      refine AllReadyH.cons (o := { dst := some 32, op := Op.call { callee := Callee.builtin Builtin.append, args := #[Operand.tmp 21, Operand.tmp 31], argTypes := #[27, 27] }, type := 27, pos := "l06_chain.go:116", after := #[{ on := 0, ground := Ground.data }, { on := 10, ground := Ground.data }, { on := 7, ground := Ground.chain }], guard := none }) rfl (fun K hK => ?_) AllReadyH.nil
      have HBl : Hid (w3.heap.size ≤ wyc.heap.size) := by exact HKc.out.size
      have hfk : Fine (nthA rs k).2.2 := by rw [← pals_nth hkl]; exact HYc.out.fine _ (nthP_mem (by rw [pals_len]; exact hkl))
      have h8 := hfk.2
      refine step_appC rfl _ _ 27 rfl 125 i0 (.agg #[.string ByteArray.empty, .string ByteArray.empty]) 2 32 Try.underlying27 hi hz0 hz1 hz2 rfl (by decide) ((w.heap.size + 2) + 1) ?j53b wyc.heap.size rfl (own_empty (Blk.new _ _ _) ?j53a) ⟨(nthA rs k).1, 0, none⟩ (nthA rs k).2.2.l.length (nthA rs k).2.1 (flat (nthA rs k).2.2.l) rfl (flat_len _) (src_of ((HYc.out.ab.rows _ (nthA_mem hkl)).reads.below (Go.Joins.below_alloc1 wyc _))) (flat_one _) ?j53c ?j53d ?_
      case j53b => have := HY.out.ord; have := HKc.out.size; simp; omega
      case j53a => have := HY.out.ord; have := HBl.out; omega
      case j53c => unfold maxLen; omega
      case j53d => omega
      intro v' wya hown hg hnil
      obtain ⟨Ml, cl, hv⟩ : ∃ g' c', v' = .slice (some ⟨g', 0, none⟩) (nthA rs k).2.2.l.length c' := by
        rcases hown.2 with ⟨e, _⟩ | ⟨g', c', cur, e, _⟩
        · exact absurd e hnil
        · exact ⟨g', c', e⟩
      subst hv
      have HOl : Hid (((w.heap.size + 2) + 1) ≤ Ml ∧ ∃ cs : Array Value, Blk wya Ml cs 125 ∧ (nthA rs k).2.2.l.length * 2 ≤ cs.size ∧ Held cs (nthA rs k).2.2.l (nthA rs k).2.2.l.length) := own_row hown
      have HKa : Hid (Kept (w.heap.size + 2) w3 wya) := kept_grown (B := 0) (HKc.out.alloc _) hg (fun k hk => by cases hk; exact HBl.out)
      have HYa : Hid (YSt w (w.heap.size + 2) X wya f M cap rs) := HY.out.keep ((HYc.out.cur.alloc _).grown hg (fun k hk => by cases hk; have := HY.out.ord; have := HBl.out; omega)) HKa.out
      have HFk : Hid (Fine (nthA rs k).2.2) := hfk
      have HVa : Hid (Blk wya (w.heap.size + 1) #[.slice none 0 0, .int .i64 0, .int .i64 0, .string ⟨#[]⟩] 29) := blk_kept HV.out HKa.out (by omega)
      have HAa : Hid (Blk wya A #[.slice (some ⟨g, 0, none⟩) p.length cg, .int .i64 s, .int .i64 e, .string n] 29) := blk_kept HA.out HKa.out (by have := HXA.out; have := HY.out.ord; omega)
      have HAr : Hid (A ≠ M ∧ ∀ x ∈ rs, x.1 ≠ A) := HAn.out
      clear hown hg hnil hfk h8
      clear hHeld
      refine hK.out _ _ (HS.out _ (HYa.out.bX)) (fun hHeld => ?_)
      clear hK K
      try simp only [Act.put, List.setIfInBounds_toArray, List.set_cons_zero, List.set_cons_succ]
      
      refine wpAnyH_take (i := 12) (oi := { dst := some 33, op := Op.fieldAddr 29 (Operand.tmp 6) 0, type := 0, pos := "l06_chain.go:116", after := #[{ on := 0, ground := Ground.phase }, { on := 1, ground := Ground.phase }, { on := 2, ground := Ground.phase }, { on := 3, ground := Ground.phase }, { on := 4, ground := Ground.phase }, { on := 5, ground := Ground.phase }, { on := 6, ground := Ground.phase }, { on := 7, ground := Ground.phase }, { on := 8, ground := Ground.phase }, { on := 9, ground := Ground.phase }, { on := 10, ground := Ground.phase }, { on := 11, ground := Ground.phase }], guard := none }) (v := ?vp526) rfl (by kernel_rfl) (by kernel_rfl) (by kernel_rfl) (fun _ _ _ h => h) (Or.inl ⟨by rfl, ?hyp526⟩) hHeld ?_
      case hyp526 => (intro w hSw; (try dsimp only at hSw); go_simp <;> with_reducible rfl)
      try simp only [Act.put, List.setIfInBounds_toArray, List.set_cons_zero, List.set_cons_succ]
      refine wpAnyH_ready (rs := [13]) (by kernel_rfl) (by simp) ?_
      refine AllReadyH.cons (o := { dst := none, op := Op.store 27 (Operand.tmp 33) (Operand.tmp 32), type := 0, pos := "l06_chain.go:116", after := #[{ on := 12, ground := Ground.data }, { on := 11, ground := Ground.data }, { on := 11, ground := Ground.chain }, { on := 0, ground := Ground.phase }, { on := 1, ground := Ground.phase }, { on := 2, ground := Ground.phase }, { on := 3, ground := Ground.phase }, { on := 4, ground := Ground.phase }, { on := 5, ground := Ground.phase }, { on := 6, ground := Ground.phase }, { on := 7, ground := Ground.phase }, { on := 8, ground := Ground.phase }, { on := 9, ground := Ground.phase }, { on := 10, ground := Ground.phase }, { on := 11, ground := Ground.phase }], guard := none }) rfl (fun K hK => ?_) AllReadyH.nil
      have cA : wya.cell? ⟨A, 0, none⟩ = some (.slice (some ⟨g, 0, none⟩) p.length cg) := HAa.out.cell 0
      have fA := HAa.out.frozen 0
      have hneA : A ≠ X := by have := HXA.out; omega
      go_simp
      clear cA fA
      clear hHeld
      refine hK.out _ _ (HS.out _ (HYa.out.bX.set_other hneA _)) (fun hHeld => ?_)
      clear hK K
      try simp only [Act.put, List.setIfInBounds_toArray, List.set_cons_zero, List.set_cons_succ]
      
      refine wpAnyH_done (by kernel_rfl) ?_ _
      clear hHeld
      have hneA : A ≠ X := by have := HXA.out; omega
      have hA0 := HXA.out
      have hA1 := HY.out.ord
      obtain ⟨W3, hW3⟩ : ∃ W3, wya.setCell ⟨A, 0, none⟩ (.slice (some ⟨Ml, 0, none⟩) (nthA rs k).2.2.l.length cl) = W3 := ⟨_, rfl⟩
      have HY6 : Hid (YSt w (w.heap.size + 2) X W3 f M cap rs) := by
        rw [← hW3]
        obtain ⟨cu, hcu, _⟩ := HYa.out.ab.outer
        exact ⟨cur_set HYa.out.cur (by omega) _ _, set_low HYa.out.low (by omega) _ _, by simpa using HYa.out.ord, HYa.out.bR.set_other (by show A ≠ _; omega) _, HYa.out.bX.set_other hneA _, ab_clear HYa.out.ab HAr.out.1 HAr.out.2 _ _, HYa.out.fine, HYa.out.few⟩
      have HV6 : Hid (Blk W3 (w.heap.size + 1) #[.slice none 0 0, .int .i64 0, .int .i64 0, .string ⟨#[]⟩] 29) := by rw [← hW3]; exact HVa.out.set_other (by show A ≠ _; omega) _
      have HA6 : Hid (Blk W3 A #[.slice (some ⟨Ml, 0, none⟩) (nthA rs k).2.2.l.length cl, .int .i64 s, .int .i64 e, .string n] 29) := by rw [← hW3]; exact HAa.out.set 0 _
      have HO6 : Hid (OwnA (w.heap.size + 3) W3 (Ml, cl, ⟨(nthA rs k).2.2.l, s, e, n⟩)) := by
        rw [← hW3]
        obtain ⟨hM, cs, hbk, hsz, hh⟩ := HOl.out
        exact ⟨hM, by have := HFk.out.2; show (nthA rs k).2.2.l.length ≤ _; omega, cs, hbk.set_other (blkA_ne HAa.out hbk) _, hsz, hh⟩
      have HFx : Hid (Fine ⟨(nthA rs k).2.2.l, s, e, n⟩) := ⟨⟨HFk.out.1.len, HFk.out.1.fits, HF.out.1.sb, HF.out.1.eb, HF.out.1.note⟩, HFk.out.2⟩
      rw [hW3]
      clear hW3
      have HSA : Hid (∀ w', Blk w' X #[.int .i64 f, .slice (some ⟨M, 0, none⟩) rs.length cap] 26 → Blk w' A #[.slice (some ⟨Ml, 0, none⟩) (⟨(nthA rs k).2.2.l, s, e, n⟩ : PAl).l.length cl, .int .i64 (⟨(nthA rs k).2.2.l, s, e, n⟩ : PAl).s, .int .i64 (⟨(nthA rs k).2.2.l, s, e, n⟩ : PAl).e, .string (⟨(nthA rs k).2.2.l, s, e, n⟩ : PAl).n] 29 → w'.cell? ⟨X, 0, none⟩ = some (.int .i64 f) ∧ w'.cell? ⟨X, 1, none⟩ = some (.slice (some ⟨M, 0, none⟩) rs.length cap) ∧ w'.cell? ⟨A, 0, none⟩ = some (.slice (some ⟨Ml, 0, none⟩) (⟨(nthA rs k).2.2.l, s, e, n⟩ : PAl).l.length cl) ∧ w'.cell? ⟨A, 1, none⟩ = some (.int .i64 (⟨(nthA rs k).2.2.l, s, e, n⟩ : PAl).s) ∧ w'.cell? ⟨A, 2, none⟩ = some (.int .i64 (⟨(nthA rs k).2.2.l, s, e, n⟩ : PAl).e) ∧ w'.cell? ⟨A, 3, none⟩ = some (.string (⟨(nthA rs k).2.2.l, s, e, n⟩ : PAl).n)) := fun w' h k => ⟨h.cell 0, h.cell 1, k.cell 0, k.cell 1, k.cell 2, k.cell 3⟩
      go_upto_region 6 with fail
      have hnX : w.heap.size ≠ X ∧ w.heap.size + 1 ≠ X ∧ w.heap.size ≠ A ∧ w.heap.size + 1 ≠ A := by have := HY6.out.ord; have := HXA.out; exact ⟨by omega, by omega, by omega, by omega⟩
      have r0 : W3.cell? ⟨w.heap.size, 0, none⟩ = some (.int .i64 0) := HY6.out.bR.cell 0
      have r1 : W3.cell? ⟨w.heap.size, 1, none⟩ = some (.slice none 0 0) := HY6.out.bR.cell 1
      have fr0 := HY6.out.bR.frozen 0
      have fr1 := HY6.out.bR.frozen 1
      have v0 : W3.cell? ⟨w.heap.size + 1, 0, none⟩ = some (.slice none 0 0) := HV6.out.cell 0
      have fv0 := HV6.out.frozen 0
      have v1 : W3.cell? ⟨w.heap.size + 1, 1, none⟩ = some (.int .i64 0) := HV6.out.cell 1
      have fv1 := HV6.out.frozen 1
      have v2 : W3.cell? ⟨w.heap.size + 1, 2, none⟩ = some (.int .i64 0) := HV6.out.cell 2
      have fv2 := HV6.out.frozen 2
      have v3 : W3.cell? ⟨w.heap.size + 1, 3, none⟩ = some (.string ⟨#[]⟩) := HV6.out.cell 3
      have fv3 := HV6.out.frozen 3
      refine wp_region_held_drew (S := fun w' => w'.cell? ⟨X, 0, none⟩ = some (.int .i64 f) ∧ w'.cell? ⟨X, 1, none⟩ = some (.slice (some ⟨M, 0, none⟩) rs.length cap) ∧ w'.cell? ⟨A, 0, none⟩ = some (.slice (some ⟨Ml, 0, none⟩) (⟨(nthA rs k).2.2.l, s, e, n⟩ : PAl).l.length cl) ∧ w'.cell? ⟨A, 1, none⟩ = some (.int .i64 (⟨(nthA rs k).2.2.l, s, e, n⟩ : PAl).s) ∧ w'.cell? ⟨A, 2, none⟩ = some (.int .i64 (⟨(nthA rs k).2.2.l, s, e, n⟩ : PAl).e) ∧ w'.cell? ⟨A, 3, none⟩ = some (.string (⟨(nthA rs k).2.2.l, s, e, n⟩ : PAl).n)) (by kernel_rfl) (HSA.out _ HY6.out.bX.drew HA6.out.drew) (fun hHeld => ?_)
      refine wpAnyH_take (i := 0) (oi := { dst := some 34, op := Op.load 26 (Operand.tmp 5), type := 26, pos := "l06_chain.go:118", after := #[], guard := none }) (v := ?vu3x0) rfl (by kernel_rfl) (by kernel_rfl) (by kernel_rfl) (fun _ _ _ h => h) (Or.inl ⟨by rfl, ?hyu3x0⟩) hHeld ?_
      case hyu3x0 => (intro w hSw; (try dsimp only at hSw); go_simp <;> with_reducible rfl)
      try simp only [Act.put, List.setIfInBounds_toArray, List.set_cons_zero, List.set_cons_succ]
      refine wpAnyH_take (i := 1) (oi := { dst := some 35, op := Op.load 29 (Operand.tmp 6), type := 29, pos := "l06_chain.go:118", after := #[{ on := 2, ground := Ground.gcOnly Departure.lateStores }], guard := none }) (v := ?vu3x1) rfl (by kernel_rfl) (by kernel_rfl) (by kernel_rfl) (fun _ _ _ h => h) (Or.inl ⟨by rfl, ?hyu3x1⟩) hHeld ?_
      case hyu3x1 => (intro w hSw; (try dsimp only at hSw); go_simp <;> with_reducible rfl)
      try simp only [Act.put, List.setIfInBounds_toArray, List.set_cons_zero, List.set_cons_succ]
      refine wpAnyH_ready (rs := [2]) (by kernel_rfl) (by simp) ?_
      refine AllReadyH.cons (o := { dst := none, op := Op.store 26 (Operand.tmp 2) (Operand.tmp 34), type := 0, pos := "l06_chain.go:118", after := #[{ on := 0, ground := Ground.data }, { on := 0, ground := Ground.phase }, { on := 1, ground := Ground.textOnly Departure.lateStores }], guard := none }) rfl (fun K hK => ?_) AllReadyH.nil
      go_simp
      clear hHeld
      refine hK.out _ _ (HSA.out _ (blk2 HY6.out.bX hnX.1 _ _).drew (blk2 HA6.out hnX.2.2.1 _ _).drew) (fun hHeld => ?_)
      clear hK K
      try simp only [Act.put, List.setIfInBounds_toArray, List.set_cons_zero, List.set_cons_succ]
      refine wpAnyH_ready (rs := [3]) (by kernel_rfl) (by simp) ?_
      refine AllReadyH.cons (o := { dst := none, op := Op.store 29 (Operand.tmp 3) (Operand.tmp 35), type := 0, pos := "l06_chain.go:118", after := #[{ on := 1, ground := Ground.data }, { on := 2, ground := Ground.chain }, { on := 0, ground := Ground.phase }, { on := 1, ground := Ground.phase }, { on := 2, ground := Ground.phase }], guard := none }) rfl (fun K hK => ?_) AllReadyH.nil
      go_simp
      clear hHeld
      refine hK.out _ _ (HSA.out _ (Alm.blk4 (blk2 HY6.out.bX hnX.1 _ _) hnX.2.1 _ _ _ _).drew (Alm.blk4 (blk2 HA6.out hnX.2.2.1 _ _) hnX.2.2.2 _ _ _ _).drew) (fun hHeld => ?_)
      clear hK K
      try simp only [Act.put, List.setIfInBounds_toArray, List.set_cons_zero, List.set_cons_succ]
      refine wpAnyH_done (by kernel_rfl) ?_ _
      clear hHeld
      go_wp2
      have hs : Blk ((((((W3.setCell ⟨w.heap.size, 0, none⟩ (.int .i64 f)).setCell ⟨w.heap.size, 1, none⟩ (.slice (some ⟨M, 0, none⟩) rs.length cap)).setCell ⟨w.heap.size + 1, 0, none⟩ (.slice (some ⟨Ml, 0, none⟩) (⟨(nthA rs k).2.2.l, s, e, n⟩ : PAl).l.length cl)).setCell ⟨w.heap.size + 1, 1, none⟩ (.int .i64 (⟨(nthA rs k).2.2.l, s, e, n⟩ : PAl).s)).setCell ⟨w.heap.size + 1, 2, none⟩ (.int .i64 (⟨(nthA rs k).2.2.l, s, e, n⟩ : PAl).e)).setCell ⟨w.heap.size + 1, 3, none⟩ (.string (⟨(nthA rs k).2.2.l, s, e, n⟩ : PAl).n)).drew w.heap.size #[.int .i64 f, .slice (some ⟨M, 0, none⟩) rs.length cap] 26 := (Alm.blk4 ((HY6.out.bR.set 0 _).set 1 _) (by omega) _ _ _ _).drew
      have ht : Blk ((((((W3.setCell ⟨w.heap.size, 0, none⟩ (.int .i64 f)).setCell ⟨w.heap.size, 1, none⟩ (.slice (some ⟨M, 0, none⟩) rs.length cap)).setCell ⟨w.heap.size + 1, 0, none⟩ (.slice (some ⟨Ml, 0, none⟩) (⟨(nthA rs k).2.2.l, s, e, n⟩ : PAl).l.length cl)).setCell ⟨w.heap.size + 1, 1, none⟩ (.int .i64 (⟨(nthA rs k).2.2.l, s, e, n⟩ : PAl).s)).setCell ⟨w.heap.size + 1, 2, none⟩ (.int .i64 (⟨(nthA rs k).2.2.l, s, e, n⟩ : PAl).e)).setCell ⟨w.heap.size + 1, 3, none⟩ (.string (⟨(nthA rs k).2.2.l, s, e, n⟩ : PAl).n)).drew (w.heap.size + 1) #[.slice (some ⟨Ml, 0, none⟩) (⟨(nthA rs k).2.2.l, s, e, n⟩ : PAl).l.length cl, .int .i64 (⟨(nthA rs k).2.2.l, s, e, n⟩ : PAl).s, .int .i64 (⟨(nthA rs k).2.2.l, s, e, n⟩ : PAl).e, .string (⟨(nthA rs k).2.2.l, s, e, n⟩ : PAl).n] 29 := ((((((HV6.out.set_other (by show w.heap.size ≠ w.heap.size + 1; omega) _).set_other (by show w.heap.size ≠ w.heap.size + 1; omega) _).set 0 _).set 1 _).set 2 _).set 3 _).drew
      have s0 := hs.cell 0
      have s1 := hs.cell 1
      have t0 := ht.cell 0
      have t1 := ht.cell 1
      have t2 := ht.cell 2
      have t3 := ht.cell 3
      refine bodyPost_ret (v := .tuple #[.agg #[.int .i64 f, .slice (some ⟨M, 0, none⟩) rs.length cap], .agg #[.slice (some ⟨Ml, 0, none⟩) (⟨(nthA rs k).2.2.l, s, e, n⟩ : PAl).l.length cl, .int .i64 (⟨(nthA rs k).2.2.l, s, e, n⟩ : PAl).s, .int .i64 (⟨(nthA rs k).2.2.l, s, e, n⟩ : PAl).e, .string (⟨(nthA rs k).2.2.l, s, e, n⟩ : PAl).n]]) (by simp [results, Try.results7, go_sem, s0, s1, t0, t1, t2, t3]) rfl ?_
      have hg0 : w.heap.size ≠ Ml := by have h : w.heap.size + 3 ≤ Ml := HO6.out.1; omega
      have hg1 : w.heap.size + 1 ≠ Ml := by have h : w.heap.size + 3 ≤ Ml := HO6.out.1; omega
      exact ⟨⟨f, M, cap, pals rs, Ml, cl, (⟨(nthA rs k).2.2.l, s, e, n⟩ : PAl), retC1 (by rw [pals_len]), dch_of ((ab_under (ab_under (ab_under (ab_under (ab_under (ab_under (HY6.out.ab) (by omega) _ _) (by omega) _ _) (by omega) _ _) (by omega) _ _) (by omega) _ _) (by omega) _ _).grow (Below.refl _ _).drew) HY6.out.fine HY6.out.few, ((own_set (own_set (own_set (own_set (own_set (own_set (HO6.out) hg0 _ _) hg0 _ _) hg1 _ _) hg1 _ _) hg1 _ _) hg1 _ _).grow (Below.refl _ _).drew).reads, HFx.out⟩, (Alm.set4 (ChnP.set2 HY6.out.low (Nat.le_refl _) _ _) (by omega) _ _ _ _).drew⟩
    | false =>
      have HFx : Hid (Fine ⟨p, s, e, n⟩) := HF.out
      have HSA : Hid (∀ w', Blk w' X #[.int .i64 f, .slice (some ⟨M, 0, none⟩) rs.length cap] 26 → Blk w' A #[.slice (some ⟨g, 0, none⟩) (⟨p, s, e, n⟩ : PAl).l.length cg, .int .i64 (⟨p, s, e, n⟩ : PAl).s, .int .i64 (⟨p, s, e, n⟩ : PAl).e, .string (⟨p, s, e, n⟩ : PAl).n] 29 → w'.cell? ⟨X, 0, none⟩ = some (.int .i64 f) ∧ w'.cell? ⟨X, 1, none⟩ = some (.slice (some ⟨M, 0, none⟩) rs.length cap) ∧ w'.cell? ⟨A, 0, none⟩ = some (.slice (some ⟨g, 0, none⟩) (⟨p, s, e, n⟩ : PAl).l.length cg) ∧ w'.cell? ⟨A, 1, none⟩ = some (.int .i64 (⟨p, s, e, n⟩ : PAl).s) ∧ w'.cell? ⟨A, 2, none⟩ = some (.int .i64 (⟨p, s, e, n⟩ : PAl).e) ∧ w'.cell? ⟨A, 3, none⟩ = some (.string (⟨p, s, e, n⟩ : PAl).n)) := fun w' h k => ⟨h.cell 0, h.cell 1, k.cell 0, k.cell 1, k.cell 2, k.cell 3⟩
      go_upto_region 6 with fail
      have hnX : w.heap.size ≠ X ∧ w.heap.size + 1 ≠ X ∧ w.heap.size ≠ A ∧ w.heap.size + 1 ≠ A := by have := HY.out.ord; have := HXA.out; exact ⟨by omega, by omega, by omega, by omega⟩
      have r0 : w3.cell? ⟨w.heap.size, 0, none⟩ = some (.int .i64 0) := HY.out.bR.cell 0
      have r1 : w3.cell? ⟨w.heap.size, 1, none⟩ = some (.slice none 0 0) := HY.out.bR.cell 1
      have fr0 := HY.out.bR.frozen 0
      have fr1 := HY.out.bR.frozen 1
      have v0 : w3.cell? ⟨w.heap.size + 1, 0, none⟩ = some (.slice none 0 0) := HV.out.cell 0
      have fv0 := HV.out.frozen 0
      have v1 : w3.cell? ⟨w.heap.size + 1, 1, none⟩ = some (.int .i64 0) := HV.out.cell 1
      have fv1 := HV.out.frozen 1
      have v2 : w3.cell? ⟨w.heap.size + 1, 2, none⟩ = some (.int .i64 0) := HV.out.cell 2
      have fv2 := HV.out.frozen 2
      have v3 : w3.cell? ⟨w.heap.size + 1, 3, none⟩ = some (.string ⟨#[]⟩) := HV.out.cell 3
      have fv3 := HV.out.frozen 3
      refine wp_region_held_drew (S := fun w' => w'.cell? ⟨X, 0, none⟩ = some (.int .i64 f) ∧ w'.cell? ⟨X, 1, none⟩ = some (.slice (some ⟨M, 0, none⟩) rs.length cap) ∧ w'.cell? ⟨A, 0, none⟩ = some (.slice (some ⟨g, 0, none⟩) (⟨p, s, e, n⟩ : PAl).l.length cg) ∧ w'.cell? ⟨A, 1, none⟩ = some (.int .i64 (⟨p, s, e, n⟩ : PAl).s) ∧ w'.cell? ⟨A, 2, none⟩ = some (.int .i64 (⟨p, s, e, n⟩ : PAl).e) ∧ w'.cell? ⟨A, 3, none⟩ = some (.string (⟨p, s, e, n⟩ : PAl).n)) (by kernel_rfl) (HSA.out _ HY.out.bX.drew HA.out.drew) (fun hHeld => ?_)
      refine wpAnyH_take (i := 0) (oi := { dst := some 34, op := Op.load 26 (Operand.tmp 5), type := 26, pos := "l06_chain.go:118", after := #[], guard := none }) (v := ?vu4x0) rfl (by kernel_rfl) (by kernel_rfl) (by kernel_rfl) (fun _ _ _ h => h) (Or.inl ⟨by rfl, ?hyu4x0⟩) hHeld ?_
      case hyu4x0 => (intro w hSw; (try dsimp only at hSw); go_simp <;> with_reducible rfl)
      try simp only [Act.put, List.setIfInBounds_toArray, List.set_cons_zero, List.set_cons_succ]
      refine wpAnyH_take (i := 1) (oi := { dst := some 35, op := Op.load 29 (Operand.tmp 6), type := 29, pos := "l06_chain.go:118", after := #[{ on := 2, ground := Ground.gcOnly Departure.lateStores }], guard := none }) (v := ?vu4x1) rfl (by kernel_rfl) (by kernel_rfl) (by kernel_rfl) (fun _ _ _ h => h) (Or.inl ⟨by rfl, ?hyu4x1⟩) hHeld ?_
      case hyu4x1 => (intro w hSw; (try dsimp only at hSw); go_simp <;> with_reducible rfl)
      try simp only [Act.put, List.setIfInBounds_toArray, List.set_cons_zero, List.set_cons_succ]
      refine wpAnyH_ready (rs := [2]) (by kernel_rfl) (by simp) ?_
      refine AllReadyH.cons (o := { dst := none, op := Op.store 26 (Operand.tmp 2) (Operand.tmp 34), type := 0, pos := "l06_chain.go:118", after := #[{ on := 0, ground := Ground.data }, { on := 0, ground := Ground.phase }, { on := 1, ground := Ground.textOnly Departure.lateStores }], guard := none }) rfl (fun K hK => ?_) AllReadyH.nil
      go_simp
      clear hHeld
      refine hK.out _ _ (HSA.out _ (blk2 HY.out.bX hnX.1 _ _).drew (blk2 HA.out hnX.2.2.1 _ _).drew) (fun hHeld => ?_)
      clear hK K
      try simp only [Act.put, List.setIfInBounds_toArray, List.set_cons_zero, List.set_cons_succ]
      refine wpAnyH_ready (rs := [3]) (by kernel_rfl) (by simp) ?_
      refine AllReadyH.cons (o := { dst := none, op := Op.store 29 (Operand.tmp 3) (Operand.tmp 35), type := 0, pos := "l06_chain.go:118", after := #[{ on := 1, ground := Ground.data }, { on := 2, ground := Ground.chain }, { on := 0, ground := Ground.phase }, { on := 1, ground := Ground.phase }, { on := 2, ground := Ground.phase }], guard := none }) rfl (fun K hK => ?_) AllReadyH.nil
      go_simp
      clear hHeld
      refine hK.out _ _ (HSA.out _ (Alm.blk4 (blk2 HY.out.bX hnX.1 _ _) hnX.2.1 _ _ _ _).drew (Alm.blk4 (blk2 HA.out hnX.2.2.1 _ _) hnX.2.2.2 _ _ _ _).drew) (fun hHeld => ?_)
      clear hK K
      try simp only [Act.put, List.setIfInBounds_toArray, List.set_cons_zero, List.set_cons_succ]
      refine wpAnyH_done (by kernel_rfl) ?_ _
      clear hHeld
      go_wp2
      have hs : Blk ((((((w3.setCell ⟨w.heap.size, 0, none⟩ (.int .i64 f)).setCell ⟨w.heap.size, 1, none⟩ (.slice (some ⟨M, 0, none⟩) rs.length cap)).setCell ⟨w.heap.size + 1, 0, none⟩ (.slice (some ⟨g, 0, none⟩) (⟨p, s, e, n⟩ : PAl).l.length cg)).setCell ⟨w.heap.size + 1, 1, none⟩ (.int .i64 (⟨p, s, e, n⟩ : PAl).s)).setCell ⟨w.heap.size + 1, 2, none⟩ (.int .i64 (⟨p, s, e, n⟩ : PAl).e)).setCell ⟨w.heap.size + 1, 3, none⟩ (.string (⟨p, s, e, n⟩ : PAl).n)).drew w.heap.size #[.int .i64 f, .slice (some ⟨M, 0, none⟩) rs.length cap] 26 := (Alm.blk4 ((HY.out.bR.set 0 _).set 1 _) (by omega) _ _ _ _).drew
      have ht : Blk ((((((w3.setCell ⟨w.heap.size, 0, none⟩ (.int .i64 f)).setCell ⟨w.heap.size, 1, none⟩ (.slice (some ⟨M, 0, none⟩) rs.length cap)).setCell ⟨w.heap.size + 1, 0, none⟩ (.slice (some ⟨g, 0, none⟩) (⟨p, s, e, n⟩ : PAl).l.length cg)).setCell ⟨w.heap.size + 1, 1, none⟩ (.int .i64 (⟨p, s, e, n⟩ : PAl).s)).setCell ⟨w.heap.size + 1, 2, none⟩ (.int .i64 (⟨p, s, e, n⟩ : PAl).e)).setCell ⟨w.heap.size + 1, 3, none⟩ (.string (⟨p, s, e, n⟩ : PAl).n)).drew (w.heap.size + 1) #[.slice (some ⟨g, 0, none⟩) (⟨p, s, e, n⟩ : PAl).l.length cg, .int .i64 (⟨p, s, e, n⟩ : PAl).s, .int .i64 (⟨p, s, e, n⟩ : PAl).e, .string (⟨p, s, e, n⟩ : PAl).n] 29 := ((((((HV.out.set_other (by show w.heap.size ≠ w.heap.size + 1; omega) _).set_other (by show w.heap.size ≠ w.heap.size + 1; omega) _).set 0 _).set 1 _).set 2 _).set 3 _).drew
      have s0 := hs.cell 0
      have s1 := hs.cell 1
      have t0 := ht.cell 0
      have t1 := ht.cell 1
      have t2 := ht.cell 2
      have t3 := ht.cell 3
      refine bodyPost_ret (v := .tuple #[.agg #[.int .i64 f, .slice (some ⟨M, 0, none⟩) rs.length cap], .agg #[.slice (some ⟨g, 0, none⟩) (⟨p, s, e, n⟩ : PAl).l.length cg, .int .i64 (⟨p, s, e, n⟩ : PAl).s, .int .i64 (⟨p, s, e, n⟩ : PAl).e, .string (⟨p, s, e, n⟩ : PAl).n]]) (by simp [results, Try.results7, go_sem, s0, s1, t0, t1, t2, t3]) rfl ?_
      have hg0 : w.heap.size ≠ g := by have h : w.heap.size + 3 ≤ g := HO.out.1; omega
      have hg1 : w.heap.size + 1 ≠ g := by have h : w.heap.size + 3 ≤ g := HO.out.1; omega
      exact ⟨⟨f, M, cap, pals rs, g, cg, (⟨p, s, e, n⟩ : PAl), retC1 (by rw [pals_len]), dch_of ((ab_under (ab_under (ab_under (ab_under (ab_under (ab_under (HY.out.ab) (by omega) _ _) (by omega) _ _) (by omega) _ _) (by omega) _ _) (by omega) _ _) (by omega) _ _).grow (Below.refl _ _).drew) HY.out.fine HY.out.few, ((own_set (own_set (own_set (own_set (own_set (own_set (HO.out) hg0 _ _) hg0 _ _) hg1 _ _) hg1 _ _) hg1 _ _) hg1 _ _).grow (Below.refl _ _).drew).reads, HFx.out⟩, (Alm.set4 (ChnP.set2 HY.out.low (Nat.le_refl _) _ _) (by omega) _ _ _ _).drew⟩
  ·
    have hr0' : ¬ (rs.length : Int) > 0 := by omega
    go_upto_region 6 with fail
    generalize hw3 : w4.alloc (.cells #[.slice (some ⟨g, 0, none⟩) p.length cg, .int .i64 s, .int .i64 e, .string n] 29) = w3 at *
    have HY : Hid (YSt w (w.heap.size + 2) X w3 f M cap rs) := HYz.out
    have HV : Hid (Blk w3 (w.heap.size + 1) #[.slice none 0 0, .int .i64 0, .int .i64 0, .string ⟨#[]⟩] 29) := HVz.out
    have HA : Hid (Blk w3 w4.heap.size #[.slice (some ⟨g, 0, none⟩) p.length cg, .int .i64 s, .int .i64 e, .string n] 29) := HAz.out
    have HO : Hid (OwnA (w.heap.size + 3) w3 (g, cg, ⟨p, s, e, n⟩)) := HOz.out
    have HFx : Hid (Fine ⟨p, s, e, n⟩) := HF.out
    clear hw3 HYz HVz HAz HOz xx HY4 HV4 HO4
    generalize w4.heap.size = A at HXA HAn HA ⊢
    have HSA : Hid (∀ w', Blk w' X #[.int .i64 f, .slice (some ⟨M, 0, none⟩) rs.length cap] 26 → Blk w' A #[.slice (some ⟨g, 0, none⟩) (⟨p, s, e, n⟩ : PAl).l.length cg, .int .i64 (⟨p, s, e, n⟩ : PAl).s, .int .i64 (⟨p, s, e, n⟩ : PAl).e, .string (⟨p, s, e, n⟩ : PAl).n] 29 → w'.cell? ⟨X, 0, none⟩ = some (.int .i64 f) ∧ w'.cell? ⟨X, 1, none⟩ = some (.slice (some ⟨M, 0, none⟩) rs.length cap) ∧ w'.cell? ⟨A, 0, none⟩ = some (.slice (some ⟨g, 0, none⟩) (⟨p, s, e, n⟩ : PAl).l.length cg) ∧ w'.cell? ⟨A, 1, none⟩ = some (.int .i64 (⟨p, s, e, n⟩ : PAl).s) ∧ w'.cell? ⟨A, 2, none⟩ = some (.int .i64 (⟨p, s, e, n⟩ : PAl).e) ∧ w'.cell? ⟨A, 3, none⟩ = some (.string (⟨p, s, e, n⟩ : PAl).n)) := fun w' h k => ⟨h.cell 0, h.cell 1, k.cell 0, k.cell 1, k.cell 2, k.cell 3⟩
    have hnX : w.heap.size ≠ X ∧ w.heap.size + 1 ≠ X ∧ w.heap.size ≠ A ∧ w.heap.size + 1 ≠ A := by have := HY.out.ord; have := HXA.out; exact ⟨by omega, by omega, by omega, by omega⟩
    have r0 : w3.cell? ⟨w.heap.size, 0, none⟩ = some (.int .i64 0) := HY.out.bR.cell 0
    have r1 : w3.cell? ⟨w.heap.size, 1, none⟩ = some (.slice none 0 0) := HY.out.bR.cell 1
    have fr0 := HY.out.bR.frozen 0
    have fr1 := HY.out.bR.frozen 1
    have v0 : w3.cell? ⟨w.heap.size + 1, 0, none⟩ = some (.slice none 0 0) := HV.out.cell 0
    have fv0 := HV.out.frozen 0
    have v1 : w3.cell? ⟨w.heap.size + 1, 1, none⟩ = some (.int .i64 0) := HV.out.cell 1
    have fv1 := HV.out.frozen 1
    have v2 : w3.cell? ⟨w.heap.size + 1, 2, none⟩ = some (.int .i64 0) := HV.out.cell 2
    have fv2 := HV.out.frozen 2
    have v3 : w3.cell? ⟨w.heap.size + 1, 3, none⟩ = some (.string ⟨#[]⟩) := HV.out.cell 3
    have fv3 := HV.out.frozen 3
    refine wp_region_held_drew (S := fun w' => w'.cell? ⟨X, 0, none⟩ = some (.int .i64 f) ∧ w'.cell? ⟨X, 1, none⟩ = some (.slice (some ⟨M, 0, none⟩) rs.length cap) ∧ w'.cell? ⟨A, 0, none⟩ = some (.slice (some ⟨g, 0, none⟩) (⟨p, s, e, n⟩ : PAl).l.length cg) ∧ w'.cell? ⟨A, 1, none⟩ = some (.int .i64 (⟨p, s, e, n⟩ : PAl).s) ∧ w'.cell? ⟨A, 2, none⟩ = some (.int .i64 (⟨p, s, e, n⟩ : PAl).e) ∧ w'.cell? ⟨A, 3, none⟩ = some (.string (⟨p, s, e, n⟩ : PAl).n)) (by kernel_rfl) (HSA.out _ HY.out.bX.drew HA.out.drew) (fun hHeld => ?_)
    refine wpAnyH_take (i := 0) (oi := { dst := some 34, op := Op.load 26 (Operand.tmp 5), type := 26, pos := "l06_chain.go:118", after := #[], guard := none }) (v := ?vu5x0) rfl (by kernel_rfl) (by kernel_rfl) (by kernel_rfl) (fun _ _ _ h => h) (Or.inl ⟨by rfl, ?hyu5x0⟩) hHeld ?_
    case hyu5x0 => (intro w hSw; (try dsimp only at hSw); go_simp <;> with_reducible rfl)
    try simp only [Act.put, List.setIfInBounds_toArray, List.set_cons_zero, List.set_cons_succ]
    refine wpAnyH_take (i := 1) (oi := { dst := some 35, op := Op.load 29 (Operand.tmp 6), type := 29, pos := "l06_chain.go:118", after := #[{ on := 2, ground := Ground.gcOnly Departure.lateStores }], guard := none }) (v := ?vu5x1) rfl (by kernel_rfl) (by kernel_rfl) (by kernel_rfl) (fun _ _ _ h => h) (Or.inl ⟨by rfl, ?hyu5x1⟩) hHeld ?_
    case hyu5x1 => (intro w hSw; (try dsimp only at hSw); go_simp <;> with_reducible rfl)
    try simp only [Act.put, List.setIfInBounds_toArray, List.set_cons_zero, List.set_cons_succ]
    refine wpAnyH_ready (rs := [2]) (by kernel_rfl) (by simp) ?_
    refine AllReadyH.cons (o := { dst := none, op := Op.store 26 (Operand.tmp 2) (Operand.tmp 34), type := 0, pos := "l06_chain.go:118", after := #[{ on := 0, ground := Ground.data }, { on := 0, ground := Ground.phase }, { on := 1, ground := Ground.textOnly Departure.lateStores }], guard := none }) rfl (fun K hK => ?_) AllReadyH.nil
    go_simp
    clear hHeld
    refine hK.out _ _ (HSA.out _ (blk2 HY.out.bX hnX.1 _ _).drew (blk2 HA.out hnX.2.2.1 _ _).drew) (fun hHeld => ?_)
    clear hK K
    try simp only [Act.put, List.setIfInBounds_toArray, List.set_cons_zero, List.set_cons_succ]
    refine wpAnyH_ready (rs := [3]) (by kernel_rfl) (by simp) ?_
    refine AllReadyH.cons (o := { dst := none, op := Op.store 29 (Operand.tmp 3) (Operand.tmp 35), type := 0, pos := "l06_chain.go:118", after := #[{ on := 1, ground := Ground.data }, { on := 2, ground := Ground.chain }, { on := 0, ground := Ground.phase }, { on := 1, ground := Ground.phase }, { on := 2, ground := Ground.phase }], guard := none }) rfl (fun K hK => ?_) AllReadyH.nil
    go_simp
    clear hHeld
    refine hK.out _ _ (HSA.out _ (Alm.blk4 (blk2 HY.out.bX hnX.1 _ _) hnX.2.1 _ _ _ _).drew (Alm.blk4 (blk2 HA.out hnX.2.2.1 _ _) hnX.2.2.2 _ _ _ _).drew) (fun hHeld => ?_)
    clear hK K
    try simp only [Act.put, List.setIfInBounds_toArray, List.set_cons_zero, List.set_cons_succ]
    refine wpAnyH_done (by kernel_rfl) ?_ _
    clear hHeld
    go_wp2
    have hs : Blk ((((((w3.setCell ⟨w.heap.size, 0, none⟩ (.int .i64 f)).setCell ⟨w.heap.size, 1, none⟩ (.slice (some ⟨M, 0, none⟩) rs.length cap)).setCell ⟨w.heap.size + 1, 0, none⟩ (.slice (some ⟨g, 0, none⟩) (⟨p, s, e, n⟩ : PAl).l.length cg)).setCell ⟨w.heap.size + 1, 1, none⟩ (.int .i64 (⟨p, s, e, n⟩ : PAl).s)).setCell ⟨w.heap.size + 1, 2, none⟩ (.int .i64 (⟨p, s, e, n⟩ : PAl).e)).setCell ⟨w.heap.size + 1, 3, none⟩ (.string (⟨p, s, e, n⟩ : PAl).n)).drew w.heap.size #[.int .i64 f, .slice (some ⟨M, 0, none⟩) rs.length cap] 26 := (Alm.blk4 ((HY.out.bR.set 0 _).set 1 _) (by omega) _ _ _ _).drew
    have ht : Blk ((((((w3.setCell ⟨w.heap.size, 0, none⟩ (.int .i64 f)).setCell ⟨w.heap.size, 1, none⟩ (.slice (some ⟨M, 0, none⟩) rs.length cap)).setCell ⟨w.heap.size + 1, 0, none⟩ (.slice (some ⟨g, 0, none⟩) (⟨p, s, e, n⟩ : PAl).l.length cg)).setCell ⟨w.heap.size + 1, 1, none⟩ (.int .i64 (⟨p, s, e, n⟩ : PAl).s)).setCell ⟨w.heap.size + 1, 2, none⟩ (.int .i64 (⟨p, s, e, n⟩ : PAl).e)).setCell ⟨w.heap.size + 1, 3, none⟩ (.string (⟨p, s, e, n⟩ : PAl).n)).drew (w.heap.size + 1) #[.slice (some ⟨g, 0, none⟩) (⟨p, s, e, n⟩ : PAl).l.length cg, .int .i64 (⟨p, s, e, n⟩ : PAl).s, .int .i64 (⟨p, s, e, n⟩ : PAl).e, .string (⟨p, s, e, n⟩ : PAl).n] 29 := ((((((HV.out.set_other (by show w.heap.size ≠ w.heap.size + 1; omega) _).set_other (by show w.heap.size ≠ w.heap.size + 1; omega) _).set 0 _).set 1 _).set 2 _).set 3 _).drew
    have s0 := hs.cell 0
    have s1 := hs.cell 1
    have t0 := ht.cell 0
    have t1 := ht.cell 1
    have t2 := ht.cell 2
    have t3 := ht.cell 3
    refine bodyPost_ret (v := .tuple #[.agg #[.int .i64 f, .slice (some ⟨M, 0, none⟩) rs.length cap], .agg #[.slice (some ⟨g, 0, none⟩) (⟨p, s, e, n⟩ : PAl).l.length cg, .int .i64 (⟨p, s, e, n⟩ : PAl).s, .int .i64 (⟨p, s, e, n⟩ : PAl).e, .string (⟨p, s, e, n⟩ : PAl).n]]) (by simp [results, Try.results7, go_sem, s0, s1, t0, t1, t2, t3]) rfl ?_
    have hg0 : w.heap.size ≠ g := by have h : w.heap.size + 3 ≤ g := HO.out.1; omega
    have hg1 : w.heap.size + 1 ≠ g := by have h : w.heap.size + 3 ≤ g := HO.out.1; omega
    exact ⟨⟨f, M, cap, pals rs, g, cg, (⟨p, s, e, n⟩ : PAl), retC1 (by rw [pals_len]), dch_of ((ab_under (ab_under (ab_under (ab_under (ab_under (ab_under (HY.out.ab) (by omega) _ _) (by omega) _ _) (by omega) _ _) (by omega) _ _) (by omega) _ _) (by omega) _ _).grow (Below.refl _ _).drew) HY.out.fine HY.out.few, ((own_set (own_set (own_set (own_set (own_set (own_set (HO.out) hg0 _ _) hg0 _ _) hg1 _ _) hg1 _ _) hg1 _ _) hg1 _ _).grow (Below.refl _ _).drew).reads, HFx.out⟩, (Alm.set4 (ChnP.set2 HY.out.low (Nat.le_refl _) _ _) (by omega) _ _ _ _).drew⟩
end Go.Proofs.Ytcopckbpflmmeaa.DrawE
