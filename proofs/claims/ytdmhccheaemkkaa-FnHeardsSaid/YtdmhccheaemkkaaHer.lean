/-
  PROVED: impl.Hear and spec.Hear, whatever is told: one form for all three answers; the marks over rows and labels that may be none.
-/
import Derived.Test.YtdmhccheaemkkaaSub
import Derived.Test.YtdmhccheaemkkaaTel
namespace Go.Proofs.Ytdmhccheaemkkaa.Her
open Go.RowKit
open Go.Proofs.Ytdmhccheaemkkaa.Labs Go.Proofs.Ytdmhccheaemkkaa.LabS Go.Proofs.Ytdmhccheaemkkaa.Alms Go.Proofs.Ytdmhccheaemkkaa.AlmM Go.Proofs.Ytdmhccheaemkkaa.Over Go.Proofs.Ytdmhccheaemkkaa.Blk Go.Proofs.Ytdmhccheaemkkaa.App Go.Proofs.Ytdmhccheaemkkaa.Rws Go.Proofs.Ytdmhccheaemkkaa.ChnI Go.Proofs.Ytdmhccheaemkkaa.ChnC Go.Proofs.Ytdmhccheaemkkaa.ChnK Go.Proofs.Ytdmhccheaemkkaa.Chs
open Go.Proofs.Ytdmhccheaemkkaa.Mark (Apart Marked)
set_option linter.unusedVariables false

/-- the zero one -/
def zX : PAl := ⟨[], 0, 0, ⟨#[]⟩⟩
/-- what is still to be heard behind a hearing, what is heard, and the code -/
def hearP (P : List PAl) (g : Bool) : List PAl := if g = true then [] else P.tail
def hearX (P : List PAl) (g : Bool) : PAl := if g = true then zX else P.headD zX
def hearN (P : List PAl) (g : Bool) : Int := if g = true then 2 else if P.isEmpty = true then 0 else 1
theorem hear_sum (P : List PAl) (g : Bool) : (hearP P g).length ≤ P.length ∧ sumL (hearP P g) + (hearX P g).l.length ≤ sumL P := by
  cases g with
  | true => exact ⟨by simp [hearP], by simp [hearP, hearX, zX, sumL]⟩
  | false =>
    cases P with
    | nil => exact ⟨by simp [hearP], by simp [hearP, hearX, zX, sumL]⟩
    | cons y P => exact ⟨by simp [hearP], by simp [hearP, hearX, sumL]; omega⟩
theorem fit_zX : FitA zX := ⟨by simp [zX, maxLen], fun i hi => by simp [zX] at hi, by simp [zX], by simp [zX], by show ByteArray.size ⟨#[]⟩ ≤ _; simp [ByteArray.size, maxLen]⟩
theorem hear_fits {P : List PAl} (g : Bool) (h : FitsP P) : FitsP (hearP P g) ∧ FitA (hearX P g) := by
  cases g with
  | true => exact ⟨fun i hi => by simp [hearP] at hi, by simpa [hearX] using fit_zX⟩
  | false =>
    cases P with
    | nil => exact ⟨fun i hi => by simp [hearP] at hi, by simpa [hearX] using fit_zX⟩
    | cons y P => exact ⟨fits_of fun x hx => fits_mem h (List.mem_cons_of_mem _ hx), fits_mem h (List.mem_cons_self ..)⟩
/-- a row, anywhere in its block, or none -/
def AQ (lo : Nat) (w : World) (a : Option Addr) (rs : List ARow) : Prop := (a = none ∧ rs = []) ∨ ∃ M o, a = some ⟨M, o, none⟩ ∧ AO lo w M o rs
def blksA (a : Option Addr) (rs : List ARow) (k : Nat) : Prop := ∃ M o, a = some ⟨M, o, none⟩ ∧ blks M rs k
theorem AQ.grow {lo : Nat} {w w' : World} {a : Option Addr} {rs : List ARow} (h : AQ lo w a rs) (hb : Below w.heap.size w w') : AQ lo w' a rs := h.imp id fun ⟨M, o, e, k⟩ => ⟨M, o, e, k.grow hb⟩
theorem AQ.down {lo lo' : Nat} {w : World} {a : Option Addr} {rs : List ARow} (h : AQ lo w a rs) (hl : lo' ≤ lo) : AQ lo' w a rs := h.imp id fun ⟨M, o, e, k⟩ => ⟨M, o, e, k.down hl⟩
theorem AQ.rd {lo : Nat} {w : World} {a : Option Addr} {rs : List ARow} (h : AQ lo w a rs) : RdN w a (pals rs) := by
  rcases h with ⟨rfl, rfl⟩ | ⟨M, o, rfl, h⟩
  · exact .inl rfl
  · exact h.rd
theorem AQ.len {lo : Nat} {w : World} {a : Option Addr} {rs : List ARow} (h : AQ lo w a rs) : ∀ x ∈ rs, x.2.2.l.length ≤ 1048576 := by
  rcases h with ⟨rfl, rfl⟩ | ⟨M, o, rfl, h⟩
  · intro x hx; simp at hx
  · exact fun x hx => (h.rows x hx).2.1
theorem AQ.rng {lo : Nat} {w : World} {a : Option Addr} {rs : List ARow} (h : AQ lo w a rs) : ∀ k, blksA a rs k → lo ≤ k ∧ k < w.heap.size := fun k hk => by
  obtain ⟨M, o, rfl, hb⟩ := hk
  rcases h with ⟨e, _⟩ | ⟨M', o', e, h⟩
  · cases e
  · cases e; exact ⟨aoblks_low h k hb, aoblks_high h k hb⟩
theorem aq_only {S : Nat → Prop} {lo : Nat} {w w' : World} {a : Option Addr} {rs : List ARow} (h : AQ lo w a rs) (ho : Only S w w') (hn : ∀ k, blksA a rs k → ¬ S k) : AQ lo w' a rs := by
  rcases h with h | ⟨M, o, rfl, h⟩
  · exact .inl h
  · exact .inr ⟨M, o, rfl, ao_only h ho fun k hk => hn k ⟨M, o, rfl, hk⟩⟩
/-- labels of one's own, or none -/
def YQ (lo : Nat) (w : World) (a : Option Addr) (x : PAl) : Prop := (a = none ∧ x.l = []) ∨ ∃ g c, a = some ⟨g, 0, none⟩ ∧ OwnA lo w (g, c, x)
def blkY (a : Option Addr) (k : Nat) : Prop := a = some ⟨k, 0, none⟩
theorem YQ.grow {lo : Nat} {w w' : World} {a : Option Addr} {x : PAl} (h : YQ lo w a x) (hb : Below w.heap.size w w') : YQ lo w' a x := h.imp id fun ⟨g, c, e, k⟩ => ⟨g, c, e, k.grow hb⟩
theorem YQ.down {lo lo' : Nat} {w : World} {a : Option Addr} {x : PAl} (h : YQ lo w a x) (hl : lo' ≤ lo) : YQ lo' w a x := h.imp id fun ⟨g, c, e, k⟩ => ⟨g, c, e, k.down hl⟩
theorem YQ.rd {lo : Nat} {w : World} {a : Option Addr} {x : PAl} (h : YQ lo w a x) : Reads w a x.l := by
  rcases h with ⟨rfl, h⟩ | ⟨g, c, rfl, h⟩
  · exact .inl h
  · exact h.reads
theorem YQ.rng {lo : Nat} {w : World} {a : Option Addr} {x : PAl} (h : YQ lo w a x) : ∀ k, blkY a k → lo ≤ k ∧ k < w.heap.size := fun k hk => by
  unfold blkY at hk
  subst hk
  rcases h with ⟨e, _⟩ | ⟨g, c, e, h⟩
  · cases e
  · cases e; exact ⟨h.1, h.lt⟩
theorem own_only {S : Nat → Prop} {lo : Nat} {w w' : World} {x : ARow} (h : OwnA lo w x) (ho : Only S w w') (hn : ¬ S x.1) : OwnA lo w' x := by
  obtain ⟨h0, h1, ds, h2, h3⟩ := h
  exact ⟨h0, h1, ds, ho.blk h2 hn, h3⟩
theorem yq_only {S : Nat → Prop} {lo : Nat} {w w' : World} {a : Option Addr} {x : PAl} (h : YQ lo w a x) (ho : Only S w w') (hn : ∀ k, blkY a k → ¬ S k) : YQ lo w' a x := by
  rcases h with h | ⟨g, c, rfl, h⟩
  · exact .inl h
  · exact .inr ⟨g, c, rfl, own_only h ho (hn g rfl)⟩

set_option maxHeartbeats 400000 in
theorem implHear_any (a : Option Addr) (cap : Nat) (P : List PAl) (g : Bool) (w : World) (hr : RdA w a P) (hl : P.length ≤ 1048576) (hs : LenM P) :
    Calls Try.prog 13 #[.agg #[.slice a P.length cap, .bool g]] w fun e w' => (∃ a' c ax cx rs, e = .returned (.tuple #[.agg #[.slice a' rs.length c, .bool false], .agg #[.slice ax (hearX P g).l.length cx, .int .i64 (hearX P g).s, .int .i64 (hearX P g).e, .string (hearX P g).n], .int .i64 (hearN P g)]) ∧ AQ w.heap.size w' a' rs ∧ pals rs = hearP P g ∧ YQ w.heap.size w' ax (hearX P g) ∧ ∀ k, blksA a' rs k → ¬ blkY ax k) ∧ Below w.heap.size w w' := by
  cases g with
  | true =>
    refine (Tel.implHearL_any a cap P w).mono fun e w' ⟨he, hb⟩ => ⟨⟨none, 0, none, 0, [], he, .inl ⟨rfl, rfl⟩, rfl, .inl ⟨rfl, rfl⟩, fun k hk => ?_⟩, hb⟩
    obtain ⟨M, o, e, _⟩ := hk
    cases e
  | false =>
    cases P with
    | nil =>
      refine (Tel.implHearN_any a cap w).mono fun e w' ⟨⟨M, he, hab⟩, hb⟩ => ⟨⟨_, 0, none, 0, [], he, .inr ⟨M, 0, rfl, AB.ao hab⟩, rfl, .inl ⟨rfl, rfl⟩, fun k hk hy => ?_⟩, hb⟩
      cases hy
    | cons y P =>
      refine (Tel.implHearC_any a cap y P w hr hl hs).mono fun e w' ⟨⟨M, o, c, gy, cy, rs, he, hab, hp, hy, hn⟩, hb⟩ => ⟨⟨_, c, _, cy, rs, he, .inr ⟨M, o, rfl, hab⟩, hp, .inr ⟨gy, cy, rfl, hy⟩, fun k hk hyk => ?_⟩, hb⟩
      obtain ⟨M', o', e1, hk⟩ := hk
      cases e1
      have e2 : gy = k := by have := Option.some.inj hyk; injection this
      exact hn k hk e2.symm
set_option maxHeartbeats 400000 in
theorem specHear_any (a : Option Addr) (cap : Nat) (P : List PAl) (g : Bool) (w : World) (hr : RdN w a P) (hl : P.length ≤ 1048576) (hs : LenM P) (hcap : P.length ≤ cap) :
    Calls Try.prog 14 #[.agg #[.slice a P.length cap, .bool g]] w fun e w' => (∃ a' c ax cx rs, e = .returned (.tuple #[.agg #[.slice a' rs.length c, .bool false], .agg #[.slice ax (hearX P g).l.length cx, .int .i64 (hearX P g).s, .int .i64 (hearX P g).e, .string (hearX P g).n], .int .i64 (hearN P g)]) ∧ AQ w.heap.size w' a' rs ∧ pals rs = hearP P g ∧ YQ w.heap.size w' ax (hearX P g)) ∧ Below w.heap.size w w' := by
  cases g with
  | true => exact (Tel.specHearL_any a cap P w).mono fun e w' ⟨he, hb⟩ => ⟨⟨none, 0, none, 0, [], he, .inl ⟨rfl, rfl⟩, rfl, .inl ⟨rfl, rfl⟩⟩, hb⟩
  | false =>
    cases P with
    | nil => exact (Tel.specHearN_any a cap w).mono fun e w' ⟨he, hb⟩ => ⟨⟨none, 0, none, 0, [], he, .inl ⟨rfl, rfl⟩, rfl, .inl ⟨rfl, rfl⟩⟩, hb⟩
    | cons y P => exact (Tel.specHearC_any a cap y P w hr hl hs hcap).mono fun e w' ⟨⟨M, c, gy, cy, rs, he, hab, hp, hy⟩, hb⟩ => ⟨⟨_, c, _, cy, rs, he, .inr ⟨M, 0, rfl, AB.ao hab⟩, hp, .inr ⟨gy, cy, rfl, hy⟩⟩, hb⟩

theorem markL0_any (a : Option Addr) (cap k : Nat) (w : World) : Calls Try.prog 67 #[.slice a 0 cap, .int .i64 (k : Int)] w fun e w' => e = .returned (.int .i64 (k : Int)) ∧ w' = w := by
  go_enter Try.func67, Try.ntmps67
  go_wp2
  go_loopw [1, 5] (fun x i w' => x = .int .i64 (k : Int) ∧ i = .int .i64 0 ∧ w' = w) (fun _ _ _ => 0)
  case atStart => exact ⟨rfl, rfl, rfl⟩
  case round =>
    obtain ⟨rfl, rfl, rfl⟩ := hrel
    go_wp2
    go_ret
    exact ⟨rfl, rfl⟩
theorem heldL0_any (a : Option Addr) (cap k : Nat) (w : World) : Calls Try.prog 69 #[.slice a 0 cap, .int .i64 (k : Int)] w fun e w' => e = .returned (.int .i64 (k : Int)) ∧ w' = w := by
  go_enter Try.func69, Try.ntmps69
  go_wp2
  go_loopw [1, 5] (fun x i w' => x = .int .i64 (k : Int) ∧ i = .int .i64 0 ∧ w' = w) (fun _ _ _ => 0)
  case atStart => exact ⟨rfl, rfl, rfl⟩
  case round =>
    obtain ⟨rfl, rfl, rfl⟩ := hrel
    go_wp2
    go_ret
    exact ⟨rfl, rfl⟩
theorem markA0_any (a : Option Addr) (cap k : Nat) (w : World) : Calls Try.prog 66 #[.slice a 0 cap, .int .i64 (k : Int)] w fun e w' => e = .returned (.int .i64 (k : Int)) ∧ w' = w := by
  go_enter Try.func66, Try.ntmps66
  go_wp2
  go_loopw [1, 5] (fun x i w' => x = .int .i64 (k : Int) ∧ i = .int .i64 0 ∧ w' = w) (fun _ _ _ => 0)
  case atStart => exact ⟨rfl, rfl, rfl⟩
  case round =>
    obtain ⟨rfl, rfl, rfl⟩ := hrel
    go_wp2
    go_ret
    exact ⟨rfl, rfl⟩
theorem heldA0_any (a : Option Addr) (cap k : Nat) (w : World) : Calls Try.prog 68 #[.slice a 0 cap, .int .i64 (k : Int)] w fun e w' => e = .returned (.int .i64 (k : Int)) ∧ w' = w := by
  go_enter Try.func68, Try.ntmps68
  go_wp2
  go_loopw [1, 5] (fun x i w' => x = .int .i64 (k : Int) ∧ i = .int .i64 0 ∧ w' = w) (fun _ _ _ => 0)
  case atStart => exact ⟨rfl, rfl, rfl⟩
  case round =>
    obtain ⟨rfl, rfl, rfl⟩ := hrel
    go_wp2
    go_ret
    exact ⟨rfl, rfl⟩
theorem markS0_any (a : Option Addr) (cap k : Nat) (g : Bool) (w : World) : Calls Try.prog 37 #[.agg #[.slice a 0 cap, .bool g], .int .i64 (k : Int)] w fun e w' => e = .returned (.int .i64 (k : Int)) ∧ Below w.heap.size w w' := by
  have hq : ¬ (k : Int) < 0 := by omega
  go_enter Try.func37, Try.ntmps37
  go_wp2_with fail
  refine (markA0_any a cap k _).mono ?_
  rintro r w1 ⟨rfl, rfl⟩
  go_wp2
  go_ret
  exact ⟨rfl, Go.Joins.below_alloc1 w _⟩
theorem heldS0_any (a : Option Addr) (cap k : Nat) (g : Bool) (w : World) : Calls Try.prog 39 #[.agg #[.slice a 0 cap, .bool g], .int .i64 (k : Int)] w fun e w' => e = .returned (.int .i64 (k : Int)) ∧ Below w.heap.size w w' := by
  have hq : ¬ (k : Int) < 0 := by omega
  go_enter Try.func39, Try.ntmps39
  go_wp2_with fail
  refine (heldA0_any a cap k _).mono ?_
  rintro r w1 ⟨rfl, rfl⟩
  go_wp2
  go_ret
  exact ⟨rfl, Go.Joins.below_alloc1 w _⟩
theorem markX0_any (a : Option Addr) (cap k : Nat) (s e : Int) (t : ByteArray) (w : World) : Calls Try.prog 38 #[.agg #[.slice a 0 cap, .int .i64 s, .int .i64 e, .string t], .int .i64 (k : Int)] w fun e w' => e = .returned (.int .i64 (k : Int)) ∧ Below w.heap.size w w' := by
  have hq : ¬ (k : Int) < 0 := by omega
  go_enter Try.func38, Try.ntmps38
  go_wp2_with fail
  refine (markL0_any a cap k _).mono ?_
  rintro r w1 ⟨rfl, rfl⟩
  go_wp2
  go_ret
  exact ⟨rfl, Go.Joins.below_alloc1 w _⟩
theorem heldX0_any (a : Option Addr) (cap k : Nat) (s e : Int) (t : ByteArray) (w : World) : Calls Try.prog 40 #[.agg #[.slice a 0 cap, .int .i64 s, .int .i64 e, .string t], .int .i64 (k : Int)] w fun e w' => e = .returned (.int .i64 (k : Int)) ∧ Below w.heap.size w w' := by
  have hq : ¬ (k : Int) < 0 := by omega
  go_enter Try.func40, Try.ntmps40
  go_wp2_with fail
  refine (heldL0_any a cap k _).mono ?_
  rintro r w1 ⟨rfl, rfl⟩
  go_wp2
  go_ret
  exact ⟨rfl, Go.Joins.below_alloc1 w _⟩

/-- a row that is marked, or none -/
def MQ (w : World) (a : Option Addr) (rs : List ARow) (k : Nat) : Prop := rs = [] ∨ ∃ M o, a = some ⟨M, o, none⟩ ∧ MO w M o rs k rs.length
theorem MQ.only {S : Nat → Prop} {w w' : World} {a : Option Addr} {rs : List ARow} {k : Nat} (h : MQ w a rs k) (ho : Only S w w') (hn : ∀ k, blksA a rs k → ¬ S k) : MQ w' a rs k := by
  rcases h with h | ⟨M, o, rfl, h⟩
  · exact .inl h
  · exact .inr ⟨M, o, rfl, h.only ho fun k hk => hn k ⟨M, o, rfl, hk⟩⟩
theorem MQ.grow {w w' : World} {a : Option Addr} {rs : List ARow} {k : Nat} (h : MQ w a rs k) (hb : Below w.heap.size w w') : MQ w' a rs k := h.imp id fun ⟨M, o, e, k⟩ => ⟨M, o, e, k.grow hb⟩
theorem markQ_any (g : Bool) (a : Option Addr) (k lo cap : Nat) (rs : List ARow) (w : World) (h : AQ lo w a rs) (hl : rs.length ≤ 2000000) (hk : 1 ≤ k) (hk2 : k + sumA rs ≤ 9000000) :
    Calls Try.prog 37 #[.agg #[.slice a rs.length cap, .bool g], .int .i64 k] w fun e w' => e = .returned (.int .i64 ((k + sumA rs : Nat) : Int)) ∧ MQ w' a rs k ∧ Only (blksA a rs) w w' := by
  rcases h with ⟨rfl, rfl⟩ | ⟨M, o, rfl, h⟩
  · exact (markS0_any none cap k g w).mono fun e w' ⟨he, hb⟩ => ⟨he, .inl rfl, Only.of hb⟩
  · exact (Sub.mark_any g M o k lo cap rs w h hl hk hk2).mono fun e w' ⟨he, hm, ho⟩ => ⟨he, .inr ⟨M, o, rfl, hm⟩, Que.Only.imp ho fun k hk => ⟨M, o, rfl, hk⟩⟩
theorem heldQ_any (g : Bool) (a : Option Addr) (k cap : Nat) (rs : List ARow) (w : World) (h : MQ w a rs k) (hll : ∀ x ∈ rs, x.2.2.l.length ≤ 1048576) (hl : rs.length ≤ 2000000) (hk : 1 ≤ k) (hk2 : k + sumA rs ≤ 9000000) :
    Calls Try.prog 39 #[.agg #[.slice a rs.length cap, .bool g], .int .i64 k] w fun e w' => e = .returned (.int .i64 ((k + sumA rs : Nat) : Int)) ∧ Below w.heap.size w w' := by
  rcases h with rfl | ⟨M, o, rfl, h⟩
  · exact heldS0_any a cap k g w
  · exact Sub.held_any g M o k cap rs w h hll hl hk hk2
/-- labels that are marked, or none -/
def LQ (w : World) (a : Option Addr) (n k : Nat) : Prop := n = 0 ∨ ∃ g cs, a = some ⟨g, 0, none⟩ ∧ Blk w g cs 102 ∧ Marked cs k n
theorem LQ.only {S : Nat → Prop} {w w' : World} {a : Option Addr} {n k : Nat} (h : LQ w a n k) (ho : Only S w w') (hn : ∀ k, blkY a k → ¬ S k) : LQ w' a n k := by
  rcases h with h | ⟨g, cs, rfl, h1, h2⟩
  · exact .inl h
  · exact .inr ⟨g, cs, rfl, ho.blk h1 (hn g rfl), h2⟩
theorem LQ.grow {w w' : World} {a : Option Addr} {n k : Nat} (h : LQ w a n k) (hb : Below w.heap.size w w') : LQ w' a n k := h.imp id fun ⟨g, cs, e, h1, h2⟩ => ⟨g, cs, e, h1.grow hb, h2⟩
theorem markY_any (a : Option Addr) (k lo cap : Nat) (x : PAl) (w : World) (h : YQ lo w a x) (hl : x.l.length ≤ 1048576) (hk : 1 ≤ k) (hk2 : k ≤ 10000000) :
    Calls Try.prog 38 #[.agg #[.slice a x.l.length cap, .int .i64 x.s, .int .i64 x.e, .string x.n], .int .i64 k] w fun e w' => e = .returned (.int .i64 ((k + 2 * x.l.length : Nat) : Int)) ∧ LQ w' a x.l.length k ∧ Only (blkY a) w w' := by
  rcases h with ⟨rfl, h⟩ | ⟨g, c, rfl, h0, h1, ds, h2, h3, h4⟩
  · have e : x.l.length = 0 := by rw [h]; rfl
    rw [e]
    exact (markX0_any none cap k x.s x.e x.n w).mono fun e w' ⟨he, hb⟩ => ⟨he, .inl rfl, Only.of hb⟩
  · exact (AlmK.markA_any g x.l.length cap k x.s x.e x.n ds w h2 h3 hl hk hk2).mono fun e w' ⟨he, ⟨cs', hc, _, hm⟩, ha⟩ => ⟨he, .inr ⟨g, cs', rfl, hc, hm⟩, Only.apart ha rfl⟩
theorem heldY_any (a : Option Addr) (k cap : Nat) (x : PAl) (w : World) (h : LQ w a x.l.length k) (hl : x.l.length ≤ 1048576) (hk : 1 ≤ k) (hk2 : k ≤ 10000000) :
    Calls Try.prog 40 #[.agg #[.slice a x.l.length cap, .int .i64 x.s, .int .i64 x.e, .string x.n], .int .i64 k] w fun e w' => e = .returned (.int .i64 ((k + 2 * x.l.length : Nat) : Int)) ∧ Below w.heap.size w w' := by
  rcases h with h | ⟨g, cs, rfl, h1, h2⟩
  · rw [h]
    exact heldX0_any a cap k x.s x.e x.n w
  · exact AlmK.heldA_any g x.l.length cap k x.s x.e x.n cs w h1 h2 hl hk hk2
end Go.Proofs.Ytdmhccheaemkkaa.Her
