/-
  PROVED: impl.Hear and spec.Hear, whatever is told: one form for all three answers; the marks over rows and labels that may be none.
-/
import Derived.Test.YtdmhccheaemkkabSub
import Derived.Test.YtdmhccheaemkkabTel
namespace Go.Proofs.Ytdmhccheaemkkab.Her
open Go.RowKit
open Go.Proofs.Ytdmhccheaemkkab.Labs Go.Proofs.Ytdmhccheaemkkab.LabS Go.Proofs.Ytdmhccheaemkkab.Alms Go.Proofs.Ytdmhccheaemkkab.AlmM Go.Proofs.Ytdmhccheaemkkab.Over Go.Proofs.Ytdmhccheaemkkab.Blk Go.Proofs.Ytdmhccheaemkkab.App Go.Proofs.Ytdmhccheaemkkab.Rws Go.Proofs.Ytdmhccheaemkkab.ChnI Go.Proofs.Ytdmhccheaemkkab.ChnC Go.Proofs.Ytdmhccheaemkkab.ChnK Go.Proofs.Ytdmhccheaemkkab.Chs
open Go.Proofs.Ytdmhccheaemkkab.Mark (Apart Marked)
set_option linter.unusedVariables false

/-- the zero one -/
def zX : PAl := ⟨[], 0, 0, ⟨#[]⟩⟩
/-- what is still to be heard behind a hearing, what is heard, and the code -/
def hearP (P : List PAl) (g : Bool) : List PAl := if g = true then [] else P.tail
def hearX (P : List PAl) (g : Bool) : PAl := if g = true then zX else P.headD zX
def hearN (P : List PAl) (g : Bool) : Int := if g = true then 2 else if P.isEmpty = true then 0 else 1
theorem hear_sum (P : List PAl) (g : Bool) : (hearP P g).length ≤ P.length ∧ sumL (hearP P g) + (hearX P g).l.length ≤ sumL P := by
  cases g with
  | true => exact ⟨by simp [hearP], by simp [hearP, hearX, zX, sumL]⟩
  | false =>
    cases P with
    | nil => exact ⟨by simp [hearP], by simp [hearP, hearX, zX, sumL]⟩
    | cons y P => exact ⟨by simp [hearP], by simp [hearP, hearX, sumL]; omega⟩
theorem fit_zX : FitA zX := ⟨by simp [zX, maxLen], fun i hi => by simp [zX] at hi, by simp [zX], by simp [zX], by show ByteArray.size ⟨#[]⟩ ≤ _; simp [ByteArray.size, maxLen]⟩
theorem hear_fits {P : List PAl} (g : Bool) (h : FitsP P) : FitsP (hearP P g) ∧ FitA (hearX P g) := by
  cases g with
  | true => exact ⟨fun i hi => by simp [hearP] at hi, by simpa [hearX] using fit_zX⟩
  | false =>
    cases P with
    | nil => exact ⟨fun i hi => by simp [hearP] at hi, by simpa [hearX] using fit_zX⟩
    | cons y P => exact ⟨fits_of fun x hx => fits_mem h (List.mem_cons_of_mem _ hx), fits_mem h (List.mem_cons_self ..)⟩
/-- a row, anywhere in its block, or none -/
def AQ (lo : Nat) (w : World) (a : Option Addr) (rs : List ARow) : Prop := (a = none ∧ rs = []) ∨ ∃ M o, a = some ⟨M, o, none⟩ ∧ AO lo w M o rs
def blksA (a : Option Addr) (rs : List ARow) (k : Nat) : Prop := ∃ M o, a = some ⟨M, o, none⟩ ∧ blks M rs k
theorem AQ.grow {lo : Nat} {w w' : World} {a : Option Addr} {rs : List ARow} (h : AQ lo w a rs) (hb : Below w.heap.size w w') : AQ lo w' a rs := h.imp id fun ⟨M, o, e, k⟩ => ⟨M, o, e, k.grow hb⟩
theorem AQ.down {lo lo' : Nat} {w : World} {a : Option Addr} {rs : List ARow} (h : AQ lo w a rs) (hl : lo' ≤ lo) : AQ lo' w a rs := h.imp id fun ⟨M, o, e, k⟩ => ⟨M, o, e, k.down hl⟩
theorem AQ.rd {lo : Nat} {w : World} {a : Option Addr} {rs : List ARow} (h : AQ lo w a rs) : RdN w a (pals rs) := by
  rcases h with ⟨rfl, rfl⟩ | ⟨M, o, rfl, h⟩
  · exact .inl rfl
  · exact h.rd
theorem AQ.len {lo : Nat} {w : World} {a : Option Addr} {rs : List ARow} (h : AQ lo w a rs) : ∀ x ∈ rs, x.2.2.l.length ≤ 1048576 := by
  rcases h with ⟨rfl, rfl⟩ | ⟨M, o, rfl, h⟩
  · intro x hx; simp at hx
  · exact fun x hx => (h.rows x hx).2.1
theorem AQ.rng {lo : Nat} {w : World} {a : Option Addr} {rs : List ARow} (h : AQ lo w a rs) : ∀ k, blksA a rs k → lo ≤ k ∧ k < w.heap.size := fun k hk => by
  obtain ⟨M, o, rfl, hb⟩ := hk
  rcases h with ⟨e, _⟩ | ⟨M', o', e, h⟩
  · cases e
  · cases e; exact ⟨aoblks_low h k hb, aoblks_high h k hb⟩
theorem aq_only {S : Nat → Prop} {lo : Nat} {w w' : World} {a : Option Addr} {rs : List ARow} (h : AQ lo w a rs) (ho : Only S w w') (hn : ∀ k, blksA a rs k → ¬ S k) : AQ lo w' a rs := by
  rcases h with h | ⟨M, o, rfl, h⟩
  · exact .inl h
  · exact .inr ⟨M, o, rfl, ao_only h ho fun k hk => hn k ⟨M, o, rfl, hk⟩⟩
/-- labels of one's own, or none -/
def YQ (lo : Nat) (w : World) (a : Option Addr) (x : PAl) : Prop := (a = none ∧ x.l = []) ∨ ∃ g c, a = some ⟨g, 0, none⟩ ∧ OwnA lo w (g, c, x)
def blkY (a : Option Addr) (k : Nat) : Prop := a = some ⟨k, 0, none⟩
theorem YQ.grow {lo : Nat} {w w' : World} {a : Option Addr} {x : PAl} (h : YQ lo w a x) (hb : Below w.heap.size w w') : YQ lo w' a x := h.imp id fun ⟨g, c, e, k⟩ => ⟨g, c, e, k.grow hb⟩
theorem YQ.down {lo lo' : Nat} {w : World} {a : Option Addr} {x : PAl} (h : YQ lo w a x) (hl : lo' ≤ lo) : YQ lo' w a x := h.imp id fun ⟨g, c, e, k⟩ => ⟨g, c, e, k.down hl⟩
theorem YQ.rd {lo : Nat} {w : World} {a : Option Addr} {x : PAl} (h : YQ lo w a x) : Reads w a x.l := by
  rcases h with ⟨rfl, h⟩ | ⟨g, c, rfl, h⟩
  · exact .inl h
  · exact h.reads
theorem YQ.rng {lo : Nat} {w : World} {a : Option Addr} {x : PAl} (h : YQ lo w a x) : ∀ k, blkY a k → lo ≤ k ∧ k < w.heap.size := fun k hk => by
  unfold blkY at hk
  subst hk
  rcases h with ⟨e, _⟩ | ⟨g, c, e, h⟩
  · cases e
  · cases e; exact ⟨h.1, h.lt⟩
theorem own_only {S : Nat → Prop} {lo : Nat} {w w' : World} {x : ARow} (h : OwnA lo w x) (ho : Only S w w') (hn : ¬ S x.1) : OwnA lo w' x := by
  obtain ⟨h0, h1, ds, h2, h3⟩ := h
  exact ⟨h0, h1, ds, ho.blk h2 hn, h3⟩
theorem yq_only {S : Nat → Prop} {lo : Nat} {w w' : World} {a : Option Addr} {x : PAl} (h : YQ lo w a x) (ho : Only S w w') (hn : ∀ k, blkY a k → ¬ S k) : YQ lo w' a x := by
  rcases h with h | ⟨g, c, rfl, h⟩
  · exact .inl h
  · exact .inr ⟨g, c, rfl, own_only h ho (hn g rfl)⟩

theorem markL0_any (a : Option Addr) (cap k : Nat) (w : World) : Calls Try.prog 32 #[.slice a 0 cap, .int .i64 (k : Int)] w fun e w' => e = .returned (.int .i64 (k : Int)) ∧ w' = w := by
  go_enter Try.func32, Try.ntmps32
  go_wp2
  go_loopw [1, 5] (fun x i w' => x = .int .i64 (k : Int) ∧ i = .int .i64 0 ∧ w' = w) (fun _ _ _ => 0)
  case atStart => exact ⟨rfl, rfl, rfl⟩
  case round =>
    obtain ⟨rfl, rfl, rfl⟩ := hrel
    go_wp2
    go_ret
    exact ⟨rfl, rfl⟩
theorem heldL0_any (a : Option Addr) (cap k : Nat) (w : World) : Calls Try.prog 39 #[.slice a 0 cap, .int .i64 (k : Int)] w fun e w' => e = .returned (.int .i64 (k : Int)) ∧ w' = w := by
  go_enter Try.func39, Try.ntmps39
  go_wp2
  go_loopw [1, 5] (fun x i w' => x = .int .i64 (k : Int) ∧ i = .int .i64 0 ∧ w' = w) (fun _ _ _ => 0)
  case atStart => exact ⟨rfl, rfl, rfl⟩
  case round =>
    obtain ⟨rfl, rfl, rfl⟩ := hrel
    go_wp2
    go_ret
    exact ⟨rfl, rfl⟩
theorem markA0_any (a : Option Addr) (cap k : Nat) (w : World) : Calls Try.prog 24 #[.slice a 0 cap, .int .i64 (k : Int)] w fun e w' => e = .returned (.int .i64 (k : Int)) ∧ w' = w := by
  go_enter Try.func24, Try.ntmps24
  go_wp2
  go_loopw [1, 5] (fun x i w' => x = .int .i64 (k : Int) ∧ i = .int .i64 0 ∧ w' = w) (fun _ _ _ => 0)
  case atStart => exact ⟨rfl, rfl, rfl⟩
  case round =>
    obtain ⟨rfl, rfl, rfl⟩ := hrel
    go_wp2
    go_ret
    exact ⟨rfl, rfl⟩
theorem heldA0_any (a : Option Addr) (cap k : Nat) (w : World) : Calls Try.prog 26 #[.slice a 0 cap, .int .i64 (k : Int)] w fun e w' => e = .returned (.int .i64 (k : Int)) ∧ w' = w := by
  go_enter Try.func26, Try.ntmps26
  go_wp2
  go_loopw [1, 5] (fun x i w' => x = .int .i64 (k : Int) ∧ i = .int .i64 0 ∧ w' = w) (fun _ _ _ => 0)
  case atStart => exact ⟨rfl, rfl, rfl⟩
  case round =>
    obtain ⟨rfl, rfl, rfl⟩ := hrel
    go_wp2
    go_ret
    exact ⟨rfl, rfl⟩
theorem markS0_any (a : Option Addr) (cap k : Nat) (g : Bool) (w : World) : Calls Try.prog 25 #[.agg #[.slice a 0 cap, .bool g], .int .i64 (k : Int)] w fun e w' => e = .returned (.int .i64 (k : Int)) ∧ Below w.heap.size w w' := by
  have hq : ¬ (k : Int) < 0 := by omega
  go_enter Try.func25, Try.ntmps25
  go_wp2_with fail
  refine (markA0_any a cap k _).mono ?_
  rintro r w1 ⟨rfl, rfl⟩
  go_wp2
  go_ret
  exact ⟨rfl, Go.Joins.below_alloc1 w _⟩
theorem markX0_any (a : Option Addr) (cap k : Nat) (s e : Int) (t : ByteArray) (w : World) : Calls Try.prog 14 #[.agg #[.slice a 0 cap, .int .i64 s, .int .i64 e, .string t], .int .i64 (k : Int)] w fun e w' => e = .returned (.int .i64 (k : Int)) ∧ Below w.heap.size w w' := by
  have hq : ¬ (k : Int) < 0 := by omega
  go_enter Try.func14, Try.ntmps14
  go_wp2_with fail
  refine (markL0_any a cap k _).mono ?_
  rintro r w1 ⟨rfl, rfl⟩
  go_wp2
  go_ret
  exact ⟨rfl, Go.Joins.below_alloc1 w _⟩
/-- a row that is marked, or none -/
def MQ (w : World) (a : Option Addr) (rs : List ARow) (k : Nat) : Prop := rs = [] ∨ ∃ M o, a = some ⟨M, o, none⟩ ∧ MO w M o rs k rs.length
theorem MQ.only {S : Nat → Prop} {w w' : World} {a : Option Addr} {rs : List ARow} {k : Nat} (h : MQ w a rs k) (ho : Only S w w') (hn : ∀ k, blksA a rs k → ¬ S k) : MQ w' a rs k := by
  rcases h with h | ⟨M, o, rfl, h⟩
  · exact .inl h
  · exact .inr ⟨M, o, rfl, h.only ho fun k hk => hn k ⟨M, o, rfl, hk⟩⟩
theorem MQ.grow {w w' : World} {a : Option Addr} {rs : List ARow} {k : Nat} (h : MQ w a rs k) (hb : Below w.heap.size w w') : MQ w' a rs k := h.imp id fun ⟨M, o, e, k⟩ => ⟨M, o, e, k.grow hb⟩
theorem markQ_any (g : Bool) (a : Option Addr) (k lo cap : Nat) (rs : List ARow) (w : World) (h : AQ lo w a rs) (hl : rs.length ≤ 2000000) (hk : 1 ≤ k) (hk2 : k + sumA rs ≤ 9000000) :
    Calls Try.prog 25 #[.agg #[.slice a rs.length cap, .bool g], .int .i64 k] w fun e w' => e = .returned (.int .i64 ((k + sumA rs : Nat) : Int)) ∧ MQ w' a rs k ∧ Only (blksA a rs) w w' := by
  rcases h with ⟨rfl, rfl⟩ | ⟨M, o, rfl, h⟩
  · exact (markS0_any none cap k g w).mono fun e w' ⟨he, hb⟩ => ⟨he, .inl rfl, Only.of hb⟩
  · exact (Sub.mark_any g M o k lo cap rs w h hl hk hk2).mono fun e w' ⟨he, hm, ho⟩ => ⟨he, .inr ⟨M, o, rfl, hm⟩, Que.Only.imp ho fun k hk => ⟨M, o, rfl, hk⟩⟩
/-- labels that are marked, or none -/
def LQ (w : World) (a : Option Addr) (n k : Nat) : Prop := n = 0 ∨ ∃ g cs, a = some ⟨g, 0, none⟩ ∧ Blk w g cs 71 ∧ Marked cs k n
theorem LQ.only {S : Nat → Prop} {w w' : World} {a : Option Addr} {n k : Nat} (h : LQ w a n k) (ho : Only S w w') (hn : ∀ k, blkY a k → ¬ S k) : LQ w' a n k := by
  rcases h with h | ⟨g, cs, rfl, h1, h2⟩
  · exact .inl h
  · exact .inr ⟨g, cs, rfl, ho.blk h1 (hn g rfl), h2⟩
theorem LQ.grow {w w' : World} {a : Option Addr} {n k : Nat} (h : LQ w a n k) (hb : Below w.heap.size w w') : LQ w' a n k := h.imp id fun ⟨g, cs, e, h1, h2⟩ => ⟨g, cs, e, h1.grow hb, h2⟩
theorem markY_any (a : Option Addr) (k lo cap : Nat) (x : PAl) (w : World) (h : YQ lo w a x) (hl : x.l.length ≤ 1048576) (hk : 1 ≤ k) (hk2 : k ≤ 10000000) :
    Calls Try.prog 14 #[.agg #[.slice a x.l.length cap, .int .i64 x.s, .int .i64 x.e, .string x.n], .int .i64 k] w fun e w' => e = .returned (.int .i64 ((k + 2 * x.l.length : Nat) : Int)) ∧ LQ w' a x.l.length k ∧ Only (blkY a) w w' := by
  rcases h with ⟨rfl, h⟩ | ⟨g, c, rfl, h0, h1, ds, h2, h3, h4⟩
  · have e : x.l.length = 0 := by rw [h]; rfl
    rw [e]
    exact (markX0_any none cap k x.s x.e x.n w).mono fun e w' ⟨he, hb⟩ => ⟨he, .inl rfl, Only.of hb⟩
  · exact (AlmK.markA_any g x.l.length cap k x.s x.e x.n ds w h2 h3 hl hk hk2).mono fun e w' ⟨he, ⟨cs', hc, _, hm⟩, ha⟩ => ⟨he, .inr ⟨g, cs', rfl, hc, hm⟩, Only.apart ha rfl⟩
end Go.Proofs.Ytdmhccheaemkkab.Her
