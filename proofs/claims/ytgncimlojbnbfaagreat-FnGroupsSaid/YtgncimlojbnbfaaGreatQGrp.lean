/-
  PROVED: the contracts of what the exact laws call over a group and over a batch: the size that is counted, the copy that is made, that two of the same are found alike, the marks that are written and found; what one that came in is.
-/
import Derived.Test.YtgncimlojbnbfaaGreatQLsO
import Derived.Test.YtgncimlojbnbfaaGreatQLsS
import Derived.Test.YtgncimlojbnbfaaGreatQOpn
import Derived.Deep.DeepCutAuto
set_option linter.unusedVariables false
namespace Go.Proofs.YtgncimlojbnbfaaGreat.Grp
open Go.RowKit
open Go.ChangeShapes Go.WideShapes
open Labs LabS Alms AlmS AlmM Over Blk App Rws ChnI ChnC ChnK Chs
open StrB (retB)
open LabT (Held held_reads Fits)
open Go.Proofs.YtgncimlojbnbfaaGreat.Mark (Apart Marked)
def OwnL (lo : Nat) (w : World) (K : Nat) (key : List Lab) : Prop := lo ≤ K ∧ ∃ cs : Array Value, Blk w K cs 99 ∧ key.length * 2 ≤ cs.size ∧ Held cs key key.length
theorem OwnL.grow {lo : Nat} {w w' : World} {K : Nat} {key : List Lab} (h : OwnL lo w K key) (hb : Below w.heap.size w w') : OwnL lo w' K key := by
  obtain ⟨h0, cs, h1, h2⟩ := h
  exact ⟨h0, cs, h1.grow hb, h2⟩
theorem OwnL.down {lo lo' : Nat} {w : World} {K : Nat} {key : List Lab} (h : OwnL lo w K key) (hl : lo' ≤ lo) : OwnL lo' w K key := ⟨Nat.le_trans hl h.1, h.2⟩
theorem OwnL.lt {lo : Nat} {w : World} {K : Nat} {key : List Lab} (h : OwnL lo w K key) : K < w.heap.size := by obtain ⟨h0, cs, h1, h2⟩ := h; exact h1.lt
theorem OwnL.rd {lo : Nat} {w : World} {K : Nat} {key : List Lab} (h : OwnL lo w K key) : Reads w (some ⟨K, 0, none⟩) key := by obtain ⟨h0, cs, h1, h2, h3⟩ := h; exact held_reads h1 h3
theorem OwnL.set {lo : Nat} {w : World} {K : Nat} {key : List Lab} (h : OwnL lo w K key) {R : Nat} (hR : R ≠ K) (i : Nat) (v : Value) : OwnL lo (w.setCell ⟨R, i, none⟩ v) K key := by
  obtain ⟨h0, cs, h1, h2⟩ := h
  exact ⟨h0, cs, h1.set_other hR _, h2⟩
theorem OwnL.only {S : Nat → Prop} {lo : Nat} {w w' : World} {K : Nat} {key : List Lab} (h : OwnL lo w K key) (ho : Only S w w') (hn : ¬ S K) : OwnL lo w' K key := by
  obtain ⟨h0, cs, h1, h2⟩ := h
  exact ⟨h0, cs, ho.blk h1 hn, h2⟩
def gblks (K M : Nat) (rs : List ARow) (k : Nat) : Prop := k = K ∨ blks M rs k
structure GB (lo : Nat) (w : World) (K : Nat) (key : List Lab) (M o : Nat) (rs : List ARow) : Prop where
  key : OwnL lo w K key
  row : AO lo w M o rs
  ne : ¬ blks M rs K
theorem GB.grow {lo : Nat} {w w' : World} {K M o : Nat} {key : List Lab} {rs : List ARow} (h : GB lo w K key M o rs) (hb : Below w.heap.size w w') : GB lo w' K key M o rs := ⟨h.key.grow hb, h.row.grow hb, h.ne⟩
theorem GB.down {lo lo' : Nat} {w : World} {K M o : Nat} {key : List Lab} {rs : List ARow} (h : GB lo w K key M o rs) (hl : lo' ≤ lo) : GB lo' w K key M o rs := ⟨h.key.down hl, h.row.down hl, h.ne⟩
theorem GB.only {S : Nat → Prop} {lo : Nat} {w w' : World} {K M o : Nat} {key : List Lab} {rs : List ARow} (h : GB lo w K key M o rs) (ho : Only S w w') (hn : ∀ k, gblks K M rs k → ¬ S k) : GB lo w' K key M o rs := ⟨h.key.only ho (hn K (.inl rfl)), ao_only h.row ho fun k hk => hn k (.inr hk), h.ne⟩
theorem GB.rng {lo : Nat} {w : World} {K M o : Nat} {key : List Lab} {rs : List ARow} (h : GB lo w K key M o rs) : ∀ k, gblks K M rs k → lo ≤ k ∧ k < w.heap.size := fun k hk => by
  rcases hk with rfl | hk
  · exact ⟨h.key.1, h.key.lt⟩
  · exact ⟨aoblks_low h.row k hk, aoblks_high h.row k hk⟩
end Go.Proofs.YtgncimlojbnbfaaGreat.Grp
