/-
  PROVED: the marks that markAlarmS writes over a row of alarms that begins at a place of its block, and heldAlarmS finds.
-/
import Derived.Test.YtgncimlojbnbfabLsK
namespace Go.Proofs.Ytgncimlojbnbfab.ChnK
open Go.RowKit
open Go.Proofs.Ytgncimlojbnbfab.Labs Go.Proofs.Ytgncimlojbnbfab.LabS Go.Proofs.Ytgncimlojbnbfab.Alms Go.Proofs.Ytgncimlojbnbfab.AlmM Go.Proofs.Ytgncimlojbnbfab.Over Go.Proofs.Ytgncimlojbnbfab.Blk Go.Proofs.Ytgncimlojbnbfab.App Go.Proofs.Ytgncimlojbnbfab.Rws Go.Proofs.Ytgncimlojbnbfab.AlmS Go.Proofs.Ytgncimlojbnbfab.ChnI Go.Proofs.Ytgncimlojbnbfab.ChnC Go.Proofs.Ytgncimlojbnbfab.ChnP
open Go.Proofs.Ytgncimlojbnbfab.Mark (Apart Marked)
open Go.Proofs.Ytgncimlojbnbfab.StrB (retB)
open Go.Proofs.Ytgncimlojbnbfab.Alm (at_par)
open Go.Proofs.Ytgncimlojbnbfab.LabT (Held held_reads)
set_option linter.unusedVariables false

/-- the alarms rs lie from the cell o of the block M on -/
structure AO (lo : Nat) (w : World) (M o : Nat) (rs : List ARow) : Prop where
  at' : lo ≤ M
  outer : ∃ cur : Array Value, Blk w M cur 45 ∧ o + rs.length * 4 ≤ cur.size ∧ ∀ i, i < rs.length → Four (fun k => cur[o + k]?) i (nthA rs i)
  rows : ∀ x ∈ rs, OwnA lo w x
  ne : rs.Pairwise fun x y => x.1 ≠ y.1
theorem AO.grow {lo : Nat} {w w' : World} {M o : Nat} {rs : List ARow} (h : AO lo w M o rs) (hb : Below w.heap.size w w') : AO lo w' M o rs := by
  obtain ⟨cur, h1, h2⟩ := h.outer
  exact ⟨h.at', ⟨cur, h1.grow hb, h2⟩, fun x hx => (h.rows x hx).grow hb, h.ne⟩
theorem AO.down {lo lo' : Nat} {w : World} {M o : Nat} {rs : List ARow} (h : AO lo w M o rs) (hl : lo' ≤ lo) : AO lo' w M o rs :=
  ⟨Nat.le_trans hl h.at', h.outer, fun x hx => (h.rows x hx).down hl, h.ne⟩
theorem AO.lt {lo : Nat} {w : World} {M o : Nat} {rs : List ARow} (h : AO lo w M o rs) : M < w.heap.size := by
  obtain ⟨cur, h1, _⟩ := h.outer
  exact h1.lt
theorem AO.rd {lo : Nat} {w : World} {M o : Nat} {rs : List ARow} (h : AO lo w M o rs) : RdN w (some ⟨M, o, none⟩) (pals rs) := by
  obtain ⟨cur, h1, h2, h3⟩ := h.outer
  refine .inr ⟨M, o, rfl, h1.lt, fun i hi => ?_⟩
  rw [pals_len] at hi
  obtain ⟨c0, c1, c2, c3⟩ := h3 i hi
  refine ⟨(nthA rs i).1, 0, (nthA rs i).2.1, ?_⟩
  rw [pals_nth hi]
  exact ⟨by rw [h1.cell]; exact c0, by rw [h1.cell]; exact c1, by rw [h1.cell]; exact c2, by rw [h1.cell]; exact c3, (h.rows _ (nthA_mem hi)).reads⟩
theorem AB.ao {lo : Nat} {w : World} {M c : Nat} {rs : List ARow} (h : AB lo w M c rs) : AO lo w M 0 rs := by
  obtain ⟨cur, h1, h2, h3⟩ := h.outer
  have hc := h.cap
  exact ⟨h.at', ⟨cur, h1, by omega, fun i hi => (h3 i hi).congr fun k _ _ => by show cur[0 + k]? = cur[k]?; rw [Nat.zero_add]⟩, h.rows, h.ne⟩
/-- all but the first one; where none is left, it may begin anywhere in the row -/
theorem AB.tail {lo : Nat} {w : World} {M c o : Nat} {y : ARow} {rs : List ARow} (h : AB lo w M c (y :: rs)) (ho : o = 4 ∨ (rs = [] ∧ o = 0)) : AO lo w M o rs := by
  obtain ⟨cur, h1, h2, h3⟩ := h.outer
  have hc := h.cap
  simp only [List.length_cons] at hc
  refine ⟨h.at', ⟨cur, h1, by rcases ho with rfl | ⟨rfl, rfl⟩ <;> (try simp) <;> omega, fun i hi => ?_⟩, fun x hx => h.rows x (List.mem_cons_of_mem _ hx), (List.pairwise_cons.1 h.ne).2⟩
  rcases ho with rfl | ⟨rfl, rfl⟩
  · have h4 := h3 (i + 1) (by simp; omega)
    have e : nthA (y :: rs) (i + 1) = nthA rs i := by simp [nthA]
    rw [e] at h4
    obtain ⟨q0, q1, q2, q3⟩ := h4
    have ek : ∀ k, (i + 1) * 4 + k = 4 + (i * 4 + k) := fun k => by omega
    exact ⟨by rw [← q0]; show cur[4 + i * 4]? = cur[(i + 1) * 4]?; rw [show (i + 1) * 4 = 4 + i * 4 by omega], by rw [← q1]; show cur[4 + (i * 4 + 1)]? = cur[(i + 1) * 4 + 1]?; rw [ek], by rw [← q2]; show cur[4 + (i * 4 + 2)]? = cur[(i + 1) * 4 + 2]?; rw [ek], by rw [← q3]; show cur[4 + (i * 4 + 3)]? = cur[(i + 1) * 4 + 3]?; rw [ek]⟩
  · simp at hi
theorem ao_moved {lo : Nat} {w w' : World} {M o : Nat} {rs : List ARow} (h : AO lo w M o rs) (hm : Chs.Moved w w') : AO lo w' M o rs := by
  obtain ⟨cur, h1, h2⟩ := h.outer
  refine ⟨h.at', ⟨cur, hm.A h1, h2⟩, fun x hx => ?_, h.ne⟩
  obtain ⟨h0, h1, ds, h2, h3⟩ := h.rows x hx
  exact ⟨h0, h1, ds, hm.L h2, h3⟩
theorem ao_only {S : Nat → Prop} {lo : Nat} {w w' : World} {M o : Nat} {rs : List ARow} (h : AO lo w M o rs) (ho : Only S w w') (hn : ∀ k, blks M rs k → ¬ S k) : AO lo w' M o rs := by
  obtain ⟨cur, h1, h2⟩ := h.outer
  exact ⟨h.at', ⟨cur, ho.blk h1 (hn _ (.inl rfl)), h2⟩, fun x hx => by
    obtain ⟨k0, k1, ds, k2, k3⟩ := h.rows x hx
    exact ⟨k0, k1, ds, ho.blk k2 (hn _ (.inr ⟨x, hx, rfl⟩)), k3⟩, h.ne⟩
theorem aoblks_low {lo : Nat} {w : World} {M o : Nat} {rs : List ARow} (h : AO lo w M o rs) (k : Nat) (hk : blks M rs k) : lo ≤ k := by
  rcases hk with rfl | ⟨x, hx, rfl⟩
  · exact h.at'
  · exact (h.rows x hx).1
theorem aoblks_high {lo : Nat} {w : World} {M o : Nat} {rs : List ARow} (h : AO lo w M o rs) (k : Nat) (hk : blks M rs k) : k < w.heap.size := by
  rcases hk with rfl | ⟨x, hx, rfl⟩
  · exact h.lt
  · exact (h.rows x hx).lt
/-- what the i-th one's other cells hold when it is marked -/
def MarkO (o : Nat) (cur : Array Value) (i z : Nat) : Prop := cur[o + i * 4 + 1]? = some (.int .i64 (z : Int)) ∧ cur[o + i * 4 + 2]? = some (.int .i64 ((z + 1 : Nat) : Int)) ∧ cur[o + i * 4 + 3]? = some (.string (Mark.mt (z + 2)))
/-- the alarms while they are marked: the first j are -/
structure MO (w : World) (M o : Nat) (rs : List ARow) (k j : Nat) : Prop where
  outer : ∃ cur : Array Value, Blk w M cur 45 ∧ o + rs.length * 4 ≤ cur.size ∧ (∀ i, i < rs.length → cur[o + i * 4]? = some (.slice (some ⟨(nthA rs i).1, 0, none⟩) (nthA rs i).2.2.l.length (nthA rs i).2.1)) ∧ ∀ i, i < j → MarkO o cur i (k + sumA (rs.take i) + 2 * (nthA rs i).2.2.l.length)
  done : ∀ i, i < j → ∃ ds : Array Value, Blk w (nthA rs i).1 ds 47 ∧ Marked ds (k + sumA (rs.take i)) (nthA rs i).2.2.l.length
  todo : ∀ i, j ≤ i → i < rs.length → ∃ ds : Array Value, Blk w (nthA rs i).1 ds 47 ∧ (nthA rs i).2.2.l.length * 2 ≤ ds.size
theorem AO.mo {lo : Nat} {w : World} {M o : Nat} {rs : List ARow} (h : AO lo w M o rs) (k : Nat) : MO w M o rs k 0 := by
  obtain ⟨cur, h1, h2, h3⟩ := h.outer
  exact ⟨⟨cur, h1, h2, fun i hi => (h3 i hi).1, fun i hi => by omega⟩, fun i hi => by omega, fun i _ hi => by
    obtain ⟨_, _, ds, k2, k3, _⟩ := h.rows _ (nthA_mem hi)
    exact ⟨ds, k2, k3⟩⟩
theorem MO.only {S : Nat → Prop} {w w' : World} {M o : Nat} {rs : List ARow} {k : Nat} (h : MO w M o rs k rs.length) (ho : Only S w w') (hn : ∀ k, blks M rs k → ¬ S k) : MO w' M o rs k rs.length := by
  obtain ⟨cur, h1, h2⟩ := h.outer
  exact ⟨⟨cur, ho.blk h1 (hn _ (.inl rfl)), h2⟩, fun i hi => by
    obtain ⟨ds, h3, h4⟩ := h.done i hi
    exact ⟨ds, ho.blk h3 (hn _ (.inr ⟨_, nthA_mem hi, rfl⟩)), h4⟩, fun i hi hj => by omega⟩
theorem MO.grow {w w' : World} {M o : Nat} {rs : List ARow} {k : Nat} (h : MO w M o rs k rs.length) (hb : Below w.heap.size w w') : MO w' M o rs k rs.length := h.only (S := fun _ => False) (Only.of hb) (fun _ _ h => h)

end Go.Proofs.Ytgncimlojbnbfab.ChnK
