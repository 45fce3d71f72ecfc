/-
  PROVED: over a slice of labels in memory impl.SetText answers the text of the set, nothing where it is no set, by the library's contract of strings.Join; nothing that was there is changed.
-/
import Derived.Test.YtooninmicfcfoaaGreatQTextS
import Derived.Test.YtooninmicfcfoaaGreatQBlk
import Derived.Test.YtooninmicfcfoaaGreatQShelf
import Derived.Lib.Walk
set_option linter.unusedVariables false
namespace Go.Proofs.YtooninmicfcfoaaGreat.TextI
open Go.Shelf Go.RowKit
open Labs LabS LabO SetP TextS
open Over Blk

theorem hidL {p : Prop} (h : p) : Hid p := h
theorem grow1 {w z : World} (h : Below w.heap.size w z) (o : Obj) : Below w.heap.size w (z.alloc o) := h.alloc h.size o
theorem grow2 {w z : World} (h : Below w.heap.size w z) (o p : Obj) : Below w.heap.size w ((z.alloc o).alloc p) := grow1 (grow1 h o) p
theorem join_flat (xs : List (List UInt8)) : Lib.join xs [] = xs.flatten := by
  unfold Lib.join
  induction xs with
  | nil => rfl
  | cons x xs ih =>
    cases xs with
    | nil => simp
    | cons y ys => simp [List.intercalate] at ih ⊢; exact ih
theorem put3_any (bk : Nat) (a b c : ByteArray) (w : World) (hsz : a.size + b.size + c.size ≤ 1000) (h0 : w.cell? ⟨bk, 0, none⟩ = some (.string a)) (h1 : w.cell? ⟨bk, 1, none⟩ = some (.string b)) (h2 : w.cell? ⟨bk, 2, none⟩ = some (.string c)) (hbk : bk < w.heap.size) :
    Calls Tryz.prog 159 #[.slice (some ⟨bk, 0, none⟩) 3 3] w fun e w' => e = .returned (.string (mk (bs a ++ (bs b ++ bs c)))) ∧ Below w.heap.size w w' := by
  have e3 : (⟨(Lib.join ([a, b, c].map (·.data.toList)) (⟨#[]⟩ : ByteArray).data.toList).toArray⟩ : ByteArray) = mk (bs a ++ (bs b ++ bs c)) := by
    show mk (Lib.join _ []) = _
    rw [join_flat]; simp [bs]
  have HJ := hidL (Tryz.strings_Join bk 0 3 [a, b, c] ⟨#[]⟩ w (fun j x hx => by
    match j, hx with
    | 0, hx => simp at hx; subst hx; simpa using h0
    | 1, hx => simp at hx; subst hx; simpa using h1
    | 2, hx => simp at hx; subst hx; simpa using h2
    | (j + 3), hx => simp at hx) hbk (by simp) (by simp) (by
      have : (Lib.join ([a, b, c].map (·.data.toList)) (⟨#[]⟩ : ByteArray).data.toList).length = a.size + (b.size + c.size) := by
        show (Lib.join _ []).length = _
        rw [join_flat]; simp
      omega))
  rw [e3] at HJ
  clear h0 h1 h2 e3
  go_enter Tryz.func159, Tryz.ntmps159
  go_wp2_with fail
  refine HJ.out.mono ?_
  rintro e w1 ⟨rfl, hb⟩
  have HB : Hid (Below w.heap.size w w1) := hb
  clear hb
  go_wp2
  go_ret
  exact ⟨rfl, HB.out⟩
theorem put4_any (bk : Nat) (a b c d : ByteArray) (w : World) (hsz : a.size + b.size + c.size + d.size ≤ 1000) (h0 : w.cell? ⟨bk, 0, none⟩ = some (.string a)) (h1 : w.cell? ⟨bk, 1, none⟩ = some (.string b)) (h2 : w.cell? ⟨bk, 2, none⟩ = some (.string c)) (h3 : w.cell? ⟨bk, 3, none⟩ = some (.string d)) (hbk : bk < w.heap.size) :
    Calls Tryz.prog 159 #[.slice (some ⟨bk, 0, none⟩) 4 4] w fun e w' => e = .returned (.string (mk (bs a ++ (bs b ++ (bs c ++ bs d))))) ∧ Below w.heap.size w w' := by
  have e3 : (⟨(Lib.join ([a, b, c, d].map (·.data.toList)) (⟨#[]⟩ : ByteArray).data.toList).toArray⟩ : ByteArray) = mk (bs a ++ (bs b ++ (bs c ++ bs d))) := by
    show mk (Lib.join _ []) = _
    rw [join_flat]; simp [bs]
  have HJ := hidL (Tryz.strings_Join bk 0 4 [a, b, c, d] ⟨#[]⟩ w (fun j x hx => by
    match j, hx with
    | 0, hx => simp at hx; subst hx; simpa using h0
    | 1, hx => simp at hx; subst hx; simpa using h1
    | 2, hx => simp at hx; subst hx; simpa using h2
    | 3, hx => simp at hx; subst hx; simpa using h3
    | (j + 4), hx => simp at hx) hbk (by simp) (by simp) (by
      have : (Lib.join ([a, b, c, d].map (·.data.toList)) (⟨#[]⟩ : ByteArray).data.toList).length = a.size + (b.size + (c.size + d.size)) := by
        show (Lib.join _ []).length = _
        rw [join_flat]; simp
      omega))
  rw [e3] at HJ
  clear h0 h1 h2 h3 e3
  go_enter Tryz.func159, Tryz.ntmps159
  go_wp2_with fail
  refine HJ.out.mono ?_
  rintro e w1 ⟨rfl, hb⟩
  have HB : Hid (Below w.heap.size w w1) := hb
  clear hb
  go_wp2
  go_ret
  exact ⟨rfl, HB.out⟩

theorem infoStr : (Tryz.prog.info? 9).map (fun i => (i.zero, i.size, i.bytes)) = some (some (.string ByteArray.empty), 1, 16) := by kernel_rfl
def HeldW (cs : Array Value) (l : List Lab) (k : Nat) : Prop := ∀ j, j < k → cs[j]? = some (.string (mk (word (nth l j))))
theorem heldW_up {cs : Array Value} {l : List Lab} {k : Nat} (h : HeldW cs l k) (hs : k < cs.size) : HeldW (cs.setIfInBounds k (.string (mk (word (nth l k))))) l (k + 1) := by
  intro j hj
  by_cases e : j = k
  · subst e; rw [Array.getElem?_setIfInBounds, if_pos rfl, if_pos hs]
  · rw [Array.getElem?_setIfInBounds_ne (by omega)]; exact h j (by omega)
theorem joined (l : List Lab) : (⟨(Lib.join ((l.map fun x => mk (word x)).map (·.data.toList)) (⟨#[44, 32]⟩ : ByteArray).data.toList).toArray⟩ : ByteArray) = mk (words l) := by
  have e : (l.map fun x => mk (word x)).map (·.data.toList) = l.map word := by
    rw [List.map_map]
    exact List.map_congr_left fun x _ => bs_mk (word x)
  show mk (Lib.join _ [44, 32]) = _
  rw [e, join_words]
theorem joinW_any (M : Nat) (cs : Array Value) (l : List Lab) (w : World) (hB : Blk w M cs 9) (hh : HeldW cs l l.length) (hs : setB l = true) :
    Calls Tryz.prog 160 #[.slice (some ⟨M, 0, none⟩) l.length l.length, .string ⟨#[44, 32]⟩] w fun e w' => e = .returned (.string (mk (words l))) ∧ Below w.heap.size w w' := by
  have h1 := set_len hs
  have hj := joined l
  have h := Tryz.strings_Join M 0 l.length (l.map fun x => mk (word x)) ⟨#[44, 32]⟩ w (fun j x hx => by
    rw [List.getElem?_map, Option.map_eq_some_iff] at hx
    obtain ⟨y, hy, rfl⟩ := hx
    obtain ⟨hlt, rfl⟩ := List.getElem?_eq_some_iff.1 hy
    rw [Nat.zero_add, hB.cell, hh j hlt, nth_eq hlt]) hB.lt (by simp; omega) (by simp) (by
      have e : (Lib.join ((l.map fun x => mk (word x)).map (·.data.toList)) (⟨#[44, 32]⟩ : ByteArray).data.toList).length = (words l).length := by
        have := congrArg ByteArray.size hj
        rw [size_mk] at this
        rw [← this]; exact (size_mk _).symm
      rw [e]
      have := words_len hs
      omega)
  rw [hj, List.length_map] at h
  exact h

theorem put_word (x : Lab) : mk (bs x.1 ++ (bs ⟨#[61, 34]⟩ ++ (bs x.2 ++ bs ⟨#[34]⟩))) = mk (word x) := rfl
theorem put_text (l : List Lab) : mk (bs ⟨#[123]⟩ ++ (bs (mk (words l)) ++ bs ⟨#[125]⟩)) = mk (textB l) := by rw [bs_mk]; rfl

set_option maxHeartbeats 800000 in
theorem implText_any (a : Option Addr) (cap : Nat) (l : List Lab) (w : World) (hr : Reads w a l) (hl : l.length ≤ maxLen) (hz : Fits l) :
    Calls Tryz.prog 121 #[.slice a l.length cap] w fun e w' => e = .returned (.string (setText l)) ∧ Below w.heap.size w w' := by
  have HC : Hid (Calls Tryz.prog 158 #[.slice a l.length cap] w fun e w' => e = .returned (.bool (setB l)) ∧ Below w.heap.size w w') := implSet_any a cap l w hr hl hz
  unfold maxLen at hl
  have HR : Hid (Reads w a l) := hr
  clear hr hz
  cases hs : setB l with
  | false =>
    have HN : Hid (setText l = ⟨#[]⟩) := text_no hs
    rw [hs] at HC
    clear hs
    go_enter Tryz.func121, Tryz.ntmps121
    go_wp2_with fail
    refine HC.out.mono ?_
    rintro e w1 ⟨rfl, hb⟩
    have HB : Hid (Below w.heap.size w w1) := hb
    clear hb
    go_wp2
    go_ret
    exact ⟨retS HN.out.symm, HB.out⟩
  | true =>
    have HN : Hid (setText l = mk (textB l)) := text_yes hs
    have HS : Hid (setB l = true) := hs
    have hl4 := set_len hs
    rw [hs] at HC
    clear hs
    have hmk := make_k (P := Tryz.prog) 163 9 (.string ByteArray.empty) 1 16 Tryz.underlying163 infoStr .i64 .i64 l.length (by omega) (by omega)
    go_enter Tryz.func121, Tryz.ntmps121
    go_wp2_with fail
    refine HC.out.mono ?_
    rintro e w1 ⟨rfl, hb⟩
    have HB1 : Hid (Below w.heap.size w w1) := hb
    clear hb
    go_wp2
    generalize hM : w1.heap.size = M
    have HM : Hid (w.heap.size ≤ M) := by show _ ≤ _; rw [← hM]; exact HB1.out.size
    go_loopw [14] (fun i w' => ∃ (k : Nat) (cs : Array Value), k ≤ l.length ∧ i = .int .i64 k ∧ Blk w' M cs 9 ∧ cs.size = l.length ∧ HeldW cs l k ∧ Below w.heap.size w w') (fun i _ => l.length - (intOf i).toNat)
    case atStart => exact ⟨0, _, Nat.zero_le _, rfl, Blk.new_at hM.symm, by simp [size_madeCells], fun j h => by omega, HB1.out.alloc HB1.out.size _⟩
    case round =>
      clear hmk
      obtain ⟨k, cs, hk, rfl, hB, hcs, hdone, hw0⟩ := hrel
      have HB : Hid (Below w.heap.size w wr) := hw0
      have HD : Hid (HeldW cs l k) := hdone
      have HCS : Hid (cs.size = l.length) := hcs
      have HK : Hid (Blk wr M cs 9) := hB
      clear hdone hcs hw0 hB hM HB1
      by_cases hlt : k < l.length
      · have hlt' : (k : Int) < (l.length : Int) := by omega
        obtain ⟨b, off, rfl, hb, hc⟩ := (HR.out.below HB.out).get hlt
        obtain ⟨h2, h3⟩ := hc k hlt
        have HZ : Hid ((nth l k).1.size ≤ 8 ∧ (nth l k).2.size ≤ 12) := nth_sizes HS.out hlt
        clear hc
        go_wp2_with fail
        refine (put4_any _ (nth l k).1 ⟨#[61, 34]⟩ (nth l k).2 ⟨#[34]⟩ _ ?hz ?c0 ?c1 ?c2 ?c3 ?hbk).mono ?_
        case hz => show _ + 2 + _ + 1 ≤ 1000; have := HZ.out; omega
        case c0 => exact Blk.cell (Blk.new_at (by simp)) 0
        case c1 => exact Blk.cell (Blk.new_at (by simp)) 1
        case c2 => exact Blk.cell (Blk.new_at (by simp)) 2
        case c3 => exact Blk.cell (Blk.new_at (by simp)) 3
        case hbk => simp
        rintro e w2 ⟨rfl, hb2⟩
        have HB2 : Hid (Below w.heap.size w w2) := grow_on (grow2 HB.out _ _) hb2
        have hK2 : Blk w2 M cs 9 := ((HK.out.alloc _).alloc _).grow hb2
        have HK2 : Hid (Blk w2 M cs 9) := hK2
        have hs2 : k < cs.size := by rw [HCS.out]; exact hlt
        have HS2 : Hid (k < cs.size) := hs2
        obtain ⟨v0, c0⟩ : ∃ v, w2.cell? ⟨M, k, none⟩ = some v := ⟨cs[k]'hs2, by rw [hK2.cell]; simp⟩
        have f0 := hK2.frozen k
        have HPW : Hid (mk (bs (nth l k).1 ++ (bs ⟨#[61, 34]⟩ ++ (bs (nth l k).2 ++ bs ⟨#[34]⟩))) = mk (word (nth l k))) := put_word _
        generalize mk (bs (nth l k).1 ++ (bs ⟨#[61, 34]⟩ ++ (bs (nth l k).2 ++ bs ⟨#[34]⟩))) = t at HPW ⊢
        clear hb2 h2 h3 hK2 hs2 hb
        go_wp2
        go_roundw
        case rel => exact ⟨k + 1, _, by omega, by go_num, HK2.out.set _ _, by simp [HCS.out], by rw [HPW.out]; exact heldW_up HD.out HS2.out, HB2.out.setCell HM.out _⟩
        case measure => simp [intOf]; omega
      · have hge : ¬ (k : Int) < (l.length : Int) := by omega
        obtain rfl : k = l.length := by omega
        go_wp2_with fail
        refine (joinW_any M cs l _ HK.out HD.out HS.out).mono ?_
        rintro e w2 ⟨rfl, hb2⟩
        have HB2 : Hid (Below w.heap.size w w2) := grow_on HB.out hb2
        have HZ : Hid ((mk (words l)).size ≤ 100) := by show _ ≤ _; rw [size_mk]; exact words_len HS.out
        have HPT : Hid (mk (bs ⟨#[123]⟩ ++ (bs (mk (words l)) ++ bs ⟨#[125]⟩)) = mk (textB l)) := put_text l
        generalize mk (words l) = t at HZ HPT ⊢
        clear hb2
        go_wp2_with fail
        refine (put3_any _ ⟨#[123]⟩ t ⟨#[125]⟩ _ ?hz ?c0 ?c1 ?c2 ?hbk).mono ?_
        case hz => show 1 + _ + 1 ≤ 1000; have := HZ.out; omega
        case c0 => exact Blk.cell (Blk.new_at (by simp)) 0
        case c1 => exact Blk.cell (Blk.new_at (by simp)) 1
        case c2 => exact Blk.cell (Blk.new_at (by simp)) 2
        case hbk => simp
        rintro e w3 ⟨rfl, hb3⟩
        have HB3 : Hid (Below w.heap.size w w3) := grow_on (grow1 HB2.out _) hb3
        clear hb3
        go_wp2
        go_ret
        exact ⟨retS (by rw [HN.out]; exact HPT.out), HB3.out⟩
end Go.Proofs.YtooninmicfcfoaaGreat.TextI
