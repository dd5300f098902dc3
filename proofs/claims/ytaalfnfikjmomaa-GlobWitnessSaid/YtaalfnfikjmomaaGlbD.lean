/- Rows of elements in memory; one step of the document's reading of a pattern (glob). No function of the program is named. -/
import Derived.Test.YtaalfnfikjmomaaGlbC
namespace Go.Proofs.Ytaalfnfikjmomaa
open Go.RowKit Go.Lib

/-- The cells of a row of elements: each element's kind, and its items wherever they lie in blocks of S. -/
def RowE (S : Nat → Prop) (w : World) (acc : List GE) (xs : List Value) : Prop :=
  ∀ k (h : k < acc.length), ∃ (iv : Option Addr) (ic : Nat), xs[2 * k]? = some (.int .i64 (acc[k].kind : Nat)) ∧ xs[2 * k + 1]? = some (.slice iv acc[k].items.length ic) ∧ acc[k].kind ≤ 5 ∧ ReadsI S w iv acc[k].items
/-- A slice of elements reads as a list. -/
def ReadsE (w : World) (v : Option Addr) (l : List GE) : Prop :=
  ∀ k (h : k < l.length), ∃ (b : Nat) (iv : Option Addr) (ic : Nat), v = some ⟨b, 0, none⟩ ∧ b < w.heap.size ∧ w.cell? ⟨b, 2 * k, none⟩ = some (.int .i64 (l[k].kind : Nat)) ∧ w.cell? ⟨b, 2 * k + 1, none⟩ = some (.slice iv l[k].items.length ic) ∧ l[k].kind ≤ 5 ∧ ReadsI (fun _ => True) w iv l[k].items
theorem ReadsE.below {w w' : World} {v : Option Addr} {l : List GE} (h : ReadsE w v l) (hb : Below w.heap.size w w') : ReadsE w' v l := by
  intro k hk
  obtain ⟨b, iv, ic, e, hlt, h1, h2, h3, h4⟩ := h k hk
  exact ⟨b, iv, ic, e, Nat.lt_of_lt_of_le hlt hb.size, (hb.cell (p := ⟨b, 2 * k, none⟩) hlt).trans h1, (hb.cell (p := ⟨b, 2 * k + 1, none⟩) hlt).trans h2, h3, h4.below hb⟩
theorem RowE.nil (S : Nat → Prop) (w : World) : RowE S w [] [] := fun k hk => by simp at hk
theorem RowE.move {S S' : Nat → Prop} {w w' : World} {acc : List GE} {xs : List Value} (h : RowE S w acc xs) (hz : w.heap.size ≤ w'.heap.size)
    (hb : ∀ b, b < w.heap.size → S b → S' b ∧ w'.heap[b]? = w.heap[b]?) : RowE S' w' acc xs := by
  intro k hk
  obtain ⟨iv, ic, h1, h2, h3, h4⟩ := h k hk
  exact ⟨iv, ic, h1, h2, h3, h4.move hz hb⟩
theorem RowE.snoc {S : Nat → Prop} {w : World} {acc : List GE} {xs : List Value} {x : GE} {iv : Option Addr} {ic : Nat} (h : RowE S w acc xs) (hl : xs.length = acc.length * 2) (hk : x.kind ≤ 5) (hr : ReadsI S w iv x.items) :
    RowE S w (acc ++ [x]) (xs ++ [.int .i64 (x.kind : Nat), .slice iv x.items.length ic]) := by
  intro k hk2
  rw [List.length_append, List.length_singleton] at hk2
  by_cases hlt : k < acc.length
  · obtain ⟨jv, jc, h1, h2, h3, h4⟩ := h k hlt
    rw [List.getElem_append_left hlt]
    exact ⟨jv, jc, by rw [List.getElem?_append_left (by omega)]; exact h1, by rw [List.getElem?_append_left (by omega)]; exact h2, h3, h4⟩
  · obtain rfl : k = acc.length := by omega
    rw [List.getElem_concat_length rfl]
    refine ⟨iv, ic, ?_, ?_, hk, hr⟩
    · rw [List.getElem?_append_right (by omega), show 2 * acc.length - xs.length = 0 by omega]; rfl
    · rw [List.getElem?_append_right (by omega), show 2 * acc.length + 1 - xs.length = 1 by omega]; rfl
theorem own_readsE {w : World} {B n : Nat} {v : Value} {l : List GE} {xs : List Value} {S : Nat → Prop} (h : w.ownsRow B 53 2 v n xs) (hn : n = l.length) (hr : RowE S w l xs) :
    ∃ a c, v = .slice a l.length c ∧ l.length ≤ c ∧ c ≤ maxLen ∧ ReadsE w a l := by
  rcases h.2 with ⟨rfl, h0⟩ | ⟨g, cap, cur, rfl, hB, hg, hnc, hcm, _⟩
  · have hl : l = [] := List.eq_nil_of_length_eq_zero (by omega)
    subst hl
    exact ⟨none, 0, rfl, by simp, by simp, fun k hk => by simp at hk⟩
  · subst hn
    refine ⟨some ⟨g, 0, none⟩, cap, rfl, hnc, hcm, ?_⟩
    intro k hk
    have hlt := (Array.getElem?_eq_some_iff.1 hg).1
    obtain ⟨iv, ic, h1, h2, h3, h4⟩ := hr k hk
    have hc := fun j u hj => h.cells (g := g) rfl j u hj
    refine ⟨g, iv, ic, rfl, hlt, ?_, ?_, h3, h4.move (Nat.le_refl _) (fun b _ _ => ⟨trivial, rfl⟩)⟩
    · have := hc _ _ h1
      rwa [addr_add0] at this
    · have := hc _ _ h2
      rwa [addr_add0] at this
theorem info53 : (Try.prog.info? 53).map (fun i => (i.zero, i.size, i.bytes)) = some (some (.agg #[.int .i64 0, .slice none 0 0]), 2, 32) := by kernel_rfl

/-- What holds at each round's head: the elements up to index a. -/
def ERel (s : ByteArray) (w : World) (a : Nat) (acc : List GE) (xs : List Value) (sv : Value) (wr : World) : Prop :=
  a ≤ s.size ∧ acc.length ≤ a ∧ wr.ownsRow w.heap.size 53 2 sv acc.length xs ∧ RowE (fun b => w.heap.size ≤ b ∧ sv.ownBlock ≠ some b) wr acc xs ∧ Below w.heap.size w wr ∧
    elemsL s.data.toList = (elemsL (s.data.toList.drop a)).map (acc ++ ·)
theorem ERel.step {s : ByteArray} {w wr wx w5 w6 : World} {a n : Nat} {acc : List GE} {xs : List Value} {sv v6 : Value} {x : GE} {iv : Option Addr} {ic : Nat}
    (h : ERel s w a acc xs sv wr) (hbx : Below wr.heap.size wr wx) (hk : x.kind ≤ 5) (hri : ReadsI (fun b => wr.heap.size ≤ b) wx iv x.items) (han : a < n) (hns : n ≤ s.size)
    (he : elemL (s.data.toList.drop a) = some (x, s.data.toList.drop n)) (hw5 : w5 = wx.alloc (.cells #[.int .i64 (x.kind : Nat), .slice iv x.items.length ic] 53))
    (ho : w6.ownsRow w.heap.size 53 2 v6 (acc.length + 1) (xs ++ [.int .i64 (x.kind : Nat), .slice iv x.items.length ic])) (hg : w5.grownBy w6 sv.ownBlock)
    (hat : v6.ownBlock = sv.ownBlock ∨ v6.ownBlock = some w5.heap.size) :
    ERel s w n (acc ++ [x]) (xs ++ [.int .i64 (x.kind : Nat), .slice iv x.items.length ic]) v6 w6 := by
  obtain ⟨h1, h2, h3, h4, h5, h6⟩ := h
  have hsv := fun k e => h3.lt k e
  have z1 := hbx.size
  have z2 : w5.heap.size = wx.heap.size + 1 := by rw [hw5]; simp
  have z3 := hg.size
  have z4 := h5.size
  have b5 : ∀ b, b < wx.heap.size → w5.heap[b]? = wx.heap[b]? := fun b hb => by rw [hw5, Below.heap_alloc _ _ _ hb]
  refine ⟨hns, by rw [List.length_append, List.length_singleton]; omega, by rw [List.length_append, List.length_singleton]; exact ho, ?_, ?_, ?_⟩
  · refine RowE.snoc ?_ h3.1 hk ?_
    · refine h4.move (by omega) (fun b hb hS => ⟨⟨hS.1, ?_⟩, ?_⟩)
      · rcases hat with e | e
        · rw [e]; exact hS.2
        · rw [e]; intro e2; injection e2 with e3; omega
      · rw [hg.block b (by omega) (fun e => hS.2 e.symm), b5 b (by omega), hbx.block b hb]
    · refine hri.move (by omega) (fun b hb hS => ⟨⟨by omega, ?_⟩, ?_⟩)
      · rcases hat with e | e
        · rw [e]; intro e2; have := (hsv b e2).2; omega
        · rw [e]; intro e2; injection e2 with e3; omega
      · rw [hg.block b (by omega) (fun e => by have := (hsv b e.symm).2; omega), b5 b hb]
  · refine ⟨?_, ?_, ?_, by omega, ?_⟩
    · rw [hg.os, hw5]; exact hbx.os.trans h5.os
    · rw [hg.tape, hw5]; exact hbx.tape.trans h5.tape
    · rw [hg.output, hw5]; exact hbx.output.trans h5.output
    · intro k hk
      rw [hg.block k (by omega) (fun e => by have := (hsv k e.symm).1; omega), b5 k (by omega), hbx.block k (by omega)]
      exact h5.block k hk
  · rw [h6, elemsL_some (by intro e; rw [e] at he; cases he) he, Option.map_map]
    congr 1
    funext q
    simp
theorem ERel.bad {s : ByteArray} {w wr : World} {a : Nat} {acc : List GE} {xs : List Value} {sv : Value} (h : ERel s w a acc xs sv wr) (hlt : a < s.size) (he : elemL (s.data.toList.drop a) = none) : elemsL s.data.toList = none := by
  rw [h.2.2.2.2.2, elemsL_none (by rw [drop_cons s a hlt]; simp) he]
  rfl
theorem ERel.done {s : ByteArray} {w wr : World} {acc : List GE} {xs : List Value} {sv : Value} (h : ERel s w s.size acc xs sv wr) : elemsL s.data.toList = some acc := by
  rw [h.2.2.2.2.2, List.drop_eq_nil_of_le (by rw [lenB]; exact Nat.le_refl _), elemsL_nil]
  simp

/-- What the switch of the document's Elems leaves: the element at index a, or none. -/
def SwRel (s : ByteArray) (a E : Nat) (wr : World) (s7 s8 : Value) (wx : World) : Prop :=
  ∃ (k : Nat) (iv : Option Addr) (len ic n : Nat) (ok : Bool), s7 = .int .i64 (n : Int) ∧ s8 = .bool ok ∧ TwoAt wx E 53 (.int .i64 (k : Int)) (.slice iv len ic) ∧ Below wr.heap.size wr wx ∧
    (ok = true → ∃ x : GE, x.kind = k ∧ k ≤ 5 ∧ x.items.length = len ∧ ReadsI (fun b => wr.heap.size ≤ b) wx iv x.items ∧ a < n ∧ n ≤ s.size ∧ elemL (s.data.toList.drop a) = some (x, s.data.toList.drop n)) ∧
    (ok = false → elemL (s.data.toList.drop a) = none)
theorem one_reads {w : World} {S : Nat → Prop} {I : Nat} {t : TypeId} {c d : UInt8} (h : TwoAt w I t (.int .u8 c.toNat) (.int .u8 d.toNat)) (hS : S I) : ReadsI S w (some ⟨I, 0, none⟩) [(c, d)] := by
  intro k hk
  simp at hk
  subst hk
  exact ⟨I, rfl, hS, h.lt, h.cell0, h.cell1⟩
end Go.Proofs.Ytaalfnfikjmomaa
