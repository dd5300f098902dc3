/- Rows of states while a range over their map sorts them (label). -/
import Derived.Test.YtglckcenjnieaaaGreatDoorLaQ
import Derived.Test.YtglckcenjnieaaaGreatDoorShelfS
import Derived.Sort.OwnSorted
import Derived.Maps.RangeWalk
namespace Go.Proofs.YtglckcenjnieaaaGreatDoor
open Go.RowKit Go.Lib Go.Maps Go.Sort

def srt (z : List Int) : List Int := z.mergeSort fun x y => decide (x ≤ y)
theorem srt_len (z : List Int) : (srt z).length = z.length := List.length_mergeSort z
theorem srt_pairwise (z : List Int) : (srt z).Pairwise (· ≤ ·) := by
  have h := List.pairwise_mergeSort (le := fun x y : Int => decide (x ≤ y)) (fun a b c h1 h2 => by simp at *; omega) (fun a b => by simp; omega) z
  exact h.imp (fun h => by simpa using h)
theorem srt_any (f : Int → Bool) (z : List Int) : (srt z).any f = z.any f := by
  rw [Bool.eq_iff_iff, List.any_eq_true, List.any_eq_true]
  constructor
  · rintro ⟨x, h1, h2⟩; exact ⟨x, (List.mem_mergeSort).1 h1, h2⟩
  · rintro ⟨x, h1, h2⟩; exact ⟨x, (List.mem_mergeSort).2 h1, h2⟩
/-- What sorting leaves. -/
def Srtd (w w' : World) (g : Nat) (z : List Int) : Prop := ∃ n os, w' = grow (putRow (Value.int .i64) (Sort.ahead w n) g 0 (srt z).toArray) os
theorem Srtd.grown {w w' : World} {g : Nat} {z : List Int} (h : Srtd w w' g z) : w.grownBy w' (some g) := by
  obtain ⟨n, os, rfl⟩ := h
  refine ⟨rfl, rfl, rfl, by simp, fun k hk hne => ?_⟩
  rw [heap_grow_old _ _ (by simpa using hk)]
  have : g ≠ k := fun e => hne (by rw [e])
  simp [putRow, mapBlock, Sort.ahead, Array.getElem?_modify, this]
theorem Srtd.row {w w' : World} {B g c : Nat} {z : List Int} (h : Srtd w w' g z) (ho : w.ownsRow B 3 1 (.slice (some ⟨g, 0, none⟩) z.length c) z.length (icells z)) : w'.ownsRow B 3 1 (.slice (some ⟨g, 0, none⟩) z.length c) z.length (icells (srt z)) := by
  obtain ⟨n, os, rfl⟩ := h
  rcases ho.2 with ⟨h, _⟩ | ⟨g', cap, cur, he, hbase, hb, h1, h2, h3, h4⟩
  · cases h
  · obtain ⟨rfl, rfl⟩ : g' = g ∧ cap = c := by injection he with e1 _ e2; injection e1 with e1; injection e1 with e1; exact ⟨e1.symm, e2.symm⟩
    refine ⟨by simp [icells, srt_len], .inr ⟨g', cap, putCells (Value.int .i64) 0 (srt z).toArray cur, rfl, hbase, ?_, h1, h2, ?_, ?_⟩⟩
    · have hg : g' < w.heap.size := (Array.getElem?_eq_some_iff.1 hb).1
      rw [heap_grow_old _ _ (by simpa using hg)]
      simp [putRow, mapBlock, Sort.ahead, Array.getElem?_modify, hb, onCells]
    · simp [putCells, h3]
    · rw [Nat.mul_one]
      apply List.ext_getElem?
      intro j
      have hsz : z.length ≤ cur.size := by omega
      by_cases hj : j < z.length
      · rw [List.getElem?_take_of_lt hj, Array.getElem?_toList]
        simp [putCells, icells, srt_len, hj, show j < cur.size by omega]
      · rw [List.getElem?_take_eq_none (by omega), List.getElem?_eq_none (by simp [icells, srt_len]; omega)]
theorem sort_any (g c : Nat) (z : List Int) (hz : z.length ≤ 1000000) (B : Nat) (w : World) (ho : w.ownsRow B 3 1 (.slice (some ⟨g, 0, none⟩) z.length c) z.length (icells z)) :
    Calls Tryz.prog 56 #[.slice (some ⟨g, 0, none⟩) z.length c] w fun e w' => e = .returned (.tuple #[]) ∧ Srtd w w' g z := by
  refine (Tryz.slices_Sort_int g 0 c z w ?_ (ho.lt g rfl).2 (by omega)).mono ?_
  · intro j hj
    have hj' : j < z.length := by simpa using hj
    refine ⟨?_, ho.frozenAt _⟩
    rw [Nat.zero_add, ho.cellAt j (by omega)]
    simp [icells, hj']
  · rintro e w' ⟨rfl, n, os, rfl⟩
    exact ⟨rfl, n, os, rfl⟩
/-- A range over the rows: those that have come are sorted. -/
structure RgM (B : Nat) (w : World) (K r n : Nat) (D : DataW Unit) (G : Rows') (T : List UInt8 → List Int) (left : Lit → Bool) (cnt : Nat) : Prop where
  rng : w.ranges Tryz.prog 9 roR K r n D left cnt
  dm : IsMap D
  dhas : ∀ l, Maps.has D (.string l) = (G l).isSome
  dat : ∀ l g m c, G l = some (g, m, c) → ∀ z, D.atKey (.string l) z = .agg [.lit (.int .u64 g), .lit (.int .u64 m), .lit (.int .u64 c)]
  lefts : ∀ l, left (.string l) = true → (G l).isSome = true
  none' : ∀ l, G l = none → T l = []
  row : ∀ l g m c, G l = some (g, m, c) → m = (T l).length ∧ 0 < m ∧ w.ownsRow B 3 1 (.slice (some ⟨g, 0, none⟩) m c) m (icells (if left (.string l) = true then T l else srt (T l))) ∧ g ≠ K ∧ g ≠ r
  apart : ∀ l l' g m c m' c', G l = some (g, m, c) → G l' = some (g, m', c') → l = l'
theorem RgM.start {B : Nat} {w w' : World} {K n : Nat} {D : DataW Unit} {G : Rows'} {T : List UInt8 → List Int}
    (h1 : IsMap D) (h2 : ∀ l, Maps.has D (.string l) = (G l).isSome) (h3 : ∀ l g m c, G l = some (g, m, c) → ∀ z, D.atKey (.string l) z = .agg [.lit (.int .u64 g), .lit (.int .u64 m), .lit (.int .u64 c)])
    (h : StM B w K n G T) (hr : w'.ranges Tryz.prog 9 roR K w.heap.size n D (Maps.has D) (Maps.size D)) (hg : w.grownBy w' none) : RgM B w' K w.heap.size n D G T (Maps.has D) (Maps.size D) :=
  ⟨hr, h1, h2, h3, fun l hl => by rw [← h2, hl], h.none', fun l g m c hl => by
    obtain ⟨r1, r2, r3, r4⟩ := h.row l g m c hl
    refine ⟨r1, r2, ?_, r4, fun e => ?_⟩
    · rw [if_pos (by rw [h2, hl]; rfl)]
      exact r3.kept hg (Or.inr (by simp [Value.ownBlock]))
    · have := (r3.lt g rfl).2
      omega, h.apart⟩
theorem RgM.done {B : Nat} {w : World} {K r n : Nat} {D : DataW Unit} {G : Rows'} {T : List UInt8 → List Int} {left : Lit → Bool} {cnt : Nat} (h : RgM B w K r n D G T left cnt) (hl : ∀ kl, left kl = false) : StM B w K n G (fun l => srt (T l)) :=
  ⟨⟨D, h.rng.owns, h.dm, h.dhas, h.dat⟩, fun l hG => by rw [h.none' l hG]; simp [srt], fun l g m c hG => by
    obtain ⟨r1, r2, r3, r4, _⟩ := h.row l g m c hG
    rw [if_neg (by rw [hl]; simp)] at r3
    exact ⟨by rw [srt_len]; exact r1, r2, r3, r4⟩, h.apart⟩
theorem keyS_of {v : Value} {kl : Lit} (h : keyOf Tryz.prog 9 v = some kl) : ∃ s : ByteArray, v = .string s ∧ kl = .string s.data.toList := by
  have hu := Tryz.underlying9
  cases v <;> simp [keyOf, hu, mapKey] at h
  exact ⟨_, rfl, h.2.symm⟩
theorem RgM.below {B : Nat} {w w' : World} {K r n : Nat} {D : DataW Unit} {G : Rows'} {T : List UInt8 → List Int} {left : Lit → Bool} {cnt : Nat} (h : RgM B w K r n D G T left cnt) (hb : Below w.heap.size w w') : RgM B w' K r n D G T left cnt :=
  ⟨h.rng.kept (row := none) ⟨hb.os, hb.tape, hb.output, hb.size, fun k hk _ => hb.block k hk⟩ (by simp) (by simp), h.dm, h.dhas, h.dat, h.lefts, h.none', fun l g m c hG => by
    obtain ⟨r1, r2, r3, r4, r5⟩ := h.row l g m c hG
    exact ⟨r1, r2, own_keepL r3 hb, r4, r5⟩, h.apart⟩
/-- The row that comes next, sorted. -/
theorem RgM.step {B : Nat} {w w1 w2 : World} {K r n : Nat} {D : DataW Unit} {G : Rows'} {T : List UInt8 → List Int} {left : Lit → Bool} {cnt cnt' : Nat} (h : RgM B w K r n D G T left cnt) {l : List UInt8} {g m c : Nat} (hG : G l = some (g, m, c)) (hl : left (.string l) = true)
    (hr : w1.ranges Tryz.prog 9 roR K r n D (fun z => left z && !z.sameKey (.string l)) cnt') (hg : w.grownBy w1 (some r)) (hs : Srtd w1 w2 g (T l)) : RgM B w2 K r n D G T (fun z => left z && !z.sameKey (.string l)) cnt' := by
  obtain ⟨p1, p2, p3, p4, p5⟩ := h.row l g m c hG
  have hrow : ∀ x g' m' c', G x = some (g', m', c') → w1.ownsRow B 3 1 (.slice (some ⟨g', 0, none⟩) m' c') m' (icells (if left (.string x) = true then T x else srt (T x))) := by
    intro x g' m' c' hx
    obtain ⟨q1, q2, q3, q4, q5⟩ := h.row x g' m' c' hx
    exact q3.kept hg (Or.inr (by simp only [Value.ownBlock]; intro e; injection e with e; exact q5 e))
  refine ⟨hr.kept hs.grown (by intro e; injection e with e; exact p4 e.symm) (by intro e; injection e with e; exact p5 e.symm), h.dm, h.dhas, h.dat, fun x hx => h.lefts x (by simp only [Bool.and_eq_true] at hx; exact hx.1), h.none', fun x g' m' c' hx => ?_, h.apart⟩
  obtain ⟨q1, q2, q3, q4, q5⟩ := h.row x g' m' c' hx
  refine ⟨q1, q2, ?_, q4, q5⟩
  by_cases hxl : x = l
  · subst hxl
    obtain ⟨rfl, h2⟩ := Prod.mk.inj (Option.some.inj (hG.symm.trans hx))
    obtain ⟨rfl, rfl⟩ := Prod.mk.inj h2
    have h3 := hrow x g m c hG
    rw [if_pos hl, p1] at h3
    rw [if_neg (by simp [Lit.sameKey])]
    rw [p1]
    exact hs.row h3
  · have h3 := hrow x g' m' c' hx
    have hne : g' ≠ g := fun e => by subst e; exact hxl (h.apart x l g' m' c' m c hx hG)
    have e : (left (.string x) && !(Lit.string x).sameKey (.string l)) = left (.string x) := by
      have : (Lit.string x).sameKey (.string l) = false := by simp [Lit.sameKey, hxl]
      rw [this]
      simp
    rw [e]
    exact h3.kept hs.grown (Or.inr (by simp only [Value.ownBlock]; intro e; injection e with e; exact hne e))
end Go.Proofs.YtglckcenjnieaaaGreatDoor
