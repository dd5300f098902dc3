/- What was spent between two times (numbers alone), and the memory of the law that says so. -/
import Derived.Test.YtjeknocbndgikaaBudO
import Derived.Maps.AppendAt
import Derived.OwnWalk
namespace Go.Proofs.Ytjeknocbndgikaa
open Go.RowKit Go.Lib

def sumI : List Int → Int
  | [] => 0
  | x :: l => x + sumI l
theorem sumI_append : ∀ (a b : List Int), sumI (a ++ b) = sumI a + sumI b
  | [], b => by simp [sumI]
  | x :: a, b => by
    have := sumI_append a b
    simp only [List.cons_append, sumI, this]
    omega
theorem sumI_bd : ∀ (l : List Int), (∀ c ∈ l, 0 ≤ c ∧ c ≤ 1000000) → 0 ≤ sumI l ∧ sumI l ≤ 1000000 * (l.length : Int)
  | [], _ => by simp [sumI]
  | x :: l, h => by
    have h1 := sumI_bd l (fun c hc => h c (List.mem_cons_of_mem _ hc))
    have h2 := h x (List.mem_cons_self ..)
    simp only [sumI, List.length_cons]
    omega
theorem lvl_step {r u Lv A t : Int} (h : okB r u Lv A = true) (ht : tmB t = true) (hA : A ≤ t) : lvl r u Lv A t ≤ Lv + r * (t - A) ∧ lvl r u Lv A t ≤ 1000 * u ∧ 0 ≤ r * (t - A) := by
  obtain ⟨r1, r2, _⟩ := okB_of h
  obtain ⟨t1, t2⟩ := tmB_of ht
  have hz := okB_of h
  have hp := rate_bd (r := r) (x := t - A) ⟨r1, r2⟩ (by omega)
  unfold lvl
  rw [show max A t - A = t - A by omega]
  omega
/-- The successful requests up to a time, and what they cost. -/
structure Hist (r u Lv A : Int) (ts cs : List Int) : Prop where
  len : cs.length = ts.length
  tm : ∀ t ∈ ts, 0 ≤ t ∧ t ≤ A
  cost : ∀ c ∈ cs, 0 ≤ c ∧ c ≤ 1000000
  tail : ∀ i (h : i < ts.length), 1000 * sumI (cs.drop i) + Lv ≤ 1000 * u + r * (A - ts[i])
  bnd : ∀ i k (hk : k < ts.length) (hi : i ≤ k), 1000 * sumI ((cs.drop i).take (k + 1 - i)) ≤ 1000 * u + r * (ts[k] - ts[i]'(Nat.lt_of_le_of_lt hi hk))
theorem Hist.nil (r u Lv A : Int) : Hist r u Lv A [] [] := ⟨rfl, by simp, by simp, fun i h => by simp at h, fun i k h => by simp at h⟩
theorem Hist.push {r u Lv A t c : Int} {ts cs : List Int} (h : Hist r u Lv A ts cs) (hk : okB r u Lv A = true) (ht : tmB t = true) (hA : A ≤ t) (hc : csB c = true) (hl : 1000 * c ≤ lvl r u Lv A t) :
    Hist r u (lvl r u Lv A t - 1000 * c) t (ts ++ [t]) (cs ++ [c]) := by
  obtain ⟨s1, s2, s3⟩ := lvl_step hk ht hA
  have hc2 := csB_of hc
  have ht2 := tmB_of ht
  have tail : ∀ i (hi : i < (ts ++ [t]).length), 1000 * sumI ((cs ++ [c]).drop i) + (lvl r u Lv A t - 1000 * c) ≤ 1000 * u + r * (t - (ts ++ [t])[i]) := by
    intro i hi
    rw [List.length_append, List.length_singleton] at hi
    by_cases hi2 : i < ts.length
    · rw [List.drop_append_of_le_length (by have := h.len; omega), sumI_append, List.getElem_append_left hi2]
      have h1 := h.tail i hi2
      have e : r * (t - ts[i]) = r * (A - ts[i]) + r * (t - A) := by rw [← Int.mul_add]; congr 1; omega
      rw [e]
      simp only [sumI]
      omega
    · have hi3 : i = ts.length := by omega
      subst hi3
      rw [List.drop_append_of_le_length (by have := h.len; omega), List.drop_eq_nil_of_le (by have := h.len; omega)]
      simp only [List.nil_append, sumI, List.getElem_concat_length, Int.sub_self, Int.mul_zero]
      omega
  refine ⟨by simp [h.len], ?_, ?_, tail, ?_⟩
  · intro x hx
    rcases List.mem_append.1 hx with hx | hx
    · have := h.tm x hx; omega
    · simp only [List.mem_singleton] at hx; omega
  · intro x hx
    rcases List.mem_append.1 hx with hx | hx
    · exact h.cost x hx
    · simp only [List.mem_singleton] at hx; omega
  · intro i k hk2 hi
    have hk3 := hk2
    rw [List.length_append, List.length_singleton] at hk3
    by_cases hk4 : k < ts.length
    · have h1 := h.bnd i k hk4 hi
      have hl2 := h.len
      rw [List.drop_append_of_le_length (by omega), List.take_append_of_le_length (by rw [List.length_drop]; omega), List.getElem_append_left hk4, List.getElem_append_left (by omega)]
      exact h1
    · obtain rfl : k = ts.length := by omega
      have h1 := tail i (by rw [List.length_append, List.length_singleton]; omega)
      rw [List.take_of_length_le (by rw [List.length_drop, List.length_append, List.length_singleton, h.len]; omega), List.getElem_concat_length (by rfl)]
      omega
theorem Hist.len40 {r u Lv A : Int} {ts cs : List Int} (h : Hist r u Lv A ts cs) : cs.length = ts.length := h.len

/-- Integers as the cells of a row. -/
def icells (l : List Int) : List Value := l.map (Value.int .i64)
theorem icells_snoc (l : List Int) (x : Int) : icells (l ++ [x]) = icells l ++ [.int .i64 x] := by simp [icells]
theorem info_int : (Try.prog.info? 3).map (fun i => (i.zero, i.size, i.bytes)) = some (some (.int .i64 0), 1, 8) := by kernel_rfl

/-- The memory of the law: the bucket's box, the rows of times and costs. -/
structure BSt (W w : World) (x y z q : Value) (s6 s7 : Value) (ts cs : List Int) : Prop where
  bk : FourAt w W.heap.size 23 x y z q
  rt : w.ownsRow (W.heap.size + 1) 3 1 s6 ts.length (icells ts)
  rc : w.ownsRow (W.heap.size + 1) 3 1 s7 cs.length (icells cs)
  apart : ∀ k, s6.ownBlock = some k → s7.ownBlock ≠ some k
  bel : Below W.heap.size W w
theorem own_keep {w w' : World} {B n size : Nat} {t : TypeId} {v : Value} {xs : List Value} (ho : w.ownsRow B t size v n xs) (h : Below w.heap.size w w') : w'.ownsRow B t size v n xs :=
  ho.kept (row := none) ⟨h.os, h.tape, h.output, h.size, fun k hk _ => h.block k hk⟩ (by cases v.ownBlock <;> simp)
theorem BSt.below {W w w' : World} {x y z q s6 s7 : Value} {ts cs : List Int} (h : BSt W w x y z q s6 s7 ts cs) (hb : Below w.heap.size w w') : BSt W w' x y z q s6 s7 ts cs :=
  ⟨h.bk.below hb, own_keep h.rt hb, own_keep h.rc hb, h.apart, h.bel.trans (hb.mono h.bel.size)⟩
theorem BSt.alloc {W w : World} {x y z q s6 s7 : Value} {ts cs : List Int} (h : BSt W w x y z q s6 s7 ts cs) (o : Obj) : BSt W (w.alloc o) x y z q s6 s7 ts cs :=
  h.below ((Below.refl _ _).alloc (Nat.le_refl _) _)
theorem BSt.drew {W w : World} {x y z q s6 s7 : Value} {ts cs : List Int} (h : BSt W w x y z q s6 s7 ts cs) : BSt W w.drew x y z q s6 s7 ts cs := h.below (Below.refl _ _).drew
theorem grown_below {W w w' : World} {row : Option Nat} (h : Below W.heap.size W w) (hg : w.grownBy w' row) (hr : ∀ k, row = some k → W.heap.size ≤ k) : Below W.heap.size W w' :=
  h.trans ⟨hg.os, hg.tape, hg.output, hg.size, fun k hk => hg.block k (Nat.lt_of_lt_of_le hk h.size) (fun e => by have := hr k e.symm; omega)⟩
theorem BSt.push1 {W w w' : World} {x y z q s6 s7 v' : Value} {ts cs : List Int} {t : Int} (h : BSt W w x y z q s6 s7 ts cs) (ho : w'.ownsRow (W.heap.size + 1) 3 1 v' (ts.length + 1) (icells ts ++ [.int .i64 t]))
    (hg : w.grownBy w' s6.ownBlock) (hat : v'.ownBlock = s6.ownBlock ∨ v'.ownBlock = some w.heap.size) : BSt W w' x y z q v' s7 (ts ++ [t]) cs := by
  have lt6 := h.rt.lt
  have lt7 := h.rc.lt
  refine ⟨h.bk.of_block (hg.block _ h.bk.lt (fun e => by have := lt6 _ e.symm; omega)), ?_, h.rc.kept hg ?_, ?_, grown_below h.bel hg (fun k hk => by have := lt6 k hk; omega)⟩
  · rw [icells_snoc, List.length_append, List.length_singleton]; exact ho
  · cases hs : s7.ownBlock with
    | none => exact Or.inl rfl
    | some k => exact Or.inr (fun e => h.apart k e.symm hs)
  · intro k hk
    rcases hat with e | e
    · exact h.apart k (e ▸ hk)
    · intro h7
      have := lt7 k h7
      rw [e] at hk
      injection hk with hk
      omega
theorem BSt.push2 {W w w' : World} {x y z q s6 s7 v' : Value} {ts cs : List Int} {t : Int} (h : BSt W w x y z q s6 s7 ts cs) (ho : w'.ownsRow (W.heap.size + 1) 3 1 v' (cs.length + 1) (icells cs ++ [.int .i64 t]))
    (hg : w.grownBy w' s7.ownBlock) (hat : v'.ownBlock = s7.ownBlock ∨ v'.ownBlock = some w.heap.size) : BSt W w' x y z q s6 v' ts (cs ++ [t]) := by
  have lt6 := h.rt.lt
  have lt7 := h.rc.lt
  refine ⟨h.bk.of_block (hg.block _ h.bk.lt (fun e => by have := lt7 _ e.symm; omega)), h.rt.kept hg ?_, ?_, ?_, grown_below h.bel hg (fun k hk => by have := lt7 k hk; omega)⟩
  · cases hs : s6.ownBlock with
    | none => exact Or.inl rfl
    | some k => exact Or.inr (fun e => h.apart k hs e.symm)
  · rw [icells_snoc, List.length_append, List.length_singleton]; exact ho
  · intro k hk
    rcases hat with e | e
    · rw [e]; exact h.apart k hk
    · intro h7
      have := lt6 k hk
      rw [e] at h7
      injection h7 with h7
      omega
theorem grown_set (w : World) (b k : Nat) (u : Value) : w.grownBy (w.setCell ⟨b, k, none⟩ u) (some b) :=
  ⟨rfl, rfl, rfl, by simp [World.setCell], fun j _ hj => Below.heap_setCell _ _ _ j (fun e => hj (by rw [e]))⟩
theorem BSt.set {W w : World} {x y z q x' y' z' q' s6 s7 : Value} {ts cs : List Int} (h : BSt W w x y z q s6 s7 ts cs) (k : Nat) (u : Value) (hf : FourAt (w.setCell ⟨W.heap.size, k, none⟩ u) W.heap.size 23 x' y' z' q') :
    BSt W (w.setCell ⟨W.heap.size, k, none⟩ u) x' y' z' q' s6 s7 ts cs := by
  have lt6 := h.rt.lt
  have lt7 := h.rc.lt
  refine ⟨hf, h.rt.kept (grown_set w W.heap.size k u) ?_, h.rc.kept (grown_set w W.heap.size k u) ?_, h.apart, h.bel.setCell (Nat.le_refl _) _⟩
  · cases hs : s6.ownBlock with
    | none => exact Or.inl rfl
    | some j => exact Or.inr (fun e => by have := lt6 j hs; injection e with e; omega)
  · cases hs : s7.ownBlock with
    | none => exact Or.inl rfl
    | some j => exact Or.inr (fun e => by have := lt7 j hs; injection e with e; omega)
theorem FourAt.sets {w : World} {b : Nat} {t : TypeId} {x y z v : Value} (h : FourAt w b t x y z v) (u : Value) :
    FourAt (w.setCell ⟨b, 0, none⟩ u) b t u y z v ∧ FourAt (w.setCell ⟨b, 1, none⟩ u) b t x u z v ∧ FourAt (w.setCell ⟨b, 2, none⟩ u) b t x y u v ∧ FourAt (w.setCell ⟨b, 3, none⟩ u) b t x y z u := by
  have h := h.blk
  refine ⟨⟨?_⟩, ⟨?_⟩, ⟨?_⟩, ⟨?_⟩⟩ <;> simp [World.setCell, Array.getElem?_modify, h]
/-- All four cells of the bucket's box are written. -/
theorem BSt.store {W w : World} {x y z q s6 s7 : Value} {ts cs : List Int} (h : BSt W w x y z q s6 s7 ts cs) (x' y' z' q' : Value) :
    BSt W ((((w.setCell ⟨W.heap.size, 0, none⟩ x').setCell ⟨W.heap.size, 1, none⟩ y').setCell ⟨W.heap.size, 2, none⟩ z').setCell ⟨W.heap.size, 3, none⟩ q') x' y' z' q' s6 s7 ts cs := by
  have h0 := h.set 0 x' (h.bk.sets x').1
  have h1 := h0.set 1 y' (h0.bk.sets y').2.1
  have h2 := h1.set 2 z' (h1.bk.sets z').2.2.1
  exact h2.set 3 q' (h2.bk.sets q').2.2.2
theorem int_one (w : World) (x : Value) (t : TypeId) : ∀ j u, [x][j]? = some u → (w.alloc (.cells #[x] t)).cell? ((⟨w.heap.size, 0, none⟩ : Addr).add j) = some u := by
  intro j u hj
  match j, hj with
  | 0, hj => simp at hj; subst hj; simp [Addr.add, go_sem]
/-- A row of integers that a call owns, read. -/
theorem own_ints {w : World} {B : Nat} {v : Value} {l : List Int} (h : w.ownsRow B 3 1 v l.length (icells l)) : ∃ a c, v = .slice a l.length c ∧ ∀ k (hk : k < l.length), ∃ b, a = some ⟨b, 0, none⟩ ∧ b < w.heap.size ∧ w.cell? ⟨b, k, none⟩ = some (.int .i64 l[k]) := by
  rcases h.2 with ⟨rfl, h0⟩ | ⟨g, cap, cur, rfl, _, hg, hnc, hcm, _⟩
  · obtain rfl : l = [] := List.eq_nil_of_length_eq_zero (by omega)
    exact ⟨none, 0, rfl, fun k hk => by simp at hk⟩
  · refine ⟨some ⟨g, 0, none⟩, cap, rfl, fun k hk => ⟨g, rfl, (Array.getElem?_eq_some_iff.1 hg).1, ?_⟩⟩
    have hc := h.cellAt k (by omega)
    rw [hc]
    simp [icells, hk]
theorem reads_belowA {W w1 : World} {v : Option Addr} {L : List (Int × Int)} (h : ReadsA W v L) (hb : Below W.heap.size W w1) : ReadsA w1 v L := by
  intro k hk
  obtain ⟨b, off, e, hlt, c1, c2, g⟩ := h k hk
  exact ⟨b, off, e, Nat.lt_of_lt_of_le hlt hb.size, (hb.cell (p := ⟨b, off + k * 2, none⟩) hlt).trans c1, (hb.cell (p := ⟨b, off + k * 2 + 1, none⟩) hlt).trans c2, g⟩
end Go.Proofs.Ytjeknocbndgikaa
