/- What the library's sort and Compact give is the document's Sorted: the plain functions of ident alone. -/
import Derived.Test.YtoehpoodfbgdiabDoorIdnK
import Derived.Lib.SlicesCompact
import Derived.Sort.Statements
import Derived.Shelf.SlSortCmp.Insertion
namespace Go.Proofs.YtoehpoodfbgdiabDoor
open Go.RowKit Go.Lib Go.Sort

/-- Strings of a length at which Compare is followed. -/
abbrev Sh : Type := { l : List UInt8 // l.length ≤ 1099511627776 }
instance : Inhabited Sh := ⟨⟨[], by decide⟩⟩
def cmpS (x y : Sh) : Int := cmpL x.1 y.1
theorem cmp_nn {x y z : List UInt8} (h1 : cmpL x y ≤ 0) (h2 : cmpL y z < 0) : cmpL x z < 0 := by
  by_cases e : cmpL x y = 0
  · have := (cmp_tot.eq x y).1 e
    subst this
    exact h2
  · exact cmp_lt_tr (by omega) h2
theorem cmpS_swo : SWO (ltOf cmpS) where
  irrefl := fun x => by
    unfold ltOf cmpS
    rw [(cmp_tot.eq x.1 x.1).2 rfl]; rfl
  trans := fun x y z h1 h2 => by
    unfold ltOf cmpS at *
    rw [decide_eq_true_eq] at *
    exact cmp_lt_tr h1 h2
  ntrans := fun x y z h1 h2 => by
    unfold ltOf cmpS at *
    rw [decide_eq_false_iff_not] at *
    have a1 := cmp_tot.anti x.1 y.1
    have a2 := cmp_tot.anti y.1 z.1
    have a3 := cmp_tot.anti x.1 z.1
    have := cmp_tot.tr z.1 y.1 x.1 (by omega) (by omega)
    omega
theorem cmpS_tot (x y : Sh) (h1 : ltOf cmpS x y = false) (h2 : ltOf cmpS y x = false) : x = y := by
  unfold ltOf cmpS at *
  rw [decide_eq_false_iff_not] at *
  have a1 := cmp_tot.anti x.1 y.1
  exact Subtype.ext ((cmp_tot.eq x.1 y.1).1 (by omega))

def Mono (l : List (List UInt8)) : Prop := l.Pairwise fun a b => cmpL a b ≤ 0
theorem sort_mono (d : List Sh) : Mono ((d.mergeSort fun x y => !(ltOf cmpS) y x).map (·.1)) := by
  have h := List.pairwise_mergeSort (le := fun x y => !(ltOf cmpS) y x)
    (fun a b c h1 h2 => by
      unfold ltOf cmpS at *
      simp only [Bool.not_eq_true', decide_eq_false_iff_not] at *
      have a1 := cmp_tot.anti a.1 b.1
      have a2 := cmp_tot.anti b.1 c.1
      have a3 := cmp_tot.anti a.1 c.1
      have := cmp_tot.tr a.1 b.1 c.1 (by omega) (by omega)
      omega)
    (fun a b => by
      unfold ltOf cmpS
      have a1 := cmp_tot.anti a.1 b.1
      by_cases h : cmpL b.1 a.1 < 0
      · have : ¬ cmpL a.1 b.1 < 0 := by omega
        simp [this]
      · simp [h]) d
  unfold Mono
  rw [List.pairwise_map]
  refine h.imp fun {a b} hab => ?_
  unfold ltOf cmpS at hab
  simp only [Bool.not_eq_true', decide_eq_false_iff_not] at hab
  have a1 := cmp_tot.anti a.1 b.1
  omega
theorem compact_upto (zs : List (List UInt8)) (hm : Mono zs) : ∀ m, m ≤ zs.length → Asc (Lib.compactUpTo zs.toArray m) ∧ (∀ y, y ∈ Lib.compactUpTo zs.toArray m ↔ ∃ j, j < m ∧ zs.toArray[j]! = y)
  | 0, _ => ⟨List.Pairwise.nil, fun y => by simp [Lib.compactUpTo]⟩
  | m + 1, hle => by
    obtain ⟨h1, h2⟩ := compact_upto zs hm m (by omega)
    rw [Lib.compactUpTo_succ]
    have get : ∀ j (h : j < zs.length), zs.toArray[j]! = zs[j] := fun j h => by simp [getElem!_pos, h]
    cases hk : Lib.keeps zs.toArray m
    · have hk' : 0 < m ∧ zs.toArray[m]! = zs.toArray[m - 1]! := by
        unfold Lib.keeps at hk
        rw [decide_eq_false_iff_not] at hk
        refine ⟨?_, ?_⟩
        · rcases Nat.eq_zero_or_pos m with h | h
          · exact absurd (.inl h) hk
          · exact h
        · exact Classical.byContradiction fun e => hk (.inr e)
      rw [if_neg (by simp), List.append_nil]
      refine ⟨h1, fun y => ?_⟩
      rw [h2 y]
      constructor
      · rintro ⟨j, hj, e⟩; exact ⟨j, by omega, e⟩
      · rintro ⟨j, hj, e⟩
        by_cases hjm : j = m
        · subst hjm; exact ⟨j - 1, by omega, by rw [← hk'.2]; exact e⟩
        · exact ⟨j, by omega, e⟩
    · rw [if_pos rfl]
      refine ⟨?_, fun y => ?_⟩
      · unfold Asc at h1 ⊢
        rw [List.pairwise_append]
        refine ⟨h1, List.pairwise_singleton _ _, ?_⟩
        intro a ha b hb
        rw [List.mem_singleton] at hb
        subst hb
        obtain ⟨j, hj, rfl⟩ := (h2 a).1 ha
        have hk' : zs.toArray[m]! ≠ zs.toArray[m - 1]! := by
          unfold Lib.keeps at hk
          rw [decide_eq_true_eq] at hk
          exact hk.resolve_left (by omega)
        rw [get m (by omega), get (m - 1) (by omega)] at hk'
        rw [get j (by omega), get m (by omega)]
        have hp := List.pairwise_iff_getElem.1 hm
        have h9 : cmpL (zs[m - 1]'(by omega)) (zs[m]'(by omega)) < 0 := by
          have := hp (m - 1) m (by omega) (by omega) (by omega)
          by_cases e : cmpL (zs[m - 1]'(by omega)) (zs[m]'(by omega)) = 0
          · exact absurd ((cmp_tot.eq _ _).1 e).symm hk'
          · omega
        by_cases hjm : j = m - 1
        · subst hjm; exact h9
        · exact cmp_nn (hp j (m - 1) (by omega) (by omega) (by omega)) h9
      · rw [List.mem_append, h2 y, List.mem_singleton]
        constructor
        · rintro (⟨j, hj, e⟩ | e)
          · exact ⟨j, by omega, e⟩
          · exact ⟨m, by omega, e.symm⟩
        · rintro ⟨j, hj, e⟩
          by_cases hjm : j = m
          · subst hjm; exact .inr e.symm
          · exact .inl ⟨j, by omega, e⟩
theorem compact_sort (zs L : List (List UInt8)) (hm : Mono zs) (hmem : ∀ y, y ∈ zs ↔ y ∈ L) : Lib.compact zs = sortR L := by
  obtain ⟨h1, h2⟩ := compact_upto zs hm zs.length (Nat.le_refl _)
  refine asc_unique _ _ h1 (sortR_asc L) fun y => ?_
  rw [sortR_mem, ← hmem]
  show y ∈ Lib.compactUpTo zs.toArray zs.length ↔ _
  rw [h2 y]
  constructor
  · rintro ⟨j, hj, rfl⟩
    simp [getElem!_pos, hj]
  · intro hy
    obtain ⟨j, hj, rfl⟩ := List.getElem_of_mem hy
    exact ⟨j, hj, by simp [getElem!_pos, hj]⟩
end Go.Proofs.YtoehpoodfbgdiabDoor
