/- Paths and their parts are each other's inverse: the plain functions of ident alone. -/
import Derived.Test.YtoehpoodfbgdiabDoorIdnE
namespace Go.Proofs.YtoehpoodfbgdiabDoor
open Go.RowKit Go.Lib

def noSlash (x : List UInt8) : Prop := ∀ b, b ∈ x → b.toNat ≠ 47
theorem name_noSlash {x : List UInt8} (h : nameB x = true) : noSlash x := by
  intro b hb
  have hall : (x.all fun b => okB b.toNat) = true := by
    cases x with
    | nil => simp at hb
    | cons c r =>
      unfold nameB at h
      simp only [Bool.and_eq_true] at h
      exact h.2
  have h2 := List.all_eq_true.1 hall b hb
  intro e
  rw [e] at h2
  exact absurd h2 (by decide)
theorem split_plain : ∀ (x cur : List UInt8), noSlash x → splitOn cur x = [cur ++ x]
  | [], cur, _ => by simp [splitOn]
  | c :: r, cur, h => by
    rw [splitOn, if_neg (h c (by simp)), split_plain r (cur ++ [c]) (fun b hb => h b (by simp [hb]))]
    simp
theorem split_slash : ∀ (x cur r : List UInt8), noSlash x → splitOn cur (x ++ 47 :: r) = (cur ++ x) :: splitOn [] r
  | [], cur, r, _ => by simp [splitOn]
  | c :: x, cur, r, h => by
    rw [List.cons_append, splitOn, if_neg (h c (by simp)), split_slash x (cur ++ [c]) r (fun b hb => h b (by simp [hb]))]
    simp
theorem split_join : ∀ (L : List (List UInt8)), 0 < L.length → (∀ x, x ∈ L → noSlash x) → splitOn [] (joinP L) = L
  | [], h, _ => by simp at h
  | [x], _, h => by rw [joinP_one, split_plain x [] (h x (by simp))]; rfl
  | x :: y :: r, _, h => by
    have ih := split_join (y :: r) (by simp) (fun z hz => h z (by simp [List.mem_cons.1 hz]))
    have e : joinP (x :: y :: r) = x ++ 47 :: joinP (y :: r) := by simp [joinP, slashP]
    rw [e, split_slash x [] _ (h x (by simp)), ih]
    rfl
theorem parts_join {L : List (List UInt8)} (h0 : 0 < L.length) (hn : L.all nameB = true) (hl : (joinP L).length ≤ 512) : partsR (joinP L) = (L, 0) := by
  have hs := split_join L h0 (fun x hx => name_noSlash (List.all_eq_true.1 hn x hx))
  unfold partsR
  rw [if_neg (by omega), hs, if_pos hn]
theorem splitOn_pos : ∀ (l cur : List UInt8), 0 < (splitOn cur l).length
  | [], cur => by simp [splitOn]
  | c :: r, cur => by
    unfold splitOn
    split
    · simp
    · exact splitOn_pos r _
theorem path_parts {l : List UInt8} (h : (partsR l).2 = 0) : pathR (partsR l).1 = (l, 0) := by
  obtain ⟨h1, h2, h3⟩ := partsR_ok h
  have hp := splitOn_pos l []
  rw [h1]
  unfold pathR
  rw [if_neg (by omega), if_pos h2, join_split, if_neg (by omega)]
theorem pathR_ok {L : List (List UInt8)} (h : (pathR L).2 = 0) : 0 < L.length ∧ L.all nameB = true ∧ (joinP L).length ≤ 512 ∧ (pathR L).1 = joinP L := by
  unfold pathR at h ⊢
  by_cases h0 : L.length = 0
  · rw [if_pos h0] at h; simp at h
  · rw [if_neg h0] at h ⊢
    by_cases hn : L.all nameB = true
    · rw [if_pos hn] at h ⊢
      by_cases hl : 512 < (joinP L).length
      · rw [if_pos hl] at h; simp at h
      · rw [if_neg hl]
        exact ⟨by omega, hn, by omega, rfl⟩
    · rw [if_neg hn] at h; simp at h
theorem parts_path {L : List (List UInt8)} (h : (pathR L).2 = 0) : partsR (pathR L).1 = (L, 0) := by
  obtain ⟨h1, h2, h3, h4⟩ := pathR_ok h
  rw [h4]
  exact parts_join h1 h2 h3
theorem pathR_bad {L : List (List UInt8)} (h : (pathR L).2 ≠ 0) : (pathR L).1 = [] := by
  unfold pathR at h ⊢
  split
  · rfl
  · split
    · split
      · rfl
      · rename_i a b c
        rw [if_neg a, if_pos b, if_neg c] at h
        simp at h
    · rfl
theorem path_inj {a b : List (List UInt8)} (ha : (pathR a).2 = 0) (hb : (pathR b).2 = 0) : (pathR a).1 = (pathR b).1 ↔ a = b := by
  constructor
  · intro h
    have h1 := parts_path ha
    have h2 := parts_path hb
    rw [h, h2] at h1
    injection h1 with h3 _
    exact h3.symm
  · intro h; rw [h]
theorem path_one (x : List UInt8) : pathR [x] = if nameB x = true then (x, 0) else ([], 1) := by
  unfold pathR
  rw [if_neg (by simp)]
  by_cases h : nameB x = true
  · have := nameB_len h
    rw [if_pos (by simpa using h), if_pos h, joinP_one, if_neg (by omega)]
  · rw [if_neg (by simpa using h), if_neg h]
/-- A path lies within its parent, and the parent not within it. -/
theorem parent_within {l : List UInt8} (h : (parentR l).2 = true) : withinR l (parentR l).1 = true ∧ withinR (parentR l).1 l = false := by
  have h0 : (partsR l).2 = 0 ∧ 2 ≤ (partsR l).1.length := by
    unfold parentR at h
    by_cases hc : (partsR l).2 ≠ 0 ∨ (partsR l).1.length < 2
    · rw [if_pos hc] at h; simp at h
    · omega
  obtain ⟨he, h2⟩ := h0
  have hp : (parentR l).1 = joinP (partsR l).1.dropLast := by unfold parentR; rw [if_neg (by omega)]
  obtain ⟨h3, h4, h5⟩ := partsR_ok he
  have hall : (partsR l).1.all nameB = true := by rw [h3]; exact h4
  have hdl : (partsR l).1.dropLast.length = (partsR l).1.length - 1 := List.length_dropLast
  have hcut := parent_cut he h2 ((partsR l).1[(partsR l).1.length - 1]'(by omega)) (List.getElem?_eq_getElem (by omega))
  have hlen := congrArg List.length hcut
  rw [List.length_append, List.length_cons] at hlen
  have hda : (partsR l).1.dropLast.all nameB = true := by
    rw [List.all_eq_true]
    intro x hx
    exact List.all_eq_true.1 hall x (List.dropLast_subset _ hx)
  have hpp := parts_join (L := (partsR l).1.dropLast) (by omega) hda (by omega)
  rw [hp]
  constructor
  · unfold withinR
    rw [hpp, he]
    simp [List.dropLast_eq_take]
  · unfold withinR
    rw [hpp, he]
    simp only [decide_true, Bool.true_and]
    rw [decide_eq_false_iff_not]
    intro e
    have := congrArg List.length e
    rw [List.length_take] at this
    omega
end Go.Proofs.YtoehpoodfbgdiabDoor
