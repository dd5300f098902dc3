/- What requirements permit, in numbers alone: the greatest bounds within all (label). -/
import Derived.Test.YtglckcenjnieaaaGreatDoorLaT
namespace Go.Proofs.YtglckcenjnieaaaGreatDoor
open Go.RowKit Go.Lib

/-- Bounds by name that lie within what each of these requirements permits. -/
def Within (L : List (List UInt8)) (g : List UInt8 → Int × Int) : Prop := ∀ x ∈ L, ∃ a lo hi, needP x = some (a, lo, hi) ∧ lo ≤ (g a).1 ∧ (g a).2 ≤ hi
theorem ofF_upd (F : List UInt8 → Option (Int × Int)) (a b : List UInt8) (p : Int × Int) : ofF (updF F a p) b = if b = a then p else ofF F b := by
  unfold ofF updF
  by_cases h : b = a
  · rw [if_pos h, if_pos h]; rfl
  · rw [if_neg h, if_neg h]
theorem permL_some : ∀ (L : List (List UInt8)) (F0 F : List UInt8 → Option (Int × Int)), permL L F0 = some F →
    (∀ a, (ofF F0 a).1 ≤ (ofF F a).1 ∧ (ofF F a).2 ≤ (ofF F0 a).2) ∧ Within L (ofF F) ∧ ((∀ a, (ofF F0 a).1 ≤ (ofF F0 a).2) → ∀ a, (ofF F a).1 ≤ (ofF F a).2)
  | [], F0, F, h => by
    obtain rfl : F0 = F := by injection h
    exact ⟨fun a => ⟨Int.le_refl _, Int.le_refl _⟩, (fun x hx => by cases hx), fun h => h⟩
  | x :: r, F0, F, h => by
    rw [permL_cons] at h
    unfold permS at h
    cases hN : needP x with
    | none => rw [hN] at h; simp at h
    | some q =>
      obtain ⟨nm, lo, hi⟩ := q
      rw [hN] at h
      dsimp only at h
      by_cases hc : min hi (ofF F0 nm).2 < max lo (ofF F0 nm).1
      · rw [if_pos hc] at h; simp at h
      · rw [if_neg hc] at h
        dsimp only at h
        obtain ⟨h1, h2, h3⟩ := permL_some r _ F h
        have hu := fun b => ofF_upd F0 nm b (max lo (ofF F0 nm).1, min hi (ofF F0 nm).2)
        refine ⟨fun a => ?_, fun y hy => ?_, fun h0 => h3 fun a => ?_⟩
        · have := h1 a
          rw [hu a] at this
          by_cases e : a = nm
          · subst e
            rw [if_pos rfl] at this
            dsimp only at this
            omega
          · rwa [if_neg e] at this
        · rcases List.mem_cons.1 hy with rfl | hy
          · refine ⟨nm, lo, hi, hN, ?_⟩
            have := h1 nm
            rw [hu nm, if_pos rfl] at this
            dsimp only at this
            omega
          · exact h2 y hy
        · rw [hu a]
          by_cases e : a = nm
          · rw [if_pos e]; dsimp only; omega
          · rw [if_neg e]; exact h0 a
theorem permL_of (g : List UInt8 → Int × Int) (hg : ∀ a, (g a).1 ≤ (g a).2) : ∀ (L : List (List UInt8)) (F0 : List UInt8 → Option (Int × Int)), (∀ a, (ofF F0 a).1 ≤ (g a).1 ∧ (g a).2 ≤ (ofF F0 a).2) → Within L g →
    ∃ F, permL L F0 = some F ∧ ∀ a, (ofF F a).1 ≤ (g a).1 ∧ (g a).2 ≤ (ofF F a).2
  | [], F0, h0, _ => ⟨F0, rfl, h0⟩
  | x :: r, F0, h0, hW => by
    obtain ⟨nm, lo, hi, hN, hl, hh⟩ := hW x (List.mem_cons_self ..)
    have h1 := h0 nm
    have h2 := hg nm
    rw [permL_cons]
    unfold permS
    rw [hN]
    dsimp only
    rw [if_neg (by omega)]
    dsimp only
    refine permL_of g hg r _ (fun a => ?_) fun y hy => hW y (List.mem_cons_of_mem _ hy)
    rw [ofF_upd]
    by_cases e : a = nm
    · subst e
      rw [if_pos rfl]
      dsimp only
      omega
    · rw [if_neg e]; exact h0 a
theorem any_impF (F : List UInt8 → Option (Int × Int)) (M : List (List UInt8)) : M.any (impF F) = false ↔ Within M (ofF F) := by
  rw [List.any_eq_false]
  unfold Within impF
  constructor
  · intro h x hx
    have := h x hx
    cases hN : needP x with
    | none => rw [hN] at this; simp at this
    | some q =>
      obtain ⟨a, lo, hi⟩ := q
      rw [hN] at this
      simp at this
      exact ⟨a, lo, hi, rfl, this.1, this.2⟩
  · intro h x hx
    obtain ⟨a, lo, hi, hN, h1, h2⟩ := h x hx
    rw [hN]
    simp [h1, h2]
/-- Implies: nothing satisfies the one, or what it permits lies within the other. -/
theorem impliesB_iff (L M : List (List UInt8)) : impliesB L M = true ↔ ∀ F, permL L (fun _ => none) = some F → Within M (ofF F) := by
  unfold impliesB
  cases h : permL L (fun _ => none) with
  | none => simp
  | some F =>
    simp only [Bool.not_eq_true', any_impF]
    exact ⟨fun hw G hG => by injection hG with hG; subst hG; exact hw, fun hw => hw F rfl⟩
theorem of_none (a : List UInt8) : ofF (fun _ => none) a = (-2, 9007199254740992) := rfl
theorem implies_self (L : List (List UInt8)) : impliesB L L = true := (impliesB_iff L L).2 fun F h => (permL_some L _ F h).2.1
theorem implies_part (L M : List (List UInt8)) (hM : ∀ x ∈ M, x ∈ L) : impliesB L M = true := (impliesB_iff L M).2 fun F h x hx => (permL_some L _ F h).2.1 x (hM x hx)
theorem within_mono {M : List (List UInt8)} {g g' : List UInt8 → Int × Int} (h : Within M g) (hg : ∀ a, (g a).1 ≤ (g' a).1 ∧ (g' a).2 ≤ (g a).2) : Within M g' := fun x hx => by
  obtain ⟨a, lo, hi, hN, h1, h2⟩ := h x hx
  exact ⟨a, lo, hi, hN, Int.le_trans h1 (hg a).1, Int.le_trans (hg a).2 h2⟩
/-- What lies within the one lies within what it implies. -/
theorem within_of_implies {L M : List (List UInt8)} (h : impliesB L M = true) (g : List UInt8 → Int × Int) (hg : ∀ a, (g a).1 ≤ (g a).2) (h0 : ∀ a, -2 ≤ (g a).1 ∧ (g a).2 ≤ 9007199254740992) (hW : Within L g) : Within M g := by
  obtain ⟨F, hF, hb⟩ := permL_of g hg L (fun _ => none) (fun a => h0 a) hW
  exact within_mono ((impliesB_iff L M).1 h F hF) hb
theorem implies_trans (A B C : List (List UInt8)) (h1 : impliesB A B = true) (h2 : impliesB B C = true) : impliesB A C = true := by
  rw [impliesB_iff] at *
  intro F hF
  obtain ⟨p1, p2, p3⟩ := permL_some A _ F hF
  exact within_of_implies ((impliesB_iff B C).2 h2) (ofF F) (p3 fun a => by rw [of_none]; decide) (fun a => p1 a) (h1 F hF)
end Go.Proofs.YtglckcenjnieaaaGreatDoor
