/- Labels that satisfy requirements, in numbers alone (label). -/
import Derived.Test.YtglckcenjnieaaaGreatDoorLaU
import Derived.Test.YtglckcenjnieaaaGreatDoorLaN
namespace Go.Proofs.YtglckcenjnieaaaGreatDoor
open Go.RowKit Go.Lib

theorem numL_le {l : List UInt8} {n : Nat} (h : numL l = some n) : n ≤ 9007199254740992 := by
  unfold numL at h
  split at h
  · rename_i hc
    injection h with h
    omega
  · cases h
theorem labP_bounds {x a : List UInt8} {s : Int} (h : labP x = some (a, s)) : -1 ≤ s ∧ s ≤ 9007199254740992 := by
  unfold labP labF at h
  repeat' split at h
  all_goals first
    | cases h; done
    | (obtain ⟨_, rfl⟩ := Prod.mk.inj (Option.some.inj h)
       first
         | omega
         | (have := numL_le (by assumption); omega))
theorem needP_bounds {x a : List UInt8} {lo hi : Int} (h : needP x = some (a, lo, hi)) : -2 ≤ lo ∧ -2 ≤ hi := by
  have num : ∀ p b (c d : Bool), numF p b c d = some (a, lo, hi) → -2 ≤ lo ∧ -2 ≤ hi := by
    intro p b c d h
    unfold numF at h
    cases hb : numL b with
    | none => rw [hb] at h; cases h
    | some n =>
      rw [hb] at h
      dsimp only at h
      split at h
      · obtain ⟨_, h⟩ := Prod.mk.inj (Option.some.inj h)
        obtain ⟨rfl, rfl⟩ := Prod.mk.inj h
        constructor <;> split <;> omega
      · cases h
  unfold needP at h
  split at h
  · split at h
    · obtain ⟨_, h⟩ := Prod.mk.inj (Option.some.inj h)
      obtain ⟨rfl, rfl⟩ := Prod.mk.inj h
      omega
    · cases h
  · unfold needC at h
    split at h
    · exact num _ _ _ _ h
    split at h
    · exact num _ _ _ _ h
    split at h
    · exact num _ _ _ _ h
    split at h
    · obtain ⟨_, h⟩ := Prod.mk.inj (Option.some.inj h)
      obtain ⟨rfl, rfl⟩ := Prod.mk.inj h
      omega
    · cases h
theorem ite22 {c : Bool} {z : Int} (h : (if c = true then (22 : Int) else z) = 0) : z = 0 := by
  cases c
  · simpa using h
  · simp at h
/-- A valid list has one state of each name at most. -/
theorem stL_none_of : ∀ (L : List (List UInt8)) (prev : Option (List UInt8)) (S : List (List UInt8)), exL labK prev S L = 0 → ∀ l ∈ S, stL L l = []
  | [], _, _, _, _, _ => rfl
  | x :: r, prev, S, h, l, hl => by
    rw [exL_cons] at h
    cases hP : labP x with
    | none =>
      have hk : labK x = none := by unfold labK; rw [hP]; rfl
      rw [hk] at h
      simp at h
    | some q =>
      obtain ⟨a, s⟩ := q
      have hk : labK x = some a := by unfold labK; rw [hP]; rfl
      rw [hk] at h
      dsimp only at h
      by_cases hm : a ∈ S
      · rw [if_pos hm] at h; simp at h
      · rw [if_neg hm] at h
        replace h := ite22 h
        · rw [stL_some hP, if_neg (show ¬ a = l from fun e => hm (e.symm ▸ hl)), stL_none_of r (some x) (a :: S) h l (List.mem_cons_of_mem _ hl)]
          rfl
theorem stL_one : ∀ (L : List (List UInt8)) (prev : Option (List UInt8)) (S : List (List UInt8)), exL labK prev S L = 0 → ∀ l, stL L l = [] ∨ ∃ s, stL L l = [s] ∧ -1 ≤ s ∧ s ≤ 9007199254740992
  | [], _, _, _, _ => Or.inl rfl
  | x :: r, prev, S, h, l => by
    rw [exL_cons] at h
    cases hP : labP x with
    | none =>
      have hk : labK x = none := by unfold labK; rw [hP]; rfl
      rw [hk] at h
      simp at h
    | some q =>
      obtain ⟨a, s⟩ := q
      have hk : labK x = some a := by unfold labK; rw [hP]; rfl
      rw [hk] at h
      dsimp only at h
      by_cases hm : a ∈ S
      · rw [if_pos hm] at h; simp at h
      · rw [if_neg hm] at h
        replace h := ite22 h
        · rw [stL_some hP]
          by_cases e : a = l
          · subst e
            rw [if_pos rfl, stL_none_of r (some x) (a :: S) h a (List.mem_cons_self ..)]
            exact Or.inr ⟨s, rfl, labP_bounds hP⟩
          · rw [if_neg e]
            exact stL_one r (some x) (a :: S) h l
/-- The state that a list of labels gives to each name. -/
def stG (L : List (List UInt8)) (l : List UInt8) : Int × Int := match stL L l with
  | [] => (-2, -2)
  | s :: _ => (s, s)
theorem stG_ok {L : List (List UInt8)} (h : exF labK L = 0) (a : List UInt8) : (stG L a).1 = (stG L a).2 ∧ -2 ≤ (stG L a).1 ∧ (stG L a).2 ≤ 9007199254740992 := by
  have h' : exL labK none [] L = 0 := by
    unfold exF at h
    split at h
    · simp at h
    · exact h
  unfold stG
  rcases stL_one L none [] h' a with e | ⟨s, e, h1, h2⟩
  · rw [e]; dsimp only; omega
  · rw [e]; dsimp only; omega
theorem satB_iff {L : List (List UInt8)} (h : exF labK L = 0) (M : List (List UInt8)) : satB L M = true ↔ Within M (stG L) := by
  have h' : exL labK none [] L = 0 := by
    unfold exF at h
    split at h
    · simp at h
    · exact h
  have key : ∀ a lo hi, -2 ≤ lo → -2 ≤ hi → (inclB lo hi (srt (stL L a)) = true ↔ lo ≤ (stG L a).1 ∧ (stG L a).2 ≤ hi) := by
    intro a lo hi h1 h2
    unfold stG inclB
    rcases stL_one L none [] h' a with e | ⟨s, e, h3, h4⟩
    · rw [e, show srt ([] : List Int) = [] from by simp [srt], if_pos rfl]
      simp
      omega
    · rw [e, show srt [s] = [s] from by simp [srt], if_neg (by simp)]
      simp
  unfold satB satF Within
  rw [Bool.not_eq_true', List.any_eq_false]
  constructor
  · intro hs x hx
    have := hs x hx
    cases hN : needP x with
    | none => rw [hN] at this; simp at this
    | some q =>
      obtain ⟨a, lo, hi⟩ := q
      rw [hN] at this
      obtain ⟨b1, b2⟩ := needP_bounds hN
      exact ⟨a, lo, hi, rfl, (key a lo hi b1 b2).1 (by simpa using this)⟩
  · intro hs x hx
    obtain ⟨a, lo, hi, hN, hb⟩ := hs x hx
    obtain ⟨b1, b2⟩ := needP_bounds hN
    rw [hN]
    simp [(key a lo hi b1 b2).2 hb]
/-- Valid labels that satisfy requirements satisfy what these imply. -/
theorem sat_implies {L A B : List (List UInt8)} (h : exF labK L = 0) (h1 : satB L A = true) (h2 : impliesB A B = true) : satB L B = true :=
  (satB_iff h B).2 (within_of_implies h2 (stG L) (fun a => by have := stG_ok h a; omega) (fun a => by have := stG_ok h a; omega) ((satB_iff h A).1 h1))
end Go.Proofs.YtglckcenjnieaaaGreatDoor
