/- Steps of the tokens' loop (pure). -/
import Derived.Test.YtoliiiijbdoliaaDoorLexL
import Derived.Test.YtoliiiijbdoliaaDoorLexK
namespace Go.Proofs.YtoliiiijbdoliaaDoor
open Go.RowKit Go.Lib
set_option linter.unusedVariables false

theorem ign_cons (b : Bool) (c : UInt8) (r : List UInt8) : ignL b (c :: r) = if c ≠ 10 ∧ (b = true ∨ c = 32 ∨ c = 9 ∨ c = 35) then ignL (b || c == 35) r else c :: r := by rw [ignL]
/-- Texts of which the same is left are read alike. -/
theorem lexF_same {l m : List UInt8} (a b o : Nat) (nl : Bool) (h : ignL false l = ignL false m) (hlen : a + l.length = b + m.length) : lexF l a o nl = lexF m b o nl := by
  cases hm : ignL false m with
  | nil =>
    rw [hm] at h
    rw [lexF_nil _ _ _ h, lexF_nil _ _ _ hm]
  | cons c r =>
    rw [hm] at h
    rw [lexF_step _ _ _ h, lexF_step _ _ _ hm]
    have h1 := ign_le h
    have h2 := ign_le hm
    congr 1
    omega
theorem lexF_blank (c : UInt8) (r : List UInt8) (a o : Nat) (nl : Bool) (h : c = 32 ∨ c = 9) : lexF (c :: r) a o nl = lexF r (a + 1) o nl := by
  refine lexF_same a (a + 1) o nl ?_ (by rw [List.length_cons]; omega)
  rw [ign_cons, if_pos]
  · rcases h with rfl | rfl <;> rfl
  · rcases h with rfl | rfl
    · exact ⟨by decide, .inr (.inl rfl)⟩
    · exact ⟨by decide, .inr (.inr (.inl rfl))⟩
/-- The length of the first line. -/
def linL (l : List UInt8) : Nat := (l.takeWhile (fun c => !(c == 10))).length
theorem linL_le (l : List UInt8) : linL l ≤ l.length := (List.takeWhile_sublist _).length_le
theorem ign_line : ∀ r : List UInt8, ignL true r = r.drop (linL r) ∧ ignL false (r.drop (linL r)) = r.drop (linL r)
  | [] => ⟨rfl, rfl⟩
  | c :: r => by
    obtain ⟨h1, h2⟩ := ign_line r
    by_cases hc : c = 10
    · subst hc
      have e : linL (10 :: r) = 0 := by
        unfold linL
        rw [List.takeWhile_cons]
        rfl
      rw [e, List.drop_zero]
      exact ⟨by rw [ign_cons, if_neg (fun h => h.1 rfl)], by rw [ign_cons, if_neg (fun h => h.1 rfl)]⟩
    · have e : linL (c :: r) = linL r + 1 := by
        unfold linL
        rw [List.takeWhile_cons, show (!(c == 10)) = true by simpa using hc, if_pos rfl, List.length_cons]
      rw [e, List.drop_succ_cons]
      refine ⟨?_, h2⟩
      rw [ign_cons, if_pos ⟨hc, .inl rfl⟩, Bool.true_or]
      exact h1
theorem lexF_note (r : List UInt8) (a o : Nat) (nl : Bool) : lexF (35 :: r) a o nl = lexF ((35 :: r).drop (linL (35 :: r))) (a + linL (35 :: r)) o nl := by
  have e : linL (35 :: r) = linL r + 1 := by
    unfold linL
    rw [List.takeWhile_cons]
    rfl
  obtain ⟨h1, h2⟩ := ign_line r
  have hl := linL_le r
  rw [e, List.drop_succ_cons]
  refine lexF_same _ _ o nl ?_ (by rw [List.length_cons, List.length_drop]; omega)
  rw [ign_cons, if_pos ⟨by decide, .inr (.inr (.inr rfl))⟩, h2]
  exact h1
theorem ign_self {c : UInt8} (r : List UInt8) (h : c ≠ 32 ∧ c ≠ 9 ∧ c ≠ 35) : ignL false (c :: r) = c :: r := by
  rw [ign_cons, if_neg]
  rintro ⟨-, h1 | h1 | h1 | h1⟩
  · cases h1
  · exact h.1 h1
  · exact h.2.1 h1
  · exact h.2.2 h1
theorem lexF_line (r : List UInt8) (a o : Nat) (nl : Bool) (h : o ≠ 0 ∨ nl = true) : lexF (10 :: r) a o nl = lexF r (a + 1) o nl := by
  rw [lexF_step (c := 10) (r := r) a o nl (ign_self r (by decide))]
  unfold stepR
  rw [if_pos rfl, if_neg, List.length_cons, Nat.sub_self]
  · rintro ⟨h1, h2⟩
    rcases h with h | h
    · exact h h1
    · rw [h] at h2
      cases h2
/-- A token at the head. -/
theorem lexF_fir (c : UInt8) (r : List UInt8) (a o : Nat) (nl : Bool) (h : c ≠ 32 ∧ c ≠ 9 ∧ c ≠ 35) (h10 : c = 10 → o = 0 ∧ nl = false) :
    lexF (c :: r) a o nl = if (firF (c :: r)).2.2.2 ≠ 0 then .err a (firF (c :: r)).2.2.2 else (lexF ((c :: r).drop (firF (c :: r)).2.2.1) (a + (firF (c :: r)).2.2.1) (opn o (firF (c :: r)).1 (firF (c :: r)).2.1) ((firF (c :: r)).1 == 5)).add [⟨(firF (c :: r)).1, (firF (c :: r)).2.1, a⟩] := by
  rw [lexF_step a o nl (ign_self r h), List.length_cons, Nat.sub_self, Nat.add_zero]
  unfold stepR
  by_cases hc : c = 10
  · subst hc
    obtain ⟨rfl, rfl⟩ := h10 rfl
    rw [if_pos rfl, if_pos ⟨rfl, rfl⟩]
    have e : firF (10 :: r) = (5, [], 1, 0) := by
      rw [firF_cons]
      rfl
    rw [e]
    simp only [ne_eq, not_true_eq_false, if_false]
    rfl
  · rw [if_neg hc]
    obtain ⟨h1, h2⟩ := firF_tok c r hc
    rw [h1]
    by_cases he : (firF (c :: r)).2.2.2 = 0
    · rw [if_neg (fun g => g he), if_neg (fun g => g he), h2 he]
      have hk := tokA_kind c r (by rw [h1]; exact he)
      rw [h2 he] at hk
      have h5 : ((firF (c :: r)).1 == 5) = false := by
        rw [beq_eq_false_iff_ne]
        omega
      rw [h5]
    · rw [if_pos he, if_pos he]
end Go.Proofs.YtoliiiijbdoliaaDoor
