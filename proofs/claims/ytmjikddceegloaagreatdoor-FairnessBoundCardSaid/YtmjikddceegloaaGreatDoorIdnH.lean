/- Natural order is a total order: the plain functions of ident alone. -/
import Derived.Test.YtmjikddceegloaaGreatDoorIdnG
namespace Go.Proofs.YtmjikddceegloaaGreatDoor
open Go.RowKit Go.Lib

structure Tot {α : Type} (c : α → α → Int) : Prop where
  rng : ∀ x y, c x y = -1 ∨ c x y = 0 ∨ c x y = 1
  anti : ∀ x y, c y x = - c x y
  eq : ∀ x y, c x y = 0 ↔ x = y
  tr : ∀ x y z, c x y ≤ 0 → c y z ≤ 0 → c x z ≤ 0
def natC (x y : Nat) : Int := if x < y then -1 else if y < x then 1 else 0
theorem natC_tot : Tot natC where
  rng := fun x y => by unfold natC; split <;> (try split) <;> omega
  anti := fun x y => by unfold natC; split <;> split <;> (try split) <;> omega
  eq := fun x y => by unfold natC; split <;> (try split) <;> omega
  tr := fun x y z => by
    unfold natC
    intro h1 h2
    split <;> (try split) <;> (split at h1 <;> (try split at h1)) <;> (split at h2 <;> (try split at h2)) <;> omega
/-- Lists, element by element; a list that ends is less. -/
def lexC {α : Type} (c : α → α → Int) : List α → List α → Int
  | [], [] => 0
  | [], _ :: _ => -1
  | _ :: _, [] => 1
  | x :: a, y :: b => if c x y ≠ 0 then c x y else lexC c a b
theorem lexC_rng {α : Type} {c : α → α → Int} (h : Tot c) : ∀ a b, lexC c a b = -1 ∨ lexC c a b = 0 ∨ lexC c a b = 1
  | [], [] => by simp [lexC]
  | [], _ :: _ => by simp [lexC]
  | _ :: _, [] => by simp [lexC]
  | x :: a, y :: b => by
    unfold lexC
    split
    · exact h.rng x y
    · exact lexC_rng h a b
theorem lexC_anti {α : Type} {c : α → α → Int} (h : Tot c) : ∀ a b, lexC c b a = - lexC c a b
  | [], [] => by simp [lexC]
  | [], _ :: _ => by simp [lexC]
  | _ :: _, [] => by simp [lexC]
  | x :: a, y :: b => by
    unfold lexC
    have := h.anti x y
    by_cases e : c x y = 0
    · rw [if_neg (by omega), if_neg (by omega)]
      exact lexC_anti h a b
    · rw [if_pos (by omega), if_pos (by omega)]
      exact this
theorem lexC_eq {α : Type} {c : α → α → Int} (h : Tot c) : ∀ a b, lexC c a b = 0 ↔ a = b
  | [], [] => by simp [lexC]
  | [], _ :: _ => by simp [lexC]
  | _ :: _, [] => by simp [lexC]
  | x :: a, y :: b => by
    unfold lexC
    by_cases e : c x y = 0
    · rw [if_neg (by omega), lexC_eq h a b]
      have := (h.eq x y).1 e
      subst this
      simp
    · rw [if_pos (by omega)]
      constructor
      · intro h2; exact absurd h2 e
      · intro h2
        injection h2 with h3 _
        exact absurd ((h.eq x y).2 h3) e
theorem lexC_tr {α : Type} {c : α → α → Int} (h : Tot c) : ∀ a b d, lexC c a b ≤ 0 → lexC c b d ≤ 0 → lexC c a d ≤ 0
  | [], _, [], _, _ => by simp [lexC]
  | [], _, _ :: _, _, _ => by simp [lexC]
  | _ :: _, [], _, h1, _ => by simp [lexC] at h1
  | _ :: _, _ :: _, [], _, h2 => by simp [lexC] at h2
  | x :: a, y :: b, z :: d, h1, h2 => by
    unfold lexC at h1 h2 ⊢
    by_cases e1 : c x y = 0
    · rw [if_neg (by omega)] at h1
      have hxy := (h.eq x y).1 e1
      subst hxy
      by_cases e2 : c x z = 0
      · rw [if_neg (by omega)] at h2 ⊢
        exact lexC_tr h a b d h1 h2
      · rw [if_pos e2] at h2 ⊢
        exact h2
    · rw [if_pos e1] at h1
      by_cases e2 : c y z = 0
      · have hyz := (h.eq y z).1 e2
        subst hyz
        rw [if_pos e1]
        exact h1
      · rw [if_pos e2] at h2
        have h3 := h.tr x y z h1 h2
        by_cases e3 : c x z = 0
        · have hxz := (h.eq x z).1 e3
          subst hxz
          have := h.anti x y
          omega
        · rw [if_pos e3]
          exact h3
theorem lexC_tot {α : Type} {c : α → α → Int} (h : Tot c) : Tot (lexC c) := ⟨lexC_rng h, lexC_anti h, lexC_eq h, lexC_tr h⟩

/-- The key of a run, and of another byte. -/
def runK (e : List UInt8) : List Nat := 1 :: (stripL e).length :: ((stripL e).map (·.toNat) ++ [e.length])
def byteK (x : UInt8) : List Nat := [if x.toNat < 48 then 0 else 2, x.toNat]
def keys : List UInt8 → List (List Nat)
  | [] => []
  | x :: a => if dg x = true then runK (x :: a.takeWhile dg) :: keys (a.dropWhile dg) else byteK x :: keys a
termination_by a => a.length
decreasing_by
  · have := dropW_le a; simp only [List.length_cons]; omega
  · simp only [List.length_cons]; omega

theorem natC_ord (x y : Nat) : natC x y = ordI (decide (x < y)) (decide (y < x)) := by
  unfold natC ordI
  simp
theorem lex_tail : ∀ (s t : List UInt8) (n m : Nat), s.length = t.length → lexC natC (s.map (·.toNat) ++ [n]) (t.map (·.toNat) ++ [m]) = if s ≠ t then (if Op.bytesLess s t = true then -1 else 1) else natC n m
  | [], [], n, m, _ => by
    simp only [List.map_nil, List.nil_append, lexC]
    by_cases h : natC n m = 0 <;> simp [h]
  | [], _ :: _, _, _, h => by simp at h
  | _ :: _, [], _, _, h => by simp at h
  | x :: s, y :: t, n, m, h => by
    simp only [List.map_cons, List.cons_append, lexC]
    have ih := lex_tail s t n m (by simpa using h)
    by_cases hxy : x = y
    · subst hxy
      have h0 : natC x.toNat x.toNat = 0 := by simp [natC]
      have hb : Op.bytesLess (x :: s) (x :: t) = Op.bytesLess s t := by simp [Op.bytesLess]
      rw [h0, hb, ih]
      by_cases hst : s = t <;> simp [hst]
    · have hn : x.toNat ≠ y.toNat := fun e => hxy (UInt8.toNat_inj.1 e)
      rw [if_pos (by unfold natC; split <;> (try split) <;> omega), if_pos (by simp [hxy]), Op.bytesLess]
      by_cases hlt : x.toNat < y.toNat
      · have : x < y := hlt
        simp [natC, hlt, this]
      · have h2 : ¬ x < y := hlt
        have h3 : y.toNat < x.toNat := by omega
        simp [natC, hlt, h2, h3, hxy]
theorem runs_key (e f : List UInt8) : runsI e f = lexC natC (runK e) (runK f) := by
  have hk : ∀ (n m : Nat) (S T : List Nat), lexC natC (1 :: n :: S) (1 :: m :: T) = if natC n m ≠ 0 then natC n m else lexC natC S T := by
    intro n m S T
    simp [lexC, natC]
  unfold runsI runK
  rw [hk]
  by_cases h : (stripL e).length = (stripL f).length
  · have h0 : natC (stripL e).length (stripL f).length = 0 := by rw [h]; simp [natC]
    rw [h0, lex_tail _ _ _ _ h, natC_ord]
    by_cases h2 : stripL e = stripL f <;> simp [h, h2]
  · have h0 : natC (stripL e).length (stripL f).length ≠ 0 := by unfold natC; split <;> (try split) <;> omega
    have h9 : (stripL e).length ≠ (stripL f).length := h
    rw [if_pos h9, if_pos h0, natC_ord]
theorem dg_bounds {x : UInt8} : dg x = true ↔ 48 ≤ x.toNat ∧ x.toNat ≤ 57 := by simp [dg, digB]
theorem cmp_keys : ∀ a b : List UInt8, cmpL a b = lexC (lexC natC) (keys a) (keys b)
  | [], [] => by rw [cmpL, keys]; rfl
  | [], y :: b => by
    rw [cmpL, keys, keys]
    split <;> rfl
  | x :: a, [] => by
    rw [cmpL, keys, keys]
    split <;> rfl
  | x :: a, y :: b => by
    rw [cmpL, keys, keys]
    by_cases hx : dg x = true
    · by_cases hy : dg y = true
      · have ih := cmp_keys (a.dropWhile dg) (b.dropWhile dg)
        rw [if_pos (by rw [hx, hy]; rfl), if_pos hx, if_pos hy, lexC, ← runs_key, ih]
      · have bx := dg_bounds.1 hx
        have hny : ¬ (48 ≤ y.toNat ∧ y.toNat ≤ 57) := fun h => hy (dg_bounds.2 h)
        rw [if_neg (by simp [hx, hy]), if_pos hx, if_neg hy, lexC]
        unfold runK byteK
        rw [lexC]
        by_cases h48 : y.toNat < 48
        · rw [if_neg (by omega), if_pos (by omega)]
          simp [natC, h48]
        · rw [if_pos (by omega)]
          simp [natC, h48]
    · have hnx : ¬ (48 ≤ x.toNat ∧ x.toNat ≤ 57) := fun h => hx (dg_bounds.2 h)
      by_cases hy : dg y = true
      · have by' := dg_bounds.1 hy
        rw [if_neg (by simp [hx]), if_neg hx, if_pos hy, lexC]
        unfold runK byteK
        rw [lexC]
        by_cases h48 : x.toNat < 48
        · rw [if_pos (by omega)]
          simp [natC, h48]
        · rw [if_neg (by omega), if_pos (by omega)]
          simp [natC, h48]
      · have hny : ¬ (48 ≤ y.toNat ∧ y.toNat ≤ 57) := fun h => hy (dg_bounds.2 h)
        have ih := cmp_keys a b
        rw [if_neg (by simp [hx]), if_neg hx, if_neg hy, lexC, ih]
        have hb : lexC natC (byteK x) (byteK y) = natC x.toNat y.toNat := by
          unfold byteK
          rw [lexC, lexC, lexC]
          by_cases h1 : x.toNat < 48 <;> by_cases h2 : y.toNat < 48 <;> simp [natC, h1, h2] <;> (try (split <;> (try split) <;> omega)) <;> omega
        rw [hb]
        unfold natC
        by_cases h1 : x.toNat < y.toNat
        · simp [h1]
        · by_cases h2 : y.toNat < x.toNat
          · simp [h1, h2]
          · simp [h1, h2]
termination_by a => a.length
decreasing_by
  all_goals simp_wf
  · have := dropW_le a; omega

theorem take48 : ∀ l : List UInt8, l.takeWhile (fun b => b.toNat == 48) = List.replicate (l.takeWhile fun b => b.toNat == 48).length 48
  | [] => rfl
  | x :: l => by
    rw [List.takeWhile_cons]
    split
    · rename_i h
      have hx : x = 48 := UInt8.toNat_inj.1 (by simpa using h)
      rw [List.length_cons, List.replicate_succ, ← take48 l, hx]
    · rfl
theorem runK_inj {e f : List UInt8} (h : runK e = runK f) : e = f := by
  unfold runK at h
  injection h with _ h
  injection h with h1 h2
  have h3 := List.append_inj' h2 rfl
  have h4 : stripL e = stripL f := by
    have h5 : ∀ a b : List UInt8, a.map (·.toNat) = b.map (·.toNat) → a = b := by
      intro a
      induction a with
      | nil => intro b hb; cases b with
        | nil => rfl
        | cons y b => simp at hb
      | cons x a ih => intro b hb; cases b with
        | nil => simp at hb
        | cons y b =>
          simp only [List.map_cons, List.cons.injEq] at hb
          rw [UInt8.toNat_inj.1 hb.1, ih b hb.2]
    exact h5 _ _ h3.1
  have h6 : e.length = f.length := by simpa using h3.2
  have he := List.takeWhile_append_dropWhile (p := fun b : UInt8 => b.toNat == 48) (l := e)
  have hf := List.takeWhile_append_dropWhile (p := fun b : UInt8 => b.toNat == 48) (l := f)
  have le := congrArg List.length he
  have lf := congrArg List.length hf
  rw [List.length_append] at le lf
  have hd : e.dropWhile (fun b : UInt8 => b.toNat == 48) = f.dropWhile (fun b : UInt8 => b.toNat == 48) := h4
  rw [hd] at le
  have hlen : (e.takeWhile fun b : UInt8 => b.toNat == 48).length = (f.takeWhile fun b : UInt8 => b.toNat == 48).length := by omega
  rw [← he, ← hf, hd, take48 e, take48 f, hlen]
theorem keys_inj : ∀ a b : List UInt8, keys a = keys b → a = b
  | [], [], _ => rfl
  | [], y :: b, h => by rw [keys, keys] at h; split at h <;> simp at h
  | x :: a, [], h => by rw [keys, keys] at h; split at h <;> simp at h
  | x :: a, y :: b, h => by
    rw [keys, keys] at h
    by_cases hx : dg x = true
    · by_cases hy : dg y = true
      · rw [if_pos hx, if_pos hy] at h
        injection h with h1 h2
        have h3 := runK_inj h1
        have h4 := keys_inj (a.dropWhile dg) (b.dropWhile dg) h2
        injection h3 with h5 h6
        rw [h5, ← List.takeWhile_append_dropWhile (p := dg) (l := a), ← List.takeWhile_append_dropWhile (p := dg) (l := b), h6, h4]
      · rw [if_pos hx, if_neg hy] at h
        injection h with h1 _
        unfold runK byteK at h1
        injection h1 with h2 _
        split at h2 <;> omega
    · by_cases hy : dg y = true
      · rw [if_neg hx, if_pos hy] at h
        injection h with h1 _
        unfold runK byteK at h1
        injection h1 with h2 _
        split at h2 <;> omega
      · rw [if_neg hx, if_neg hy] at h
        injection h with h1 h2
        unfold byteK at h1
        injection h1 with _ h3
        injection h3 with h4 _
        rw [UInt8.toNat_inj.1 h4, keys_inj a b h2]
termination_by a => a.length
decreasing_by
  all_goals simp_wf
  · have := dropW_le a; omega
/-- TOTAL ORDER. -/
theorem cmp_tot : Tot cmpL where
  rng := fun a b => by rw [cmp_keys]; exact (lexC_tot (lexC_tot natC_tot)).rng _ _
  anti := fun a b => by rw [cmp_keys, cmp_keys]; exact (lexC_tot (lexC_tot natC_tot)).anti _ _
  eq := fun a b => by
    rw [cmp_keys, (lexC_tot (lexC_tot natC_tot)).eq]
    exact ⟨keys_inj a b, fun h => by rw [h]⟩
  tr := fun a b c => by rw [cmp_keys, cmp_keys, cmp_keys]; exact (lexC_tot (lexC_tot natC_tot)).tr _ _ _
end Go.Proofs.YtmjikddceegloaaGreatDoor
