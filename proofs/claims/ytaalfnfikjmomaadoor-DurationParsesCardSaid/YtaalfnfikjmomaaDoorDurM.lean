/- The texts of durations and what they stand for (layer 5), as plain functions on lists of bytes: each is the inverse of the other. No function of the program is named. -/
import Derived.Test.YtaalfnfikjmomaaDoorRows
namespace Go.Proofs.YtaalfnfikjmomaaDoor

/-- The decimal digits of a number. -/
def decN (n : Nat) : List UInt8 := if h : 9 < n then decN (n / 10) ++ [(48 + n % 10).toUInt8] else [(48 + n).toUInt8]
termination_by n
decreasing_by omega
theorem decN_big {n : Nat} (h : 9 < n) : decN n = decN (n / 10) ++ [(48 + n % 10).toUInt8] := by rw [decN, dif_pos h]
theorem decN_small {n : Nat} (h : ¬ 9 < n) : decN n = [(48 + n).toUInt8] := by rw [decN, dif_neg h]

/-- The number that begins a text, at most 99999999, and what is left of the text. -/
def numL (acc : Nat) : List UInt8 → Nat × List UInt8
  | [] => (acc, [])
  | c :: r => if 48 ≤ c.toNat ∧ c.toNat ≤ 57 then numL (min (10 * acc + (c.toNat - 48)) 99999999) r else (acc, c :: r)
def unitL (l : List UInt8) : Option Nat :=
  if l.head? = some 109 ∧ l.tail.head? = some 115 then some 4 else if l.head? = some 100 then some 0 else if l.head? = some 104 then some 1 else if l.head? = some 109 then some 2 else if l.head? = some 115 then some 3 else none
def nameU : Nat → List UInt8
  | 0 => [100] | 1 => [104] | 2 => [109] | 3 => [115] | _ => [109, 115]
def sizeU : Nat → Nat
  | 0 => 86400000 | 1 => 3600000 | 2 => 60000 | 3 => 1000 | _ => 1
def belowU : Nat → Nat
  | 0 => 0 | 1 => 24 | 2 => 60 | 3 => 60 | _ => 1000
/-- What the units from the j-th last one on stay below. -/
def limJ : Nat → Nat
  | 0 => 1 | 1 => 1000 | 2 => 60000 | 3 => 3600000 | 4 => 86400000 | _ => 1125900086400000

/-- The sum of a text's parts, whose units come behind the first k ones; and whether a number of days is too large. -/
def parseL : Nat → List UInt8 → Nat → Nat → Bool → Option (Nat × Bool)
  | 0, l, sum, _, large => if l = [] then some (sum, large) else none
  | f + 1, l, sum, k, large =>
    if l = [] then some (sum, large) else
    match unitL (numL 0 l).2 with
    | none => none
    | some u =>
      if (numL 0 l).2.length = l.length ∨ l.head? = some 48 ∨ u < k ∨ (0 < u ∧ belowU u ≤ (numL 0 l).1) then none
      else if u = 0 ∧ 13031250 < (numL 0 l).1 then parseL f ((numL 0 l).2.drop (nameU u).length) sum (u + 1) true
      else parseL f ((numL 0 l).2.drop (nameU u).length) (sum + (numL 0 l).1 * sizeU u) (u + 1) large
/-- The text of a number by its j last units. -/
def showJ : Nat → Nat → List UInt8
  | 0, _ => []
  | j + 1, m => if 0 < m / limJ j then decN (m / limJ j) ++ (nameU (4 - j) ++ showJ j (m % limJ j)) else showJ j (m % limJ j)

theorem toN (x : Nat) (h : x < 256) : x.toUInt8.toNat = x := by simp; omega
theorem numL_not {acc : Nat} {r : List UInt8} (h : ∀ c, r.head? = some c → ¬ (48 ≤ c.toNat ∧ c.toNat ≤ 57)) : numL acc r = (acc, r) := by
  cases r with
  | nil => rfl
  | cons c r => rw [numL, if_neg (h c rfl)]
/-- A number's digits are read as the number. -/
theorem numL_dec : ∀ (n : Nat) (r : List UInt8), n ≤ 99999999 → numL 0 (decN n ++ r) = numL n r := by
  intro n
  induction n using Nat.strongRecOn with
  | _ n ih =>
    intro r hn
    by_cases h : 9 < n
    · rw [decN_big h, List.append_assoc, ih (n / 10) (by omega) _ (by omega), List.singleton_append, numL, toN _ (by omega), if_pos (by omega)]
      congr 1
      omega
    · rw [decN_small h, List.singleton_append, numL, toN _ (by omega), if_pos (by omega)]
      congr 1
      omega
theorem decN_head : ∀ n, 0 < n → ∃ c r, decN n = c :: r ∧ 49 ≤ c.toNat ∧ c.toNat ≤ 57 := by
  intro n
  induction n using Nat.strongRecOn with
  | _ n ih =>
    intro hn
    by_cases h : 9 < n
    · obtain ⟨c, r, e, h1, h2⟩ := ih (n / 10) (by omega) (by omega)
      exact ⟨c, r ++ [(48 + n % 10).toUInt8], by rw [decN_big h, e]; rfl, h1, h2⟩
    · exact ⟨_, [], by rw [decN_small h], by rw [toN _ (by omega)]; omega, by rw [toN _ (by omega)]; omega⟩
/-- What stands for no part, or for parts, begins with no letter. -/
theorem showJ_head : ∀ j m c, (showJ j m).head? = some c → 48 ≤ c.toNat ∧ c.toNat ≤ 57
  | 0, m, c, h => by simp [showJ] at h
  | j + 1, m, c, h => by
    rw [showJ] at h
    split at h
    · rename_i hq
      obtain ⟨c', r, e, h1, h2⟩ := decN_head _ hq
      rw [e] at h
      simp at h
      subst h
      omega
    · exact showJ_head j _ c h
theorem unitL_name (u : Nat) (hu : u ≤ 4) (r : List UInt8) (h : ∀ c, r.head? = some c → 48 ≤ c.toNat ∧ c.toNat ≤ 57) : unitL (nameU u ++ r) = some u := by
  rcases (show u = 0 ∨ u = 1 ∨ u = 2 ∨ u = 3 ∨ u = 4 by omega) with rfl | rfl | rfl | rfl | rfl
  · simp [unitL, nameU]
  · simp [unitL, nameU]
  · have : r.head? ≠ some 115 := fun e => by have := h _ e; simp at this
    simp [unitL, nameU, this]
  · simp [unitL, nameU]
  · simp [unitL, nameU]
theorem unit_of {l : List UInt8} {u : Nat} (h : unitL l = some u) : u ≤ 4 ∧ l = nameU u ++ l.drop (nameU u).length := by
  unfold unitL at h
  cases l with
  | nil => simp at h
  | cons a l =>
    split at h
    · rename_i h1
      cases l with
      | nil => simp at h1
      | cons b l =>
        simp at h1 h
        obtain ⟨rfl, rfl⟩ := h1
        subst h
        simp [nameU]
    · split at h
      · rename_i h1; simp at h1 h; subst h1 h; simp [nameU]
      · split at h
        · rename_i h1; simp at h1 h; subst h1 h; simp [nameU]
        · split at h
          · rename_i h1; simp at h1 h; subst h1 h; simp [nameU]
          · split at h
            · rename_i h1; simp at h1 h; subst h1 h; simp [nameU]
            · cases h
theorem lim_size (j : Nat) (hj : j ≤ 4) : limJ j = sizeU (4 - j) := by
  rcases (show j = 0 ∨ j = 1 ∨ j = 2 ∨ j = 3 ∨ j = 4 by omega) with rfl | rfl | rfl | rfl | rfl <;> rfl
theorem lim_pos (j : Nat) : 0 < limJ j := by
  match j with
  | 0 | 1 | 2 | 3 | 4 => decide
  | _ + 5 => show 0 < 1125900086400000; decide
/-- A number below the bound has a quotient that its unit allows. -/
theorem quot_ok {j m : Nat} (hj : j ≤ 4) (hm : m < limJ (j + 1)) : m / limJ j ≤ 13031250 ∧ ¬ (0 < 4 - j ∧ belowU (4 - j) ≤ m / limJ j) := by
  rcases (show j = 0 ∨ j = 1 ∨ j = 2 ∨ j = 3 ∨ j = 4 by omega) with rfl | rfl | rfl | rfl | rfl <;> simp [limJ, belowU] at hm ⊢ <;> omega
theorem size_ok {u n m : Nat} (hu : u ≤ 4) (hm : m < sizeU u) (hn : n ≤ 13031250) (hb : ¬ (0 < u ∧ belowU u ≤ n)) : n * sizeU u + m < limJ (5 - u) := by
  rcases (show u = 0 ∨ u = 1 ∨ u = 2 ∨ u = 3 ∨ u = 4 by omega) with rfl | rfl | rfl | rfl | rfl <;> simp [limJ, belowU, sizeU] at hm hb ⊢ <;> omega

/-- **The text of a number stands for it.** -/
theorem parse_show : ∀ (j : Nat) (f k m sum : Nat) (large : Bool), j ≤ 5 → j ≤ f → k ≤ 5 - j → m < limJ j → parseL f (showJ j m) sum k large = some (sum + m, large) := by
  intro j
  induction j with
  | zero =>
    intro f k m sum large _ _ _ hm
    have : m = 0 := by simp [limJ] at hm; omega
    subst this
    cases f <;> simp [parseL, showJ]
  | succ j ih =>
    intro f k m sum large hj hf hk hm
    obtain ⟨f, rfl⟩ : ∃ g, f = g + 1 := ⟨f - 1, by omega⟩
    have hmod : m % limJ j < limJ j := Nat.mod_lt _ (lim_pos j)
    have hdm := Nat.div_add_mod m (limJ j)
    rw [showJ]
    by_cases hq : 0 < m / limJ j
    · obtain ⟨hq1, hq2⟩ := quot_ok (by omega) hm
      rw [if_pos hq]
      obtain ⟨c, r, ec, hc1, hc2⟩ := decN_head _ hq
      have hhd := showJ_head j (m % limJ j)
      have hnl : numL 0 (decN (m / limJ j) ++ (nameU (4 - j) ++ showJ j (m % limJ j))) = (m / limJ j, nameU (4 - j) ++ showJ j (m % limJ j)) := by
        rw [numL_dec _ _ (by omega), numL_not]
        intro c hc
        rcases (show j = 0 ∨ j = 1 ∨ j = 2 ∨ j = 3 ∨ j = 4 by omega) with rfl | rfl | rfl | rfl | rfl <;> simp [nameU] at hc <;> subst hc <;> simp
      have hne : decN (m / limJ j) ++ (nameU (4 - j) ++ showJ j (m % limJ j)) ≠ [] := by rw [ec]; simp
      have hlen : (nameU (4 - j) ++ showJ j (m % limJ j)).length ≠ (decN (m / limJ j) ++ (nameU (4 - j) ++ showJ j (m % limJ j))).length := by rw [ec]; simp; omega
      have hh : (decN (m / limJ j) ++ (nameU (4 - j) ++ showJ j (m % limJ j))).head? ≠ some 48 := by rw [ec]; intro e; simp at e; subst e; simp at hc1
      rw [parseL, if_neg hne, hnl]
      dsimp only
      rw [unitL_name (4 - j) (by omega) _ hhd]
      dsimp only
      rw [if_neg (fun h => h.elim (fun h => hlen h) fun h => h.elim (fun h => hh h) fun h => h.elim (fun h => by omega) fun h => hq2 h), if_neg (by omega), List.drop_left', ih f (4 - j + 1) _ _ _ (by omega) (by omega) (by omega) hmod]
      · rw [← lim_size j (by omega), Nat.add_assoc, Nat.mul_comm, hdm]
      · rfl
    · rw [if_neg hq, ih (f + 1) k _ _ _ (by omega) (by omega) (by omega) hmod]
      have : m / limJ j = 0 := Nat.eq_zero_of_not_pos hq
      rw [this, Nat.mul_zero, Nat.zero_add] at hdm
      rw [hdm]

/-- Once a number of days was too large it stays so. -/
theorem parse_large : ∀ (f : Nat) (l : List UInt8) (sum k t : Nat) (b : Bool), parseL f l sum k true = some (t, b) → b = true := by
  intro f
  induction f with
  | zero =>
    intro l sum k t b h
    rw [parseL] at h
    split at h
    · injection h with h; injection h with _ h2; exact h2.symm
    · cases h
  | succ f ih =>
    intro l sum k t b h
    rw [parseL] at h
    split at h
    · injection h with h; injection h with _ h2; exact h2.symm
    · split at h
      · cases h
      · split at h
        · cases h
        · split at h
          · exact ih _ _ _ _ _ h
          · exact ih _ _ _ _ _ h
theorem numL_le : ∀ (l : List UInt8) (acc : Nat), acc ≤ 99999999 → acc ≤ (numL acc l).1
  | [], acc, _ => Nat.le_refl _
  | c :: r, acc, h => by
    rw [numL]
    split
    · have := numL_le r (min (10 * acc + (c.toNat - 48)) 99999999) (by omega)
      omega
    · exact Nat.le_refl _
theorem u8_of {c : UInt8} {x : Nat} (h : c.toNat = x) : x.toUInt8 = c := by subst h; simp
/-- A number that was read without loss is written as it was read. -/
theorem numL_back : ∀ (l : List UInt8) (acc : Nat), 0 < acc → acc < 99999999 → (numL acc l).1 < 99999999 → decN (numL acc l).1 ++ (numL acc l).2 = decN acc ++ l
  | [], acc, _, _, _ => rfl
  | c :: r, acc, h0, h1, h => by
    rw [numL] at h ⊢
    by_cases hd : 48 ≤ c.toNat ∧ c.toNat ≤ 57
    · rw [if_pos hd] at h ⊢
      have hle := numL_le r (min (10 * acc + (c.toNat - 48)) 99999999) (by omega)
      have hm : min (10 * acc + (c.toNat - 48)) 99999999 = 10 * acc + (c.toNat - 48) := by omega
      rw [hm] at h ⊢ hle
      rw [numL_back r _ (by omega) (by omega) h, decN_big (by omega)]
      rw [show (10 * acc + (c.toNat - 48)) / 10 = acc by omega, show 48 + (10 * acc + (c.toNat - 48)) % 10 = c.toNat by omega, u8_of rfl, List.append_assoc]
      rfl
    · rw [if_neg hd]
theorem num_back {l : List UInt8} (hl : (numL 0 l).2.length ≠ l.length) (h0 : l.head? ≠ some 48) (hn : (numL 0 l).1 < 99999999) : 0 < (numL 0 l).1 ∧ l = decN (numL 0 l).1 ++ (numL 0 l).2 := by
  cases l with
  | nil => simp [numL] at hl
  | cons c r =>
    have hc : c.toNat ≠ 48 := fun e => h0 (by rw [List.head?_cons]; congr 1; exact UInt8.toNat_inj.1 (by rw [e]; rfl))
    rw [numL] at hl hn ⊢
    by_cases hd : 48 ≤ c.toNat ∧ c.toNat ≤ 57
    · rw [if_pos hd] at hl hn ⊢
      have hm : min (10 * 0 + (c.toNat - 48)) 99999999 = c.toNat - 48 := by omega
      rw [hm] at hl hn ⊢
      have hle := numL_le r (c.toNat - 48) (by omega)
      refine ⟨by omega, ?_⟩
      rw [numL_back r _ (by omega) (by omega) hn, decN_small (by omega), show 48 + (c.toNat - 48) = c.toNat by omega, u8_of rfl]
      rfl
    · rw [if_neg hd] at hl
      exact absurd rfl hl
theorem showJ_skip : ∀ (j i m : Nat), i ≤ j → j ≤ 5 → m < limJ i → showJ j m = showJ i m := by
  intro j
  induction j with
  | zero => intro i m hi _ _; rw [show i = 0 by omega]
  | succ j ih =>
    intro i m hi hj hm
    by_cases e : i = j + 1
    · rw [e]
    · have hlt : m < limJ j := by
        have hmono : ∀ a b : Nat, a ≤ b → b ≤ 4 → limJ a ≤ limJ b := by
          intro a b h1 h2
          rcases (show b = 0 ∨ b = 1 ∨ b = 2 ∨ b = 3 ∨ b = 4 by omega) with rfl | rfl | rfl | rfl | rfl <;>
            rcases (show a = 0 ∨ a = 1 ∨ a = 2 ∨ a = 3 ∨ a = 4 by omega) with rfl | rfl | rfl | rfl | rfl <;> simp [limJ] <;> omega
        exact Nat.lt_of_lt_of_le hm (hmono i j (by omega) (by omega))
      rw [showJ, if_neg (by rw [Nat.div_eq_of_lt hlt]; omega), Nat.mod_eq_of_lt hlt]
      exact ih i m (by omega) (by omega) hm

/-- **A text that stands for a number is the number's text.** -/
theorem show_parse : ∀ (f : Nat) (l : List UInt8) (sum k t : Nat), k ≤ 5 → parseL f l sum k false = some (t, false) → ∃ m, t = sum + m ∧ m < limJ (5 - k) ∧ l = showJ (5 - k) m := by
  have nil : ∀ k, showJ (5 - k) 0 = [] := by
    intro k
    have := showJ_skip (5 - k) 0 0 (by omega) (by omega) (by decide)
    rw [this]
    rfl
  intro f
  induction f with
  | zero =>
    intro l sum k t hk h
    rw [parseL] at h
    split at h
    · rename_i hl
      injection h with h
      injection h with h1 _
      exact ⟨0, by omega, lim_pos _, by rw [nil, hl]⟩
    · cases h
  | succ f ih =>
    intro l sum k t hk h
    rw [parseL] at h
    split at h
    · rename_i hl
      injection h with h
      injection h with h1 _
      exact ⟨0, by omega, lim_pos _, by rw [nil, hl]⟩
    · rename_i hl
      split at h
      · cases h
      · rename_i u hu
        obtain ⟨hu4, hr⟩ := unit_of hu
        split at h
        · cases h
        · rename_i hc
          have c1 : (numL 0 l).2.length ≠ l.length := fun e => hc (.inl e)
          have c2 : l.head? ≠ some 48 := fun e => hc (.inr (.inl e))
          have c3 : ¬ u < k := fun e => hc (.inr (.inr (.inl e)))
          have c4 : ¬ (0 < u ∧ belowU u ≤ (numL 0 l).1) := fun e => hc (.inr (.inr (.inr e)))
          split at h
          · exact absurd (parse_large _ _ _ _ _ _ h) (by decide)
          · rename_i hd
            have hn : (numL 0 l).1 ≤ 13031250 := by
              by_cases u0 : u = 0
              · omega
              · have : belowU u ≤ 1000 := by
                  rcases (show u = 1 ∨ u = 2 ∨ u = 3 ∨ u = 4 by omega) with rfl | rfl | rfl | rfl <;> decide
                omega
            obtain ⟨hp, hb⟩ := num_back c1 c2 (by omega)
            obtain ⟨m, e1, e2, e3⟩ := ih _ _ _ _ (by omega) h
            have hs : limJ (5 - (u + 1)) = sizeU u := by rw [lim_size _ (by omega)]; congr 1; omega
            have hsp : 0 < sizeU u := by rw [← hs]; exact lim_pos _
            rw [hs] at e2
            have hlt := size_ok hu4 e2 hn c4
            refine ⟨(numL 0 l).1 * sizeU u + m, by omega, ?_, ?_⟩
            · have hk5 : limJ (5 - u) ≤ limJ (5 - k) := by
                rcases (show u = 0 ∨ u = 1 ∨ u = 2 ∨ u = 3 ∨ u = 4 by omega) with rfl | rfl | rfl | rfl | rfl <;>
                  rcases (show k = 0 ∨ k = 1 ∨ k = 2 ∨ k = 3 ∨ k = 4 ∨ k = 5 by omega) with rfl | rfl | rfl | rfl | rfl | rfl <;> simp [limJ] at c3 ⊢ <;> omega
              exact Nat.lt_of_lt_of_le hlt hk5
            · rw [showJ_skip (5 - k) (5 - u) _ (by omega) (by omega) hlt, show 5 - u = (5 - (u + 1)) + 1 by omega, showJ, hs]
              have hq : ((numL 0 l).1 * sizeU u + m) / sizeU u = (numL 0 l).1 := by rw [Nat.mul_comm, Nat.mul_add_div hsp, Nat.div_eq_of_lt e2, Nat.add_zero]
              have hm : ((numL 0 l).1 * sizeU u + m) % sizeU u = m := by rw [Nat.mul_comm, Nat.mul_add_mod, Nat.mod_eq_of_lt e2]
              rw [hq, hm, if_pos hp, show 4 - (5 - (u + 1)) = u by omega, ← e3, ← hr]
              exact hb
end Go.Proofs.YtaalfnfikjmomaaDoor
