/- Contracts of functions of the program, and what they are made of (parser; Pk07). -/
import Derived.Test.YtjehhldboopocaaGreatDoorPk04
import Derived.Test.YtjehhldboopocaaGreatDoorPk06
import Derived.Lib.Strings
import Derived.Deep.RegionWith
namespace Go.Proofs.YtjehhldboopocaaGreatDoor
open Go.RowKit Go.Lib
structure Tot {α : Type} (c : α → α → Int) : Prop where
  rng : ∀ x y, c x y = -1 ∨ c x y = 0 ∨ c x y = 1
  anti : ∀ x y, c y x = - c x y
  eq : ∀ x y, c x y = 0 ↔ x = y
  tr : ∀ x y z, c x y ≤ 0 → c y z ≤ 0 → c x z ≤ 0
def natC (x y : Nat) : Int := if x < y then -1 else if y < x then 1 else 0
theorem natC_tot : Tot natC where
  rng := fun x y => by unfold natC; split <;> (try split) <;> omega
  anti := fun x y => by unfold natC; split <;> split <;> (try split) <;> omega
  eq := fun x y => by unfold natC; split <;> (try split) <;> omega
  tr := fun x y z => by
    unfold natC
    intro h1 h2
    split <;> (try split) <;> (split at h1 <;> (try split at h1)) <;> (split at h2 <;> (try split at h2)) <;> omega
/-- Lists, element by element; a list that ends is less. -/
def lexC {α : Type} (c : α → α → Int) : List α → List α → Int
  | [], [] => 0
  | [], _ :: _ => -1
  | _ :: _, [] => 1
  | x :: a, y :: b => if c x y ≠ 0 then c x y else lexC c a b
theorem lexC_rng {α : Type} {c : α → α → Int} (h : Tot c) : ∀ a b, lexC c a b = -1 ∨ lexC c a b = 0 ∨ lexC c a b = 1
  | [], [] => by simp [lexC]
  | [], _ :: _ => by simp [lexC]
  | _ :: _, [] => by simp [lexC]
  | x :: a, y :: b => by
    unfold lexC
    split
    · exact h.rng x y
    · exact lexC_rng h a b
theorem lexC_anti {α : Type} {c : α → α → Int} (h : Tot c) : ∀ a b, lexC c b a = - lexC c a b
  | [], [] => by simp [lexC]
  | [], _ :: _ => by simp [lexC]
  | _ :: _, [] => by simp [lexC]
  | x :: a, y :: b => by
    unfold lexC
    have := h.anti x y
    by_cases e : c x y = 0
    · rw [if_neg (by omega), if_neg (by omega)]
      exact lexC_anti h a b
    · rw [if_pos (by omega), if_pos (by omega)]
      exact this
theorem lexC_eq {α : Type} {c : α → α → Int} (h : Tot c) : ∀ a b, lexC c a b = 0 ↔ a = b
  | [], [] => by simp [lexC]
  | [], _ :: _ => by simp [lexC]
  | _ :: _, [] => by simp [lexC]
  | x :: a, y :: b => by
    unfold lexC
    by_cases e : c x y = 0
    · rw [if_neg (by omega), lexC_eq h a b]
      have := (h.eq x y).1 e
      subst this
      simp
    · rw [if_pos (by omega)]
      constructor
      · intro h2; exact absurd h2 e
      · intro h2
        injection h2 with h3 _
        exact absurd ((h.eq x y).2 h3) e
theorem lexC_tr {α : Type} {c : α → α → Int} (h : Tot c) : ∀ a b d, lexC c a b ≤ 0 → lexC c b d ≤ 0 → lexC c a d ≤ 0
  | [], _, [], _, _ => by simp [lexC]
  | [], _, _ :: _, _, _ => by simp [lexC]
  | _ :: _, [], _, h1, _ => by simp [lexC] at h1
  | _ :: _, _ :: _, [], _, h2 => by simp [lexC] at h2
  | x :: a, y :: b, z :: d, h1, h2 => by
    unfold lexC at h1 h2 ⊢
    by_cases e1 : c x y = 0
    · rw [if_neg (by omega)] at h1
      have hxy := (h.eq x y).1 e1
      subst hxy
      by_cases e2 : c x z = 0
      · rw [if_neg (by omega)] at h2 ⊢
        exact lexC_tr h a b d h1 h2
      · rw [if_pos e2] at h2 ⊢
        exact h2
    · rw [if_pos e1] at h1
      by_cases e2 : c y z = 0
      · have hyz := (h.eq y z).1 e2
        subst hyz
        rw [if_pos e1]
        exact h1
      · rw [if_pos e2] at h2
        have h3 := h.tr x y z h1 h2
        by_cases e3 : c x z = 0
        · have hxz := (h.eq x z).1 e3
          subst hxz
          have := h.anti x y
          omega
        · rw [if_pos e3]
          exact h3
theorem lexC_tot {α : Type} {c : α → α → Int} (h : Tot c) : Tot (lexC c) := ⟨lexC_rng h, lexC_anti h, lexC_eq h, lexC_tr h⟩

/-- The key of a run, and of another byte. -/
def runK (e : List UInt8) : List Nat := 1 :: (stripL e).length :: ((stripL e).map (·.toNat) ++ [e.length])
def byteK (x : UInt8) : List Nat := [if x.toNat < 48 then 0 else 2, x.toNat]
def keys : List UInt8 → List (List Nat)
  | [] => []
  | x :: a => if dg x = true then runK (x :: a.takeWhile dg) :: keys (a.dropWhile dg) else byteK x :: keys a
termination_by a => a.length
decreasing_by
  · have := dropW_le a; simp only [List.length_cons]; omega
  · simp only [List.length_cons]; omega

theorem natC_ord (x y : Nat) : natC x y = ordI (decide (x < y)) (decide (y < x)) := by
  unfold natC ordI
  simp
theorem lex_tail : ∀ (s t : List UInt8) (n m : Nat), s.length = t.length → lexC natC (s.map (·.toNat) ++ [n]) (t.map (·.toNat) ++ [m]) = if s ≠ t then (if Op.bytesLess s t = true then -1 else 1) else natC n m
  | [], [], n, m, _ => by
    simp only [List.map_nil, List.nil_append, lexC]
    by_cases h : natC n m = 0 <;> simp [h]
  | [], _ :: _, _, _, h => by simp at h
  | _ :: _, [], _, _, h => by simp at h
  | x :: s, y :: t, n, m, h => by
    simp only [List.map_cons, List.cons_append, lexC]
    have ih := lex_tail s t n m (by simpa using h)
    by_cases hxy : x = y
    · subst hxy
      have h0 : natC x.toNat x.toNat = 0 := by simp [natC]
      have hb : Op.bytesLess (x :: s) (x :: t) = Op.bytesLess s t := by simp [Op.bytesLess]
      rw [h0, hb, ih]
      by_cases hst : s = t <;> simp [hst]
    · have hn : x.toNat ≠ y.toNat := fun e => hxy (UInt8.toNat_inj.1 e)
      rw [if_pos (by unfold natC; split <;> (try split) <;> omega), if_pos (by simp [hxy]), Op.bytesLess]
      by_cases hlt : x.toNat < y.toNat
      · have : x < y := hlt
        simp [natC, hlt, this]
      · have h2 : ¬ x < y := hlt
        have h3 : y.toNat < x.toNat := by omega
        simp [natC, hlt, h2, h3, hxy]
theorem runs_key (e f : List UInt8) : runsI e f = lexC natC (runK e) (runK f) := by
  have hk : ∀ (n m : Nat) (S T : List Nat), lexC natC (1 :: n :: S) (1 :: m :: T) = if natC n m ≠ 0 then natC n m else lexC natC S T := by
    intro n m S T
    simp [lexC, natC]
  unfold runsI runK
  rw [hk]
  by_cases h : (stripL e).length = (stripL f).length
  · have h0 : natC (stripL e).length (stripL f).length = 0 := by rw [h]; simp [natC]
    rw [h0, lex_tail _ _ _ _ h, natC_ord]
    by_cases h2 : stripL e = stripL f <;> simp [h, h2]
  · have h0 : natC (stripL e).length (stripL f).length ≠ 0 := by unfold natC; split <;> (try split) <;> omega
    have h9 : (stripL e).length ≠ (stripL f).length := h
    rw [if_pos h9, if_pos h0, natC_ord]
theorem dg_bounds {x : UInt8} : dg x = true ↔ 48 ≤ x.toNat ∧ x.toNat ≤ 57 := by simp [dg, digB]
theorem cmp_keys : ∀ a b : List UInt8, cmpL a b = lexC (lexC natC) (keys a) (keys b)
  | [], [] => by rw [cmpL, keys]; rfl
  | [], y :: b => by
    rw [cmpL, keys, keys]
    split <;> rfl
  | x :: a, [] => by
    rw [cmpL, keys, keys]
    split <;> rfl
  | x :: a, y :: b => by
    rw [cmpL, keys, keys]
    by_cases hx : dg x = true
    · by_cases hy : dg y = true
      · have ih := cmp_keys (a.dropWhile dg) (b.dropWhile dg)
        rw [if_pos (by rw [hx, hy]; rfl), if_pos hx, if_pos hy, lexC, ← runs_key, ih]
      · have bx := dg_bounds.1 hx
        have hny : ¬ (48 ≤ y.toNat ∧ y.toNat ≤ 57) := fun h => hy (dg_bounds.2 h)
        rw [if_neg (by simp [hx, hy]), if_pos hx, if_neg hy, lexC]
        unfold runK byteK
        rw [lexC]
        by_cases h48 : y.toNat < 48
        · rw [if_neg (by omega), if_pos (by omega)]
          simp [natC, h48]
        · rw [if_pos (by omega)]
          simp [natC, h48]
    · have hnx : ¬ (48 ≤ x.toNat ∧ x.toNat ≤ 57) := fun h => hx (dg_bounds.2 h)
      by_cases hy : dg y = true
      · have by' := dg_bounds.1 hy
        rw [if_neg (by simp [hx]), if_neg hx, if_pos hy, lexC]
        unfold runK byteK
        rw [lexC]
        by_cases h48 : x.toNat < 48
        · rw [if_pos (by omega)]
          simp [natC, h48]
        · rw [if_neg (by omega), if_pos (by omega)]
          simp [natC, h48]
      · have hny : ¬ (48 ≤ y.toNat ∧ y.toNat ≤ 57) := fun h => hy (dg_bounds.2 h)
        have ih := cmp_keys a b
        rw [if_neg (by simp [hx]), if_neg hx, if_neg hy, lexC, ih]
        have hb : lexC natC (byteK x) (byteK y) = natC x.toNat y.toNat := by
          unfold byteK
          rw [lexC, lexC, lexC]
          by_cases h1 : x.toNat < 48 <;> by_cases h2 : y.toNat < 48 <;> simp [natC, h1, h2] <;> (try (split <;> (try split) <;> omega)) <;> omega
        rw [hb]
        unfold natC
        by_cases h1 : x.toNat < y.toNat
        · simp [h1]
        · by_cases h2 : y.toNat < x.toNat
          · simp [h1, h2]
          · simp [h1, h2]
termination_by a => a.length
decreasing_by
  all_goals simp_wf
  · have := dropW_le a; omega

theorem take48 : ∀ l : List UInt8, l.takeWhile (fun b => b.toNat == 48) = List.replicate (l.takeWhile fun b => b.toNat == 48).length 48
  | [] => rfl
  | x :: l => by
    rw [List.takeWhile_cons]
    split
    · rename_i h
      have hx : x = 48 := UInt8.toNat_inj.1 (by simpa using h)
      rw [List.length_cons, List.replicate_succ, ← take48 l, hx]
    · rfl
theorem runK_inj {e f : List UInt8} (h : runK e = runK f) : e = f := by
  unfold runK at h
  injection h with _ h
  injection h with h1 h2
  have h3 := List.append_inj' h2 rfl
  have h4 : stripL e = stripL f := by
    have h5 : ∀ a b : List UInt8, a.map (·.toNat) = b.map (·.toNat) → a = b := by
      intro a
      induction a with
      | nil => intro b hb; cases b with
        | nil => rfl
        | cons y b => simp at hb
      | cons x a ih => intro b hb; cases b with
        | nil => simp at hb
        | cons y b =>
          simp only [List.map_cons, List.cons.injEq] at hb
          rw [UInt8.toNat_inj.1 hb.1, ih b hb.2]
    exact h5 _ _ h3.1
  have h6 : e.length = f.length := by simpa using h3.2
  have he := List.takeWhile_append_dropWhile (p := fun b : UInt8 => b.toNat == 48) (l := e)
  have hf := List.takeWhile_append_dropWhile (p := fun b : UInt8 => b.toNat == 48) (l := f)
  have le := congrArg List.length he
  have lf := congrArg List.length hf
  rw [List.length_append] at le lf
  have hd : e.dropWhile (fun b : UInt8 => b.toNat == 48) = f.dropWhile (fun b : UInt8 => b.toNat == 48) := h4
  rw [hd] at le
  have hlen : (e.takeWhile fun b : UInt8 => b.toNat == 48).length = (f.takeWhile fun b : UInt8 => b.toNat == 48).length := by omega
  rw [← he, ← hf, hd, take48 e, take48 f, hlen]
theorem keys_inj : ∀ a b : List UInt8, keys a = keys b → a = b
  | [], [], _ => rfl
  | [], y :: b, h => by rw [keys, keys] at h; split at h <;> simp at h
  | x :: a, [], h => by rw [keys, keys] at h; split at h <;> simp at h
  | x :: a, y :: b, h => by
    rw [keys, keys] at h
    by_cases hx : dg x = true
    · by_cases hy : dg y = true
      · rw [if_pos hx, if_pos hy] at h
        injection h with h1 h2
        have h3 := runK_inj h1
        have h4 := keys_inj (a.dropWhile dg) (b.dropWhile dg) h2
        injection h3 with h5 h6
        rw [h5, ← List.takeWhile_append_dropWhile (p := dg) (l := a), ← List.takeWhile_append_dropWhile (p := dg) (l := b), h6, h4]
      · rw [if_pos hx, if_neg hy] at h
        injection h with h1 _
        unfold runK byteK at h1
        injection h1 with h2 _
        split at h2 <;> omega
    · by_cases hy : dg y = true
      · rw [if_neg hx, if_pos hy] at h
        injection h with h1 _
        unfold runK byteK at h1
        injection h1 with h2 _
        split at h2 <;> omega
      · rw [if_neg hx, if_neg hy] at h
        injection h with h1 h2
        unfold byteK at h1
        injection h1 with _ h3
        injection h3 with h4 _
        rw [UInt8.toNat_inj.1 h4, keys_inj a b h2]
termination_by a => a.length
decreasing_by
  all_goals simp_wf
  · have := dropW_le a; omega
/-- TOTAL ORDER. -/
theorem cmp_tot : Tot cmpL where
  rng := fun a b => by rw [cmp_keys]; exact (lexC_tot (lexC_tot natC_tot)).rng _ _
  anti := fun a b => by rw [cmp_keys, cmp_keys]; exact (lexC_tot (lexC_tot natC_tot)).anti _ _
  eq := fun a b => by
    rw [cmp_keys, (lexC_tot (lexC_tot natC_tot)).eq]
    exact ⟨keys_inj a b, fun h => by rw [h]⟩
  tr := fun a b c => by rw [cmp_keys, cmp_keys, cmp_keys]; exact (lexC_tot (lexC_tot natC_tot)).tr _ _ _
end Go.Proofs.YtjehhldboopocaaGreatDoor
namespace Go.Proofs.YtjehhldboopocaaGreatDoor
open Go.RowKit Go.Lib
/- Lists of strings in natural order, as plain functions. -/
def ascB : List (List UInt8) → Bool
  | [] => true
  | [_] => true
  | x :: y :: r => decide (cmpL x y < 0) && ascB (y :: r)
theorem ascB_step {L : List (List UInt8)} {j : Nat} (h : j + 1 < L.length) : ascB (L.drop j) = (decide (cmpL (L[j]'(by omega)) L[j + 1] < 0) && ascB (L.drop (j + 1))) := by
  rw [List.drop_eq_getElem_cons (by omega), List.drop_eq_getElem_cons h, ascB, ← List.drop_eq_getElem_cons h]
theorem ascB_end {L : List (List UInt8)} {j : Nat} (h : L.length ≤ j + 1) : ascB (L.drop j) = true := by
  by_cases h2 : j < L.length
  · rw [List.drop_eq_getElem_cons h2, List.drop_eq_nil_of_le h, ascB]
  · rw [List.drop_eq_nil_of_le (by omega), ascB]

end Go.Proofs.YtjehhldboopocaaGreatDoor
namespace Go.Proofs.YtjehhldboopocaaGreatDoor
open Go.RowKit Go.Lib
/-- A value: its kind, its truth, its number, its string, its elements, its keys. -/
inductive Vl where
  | mk (kind : Int) (truth : Bool) (num : Int) (str : ByteArray) (list : List Vl) (keys : List (List UInt8))

/-- A slice of values reads as a list of trees of at most m levels. -/
def ReadsV : Nat → World → Option Addr → List Vl → Prop
  | 0, _, _, l => l = []
  | m + 1, w, v, l => ∀ j (_ : j < l.length), ∃ b off k t i s l' ks av c kv kc, l[j]? = some (.mk k t i s l' ks) ∧ v = some ⟨b, off, none⟩ ∧ b < w.heap.size ∧
      w.cell? ⟨b, off + j * 6, none⟩ = some (.int .i64 k) ∧ w.cell? ⟨b, off + j * 6 + 1, none⟩ = some (.bool t) ∧ w.cell? ⟨b, off + j * 6 + 2, none⟩ = some (.int .i64 i) ∧
      w.cell? ⟨b, off + j * 6 + 3, none⟩ = some (.string s) ∧ w.cell? ⟨b, off + j * 6 + 4, none⟩ = some (.slice av l'.length c) ∧ w.cell? ⟨b, off + j * 6 + 5, none⟩ = some (.slice kv ks.length kc) ∧
      (-9223372036854775808 ≤ k ∧ k ≤ 9223372036854775807) ∧ (-9223372036854775808 ≤ i ∧ i ≤ 9223372036854775807) ∧ s.size ≤ 140737488351232 ∧ l'.length * 88 ≤ 140737488351232 ∧ l'.length ≤ c ∧ c ≤ 9223372036854775807 ∧ ks.length * 16 ≤ 140737488351232 ∧ ks.length ≤ kc ∧ kc ≤ 9223372036854775807 ∧
      (∀ x, x ∈ ks → x.length ≤ 140737488351232) ∧ ReadsStr w kv ks ∧ ReadsV m w av l'

/-- A value, spelled out, reads as a tree of at most m + 1 levels. -/
def IsV (m : Nat) (w : World) (V : Value) (x : Vl) : Prop := ∃ k t i s l ks av c kv kc, x = .mk k t i s l ks ∧ V = .agg #[.int .i64 k, .bool t, .int .i64 i, .string s, .slice av l.length c, .slice kv ks.length kc] ∧
      (-9223372036854775808 ≤ k ∧ k ≤ 9223372036854775807) ∧ (-9223372036854775808 ≤ i ∧ i ≤ 9223372036854775807) ∧ s.size ≤ 140737488351232 ∧ l.length * 88 ≤ 140737488351232 ∧ l.length ≤ c ∧ c ≤ 9223372036854775807 ∧ ks.length * 16 ≤ 140737488351232 ∧ ks.length ≤ kc ∧ kc ≤ 9223372036854775807 ∧
      (∀ x, x ∈ ks → x.length ≤ 140737488351232) ∧ ReadsStr w kv ks ∧ ReadsV m w av l

theorem ReadsV.below {w w' : World} (hb : Below w.heap.size w w') : ∀ (m : Nat) (v : Option Addr) (l : List Vl), ReadsV m w v l → ReadsV m w' v l
  | 0, _, _, h => h
  | m + 1, v, l, h => by
    intro j hj
    obtain ⟨b, off, k, t, i, s, l', ks, av, c, kv, kc, h0, h1, h2, c0, c1, c2, c3, c4, c5, g0, g1, g2, g3, g4, g5, g6, g7, g8, g9, hs, hl⟩ := h j hj
    exact ⟨b, off, k, t, i, s, l', ks, av, c, kv, kc, h0, h1, Nat.lt_of_lt_of_le h2 hb.size, (hb.cell (p := ⟨b, _, none⟩) h2).trans c0, (hb.cell (p := ⟨b, _, none⟩) h2).trans c1,
      (hb.cell (p := ⟨b, _, none⟩) h2).trans c2, (hb.cell (p := ⟨b, _, none⟩) h2).trans c3, (hb.cell (p := ⟨b, _, none⟩) h2).trans c4, (hb.cell (p := ⟨b, _, none⟩) h2).trans c5,
      g0, g1, g2, g3, g4, g5, g6, g7, g8, g9, hs.below hb, ReadsV.below hb m av l' hl⟩
theorem IsV.below {w w' : World} {m : Nat} {V : Value} {x : Vl} (h : IsV m w V x) (hb : Below w.heap.size w w') : IsV m w' V x := by
  obtain ⟨k, t, i, s, l, ks, av, c, kv, kc, e, eV, g0, g1, g2, g3, g4, g5, g6, g7, g8, g9, hs, hl⟩ := h
  exact ⟨k, t, i, s, l, ks, av, c, kv, kc, e, eV, g0, g1, g2, g3, g4, g5, g6, g7, g8, g9, hs.below hb, ReadsV.below hb m av l hl⟩
theorem ReadsV.up {w : World} : ∀ (m : Nat) (v : Option Addr) (l : List Vl), ReadsV m w v l → ReadsV (m + 1) w v l
  | 0, _, _, h => by
    have h' : _ = [] := h
    subst h'
    intro j hj
    simp at hj
  | m + 1, v, l, h => by
    intro j hj
    obtain ⟨b, off, k, t, i, s, l', ks, av, c, kv, kc, h0, h1, h2, c0, c1, c2, c3, c4, c5, g0, g1, g2, g3, g4, g5, g6, g7, g8, g9, hs, hl⟩ := h j hj
    exact ⟨b, off, k, t, i, s, l', ks, av, c, kv, kc, h0, h1, h2, c0, c1, c2, c3, c4, c5, g0, g1, g2, g3, g4, g5, g6, g7, g8, g9, hs, ReadsV.up m av l' hl⟩

/-- The first error of a list. -/
def firstV (g : Vl → Nat) : List Vl → Nat
  | [] => 0
  | x :: r => if g x ≠ 0 then g x else firstV g r
/-- Are the fields that the kind does not use zero or empty? -/
def plainB (k : Int) (t : Bool) (i : Int) (s : ByteArray) (l : List Vl) (ks : List (List UInt8)) : Bool :=
  (!t || k == 1) && (i == 0 || k == 2) && (s.toList.isEmpty || k == 3) && (l.isEmpty || k == 4 || k == 5) && (ks.isEmpty || k == 5)
/-- May a text be a key? -/
def keyB (x : List UInt8) : Bool := decide (1 ≤ x.length) && decide (x.length ≤ 64)
def keysB (l : List Vl) (ks : List (List UInt8)) : Bool := decide (ks.length = l.length) && ks.all keyB && ascB ks
/-- The error of a value without its elements, at a level below which n - 1 further ones may lie. -/
def partE (n : Nat) (k : Int) (t : Bool) (i : Int) (s : ByteArray) (l : List Vl) (ks : List (List UInt8)) : Nat :=
  if n = 0 then 13
  else if (decide (k < 0) || decide (5 < k) || !plainB k t i s l ks) = true then 1
  else if (decide (i < -9007199254740992) || decide (9007199254740992 < i)) = true then 2
  else if (decide (4096 < s.size) || decide (1024 < l.length) || decide (1024 < ks.length)) = true then 3
  else if (k == 5 && !keysB l ks) = true then 1
  else if (decide (4 ≤ k) && l.isEmpty && decide (n = 1)) = true then 13
  else 0
/-- The first error of a value below which n - 1 further levels may lie. -/
def errV : Nat → Vl → Nat
  | 0, _ => 13
  | n + 1, .mk k t i s l ks => if partE (n + 1) k t i s l ks ≠ 0 then partE (n + 1) k t i s l ks else firstV (errV n) l
end Go.Proofs.YtjehhldboopocaaGreatDoor
namespace Go.Proofs.YtjehhldboopocaaGreatDoor
open Go.RowKit Go.Lib
theorem idDigit_any (c : Nat) (hc : c < 256) (w : World) :
    Calls Tryz.prog 184 #[.int .u8 c] w fun e w' => e = .returned (.bool (digB c)) ∧ w = w' := by
  by_cases h1 : 48 ≤ c <;> by_cases h2 : c ≤ 57
  all_goals
    have g1 : decide ((48 : Int) ≤ (c : Int)) = decide (48 ≤ c) := by simp <;> omega
    have g2 : decide ((c : Int) ≤ 57) = decide (c ≤ 57) := by simp <;> omega
    have hb : digB c = (decide (48 ≤ c) && decide (c ≤ 57)) := rfl
    simp only [h1, h2, decide_true, decide_false] at g1 g2 hb
    clear h1 h2
    go_enter Tryz.func184, Tryz.ntmps184
    go_wp2_with fail
    go_ret
    exact ⟨by rw [hb]; first | rfl | (rw [g1]; rfl) | (rw [g2]; rfl) | (simp only [Bool.true_and]; rw [g1]) | (simp only [Bool.true_and]; rw [g2]), rfl⟩
end Go.Proofs.YtjehhldboopocaaGreatDoor
namespace Go.Proofs.YtjehhldboopocaaGreatDoor
open Go.RowKit Go.Lib
theorem nanB_any (c : Nat) (w : World) : Calls Tryz.prog 215 #[.int .u8 (c : Int)] w fun e w' => e = .returned (.bool false) ∧ w = w' := by
  have g : ((c : Int) != (c : Int)) = false := by simp
  go_enter Tryz.func215, Tryz.ntmps215
  go_wp2_with fail
  go_ret
  exact ⟨rfl, rfl⟩
theorem cmpB_any (x y : Nat) (w : World) : Calls Tryz.prog 186 #[.int .u8 (x : Int), .int .u8 (y : Int)] w fun e w' => e = .returned (.int .i64 (natC x y)) ∧ w = w' := by
  have N1 := Lib.hid (fun w => nanB_any x w)
  have N2 := Lib.hid (fun w => nanB_any y w)
  rcases Nat.lt_trichotomy x y with h | h | h
  · have HF := Lib.hid (show natC x y = -1 by unfold natC; rw [if_pos h])
    go_enter Tryz.func186, Tryz.ntmps186
    go_wp2_with fail
    go_fit (N1.out _)
    rintro e w1 ⟨rfl, rfl⟩
    go_wp2_with fail
    go_fit (N2.out _)
    rintro e w1 ⟨rfl, rfl⟩
    go_wp2_with fail
    go_ret
    exact ⟨by rw [HF.out]; rfl, rfl⟩
  · subst h
    have HF := Lib.hid (show natC x x = 0 by unfold natC; simp)
    have g1 : ¬ (x : Int) < (x : Int) := by omega
    go_enter Tryz.func186, Tryz.ntmps186
    go_wp2_with fail
    go_fit (N1.out _)
    rintro e w1 ⟨rfl, rfl⟩
    go_wp2_with fail
    go_fit (N2.out _)
    rintro e w1 ⟨rfl, rfl⟩
    go_wp2_with fail
    go_ret
    exact ⟨by rw [HF.out]; rfl, rfl⟩
  · have HF := Lib.hid (show natC x y = 1 by unfold natC; rw [if_neg (by omega), if_pos h])
    have g1 : ¬ x < y := by omega
    go_enter Tryz.func186, Tryz.ntmps186
    go_wp2_with fail
    go_fit (N1.out _)
    rintro e w1 ⟨rfl, rfl⟩
    go_wp2_with fail
    go_fit (N2.out _)
    rintro e w1 ⟨rfl, rfl⟩
    go_wp2_with fail
    go_ret
    exact ⟨by rw [HF.out]; rfl, rfl⟩

def or3 (a b c : Int) : Int := if a ≠ 0 then a else if b ≠ 0 then b else c
set_option maxHeartbeats 1000000 in
theorem or3_any (g : Nat) (a b c : Int) (w : World) (h0 : w.cell? ⟨g, 0, none⟩ = some (.int .i64 a)) (h1 : w.cell? ⟨g, 1, none⟩ = some (.int .i64 b)) (h2 : w.cell? ⟨g, 2, none⟩ = some (.int .i64 c)) :
    Calls Tryz.prog 214 #[.slice (some ⟨g, 0, none⟩) 3 3] w fun e w' => e = .returned (.int .i64 (or3 a b c)) ∧ w = w' := by
  go_enter Tryz.func214, Tryz.ntmps214
  go_wp2_with fail
  go_loop [8] (fun s8 => ∃ i : Nat, i ≤ 3 ∧ s8 = .int .i64 i ∧ (1 ≤ i → a = 0) ∧ (2 ≤ i → b = 0) ∧ (3 ≤ i → c = 0)) (fun s8 => 3 - (RowKit.intOf s8).toNat)
  case atStart => exact ⟨0, by omega, rfl, by omega, by omega, by omega⟩
  case round =>
    obtain ⟨i, hi, rfl, ha, hb, hc⟩ := hrel
    have HA := Lib.hid ha
    have HB := Lib.hid hb
    have HC := Lib.hid hc
    clear ha hb hc
    rcases (show i = 0 ∨ i = 1 ∨ i = 2 ∨ i = 3 by omega) with rfl | rfl | rfl | rfl
    · by_cases hz : a = 0
      · have g1 : (a != 0) = false := by rw [bne_eq_false_iff_eq]; exact hz
        have HZ := Lib.hid hz
        clear hz
        go_wp2_with fail
        exact ⟨⟨1, by omega, rfl, fun _ => HZ.out, by omega, by omega⟩, by simp [RowKit.intOf]⟩
      · have g1 : (a != 0) = true := by rw [bne_iff_ne]; exact hz
        have HZ := Lib.hid (show or3 a b c = a by unfold or3; rw [if_pos hz])
        clear hz
        go_wp2_with fail
        go_ret
        exact ⟨by rw [HZ.out]; rfl, rfl⟩
    · by_cases hz : b = 0
      · have g1 : (b != 0) = false := by rw [bne_eq_false_iff_eq]; exact hz
        have HZ := Lib.hid hz
        clear hz
        go_wp2_with fail
        exact ⟨⟨2, by omega, rfl, fun _ => HA.out (by omega), fun _ => HZ.out, by omega⟩, by simp [RowKit.intOf]⟩
      · have g1 : (b != 0) = true := by rw [bne_iff_ne]; exact hz
        have HZ := Lib.hid (show or3 a b c = b by unfold or3; rw [if_neg (by rw [HA.out (by omega)]; decide), if_pos hz])
        clear hz
        go_wp2_with fail
        go_ret
        exact ⟨by rw [HZ.out]; rfl, rfl⟩
    · by_cases hz : c = 0
      · have g1 : (c != 0) = false := by rw [bne_eq_false_iff_eq]; exact hz
        have HZ := Lib.hid hz
        clear hz
        go_wp2_with fail
        exact ⟨⟨3, by omega, rfl, fun _ => HA.out (by omega), fun _ => HB.out (by omega), fun _ => HZ.out⟩, by simp [RowKit.intOf]⟩
      · have g1 : (c != 0) = true := by rw [bne_iff_ne]; exact hz
        have HZ := Lib.hid (show or3 a b c = c by unfold or3; rw [if_neg (by rw [HA.out (by omega)]; decide), if_neg (by rw [HB.out (by omega)]; decide)])
        clear hz
        go_wp2_with fail
        go_ret
        exact ⟨by rw [HZ.out]; rfl, rfl⟩
    · have HZ := Lib.hid (show or3 a b c = 0 by unfold or3; rw [if_neg (by rw [HA.out (by omega)]; decide), if_neg (by rw [HB.out (by omega)]; decide)]; exact HC.out (by omega))
      go_wp2_with fail
      go_ret
      exact ⟨by rw [HZ.out]; rfl, rfl⟩

/-- The first element: a run of digits or a single byte. -/
def firstL (l : List UInt8) : List UInt8 := l.take (max (l.takeWhile dg).length 1)
theorem first_ext (s : ByteArray) (i : Nat) : s.extract 0 (max (i : Int) 1).toNat = ⟨(s.data.toList.take (max i 1)).toArray⟩ := by
  rw [extract_mk, show (max (i : Int) 1).toNat = max i 1 by omega, List.drop_zero]
set_option maxHeartbeats 1000000 in
theorem first_any (s : ByteArray) (hs : s.size ≤ 140737488351232) (h0 : 0 < s.size) (w : World) :
    Calls Tryz.prog 153 #[.string s] w fun e w' => e = .returned (.string ⟨(firstL s.data.toList).toArray⟩) ∧ w = w' := by
  have hsl := listS_len s
  have hr0 : runE s.data.toList 0 = (s.data.toList.takeWhile dg).length := by unfold runE; rw [List.drop_zero, Nat.zero_add]; rfl
  have HSL := Lib.hid hsl
  have HR0 := Lib.hid hr0
  clear hsl hr0
  go_enter Tryz.func153, Tryz.ntmps153
  go_wp2_with fail
  go_loop [3] (fun s3 => ∃ i : Nat, i ≤ s.size ∧ s3 = .int .i64 i ∧ Hid (runE s.data.toList 0 = runE s.data.toList i)) (fun s3 => s.size - (RowKit.intOf s3).toNat)
  case atStart => exact ⟨0, by omega, rfl, Lib.hid rfl⟩
  case round =>
    obtain ⟨i, hi, rfl, HR⟩ := hrel
    have fin : ∀ (_ : runE s.data.toList i = i), firstL s.data.toList = s.data.toList.take (max i 1) := fun h => by unfold firstL; rw [← HR0.out, HR.out, h]
    have FIN := Lib.hid fin
    clear fin
    by_cases hlt : i < s.size
    · have D := Lib.hid (fun w => idDigit_any s[i].toNat s[i].toNat_lt w)
      cases hd : digB s[i].toNat
      · rw [hd] at D
        have HF := Lib.hid (FIN.out (runE_out (by rw [HSL.out]; exact hlt) hd))
        clear hd
        go_wp2_with fail
        go_fit (D.out _)
        rintro e w1 ⟨rfl, rfl⟩
        go_wp2_with fail
        go_ret
        exact ⟨by rw [HF.out, ← first_ext]; rfl, rfl⟩
      · rw [hd] at D
        have HN := Lib.hid (HR.out.trans (runE_in (by rw [HSL.out]; exact hlt) hd))
        clear hd
        go_wp2_with fail
        go_fit (D.out _)
        rintro e w1 ⟨rfl, rfl⟩
        go_wp2_with fail
        exact ⟨⟨i + 1, by omega, by go_num, HN⟩, by simp [RowKit.intOf]; omega⟩
    · obtain rfl : i = s.size := by omega
      have HF := Lib.hid (FIN.out (by have := runE_end s.data.toList; rw [HSL.out] at this; exact this))
      go_wp2_with fail
      go_ret
      exact ⟨by rw [HF.out, ← first_ext]; rfl, rfl⟩

theorem trim_strip (l : List UInt8) : Lib.trimLeftB l 48 = stripL l := by
  unfold Lib.trimLeftB stripL
  congr 1
  funext b
  by_cases h : b = 48
  · subst h; rfl
  · have h2 : b.toNat ≠ 48 := fun e => h (UInt8.toNat_inj.1 e)
    rw [beq_eq_false_iff_ne.2 h, beq_eq_false_iff_ne.2 h2]
theorem cmpInt_nat (x y : Nat) : Lib.compareInt (x : Int) (y : Int) = natC x y := by
  unfold Lib.compareInt natC
  by_cases h1 : x < y
  · rw [if_pos (by omega), if_pos h1]
  · rw [if_neg (by omega), if_neg h1]
    by_cases h2 : y < x
    · rw [if_pos (by omega), if_pos h2]
    · rw [if_neg (by omega), if_neg h2]
theorem cmpBytes_less : ∀ p q : List UInt8, Lib.compareBytes p q = if p = q then 0 else if Op.bytesLess p q = true then -1 else 1
  | [], [] => by simp [Lib.compareBytes]
  | [], _ :: _ => by simp [Lib.compareBytes, Op.bytesLess]
  | _ :: _, [] => by simp [Lib.compareBytes, Op.bytesLess]
  | a :: p, b :: q => by
    have ih := cmpBytes_less p q
    rw [Lib.compareBytes]
    by_cases h1 : a < b
    · have hne : a ≠ b := fun e => by subst e; exact absurd h1 (UInt8.lt_irrefl _)
      simp [h1, hne, Op.bytesLess]
    · by_cases h2 : b < a
      · have hne : a ≠ b := fun e => by subst e; exact absurd h2 (UInt8.lt_irrefl _)
        simp [h1, h2, hne, Op.bytesLess]
      · have e : a = b := UInt8.toNat_inj.1 (by
          have g1 : ¬ a.toNat < b.toNat := h1
          have g2 : ¬ b.toNat < a.toNat := h2
          omega)
        subst e
        rw [if_neg h1, if_neg h1, ih]
        simp [Op.bytesLess]
theorem or3_runs (x y : List UInt8) : or3 (natC (stripL x).length (stripL y).length) (Lib.compareBytes (stripL x) (stripL y)) (natC x.length y.length) = runsI x y := by
  unfold or3 runsI
  rw [cmpBytes_less, natC_ord, natC_ord]
  by_cases h1 : (stripL x).length = (stripL y).length
  · have h0 : ordI (decide ((stripL x).length < (stripL y).length)) (decide ((stripL y).length < (stripL x).length)) = 0 := by rw [h1]; simp [ordI]
    rw [h0, if_neg (show ¬ (0 : Int) ≠ 0 by simp), if_neg (show ¬ (stripL x).length ≠ (stripL y).length from fun e => e h1)]
    by_cases h2 : stripL x = stripL y
    · simp [h2]
    · rw [if_neg h2, if_pos (show stripL x ≠ stripL y from h2)]
      by_cases h3 : Op.bytesLess (stripL x) (stripL y) = true <;> simp [h3]
  · have h0 : ordI (decide ((stripL x).length < (stripL y).length)) (decide ((stripL y).length < (stripL x).length)) ≠ 0 := by
      unfold ordI
      rcases Nat.lt_or_ge (stripL x).length (stripL y).length with h | h
      · simp [h]
      · have : (stripL y).length < (stripL x).length := by omega
        simp [this, Nat.not_lt.2 h]
    rw [if_pos h0, if_pos (show (stripL x).length ≠ (stripL y).length from h1)]

/-- New blocks and draws alone. -/
def BelowD (w w' : World) : Prop := Below w.heap.size w w' ∧ w.drawn ≤ w'.drawn
theorem BelowD.refl (w : World) : BelowD w w := ⟨Below.refl _ _, Nat.le_refl _⟩
theorem BelowD.trans {a b c : World} (h : BelowD a b) (k : BelowD b c) : BelowD a c := ⟨h.1.trans (k.1.mono h.1.size), Nat.le_trans h.2 k.2⟩
theorem BelowD.drew {a b : World} (h : BelowD a b) : BelowD a b.drew := ⟨h.1.drew, Nat.le_succ_of_le h.2⟩
set_option maxHeartbeats 1000000 in
theorem cmpRuns_any (a b : ByteArray) (_ha : a.size ≤ 140737488351232) (_hb : b.size ≤ 140737488351232) (w : World) :
    Calls Tryz.prog 185 #[.string a, .string b] w fun e w' => e = .returned (.int .i64 (runsI a.data.toList b.data.toList)) ∧ BelowD w w' := by
  have T1 := Lib.hid (fun w => Tryz.strings_TrimLeft_one a 48 (by decide) w)
  have T2 := Lib.hid (fun w => Tryz.strings_TrimLeft_one b 48 (by decide) w)
  rw [trim_strip] at T1 T2
  have hp : (⟨(stripL a.data.toList).toArray⟩ : ByteArray).size = (stripL a.data.toList).length := mkS_size _
  have hq : (⟨(stripL b.data.toList).toArray⟩ : ByteArray).size = (stripL b.data.toList).length := mkS_size _
  have l1 := strip_len a.data.toList
  have l2 := strip_len b.data.toList
  rw [listS_len] at l1 l2
  have HO := Lib.hid (or3_runs a.data.toList b.data.toList)
  rw [listS_len, listS_len, ← hp, ← hq] at HO
  rw [← hp] at l1
  rw [← hq] at l2
  have hc : ∀ p q : ByteArray, p = ⟨(stripL a.data.toList).toArray⟩ → q = ⟨(stripL b.data.toList).toArray⟩ → Lib.compareBytes p.data.toList q.data.toList = Lib.compareBytes (stripL a.data.toList) (stripL b.data.toList) := by
    rintro p q rfl rfl; rfl
  obtain ⟨p, hpe⟩ : ∃ p : ByteArray, p = ⟨(stripL a.data.toList).toArray⟩ := ⟨_, rfl⟩
  obtain ⟨q, hqe⟩ : ∃ q : ByteArray, q = ⟨(stripL b.data.toList).toArray⟩ := ⟨_, rfl⟩
  rw [← hpe] at T1 HO l1
  rw [← hqe] at T2 HO l2
  rw [← hc p q hpe hqe] at HO
  have C1 := Lib.hid (fun w => Tryz.cmp_Compare_int (p.size : Int) (q.size : Int) w)
  have C2 := Lib.hid (fun w => Tryz.strings_Compare p q w)
  have C3 := Lib.hid (fun w => Tryz.cmp_Compare_int (a.size : Int) (b.size : Int) w)
  rw [cmpInt_nat] at C1 C3
  generalize natC p.size q.size = n1 at C1 HO
  generalize Lib.compareBytes p.data.toList q.data.toList = n2 at C2 HO
  generalize natC a.size b.size = n3 at C3 HO
  have O := Lib.hid (fun (w : World) h0 h1 h2 => or3_any w.heap.size n1 n2 n3 (w.alloc (.cells #[.int .i64 n1, .int .i64 n2, .int .i64 n3] 3)) h0 h1 h2)
  rw [HO.out] at O
  clear hp hq hc hpe hqe HO
  go_enter Tryz.func185, Tryz.ntmps185
  go_wp2_with fail
  go_fit (T1.out _)
  rintro e w1 ⟨rfl, rfl⟩
  go_wp2_with fail
  go_fit (T2.out _)
  rintro e w1 ⟨rfl, rfl⟩
  go_wp2_with fail
  go_fit (C1.out _)
  rintro e w1 ⟨rfl, rfl⟩
  go_wp2_with fail
  go_fit (C2.out _)
  rintro e w1 ⟨rfl, rfl⟩
  go_wp2_with fail
  go_fit (C3.out _)
  rintro e w1 ⟨rfl, rfl⟩
  go_wp2_with fail
  go_fit (O.out _ (by simp [go_sem]) (by simp [go_sem]) (by simp [go_sem]))
  rintro e w2 ⟨rfl, rfl⟩
  go_wp2_with fail
  go_ret
  exact ⟨rfl, (Below.refl _ _).alloc (Nat.le_refl _) _, Nat.le_refl _⟩
end Go.Proofs.YtjehhldboopocaaGreatDoor
