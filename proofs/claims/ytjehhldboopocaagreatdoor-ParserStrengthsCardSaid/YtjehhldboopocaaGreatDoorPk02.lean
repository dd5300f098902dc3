/- Contracts of functions of the program, and what they are made of (parser; Pk02). -/
import Derived.Test.YtjehhldboopocaaGreatDoorPk01
namespace Go.Proofs.YtjehhldboopocaaGreatDoor.Lx
open Go.RowKit Go.Lib
def dgB (c : UInt8) : Bool := decide (48 ≤ c.toNat) && decide (c.toNat ≤ 57)
def letB (c : UInt8) : Bool := (decide (97 ≤ c.toNat) && decide (c.toNat ≤ 122)) || (decide (65 ≤ c.toNat) && decide (c.toNat ≤ 90)) || decide (c.toNat = 95)
def wrdB (c : UInt8) : Bool := letB c || dgB c
def undec (l : List UInt8) : Nat := l.foldl (fun a c => 10 * a + (c.toNat - 48)) 0
/-- Is it a number without leading zeros, of at most 2^53? -/
def intB (l : List UInt8) : Bool := !l.isEmpty && decide (l.length ≤ 16) && !(decide (1 < l.length) && decide (l.head? = some 48)) && l.all dgB && decide (undec l ≤ 9007199254740992)
def dbl : List (List UInt8) := [[124, 124], [38, 38], [61, 61], [33, 61], [60, 61], [62, 61]]
def sgl : List UInt8 := [60, 62, 43, 45, 42, 47, 37, 33, 63, 58, 46, 44, 61, 40, 41, 91, 93, 123, 125]
/-- The length of the operator at the head, or 0. -/
def opL : List UInt8 → Nat
  | [] => 0
  | [c] => if sgl.contains c then 1 else 0
  | c :: d :: _ => if dbl.contains [c, d] then 2 else if sgl.contains c then 1 else 0
def hexV (c : UInt8) : Option Nat :=
  if 48 ≤ c.toNat ∧ c.toNat ≤ 57 then some (c.toNat - 48) else if 97 ≤ c.toNat ∧ c.toNat ≤ 102 then some (c.toNat - 87) else if 65 ≤ c.toNat ∧ c.toNat ≤ 70 then some (c.toNat - 55) else none
/-- The byte of two hexadecimal digits, or the error. -/
def escL : List UInt8 → UInt8 × Nat
  | [] => (0, 4)
  | c :: r => match hexV c with
    | none => (0, 5)
    | some a => match r with
      | [] => (0, 4)
      | d :: _ => match hexV d with
        | none => (0, 5)
        | some b => (UInt8.ofNat (16 * a + b), 0)
/-- The character at the head: its byte, its length, the error. -/
def chrA : List UInt8 → UInt8 × Nat × Nat
  | [] => (0, 0, 4)
  | c :: r =>
    if c.toNat < 32 then (0, 0, 5)
    else if c ≠ 92 then (c, 1, 0)
    else match r with
      | [] => (0, 0, 4)
      | d :: q => if d = 34 ∨ d = 92 then (d, 2, 0) else if d = 110 then (10, 2, 0) else if d = 116 then (9, 2, 0) else if d = 120 then (if (escL q).2 = 0 then ((escL q).1, 4, 0) else (0, 0, (escL q).2)) else (0, 0, 5)
/-- A string's text and length, behind its first quote: n characters at most; acc: what was read, k: its length. -/
def txtN : Nat → List UInt8 → List UInt8 → Nat → List UInt8 × Nat × Nat
  | 0, _, _, _ => ([], 0, 4)
  | _ + 1, [], _, _ => ([], 0, 4)
  | n + 1, c :: r, acc, k =>
    if c = 34 then (if 4096 < acc.length then ([], 0, 3) else (acc, k + 1, 0))
    else if (chrA (c :: r)).2.2 ≠ 0 then ([], 0, (chrA (c :: r)).2.2)
    else txtN n ((c :: r).drop (chrA (c :: r)).2.1) (acc ++ [(chrA (c :: r)).1]) (k + (chrA (c :: r)).2.1)
/-- The token at the head: its kind, its text, its length, the error. -/
def numA (d w : List UInt8) (c : UInt8) : Int × List UInt8 × Nat × Nat :=
  if d.length < w.length ∨ (1 < d.length ∧ c = 48) then (0, [], 0, 5) else if intB d = true then (2, d, d.length, 0) else (0, [], 0, 2)
def strA (t : List UInt8 × Nat × Nat) : Int × List UInt8 × Nat × Nat := if t.2.2 = 0 then (3, t.1, t.2.1, 0) else (0, [], 0, t.2.2)
def namA (d : List UInt8) : Int × List UInt8 × Nat × Nat := if 64 < d.length then (0, [], 0, 3) else (1, d, d.length, 0)
def opA (l : List UInt8) : Int × List UInt8 × Nat × Nat := if opL l = 0 then (0, [], 0, 5) else (4, l.take (opL l), opL l, 0)
def tokA : List UInt8 → Int × List UInt8 × Nat × Nat
  | [] => (0, [], 0, 5)
  | c :: r =>
    if dgB c = true then numA ((c :: r).takeWhile dgB) ((c :: r).takeWhile wrdB) c
    else if c = 34 then strA (txtN (r.length + 1) r [] 1)
    else if letB c = true then namA ((c :: r).takeWhile wrdB)
    else opA (c :: r)
theorem tokA_cons (c : UInt8) (r : List UInt8) : tokA (c :: r) = if dgB c = true then numA ((c :: r).takeWhile dgB) ((c :: r).takeWhile wrdB) c else if c = 34 then strA (txtN (r.length + 1) r [] 1) else if letB c = true then namA ((c :: r).takeWhile wrdB) else opA (c :: r) := rfl
/-- What is left behind blanks and comments. -/
def ignL : Bool → List UInt8 → List UInt8
  | _, [] => []
  | b, c :: r => if c ≠ 10 ∧ (b = true ∨ c = 32 ∨ c = 9 ∨ c = 35) then ignL (b || c == 35) r else c :: r
theorem ignL_len : ∀ (b : Bool) (l : List UInt8), (ignL b l).length ≤ l.length
  | _, [] => Nat.le_refl _
  | b, c :: r => by
    unfold ignL
    split
    · exact Nat.le_succ_of_le (ignL_len _ r)
    · exact Nat.le_refl _
structure Tk where
  kind : Int
  text : List UInt8
  at_ : Nat
def opn (o : Nat) (k : Int) (t : List UInt8) : Nat := if k = 4 ∧ (t = [40] ∨ t = [91]) then o + 1 else if k = 4 ∧ (t = [41] ∨ t = [93]) then o - 1 else o
inductive Res where
  | ok (l : List Tk)
  | err (at_ e : Nat)
def Res.add (p : List Tk) : Res → Res
  | .ok l => .ok (p ++ l)
  | .err a e => .err a e
def lexN : Nat → List UInt8 → Nat → Nat → Bool → Res
  | 0, _, _, _, _ => .ok []
  | n + 1, l, at_, o, nl =>
    match ignL false l with
    | [] => .ok []
    | c :: r =>
      let a := at_ + (l.length - (r.length + 1))
      if c = 10 then (if o = 0 ∧ nl = false then (lexN n r (a + 1) o true).add [⟨5, [], a⟩] else lexN n r (a + 1) o nl)
      else
        let t := tokA (c :: r)
        if t.2.2.2 ≠ 0 then .err a t.2.2.2
        else (lexN n ((c :: r).drop t.2.2.1) (a + t.2.2.1) (opn o t.1 t.2.1) false).add [⟨t.1, t.2.1, a⟩]
def hexD (n : Nat) : UInt8 := UInt8.ofNat (if n < 10 then 48 + n else 87 + n)
def chrL (c : UInt8) : List UInt8 :=
  if c.toNat = 34 then [92, 34] else if c.toNat = 92 then [92, 92] else if c.toNat = 10 then [92, 110] else if c.toNat = 9 then [92, 116]
  else if 32 ≤ c.toNat ∧ c.toNat ≤ 126 then [c] else [92, 120, hexD (c.toNat / 16), hexD (c.toNat % 16)]
def quoL (s : List UInt8) : List UInt8 := 34 :: (s.flatMap chrL ++ [34])
theorem u8_of {c : UInt8} {n : Nat} (hn : n < 256) (h : c.toNat = n) : c = UInt8.ofNat n := by
  apply UInt8.toNat_inj.1
  rw [h]
  simp
  omega
theorem hex_all : ∀ n : Fin 16, hexV (hexD n.val) = some n.val := by decide
theorem hexV_hexD {n : Nat} (h : n < 16) : hexV (hexD n) = some n := hex_all ⟨n, h⟩
theorem chrL_head (c : UInt8) : ∃ d t, chrL c = d :: t ∧ d ≠ 34 := by
  unfold chrL
  split
  · exact ⟨_, _, rfl, by decide⟩
  split
  · exact ⟨_, _, rfl, by decide⟩
  split
  · exact ⟨_, _, rfl, by decide⟩
  split
  · exact ⟨_, _, rfl, by decide⟩
  split
  · rename_i h _ _ _ _
    exact ⟨_, _, rfl, fun e => h (by rw [e]; rfl)⟩
  · exact ⟨_, _, rfl, by decide⟩
theorem chrA_chrL (c : UInt8) (r : List UInt8) : chrA (chrL c ++ r) = (c, (chrL c).length, 0) := by
  unfold chrL
  split
  · rename_i h
    have e := u8_of (by omega) h
    subst e
    rfl
  split
  · rename_i h
    have e := u8_of (by omega) h
    subst e
    rfl
  split
  · rename_i h
    have e := u8_of (by omega) h
    subst e
    rfl
  split
  · rename_i h
    have e := u8_of (by omega) h
    subst e
    rfl
  split
  · rename_i h1 h2 h3 h4 h5
    simp only [List.cons_append, List.nil_append, chrA, List.length_cons, List.length_nil]
    rw [if_neg (by omega), if_pos (fun e => h2 (by rw [e]; rfl))]
  · have ht := c.toNat_lt
    have e1 := hexV_hexD (n := c.toNat / 16) (by omega)
    have e2 := hexV_hexD (n := c.toNat % 16) (by omega)
    have e3 : escL (hexD (c.toNat / 16) :: hexD (c.toNat % 16) :: r) = (c, 0) := by
      simp only [escL, e1, e2]
      have e4 : UInt8.ofNat (16 * (c.toNat / 16) + c.toNat % 16) = c := by
        rw [show 16 * (c.toNat / 16) + c.toNat % 16 = c.toNat by omega]
        simp
      rw [e4]
    show chrA (92 :: 120 :: hexD (c.toNat / 16) :: hexD (c.toNat % 16) :: r) = _
    simp only [chrA]
    rw [if_neg (by decide), if_neg (by decide), if_neg (by decide), if_neg (by decide), if_neg (by decide), if_pos trivial, e3]
    rfl
theorem txt_quo : ∀ (s : List UInt8) (n : Nat) (acc r : List UInt8) (k : Nat), s.length + 1 ≤ n → acc.length + s.length ≤ 4096 →
    txtN n (s.flatMap chrL ++ 34 :: r) acc k = (acc ++ s, k + (s.flatMap chrL).length + 1, 0)
  | [], n + 1, acc, r, k, _, h => by
    simp only [List.flatMap_nil, List.nil_append, txtN, if_pos]
    rw [if_neg (by simp at h; omega)]
    simp
  | c :: s, n + 1, acc, r, k, hn, h => by
    obtain ⟨d, t, e, hd⟩ := chrL_head c
    have hA := chrA_chrL c (s.flatMap chrL ++ 34 :: r)
    simp only [List.flatMap_cons, List.append_assoc]
    rw [e] at hA ⊢
    simp only [List.cons_append] at hA ⊢
    unfold txtN
    rw [if_neg hd, hA]
    simp only [ne_eq, not_true_eq_false, if_false]
    rw [show (d :: (t ++ (s.flatMap chrL ++ 34 :: r))).drop (d :: t).length = s.flatMap chrL ++ 34 :: r by rw [← List.cons_append]; exact List.drop_left]
    rw [txt_quo s n (acc ++ [c]) r (k + (d :: t).length) (by simp at hn; omega) (by simp at h ⊢; omega)]
    simp only [List.append_assoc, List.cons_append, List.nil_append]
    congr 2
    simp only [List.length_cons, List.length_append]
    omega
theorem chrL_pos (c : UInt8) : 1 ≤ (chrL c).length := by
  obtain ⟨d, t, e, _⟩ := chrL_head c
  rw [e]
  simp
theorem flat_pos : ∀ s : List UInt8, s.length ≤ (s.flatMap chrL).length
  | [] => by simp
  | c :: s => by
    have := flat_pos s
    have := chrL_pos c
    simp only [List.flatMap_cons, List.length_append, List.length_cons]
    omega
theorem tok_quo (s r : List UInt8) (h : s.length ≤ 4096) : tokA (quoL s ++ r) = (3, s, (quoL s).length, 0) := by
  have hp := flat_pos s
  have ht := txt_quo s ((s.flatMap chrL ++ 34 :: r).length + 1) [] r 1 (by simp only [List.length_cons, List.length_append]; omega) (by simpa using h)
  have e : quoL s ++ r = 34 :: (s.flatMap chrL ++ 34 :: r) := by simp [quoL]
  rw [e]
  rw [tokA_cons, if_neg (by decide), if_pos rfl, ht]
  unfold strA
  rw [if_pos rfl]
  simp only [List.nil_append]
  congr 3
  simp only [quoL, List.length_cons, List.length_append, List.length_nil]
  omega
theorem escL_app : ∀ (q s : List UInt8), (escL q).2 = 0 → escL (q ++ s) = escL q
  | [], s, h => by simp [escL] at h
  | [c], s, h => by
    simp only [escL] at h
    split at h <;> simp at h
  | c :: d :: t, s, h => rfl
theorem escL_len : ∀ (q : List UInt8), (escL q).2 = 0 → 2 ≤ q.length
  | [], h => by simp [escL] at h
  | [c], h => by
    simp only [escL] at h
    split at h <;> simp at h
  | c :: d :: t, h => by simp
theorem chrA_app : ∀ (l s : List UInt8), (chrA l).2.2 = 0 → chrA (l ++ s) = chrA l ∧ 1 ≤ (chrA l).2.1 ∧ (chrA l).2.1 ≤ l.length
  | [], s, h => by simp [chrA] at h
  | [c], s, h => by
    simp only [List.cons_append, List.nil_append, chrA] at h ⊢
    by_cases h1 : c.toNat < 32
    · rw [if_pos h1] at h
      simp at h
    · rw [if_neg h1] at h ⊢
      by_cases h2 : c ≠ 92
      · rw [if_pos h2] at h ⊢
        rw [if_neg h1, if_pos h2]
        exact ⟨rfl, Nat.le_refl _, by simp⟩
      · rw [if_neg h2] at h
        simp at h
  | c :: d :: q, s, h => by
    simp only [List.cons_append, chrA] at h ⊢
    by_cases h1 : c.toNat < 32
    · rw [if_pos h1] at h
      simp at h
    rw [if_neg h1] at h ⊢
    by_cases h2 : c ≠ 92
    · rw [if_pos h2] at h ⊢
      rw [if_neg h1, if_pos h2]
      exact ⟨rfl, Nat.le_refl _, by simp⟩
    rw [if_neg h2] at h ⊢
    rw [if_neg h1, if_neg h2]
    by_cases h3 : d = 34 ∨ d = 92
    · rw [if_pos h3] at h ⊢
      rw [if_pos h3]
      exact ⟨rfl, by simp, by simp⟩
    rw [if_neg h3] at h ⊢
    rw [if_neg h3]
    by_cases h4 : d = 110
    · rw [if_pos h4] at h ⊢
      rw [if_pos h4]
      exact ⟨rfl, by simp, by simp⟩
    rw [if_neg h4] at h ⊢
    rw [if_neg h4]
    by_cases h5 : d = 116
    · rw [if_pos h5] at h ⊢
      rw [if_pos h5]
      exact ⟨rfl, by simp, by simp⟩
    rw [if_neg h5] at h ⊢
    rw [if_neg h5]
    by_cases h6 : d = 120
    · rw [if_pos h6] at h ⊢
      rw [if_pos h6]
      by_cases h7 : (escL q).2 = 0
      · rw [if_pos h7] at h ⊢
        rw [escL_app q s h7, if_pos h7]
        have := escL_len q h7
        exact ⟨rfl, by simp, by simp; omega⟩
      · rw [if_neg h7] at h
        exact absurd h h7
    · rw [if_neg h6] at h
      simp at h
theorem txtN_app (s : List UInt8) : ∀ (n : Nat) (l acc : List UInt8) (k n' : Nat), (txtN n l acc k).2.2 = 0 → n ≤ n' →
    txtN n' (l ++ s) acc k = txtN n l acc k ∧ k + 1 ≤ (txtN n l acc k).2.1 ∧ (txtN n l acc k).2.1 ≤ k + l.length
  | 0, l, acc, k, n', h, _ => by simp [txtN] at h
  | n + 1, [], acc, k, n', h, _ => by simp [txtN] at h
  | n + 1, c :: r, acc, k, 0, h, hn => by omega
  | n + 1, c :: r, acc, k, n' + 1, h, hn => by
    have hA := chrA_app (c :: r) s
    simp only [List.cons_append] at hA ⊢
    unfold txtN at h ⊢
    by_cases h1 : c = 34
    · rw [if_pos h1] at h ⊢
      rw [if_pos h1]
      split at h
      · simp at h
      · rename_i h2
        rw [if_neg h2]
        exact ⟨rfl, Nat.le_refl _, by simp⟩
    rw [if_neg h1] at h ⊢
    rw [if_neg h1]
    by_cases h2 : (chrA (c :: r)).2.2 ≠ 0
    · rw [if_pos h2] at h
      exact absurd h h2
    have h3 : (chrA (c :: r)).2.2 = 0 := by
      apply Decidable.byContradiction
      intro h
      exact h2 h
    obtain ⟨a1, a2, a3⟩ := hA h3
    rw [a1]
    rw [if_neg h2] at h ⊢
    rw [if_neg h2]
    have e : (c :: (r ++ s)).drop (chrA (c :: r)).2.1 = (c :: r).drop (chrA (c :: r)).2.1 ++ s := by
      rw [← List.cons_append]
      exact List.drop_append_of_le_length a3
    rw [e]
    have ih := txtN_app s n ((c :: r).drop (chrA (c :: r)).2.1) (acc ++ [(chrA (c :: r)).1]) (k + (chrA (c :: r)).2.1) n' h (by omega)
    refine ⟨ih.1, by omega, ?_⟩
    have := ih.2.2
    rw [List.length_drop] at this
    omega
/-- A suffix that no token reaches into. -/
def StopS (s : List UInt8) : Prop := ∀ c t, s = c :: t → c = 32 ∨ c = 35 ∨ c = 10
theorem tw_app {p : UInt8 → Bool} {s : List UInt8} (h : ∀ c t, s = c :: t → p c = false) : ∀ l : List UInt8, (l ++ s).takeWhile p = l.takeWhile p
  | [] => by
    cases s with
    | nil => rfl
    | cons c t => rw [List.nil_append, List.takeWhile_cons, h c t rfl]; rfl
  | a :: l => by
    rw [List.cons_append, List.takeWhile_cons, List.takeWhile_cons, tw_app h l]
theorem StopS.word {s : List UInt8} (h : StopS s) : ∀ c t, s = c :: t → wrdB c = false := by
  intro c t e
  rcases h c t e with rfl | rfl | rfl <;> decide
theorem StopS.dig {s : List UInt8} (h : StopS s) : ∀ c t, s = c :: t → dgB c = false := by
  intro c t e
  rcases h c t e with rfl | rfl | rfl <;> decide
theorem dbl_stop (c d : UInt8) (h : d = 32 ∨ d = 35 ∨ d = 10) : dbl.contains [c, d] = false := by
  rcases h with rfl | rfl | rfl <;> simp [dbl]
theorem opL_app {s : List UInt8} (hs : StopS s) : ∀ l : List UInt8, l ≠ [] → opL (l ++ s) = opL l
  | [], h => absurd rfl h
  | [c], _ => by
    cases s with
    | nil => rfl
    | cons d t =>
      show opL (c :: d :: t) = _
      simp only [opL]
      rw [dbl_stop c d (hs d t rfl)]
      rfl
  | c :: d :: t, _ => rfl
theorem opL_le : ∀ l : List UInt8, opL l ≤ l.length
  | [] => Nat.le_refl _
  | [c] => by simp only [opL]; split <;> simp
  | c :: d :: t => by
    simp only [opL]
    split
    · simp
    · split <;> simp
theorem tw_le {p : UInt8 → Bool} (l : List UInt8) : (l.takeWhile p).length ≤ l.length := (List.takeWhile_sublist p).length_le
theorem tw_pos {p : UInt8 → Bool} {c : UInt8} {r : List UInt8} (h : p c = true) : 1 ≤ ((c :: r).takeWhile p).length := by
  rw [List.takeWhile_cons, h]
  simp
theorem tokA_app {s : List UInt8} (hs : StopS s) (c : UInt8) (r : List UInt8) (h : (tokA (c :: r)).2.2.2 = 0) :
    tokA (c :: (r ++ s)) = tokA (c :: r) ∧ 1 ≤ (tokA (c :: r)).2.2.1 ∧ (tokA (c :: r)).2.2.1 ≤ (c :: r).length := by
  have e1 := tw_app hs.word (c :: r)
  have e2 := tw_app hs.dig (c :: r)
  have e3 := opL_app hs (c :: r) (by simp)
  have l1 := tw_le (p := wrdB) (c :: r)
  have l2 := tw_le (p := dgB) (c :: r)
  have l3 := opL_le (c :: r)
  have hx := txtN_app s (r.length + 1) r [] 1 ((r ++ s).length + 1)
  rw [List.cons_append] at e1 e2 e3
  rw [tokA_cons] at h ⊢
  rw [tokA_cons, e1, e2]
  by_cases h1 : dgB c = true
  · rw [if_pos h1] at h ⊢
    rw [if_pos h1]
    refine ⟨rfl, ?_⟩
    have p := tw_pos (r := r) h1
    generalize (c :: r).takeWhile dgB = d at *
    generalize (c :: r).takeWhile wrdB = w at *
    unfold numA at h ⊢
    by_cases h2 : d.length < w.length ∨ (1 < d.length ∧ c = 48)
    · rw [if_pos h2] at h
      simp at h
    rw [if_neg h2] at h ⊢
    by_cases h3 : intB d = true
    · rw [if_pos h3]
      exact ⟨p, l2⟩
    · rw [if_neg h3] at h
      simp at h
  rw [if_neg h1] at h ⊢
  rw [if_neg h1]
  by_cases h2 : c = 34
  · rw [if_pos h2] at h ⊢
    rw [if_pos h2]
    unfold strA at h ⊢
    by_cases h3 : (txtN (r.length + 1) r [] 1).2.2 = 0
    · obtain ⟨x1, x2, x3⟩ := hx h3 (by simp)
      rw [x1, if_pos h3]
      refine ⟨rfl, by show 1 ≤ (txtN _ _ _ _).2.1; omega, ?_⟩
      show (txtN _ _ _ _).2.1 ≤ _
      simp only [List.length_cons]
      omega
    · rw [if_neg h3] at h
      exact absurd h h3
  rw [if_neg h2] at h ⊢
  rw [if_neg h2]
  by_cases h4 : letB c = true
  · rw [if_pos h4] at h ⊢
    rw [if_pos h4]
    refine ⟨rfl, ?_⟩
    have p := tw_pos (p := wrdB) (r := r) (show wrdB c = true by unfold wrdB; rw [h4]; rfl)
    generalize (c :: r).takeWhile wrdB = w at *
    unfold namA at h ⊢
    by_cases h5 : 64 < w.length
    · rw [if_pos h5] at h
      simp at h
    · rw [if_neg h5]
      exact ⟨p, l1⟩
  rw [if_neg h4] at h ⊢
  rw [if_neg h4]
  unfold opA at h ⊢
  rw [e3]
  by_cases h6 : opL (c :: r) = 0
  · rw [if_pos h6] at h
    simp at h
  · rw [if_neg h6]
    rw [if_neg h6]
    refine ⟨?_, by show 1 ≤ opL _; omega, l3⟩
    rw [show c :: (r ++ s) = (c :: r) ++ s from rfl, List.take_append_of_le_length l3]
theorem tok_len (c : UInt8) (r : List UInt8) (h : (tokA (c :: r)).2.2.2 = 0) : 1 ≤ (tokA (c :: r)).2.2.1 ∧ (tokA (c :: r)).2.2.1 ≤ (c :: r).length :=
  (tokA_app (s := []) (fun _ _ e => nomatch e) c r h).2
theorem Res.add_nil (x : Res) : x.add [] = x := by cases x <;> simp [Res.add]
theorem Res.add_add (p q : List Tk) (x : Res) : (x.add q).add p = x.add (p ++ q) := by cases x <;> simp [Res.add]
theorem lexN_zero (l : List UInt8) (a o : Nat) (nl : Bool) : lexN 0 l a o nl = .ok [] := rfl
theorem lexN_nil (n : Nat) (l : List UInt8) (a o : Nat) (nl : Bool) (h : ignL false l = []) : lexN n l a o nl = .ok [] := by
  cases n with
  | zero => rfl
  | succ n => unfold lexN; rw [h]
/-- One step of the reading, at the first byte that is not ignored. -/
def stepR (k : List UInt8 → Nat → Nat → Bool → Res) (c : UInt8) (r : List UInt8) (a o : Nat) (nl : Bool) : Res :=
  if c = 10 then (if o = 0 ∧ nl = false then (k r (a + 1) o true).add [⟨5, [], a⟩] else k r (a + 1) o nl)
  else if (tokA (c :: r)).2.2.2 ≠ 0 then .err a (tokA (c :: r)).2.2.2
  else (k ((c :: r).drop (tokA (c :: r)).2.2.1) (a + (tokA (c :: r)).2.2.1) (opn o (tokA (c :: r)).1 (tokA (c :: r)).2.1) false).add [⟨(tokA (c :: r)).1, (tokA (c :: r)).2.1, a⟩]
theorem lexN_step {n : Nat} {l r : List UInt8} {c : UInt8} {a o : Nat} {nl : Bool} (h : ignL false l = c :: r) : lexN (n + 1) l a o nl = stepR (lexN n) c r (a + (l.length - (r.length + 1))) o nl := by
  conv => lhs; unfold lexN
  rw [h]
  rfl
theorem ign_le {b : Bool} {l r : List UInt8} {c : UInt8} (h : ignL b l = c :: r) : r.length + 1 ≤ l.length := by
  have := ignL_len b l
  rw [h] at this
  simpa using this
theorem lexN_fuel : ∀ (n m : Nat) (l : List UInt8) (a o : Nat) (nl : Bool), l.length ≤ n → l.length ≤ m → lexN n l a o nl = lexN m l a o nl
  | 0, m, l, a, o, nl, h, _ => by
    have e : l = [] := List.eq_nil_of_length_eq_zero (by omega)
    subst e
    rw [lexN_nil m [] a o nl rfl, lexN_zero]
  | n + 1, 0, l, a, o, nl, _, h => by
    have e : l = [] := List.eq_nil_of_length_eq_zero (by omega)
    subst e
    rw [lexN_nil (n + 1) [] a o nl rfl, lexN_zero]
  | n + 1, m + 1, l, a, o, nl, h1, h2 => by
    cases h : ignL false l with
    | nil => rw [lexN_nil _ _ _ _ _ h, lexN_nil _ _ _ _ _ h]
    | cons c r =>
      have hl := ign_le h
      rw [lexN_step h, lexN_step h]
      unfold stepR
      by_cases hc : c = 10
      · rw [if_pos hc, if_pos hc, lexN_fuel n m r _ _ _ (by omega) (by omega), lexN_fuel n m r _ _ _ (by omega) (by omega)]
      · rw [if_neg hc, if_neg hc]
        by_cases he : (tokA (c :: r)).2.2.2 ≠ 0
        · rw [if_pos he, if_pos he]
        · rw [if_neg he, if_neg he]
          have ht := tok_len c r (by omega)
          rw [lexN_fuel n m _ _ _ _ (by rw [List.length_drop]; simp only [List.length_cons]; omega) (by rw [List.length_drop]; simp only [List.length_cons]; omega)]
/-- The tokens of a source, with the indices from a on. -/
def lexF (l : List UInt8) (a o : Nat) (nl : Bool) : Res := lexN l.length l a o nl
theorem lexF_nil {l : List UInt8} (a o : Nat) (nl : Bool) (h : ignL false l = []) : lexF l a o nl = .ok [] := lexN_nil _ _ _ _ _ h
theorem lexF_step {l r : List UInt8} {c : UInt8} (a o : Nat) (nl : Bool) (h : ignL false l = c :: r) : lexF l a o nl = stepR lexF c r (a + (l.length - (r.length + 1))) o nl := by
  have hl := ign_le h
  unfold lexF
  rw [lexN_fuel l.length (l.length + 1) l a o nl (Nat.le_refl _) (Nat.le_succ _), lexN_step h]
  unfold stepR
  by_cases hc : c = 10
  · rw [if_pos hc, if_pos hc, lexN_fuel l.length r.length r _ _ _ (by omega) (Nat.le_refl _), lexN_fuel l.length r.length r _ _ _ (by omega) (Nat.le_refl _)]
  · rw [if_neg hc, if_neg hc]
    by_cases he : (tokA (c :: r)).2.2.2 ≠ 0
    · rw [if_pos he, if_pos he]
    · rw [if_neg he, if_neg he]
      have ht := tok_len c r (by omega)
      rw [lexN_fuel l.length _ _ _ _ _ (by rw [List.length_drop]; simp only [List.length_cons]; omega) (Nat.le_refl _)]
theorem ign_app : ∀ (b : Bool) (l s : List UInt8) (c : UInt8) (r : List UInt8), ignL b l = c :: r → ignL b (l ++ s) = c :: (r ++ s)
  | b, [], s, c, r, h => by simp [ignL] at h
  | b, d :: l, s, c, r, h => by
    rw [List.cons_append]
    unfold ignL at h ⊢
    split at h
    · rename_i h1
      rw [if_pos h1]
      exact ign_app _ l s c r h
    · rename_i h1
      rw [if_neg h1]
      injection h with h2 h3
      rw [h2, h3]
theorem ign_end : ∀ (b : Bool) (l s : List UInt8), ignL b l = [] → ∃ b', ignL b (l ++ s) = ignL b' s
  | b, [], s, _ => ⟨b, rfl⟩
  | b, d :: l, s, h => by
    rw [List.cons_append]
    unfold ignL at h
    split at h
    · rename_i h1
      obtain ⟨b', e⟩ := ign_end _ l s h
      refine ⟨b', ?_⟩
      rw [← e]
      conv => lhs; unfold ignL
      rw [if_pos h1]
    · simp at h
/-- What is open, and whether a line just ended, behind tokens. -/
def stO (o : Nat) (ts : List Tk) : Nat := ts.foldl (fun o t => opn o t.kind t.text) o
def stL (nl : Bool) (ts : List Tk) : Bool := ts.foldl (fun _ t => t.kind == 5) nl
theorem opn_five (o : Nat) (t : List UInt8) : opn o 5 t = o := by unfold opn; simp
theorem tokA_kind (c : UInt8) (r : List UInt8) (h : (tokA (c :: r)).2.2.2 = 0) : (tokA (c :: r)).1 = 1 ∨ (tokA (c :: r)).1 = 2 ∨ (tokA (c :: r)).1 = 3 ∨ (tokA (c :: r)).1 = 4 := by
  rw [tokA_cons] at h ⊢
  split at h
  · rename_i h1
    rw [if_pos h1]
    unfold numA at h ⊢
    split at h
    · simp at h
    · rename_i h2
      rw [if_neg h2]
      split at h
      · rename_i h3; rw [if_pos h3]; exact .inr (.inl rfl)
      · simp at h
  rename_i h1
  rw [if_neg h1]
  split at h
  · rename_i h2
    rw [if_pos h2]
    unfold strA at h ⊢
    split at h
    · rename_i h3; rw [if_pos h3]; exact .inr (.inr (.inl rfl))
    · rename_i h3; exact absurd h h3
  rename_i h2
  rw [if_neg h2]
  split at h
  · rename_i h3
    rw [if_pos h3]
    unfold namA at h ⊢
    split at h
    · simp at h
    · rename_i h4; rw [if_neg h4]; exact .inl rfl
  · rename_i h3
    rw [if_neg h3]
    unfold opA at h ⊢
    split at h
    · simp at h
    · rename_i h4; rw [if_neg h4]; exact .inr (.inr (.inr rfl))
theorem add_ok {x : Res} {p ts : List Tk} (h : x.add p = .ok ts) : ∃ q, x = .ok q ∧ ts = p ++ q := by
  cases x with
  | ok l => injection h with h; exact ⟨l, rfl, h.symm⟩
  | err a e => cases h
/-- A source with what stands behind it. -/
theorem lexF_app {s : List UInt8} (hs : StopS s) (hg : ∀ b, ignL b s = ignL false s) : ∀ (n : Nat) (l : List UInt8) (a o : Nat) (nl : Bool) (ts : List Tk), l.length ≤ n → lexF l a o nl = .ok ts →
    lexF (l ++ s) a o nl = (lexF s (a + l.length) (stO o ts) (stL nl ts)).add ts := by
  intro n
  induction n with
  | zero =>
    intro l a o nl ts hn h
    have e : l = [] := List.eq_nil_of_length_eq_zero (by omega)
    subst e
    rw [lexF_nil _ _ _ rfl] at h
    injection h with h
    subst h
    rw [Res.add_nil]
    rfl
  | succ n ih =>
    intro l a o nl ts hn h
    cases hi : ignL false l with
    | nil =>
      rw [lexF_nil _ _ _ hi] at h
      injection h with h
      subst h
      rw [Res.add_nil]
      obtain ⟨b', e⟩ := ign_end false l s hi
      rw [hg b'] at e
      show lexF (l ++ s) a o nl = lexF s (a + l.length) o nl
      cases hj : ignL false s with
      | nil => rw [lexF_nil _ _ _ hj, lexF_nil _ _ _ (e.trans hj)]
      | cons c r =>
        have hl := ign_le hj
        rw [lexF_step _ _ _ hj, lexF_step _ _ _ (e.trans hj)]
        congr 1
        rw [List.length_append]
        omega
    | cons c r =>
      have hl := ign_le hi
      have e := ign_app false l s c r hi
      rw [lexF_step _ _ _ hi] at h
      rw [lexF_step _ _ _ e]
      have ea : a + ((l ++ s).length - ((r ++ s).length + 1)) = a + (l.length - (r.length + 1)) := by
        rw [List.length_append, List.length_append]
        omega
      rw [ea]
      obtain ⟨b, hb⟩ : ∃ b, b = a + (l.length - (r.length + 1)) := ⟨_, rfl⟩
      rw [← hb] at h ⊢
      unfold stepR at h ⊢
      by_cases hc : c = 10
      · rw [if_pos hc] at h ⊢
        by_cases ho : o = 0 ∧ nl = false
        · rw [if_pos ho] at h ⊢
          obtain ⟨q, hq, rfl⟩ := add_ok h
          rw [ih r (b + 1) o true q (by omega) hq, Res.add_add]
          simp only [stO, stL, List.cons_append, List.nil_append, List.foldl_cons, opn_five]
          congr 2
          omega
        · rw [if_neg ho] at h ⊢
          rw [ih r (b + 1) o nl ts (by omega) h]
          congr 2 <;> omega
      · rw [if_neg hc] at h ⊢
        by_cases he : (tokA (c :: r)).2.2.2 ≠ 0
        · rw [if_pos he] at h
          cases h
        · rw [if_neg he] at h
          obtain ⟨t1, t2, t3⟩ := tokA_app hs c r (by omega)
          have tk := tokA_kind c r (by omega)
          rw [t1, if_neg he]
          obtain ⟨q, hq, rfl⟩ := add_ok h
          have ed : (c :: (r ++ s)).drop (tokA (c :: r)).2.2.1 = (c :: r).drop (tokA (c :: r)).2.2.1 ++ s := by
            rw [← List.cons_append]
            exact List.drop_append_of_le_length t3
          rw [ed, ih _ _ _ _ q (by rw [List.length_drop]; simp only [List.length_cons]; omega) hq, Res.add_add]
          simp only [stO, stL, List.cons_append, List.nil_append, List.foldl_cons, List.length_drop, List.length_cons]
          have ek : ((tokA (c :: r)).1 == 5) = false := by
            rw [beq_eq_false_iff_ne]
            omega
          rw [ek]
          congr 2
          simp only [List.length_cons] at t3
          omega
theorem tokA_text (c : UInt8) (r : List UInt8) (h : (tokA (c :: r)).2.2.2 = 0) (h3 : (tokA (c :: r)).1 ≠ 3) :
    (tokA (c :: r)).2.1 = (c :: r).take (tokA (c :: r)).2.2.1 ∧ (tokA (c :: r)).2.1.length = (tokA (c :: r)).2.2.1 := by
  have tw : ∀ (p : UInt8 → Bool) (l : List UInt8), l.takeWhile p = l.take (l.takeWhile p).length := by
    intro p l
    induction l with
    | nil => rfl
    | cons a l ih =>
      rw [List.takeWhile_cons]
      split
      · rw [List.length_cons, List.take_succ_cons, ← ih]
      · rfl
  rw [tokA_cons] at h h3 ⊢
  split at h
  · rename_i h1
    rw [if_pos h1] at h3 ⊢
    unfold numA at h h3 ⊢
    split at h
    · simp at h
    · rename_i h2
      rw [if_neg h2] at h3 ⊢
      split at h
      · rename_i h4
        rw [if_pos h4]
        exact ⟨tw _ _, rfl⟩
      · simp at h
  rename_i h1
  rw [if_neg h1] at h3 ⊢
  split at h
  · rename_i h2
    rw [if_pos h2] at h3 ⊢
    unfold strA at h h3 ⊢
    split at h
    · rename_i h4; rw [if_pos h4] at h3; exact absurd rfl h3
    · rename_i h4; exact absurd h h4
  rename_i h2
  rw [if_neg h2] at h3 ⊢
  split at h
  · rename_i h4
    rw [if_pos h4] at h3 ⊢
    unfold namA at h ⊢
    split at h
    · simp at h
    · rename_i h5
      rw [if_neg h5]
      exact ⟨tw _ _, rfl⟩
  · rename_i h4
    rw [if_neg h4] at h3 ⊢
    unfold opA at h ⊢
    split at h
    · simp at h
    · rename_i h5
      rw [if_neg h5]
      refine ⟨rfl, ?_⟩
      show ((c :: r).take (opL (c :: r))).length = opL (c :: r)
      rw [List.length_take]
      have := opL_le (c :: r)
      omega
theorem ign_eq {l r : List UInt8} {c : UInt8} (b : Bool) (h : ignL b l = c :: r) : ∃ p, l = p ++ c :: r := by
  induction l generalizing b with
  | nil => simp [ignL] at h
  | cons d l ih =>
    unfold ignL at h
    split at h
    · obtain ⟨p, e⟩ := ih _ h
      exact ⟨d :: p, by rw [e]; rfl⟩
    · injection h with h1 h2
      exact ⟨[], by rw [h1, h2]; rfl⟩
/-- Where the tokens of a source stand. -/
def AtOK (l : List UInt8) (a : Nat) (t : Tk) : Prop := a ≤ t.at_ ∧ t.at_ < a + l.length ∧ (t.kind ≠ 3 → t.kind ≠ 5 → t.at_ + t.text.length ≤ a + l.length ∧ (l.drop (t.at_ - a)).take t.text.length = t.text)
theorem AtOK.front {l p q : List UInt8} {a b : Nat} {t : Tk} (e : l = p ++ q) (hb : b = a + p.length) (h : AtOK q b t) : AtOK l a t := by
  subst e hb
  obtain ⟨h1, h2, h3⟩ := h
  refine ⟨by omega, by rw [List.length_append]; omega, fun k3 k5 => ?_⟩
  obtain ⟨g1, g2⟩ := h3 k3 k5
  refine ⟨by rw [List.length_append]; omega, ?_⟩
  rw [show t.at_ - a = p.length + (t.at_ - (a + p.length)) by omega, List.drop_append]
  rw [show p.length + (t.at_ - (a + p.length)) - p.length = t.at_ - (a + p.length) by omega, List.drop_eq_nil_of_le (by omega), List.nil_append]
  exact g2
theorem lexF_at : ∀ (n : Nat) (l : List UInt8) (a o : Nat) (nl : Bool) (ts : List Tk), l.length ≤ n → lexF l a o nl = .ok ts → (∀ t, t ∈ ts → AtOK l a t) ∧ ts.Pairwise (fun x y => x.at_ < y.at_) := by
  intro n
  induction n with
  | zero =>
    intro l a o nl ts hn h
    have e : l = [] := List.eq_nil_of_length_eq_zero (by omega)
    subst e
    rw [lexF_nil _ _ _ rfl] at h
    injection h with h
    subst h
    exact ⟨fun t ht => by simp at ht, List.Pairwise.nil⟩
  | succ n ih =>
    intro l a o nl ts hn h
    cases hi : ignL false l with
    | nil =>
      rw [lexF_nil _ _ _ hi] at h
      injection h with h
      subst h
      exact ⟨fun t ht => by simp at ht, List.Pairwise.nil⟩
    | cons c r =>
      obtain ⟨p, hp⟩ := ign_eq false hi
      rw [lexF_step _ _ _ hi] at h
      have ea : a + (l.length - (r.length + 1)) = a + p.length := by
        rw [hp, List.length_append, List.length_cons]
        omega
      rw [ea] at h
      have hl : l.length = p.length + (r.length + 1) := by rw [hp, List.length_append, List.length_cons]
      unfold stepR at h
      by_cases hc : c = 10
      · rw [if_pos hc] at h
        have ep : l = (p ++ [c]) ++ r := by rw [hp, List.append_assoc]; rfl
        have eb : a + p.length + 1 = a + (p ++ [c]).length := by rw [List.length_append]; simp; omega
        by_cases ho : o = 0 ∧ nl = false
        · rw [if_pos ho] at h
          obtain ⟨q, hq, rfl⟩ := add_ok h
          obtain ⟨i1, i2⟩ := ih r _ _ _ q (by omega) hq
          refine ⟨fun t ht => ?_, ?_⟩
          · rcases List.mem_cons.1 ht with rfl | ht
            · exact ⟨Nat.le_add_right _ _, by show a + p.length < _; omega, fun _ k5 => absurd rfl k5⟩
            · exact AtOK.front ep eb (i1 t ht)
          · refine List.Pairwise.cons (fun t ht => ?_) i2
            have := (i1 t ht).1
            show a + p.length < _
            omega
        · rw [if_neg ho] at h
          obtain ⟨i1, i2⟩ := ih r _ _ _ ts (by omega) h
          exact ⟨fun t ht => AtOK.front ep eb (i1 t ht), i2⟩
      · rw [if_neg hc] at h
        by_cases he : (tokA (c :: r)).2.2.2 ≠ 0
        · rw [if_pos he] at h
          cases h
        · rw [if_neg he] at h
          have tl := tok_len c r (by omega)
          have tt := tokA_text c r (by omega)
          obtain ⟨q, hq, rfl⟩ := add_ok h
          obtain ⟨m, hm⟩ : ∃ m, m = (tokA (c :: r)).2.2.1 := ⟨_, rfl⟩
          rw [← hm] at tl tt hq
          have ep : l = (p ++ (c :: r).take m) ++ (c :: r).drop m := by rw [List.append_assoc, List.take_append_drop, ← hp]
          have eb : a + p.length + m = a + (p ++ (c :: r).take m).length := by rw [List.length_append, List.length_take]; omega
          simp only [List.length_cons] at tl
          obtain ⟨i1, i2⟩ := ih _ _ _ _ q (by rw [List.length_drop]; simp only [List.length_cons]; omega) hq
          refine ⟨fun t ht => ?_, ?_⟩
          · rcases List.mem_cons.1 ht with rfl | ht
            · refine ⟨Nat.le_add_right _ _, by show a + p.length < _; omega, fun k3 _ => ?_⟩
              obtain ⟨t1, t2⟩ := tt k3
              refine ⟨by show a + p.length + (tokA (c :: r)).2.1.length ≤ _; omega, ?_⟩
              show (l.drop (a + p.length - a)).take (tokA (c :: r)).2.1.length = (tokA (c :: r)).2.1
              rw [show a + p.length - a = p.length by omega, t2, hp, List.drop_left, t1]
            · exact AtOK.front ep eb (i1 t ht)
          · refine List.Pairwise.cons (fun t ht => ?_) i2
            have := (i1 t ht).1
            show a + p.length < _
            omega
def shT (d : Nat) (t : Tk) : Tk := ⟨t.kind, t.text, t.at_ + d⟩
theorem add_map {x : Res} {p : Tk} {ts : List Tk} (h : x.add [p] = .ok ts) : ∃ q, x = .ok q ∧ ts = p :: q := add_ok h
theorem lexF_shift (d : Nat) : ∀ (n : Nat) (l : List UInt8) (a o : Nat) (nl : Bool) (ts : List Tk), l.length ≤ n → lexF l a o nl = .ok ts → lexF l (a + d) o nl = .ok (ts.map (shT d)) := by
  intro n
  induction n with
  | zero =>
    intro l a o nl ts hn h
    have e : l = [] := List.eq_nil_of_length_eq_zero (by omega)
    subst e
    rw [lexF_nil _ _ _ rfl] at h
    injection h with h
    subst h
    exact lexF_nil _ _ _ rfl
  | succ n ih =>
    intro l a o nl ts hn h
    cases hi : ignL false l with
    | nil =>
      rw [lexF_nil _ _ _ hi] at h
      injection h with h
      subst h
      exact lexF_nil _ _ _ hi
    | cons c r =>
      have hl := ign_le hi
      rw [lexF_step _ _ _ hi] at h
      rw [lexF_step _ _ _ hi]
      obtain ⟨b, hb⟩ : ∃ b, b = a + (l.length - (r.length + 1)) := ⟨_, rfl⟩
      rw [← hb] at h
      rw [show a + d + (l.length - (r.length + 1)) = b + d by omega]
      unfold stepR at h ⊢
      by_cases hc : c = 10
      · rw [if_pos hc] at h ⊢
        by_cases ho : o = 0 ∧ nl = false
        · rw [if_pos ho] at h ⊢
          obtain ⟨q, hq, rfl⟩ := add_map h
          rw [show b + d + 1 = b + 1 + d by omega, ih r _ _ _ q (by omega) hq]
          rfl
        · rw [if_neg ho] at h ⊢
          rw [show b + d + 1 = b + 1 + d by omega, ih r _ _ _ ts (by omega) h]
      · rw [if_neg hc] at h ⊢
        by_cases he : (tokA (c :: r)).2.2.2 ≠ 0
        · rw [if_pos he] at h
          cases h
        · rw [if_neg he] at h ⊢
          have tl := tok_len c r (by omega)
          obtain ⟨q, hq, rfl⟩ := add_map h
          rw [show b + d + (tokA (c :: r)).2.2.1 = b + (tokA (c :: r)).2.2.1 + d by omega, ih _ _ _ _ q (by rw [List.length_drop]; simp only [List.length_cons]; omega) hq]
          rfl
/-- The source of a token. -/
def srcT (t : Tk) : List UInt8 := if t.kind = 3 then quoL t.text else if t.kind = 5 then [10] else t.text
def sepL (p : Bool) (k : Int) : List UInt8 := if p = true ∧ k ≠ 5 then [32] else []
/-- A token that its own source is read as. -/
def SelfT (t : Tk) : Prop := (tokA (srcT t)) = (t.kind, t.text, (srcT t).length, 0) ∧ t.kind ≠ 5 ∧ ∃ c r, srcT t = c :: r ∧ c ≠ 10 ∧ c ≠ 32 ∧ c ≠ 9 ∧ c ≠ 35
inductive Wf : Nat → Bool → List Tk → Prop where
  | nil (o : Nat) (nl : Bool) : Wf o nl []
  | line (t : Tk) (r : List Tk) : t.kind = 5 → t.text = [] → Wf 0 true r → Wf 0 false (t :: r)
  | tok (o : Nat) (nl : Bool) (t : Tk) (r : List Tk) : SelfT t → Wf (opn o t.kind t.text) false r → Wf o nl (t :: r)
theorem ign_head : ∀ (b : Bool) (l : List UInt8) (c : UInt8) (r : List UInt8), ignL b l = c :: r → c = 10 ∨ (c ≠ 32 ∧ c ≠ 9 ∧ c ≠ 35)
  | b, [], c, r, h => by simp [ignL] at h
  | b, d :: l, c, r, h => by
    unfold ignL at h
    split at h
    · exact ign_head _ l c r h
    · rename_i h1
      injection h with h2 h3
      subst h2
      by_cases hd : d = 10
      · exact .inl hd
      · exact .inr ⟨fun e => h1 ⟨hd, .inr (.inl e)⟩, fun e => h1 ⟨hd, .inr (.inr (.inl e))⟩, fun e => h1 ⟨hd, .inr (.inr (.inr e))⟩⟩
theorem tw_tw (p q : UInt8 → Bool) (hpq : ∀ c, p c = true → q c = true) : ∀ l : List UInt8, (l.takeWhile p).takeWhile q = l.takeWhile p
  | [] => rfl
  | a :: l => by
    rw [List.takeWhile_cons]
    split
    · rename_i h
      rw [List.takeWhile_cons, hpq a h, if_pos rfl, tw_tw p q hpq l]
    · rfl
theorem txt_bound : ∀ (n : Nat) (l acc : List UInt8) (k : Nat), (txtN n l acc k).2.2 = 0 → (txtN n l acc k).1.length ≤ 4096
  | 0, l, acc, k, h => by simp [txtN] at h
  | n + 1, [], acc, k, h => by simp [txtN] at h
  | n + 1, c :: r, acc, k, h => by
    unfold txtN at h ⊢
    by_cases h1 : c = 34
    · rw [if_pos h1] at h ⊢
      split at h
      · simp at h
      · rename_i h2
        rw [if_neg h2]
        show acc.length ≤ 4096
        omega
    · rw [if_neg h1] at h ⊢
      by_cases h2 : (chrA (c :: r)).2.2 ≠ 0
      · rw [if_pos h2] at h
        exact absurd h h2
      · rw [if_neg h2] at h ⊢
        exact txt_bound n _ _ _ h
theorem opL_self (l : List UInt8) (h : opL l ≠ 0) : opL (l.take (opL l)) = opL l := by
  match l, h with
  | [], h => exact absurd rfl h
  | [c], h =>
    have e : opL [c] = 1 := by
      simp only [opL] at h ⊢
      split
      · rfl
      · rename_i h1; rw [if_neg h1] at h; exact absurd rfl h
    rw [e]
    exact e
  | c :: d :: t, h =>
    by_cases h1 : dbl.contains [c, d] = true
    · have e : opL (c :: d :: t) = 2 := by simp only [opL]; rw [if_pos h1]
      rw [e]
      show opL [c, d] = 2
      simp only [opL]
      rw [if_pos h1]
    · by_cases h2 : sgl.contains c = true
      · have e : opL (c :: d :: t) = 1 := by simp only [opL]; rw [if_neg h1, if_pos h2]
        rw [e]
        show opL [c] = 1
        simp only [opL]
        rw [if_pos h2]
      · have e : opL (c :: d :: t) = 0 := by simp only [opL]; rw [if_neg h1, if_neg h2]
        exact absurd e h
theorem tok_self (c : UInt8) (r : List UInt8) (a : Nat) (h : (tokA (c :: r)).2.2.2 = 0) (h10 : c ≠ 10) (hc : c ≠ 32 ∧ c ≠ 9 ∧ c ≠ 35) : SelfT ⟨(tokA (c :: r)).1, (tokA (c :: r)).2.1, a⟩ := by
  have kd := tokA_kind c r h
  have k5 : (tokA (c :: r)).1 ≠ 5 := by omega
  have dw : ∀ x, dgB x = true → wrdB x = true := fun x hx => by unfold wrdB; rw [hx, Bool.or_true]
  rw [tokA_cons] at h kd k5 ⊢
  by_cases h1 : dgB c = true
  · rw [if_pos h1] at h kd k5 ⊢
    have hd : ∃ t, (c :: r).takeWhile dgB = c :: t := ⟨r.takeWhile dgB, by rw [List.takeWhile_cons, if_pos h1]⟩
    have e1 := tw_tw dgB dgB (fun _ h => h) (c :: r)
    have e2 := tw_tw dgB wrdB dw (c :: r)
    generalize (c :: r).takeWhile dgB = d at *
    generalize (c :: r).takeWhile wrdB = w at *
    unfold numA at h kd k5 ⊢
    by_cases h2 : d.length < w.length ∨ (1 < d.length ∧ c = 48)
    · rw [if_pos h2] at h
      simp at h
    rw [if_neg h2] at h kd k5 ⊢
    by_cases h3 : intB d = true
    · rw [if_pos h3]
      obtain ⟨t, rfl⟩ := hd
      refine ⟨?_, by simp, c, t, rfl, h10, hc.1, hc.2.1, hc.2.2⟩
      show tokA (c :: t) = (2, c :: t, (c :: t).length, 0)
      rw [tokA_cons, if_pos h1, e1, e2]
      unfold numA
      rw [if_neg (by intro e; rcases e with e | e; omega; exact h2 (.inr e)), if_pos h3]
    · rw [if_neg h3] at h
      simp at h
  rw [if_neg h1] at h kd k5 ⊢
  by_cases h2 : c = 34
  · rw [if_pos h2] at h kd k5 ⊢
    have hb := txt_bound (r.length + 1) r [] 1
    unfold strA at h kd k5 ⊢
    by_cases h3 : (txtN (r.length + 1) r [] 1).2.2 = 0
    · rw [if_pos h3]
      have hb := hb h3
      generalize (txtN (r.length + 1) r [] 1).1 = s at *
      refine ⟨?_, by simp, 34, s.flatMap chrL ++ [34], rfl, by decide, by decide, by decide, by decide⟩
      have ht := tok_quo s [] hb
      rw [List.append_nil] at ht
      exact ht
    · rw [if_neg h3] at h
      exact absurd h h3
  rw [if_neg h2] at h kd k5 ⊢
  by_cases h3 : letB c = true
  · rw [if_pos h3] at h kd k5 ⊢
    have hd : ∃ t, (c :: r).takeWhile wrdB = c :: t := ⟨r.takeWhile wrdB, by rw [List.takeWhile_cons, if_pos (by unfold wrdB; rw [h3]; rfl)]⟩
    have e1 := tw_tw wrdB wrdB (fun _ h => h) (c :: r)
    generalize (c :: r).takeWhile wrdB = w at *
    unfold namA at h kd k5 ⊢
    by_cases h4 : 64 < w.length
    · rw [if_pos h4] at h
      simp at h
    · rw [if_neg h4]
      obtain ⟨t, rfl⟩ := hd
      refine ⟨?_, by simp, c, t, rfl, h10, hc.1, hc.2.1, hc.2.2⟩
      show tokA (c :: t) = (1, c :: t, (c :: t).length, 0)
      rw [tokA_cons, if_neg h1, if_neg h2, if_pos h3, e1]
      unfold namA
      rw [if_neg h4]
  · rw [if_neg h3] at h kd k5 ⊢
    have es := opL_self (c :: r)
    unfold opA at h kd k5 ⊢
    by_cases h4 : opL (c :: r) = 0
    · rw [if_pos h4] at h
      simp at h
    · rw [if_neg h4]
      have es := es h4
      have hd : ∃ t, (c :: r).take (opL (c :: r)) = c :: t := ⟨r.take (opL (c :: r) - 1), by
        obtain ⟨n, hn⟩ : ∃ n, opL (c :: r) = n + 1 := ⟨opL (c :: r) - 1, by omega⟩
        rw [hn]
        rfl⟩
      have hle := opL_le (c :: r)
      have hlen : ((c :: r).take (opL (c :: r))).length = opL (c :: r) := by rw [List.length_take]; omega
      obtain ⟨t, ht⟩ := hd
      rw [ht] at es hlen ⊢
      refine ⟨?_, by simp, c, t, rfl, h10, hc.1, hc.2.1, hc.2.2⟩
      show tokA (c :: t) = (4, c :: t, (c :: t).length, 0)
      rw [tokA_cons, if_neg h1, if_neg h2, if_neg h3]
      unfold opA
      rw [es, if_neg h4, ← hlen, List.take_length]
theorem lexF_wf : ∀ (n : Nat) (l : List UInt8) (a o : Nat) (nl : Bool) (ts : List Tk), l.length ≤ n → lexF l a o nl = .ok ts → Wf o nl ts := by
  intro n
  induction n with
  | zero =>
    intro l a o nl ts hn h
    have e : l = [] := List.eq_nil_of_length_eq_zero (by omega)
    subst e
    rw [lexF_nil _ _ _ rfl] at h
    injection h with h
    subst h
    exact .nil o nl
  | succ n ih =>
    intro l a o nl ts hn h
    cases hi : ignL false l with
    | nil =>
      rw [lexF_nil _ _ _ hi] at h
      injection h with h
      subst h
      exact .nil o nl
    | cons c r =>
      have hl := ign_le hi
      have hh := ign_head _ _ _ _ hi
      rw [lexF_step _ _ _ hi] at h
      unfold stepR at h
      by_cases hc : c = 10
      · rw [if_pos hc] at h
        by_cases ho : o = 0 ∧ nl = false
        · rw [if_pos ho] at h
          obtain ⟨q, hq, rfl⟩ := add_map h
          obtain ⟨rfl, rfl⟩ := ho
          exact .line _ _ rfl rfl (ih r _ _ _ q (by omega) hq)
        · rw [if_neg ho] at h
          exact ih r _ _ _ ts (by omega) h
      · rw [if_neg hc] at h
        by_cases he : (tokA (c :: r)).2.2.2 ≠ 0
        · rw [if_pos he] at h
          cases h
        · rw [if_neg he] at h
          have tl := tok_len c r (by omega)
          obtain ⟨q, hq, rfl⟩ := add_map h
          refine .tok o nl _ q (tok_self c r _ (by omega) hc (hh.resolve_left hc)) (ih _ _ _ _ q (by rw [List.length_drop]; simp only [List.length_cons]; omega) hq)
def kt (t : Tk) : Int × List UInt8 := (t.kind, t.text)
end Go.Proofs.YtjehhldboopocaaGreatDoor.Lx
