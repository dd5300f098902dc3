/- The document's Satisfies and Implies, in numbers alone (label): they answer as the program does. -/
import Derived.Test.YtglckcenjnieaaaGreatDoorLdC
import Derived.Test.YtglckcenjnieaaaGreatDoorLaX
namespace Go.Proofs.YtglckcenjnieaaaGreatDoor
open Go.RowKit Go.Lib

def labelD (l : List UInt8) : DPart := if (readD l).1 ≠ 1 ∧ (readD l).1 ≠ 5 then (0, [], 0) else readD l
def matchD (l x : DPart) : Bool :=
  if l.1 = 0 ∨ l.2.1 ≠ x.2.1 then false
  else if x.1 = 1 ∨ x.1 = 2 then true
  else if x.1 = 3 then decide (l.1 = 5 ∧ x.2.2 ≤ l.2.2)
  else if x.1 = 4 then decide (l.1 = 5 ∧ l.2.2 ≤ x.2.2)
  else decide (l.1 = 5 ∧ l.2.2 = x.2.2)
def oneD (L : List (List UInt8)) (x : DPart) : Bool := decide (x.1 ≠ 0) && ((L.any fun y => matchD (labelD y) x) != decide (x.1 = 2))
def satD (L M : List (List UInt8)) : Bool := M.all fun y => oneD L (readD y)

theorem partD_form (f : Int) (a b : List UInt8) : (partD f a b = (0, [], 0)) ∨ (∃ k : Nat, partD f a b = (f, a, (k : Int)) ∧ k ≤ 9007199254740992 ∧ nameB a = true) := by
  unfold partD
  cases h : numL b with
  | none => exact Or.inl rfl
  | some k =>
    dsimp only
    by_cases hn : nameB a = true
    · rw [if_pos hn]
      exact Or.inr ⟨k, rfl, numL_le h, hn⟩
    · rw [if_neg hn]
      exact Or.inl rfl
/-- The forms of what is read: none, or one of five with a name. -/
theorem read_form (l : List UInt8) : readD l = (0, [], 0) ∨ ((readD l).1 = 1 ∨ (readD l).1 = 2 ∨ (readD l).1 = 3 ∨ (readD l).1 = 4 ∨ (readD l).1 = 5) ∧ 0 ≤ (readD l).2.2 ∧ (readD l).2.2 ≤ 9007199254740992 ∧ nameB (readD l).2.1 = true := by
  unfold readD
  split
  · split
    · rename_i h; exact Or.inr ⟨Or.inr (Or.inl rfl), by dsimp only; omega, by dsimp only; omega, h⟩
    · exact Or.inl rfl
  split
  · rename_i h; exact Or.inr ⟨Or.inl rfl, by dsimp only; omega, by dsimp only; omega, h.2⟩
  unfold readS
  split
  · rcases partD_form 3 (preP l) ((sufP l).drop 2) with h | ⟨k, h, hk, hn⟩
    · exact Or.inl h
    · rw [h]; exact Or.inr ⟨Or.inr (Or.inr (Or.inl rfl)), by dsimp only; omega, by dsimp only; omega, hn⟩
  split
  · rcases partD_form 4 (preP l) ((sufP l).drop 2) with h | ⟨k, h, hk, hn⟩
    · exact Or.inl h
    · rw [h]; exact Or.inr ⟨Or.inr (Or.inr (Or.inr (Or.inl rfl))), by dsimp only; omega, by dsimp only; omega, hn⟩
  split
  · rcases partD_form 5 (preP l) ((sufP l).drop 1) with h | ⟨k, h, hk, hn⟩
    · exact Or.inl h
    · rw [h]; exact Or.inr ⟨Or.inr (Or.inr (Or.inr (Or.inr rfl))), by dsimp only; omega, by dsimp only; omega, hn⟩
  · exact Or.inl rfl
/-- Is one of a name's states of this kind? -/
theorem stL_any (f : Int → Bool) (L : List (List UInt8)) (a : List UInt8) : (stL L a).any f = L.any fun y => match labP y with
    | none => false
    | some (b, s) => decide (b = a) && f s := by
  induction L with
  | nil => rfl
  | cons y r ih =>
    cases hP : labP y with
    | none => rw [stL_none hP, List.any_cons, ih, hP]; rfl
    | some q =>
      obtain ⟨b, s⟩ := q
      rw [stL_some hP, List.any_append, ih, List.any_cons, hP]
      by_cases h : b = a <;> simp [h]
theorem stL_nil (L : List (List UInt8)) (a : List UInt8) : decide (stL L a = []) = !((stL L a).any fun _ => true) := by
  cases stL L a <;> simp
def kindD (f n s : Int) : Bool := if f = 1 ∨ f = 2 then true else if f = 3 then decide (n ≤ s) else if f = 4 then decide (0 ≤ s ∧ s ≤ n) else decide (s = n)
theorem match_lab (y : List UInt8) (f n : Int) (a : List UInt8) (hn : 0 ≤ n) : matchD (labelD y) (f, a, n) = (match labP y with
    | none => false
    | some (b, s) => decide (b = a) && kindD f n s) := by
  rw [lab_read]
  unfold labelD matchD kindD
  rcases read_form y with h | ⟨h, h0, h1, hN⟩
  · rw [h]; rfl
  · generalize readD y = d at h h0 h1 hN ⊢
    obtain ⟨g, b, m⟩ := d
    dsimp only at h h0 h1 hN ⊢
    rcases h with rfl | rfl | rfl | rfl | rfl
    · simp only [stateD]
      by_cases hb : b = a
      · subst hb
        by_cases f1 : f = 1 ∨ f = 2
        · simp [f1]
        · by_cases f3 : f = 3
          · subst f3; simp; omega
          · by_cases f4 : f = 4
            · subst f4; simp
            · simp [f1, f3, f4]; omega
      · simp [hb]
    · simp [stateD]
    · simp [stateD]
    · simp [stateD]
    · simp only [stateD]
      by_cases hb : b = a
      · subst hb
        by_cases f1 : f = 1 ∨ f = 2
        · simp [f1]
        · by_cases f3 : f = 3
          · subst f3; simp
          · by_cases f4 : f = 4
            · subst f4; simp; omega
            · simp [f1, f3, f4]
      · simp [hb]
theorem stL_bounds {L : List (List UInt8)} {a : List UInt8} {s : Int} (h : s ∈ stL L a) : -1 ≤ s ∧ s ≤ 9007199254740992 := by
  unfold stL at h
  obtain ⟨y, _, hy⟩ := List.mem_filterMap.1 h
  split at hy
  · cases hy
  · rename_i b t hP
    split at hy
    · injection hy with hy
      rw [← hy]
      exact labP_bounds hP
    · cases hy
theorem any_match (L : List (List UInt8)) (f n : Int) (a : List UInt8) (hn : 0 ≤ n) : (L.any fun y => matchD (labelD y) (f, a, n)) = (stL L a).any (kindD f n) := by
  rw [stL_any]
  congr 1
  funext y
  exact match_lab y f n a hn
theorem any_congr' {z : List Int} {f g : Int → Bool} (h : ∀ s ∈ z, f s = g s) : z.any f = z.any g := by
  induction z with
  | nil => rfl
  | cons a r ih => rw [List.any_cons, List.any_cons, h a (by simp), ih fun s hs => h s (by simp [hs])]
theorem incl_kind {L : List (List UInt8)} {a : List UInt8} {f n lo hi : Int} (hlo : -1 ≤ lo) (h : ∀ s, -1 ≤ s → s ≤ 9007199254740992 → (decide (lo ≤ s) && decide (s ≤ hi)) = kindD f n s) : inclB lo hi (stL L a) = (stL L a).any (kindD f n) := by
  unfold inclB
  by_cases e : stL L a = []
  · rw [if_pos e, e, List.any_nil, beq_eq_false_iff_ne]; omega
  · rw [if_neg e]
    exact any_congr' fun s hs => h s (stL_bounds hs).1 (stL_bounds hs).2
theorem one_sat (L : List (List UInt8)) (x : List UInt8) : satF (stL L) x = !(oneD L (readD x)) := by
  unfold satF oneD
  rw [need_read]
  rcases read_form x with h | ⟨h, h0, h1, hN⟩
  · rw [h]; rfl
  · generalize readD x = d at h h0 h1 hN ⊢
    obtain ⟨f, a, n⟩ := d
    dsimp only at h h0 h1 hN ⊢
    rw [any_match L f n a h0]
    rcases h with rfl | rfl | rfl | rfl | rfl
    · simp only [spanD, if_true]
      rw [incl_kind (f := 1) (n := n) (by decide) (fun s h1 h2 => by unfold kindD; simp; omega)]
      simp
    · simp only [spanD]
      simp only [show ¬ ((2 : Int) = 1) by decide, if_false, if_true]
      have hk : (kindD 2 n) = fun _ => true := by funext s; simp [kindD]
      rw [hk]
      have := stL_nil L a
      unfold inclB
      by_cases e : stL L a = []
      · rw [if_pos e, e]; rfl
      · rw [if_neg e]
        rw [decide_eq_false e] at this
        have ha : ((stL L a).any fun _ => true) = true := by simpa using this.symm
        rw [ha]
        have hz : ((stL L a).any fun x => decide (-2 ≤ x) && decide (x ≤ -2)) = false := by
          rw [List.any_eq_false]
          intro s hs
          have := (stL_bounds hs).1
          simp; omega
        rw [hz]
        rfl
    · simp only [spanD]
      simp only [show ¬ ((3 : Int) = 1) by decide, show ¬ ((3 : Int) = 2) by decide, if_false, if_true]
      rw [incl_kind (f := 3) (n := n) (by omega) (fun s h1 h2 => by unfold kindD; simp; omega)]
      simp
    · simp only [spanD]
      simp only [show ¬ ((4 : Int) = 1) by decide, show ¬ ((4 : Int) = 2) by decide, show ¬ ((4 : Int) = 3) by decide, if_false, if_true]
      rw [incl_kind (f := 4) (n := n) (by omega) (fun s h1 h2 => by unfold kindD; simp)]
      simp
    · simp only [spanD]
      simp only [show ¬ ((5 : Int) = 1) by decide, show ¬ ((5 : Int) = 2) by decide, show ¬ ((5 : Int) = 3) by decide, show ¬ ((5 : Int) = 4) by decide, if_false, if_true]
      rw [incl_kind (f := 5) (n := n) (by omega) (fun s h1 h2 => by rw [Bool.eq_iff_iff]; unfold kindD; simp; omega)]
      simp
theorem sat_doc (L M : List (List UInt8)) : satB L M = satD L M := by
  rw [satB_plain]
  unfold satD
  rw [show (satF (stL L)) = fun y => !(oneD L (readD y)) from funext (one_sat L)]
  rw [List.not_any_eq_all_not]
  simp

/-- What requirements permit for a name: no label; one without a number; one with a number. -/
structure DCase where
  ab : Bool
  pl : Bool
  lo : Int
  hi : Int
def meetD (c : DCase) (x : DPart) : DCase :=
  if x.1 = 2 then ⟨c.ab, false, 1, 0⟩
  else ⟨false, c.pl && decide (x.1 = 1), if x.1 = 3 ∨ x.1 = 5 then max c.lo x.2.2 else c.lo, if x.1 = 4 ∨ x.1 = 5 then min c.hi x.2.2 else c.hi⟩
def stepD (a : List UInt8) (c : DCase) (y : List UInt8) : DCase := if (readD y).1 ≠ 0 ∧ (readD y).2.1 = a then meetD c (readD y) else c
def permD (L : List (List UInt8)) (a : List UInt8) : DCase := L.foldl (stepD a) ⟨true, true, 0, 9007199254740992⟩
def possD (c : DCase) : Bool := c.ab || c.pl || decide (c.lo ≤ c.hi)
def withinD (a b : DCase) : Bool := ((!a.ab || b.ab) && (!a.pl || b.pl)) && (decide (a.hi < a.lo) || decide (b.lo ≤ a.lo ∧ a.hi ≤ b.hi))
def canD (L : List (List UInt8)) : Bool := L.all fun y => decide ((readD y).1 ≠ 0) && possD (permD L (readD y).2.1)
def impD (A B : List (List UInt8)) : Bool := if canD A = true then (B.all fun y => decide ((readD y).1 ≠ 0) && withinD (permD A (readD y).2.1) (permD B (readD y).2.1)) else true

def inC (c : DCase) (s : Int) : Prop := s = -2 ∧ c.ab = true ∨ s = -1 ∧ c.pl = true ∨ 0 ≤ s ∧ c.lo ≤ s ∧ s ≤ c.hi
theorem meet_inC {c : DCase} {f n lo hi s : Int} {a : List UInt8} (hf : f = 1 ∨ f = 2 ∨ f = 3 ∨ f = 4 ∨ f = 5) (h0 : 0 ≤ n) (h1 : n ≤ 9007199254740992) (hs : s ≤ 9007199254740992) (hx : spanD (f, a, n) = some (a, lo, hi)) : inC (meetD c (f, a, n)) s ↔ inC c s ∧ lo ≤ s ∧ s ≤ hi := by
  obtain ⟨ab, pl, cl, ch⟩ := c
  unfold meetD inC
  dsimp only
  rcases hf with rfl | rfl | rfl | rfl | rfl
  · simp only [spanD, if_true] at hx
    injection hx with hx; injection hx with _ hx; injection hx with hx1 hx2
    subst hx1 hx2
    simp
    cases ab <;> cases pl <;> simp <;> omega
  · simp [spanD] at hx
    obtain ⟨rfl, rfl⟩ := hx
    simp
    cases ab <;> cases pl <;> simp <;> omega
  · simp [spanD] at hx
    obtain ⟨rfl, rfl⟩ := hx
    simp
    cases ab <;> cases pl <;> simp <;> omega
  · simp [spanD] at hx
    obtain ⟨rfl, rfl⟩ := hx
    simp
    cases ab <;> cases pl <;> simp <;> omega
  · simp [spanD] at hx
    obtain ⟨rfl, rfl⟩ := hx
    simp
    cases ab <;> cases pl <;> simp <;> omega
theorem step_inC (a y : List UInt8) (c : DCase) (s : Int) (hs : s ≤ 9007199254740992) : inC (stepD a c y) s ↔ inC c s ∧ ∀ lo hi, needP y = some (a, lo, hi) → lo ≤ s ∧ s ≤ hi := by
  unfold stepD
  rw [need_read]
  rcases read_form y with h | ⟨h, h0, h1, hN⟩
  · rw [h, if_neg (by simp)]
    exact ⟨fun e => ⟨e, fun lo hi e2 => by cases e2⟩, fun e => e.1⟩
  · generalize readD y = d at h h0 h1 hN ⊢
    obtain ⟨f, b, n⟩ := d
    dsimp only at h h0 h1 hN ⊢
    have hex : ∃ lo hi, spanD (f, b, n) = some (b, lo, hi) := by
      rcases h with rfl | rfl | rfl | rfl | rfl <;> exact ⟨_, _, rfl⟩
    obtain ⟨lo, hi, hx⟩ := hex
    by_cases hb : b = a
    · subst hb
      rw [if_pos ⟨by omega, rfl⟩, meet_inC h h0 h1 hs hx]
      refine and_congr_right fun _ => ⟨fun e lo' hi' e2 => ?_, fun e => e lo hi hx⟩
      rw [hx] at e2
      injection e2 with e2; injection e2 with _ e2; injection e2 with e3 e4
      rw [← e3, ← e4]; exact e
    · rw [if_neg (fun e => hb e.2)]
      refine ⟨fun e => ⟨e, fun lo' hi' e2 => ?_⟩, fun e => e.1⟩
      rw [hx] at e2
      injection e2 with e2; injection e2 with e2 _
      exact absurd e2 hb
theorem fold_inC (a : List UInt8) (s : Int) (hs : s ≤ 9007199254740992) : ∀ (L : List (List UInt8)) (c : DCase), inC (L.foldl (stepD a) c) s ↔ inC c s ∧ ∀ y ∈ L, ∀ lo hi, needP y = some (a, lo, hi) → lo ≤ s ∧ s ≤ hi
  | [], c => by simp
  | y :: r, c => by
    rw [List.foldl_cons, fold_inC a s hs r, step_inC a y c s hs]
    constructor
    · rintro ⟨⟨h1, h2⟩, h3⟩
      refine ⟨h1, fun z hz => ?_⟩
      rcases List.mem_cons.1 hz with rfl | hz
      · exact h2
      · exact h3 z hz
    · rintro ⟨h1, h2⟩
      exact ⟨⟨h1, h2 y (by simp)⟩, fun z hz => h2 z (by simp [hz])⟩
def okC (c : DCase) : Prop := 0 ≤ c.lo ∧ c.hi ≤ 9007199254740992
theorem step_ok (a y : List UInt8) (c : DCase) (h : okC c) : okC (stepD a c y) := by
  unfold stepD
  split
  · rcases read_form y with e | ⟨e, h0, h1, hN⟩
    · rename_i hh; rw [e] at hh; exact absurd rfl hh.1
    · rename_i hh
      generalize readD y = d at e h0 h1 hN hh ⊢
      obtain ⟨f, b, n⟩ := d
      dsimp only at e h0 h1 hN hh ⊢
      unfold meetD okC at *
      dsimp only
      rcases e with rfl | rfl | rfl | rfl | rfl <;> simp <;> omega
  · exact h
theorem fold_ok (a : List UInt8) : ∀ (L : List (List UInt8)) (c : DCase), okC c → okC (L.foldl (stepD a) c)
  | [], _, h => h
  | y :: r, c, h => fold_ok a r _ (step_ok a y c h)
theorem perm_ok (L : List (List UInt8)) (a : List UInt8) : okC (permD L a) := fold_ok a L _ ⟨by decide, by decide⟩
theorem inC_bounds {c : DCase} {s : Int} (h : inC c s) (ho : okC c) : -2 ≤ s ∧ s ≤ 9007199254740992 := by
  unfold okC at ho
  rcases h with h | h | h <;> omega
theorem perm_inC (L : List (List UInt8)) (a : List UInt8) (s : Int) : inC (permD L a) s ↔ (-2 ≤ s ∧ s ≤ 9007199254740992) ∧ ∀ y ∈ L, ∀ lo hi, needP y = some (a, lo, hi) → lo ≤ s ∧ s ≤ hi := by
  constructor
  · intro h
    have hb := inC_bounds h (perm_ok L a)
    exact ⟨hb, ((fold_inC a s hb.2 L _).1 h).2⟩
  · rintro ⟨hb, h⟩
    refine (fold_inC a s hb.2 L _).2 ⟨?_, h⟩
    unfold inC
    dsimp only
    simp
    omega
theorem poss_inC {c : DCase} (ho : okC c) : possD c = true ↔ ∃ s, inC c s := by
  obtain ⟨ab, pl, lo, hi⟩ := c
  unfold possD inC okC at *
  dsimp only at *
  constructor
  · intro h
    cases ab
    · cases pl
      · simp at h
        exact ⟨lo, Or.inr (Or.inr ⟨ho.1, by omega, h⟩)⟩
      · exact ⟨-1, by simp⟩
    · exact ⟨-2, by simp⟩
  · rintro ⟨s, h | h | h⟩
    · simp [h.2]
    · simp [h.2]
    · simp; right; omega
theorem within_inC {a b : DCase} (ho : okC a) : withinD a b = true ↔ ∀ s, inC a s → inC b s := by
  obtain ⟨ab, pl, lo, hi⟩ := a
  obtain ⟨ab', pl', lo', hi'⟩ := b
  unfold withinD inC okC at *
  dsimp only at *
  constructor
  · intro h s hs
    simp at h
    rcases hs with ⟨h1, rfl⟩ | ⟨h1, rfl⟩ | hs
    · left; exact ⟨h1, by simpa using h.1.1⟩
    · right; left; exact ⟨h1, by simpa using h.1.2⟩
    · right; right; omega
  · intro h
    have k1 : ab = true → ab' = true := fun e => by
      rcases h (-2) (Or.inl ⟨rfl, e⟩) with k | k | k
      · exact k.2
      · omega
      · omega
    have k2 : pl = true → pl' = true := fun e => by
      rcases h (-1) (Or.inr (Or.inl ⟨rfl, e⟩)) with k | k | k
      · omega
      · exact k.2
      · omega
    have k3 : hi < lo ∨ lo' ≤ lo ∧ hi ≤ hi' := by
      by_cases e : hi < lo
      · exact Or.inl e
      · right
        constructor
        · rcases h lo (Or.inr (Or.inr (by omega))) with k | k | k <;> omega
        · rcases h hi (Or.inr (Or.inr (by omega))) with k | k | k <;> omega
    simp
    refine ⟨⟨?_, ?_⟩, k3⟩
    · cases ab
      · simp
      · right; exact k1 rfl
    · cases pl
      · simp
      · right; exact k2 rfl
theorem span_some {y : List UInt8} (h : (readD y).1 ≠ 0) : ∃ lo hi, needP y = some ((readD y).2.1, lo, hi) := by
  rw [need_read]
  rcases read_form y with e | ⟨e, _⟩
  · rw [e] at h; exact absurd rfl h
  · generalize readD y = d at e ⊢
    obtain ⟨f, b, n⟩ := d
    dsimp only at e ⊢
    rcases e with rfl | rfl | rfl | rfl | rfl <;> exact ⟨_, _, rfl⟩
theorem span_form {y a : List UInt8} {lo hi : Int} (h : needP y = some (a, lo, hi)) : (readD y).1 ≠ 0 ∧ (readD y).2.1 = a := by
  have hne : (readD y).1 ≠ 0 := by
    intro e
    rw [need_read] at h
    rcases read_form y with e2 | ⟨e2, _⟩
    · rw [e2] at h; cases h
    · omega
  obtain ⟨l, u, e⟩ := span_some hne
  rw [h] at e
  injection e with e; injection e with e _
  exact ⟨hne, e.symm⟩
/-- What the program's bounds hold is what the document permits. -/
theorem perm_exact {L : List (List UInt8)} {F : List UInt8 → Option (Int × Int)} (h : permL L (fun _ => none) = some F) (a : List UInt8) (s : Int) : inC (permD L a) s ↔ (ofF F a).1 ≤ s ∧ s ≤ (ofF F a).2 := by
  obtain ⟨p1, p2, p3⟩ := permL_some L _ F h
  have q1 : ∀ b, -2 ≤ (ofF F b).1 ∧ (ofF F b).2 ≤ 9007199254740992 := fun b => p1 b
  have q3 := p3 fun b => by rw [of_none]; decide
  rw [perm_inC]
  constructor
  · rintro ⟨hb, hy⟩
    have hg : ∀ b, ((if b = a then (s, s) else ofF F b) : Int × Int).1 ≤ (if b = a then (s, s) else ofF F b).2 := fun b => by
      by_cases e : b = a
      · rw [if_pos e]; exact Int.le_refl _
      · rw [if_neg e]; exact q3 b
    obtain ⟨F', hF', hb'⟩ := permL_of (fun b => if b = a then (s, s) else ofF F b) hg L (fun _ => none) (fun b => by
      rw [of_none]
      dsimp only
      by_cases e : b = a
      · rw [if_pos e]; exact hb
      · rw [if_neg e]; exact q1 b) (fun y hyL => by
      obtain ⟨b, lo, hi, hN, h1, h2⟩ := p2 y hyL
      refine ⟨b, lo, hi, hN, ?_⟩
      dsimp only
      by_cases e : b = a
      · subst e
        rw [if_pos rfl]
        exact hy y hyL lo hi hN
      · rw [if_neg e]
        exact ⟨h1, h2⟩)
    rw [h] at hF'
    injection hF' with hF'
    subst hF'
    have := hb' a
    rwa [if_pos rfl] at this
  · rintro ⟨h1, h2⟩
    have := q1 a
    refine ⟨by omega, fun y hy lo hi hN => ?_⟩
    obtain ⟨b, lo', hi', hN', h3, h4⟩ := p2 y hy
    rw [hN] at hN'
    injection hN' with hN'; injection hN' with e1 hN'; injection hN' with e2 e3
    subst e1 e2 e3
    omega
theorem can_perm (L : List (List UInt8)) : canD L = true ↔ ∃ F, permL L (fun _ => none) = some F := by
  unfold canD
  rw [List.all_eq_true]
  constructor
  · intro h
    have hs : ∀ a, ∃ s : Int, -2 ≤ s ∧ s ≤ 9007199254740992 ∧ ((∃ t, inC (permD L a) t) → inC (permD L a) s) := fun a => by
      by_cases e : ∃ t, inC (permD L a) t
      · obtain ⟨t, ht⟩ := e
        have := inC_bounds ht (perm_ok L a)
        exact ⟨t, this.1, this.2, fun _ => ht⟩
      · exact ⟨0, by decide, by decide, fun e2 => absurd e2 e⟩
    obtain ⟨g, hg⟩ : ∃ g : List UInt8 → Int, ∀ a, -2 ≤ g a ∧ g a ≤ 9007199254740992 ∧ ((∃ t, inC (permD L a) t) → inC (permD L a) (g a)) := ⟨fun a => Classical.choose (hs a), fun a => Classical.choose_spec (hs a)⟩
    obtain ⟨F, hF, _⟩ := permL_of (fun a => (g a, g a)) (fun a => Int.le_refl _) L (fun _ => none) (fun a => by
      rw [of_none]
      exact ⟨(hg a).1, (hg a).2.1⟩) (fun y hy => by
      have := h y hy
      rw [Bool.and_eq_true, decide_eq_true_eq] at this
      obtain ⟨lo, hi, hN⟩ := span_some this.1
      have hp := (hg (readD y).2.1).2.2 ((poss_inC (perm_ok L _)).1 this.2)
      exact ⟨_, lo, hi, hN, ((perm_inC L _ _).1 hp).2 y hy lo hi hN⟩)
    exact ⟨F, hF⟩
  · rintro ⟨F, hF⟩ y hy
    obtain ⟨p1, p2, p3⟩ := permL_some L _ F hF
    obtain ⟨a, lo, hi, hN, _⟩ := p2 y hy
    obtain ⟨e1, e2⟩ := span_form hN
    rw [Bool.and_eq_true, decide_eq_true_eq]
    refine ⟨e1, (poss_inC (perm_ok L _)).2 ⟨(ofF F (readD y).2.1).1, (perm_exact hF _ _).2 ⟨Int.le_refl _, p3 (fun b => by rw [of_none]; decide) _⟩⟩⟩
theorem imp_doc (A B : List (List UInt8)) : impliesB A B = impD A B := by
  rw [Bool.eq_iff_iff, impliesB_iff]
  unfold impD
  by_cases hc : canD A = true
  · rw [if_pos hc, List.all_eq_true]
    obtain ⟨F, hF⟩ := (can_perm A).1 hc
    have p3 := (permL_some A _ F hF).2.2 fun b => by rw [of_none]; decide
    constructor
    · intro h y hy
      have hW := h F hF
      obtain ⟨a, lo, hi, hN, _⟩ := hW y hy
      obtain ⟨e1, e2⟩ := span_form hN
      rw [Bool.and_eq_true, decide_eq_true_eq]
      refine ⟨e1, (within_inC (perm_ok A _)).2 fun s hs => (perm_inC B _ s).2 ⟨inC_bounds hs (perm_ok A _), fun z hz lo' hi' hN' => ?_⟩⟩
      obtain ⟨b, lo2, hi2, hN2, h1, h2⟩ := hW z hz
      rw [hN'] at hN2
      injection hN2 with hN2; injection hN2 with q1 hN2; injection hN2 with q2 q3
      have := (perm_exact hF _ s).1 hs
      rw [q1] at this
      omega
    · intro h G hG
      rw [hF] at hG
      injection hG with hG
      subst hG
      intro y hy
      have := h y hy
      rw [Bool.and_eq_true, decide_eq_true_eq] at this
      obtain ⟨lo, hi, hN⟩ := span_some this.1
      have hw := (within_inC (perm_ok A _)).1 this.2
      refine ⟨_, lo, hi, hN, ?_, ?_⟩
      · exact (((perm_inC B _ _).1 (hw _ ((perm_exact hF _ _).2 ⟨Int.le_refl _, p3 _⟩))).2 y hy lo hi hN).1
      · exact (((perm_inC B _ _).1 (hw _ ((perm_exact hF _ _).2 ⟨p3 _, Int.le_refl _⟩))).2 y hy lo hi hN).2
  · rw [if_neg hc]
    refine ⟨fun _ => rfl, fun _ F hF => absurd ((can_perm A).2 ⟨F, hF⟩) hc⟩
end Go.Proofs.YtglckcenjnieaaaGreatDoor
