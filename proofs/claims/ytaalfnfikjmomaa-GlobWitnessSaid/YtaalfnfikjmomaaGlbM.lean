/- Patterns (layer 6) as plain functions on lists of bytes: how they are read, and which strings they match. No function of the program is named. -/
import Derived.Test.YtaalfnfikjmomaaRows
namespace Go.Proofs.Ytaalfnfikjmomaa

/-- An element of a pattern: its kind (1 to 5) and its items. -/
structure GE where
  kind : Nat
  items : List (UInt8 × UInt8)
deriving Inhabited

/-- The byte of an item that begins a text, and what is left. -/
def memberL : List UInt8 → Option (UInt8 × List UInt8)
  | [] => none
  | c :: r => if c = 92 then r.head?.map fun d => (d, r.tail) else if c = 93 ∨ c = 45 then none else some (c, r)
def itemL (l : List UInt8) : Option ((UInt8 × UInt8) × List UInt8) :=
  match memberL l with
  | none => none
  | some (lo, r) =>
    if r.head? = some 45 then (match memberL r.tail with | none => none | some (hi, r3) => if hi.toNat < lo.toNat then none else some ((lo, hi), r3)) else some ((lo, lo), r)
theorem memberL_len {l r : List UInt8} {c : UInt8} (h : memberL l = some (c, r)) : r.length < l.length := by
  cases l with
  | nil => cases h
  | cons a l =>
    rw [memberL] at h
    split at h
    · cases l with
      | nil => cases h
      | cons d l => simp at h; obtain ⟨_, rfl⟩ := h; simp; omega
    · split at h
      · cases h
      · simp at h; obtain ⟨_, rfl⟩ := h; simp
theorem itemL_len {l r : List UInt8} {x : UInt8 × UInt8} (h : itemL l = some (x, r)) : r.length < l.length := by
  unfold itemL at h
  split at h
  · cases h
  · rename_i lo r1 h1
    have h1 := memberL_len h1
    split at h
    · split at h
      · cases h
      · rename_i hi r3 h3
        have h3 := memberL_len h3
        rw [List.length_tail] at h3
        split at h
        · cases h
        · simp at h; obtain ⟨_, rfl⟩ := h; omega
    · simp at h; obtain ⟨_, rfl⟩ := h; exact h1

/-- The items up to the closing bracket, and what is left behind it. -/
def classF : Nat → List UInt8 → Option (List (UInt8 × UInt8) × List UInt8)
  | 0, _ => none
  | f + 1, l => if l.head? = some 93 then some ([], l.tail) else match itemL l with
    | none => none
    | some (x, r) => (classF f r).map fun q => (x :: q.1, q.2)
def classL (l : List UInt8) : Option (List (UInt8 × UInt8) × List UInt8) := classF (l.length + 1) l
theorem classF_fuel : ∀ (f g : Nat) (l : List UInt8), l.length < f → l.length < g → classF f l = classF g l
  | 0, _, _, h, _ => by omega
  | f + 1, 0, _, _, h => by omega
  | f + 1, g + 1, l, hf, hg => by
    rw [classF, classF]
    split
    · rfl
    · split
      · rfl
      · rename_i x r hx
        have := itemL_len hx
        rw [classF_fuel f g r (by omega) (by omega)]
theorem classL_eq (l : List UInt8) : classL l = if l.head? = some 93 then some ([], l.tail) else match itemL l with
    | none => none
    | some (x, r) => (classL r).map fun q => (x :: q.1, q.2) := by
  unfold classL
  rw [classF]
  split
  · rfl
  · cases hx : itemL l with
    | none => rfl
    | some q =>
      obtain ⟨x, r⟩ := q
      have := itemL_len hx
      show (classF l.length r).map _ = _
      rw [classF_fuel l.length (r.length + 1) r (by omega) (by omega)]
theorem classF_len : ∀ (f : Nat) (l : List UInt8) (q : List (UInt8 × UInt8) × List UInt8), classF f l = some q → q.2.length < l.length
  | 0, _, _, h => by cases h
  | f + 1, l, q, h => by
    rw [classF] at h
    split at h
    · rename_i hh
      cases l with
      | nil => cases hh
      | cons a l => simp at h; subst h; simp
    · split at h
      · cases h
      · rename_i x r hx
        have := itemL_len hx
        cases hc : classF f r with
        | none => rw [hc] at h; cases h
        | some q2 =>
          rw [hc] at h
          have := classF_len f r q2 hc
          simp at h
          subst h
          simp
          omega
theorem classL_len {l : List UInt8} {q : List (UInt8 × UInt8) × List UInt8} (h : classL l = some q) : q.2.length < l.length := classF_len _ _ _ h

/-- The element that begins a pattern, and what is left. -/
def elemL (l : List UInt8) : Option (GE × List UInt8) :=
  match l with
  | [] => none
  | c :: r =>
    if c = 42 then (if r.head? = some 42 then some (⟨1, []⟩, r.tail) else some (⟨2, []⟩, r))
    else if c = 63 then some (⟨3, []⟩, r)
    else if c = 91 then (match classL r with | none => none | some (its, r2) => if its = [] then none else some (⟨4, its⟩, r2))
    else if c = 92 then r.head?.map fun d => (⟨5, [(d, d)]⟩, r.tail)
    else some (⟨5, [(c, c)]⟩, r)
theorem elemL_len {l r : List UInt8} {e : GE} (h : elemL l = some (e, r)) : r.length < l.length := by
  unfold elemL at h
  split at h
  · cases h
  · rename_i c l
    split at h
    · split at h
      · simp at h; obtain ⟨_, rfl⟩ := h; simp; omega
      · simp at h; obtain ⟨_, rfl⟩ := h; simp
    · split at h
      · simp at h; obtain ⟨_, rfl⟩ := h; simp
      · split at h
        · split at h
          · cases h
          · rename_i its r2 hc
            have := classL_len hc
            split at h
            · cases h
            · simp at h; obtain ⟨_, rfl⟩ := h; simp at this ⊢; omega
        · split at h
          · cases l with
            | nil => cases h
            | cons d l => simp at h; obtain ⟨_, rfl⟩ := h; simp; omega
          · simp at h; obtain ⟨_, rfl⟩ := h; simp

def elemsF : Nat → List UInt8 → Option (List GE)
  | 0, _ => none
  | f + 1, l => if l = [] then some [] else match elemL l with
    | none => none
    | some (x, r) => (elemsF f r).map fun q => x :: q
/-- The elements of a text. -/
def elemsL (l : List UInt8) : Option (List GE) := elemsF (l.length + 1) l
theorem elemsF_fuel : ∀ (f g : Nat) (l : List UInt8), l.length < f → l.length < g → elemsF f l = elemsF g l
  | 0, _, _, h, _ => by omega
  | f + 1, 0, _, _, h => by omega
  | f + 1, g + 1, l, hf, hg => by
    rw [elemsF, elemsF]
    split
    · rfl
    · split
      · rfl
      · rename_i x r hx
        have := elemL_len hx
        rw [elemsF_fuel f g r (by omega) (by omega)]
theorem elemsL_nil : elemsL [] = some [] := rfl
theorem elemsL_none {l : List UInt8} (h0 : l ≠ []) (h : elemL l = none) : elemsL l = none := by
  unfold elemsL
  rw [elemsF, if_neg h0, h]
theorem elemsL_some {l r : List UInt8} {e : GE} (h0 : l ≠ []) (h : elemL l = some (e, r)) : elemsL l = (elemsL r).map fun q => e :: q := by
  unfold elemsL
  have := elemL_len h
  rw [elemsF, if_neg h0, h]
  show (elemsF l.length r).map _ = _
  rw [elemsF_fuel l.length (r.length + 1) r (by omega) (by omega)]
theorem elemsF_len : ∀ (f : Nat) (l : List UInt8) (q : List GE), elemsF f l = some q → q.length ≤ l.length
  | 0, _, _, h => by cases h
  | f + 1, l, q, h => by
    rw [elemsF] at h
    split at h
    · simp at h; subst h; simp
    · split at h
      · cases h
      · rename_i x r hx
        have := elemL_len hx
        cases hc : elemsF f r with
        | none => rw [hc] at h; cases h
        | some q2 =>
          rw [hc] at h
          have := elemsF_len f r q2 hc
          simp at h
          subst h
          simp
          omega
theorem elemsL_len {l : List UInt8} {q : List GE} (h : elemsL l = some q) : q.length ≤ l.length := elemsF_len _ _ _ h

/-- The elements of a pattern, if it is valid. -/
def parseP (l : List UInt8) : Option (List GE) := if 4096 < l.length then none else elemsL l
def validP (l : List UInt8) : Nat := if 4096 < l.length then 3 else if (elemsL l).isSome then 0 else 5

def manyB (e : GE) : Bool := e.kind == 1 || e.kind == 2
def inItems (its : List (UInt8 × UInt8)) (c : UInt8) : Bool := its.any fun x => decide (x.1.toNat ≤ c.toNat) && decide (c.toNat ≤ x.2.toNat)
def fitsB (e : GE) (c : UInt8) : Bool := e.kind == 1 || ((e.kind == 5 || c != 47) && (e.kind == 2 || e.kind == 3 || inItems e.items c))

/-- Which strings a list of elements matches. -/
inductive GM : List GE → List UInt8 → Prop
  | nil : GM [] []
  | skip {e l s} : manyB e = true → GM l s → GM (e :: l) s
  | stay {e l c s} : manyB e = true → fitsB e c = true → GM (e :: l) s → GM (e :: l) (c :: s)
  | one {e l c s} : manyB e = false → fitsB e c = true → GM l s → GM (e :: l) (c :: s)
theorem GM.nil_iff {s : List UInt8} : GM [] s ↔ s = [] := ⟨fun h => by cases h; rfl, fun h => h ▸ .nil⟩
theorem GM.many_iff {e : GE} {l : List GE} {s : List UInt8} (h : manyB e = true) : GM (e :: l) s ↔ GM l s ∨ ∃ c r, s = c :: r ∧ fitsB e c = true ∧ GM (e :: l) r := by
  constructor
  · intro g
    cases g with
    | skip _ g => exact .inl g
    | stay _ hf g => exact .inr ⟨_, _, rfl, hf, g⟩
    | one h1 _ _ => rw [h] at h1; cases h1
  · rintro (g | ⟨c, r, rfl, hf, g⟩)
    · exact .skip h g
    · exact .stay h hf g
theorem GM.one_iff {e : GE} {l : List GE} {s : List UInt8} (h : manyB e = false) : GM (e :: l) s ↔ ∃ c r, s = c :: r ∧ fitsB e c = true ∧ GM l r := by
  constructor
  · intro g
    cases g with
    | skip h1 g => rw [h] at h1; cases h1
    | stay h1 hf g => rw [h] at h1; cases h1
    | one h1 hf g => exact ⟨_, _, rfl, hf, g⟩
  · rintro ⟨c, r, rfl, hf, g⟩
    exact .one h hf g

/-- The bytes of the literal elements at the beginning, and whether there is nothing else. -/
def litL : List GE → List UInt8 × Bool
  | [] => ([], true)
  | e :: l => if e.kind = 5 then ((e.items.head?.map (·.1)).getD 0 :: (litL l).1, (litL l).2) else ([], false)
end Go.Proofs.Ytaalfnfikjmomaa
