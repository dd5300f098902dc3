/- Contracts of functions of the program, and what they are made of (parser; Pk10). -/
import Derived.Test.YtjehhldboopocaaGreatDoorPk06
import Derived.Test.YtjehhldboopocaaGreatDoorPk07
import Derived.Test.YtjehhldboopocaaGreatDoorPk09
import Derived.Lib.ItoaNum
import Derived.Lib.SliceRun
namespace Go.Proofs.YtjehhldboopocaaGreatDoor
open Go.RowKit Go.Lib
/-- A comparison: three answers, antisymmetric, transitive. -/
structure Pre {α : Type} (c : α → α → Int) : Prop where
  rng : ∀ x y, c x y = -1 ∨ c x y = 0 ∨ c x y = 1
  anti : ∀ x y, c y x = - c x y
  tr : ∀ x y z, c x y ≤ 0 → c y z ≤ 0 → c x z ≤ 0
theorem Tot.pre {α : Type} {c : α → α → Int} (h : Tot c) : Pre c := ⟨h.rng, h.anti, h.tr⟩
theorem Pre.refl {α : Type} {c : α → α → Int} (h : Pre c) (x : α) : c x x = 0 := by
  have := h.anti x x
  omega
theorem Pre.congL {α : Type} {c : α → α → Int} (h : Pre c) {x y : α} (e : c x y = 0) (z : α) : c x z = c y z := by
  have a1 := h.anti x y
  have a2 := h.anti x z
  have a3 := h.anti y z
  have t1 := h.tr x y z
  have t2 := h.tr y x z
  have t3 := h.tr z x y
  have t4 := h.tr z y x
  have r1 := h.rng x z
  have r2 := h.rng y z
  omega
theorem Pre.congR {α : Type} {c : α → α → Int} (h : Pre c) {x y : α} (e : c x y = 0) (z : α) : c z x = c z y := by
  have := h.congL e z
  have a2 := h.anti x z
  have a3 := h.anti y z
  omega
theorem Pre.lt {α : Type} {c : α → α → Int} (h : Pre c) {x y z : α} (h1 : c x y ≤ 0) (h2 : c y z < 0) : c x z < 0 := by
  have a1 := h.anti x y
  have a2 := h.anti x z
  have a3 := h.anti y z
  have t1 := h.tr x y z
  have t3 := h.tr z x y
  omega
/-- One comparison, and then another. -/
def thenC {α : Type} (c d : α → α → Int) (x y : α) : Int := if c x y ≠ 0 then c x y else d x y
/-- d need be a comparison only among those that c holds for equal. -/
theorem thenC_pre {α : Type} {c d : α → α → Int} (h : Pre c) (r : ∀ x y, c x y = 0 → d x y = -1 ∨ d x y = 0 ∨ d x y = 1) (a : ∀ x y, c x y = 0 → d y x = - d x y) (t : ∀ x y z, c x y = 0 → c y z = 0 → d x y ≤ 0 → d y z ≤ 0 → d x z ≤ 0) : Pre (thenC c d) where
  rng := fun x y => by
    unfold thenC
    have := h.rng x y
    by_cases e : c x y = 0
    · rw [if_neg (by simpa using e)]; exact r x y e
    · rw [if_pos e]; exact this
  anti := fun x y => by
    unfold thenC
    have := h.anti x y
    by_cases e : c x y = 0
    · rw [if_neg (by omega), if_neg (by omega)]; exact a x y e
    · rw [if_pos e, if_pos (by omega)]; exact this
  tr := fun x y z h1 h2 => by
    unfold thenC at h1 h2 ⊢
    have A1 := h.anti x y
    have A2 := h.anti y z
    have A3 := h.anti x z
    by_cases e1 : c x y = 0
    · rw [if_neg (by simpa using e1)] at h1
      have g := h.congL e1 z
      by_cases e2 : c y z = 0
      · rw [if_neg (by simpa using e2)] at h2
        rw [if_neg (by omega)]
        exact t x y z e1 e2 h1 h2
      · rw [if_pos e2] at h2
        rw [if_pos (by omega)]
        omega
    · rw [if_pos e1] at h1
      have g : c x z < 0 := by
        by_cases e2 : c y z = 0
        · have := h.congR e2 x
          omega
        · rw [if_pos e2] at h2
          have t3 := h.tr z x y
          have t1 := h.tr x y z
          have t4 := h.tr y z x
          omega
      rw [if_pos (by omega)]
      omega
theorem thenC_pre' {α : Type} {c d : α → α → Int} (h : Pre c) (g : Pre d) : Pre (thenC c d) :=
  thenC_pre h (fun x y _ => g.rng x y) (fun x y _ => g.anti x y) (fun x y z _ _ => g.tr x y z)
theorem preL_rng {α : Type} {c : α → α → Int} (h : Pre c) : ∀ a b, lexC c a b = -1 ∨ lexC c a b = 0 ∨ lexC c a b = 1
  | [], [] => by simp [lexC]
  | [], _ :: _ => by simp [lexC]
  | _ :: _, [] => by simp [lexC]
  | x :: a, y :: b => by
    unfold lexC
    split
    · exact h.rng x y
    · exact preL_rng h a b
theorem preL_anti {α : Type} {c : α → α → Int} (h : Pre c) : ∀ a b, lexC c b a = - lexC c a b
  | [], [] => by simp [lexC]
  | [], _ :: _ => by simp [lexC]
  | _ :: _, [] => by simp [lexC]
  | x :: a, y :: b => by
    unfold lexC
    have := h.anti x y
    by_cases e : c x y = 0
    · rw [if_neg (by omega), if_neg (by omega)]
      exact preL_anti h a b
    · rw [if_pos (by omega), if_pos (by omega)]
      exact this
theorem preL_tr {α : Type} {c : α → α → Int} (h : Pre c) : ∀ a b d, lexC c a b ≤ 0 → lexC c b d ≤ 0 → lexC c a d ≤ 0
  | [], _, [], _, _ => by simp [lexC]
  | [], _, _ :: _, _, _ => by simp [lexC]
  | _ :: _, [], _, h1, _ => by simp [lexC] at h1
  | _ :: _, _ :: _, [], _, h2 => by simp [lexC] at h2
  | x :: a, y :: b, z :: d, h1, h2 => by
    unfold lexC at h1 h2 ⊢
    have A1 := h.anti x y
    have A2 := h.anti y z
    have A3 := h.anti x z
    by_cases e1 : c x y = 0
    · rw [if_neg (by simpa using e1)] at h1
      have g := h.congL e1 z
      by_cases e2 : c y z = 0
      · rw [if_neg (by simpa using e2)] at h2
        rw [if_neg (by omega)]
        exact preL_tr h a b d h1 h2
      · rw [if_pos e2] at h2
        rw [if_pos (by omega)]
        omega
    · rw [if_pos e1] at h1
      have g : c x z < 0 := by
        by_cases e2 : c y z = 0
        · have := h.congR e2 x
          omega
        · rw [if_pos e2] at h2
          have t3 := h.tr z x y
          have t1 := h.tr x y z
          have t4 := h.tr y z x
          omega
      rw [if_pos (by omega)]
      omega
theorem preL {α : Type} {c : α → α → Int} (h : Pre c) : Pre (lexC c) := ⟨preL_rng h, preL_anti h, preL_tr h⟩
/-- A comparison of what is told of each. -/
theorem Pre.on {α β : Type} {c : β → β → Int} (h : Pre c) (f : α → β) : Pre (fun x y => c (f x) (f y)) := ⟨fun _ _ => h.rng _ _, fun _ _ => h.anti _ _, fun _ _ _ => h.tr _ _ _⟩

theorem intC_tot : Tot Lib.compareInt where
  rng := fun x y => by unfold Lib.compareInt; split <;> (try split) <;> omega
  anti := fun x y => by unfold Lib.compareInt; split <;> split <;> (try split) <;> omega
  eq := fun x y => by unfold Lib.compareInt; split <;> (try split) <;> omega
  tr := fun x y z => by
    unfold Lib.compareInt
    intro h1 h2
    split <;> (try split) <;> (split at h1 <;> (try split at h1)) <;> (split at h2 <;> (try split at h2)) <;> omega
def u8C (x y : UInt8) : Int := Lib.compareInt x.toNat y.toNat
theorem u8C_tot : Tot u8C where
  rng := fun x y => intC_tot.rng _ _
  anti := fun x y => intC_tot.anti _ _
  eq := fun x y => by
    unfold u8C
    rw [intC_tot.eq]
    constructor
    · intro h; exact UInt8.toNat_inj.1 (by omega)
    · rintro rfl; rfl
  tr := fun x y z => intC_tot.tr _ _ _
theorem bytesC_lex : ∀ a b : List UInt8, Lib.compareBytes a b = lexC u8C a b
  | [], [] => rfl
  | [], _ :: _ => rfl
  | _ :: _, [] => rfl
  | x :: a, y :: b => by
    rw [Lib.compareBytes, lexC, bytesC_lex a b]
    have h1 : (x < y) ↔ x.toNat < y.toNat := Iff.rfl
    have h2 : (y < x) ↔ y.toNat < x.toNat := Iff.rfl
    by_cases g1 : x.toNat < y.toNat
    · have e : u8C x y = -1 := by unfold u8C Lib.compareInt; rw [if_pos (by omega)]
      rw [if_pos (h1.2 g1), e, if_pos (by decide)]
    · rw [if_neg (fun h => g1 (h1.1 h))]
      by_cases g2 : y.toNat < x.toNat
      · have e : u8C x y = 1 := by unfold u8C Lib.compareInt; rw [if_neg (by omega), if_pos (by omega)]
        rw [if_pos (h2.2 g2), e, if_pos (by decide)]
      · have e : u8C x y = 0 := by unfold u8C Lib.compareInt; rw [if_neg (by omega), if_neg (by omega)]
        rw [if_neg (fun h => g2 (h2.1 h)), e, if_neg (by decide)]
theorem bytesC_tot : Tot Lib.compareBytes := by
  have : Lib.compareBytes = lexC u8C := by funext a b; exact bytesC_lex a b
  rw [this]
  exact lexC_tot u8C_tot
def bolC (s t : Bool) : Int := if s = t then 0 else if t = true then -1 else 1
theorem bolC_tot : Tot bolC where
  rng := fun x y => by cases x <;> cases y <;> decide
  anti := fun x y => by cases x <;> cases y <;> decide
  eq := fun x y => by cases x <;> cases y <;> decide
  tr := fun x y z => by cases x <;> cases y <;> cases z <;> decide

def Vl.kind : Vl → Int | .mk k _ _ _ _ _ => k
def Vl.truth : Vl → Bool | .mk _ t _ _ _ _ => t
def Vl.num : Vl → Int | .mk _ _ i _ _ _ => i
def Vl.str : Vl → ByteArray | .mk _ _ _ s _ _ => s
def Vl.list : Vl → List Vl | .mk _ _ _ _ l _ => l
def Vl.keys : Vl → List (List UInt8) | .mk _ _ _ _ _ ks => ks
/-- Two values of one kind, compared; c compares their elements. -/
def bodC (c : Vl → Vl → Int) (x y : Vl) : Int :=
  if x.kind = 1 then bolC x.truth y.truth
  else if x.kind = 2 then Lib.compareInt x.num y.num
  else if x.kind = 3 then Lib.compareBytes x.str.data.toList y.str.data.toList
  else if x.kind = 4 then lexC c x.list y.list
  else if x.kind = 5 then thenC (fun x y : Vl => lexC cmpL x.keys y.keys) (fun x y : Vl => lexC c x.list y.list) x y
  else 0
def hdC (c : Vl → Vl → Int) : Vl → Vl → Int := thenC (fun x y => Lib.compareInt x.kind y.kind) (bodC c)
/-- Values of at most m levels below, compared. -/
def cmpV : Nat → Vl → Vl → Int
  | 0 => hdC (fun _ _ => 0)
  | m + 1 => hdC (cmpV m)
theorem hdC_pre {c : Vl → Vl → Int} (h : Pre c) : Pre (hdC c) := by
  have h5 := thenC_pre' ((lexC_tot cmp_tot).pre.on Vl.keys) ((preL h).on Vl.list)
  refine thenC_pre (intC_tot.pre.on Vl.kind) ?_ ?_ ?_
  · intro x y e
    have e := (intC_tot.eq _ _).1 e
    unfold bodC
    split; exact bolC_tot.rng _ _
    split; exact intC_tot.rng _ _
    split; exact bytesC_tot.rng _ _
    split; exact (preL h).rng _ _
    split; exact h5.rng _ _
    exact .inr (.inl rfl)
  · intro x y e
    have e := (intC_tot.eq _ _).1 e
    unfold bodC
    rw [← e]
    split; exact bolC_tot.anti _ _
    split; exact intC_tot.anti _ _
    split; exact bytesC_tot.anti _ _
    split; exact (preL h).anti _ _
    split; exact h5.anti _ _
    rfl
  · intro x y z e f
    have e := (intC_tot.eq _ _).1 e
    have f := (intC_tot.eq _ _).1 f
    unfold bodC
    rw [← e]
    split; exact bolC_tot.tr _ _ _
    split; exact intC_tot.tr _ _ _
    split; exact bytesC_tot.tr _ _ _
    split; exact (preL h).tr _ _ _
    split; exact h5.tr _ _ _
    exact fun _ _ => Int.le_refl 0
theorem zeroC_pre : Pre (fun _ _ : Vl => (0 : Int)) := ⟨fun _ _ => .inr (.inl rfl), fun _ _ => rfl, fun _ _ _ _ _ => Int.le_refl 0⟩
theorem cmpV_pre : ∀ m, Pre (cmpV m)
  | 0 => hdC_pre zeroC_pre
  | m + 1 => hdC_pre (cmpV_pre m)

end Go.Proofs.YtjehhldboopocaaGreatDoor
namespace Go.Proofs.YtjehhldboopocaaGreatDoor
open Go.RowKit Go.Lib
/-- The characters of a byte in a literal. -/
def hexD (n : Nat) : UInt8 := UInt8.ofNat (if n < 10 then 48 + n else 87 + n)
def chrL (c : UInt8) : List UInt8 :=
  if c.toNat = 34 then [92, 34] else if c.toNat = 92 then [92, 92] else if c.toNat = 10 then [92, 110] else if c.toNat = 9 then [92, 116]
  else if 32 ≤ c.toNat ∧ c.toNat ≤ 126 then [c] else [92, 120, hexD (c.toNat / 16), hexD (c.toNat % 16)]
/-- The literal of a string. -/
def quoL (s : List UInt8) : List UInt8 := 34 :: (s.flatMap chrL ++ [34])
theorem chrL_len (c : UInt8) : 1 ≤ (chrL c).length ∧ (chrL c).length ≤ 4 := by
  unfold chrL
  repeat' split
  all_goals simp
theorem flat_len4 : ∀ s : List UInt8, (s.flatMap chrL).length ≤ 4 * s.length
  | [] => by simp
  | c :: s => by
    have := flat_len4 s
    have := chrL_len c
    simp only [List.flatMap_cons, List.length_append, List.length_cons]
    omega
theorem quoL_len (s : List UInt8) : (quoL s).length ≤ 4 * s.length + 2 := by
  have := flat_len4 s
  simp only [quoL, List.length_cons, List.length_append, List.length_nil]
  omega
/-- An element of a list or a map, with what stands ahead of it. -/
def eltL (f : Vl → List UInt8) (mp : Bool) (l : List Vl) (ks : List (List UInt8)) (j : Nat) : List UInt8 :=
  (if j = 0 then [] else [44, 32]) ++ ((if mp = true then quoL (ks.getD j []) ++ [58, 32] else []) ++ (match l[j]? with | none => [] | some x => f x))
/-- The first n of them. -/
def itemsL (f : Vl → List UInt8) (mp : Bool) (l : List Vl) (ks : List (List UInt8)) (n : Nat) : List UInt8 := (List.range n).flatMap (eltL f mp l ks)
theorem itemsL_zero (f : Vl → List UInt8) (mp : Bool) (l : List Vl) (ks : List (List UInt8)) : itemsL f mp l ks 0 = [] := rfl
theorem itemsL_succ (f : Vl → List UInt8) (mp : Bool) (l : List Vl) (ks : List (List UInt8)) (n : Nat) : itemsL f mp l ks (n + 1) = itemsL f mp l ks n ++ eltL f mp l ks n := by
  unfold itemsL
  rw [List.range_succ, List.flatMap_append]
  simp
theorem itemsL_le (f : Vl → List UInt8) (mp : Bool) (l : List Vl) (ks : List (List UInt8)) : ∀ (n k : Nat), (itemsL f mp l ks n).length ≤ (itemsL f mp l ks (n + k)).length
  | n, 0 => Nat.le_refl _
  | n, k + 1 => by
    have := itemsL_le f mp l ks n k
    rw [← Nat.add_assoc, itemsL_succ, List.length_append]
    omega
/-- The literal of a value; f is that of its elements. -/
def hdL (f : Vl → List UInt8) (x : Vl) : List UInt8 :=
  if x.kind = 0 then [110, 117, 108, 108]
  else if x.kind = 1 then (if x.truth = true then [116, 114, 117, 101] else [102, 97, 108, 115, 101])
  else if x.kind = 2 then Lib.itoa x.num
  else if x.kind = 3 then quoL x.str.data.toList
  else if x.kind = 4 then 91 :: (itemsL f false x.list x.keys x.list.length ++ [93])
  else 123 :: (itemsL f true x.list x.keys x.list.length ++ [125])
def litV : Nat → Vl → List UInt8
  | 0 => hdL (fun _ => [])
  | m + 1 => hdL (litV m)
end Go.Proofs.YtjehhldboopocaaGreatDoor
namespace Go.Proofs.YtjehhldboopocaaGreatDoor
open Go.RowKit Go.Lib
end Go.Proofs.YtjehhldboopocaaGreatDoor
namespace Go.Proofs.YtjehhldboopocaaGreatDoor
open Go.RowKit Go.Lib
theorem firstV_zero (g : Vl → Nat) : ∀ l : List Vl, firstV g l = 0 ↔ ∀ y, y ∈ l → g y = 0
  | [] => by simp [firstV]
  | x :: r => by
    rw [firstV]
    by_cases h : g x ≠ 0
    · rw [if_pos h]
      simp [h]
    · rw [if_neg h, firstV_zero g r]
      have h : g x = 0 := by omega
      simp [h]
/-- What a value without an error is. -/
theorem err_parts {n : Nat} {k : Int} {t : Bool} {i : Int} {s : ByteArray} {l : List Vl} {ks : List (List UInt8)} : errV (n + 1) (.mk k t i s l ks) = 0 ↔
    (0 ≤ k ∧ k ≤ 5 ∧ plainB k t i s l ks = true ∧ -9007199254740992 ≤ i ∧ i ≤ 9007199254740992 ∧ s.size ≤ 4096 ∧ l.length ≤ 1024 ∧ ks.length ≤ 1024 ∧ (k = 5 → keysB l ks = true) ∧ (4 ≤ k → l = [] → n ≠ 0)) ∧ ∀ y, y ∈ l → errV n y = 0 := by
  rw [errV_eq, ← firstV_zero]
  have hp : partE (n + 1) k t i s l ks = 0 ↔ (0 ≤ k ∧ k ≤ 5 ∧ plainB k t i s l ks = true ∧ -9007199254740992 ≤ i ∧ i ≤ 9007199254740992 ∧ s.size ≤ 4096 ∧ l.length ≤ 1024 ∧ ks.length ≤ 1024 ∧ (k = 5 → keysB l ks = true) ∧ (4 ≤ k → l = [] → n ≠ 0)) := by
    unfold partE
    rw [if_neg (by omega)]
    by_cases h1 : (decide (k < 0) || decide (5 < k) || !plainB k t i s l ks) = true
    · rw [if_pos h1]
      simp only [Bool.or_eq_true, decide_eq_true_eq, Bool.not_eq_true'] at h1
      constructor
      · intro h; cases h
      · rintro ⟨a, b, c, _⟩
        rcases h1 with (h1 | h1) | h1
        · omega
        · omega
        · rw [c] at h1; cases h1
    rw [if_neg h1]
    simp only [Bool.or_eq_true, decide_eq_true_eq, Bool.not_eq_true', not_or, Bool.not_eq_false] at h1
    by_cases h2 : (decide (i < -9007199254740992) || decide (9007199254740992 < i)) = true
    · rw [if_pos h2]
      simp only [Bool.or_eq_true, decide_eq_true_eq] at h2
      constructor
      · intro h; cases h
      · rintro ⟨_, _, _, a, b, _⟩
        omega
    rw [if_neg h2]
    simp only [Bool.or_eq_true, decide_eq_true_eq, not_or] at h2
    by_cases h3 : (decide (4096 < s.size) || decide (1024 < l.length) || decide (1024 < ks.length)) = true
    · rw [if_pos h3]
      simp only [Bool.or_eq_true, decide_eq_true_eq] at h3
      constructor
      · intro h; cases h
      · rintro ⟨_, _, _, _, _, a, b, c, _⟩
        omega
    rw [if_neg h3]
    simp only [Bool.or_eq_true, decide_eq_true_eq, not_or] at h3
    by_cases h4 : (k == 5 && !keysB l ks) = true
    · rw [if_pos h4]
      simp only [Bool.and_eq_true, beq_iff_eq, Bool.not_eq_true'] at h4
      constructor
      · intro h; cases h
      · rintro ⟨_, _, _, _, _, _, _, _, a, _⟩
        rw [a h4.1] at h4
        cases h4.2
    rw [if_neg h4]
    have h4' : k = 5 → keysB l ks = true := by
      intro h
      rw [h] at h4
      simpa using h4
    by_cases h5 : (decide (4 ≤ k) && l.isEmpty && decide (n + 1 = 1)) = true
    · rw [if_pos h5]
      simp only [Bool.and_eq_true, decide_eq_true_eq, List.isEmpty_iff] at h5
      constructor
      · intro h; cases h
      · rintro ⟨_, _, _, _, _, _, _, _, _, a⟩
        exact absurd (show n = 0 by omega) (a h5.1.1 h5.1.2)
    rw [if_neg h5]
    simp only [Bool.and_eq_true, decide_eq_true_eq, List.isEmpty_iff] at h5
    refine ⟨fun _ => ⟨by omega, by omega, h1.2, by omega, by omega, by omega, by omega, by omega, h4', ?_⟩, fun _ => rfl⟩
    intro a b c
    exact h5 ⟨⟨a, b⟩, by omega⟩
  rw [← hp]
  by_cases h : partE (n + 1) k t i s l ks ≠ 0
  · rw [if_pos h]
    simp [h]
  · rw [if_neg h]
    have h : partE (n + 1) k t i s l ks = 0 := by omega
    simp [h]
end Go.Proofs.YtjehhldboopocaaGreatDoor
namespace Go.Proofs.YtjehhldboopocaaGreatDoor
open Go.RowKit Go.Lib
def undec (l : List UInt8) : Nat := l.foldl (fun a c => 10 * a + (c.toNat - 48)) 0
theorem chrL_head (c : UInt8) : ∃ d t, chrL c = d :: t ∧ d ≠ 34 := by
  unfold chrL
  split
  · exact ⟨92, _, rfl, by decide⟩
  split
  · exact ⟨92, _, rfl, by decide⟩
  split
  · exact ⟨92, _, rfl, by decide⟩
  split
  · exact ⟨92, _, rfl, by decide⟩
  split
  · rename_i h1 h2 h3 h4 h5
    exact ⟨c, _, rfl, fun e => h1 (by rw [e]; rfl)⟩
  · exact ⟨92, _, rfl, by decide⟩
end Go.Proofs.YtjehhldboopocaaGreatDoor
namespace Go.Proofs.YtjehhldboopocaaGreatDoor
open Go.RowKit Go.Lib
end Go.Proofs.YtjehhldboopocaaGreatDoor
namespace Go.Proofs.YtjehhldboopocaaGreatDoor
open Go.RowKit Go.Lib
/-- A block holds these cells. -/
structure CellsAt (w : World) (b : Nat) (t : TypeId) (cs : Array Value) : Prop where
  blk : w.heap[b]? = some (.cells cs t (0, 0))
theorem CellsAt.lt {w : World} {b : Nat} {t : TypeId} {cs : Array Value} (h : CellsAt w b t cs) : b < w.heap.size := (Array.getElem?_eq_some_iff.1 h.blk).1
theorem CellsAt.cell {w : World} {b : Nat} {t : TypeId} {cs : Array Value} (h : CellsAt w b t cs) {k : Nat} {u : Value} (hk : cs[k]? = some u) : w.cell? ⟨b, k, none⟩ = some u := by
  have h := h.blk
  simp [World.cell?, h, hk]
theorem CellsAt.frozen {w : World} {b : Nat} {t : TypeId} {cs : Array Value} (h : CellsAt w b t cs) (k : Nat) : w.frozen? ⟨b, k, none⟩ = false := by
  have h := h.blk
  simp [World.frozen?, h]
theorem CellsAt.of_block {w w' : World} {b : Nat} {t : TypeId} {cs : Array Value} (h : CellsAt w b t cs) (e : w'.heap[b]? = w.heap[b]?) : CellsAt w' b t cs := ⟨e.trans h.blk⟩
theorem CellsAt.below {w w' : World} {b : Nat} {t : TypeId} {cs : Array Value} (h : CellsAt w b t cs) (hb : Below w.heap.size w w') : CellsAt w' b t cs := h.of_block (hb.block b h.lt)
theorem CellsAt.alloc {w : World} {b : Nat} {t : TypeId} {cs : Array Value} (h : CellsAt w b t cs) (o : Obj) : CellsAt (w.alloc o) b t cs := h.of_block (Below.heap_alloc w o b h.lt)
theorem CellsAt.new (w : World) (t : TypeId) (cs : Array Value) : CellsAt (w.alloc (.cells cs t)) w.heap.size t cs := ⟨heap_alloc_new w _⟩
theorem CellsAt.set {w : World} {b : Nat} {t : TypeId} {cs : Array Value} (h : CellsAt w b t cs) (k : Nat) (u : Value) : CellsAt (w.setCell ⟨b, k, none⟩ u) b t (cs.setIfInBounds k u) := by
  have h := h.blk
  constructor
  simp [World.setCell, Array.getElem?_modify, h]
theorem CellsAt.other {w : World} {b : Nat} {t : TypeId} {cs : Array Value} (h : CellsAt w b t cs) {c : Nat} (hc : b ≠ c) (k : Nat) (u : Value) : CellsAt (w.setCell ⟨c, k, none⟩ u) b t cs := h.of_block (Below.heap_setCell _ _ _ b hc)

/-- Nothing from block n on has turned. -/
def From (n : Nat) (w w2 : World) : Prop := w.heap.size ≤ w2.heap.size ∧ ∀ b, n ≤ b → b < w.heap.size → w2.heap[b]? = w.heap[b]?
theorem From.refl (n : Nat) (w : World) : From n w w := ⟨Nat.le_refl _, fun _ _ _ => rfl⟩
theorem From.trans {n : Nat} {a b c : World} (h : From n a b) (k : From n b c) : From n a c :=
  ⟨Nat.le_trans h.1 k.1, fun i h1 h2 => (k.2 i h1 (Nat.lt_of_lt_of_le h2 h.1)).trans (h.2 i h1 h2)⟩
theorem From.mono {n m : Nat} {a b : World} (h : From n a b) (hm : n ≤ m) : From m a b := ⟨h.1, fun i h1 h2 => h.2 i (Nat.le_trans hm h1) h2⟩
theorem From.of_below {n : Nat} {a b : World} (h : Below a.heap.size a b) : From n a b := ⟨h.size, fun i _ h2 => h.block i h2⟩
theorem From.set {n : Nat} {w : World} {b : Nat} (h : b < n) (k : Nat) (u : Value) : From n w (w.setCell ⟨b, k, none⟩ u) := ⟨by simp, fun i h1 _ => Below.heap_setCell _ _ _ i (by show i ≠ b; omega)⟩
theorem From.cell {n : Nat} {a b : World} (h : From n a b) {p : Addr} {v : Value} (hp : n ≤ p.block) (hc : a.cell? p = some v) : b.cell? p = some v :=
  (World.cell?_of_block (h.2 p.block hp (World.block_lt_of_cell? a p hc))).trans hc
theorem From.at {n : Nat} {a b : World} (h : From n a b) {g : Nat} {t : TypeId} {cs : Array Value} (hg : n ≤ g) (hc : CellsAt a g t cs) : CellsAt b g t cs := hc.of_block (h.2 g hg hc.lt)

/-- What lies from block n on holds P, whatever else turns. -/
def Stb (n : Nat) (w : World) (P : World → Prop) : Prop := ∀ w2, From n w w2 → P w2
theorem Stb.here {n : Nat} {w : World} {P : World → Prop} (h : Stb n w P) : P w := h w (From.refl n w)
theorem Stb.on {n : Nat} {w w' : World} {P : World → Prop} (h : Stb n w P) (hf : From n w w') : Stb n w' P := fun w2 h2 => h w2 (hf.trans h2)
theorem Stb.mono {n m : Nat} {w : World} {P : World → Prop} (h : Stb n w P) (hm : m ≤ n) : Stb m w P := fun w2 h2 => h w2 (h2.mono hm)

/-- An element of a list of values, as its cells tell. -/
def El (l : List Vl) (cs : Array Value) (P : Option Addr → List (List UInt8) → Option Addr → List Vl → Prop) (j : Nat) : Prop := ∃ k t i s l' ks av c kv kc, l[j]? = some (.mk k t i s l' ks) ∧
  cs[j * 6]? = some (.int .i64 k) ∧ cs[j * 6 + 1]? = some (.bool t) ∧ cs[j * 6 + 2]? = some (.int .i64 i) ∧ cs[j * 6 + 3]? = some (.string s) ∧ cs[j * 6 + 4]? = some (.slice av l'.length c) ∧ cs[j * 6 + 5]? = some (.slice kv ks.length kc) ∧
  (-9223372036854775808 ≤ k ∧ k ≤ 9223372036854775807) ∧ (-9223372036854775808 ≤ i ∧ i ≤ 9223372036854775807) ∧ s.size ≤ 140737488351232 ∧ l'.length * 88 ≤ 140737488351232 ∧ l'.length ≤ c ∧ c ≤ 9223372036854775807 ∧ ks.length * 16 ≤ 140737488351232 ∧ ks.length ≤ kc ∧ kc ≤ 9223372036854775807 ∧
  (∀ x, x ∈ ks → x.length ≤ 140737488351232) ∧ P kv ks av l'
theorem El.mono {l : List Vl} {cs cs' : Array Value} {P Q : Option Addr → List (List UInt8) → Option Addr → List Vl → Prop} {j : Nat} (h : El l cs P j) (hc : ∀ k, j * 6 ≤ k → k < j * 6 + 6 → cs'[k]? = cs[k]?) (hP : ∀ a b c d, P a b c d → Q a b c d) : El l cs' Q j := by
  obtain ⟨k, t, i, s, l', ks, av, c, kv, kc, e, c0, c1, c2, c3, c4, c5, g0, g1, g2, g3, g4, g5, g6, g7, g8, g9, hp⟩ := h
  exact ⟨k, t, i, s, l', ks, av, c, kv, kc, e, (hc _ (by omega) (by omega)).trans c0, (hc _ (by omega) (by omega)).trans c1, (hc _ (by omega) (by omega)).trans c2, (hc _ (by omega) (by omega)).trans c3, (hc _ (by omega) (by omega)).trans c4, (hc _ (by omega) (by omega)).trans c5, g0, g1, g2, g3, g4, g5, g6, g7, g8, g9, hP _ _ _ _ hp⟩
theorem CellsAt.drew {w : World} {b : Nat} {t : TypeId} {cs : Array Value} (h : CellsAt w b t cs) : CellsAt w.drew b t cs := ⟨h.blk⟩
end Go.Proofs.YtjehhldboopocaaGreatDoor
namespace Go.Proofs.YtjehhldboopocaaGreatDoor
open Go.RowKit Go.Lib
theorem readsV_nil (m : Nat) (w : World) (v : Option Addr) : ReadsV m w v [] := by
  cases m with
  | zero => rfl
  | succ m => intro j hj; simp at hj
theorem set_other {w : World} {g b : Nat} (h : b ≠ g) (k : Nat) (u : Value) : (w.setCell ⟨g, k, none⟩ u).heap[b]? = w.heap[b]? := Below.heap_setCell _ _ _ b h
end Go.Proofs.YtjehhldboopocaaGreatDoor
namespace Go.Proofs.YtjehhldboopocaaGreatDoor
open Go.RowKit Go.Lib
/-- The zero value. -/
def zeroV : Vl := .mk 0 false 0 ⟨#[]⟩ [] []
theorem readsV_up {w : World} {m n : Nat} (h : m ≤ n) (v : Option Addr) (l : List Vl) (hr : ReadsV m w v l) : ReadsV n w v l := by
  induction n with
  | zero => rw [show m = 0 by omega] at hr; exact hr
  | succ n ih =>
    by_cases e : m = n + 1
    · rw [← e]; exact hr
    · exact ReadsV.up n v l (ih (by omega))
theorem isV_up {w : World} {m n : Nat} (hm : m ≤ n) {V : Value} {x : Vl} (h : IsV m w V x) : IsV n w V x := by
  obtain ⟨k, t, i, s, l, ks, av, c, kv, kc, e, eV, g0, g1, g2, g3, g4, g5, g6, g7, g8, g9, hs, hl⟩ := h
  exact ⟨k, t, i, s, l, ks, av, c, kv, kc, e, eV, g0, g1, g2, g3, g4, g5, g6, g7, g8, g9, hs, readsV_up hm _ _ hl⟩
theorem isV_zero (m : Nat) (w : World) : IsV m w (.agg #[.int .i64 0, .bool false, .int .i64 0, .string ⟨#[]⟩, .slice none 0 0, .slice none 0 0]) zeroV :=
  ⟨0, false, 0, ⟨#[]⟩, [], [], none, 0, none, 0, rfl, rfl, by decide, by decide, by decide, by decide, by decide, by decide, by decide, by decide, by decide, by simp, fun _ h => by simp at h, readsV_nil _ _ _⟩
end Go.Proofs.YtjehhldboopocaaGreatDoor
namespace Go.Proofs.YtjehhldboopocaaGreatDoor.Lx
open Go.RowKit Go.Lib
/-- An expression whose literals are values. -/
abbrev Xp : Type := Ex Vl
def Ex.kd {V : Type} : Ex V → Int | .mk k _ _ _ _ => k
def Ex.vl {V : Type} : Ex V → V | .mk _ v _ _ _ => v
def Ex.nm {V : Type} : Ex V → List UInt8 | .mk _ _ n _ _ => n
def Ex.ar {V : Type} : Ex V → List (Ex V) | .mk _ _ _ l _ => l
def Ex.ky {V : Type} : Ex V → List (List UInt8) | .mk _ _ _ _ ks => ks

/-- An expression, spelled out, reads as a tree; R: how its args read. -/
def CoreE (R : Option Addr → List Xp → Prop) (w : World) (C : List Value) (x : Xp) : Prop := ∃ k n vk vt vi vs vl vks vav vc vkv vkc l ks av c kv kc,
  x = .mk k (.mk vk vt vi vs vl vks) n l ks ∧
  C = [.int .i64 k, .string ⟨n.toArray⟩, .int .i64 vk, .bool vt, .int .i64 vi, .string vs, .slice vav vl.length vc, .slice vkv vks.length vkc, .slice av l.length c, .slice kv ks.length kc] ∧
  (∃ m, IsV m w (.agg #[.int .i64 vk, .bool vt, .int .i64 vi, .string vs, .slice vav vl.length vc, .slice vkv vks.length vkc]) (.mk vk vt vi vs vl vks)) ∧
  (-9223372036854775808 ≤ k ∧ k ≤ 9223372036854775807) ∧ n.length ≤ 140737488351232 ∧
  (l.length * 160 ≤ 140737488351232 ∧ l.length ≤ c ∧ c ≤ 9223372036854775807) ∧ (ks.length * 16 ≤ 140737488351232 ∧ ks.length ≤ kc ∧ kc ≤ 9223372036854775807) ∧
  (∀ x, x ∈ ks → x.length ≤ 140737488351232) ∧ ReadsStr w kv ks ∧ R av l
/-- A slice of expressions reads as a list of trees of at most m levels. -/
def ReadsE : Nat → World → Option Addr → List Xp → Prop
  | 0, _, _, l => l = []
  | m + 1, w, v, l => ∀ j x, l[j]? = some x → ∃ b off C, v = some ⟨b, off, none⟩ ∧ b < w.heap.size ∧ CoreE (fun av l' => ReadsE m w av l') w C x ∧ ∀ q u, C[q]? = some u → w.cell? ⟨b, off + j * 10 + q, none⟩ = some u
/-- An expression, spelled out, reads as a tree of at most m + 1 levels. -/
def IsE (m : Nat) (w : World) (C : List Value) (x : Xp) : Prop := CoreE (ReadsE m w) w C x
theorem CoreE.move {R S : Option Addr → List Xp → Prop} {w w' : World} {C : List Value} {x : Xp} (h : CoreE R w C x) (hV : ∀ m V y, IsV m w V y → IsV m w' V y) (hS : ∀ v l, ReadsStr w v l → ReadsStr w' v l) (hR : ∀ av l, R av l → S av l) : CoreE S w' C x := by
  obtain ⟨k, n, vk, vt, vi, vs, vl, vks, vav, vc, vkv, vkc, l, ks, av, c, kv, kc, e, eC, ⟨m, hv⟩, g1, g2, g3, g4, g5, hs, hr⟩ := h
  exact ⟨k, n, vk, vt, vi, vs, vl, vks, vav, vc, vkv, vkc, l, ks, av, c, kv, kc, e, eC, ⟨m, hV _ _ _ hv⟩, g1, g2, g3, g4, g5, hS _ _ hs, hR _ _ hr⟩
theorem CoreE.len {R : Option Addr → List Xp → Prop} {w : World} {C : List Value} {x : Xp} (h : CoreE R w C x) : C.length = 10 := by
  obtain ⟨k, n, vk, vt, vi, vs, vl, vks, vav, vc, vkv, vkc, l, ks, av, c, kv, kc, e, rfl, _⟩ := h
  rfl
theorem CoreE.one {R : Option Addr → List Xp → Prop} {w : World} {C : List Value} {x : Xp} (h : CoreE R w C x) : ∀ u ∈ C, u.oneCell' = true := by
  obtain ⟨k, n, vk, vt, vi, vs, vl, vks, vav, vc, vkv, vkc, l, ks, av, c, kv, kc, e, rfl, _⟩ := h
  intro u hu
  simp only [List.mem_cons, List.not_mem_nil, or_false] at hu
  rcases hu with rfl | rfl | rfl | rfl | rfl | rfl | rfl | rfl | rfl | rfl <;> rfl
theorem ReadsE.below {w w' : World} (hb : Below w.heap.size w w') : ∀ (m : Nat) (v : Option Addr) (l : List Xp), ReadsE m w v l → ReadsE m w' v l
  | 0, _, _, h => h
  | m + 1, v, l, h => by
    intro j x hj
    obtain ⟨b, off, C, h1, h2, h3, h4⟩ := h j x hj
    exact ⟨b, off, C, h1, Nat.lt_of_lt_of_le h2 hb.size, h3.move (fun _ _ _ h => h.below hb) (fun _ _ h => h.below hb) (fun av l' h => ReadsE.below hb m av l' h), fun q u hq => (hb.cell (p := ⟨b, _, none⟩) h2).trans (h4 q u hq)⟩
theorem IsE.below {w w' : World} {m : Nat} {C : List Value} {x : Xp} (h : IsE m w C x) (hb : Below w.heap.size w w') : IsE m w' C x :=
  h.move (fun _ _ _ h => h.below hb) (fun _ _ h => h.below hb) (fun av l' h => ReadsE.below hb m av l' h)
theorem readsE_up1 {w : World} : ∀ (m : Nat) (v : Option Addr) (l : List Xp), ReadsE m w v l → ReadsE (m + 1) w v l
  | 0, _, _, h => by
    have h' : _ = [] := h
    subst h'
    intro j x hj
    simp at hj
  | m + 1, v, l, h => by
    intro j x hj
    obtain ⟨b, off, C, h1, h2, h3, h4⟩ := h j x hj
    exact ⟨b, off, C, h1, h2, h3.move (fun _ _ _ h => h) (fun _ _ h => h) (fun av l' h => readsE_up1 m av l' h), h4⟩
theorem readsE_up {w : World} {m n : Nat} (h : m ≤ n) (v : Option Addr) (l : List Xp) (hr : ReadsE m w v l) : ReadsE n w v l := by
  obtain ⟨d, rfl⟩ := Nat.exists_eq_add_of_le h
  induction d with
  | zero => exact hr
  | succ d ih => exact readsE_up1 _ v l (ih (Nat.le_add_right _ _))
theorem IsE.up {w : World} {m n : Nat} (h : m ≤ n) {C : List Value} {x : Xp} (hx : IsE m w C x) : IsE n w C x :=
  hx.move (fun _ _ _ h => h) (fun _ _ h => h) (fun av l hr => readsE_up h av l hr)
theorem readsE_nil (m : Nat) (w : World) (v : Option Addr) : ReadsE m w v [] := by
  cases m with
  | zero => rfl
  | succ m => intro j x hj; simp at hj
def zeroC : List Value := [.int .i64 0, .string ⟨#[]⟩, .int .i64 0, .bool false, .int .i64 0, .string ⟨#[]⟩, .slice none 0 0, .slice none 0 0, .slice none 0 0, .slice none 0 0]
theorem infoExp : (Tryz.prog.info? 29).map (fun i => (i.zero, i.size, i.bytes)) = some (some (.agg #[.int .i64 0, .string ⟨#[]⟩, .int .i64 0, .bool false, .int .i64 0, .string ⟨#[]⟩, .slice none 0 0, .slice none 0 0, .slice none 0 0, .slice none 0 0]), 10, 160) := by kernel_rfl

/-- What holds as long as the blocks in D lie as they lay. -/
def StD (D : Nat → Prop) (w : World) (P : World → Prop) : Prop := ∀ w', w.heap.size ≤ w'.heap.size → (∀ k, k < w.heap.size → D k → w'.heap[k]? = w.heap[k]?) → P w'
theorem StD.here {D : Nat → Prop} {w : World} {P : World → Prop} (h : StD D w P) : P w := h w (Nat.le_refl _) fun _ _ _ => rfl
theorem StD.on {D E : Nat → Prop} {w w' : World} {P : World → Prop} (h : StD D w P) (hz : w.heap.size ≤ w'.heap.size) (hk : ∀ k, k < w.heap.size → D k → w'.heap[k]? = w.heap[k]? ∧ E k) : StD E w' P :=
  fun w2 h1 h2 => h w2 (Nat.le_trans hz h1) fun k h3 h4 => (h2 k (Nat.lt_of_lt_of_le h3 hz) (hk k h3 h4).2).trans (hk k h3 h4).1
theorem StD.imp {D : Nat → Prop} {w : World} {P Q : World → Prop} (h : StD D w P) (hpq : ∀ w', P w' → Q w') : StD D w Q := fun w2 h1 h2 => hpq _ (h w2 h1 h2)
theorem StD.and {D : Nat → Prop} {w : World} {P Q : World → Prop} (h : StD D w P) (k : StD D w Q) : StD D w fun w => P w ∧ Q w := fun w2 h1 h2 => ⟨h w2 h1 h2, k w2 h1 h2⟩
end Go.Proofs.YtjehhldboopocaaGreatDoor.Lx
