/- Values compared, as trees: a total preorder; and whether two agree in all fields. No function of the program is named. Literals of values, as plain functions. Entries of a map: the first error, the map, and that neither depends on the order. Plain functions. What a value without an error is; levels and errors. Plain functions. Elements and strings are told from their literals. Plain functions. Valid values with one literal are one, and so are those that are equal in order. Plain functions. -/
import Derived.Test.YtabopneehhnhfaaGreatDoorNatH
import Derived.Test.YtabopneehhnhfaaGreatDoorValG
import Derived.Lib.ItoaNum
import Derived.Test.YtabopneehhnhfaaGreatDoorValK
namespace Go.Proofs.YtabopneehhnhfaaGreatDoor
open Go.RowKit Go.Lib

/-- A comparison: three answers, antisymmetric, transitive. -/
structure Pre {α : Type} (c : α → α → Int) : Prop where
  rng : ∀ x y, c x y = -1 ∨ c x y = 0 ∨ c x y = 1
  anti : ∀ x y, c y x = - c x y
  tr : ∀ x y z, c x y ≤ 0 → c y z ≤ 0 → c x z ≤ 0
theorem Tot.pre {α : Type} {c : α → α → Int} (h : Tot c) : Pre c := ⟨h.rng, h.anti, h.tr⟩
theorem Pre.refl {α : Type} {c : α → α → Int} (h : Pre c) (x : α) : c x x = 0 := by
  have := h.anti x x
  omega
theorem Pre.congL {α : Type} {c : α → α → Int} (h : Pre c) {x y : α} (e : c x y = 0) (z : α) : c x z = c y z := by
  have a1 := h.anti x y
  have a2 := h.anti x z
  have a3 := h.anti y z
  have t1 := h.tr x y z
  have t2 := h.tr y x z
  have t3 := h.tr z x y
  have t4 := h.tr z y x
  have r1 := h.rng x z
  have r2 := h.rng y z
  omega
theorem Pre.congR {α : Type} {c : α → α → Int} (h : Pre c) {x y : α} (e : c x y = 0) (z : α) : c z x = c z y := by
  have := h.congL e z
  have a2 := h.anti x z
  have a3 := h.anti y z
  omega
theorem Pre.lt {α : Type} {c : α → α → Int} (h : Pre c) {x y z : α} (h1 : c x y ≤ 0) (h2 : c y z < 0) : c x z < 0 := by
  have a1 := h.anti x y
  have a2 := h.anti x z
  have a3 := h.anti y z
  have t1 := h.tr x y z
  have t3 := h.tr z x y
  omega
/-- One comparison, and then another. -/
def thenC {α : Type} (c d : α → α → Int) (x y : α) : Int := if c x y ≠ 0 then c x y else d x y
/-- d need be a comparison only among those that c holds for equal. -/
theorem thenC_pre {α : Type} {c d : α → α → Int} (h : Pre c) (r : ∀ x y, c x y = 0 → d x y = -1 ∨ d x y = 0 ∨ d x y = 1) (a : ∀ x y, c x y = 0 → d y x = - d x y) (t : ∀ x y z, c x y = 0 → c y z = 0 → d x y ≤ 0 → d y z ≤ 0 → d x z ≤ 0) : Pre (thenC c d) where
  rng := fun x y => by
    unfold thenC
    have := h.rng x y
    by_cases e : c x y = 0
    · rw [if_neg (by simpa using e)]; exact r x y e
    · rw [if_pos e]; exact this
  anti := fun x y => by
    unfold thenC
    have := h.anti x y
    by_cases e : c x y = 0
    · rw [if_neg (by omega), if_neg (by omega)]; exact a x y e
    · rw [if_pos e, if_pos (by omega)]; exact this
  tr := fun x y z h1 h2 => by
    unfold thenC at h1 h2 ⊢
    have A1 := h.anti x y
    have A2 := h.anti y z
    have A3 := h.anti x z
    by_cases e1 : c x y = 0
    · rw [if_neg (by simpa using e1)] at h1
      have g := h.congL e1 z
      by_cases e2 : c y z = 0
      · rw [if_neg (by simpa using e2)] at h2
        rw [if_neg (by omega)]
        exact t x y z e1 e2 h1 h2
      · rw [if_pos e2] at h2
        rw [if_pos (by omega)]
        omega
    · rw [if_pos e1] at h1
      have g : c x z < 0 := by
        by_cases e2 : c y z = 0
        · have := h.congR e2 x
          omega
        · rw [if_pos e2] at h2
          have t3 := h.tr z x y
          have t1 := h.tr x y z
          have t4 := h.tr y z x
          omega
      rw [if_pos (by omega)]
      omega
theorem thenC_pre' {α : Type} {c d : α → α → Int} (h : Pre c) (g : Pre d) : Pre (thenC c d) :=
  thenC_pre h (fun x y _ => g.rng x y) (fun x y _ => g.anti x y) (fun x y z _ _ => g.tr x y z)
theorem preL_rng {α : Type} {c : α → α → Int} (h : Pre c) : ∀ a b, lexC c a b = -1 ∨ lexC c a b = 0 ∨ lexC c a b = 1
  | [], [] => by simp [lexC]
  | [], _ :: _ => by simp [lexC]
  | _ :: _, [] => by simp [lexC]
  | x :: a, y :: b => by
    unfold lexC
    split
    · exact h.rng x y
    · exact preL_rng h a b
theorem preL_anti {α : Type} {c : α → α → Int} (h : Pre c) : ∀ a b, lexC c b a = - lexC c a b
  | [], [] => by simp [lexC]
  | [], _ :: _ => by simp [lexC]
  | _ :: _, [] => by simp [lexC]
  | x :: a, y :: b => by
    unfold lexC
    have := h.anti x y
    by_cases e : c x y = 0
    · rw [if_neg (by omega), if_neg (by omega)]
      exact preL_anti h a b
    · rw [if_pos (by omega), if_pos (by omega)]
      exact this
theorem preL_tr {α : Type} {c : α → α → Int} (h : Pre c) : ∀ a b d, lexC c a b ≤ 0 → lexC c b d ≤ 0 → lexC c a d ≤ 0
  | [], _, [], _, _ => by simp [lexC]
  | [], _, _ :: _, _, _ => by simp [lexC]
  | _ :: _, [], _, h1, _ => by simp [lexC] at h1
  | _ :: _, _ :: _, [], _, h2 => by simp [lexC] at h2
  | x :: a, y :: b, z :: d, h1, h2 => by
    unfold lexC at h1 h2 ⊢
    have A1 := h.anti x y
    have A2 := h.anti y z
    have A3 := h.anti x z
    by_cases e1 : c x y = 0
    · rw [if_neg (by simpa using e1)] at h1
      have g := h.congL e1 z
      by_cases e2 : c y z = 0
      · rw [if_neg (by simpa using e2)] at h2
        rw [if_neg (by omega)]
        exact preL_tr h a b d h1 h2
      · rw [if_pos e2] at h2
        rw [if_pos (by omega)]
        omega
    · rw [if_pos e1] at h1
      have g : c x z < 0 := by
        by_cases e2 : c y z = 0
        · have := h.congR e2 x
          omega
        · rw [if_pos e2] at h2
          have t3 := h.tr z x y
          have t1 := h.tr x y z
          have t4 := h.tr y z x
          omega
      rw [if_pos (by omega)]
      omega
theorem preL {α : Type} {c : α → α → Int} (h : Pre c) : Pre (lexC c) := ⟨preL_rng h, preL_anti h, preL_tr h⟩
/-- A comparison of what is told of each. -/
theorem Pre.on {α β : Type} {c : β → β → Int} (h : Pre c) (f : α → β) : Pre (fun x y => c (f x) (f y)) := ⟨fun _ _ => h.rng _ _, fun _ _ => h.anti _ _, fun _ _ _ => h.tr _ _ _⟩

theorem intC_tot : Tot Lib.compareInt where
  rng := fun x y => by unfold Lib.compareInt; split <;> (try split) <;> omega
  anti := fun x y => by unfold Lib.compareInt; split <;> split <;> (try split) <;> omega
  eq := fun x y => by unfold Lib.compareInt; split <;> (try split) <;> omega
  tr := fun x y z => by
    unfold Lib.compareInt
    intro h1 h2
    split <;> (try split) <;> (split at h1 <;> (try split at h1)) <;> (split at h2 <;> (try split at h2)) <;> omega
def u8C (x y : UInt8) : Int := Lib.compareInt x.toNat y.toNat
theorem u8C_tot : Tot u8C where
  rng := fun x y => intC_tot.rng _ _
  anti := fun x y => intC_tot.anti _ _
  eq := fun x y => by
    unfold u8C
    rw [intC_tot.eq]
    constructor
    · intro h; exact UInt8.toNat_inj.1 (by omega)
    · rintro rfl; rfl
  tr := fun x y z => intC_tot.tr _ _ _
theorem bytesC_lex : ∀ a b : List UInt8, Lib.compareBytes a b = lexC u8C a b
  | [], [] => rfl
  | [], _ :: _ => rfl
  | _ :: _, [] => rfl
  | x :: a, y :: b => by
    rw [Lib.compareBytes, lexC, bytesC_lex a b]
    have h1 : (x < y) ↔ x.toNat < y.toNat := Iff.rfl
    have h2 : (y < x) ↔ y.toNat < x.toNat := Iff.rfl
    by_cases g1 : x.toNat < y.toNat
    · have e : u8C x y = -1 := by unfold u8C Lib.compareInt; rw [if_pos (by omega)]
      rw [if_pos (h1.2 g1), e, if_pos (by decide)]
    · rw [if_neg (fun h => g1 (h1.1 h))]
      by_cases g2 : y.toNat < x.toNat
      · have e : u8C x y = 1 := by unfold u8C Lib.compareInt; rw [if_neg (by omega), if_pos (by omega)]
        rw [if_pos (h2.2 g2), e, if_pos (by decide)]
      · have e : u8C x y = 0 := by unfold u8C Lib.compareInt; rw [if_neg (by omega), if_neg (by omega)]
        rw [if_neg (fun h => g2 (h2.1 h)), e, if_neg (by decide)]
theorem bytesC_tot : Tot Lib.compareBytes := by
  have : Lib.compareBytes = lexC u8C := by funext a b; exact bytesC_lex a b
  rw [this]
  exact lexC_tot u8C_tot
def bolC (s t : Bool) : Int := if s = t then 0 else if t = true then -1 else 1
theorem bolC_tot : Tot bolC where
  rng := fun x y => by cases x <;> cases y <;> decide
  anti := fun x y => by cases x <;> cases y <;> decide
  eq := fun x y => by cases x <;> cases y <;> decide
  tr := fun x y z => by cases x <;> cases y <;> cases z <;> decide

def Vl.kind : Vl → Int | .mk k _ _ _ _ _ => k
def Vl.truth : Vl → Bool | .mk _ t _ _ _ _ => t
def Vl.num : Vl → Int | .mk _ _ i _ _ _ => i
def Vl.str : Vl → ByteArray | .mk _ _ _ s _ _ => s
def Vl.list : Vl → List Vl | .mk _ _ _ _ l _ => l
def Vl.keys : Vl → List (List UInt8) | .mk _ _ _ _ _ ks => ks
/-- Two values of one kind, compared; c compares their elements. -/
def bodC (c : Vl → Vl → Int) (x y : Vl) : Int :=
  if x.kind = 1 then bolC x.truth y.truth
  else if x.kind = 2 then Lib.compareInt x.num y.num
  else if x.kind = 3 then Lib.compareBytes x.str.data.toList y.str.data.toList
  else if x.kind = 4 then lexC c x.list y.list
  else if x.kind = 5 then thenC (fun x y : Vl => lexC cmpL x.keys y.keys) (fun x y : Vl => lexC c x.list y.list) x y
  else 0
def hdC (c : Vl → Vl → Int) : Vl → Vl → Int := thenC (fun x y => Lib.compareInt x.kind y.kind) (bodC c)
/-- Values of at most m levels below, compared. -/
def cmpV : Nat → Vl → Vl → Int
  | 0 => hdC (fun _ _ => 0)
  | m + 1 => hdC (cmpV m)
theorem hdC_pre {c : Vl → Vl → Int} (h : Pre c) : Pre (hdC c) := by
  have h5 := thenC_pre' ((lexC_tot cmp_tot).pre.on Vl.keys) ((preL h).on Vl.list)
  refine thenC_pre (intC_tot.pre.on Vl.kind) ?_ ?_ ?_
  · intro x y e
    have e := (intC_tot.eq _ _).1 e
    unfold bodC
    split; exact bolC_tot.rng _ _
    split; exact intC_tot.rng _ _
    split; exact bytesC_tot.rng _ _
    split; exact (preL h).rng _ _
    split; exact h5.rng _ _
    exact .inr (.inl rfl)
  · intro x y e
    have e := (intC_tot.eq _ _).1 e
    unfold bodC
    rw [← e]
    split; exact bolC_tot.anti _ _
    split; exact intC_tot.anti _ _
    split; exact bytesC_tot.anti _ _
    split; exact (preL h).anti _ _
    split; exact h5.anti _ _
    rfl
  · intro x y z e f
    have e := (intC_tot.eq _ _).1 e
    have f := (intC_tot.eq _ _).1 f
    unfold bodC
    rw [← e]
    split; exact bolC_tot.tr _ _ _
    split; exact intC_tot.tr _ _ _
    split; exact bytesC_tot.tr _ _ _
    split; exact (preL h).tr _ _ _
    split; exact h5.tr _ _ _
    exact fun _ _ => Int.le_refl 0
theorem zeroC_pre : Pre (fun _ _ : Vl => (0 : Int)) := ⟨fun _ _ => .inr (.inl rfl), fun _ _ => rfl, fun _ _ _ _ _ => Int.le_refl 0⟩
theorem cmpV_pre : ∀ m, Pre (cmpV m)
  | 0 => hdC_pre zeroC_pre
  | m + 1 => hdC_pre (cmpV_pre m)

/-- Two values agree in all fields (of values of at most m levels below). -/
def sameV : Nat → Vl → Vl → Bool
  | 0, x, y => x.kind == y.kind && x.truth == y.truth && x.num == y.num && (x.str.data.toList == y.str.data.toList) && (x.keys == y.keys) && x.list.isEmpty && y.list.isEmpty
  | m + 1, x, y => x.kind == y.kind && x.truth == y.truth && x.num == y.num && (x.str.data.toList == y.str.data.toList) && (x.keys == y.keys) && (x.list.length == y.list.length) && (x.list.zip y.list).all fun p => sameV m p.1 p.2
theorem str_inj {s t : ByteArray} : s.data.toList = t.data.toList ↔ s = t := by
  constructor
  · intro h
    apply ByteArray.ext
    exact Array.toList_inj.1 h
  · rintro rfl; rfl
theorem zip_eq {α : Type} (f : α → α → Bool) : ∀ (a b : List α), (∀ x y, x ∈ a → y ∈ b → (f x y = true ↔ x = y)) → a.length = b.length → ((a.zip b).all (fun p => f p.1 p.2) = true ↔ a = b)
  | [], [], _, _ => by simp
  | [], _ :: _, _, h => by simp at h
  | _ :: _, [], _, h => by simp at h
  | x :: a, y :: b, h, hl => by
    have ih := zip_eq f a b (fun u v hu hv => h u v (by simp [hu]) (by simp [hv])) (by simpa using hl)
    rw [List.zip_cons_cons, List.all_cons, Bool.and_eq_true, ih, h x y (by simp) (by simp), List.cons.injEq]
theorem sameV_iff : ∀ (m : Nat) (x y : Vl), fitsV m x → fitsV m y → (sameV m x y = true ↔ x = y)
  | 0, .mk k t i s l ks, .mk k' t' i' s' l' ks', hx, hy => by
    have hl : l = [] := hx
    have hl' : l' = [] := hy
    subst hl hl'
    simp only [sameV, Vl.kind, Vl.truth, Vl.num, Vl.str, Vl.keys, Vl.list, Bool.and_eq_true, beq_iff_eq, str_inj, List.isEmpty_nil, and_true, Vl.mk.injEq, and_assoc, true_and]
  | m + 1, .mk k t i s l ks, .mk k' t' i' s' l' ks', hx, hy => by
    have hz := zip_eq (sameV m) l l' (fun x y h1 h2 => sameV_iff m x y (hx x h1) (hy y h2))
    simp only [sameV, Vl.kind, Vl.truth, Vl.num, Vl.str, Vl.keys, Vl.list, Bool.and_eq_true, beq_iff_eq, str_inj]
    constructor
    · rintro ⟨⟨⟨⟨⟨⟨rfl, rfl⟩, rfl⟩, rfl⟩, rfl⟩, h1⟩, h2⟩
      rw [(hz h1).1 h2]
    · intro h
      injection h with h1 h2 h3 h4 h5 h6
      subst h1 h2 h3 h4 h5 h6
      exact ⟨⟨⟨⟨⟨⟨rfl, rfl⟩, rfl⟩, rfl⟩, rfl⟩, rfl⟩, (hz rfl).2 rfl⟩
end Go.Proofs.YtabopneehhnhfaaGreatDoor
namespace Go.Proofs.YtabopneehhnhfaaGreatDoor
open Go.RowKit Go.Lib

/-- The characters of a byte in a literal. -/
def hexD (n : Nat) : UInt8 := UInt8.ofNat (if n < 10 then 48 + n else 87 + n)
def chrL (c : UInt8) : List UInt8 :=
  if c.toNat = 34 then [92, 34] else if c.toNat = 92 then [92, 92] else if c.toNat = 10 then [92, 110] else if c.toNat = 9 then [92, 116]
  else if 32 ≤ c.toNat ∧ c.toNat ≤ 126 then [c] else [92, 120, hexD (c.toNat / 16), hexD (c.toNat % 16)]
/-- The literal of a string. -/
def quoL (s : List UInt8) : List UInt8 := 34 :: (s.flatMap chrL ++ [34])
theorem chrL_len (c : UInt8) : 1 ≤ (chrL c).length ∧ (chrL c).length ≤ 4 := by
  unfold chrL
  repeat' split
  all_goals simp
theorem flat_len4 : ∀ s : List UInt8, (s.flatMap chrL).length ≤ 4 * s.length
  | [] => by simp
  | c :: s => by
    have := flat_len4 s
    have := chrL_len c
    simp only [List.flatMap_cons, List.length_append, List.length_cons]
    omega
theorem quoL_len (s : List UInt8) : (quoL s).length ≤ 4 * s.length + 2 := by
  have := flat_len4 s
  simp only [quoL, List.length_cons, List.length_append, List.length_nil]
  omega
/-- An element of a list or a map, with what stands ahead of it. -/
def eltL (f : Vl → List UInt8) (mp : Bool) (l : List Vl) (ks : List (List UInt8)) (j : Nat) : List UInt8 :=
  (if j = 0 then [] else [44, 32]) ++ ((if mp = true then quoL (ks.getD j []) ++ [58, 32] else []) ++ (match l[j]? with | none => [] | some x => f x))
/-- The first n of them. -/
def itemsL (f : Vl → List UInt8) (mp : Bool) (l : List Vl) (ks : List (List UInt8)) (n : Nat) : List UInt8 := (List.range n).flatMap (eltL f mp l ks)
theorem itemsL_zero (f : Vl → List UInt8) (mp : Bool) (l : List Vl) (ks : List (List UInt8)) : itemsL f mp l ks 0 = [] := rfl
theorem itemsL_succ (f : Vl → List UInt8) (mp : Bool) (l : List Vl) (ks : List (List UInt8)) (n : Nat) : itemsL f mp l ks (n + 1) = itemsL f mp l ks n ++ eltL f mp l ks n := by
  unfold itemsL
  rw [List.range_succ, List.flatMap_append]
  simp
theorem itemsL_le (f : Vl → List UInt8) (mp : Bool) (l : List Vl) (ks : List (List UInt8)) : ∀ (n k : Nat), (itemsL f mp l ks n).length ≤ (itemsL f mp l ks (n + k)).length
  | n, 0 => Nat.le_refl _
  | n, k + 1 => by
    have := itemsL_le f mp l ks n k
    rw [← Nat.add_assoc, itemsL_succ, List.length_append]
    omega
/-- The literal of a value; f is that of its elements. -/
def hdL (f : Vl → List UInt8) (x : Vl) : List UInt8 :=
  if x.kind = 0 then [110, 117, 108, 108]
  else if x.kind = 1 then (if x.truth = true then [116, 114, 117, 101] else [102, 97, 108, 115, 101])
  else if x.kind = 2 then Lib.itoa x.num
  else if x.kind = 3 then quoL x.str.data.toList
  else if x.kind = 4 then 91 :: (itemsL f false x.list x.keys x.list.length ++ [93])
  else 123 :: (itemsL f true x.list x.keys x.list.length ++ [125])
def litV : Nat → Vl → List UInt8
  | 0 => hdL (fun _ => [])
  | m + 1 => hdL (litV m)
theorem decD_pos : ∀ n : Nat, 1 ≤ (Lib.decDigits n).length := by
  intro n
  rw [Lib.decDigits]
  split <;> simp
theorem litV_pos (m : Nat) (x : Vl) : 1 ≤ (litV m x).length := by
  have h : ∀ f, 1 ≤ (hdL f x).length := by
    intro f
    unfold hdL
    split
    · simp
    split
    · split <;> simp
    split
    · unfold Lib.itoa
      split
      · simp
      · exact decD_pos _
    split
    · simp [quoL]
    split <;> simp
  cases m <;> exact h _
end Go.Proofs.YtabopneehhnhfaaGreatDoor
namespace Go.Proofs.YtabopneehhnhfaaGreatDoor
open Go.RowKit Go.Lib

/-- The entries of a map to be: a name and a value each. -/
abbrev Vr : Type := List UInt8 × Vl
/-- The first error of entries, behind those names. -/
def errM : List (List UInt8) → List Vr → Nat
  | _, [] => 0
  | seen, p :: r => if keyB p.1 = false then 1 else if errV 16 p.2 ≠ 0 then errV 16 p.2 else if errV 15 p.2 ≠ 0 then errV 15 p.2 else if p.1 ∈ seen then 7 else errM (p.1 :: seen) r
/-- An entry among entries in natural order. -/
def insM (p : Vr) : List Vr → List Vr
  | [] => [p]
  | q :: r => if cmpL p.1 q.1 < 0 then p :: q :: r else q :: insM p r
def sortM (l : List Vr) : List Vr := l.foldl (fun a p => insM p a) []
theorem ins_perm (p : Vr) : ∀ l, (insM p l).Perm (p :: l)
  | [] => List.Perm.refl _
  | q :: r => by
    rw [insM]
    split
    · exact List.Perm.refl _
    · exact ((ins_perm p r).cons q).trans (List.Perm.swap p q r)
theorem sort_perm : ∀ (l a : List Vr), (l.foldl (fun a p => insM p a) a).Perm (a ++ l)
  | [], a => by simp
  | p :: l, a => by
    rw [List.foldl_cons]
    refine (sort_perm l (insM p a)).trans ?_
    refine ((ins_perm p a).append_right l).trans ?_
    rw [List.cons_append]
    exact List.perm_middle.symm
/-- Their names are in natural order, and differ. -/
def Asc (l : List Vr) : Prop := l.Pairwise fun p q => cmpL p.1 q.1 < 0
theorem cmp_lt_trans {a b c : List UInt8} (h1 : cmpL a b < 0) (h2 : cmpL b c < 0) : cmpL a c < 0 := cmp_tot.pre.lt (Int.le_of_lt h1) h2
theorem ins_asc (p : Vr) : ∀ l, Asc l → (∀ q, q ∈ l → q.1 ≠ p.1) → Asc (insM p l)
  | [], _, _ => List.pairwise_singleton _ _
  | q :: r, h, hn => by
    obtain ⟨h1, h2⟩ := List.pairwise_cons.1 h
    rw [insM]
    split
    · rename_i hlt
      refine List.pairwise_cons.2 ⟨?_, h⟩
      intro z hz
      rcases List.mem_cons.1 hz with rfl | hz
      · exact hlt
      · exact cmp_lt_trans hlt (h1 z hz)
    · rename_i hge
      refine List.pairwise_cons.2 ⟨?_, ins_asc p r h2 (fun z hz => hn z (by simp [hz]))⟩
      intro z hz
      rcases List.mem_cons.1 ((ins_perm p r).mem_iff.1 hz) with rfl | hz
      · have a := cmp_tot.anti z.1 q.1
        have b := cmp_tot.eq q.1 z.1
        have c : q.1 ≠ z.1 := hn q (by simp)
        have d : cmpL q.1 z.1 ≠ 0 := fun e => c (b.1 e)
        have e := cmp_tot.rng q.1 z.1
        omega
      · exact h1 z hz
/-- Ascending lists of the same entries are one. -/
theorem asc_unique : ∀ (a b : List Vr), a.Perm b → Asc a → Asc b → a = b
  | [], b, h, _, _ => by rw [h.nil_eq]
  | p :: a, [], h, _, _ => by simp at h
  | p :: a, q :: b, h, ha, hb => by
    obtain ⟨a1, a2⟩ := List.pairwise_cons.1 ha
    obtain ⟨b1, b2⟩ := List.pairwise_cons.1 hb
    have e : p = q := by
      have m1 : p ∈ q :: b := h.mem_iff.1 (by simp)
      have m2 : q ∈ p :: a := h.mem_iff.2 (by simp)
      rcases List.mem_cons.1 m1 with e | m1
      · exact e
      rcases List.mem_cons.1 m2 with e | m2
      · exact e.symm
      have x := a1 q m2
      have y := b1 p m1
      have := cmp_tot.anti p.1 q.1
      omega
    subst e
    rw [asc_unique a b (List.Perm.cons_inv h) a2 b2]
/-- No two entries have one name. -/
def Once (l : List Vr) : Prop := l.Pairwise fun p q => p.1 ≠ q.1
theorem Asc.once {l : List Vr} (h : Asc l) : Once l := h.imp fun {p q} hlt e => by
  have := cmp_tot.pre.refl q.1
  rw [e] at hlt
  omega
theorem Once.perm {a b : List Vr} (h : a.Perm b) (ha : Once a) : Once b := (h.pairwise_iff (fun {_ _} h e => h e.symm)).1 ha
theorem sort_asc' : ∀ (l a : List Vr), Asc a → Once (a ++ l) → Asc (l.foldl (fun a p => insM p a) a)
  | [], a, h, _ => h
  | p :: l, a, h, ho => by
    rw [List.foldl_cons]
    refine sort_asc' l (insM p a) (ins_asc p a h ?_) ?_
    · intro q hq e
      have := (List.pairwise_append.1 ho).2.2 q hq p (by simp)
      exact this e
    · refine Once.perm ?_ ho
      refine (List.perm_middle).trans ?_
      exact ((ins_perm p a).append_right l).symm
theorem sort_asc {l : List Vr} (h : Once l) : Asc (sortM l) := sort_asc' l [] List.Pairwise.nil (by simpa using h)
theorem sortM_perm (l : List Vr) : (sortM l).Perm l := sort_perm l []
theorem sort_eq {l r : List Vr} (h : Once l) (hp : r.Perm l) (hr : Asc r) : r = sortM l := asc_unique _ _ (hp.trans (sortM_perm l).symm) hr (sort_asc h)
theorem errM_once : ∀ (l : List Vr) (seen : List (List UInt8)), errM seen l = 0 → Once l ∧ ∀ p, p ∈ l → p.1 ∉ seen
  | [], seen, _ => ⟨List.Pairwise.nil, by simp⟩
  | p :: r, seen, h => by
    rw [errM] at h
    split at h
    · cases h
    split at h
    · rename_i h1; exact absurd h h1
    split at h
    · rename_i h1; exact absurd h h1
    split at h
    · cases h
    rename_i h4
    obtain ⟨h5, h6⟩ := errM_once r _ h
    refine ⟨List.pairwise_cons.2 ⟨fun q hq e => h6 q hq (by simp [e]), h5⟩, ?_⟩
    intro q hq
    rcases List.mem_cons.1 hq with rfl | hq
    · exact h4
    · intro hs
      exact h6 q hq (by simp [hs])
/-- The errors do not depend on the order, if there are none. -/
theorem errM_zero : ∀ (l : List Vr) (seen : List (List UInt8)), errM seen l = 0 ↔ (∀ p, p ∈ l → keyB p.1 = true ∧ errV 16 p.2 = 0 ∧ errV 15 p.2 = 0 ∧ p.1 ∉ seen) ∧ Once l
  | [], seen => by simp [errM, Once]
  | p :: r, seen => by
    rw [errM]
    have ih := errM_zero r (p.1 :: seen)
    by_cases h1 : keyB p.1 = false
    · rw [if_pos h1]
      simp [h1]
    rw [if_neg h1]
    by_cases h2' : errV 16 p.2 ≠ 0
    · rw [if_pos h2']
      simp [h2']
    rw [if_neg h2']
    by_cases h3' : errV 15 p.2 ≠ 0
    · rw [if_pos h3']
      simp [h3']
    rw [if_neg h3']
    have h2 : errV 16 p.2 = 0 := by omega
    have h3 : errV 15 p.2 = 0 := by omega
    by_cases h4 : p.1 ∈ seen
    · rw [if_pos h4]
      simp [h4]
    rw [if_neg h4, ih]
    unfold Once
    rw [List.pairwise_cons]
    simp only [Bool.not_eq_false] at h1
    constructor
    · rintro ⟨g1, g2⟩
      refine ⟨?_, ?_, g2⟩
      · intro q hq
        rcases List.mem_cons.1 hq with rfl | hq
        · exact ⟨h1, h2, h3, h4⟩
        · obtain ⟨a, b, c, d⟩ := g1 q hq
          exact ⟨a, b, c, fun h => d (by simp [h])⟩
      · intro q hq e
        exact (g1 q hq).2.2.2 (by simp [e])
    · rintro ⟨g1, g2, g3⟩
      refine ⟨?_, g3⟩
      intro q hq
      obtain ⟨a, b, c, d⟩ := g1 q (by simp [hq])
      refine ⟨a, b, c, ?_⟩
      intro h
      rcases List.mem_cons.1 h with e | h
      · exact g2 q hq e.symm
      · exact d h
/-- The map of entries. -/
def mapV (l : List Vr) : Vl := .mk 5 false 0 ⟨#[]⟩ ((sortM l).map (·.2)) ((sortM l).map (·.1))
end Go.Proofs.YtabopneehhnhfaaGreatDoor
namespace Go.Proofs.YtabopneehhnhfaaGreatDoor
open Go.RowKit Go.Lib

theorem firstV_zero (g : Vl → Nat) : ∀ l : List Vl, firstV g l = 0 ↔ ∀ y, y ∈ l → g y = 0
  | [] => by simp [firstV]
  | x :: r => by
    rw [firstV]
    by_cases h : g x ≠ 0
    · rw [if_pos h]
      simp [h]
    · rw [if_neg h, firstV_zero g r]
      have h : g x = 0 := by omega
      simp [h]
/-- What a value without an error is. -/
theorem err_parts {n : Nat} {k : Int} {t : Bool} {i : Int} {s : ByteArray} {l : List Vl} {ks : List (List UInt8)} : errV (n + 1) (.mk k t i s l ks) = 0 ↔
    (0 ≤ k ∧ k ≤ 5 ∧ plainB k t i s l ks = true ∧ -9007199254740992 ≤ i ∧ i ≤ 9007199254740992 ∧ s.size ≤ 4096 ∧ l.length ≤ 1024 ∧ ks.length ≤ 1024 ∧ (k = 5 → keysB l ks = true) ∧ (4 ≤ k → l = [] → n ≠ 0)) ∧ ∀ y, y ∈ l → errV n y = 0 := by
  rw [errV_eq, ← firstV_zero]
  have hp : partE (n + 1) k t i s l ks = 0 ↔ (0 ≤ k ∧ k ≤ 5 ∧ plainB k t i s l ks = true ∧ -9007199254740992 ≤ i ∧ i ≤ 9007199254740992 ∧ s.size ≤ 4096 ∧ l.length ≤ 1024 ∧ ks.length ≤ 1024 ∧ (k = 5 → keysB l ks = true) ∧ (4 ≤ k → l = [] → n ≠ 0)) := by
    unfold partE
    rw [if_neg (by omega)]
    by_cases h1 : (decide (k < 0) || decide (5 < k) || !plainB k t i s l ks) = true
    · rw [if_pos h1]
      simp only [Bool.or_eq_true, decide_eq_true_eq, Bool.not_eq_true'] at h1
      constructor
      · intro h; cases h
      · rintro ⟨a, b, c, _⟩
        rcases h1 with (h1 | h1) | h1
        · omega
        · omega
        · rw [c] at h1; cases h1
    rw [if_neg h1]
    simp only [Bool.or_eq_true, decide_eq_true_eq, Bool.not_eq_true', not_or, Bool.not_eq_false] at h1
    by_cases h2 : (decide (i < -9007199254740992) || decide (9007199254740992 < i)) = true
    · rw [if_pos h2]
      simp only [Bool.or_eq_true, decide_eq_true_eq] at h2
      constructor
      · intro h; cases h
      · rintro ⟨_, _, _, a, b, _⟩
        omega
    rw [if_neg h2]
    simp only [Bool.or_eq_true, decide_eq_true_eq, not_or] at h2
    by_cases h3 : (decide (4096 < s.size) || decide (1024 < l.length) || decide (1024 < ks.length)) = true
    · rw [if_pos h3]
      simp only [Bool.or_eq_true, decide_eq_true_eq] at h3
      constructor
      · intro h; cases h
      · rintro ⟨_, _, _, _, _, a, b, c, _⟩
        omega
    rw [if_neg h3]
    simp only [Bool.or_eq_true, decide_eq_true_eq, not_or] at h3
    by_cases h4 : (k == 5 && !keysB l ks) = true
    · rw [if_pos h4]
      simp only [Bool.and_eq_true, beq_iff_eq, Bool.not_eq_true'] at h4
      constructor
      · intro h; cases h
      · rintro ⟨_, _, _, _, _, _, _, _, a, _⟩
        rw [a h4.1] at h4
        cases h4.2
    rw [if_neg h4]
    have h4' : k = 5 → keysB l ks = true := by
      intro h
      rw [h] at h4
      simpa using h4
    by_cases h5 : (decide (4 ≤ k) && l.isEmpty && decide (n + 1 = 1)) = true
    · rw [if_pos h5]
      simp only [Bool.and_eq_true, decide_eq_true_eq, List.isEmpty_iff] at h5
      constructor
      · intro h; cases h
      · rintro ⟨_, _, _, _, _, _, _, _, _, a⟩
        exact absurd (show n = 0 by omega) (a h5.1.1 h5.1.2)
    rw [if_neg h5]
    simp only [Bool.and_eq_true, decide_eq_true_eq, List.isEmpty_iff] at h5
    refine ⟨fun _ => ⟨by omega, by omega, h1.2, by omega, by omega, by omega, by omega, by omega, h4', ?_⟩, fun _ => rfl⟩
    intro a b c
    exact h5 ⟨⟨a, b⟩, by omega⟩
  rw [← hp]
  by_cases h : partE (n + 1) k t i s l ks ≠ 0
  · rw [if_pos h]
    simp [h]
  · rw [if_neg h]
    have h : partE (n + 1) k t i s l ks = 0 := by omega
    simp [h]
theorem errV_up : ∀ (n : Nat) (x : Vl), errV n x = 0 → errV (n + 1) x = 0
  | 0, x, h => by rw [errV_zero] at h; cases h
  | n + 1, .mk k t i s l ks, h => by
    obtain ⟨⟨a1, a2, a3, a4, a5, a6, a7, a8, a9, a10⟩, a11⟩ := err_parts.1 h
    exact err_parts.2 ⟨⟨a1, a2, a3, a4, a5, a6, a7, a8, a9, fun _ _ => by omega⟩, fun y hy => errV_up n y (a11 y hy)⟩
/-- The greatest level of elements, and 2. -/
def maxL (f : Vl → Nat) : List Vl → Nat
  | [] => 2
  | x :: r => max (1 + f x) (maxL f r)
theorem maxL_two (f : Vl → Nat) : ∀ l, 2 ≤ maxL f l
  | [] => Nat.le_refl _
  | x :: r => by
    have := maxL_two f r
    rw [maxL]
    omega
/-- The levels of a value (of at most m levels below). -/
def levV : Nat → Vl → Nat
  | 0, .mk k _ _ _ _ _ => if k = 4 ∨ k = 5 then 2 else 1
  | m + 1, .mk k _ _ _ l _ => if k = 4 ∨ k = 5 then maxL (levV m) l else 1
theorem plain_list {k : Int} {t : Bool} {i : Int} {s : ByteArray} {l : List Vl} {ks : List (List UInt8)} (h : plainB k t i s l ks = true) (hk : ¬ (k = 4 ∨ k = 5)) : l = [] := by
  unfold plainB at h
  simp only [Bool.and_eq_true, Bool.or_eq_true, beq_iff_eq, List.isEmpty_iff] at h
  rcases h.1.2 with (h | h) | h
  · exact h
  · exact absurd (.inl h) hk
  · exact absurd (.inr h) hk
theorem lev_of {n : Nat} {l : List Vl} {f : Vl → Nat} (h : ∀ y, y ∈ l → f y ≤ n + 1 ∧ errV n y = if f y = n + 1 then 13 else 0) : maxL f l ≤ max 2 (n + 2) ∧ (1 ≤ n → firstV (errV n) l = if maxL f l = n + 2 then 13 else 0) := by
  induction l with
  | nil =>
    refine ⟨by rw [maxL]; omega, fun hn => ?_⟩
    rw [firstV, maxL, if_neg (by omega)]
  | cons x r ih =>
    obtain ⟨h1, h2⟩ := h x (by simp)
    obtain ⟨i1, i2⟩ := ih (fun y hy => h y (by simp [hy]))
    have := maxL_two f r
    refine ⟨by rw [maxL]; omega, fun hn => ?_⟩
    rw [firstV, maxL, i2 hn, h2]
    by_cases e : f x = n + 1
    · rw [if_pos e, if_pos (by decide), if_pos (by omega)]
    · rw [if_neg e, if_neg (by decide)]
      by_cases g : maxL f r = n + 2
      · rw [if_pos g, if_pos (by omega)]
      · rw [if_neg g, if_neg (by omega)]
theorem part_val {n : Nat} {k : Int} {t : Bool} {i : Int} {s : ByteArray} {l : List Vl} {ks : List (List UInt8)}
    (a1 : 0 ≤ k) (a2 : k ≤ 5) (a3 : plainB k t i s l ks = true) (a4 : -9007199254740992 ≤ i) (a5 : i ≤ 9007199254740992) (a6 : s.size ≤ 4096) (a7 : l.length ≤ 1024) (a8 : ks.length ≤ 1024) (a9 : k = 5 → keysB l ks = true) :
    partE (n + 1) k t i s l ks = if (decide (4 ≤ k) && l.isEmpty && decide (n = 0)) = true then 13 else 0 := by
  unfold partE
  have e : decide (n + 1 = 1) = decide (n = 0) := decide_eq_decide.2 (by omega)
  rw [if_neg (by omega), if_neg, if_neg, if_neg, if_neg, e]
  · simp only [Bool.and_eq_true, beq_iff_eq, Bool.not_eq_true', not_and]
    intro h
    rw [a9 h]
    decide
  · simp only [Bool.or_eq_true, decide_eq_true_eq]; omega
  · simp only [Bool.or_eq_true, decide_eq_true_eq]; omega
  · rw [a3, decide_eq_false (by omega), decide_eq_false (by omega)]
    decide
theorem lev_err : ∀ (n m : Nat) (x : Vl), fitsV m x → errV (n + 1) x = 0 → levV m x ≤ n + 1 ∧ errV n x = if levV m x = n + 1 then 13 else 0
  | 0, m, .mk k t i s l ks, hf, h => by
    obtain ⟨⟨a1, a2, a3, _, _, _, _, _, _, a10⟩, a11⟩ := err_parts.1 h
    have hl : l = [] := by
      cases l with
      | nil => rfl
      | cons y r => have := a11 y (by simp); rw [errV_zero] at this; cases this
    have hk : ¬ (k = 4 ∨ k = 5) := fun hk => a10 (by omega) hl rfl
    have e : levV m (.mk k t i s l ks) = 1 := by cases m <;> simp [levV, hk]
    rw [e, errV_zero]
    exact ⟨Nat.le_refl _, rfl⟩
  | n + 1, m, .mk k t i s l ks, hf, h => by
    obtain ⟨⟨a1, a2, a3, a4, a5, a6, a7, a8, a9, a10⟩, a11⟩ := err_parts.1 h
    by_cases hk : ¬ (k = 4 ∨ k = 5)
    · have e : levV m (.mk k t i s l ks) = 1 := by cases m <;> simp [levV, hk]
      have hl := plain_list a3 hk
      subst hl
      rw [e, if_neg (by omega)]
      exact ⟨by omega, err_parts.2 ⟨⟨a1, a2, a3, a4, a5, a6, a7, a8, a9, fun h4 => by omega⟩, by simp⟩⟩
    · have hk : k = 4 ∨ k = 5 := Classical.not_not.1 hk
      obtain ⟨f, hf2, e⟩ : ∃ f : Vl → Nat, (∀ y, y ∈ l → f y ≤ n + 1 ∧ errV n y = if f y = n + 1 then 13 else 0) ∧ levV m (.mk k t i s l ks) = maxL f l := by
        cases m with
        | zero =>
          have hl : l = [] := hf
          subst hl
          exact ⟨fun _ => 0, by simp, by simp [levV, hk, maxL]⟩
        | succ m => exact ⟨levV m, fun y hy => lev_err n m y (hf y hy) (a11 y hy), by simp [levV, hk]⟩
      obtain ⟨g1, g2⟩ := lev_of hf2
      have g3 := maxL_two f l
      rw [e]
      refine ⟨by omega, ?_⟩
      rw [errV_eq, part_val a1 a2 a3 a4 a5 a6 a7 a8 a9]
      by_cases hn : 1 ≤ n
      · have e0 : (decide (4 ≤ k) && l.isEmpty && decide (n = 0)) = false := by rw [decide_eq_false (show ¬ n = 0 by omega), Bool.and_false]
        rw [e0, g2 hn]
        rfl
      · have hn : n = 0 := by omega
        subst hn
        rw [if_pos (show maxL f l = 0 + 1 + 1 by omega)]
        cases l with
        | nil =>
          rw [decide_eq_true (show 4 ≤ k by omega)]
          rfl
        | cons y r =>
          rw [show (decide (4 ≤ k) && (y :: r).isEmpty && decide (0 = 0)) = false by simp, firstV, errV_zero]
          rfl
end Go.Proofs.YtabopneehhnhfaaGreatDoor
namespace Go.Proofs.YtabopneehhnhfaaGreatDoor
open Go.RowKit Go.Lib

/-- What may stand behind a literal. -/
def Ends (r : List UInt8) : Prop := ∀ h t, r = h :: t → h = 44 ∨ h = 93 ∨ h = 125
def isDig (c : UInt8) : Bool := decide (48 ≤ c.toNat) && decide (c.toNat ≤ 57)
theorem Ends.nodig {r : List UInt8} (h : Ends r) : ∀ c t, r = c :: t → isDig c = false := by
  intro c t e
  rcases h c t e with rfl | rfl | rfl <;> decide
theorem split_dig : ∀ (a b r s : List UInt8), (∀ c, c ∈ a → isDig c = true) → (∀ c, c ∈ b → isDig c = true) → (∀ c t, r = c :: t → isDig c = false) → (∀ c t, s = c :: t → isDig c = false) → a ++ r = b ++ s → a = b ∧ r = s
  | [], [], r, s, _, _, _, _, h => ⟨rfl, h⟩
  | [], y :: b, r, s, _, hb, hr, _, h => by
    have := hr y (b ++ s) h
    rw [hb y (by simp)] at this
    cases this
  | x :: a, [], r, s, ha, _, _, hs, h => by
    have := hs x (a ++ r) h.symm
    rw [ha x (by simp)] at this
    cases this
  | x :: a, y :: b, r, s, ha, hb, hr, hs, h => by
    injection h with h1 h2
    obtain ⟨i1, i2⟩ := split_dig a b r s (fun c hc => ha c (by simp [hc])) (fun c hc => hb c (by simp [hc])) hr hs h2
    exact ⟨by rw [h1, i1], i2⟩
def undec (l : List UInt8) : Nat := l.foldl (fun a c => 10 * a + (c.toNat - 48)) 0
theorem dig_of {n : Nat} (h : n < 10) : (UInt8.ofNat (48 + n)).toNat = 48 + n := by
  rw [UInt8.toNat_ofNat']
  omega
theorem dec_undec : ∀ n, undec (Lib.decDigits n) = n := by
  intro n
  induction n using Nat.strongRecOn with
  | _ n ih =>
    rw [Lib.decDigits]
    split
    · rename_i h
      show 10 * 0 + ((UInt8.ofNat (48 + n)).toNat - 48) = n
      rw [dig_of h]
      omega
    · rename_i h
      unfold undec
      rw [List.foldl_append]
      show 10 * undec (Lib.decDigits (n / 10)) + ((UInt8.ofNat (48 + n % 10)).toNat - 48) = n
      rw [ih _ (by omega), dig_of (by omega)]
      omega
theorem dec_isDig : ∀ n c, c ∈ Lib.decDigits n → isDig c = true := by
  intro n
  induction n using Nat.strongRecOn with
  | _ n ih =>
    intro c hc
    have hd : ∀ k, k < 10 → isDig (UInt8.ofNat (48 + k)) = true := by
      intro k hk
      unfold isDig
      rw [dig_of hk, decide_eq_true (by omega), decide_eq_true (by omega)]
      rfl
    rw [Lib.decDigits] at hc
    split at hc
    · rename_i h
      rw [List.mem_singleton.1 hc]
      exact hd _ h
    · rcases List.mem_append.1 hc with hc | hc
      · exact ih _ (by omega) c hc
      · rw [List.mem_singleton.1 hc]
        exact hd _ (by omega)
theorem dec_cons (n : Nat) : ∃ c t, Lib.decDigits n = c :: t ∧ isDig c = true := by
  have h := decD_pos n
  cases e : Lib.decDigits n with
  | nil => rw [e] at h; simp at h
  | cons c t => exact ⟨c, t, rfl, dec_isDig n c (by rw [e]; simp)⟩
theorem itoa_inj {i j : Int} {r s : List UInt8} (hr : Ends r) (hs : Ends s) (h : Lib.itoa i ++ r = Lib.itoa j ++ s) : i = j ∧ r = s := by
  have key : ∀ a b : Nat, Lib.decDigits a ++ r = Lib.decDigits b ++ s → a = b ∧ r = s := by
    intro a b h
    obtain ⟨e1, e2⟩ := split_dig _ _ _ _ (dec_isDig a) (dec_isDig b) hr.nodig hs.nodig h
    have := congrArg undec e1
    rw [dec_undec, dec_undec] at this
    exact ⟨this, e2⟩
  unfold Lib.itoa at h
  by_cases h1 : i < 0 <;> by_cases h2 : j < 0
  · rw [if_pos h1, if_pos h2] at h
    injection h with _ h
    obtain ⟨e1, e2⟩ := key _ _ h
    exact ⟨by omega, e2⟩
  · rw [if_pos h1, if_neg h2] at h
    obtain ⟨c, t, e, hd⟩ := dec_cons j.toNat
    rw [e] at h
    injection h with h _
    rw [← h] at hd
    exact absurd hd (by decide)
  · rw [if_neg h1, if_pos h2] at h
    obtain ⟨c, t, e, hd⟩ := dec_cons i.toNat
    rw [e] at h
    injection h with h _
    rw [h] at hd
    exact absurd hd (by decide)
  · rw [if_neg h1, if_neg h2] at h
    obtain ⟨e1, e2⟩ := key _ _ h
    exact ⟨by omega, e2⟩
/-- The characters of a byte, read back. -/
def unhexD (c : UInt8) : Nat := if c.toNat < 58 then c.toNat - 48 else c.toNat - 87
def unchr : List UInt8 → Option (UInt8 × List UInt8)
  | [] => none
  | c :: t => if c.toNat ≠ 92 then some (c, t) else match t with
    | [] => none
    | d :: t => if d.toNat = 34 then some (34, t) else if d.toNat = 92 then some (92, t) else if d.toNat = 110 then some (10, t) else if d.toNat = 116 then some (9, t) else match t with
      | a :: b :: t => some (UInt8.ofNat (unhexD a * 16 + unhexD b), t)
      | _ => none
theorem unhex_hex : ∀ n : Nat, n < 16 → unhexD (hexD n) = n := by decide
theorem unchr_chr (c : UInt8) (u : List UInt8) : unchr (chrL c ++ u) = some (c, u) := by
  unfold chrL
  have e : ∀ n, n < 256 → c.toNat = n → c = UInt8.ofNat n := fun n _ h => by rw [← h]; simp
  split
  · rename_i h; rw [e 34 (by decide) h]; rfl
  split
  · rename_i h; rw [e 92 (by decide) h]; rfl
  split
  · rename_i h; rw [e 10 (by decide) h]; rfl
  split
  · rename_i h; rw [e 9 (by decide) h]; rfl
  split
  · rename_i h1 h2 h3 h4 h5
    show (if c.toNat ≠ 92 then some (c, u) else _) = _
    rw [if_pos h2]
  · have hlt := c.toNat_lt
    show some (UInt8.ofNat (unhexD (hexD (c.toNat / 16)) * 16 + unhexD (hexD (c.toNat % 16))), u) = _
    rw [unhex_hex _ (by omega), unhex_hex _ (by omega), show c.toNat / 16 * 16 + c.toNat % 16 = c.toNat by omega]
    simp
theorem chrL_head (c : UInt8) : ∃ d t, chrL c = d :: t ∧ d ≠ 34 := by
  unfold chrL
  split
  · exact ⟨92, _, rfl, by decide⟩
  split
  · exact ⟨92, _, rfl, by decide⟩
  split
  · exact ⟨92, _, rfl, by decide⟩
  split
  · exact ⟨92, _, rfl, by decide⟩
  split
  · rename_i h1 h2 h3 h4 h5
    exact ⟨c, _, rfl, fun e => h1 (by rw [e]; rfl)⟩
  · exact ⟨92, _, rfl, by decide⟩
theorem flat_inj : ∀ (s t : List UInt8) (r u : List UInt8), s.flatMap chrL ++ 34 :: r = t.flatMap chrL ++ 34 :: u → s = t ∧ r = u
  | [], [], r, u, h => by
    injection h with _ h
    exact ⟨rfl, h⟩
  | [], y :: t, r, u, h => by
    obtain ⟨d, x, e, hd⟩ := chrL_head y
    rw [List.flatMap_cons, e] at h
    injection h with h _
    exact absurd h.symm hd
  | x :: s, [], r, u, h => by
    obtain ⟨d, y, e, hd⟩ := chrL_head x
    rw [List.flatMap_cons, e] at h
    injection h with h _
    exact absurd h hd
  | x :: s, y :: t, r, u, h => by
    rw [List.flatMap_cons, List.flatMap_cons, List.append_assoc, List.append_assoc] at h
    have := congrArg unchr h
    rw [unchr_chr, unchr_chr] at this
    injection this with this
    injection this with h1 h2
    obtain ⟨i1, i2⟩ := flat_inj s t r u h2
    exact ⟨by rw [h1, i1], i2⟩
theorem quoL_inj {s t r u : List UInt8} (h : quoL s ++ r = quoL t ++ u) : s = t ∧ r = u := by
  unfold quoL at h
  rw [List.cons_append, List.cons_append, List.append_assoc, List.append_assoc] at h
  injection h with _ h
  exact flat_inj s t r u h
/-- Elements from one on, with what stands ahead of each. -/
def itsL (f : Vl → List UInt8) (mp : Bool) : Bool → List Vl → List (List UInt8) → List UInt8
  | _, [], _ => []
  | b, x :: l, ks => (if b = true then [] else [44, 32]) ++ ((if mp = true then quoL (ks.headD []) ++ [58, 32] else []) ++ f x) ++ itsL f mp false l ks.tail
theorem its_range (f : Vl → List UInt8) (mp : Bool) (l : List Vl) (ks : List (List UInt8)) : ∀ n j, j + n = l.length → (List.range' j n).flatMap (eltL f mp l ks) = itsL f mp (decide (j = 0)) (l.drop j) (ks.drop j)
  | 0, j, h => by
    rw [List.drop_eq_nil_of_le (by omega), itsL]
    rfl
  | n + 1, j, h => by
    rw [List.range'_succ, List.flatMap_cons, its_range f mp l ks n (j + 1) (by omega), List.drop_eq_getElem_cons (show j < l.length by omega), itsL, List.tail_drop, decide_eq_false (show ¬ j + 1 = 0 by omega)]
    congr 1
    unfold eltL
    rw [List.getElem?_eq_getElem (show j < l.length by omega)]
    have e : (ks.drop j).headD [] = ks.getD j [] := by
      rw [List.headD_eq_head?_getD, List.head?_drop, List.getD_eq_getElem?_getD]
    rw [e]
    by_cases hj : j = 0
    · simp [hj]
    · simp [hj]
theorem items_its (f : Vl → List UInt8) (mp : Bool) (l : List Vl) (ks : List (List UInt8)) : itemsL f mp l ks l.length = itsL f mp true l ks := by
  have := its_range f mp l ks l.length 0 (by omega)
  rw [List.drop_zero, List.drop_zero] at this
  show _ = itsL f mp (decide (0 = 0)) l ks
  rw [← this, itemsL, List.range_eq_range']
/-- Elements are told from what is written, if each is. -/
theorem its_inj (f : Vl → List UInt8) (mp : Bool) (K : Vl → Prop) (hf : ∀ x y r s, K x → K y → Ends r → Ends s → f x ++ r = f y ++ s → x = y ∧ r = s) (hh : ∀ x, K x → ∃ c t, f x = c :: t ∧ c ≠ 93 ∧ c ≠ 125) :
    ∀ (b : Bool) (l l' : List Vl) (ks ks' : List (List UInt8)) (c d : UInt8) (r s : List UInt8), (∀ x, x ∈ l → K x) → (∀ x, x ∈ l' → K x) → (c = 93 ∨ c = 125) → (d = 93 ∨ d = 125) → (mp = true → ks.length = l.length ∧ ks'.length = l'.length) →
      itsL f mp b l ks ++ c :: r = itsL f mp b l' ks' ++ d :: s → l = l' ∧ (mp = true → ks = ks') ∧ r = s := by
  have nohead : ∀ (b : Bool) (x : Vl) (l : List Vl) (ks : List (List UInt8)) (c : UInt8) (r s : List UInt8), K x → (c = 93 ∨ c = 125) → c :: r = itsL f mp b (x :: l) ks ++ s → False := by
    intro b x l ks c r s hx hc h
    rw [itsL] at h
    cases b
    · injection h with h _
      subst h
      rcases hc with h | h <;> revert h <;> decide
    · cases mp
      · obtain ⟨c', t, e, h1, h2⟩ := hh x hx
        rw [if_pos rfl, if_neg (by decide), List.nil_append, List.nil_append, e] at h
        injection h with h _
        rcases hc with g | g
        · exact h1 (h ▸ g)
        · exact h2 (h ▸ g)
      · rw [if_pos rfl, if_pos rfl, List.nil_append] at h
        unfold quoL at h
        injection h with h _
        subst h
        rcases hc with h | h <;> revert h <;> decide
  have ends : ∀ (l : List Vl) (ks : List (List UInt8)) (c : UInt8) (r : List UInt8), (c = 93 ∨ c = 125) → Ends (itsL f mp false l ks ++ c :: r) := by
    intro l ks c r hc h t e
    cases l with
    | nil =>
      rw [itsL] at e
      injection e with e _
      subst e
      exact .inr hc
    | cons x l =>
      rw [itsL] at e
      injection e with e _
      exact .inl e.symm
  intro b l
  induction l generalizing b with
  | nil =>
    intro l' ks ks' c d r s _ hl' hc hd hk h
    cases l' with
    | nil =>
      rw [itsL, itsL] at h
      injection h with _ h
      refine ⟨rfl, fun hm => ?_, h⟩
      obtain ⟨h1, h2⟩ := hk hm
      rw [List.length_eq_zero_iff.1 h1, List.length_eq_zero_iff.1 h2]
    | cons y l' =>
      rw [show itsL f mp b [] ks = [] from rfl, List.nil_append] at h
      exact (nohead b y l' ks' c r _ (hl' y (by simp)) hc h).elim
  | cons x l ih =>
    intro l' ks ks' c d r s hl hl' hc hd hk h
    cases l' with
    | nil =>
      rw [show itsL f mp b [] ks' = [] from rfl, List.nil_append] at h
      exact (nohead b x l ks d s _ (hl x (by simp)) hd h.symm).elim
    | cons y l' =>
      have step : ∀ ks ks' : List (List UInt8), (mp = true → ks.length = l.length ∧ ks'.length = l'.length) → f x ++ (itsL f mp false l ks ++ c :: r) = f y ++ (itsL f mp false l' ks' ++ d :: s) → x = y ∧ l = l' ∧ (mp = true → ks = ks') ∧ r = s := by
        intro ks ks' hk h
        obtain ⟨e1, e2⟩ := hf x y _ _ (hl x (by simp)) (hl' y (by simp)) (ends l ks c r hc) (ends l' ks' d s hd) h
        obtain ⟨e3, e4, e5⟩ := ih false l' ks ks' c d r s (fun z hz => hl z (by simp [hz])) (fun z hz => hl' z (by simp [hz])) hc hd hk e2
        exact ⟨e1, e3, e4, e5⟩
      rw [itsL, itsL] at h
      simp only [List.append_assoc] at h
      have h := List.append_cancel_left h
      cases mp with
      | false =>
        rw [if_neg (by decide), if_neg (by decide), List.nil_append, List.nil_append] at h
        obtain ⟨e1, e2, _, e4⟩ := step ks.tail ks'.tail (fun h => by cases h) h
        exact ⟨by rw [e1, e2], (fun h => by cases h), e4⟩
      | true =>
        obtain ⟨k1, k2⟩ := hk rfl
        cases ks with
        | nil => simp at k1
        | cons k ks =>
          cases ks' with
          | nil => simp at k2
          | cons k' ks' =>
            rw [if_pos rfl, if_pos rfl, List.append_assoc, List.append_assoc] at h
            obtain ⟨e0, h⟩ := quoL_inj h
            injection h with _ h
            injection h with _ h
            obtain ⟨e1, e2, e3, e4⟩ := step ks ks' (fun _ => ⟨by simpa using k1, by simpa using k2⟩) h
            have e0 : k = k' := e0
            exact ⟨by rw [e1, e2], fun _ => by rw [e0, e3 rfl], e4⟩
end Go.Proofs.YtabopneehhnhfaaGreatDoor
namespace Go.Proofs.YtabopneehhnhfaaGreatDoor
open Go.RowKit Go.Lib

/-- The kind that a literal's first byte tells. -/
def kindC (c : UInt8) : Int := if c = 110 then 0 else if c = 116 ∨ c = 102 then 1 else if c = 34 then 3 else if c = 91 then 4 else if c = 123 then 5 else 2
theorem kindC_dig {c : UInt8} (h : isDig c = true) : kindC c = 2 := by
  unfold isDig at h
  simp only [Bool.and_eq_true, decide_eq_true_eq] at h
  have e : ∀ d : UInt8, (d.toNat < 48 ∨ 57 < d.toNat) → c ≠ d := by
    rintro d hd rfl
    omega
  unfold kindC
  rw [if_neg (e 110 (by decide)), if_neg (fun h => h.elim (e 116 (by decide)) (e 102 (by decide))), if_neg (e 34 (by decide)), if_neg (e 91 (by decide)), if_neg (e 123 (by decide))]
theorem hdL_head (f : Vl → List UInt8) (x : Vl) (h0 : 0 ≤ x.kind) (h5 : x.kind ≤ 5) : ∃ c t, hdL f x = c :: t ∧ kindC c = x.kind ∧ c ≠ 93 ∧ c ≠ 125 := by
  unfold hdL
  by_cases k0 : x.kind = 0
  · rw [if_pos k0, k0]; exact ⟨110, _, rfl, by decide, by decide, by decide⟩
  rw [if_neg k0]
  by_cases k1 : x.kind = 1
  · rw [if_pos k1, k1]
    cases x.truth
    · exact ⟨102, _, rfl, by decide, by decide, by decide⟩
    · exact ⟨116, _, rfl, by decide, by decide, by decide⟩
  rw [if_neg k1]
  by_cases k2 : x.kind = 2
  · rw [if_pos k2, k2]
    unfold Lib.itoa
    by_cases hn : x.num < 0
    · rw [if_pos hn]; exact ⟨45, _, rfl, by decide, by decide, by decide⟩
    · rw [if_neg hn]
      obtain ⟨c, t, e, hd⟩ := dec_cons x.num.toNat
      exact ⟨c, t, e, kindC_dig hd, fun e => by subst e; revert hd; decide, fun e => by subst e; revert hd; decide⟩
  rw [if_neg k2]
  by_cases k3 : x.kind = 3
  · rw [if_pos k3, k3]; exact ⟨34, _, rfl, by decide, by decide, by decide⟩
  rw [if_neg k3]
  by_cases k4 : x.kind = 4
  · rw [if_pos k4, k4]; exact ⟨91, _, rfl, by decide, by decide, by decide⟩
  rw [if_neg k4]
  exact ⟨123, _, rfl, by rw [show x.kind = 5 by omega]; decide, by decide, by decide⟩
/-- The fields of a valid value of a kind. -/
theorem plain_fields {k : Int} {t : Bool} {i : Int} {s : ByteArray} {l : List Vl} {ks : List (List UInt8)} (h : plainB k t i s l ks = true) :
    (k ≠ 1 → t = false) ∧ (k ≠ 2 → i = 0) ∧ (k ≠ 3 → s.data.toList = []) ∧ (k ≠ 4 → k ≠ 5 → l = []) ∧ (k ≠ 5 → ks = []) := by
  unfold plainB at h
  rw [Lib.toList_data] at h
  simp only [Bool.and_eq_true, Bool.or_eq_true, beq_iff_eq, List.isEmpty_iff, Bool.not_eq_true'] at h
  obtain ⟨⟨⟨⟨h1, h2⟩, h3⟩, h4⟩, h5⟩ := h
  exact ⟨fun g => h1.resolve_right g, fun g => h2.resolve_right g, fun g => h3.resolve_right g, fun g g' => (h4.resolve_right g').resolve_right g, fun g => h5.resolve_right g⟩
theorem hd_inj (f : Vl → List UInt8) (K : Vl → Prop) (hf : ∀ x y r s, K x → K y → Ends r → Ends s → f x ++ r = f y ++ s → x = y ∧ r = s) (hh : ∀ x, K x → ∃ c t, f x = c :: t ∧ c ≠ 93 ∧ c ≠ 125)
    {k k' : Int} {t t' : Bool} {i i' : Int} {s s' : ByteArray} {l l' : List Vl} {ks ks' : List (List UInt8)} (a1 : 0 ≤ k) (a2 : k ≤ 5) (a3 : plainB k t i s l ks = true) (a4 : k = 5 → keysB l ks = true) (a5 : ∀ x, x ∈ l → K x)
    (b1 : 0 ≤ k') (b2 : k' ≤ 5) (b3 : plainB k' t' i' s' l' ks' = true) (b4 : k' = 5 → keysB l' ks' = true) (b5 : ∀ x, x ∈ l' → K x) {r u : List UInt8} (hr : Ends r) (hu : Ends u)
    (h : hdL f (.mk k t i s l ks) ++ r = hdL f (.mk k' t' i' s' l' ks') ++ u) : Vl.mk k t i s l ks = Vl.mk k' t' i' s' l' ks' ∧ r = u := by
  have hk : k = k' := by
    obtain ⟨c, x, e, g, _⟩ := hdL_head f (.mk k t i s l ks) a1 a2
    obtain ⟨c', x', e', g', _⟩ := hdL_head f (.mk k' t' i' s' l' ks') b1 b2
    rw [e, e'] at h
    injection h with h _
    rw [h, g'] at g
    exact g.symm
  subst hk
  obtain ⟨p1, p2, p3, p4, p5⟩ := plain_fields a3
  obtain ⟨q1, q2, q3, q4, q5⟩ := plain_fields b3
  have es : s.data.toList = s'.data.toList → s = s' := str_inj.1
  rcases (show k = 0 ∨ k = 1 ∨ k = 2 ∨ k = 3 ∨ k = 4 ∨ k = 5 by omega) with rfl | rfl | rfl | rfl | rfl | rfl
  · rw [p1 (by decide), p2 (by decide), p4 (by decide) (by decide), p5 (by decide), q1 (by decide), q2 (by decide), q4 (by decide) (by decide), q5 (by decide), es (by rw [p3 (by decide), q3 (by decide)])]
    exact ⟨rfl, List.append_cancel_left h⟩
  · rw [p2 (by decide), p4 (by decide) (by decide), p5 (by decide), q2 (by decide), q4 (by decide) (by decide), q5 (by decide), es (by rw [p3 (by decide), q3 (by decide)])]
    cases t <;> cases t'
    · exact ⟨rfl, List.append_cancel_left h⟩
    · injection h with h _; exact absurd h (by decide)
    · injection h with h _; exact absurd h (by decide)
    · exact ⟨rfl, List.append_cancel_left h⟩
  · rw [p1 (by decide), p4 (by decide) (by decide), p5 (by decide), q1 (by decide), q4 (by decide) (by decide), q5 (by decide), es (by rw [p3 (by decide), q3 (by decide)])]
    obtain ⟨e1, e2⟩ := itoa_inj (i := i) (j := i') hr hu h
    exact ⟨by rw [e1], e2⟩
  · rw [p1 (by decide), p2 (by decide), p4 (by decide) (by decide), p5 (by decide), q1 (by decide), q2 (by decide), q4 (by decide) (by decide), q5 (by decide)]
    obtain ⟨e1, e2⟩ := quoL_inj (s := s.data.toList) (t := s'.data.toList) h
    exact ⟨by rw [es e1], e2⟩
  · rw [p1 (by decide), p2 (by decide), p5 (by decide), q1 (by decide), q2 (by decide), q5 (by decide), es (by rw [p3 (by decide), q3 (by decide)])]
    have h : (91 :: (itemsL f false l ks l.length ++ [93])) ++ r = (91 :: (itemsL f false l' ks' l'.length ++ [93])) ++ u := h
    rw [items_its, items_its, List.cons_append, List.cons_append, List.append_assoc, List.append_assoc] at h
    injection h with _ h
    obtain ⟨e1, _, e3⟩ := its_inj f false K hf hh true l l' ks ks' 93 93 r u a5 b5 (.inl rfl) (.inl rfl) (fun h => by cases h) h
    exact ⟨by rw [e1], e3⟩
  · rw [p1 (by decide), p2 (by decide), q1 (by decide), q2 (by decide), es (by rw [p3 (by decide), q3 (by decide)])]
    have h : (123 :: (itemsL f true l ks l.length ++ [125])) ++ r = (123 :: (itemsL f true l' ks' l'.length ++ [125])) ++ u := h
    rw [items_its, items_its, List.cons_append, List.cons_append, List.append_assoc, List.append_assoc] at h
    injection h with _ h
    have len : ∀ (l : List Vl) (ks : List (List UInt8)), keysB l ks = true → ks.length = l.length := by
      intro l ks h
      unfold keysB at h
      simp only [Bool.and_eq_true, decide_eq_true_eq] at h
      exact h.1.1
    obtain ⟨e1, e2, e3⟩ := its_inj f true K hf hh true l l' ks ks' 125 125 r u a5 b5 (.inr rfl) (.inr rfl) (fun _ => ⟨len _ _ (a4 rfl), len _ _ (b4 rfl)⟩) h
    exact ⟨by rw [e1, e2 rfl], e3⟩
/-- Valid values with one literal are one. -/
theorem lit_inj : ∀ (m n : Nat) (x y : Vl) (r u : List UInt8), fitsV m x → fitsV m y → errV n x = 0 → errV n y = 0 → Ends r → Ends u → litV m x ++ r = litV m y ++ u → x = y ∧ r = u
  | _, 0, x, _, _, _, _, _, h, _, _, _, _ => by rw [errV_zero] at h; cases h
  | 0, n + 1, .mk k t i s l ks, .mk k' t' i' s' l' ks', r, u, fx, fy, hx, hy, hr, hu, h => by
    obtain ⟨⟨a1, a2, a3, _, _, _, _, _, a9, _⟩, _⟩ := err_parts.1 hx
    obtain ⟨⟨b1, b2, b3, _, _, _, _, _, b9, _⟩, _⟩ := err_parts.1 hy
    have fx : l = [] := fx
    have fy : l' = [] := fy
    exact hd_inj (fun _ => []) (fun _ => False) (fun _ _ _ _ h => h.elim) (fun _ h => h.elim) a1 a2 a3 a9 (by rw [fx]; simp) b1 b2 b3 b9 (by rw [fy]; simp) hr hu h
  | m + 1, n + 1, .mk k t i s l ks, .mk k' t' i' s' l' ks', r, u, fx, fy, hx, hy, hr, hu, h => by
    obtain ⟨⟨a1, a2, a3, _, _, _, _, _, a9, _⟩, a11⟩ := err_parts.1 hx
    obtain ⟨⟨b1, b2, b3, _, _, _, _, _, b9, _⟩, b11⟩ := err_parts.1 hy
    refine hd_inj (litV m) (fun x => fitsV m x ∧ errV n x = 0) (fun x y r s hx hy hr hs h => lit_inj m n x y r s hx.1 hy.1 hx.2 hy.2 hr hs h) ?_ a1 a2 a3 a9 (fun x hx => ⟨fx x hx, a11 x hx⟩) b1 b2 b3 b9 (fun x hx => ⟨fy x hx, b11 x hx⟩) hr hu h
    rintro ⟨k, t, i, s, l, ks⟩ ⟨_, hx⟩
    cases n with
    | zero => rw [errV_zero] at hx; cases hx
    | succ n =>
      obtain ⟨⟨c1, c2, _⟩, _⟩ := err_parts.1 hx
      cases m with
      | zero => obtain ⟨c, t, e, _, g1, g2⟩ := hdL_head (fun _ => []) (.mk k t i s l ks) c1 c2; exact ⟨c, t, e, g1, g2⟩
      | succ m => obtain ⟨c, t, e, _, g1, g2⟩ := hdL_head (litV m) (.mk k t i s l ks) c1 c2; exact ⟨c, t, e, g1, g2⟩
/-- Values that are equal in order and valid are one. -/
theorem lexC_zero {α : Type} {c : α → α → Int} : ∀ (a b : List α), (∀ x y, x ∈ a → y ∈ b → (c x y = 0 ↔ x = y)) → (lexC c a b = 0 ↔ a = b)
  | [], [], _ => by simp [lexC]
  | [], _ :: _, _ => by simp [lexC]
  | _ :: _, [], _ => by simp [lexC]
  | x :: a, y :: b, h => by
    unfold lexC
    have h0 := h x y (by simp) (by simp)
    have ih := lexC_zero a b (fun u v hu hv => h u v (by simp [hu]) (by simp [hv]))
    by_cases e : c x y = 0
    · rw [if_neg (by omega), ih, h0.1 e]
      simp
    · rw [if_pos e]
      constructor
      · intro g; exact absurd g e
      · intro g
        injection g with g _
        exact absurd (h0.2 g) e
theorem cmpV_eq : ∀ (m n : Nat) (x y : Vl), fitsV m x → fitsV m y → errV n x = 0 → errV n y = 0 → (cmpV m x y = 0 ↔ x = y) := by
  have hd : ∀ (c : Vl → Vl → Int) (k k' : Int) (t t' : Bool) (i i' : Int) (s s' : ByteArray) (l l' : List Vl) (ks ks' : List (List UInt8)), Pre c → 0 ≤ k → k ≤ 5 → plainB k t i s l ks = true → plainB k' t' i' s' l' ks' = true →
      (∀ x y, x ∈ l → y ∈ l' → (c x y = 0 ↔ x = y)) → hdC c (.mk k t i s l ks) (.mk k' t' i' s' l' ks') = 0 → Vl.mk k t i s l ks = .mk k' t' i' s' l' ks' := by
    intro c k k' t t' i i' s s' l l' ks ks' hc k0 k5 a3 b3 hl h
    have h : (if Lib.compareInt k k' ≠ 0 then Lib.compareInt k k' else bodC c (.mk k t i s l ks) (.mk k' t' i' s' l' ks')) = 0 := h
    by_cases e : Lib.compareInt k k' = 0
    · rw [if_neg (show ¬ Lib.compareInt k k' ≠ 0 by omega)] at h
      have e := (intC_tot.eq _ _).1 e
      subst e
      obtain ⟨p1, p2, p3, p4, p5⟩ := plain_fields a3
      obtain ⟨q1, q2, q3, q4, q5⟩ := plain_fields b3
      have es : s.data.toList = s'.data.toList → s = s' := str_inj.1
      rcases (show k = 0 ∨ k = 1 ∨ k = 2 ∨ k = 3 ∨ k = 4 ∨ k = 5 by omega) with rfl | rfl | rfl | rfl | rfl | rfl
      · rw [p1 (by decide), p2 (by decide), p4 (by decide) (by decide), p5 (by decide), q1 (by decide), q2 (by decide), q4 (by decide) (by decide), q5 (by decide), es (by rw [p3 (by decide), q3 (by decide)])]
      · have h : bolC t t' = 0 := h
        rw [p2 (by decide), p4 (by decide) (by decide), p5 (by decide), q2 (by decide), q4 (by decide) (by decide), q5 (by decide), es (by rw [p3 (by decide), q3 (by decide)]), (bolC_tot.eq _ _).1 h]
      · have h : Lib.compareInt i i' = 0 := h
        rw [p1 (by decide), p4 (by decide) (by decide), p5 (by decide), q1 (by decide), q4 (by decide) (by decide), q5 (by decide), es (by rw [p3 (by decide), q3 (by decide)]), (intC_tot.eq _ _).1 h]
      · have h : Lib.compareBytes s.data.toList s'.data.toList = 0 := h
        rw [p1 (by decide), p2 (by decide), p4 (by decide) (by decide), p5 (by decide), q1 (by decide), q2 (by decide), q4 (by decide) (by decide), q5 (by decide), es ((bytesC_tot.eq _ _).1 h)]
      · have h : lexC c l l' = 0 := h
        rw [p1 (by decide), p2 (by decide), p5 (by decide), q1 (by decide), q2 (by decide), q5 (by decide), es (by rw [p3 (by decide), q3 (by decide)]), (lexC_zero l l' hl).1 h]
      · have h : thenC (fun x y : Vl => lexC cmpL x.keys y.keys) (fun x y : Vl => lexC c x.list y.list) (.mk 5 t i s l ks) (.mk 5 t' i' s' l' ks') = 0 := h
        have h : (if lexC cmpL ks ks' ≠ 0 then lexC cmpL ks ks' else lexC c l l') = 0 := h
        by_cases g : lexC cmpL ks ks' = 0
        · rw [if_neg (show ¬ lexC cmpL ks ks' ≠ 0 by omega)] at h
          have h : lexC c l l' = 0 := h
          rw [p1 (by decide), p2 (by decide), q1 (by decide), q2 (by decide), es (by rw [p3 (by decide), q3 (by decide)]), (lexC_zero l l' hl).1 h, ((lexC_tot cmp_tot).eq _ _).1 g]
        · rw [if_pos (show lexC cmpL ks ks' ≠ 0 from g)] at h
          exact absurd h g
    · rw [if_pos (show Lib.compareInt k k' ≠ 0 from e)] at h
      exact absurd h e
  intro m
  induction m with
  | zero =>
    rintro n ⟨k, t, i, s, l, ks⟩ ⟨k', t', i', s', l', ks'⟩ fx fy hx hy
    cases n with
    | zero => rw [errV_zero] at hx; cases hx
    | succ n =>
      obtain ⟨⟨a1, a2, a3, _⟩, _⟩ := err_parts.1 hx
      obtain ⟨⟨_, _, b3, _⟩, _⟩ := err_parts.1 hy
      have fx : l = [] := fx
      refine ⟨fun h => hd _ _ _ _ _ _ _ _ _ _ _ _ _ zeroC_pre a1 a2 a3 b3 (by rw [fx]; simp) h, ?_⟩
      intro h
      rw [← h]
      exact (cmpV_pre 0).refl _
  | succ m ih =>
    rintro n ⟨k, t, i, s, l, ks⟩ ⟨k', t', i', s', l', ks'⟩ fx fy hx hy
    cases n with
    | zero => rw [errV_zero] at hx; cases hx
    | succ n =>
      obtain ⟨⟨a1, a2, a3, _⟩, a11⟩ := err_parts.1 hx
      obtain ⟨⟨_, _, b3, _⟩, b11⟩ := err_parts.1 hy
      refine ⟨fun h => hd _ _ _ _ _ _ _ _ _ _ _ _ _ (cmpV_pre m) a1 a2 a3 b3 (fun x y h1 h2 => ih n x y (fx x h1) (fy y h2) (a11 x h1) (b11 y h2)) h, ?_⟩
      intro h
      rw [← h]
      exact (cmpV_pre (m + 1)).refl _
end Go.Proofs.YtabopneehhnhfaaGreatDoor
