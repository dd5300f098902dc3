/- Types of the configuration language as trees and as chains, the lattice of the chains, and their texts. No function of the program is named. -/
import Derived.Test.YtabopneehhnhfabDoorValA
namespace Go.Proofs.YtabopneehhnhfabDoor
open Go.RowKit Go.Lib

/-- A type: its kind, its element types. -/
inductive Ty where
  | mk (kind : Int) (elems : List Ty)
/-- A type whose element types are well counted: a kind, or a kind around a type. -/
inductive Tc where
  | leaf (k : Int)
  | node (k : Int) (t : Tc)
def Tc.kd : Tc → Int
  | .leaf k => k
  | .node k _ => k
def Tc.ln : Tc → Nat
  | .leaf _ => 0
  | .node _ _ => 1
def Tc.deep : Tc → Nat
  | .leaf _ => 1
  | .node _ t => t.deep + 1
def leafK (k : Int) : Prop := k = 0 ∨ k = 1 ∨ k = 2 ∨ k = 3 ∨ k = 4 ∨ k = 7
def nodeK (k : Int) : Prop := k = 5 ∨ k = 6
def Tc.ok : Tc → Prop
  | .leaf k => leafK k
  | .node k t => nodeK k ∧ t.ok
def Tc.ty : Tc → Ty
  | .leaf k => .mk k []
  | .node k t => .mk k [t.ty]
/-- The error of a type below which n - 1 further levels may lie. -/
def chkT : Nat → Ty → Nat
  | 0, _ => 13
  | n + 1, .mk k l => if k < 0 ∨ 7 < k then 1 else if k = 5 ∨ k = 6 then (match l with | [x] => chkT n x | _ => 1) else if l.length = 0 then 0 else 1
theorem chkT_ok : ∀ (n : Nat) (x : Ty), chkT n x = 0 → ∃ t : Tc, x = t.ty ∧ t.ok ∧ t.deep ≤ n
  | 0, _, h => by simp [chkT] at h
  | n + 1, .mk k l, h => by
    unfold chkT at h
    split at h
    · cases h
    · rename_i h1
      split at h
      · rename_i h2
        match l, h with
        | [x], h =>
          obtain ⟨t, rfl, ht, hd⟩ := chkT_ok n x h
          exact ⟨.node k t, rfl, ⟨h2, ht⟩, Nat.succ_le_succ hd⟩
        | [], h => cases h
        | _ :: _ :: _, h => cases h
      · rename_i h2
        split at h
        · rename_i h3
          obtain rfl : l = [] := List.eq_nil_of_length_eq_zero h3
          refine ⟨.leaf k, rfl, ?_, Nat.succ_le_succ (Nat.zero_le _)⟩
          show k = 0 ∨ k = 1 ∨ k = 2 ∨ k = 3 ∨ k = 4 ∨ k = 7
          omega
        · cases h
theorem chkT_ty : ∀ (t : Tc) (n : Nat), t.ok → chkT n t.ty = if t.deep ≤ n then 0 else 13
  | .leaf k, 0, _ => rfl
  | .node k t, 0, _ => rfl
  | .leaf k, n + 1, h => by
    have h' : k = 0 ∨ k = 1 ∨ k = 2 ∨ k = 3 ∨ k = 4 ∨ k = 7 := h
    unfold Tc.ty chkT
    rw [if_neg (by omega), if_neg (by omega), if_pos (show ([] : List Ty).length = 0 from rfl)]
    show 0 = if 1 ≤ n + 1 then 0 else 13
    rw [if_pos (by omega)]
  | .node k t, n + 1, h => by
    have h' : k = 5 ∨ k = 6 := h.1
    unfold Tc.ty chkT
    rw [if_neg (by omega), if_pos h']
    show chkT n t.ty = _
    rw [chkT_ty t n h.2]
    show _ = if t.deep + 1 ≤ n + 1 then 0 else 13
    by_cases hd : t.deep ≤ n
    · rw [if_pos hd, if_pos (by omega)]
    · rw [if_neg hd, if_neg (by omega)]

def sameC : Tc → Tc → Bool
  | .leaf k, .leaf k' => k == k'
  | .node k t, .node k' t' => k == k' && sameC t t'
  | _, _ => false
theorem sameC_iff : ∀ (a b : Tc), sameC a b = true ↔ a = b
  | .leaf k, .leaf k' => by simp [sameC]
  | .node k t, .node k' t' => by simp [sameC, sameC_iff t t']
  | .leaf _, .node _ _ => by simp [sameC]
  | .node _ _, .leaf _ => by simp [sameC]
theorem sameC_rfl (a : Tc) : sameC a a = true := (sameC_iff a a).2 rfl

/-- Is a type contained in another one? -/
def subC : Tc → Tc → Bool
  | .node k s, .node j t => k == j && subC s t
  | .leaf k, .leaf j => k == 7 || j == 0 || k == j
  | .leaf k, .node _ _ => k == 7
  | .node _ _, .leaf j => j == 0
/-- The bound of two types where u is neutral and x is extreme. -/
def bndC (u x : Int) : Tc → Tc → Tc
  | .node k s, .node j t => if k = j then .node k (bndC u x s t) else .leaf x
  | .leaf k, .leaf j => if k = u then .leaf j else if j = u then .leaf k else if k = j then .leaf k else .leaf x
  | .leaf k, .node j t => if k = u then .node j t else .leaf x
  | .node k s, .leaf j => if j = u then .node k s else .leaf x
theorem bnd_nn (u x k j : Int) (s t : Tc) : bndC u x (.node k s) (.node j t) = if k = j then .node k (bndC u x s t) else .leaf x := rfl
theorem bnd_ll (u x k j : Int) : bndC u x (.leaf k) (.leaf j) = if k = u then .leaf j else if j = u then .leaf k else if k = j then .leaf k else .leaf x := rfl
theorem bnd_ln (u x k j : Int) (t : Tc) : bndC u x (.leaf k) (.node j t) = if k = u then .node j t else .leaf x := rfl
theorem bnd_nl (u x k j : Int) (s : Tc) : bndC u x (.node k s) (.leaf j) = if j = u then .node k s else .leaf x := rfl

theorem bndC_ok (u x : Int) (hx : leafK x) : ∀ (a b : Tc), a.ok → b.ok → (bndC u x a b).ok
  | .node k s, .node j t, ha, hb => by
    rw [bnd_nn]
    split
    · exact ⟨ha.1, bndC_ok u x hx s t ha.2 hb.2⟩
    · exact hx
  | .leaf k, .leaf j, ha, hb => by
    rw [bnd_ll]
    split
    · exact hb
    · split
      · exact ha
      · split
        · exact ha
        · exact hx
  | .leaf k, .node j t, ha, hb => by
    rw [bnd_ln]
    split
    · exact hb
    · exact hx
  | .node k s, .leaf j, ha, hb => by
    rw [bnd_nl]
    split
    · exact ha
    · exact hx
theorem deep_pos : ∀ a : Tc, 1 ≤ a.deep
  | .leaf _ => Nat.le_refl _
  | .node _ _ => Nat.succ_le_succ (Nat.zero_le _)
theorem bndC_deep (u x : Int) : ∀ (a b : Tc) (n : Nat), a.deep ≤ n → b.deep ≤ n → (bndC u x a b).deep ≤ n
  | .node k s, .node j t, n, ha, hb => by
    rw [bnd_nn]
    have ha' : s.deep + 1 ≤ n := ha
    have hb' : t.deep + 1 ≤ n := hb
    split
    · cases n with
      | zero => omega
      | succ n =>
        have := bndC_deep u x s t n (by omega) (by omega)
        exact Nat.succ_le_succ this
    · show 1 ≤ n
      omega
  | .leaf k, .leaf j, n, ha, hb => by
    rw [bnd_ll]
    split
    · exact hb
    · split
      · exact ha
      · split
        · exact ha
        · exact ha
  | .leaf k, .node j t, n, ha, hb => by
    rw [bnd_ln]
    split
    · exact hb
    · exact ha
  | .node k s, .leaf j, n, ha, hb => by
    rw [bnd_nl]
    split
    · exact ha
    · exact hb
end Go.Proofs.YtabopneehhnhfabDoor
