/- The texts of the types of the configuration language: each stands for one type. No function of the program is named. -/
import Derived.Test.YtabopneehhnhfabDoorTypB
namespace Go.Proofs.YtabopneehhnhfabDoor
open Go.RowKit Go.Lib

def nameL (k : Int) : List UInt8 :=
  if k = 0 then [97, 110, 121] else if k = 1 then [110, 117, 108, 108] else if k = 2 then [98, 111, 111, 108] else if k = 3 then [105, 110, 116] else if k = 4 then [115, 116, 114, 105, 110, 103]
  else if k = 5 then [108, 105, 115, 116] else if k = 6 then [109, 97, 112] else [110, 101, 118, 101, 114]
def textC : Tc → List UInt8
  | .leaf k => nameL k
  | .node k t => nameL k ++ 40 :: (textC t ++ [41])
/-- s is the text of the type t. -/
def IsTx (s : List UInt8) (t : Tc) : Prop := t.ok ∧ textC t = s

theorem nameL_no40 (k : Int) : (40 : UInt8) ∉ nameL k := by
  unfold nameL
  repeat' split
  all_goals decide
theorem nameL_len (k : Int) : (nameL k).length ≤ 6 := by
  unfold nameL
  repeat' split
  all_goals decide
theorem nameL_node {k : Int} (h : nodeK k) : nameL k = [108, 105, 115, 116] ∧ k = 5 ∨ nameL k = [109, 97, 112] ∧ k = 6 := by
  rcases h with rfl | rfl
  · exact .inl ⟨rfl, rfl⟩
  · exact .inr ⟨rfl, rfl⟩
theorem nameL_inj {k j : Int} (hk : leafK k) (hj : leafK j) (h : nameL k = nameL j) : k = j := by
  rcases hk with rfl | rfl | rfl | rfl | rfl | rfl <;> rcases hj with rfl | rfl | rfl | rfl | rfl | rfl <;> first | rfl | exact absurd h (by decide)
theorem tx_kd {s : List UInt8} {t : Tc} (h : IsTx s t) : 0 ≤ t.kd ∧ t.kd ≤ 7 := by
  obtain ⟨h, -⟩ := h
  cases t with
  | leaf k =>
    have h' : k = 0 ∨ k = 1 ∨ k = 2 ∨ k = 3 ∨ k = 4 ∨ k = 7 := h
    show 0 ≤ k ∧ k ≤ 7
    omega
  | node k t =>
    have h' : k = 5 ∨ k = 6 := h.1
    show 0 ≤ k ∧ k ≤ 7
    omega
theorem tx_leaf {s : List UInt8} {t : Tc} {i : Int} (hi : leafK i) (hs : s ≠ nameL i) (h : IsTx s t) : t.kd ≠ i := by
  intro e
  obtain ⟨h, ht⟩ := h
  cases t with
  | leaf k =>
    have : k = i := e
    subst this
    exact hs ht.symm
  | node k t => exact leaf_node hi h.1 e.symm
theorem tx_node {s : List UInt8} {t : Tc} {i : Int} (hi : nodeK i) (h : IsTx s t) (hk : t.kd = i) : ∃ r, s = nameL i ++ 40 :: (r ++ [41]) := by
  obtain ⟨h, ht⟩ := h
  cases t with
  | leaf k => exact absurd hk (leaf_node h hi)
  | node k t =>
    have : k = i := hk
    subst this
    exact ⟨textC t, ht.symm⟩
theorem tx_form {r : List UInt8} {t : Tc} {i : Int} (hi : nodeK i) (h : IsTx (nameL i ++ 40 :: (r ++ [41])) t) : ∃ t', t = .node i t' ∧ IsTx r t' := by
  obtain ⟨h, ht⟩ := h
  cases t with
  | leaf k =>
    have h4 : (40 : UInt8) ∈ nameL k := by
      show (40 : UInt8) ∈ textC (.leaf k)
      rw [ht]
      simp
    exact absurd h4 (nameL_no40 k)
  | node k t =>
    have e : nameL k ++ 40 :: (textC t ++ [41]) = nameL i ++ 40 :: (r ++ [41]) := ht
    rcases nameL_node h.1 with ⟨e1, rfl⟩ | ⟨e1, rfl⟩ <;> rcases nameL_node hi with ⟨e2, rfl⟩ | ⟨e2, rfl⟩ <;> (first | rw [e1, e2] at e | rw [e1] at e)
    · exact ⟨t, rfl, h.2, by simpa using e⟩
    · simp at e
    · simp at e
    · exact ⟨t, rfl, h.2, by simpa using e⟩
theorem tx_make {r : List UInt8} {t : Tc} {i : Int} (hi : nodeK i) (h : IsTx r t) : IsTx (nameL i ++ 40 :: (r ++ [41])) (.node i t) := ⟨⟨hi, h.1⟩, by unfold textC; rw [h.2]⟩
theorem textC_inj : ∀ {a b : Tc}, a.ok → b.ok → textC a = textC b → a = b
  | .leaf k, .leaf j, ha, hb, h => by rw [nameL_inj ha hb h]
  | .node k s, b, ha, hb, h => by
    obtain ⟨t', rfl, h2⟩ := tx_form (r := textC s) (t := b) ha.1 ⟨hb, h.symm⟩
    rw [textC_inj (a := s) (b := t') ha.2 h2.1 h2.2.symm]
  | .leaf k, .node j t, ha, hb, h => by
    have h4 : (40 : UInt8) ∈ textC (.leaf k) := by
      rw [h]
      show (40 : UInt8) ∈ nameL j ++ 40 :: (textC t ++ [41])
      simp
    exact absurd h4 (nameL_no40 k)
theorem textC_len : ∀ t : Tc, (textC t).length ≤ 8 * t.deep
  | .leaf k => by
    have := nameL_len k
    show (nameL k).length ≤ 8 * 1
    omega
  | .node k t => by
    have h1 := nameL_len k
    have h2 := textC_len t
    show (nameL k ++ 40 :: (textC t ++ [41])).length ≤ 8 * (t.deep + 1)
    simp
    omega
end Go.Proofs.YtabopneehhnhfabDoor
