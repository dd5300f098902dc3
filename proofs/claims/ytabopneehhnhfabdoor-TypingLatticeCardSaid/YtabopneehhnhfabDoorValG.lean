/- A value's first error, part by part, is the error that the document gives it. No function of the program is named. -/
import Derived.Test.YtabopneehhnhfabDoorValD
import Derived.Test.YtabopneehhnhfabDoorValE
namespace Go.Proofs.YtabopneehhnhfabDoor
open Go.RowKit Go.Lib

def partV (p : Int × Vl) : Nat := match p.2 with | .mk k t i s l ks => partP p.1 k t i s l ks
/-- The first error of a list of parts. -/
def firstP : List (Int × Vl) → Nat
  | [] => 0
  | p :: r => if partV p ≠ 0 then partV p else firstP r
theorem firstP_append : ∀ (a b : List (Int × Vl)), firstP (a ++ b) = if firstP a ≠ 0 then firstP a else firstP b
  | [], b => rfl
  | p :: r, b => by
    rw [List.cons_append, firstP, firstP, firstP_append r b]
    by_cases h : partV p ≠ 0
    · rw [if_pos h, if_pos h, if_pos h]
    · rw [if_neg h, if_neg h]
theorem firstP_snoc {a : List (Int × Vl)} (p : Int × Vl) (h : firstP a = 0) : firstP (a ++ [p]) = partV p := by
  rw [firstP_append, if_neg (by rw [h]; simp), firstP]
  by_cases h : partV p ≠ 0
  · rw [if_pos h]
  · rw [if_neg h, firstP]
    simp at h
    exact h.symm
theorem firstP_prefix {a b : List (Int × Vl)} (h : a <+: b) (h0 : firstP a ≠ 0) : firstP b = firstP a := by
  obtain ⟨r, rfl⟩ := h
  rw [firstP_append, if_pos h0]

/-- A tree has at most m levels below it. -/
def fitsV : Nat → Vl → Prop
  | 0, .mk _ _ _ _ l _ => l = []
  | m + 1, .mk _ _ _ _ l _ => ∀ y, y ∈ l → fitsV m y
theorem fits_of {w : World} : ∀ (m : Nat) (v : Option Addr) (k : Int) (t : Bool) (i : Int) (s : ByteArray) (l : List Vl) (ks : List (List UInt8)), ReadsV m w v l → fitsV m (.mk k t i s l ks)
  | 0, _, _, _, _, _, _, _, h => h
  | m + 1, v, k, t, i, s, l, ks, h => by
    intro y hy
    obtain ⟨j, hj, rfl⟩ := List.getElem_of_mem hy
    obtain ⟨b, off, k', t', i', s', l', ks', av', c', kv', kc', h0, _, _, _, _, _, _, _, _, _, _, _, _, _, _, _, _, _, _, _, hl'⟩ := h j hj
    rw [(List.getElem?_eq_some_iff.1 h0).2]
    exact fits_of m av' k' t' i' s' l' ks' hl'
theorem fits_is {w : World} {m : Nat} {V : Value} {x : Vl} (h : IsV m w V x) : fitsV m x := by
  obtain ⟨k, t, i, s, l, ks, av, c, kv, kc, rfl, rfl, _, _, _, _, _, _, _, _, _, _, _, hl⟩ := h
  exact fits_of m av k t i s l ks hl

theorem partE_P (lev : Int) (n : Nat) (hn : n ≠ 0) (h : lev = 17 - (n : Int)) (k : Int) (t : Bool) (i : Int) (s : ByteArray) (l : List Vl) (ks : List (List UInt8)) :
    partP lev k t i s l ks = partE n k t i s l ks ∨ (partP lev k t i s l ks = 13 ∧ partE n k t i s l ks = 0 ∧ n = 1 ∧ l ≠ []) := by
  unfold partP partE
  rw [if_neg (show ¬ 16 < lev by omega), if_neg hn]
  have e1 : ((decide (k < 0) || decide (5 < k) || !plainB k t i s l ks) = true) = (ownB k t i s l ks = false) := by
    unfold ownB
    cases (decide (k < 0) || decide (5 < k) || !plainB k t i s l ks) <;> simp
  have e2 : ((decide (i < -9007199254740992) || decide (9007199254740992 < i)) = true) = (i < -9007199254740992 ∨ 9007199254740992 < i) := by simp
  have e3 : ((decide (4096 < s.size) || decide (1024 < l.length) || decide (1024 < ks.length)) = true) = (4096 < s.size ∨ 1024 < l.length ∨ 1024 < ks.length) := by simp [or_assoc]
  have e4 : ((k == 5 && !keysB l ks) = true) = (k = 5 ∧ keysB l ks = false) := by simp
  simp only [e1, e2, e3, e4]
  by_cases h1 : ownB k t i s l ks = false
  · simp only [if_pos h1]; exact .inl trivial
  have hk : 0 ≤ k ∧ k ≤ 5 := by
    unfold ownB at h1
    simp at h1
    omega
  simp only [if_neg h1]
  by_cases h2 : i < -9007199254740992 ∨ 9007199254740992 < i
  · simp only [if_pos h2]; exact .inl trivial
  simp only [if_neg h2]
  by_cases h3 : 4096 < s.size ∨ 1024 < l.length ∨ 1024 < ks.length
  · simp only [if_pos h3]; exact .inl trivial
  simp only [if_neg h3]
  by_cases h4 : k = 5 ∧ keysB l ks = false
  · simp only [if_pos h4]; exact .inl trivial
  simp only [if_neg h4]
  by_cases h5 : (k = 4 ∨ k = 5) ∧ lev = 16
  · simp only [if_pos h5]
    by_cases h6 : l = []
    · left
      rw [if_pos]
      simp [h6]
      omega
    · right
      refine ⟨trivial, ?_, by omega, h6⟩
      rw [if_neg]
      simp [h6]
  · simp only [if_neg h5]
    left
    rw [if_neg]
    simp
    omega

theorem firstV_one {l : List Vl} (g : Vl → Nat) (h : l ≠ []) (hg : ∀ y, g y = 13) : firstV g l = 13 := by
  cases l with
  | nil => exact absurd rfl h
  | cons y r => rw [firstV, if_pos (by rw [hg]; decide), hg]
theorem first_flat (f : Vl → List (Int × Vl)) (g : Vl → Nat) : ∀ (l : List Vl), (∀ y, y ∈ l → firstP (f y) = g y) → firstP (l.flatMap f) = firstV g l
  | [], _ => rfl
  | y :: r, h => by
    rw [List.flatMap_cons, firstP_append, h y (by simp), firstV, first_flat f g r (fun z hz => h z (by simp [hz]))]
theorem wrap_lev {lev : Int} (h : 1 ≤ lev ∧ lev ≤ 17) : wrap64 (lev + 1) = lev + 1 := by
  unfold wrap64
  omega
theorem errV_zero : ∀ y, errV 0 y = 13
  | .mk _ _ _ _ _ _ => rfl
theorem firstP_pre : ∀ (m : Nat) (x : Vl) (lev : Int) (n : Nat), fitsV m x → 1 ≤ lev → lev ≤ 17 → lev = 17 - (n : Int) → firstP (preV m lev x) = errV n x := by
  intro m
  induction m with
  | zero =>
    rintro ⟨k, t, i, s, l, ks⟩ lev n hx h1 h2 h3
    have hl : l = [] := hx
    subst hl
    rw [preV, firstP]
    show (if partP lev k t i s [] ks ≠ 0 then partP lev k t i s [] ks else firstP []) = _
    cases n with
    | zero => rw [errV_zero, show partP lev k t i s [] ks = 13 by unfold partP; rw [if_pos (by omega)]]; rfl
    | succ n =>
      rw [errV]
      rcases partE_P lev (n + 1) (by omega) h3 k t i s [] ks with e | ⟨_, _, _, e⟩
      · rw [e]; rfl
      · exact absurd rfl e
  | succ m ih =>
    rintro ⟨k, t, i, s, l, ks⟩ lev n hx h1 h2 h3
    rw [preV, firstP]
    show (if partP lev k t i s l ks ≠ 0 then partP lev k t i s l ks else firstP (l.flatMap (preV m (wrap64 (lev + 1))))) = _
    cases n with
    | zero => rw [errV_zero, show partP lev k t i s l ks = 13 by unfold partP; rw [if_pos (by omega)]]; rfl
    | succ n =>
      rw [errV]
      have hr : firstP (l.flatMap (preV m (wrap64 (lev + 1)))) = firstV (errV n) l := by
        rw [wrap_lev ⟨h1, h2⟩]
        exact first_flat _ _ l (fun y hy => ih y (lev + 1) n (hx y hy) (by omega) (by omega) (by omega))
      rcases partE_P lev (n + 1) (by omega) h3 k t i s l ks with e | ⟨e1, e2, e3, e4⟩
      · rw [e, hr]
      · have hn : n = 0 := by omega
        subst hn
        rw [e1, e2, if_pos (by decide), if_neg (by decide), firstV_one (errV 0) e4 errV_zero]
end Go.Proofs.YtabopneehhnhfabDoor
