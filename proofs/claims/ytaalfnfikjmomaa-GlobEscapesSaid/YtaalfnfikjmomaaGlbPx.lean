/- Literal prefixes and escapes of patterns, as plain functions (glob). -/
import Derived.Test.YtaalfnfikjmomaaGlbLives
namespace Go.Proofs.Ytaalfnfikjmomaa
open Go.RowKit Go.Lib
theorem elemL_pair {l r : List UInt8} {e : GE} (h : elemL l = some (e, r)) : e.kind = 5 → ∃ d, e.items = [(d, d)] := by
  unfold elemL at h
  split at h
  · cases h
  · rename_i c l
    split at h
    · split at h
      · simp at h; obtain ⟨rfl, _⟩ := h; intro e; simp at e
      · simp at h; obtain ⟨rfl, _⟩ := h; intro e; simp at e
    · split at h
      · simp at h; obtain ⟨rfl, _⟩ := h; intro e; simp at e
      · split at h
        · split at h
          · cases h
          · split at h
            · cases h
            · simp at h; obtain ⟨rfl, _⟩ := h; intro e; simp at e
        · split at h
          · cases l with
            | nil => cases h
            | cons d l => simp at h; obtain ⟨rfl, _⟩ := h; intro _; exact ⟨d, rfl⟩
          · simp at h; obtain ⟨rfl, _⟩ := h; intro _; exact ⟨c, rfl⟩
theorem elemsF_pair : ∀ (f : Nat) (l : List UInt8) (q : List GE), elemsF f l = some q → ∀ x ∈ q, x.kind = 5 → ∃ d, x.items = [(d, d)]
  | 0, _, _, h => by cases h
  | f + 1, l, q, h => by
    rw [elemsF] at h
    split at h
    · simp at h; subst h; simp
    · split at h
      · cases h
      · rename_i x r hx
        cases hc : elemsF f r with
        | none => rw [hc] at h; cases h
        | some q2 =>
          rw [hc] at h
          simp at h
          subst h
          intro y hy
          rcases List.mem_cons.1 hy with rfl | hy
          · exact elemL_pair hx
          · exact elemsF_pair f r q2 hc y hy
theorem parseP_pair {l : List UInt8} {q : List GE} (h : parseP l = some q) : ∀ x ∈ q, x.kind = 5 → ∃ d, x.items = [(d, d)] := by
  unfold parseP at h
  split at h
  · cases h
  · exact elemsF_pair _ _ _ h
theorem fits_one {d c : UInt8} : fitsB ⟨5, [(d, d)]⟩ c = true ↔ c = d := by
  unfold fitsB inItems
  simp
  constructor
  · intro h
    exact UInt8.toNat_inj.1 (by omega)
  · rintro rfl
    exact ⟨Nat.le_refl _, Nat.le_refl _⟩
theorem ge5 {x : GE} {d : UInt8} (h : x.kind = 5) (hi : x.items = [(d, d)]) : x = ⟨5, [(d, d)]⟩ := by
  cases x
  simp at h hi
  rw [h, hi]
theorem lit_prefix : ∀ (L : List GE) (s : List UInt8), (∀ x ∈ L, x.kind = 5 → ∃ d, x.items = [(d, d)]) → GM L s → (∃ r, s = (litL L).1 ++ r) ∧ ((litL L).2 = true → s = (litL L).1)
  | [], s, _, h => by
    rw [GM.nil_iff] at h
    subst h
    exact ⟨⟨[], rfl⟩, fun _ => rfl⟩
  | x :: L, s, hp, h => by
    by_cases h5 : x.kind = 5
    · obtain ⟨d, hd⟩ := hp x (by simp) h5
      have hx := ge5 h5 hd
      subst hx
      rw [litL_cons_yes rfl]
      obtain ⟨c, r, rfl, hf, hr⟩ := (GM.one_iff rfl).1 h
      rw [fits_one] at hf
      subst hf
      obtain ⟨⟨r2, e1⟩, e2⟩ := lit_prefix L r (fun y hy => hp y (by simp [hy])) hr
      refine ⟨⟨r2, ?_⟩, fun hw => ?_⟩
      · show c :: r = c :: ((litL L).1 ++ r2)
        rw [← e1]
      · show c :: r = c :: (litL L).1
        rw [← e2 hw]
    · rw [litL_cons_no h5]
      exact ⟨⟨s, rfl⟩, fun h => (nomatch h)⟩
theorem lit_whole : ∀ (L : List GE), (∀ x ∈ L, x.kind = 5 → ∃ d, x.items = [(d, d)]) → (litL L).2 = true → GM L (litL L).1
  | [], _, _ => .nil
  | x :: L, hp, h => by
    by_cases h5 : x.kind = 5
    · obtain ⟨d, hd⟩ := hp x (by simp) h5
      have hx := ge5 h5 hd
      subst hx
      rw [litL_cons_yes rfl] at h ⊢
      exact .one rfl (fits_one.2 rfl) (lit_whole L (fun y hy => hp y (by simp [hy])) h)
    · rw [litL_cons_no h5] at h
      cases h
theorem litP_prefix {p s : List UInt8} (h : matchP p s = true) : (∃ r, s = (litP p).1 ++ r) ∧ ((litP p).2 = true → s = (litP p).1) := by
  unfold matchP at h
  unfold litP
  cases he : parseP p with
  | none => rw [he] at h; cases h
  | some L => rw [he] at h; exact lit_prefix L s (parseP_pair he) (gmB_true.1 h)
theorem litP_whole {p : List UInt8} (h : (litP p).2 = true) : matchP p (litP p).1 = true := by
  unfold litP at h ⊢
  unfold matchP
  cases he : parseP p with
  | none => rw [he] at h; cases h
  | some L => rw [he] at h; exact gmB_true.2 (lit_whole L (parseP_pair he) h)
/-- A string with a backslash before each byte, and its elements. -/
def escL (s : List UInt8) : List UInt8 := s.flatMap fun c => [92, c]
def escE (s : List UInt8) : List GE := s.map fun c => ⟨5, [(c, c)]⟩
theorem escL_len (s : List UInt8) : (escL s).length = 2 * s.length := by
  induction s with
  | nil => rfl
  | cons c s ih => show (92 :: c :: escL s).length = _; simp [ih]; omega
theorem escL_snoc (s : List UInt8) (c : UInt8) : escL (s ++ [c]) = escL s ++ [92] ++ [c] := by unfold escL; rw [List.flatMap_append]; simp
theorem elems_esc : ∀ s : List UInt8, elemsL (escL s) = some (escE s)
  | [] => rfl
  | c :: s => by
    have h : elemL (escL (c :: s)) = some (⟨5, [(c, c)]⟩, escL s) := by
      show elemL (92 :: c :: escL s) = _
      rw [elemL_esc rfl]
      rfl
    rw [elemsL_some (by intro e; rw [e] at h; cases h) h, elems_esc s]
    rfl
theorem parse_esc {s : List UInt8} (h : s.length ≤ 1000) : parseP (escL s) = some (escE s) := by
  unfold parseP
  rw [if_neg (by rw [escL_len]; omega), elems_esc]
theorem litL_esc : ∀ s : List UInt8, litL (escE s) = (s, true)
  | [] => rfl
  | c :: s => by
    show litL (⟨5, [(c, c)]⟩ :: escE s) = _
    rw [litL_cons_yes rfl, litL_esc s]
    rfl
theorem gm_esc : ∀ s t : List UInt8, GM (escE s) t ↔ t = s
  | [], t => GM.nil_iff
  | c :: s, t => by
    show GM (⟨5, [(c, c)]⟩ :: escE s) t ↔ _
    rw [GM.one_iff rfl]
    constructor
    · rintro ⟨d, r, rfl, h1, h2⟩
      rw [fits_one] at h1
      rw [h1, (gm_esc s r).1 h2]
    · rintro rfl
      exact ⟨c, s, rfl, fits_one.2 rfl, (gm_esc s s).2 rfl⟩
theorem match_esc {s t : List UInt8} (h : s.length ≤ 1000) : matchP (escL s) t = decide (t = s) := by
  unfold matchP
  rw [parse_esc h]
  exact gmB_eq (by rw [gm_esc, decide_eq_true_iff])
theorem lit_esc {s : List UInt8} (h : s.length ≤ 1000) : litP (escL s) = (s, true) := by unfold litP; rw [parse_esc h]; exact litL_esc s
theorem valid_esc {s : List UInt8} (h : s.length ≤ 1000) : validP (escL s) = 0 := valid_of _ (parse_esc h)
end Go.Proofs.Ytaalfnfikjmomaa
