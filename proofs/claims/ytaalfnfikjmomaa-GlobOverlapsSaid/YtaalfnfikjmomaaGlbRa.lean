/- The document's search for a common string, as plain lists of places. No function of the program is named. -/
import Derived.Test.YtaalfnfikjmomaaGlbM
namespace Go.Proofs.Ytaalfnfikjmomaa

/-- A place in two patterns. -/
structure Pl where
  a : Nat
  b : Nat
  src : Nat
  moved : Bool
  byte : UInt8
deriving Inhabited
def hasPl (l : List Pl) (a b : Nat) : Bool := l.any fun q => q.a == a && q.b == b
/-- What put does. -/
def putL (l : List Pl) (p : Pl) : List Pl := if hasPl l p.a p.b then l else l ++ [p]
theorem hasPl_iff {l : List Pl} {a b : Nat} : hasPl l a b = true ↔ ∃ q ∈ l, q.a = a ∧ q.b = b := by
  unfold hasPl
  rw [List.any_eq_true]
  constructor
  · rintro ⟨q, h, e⟩
    rw [Bool.and_eq_true, beq_iff_eq, beq_iff_eq] at e
    exact ⟨q, h, e⟩
  · rintro ⟨q, h, e⟩
    exact ⟨q, h, by rw [Bool.and_eq_true, beq_iff_eq, beq_iff_eq]; exact e⟩
theorem putL_has (l : List Pl) (p : Pl) : hasPl (putL l p) p.a p.b = true := by
  unfold putL
  split
  · assumption
  · exact hasPl_iff.2 ⟨p, by simp, rfl, rfl⟩
theorem putL_mono {l : List Pl} {p : Pl} {a b : Nat} (h : hasPl l a b = true) : hasPl (putL l p) a b = true := by
  unfold putL
  split
  · exact h
  · obtain ⟨q, hq, e⟩ := hasPl_iff.1 h
    exact hasPl_iff.2 ⟨q, by simp [hq], e⟩
theorem putL_get {l : List Pl} {p : Pl} (k : Nat) (h : k < l.length) : ∃ h2 : k < (putL l p).length, (putL l p)[k] = l[k] := by
  unfold putL
  split
  · exact ⟨h, rfl⟩
  · exact ⟨by simp; omega, List.getElem_append_left h⟩
theorem putL_len (l : List Pl) (p : Pl) : (putL l p).length = if hasPl l p.a p.b then l.length else l.length + 1 := by
  unfold putL
  split <;> simp
/-- One place leads to another. -/
def PStep (x y : List GE) (p q : Pl) : Prop :=
  (q.moved = false ∧ ((∃ h : p.a < x.length, manyB x[p.a] = true ∧ q.a = p.a + 1 ∧ q.b = p.b) ∨ (∃ h : p.b < y.length, manyB y[p.b] = true ∧ q.a = p.a ∧ q.b = p.b + 1))) ∨
  (q.moved = true ∧ ∃ (h1 : p.a < x.length) (h2 : p.b < y.length), fitsB x[p.a] q.byte = true ∧ fitsB y[p.b] q.byte = true ∧ q.a = (if manyB x[p.a] = true then p.a else p.a + 1) ∧ q.b = (if manyB y[p.b] = true then p.b else p.b + 1))
def backS (q : Pl) (s : List UInt8) : List UInt8 := if q.moved then q.byte :: s else s
theorem gm_move {x : List GE} {a a' : Nat} {c : UInt8} {s : List UInt8} (h : a < x.length) (hf : fitsB x[a] c = true) (ha : a' = if manyB x[a] = true then a else a + 1) (hg : GM (x.drop a') s) : GM (x.drop a) (c :: s) := by
  rw [List.drop_eq_getElem_cons h]
  by_cases hm : manyB x[a] = true
  · rw [if_pos hm] at ha
    subst ha
    rw [List.drop_eq_getElem_cons h] at hg
    exact .stay hm hf hg
  · rw [if_neg hm] at ha
    subst ha
    exact .one (by simpa using hm) hf hg
theorem step_back {x y : List GE} {p q : Pl} {s : List UInt8} (h : PStep x y p q) (h1 : GM (x.drop q.a) s) (h2 : GM (y.drop q.b) s) : GM (x.drop p.a) (backS q s) ∧ GM (y.drop p.b) (backS q s) := by
  rcases h with ⟨hm, h⟩ | ⟨hm, g1, g2, f1, f2, e1, e2⟩
  · have hb : backS q s = s := by unfold backS; rw [hm]; rfl
    rw [hb]
    rcases h with ⟨g, hmn, e1, e2⟩ | ⟨g, hmn, e1, e2⟩
    · rw [e1] at h1
      rw [e2] at h2
      exact ⟨by rw [List.drop_eq_getElem_cons g]; exact .skip hmn h1, h2⟩
    · rw [e1] at h1
      rw [e2] at h2
      exact ⟨h1, by rw [List.drop_eq_getElem_cons g]; exact .skip hmn h2⟩
  · have hb : backS q s = q.byte :: s := by unfold backS; rw [hm]; rfl
    rw [hb]
    exact ⟨gm_move g1 f1 e1 h1, gm_move g2 f2 e2 h2⟩
/-- The places before i have been followed. -/
def ClosedP (x y : List GE) (l : List Pl) (i : Nat) : Prop := ∀ k (hk : k < l.length), k < i →
  (∀ h : l[k].a < x.length, manyB x[l[k].a] = true → hasPl l (l[k].a + 1) l[k].b = true) ∧
  (∀ h : l[k].b < y.length, manyB y[l[k].b] = true → hasPl l l[k].a (l[k].b + 1) = true) ∧
  (∀ (h1 : l[k].a < x.length) (h2 : l[k].b < y.length) (c : UInt8), fitsB x[l[k].a] c = true → fitsB y[l[k].b] c = true → hasPl l (if manyB x[l[k].a] = true then l[k].a else l[k].a + 1) (if manyB y[l[k].b] = true then l[k].b else l[k].b + 1) = true)
/-- What holds of the places. -/
structure PlGood (x y : List GE) (l : List Pl) : Prop where
  ne : 0 < l.length
  start : ∃ h : 0 < l.length, l[0].a = 0 ∧ l[0].b = 0
  from_ : ∀ k (hk : k < l.length), 0 < k → ∃ h : l[k].src < l.length, l[k].src < k ∧ PStep x y l[l[k].src] l[k]
  in_ : ∀ k (hk : k < l.length), l[k].a ≤ x.length ∧ l[k].b ≤ y.length
theorem good_put {x y : List GE} {l : List Pl} {p : Pl} (h : PlGood x y l) (h1 : p.src < l.length) (hs : PStep x y l[p.src] p) (hi : p.a ≤ x.length ∧ p.b ≤ y.length) : PlGood x y (putL l p) := by
  unfold putL
  split
  · exact h
  · refine ⟨by simp, ?_, fun k hk h0 => ?_, fun k hk => ?_⟩
    · obtain ⟨h0, e1, e2⟩ := h.start
      exact ⟨by simp, by rw [List.getElem_append_left h0]; exact ⟨e1, e2⟩⟩
    · rw [List.length_append, List.length_singleton] at hk
      by_cases e : k < l.length
      · obtain ⟨g1, g2, g3⟩ := h.from_ k e h0
        refine ⟨?_, ?_, ?_⟩
        · simp only [List.getElem_append_left e]; simp; omega
        · simp only [List.getElem_append_left e]; exact g2
        · simp only [List.getElem_append_left e, List.getElem_append_left g1]; exact g3
      · have e2 : k = l.length := by omega
        subst e2
        refine ⟨?_, ?_, ?_⟩
        · simp; omega
        · simp; exact h1
        · simp [List.getElem_append_left h1]; exact hs
    · rw [List.length_append, List.length_singleton] at hk
      by_cases e : k < l.length
      · rw [List.getElem_append_left e]; exact h.in_ k e
      · have e2 : k = l.length := by omega
        subst e2
        simp
        exact hi
theorem closed_put {x y : List GE} {l : List Pl} {p : Pl} {i : Nat} (hi : i ≤ l.length) (h : ClosedP x y l i) : ClosedP x y (putL l p) i := by
  intro k hk hki
  have hkl : k < l.length := by omega
  obtain ⟨_, e⟩ := putL_get (p := p) k hkl
  obtain ⟨a1, a2, a3⟩ := h k hkl hki
  simp only [e]
  exact ⟨fun g hm => putL_mono (a1 g hm), fun g hm => putL_mono (a2 g hm), fun g1 g2 c f1 f2 => putL_mono (a3 g1 g2 c f1 f2)⟩
/-- Complete: a common string leads to the last place. -/
theorem closed_reach {x y : List GE} {l : List Pl} (hc : ClosedP x y l l.length) : ∀ (N : Nat) (s : List UInt8) (a b : Nat), s.length + (x.length - a) + (y.length - b) < N → a ≤ x.length → b ≤ y.length → hasPl l a b = true → GM (x.drop a) s → GM (y.drop b) s → hasPl l x.length y.length = true
  | 0, _, _, _, h, _, _, _, _, _ => by omega
  | N + 1, s, a, b, hN, ha, hb, hh, h1, h2 => by
    obtain ⟨q, hq, rfl, rfl⟩ := hasPl_iff.1 hh
    obtain ⟨k, hk, rfl⟩ := List.getElem_of_mem hq
    obtain ⟨c1, c2, c3⟩ := hc k hk hk
    by_cases la : l[k].a < x.length
    · have h1' := h1
      rw [List.drop_eq_getElem_cons la] at h1
      cases h1 with
      | skip hm g => exact closed_reach hc N s _ _ (by omega) la hb (c1 la hm) g h2
      | stay hm hf g =>
        rename_i c r
        by_cases lb : l[k].b < y.length
        · have h2' := h2
          rw [List.drop_eq_getElem_cons lb] at h2
          cases h2 with
          | skip hm2 g2 => exact closed_reach hc N _ _ _ (by omega) ha lb (c2 lb hm2) h1' g2
          | stay hm2 hf2 g2 =>
            have := c3 la lb c hf hf2
            rw [if_pos hm, if_pos hm2] at this
            exact closed_reach hc N r _ _ (by simp at hN; omega) ha hb this (by rw [List.drop_eq_getElem_cons la]; exact g) (by rw [List.drop_eq_getElem_cons lb]; exact g2)
          | one hm2 hf2 g2 =>
            have := c3 la lb c hf hf2
            rw [if_pos hm, if_neg (by rw [hm2]; decide)] at this
            exact closed_reach hc N r _ _ (by simp at hN; omega) ha lb this (by rw [List.drop_eq_getElem_cons la]; exact g) g2
        · rw [List.drop_eq_nil_of_le (by omega)] at h2
          cases h2
      | one hm hf g =>
        rename_i c r
        by_cases lb : l[k].b < y.length
        · have h2' := h2
          rw [List.drop_eq_getElem_cons lb] at h2
          cases h2 with
          | skip hm2 g2 => exact closed_reach hc N _ _ _ (by omega) ha lb (c2 lb hm2) h1' g2
          | stay hm2 hf2 g2 =>
            have := c3 la lb c hf hf2
            rw [if_neg (by rw [hm]; decide), if_pos hm2] at this
            exact closed_reach hc N r _ _ (by simp at hN; omega) la hb this g (by rw [List.drop_eq_getElem_cons lb]; exact g2)
          | one hm2 hf2 g2 =>
            have := c3 la lb c hf hf2
            rw [if_neg (by rw [hm]; decide), if_neg (by rw [hm2]; decide)] at this
            exact closed_reach hc N r _ _ (by simp at hN; omega) la lb this g g2
        · rw [List.drop_eq_nil_of_le (by omega)] at h2
          cases h2
    · have ea : l[k].a = x.length := by omega
      by_cases lb : l[k].b < y.length
      · have h2' := h2
        rw [List.drop_eq_nil_of_le (by omega)] at h1
        cases h1
        rw [List.drop_eq_getElem_cons lb] at h2
        cases h2 with
        | skip hm2 g2 => exact closed_reach hc N [] _ _ (by omega) ha lb (c2 lb hm2) (by rw [List.drop_eq_nil_of_le (by omega)]; exact .nil) g2
      · have eb : l[k].b = y.length := by omega
        rw [ea, eb] at hh
        exact hh
end Go.Proofs.Ytaalfnfikjmomaa
