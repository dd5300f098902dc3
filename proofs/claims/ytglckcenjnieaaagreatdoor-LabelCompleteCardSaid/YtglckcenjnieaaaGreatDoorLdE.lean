/- The document's witness, in bytes and numbers alone (label): it satisfies the one, and not the other. -/
import Derived.Test.YtglckcenjnieaaaGreatDoorLdD
import Derived.Test.YtglckcenjnieaaaGreatDoorIdnJ
namespace Go.Proofs.YtglckcenjnieaaaGreatDoor
open Go.RowKit Go.Lib

def chosenD (x : List UInt8) (a b : DCase) : List UInt8 :=
  if a.ab = true ∧ b.ab = false then []
  else if a.pl = true ∧ b.pl = false then x
  else if a.lo ≤ a.hi ∧ (b.hi < b.lo ∨ a.lo < b.lo ∨ b.hi < a.lo) then x ++ 61 :: Lib.decDigits a.lo.toNat
  else if a.lo ≤ a.hi ∧ b.hi < a.hi then x ++ 61 :: Lib.decDigits a.hi.toNat
  else if a.ab = true then []
  else if a.pl = true then x
  else x ++ 61 :: Lib.decDigits a.lo.toNat
/-- The state that is chosen. -/
def sgD (a b : DCase) : Int :=
  if a.ab = true ∧ b.ab = false then -2
  else if a.pl = true ∧ b.pl = false then -1
  else if a.lo ≤ a.hi ∧ (b.hi < b.lo ∨ a.lo < b.lo ∨ b.hi < a.lo) then a.lo
  else if a.lo ≤ a.hi ∧ b.hi < a.hi then a.hi
  else if a.ab = true then -2
  else if a.pl = true then -1
  else a.lo
def txtD (x : List UInt8) (s : Int) : List UInt8 := if s = -2 then [] else if s = -1 then x else x ++ 61 :: Lib.decDigits s.toNat
theorem chosen_txt (x : List UInt8) (a b : DCase) (h : okC a) : chosenD x a b = txtD x (sgD a b) := by
  unfold okC at h
  have num : ∀ s : Int, 0 ≤ s → x ++ 61 :: Lib.decDigits s.toNat = txtD x s := fun s h => by
    unfold txtD
    rw [if_neg (by omega), if_neg (by omega)]
  have t2 : txtD x (-2) = [] := rfl
  have t1 : txtD x (-1) = x := by unfold txtD; rw [if_neg (by decide), if_pos rfl]
  unfold chosenD sgD
  split
  · exact t2.symm
  split
  · exact t1.symm
  split
  · exact num _ h.1
  split
  · exact num _ (by omega)
  split
  · exact t2.symm
  split
  · exact t1.symm
  · exact num _ h.1
theorem sg_in {a b : DCase} (h : okC a) (hp : possD a = true) : inC a (sgD a b) := by
  obtain ⟨ab, pl, lo, hi⟩ := a
  unfold okC at h
  unfold possD at hp
  unfold inC sgD
  dsimp only at *
  split
  · rename_i e; exact Or.inl ⟨rfl, e.1⟩
  split
  · rename_i e; exact Or.inr (Or.inl ⟨rfl, e.1⟩)
  split
  · omega
  split
  · omega
  split
  · rename_i e; exact Or.inl ⟨rfl, e⟩
  split
  · rename_i e; exact Or.inr (Or.inl ⟨rfl, e⟩)
  · rename_i e1 e2
    cases ab
    · cases pl
      · simp at hp; omega
      · exact absurd rfl e2
    · exact absurd rfl e1
theorem sg_out {a b : DCase} (h : okC a) (hw : withinD a b ≠ true) : ¬ inC b (sgD a b) := by
  obtain ⟨ab, pl, lo, hi⟩ := a
  obtain ⟨ab', pl', lo', hi'⟩ := b
  unfold okC at h
  unfold withinD at hw
  unfold inC sgD
  dsimp only at *
  intro hi2
  apply hw
  cases ab <;> cases ab' <;> cases pl <;> cases pl' <;> simp at hi2 ⊢ <;> (repeat' split at hi2) <;> omega
theorem num_dec {n : Nat} (h : n ≤ 9007199254740992) : numL (Lib.decDigits n) = some n := by
  unfold numL
  rw [if_pos ⟨dec_can n, by rw [dec_unD]; exact h⟩, dec_unD]
theorem lab_name {x : List UInt8} (h : nameB x = true) : labP x = some (x, -1) := by
  unfold labP
  rw [cut_plain (c := 61) (t := []) rfl (by decide) (fun y hy => ((name_ok h).2 y hy).1)]
  unfold labF
  dsimp only
  rw [if_neg (by simp [h]), if_pos rfl]
theorem lab_num {x : List UInt8} {n : Nat} (h : nameB x = true) (hn : n ≤ 9007199254740992) : labP (x ++ 61 :: Lib.decDigits n) = some (x, (n : Int)) := by
  unfold labP
  rcases cut_cases (x ++ 61 :: Lib.decDigits n) [61] with ⟨_, n3⟩ | ⟨a, b, e, h3, f3⟩
  · exact absurd rfl (n3 x (Lib.decDigits n))
  · replace e : x ++ 61 :: Lib.decDigits n = a ++ 61 :: b := e
    obtain rfl : a = x := first_eq e.symm (f3 x (Lib.decDigits n) rfl) (fun y hy => ((name_ok h).2 y hy).1) (by decide)
    rw [h3]
    have e2 := List.append_cancel_left e
    injection e2 with _ e2
    unfold labF
    dsimp only
    rw [if_neg (by simp [h]), if_neg (by decide), ← e2, num_dec hn]
theorem txt_lab {x : List UInt8} {s : Int} (h : nameB x = true) (h0 : -2 ≤ s) (h1 : s ≤ 9007199254740992) (h2 : s ≠ -2) : txtD x s ≠ [] ∧ labP (txtD x s) = some (x, s) := by
  unfold txtD
  rw [if_neg h2]
  by_cases e : s = -1
  · subst e
    rw [if_pos rfl]
    exact ⟨(name_ok h).1, lab_name h⟩
  · rw [if_neg e]
    refine ⟨by simp, ?_⟩
    rw [lab_num h (by omega)]
    congr 2
    omega
def namesD (A B : List (List UInt8)) : List (List UInt8) := ((A ++ B).map fun y => (readD y).2.1).filter fun x => decide (x ≠ [])
def pickD (A B : List (List UInt8)) (x : List UInt8) : Option (List UInt8) := if chosenD x (permD A x) (permD B x) = [] then none else some (chosenD x (permD A x) (permD B x))
def witD (A B : List (List UInt8)) : List (List UInt8) := (sortR (namesD A B)).filterMap (pickD A B)
theorem insS_iff {x : List UInt8} {out : List (List UInt8)} {p : Nat} {y : List UInt8} (hp : p ≤ out.length) : y ∈ insS x out p ↔ y = x ∨ y ∈ out := by
  refine ⟨insS_mem, fun h => ?_⟩
  unfold insS
  split
  · rename_i hc
    rcases h with rfl | h
    · obtain ⟨h0, e⟩ := hc
      rw [List.getD_eq_getElem?_getD] at e
      cases hg : out[p - 1]? with
      | none =>
        rw [List.getElem?_eq_none_iff] at hg
        omega
      | some z =>
        rw [hg] at e
        have : z = y := e
        subst this
        exact List.mem_of_getElem? hg
    · exact h
  · have hm : out.take p ++ out.drop p = out := List.take_append_drop p out
    rcases h with rfl | h
    · simp
    · rw [← hm] at h
      rcases List.mem_append.1 h with h | h <;> simp [h]
theorem sortR_mem (L : List (List UInt8)) (y : List UInt8) : y ∈ sortR L ↔ y ∈ L := by
  unfold sortR
  have key : ∀ (L : List (List UInt8)) (out : List (List UInt8)), y ∈ L.foldl (fun out x => insS x out (posI x out out.length)) out ↔ y ∈ out ∨ y ∈ L := by
    intro L
    induction L with
    | nil => intro out; simp
    | cons x r ih =>
      intro out
      rw [List.foldl_cons, ih, insS_iff (posI_le _ _ _), List.mem_cons]
      constructor
      · rintro ((h | h) | h)
        · exact Or.inr (Or.inl h)
        · exact Or.inl h
        · exact Or.inr (Or.inr h)
      · rintro (h | h | h)
        · exact Or.inl (Or.inr h)
        · exact Or.inl (Or.inl h)
        · exact Or.inr h
  rw [key]
  simp
theorem names_name {A B : List (List UInt8)} {x : List UInt8} (h : x ∈ namesD A B) : nameB x = true := by
  unfold namesD at h
  obtain ⟨h1, h2⟩ := List.mem_filter.1 h
  obtain ⟨y, _, rfl⟩ := List.mem_map.1 h1
  rcases read_form y with e | ⟨_, _, _, e⟩
  · rw [e] at h2; simp at h2
  · exact e
theorem names_of {A B : List (List UInt8)} {y a : List UInt8} {lo hi : Int} (hy : y ∈ A ∨ y ∈ B) (h : needP y = some (a, lo, hi)) : a ∈ namesD A B := by
  obtain ⟨h1, h2⟩ := span_form h
  have hn : nameB a = true := by
    rcases read_form y with e | ⟨_, _, _, e⟩
    · rw [e] at h1; exact absurd rfl h1
    · rwa [h2] at e
  unfold namesD
  exact List.mem_filter.2 ⟨List.mem_map.2 ⟨y, List.mem_append.2 hy, h2⟩, by simpa using (name_ok hn).1⟩
theorem wit_states {A B : List (List UInt8)} (hp : ∀ x, possD (permD A x) = true) (x : List UInt8) (s : Int) : s ∈ stL (witD A B) x ↔ x ∈ namesD A B ∧ s = sgD (permD A x) (permD B x) ∧ s ≠ -2 := by
  have hb : ∀ z, -2 ≤ sgD (permD A z) (permD B z) ∧ sgD (permD A z) (permD B z) ≤ 9007199254740992 := fun z => inC_bounds (sg_in (perm_ok A z) (hp z)) (perm_ok A z)
  unfold stL witD
  rw [List.mem_filterMap]
  constructor
  · rintro ⟨l, hl, hs⟩
    obtain ⟨z, hz, hzl⟩ := List.mem_filterMap.1 hl
    rw [sortR_mem] at hz
    unfold pickD at hzl
    rw [chosen_txt z _ _ (perm_ok A z)] at hzl
    by_cases e : sgD (permD A z) (permD B z) = -2
    · rw [e, show txtD z (-2) = [] from rfl, if_pos rfl] at hzl; cases hzl
    · obtain ⟨t1, t2⟩ := txt_lab (names_name hz) (hb z).1 (hb z).2 e
      rw [if_neg t1] at hzl
      injection hzl with hzl
      rw [← hzl, t2] at hs
      dsimp only at hs
      by_cases hzx : z = x
      · subst hzx
        rw [if_pos rfl] at hs
        injection hs with hs
        exact ⟨hz, hs.symm, by rw [← hs]; exact e⟩
      · rw [if_neg hzx] at hs; cases hs
  · rintro ⟨hz, rfl, e⟩
    obtain ⟨t1, t2⟩ := txt_lab (names_name hz) (hb x).1 (hb x).2 e
    refine ⟨txtD x (sgD (permD A x) (permD B x)), List.mem_filterMap.2 ⟨x, (sortR_mem _ _).2 hz, ?_⟩, ?_⟩
    · unfold pickD
      rw [chosen_txt x _ _ (perm_ok A x), if_neg t1]
    · rw [t2]; simp
theorem wit_incl {A B : List (List UInt8)} (hp : ∀ x, possD (permD A x) = true) {x : List UInt8} (hx : x ∈ namesD A B) {lo hi : Int} (h1 : -2 ≤ lo) (h2 : -2 ≤ hi) :
    inclB lo hi (stL (witD A B) x) = true ↔ lo ≤ sgD (permD A x) (permD B x) ∧ sgD (permD A x) (permD B x) ≤ hi := by
  have hw := wit_states (B := B) hp x
  generalize sgD (permD A x) (permD B x) = t at hw ⊢
  unfold inclB
  by_cases e : stL (witD A B) x = []
  · rw [if_pos e]
    have ht : t = -2 := by
      apply Classical.byContradiction
      intro hne
      have := (hw t).2 ⟨hx, rfl, hne⟩
      rw [e] at this
      cases this
    subst ht
    simp
    omega
  · rw [if_neg e, List.any_eq_true]
    obtain ⟨u, hu⟩ := List.exists_mem_of_ne_nil _ e
    have hut := ((hw u).1 hu).2.1
    constructor
    · rintro ⟨v, hv, hv2⟩
      have := ((hw v).1 hv).2.1
      subst this
      simpa using hv2
    · intro h
      exact ⟨u, hu, by rw [hut]; simpa using h⟩
theorem complete_doc {A B : List (List UInt8)} (h : impliesB A B = false) : satB (witD A B) A = true ∧ satB (witD A B) B = false := by
  have hF : ∃ F, permL A (fun _ => none) = some F ∧ B.any (impF F) = true := by
    unfold impliesB at h
    cases e : permL A (fun _ => none) with
    | none => rw [e] at h; cases h
    | some F => rw [e] at h; exact ⟨F, rfl, by simpa using h⟩
  obtain ⟨F, hF, hany⟩ := hF
  obtain ⟨p1, p2, p3⟩ := permL_some A _ F hF
  have q3 := p3 fun b => by rw [of_none]; decide
  have hp : ∀ x, possD (permD A x) = true := fun x => (poss_inC (perm_ok A x)).2 ⟨_, (perm_exact hF x _).2 ⟨Int.le_refl _, q3 x⟩⟩
  rw [satB_plain, satB_plain]
  constructor
  · rw [Bool.not_eq_true', List.any_eq_false]
    intro y hy
    obtain ⟨a, lo, hi, hN, _⟩ := p2 y hy
    obtain ⟨b1, b2⟩ := needP_bounds hN
    have hin := ((perm_inC A a _).1 (sg_in (b := permD B a) (perm_ok A a) (hp a))).2 y hy lo hi hN
    unfold satF
    rw [hN]
    simp [(wit_incl hp (names_of (Or.inl hy) hN) b1 b2).2 hin]
  · rw [Bool.not_eq_false', List.any_eq_true]
    obtain ⟨y, hy, hyF⟩ := List.any_eq_true.1 hany
    unfold impF at hyF
    cases hN : needP y with
    | none => exact ⟨y, hy, by unfold satF; rw [hN]⟩
    | some q =>
      obtain ⟨a, lo, hi⟩ := q
      rw [hN] at hyF
      have hnw : withinD (permD A a) (permD B a) ≠ true := by
        intro hw
        have hw := (within_inC (perm_ok A a)).1 hw
        have e1 := ((perm_inC B a _).1 (hw _ ((perm_exact hF a _).2 ⟨Int.le_refl _, q3 a⟩))).2 y hy lo hi hN
        have e2 := ((perm_inC B a _).1 (hw _ ((perm_exact hF a _).2 ⟨q3 a, Int.le_refl _⟩))).2 y hy lo hi hN
        simp [e1.1, e2.2] at hyF
      have hno := sg_out (perm_ok A a) hnw
      have hb := inC_bounds (sg_in (b := permD B a) (perm_ok A a) (hp a)) (perm_ok A a)
      rw [perm_inC] at hno
      have : ∃ z ∈ B, ∃ lo' hi', needP z = some (a, lo', hi') ∧ ¬ (lo' ≤ sgD (permD A a) (permD B a) ∧ sgD (permD A a) (permD B a) ≤ hi') := by
        apply Classical.byContradiction
        intro hn
        refine hno ⟨hb, fun z hz lo' hi' hz2 => ?_⟩
        apply Classical.byContradiction
        intro hc
        exact hn ⟨z, hz, lo', hi', hz2, hc⟩
      obtain ⟨z, hz, lo', hi', hz2, hc⟩ := this
      obtain ⟨b1, b2⟩ := needP_bounds hz2
      refine ⟨z, hz, ?_⟩
      unfold satF
      rw [hz2]
      have : inclB lo' hi' (stL (witD A B) a) = false := by
        rw [← Bool.not_eq_true]
        exact fun e => hc ((wit_incl hp (names_of (Or.inr hz) hz2) b1 b2).1 e)
      simp [this]
end Go.Proofs.YtglckcenjnieaaaGreatDoor
