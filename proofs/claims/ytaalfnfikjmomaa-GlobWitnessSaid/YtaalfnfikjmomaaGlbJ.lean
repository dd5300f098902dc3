/- The machine of a pattern as plain lists of states, and which strings it matches. No function of the program is named. -/
import Derived.Test.YtaalfnfikjmomaaGlbM
namespace Go.Proofs.Ytaalfnfikjmomaa

/-- A state: the bytes that lead on, and those that lead back. -/
structure MSt where
  step : Nat → Bool
  loop : Nat → Bool
instance : Inhabited MSt := ⟨⟨fun _ => false, fun _ => false⟩⟩
/-- The bytes that an element matches, as numbers. -/
def accB (e : GE) : Nat → Bool := fun c => fitsB e c.toUInt8
def orS (f g : Nat → Bool) : Nat → Bool := fun c => f c || g c
def noS : Nat → Bool := fun _ => false
/-- The states that the elements make behind a state with a loop. -/
def machR : (Nat → Bool) → List GE → List MSt
  | lp, [] => [⟨noS, lp⟩]
  | lp, x :: l => if manyB x then machR (orS lp (accB x)) l else ⟨accB x, lp⟩ :: machR noS l
/-- Which strings the states match. -/
inductive MA : List MSt → List UInt8 → Prop
  | last {t} : MA [t] []
  | loop {t l c s} : t.loop c.toNat = true → MA (t :: l) s → MA (t :: l) (c :: s)
  | step {t l c s} : t.step c.toNat = true → MA l s → MA (t :: l) (c :: s)
theorem MA.nil_iff {t : MSt} {l : List MSt} : MA (t :: l) [] ↔ l = [] := by
  constructor
  · intro h; cases h; rfl
  · rintro rfl; exact .last
theorem MA.cons_iff {t : MSt} {l : List MSt} {c : UInt8} {s : List UInt8} : MA (t :: l) (c :: s) ↔ (t.loop c.toNat = true ∧ MA (t :: l) s) ∨ (t.step c.toNat = true ∧ MA l s) := by
  constructor
  · intro h
    cases h with
    | loop h1 h2 => exact .inl ⟨h1, h2⟩
    | step h1 h2 => exact .inr ⟨h1, h2⟩
  · rintro (⟨h1, h2⟩ | ⟨h1, h2⟩)
    · exact .loop h1 h2
    · exact .step h1 h2
theorem MA.empty {s : List UInt8} : ¬ MA [] s := fun h => by cases h
theorem accB_u8 (e : GE) (c : UInt8) : accB e c.toNat = fitsB e c := by
  unfold accB
  congr 1
  simp
/-- Bytes that one of two many-elements matches beside the other add nothing. -/
theorem absorb_left {e f : GE} {l : List GE} (he : manyB e = true) (hf : manyB f = true) (h : ∀ c, fitsB e c = true → fitsB f c = true) : ∀ s, GM (e :: f :: l) s ↔ GM (f :: l) s
  | [] => by rw [GM.many_iff he]; simp
  | c :: s => by
    rw [GM.many_iff he]
    constructor
    · rintro (g | ⟨d, r, e1, e2, e3⟩)
      · exact g
      · injection e1 with e1 e4; subst e1; subst e4
        exact .stay hf (h _ e2) ((absorb_left he hf h s).1 e3)
    · intro g
      exact .inl g
theorem absorb_right {e f : GE} {l : List GE} (he : manyB e = true) (hf : manyB f = true) (h : ∀ c, fitsB e c = true → fitsB f c = true) : ∀ s, GM (f :: e :: l) s ↔ GM (f :: l) s
  | [] => by rw [GM.many_iff hf, GM.many_iff hf, GM.many_iff he]; simp
  | c :: s => by
    have ih := absorb_right (l := l) he hf h s
    rw [GM.many_iff hf]
    constructor
    · rintro (g | ⟨d, r, e1, e2, e3⟩)
      · rcases (GM.many_iff he).1 g with g | ⟨d, r, e1, e2, e3⟩
        · exact .skip hf g
        · injection e1 with e1 e4; subst e1; subst e4
          exact .stay hf (h _ e2) (ih.1 (.skip hf e3))
      · injection e1 with e1 e4; subst e1; subst e4
        exact .stay hf e2 (ih.1 e3)
    · intro g
      rcases (GM.many_iff hf).1 g with g | ⟨d, r, e1, e2, e3⟩
      · exact .inl (.skip he g)
      · injection e1 with e1 e4; subst e1; subst e4
        exact .inr ⟨_, _, rfl, e2, ih.2 e3⟩
/-- The loop that a many-element in front stands for. -/
def optL : Option GE → List GE
  | none => []
  | some e => [e]
def optS : Option GE → Nat → Bool
  | none => noS
  | some e => accB e
def joinO (o : Option GE) (x : GE) : GE := match o with
  | none => x
  | some e => if e.kind = 1 then e else x
theorem many_kind {e : GE} (h : manyB e = true) : e.kind = 1 ∨ e.kind = 2 := by
  unfold manyB at h
  simpa using h
theorem fits_k1 {e : GE} (h : e.kind = 1) (c : UInt8) : fitsB e c = true := by unfold fitsB; simp [h]
theorem fits_k2 {e : GE} (h : e.kind = 2) (c : UInt8) : fitsB e c = (c != 47) := by unfold fitsB; simp [h]
theorem join_set (o : Option GE) (x : GE) (ho : ∀ e, o = some e → manyB e = true) (hx : manyB x = true) : ∀ c : UInt8, orS (optS o) (accB x) c.toNat = accB (joinO o x) c.toNat := by
  intro c
  cases o with
  | none => show (false || _) = _; simp [joinO]
  | some e =>
    show (accB e c.toNat || accB x c.toNat) = accB (if e.kind = 1 then e else x) c.toNat
    rw [accB_u8, accB_u8]
    split
    · rename_i h
      rw [accB_u8, fits_k1 h]; simp
    · rename_i h
      have h2 : e.kind = 2 := by rcases many_kind (ho e rfl) with h1 | h1; exact absurd h1 h; exact h1
      rw [accB_u8, fits_k2 h2]
      rcases many_kind hx with h1 | h1
      · rw [fits_k1 h1]; simp
      · rw [fits_k2 h1]; simp
theorem join_many (o : Option GE) (x : GE) (ho : ∀ e, o = some e → manyB e = true) (hx : manyB x = true) : manyB (joinO o x) = true := by
  cases o with
  | none => exact hx
  | some e => show manyB (if e.kind = 1 then e else x) = true; split; exact ho e rfl; exact hx
theorem join_gm (o : Option GE) (x : GE) (l : List GE) (s : List UInt8) (ho : ∀ e, o = some e → manyB e = true) (hx : manyB x = true) : GM (optL o ++ x :: l) s ↔ GM (joinO o x :: l) s := by
  cases o with
  | none => exact Iff.rfl
  | some e =>
    show GM (e :: x :: l) s ↔ GM ((if e.kind = 1 then e else x) :: l) s
    have he := ho e rfl
    split
    · rename_i h
      exact absorb_right hx he (fun c _ => fits_k1 h c) s
    · rename_i h
      have h2 : e.kind = 2 := by rcases many_kind he with h1 | h1; exact absurd h1 h; exact h1
      refine absorb_left he hx (fun c hc => ?_) s
      rcases many_kind hx with h1 | h1
      · exact fits_k1 h1 c
      · rw [fits_k2 h1, ← fits_k2 h2]; exact hc
/-- Sets that agree on bytes make states that match the same. -/
def eqS (f g : Nat → Bool) : Prop := ∀ c : UInt8, f c.toNat = g c.toNat
theorem MA_head {t t' : MSt} {l : List MSt} (h1 : eqS t.step t'.step) (h2 : eqS t.loop t'.loop) : ∀ s, MA (t :: l) s ↔ MA (t' :: l) s
  | [] => by rw [MA.nil_iff, MA.nil_iff]
  | c :: s => by rw [MA.cons_iff, MA.cons_iff, h1 c, h2 c, MA_head h1 h2 s]
theorem machR_congr : ∀ (l : List GE) (f g : Nat → Bool), eqS f g → ∀ s, MA (machR f l) s ↔ MA (machR g l) s
  | [], f, g, h, s => by rw [machR, machR]; exact MA_head (t := ⟨noS, f⟩) (t' := ⟨noS, g⟩) (fun _ => rfl) h s
  | x :: l, f, g, h, s => by
    rw [machR, machR]
    split
    · exact machR_congr l _ _ (fun c => by unfold orS; rw [h c]) s
    · exact MA_head (t := ⟨accB x, f⟩) (t' := ⟨accB x, g⟩) (fun _ => rfl) h s
theorem GM_all {e : GE} (he : manyB e = true) : ∀ s : List UInt8, GM [e] s ↔ MA [⟨noS, accB e⟩] s
  | [] => by rw [GM.many_iff he, MA.nil_iff, GM.nil_iff]; simp
  | c :: s => by
    rw [GM.many_iff he, MA.cons_iff, GM.nil_iff]
    have ih := GM_all he s
    constructor
    · rintro (h | ⟨d, r, e1, e2, e3⟩)
      · cases h
      · injection e1 with e1 e4; subst e1; subst e4
        exact .inl ⟨(accB_u8 e _).trans e2, ih.1 e3⟩
    · rintro (⟨h1, h2⟩ | ⟨h1, _⟩)
      · exact .inr ⟨_, _, rfl, (accB_u8 e _).symm.trans h1, ih.2 h2⟩
      · cases h1
theorem machR_gm : ∀ (l : List GE) (o : Option GE), (∀ e, o = some e → manyB e = true) → ∀ s, MA (machR (optS o) l) s ↔ GM (optL o ++ l) s
  | [], none, _, s => by
    rw [machR]
    show MA [⟨noS, noS⟩] s ↔ GM [] s
    rw [GM.nil_iff]
    cases s with
    | nil => rw [MA.nil_iff]; simp
    | cons c s =>
      rw [MA.cons_iff]
      constructor
      · rintro (⟨h, _⟩ | ⟨h, _⟩) <;> cases h
      · intro h; cases h
  | [], some e, ho, s => by
    rw [machR]
    exact (GM_all (ho e rfl) s).symm
  | x :: l, o, ho, s => by
    rw [machR]
    by_cases hx : manyB x = true
    · rw [if_pos hx, join_gm o x l s ho hx]
      rw [machR_congr l _ (optS (some (joinO o x))) (fun c => join_set o x ho hx c) s]
      exact machR_gm l (some (joinO o x)) (fun e h => by injection h with h; subst h; exact join_many o x ho hx) s
    · rw [if_neg hx]
      have hx : manyB x = false := by simpa using hx
      have ih : ∀ s, MA (machR noS l) s ↔ GM l s := machR_gm l none (fun e h => by cases h)
      induction s with
      | nil =>
        rw [MA.nil_iff]
        constructor
        · intro h
          have : machR noS l ≠ [] := by
            have : ∀ (l : List GE) (f : Nat → Bool), machR f l ≠ [] := by
              intro l
              induction l with
              | nil => intro f; rw [machR]; simp
              | cons y l ihl => intro f; rw [machR]; split; exact ihl _; simp
            exact this l noS
          exact absurd h this
        · intro h
          cases o with
          | none => obtain ⟨c, r, e, _⟩ := (GM.one_iff hx).1 h; cases e
          | some e =>
            rcases (GM.many_iff (ho e rfl)).1 h with h | ⟨c, r, e1, _⟩
            · obtain ⟨c, r, e, _⟩ := (GM.one_iff hx).1 h; cases e
            · cases e1
      | cons c s ihs =>
        rw [MA.cons_iff]
        show (optS o c.toNat = true ∧ _) ∨ (accB x c.toNat = true ∧ _) ↔ _
        rw [accB_u8, propext ihs, propext (ih s)]
        cases o with
        | none =>
          constructor
          · rintro (⟨h, _⟩ | ⟨h1, h2⟩)
            · cases h
            · exact .one hx h1 h2
          · intro h
            obtain ⟨d, r, e1, e2, e3⟩ := (GM.one_iff hx).1 h
            injection e1 with e1 e4; subst e1; subst e4
            exact .inr ⟨e2, e3⟩
        | some e =>
          show (accB e c.toNat = true ∧ GM (e :: x :: l) s) ∨ _ ↔ GM (e :: x :: l) (c :: s)
          rw [accB_u8, GM.many_iff (ho e rfl) (s := c :: s)]
          constructor
          · rintro (⟨h1, h2⟩ | ⟨h1, h2⟩)
            · exact .inr ⟨c, s, rfl, h1, h2⟩
            · exact .inl (.one hx h1 h2)
          · rintro (h | ⟨d, r, e1, e2, e3⟩)
            · obtain ⟨d, r, e1, e2, e3⟩ := (GM.one_iff hx).1 h
              injection e1 with e1 e4; subst e1; subst e4
              exact .inr ⟨e2, e3⟩
            · injection e1 with e1 e4; subst e1; subst e4
              exact .inl ⟨e2, e3⟩
/-- The machine of a pattern matches what the pattern matches. -/
theorem mach_gm (l : List GE) (s : List UInt8) : MA (machR noS l) s ↔ GM l s := machR_gm l none (fun e h => by cases h) s
theorem machR_ne : ∀ (l : List GE) (f : Nat → Bool), machR f l ≠ []
  | [], f => by rw [machR]; simp
  | x :: l, f => by rw [machR]; split; exact machR_ne l _; simp
theorem machR_len : ∀ (l : List GE) (f : Nat → Bool), (machR f l).length ≤ l.length + 1
  | [], f => by rw [machR]; simp
  | x :: l, f => by
    rw [machR]
    split
    · have := machR_len l (orS f (accB x)); simp; omega
    · have := machR_len l noS; simp; omega
/-- The last state has no step. -/
theorem machR_last : ∀ (l : List GE) (f : Nat → Bool) (h : machR f l ≠ []), ((machR f l).getLast h).step = noS
  | [], f, h => rfl
  | x :: l, f, h => by
    by_cases hx : manyB x = true
    · have e : machR f (x :: l) = machR (orS f (accB x)) l := by rw [machR, if_pos hx]
      have := machR_last l (orS f (accB x)) (machR_ne _ _)
      simp only [e]
      exact this
    · have e : machR f (x :: l) = ⟨accB x, f⟩ :: machR noS l := by rw [machR, if_neg hx]
      have := machR_last l noS (machR_ne _ _)
      simp only [e]
      rw [List.getLast_cons (machR_ne _ _)]
      exact this
end Go.Proofs.Ytaalfnfikjmomaa
