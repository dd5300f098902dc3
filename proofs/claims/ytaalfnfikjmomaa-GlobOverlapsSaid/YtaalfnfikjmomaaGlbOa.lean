/- Two machines at once: pairs of states, and what the search through them finds. No function of the program is named. -/
import Derived.Test.YtaalfnfikjmomaaGlbK
import Derived.Test.YtaalfnfikjmomaaGlbS
namespace Go.Proofs.Ytaalfnfikjmomaa

def mts (f g : Nat → Bool) : Bool := decide (meetsN f g ≠ 0)
theorem mts_iff {f g : Nat → Bool} : mts f g = true ↔ ∃ c : UInt8, f c.toNat = true ∧ g c.toNat = true := by
  unfold mts
  rw [decide_eq_true_iff, meetsN_iff]
  constructor
  · rintro ⟨c, hc, h1, h2⟩
    refine ⟨c.toUInt8, ?_, ?_⟩
    · rw [show c.toUInt8.toNat = c by simp; omega]; exact h1
    · rw [show c.toUInt8.toNat = c by simp; omega]; exact h2
  · rintro ⟨c, h1, h2⟩
    exact ⟨c.toNat, c.toNat_lt, h1, h2⟩
/-- The pairs to which one byte leads. -/
def succS (x y : MSt) (p : Nat × Nat) : List (Nat × Nat) :=
  (if mts x.loop y.step then [(p.1, p.2 + 1)] else []) ++ (if mts x.step y.loop then [(p.1 + 1, p.2)] else []) ++ (if mts x.step y.step then [(p.1 + 1, p.2 + 1)] else [])
def succL (M N : List MSt) (p : Nat × Nat) : List (Nat × Nat) := match M[p.1]?, N[p.2]? with
  | some x, some y => succS x y p
  | _, _ => []
theorem succL_at {M N : List MSt} {p : Nat × Nat} (h1 : p.1 < M.length) (h2 : p.2 < N.length) : succL M N p = succS M[p.1] N[p.2] p := by
  unfold succL
  rw [List.getElem?_eq_getElem h1, List.getElem?_eq_getElem h2]
inductive RT (M N : List MSt) : Nat × Nat → Nat × Nat → Prop
  | refl {p} : RT M N p p
  | step {p q r} : q ∈ succL M N p → RT M N q r → RT M N p r
theorem RT.snoc {M N : List MSt} {p q r : Nat × Nat} (h : RT M N p q) (hr : r ∈ succL M N q) : RT M N p r := by
  induction h with
  | refl => exact .step hr .refl
  | step h1 _ ih => exact .step h1 (ih hr)
theorem RT.never {M N : List MSt} {V : Nat × Nat → Prop} {e : Nat × Nat} (hV : ∀ p, V p → ∀ q ∈ succL M N p, V q ∧ q ≠ e) : ∀ {p r : Nat × Nat}, RT M N p r → V p → p ≠ e → r ≠ e := by
  intro p r h
  induction h with
  | refl => exact fun _ h => h
  | step h1 _ ih => exact fun hp _ => ih (hV _ hp _ h1).1 (hV _ hp _ h1).2
theorem mem_succS {x y : MSt} {p q : Nat × Nat} : q ∈ succS x y p ↔ (mts x.loop y.step = true ∧ q = (p.1, p.2 + 1)) ∨ (mts x.step y.loop = true ∧ q = (p.1 + 1, p.2)) ∨ (mts x.step y.step = true ∧ q = (p.1 + 1, p.2 + 1)) := by
  unfold succS
  rw [List.mem_append, List.mem_append]
  cases mts x.loop y.step <;> cases mts x.step y.loop <;> cases mts x.step y.step <;> simp [or_assoc]
/-- A machine whose last state leads nowhere, and that has a state. -/
structure Mach (M : List MSt) : Prop where
  ne : M ≠ []
  last : ∀ j (h : j < M.length), j + 1 = M.length → M[j].step = noS
theorem mach_is (l : List GE) : Mach (machR noS l) := by
  refine ⟨machR_ne l noS, fun j h e => ?_⟩
  have := machR_last l noS (machR_ne l noS)
  rw [List.getLast_eq_getElem] at this
  have e2 : j = (machR noS l).length - 1 := by omega
  subst e2
  exact this
theorem noS_mts {f : Nat → Bool} : mts noS f = false := by
  cases h : mts noS f with
  | false => rfl
  | true => obtain ⟨c, h1, _⟩ := mts_iff.1 h; cases h1
theorem mts_noS {f : Nat → Bool} : mts f noS = false := by
  cases h : mts f noS with
  | false => rfl
  | true => obtain ⟨c, _, h1⟩ := mts_iff.1 h; cases h1
theorem succ_lt {M N : List MSt} (hM : Mach M) (hN : Mach N) {p q : Nat × Nat} (h1 : p.1 < M.length) (h2 : p.2 < N.length) (hq : q ∈ succL M N p) : q.1 < M.length ∧ q.2 < N.length := by
  rw [succL_at h1 h2, mem_succS] at hq
  have hm : ∀ f, mts M[p.1].step f = true → p.1 + 1 < M.length := fun f h => by
    apply Nat.lt_of_not_le
    intro hle
    rw [hM.last _ h1 (by omega), noS_mts] at h
    cases h
  have hn : ∀ f, mts f N[p.2].step = true → p.2 + 1 < N.length := fun f h => by
    apply Nat.lt_of_not_le
    intro hle
    rw [hN.last _ h2 (by omega), mts_noS] at h
    cases h
  rcases hq with ⟨h, rfl⟩ | ⟨h, rfl⟩ | ⟨h, rfl⟩
  · exact ⟨h1, hn _ h⟩
  · exact ⟨hm _ h, h2⟩
  · exact ⟨hm _ h, hn _ h⟩
theorem rt_of_string {M N : List MSt} : ∀ (s : List UInt8) (a b : Nat), a < M.length → b < N.length → MA (M.drop a) s → MA (N.drop b) s → RT M N (a, b) (M.length - 1, N.length - 1)
  | [], a, b, ha, hb, h1, h2 => by
    rw [List.drop_eq_getElem_cons ha, MA.nil_iff] at h1
    rw [List.drop_eq_getElem_cons hb, MA.nil_iff] at h2
    have e1 := congrArg List.length h1
    have e2 := congrArg List.length h2
    rw [List.length_drop, List.length_nil] at e1 e2
    rw [show a = M.length - 1 by omega, show b = N.length - 1 by omega]
    exact .refl
  | c :: s, a, b, ha, hb, h1, h2 => by
    have hsucc := succL_at (M := M) (N := N) (p := (a, b)) ha hb
    have lt1 : ∀ {s}, MA (M.drop (a + 1)) s → a + 1 < M.length := fun h => by
      apply Nat.lt_of_not_le
      intro hle
      rw [List.drop_eq_nil_of_le hle] at h
      exact MA.empty h
    have lt2 : ∀ {s}, MA (N.drop (b + 1)) s → b + 1 < N.length := fun h => by
      apply Nat.lt_of_not_le
      intro hle
      rw [List.drop_eq_nil_of_le hle] at h
      exact MA.empty h
    have h1' := h1
    have h2' := h2
    rw [List.drop_eq_getElem_cons ha] at h1
    rw [List.drop_eq_getElem_cons hb] at h2
    rcases MA.cons_iff.1 h1 with ⟨p1, q1⟩ | ⟨p1, q1⟩ <;> rcases MA.cons_iff.1 h2 with ⟨p2, q2⟩ | ⟨p2, q2⟩
    · exact rt_of_string s a b ha hb (by rw [List.drop_eq_getElem_cons ha]; exact q1) (by rw [List.drop_eq_getElem_cons hb]; exact q2)
    · refine .step (q := (a, b + 1)) ?_ (rt_of_string s a (b + 1) ha (lt2 q2) (by rw [List.drop_eq_getElem_cons ha]; exact q1) q2)
      rw [hsucc, mem_succS]
      exact .inl ⟨mts_iff.2 ⟨c, p1, p2⟩, rfl⟩
    · refine .step (q := (a + 1, b)) ?_ (rt_of_string s (a + 1) b (lt1 q1) hb q1 (by rw [List.drop_eq_getElem_cons hb]; exact q2))
      rw [hsucc, mem_succS]
      exact .inr (.inl ⟨mts_iff.2 ⟨c, p1, p2⟩, rfl⟩)
    · refine .step (q := (a + 1, b + 1)) ?_ (rt_of_string s (a + 1) (b + 1) (lt1 q1) (lt2 q2) q1 q2)
      rw [hsucc, mem_succS]
      exact .inr (.inr ⟨mts_iff.2 ⟨c, p1, p2⟩, rfl⟩)
theorem string_of_rt {M N : List MSt} (hM : Mach M) (hN : Mach N) {p r : Nat × Nat} (h : RT M N p r) : p.1 < M.length → p.2 < N.length → r = (M.length - 1, N.length - 1) → ∃ s, MA (M.drop p.1) s ∧ MA (N.drop p.2) s := by
  induction h with
  | refl =>
    rintro h1 h2 rfl
    refine ⟨[], ?_, ?_⟩
    · rw [List.drop_eq_getElem_cons h1, MA.nil_iff]; exact List.drop_eq_nil_of_le (by simp at h1 ⊢; omega)
    · rw [List.drop_eq_getElem_cons h2, MA.nil_iff]; exact List.drop_eq_nil_of_le (by simp at h2 ⊢; omega)
  | @step p q r hq _ ih =>
    intro h1 h2 hr
    obtain ⟨l1, l2⟩ := succ_lt hM hN h1 h2 hq
    obtain ⟨s, a1, a2⟩ := ih l1 l2 hr
    rw [succL_at h1 h2, mem_succS] at hq
    rcases hq with ⟨h, rfl⟩ | ⟨h, rfl⟩ | ⟨h, rfl⟩
    · obtain ⟨c, b1, b2⟩ := mts_iff.1 h
      refine ⟨c :: s, ?_, ?_⟩
      · rw [List.drop_eq_getElem_cons h1] at a1 ⊢; exact .loop b1 a1
      · rw [List.drop_eq_getElem_cons h2]; exact .step b2 a2
    · obtain ⟨c, b1, b2⟩ := mts_iff.1 h
      refine ⟨c :: s, ?_, ?_⟩
      · rw [List.drop_eq_getElem_cons h1]; exact .step b1 a1
      · rw [List.drop_eq_getElem_cons h2] at a2 ⊢; exact .loop b2 a2
    · obtain ⟨c, b1, b2⟩ := mts_iff.1 h
      refine ⟨c :: s, ?_, ?_⟩
      · rw [List.drop_eq_getElem_cons h1]; exact .step b1 a1
      · rw [List.drop_eq_getElem_cons h2]; exact .step b2 a2
/-- Some string matches both. -/
theorem rt_iff {M N : List MSt} (hM : Mach M) (hN : Mach N) : RT M N (0, 0) (M.length - 1, N.length - 1) ↔ ∃ s, MA M s ∧ MA N s := by
  have l1 := List.length_pos_iff.2 hM.ne
  have l2 := List.length_pos_iff.2 hN.ne
  constructor
  · intro h
    obtain ⟨s, h1, h2⟩ := string_of_rt hM hN h l1 l2 rfl
    exact ⟨s, by simpa using h1, by simpa using h2⟩
  · rintro ⟨s, h1, h2⟩
    exact rt_of_string s 0 0 l1 l2 (by simpa using h1) (by simpa using h2)
end Go.Proofs.Ytaalfnfikjmomaa
