/- What first answers is what the token at the head is (pure). -/
import Derived.Test.YtoliiiijbdoliaaDoorLexJ
namespace Go.Proofs.YtoliiiijbdoliaaDoor
open Go.RowKit Go.Lib
set_option linter.unusedVariables false

theorem cls_let {c : UInt8} (h : letB c = true) : clsK (c.toNat : Int) = 1 := by
  have : (97 ≤ (c.toNat : Int) ∧ (c.toNat : Int) ≤ 122) ∨ (65 ≤ (c.toNat : Int) ∧ (c.toNat : Int) ≤ 90) ∨ (c.toNat : Int) = 95 := by
    unfold letB at h
    simp only [Bool.or_eq_true, Bool.and_eq_true, decide_eq_true_eq] at h
    omega
  unfold clsK
  rw [if_pos this]
theorem cls_not {c : UInt8} (h : letB c = false) : ¬ ((97 ≤ (c.toNat : Int) ∧ (c.toNat : Int) ≤ 122) ∨ (65 ≤ (c.toNat : Int) ∧ (c.toNat : Int) ≤ 90) ∨ (c.toNat : Int) = 95) := by
  intro g
  unfold letB at h
  simp at h
  omega
theorem dig_let {c : UInt8} (h : dgB c = true) : letB c = false := by
  unfold dgB at h
  unfold letB
  simp at h ⊢
  omega
theorem cls_dig {c : UInt8} (h : dgB c = true) : clsK (c.toNat : Int) = 2 := by
  have h1 := cls_not (dig_let h)
  unfold dgB at h
  simp at h
  unfold clsK
  rw [if_neg h1, if_pos (by omega)]
theorem cls_op {c : UInt8} (h1 : letB c = false) (h2 : dgB c = false) (h3 : c ≠ 34) (h4 : c ≠ 10) : clsK (c.toNat : Int) = 4 := by
  have g1 := cls_not h1
  unfold dgB at h2
  simp at h2
  unfold clsK
  rw [if_neg g1, if_neg (by omega), if_neg, if_neg]
  · intro e
    exact h4 (u8_of (n := 10) (by decide) (by omega))
  · intro e
    exact h3 (u8_of (n := 34) (by decide) (by omega))
theorem undec_ge : ∀ (l : List UInt8) (acc : Nat), acc * 10 ^ l.length ≤ l.foldl (fun a c => 10 * a + (c.toNat - 48)) acc
  | [], acc => by simp
  | c :: r, acc => by
    have h := undec_ge r (10 * acc + (c.toNat - 48))
    rw [List.foldl_cons, List.length_cons, Nat.pow_succ]
    refine Nat.le_trans ?_ h
    rw [Nat.mul_comm (10 ^ r.length) 10, ← Nat.mul_assoc, Nat.mul_comm acc 10]
    exact Nat.mul_le_mul_right _ (Nat.le_add_right _ _)
theorem undec_len {c : UInt8} {r : List UInt8} (hc : dgB c = true) (h0 : ¬ (1 < (c :: r).length ∧ c = 48)) (hu : undec (c :: r) ≤ 9007199254740992) : (c :: r).length ≤ 16 := by
  by_cases h1 : 1 < (c :: r).length
  · have hc0 : c ≠ 48 := fun e => h0 ⟨h1, e⟩
    have hcn : 1 ≤ c.toNat - 48 := by
      unfold dgB at hc
      simp at hc
      have : c.toNat ≠ 48 := fun e => hc0 (u8_of (n := 48) (by decide) e)
      omega
    have h2 := undec_ge r (c.toNat - 48)
    have h3 : undec (c :: r) = r.foldl (fun a c => 10 * a + (c.toNat - 48)) (c.toNat - 48) := by
      unfold undec
      rw [List.foldl_cons, Nat.mul_zero, Nat.zero_add]
    rw [h3] at hu
    have h4 : 10 ^ r.length ≤ 9007199254740992 := Nat.le_trans (Nat.le_trans (by rw [Nat.mul_comm]; exact Nat.le_mul_of_pos_right _ hcn) h2) hu
    apply Classical.byContradiction
    intro hlt
    have h5 : 16 ≤ r.length := by
      rw [List.length_cons] at hlt
      omega
    have h6 : (10 : Nat) ^ 16 ≤ 10 ^ r.length := Nat.pow_le_pow_right (by decide) h5
    have h7 : (10 : Nat) ^ 16 = 10000000000000000 := by decide
    omega
  · omega
theorem tw_sub {p q : UInt8 → Bool} (h : ∀ c, p c = true → q c = true) : ∀ l : List UInt8, (l.takeWhile p).length ≤ (l.takeWhile q).length ∧ ((l.takeWhile q).all p = true → l.takeWhile p = l.takeWhile q) ∧ ((l.takeWhile q).all p = false → (l.takeWhile p).length < (l.takeWhile q).length)
  | [] => by simp
  | c :: r => by
    obtain ⟨i1, i2, i3⟩ := tw_sub h r
    rw [List.takeWhile_cons, List.takeWhile_cons]
    cases hp : p c
    · cases hq : q c
      · simp
      · simp only [Bool.false_eq_true, if_false, if_true]
        refine ⟨by simp, fun g => ?_, fun _ => by simp⟩
        rw [List.all_cons, hp] at g
        cases g
    · rw [h c hp]
      simp only [if_true]
      refine ⟨by simpa using i1, fun g => ?_, fun g => ?_⟩
      · rw [List.all_cons, hp, Bool.true_and] at g
        rw [i2 g]
      · rw [List.all_cons, hp, Bool.true_and] at g
        have := i3 g
        simpa using this
/-- What first answers is what the token at the head is. -/
theorem firF_tok (c : UInt8) (r : List UInt8) (hc : c ≠ 10) : (tokA (c :: r)).2.2.2 = (firF (c :: r)).2.2.2 ∧ ((firF (c :: r)).2.2.2 = 0 → tokA (c :: r) = firF (c :: r)) := by
  rw [tokA_cons, firF_cons]
  cases hd : dgB c
  · simp only [Bool.false_eq_true, if_false]
    by_cases h34 : c = 34
    · subst h34
      rw [if_pos rfl, if_pos (show clsK (((34 : UInt8).toNat : Nat) : Int) = 3 from by decide), txtN_U]
      obtain ⟨x, n, e⟩ := txtU (r.length + 1) r [] 1
      simp only
      by_cases he : e = 0
      · subst he
        rw [if_pos rfl]
        by_cases hx : 4096 < x.length
        · rw [if_pos ⟨rfl, hx⟩]
          have hv : vtE 3 x = 3 := by
            show (if 4096 < x.length then 3 else 0) = 3
            rw [if_pos hx]
          simp only [strA, hv]
          exact ⟨rfl, fun h => by cases h⟩
        · rw [if_neg (fun h => hx h.2)]
          have hv : vtE 3 x = 0 := by
            show (if 4096 < x.length then 3 else 0) = 0
            rw [if_neg hx]
          rw [hv]
          simp [strA]
      · rw [if_neg he, if_neg (fun h => he h.1)]
        simp only [strA, if_neg he]
        exact ⟨trivial, fun h => absurd h he⟩
    · rw [if_neg h34]
      cases hl : letB c
      · simp only [Bool.false_eq_true, if_false]
        have hk := cls_op hl hd h34 hc
        rw [hk, if_neg (by decide), if_neg (by decide), if_pos rfl, opsF_opL]
        have hle := opL_le (c :: r)
        unfold opA
        by_cases h0 : opL (c :: r) = 0
        · rw [if_pos h0, h0]
          exact ⟨rfl, fun h => by cases h⟩
        · rw [if_neg h0]
          have hne : (c :: r).take (opL (c :: r)) ≠ [] := by
            intro e
            have := congrArg List.length e
            rw [List.length_take] at this
            simp at this
            omega
          have hv : vtE 4 ((c :: r).take (opL (c :: r))) = 0 := by
            show (if (c :: r).take (opL (c :: r)) = [] then 5 else 0) = 0
            rw [if_neg hne]
          rw [hv, List.length_take, Nat.min_eq_left hle]
          exact ⟨rfl, fun _ => rfl⟩
      · have hk := cls_let hl
        rw [hk]
        simp only [if_true]
        rw [if_neg (by decide), if_neg (by decide), if_neg (by decide)]
        generalize (c :: r).takeWhile wrdB = d
        unfold namA
        have hv : vtE 1 d = if 64 < d.length then 3 else 0 := rfl
        by_cases hx : 64 < d.length
        · rw [hv, if_pos hx, if_pos hx]
          exact ⟨rfl, fun h => by cases h⟩
        · rw [hv, if_neg hx, if_neg hx]
          exact ⟨rfl, fun _ => rfl⟩
  · have hk := cls_dig hd
    rw [hk]
    simp only [if_true]
    rw [if_neg (by decide), if_neg (by decide), if_neg (by decide)]
    have hw : wrdB c = true := by unfold wrdB; rw [hd, Bool.or_true]
    obtain ⟨i1, i2, i3⟩ := tw_sub (p := dgB) (q := wrdB) (fun c h => by unfold wrdB; rw [h, Bool.or_true]) (c :: r)
    have hcw : (c :: r).takeWhile wrdB = c :: r.takeWhile wrdB := by rw [List.takeWhile_cons, hw]; rfl
    have hv : vtE 2 ((c :: r).takeWhile wrdB) = numE ((c :: r).takeWhile wrdB) := rfl
    rw [hv]
    cases ha : ((c :: r).takeWhile wrdB).all dgB
    · have h5 := i3 ha
      unfold numA numE
      rw [if_pos (.inl h5), if_pos (.inl ha)]
      exact ⟨rfl, fun h => by cases h⟩
    · rw [i2 ha]
      rw [hcw] at ha ⊢
      generalize r.takeWhile wrdB = d at *
      unfold numA numE
      by_cases h0 : 1 < (c :: d).length ∧ c = 48
      · rw [if_pos (.inr h0), if_pos (.inr ⟨h0.1, by rw [h0.2]; rfl⟩)]
        exact ⟨rfl, fun h => by cases h⟩
      · have n1 : ¬ ((c :: d).length < (c :: d).length ∨ 1 < (c :: d).length ∧ c = 48) := fun h => h.elim (Nat.lt_irrefl _) h0
        have n2 : ¬ ((c :: d).all dgB = false ∨ 1 < (c :: d).length ∧ (c :: d).head? = some 48) := fun h => h.elim (fun g => by rw [ha] at g; cases g) (fun g => h0 ⟨g.1, by simpa using g.2⟩)
        rw [if_neg n1, if_neg n2]
        by_cases hu : 9007199254740992 < undec (c :: d)
        · rw [if_pos hu, if_neg]
          · exact ⟨rfl, fun h => by cases h⟩
          · unfold intB
            simp
            intros
            omega
        · rw [if_neg hu]
          have h16 := undec_len hd h0 (Nat.le_of_not_lt hu)
          have hi : intB (c :: d) = true := by
            unfold intB
            rw [ha, decide_eq_true h16, decide_eq_true (Nat.le_of_not_lt hu)]
            simp only [List.isEmpty_cons, Bool.not_false, Bool.true_and, Bool.and_true, Bool.not_eq_true', Bool.and_eq_false_iff, decide_eq_false_iff_not, List.head?_cons, Option.some.injEq]
            apply Classical.byContradiction
            intro hn
            exact h0 ⟨Classical.byContradiction fun g => hn (.inl g), Classical.byContradiction fun g => hn (.inr g)⟩
          rw [if_pos hi]
          exact ⟨rfl, fun _ => rfl⟩
end Go.Proofs.YtoliiiijbdoliaaDoor
