/- Contracts of functions of the program, and what they are made of (parser; Pk06). -/
import Derived.Test.YtjehhldboopocaaGreatDoorPk03
import Derived.Test.YtjehhldboopocaaGreatDoorRows
import Derived.WalkKit
import Derived.WalkSpells
import Derived.WalkLawsBesides
import Derived.OwnWalk
import Derived.Lib.Hide
import Derived.Deep.DeepFit
import Derived.Outline
import Derived.WalkSmall
import Derived.ProofKit
import Derived.OpenShut
import Derived.Deep.Strs
import Derived.Laws.AppendOwn
import Derived.BigQuiet
import Derived.Deep.QuietTactic
import Derived.Deep.DeepCutAuto
import Derived.Deep.CutBlock
namespace Go.Proofs.YtjehhldboopocaaGreatDoor.Lx
open Go.RowKit Go.Lib
/-- Numbers that ascend between two bounds are no more than lie there. -/
theorem asc_len : ∀ (l : List Tk) (a n : Nat), (∀ t, t ∈ l → a ≤ t.at_ ∧ t.at_ < a + n) → l.Pairwise (fun x y => x.at_ < y.at_) → l.length ≤ n
  | [], _, _, _, _ => Nat.zero_le _
  | t :: r, a, n, h, hp => by
    have h0 := h t (List.mem_cons_self ..)
    cases hp with
    | cons h1 h2 =>
      have h3 := asc_len r (t.at_ + 1) (a + n - (t.at_ + 1)) (fun u hu => by
        have h4 := h1 u hu
        have h5 := h u (List.mem_cons_of_mem _ hu)
        omega) h2
      rw [List.length_cons]
      omega
theorem tok3_len (c : UInt8) (r : List UInt8) (h : (tokA (c :: r)).2.2.2 = 0) (h3 : (tokA (c :: r)).1 = 3) : (tokA (c :: r)).2.1.length ≤ 4096 := by
  rw [tokA_cons] at h h3 ⊢
  by_cases h1 : dgB c = true
  · rw [if_pos h1] at h3 h
    unfold numA at h3 h
    split at h3
    · simp at h3
    · rename_i g
      split at h3 <;> simp at h3
  · rw [if_neg h1] at h h3 ⊢
    by_cases h2 : c = 34
    · rw [if_pos h2] at h h3 ⊢
      unfold strA at h h3 ⊢
      by_cases h4 : (txtN (r.length + 1) r [] 1).2.2 = 0
      · rw [if_pos h4]
        exact txt_bound _ _ _ _ h4
      · rw [if_neg h4] at h
        exact absurd h h4
    · rw [if_neg h2] at h3
      by_cases h5 : letB c = true
      · rw [if_pos h5] at h3
        unfold namA at h3
        split at h3 <;> simp at h3
      · rw [if_neg h5] at h3
        unfold opA at h3
        split at h3 <;> simp at h3
theorem wf_text {o : Nat} {nl : Bool} {ts : List Tk} (h : Wf o nl ts) : ∀ t, t ∈ ts → (t.kind = 5 → t.text = []) ∧ (t.kind = 3 → t.text.length ≤ 4096) := by
  induction h with
  | nil o nl => intro t ht; simp at ht
  | line t r h5 ht _ ih =>
    intro u hu
    rcases List.mem_cons.1 hu with rfl | hu
    · exact ⟨fun _ => ht, fun h3 => by rw [h5] at h3; exact absurd h3 (by decide)⟩
    · exact ih u hu
  | tok o nl t r hs hw ih =>
    intro u hu
    rcases List.mem_cons.1 hu with rfl | hu
    · obtain ⟨h1, h5, c, w, hcw, _⟩ := hs
      refine ⟨fun e => absurd e h5, fun h3 => ?_⟩
      rw [hcw] at h1
      have h4 := tok3_len c w (by rw [h1]) (by rw [h1]; exact h3)
      rw [h1] at h4
      exact h4
    · exact ih u hu
/-- How long the tokens of a source are, and how many. -/
theorem lexF_size {l : List UInt8} {ts : List Tk} (h : lexF l 0 0 false = .ok ts) : ts.length ≤ l.length ∧ ∀ t, t ∈ ts → t.text.length ≤ l.length + 4096 := by
  obtain ⟨h1, h2⟩ := lexF_at l.length l 0 0 false ts (Nat.le_refl _) h
  have h3 := wf_text (lexF_wf l.length l 0 0 false ts (Nat.le_refl _) h)
  refine ⟨asc_len ts 0 l.length (fun t ht => ⟨(h1 t ht).1, (h1 t ht).2.1⟩) h2, fun t ht => ?_⟩
  obtain ⟨k5, k3⟩ := h3 t ht
  by_cases e3 : t.kind = 3
  · have := k3 e3
    omega
  · by_cases e5 : t.kind = 5
    · rw [k5 e5]
      simp
    · have := ((h1 t ht).2.2 e3 e5).1
      omega
theorem flatC_len4 : ∀ s : List UInt8, (s.flatMap chrL).length ≤ 4 * s.length
  | [] => by simp
  | c :: s => by
    have ih := flatC_len4 s
    have hc : (chrL c).length ≤ 4 := by
      unfold chrL
      repeat' split
      all_goals simp
    rw [List.flatMap_cons, List.length_append, List.length_cons]
    omega
theorem quo_len4 (s : List UInt8) : (quoL s).length ≤ 4 * s.length + 2 := by
  have := flatC_len4 s
  unfold quoL
  rw [List.length_cons, List.length_append, List.length_singleton]
  omega
theorem srcT_len (t : Tk) : (srcT t).length ≤ 4 * t.text.length + 2 := by
  unfold srcT
  split
  · exact quo_len4 _
  · split
    · simp
    · omega
/-- The source of tokens as they lie in memory. -/
def srcM (t : Tm) : List UInt8 := if t.kind = 3 then quoL t.text else if t.kind = 5 then [10] else t.text
def joinM : Bool → List Tm → List UInt8
  | _, [] => []
  | p, t :: r => sepL p t.kind ++ (srcM t ++ joinM (t.kind != 5) r)
def lastP (p : Bool) (l : List Tm) : Bool := match l.getLast? with
  | none => p
  | some t => t.kind != 5
theorem lastP_cons (p : Bool) (t : Tm) (l : List Tm) : lastP p (t :: l) = lastP (t.kind != 5) l := by
  unfold lastP
  cases l with
  | nil => rfl
  | cons u r =>
    rw [List.getLast?_cons_cons]
    cases h : (u :: r).getLast? with
    | none => simp at h
    | some x => rfl
theorem joinM_snoc : ∀ (l : List Tm) (p : Bool) (t : Tm), joinM p (l ++ [t]) = joinM p l ++ (sepL (lastP p l) t.kind ++ srcM t)
  | [], p, t => by simp [joinM, lastP]
  | u :: l, p, t => by
    rw [List.cons_append]
    show sepL p u.kind ++ (srcM u ++ joinM (u.kind != 5) (l ++ [t])) = sepL p u.kind ++ (srcM u ++ joinM (u.kind != 5) l) ++ _
    rw [joinM_snoc l, lastP_cons]
    simp only [List.append_assoc]
theorem joinM_take (l : List Tm) (i : Nat) (h : i < l.length) : joinM false (l.take (i + 1)) = joinM false (l.take i) ++ (sepL (lastP false (l.take i)) l[i].kind ++ srcM l[i]) := by
  rw [List.take_succ_eq_append_getElem h, joinM_snoc]
theorem joinM_mono (l : List Tm) (i : Nat) : (joinM false (l.take i)).length ≤ (joinM false l).length := by
  by_cases h : l.length ≤ i
  · rw [List.take_of_length_le h]
    exact Nat.le_refl _
  · have h1 : i < l.length := by omega
    have ih := joinM_mono l (i + 1)
    rw [joinM_take l i h1, List.length_append] at ih
    omega
termination_by l.length - i
theorem lastP_take (l : List Tm) (i : Nat) (h : i < l.length) : lastP false (l.take i) = (decide (0 < i) && (l[i - 1].kind != 5)) := by
  unfold lastP
  by_cases h0 : i = 0
  · subst h0
    simp
  · rw [List.getLast?_take, if_neg h0, List.getElem?_eq_getElem (by omega)]
    have : decide (0 < i) = true := by simp; omega
    rw [this]
    rfl
end Go.Proofs.YtjehhldboopocaaGreatDoor.Lx
namespace Go.Proofs.YtjehhldboopocaaGreatDoor.Lx
open Go.RowKit Go.Lib
theorem self_lex (t : Tk) (h : SelfT t) : lexF (srcT t) 0 0 false = .ok [⟨t.kind, t.text, 0⟩] := by
  obtain ⟨h1, h5, c, r, hc, h10, h32, h9, h35⟩ := h
  have hi : ignL false (srcT t) = c :: r := by
    rw [hc]
    unfold ignL
    simp [h10, h32, h9, h35]
  rw [lexF_step _ _ _ hi]
  unfold stepR
  rw [if_neg h10, ← hc, h1, if_neg (by simp)]
  have hd : (srcT t).drop (srcT t).length = [] := List.drop_length
  simp only [hd]
  rw [lexF_nil _ _ _ rfl]
  have hl : (srcT t).length = r.length + 1 := by rw [hc]; rfl
  simp [Res.add, hl]
theorem self_kt {t u : Tk} (hk : kt u = kt t) (h : SelfT u) : SelfT t := by
  have h1 : u.kind = t.kind := congrArg Prod.fst hk
  have h2 : u.text = t.text := congrArg Prod.snd hk
  have hs : srcT u = srcT t := by unfold srcT; rw [h1, h2]
  unfold SelfT at h ⊢
  rw [hs, h1, h2] at h
  exact h
theorem lex_self {t u : Tk} (h : lexF (srcT t) 0 0 false = .ok [u]) (hk : kt u = kt t) : (t.kind = 5 ∧ t.text = []) ∨ SelfT t := by
  have hw := lexF_wf _ _ _ _ _ _ (Nat.le_refl _) h
  have h1 : u.kind = t.kind := congrArg Prod.fst hk
  have h2 : u.text = t.text := congrArg Prod.snd hk
  cases hw with
  | line _ _ h5 ht _ => exact .inl ⟨by rw [← h1]; exact h5, by rw [← h2]; exact ht⟩
  | tok _ _ _ _ hs _ => exact .inr (self_kt hk hs)
theorem lex_line : lexF [10] 0 0 false = .ok [⟨5, [], 0⟩] := rfl
theorem self_kind {t : Tk} (h : SelfT t) : t.kind = 1 ∨ t.kind = 2 ∨ t.kind = 3 ∨ t.kind = 4 := by
  obtain ⟨h1, h5, c, r, hc, _⟩ := h
  have := tokA_kind c r (by rw [← hc, h1])
  rw [← hc, h1] at this
  exact this
/-- A name. -/
def nameB (l : List UInt8) : Bool := match l with
  | [] => false
  | c :: r => letB c && (c :: r).all wrdB && decide ((c :: r).length ≤ 64)
theorem let_dig {c : UInt8} (h : letB c = true) : dgB c = false ∧ c ≠ 34 ∧ c ≠ 10 ∧ c ≠ 32 ∧ c ≠ 9 ∧ c ≠ 35 := by
  unfold letB at h
  simp only [Bool.or_eq_true, Bool.and_eq_true, decide_eq_true_eq] at h
  refine ⟨?_, ?_, ?_, ?_, ?_, ?_⟩
  · unfold dgB
    rw [Bool.and_eq_false_iff, decide_eq_false_iff_not, decide_eq_false_iff_not]
    omega
  all_goals
    rintro rfl
    revert h
    decide
theorem dig_head {c : UInt8} (h : dgB c = true) : wrdB c = true ∧ c ≠ 10 ∧ c ≠ 32 ∧ c ≠ 9 ∧ c ≠ 35 := by
  refine ⟨by unfold wrdB; rw [h, Bool.or_true], ?_, ?_, ?_, ?_⟩
  all_goals
    rintro rfl
    revert h
    decide
theorem twA_all {p : UInt8 → Bool} : ∀ {l : List UInt8}, l.all p = true → l.takeWhile p = l
  | [], _ => rfl
  | c :: r, h => by
    simp only [List.all_cons, Bool.and_eq_true] at h
    rw [List.takeWhile_cons, if_pos h.1, twA_all h.2]
theorem allA_tw {p : UInt8 → Bool} : ∀ {l : List UInt8}, l.takeWhile p = l → l.all p = true
  | [], _ => rfl
  | c :: r, h => by
    rw [List.takeWhile_cons] at h
    by_cases hc : p c = true
    · rw [if_pos hc] at h
      injection h with _ h2
      simp only [List.all_cons, hc, Bool.true_and]
      exact allA_tw h2
    · rw [if_neg hc] at h
      exact absurd h (by simp)
theorem num_kind (d w : List UInt8) (c : UInt8) : (numA d w c).1 = 2 ∨ (numA d w c).2.2.2 ≠ 0 := by
  unfold numA
  split
  · exact .inr (by decide)
  · split
    · exact .inl rfl
    · exact .inr (by decide)
theorem str_kind (t : List UInt8 × Nat × Nat) : (strA t).1 = 3 ∨ (strA t).2.2.2 ≠ 0 := by
  unfold strA
  split
  · exact .inl rfl
  · exact .inr (by assumption)
theorem nam_kind (d : List UInt8) : (namA d).1 = 1 ∨ (namA d).2.2.2 ≠ 0 := by
  unfold namA
  split
  · exact .inr (by decide)
  · exact .inl rfl
theorem op_kind (l : List UInt8) : (opA l).1 = 4 ∨ (opA l).2.2.2 ≠ 0 := by
  unfold opA
  split
  · exact .inr (by decide)
  · exact .inl rfl
theorem self_name (s : List UInt8) (a : Nat) : SelfT ⟨1, s, a⟩ ↔ nameB s = true := by
  have hs : srcT ⟨1, s, a⟩ = s := rfl
  unfold SelfT
  rw [hs]
  constructor
  · rintro ⟨h, _, c, r, rfl, _⟩
    rw [tokA_cons] at h
    by_cases hd : dgB c = true
    · rw [if_pos hd] at h
      rcases num_kind ((c :: r).takeWhile dgB) ((c :: r).takeWhile wrdB) c with e | e <;> rw [h] at e <;> exact absurd e (by simp)
    rw [if_neg hd] at h
    by_cases h34 : c = 34
    · rw [if_pos h34] at h
      rcases str_kind (txtN (r.length + 1) r [] 1) with e | e <;> rw [h] at e <;> exact absurd e (by simp)
    rw [if_neg h34] at h
    by_cases hl : letB c = true
    · rw [if_pos hl] at h
      unfold namA at h
      by_cases h64 : 64 < ((c :: r).takeWhile wrdB).length
      · rw [if_pos h64] at h
        exact absurd (congrArg Prod.fst h) (show ¬ ((0 : Int) = 1) by decide)
      · rw [if_neg h64] at h
        have e : (c :: r).takeWhile wrdB = c :: r := congrArg (fun x => x.2.1) h
        rw [e] at h64
        unfold nameB
        simp only [hl, allA_tw e, Bool.true_and, decide_eq_true_eq]
        omega
    · rw [if_neg hl] at h
      rcases op_kind (c :: r) with e | e <;> rw [h] at e <;> exact absurd e (by simp)
  · intro h
    cases s with
    | nil => exact absurd h (by simp [nameB])
    | cons c r =>
      unfold nameB at h
      simp only [Bool.and_eq_true, decide_eq_true_eq] at h
      obtain ⟨⟨hl, ha⟩, h64⟩ := h
      obtain ⟨hd, h34, h10, h32, h9, h35⟩ := let_dig hl
      refine ⟨?_, show (1 : Int) ≠ 5 by decide, c, r, rfl, h10, h32, h9, h35⟩
      rw [tokA_cons, if_neg (by rw [hd]; decide), if_neg h34, if_pos hl, twA_all ha]
      unfold namA
      rw [if_neg (by omega)]
theorem self_int (s : List UInt8) (a : Nat) : SelfT ⟨2, s, a⟩ ↔ intB s = true := by
  have hs : srcT ⟨2, s, a⟩ = s := rfl
  unfold SelfT
  rw [hs]
  constructor
  · rintro ⟨h, _, c, r, rfl, _⟩
    rw [tokA_cons] at h
    by_cases hd : dgB c = true
    · rw [if_pos hd] at h
      unfold numA at h
      split at h
      · exact absurd (congrArg Prod.fst h) (show ¬ ((0 : Int) = 2) by decide)
      · split at h
        · rename_i hi
          have e : (c :: r).takeWhile dgB = c :: r := congrArg (fun x => x.2.1) h
          rw [e] at hi
          exact hi
        · exact absurd (congrArg Prod.fst h) (show ¬ ((0 : Int) = 2) by decide)
    rw [if_neg hd] at h
    by_cases h34 : c = 34
    · rw [if_pos h34] at h
      rcases str_kind (txtN (r.length + 1) r [] 1) with e | e <;> rw [h] at e <;> exact absurd e (by simp)
    rw [if_neg h34] at h
    by_cases hl : letB c = true
    · rw [if_pos hl] at h
      rcases nam_kind ((c :: r).takeWhile wrdB) with e | e <;> rw [h] at e <;> exact absurd e (by simp)
    · rw [if_neg hl] at h
      rcases op_kind (c :: r) with e | e <;> rw [h] at e <;> exact absurd e (by simp)
  · intro h
    cases s with
    | nil => exact absurd h (by simp [intB])
    | cons c r =>
      have hi := h
      unfold intB at h
      simp only [Bool.and_eq_true, Bool.not_eq_true', decide_eq_true_eq] at h
      obtain ⟨⟨⟨⟨_, _⟩, hz⟩, ha⟩, _⟩ := h
      have hd : dgB c = true := by
        simp only [List.all_cons, Bool.and_eq_true] at ha
        exact ha.1
      have hw : (c :: r).all wrdB = true := by
        rw [List.all_eq_true] at ha ⊢
        exact fun x hx => (dig_head (ha x hx)).1
      obtain ⟨_, h10, h32, h9, h35⟩ := dig_head hd
      refine ⟨?_, show (2 : Int) ≠ 5 by decide, c, r, rfl, h10, h32, h9, h35⟩
      rw [tokA_cons, if_pos hd, twA_all ha, twA_all hw]
      unfold numA
      rw [if_neg, if_pos hi]
      rintro (h | ⟨h1, h2⟩)
      · omega
      · rw [Bool.and_eq_false_iff, decide_eq_false_iff_not, decide_eq_false_iff_not] at hz
        rcases hz with hz | hz
        · exact hz h1
        · exact hz (by rw [h2]; rfl)
theorem self_str (s : List UInt8) (a : Nat) : SelfT ⟨3, s, a⟩ ↔ s.length ≤ 4096 := by
  have hs : srcT ⟨3, s, a⟩ = quoL s := rfl
  unfold SelfT
  rw [hs]
  constructor
  · rintro ⟨h, _, c, r, hc, _⟩
    rw [hc] at h
    have := tok3_len c r (by rw [h]) (by rw [h])
    rw [h] at this
    exact this
  · intro h
    have ht := tok_quo s [] h
    rw [List.append_nil] at ht
    exact ⟨ht, show (3 : Int) ≠ 5 by decide, 34, s.flatMap chrL ++ [34], rfl, by decide, by decide, by decide, by decide⟩
theorem sgl_head {c : UInt8} (h : sgl.contains c = true) : dgB c = false ∧ letB c = false ∧ c ≠ 34 ∧ c ≠ 10 ∧ c ≠ 32 ∧ c ≠ 9 ∧ c ≠ 35 := by
  simp only [sgl, List.contains_eq_mem, List.mem_cons, List.not_mem_nil, or_false, decide_eq_true_eq] at h
  rcases h with rfl | rfl | rfl | rfl | rfl | rfl | rfl | rfl | rfl | rfl | rfl | rfl | rfl | rfl | rfl | rfl | rfl | rfl | rfl <;> decide
theorem dbl_head {c d : UInt8} (h : dbl.contains [c, d] = true) : dgB c = false ∧ letB c = false ∧ c ≠ 34 ∧ c ≠ 10 ∧ c ≠ 32 ∧ c ≠ 9 ∧ c ≠ 35 := by
  simp only [dbl, List.contains_eq_mem, List.mem_cons, List.not_mem_nil, or_false, decide_eq_true_eq, List.cons.injEq, and_true] at h
  rcases h with ⟨rfl, rfl⟩ | ⟨rfl, rfl⟩ | ⟨rfl, rfl⟩ | ⟨rfl, rfl⟩ | ⟨rfl, rfl⟩ | ⟨rfl, rfl⟩ <;> decide
theorem op_head {c : UInt8} {r : List UInt8} (h : opL (c :: r) ≠ 0) : dgB c = false ∧ letB c = false ∧ c ≠ 34 ∧ c ≠ 10 ∧ c ≠ 32 ∧ c ≠ 9 ∧ c ≠ 35 := by
  cases r with
  | nil =>
    have h : (if sgl.contains c = true then 1 else 0) ≠ 0 := h
    by_cases hc : sgl.contains c = true
    · exact sgl_head hc
    · rw [if_neg hc] at h
      exact absurd rfl h
  | cons d q =>
    have h : (if dbl.contains [c, d] = true then 2 else if sgl.contains c = true then 1 else 0) ≠ 0 := h
    by_cases h2 : dbl.contains [c, d] = true
    · exact dbl_head h2
    · rw [if_neg h2] at h
      by_cases hc : sgl.contains c = true
      · exact sgl_head hc
      · rw [if_neg hc] at h
        exact absurd rfl h
theorem self_op (s : List UInt8) (a : Nat) : SelfT ⟨4, s, a⟩ ↔ opL s ≠ 0 ∧ opL s = s.length := by
  have hs : srcT ⟨4, s, a⟩ = s := rfl
  unfold SelfT
  rw [hs]
  constructor
  · rintro ⟨h, _, c, r, rfl, _⟩
    rw [tokA_cons] at h
    by_cases hd : dgB c = true
    · rw [if_pos hd] at h
      rcases num_kind ((c :: r).takeWhile dgB) ((c :: r).takeWhile wrdB) c with e | e <;> rw [h] at e <;> exact absurd e (by simp)
    rw [if_neg hd] at h
    by_cases h34 : c = 34
    · rw [if_pos h34] at h
      rcases str_kind (txtN (r.length + 1) r [] 1) with e | e <;> rw [h] at e <;> exact absurd e (by simp)
    rw [if_neg h34] at h
    by_cases hl : letB c = true
    · rw [if_pos hl] at h
      rcases nam_kind ((c :: r).takeWhile wrdB) with e | e <;> rw [h] at e <;> exact absurd e (by simp)
    · rw [if_neg hl] at h
      unfold opA at h
      by_cases h0 : opL (c :: r) = 0
      · rw [if_pos h0] at h
        exact absurd (congrArg Prod.fst h) (show ¬ ((0 : Int) = 4) by decide)
      · rw [if_neg h0] at h
        exact ⟨h0, congrArg (fun x => x.2.2.1) h⟩
  · rintro ⟨h0, h⟩
    cases s with
    | nil => exact absurd rfl h0
    | cons c r =>
      obtain ⟨hd, hl, h34, h10, h32, h9, h35⟩ := op_head h0
      refine ⟨?_, show (4 : Int) ≠ 5 by decide, c, r, rfl, h10, h32, h9, h35⟩
      rw [tokA_cons, if_neg (by rw [hd]; decide), if_neg h34, if_neg (by rw [hl]; decide)]
      unfold opA
      rw [if_neg h0, h, List.take_length]
/-- Can a source have the token? -/
def inS (k : Int) (s : List UInt8) : Bool :=
  if k = 1 then nameB s else if k = 2 then intB s else if k = 3 then decide (s.length ≤ 4096) else if k = 4 then decide (opL s ≠ 0) && decide (opL s = s.length) else if k = 5 then s.isEmpty else false
theorem inS_self (k : Int) (s : List UInt8) (a : Nat) : inS k s = true ↔ (k = 5 ∧ s = []) ∨ SelfT ⟨k, s, a⟩ := by
  unfold inS
  by_cases h1 : k = 1
  · subst h1
    rw [if_pos rfl, self_name]
    simp
  rw [if_neg h1]
  by_cases h2 : k = 2
  · subst h2
    rw [if_pos rfl, self_int]
    simp
  rw [if_neg h2]
  by_cases h3 : k = 3
  · subst h3
    rw [if_pos rfl, self_str]
    simp
  rw [if_neg h3]
  by_cases h4 : k = 4
  · subst h4
    rw [if_pos rfl, self_op]
    simp
  rw [if_neg h4]
  have hn : ¬ SelfT ⟨k, s, a⟩ := fun h => by
    rcases self_kind h with e | e | e | e
    · exact h1 e
    · exact h2 e
    · exact h3 e
    · exact h4 e
  by_cases h5 : k = 5
  · subst h5
    rw [if_pos rfl]
    simp [hn]
  · rw [if_neg h5]
    simp [h5, hn]
/-- What the tokens of a token's own source are. -/
theorem inS_lex (k : Int) (s : List UInt8) (a : Nat) : inS k s = true ↔ ∃ u, lexF (srcT ⟨k, s, a⟩) 0 0 false = .ok [u] ∧ u.kind = k ∧ u.text = s := by
  rw [inS_self k s a]
  constructor
  · rintro (⟨rfl, rfl⟩ | h)
    · exact ⟨⟨5, [], 0⟩, lex_line, rfl, rfl⟩
    · exact ⟨_, self_lex _ h, rfl, rfl⟩
  · rintro ⟨u, h, hk, ht⟩
    exact lex_self h (by unfold kt; rw [hk, ht])
end Go.Proofs.YtjehhldboopocaaGreatDoor.Lx
namespace Go.Proofs.YtjehhldboopocaaGreatDoor.Lx
/-- An expression: its kind, its literal, its name, its args, its keys. -/
inductive Ex (V : Type) where
  | mk (kind : Int) (val : V) (name : List UInt8) (args : List (Ex V)) (keys : List (List UInt8))
/-- What a part of the grammar answers: no fuel; an error with its index; an expression and the index behind it. -/
inductive PR (V : Type) where
  | out
  | err (at_ e : Nat)
  | ok (x : Ex V) (at_ : Nat)
def PR.bind {V : Type} (r : PR V) (k : Ex V → Nat → PR V) : PR V := match r with
  | .out => .out
  | .err a e => .err a e
  | .ok x a => k x a
/-- How literals are made: the zero one, of a truth, of digits, of a text. -/
structure Lits (V : Type) where
  zero : V
  boo : Bool → V
  num : List UInt8 → V
  str : List UInt8 → V
abbrev Ts := List (Int × List UInt8)
def opTk (ts : Ts) (i : Nat) (s : List UInt8) : Bool := decide (ts[i]? = some (4, s))
def miss (ts : Ts) (i : Nat) : Nat := if ts.length ≤ i then 4 else 5
/-- The strength of an operator with two operands, or 0. -/
def strB (s : List UInt8) : Nat :=
  if s = [124, 124] then 2 else if s = [38, 38] then 3
  else if s = [61, 61] ∨ s = [33, 61] ∨ s = [60] ∨ s = [60, 61] ∨ s = [62] ∨ s = [62, 61] then 4
  else if s = [43] ∨ s = [45] then 5 else if s = [42] ∨ s = [47] ∨ s = [37] then 6 else 0
/-- The strength of the operator at an index, or 0, and its text. -/
def binAt (ts : Ts) (i : Nat) : Nat × List UInt8 := match ts[i]? with
  | some (k, s) => if k = 4 then (strB s, s) else (0, [])
  | none => (0, [])
def nulS : List UInt8 := [110, 117, 108, 108]
def truS : List UInt8 := [116, 114, 117, 101]
def falS : List UInt8 := [102, 97, 108, 115, 101]
def wordB (s : List UInt8) : Bool := decide (s = nulS) || decide (s = truS) || decide (s = falS)
def keyT (t : Int × List UInt8) : Bool := (decide (t.1 = 1) && nameB t.2) || (decide (t.1 = 3) && decide (t.2.length ≤ 4096))
/-- The parts of the grammar. -/
inductive NT (V : Type) where
  | cond
  | oper (n : Nat)
  | loop (n s : Nat) (left : Ex V)
  | un
  | chn
  | more (x : Ex V)
  | atm
  | lst (closing : List UInt8) (ent first : Bool) (acc : List (Ex V)) (keys : List (List UInt8))

section
variable {V : Type} (P : Lits V)
def node (k : Int) (s : List UInt8) (l : List (Ex V)) : Ex V := .mk k P.zero s l []
/-- The parts that both grammars read alike, given what reads the others. -/
def stepG (g : NT V → Nat → PR V) (ts : Ts) : NT V → Nat → PR V
  | .cond, i => (g (.oper 2) i).bind fun c a => if opTk ts a [63] = true then (g .cond (a + 1)).bind fun x b =>
      if opTk ts b [58] = true then (g .cond (b + 1)).bind fun y d => .ok (node P 8 [] [c, x, y]) d else .err b (miss ts b) else .ok c a
  | .oper _, _ => .out
  | .loop _ _ _, _ => .out
  | .un, i => if opTk ts i [33] = true then (g .un (i + 1)).bind fun x a => .ok (node P 6 [33] [x]) a
      else if opTk ts i [45] = true then (g .un (i + 1)).bind fun x a => .ok (node P 6 [45] [x]) a else g .chn i
  | .chn, i => (g .atm i).bind fun x a => g (.more x) a
  | .more x, i =>
      if opTk ts i [46] = true then match ts[i + 1]? with
        | some (k, s) => if k = 1 ∧ nameB s = true ∧ wordB s = false then g (.more (node P 3 s [x])) (i + 2) else .err (i + 1) (miss ts (i + 1))
        | none => .err (i + 1) (miss ts (i + 1))
      else if opTk ts i [91] = true then (g .cond (i + 1)).bind fun y a => if opTk ts a [93] = true then g (.more (node P 4 [] [x, y])) (a + 1) else .err a (miss ts a)
      else .ok x i
  | .atm, i => match ts[i]? with
      | none => .err i 4
      | some (k, s) =>
        if k = 2 then (if intB s = true then .ok (.mk 1 (P.num s) [] [] []) (i + 1) else .err i 5)
        else if k = 3 then (if s.length ≤ 4096 then .ok (.mk 1 (P.str s) [] [] []) (i + 1) else .err i 5)
        else if k = 1 then
          (if s = nulS then .ok (.mk 1 P.zero [] [] []) (i + 1)
          else if s = truS ∨ s = falS then .ok (.mk 1 (P.boo (decide (s = truS))) [] [] []) (i + 1)
          else if nameB s = true then (if opTk ts (i + 1) [40] = true then (g (.lst [41] false true [] []) (i + 2)).bind fun x a => match x with
              | .mk _ _ _ l _ => .ok (node P 5 s l) a
            else .ok (node P 2 s []) (i + 1))
          else .err i 5)
        else if k = 4 then
          (if s = [40] then (g .cond (i + 1)).bind fun x a => if opTk ts a [41] = true then .ok x (a + 1) else .err a (miss ts a)
          else if s = [91] then (g (.lst [93] false true [] []) (i + 1)).bind fun x a => match x with
              | .mk _ _ _ l _ => .ok (node P 9 [] l) a
          else if s = [123] then (g (.lst [125] true true [] []) (i + 1)).bind fun x a => match x with
              | .mk _ _ _ l ks => .ok (.mk 10 P.zero [] l ks) a
          else .err i 5)
        else .err i 5
  | .lst cl ent first acc keys, i =>
      if first = true ∧ opTk ts i cl = true then .ok (.mk 0 P.zero [] acc keys) (i + 1)
      else
        let item := fun (j : Nat) (ks : List (List UInt8)) => (g .cond j).bind fun x a =>
          if opTk ts a cl = true then .ok (.mk 0 P.zero [] (acc ++ [x]) ks) (a + 1)
          else if opTk ts a [44] = true then g (.lst cl ent false (acc ++ [x]) ks) (a + 1) else .err a (miss ts a)
        if ent = true then match ts[i]? with
          | some t => if keyT t = true then (if opTk ts (i + 1) [58] = true then item (i + 2) (keys ++ [t.2]) else .err (i + 1) (miss ts (i + 1))) else .err i (miss ts i)
          | none => .err i (miss ts i)
        else item i keys
/-- The document's grammar. In loop n s left: s = 1 where an operation was read already. -/
def stepD (g : NT V → Nat → PR V) (ts : Ts) : NT V → Nat → PR V
  | .oper n, i => if n = 7 then g .un i else (g (.oper (n + 1)) i).bind fun x a => g (.loop n 0 x) a
  | .loop n s x, i => if (binAt ts i).1 = n ∧ n ≠ 0 ∧ (s = 0 ∨ n ≠ 4) then (g (.oper (n + 1)) (i + 1)).bind fun y a => g (.loop n 1 (node P 7 (binAt ts i).2 [x, y])) a else .ok x i
  | t, i => stepG P g ts t i
def dG (ts : Ts) : Nat → NT V → Nat → PR V
  | 0, _, _ => .out
  | f + 1, t, i => stepD P (dG ts f) ts t i
/-- The program's grammar. In loop n s left: n is the least strength, s the strength of what was read. -/
def stepP (g : NT V → Nat → PR V) (ts : Ts) : NT V → Nat → PR V
  | .oper n, i => (g .un i).bind fun x a => g (.loop n 7 x) a
  | .loop n s x, i =>
      if (binAt ts i).1 < n ∨ s < (if (binAt ts i).1 = 4 then 5 else (binAt ts i).1) then .ok x i
      else (g (.oper ((binAt ts i).1 + 1)) (i + 1)).bind fun y a => g (.loop n (binAt ts i).1 (node P 7 (binAt ts i).2 [x, y])) a
  | t, i => stepG P g ts t i
def pG (ts : Ts) : Nat → NT V → Nat → PR V
  | 0, _, _ => .out
  | f + 1, t, i => stepP P (pG ts f) ts t i
end
/-- One answer says no less than another. -/
def PR.le {V : Type} (a b : PR V) : Prop := a = .out ∨ a = b
theorem PR.le_rfl {V : Type} (a : PR V) : a.le a := .inr rfl
theorem PR.bind_le {V : Type} {a b : PR V} {k l : Ex V → Nat → PR V} (h : a.le b) (hk : ∀ x i, (k x i).le (l x i)) : (a.bind k).le (b.bind l) := by
  rcases h with rfl | rfl
  · exact .inl rfl
  · cases a with
    | out => exact .inl rfl
    | err i e => exact .inr rfl
    | ok x i => exact hk x i
theorem stepG_le {V : Type} (P : Lits V) (g h : NT V → Nat → PR V) (ts : Ts) (hgh : ∀ t i, (g t i).le (h t i)) : ∀ t i, (stepG P g ts t i).le (stepG P h ts t i) := by
  intro t i
  cases t <;> simp only [stepG] <;>
    repeat' (first
      | exact PR.le_rfl _
      | exact hgh _ _
      | (refine PR.bind_le (hgh _ _) fun x a => ?_)
      | split)
theorem stepP_le {V : Type} (P : Lits V) (g h : NT V → Nat → PR V) (ts : Ts) (hgh : ∀ t i, (g t i).le (h t i)) : ∀ t i, (stepP P g ts t i).le (stepP P h ts t i) := by
  intro t i
  cases t <;> simp only [stepP] <;>
    first
    | exact stepG_le P g h ts hgh _ _
    | (repeat' (first
        | exact PR.le_rfl _
        | exact hgh _ _
        | (refine PR.bind_le (hgh _ _) fun x a => ?_)
        | split))
theorem pG_le {V : Type} (P : Lits V) (ts : Ts) : ∀ (f : Nat) (t : NT V) (i : Nat), (pG P ts f t i).le (pG P ts (f + 1) t i)
  | 0, _, _ => .inl rfl
  | f + 1, t, i => stepP_le P _ _ ts (pG_le P ts f) t i
theorem PR.le_add {V : Type} {F : Nat → PR V} (h : ∀ f, (F f).le (F (f + 1))) : ∀ (d f : Nat), (F f).le (F (f + d))
  | 0, f => PR.le_rfl _
  | d + 1, f => by
    rcases PR.le_add h d f with e | e
    · exact .inl e
    · rw [e]
      exact h (f + d)
end Go.Proofs.YtjehhldboopocaaGreatDoor.Lx
namespace Go.Proofs.YtjehhldboopocaaGreatDoor
open Go.RowKit Go.Lib
/-- The value of a string of these bytes. -/
def strV (x : List UInt8) : Value := .string ⟨x.toArray⟩
theorem strV_eq (x : List UInt8) : strV x = .string ⟨x.toArray⟩ := rfl
theorem extract_mk (s : ByteArray) (a b : Nat) : s.extract a b = ⟨((s.data.toList.take b).drop a).toArray⟩ := by
  apply ByteArray.ext
  apply Array.toList_inj.1
  simp [ByteArray.data_extract, List.drop_take]

def ReadsStr (w : World) (v : Option Addr) (l : List (List UInt8)) : Prop :=
  ∀ k (h : k < l.length), ∃ b off, v = some ⟨b, off, none⟩ ∧ b < w.heap.size ∧ w.cell? ⟨b, off + k, none⟩ = some (.string ⟨l[k].toArray⟩)
theorem ReadsStr.below {w w' : World} {v : Option Addr} {l : List (List UInt8)} (h : ReadsStr w v l) (hb : Below w.heap.size w w') : ReadsStr w' v l := by
  intro k hk
  obtain ⟨b, off, e, hlt, hc⟩ := h k hk
  exact ⟨b, off, e, Nat.lt_of_lt_of_le hlt hb.size, (hb.cell (p := ⟨b, off + k, none⟩) hlt).trans hc⟩
theorem ReadsStr.drewN {w : World} {v : Option Addr} {l : List (List UInt8)} (h : ReadsStr w v l) (n : Nat) : ReadsStr (w.drewN n) v l := h.below (below_drewN (Below.refl _ _) n)
theorem infoS : (Tryz.prog.info? 9).map (fun i => (i.zero, i.size, i.bytes)) = some (some (.string ⟨#[]⟩), 1, 16) := by kernel_rfl

theorem addr_add {g : Nat} (k : Nat) : (⟨g, 0, none⟩ : Addr).add k = ⟨g, 0 + k, none⟩ := by
  unfold Addr.add
  split
  · rename_i h; subst h; rfl
  · rfl
/-- An owned row of strings reads as these strings. -/
theorem own_readsS {w : World} {B n : Nat} {v : Value} {l : List (List UInt8)} (h : w.ownsRow B 9 1 v n (l.map strV)) (hn : n = l.length) : ∃ a c, v = .slice a l.length c ∧ l.length ≤ c ∧ c ≤ maxLen ∧ ReadsStr w a l := by
  rcases h.2 with ⟨rfl, h0⟩ | ⟨g, cap, cur, rfl, _, hg, hnc, hcm, _⟩
  · have hl : l = [] := List.eq_nil_of_length_eq_zero (by omega)
    subst hl
    exact ⟨none, 0, rfl, by simp, by simp, fun k hk => by simp at hk⟩
  · subst hn
    refine ⟨some ⟨g, 0, none⟩, cap, rfl, hnc, hcm, ?_⟩
    intro k hk
    have hlt := (Array.getElem?_eq_some_iff.1 hg).1
    refine ⟨g, 0, rfl, hlt, ?_⟩
    have hc := h.cells rfl k (strV l[k]) (by simp [hk])
    rw [addr_add] at hc
    exact hc
end Go.Proofs.YtjehhldboopocaaGreatDoor
namespace Go.Proofs.YtjehhldboopocaaGreatDoor
open Go.RowKit Go.Lib
def digB (c : Nat) : Bool := decide (48 ≤ c) && decide (c ≤ 57)
def ordI (l g : Bool) : Int := if l = true then -1 else if g = true then 1 else 0
/-- The index behind the run of digits that begins at an index. -/
def runE (l : List UInt8) (i : Nat) : Nat := i + ((l.drop i).takeWhile fun b => digB b.toNat).length
/-- A run without its leading zeros. -/
def stripL (l : List UInt8) : List UInt8 := l.dropWhile fun b => b.toNat == 48
def runsI (a b : List UInt8) : Int :=
  if (stripL a).length ≠ (stripL b).length then ordI (decide ((stripL a).length < (stripL b).length)) (decide ((stripL b).length < (stripL a).length))
  else if stripL a ≠ stripL b then (if Op.bytesLess (stripL a) (stripL b) = true then -1 else 1)
  else ordI (decide (a.length < b.length)) (decide (b.length < a.length))

theorem runE_in {l : List UInt8} {j : Nat} (h : j < l.length) (hd : digB l[j].toNat = true) : runE l j = runE l (j + 1) := by
  unfold runE
  rw [List.drop_eq_getElem_cons h, List.takeWhile_cons, if_pos hd, List.length_cons]
  omega
theorem runE_out {l : List UInt8} {j : Nat} (h : j < l.length) (hd : digB l[j].toNat = false) : runE l j = j := by
  unfold runE
  rw [List.drop_eq_getElem_cons h, List.takeWhile_cons, if_neg (by rw [hd]; decide)]
  rfl
theorem runE_end (l : List UInt8) : runE l l.length = l.length := by
  unfold runE
  rw [List.drop_length]
  rfl
theorem listS_len (a : ByteArray) : a.data.toList.length = a.size := by rw [Array.length_toList]; rfl

theorem strip_len (l : List UInt8) : (stripL l).length ≤ l.length := (List.dropWhile_suffix _).length_le
theorem mkS_size (x : List UInt8) : (⟨x.toArray⟩ : ByteArray).size = x.length := by
  show x.toArray.size = _
  simp
end Go.Proofs.YtjehhldboopocaaGreatDoor
namespace Go.Proofs.YtjehhldboopocaaGreatDoor
open Go.RowKit Go.Lib
def dg (b : UInt8) : Bool := digB b.toNat
theorem dropW_le (l : List UInt8) : (l.dropWhile dg).length ≤ l.length := (List.dropWhile_suffix _).length_le
/-- Natural order: -1, 0 or 1. -/
def cmpL : List UInt8 → List UInt8 → Int
  | [], [] => 0
  | [], _ :: _ => -1
  | _ :: _, [] => 1
  | x :: a, y :: b =>
    if (dg x && dg y) = true then
      (if runsI (x :: a.takeWhile dg) (y :: b.takeWhile dg) ≠ 0 then runsI (x :: a.takeWhile dg) (y :: b.takeWhile dg) else cmpL (a.dropWhile dg) (b.dropWhile dg))
    else if x.toNat < y.toNat then -1 else if y.toNat < x.toNat then 1 else cmpL a b
termination_by a => a.length
decreasing_by
  · have := dropW_le a; simp only [List.length_cons]; omega
  · simp only [List.length_cons]; omega
theorem take_tw (l : List UInt8) : l.take (l.takeWhile dg).length = l.takeWhile dg := by
  conv => lhs; arg 2; rw [← List.takeWhile_append_dropWhile (p := dg) (l := l)]
  exact List.take_left
theorem drop_tw (l : List UInt8) : l.drop (l.takeWhile dg).length = l.dropWhile dg := by
  conv => lhs; arg 2; rw [← List.takeWhile_append_dropWhile (p := dg) (l := l)]
  exact List.drop_left
end Go.Proofs.YtjehhldboopocaaGreatDoor
