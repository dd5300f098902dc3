/- Lengths of tokens, and tokens joined as they lie in memory; no function of the program is named. -/
import Derived.Test.YtoliiiijbdoliaaDoorLexB
namespace Go.Proofs.YtoliiiijbdoliaaDoor
open Go.RowKit Go.Lib

/-- Numbers that ascend between two bounds are no more than lie there. -/
theorem asc_len : ∀ (l : List Tk) (a n : Nat), (∀ t, t ∈ l → a ≤ t.at_ ∧ t.at_ < a + n) → l.Pairwise (fun x y => x.at_ < y.at_) → l.length ≤ n
  | [], _, _, _, _ => Nat.zero_le _
  | t :: r, a, n, h, hp => by
    have h0 := h t (List.mem_cons_self ..)
    cases hp with
    | cons h1 h2 =>
      have h3 := asc_len r (t.at_ + 1) (a + n - (t.at_ + 1)) (fun u hu => by
        have h4 := h1 u hu
        have h5 := h u (List.mem_cons_of_mem _ hu)
        omega) h2
      rw [List.length_cons]
      omega
theorem tok3_len (c : UInt8) (r : List UInt8) (h : (tokA (c :: r)).2.2.2 = 0) (h3 : (tokA (c :: r)).1 = 3) : (tokA (c :: r)).2.1.length ≤ 4096 := by
  rw [tokA_cons] at h h3 ⊢
  by_cases h1 : dgB c = true
  · rw [if_pos h1] at h3 h
    unfold numA at h3 h
    split at h3
    · simp at h3
    · rename_i g
      split at h3 <;> simp at h3
  · rw [if_neg h1] at h h3 ⊢
    by_cases h2 : c = 34
    · rw [if_pos h2] at h h3 ⊢
      unfold strA at h h3 ⊢
      by_cases h4 : (txtN (r.length + 1) r [] 1).2.2 = 0
      · rw [if_pos h4]
        exact txt_bound _ _ _ _ h4
      · rw [if_neg h4] at h
        exact absurd h h4
    · rw [if_neg h2] at h3
      by_cases h5 : letB c = true
      · rw [if_pos h5] at h3
        unfold namA at h3
        split at h3 <;> simp at h3
      · rw [if_neg h5] at h3
        unfold opA at h3
        split at h3 <;> simp at h3
theorem wf_text {o : Nat} {nl : Bool} {ts : List Tk} (h : Wf o nl ts) : ∀ t, t ∈ ts → (t.kind = 5 → t.text = []) ∧ (t.kind = 3 → t.text.length ≤ 4096) := by
  induction h with
  | nil o nl => intro t ht; simp at ht
  | line t r h5 ht _ ih =>
    intro u hu
    rcases List.mem_cons.1 hu with rfl | hu
    · exact ⟨fun _ => ht, fun h3 => by rw [h5] at h3; exact absurd h3 (by decide)⟩
    · exact ih u hu
  | tok o nl t r hs hw ih =>
    intro u hu
    rcases List.mem_cons.1 hu with rfl | hu
    · obtain ⟨h1, h5, c, w, hcw, _⟩ := hs
      refine ⟨fun e => absurd e h5, fun h3 => ?_⟩
      rw [hcw] at h1
      have h4 := tok3_len c w (by rw [h1]) (by rw [h1]; exact h3)
      rw [h1] at h4
      exact h4
    · exact ih u hu
/-- How long the tokens of a source are, and how many. -/
theorem lexF_size {l : List UInt8} {ts : List Tk} (h : lexF l 0 0 false = .ok ts) : ts.length ≤ l.length ∧ ∀ t, t ∈ ts → t.text.length ≤ l.length + 4096 := by
  obtain ⟨h1, h2⟩ := lexF_at l.length l 0 0 false ts (Nat.le_refl _) h
  have h3 := wf_text (lexF_wf l.length l 0 0 false ts (Nat.le_refl _) h)
  refine ⟨asc_len ts 0 l.length (fun t ht => ⟨(h1 t ht).1, (h1 t ht).2.1⟩) h2, fun t ht => ?_⟩
  obtain ⟨k5, k3⟩ := h3 t ht
  by_cases e3 : t.kind = 3
  · have := k3 e3
    omega
  · by_cases e5 : t.kind = 5
    · rw [k5 e5]
      simp
    · have := ((h1 t ht).2.2 e3 e5).1
      omega
theorem flatC_len4 : ∀ s : List UInt8, (s.flatMap chrL).length ≤ 4 * s.length
  | [] => by simp
  | c :: s => by
    have ih := flatC_len4 s
    have hc : (chrL c).length ≤ 4 := by
      unfold chrL
      repeat' split
      all_goals simp
    rw [List.flatMap_cons, List.length_append, List.length_cons]
    omega
theorem quo_len4 (s : List UInt8) : (quoL s).length ≤ 4 * s.length + 2 := by
  have := flatC_len4 s
  unfold quoL
  rw [List.length_cons, List.length_append, List.length_singleton]
  omega
theorem srcT_len (t : Tk) : (srcT t).length ≤ 4 * t.text.length + 2 := by
  unfold srcT
  split
  · exact quo_len4 _
  · split
    · simp
    · omega
theorem joinP_len : ∀ (ts : List Tk) (p : Bool) (m : Nat), (∀ t, t ∈ ts → t.text.length ≤ m) → (joinP p ts).length ≤ ts.length * (4 * m + 3)
  | [], _, _, _ => by simp [joinP]
  | t :: r, p, m, h => by
    have ih := joinP_len r (t.kind != 5) m (fun u hu => h u (List.mem_cons_of_mem _ hu))
    have h1 := srcT_len t
    have h2 := h t (List.mem_cons_self ..)
    have h3 : (sepL p t.kind).length ≤ 1 := by
      unfold sepL
      split <;> simp
    rw [joinP_cons, List.length_append, List.length_append, List.length_cons, Nat.succ_mul]
    omega
/-- The source of tokens as they lie in memory. -/
def srcM (t : Tm) : List UInt8 := if t.kind = 3 then quoL t.text else if t.kind = 5 then [10] else t.text
def joinM : Bool → List Tm → List UInt8
  | _, [] => []
  | p, t :: r => sepL p t.kind ++ (srcM t ++ joinM (t.kind != 5) r)
theorem joinM_tk : ∀ (ts : List Tk) (p : Bool), joinM p (ts.map Tk.tm) = joinP p ts
  | [], _ => rfl
  | t :: r, p => by
    rw [List.map_cons, joinP_cons, ← joinM_tk r]
    rfl
def lastP (p : Bool) (l : List Tm) : Bool := match l.getLast? with
  | none => p
  | some t => t.kind != 5
theorem lastP_cons (p : Bool) (t : Tm) (l : List Tm) : lastP p (t :: l) = lastP (t.kind != 5) l := by
  unfold lastP
  cases l with
  | nil => rfl
  | cons u r =>
    rw [List.getLast?_cons_cons]
    cases h : (u :: r).getLast? with
    | none => simp at h
    | some x => rfl
theorem joinM_snoc : ∀ (l : List Tm) (p : Bool) (t : Tm), joinM p (l ++ [t]) = joinM p l ++ (sepL (lastP p l) t.kind ++ srcM t)
  | [], p, t => by simp [joinM, lastP]
  | u :: l, p, t => by
    rw [List.cons_append]
    show sepL p u.kind ++ (srcM u ++ joinM (u.kind != 5) (l ++ [t])) = sepL p u.kind ++ (srcM u ++ joinM (u.kind != 5) l) ++ _
    rw [joinM_snoc l, lastP_cons]
    simp only [List.append_assoc]
theorem joinM_take (l : List Tm) (i : Nat) (h : i < l.length) : joinM false (l.take (i + 1)) = joinM false (l.take i) ++ (sepL (lastP false (l.take i)) l[i].kind ++ srcM l[i]) := by
  rw [List.take_succ_eq_append_getElem h, joinM_snoc]
theorem joinM_mono (l : List Tm) (i : Nat) : (joinM false (l.take i)).length ≤ (joinM false l).length := by
  by_cases h : l.length ≤ i
  · rw [List.take_of_length_le h]
    exact Nat.le_refl _
  · have h1 : i < l.length := by omega
    have ih := joinM_mono l (i + 1)
    rw [joinM_take l i h1, List.length_append] at ih
    omega
termination_by l.length - i
theorem lastP_take (l : List Tm) (i : Nat) (h : i < l.length) : lastP false (l.take i) = (decide (0 < i) && (l[i - 1].kind != 5)) := by
  unfold lastP
  by_cases h0 : i = 0
  · subst h0
    simp
  · rw [List.getLast?_take, if_neg h0, List.getElem?_eq_getElem (by omega)]
    have : decide (0 < i) = true := by simp; omega
    rw [this]
    rfl
end Go.Proofs.YtoliiiijbdoliaaDoor
