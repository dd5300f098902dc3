/- The document's requirements, in bytes alone (label): what it reads is what the program reads. -/
import Derived.Test.YtglckcenjnieaaaGreatDoorLaF
import Derived.Test.YtglckcenjnieaaaGreatDoorLdA
import Derived.Lib.IndexMore
namespace Go.Proofs.YtglckcenjnieaaaGreatDoor
open Go.RowKit Go.Lib

def cutB (c : UInt8) : Bool := c == 60 || c == 62 || c == 61
def preP (l : List UInt8) : List UInt8 := l.takeWhile fun c => !cutB c
def sufP (l : List UInt8) : List UInt8 := l.dropWhile fun c => !cutB c
/-- A requirement as the document reads it: its form, its name, its number. -/
abbrev DPart := Int × List UInt8 × Int
def partD (f : Int) (a b : List UInt8) : DPart := match numL b with
  | none => (0, [], 0)
  | some k => if nameB a = true then (f, a, (k : Int)) else (0, [], 0)
def readS (p s : List UInt8) : DPart :=
  if 2 < s.length ∧ s.take 2 = [62, 61] then partD 3 p (s.drop 2)
  else if 2 < s.length ∧ s.take 2 = [60, 61] then partD 4 p (s.drop 2)
  else if 1 < s.length ∧ s.head? = some 61 then partD 5 p (s.drop 1)
  else (0, [], 0)
def readD (l : List UInt8) : DPart :=
  if l.head? = some 33 then (if nameB (l.drop 1) = true then (2, l.drop 1, 0) else (0, [], 0))
  else if sufP l = [] ∧ nameB (preP l) = true then (1, preP l, 0)
  else readS (preP l) (sufP l)
/-- What a requirement permits. -/
def spanD (x : DPart) : Option (List UInt8 × Int × Int) :=
  if x.1 = 1 then some (x.2.1, -1, 9007199254740992) else if x.1 = 2 then some (x.2.1, -2, -2) else if x.1 = 3 then some (x.2.1, x.2.2, 9007199254740992)
  else if x.1 = 4 then some (x.2.1, 0, x.2.2) else if x.1 = 5 then some (x.2.1, x.2.2, x.2.2) else none
/-- What a label says. -/
def stateD (x : DPart) : Option (List UInt8 × Int) := if x.1 = 1 then some (x.2.1, -1) else if x.1 = 5 then some (x.2.1, x.2.2) else none

theorem pre_suf (l : List UInt8) : preP l ++ sufP l = l := List.takeWhile_append_dropWhile
theorem pre_no : ∀ {l : List UInt8} {c : UInt8}, c ∈ preP l → cutB c = false
  | [], c, h => by cases h
  | x :: r, c, h => by
    unfold preP at h
    rw [List.takeWhile_cons] at h
    split at h
    · rename_i hx
      rcases List.mem_cons.1 h with rfl | h
      · simpa using hx
      · exact pre_no h
    · cases h
theorem suf_head {l : List UInt8} {c : UInt8} {r : List UInt8} (h : sufP l = c :: r) : cutB c = true := by
  have := List.head?_dropWhile_not (fun c => !cutB c) l
  rw [show l.dropWhile (fun c => !cutB c) = c :: r from h] at this
  simpa using this
theorem at_cut {a : List UInt8} {c : UInt8} {r : List UInt8} (ha : ∀ x ∈ a, cutB x = false) (hc : cutB c = true) : preP (a ++ c :: r) = a ∧ sufP (a ++ c :: r) = c :: r := by
  unfold preP sufP
  rw [List.takeWhile_append_of_pos (fun x hx => by simp [ha x hx]), List.dropWhile_append_of_pos (fun x hx => by simp [ha x hx]), List.takeWhile_cons_of_neg (by simp [hc]), List.dropWhile_cons_of_neg (by simp [hc]), List.append_nil]
  exact ⟨rfl, rfl⟩
theorem name_ok {a : List UInt8} (h : nameB a = true) : a ≠ [] ∧ ∀ c ∈ a, cutB c = false ∧ c ≠ 33 := by
  match a, h with
  | c :: r, h =>
    refine ⟨by simp, fun x hx => ?_⟩
    unfold nameB at h
    rw [Bool.and_eq_true] at h
    have := List.all_eq_true.1 h.2 x hx
    constructor
    · by_cases hx : cutB x = true
      · exfalso
        unfold cutB at hx
        simp only [Bool.or_eq_true, beq_iff_eq] at hx
        rcases hx with (rfl | rfl) | rfl <;> revert this <;> decide
      · simpa using hx
    · rintro rfl
      revert this
      decide
theorem num_ok {b : List UInt8} {k : Nat} (h : numL b = some k) : b ≠ [] ∧ ∀ c ∈ b, isD c = true := by
  unfold numL at h
  split at h
  · rename_i hc
    obtain ⟨h1, _, h3⟩ := (canB_iff b).1 hc.1
    exact ⟨h1, h3⟩
  · cases h
theorem num_no {b : List UInt8} {c : UInt8} (hc : c ∈ b) (hd : isD c = false) : numL b = none := by
  cases h : numL b with
  | none => rfl
  | some k => rw [(num_ok h).2 c hc] at hd; cases hd
theorem numL_nil : numL [] = none := by decide
/-- Cutting at the first instance. -/
theorem cut_cases (l sep : List UInt8) : (cut l sep = (l, [], false) ∧ ∀ a b, l ≠ a ++ (sep ++ b)) ∨ ∃ a b, l = a ++ (sep ++ b) ∧ cut l sep = (a, b, true) ∧ ∀ a' b', l = a' ++ (sep ++ b') → a.length ≤ a'.length := by
  rcases index_spec l sep with ⟨h, hn⟩ | ⟨i, h, hi, ho, hno⟩
  · refine Or.inl ⟨?_, fun a b e => ?_⟩
    · unfold cut
      rw [if_neg (by omega)]
    · have := hn a.length (by rw [e, List.length_append]; omega)
      unfold occAt at this
      rw [e, List.drop_left] at this
      have h2 : sep.isPrefixOf (sep ++ b) = true := List.isPrefixOf_iff_prefix.2 ⟨b, rfl⟩
      rw [h2] at this
      cases this
  · unfold occAt at ho
    obtain ⟨b, hb⟩ := List.isPrefixOf_iff_prefix.1 ho
    refine Or.inr ⟨l.take i, b, by rw [hb, List.take_append_drop], ?_, fun a' b' e => ?_⟩
    · unfold cut
      rw [if_pos (by omega), h]
      simp only [Int.toNat_natCast]
      rw [← List.drop_drop, ← hb, List.drop_left]
    · rw [List.length_take]
      apply Classical.byContradiction
      intro hlt
      have := hno a'.length (by omega)
      unfold occAt at this
      rw [e, List.drop_left] at this
      have h2 : sep.isPrefixOf (sep ++ b') = true := List.isPrefixOf_iff_prefix.2 ⟨b', rfl⟩
      rw [h2] at this
      cases this
/-- The first one lies before another, or where that lies. -/
theorem first_eq {a p : List UInt8} {c : UInt8} {t u : List UInt8} (h : a ++ c :: t = p ++ c :: u) (hl : a.length ≤ p.length) (hp : ∀ x ∈ p, cutB x = false) (hc : cutB c = true) : a = p := by
  rcases List.append_eq_append_iff.1 h with ⟨q, h1, h2⟩ | ⟨q, h1, h2⟩
  · cases q with
    | nil => rw [h1, List.append_nil]
    | cons y q =>
      rw [List.cons_append] at h2
      injection h2 with h2 _
      have := hp y (by rw [h1]; simp)
      rw [← h2, hc] at this
      cases this
  · rw [h1, List.length_append] at hl
    have : q = [] := List.eq_nil_of_length_eq_zero (by omega)
    rw [h1, this, List.append_nil]
theorem partD_no_name {f : Int} {a b : List UInt8} (h : nameB a ≠ true) : partD f a b = (0, [], 0) := by
  unfold partD
  split
  · rfl
  · rw [if_neg h]
theorem partD_no_num {f : Int} {a b : List UInt8} (h : numL b = none) : partD f a b = (0, [], 0) := by
  unfold partD
  rw [h]
theorem numF_no_name {a b : List UInt8} {lo hi : Bool} (h : nameB a ≠ true) : numF a b lo hi = none := by
  unfold numF
  split
  · rw [if_neg h]
  · rfl
theorem span_zero : spanD (0, [], 0) = none := by decide
theorem state_zero : stateD (0, [], 0) = none := by decide
theorem prefix_bang (l : List UInt8) : Lib.hasPrefix l [33] = true ↔ l.head? = some 33 := by
  cases l with
  | nil => simp [Lib.hasPrefix]
  | cons a r =>
    unfold Lib.hasPrefix
    simp [List.isPrefixOf]
    exact eq_comm
/-- What follows the name, if it begins so. -/
theorem take_two {s : List UInt8} {c d : UInt8} (h : s.take 2 = [c, d]) : s = c :: d :: s.drop 2 := by
  match s, h with
  | x :: y :: r, h =>
    simp only [List.take_succ_cons, List.take_zero] at h
    injection h with h1 h
    injection h with h2 _
    rw [h1, h2]
    rfl
theorem head_one {s : List UInt8} {c : UInt8} (h : s.head? = some c) : s = c :: s.drop 1 := by
  match s, h with
  | x :: r, h => injection h with h; rw [h]; rfl
theorem numF_ge (a b : List UInt8) : numF a b false true = spanD (partD 3 a b) := by
  unfold numF partD
  cases numL b with
  | none => rfl
  | some k => dsimp only; by_cases h : nameB a = true <;> simp [h, spanD]
theorem numF_le (a b : List UInt8) : numF a b true false = spanD (partD 4 a b) := by
  unfold numF partD
  cases numL b with
  | none => rfl
  | some k => dsimp only; by_cases h : nameB a = true <;> simp [h, spanD]
theorem numF_is (a b : List UInt8) : numF a b false false = spanD (partD 5 a b) := by
  unfold numF partD
  cases numL b with
  | none => rfl
  | some k => dsimp only; by_cases h : nameB a = true <;> simp [h, spanD]
theorem readS_none {p s : List UInt8} (h3 : s.take 2 = [62, 61] → partD 3 p (s.drop 2) = (0, [], 0)) (h4 : s.take 2 = [60, 61] → partD 4 p (s.drop 2) = (0, [], 0)) (h5 : s.head? = some 61 → partD 5 p (s.drop 1) = (0, [], 0)) : readS p s = (0, [], 0) := by
  unfold readS
  split
  · rename_i h; exact h3 h.2
  split
  · rename_i h; exact h4 h.2
  split
  · rename_i h; exact h5 h.2
  · rfl
theorem sign_at {l p a : List UInt8} {c d : UInt8} {r t : List UInt8} (hl : l = p ++ c :: r) (he : l = a ++ d :: t) (hp : ∀ x ∈ p, cutB x = false) (hc : cutB c = true) (ha : ∀ x ∈ a, cutB x = false) (hd : cutB d = true) : p = a ∧ c :: r = d :: t := by
  obtain ⟨h1, h2⟩ := at_cut hp hc (r := r)
  obtain ⟨h3, h4⟩ := at_cut ha hd (r := t)
  rw [← hl] at h1 h2
  rw [← he] at h3 h4
  exact ⟨h1.symm.trans h3, h2.symm.trans h4⟩
/-- A sign of the whole lies behind the name's end. -/
theorem mem_behind {l p a : List UInt8} {c d : UInt8} {r t : List UInt8} (hl : l = p ++ c :: r) (he : l = a ++ d :: t) (hp : ∀ x ∈ p, cutB x = false) (hd : cutB d = true) (hne : d ≠ c) : d ∈ r := by
  have hm : d ∈ p ++ c :: r := by rw [← hl, he]; simp
  rcases List.mem_append.1 hm with h | h
  · have := hp d h
    rw [hd] at this
    cases this
  · rcases List.mem_cons.1 h with h | h
    · exact absurd h hne
    · exact h
theorem need_sign {l p : List UInt8} {c : UInt8} {r : List UInt8} (hl : l = p ++ c :: r) (hp : ∀ x ∈ p, cutB x = false) (hc : cutB c = true) :
    needC l (cut l [62, 61]) (cut l [60, 61]) (cut l [61]) = spanD (readS p (c :: r)) := by
  unfold needC
  rcases cut_cases l [62, 61] with ⟨h1, n1⟩ | ⟨a, b, e1, h1, f1⟩
  · rw [h1]
    dsimp only
    rw [if_neg (by simp)]
    have k1 : (c :: r).take 2 ≠ [62, 61] := fun e => n1 p ((c :: r).drop 2) (by rw [hl]; exact congrArg _ (take_two e))
    rcases cut_cases l [60, 61] with ⟨h2, n2⟩ | ⟨a, b, e2, h2, f2⟩
    · rw [h2]
      dsimp only
      rw [if_neg (by simp)]
      have k2 : (c :: r).take 2 ≠ [60, 61] := fun e => n2 p ((c :: r).drop 2) (by rw [hl]; exact congrArg _ (take_two e))
      rcases cut_cases l [61] with ⟨h3, n3⟩ | ⟨a, b, e3, h3, f3⟩
      · rw [h3]
        dsimp only
        rw [if_neg (by simp)]
        have k3 : (c :: r).head? ≠ some 61 := fun e => n3 p r (by rw [hl]; injection e with e; rw [e]; rfl)
        rw [if_neg (fun e => by have := ((name_ok e).2 c (by rw [hl]; simp)).1; rw [hc] at this; cases this), readS_none (fun e => absurd e k1) (fun e => absurd e k2) (fun e => absurd e k3)]
        rfl
      · replace e3 : l = a ++ 61 :: b := e3
        rw [h3]
        dsimp only
        rw [if_pos rfl]
        by_cases hn : nameB a = true
        · obtain ⟨q1, q2⟩ := sign_at hl e3 hp hc (fun x hx => ((name_ok hn).2 x hx).1) (by decide)
          rw [q2, q1]
          unfold readS
          rw [if_neg (by simp), if_neg (by simp)]
          by_cases hb : b = []
          · subst hb
            rw [if_neg (by simp), numF_is, partD_no_num numL_nil]
          · rw [if_pos ⟨by have := List.length_pos_iff.2 hb; rw [List.length_cons]; omega, rfl⟩]
            exact numF_is a b
        · rw [numF_no_name hn, readS_none (fun e => absurd e k1) (fun e => absurd e k2)]
          · rfl
          · intro e
            have e' : c = 61 := by injection e
            subst e'
            have := first_eq (e3.symm.trans hl) (f3 p r hl) hp (by decide)
            rw [← this]
            exact partD_no_name hn
    · replace e2 : l = a ++ 60 :: 61 :: b := e2
      rw [h2]
      dsimp only
      rw [if_pos rfl]
      by_cases hn : nameB a = true
      · obtain ⟨q1, q2⟩ := sign_at hl e2 hp hc (fun x hx => ((name_ok hn).2 x hx).1) (by decide)
        rw [q2, q1]
        unfold readS
        rw [if_neg (by simp)]
        by_cases hb : b = []
        · subst hb
          rw [if_neg (by simp), if_neg (by simp), numF_le, partD_no_num numL_nil]
        · rw [if_pos ⟨by have := List.length_pos_iff.2 hb; rw [List.length_cons, List.length_cons]; omega, rfl⟩]
          exact numF_le a b
      · rw [numF_no_name hn, readS_none (fun e => absurd e k1)]
        · rfl
        · intro e
          have e' := take_two e
          rw [e'] at hl
          have := first_eq (e2.symm.trans hl) (f2 p _ hl) hp (by decide)
          rw [← this]
          exact partD_no_name hn
        · intro e
          have e' : c = 61 := by injection e
          subst e'
          exact partD_no_num (num_no (mem_behind hl e2 hp (by decide) (by decide)) (by decide))
  · replace e1 : l = a ++ 62 :: 61 :: b := e1
    rw [h1]
    dsimp only
    rw [if_pos rfl]
    by_cases hn : nameB a = true
    · obtain ⟨q1, q2⟩ := sign_at hl e1 hp hc (fun x hx => ((name_ok hn).2 x hx).1) (by decide)
      rw [q2, q1]
      unfold readS
      by_cases hb : b = []
      · subst hb
        rw [if_neg (by simp), if_neg (by simp), if_neg (by simp), numF_ge, partD_no_num numL_nil]
      · rw [if_pos ⟨by have := List.length_pos_iff.2 hb; rw [List.length_cons, List.length_cons]; omega, rfl⟩]
        exact numF_ge a b
    · rw [numF_no_name hn, readS_none]
      · rfl
      · intro e
        have e' := take_two e
        rw [e'] at hl
        have := first_eq (e1.symm.trans hl) (f1 p _ hl) hp (by decide)
        rw [← this]
        exact partD_no_name hn
      · intro e
        have e' := take_two e
        rw [e'] at hl
        have hm := mem_behind hl e1 hp (by decide) (by decide)
        rcases List.mem_cons.1 hm with h | h
        · exact absurd h (by decide)
        · exact partD_no_num (num_no h (by decide))
      · intro e
        have e' : c = 61 := by injection e
        subst e'
        exact partD_no_num (num_no (mem_behind hl e1 hp (by decide) (by decide)) (by decide))
/-- No sign at all: nothing is cut. -/
theorem cut_plain {l sep : List UInt8} {c : UInt8} {t : List UInt8} (hs : sep = c :: t) (hc : cutB c = true) (hl : ∀ x ∈ l, cutB x = false) : cut l sep = (l, [], false) := by
  rcases cut_cases l sep with ⟨h1, _⟩ | ⟨a, b, e, _, _⟩
  · exact h1
  · have := hl c (by rw [e, hs]; simp)
    rw [hc] at this
    cases this
theorem all_pre {l : List UInt8} (h : sufP l = []) : preP l = l ∧ ∀ x ∈ l, cutB x = false := by
  have h1 := pre_suf l
  rw [h, List.append_nil] at h1
  exact ⟨h1, fun x hx => pre_no (by rw [h1]; exact hx)⟩
theorem readS_nil (p : List UInt8) : readS p [] = (0, [], 0) := by
  unfold readS
  simp
/-- What the document reads is what the program reads. -/
theorem need_read (l : List UInt8) : needP l = spanD (readD l) := by
  unfold needP readD
  by_cases hb : l.head? = some 33
  · rw [if_pos ((prefix_bang l).2 hb), if_pos hb]
    by_cases hn : nameB (l.drop 1) = true
    · rw [if_pos hn, if_pos hn]; simp [spanD]
    · rw [if_neg hn, if_neg hn]; rfl
  · rw [if_neg (fun e => hb ((prefix_bang l).1 e)), if_neg hb]
    cases hs : sufP l with
    | nil =>
      obtain ⟨h1, h2⟩ := all_pre hs
      unfold needC
      rw [cut_plain (c := 62) (t := [61]) rfl (by decide) h2, cut_plain (c := 60) (t := [61]) rfl (by decide) h2, cut_plain (c := 61) (t := []) rfl (by decide) h2, h1]
      dsimp only
      rw [if_neg (by simp), if_neg (by simp), if_neg (by simp)]
      by_cases hn : nameB l = true
      · rw [if_pos hn, if_pos ⟨rfl, hn⟩]; simp [spanD]
      · rw [if_neg hn, if_neg (fun e => hn e.2), readS_nil]; rfl
    | cons c r =>
      rw [if_neg (by simp)]
      exact need_sign (by rw [← hs, pre_suf]) (fun x hx => pre_no hx) (suf_head hs)
theorem state_3 (a b : List UInt8) : stateD (partD 3 a b) = none := by
  unfold partD
  cases numL b with
  | none => rfl
  | some k => dsimp only; by_cases h : nameB a = true <;> simp [h, stateD]
theorem state_4 (a b : List UInt8) : stateD (partD 4 a b) = none := by
  unfold partD
  cases numL b with
  | none => rfl
  | some k => dsimp only; by_cases h : nameB a = true <;> simp [h, stateD]
theorem state_5 {p s : List UInt8} (h : s.head? ≠ some 61 ∨ nameB p ≠ true) : stateD (readS p s) = none := by
  unfold readS
  split
  · exact state_3 _ _
  split
  · exact state_4 _ _
  split
  · rename_i hh
    rcases h with h | h
    · exact absurd hh.2 h
    · rw [partD_no_name h]; rfl
  · rfl
theorem labF_no {a b : List UInt8} {f : Bool} (h : nameB a ≠ true) : labF a b f = none := by
  unfold labF
  rw [if_pos (by simpa using h)]
theorem lab_read (l : List UInt8) : labP l = stateD (readD l) := by
  unfold labP readD
  by_cases hb : l.head? = some 33
  · rw [if_pos hb]
    have hR : stateD (if nameB (l.drop 1) = true then (2, l.drop 1, 0) else (0, [], 0)) = none := by
      split <;> simp [stateD]
    rw [hR]
    refine labF_no fun hn => ?_
    obtain ⟨h1, h2⟩ := name_ok hn
    rcases cut_cases l [61] with ⟨h3, _⟩ | ⟨a, b, e, h3, _⟩
    · rw [h3] at h2
      refine (h2 33 ?_).2 rfl
      cases l with
      | nil => cases hb
      | cons x r => injection hb with hb; rw [hb]; simp
    · rw [h3] at h1 h2
      dsimp only at h1 h2
      cases a with
      | nil => exact h1 rfl
      | cons x r =>
        rw [e] at hb
        injection hb with hb
        exact (h2 x (by simp)).2 hb
  · rw [if_neg hb]
    cases hs : sufP l with
    | nil =>
      obtain ⟨h1, h2⟩ := all_pre hs
      rw [cut_plain (c := 61) (t := []) rfl (by decide) h2, h1]
      dsimp only
      unfold labF
      by_cases hn : nameB l = true
      · rw [if_neg (by simp [hn]), if_pos rfl, if_pos ⟨rfl, hn⟩]; simp [stateD]
      · rw [if_pos (by simpa using hn), if_neg (fun e => hn e.2), readS_nil]; rfl
    | cons c r =>
      rw [if_neg (by simp)]
      have hl : l = preP l ++ c :: r := by rw [← hs, pre_suf]
      have hc := suf_head hs
      rcases cut_cases l [61] with ⟨h3, n3⟩ | ⟨a, b, e, h3, f3⟩
      · rw [h3, labF_no (fun e => by have := ((name_ok e).2 c (by rw [hl]; simp)).1; rw [hc] at this; cases this)]
        exact (state_5 (Or.inl fun e => n3 (preP l) r (by injection e with e; rw [e] at hl; exact hl))).symm
      · replace e : l = a ++ 61 :: b := e
        rw [h3]
        dsimp only
        by_cases hn : nameB a = true
        · obtain ⟨q1, q2⟩ := sign_at hl e (fun x hx => pre_no hx) hc (fun x hx => ((name_ok hn).2 x hx).1) (by decide)
          rw [q2, q1]
          unfold labF readS
          rw [if_neg (by simp [hn]), if_neg (by simp), if_neg (by simp), if_neg (by simp)]
          by_cases hb : b = []
          · subst hb
            rw [if_neg (by simp), numL_nil]
            rfl
          · rw [if_pos ⟨by have := List.length_pos_iff.2 hb; rw [List.length_cons]; omega, rfl⟩]
            unfold partD
            cases hN : numL b with
            | none =>
              rw [show (61 :: b : List UInt8).drop 1 = b from rfl, hN]
              rfl
            | some k =>
              rw [show (61 :: b : List UInt8).drop 1 = b from rfl, hN]
              dsimp only
              rw [if_pos hn]
              simp [stateD]
        · rw [labF_no hn]
          refine (state_5 ?_).symm
          by_cases h61 : (c :: r).head? = some 61
          · have e' : c = 61 := by injection h61
            subst e'
            right
            rw [← first_eq (e.symm.trans hl) (f3 _ r hl) (fun x hx => pre_no hx) (by decide)]
            exact hn
          · exact Or.inl h61
end Go.Proofs.YtglckcenjnieaaaGreatDoor
