/- How the program reads a text of a duration, as plain functions on lists of bytes; it is what the document reads. No function of the program is named. -/
import Derived.Test.YtaalfnfikjmomaaDoorDurM
import Derived.Lib.AtoiAll
namespace Go.Proofs.YtaalfnfikjmomaaDoor

def dg : List UInt8 := [48, 49, 50, 51, 52, 53, 54, 55, 56, 57]
def lt : List UInt8 := [100, 104, 109, 115]
theorem dg_iff (c : UInt8) : dg.contains c = true ↔ 48 ≤ c.toNat ∧ c.toNat ≤ 57 := by
  constructor
  · intro h
    simp only [dg, List.contains_cons, List.contains_nil, Bool.or_false, Bool.or_eq_true, beq_iff_eq] at h
    rcases h with rfl | rfl | rfl | rfl | rfl | rfl | rfl | rfl | rfl | rfl <;> decide
  · rintro ⟨h1, h2⟩
    have : c = 48 ∨ c = 49 ∨ c = 50 ∨ c = 51 ∨ c = 52 ∨ c = 53 ∨ c = 54 ∨ c = 55 ∨ c = 56 ∨ c = 57 := by
      simp only [← UInt8.toNat_inj]
      simp only [UInt8.reduceToNat]
      omega
    rcases this with rfl | rfl | rfl | rfl | rfl | rfl | rfl | rfl | rfl | rfl <;> decide

/-- The number that digits spell. -/
def stepV (a : Nat) (c : UInt8) : Nat := 10 * a + (c.toNat - 48)
def valL (acc : Nat) (l : List UInt8) : Nat := l.foldl stepV acc
theorem valL_nil (acc : Nat) : valL acc [] = acc := rfl
theorem valL_cons (acc : Nat) (c : UInt8) (r : List UInt8) : valL acc (c :: r) = valL (10 * acc + (c.toNat - 48)) r := by
  unfold valL
  rw [List.foldl_cons, stepV]
theorem valL_ge : ∀ (l : List UInt8) (acc : Nat), acc ≤ valL acc l
  | [], acc => by rw [valL_nil]; exact Nat.le_refl _
  | c :: r, acc => by
    rw [valL_cons]
    have := valL_ge r (10 * acc + (c.toNat - 48))
    omega
def satN (l : List UInt8) : Nat := min (valL 0 l) 9223372036854775807

theorem uint_digits : ∀ (l : List UInt8) (acc : Nat), (∀ c ∈ l, 48 ≤ c.toNat ∧ c.toNat ≤ 57) → acc < 18446744073709551616 →
    Lib.parseUint10 acc l = if valL acc l < 18446744073709551616 then .ok (valL acc l) else .range
  | [], acc, _, h => by rw [Lib.parseUint10, valL_nil, if_pos h]
  | c :: r, acc, hd, h => by
    have hc := hd c (List.mem_cons_self)
    have hge := valL_ge r (10 * acc + (c.toNat - 48))
    rw [Lib.parseUint10, if_pos hc, valL_cons]
    split
    · rw [if_neg (by omega)]
    · split
      · rw [if_neg (by omega)]
      · rw [show acc * 10 + (c.toNat - 48) = 10 * acc + (c.toNat - 48) by omega]
        exact uint_digits r _ (fun x hx => hd x (List.mem_cons_of_mem _ hx)) (by omega)
theorem atoi_digits {l : List UInt8} (h0 : l ≠ []) (hd : ∀ c ∈ l, 48 ≤ c.toNat ∧ c.toNat ≤ 57) :
    Lib.atoiAll l = (if valL 0 l < 9223372036854775808 then .ok ((valL 0 l : Nat) : Int) else .range) ∧ Lib.atoiSat l = 9223372036854775807 := by
  cases l with
  | nil => exact absurd rfl h0
  | cons c r =>
    have hc := hd c (List.mem_cons_self)
    constructor
    · unfold Lib.atoiAll
      simp only []
      rw [if_neg (by omega), Lib.parseMag, if_neg (by simp), uint_digits _ 0 hd (by omega)]
      by_cases h1 : valL 0 (c :: r) < 18446744073709551616
      · rw [if_pos h1]
        simp only []
        by_cases h2 : valL 0 (c :: r) < 9223372036854775808
        · rw [if_neg (by omega), if_neg (by omega), if_pos h2, if_neg (by omega)]
        · rw [if_pos (by omega), if_neg h2]
      · rw [if_neg h1, if_neg (by omega)]
    · unfold Lib.atoiSat
      rw [if_neg]
      simp
      omega
theorem satN_eq (l : List UInt8) : satN l = if valL 0 l < 9223372036854775808 then valL 0 l else 9223372036854775807 := by
  unfold satN; split <;> omega

/-- The number of a unit with which a text begins, and what follows. -/
def takeL (name : List UInt8) (most : Nat) (l : List UInt8) : Option (Nat × List UInt8) :=
  if (l.dropWhile dg.contains).takeWhile lt.contains ≠ name ∨ l.takeWhile dg.contains = [] ∨ (l.takeWhile dg.contains).head? = some 48 then none
  else if most < satN (l.takeWhile dg.contains) then none
  else some (satN (l.takeWhile dg.contains), (l.dropWhile dg.contains).dropWhile lt.contains)
def mostU : Nat → Nat
  | 0 => 9223372036854775807 | 1 => 23 | 2 => 59 | 3 => 59 | _ => 999
def addS (a b : Nat) : Nat := min (a + b) 9223372036854775807
def mulS (a b : Nat) : Nat := min (a * b) 9223372036854775807
/-- The sum of the parts by the j last units, and what is left of the text. -/
def progF : Nat → Nat → List UInt8 → Nat × List UInt8
  | 0, sum, l => (sum, l)
  | j + 1, sum, l => match takeL (nameU (4 - j)) (mostU (4 - j)) l with
    | none => progF j sum l
    | some (n, r) => progF j (addS sum (mulS n (sizeU (4 - j)))) r
def MT : Nat := 1125899906842624
/-- What the program gives for a text: the number and the error. -/
def progP (l : List UInt8) : Nat × Nat :=
  if l = [48, 115] then (0, 0) else if l = [] ∨ (progF 5 0 l).2 ≠ [] then (0, 5) else if MT < (progF 5 0 l).1 then (0, 2) else ((progF 5 0 l).1, 0)
/-- What the document gives. -/
def docP (l : List UInt8) : Nat × Nat :=
  if l = [48, 115] then (0, 0) else if l = [] then (0, 5) else match parseL 5 l 0 0 false with
    | none => (0, 5)
    | some (t, large) => if large = true ∨ MT < t then (0, 2) else (t, 0)

/-! The two are one. -/
theorem num_drop : ∀ (l : List UInt8) (acc : Nat), (numL acc l).2 = l.dropWhile dg.contains
  | [], _ => rfl
  | c :: r, acc => by
    rw [numL]
    by_cases h : 48 ≤ c.toNat ∧ c.toNat ≤ 57
    · rw [if_pos h, List.dropWhile_cons_of_pos ((dg_iff c).2 h), num_drop r]
    · rw [if_neg h, List.dropWhile_cons_of_neg (fun e => h ((dg_iff c).1 e))]
theorem num_val : ∀ (l : List UInt8) (acc : Nat), acc ≤ 99999999 → (numL acc l).1 = min (valL acc (l.takeWhile dg.contains)) 99999999
  | [], acc, h => by simp [numL, valL_nil]; omega
  | c :: r, acc, h => by
    rw [numL]
    by_cases hc : 48 ≤ c.toNat ∧ c.toNat ≤ 57
    · rw [if_pos hc, List.takeWhile_cons_of_pos ((dg_iff c).2 hc), valL_cons, num_val r _ (Nat.min_le_right _ _)]
      rcases Nat.le_total (10 * acc + (c.toNat - 48)) 99999999 with hl | hl
      · rw [Nat.min_eq_left hl]
      · rw [Nat.min_eq_right hl]
        have h1 := valL_ge (r.takeWhile dg.contains) 99999999
        have h2 := valL_ge (r.takeWhile dg.contains) (10 * acc + (c.toNat - 48))
        omega
    · rw [if_neg hc, List.takeWhile_cons_of_neg (fun e => hc ((dg_iff c).1 e)), valL_nil]
      omega
theorem lt_not_dg {c : UInt8} (h : lt.contains c = true) : dg.contains c = false := by
  simp only [lt, List.contains_cons, List.contains_nil, Bool.or_false, Bool.or_eq_true, beq_iff_eq] at h
  rcases h with rfl | rfl | rfl | rfl <;> decide
theorem dg_not_lt {c : UInt8} (h : 48 ≤ c.toNat ∧ c.toNat ≤ 57) : lt.contains c = false := by
  cases h2 : lt.contains c
  · rfl
  · have := lt_not_dg h2
    rw [(dg_iff c).2 h] at this
    cases this
theorem name_lt (u : Nat) : ∀ c ∈ nameU u, lt.contains c = true := by
  intro c hc
  unfold nameU at hc
  split at hc <;> simp at hc <;> (try rcases hc with rfl | rfl) <;> (try subst hc) <;> decide
theorem takeWhile_all {p : UInt8 → Bool} : ∀ (a b : List UInt8), (∀ c ∈ a, p c = true) → (∀ c, b.head? = some c → p c = false) → (a ++ b).takeWhile p = a ∧ (a ++ b).dropWhile p = b
  | [], b, _, h => by
    cases b with
    | nil => exact ⟨rfl, rfl⟩
    | cons c b =>
      have := h c rfl
      exact ⟨List.takeWhile_cons_of_neg (by simp [this]), List.dropWhile_cons_of_neg (by simp [this])⟩
  | c :: a, b, ha, h => by
    have hc := ha c (List.mem_cons_self)
    obtain ⟨h1, h2⟩ := takeWhile_all a b (fun x hx => ha x (List.mem_cons_of_mem _ hx)) h
    exact ⟨by rw [List.cons_append, List.takeWhile_cons_of_pos hc, h1], by rw [List.cons_append, List.dropWhile_cons_of_pos hc, h2]⟩
theorem name_inj {u v : Nat} (hu : u ≤ 4) (hv : v ≤ 4) (h : nameU u = nameU v) : u = v := by
  rcases (show u = 0 ∨ u = 1 ∨ u = 2 ∨ u = 3 ∨ u = 4 by omega) with rfl | rfl | rfl | rfl | rfl <;>
    rcases (show v = 0 ∨ v = 1 ∨ v = 2 ∨ v = 3 ∨ v = 4 by omega) with rfl | rfl | rfl | rfl | rfl <;> first | rfl | (simp [nameU] at h)
theorem take_drop_len {p : UInt8 → Bool} (l : List UInt8) : (l.takeWhile p).length + (l.dropWhile p).length = l.length := by
  have := congrArg List.length (List.takeWhile_append_dropWhile (p := p) (l := l))
  rwa [List.length_append] at this
theorem take_nil_iff (l : List UInt8) : l.takeWhile dg.contains = [] ↔ (numL 0 l).2.length = l.length := by
  rw [num_drop]
  have := take_drop_len (p := dg.contains) l
  rw [← List.length_eq_zero_iff]
  omega
theorem head_zero {l : List UInt8} (h : l.takeWhile dg.contains ≠ []) : (l.takeWhile dg.contains).head? = l.head? := by
  cases l with
  | nil => rfl
  | cons c r =>
    by_cases hc : dg.contains c = true
    · rw [List.takeWhile_cons_of_pos hc]; rfl
    · rw [List.takeWhile_cons_of_neg hc] at h; exact absurd rfl h
/-- One step of the document's reading, by its unit. -/
theorem parse_step {f : Nat} {l : List UInt8} {sum k u : Nat} {large : Bool} (h0 : l ≠ []) (hu : unitL (numL 0 l).2 = some u)
    (hc : ¬ ((numL 0 l).2.length = l.length ∨ l.head? = some 48 ∨ u < k ∨ (0 < u ∧ belowU u ≤ (numL 0 l).1))) :
    parseL (f + 1) l sum k large = if u = 0 ∧ 13031250 < (numL 0 l).1 then parseL f ((numL 0 l).2.drop (nameU u).length) sum (u + 1) true
      else parseL f ((numL 0 l).2.drop (nameU u).length) (sum + (numL 0 l).1 * sizeU u) (u + 1) large := by
  rw [parseL, if_neg h0, hu]
  dsimp only
  rw [if_neg hc]
theorem parse_some {f : Nat} {l : List UInt8} {sum k : Nat} {large : Bool} {q : Nat × Bool} (h : parseL f l sum k large = some q) (h0 : l ≠ []) :
    ∃ g u, f = g + 1 ∧ unitL (numL 0 l).2 = some u ∧ ¬ ((numL 0 l).2.length = l.length ∨ l.head? = some 48 ∨ u < k ∨ (0 < u ∧ belowU u ≤ (numL 0 l).1)) := by
  cases f with
  | zero => rw [parseL, if_neg h0] at h; cases h
  | succ g =>
    rw [parseL, if_neg h0] at h
    cases hu : unitL (numL 0 l).2 with
    | none => rw [hu] at h; cases h
    | some u =>
      rw [hu] at h
      dsimp only at h
      by_cases hc : (numL 0 l).2.length = l.length ∨ l.head? = some 48 ∨ u < k ∨ (0 < u ∧ belowU u ≤ (numL 0 l).1)
      · rw [if_pos hc] at h; cases h
      · exact ⟨g, u, rfl, rfl, hc⟩
/-- What is read begins with a digit. -/
theorem parse_head {f : Nat} {l : List UInt8} {sum k : Nat} {large : Bool} {q : Nat × Bool} (h : parseL f l sum k large = some q) : ∀ c, l.head? = some c → lt.contains c = false := by
  intro c hc
  have h0 : l ≠ [] := by intro e; subst e; cases hc
  obtain ⟨g, u, rfl, _, hn⟩ := parse_some h h0
  cases l with
  | nil => exact absurd rfl h0
  | cons a r =>
    simp at hc
    subst hc
    by_cases hd : 48 ≤ a.toNat ∧ a.toNat ≤ 57
    · exact dg_not_lt hd
    · exact absurd (.inl (by rw [numL, if_neg hd])) hn
theorem most_below {u n v : Nat} (hu : u ≤ 4) (h0 : 0 < u) (hn : n = min v 99999999) : mostU u < min v 9223372036854775807 ↔ belowU u ≤ n := by
  rcases (show u = 1 ∨ u = 2 ∨ u = 3 ∨ u = 4 by omega) with rfl | rfl | rfl | rfl <;> simp only [mostU, belowU] <;> omega
/-- The reading goes on behind unit k where it takes none of it. -/
theorem parse_later {f : Nat} {l : List UInt8} {sum k : Nat} {large : Bool} (hk : ∀ u, unitL (numL 0 l).2 = some u → u ≠ k) : parseL f l sum k large = parseL f l sum (k + 1) large := by
  cases f with
  | zero => rfl
  | succ f =>
    rw [parseL, parseL]
    cases hu : unitL (numL 0 l).2 with
    | none => rfl
    | some u =>
      have := hk u hu
      have e : (u < k) = (u < k + 1) := propext (by omega)
      simp only [e]
/-- What the program has reckoned stands for what the document has. -/
def Stand (sum : Nat) (large : Bool) (s : Nat) : Prop := if large = true then MT < s ∧ s ≤ 9223372036854775807 else s = sum
/-- The two take the same unit. -/
theorem take_iff {l : List UInt8} {u : Nat} (hu : u ≤ 4) (hun : unitL (numL 0 l).2 = some u) (hc : ¬ ((numL 0 l).2.length = l.length ∨ l.head? = some 48 ∨ (0 < u ∧ belowU u ≤ (numL 0 l).1)))
    (hr : ∀ c, ((numL 0 l).2.drop (nameU u).length).head? = some c → lt.contains c = false) :
    takeL (nameU u) (mostU u) l = some (satN (l.takeWhile dg.contains), (numL 0 l).2.drop (nameU u).length) := by
  obtain ⟨_, hs⟩ := unit_of hun
  have h1 : l.takeWhile dg.contains ≠ [] := fun e => hc (.inl ((take_nil_iff l).1 e))
  have h2 : (l.takeWhile dg.contains).head? ≠ some 48 := by rw [head_zero h1]; exact fun e => hc (.inr (.inl e))
  obtain ⟨w1, w2⟩ := takeWhile_all (nameU u) ((numL 0 l).2.drop (nameU u).length) (name_lt u) hr
  rw [← hs, num_drop] at w1 w2
  unfold takeL
  rw [if_neg (by rw [w1]; simp [h1, h2]), w2, if_neg]
  · rw [num_drop]
  · intro hm
    by_cases u0 : 0 < u
    · exact hc (.inr (.inr ⟨u0, (most_below hu u0 (num_val l 0 (by omega))).1 hm⟩))
    · rw [show u = 0 by omega, show mostU 0 = 9223372036854775807 from rfl] at hm
      unfold satN at hm
      omega
theorem take_unit {l r : List UInt8} {k n : Nat} (hk : k ≤ 4) (h : takeL (nameU k) (mostU k) l = some (n, r)) :
    l ≠ [] ∧ unitL (numL 0 l).2 = some k ∧ ¬ ((numL 0 l).2.length = l.length ∨ l.head? = some 48 ∨ (0 < k ∧ belowU k ≤ (numL 0 l).1)) ∧ r = (numL 0 l).2.drop (nameU k).length ∧ n = satN (l.takeWhile dg.contains) := by
  unfold takeL at h
  split at h
  · cases h
  · rename_i hc
    split at h
    · cases h
    · rename_i hm
      simp only [not_or, Decidable.not_not] at hc
      obtain ⟨c1, c2, c3⟩ := hc
      simp only [Option.some.injEq, Prod.mk.injEq] at h
      obtain ⟨rfl, rfl⟩ := h
      have hl : l ≠ [] := by intro e; subst e; exact c2 rfl
      have happ := List.takeWhile_append_dropWhile (p := lt.contains) (l := l.dropWhile dg.contains)
      rw [c1] at happ
      have hdrop : (l.dropWhile dg.contains).dropWhile lt.contains = (l.dropWhile dg.contains).drop (nameU k).length := by
        conv => rhs; rw [← happ]
        rw [List.drop_left]
      have hun : unitL (l.dropWhile dg.contains) = some k := by
        rw [← happ]
        generalize hx : (l.dropWhile dg.contains).dropWhile lt.contains = x
        have hxh : ∀ c, x.head? = some c → lt.contains c = false := by
          intro c hc
          rw [← hx] at hc
          have := List.head?_dropWhile_not lt.contains (l.dropWhile dg.contains)
          rw [hc] at this
          simpa using this
        rcases (show k = 0 ∨ k = 1 ∨ k = 2 ∨ k = 3 ∨ k = 4 by omega) with rfl | rfl | rfl | rfl | rfl
        · simp [unitL, nameU]
        · simp [unitL, nameU]
        · have : x.head? ≠ some 115 := fun e => by have := hxh _ e; simp [lt] at this
          simp [unitL, nameU, this]
        · simp [unitL, nameU]
        · simp [unitL, nameU]
      refine ⟨hl, by rw [num_drop]; exact hun, ?_, by rw [num_drop]; exact hdrop, rfl⟩
      rintro (e | e | ⟨k0, e⟩)
      · exact c2 ((take_nil_iff l).2 e)
      · exact c3 (by rw [head_zero c2]; exact e)
      · exact hm ((most_below hk k0 (num_val l 0 (by omega))).2 e)
theorem prog_nil : ∀ j sum, progF j sum [] = (sum, [])
  | 0, _ => rfl
  | j + 1, sum => by
    have : takeL (nameU (4 - j)) (mostU (4 - j)) [] = none := by unfold takeL; rw [if_pos (.inr (.inl rfl))]
    rw [progF, this]
    exact prog_nil j sum
theorem stand_step {sum : Nat} {large : Bool} {s v u : Nat} (hu : u ≤ 4) (h : Stand sum large s) (hs : large = false → sum ≤ 2251799813685248000) (hb : ¬ (0 < u ∧ belowU u ≤ min v 99999999)) :
    if u = 0 ∧ 13031250 < min v 99999999 then Stand sum true (addS s (mulS (min v 9223372036854775807) (sizeU u))) else Stand (sum + min v 99999999 * sizeU u) large (addS s (mulS (min v 9223372036854775807) (sizeU u))) := by
  unfold Stand addS mulS MT at *
  cases large
  · have hs := hs rfl
    simp only [if_true, if_false, Bool.false_eq_true] at h ⊢
    rcases (show u = 0 ∨ u = 1 ∨ u = 2 ∨ u = 3 ∨ u = 4 by omega) with rfl | rfl | rfl | rfl | rfl <;> simp [belowU, sizeU] at hb ⊢ <;> (try split) <;> omega
  · simp only [if_true] at h ⊢
    rcases (show u = 0 ∨ u = 1 ∨ u = 2 ∨ u = 3 ∨ u = 4 by omega) with rfl | rfl | rfl | rfl | rfl <;> simp [belowU, sizeU] at hb ⊢ <;> (try split) <;> omega
/-- How large a sum before unit k may be. -/
def roomK : Nat → Nat
  | 0 => 0 | 1 => 1125900000000000 | 2 => 1125900082800000 | 3 => 1125900086340000 | 4 => 1125900086399000 | _ => 1125900086400000
theorem room_le (k : Nat) : roomK k ≤ 2251799813685248000 := by unfold roomK; split <;> omega
theorem room_step {k v sum : Nat} (hk : k ≤ 4) (h : sum ≤ roomK k) (hb : ¬ (0 < k ∧ belowU k ≤ min v 99999999)) (hd : ¬ (k = 0 ∧ 13031250 < min v 99999999)) : sum + min v 99999999 * sizeU k ≤ roomK (k + 1) := by
  rcases (show k = 0 ∨ k = 1 ∨ k = 2 ∨ k = 3 ∨ k = 4 by omega) with rfl | rfl | rfl | rfl | rfl <;> simp [belowU, sizeU, roomK] at * <;> omega
theorem room_mono (k : Nat) (hk : k ≤ 4) : roomK k ≤ roomK (k + 1) := by
  rcases (show k = 0 ∨ k = 1 ∨ k = 2 ∨ k = 3 ∨ k = 4 by omega) with rfl | rfl | rfl | rfl | rfl <;> simp only [roomK] <;> omega
theorem take_later {l : List UInt8} {k u : Nat} (hk : k ≤ 4) (hun : unitL (numL 0 l).2 = some u) (hne : u ≠ k) : takeL (nameU k) (mostU k) l = none := by
  cases h : takeL (nameU k) (mostU k) l with
  | none => rfl
  | some q =>
    obtain ⟨n, r⟩ := q
    have := (take_unit hk h).2.1
    rw [hun] at this
    exact absurd (Option.some.inj this) hne

theorem doc_prog : ∀ (j f k : Nat) (l : List UInt8) (sum t s : Nat) (large b : Bool), k + j = 5 → parseL f l sum k large = some (t, b) → Stand sum large s → (large = false → sum ≤ roomK k) →
    ∃ s', progF j s l = (s', []) ∧ Stand t b s' := by
  intro j
  induction j with
  | zero =>
    intro f k l sum t s large b hk h hst _
    obtain rfl : k = 5 := by omega
    by_cases h0 : l = []
    · subst h0
      refine ⟨s, rfl, ?_⟩
      cases f <;> simp [parseL] at h <;> (obtain ⟨rfl, rfl⟩ := h; exact hst)
    · obtain ⟨g, u, rfl, hu, hc⟩ := parse_some h h0
      have := (unit_of hu).1
      exact absurd (.inr (.inr (.inl (by omega)))) hc
  | succ j ih =>
    intro f k l sum t s large b hk h hst hroom
    obtain rfl : k = 4 - j := by omega
    have hk4 : 4 - j ≤ 4 := by omega
    by_cases h0 : l = []
    · subst h0
      refine ⟨s, prog_nil _ _, ?_⟩
      cases f <;> simp [parseL] at h <;> (obtain ⟨rfl, rfl⟩ := h; exact hst)
    · obtain ⟨g, u, rfl, hu, hc⟩ := parse_some h h0
      have hu4 := (unit_of hu).1
      rw [progF]
      by_cases hku : u = 4 - j
      · subst hku
        have hs := h
        rw [parse_step h0 hu hc] at hs
        have hc3 : ¬ ((numL 0 l).2.length = l.length ∨ l.head? = some 48 ∨ (0 < 4 - j ∧ belowU (4 - j) ≤ (numL 0 l).1)) := fun e => hc (by rcases e with e | e | e; exact .inl e; exact .inr (.inl e); exact .inr (.inr (.inr e)))
        have hv := num_val l 0 (by omega)
        have hhead : ∀ c, ((numL 0 l).2.drop (nameU (4 - j)).length).head? = some c → lt.contains c = false := by
          split at hs
          · exact parse_head hs
          · exact parse_head hs
        rw [take_iff hk4 hu hc3 hhead]
        dsimp only
        have hb : ¬ (0 < 4 - j ∧ belowU (4 - j) ≤ min (valL 0 (l.takeWhile dg.contains)) 99999999) := by rw [← hv]; exact fun e => hc3 (.inr (.inr e))
        have hst2 := stand_step (v := valL 0 (l.takeWhile dg.contains)) hk4 hst (fun e => Nat.le_trans (hroom e) (room_le _)) hb
        rw [hv] at hs
        unfold satN
        split at hs
        · rename_i hd
          rw [if_pos hd] at hst2
          exact ih _ _ _ _ _ _ _ _ (by omega) hs hst2 (fun e => nomatch e)
        · rename_i hd
          rw [if_neg hd] at hst2
          refine ih _ _ _ _ _ _ _ _ (by omega) hs hst2 (fun e => room_step hk4 (hroom e) hb hd)
      · rw [take_later hk4 hu hku]
        dsimp only
        rw [parse_later (k := 4 - j) (fun v hv => by rw [hu] at hv; injection hv with hv; omega)] at h
        exact ih _ _ _ _ _ _ _ _ (by omega) h hst (fun e => Nat.le_trans (hroom e) (room_mono _ hk4))
theorem prog_doc : ∀ (j f k : Nat) (l : List UInt8) (sum s s' : Nat) (large : Bool), k + j = 5 → j ≤ f → progF j s l = (s', []) → ∃ q, parseL f l sum k large = some q := by
  intro j
  induction j with
  | zero =>
    intro f k l sum s s' large hk hf h
    rw [progF] at h
    obtain rfl : l = [] := (Prod.mk.inj h).2
    cases f <;> exact ⟨(sum, large), by simp [parseL]⟩
  | succ j ih =>
    intro f k l sum s s' large hk hf h
    obtain rfl : k = 4 - j := by omega
    have hk4 : 4 - j ≤ 4 := by omega
    obtain ⟨g, rfl⟩ : ∃ g, f = g + 1 := ⟨f - 1, by omega⟩
    by_cases h0 : l = []
    · subst h0
      exact ⟨(sum, large), by simp [parseL]⟩
    rw [progF] at h
    cases ht : takeL (nameU (4 - j)) (mostU (4 - j)) l with
    | none =>
      rw [ht] at h
      dsimp only at h
      obtain ⟨q, hq⟩ := ih (g + 1) (4 - j + 1) l sum s s' large (by omega) (by omega) h
      obtain ⟨_, u, _, hu, hc⟩ := parse_some hq h0
      have hne : u ≠ 4 - j := by intro e; exact hc (.inr (.inr (.inl (by omega))))
      refine ⟨q, ?_⟩
      rw [parse_later (k := 4 - j) (fun v hv => by rw [hu] at hv; injection hv with hv; omega)]
      exact hq
    | some p =>
      obtain ⟨n, r⟩ := p
      rw [ht] at h
      dsimp only at h
      obtain ⟨_, hu, hc, rfl, rfl⟩ := take_unit hk4 ht
      rw [parse_step h0 hu (by rintro (e | e | e | e); exact hc (.inl e); exact hc (.inr (.inl e)); omega; exact hc (.inr (.inr e)))]
      split
      · exact ih _ _ _ _ _ _ _ (by omega) (by omega) h
      · exact ih _ _ _ _ _ _ _ (by omega) (by omega) h

/-- **The program reads what the document reads.** -/
theorem prog_is_doc (l : List UInt8) : progP l = docP l := by
  unfold progP docP
  split
  · rfl
  · split
    · rename_i h
      split
      · rfl
      · rename_i h0
        cases hp : parseL 5 l 0 0 false with
        | none => rfl
        | some q =>
          obtain ⟨t, b⟩ := q
          obtain ⟨s', e, _⟩ := doc_prog 5 5 0 l 0 t 0 false b rfl hp rfl (fun _ => Nat.zero_le _)
          rw [e] at h
          rcases h with h | h
          · exact absurd h h0
          · exact absurd rfl h
    · rename_i h
      simp only [not_or, Decidable.not_not] at h
      rw [if_neg h.1]
      obtain ⟨q, hq⟩ := prog_doc 5 5 0 l 0 0 (progF 5 0 l).1 false rfl (by omega) (by rw [← h.2])
      obtain ⟨t, b⟩ := q
      obtain ⟨s', e, hs⟩ := doc_prog 5 5 0 l 0 t 0 false b rfl hq rfl (fun _ => Nat.zero_le _)
      rw [hq, e]
      dsimp only
      unfold Stand at hs
      cases b
      · simp only [Bool.false_eq_true, if_false] at hs
        subst hs
        simp
      · simp only [if_true] at hs
        rw [if_pos hs.1, if_pos (.inl rfl)]
end Go.Proofs.YtaalfnfikjmomaaDoor
