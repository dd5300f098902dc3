/- What is decoded is what was encoded, and what was decoded is encoded again: the plain functions of octets alone. -/
import Derived.Test.YtfnjemocekgncaaPrsE
import Derived.Test.YtfnjemocekgncaaOctJ
import Derived.Test.YtfnjemocekgncaaOctK
namespace Go.Proofs.Ytfnjemocekgncaa
open Go.RowKit Go.Lib

/-- A field that was read from memory, whose list has at most m levels. -/
def FOk : Nat → Fd → Prop
  | 0, .mk _ i _ l => (-9223372036854775808 ≤ i ∧ i ≤ 9223372036854775807) ∧ l = []
  | m + 1, .mk _ i _ l => (-9223372036854775808 ≤ i ∧ i ≤ 9223372036854775807) ∧ ∀ f, f ∈ l → FOk m f
theorem reads_ok {w : World} : ∀ (m : Nat) (v : Option Addr) (l : List Fd), ReadsF (m + 1) w v l → ∀ f, f ∈ l → FOk m f
  | m, v, l, h, f, hf => by
    obtain ⟨j, hj, rfl⟩ := List.getElem_of_mem hf
    obtain ⟨b, off, k, i, s, av, c, l', h0, _, _, _, _, _, _, _, _, h9, h10, _, h12⟩ := h j hj
    rw [List.getElem?_eq_getElem hj] at h0
    injection h0 with h0
    rw [h0]
    cases m with
    | zero => exact ⟨⟨h9, h10⟩, h12⟩
    | succ m => exact ⟨⟨h9, h10⟩, reads_ok m av l' h12⟩

theorem toList_nil {s : ByteArray} (h : s.toList = []) : s = ⟨#[]⟩ := by
  have h2 : s.data.toList = [] := by rw [← ByteArray.toList_eq]; exact h
  obtain ⟨⟨d⟩⟩ := s
  simp at h2
  subst h2
  rfl
theorem firstOf_zero (g : Fd → Nat) : ∀ l : List Fd, firstOf g l = 0 ↔ ∀ f, f ∈ l → g f = 0
  | [] => by simp [firstOf]
  | x :: l => by
    unfold firstOf
    by_cases h : g x = 0
    · rw [if_neg (by omega), firstOf_zero g l]
      simp [h]
    · rw [if_pos h]
      simp [h]
/-- A valid field: one of three. -/
theorem valid_cases {n : Nat} {k i : Int} {s : ByteArray} {l : List Fd} (h : vErr n (.mk k i s l) = 0) :
    ∃ n', n = n' + 1 ∧ ((k = 0 ∧ s = ⟨#[]⟩ ∧ l = []) ∨ (k = 1 ∧ i = 0 ∧ l = []) ∨ (k = 2 ∧ i = 0 ∧ s = ⟨#[]⟩ ∧ ∀ f, f ∈ l → vErr n' f = 0)) := by
  cases n with
  | zero => simp [vErr] at h
  | succ n =>
    refine ⟨n, rfl, ?_⟩
    unfold vErr at h
    by_cases hb : badB k i s l = true
    · rw [if_pos hb] at h; omega
    · rw [if_neg hb, firstOf_zero] at h
      have hb' : badB k i s l = false := by simpa using hb
      unfold badB at hb'
      by_cases k0 : k = 0
      · rw [if_pos k0] at hb'
        have h1 : s.toList = [] ∧ l = [] := by simpa using hb'
        exact .inl ⟨k0, toList_nil h1.1, h1.2⟩
      · rw [if_neg k0] at hb'
        by_cases k1 : k = 1
        · rw [if_pos k1] at hb'
          have h1 : i = 0 ∧ l = [] := by simpa using hb'
          exact .inr (.inl ⟨k1, h1⟩)
        · rw [if_neg k1] at hb'
          by_cases k2 : k = 2
          · rw [if_pos k2] at hb'
            have h1 : i = 0 ∧ s.toList = [] := by simpa using hb'
            exact .inr (.inr ⟨k2, h1.1, toList_nil h1.2, h⟩)
          · rw [if_neg k2] at hb'; cases hb'

theorem takeS_app (s : ByteArray) (r : List UInt8) (hs : s.size < 18446744073709551616) : takeS (encS s ++ r) = (s.data.toList, (encS s).length, 0) := by
  have e : s.data.toList.length = s.size := by rw [Array.length_toList]; rfl
  unfold takeS encS
  rw [List.append_assoc, take_put _ _ hs]
  simp only [ne_eq, not_true_eq_false, if_false, List.length_append, e, List.drop_left]
  rw [if_neg (by omega), List.take_append_of_le_length (by omega), List.take_of_length_le (by omega)]

/-- Lists: what each element's encoding gives, the list's gives. -/
theorem pList_put (g : List UInt8 → Nat × Fd × List UInt8) (e : Fd → List UInt8) (φ : Fd → Fd) : ∀ (l : List Fd) (r : List UInt8), (∀ f, f ∈ l → ∀ r, g (e f ++ r) = (0, φ f, r)) → pList g l.length (l.flatMap e ++ r) = (0, l.map φ, r)
  | [], r, _ => by simp [pList]
  | f :: l, r, h => by
    have h1 := h f (by simp) (l.flatMap e ++ r)
    have h2 := pList_put g e φ l r (fun f hf => h f (by simp [hf]))
    rw [List.flatMap_cons, List.append_assoc, List.length_cons, pList, h1]
    simp [h2]
theorem pList_cut (g : List UInt8 → Nat × Fd × List UInt8) (e : Fd → List UInt8) (φ : Fd → Fd) : ∀ (l : List Fd) (c : Nat), (∀ f, f ∈ l → ∀ r, g (e f ++ r) = (0, φ f, r)) → (∀ f, f ∈ l → ∀ c, c < (e f).length → (g ((e f).take c)).1 = 4) →
    c < (l.flatMap e).length → (pList g l.length ((l.flatMap e).take c)).1 = 4
  | [], c, _, _, hc => by simp at hc
  | f :: l, c, h, h4, hc => by
    rw [List.flatMap_cons, List.length_append] at hc
    rw [List.flatMap_cons, List.length_cons, pList]
    by_cases hlt : c < (e f).length
    · rw [List.take_append_of_le_length (by omega)]
      have := h4 f (by simp) c hlt
      rw [if_pos (by omega)]
      exact this
    · have h1 := h f (by simp) ((l.flatMap e).take (c - (e f).length))
      have h2 := pList_cut g e φ l (c - (e f).length) (fun f hf => h f (by simp [hf])) (fun f hf => h4 f (by simp [hf])) (by omega)
      rw [show (e f ++ l.flatMap e).take c = e f ++ (l.flatMap e).take (c - (e f).length) by rw [List.take_append, List.take_of_length_le (by omega)], h1]
      rw [if_neg (by simp), if_pos (by simp; omega)]
      exact h2
theorem take_short : ∀ (x i acc c : Nat), i ≤ 9 → x * 128 ^ i < 18446744073709551616 → c < (Lib.uvarint x).length → (takeFrom i acc ((Lib.uvarint x).take c)).2.2 = 4 := by
  intro x
  induction x using Nat.strongRecOn with
  | ind x ih =>
    intro i acc c hi hx hc
    have h9 : i = 9 → x ≤ 1 := by
      intro h
      subst h
      have e9 : (128 : Nat) ^ 9 = 9223372036854775808 := by decide
      rw [e9] at hx
      omega
    by_cases hs : x < 128
    · rw [Lib.uvarint_small hs] at hc ⊢
      have : c = 0 := by simp at hc; omega
      subst this
      rfl
    · rw [Lib.uvarint_big (by omega)] at hc ⊢
      cases c with
      | zero => rfl
      | succ c =>
        have hb : ((x % 128 + 128).toUInt8).toNat = x % 128 + 128 := by simp; omega
        rw [List.take_succ_cons]
        unfold takeFrom
        have hi9 : i ≠ 9 := fun h => by have := h9 h; omega
        rw [hb, if_neg (by omega), if_neg (by omega), if_neg (by omega)]
        have e2 : x / 128 * 128 ^ (i + 1) + x % 128 * 128 ^ i = x * 128 ^ i := by
          rw [Nat.pow_succ, Nat.mul_comm (128 ^ i) 128, ← Nat.mul_assoc, ← Nat.add_mul, Nat.div_add_mod']
        exact ih (x / 128) (by omega) (i + 1) _ c (by omega) (by omega) (by simpa using hc)
theorem take_cut (x c : Nat) (hx : x < 18446744073709551616) (hc : c < (Lib.uvarint x).length) : (take ((Lib.uvarint x).take c)).2.2 = 4 :=
  take_short x 0 0 c (by omega) (by simpa using hx) hc
theorem takeS_cut (s : ByteArray) (c : Nat) (hs : s.size < 18446744073709551616) (hc : c < (encS s).length) : (takeS ((encS s).take c)).2.2 = 4 := by
  have e : s.data.toList.length = s.size := by rw [Array.length_toList]; rfl
  unfold encS at hc ⊢
  rw [List.length_append] at hc
  by_cases hlt : c < (Lib.uvarint s.size).length
  · have h4 := take_cut s.size c hs hlt
    rw [List.take_append_of_le_length (by omega)]
    unfold takeS
    rw [if_pos (by omega)]
    exact h4
  · rw [show (Lib.uvarint s.size ++ s.data.toList).take c = Lib.uvarint s.size ++ s.data.toList.take (c - (Lib.uvarint s.size).length) by rw [List.take_append, List.take_of_length_le (by omega)]]
    unfold takeS
    rw [take_put _ _ hs]
    simp only [ne_eq, not_true_eq_false, if_false, List.length_append, List.length_take, e]
    rw [if_pos (by omega)]
theorem pFields_put (g : List UInt8 → Nat × Fd × List UInt8) (e : Fd → List UInt8) (φ : Fd → Fd) (l : List Fd) (r : List UInt8) (hl : l.length < 18446744073709551616) (h : ∀ f, f ∈ l → ∀ r, g (e f ++ r) = (0, φ f, r)) :
    pFields g (Lib.uvarint l.length ++ l.flatMap e ++ r) = (0, l.map φ, r) := by
  unfold pFields
  rw [List.append_assoc, take_put _ _ hl]
  simp only [ne_eq, not_true_eq_false, if_false, List.drop_left]
  exact pList_put g e φ l r h
theorem pFields_cut (g : List UInt8 → Nat × Fd × List UInt8) (e : Fd → List UInt8) (φ : Fd → Fd) (l : List Fd) (c : Nat) (hl : l.length < 18446744073709551616) (h : ∀ f, f ∈ l → ∀ r, g (e f ++ r) = (0, φ f, r)) (h4 : ∀ f, f ∈ l → ∀ c, c < (e f).length → (g ((e f).take c)).1 = 4)
    (hc : c < (Lib.uvarint l.length ++ l.flatMap e).length) : (pFields g ((Lib.uvarint l.length ++ l.flatMap e).take c)).1 = 4 := by
  rw [List.length_append] at hc
  by_cases hlt : c < (Lib.uvarint l.length).length
  · have h5 := take_cut l.length c hl hlt
    rw [List.take_append_of_le_length (by omega)]
    unfold pFields
    rw [if_pos (by omega)]
    exact h5
  · rw [show (Lib.uvarint l.length ++ l.flatMap e).take c = Lib.uvarint l.length ++ (l.flatMap e).take (c - (Lib.uvarint l.length).length) by rw [List.take_append, List.take_of_length_le (by omega)]]
    unfold pFields
    rw [take_put _ _ hl]
    simp only [ne_eq, not_true_eq_false, if_false, List.drop_left]
    exact pList_cut g e φ l _ h h4 (by omega)
end Go.Proofs.Ytfnjemocekgncaa
