/- Fields as trees, how they lie in memory, and the contract of octets.Valid. -/
import Derived.Test.YtfnjemocekgncaaOctE
namespace Go.Proofs.Ytfnjemocekgncaa
open Go.RowKit Go.Lib

/-- A field: its kind, its number, its string, its list. -/
inductive Fd where
  | mk (kind num : Int) (str : ByteArray) (list : List Fd)

def badB (k i : Int) (s : ByteArray) (l : List Fd) : Bool :=
  if k = 0 then !(s.toList.isEmpty && l.isEmpty) else if k = 1 then !(decide (i = 0) && l.isEmpty) else if k = 2 then !(decide (i = 0) && s.toList.isEmpty) else true
/-- The first error of a list. -/
def firstOf (g : Fd → Nat) : List Fd → Nat
  | [] => 0
  | x :: r => if g x ≠ 0 then g x else firstOf g r
/-- The error of a field that n - 1 further levels may lie below (n = 0: too deep). -/
def vErr : Nat → Fd → Nat
  | 0, _ => 13
  | n + 1, .mk k i s l => if badB k i s l = true then 1 else firstOf (vErr n) l

/-- A slice of fields reads as a list of trees of at most m levels. -/
def ReadsF : Nat → World → Option Addr → List Fd → Prop
  | 0, _, _, l => l = []
  | m + 1, w, v, l => ∀ j (_ : j < l.length), ∃ b off k i s av c l', l[j]? = some (.mk k i s l') ∧ v = some ⟨b, off, none⟩ ∧ b < w.heap.size ∧
      w.cell? ⟨b, off + j * 4, none⟩ = some (.int .i64 k) ∧ w.cell? ⟨b, off + j * 4 + 1, none⟩ = some (.int .i64 i) ∧
      w.cell? ⟨b, off + j * 4 + 2, none⟩ = some (.string s) ∧ w.cell? ⟨b, off + j * 4 + 3, none⟩ = some (.slice av l'.length c) ∧
      -9223372036854775808 ≤ k ∧ k ≤ 9223372036854775807 ∧ -9223372036854775808 ≤ i ∧ i ≤ 9223372036854775807 ∧ l'.length ≤ 9223372036854775807 ∧ ReadsF m w av l'
theorem ReadsF.below {w w' : World} (hb : Below w.heap.size w w') : ∀ (m : Nat) (v : Option Addr) (l : List Fd), ReadsF m w v l → ReadsF m w' v l
  | 0, _, _, h => h
  | m + 1, v, l, h => by
    intro j hj
    obtain ⟨b, off, k, i, s, av, c, l', h0, h1, h2, h3, h4, h5, h6, h7, h8, h9, h10, h11, h12⟩ := h j hj
    exact ⟨b, off, k, i, s, av, c, l', h0, h1, Nat.lt_of_lt_of_le h2 hb.size, (hb.cell (p := ⟨b, _, none⟩) h2).trans h3, (hb.cell (p := ⟨b, _, none⟩) h2).trans h4,
      (hb.cell (p := ⟨b, _, none⟩) h2).trans h5, (hb.cell (p := ⟨b, _, none⟩) h2).trans h6, h7, h8, h9, h10, h11, ReadsF.below hb m av l' h12⟩

def fieldV (k i : Int) (s : ByteArray) (v : Option Addr) (n c : Nat) : Value := .agg #[.int .i64 k, .int .i64 i, .string s, .slice v n c]

def ValidPost (r : Nat) (w : World) (e : Ending) (w' : World) : Prop := e = .returned (.int .i64 (r : Int)) ∧ Below w.heap.size w w'

theorem str_empty {s : ByteArray} (h : s.toList = []) : s.toList.isEmpty = true := by rw [h]; rfl
theorem str_full {s : ByteArray} (h : ¬ s.toList = []) : s.toList.isEmpty = false := by
  cases hs : s.toList with
  | nil => exact absurd hs h
  | cons a b => rfl
theorem list_full {l : List Fd} (h : ¬ l = []) : 0 < l.length := by
  cases l with
  | nil => exact absurd rfl h
  | cons a b => simp

set_option maxHeartbeats 4000000 in
set_option maxRecDepth 100000 in
theorem validAt_bad (n : Nat) (k i : Int) (s : ByteArray) (v : Option Addr) (c : Nat) (l : List Fd) (hn : n < 129) (hbad : badB k i s l = true) (w : World) :
    Calls Try.prog 33 #[.agg #[.int .i64 k, .int .i64 i, .string s, .slice v l.length c], .int .i64 (128 - (n : Int))] w (ValidPost 1 w) := by
  have u0 : decide ((128 : Int) < 128 - (n : Int)) = false := by simp; omega
  unfold badB at hbad
  by_cases k0 : k = 0
  · subst k0
    rw [if_pos rfl] at hbad
    by_cases hs : s.toList = []
    · have hl : ¬ l = [] := by intro h; rw [hs, h] at hbad; simp at hbad
      have hs2 := str_empty hs
      have hl2 := list_full hl
      have hl3 : decide ((0 : Int) < (l.length : Int)) = true := by simp; omega
      clear hbad
      go_enter Try.func33, Try.ntmps33
      go_wp2_with fail
      go_ret
      exact ⟨rfl, by repeat (first | exact Below.refl _ _ | refine Below.setCell ?_ (by simp <;> omega) _ | refine Below.alloc ?_ (by simp <;> omega) _)⟩
    · have hs2 := str_full hs
      clear hbad
      go_enter Try.func33, Try.ntmps33
      go_wp2_with fail
      go_ret
      exact ⟨rfl, by repeat (first | exact Below.refl _ _ | refine Below.setCell ?_ (by simp <;> omega) _ | refine Below.alloc ?_ (by simp <;> omega) _)⟩
  · rw [if_neg k0] at hbad
    by_cases k1 : k = 1
    · subst k1
      rw [if_pos rfl] at hbad
      by_cases hi : i = 0
      · subst hi
        have hl : ¬ l = [] := by intro h; rw [h] at hbad; simp at hbad
        have hl2 := list_full hl
        have hl3 : decide ((0 : Int) < (l.length : Int)) = true := by simp; omega
        clear hbad k0
        go_enter Try.func33, Try.ntmps33
        go_wp2_with fail
        go_ret
        exact ⟨rfl, by repeat (first | exact Below.refl _ _ | refine Below.setCell ?_ (by simp <;> omega) _ | refine Below.alloc ?_ (by simp <;> omega) _)⟩
      · have hi2 : (i != 0) = true := by rw [bne_iff_ne]; exact hi
        clear hbad k0
        go_enter Try.func33, Try.ntmps33
        go_wp2_with fail
        go_ret
        exact ⟨rfl, by repeat (first | exact Below.refl _ _ | refine Below.setCell ?_ (by simp <;> omega) _ | refine Below.alloc ?_ (by simp <;> omega) _)⟩
    · rw [if_neg k1] at hbad
      by_cases k2 : k = 2
      · subst k2
        rw [if_pos rfl] at hbad
        by_cases hi : i = 0
        · subst hi
          have hs : ¬ s.toList = [] := by intro h; rw [h] at hbad; simp at hbad
          have hs2 := str_full hs
          clear hbad k0 k1
          go_enter Try.func33, Try.ntmps33
          go_wp2_with fail
          go_ret
          exact ⟨rfl, by repeat (first | exact Below.refl _ _ | refine Below.setCell ?_ (by simp <;> omega) _ | refine Below.alloc ?_ (by simp <;> omega) _)⟩
        · have hi2 : (i != 0) = true := by rw [bne_iff_ne]; exact hi
          clear hbad k0 k1
          go_enter Try.func33, Try.ntmps33
          go_wp2_with fail
          go_ret
          exact ⟨rfl, by repeat (first | exact Below.refl _ _ | refine Below.setCell ?_ (by simp <;> omega) _ | refine Below.alloc ?_ (by simp <;> omega) _)⟩
      · have e0 : (k == 0) = false := by rw [beq_eq_false_iff_ne]; exact k0
        have e1 : (k == 1) = false := by rw [beq_eq_false_iff_ne]; exact k1
        have e2 : (k == 2) = false := by rw [beq_eq_false_iff_ne]; exact k2
        clear hbad k0 k1 k2
        go_enter Try.func33, Try.ntmps33
        go_wp2_with fail
        go_ret
        exact ⟨rfl, by repeat (first | exact Below.refl _ _ | refine Below.setCell ?_ (by simp <;> omega) _ | refine Below.alloc ?_ (by simp <;> omega) _)⟩
end Go.Proofs.Ytfnjemocekgncaa
