/- Mix is a permutation of the numbers of 64 bits, whatever the key. -/
import Derived.Test.YtoehpoodfbgdiaaDoorDigA
namespace Go.Proofs.YtoehpoodfbgdiaaDoor
open Go.RowKit Go.Lib

theorem xor_inj_right {a b c : Nat} (h : a ^^^ c = b ^^^ c) : a = b := by
  have h2 : (a ^^^ c) ^^^ c = (b ^^^ c) ^^^ c := by rw [h]
  rwa [Nat.xor_assoc, Nat.xor_assoc, Nat.xor_self, Nat.xor_zero, Nat.xor_zero] at h2
theorem mixStep_inj {key i : Nat} {p q : Nat × Nat} (h : mixStep key p i = mixStep key q i) : p = q := by
  obtain ⟨p1, p2⟩ := p
  obtain ⟨q1, q2⟩ := q
  simp only [mixStep, Prod.mk.injEq] at h
  obtain ⟨rfl, h2⟩ := h
  rw [xor_inj_right h2]
theorem mixP_inj {key x y : Nat} : ∀ n, mixP key x n = mixP key y n → (x / 4294967296 = y / 4294967296 ∧ x % 4294967296 = y % 4294967296)
  | 0, h => by simpa [mixP] using h
  | n + 1, h => mixP_inj n (mixStep_inj h)
theorem mixN_inj {key x y : Nat} (hx : x < 18446744073709551616) (hy : y < 18446744073709551616) (h : mixN key x = mixN key y) : x = y := by
  obtain ⟨a1, a2⟩ := mixP_lt (key := key) hx 4
  obtain ⟨b1, b2⟩ := mixP_lt (key := key) hy 4
  unfold mixN at h
  obtain ⟨h1, h2⟩ := mixP_inj (key := key) (x := x) (y := y) 4 (Prod.ext (by omega) (by omega))
  omega
theorem mix_ex : mixN 0 0 ≠ mixN 0 1 := fun h => by have := mixN_inj (by decide) (by decide) h; omega
end Go.Proofs.YtoehpoodfbgdiaaDoor
