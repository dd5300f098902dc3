/- The chapter's first example (fairness). -/
import Derived.Test.YtmjikddceegloaaGreatDoorFrV
namespace Go.Proofs.YtmjikddceegloaaGreatDoor
open Go.RowKit Go.Lib
set_option linter.unusedSimpArgs false

def exA0 : Sha := ⟨[97], 1, 0⟩
def exA1 : Sha := ⟨[97], 1, 1⟩
def exB0 : Sha := ⟨[98], 3, 0⟩
theorem ab_cmp : cmpL [97] [98] = -1 := by decide +kernel
theorem a_name : nameB [97] = true := by decide +kernel
theorem b_name : nameB [98] = true := by decide +kernel
theorem two_valid (x y : Sha) (hx : rightS x = true) (hy : rightS y = true) (h : cmpL x.prj y.prj < 0) : ValidS [x, y] := by
  refine ⟨by simp, fun i hi => ?_⟩
  have hi' : i < 2 := hi
  rcases (show i = 0 ∨ i = 1 by omega) with rfl | rfl
  · exact ⟨hx, fun h0 => absurd h0 (Nat.lt_irrefl _)⟩
  · exact ⟨hy, fun _ => h⟩
theorem one_valid (x : Sha) (hx : rightS x = true) : ValidS [x] := by
  refine ⟨by simp, fun i hi => ?_⟩
  have hi' : i < 1 := hi
  obtain rfl : i = 0 := by omega
  exact ⟨hx, fun h0 => absurd h0 (Nat.lt_irrefl _)⟩
theorem perm_two {x y a b : Sha} (hab : a.prj ≠ b.prj) (h : [x, y].Perm [a, b]) : (x = a ∧ y = b) ∨ (x = b ∧ y = a) := by
  have mx := h.mem_iff (a := x)
  have my := h.mem_iff (a := y)
  have ma := h.mem_iff (a := a)
  have mb := h.mem_iff (a := b)
  simp at mx my ma mb
  rcases mx with rfl | rfl <;> rcases my with rfl | rfl
  · exfalso
    rcases mb with h | h
    · exact hab (by rw [h])
    · exact hab (by rw [h])
  · exact .inl ⟨rfl, rfl⟩
  · exact .inr ⟨rfl, rfl⟩
  · exfalso
    rcases ma with h | h
    · exact hab (by rw [h])
    · exact hab (by rw [h])
/-- The order of two shares of which the second does not come first. -/
theorem ord_two {x y : Sha} (hV : ValidS [x, y]) (hxy : x.prj ≠ y.prj) (hb : befC x y < 0) {N : List (List UInt8)} (h : OrdR [x, y] N) : N = [x.prj, y.prj] := by
  rcases h with ⟨h, _⟩ | ⟨_, L', hp, hs, rfl⟩
  · exact absurd hV h
  · have hl := hp.length_eq
    match L', hl, hp, hs with
    | [u, v], _, hp, hs =>
      rcases perm_two hxy hp with ⟨rfl, rfl⟩ | ⟨rfl, rfl⟩
      · rfl
      · simp at hs
        omega
theorem ord_two' {x y : Sha} (hV : ValidS [x, y]) (hxy : x.prj ≠ y.prj) (hb : befC y x < 0) {N : List (List UInt8)} (h : OrdR [x, y] N) : N = [y.prj, x.prj] := by
  rcases h with ⟨h, _⟩ | ⟨_, L', hp, hs, rfl⟩
  · exact absurd hV h
  · have hl := hp.length_eq
    match L', hl, hp, hs with
    | [u, v], _, hp, hs =>
      rcases perm_two hxy hp with ⟨rfl, rfl⟩ | ⟨rfl, rfl⟩
      · simp at hs
        omega
      · rfl
theorem bef_ab : befC exA0 exB0 < 0 := by decide +kernel
theorem bef_ba : befC exB0 exA1 < 0 := by decide +kernel
theorem ex_valid0 : ValidS [exA0, exB0] := two_valid _ _ (by decide +kernel) (by decide +kernel) (by show cmpL [97] [98] < 0; rw [ab_cmp]; decide)
theorem ex_valid1 : ValidS [exA1, exB0] := two_valid _ _ (by decide +kernel) (by decide +kernel) (by show cmpL [97] [98] < 0; rw [ab_cmp]; decide)
theorem ex_charge {R : List Sha} {E : Int} (h : ChR [exA0, exB0] [97] 1 R E) : R = [exA1, exB0] ∧ E = 0 :=
  h.one (.done 0 (by decide) ex_valid0 (by decide) rfl (by decide))
theorem ex_pick0 {N : List (List UInt8)} (h : OrdR [exA0, exB0] N) : pickN N [[98], [97]] = ([97], true) := by
  rw [ord_two ex_valid0 (by decide) bef_ab h]
  decide
theorem ex_pick1 {N : List (List UInt8)} (h : OrdR [exA1, exB0] N) : pickN N [[98], [97]] = ([98], true) := by
  rw [ord_two' ex_valid1 (by decide) bef_ba h]
  decide
end Go.Proofs.YtmjikddceegloaaGreatDoor
