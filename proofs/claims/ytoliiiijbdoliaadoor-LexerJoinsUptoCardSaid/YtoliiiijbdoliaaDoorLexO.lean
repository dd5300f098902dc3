/- The row of tokens that is laid so far (lexer). -/
import Derived.Test.YtoliiiijbdoliaaDoorLexN
import Derived.OwnWalk
import Derived.WalkSmall
namespace Go.Proofs.YtoliiiijbdoliaaDoor
open Go.RowKit Go.Lib
set_option linter.unusedVariables false

/-- A token's cells. -/
def tkC (t : Tm) : List Value := [.int .i64 t.kind, .string ⟨t.text.toArray⟩, .int .i64 t.pos]
theorem flat3 : ∀ (L : List Tm) (j : Nat) (h : j < L.length), (L.flatMap tkC)[j * 3]? = some (.int .i64 L[j].kind) ∧ (L.flatMap tkC)[j * 3 + 1]? = some (.string ⟨L[j].text.toArray⟩) ∧ (L.flatMap tkC)[j * 3 + 2]? = some (.int .i64 L[j].pos)
  | t :: L, 0, h => by
    rw [List.flatMap_cons]
    exact ⟨rfl, rfl, rfl⟩
  | t :: L, j + 1, h => by
    obtain ⟨h0, h1, h2⟩ := flat3 L j (by simpa using h)
    rw [List.flatMap_cons, show (j + 1) * 3 = j * 3 + 3 by omega]
    simp only [List.getElem_cons_succ]
    refine ⟨?_, ?_, ?_⟩
    · rw [List.getElem?_append_right (by simp [tkC]), ← h0]
      congr 1
    · rw [List.getElem?_append_right (by simp [tkC]), ← h1]
      congr 1
    · rw [List.getElem?_append_right (by simp [tkC]), ← h2]
      congr 1
theorem flat3_len : ∀ L : List Tm, (L.flatMap tkC).length = L.length * 3
  | [] => rfl
  | t :: L => by
    rw [List.flatMap_cons, List.length_append, flat3_len L, List.length_cons]
    simp [tkC]
    omega
/-- The tokens that are laid so far. -/
def RowK (w : World) (B : Nat) (v : Value) (L : List Tm) : Prop := w.ownsRow B 33 3 v L.length (L.flatMap tkC)
theorem RowK.nil (w : World) (B : Nat) : RowK w B (.slice none 0 0) [] := World.ownsRow_nil _ _ _ _
theorem RowK.reads {w : World} {B : Nat} {v : Value} {L : List Tm} (h : RowK w B v L) : ∃ a c, v = .slice a L.length c ∧ ReadsK w a L := by
  have h' : w.ownsRow B 33 3 v L.length (L.flatMap tkC) := h
  have hlt := World.ownsRow.lt h'
  rcases h.2 with ⟨rfl, h0⟩ | ⟨g, cap, cur, rfl, hB, hg, hnc, hcm, _⟩
  · have hl : L = [] := List.eq_nil_of_length_eq_zero (by simpa using h0)
    subst hl
    exact ⟨none, 0, rfl, fun j hj => by simp at hj⟩
  · refine ⟨some ⟨g, 0, none⟩, cap, rfl, fun j hj => ?_⟩
    obtain ⟨h0, h1, h2⟩ := flat3 L j hj
    have hc := World.ownsRow.cellAt h'
    refine ⟨g, 0, rfl, (hlt g rfl).2, ?_, ?_, ?_⟩
    · rw [Nat.zero_add, hc _ (by omega), h0]
    · rw [Nat.zero_add, hc _ (by omega), h1]
    · rw [Nat.zero_add, hc _ (by omega), h2]
/-- A row of its own stays where its block stays. -/
theorem own_stays {w w' : World} {B z n : Nat} {t : TypeId} {v : Value} {xs : List Value} (h : w.ownsRow B t z v n xs) (hb : ∀ g, v.ownBlock = some g → w'.heap[g]? = w.heap[g]?) : w'.ownsRow B t z v n xs := by
  refine ⟨h.1, ?_⟩
  rcases h.2 with ⟨h1, h2⟩ | ⟨g, cap, cur, rfl, hB, hg, h3⟩
  · exact .inl ⟨h1, h2⟩
  · exact .inr ⟨g, cap, cur, rfl, hB, (hb g rfl).trans hg, h3⟩
theorem RowK.below {w w' : World} {B : Nat} {v : Value} {L : List Tm} (h : RowK w B v L) (hb : Below w.heap.size w w') : RowK w' B v L :=
  own_stays h (fun g hg => hb.block g (World.ownsRow.lt h g hg).2)
theorem RowK.iter {w : World} {B : Nat} {v : Value} {L : List Tm} (h : RowK w B v L) {k : Nat} (hk : k < B) (s : ByteArray) (p : Nat) : RowK (w.iterAt k s p) B v L := ownsRow_iterAt h hk s p
end Go.Proofs.YtoliiiijbdoliaaDoor
