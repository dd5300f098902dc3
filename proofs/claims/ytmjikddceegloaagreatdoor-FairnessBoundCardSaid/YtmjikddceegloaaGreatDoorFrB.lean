/- Shares in memory (fairness). -/
import Derived.Test.YtmjikddceegloaaGreatDoorFrA
import Derived.Test.YtmjikddceegloaaGreatDoorBaseS
import Derived.Deep.RegionHeld3
import Derived.Deep.QuietTactic
import Derived.BigQuiet
import Derived.Deep.DeepCutAuto
namespace Go.Proofs.YtmjikddceegloaaGreatDoor
open Go.RowKit Go.Lib

/-- A share's cells. -/
def shC (s : Sha) : List Value := [.string ⟨s.prj.toArray⟩, .int .i64 s.wgt, .int .i64 s.srv]
/-- A slice of shares reads as a list of them. -/
def ReadsH (w : World) (v : Option Addr) (l : List Sha) : Prop := ∀ j (_ : j < l.length), ∃ b off, v = some ⟨b, off, none⟩ ∧ b < w.heap.size ∧ w.cell? ⟨b, off + j * 3, none⟩ = some (.string ⟨l[j].prj.toArray⟩) ∧ w.cell? ⟨b, off + j * 3 + 1, none⟩ = some (.int .i64 l[j].wgt) ∧ w.cell? ⟨b, off + j * 3 + 2, none⟩ = some (.int .i64 l[j].srv)
theorem ReadsH.below {w w' : World} {v : Option Addr} {l : List Sha} (h : ReadsH w v l) (hb : Below w.heap.size w w') : ReadsH w' v l := by
  intro j hj
  obtain ⟨b, off, h1, h2, c0, c1, c2⟩ := h j hj
  exact ⟨b, off, h1, Nat.lt_of_lt_of_le h2 hb.size, (hb.cell (p := ⟨b, _, none⟩) h2).trans c0, (hb.cell (p := ⟨b, _, none⟩) h2).trans c1, (hb.cell (p := ⟨b, _, none⟩) h2).trans c2⟩
theorem flatH : ∀ (L : List Sha) (j : Nat) (h : j < L.length), (L.flatMap shC)[j * 3]? = some (.string ⟨L[j].prj.toArray⟩) ∧ (L.flatMap shC)[j * 3 + 1]? = some (.int .i64 L[j].wgt) ∧ (L.flatMap shC)[j * 3 + 2]? = some (.int .i64 L[j].srv)
  | t :: L, 0, h => by
    rw [List.flatMap_cons]
    exact ⟨rfl, rfl, rfl⟩
  | t :: L, j + 1, h => by
    obtain ⟨h0, h1, h2⟩ := flatH L j (by simpa using h)
    rw [List.flatMap_cons, show (j + 1) * 3 = j * 3 + 3 by omega]
    simp only [List.getElem_cons_succ]
    refine ⟨?_, ?_, ?_⟩
    · rw [List.getElem?_append_right (by simp [shC]), ← h0]
      congr 1
    · rw [List.getElem?_append_right (by simp [shC]), ← h1]
      congr 1
    · rw [List.getElem?_append_right (by simp [shC]), ← h2]
      congr 1
theorem flatH_len : ∀ L : List Sha, (L.flatMap shC).length = L.length * 3
  | [] => rfl
  | t :: L => by
    rw [List.flatMap_cons, List.length_append, flatH_len L, List.length_cons]
    simp [shC]
    omega
theorem shC_one (L : List Sha) : ∀ u ∈ L.flatMap shC, u.oneCell' = true := by
  intro u hu
  obtain ⟨s, _, h⟩ := List.mem_flatMap.1 hu
  simp [shC] at h
  rcases h with rfl | rfl | rfl <;> rfl
/-- The cells of a row that reads. -/
theorem readsH_cells {w : World} {b off : Nat} {l : List Sha} (h : ReadsH w (some ⟨b, off, none⟩) l) : ∀ j u, (l.flatMap shC)[j]? = some u → w.cell? ((⟨b, off, none⟩ : Addr).add j) = some u := by
  intro j u hj
  have hlt : j < l.length * 3 := by rw [← flatH_len]; exact (List.getElem?_eq_some_iff.1 hj).1
  obtain ⟨b', off', e, _, c0, c1, c2⟩ := h (j / 3) (by omega)
  injection e with e
  injection e with e1 e2 _
  subst e1 e2
  obtain ⟨f0, f1, f2⟩ := flatH l (j / 3) (by omega)
  have e3 : (⟨b, off, none⟩ : Addr).add j = ⟨b, off + j, none⟩ := by
    unfold Addr.add
    split
    · rename_i h; subst h; rfl
    · rfl
  rw [e3]
  rcases (show j = j / 3 * 3 ∨ j = j / 3 * 3 + 1 ∨ j = j / 3 * 3 + 2 by omega) with q | q | q
  · rw [q, f0] at hj
    rw [q, ← hj]
    exact c0
  · rw [q, f1] at hj
    rw [q, ← hj, ← Nat.add_assoc]
    exact c1
  · rw [q, f2] at hj
    rw [q, ← hj, ← Nat.add_assoc]
    exact c2
/-- Shares that a call made. -/
def RowH (w : World) (B : Nat) (v : Value) (L : List Sha) : Prop := w.ownsRow B 41 3 v L.length (L.flatMap shC)
theorem RowH.nil (w : World) (B : Nat) : RowH w B (.slice none 0 0) [] := World.ownsRow_nil _ _ _ _
theorem RowH.reads {w : World} {B : Nat} {v : Value} {L : List Sha} (h : RowH w B v L) : ∃ a c, v = .slice a L.length c ∧ L.length ≤ c ∧ ReadsH w a L := by
  have h' : w.ownsRow B 41 3 v L.length (L.flatMap shC) := h
  have hlt := World.ownsRow.lt h'
  rcases h.2 with ⟨rfl, h0⟩ | ⟨g, cap, cur, rfl, hB, hg, hnc, hcm, _⟩
  · have hl : L = [] := List.eq_nil_of_length_eq_zero (by simpa using h0)
    subst hl
    exact ⟨none, 0, rfl, by simp, fun j hj => by simp at hj⟩
  · refine ⟨some ⟨g, 0, none⟩, cap, rfl, hnc, fun j hj => ?_⟩
    obtain ⟨h0, h1, h2⟩ := flatH L j hj
    have hc := World.ownsRow.cellAt h'
    refine ⟨g, 0, rfl, (hlt g rfl).2, ?_, ?_, ?_⟩
    · rw [Nat.zero_add, hc _ (by omega), h0]
    · rw [Nat.zero_add, hc _ (by omega), h1]
    · rw [Nat.zero_add, hc _ (by omega), h2]
theorem ownH_stays {w w' : World} {B z n : Nat} {t : TypeId} {v : Value} {xs : List Value} (h : w.ownsRow B t z v n xs) (hb : ∀ g, v.ownBlock = some g → w'.heap[g]? = w.heap[g]?) : w'.ownsRow B t z v n xs := by
  refine ⟨h.1, ?_⟩
  rcases h.2 with ⟨h1, h2⟩ | ⟨g, cap, cur, rfl, hB, hg, h3⟩
  · exact .inl ⟨h1, h2⟩
  · exact .inr ⟨g, cap, cur, rfl, hB, (hb g rfl).trans hg, h3⟩
theorem RowH.below {w w' : World} {B : Nat} {v : Value} {L : List Sha} (h : RowH w B v L) (hb : Below w.heap.size w w') : RowH w' B v L :=
  ownH_stays h (fun g hg => hb.block g (World.ownsRow.lt h g hg).2)
theorem infoH : (Tryz.prog.info? 41).map (fun i => (i.zero, i.size, i.bytes)) = some (some (.agg #[.string ⟨#[]⟩, .int .i64 0, .int .i64 0]), 3, 32) := by kernel_rfl
end Go.Proofs.YtmjikddceegloaaGreatDoor
