/- Literals are printable; a part of a string (lexer). -/
import Derived.Test.YtoliiiijbdoliaaDoorLexX
namespace Go.Proofs.YtoliiiijbdoliaaDoor
open Go.RowKit Go.Lib
set_option linter.unusedVariables false

theorem rd_mid (s : ByteArray) (a b : Int) (i j : Nat) (ha : a = (i : Int)) (hb : b = (j : Int)) (h1 : i ≤ j) (h2 : j ≤ s.size) (w : World) : (Instr.sliceAt 9 (.string s) (some (.int .i64 a)) (some (.int .i64 b)) none).run Tryd.prog w = .ok (.string ⟨((s.data.toList.take j).drop i).toArray⟩) w := by
  subst ha hb
  rw [run_sliceAt_string _ _ _ _ _ _ Tryd.underlying9, run_slice_string w _ s .i64 .i64 (i : Int) (j : Int) Tryd.underlying9 (by omega) (by omega) (by omega)]
  congr 2
  rw [Int.toNat_natCast, Int.toNat_natCast]
  apply ByteArray.ext
  rw [ByteArray.data_extract]
  apply Array.ext'
  rw [Array.toList_extract, List.extract_eq_take_drop]
  simp [List.drop_take]
/-- What the document says of the tokens of a source: where each stands. -/
theorem at_facts {l : List UInt8} {T : List Tk} (h : lexF l 0 0 false = .ok T) (j : Nat) (hj : j < T.length) : T[j].at_ < l.length ∧ (∀ i (hi : i < T.length), i < j → T[i].at_ < T[j].at_) ∧ (T[j].kind ≠ 3 → T[j].kind ≠ 5 → T[j].at_ + T[j].text.length ≤ l.length ∧ (l.drop T[j].at_).take T[j].text.length = T[j].text) := by
  obtain ⟨h1, h2⟩ := lexF_at l.length l 0 0 false T (Nat.le_refl _) h
  have h3 := h1 T[j] (List.getElem_mem _)
  refine ⟨by have := h3.2.1; omega, fun i hi hij => List.pairwise_iff_getElem.1 h2 i j hi hj hij, fun k3 k5 => ?_⟩
  have h4 := h3.2.2 k3 k5
  rw [Nat.zero_add, Nat.sub_zero] at h4
  exact h4
theorem hexD_print {n : Nat} (h : n < 16) : 32 ≤ (hexD n).toNat ∧ (hexD n).toNat ≤ 126 := by
  unfold hexD
  split <;> (simp; omega)
theorem chrL_print (c : UInt8) : ∀ d, d ∈ chrL c → 32 ≤ d.toNat ∧ d.toNat ≤ 126 := by
  intro d hd
  have hc := c.toNat_lt
  unfold chrL at hd
  split at hd
  · simp at hd; rcases hd with rfl | rfl <;> decide
  · split at hd
    · simp at hd; subst hd; decide
    · split at hd
      · simp at hd; rcases hd with rfl | rfl <;> decide
      · split at hd
        · simp at hd; rcases hd with rfl | rfl <;> decide
        · split at hd
          · rename_i h
            simp at hd
            subst hd
            exact h
          · simp at hd
            rcases hd with rfl | rfl | rfl | rfl
            · decide
            · decide
            · exact hexD_print (by omega)
            · exact hexD_print (by omega)
theorem quo_print (s : List UInt8) (d : UInt8) (h : d ∈ quoL s) : 32 ≤ d.toNat ∧ d.toNat ≤ 126 := by
  unfold quoL at h
  rcases List.mem_cons.1 h with rfl | h
  · decide
  · rcases List.mem_append.1 h with h | h
    · obtain ⟨c, _, hd⟩ := List.mem_flatMap.1 h
      exact chrL_print c d hd
    · simp at h
      subst h
      decide
end Go.Proofs.YtoliiiijbdoliaaDoor
