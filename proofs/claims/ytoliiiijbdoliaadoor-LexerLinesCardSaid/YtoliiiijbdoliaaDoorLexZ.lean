/- Tokens of a slice appended to a row of tokens; lists of tokens that agree without their places (lexer). -/
import Derived.Test.YtoliiiijbdoliaaDoorLexY
namespace Go.Proofs.YtoliiiijbdoliaaDoor
open Go.RowKit Go.Lib
set_option linter.unusedVariables false

theorem reads_flat {w : World} {b off : Nat} {L : List Tm} (h : ReadsK w (some ⟨b, off, none⟩) L) : ∀ j u, (L.flatMap tkC)[j]? = some u → w.cell? ((⟨b, off, none⟩ : Addr).add j) = some u := by
  intro j u hj
  have hlt : j < (L.flatMap tkC).length := (List.getElem?_eq_some_iff.1 hj).1
  rw [flat3_len] at hlt
  have hq : j / 3 < L.length := by omega
  obtain ⟨b', off', e, _, c0, c1, c2⟩ := h (j / 3) hq
  cases e
  obtain ⟨f0, f1, f2⟩ := flat3 L (j / 3) hq
  rw [add_off]
  rcases (show j = j / 3 * 3 ∨ j = j / 3 * 3 + 1 ∨ j = j / 3 * 3 + 2 by omega) with e | e | e
  · rw [e] at hj
    rw [f0] at hj
    rw [e, ← hj]
    exact c0
  · rw [e] at hj
    rw [f1] at hj
    rw [e, ← hj, ← Nat.add_assoc]
    exact c1
  · rw [e] at hj
    rw [f2] at hj
    rw [e, ← hj, ← Nat.add_assoc]
    exact c2
theorem tkC_one (L : List Tm) : ∀ u ∈ L.flatMap tkC, u.oneCell' = true := by
  intro u hu
  obtain ⟨t, _, h⟩ := List.mem_flatMap.1 hu
  simp [tkC] at h
  rcases h with rfl | rfl | rfl <;> rfl
def km (t : Tm) : Int × List UInt8 := (t.kind, t.text)
theorem agree_km {L M : List Tm} (h : L.map km = M.map km) : AgreeK false L M := by
  have hl : L.length = M.length := by have := congrArg List.length h; simpa using this
  refine ⟨hl, fun j h1 h2 => ?_⟩
  have hj := congrArg (·[j]?) h
  simp only [List.getElem?_map, List.getElem?_eq_getElem h1, List.getElem?_eq_getElem h2, Option.map_some, Option.some.injEq, km, Prod.mk.injEq] at hj
  exact ⟨hj.1, hj.2, fun e => by cases e⟩
/-- The tokens of two lines, and what the law puts together of them. -/
theorem lines_agree (T : List Tk) (n d : Nat) (U : List Tk) : AgreeK false ((T ++ ⟨5, [], n⟩ :: U.map (shT d)).map Tk.tm) (T.map Tk.tm ++ [⟨5, [], 0⟩] ++ U.map Tk.tm) := by
  apply agree_km
  simp [km, Tk.tm, shT, Function.comp_def]
/-- A token that the law counts. -/
def BadT (t : Tk) : Prop := t.kind = 5 ∨ t.kind = 4 ∧ (t.text = [40] ∨ t.text = [91] ∨ t.text = [41] ∨ t.text = [93])
theorem lines_tok {a b : ByteArray} {T U : List Tk} (ha : lexF a.data.toList 0 0 false = .ok T) (hb : lexF b.data.toList 0 0 false = .ok U) (h0 : 0 < T.length) (h1 : 0 < U.length) (h5 : ∀ t, t ∈ T → ¬ t.kind = 5)
    (hn : ∀ t, t ∈ T → ¬ (t.kind = 4 ∧ (t.text = [40] ∨ t.text = [91] ∨ t.text = [41] ∨ t.text = [93]))) (hk : ∀ u, U.head? = some u → ¬ u.kind = 5) :
    lexF (a.data.toList ++ 10 :: b.data.toList) 0 0 false = .ok (T ++ ⟨5, [], a.data.toList.length⟩ :: U.map (shT (a.data.toList.length + 1))) := by
  cases U with
  | nil => exact absurd h1 (Nat.lt_irrefl _)
  | cons u m => exact lexF_lines ha hb (fun e => by rw [e] at h0; exact absurd h0 (Nat.lt_irrefl _)) h5 hn (hk u rfl)
end Go.Proofs.YtoliiiijbdoliaaDoor
