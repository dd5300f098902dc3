/- What the laws of layer 9 say of tokens: the two ways of Tokens, tokens joined, tokens compared (lexer). -/
import Derived.Test.YtoliiiijbdoliaaDoorLexV
namespace Go.Proofs.YtoliiiijbdoliaaDoor
open Go.RowKit Go.Lib
set_option linter.unusedVariables false

theorem numA_e (d w : List UInt8) (c : UInt8) : (numA d w c).2.2.2 ≤ 5 := by
  unfold numA
  split
  · exact Nat.le_refl _
  · split
    · exact Nat.zero_le _
    · show 2 ≤ 5
      omega
theorem add_err {x : Res} {p : List Tk} {a e : Nat} (h : x.add p = .err a e) : x = .err a e := by
  cases x with
  | ok l => simp [Res.add] at h
  | err b f => simpa [Res.add] using h
/-- An error is none of the numbers 0. -/
theorem lexF_err : ∀ (n : Nat) (l : List UInt8) (a o : Nat) (nl : Bool) (p e : Nat), l.length ≤ n → lexF l a o nl = .err p e → e ≠ 0 := by
  intro n
  induction n with
  | zero =>
    intro l a o nl p e hn h
    have hl : l = [] := List.eq_nil_of_length_eq_zero (by omega)
    subst hl
    rw [lexF_nil _ _ _ rfl] at h
    cases h
  | succ n ih =>
    intro l a o nl p e hn h
    cases hi : ignL false l with
    | nil =>
      rw [lexF_nil _ _ _ hi] at h
      cases h
    | cons c r =>
      have hl := ign_le hi
      rw [lexF_step _ _ _ hi] at h
      unfold stepR at h
      by_cases hc : c = 10
      · rw [if_pos hc] at h
        by_cases ho : o = 0 ∧ nl = false
        · rw [if_pos ho] at h
          exact ih r _ _ _ p e (by omega) (add_err h)
        · rw [if_neg ho] at h
          exact ih r _ _ _ p e (by omega) h
      · rw [if_neg hc] at h
        by_cases he : (tokA (c :: r)).2.2.2 ≠ 0
        · rw [if_pos he] at h
          injection h with _ h2
          rw [← h2]
          exact he
        · rw [if_neg he] at h
          have tl := tok_len c r (by omega)
          exact ih _ _ _ _ p e (by rw [List.length_drop]; simp only [List.length_cons]; omega) (add_err h)
/-- The two ways of Tokens. -/
theorem tokens_all (s : ByteArray) : (∃ p er : Nat, (((er : Int) != 0) = true ∧ ((er : Int) == 0) = false) ∧ (s.size ≤ 65536 → lexF s.data.toList 0 0 false = .err p er) ∧ ∀ w, TabL w → Calls Tryd.prog 13 #[.string s] w fun e w' => e = .returned (.tuple #[.slice none 0 0, .int .i64 (p : Nat), .int .i64 (er : Nat)]) ∧ Below w.heap.size w w') ∨
    (∃ T : List Tk, s.size ≤ 65536 ∧ lexF s.data.toList 0 0 false = .ok T ∧ ∀ w, TabL w → Calls Tryd.prog 13 #[.string s] w fun e w' => (∃ a c, e = .returned (.tuple #[.slice a T.length c, .int .i64 0, .int .i64 0]) ∧ ReadsK w' a (T.map Tk.tm)) ∧ Below w.heap.size w w') := by
  by_cases hs : s.size ≤ 65536
  · have h := fun w hT => Tokens_any s hs w hT hT.1
    cases hR : lexF s.data.toList 0 0 false with
    | ok T =>
      rw [hR] at h
      exact .inr ⟨T, hs, rfl, h⟩
    | err p er =>
      rw [hR] at h
      have h0 := lexF_err _ _ _ _ _ _ _ (Nat.le_refl _) hR
      exact .inl ⟨p, er, ⟨by rw [bne_iff_ne]; omega, by rw [beq_eq_false_iff_ne]; omega⟩, fun _ => rfl, h⟩
  · exact .inl ⟨0, 3, ⟨by decide, by decide⟩, fun h => absurd h hs, fun w _ => Tokens_long s (by omega) w⟩
theorem tokens_ok (s : ByteArray) {T : List Tk} (hs : s.size ≤ 65536) (h : lexF s.data.toList 0 0 false = .ok T) (w : World) (hT : TabL w) : Calls Tryd.prog 13 #[.string s] w fun e w' => (∃ a c, e = .returned (.tuple #[.slice a T.length c, .int .i64 0, .int .i64 0]) ∧ ReadsK w' a (T.map Tk.tm)) ∧ Below w.heap.size w w' := by
  have h2 := Tokens_any s hs w hT hT.1
  rw [h] at h2
  exact h2
theorem joinT_any (a : Option Addr) (cap : Nat) (T : List Tk) (m : Nat) (h1 : T.length ≤ 65536) (h2 : ∀ t, t ∈ T → t.text.length ≤ m) (hm : m ≤ 100000) (w : World) (hr : ReadsK w a (T.map Tk.tm)) :
    Calls Tryd.prog 9 #[.slice a T.length cap] w fun e w' => e = .returned (.string ⟨(joinP false T).toArray⟩) ∧ Below w.heap.size w w' := by
  have hl := joinP_len T false m h2
  have hl2 : T.length * (4 * m + 3) ≤ 65536 * 400003 := Nat.mul_le_mul h1 (by omega)
  have h := Join_any a cap (T.map Tk.tm) (by rw [List.length_map]; omega) (by rw [joinM_tk]; omega) w hr
  rw [List.length_map, joinM_tk] at h
  exact h
theorem agree_kt {T U : List Tk} (h : U.map kt = T.map kt) : AgreeK false (T.map Tk.tm) (U.map Tk.tm) := by
  have hl : U.length = T.length := by have := congrArg List.length h; simpa using this
  refine ⟨by simp [hl], fun j h1 h2 => ?_⟩
  rw [List.length_map] at h1 h2
  have hj := congrArg (·[j]?) h
  simp only [List.getElem?_map, List.getElem?_eq_getElem h1, List.getElem?_eq_getElem h2, Option.map_some, Option.some.injEq, kt, Prod.mk.injEq] at hj
  simp only [List.getElem_map, Tk.tm]
  exact ⟨hj.1.symm, hj.2.symm, fun e => by cases e⟩
theorem sameT_any (ix : Bool) (T U : List Tk) (hl : U.length = T.length) (hag : AgreeK ix (T.map Tk.tm) (U.map Tk.tm)) (a b : Option Addr) (ca cb : Nat) (hlen : T.length ≤ 9223372036854775000) (w : World) (ha : ReadsK w a (T.map Tk.tm)) (hb : ReadsK w b (U.map Tk.tm)) :
    Calls Tryd.prog 14 #[.slice a T.length ca, .slice b U.length cb, .bool ix] w fun e w' => e = .returned (.bool true) ∧ Below w.heap.size w w' := by
  have h := rSame_yes ix (T.map Tk.tm) (U.map Tk.tm) hag a b ca cb (by rw [List.length_map]; exact hlen) w ha hb
  rw [List.length_map, List.length_map] at h
  exact h
end Go.Proofs.YtoliiiijbdoliaaDoor
