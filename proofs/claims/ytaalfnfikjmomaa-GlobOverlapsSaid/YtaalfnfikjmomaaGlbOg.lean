/- Contract of the program's Overlaps (glob). -/
import Derived.Test.YtaalfnfikjmomaaGlbOd
namespace Go.Proofs.Ytaalfnfikjmomaa
open Go.RowKit Go.Lib
/-- Whether two patterns are valid and have a common string. -/
noncomputable def overP (a b : List UInt8) : Bool := match parseP a, parseP b with
  | some x, some y => @decide (∃ s, GM x s ∧ GM y s) (Classical.propDecidable _)
  | _, _ => false
theorem overP_some {a b : List UInt8} {x y : List GE} (ha : parseP a = some x) (hb : parseP b = some y) {z : Bool} (h : z = true ↔ ∃ s, GM x s ∧ GM y s) : overP a b = z := by
  unfold overP
  rw [ha, hb]
  show @decide _ (Classical.propDecidable _) = z
  by_cases hh : ∃ s, GM x s ∧ GM y s
  · rw [@decide_eq_true _ (Classical.propDecidable _) hh]; exact (h.2 hh).symm
  · rw [@decide_eq_false _ (Classical.propDecidable _) hh]
    cases z with
    | false => rfl
    | true => exact absurd (h.1 rfl) hh
theorem overP_none1 {a b : List UInt8} (ha : parseP a = none) : overP a b = false := by unfold overP; rw [ha]
theorem overP_none2 {a b : List UInt8} (hb : parseP b = none) : overP a b = false := by unfold overP; rw [hb]; cases parseP a <;> rfl
/-- What parse gives, in two cases. -/
theorem parse_cases {s : List UInt8} {w : World} {e : Ending} {w' : World} (h : ParsePost s w e w') : Below w.heap.size w w' ∧
    ((parseP s = none ∧ ∃ n : Nat, (n = 3 ∨ n = 5) ∧ e = .returned (.tuple #[.slice none 0 0, .int .i64 n])) ∨ ∃ (L : List GE) (a : Option Addr) (c : Nat), parseP s = some L ∧ e = .returned (.tuple #[.slice a L.length c, .int .i64 0]) ∧ L.length ≤ 4096 ∧ ReadsP w' a L) := by
  obtain ⟨hb, h⟩ := h
  refine ⟨hb, ?_⟩
  cases he : parseP s with
  | none =>
    rw [he] at h
    refine .inl ⟨rfl, _, ?_, h⟩
    unfold parseP at he
    unfold validP
    split
    · exact .inl rfl
    · rename_i h0
      rw [if_neg h0] at he
      rw [he]
      exact .inr rfl
  | some L =>
    rw [he] at h
    obtain ⟨a, c, h1, _, _, h2, h3⟩ := h
    exact .inr ⟨L, a, c, rfl, h1, h2, h3⟩
set_option maxHeartbeats 8000000 in
theorem overlaps_any (p q : ByteArray) (w : World) :
    Calls Try.prog 19 #[.string p, .string q] w fun e w' => e = .returned (.bool (overP p.data.toList q.data.toList)) ∧ Below w.heap.size w w' := by
  have P := Lib.hid (parse_any p w)
  have Q := Lib.hid (fun w => parse_any q w)
  go_enter Try.func19, Try.ntmps19
  go_wp2_with fail
  go_fit P.out
  intro e w1 h
  obtain ⟨hb, h⟩ := parse_cases h
  have B1 := Lib.hid hb
  rcases h with ⟨hp, n, hn, rfl⟩ | ⟨L, a1, c1, hp, rfl, hL, hr⟩
  · have HV := Lib.hid (overP_none1 (b := q.data.toList) hp)
    clear hb hp
    rcases hn with rfl | rfl
    all_goals
      go_wp2_with fail
      go_ret
      exact ⟨by rw [HV.out]; rfl, B1.out⟩
  · have HP := Lib.hid (And.intro hp (And.intro hL hr))
    clear hb hp hL hr
    go_wp2_with fail
    go_fit (Q.out _)
    intro e w2 h
    obtain ⟨hb, h⟩ := parse_cases h
    have B2 := Lib.hid hb
    rcases h with ⟨hp, n, hn, rfl⟩ | ⟨L2, a2, c2, hp, rfl, hL, hr⟩
    · have HV := Lib.hid (overP_none2 (a := p.data.toList) hp)
      clear hb hp
      rcases hn with rfl | rfl
      all_goals
        go_wp2_with fail
        go_ret
        exact ⟨by rw [HV.out]; rfl, B1.out.trans (B2.out.mono B1.out.size)⟩
    · have NM1 := Lib.hid (newMachine_any a1 c1 L HP.out.2.1 w2 (HP.out.2.2.below B2.out))
      have NM2 := Lib.hid (fun w3 (h : Below w2.heap.size w2 w3) => newMachine_any a2 c2 L2 hL w3 (hr.below h))
      have HQ := Lib.hid (And.intro hp hL)
      clear hb hp hL hr
      go_wp2_with fail
      go_fit NM1.out
      rintro e w3 ⟨v1, d1, rfl, hm1, hb3⟩
      have R1 := Lib.hid (And.intro hm1 hb3)
      clear hm1 hb3
      go_wp2_with fail
      go_fit (NM2.out _ R1.out.2)
      rintro e w4 ⟨v2, d2, rfl, hm2, hb4⟩
      have OV := Lib.hid (overlaps_m_any v1 v2 d1 d2 (machR noS L) (machR noS L2) (by have := machR_len L noS; have := HP.out.2.1; omega) (by have := machR_len L2 noS; have := HQ.out.2; omega) (mach_is L) (mach_is L2) w4 (R1.out.1.below hb4) hm2)
      have R2 := Lib.hid hb4
      clear hm2 hb4
      go_wp2_with fail
      go_fit OV.out
      rintro e w5 ⟨⟨z, rfl, hz⟩, hb5⟩
      have HV := Lib.hid (show overP p.data.toList q.data.toList = z from overP_some HP.out.1 HQ.out.1 (by
        rw [hz, rt_iff (mach_is L) (mach_is L2)]
        constructor
        · rintro ⟨s, h1, h2⟩; exact ⟨s, (mach_gm L s).1 h1, (mach_gm L2 s).1 h2⟩
        · rintro ⟨s, h1, h2⟩; exact ⟨s, (mach_gm L s).2 h1, (mach_gm L2 s).2 h2⟩))
      have B5 := Lib.hid (((B1.out.trans (B2.out.mono B1.out.size)).trans (R1.out.2.mono (Nat.le_trans B1.out.size B2.out.size))).trans ((R2.out.trans (hb5.mono R2.out.size)).mono (Nat.le_trans (Nat.le_trans B1.out.size B2.out.size) R1.out.2.size)))
      clear hz hb5
      go_wp2_with fail
      go_ret
      exact ⟨by rw [HV.out]; rfl, B5.out⟩
end Go.Proofs.Ytaalfnfikjmomaa
