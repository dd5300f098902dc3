/- Contracts of internal/strconv.ParseUint at base 16 and of strconv.ParseUint: the number of hexadecimal digits, or an error. -/
import Derived.Test.YtoehpoodfbgdiaaDoorDigPc
import Derived.Test.YtoehpoodfbgdiaaDoorDigF
import Derived.Lib.ConvBytes
import Derived.Lib.AtoiAllMem
import Derived.Laws.Closers25
import Derived.Laws.Closers25b
import Derived.BigCall
import Derived.BigGuard
namespace Go.Proofs.YtoehpoodfbgdiaaDoor
open Go.RowKit Go.Lib

/-- The value of a digit, capital or small, or 16. -/
def anyv (c : Nat) : Nat := if 48 ≤ c ∧ c ≤ 57 then c - 48 else if 97 ≤ c ||| 32 ∧ c ||| 32 ≤ 102 then (c ||| 32) - 87 else 16
/-- The number behind others, and what is wrong: 0 nothing, 2 the form, 1 the size. -/
def puL (acc : Nat) : List UInt8 → Nat × Nat
  | [] => (acc, 0)
  | c :: r => if anyv c.toNat = 16 then (0, 2) else if 1152921504606846976 ≤ acc then (18446744073709551615, 1) else puL (acc * 16 + anyv c.toNat) r
def errV (k : Nat) : Value := if k = 0 then .nilIface else .iface 88 (.int .i64 (k : Int))
theorem or32_lt (c : Nat) (h : c < 256) : c ||| 32 < 256 := Nat.or_lt_two_pow (n := 8) h (by decide)
theorem bits_or32 (c : Nat) (h : c < 256) : bits .or .u8 (c : Int) 32 = ((c ||| 32 : Nat) : Int) := by
  have hx := or32_lt c h
  have h1 : (BitVec.ofInt 8 (c : Int)).toNat = c := by
    rw [BitVec.ofInt_natCast, BitVec.toNat_ofNat]; exact Nat.mod_eq_of_lt (by omega)
  show IntKind.u8.wrap ((BitVec.ofInt 8 (c : Int) ||| BitVec.ofInt 8 32).toNat : Int) = _
  rw [BitVec.toNat_or, h1, show (BitVec.ofInt 8 32).toNat = 32 by decide]
  simp [IntKind.wrap, IntKind.bits, IntKind.signed]
  omega
theorem anyv_le (c : Nat) : anyv c ≤ 16 := by unfold anyv; split <;> (try split) <;> omega
theorem anyv_hexv {c : Nat} (hc : c < 256) (h : hexv c ≠ 16) : anyv c = hexv c := by
  have : ∀ c : Fin 256, hexv c.1 ≠ 16 → anyv c.1 = hexv c.1 := by decide +kernel
  exact this ⟨c, hc⟩ h
theorem puL_hexN : ∀ (l : List UInt8) (acc n : Nat), hexN acc l = some n → (acc + 1) * 16 ^ l.length ≤ 18446744073709551616 → puL acc l = (n, 0)
  | [], acc, n, h, _ => by
    rw [hexN] at h
    injection h with h
    rw [puL, h]
  | c :: r, acc, n, h, hl => by
    rw [hexN] at h
    by_cases h16 : hexv c.toNat = 16
    · rw [if_pos h16] at h; cases h
    · rw [if_neg h16] at h
      rw [List.length_cons, Nat.pow_succ, Nat.mul_comm (16 ^ r.length) 16, ← Nat.mul_assoc] at hl
      have hv := hexv_le c.toNat
      have hp : 1 ≤ 16 ^ r.length := Nat.pow_pos (by decide)
      have ha : (acc + 1) * 16 * 1 ≤ (acc + 1) * 16 * 16 ^ r.length := Nat.mul_le_mul_left _ hp
      rw [puL, anyv_hexv c.toNat_lt h16, if_neg h16, if_neg (by omega)]
      exact puL_hexN r _ n h (Nat.le_trans (Nat.mul_le_mul_right _ (by omega)) hl)
theorem puL_lt : ∀ (l : List UInt8) (acc : Nat), acc < 18446744073709551616 → (puL acc l).1 < 18446744073709551616 ∧ (puL acc l).2 ≤ 2
  | [], acc, h => ⟨h, by simp [puL]⟩
  | c :: r, acc, h => by
    rw [puL]
    split
    · exact ⟨by decide, by decide⟩
    · split
      · exact ⟨by decide, by decide⟩
      · have := anyv_le c.toNat
        exact puL_lt r _ (by omega)

set_option maxHeartbeats 32000000 in
set_option maxRecDepth 100000 in
theorem innerParse16_any (t : ByteArray) (hne : t.size ≠ 0) (hmax : t.size ≤ 9223372036854775806) (w : World) :
    Calls Tryd.prog 44 #[.string t, .int .i64 16, .int .i64 64] w fun e w' => e = .returned (.tuple #[.int .u64 ((puL 0 t.data.toList).1 : Nat), errV (puL 0 t.data.toList).2]) ∧ Below w.heap.size w w' := by
  have hemp : t.toList.isEmpty = false := by
    rw [← decide_eq_emptyBytes]
    exact decide_eq_false (fun h => hne (by rw [h]; rfl))
  have hcv := Lib.run_convert_string_bytes (P := Tryd.prog) w 9 27 5 t (u := .string) Tryd.underlying9 Tryd.underlying27 Tryd.underlying5
  have hB : ∀ j, j < t.size → (Lib.bytesWorld w 5 t).cell? ⟨w.heap.size, j, none⟩ = some (.int .u8 (t.data.toList.getD j 0).toNat) := fun j hj => Lib.bytesWorld_cell w 5 t j hj
  have BW := Lib.hid (show Below w.heap.size w (Lib.bytesWorld w 5 t) from ⟨rfl, rfl, rfl, by rw [Lib.bytesWorld_size]; omega, fun j hj => Lib.bytesWorld_at_old w 5 t j hj⟩)
  obtain ⟨W1, hW1⟩ : ∃ W1, W1 = Lib.bytesWorld w 5 t := ⟨_, rfl⟩
  rw [← hW1] at hcv hB BW
  clear hW1
  obtain ⟨bs, hL⟩ : ∃ bs, bs = t.data.toList := ⟨_, rfl⟩
  have hLn : bs.length = t.size := by rw [hL, Lib.size_eq]
  rw [← hL] at hB ⊢
  clear hL
  have HB := Lib.hid hB
  clear hB
  have hmv : IntKind.u64.wrap (IntKind.u64.wrap 18446744073709551616 - 1) = 18446744073709551615 := by
    rw [IntKind.wrap_u64, IntKind.wrap_u64]
    decide
  go_enter Tryd.func44, Tryd.ntmps44
  go_wp2_with fail
  go_loop [12, 13, 101] (fun vu vn vi => ∃ (k acc : Nat) (a : Int), vu = .bool false ∧ vn = .int .u64 a ∧ vi = .int .i64 k ∧ k ≤ t.size ∧ Hid (a = (acc : Int) ∧ acc < 18446744073709551616 ∧ puL 0 bs = puL acc (bs.drop k)))
    (fun _ _ vi => t.size - (RowKit.intOf vi).toNat)
  case atStart => exact ⟨0, 0, 0, rfl, rfl, rfl, by omega, rfl, by omega, rfl⟩
  case round =>
    obtain ⟨k, acc, a, rfl, rfl, rfl, hk, hh⟩ := hrel
    obtain ⟨ha, hacc, hdec⟩ := hh.out
    clear hh
    have a0 : 0 ≤ a := by omega
    have a1 : a < 18446744073709551616 := by omega
    by_cases hkn : k < t.size
    · have hc := HB.out k hkn
      have hdrop : bs.drop k = bs[k]'(by omega) :: bs.drop (k + 1) := List.drop_eq_getElem_cons (by omega)
      have hget : bs.getD k 0 = bs[k]'(by omega) := by simp [List.getD, List.getElem?_eq_getElem (show k < bs.length by omega)]
      rw [hdrop, puL] at hdec
      rw [hget] at hc
      generalize bs[k]'(by omega) = c0 at hc hdec
      have hc256 : c0.toNat < 256 := c0.toNat_lt
      generalize c0.toNat = c at hc hdec hc256
      have hor := bits_or32 c hc256
      have hv256 := or32_lt c hc256
      have hav : anyv c = if 48 ≤ c ∧ c ≤ 57 then c - 48 else if 97 ≤ c ||| 32 ∧ c ||| 32 ≤ 102 then (c ||| 32) - 87 else 16 := rfl
      have h95 : c = 95 → c ||| 32 = 127 := fun h => by subst h; decide
      generalize c ||| 32 = v at hor hv256 hav h95
      clear hdrop hget
      by_cases hdig : 48 ≤ c ∧ c ≤ 57
      · rw [if_pos hdig] at hav
        obtain ⟨hd0, hd1⟩ := hdig
        rw [if_neg (show ¬ anyv c = 16 by omega)] at hdec
        by_cases hcut : 1152921504606846976 ≤ acc
        · rw [if_pos hcut] at hdec
          have icut : 1152921504606846976 ≤ a := by omega
          have HD := Lib.hid hdec
          clear hcut hacc ha hdec hav hor hv256 h95
          go_wp2_with fail
          go_ret2
          exact ⟨by rw [HD.out]; rfl, BW.out⟩
        · rw [if_neg hcut] at hdec
          have icut : a < 1152921504606846976 := by omega
          have HN := Lib.hid (show (a * 16 + ((c : Int) - 48) = ((acc * 16 + anyv c : Nat) : Int) ∧ acc * 16 + anyv c < 18446744073709551616 ∧ puL 0 bs = puL (acc * 16 + anyv c) (bs.drop (k + 1))) from ⟨by omega, by omega, hdec⟩)
          clear hcut hacc hdec hav ha hor hv256 h95
          go_wp2_with fail
          exact ⟨⟨k + 1, acc * 16 + anyv c, a * 16 + ((c : Int) - 48), rfl, rfl, by congr 1, by omega, HN⟩, by simp [RowKit.intOf]; omega⟩
      · rw [if_neg hdig] at hav
        by_cases hlet : 97 ≤ v ∧ v ≤ 102
        · rw [if_pos hlet] at hav
          obtain ⟨hd0, hd1⟩ := hlet
          rw [if_neg (show ¬ anyv c = 16 by omega)] at hdec
          have hc95 : ((c : Int) == 95) = false := by rw [beq_eq_false_iff_ne]; omega
          have hdg : (decide ((48 : Int) ≤ (c : Int)) = true ∧ ¬ (c : Int) ≤ 57) ∨ ¬ (48 : Int) ≤ (c : Int) := by
            by_cases h : 48 ≤ c
            · left; exact ⟨by simp; omega, by omega⟩
            · right; omega
          by_cases hcut : 1152921504606846976 ≤ acc
          · rw [if_pos hcut] at hdec
            have icut : 1152921504606846976 ≤ a := by omega
            have HD := Lib.hid hdec
            clear hcut hacc ha hdec hav h95 hdig
            rcases hdg with ⟨g1, g2⟩ | g1
            all_goals
              go_wp2_with (go_at_call 55; refine (Tryd.internal_strconv_lower _ _).mono ?_; rintro e w' ⟨rfl, rfl⟩)
              go_ret2
              exact ⟨by rw [HD.out]; rfl, BW.out⟩
          · rw [if_neg hcut] at hdec
            have icut : a < 1152921504606846976 := by omega
            have HN := Lib.hid (show (a * 16 + ((v : Int) - 97 + 10) = ((acc * 16 + anyv c : Nat) : Int) ∧ acc * 16 + anyv c < 18446744073709551616 ∧ puL 0 bs = puL (acc * 16 + anyv c) (bs.drop (k + 1))) from ⟨by omega, by omega, hdec⟩)
            clear hcut hacc hdec hav ha h95 hdig
            rcases hdg with ⟨g1, g2⟩ | g1
            all_goals
              go_wp2_with (go_at_call 55; refine (Tryd.internal_strconv_lower _ _).mono ?_; rintro e w' ⟨rfl, rfl⟩)
              exact ⟨⟨k + 1, acc * 16 + anyv c, a * 16 + ((v : Int) - 97 + 10), rfl, rfl, by congr 1, by omega, HN⟩, by simp [RowKit.intOf]; omega⟩
        · rw [if_neg hlet] at hav
          rw [if_pos hav] at hdec
          have HD := Lib.hid hdec
          clear hdec hav hacc ha
          have hu := bits_or32 95 (by decide)
          by_cases hz : 97 ≤ v ∧ v ≤ 122
          · have hc95 : ((c : Int) == 95) = false := by rw [beq_eq_false_iff_ne]; omega
            have hd2 : 103 ≤ v := by omega
            obtain ⟨hd0, hd1⟩ := hz
            clear hlet
            have hdg : (decide ((48 : Int) ≤ (c : Int)) = true ∧ ¬ (c : Int) ≤ 57) ∨ ¬ (48 : Int) ≤ (c : Int) := by
              by_cases h : 48 ≤ c
              · left; exact ⟨by simp; omega, by omega⟩
              · right; omega
            clear hdig h95
            rcases hdg with ⟨g1, g2⟩ | g1
            all_goals
              go_wp2_with (go_at_call 55; refine (Tryd.internal_strconv_lower _ _).mono ?_; rintro e w' ⟨rfl, rfl⟩)
              go_ret2
              exact ⟨by rw [HD.out]; rfl, BW.out⟩
          · clear hlet
            go_wp2_with (go_at_call 55; refine (Tryd.internal_strconv_lower _ _).mono ?_; rintro e w' ⟨rfl, rfl⟩)
            all_goals go_ret2
            all_goals exact ⟨by rw [HD.out]; rfl, BW.out⟩
    · have hkk : k = t.size := by omega
      subst hkk
      rw [List.drop_eq_nil_of_le (by omega), puL] at hdec
      have HD := Lib.hid hdec
      have HA := Lib.hid ha
      clear hacc hdec ha
      go_wp2_with fail
      go_ret2
      exact ⟨by rw [HD.out, HA.out]; rfl, BW.out⟩

end Go.Proofs.YtoehpoodfbgdiaaDoor
