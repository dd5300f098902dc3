/- Contracts of strconv.ParseUint of one byte at base 16, of 8 bits; of the program's hexByte and character (lexer). -/
import Derived.Test.YtoliiiijbdoliaaDoorLexE
import Derived.Lib.ConvBytes
import Derived.Lib.AtoiAllMem
import Derived.Laws.Closers25
import Derived.Laws.Closers25b
import Derived.BigCall
import Derived.BigGuard
namespace Go.Proofs.YtoliiiijbdoliaaDoor
open Go.RowKit Go.Lib
set_option linter.unusedVariables false

/-- The value of a digit, capital or small, or 16. -/
def anyv (c : Nat) : Nat := if 48 ≤ c ∧ c ≤ 57 then c - 48 else if 97 ≤ c ||| 32 ∧ c ||| 32 ≤ 102 then (c ||| 32) - 87 else 16
def errV (k : Nat) : Value := if k = 0 then .nilIface else .iface 95 (.int .i64 (k : Int))
theorem or32_lt (c : Nat) (h : c < 256) : c ||| 32 < 256 := Nat.or_lt_two_pow (n := 8) h (by decide)
theorem bits_or32 (c : Nat) (h : c < 256) : bits .or .u8 (c : Int) 32 = ((c ||| 32 : Nat) : Int) := by
  have hx := or32_lt c h
  have h1 : (BitVec.ofInt 8 (c : Int)).toNat = c := by
    rw [BitVec.ofInt_natCast, BitVec.toNat_ofNat]; exact Nat.mod_eq_of_lt (by omega)
  show IntKind.u8.wrap ((BitVec.ofInt 8 (c : Int) ||| BitVec.ofInt 8 32).toNat : Int) = _
  rw [BitVec.toNat_or, h1, show (BitVec.ofInt 8 32).toNat = 32 by decide]
  simp [IntKind.wrap, IntKind.bits, IntKind.signed]
  omega
theorem anyv_le (c : Nat) : anyv c ≤ 16 := by unfold anyv; split <;> (try split) <;> omega
theorem anyv_hexV (c : UInt8) : hexV c = if anyv c.toNat = 16 then none else some (anyv c.toNat) := by
  have : ∀ n : Fin 256, hexV (UInt8.ofNat n.1) = if anyv n.1 = 16 then none else some (anyv n.1) := by decide +kernel
  have h := this ⟨c.toNat, c.toNat_lt⟩
  simpa using h
def pu1 (c : Nat) : Nat × Nat := if anyv c = 16 then (0, 2) else (anyv c, 0)
def PRel (pr : Nat × Nat) (k : Nat) (a : Int) : Prop := (k = 0 → a = 0) ∧ (k = 1 → 0 ≤ a ∧ a ≤ 15 ∧ pr = (a.toNat, 0))
set_option maxHeartbeats 32000000 in
set_option maxRecDepth 100000 in
theorem inner8_one (c0 : UInt8) (w : World) :
    Calls Tryd.prog 61 #[.string ⟨#[c0]⟩, .int .i64 16, .int .i64 8] w fun e w' => e = .returned (.tuple #[.int .u64 ((pu1 c0.toNat).1 : Nat), errV (pu1 c0.toNat).2]) ∧ Below w.heap.size w w' := by
  obtain ⟨t, ht⟩ : ∃ t : ByteArray, t = ⟨#[c0]⟩ := ⟨_, rfl⟩
  have hsz : t.size = 1 := by rw [ht]; rfl
  have hget : t.data.toList.getD 0 0 = c0 := by rw [ht]; rfl
  rw [← ht]
  have hemp : t.toList.isEmpty = false := by
    rw [← decide_eq_emptyBytes]
    exact decide_eq_false (fun h => by rw [h] at hsz; cases hsz)
  have hcv := Lib.run_convert_string_bytes (P := Tryd.prog) w 9 35 5 t (u := .string) Tryd.underlying9 Tryd.underlying35 Tryd.underlying5
  have hB : (Lib.bytesWorld w 5 t).cell? ⟨w.heap.size, 0, none⟩ = some (.int .u8 (t.data.toList.getD 0 0).toNat) := Lib.bytesWorld_cell w 5 t 0 (by omega)
  rw [hget] at hB
  have BW := Lib.hid (show Below w.heap.size w (Lib.bytesWorld w 5 t) from ⟨rfl, rfl, rfl, by rw [Lib.bytesWorld_size]; omega, fun j hj => Lib.bytesWorld_at_old w 5 t j hj⟩)
  obtain ⟨W1, hW1⟩ : ∃ W1, W1 = Lib.bytesWorld w 5 t := ⟨_, rfl⟩
  rw [← hW1] at hcv hB BW
  clear hW1 hget ht
  have HB := Lib.hid hB
  clear hB
  have hc256 : c0.toNat < 256 := c0.toNat_lt
  generalize c0.toNat = c at HB hc256 ⊢
  have hor := bits_or32 c hc256
  have hv256 := or32_lt c hc256
  have hav : anyv c = if 48 ≤ c ∧ c ≤ 57 then c - 48 else if 97 ≤ c ||| 32 ∧ c ||| 32 ≤ 102 then (c ||| 32) - 87 else 16 := rfl
  have h95 : c = 95 → c ||| 32 = 127 := fun h => by subst h; decide
  obtain ⟨pr, hpr⟩ : ∃ pr, pr = pu1 c := ⟨_, rfl⟩
  have hpu : pr = if anyv c = 16 then (0, 2) else (anyv c, 0) := hpr
  rw [← hpr]
  clear hpr
  generalize anyv c = av at hav hpu
  generalize c ||| 32 = v at hor hv256 hav h95
  have HP := Lib.hid (And.intro hc256 (And.intro hor (And.intro hv256 (And.intro hav (And.intro h95 hpu)))))
  clear hc256 hor hv256 hav h95 hpu
  go_enter Tryd.func61, Tryd.ntmps61
  go_wp2_with fail
  go_loop [12, 13, 101] (fun vu vn vi => ∃ (k : Nat) (a : Int), vu = .bool false ∧ vn = .int .u64 a ∧ vi = .int .i64 k ∧ k ≤ 1 ∧ Hid (PRel pr k a))
    (fun _ _ vi => 1 - (RowKit.intOf vi).toNat)
  case atStart => exact ⟨0, 0, rfl, rfl, rfl, by omega, fun _ => rfl, fun h => by omega⟩
  case round =>
    obtain ⟨k, a, rfl, rfl, rfl, hk, hh⟩ := hrel
    by_cases hk0 : k = 0
    · subst hk0
      have ha := hh.out.1 rfl
      have a0 : 0 ≤ a := by omega
      have a1 : a ≤ 0 := by omega
      have icut : a < 1152921504606846976 := by omega
      clear hh ha
      have hc := HB.out
      obtain ⟨hc256, hor, hv256, hav, h95, hpu⟩ := HP.out
      by_cases hdig : 48 ≤ c ∧ c ≤ 57
      · rw [if_pos hdig] at hav
        obtain ⟨hd0, hd1⟩ := hdig
        rw [if_neg (show ¬ av = 16 by omega)] at hpu
        have HN := Lib.hid (show PRel pr (0 + 1) (a * 16 + ((c : Int) - 48)) from ⟨fun h => by omega, fun _ => ⟨by omega, by omega, by rw [hpu]; congr 1; omega⟩⟩)
        clear hpu hav hor hv256 h95
        go_wp2_with fail
        exact ⟨⟨0 + 1, a * 16 + ((c : Int) - 48), rfl, rfl, by congr 1, by omega, HN⟩, by simp [RowKit.intOf]⟩
      · rw [if_neg hdig] at hav
        by_cases hlet : 97 ≤ v ∧ v ≤ 102
        · rw [if_pos hlet] at hav
          obtain ⟨hd0, hd1⟩ := hlet
          rw [if_neg (show ¬ av = 16 by omega)] at hpu
          have hc95 : ((c : Int) == 95) = false := by rw [beq_eq_false_iff_ne]; omega
          have hdg : (decide ((48 : Int) ≤ (c : Int)) = true ∧ ¬ (c : Int) ≤ 57) ∨ ¬ (48 : Int) ≤ (c : Int) := by
            by_cases h : 48 ≤ c
            · left; exact ⟨by simp; omega, by omega⟩
            · right; omega
          have HN := Lib.hid (show PRel pr (0 + 1) (a * 16 + ((v : Int) - 97 + 10)) from ⟨fun h => by omega, fun _ => ⟨by omega, by omega, by rw [hpu]; congr 1; omega⟩⟩)
          clear hpu hav h95 hdig
          rcases hdg with ⟨g1, g2⟩ | g1
          all_goals
            go_wp2_with (go_at_call 71; refine (Tryd.internal_strconv_lower _ _).mono ?_; rintro e w' ⟨rfl, rfl⟩)
            exact ⟨⟨0 + 1, a * 16 + ((v : Int) - 97 + 10), rfl, rfl, by congr 1, by omega, HN⟩, by simp [RowKit.intOf]⟩
        · rw [if_neg hlet] at hav
          rw [if_pos hav] at hpu
          have HD := Lib.hid hpu
          clear hpu hav
          have hu := bits_or32 95 (by decide)
          by_cases hz : 97 ≤ v ∧ v ≤ 122
          · have hc95 : ((c : Int) == 95) = false := by rw [beq_eq_false_iff_ne]; omega
            have hd2 : 103 ≤ v := by omega
            obtain ⟨hd0, hd1⟩ := hz
            clear hlet
            have hdg : (decide ((48 : Int) ≤ (c : Int)) = true ∧ ¬ (c : Int) ≤ 57) ∨ ¬ (48 : Int) ≤ (c : Int) := by
              by_cases h : 48 ≤ c
              · left; exact ⟨by simp; omega, by omega⟩
              · right; omega
            clear hdig h95
            rcases hdg with ⟨g1, g2⟩ | g1
            all_goals
              go_wp2_with (go_at_call 71; refine (Tryd.internal_strconv_lower _ _).mono ?_; rintro e w' ⟨rfl, rfl⟩)
              go_ret2
              exact ⟨by rw [HD.out]; rfl, BW.out⟩
          · clear hlet
            go_wp2_with (go_at_call 71; refine (Tryd.internal_strconv_lower _ _).mono ?_; rintro e w' ⟨rfl, rfl⟩)
            all_goals go_ret2
            all_goals exact ⟨by rw [HD.out]; rfl, BW.out⟩
    · obtain rfl : k = 1 := by omega
      have HD := Lib.hid (hh.out.2 rfl)
      clear hh hk0
      go_wp2_with fail
      go_ret2
      exact ⟨by rw [HD.out.2.2]; show Ending.returned (.tuple #[.int .u64 a, .nilIface]) = .returned (.tuple #[.int .u64 ((a.toNat : Nat) : Int), .nilIface]); rw [Int.toNat_of_nonneg HD.out.1], BW.out⟩

/-- What the variables hold. -/
def TabL (w : World) : Prop := TabO w ∧ (∃ te pe, w.cell? ⟨2, 0, none⟩ = some (.iface te pe)) ∧ (∃ te pe, w.cell? ⟨3, 0, none⟩ = some (.iface te pe)) ∧ ∃ m, w.cell? ⟨1, 0, none⟩ = some (.int .i64 m)
theorem TabL.below {w w' : World} (h : TabL w) (hb : Below w.heap.size w w') : TabL w' := by
  obtain ⟨h1, ⟨t2, p2, h2⟩, ⟨t3, p3, h3⟩, m, h4⟩ := h
  exact ⟨h1.below hb, ⟨t2, p2, (hb.cell (p := ⟨_, 0, none⟩) (World.block_lt_of_cell? w _ h2)).trans h2⟩, ⟨t3, p3, (hb.cell (p := ⟨_, 0, none⟩) (World.block_lt_of_cell? w _ h3)).trans h3⟩, m, (hb.cell (p := ⟨_, 0, none⟩) (World.block_lt_of_cell? w _ h4)).trans h4⟩
theorem toErr8 (s : ByteArray) (hs : s.size ≤ 281474976710656) (w : World) (hT : TabL w) :
    Calls Tryd.prog 58 #[.string ⟨#[80, 97, 114, 115, 101, 85, 105, 110, 116]⟩, .string s, .int .i64 16, .int .i64 8, .iface 95 (.int .i64 2)] w fun e w' => (∃ te pe, e = .returned (.iface te pe)) ∧ Below w.heap.size w w' := by
  obtain ⟨te, pe, h⟩ := hT.2.1
  refine (Tryd.strconv_toError_syntax _ s 16 8 _ w hs h (.inr ⟨te, pe, rfl⟩)).mono ?_
  rintro e w' ⟨N, rfl, _, _, hb⟩
  exact ⟨⟨_, _, rfl⟩, hb⟩
set_option maxHeartbeats 4000000 in
set_option maxRecDepth 100000 in
theorem parse8_one (c : UInt8) (w : World) (hT : TabL w) :
    Calls Tryd.prog 49 #[.string ⟨#[c]⟩, .int .i64 16, .int .i64 8] w fun e w' => (∃ (x : Nat) (er : Value), e = .returned (.tuple #[.int .u64 x, er]) ∧ ((er = .nilIface ∧ hexV c = some x ∧ x ≤ 15) ∨ ((∃ te pe, er = .iface te pe) ∧ hexV c = none))) ∧ Below w.heap.size w w' := by
  have HT := Lib.hid hT
  have H := Lib.hid (fun w => inner8_one c w)
  have E := Lib.hid (fun w h => toErr8 ⟨#[c]⟩ (by show 1 ≤ _; omega) w h)
  have hv := anyv_hexV c
  have ha := anyv_le c.toNat
  generalize (⟨#[c]⟩ : ByteArray) = s at *
  unfold pu1 at H
  by_cases h16 : anyv c.toNat = 16
  · rw [if_pos h16] at hv H
    have HV := Lib.hid hv
    clear hv ha h16 hT
    have ek : errV 2 = .iface 95 (.int .i64 2) := rfl
    simp only [ek] at H
    go_enter Tryd.func49, Tryd.ntmps49
    go_wp2_with fail
    go_fit (H.out _)
    rintro e w1 ⟨rfl, hb⟩
    have B := Lib.hid hb
    have T1 := Lib.hid (HT.out.below hb)
    clear hb
    go_wp2_with fail
    go_fit (E.out _ T1.out)
    rintro e w2 ⟨⟨te, pe, rfl⟩, hb⟩
    have B2 := Lib.hid (B.out.trans (hb.mono B.out.size))
    clear hb
    go_wp2_with fail
    go_ret2
    exact ⟨⟨0, _, rfl, .inr ⟨⟨_, _, rfl⟩, HV.out⟩⟩, B2.out⟩
  · rw [if_neg h16] at hv H
    have HV := Lib.hid (And.intro hv (show anyv c.toNat ≤ 15 by omega))
    clear hv ha h16 hT
    have ek : errV 0 = .nilIface := rfl
    simp only [ek] at H
    generalize anyv c.toNat = x at *
    go_enter Tryd.func49, Tryd.ntmps49
    go_wp2_with fail
    go_fit (H.out _)
    rintro e w1 ⟨rfl, hb⟩
    have B := Lib.hid hb
    clear hb
    go_wp2_with fail
    go_ret2
    exact ⟨⟨x, _, rfl, .inl ⟨rfl, HV.out.1, HV.out.2⟩⟩, B.out⟩
end Go.Proofs.YtoliiiijbdoliaaDoor
