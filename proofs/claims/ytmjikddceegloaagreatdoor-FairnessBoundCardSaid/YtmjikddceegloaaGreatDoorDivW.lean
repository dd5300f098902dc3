/- The contract of math/bits.Div64: for a divisor that is greater than the upper half, the quotient and the remainder. -/
import Derived.Test.YtmjikddceegloaaGreatDoorNumA
import Derived.Test.YtmjikddceegloaaGreatDoorDiv
import Derived.Test.YtmjikddceegloaaGreatDoorShelf
import Derived.Deep.DeepCutAuto
import Derived.Deep.CutBlock
import Derived.BigQuiet
import Derived.Deep.QuietTactic
namespace Go.Proofs.YtmjikddceegloaaGreatDoor
open Go.RowKit Go.Lib Go.NumM

theorem bitLenAux_spec : ∀ (f x : Nat), x < 2 ^ f → x < 2 ^ Lib.bitLenAux f x ∧ (x ≠ 0 → 1 ≤ Lib.bitLenAux f x ∧ 2 ^ (Lib.bitLenAux f x - 1) ≤ x) ∧ Lib.bitLenAux f x ≤ f
  | 0, x, h => by
    have : x = 0 := by simpa using h
    subst this
    simp [Lib.bitLenAux]
  | f + 1, x, h => by
    unfold Lib.bitLenAux
    split
    · rename_i hx
      subst hx
      simp
    · rename_i hx
      rw [Nat.pow_succ] at h
      obtain ⟨h1, h2, h3⟩ := bitLenAux_spec f (x / 2) (by omega)
      have e : 2 ^ (1 + Lib.bitLenAux f (x / 2)) = 2 * 2 ^ Lib.bitLenAux f (x / 2) := by rw [Nat.pow_add]
      refine ⟨by rw [e]; omega, fun _ => ⟨by omega, ?_⟩, by omega⟩
      rw [Nat.add_sub_cancel_left]
      by_cases hx2 : x / 2 = 0
      · have e0 : Lib.bitLenAux f (x / 2) = 0 := by rw [hx2]; cases f <;> simp [Lib.bitLenAux]
        rw [e0]
        omega
      · obtain ⟨h4, h5⟩ := h2 hx2
        have e2 : 2 ^ Lib.bitLenAux f (x / 2) = 2 * 2 ^ (Lib.bitLenAux f (x / 2) - 1) := by
          rw [← Nat.pow_succ']
          congr 1
          omega
        omega

theorem ret2_u64 {a b c d : Int} (h : a = c) (k : b = d) : Ending.returned (.tuple #[.int .u64 a, .int .u64 b]) = .returned (.tuple #[.int .u64 c, .int .u64 d]) := by rw [h, k]

/-- The shift by the number of leading zeros. -/
def lzOf (y : Nat) : Nat := 64 - Lib.bitLen y
theorem lz_facts (y : Nat) (h0 : 0 < y) (h1 : y < 18446744073709551616) : lzOf y < 64 ∧ 9223372036854775808 ≤ y * 2 ^ lzOf y ∧ y * 2 ^ lzOf y < 18446744073709551616 ∧ (64 - (Lib.bitLen y : Int)) = (lzOf y : Int) := by
  obtain ⟨b1, b2, hl2⟩ := bitLenAux_spec 64 y h1
  obtain ⟨hl, b2⟩ := b2 (by omega)
  have e : Lib.bitLenAux 64 y = Lib.bitLen y := rfl
  rw [e] at b1 hl b2 hl2
  obtain ⟨h3, h4⟩ := shift_range y (lzOf y) (Lib.bitLen y) hl hl2 rfl b1 b2
  exact ⟨by unfold lzOf; omega, h3, h4, by unfold lzOf; omega⟩

/-- The walk's spelling of what stands before the first loop. -/
theorem pre_slots (hi lo y s : Nat) (hs : s < 64) (hlo : lo < 18446744073709551616) (hlt : hi < y) (h1 : 9223372036854775808 ≤ y * 2 ^ s) (h2 : y * 2 ^ s < 18446744073709551616) :
    ∃ Y a b u d1 d0 : Nat, Norm hi lo y s Y a b u d1 d0 ∧ IntKind.u64.wrap ((y : Int) * 2 ^ s) = (Y : Int) ∧ IntKind.u64.wrap ((y : Int) * 2 ^ s) / 4294967296 = (a : Int) ∧
      bits .and .u64 (IntKind.u64.wrap ((y : Int) * 2 ^ s)) 4294967295 = (b : Int) ∧ bits .or .u64 (IntKind.u64.wrap ((hi : Int) * 2 ^ s)) ((lo : Int) / 2 ^ (64 - s)) = (u : Int) ∧
      IntKind.u64.wrap ((lo : Int) * 2 ^ s) / 4294967296 = (d1 : Int) ∧ bits .and .u64 (IntKind.u64.wrap ((lo : Int) * 2 ^ s)) 4294967295 = (d0 : Int) := by
  have hp : 0 < 2 ^ s := Nat.two_pow_pos s
  have c2 : ((2 : Int) ^ s) = ((2 ^ s : Nat) : Int) := by rw [Int.natCast_pow]; rfl
  have c3 : ((2 : Int) ^ (64 - s)) = ((2 ^ (64 - s) : Nat) : Int) := by rw [Int.natCast_pow]; rfl
  have hm : hi * 2 ^ s ≤ y * 2 ^ s := Nat.mul_le_mul_right _ (by omega)
  refine ⟨_, _, _, _, _, _, norm_mk hi lo y s hs hlo hlt h1 h2, ?_⟩
  rw [c2, c3]
  simp only [M64.mulN, M64.wrapN _ h2, M64.wrapN _ (Nat.lt_of_le_of_lt hm h2), M64.wrapM (lo * 2 ^ s), M64.maskN _ h2, M64.maskN _ (Nat.mod_lt _ (by omega : 0 < 18446744073709551616))]
  refine ⟨trivial, by omega, trivial, ?_, by omega, trivial⟩
  have e : (lo : Int) / ((2 ^ (64 - s) : Nat) : Int) = ((lo / 2 ^ (64 - s) : Nat) : Int) := by rw [Int.natCast_ediv]
  have hsm : lo / 2 ^ (64 - s) < 2 ^ s := by
    rw [Nat.div_lt_iff_lt_mul (Nat.two_pow_pos _), Nat.mul_comm, ← Nat.pow_add, show 64 - s + s = 64 by omega]; exact hlo
  have hdl : lo / 2 ^ (64 - s) < 18446744073709551616 := Nat.lt_of_le_of_lt (Nat.div_le_self _ _) hlo
  rw [e, bits_or_u64_nat _ _ (Nat.lt_of_le_of_lt hm h2) hdl, Nat.mul_comm hi, ← Nat.two_pow_add_eq_or_of_lt hsm]

/-- The walk's spelling of the first guess of a digit, and of what it leaves. -/
theorem start_slots (Y a b u : Nat) (hY : Y = a * 4294967296 + b) (ha : 2147483648 ≤ a) (ha' : a < 4294967296) (hb : b < 4294967296) (hu : u < Y) (hu' : u < 18446744073709551616) :
    IntKind.u64.wrap ((u : Int) / (a : Int)) = ((u / a : Nat) : Int) ∧
    IntKind.u64.wrap ((u : Int) - IntKind.u64.wrap (IntKind.u64.wrap ((u : Int) / (a : Int)) * (a : Int))) = ((u - u / a * a : Nat) : Int) := by
  have h1 := start_bound Y a b u hY hb hu ha
  have h2 : u / a * a ≤ u := Nat.div_mul_le_self u a
  have e1 : IntKind.u64.wrap ((u : Int) / (a : Int)) = ((u / a : Nat) : Int) := by
    rw [← Int.natCast_ediv, M64.wrapN _ (by omega)]
  refine ⟨e1, ?_⟩
  rw [e1, M64.mulN, M64.wrapN _ (by omega), ← Int.ofNat_sub h2, M64.wrapN _ (by omega)]

/-- The walk's spelling of what a digit leaves. -/
theorem rest_slot (Y u d q : Nat) (hq : q = (u * 4294967296 + d) / Y) (hY : Y < 18446744073709551616) (hu : u < Y) :
    IntKind.u64.wrap (IntKind.u64.wrap (IntKind.u64.wrap ((u : Int) * 4294967296) + (d : Int)) - IntKind.u64.wrap ((q : Int) * (Y : Int))) = (((u * 4294967296 + d) % Y : Nat) : Int) := by
  obtain ⟨h1, h2⟩ := step_rest Y u d hu
  rw [← hq] at h1
  have h3 : (u * 4294967296 + d) % Y < 18446744073709551616 := by omega
  rw [M64.mulN]
  generalize q * Y = p at *
  generalize (u * 4294967296 + d) % Y = r at *
  simp only [IntKind.wrap_u64]
  omega

theorem prod_bd (q b : Nat) (hq : q < 4294967296) (hb : b < 4294967296) : 0 ≤ (q : Int) * (b : Int) ∧ (q : Int) * (b : Int) ≤ 18446744073709551615 := by
  have h := Nat.mul_le_mul (show q ≤ 4294967295 by omega) (show b ≤ 4294967295 by omega)
  rw [M64.mulN]
  omega

set_option maxHeartbeats 1000000 in
set_option maxRecDepth 100000 in
theorem div64_small (lo y : Nat) (hlo : lo < 18446744073709551616) (hy : y < 18446744073709551616) (h0 : 0 < y) (w : World) :
    Calls Tryz.prog 92 #[.int .u64 0, .int .u64 lo, .int .u64 y] w fun e w' => e = .returned (.tuple #[.int .u64 ((lo / y : Nat) : Int), .int .u64 ((lo % y : Nat) : Int)]) ∧ ∃ n, w' = w.drewN n := by
  have t1 : ((y : Int) == 0) = false := by simp; omega
  have t2 : decide ((y : Int) ≤ 0) = false := by simp; omega
  have t3 : (1 : Int) ≤ (y : Int) := by omega
  go_enter Tryz.func92, Tryz.ntmps92
  go_wp2_with fail
  go_quiet (fail)
  go_wp2_with fail
  go_ret2
  exact ⟨by rw [← Int.natCast_ediv, M64.wrapN _ (Nat.lt_of_le_of_lt (Nat.div_le_self _ _) hlo)]; rfl, _, rfl⟩


set_option maxHeartbeats 1000000 in
set_option maxRecDepth 100000 in
theorem div64_big (hi lo y : Nat) (hlo : lo < 18446744073709551616) (hy : y < 18446744073709551616) (h0 : 0 < hi) (hlt : hi < y) (w : World) :
    Calls Tryz.prog 92 #[.int .u64 hi, .int .u64 lo, .int .u64 y] w fun e w' => e = .returned (.tuple #[.int .u64 (((hi * 18446744073709551616 + lo) / y : Nat) : Int), .int .u64 (((hi * 18446744073709551616 + lo) % y : Nat) : Int)]) ∧ w = w' := by
  obtain ⟨z1, z2, z3, z4⟩ := lz_facts y (by omega) hy
  have Z4 := Lib.hid z4
  clear z4
  have t1 : ((y : Int) == 0) = false := by simp; omega
  have t2 : decide ((y : Int) ≤ (hi : Int)) = false := by simp; omega
  have t3 : ((hi : Int) == 0) = false := by simp; omega
  go_enter Tryz.func92, Tryz.ntmps92
  go_wp2_with fail
  go_fit (Tryz.bits_LeadingZeros64 _ _ (by omega) (by omega))
  rintro e w' ⟨rfl, hw⟩
  subst hw
  rw [Int.toNat_natCast, Z4.out]
  go_upto_region 14 with fail
  go_cut [2, 8, 9, 10, 11, 13, 14] (fun s2 s8 s9 s10 s11 s13 s14 wx => ∃ Y a b u d1 d0 : Nat, Norm hi lo y (lzOf y) Y a b u d1 d0 ∧ s2 = .int .u64 Y ∧ s8 = .int .u64 (lzOf y) ∧ s9 = .int .u64 a ∧ s10 = .int .u64 b ∧ s11 = .int .u64 u ∧ s13 = .int .u64 d1 ∧ s14 = .int .u64 d0 ∧ w' = wx)
  case first =>
    go_wp2_with fail
    go_meet
    obtain ⟨Y, a, b, u, d1, d0, hN, e1, e2, e3, e4, e5, e6⟩ := pre_slots hi lo y (lzOf y) z1 hlo hlt z2 z3
    exact ⟨Y, a, b, u, d1, d0, hN, by rw [e1], rfl, by rw [e2], by rw [e3], by rw [e4], by rw [e5], by rw [e6], rfl⟩
  case rest =>
    obtain ⟨Y, a, b, u, d1, d0, hN, rfl, rfl, rfl, rfl, rfl, rfl, rfl, rfl⟩ := hcut
    have Z1 := Lib.hid z1
    clear z1 z2 z3 Z4
    have bd := hN.bounds
    have b1 := hN.hu
    go_upto_region 16 with fail
    go_cut [15, 16] (fun s15 s16 wx => ∃ q r : Nat, Est Y a b u d1 q r ∧ q ≤ 4294967297 ∧ r < 4294967296 ∧ s15 = .int .u64 q ∧ s16 = .int .u64 r ∧ w' = wx)
    case first =>
      go_wp2_with fail
      go_meet
      obtain ⟨e1, e2⟩ := start_slots Y a b u hN.hab bd.1 bd.2.1 bd.2.2.1 b1 bd.2.2.2.1
      exact ⟨u / a, u - u / a * a, est_start Y a b u d1 hN.hab (by omega) bd.2.2.2.2.1, start_bound Y a b u hN.hab bd.2.2.1 b1 bd.1, start_rest a u (by omega) bd.2.1, by rw [e1], by rw [e2], rfl⟩
    case rest =>
      obtain ⟨q0, r0, hE0, hq0, hr0, rfl, rfl, rfl⟩ := hcut
      go_upto_block 0 with fail
      go_cut [15] (fun s15 wx => s15 = .int .u64 ((u * 4294967296 + d1) / Y : Nat) ∧ w' = wx)
      case first =>
        go_wp2_with fail
        go_loop [15, 16] (fun sq sr => ∃ q r : Nat, Est Y a b u d1 q r ∧ q ≤ 4294967297 ∧ r < 4294967296 ∧ sq = .int .u64 q ∧ sr = .int .u64 r) (fun _ sr => (4294967296 - RowKit.intOf sr).toNat)
        case atStart => exact ⟨q0, r0, hE0, hq0, hr0, rfl, rfl⟩
        case round =>
          obtain ⟨q, r, hE, hq, hr, rfl, rfl⟩ := hrel
          clear hE0 hq0 hr0
          have i1 : (0 : Int) ≤ q ∧ (q : Int) ≤ 4294967297 := by omega
          have i2 : (0 : Int) ≤ r ∧ (r : Int) < 4294967296 := by omega
          have i3 : (2147483648 : Int) ≤ a ∧ (a : Int) < 4294967296 := by omega
          have i4 : (0 : Int) ≤ b ∧ (b : Int) < 4294967296 := by omega
          have i5 : (0 : Int) ≤ d1 ∧ (d1 : Int) < 4294967296 := by omega
          have hd := bd.2.2.2.2.1
          have hd' := bd.2.2.2.2.2.1
          by_cases hA : (4294967296 : Int) ≤ q
          · obtain ⟨k1, k2⟩ := est_step Y a b u d1 q r hN.hab b1 (by omega) hE (.inl (by omega))
            have K2 := Lib.hid k2
            have B1 := Lib.hid b1
            have HN := Lib.hid hN
            clear hq hr bd b1 hE hN hd hd' k2
            by_cases hB : (4294967296 : Int) ≤ r + a
            · go_wp2_with fail
              go_meet
              have := est_break Y a b u d1 (q - 1) (r + a) HN.out.hab HN.out.hb B1.out K2.out (by omega) (by omega)
              exact ⟨by rw [← this]; congr 1; omega, rfl⟩
            · go_wp2_with fail
              go_round
              case rel => exact ⟨q - 1, r + a, K2.out, by omega, by omega, by congr 1; omega, rfl⟩
              case measure => simp [RowKit.intOf]; omega
          · by_cases hC : 4294967296 * r + d1 < q * b
            · obtain ⟨k1, k2⟩ := est_step Y a b u d1 q r hN.hab b1 (by omega) hE (.inr hC)
              have p1 := prod_bd q b (by omega) (by omega)
              have p2 : (4294967296 : Int) * r + d1 < (q : Int) * (b : Int) := by rw [M64.mulN]; omega
              have k1' : (1 : Int) ≤ q := by omega
              have K2 := Lib.hid k2
              have B1 := Lib.hid b1
              have HN := Lib.hid hN
              clear hq hr bd b1 hE hN hd hd' k2 hC k1
              by_cases hB : (4294967296 : Int) ≤ r + a
              · go_wp2_with fail
                go_meet
                have := est_break Y a b u d1 (q - 1) (r + a) HN.out.hab HN.out.hb B1.out K2.out (by omega) (by omega)
                exact ⟨by rw [← this]; congr 1; omega, rfl⟩
              · go_wp2_with fail
                go_round
                case rel => exact ⟨q - 1, r + a, K2.out, by omega, by omega, by congr 1; omega, rfl⟩
                case measure => simp [RowKit.intOf]; omega
            · have p1 := prod_bd q b (by omega) (by omega)
              have p2 : ¬ (4294967296 : Int) * r + d1 < (q : Int) * (b : Int) := by rw [M64.mulN]; omega
              have k := est_end Y a b u d1 q r hN.hab b1 hE (by omega)
              have K := Lib.hid k
              clear hq hr bd b1 hE hN hd hd' hC k
              go_wp2_with fail
              go_meet
              exact ⟨by rw [← K.out], rfl⟩
      case rest =>
        obtain ⟨rfl, rfl⟩ := hcut
        clear hE0 hq0 hr0
        obtain ⟨q1, hq1⟩ : ∃ q1, q1 = (u * 4294967296 + d1) / Y := ⟨_, rfl⟩
        rw [← hq1]
        have HQ := Lib.hid hq1
        clear hq1
        go_upto_region 21 with fail
        go_cut [17] (fun s17 wx => s17 = .int .u64 ((u * 4294967296 + d1) % Y : Nat) ∧ w' = wx)
        case first =>
          have e := rest_slot Y u d1 q1 HQ.out (by omega) b1
          have E := Lib.hid e
          clear e
          go_wp2_with fail
          go_meet
          exact ⟨by rw [E.out], rfl⟩
        case rest =>
          obtain ⟨rfl, rfl⟩ := hcut
          obtain ⟨v, hv⟩ : ∃ v, v = (u * 4294967296 + d1) % Y := ⟨_, rfl⟩
          have b2 : v < Y := by rw [hv]; exact Nat.mod_lt _ (by omega)
          rw [← hv]
          have HV := Lib.hid hv
          clear hv
          go_upto_region 23 with fail
          go_cut [18, 16] (fun s15 s16 wx => ∃ q r : Nat, Est Y a b v d0 q r ∧ q ≤ 4294967297 ∧ r < 4294967296 ∧ s15 = .int .u64 q ∧ s16 = .int .u64 r ∧ w' = wx)
          case first =>
            go_wp2_with fail
            go_meet
            obtain ⟨e1, e2⟩ := start_slots Y a b v hN.hab bd.1 bd.2.1 bd.2.2.1 b2 (by omega)
            exact ⟨v / a, v - v / a * a, est_start Y a b v d0 hN.hab (by omega) bd.2.2.2.2.2.1, start_bound Y a b v hN.hab bd.2.2.1 b2 bd.1, start_rest a v (by omega) bd.2.1, by rw [e1], by rw [e2], rfl⟩
          case rest =>
            obtain ⟨q0, r0, hE0, hq0, hr0, rfl, rfl, rfl⟩ := hcut
            go_upto_block 2 with fail
            go_cut [18] (fun s15 wx => s15 = .int .u64 ((v * 4294967296 + d0) / Y : Nat) ∧ w' = wx)
            case first =>
              go_wp2_with fail
              go_loop [18, 16] (fun sq sr => ∃ q r : Nat, Est Y a b v d0 q r ∧ q ≤ 4294967297 ∧ r < 4294967296 ∧ sq = .int .u64 q ∧ sr = .int .u64 r) (fun _ sr => (4294967296 - RowKit.intOf sr).toNat)
              case atStart => exact ⟨q0, r0, hE0, hq0, hr0, rfl, rfl⟩
              case round =>
                obtain ⟨q, r, hE, hq, hr, rfl, rfl⟩ := hrel
                clear hE0 hq0 hr0
                have i1 : (0 : Int) ≤ q ∧ (q : Int) ≤ 4294967297 := by omega
                have i2 : (0 : Int) ≤ r ∧ (r : Int) < 4294967296 := by omega
                have i3 : (2147483648 : Int) ≤ a ∧ (a : Int) < 4294967296 := by omega
                have i4 : (0 : Int) ≤ b ∧ (b : Int) < 4294967296 := by omega
                have i5 : (0 : Int) ≤ d0 ∧ (d0 : Int) < 4294967296 := by omega
                have hd := bd.2.2.2.2.1
                have hd' := bd.2.2.2.2.2.1
                by_cases hA : (4294967296 : Int) ≤ q
                · obtain ⟨k1, k2⟩ := est_step Y a b v d0 q r hN.hab b2 (by omega) hE (.inl (by omega))
                  have K2 := Lib.hid k2
                  have B2 := Lib.hid b2
                  have HN := Lib.hid hN
                  clear hq hr bd b2 hE hN hd hd' k2
                  by_cases hB : (4294967296 : Int) ≤ r + a
                  · go_wp2_with fail
                    go_meet
                    have := est_break Y a b v d0 (q - 1) (r + a) HN.out.hab HN.out.hb B2.out K2.out (by omega) (by omega)
                    exact ⟨by rw [← this]; congr 1; omega, rfl⟩
                  · go_wp2_with fail
                    go_round
                    case rel => exact ⟨q - 1, r + a, K2.out, by omega, by omega, by congr 1; omega, rfl⟩
                    case measure => simp [RowKit.intOf]; omega
                · by_cases hC : 4294967296 * r + d0 < q * b
                  · obtain ⟨k1, k2⟩ := est_step Y a b v d0 q r hN.hab b2 (by omega) hE (.inr hC)
                    have p1 := prod_bd q b (by omega) (by omega)
                    have p2 : (4294967296 : Int) * r + d0 < (q : Int) * (b : Int) := by rw [M64.mulN]; omega
                    have k1' : (1 : Int) ≤ q := by omega
                    have K2 := Lib.hid k2
                    have B2 := Lib.hid b2
                    have HN := Lib.hid hN
                    clear hq hr bd b2 hE hN hd hd' k2 hC k1
                    by_cases hB : (4294967296 : Int) ≤ r + a
                    · go_wp2_with fail
                      go_meet
                      have := est_break Y a b v d0 (q - 1) (r + a) HN.out.hab HN.out.hb B2.out K2.out (by omega) (by omega)
                      exact ⟨by rw [← this]; congr 1; omega, rfl⟩
                    · go_wp2_with fail
                      go_round
                      case rel => exact ⟨q - 1, r + a, K2.out, by omega, by omega, by congr 1; omega, rfl⟩
                      case measure => simp [RowKit.intOf]; omega
                  · have p1 := prod_bd q b (by omega) (by omega)
                    have p2 : ¬ (4294967296 : Int) * r + d0 < (q : Int) * (b : Int) := by rw [M64.mulN]; omega
                    have k := est_end Y a b v d0 q r hN.hab b2 hE (by omega)
                    have K := Lib.hid k
                    clear hq hr bd b2 hE hN hd hd' hC k
                    go_wp2_with fail
                    go_meet
                    exact ⟨by rw [← K.out], rfl⟩
            case rest =>
              obtain ⟨rfl, rfl⟩ := hcut
              clear hE0 hq0 hr0
              obtain ⟨q2, hq2⟩ : ∃ q2, q2 = (v * 4294967296 + d0) / Y := ⟨_, rfl⟩
              rw [← hq2]
              have e2 := rest_slot Y v d0 q2 hq2 (by omega) b2
              obtain ⟨f1, f2⟩ := norm_end hN
              rw [← HQ.out, ← HV.out, ← hq2] at f1
              rw [← HV.out] at f2
              have e3 := digit_lt Y u d1 b1 (by omega)
              rw [← HQ.out] at e3
              have e4 := digit_lt Y v d0 b2 (by omega)
              rw [← hq2] at e4
              have F1 := Lib.hid f1
              have F2 := Lib.hid f2
              have E2 := Lib.hid e2
              have i3 : (0 : Int) ≤ q1 ∧ (q1 : Int) < 4294967296 := by omega
              have i4 : (0 : Int) ≤ q2 ∧ (q2 : Int) < 4294967296 := by omega
              clear hq2 e2 f1 f2 e3 e4 bd b1 b2 hN
              go_wp2_with fail
              go_ret2
              refine ⟨ret2_u64 ?_ ?_, rfl⟩
              · rw [← F1.out]; omega
              · rw [E2.out, ← F2.out, Nat.min_eq_left (Nat.le_of_lt Z1.out), Int.natCast_ediv, Int.natCast_pow]; rfl

/-- DIV64: for a divisor above the upper half, the quotient and the remainder of hi * 2^64 + lo. -/
def Div64Post (hi lo y : Nat) (w : World) (e : Ending) (w' : World) : Prop :=
  e = .returned (.tuple #[.int .u64 (((hi * 18446744073709551616 + lo) / y : Nat) : Int), .int .u64 (((hi * 18446744073709551616 + lo) % y : Nat) : Int)]) ∧ Below w.heap.size w w'
theorem div64_any (hi lo y : Nat) (hlo : lo < 18446744073709551616) (hy : y < 18446744073709551616) (hlt : hi < y) (w : World) :
    Calls Tryz.prog 92 #[.int .u64 hi, .int .u64 lo, .int .u64 y] w (Div64Post hi lo y w) := by
  rcases Nat.eq_zero_or_pos hi with rfl | h
  · refine (div64_small lo y hlo hy (by omega) w).mono ?_
    rintro e w' ⟨rfl, n, rfl⟩
    exact ⟨by rw [Nat.zero_mul, Nat.zero_add], below_drewN (Below.refl _ _) n⟩
  · refine (div64_big hi lo y hlo hy h hlt w).mono ?_
    rintro e w' ⟨rfl, rfl⟩
    exact ⟨rfl, Below.refl _ _⟩
end Go.Proofs.YtmjikddceegloaaGreatDoor
