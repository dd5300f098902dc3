/- The contract of the document's Parse (digest); the text of a digest is parsed as it, and a text that is parsed is the text of its digest. -/
import Derived.Test.YtoehpoodfbgdiaaDoorDigE
namespace Go.Proofs.YtoehpoodfbgdiaaDoor
open Go.RowKit Go.Lib

theorem hexN_drop (l : List UInt8) (i acc : Nat) (h : i < l.length) : hexN acc (l.drop i) = if hexv l[i].toNat = 16 then none else hexN (acc * 16 + hexv l[i].toNat) (l.drop (i + 1)) := by
  rw [List.drop_eq_getElem_cons h, hexN]
theorem ret_ui {a b : Int} {c d : Int} (h : a = b) (h2 : c = d) : Ending.returned (.tuple #[.int .u64 a, .int .i64 c]) = .returned (.tuple #[.int .u64 b, .int .i64 d]) := by rw [h, h2]
theorem pow16_le {i : Nat} (h : i ≤ 15) : (16 : Nat) ^ i ≤ 1152921504606846976 := by
  rw [show (1152921504606846976 : Nat) = 16 ^ 15 by decide]
  exact Nat.pow_le_pow_right (by decide) h

set_option maxHeartbeats 2000000 in
set_option maxRecDepth 100000 in
theorem refParse_any (s : ByteArray) (hs : s.size ≤ 9223372036854775807) (w : World) :
    Calls Tryd.prog 19 #[.string s] w fun e w' => e = .returned (.tuple #[.int .u64 ((parseD s.data.toList).1 : Nat), .int .i64 ((parseD s.data.toList).2 : Nat)]) ∧ w = w' := by
  have hsl : s.data.toList.length = s.size := by rw [Array.length_toList]; rfl
  have htl : (s.data.toList.take 16).length = min 16 s.size := by rw [List.length_take, hsl]
  obtain ⟨q, hq⟩ : ∃ q, q = parseD s.data.toList := ⟨_, rfl⟩
  rw [← hq]
  unfold parseD at hq
  rw [hsl] at hq
  have HQ := Lib.hid hq
  have HTL := Lib.hid htl
  clear hq htl hsl
  go_enter Tryd.func19, Tryd.ntmps19
  go_wp2_with fail
  go_loop [4, 5] (fun s4 s5 => ∃ i n : Nat, i ≤ 16 ∧ i ≤ s.size ∧ n < 16 ^ i ∧ hexN 0 (s.data.toList.take 16) = hexN n ((s.data.toList.take 16).drop i) ∧ s5 = .int .i64 i ∧ s4 = .int .u64 n) (fun _ s5 => 16 - (RowKit.intOf s5).toNat)
  case atStart => exact ⟨0, 0, by omega, by omega, by simp, rfl, rfl, rfl⟩
  case round =>
    obtain ⟨i, n, hi, his, hn, hx, rfl, rfl⟩ := hrel
    have HX := Lib.hid hx
    clear hx
    by_cases hlt : i < 16 ∧ i < s.size
    · obtain ⟨h16, hsz⟩ := hlt
      have hn2 := pow16_le (show i ≤ 15 by omega)
      have hdr := hexN_drop (s.data.toList.take 16) i n (by have := HTL.out; omega)
      rw [List.getElem_take, show s.data.toList[i]'(by rw [Array.length_toList]; exact hsz) = s[i] from rfl] at hdr
      have D := Lib.hid (fun w => refDigit_any s[i].toNat s[i].toNat_lt w)
      have hvl := hexv_le s[i].toNat
      obtain ⟨d, hd⟩ : ∃ d, d = hexv s[i].toNat := ⟨_, rfl⟩
      rw [← hd] at hdr D hvl
      have hn0 : (0 : Int) ≤ n ∧ (n : Int) ≤ 1152921504606846975 := by omega
      have hd0 : (0 : Int) ≤ d ∧ (d : Int) ≤ 16 := by omega
      have HN := Lib.hid hn
      have HDR := Lib.hid hdr
      clear hdr hd hn hn2
      by_cases hd16 : d = 16
      · have u1 : ((d : Int) == 16) = true := by rw [beq_iff_eq]; omega
        have HF := Lib.hid (show q = (0, 5) by rw [HQ.out, HX.out, HDR.out, if_pos hd16])
        clear hd16
        go_wp2_with fail
        go_fit (D.out _)
        rintro e w1 ⟨rfl, rfl⟩
        go_wp2_with fail
        go_ret2
        exact ⟨ret_ui (by rw [HF.out]; rfl) (by rw [HF.out]; rfl), rfl⟩
      · have u1 : ((d : Int) == 16) = false := by rw [beq_eq_false_iff_ne]; omega
        have HE := Lib.hid (show hexN 0 (s.data.toList.take 16) = hexN (n * 16 + d) ((s.data.toList.take 16).drop (i + 1)) by rw [HX.out, HDR.out, if_neg hd16])
        have HL := Lib.hid (show n * 16 + d < 16 ^ (i + 1) by rw [Nat.pow_succ]; have := HN.out; omega)
        have hd15 : (d : Int) ≤ 15 := by omega
        clear hd16
        go_wp2_with fail
        go_fit (D.out _)
        rintro e w1 ⟨rfl, rfl⟩
        go_wp2_with fail
        go_fit (D.out _)
        rintro e w1 ⟨rfl, rfl⟩
        go_wp2_with fail
        go_round
        case rel => exact ⟨i + 1, n * 16 + d, by omega, by omega, HL.out, HE.out, by go_num, by go_num⟩
        case measure => simp [RowKit.intOf]; omega
    · have HE := Lib.hid (show hexN 0 (s.data.toList.take 16) = some n by rw [HX.out, List.drop_eq_nil_of_le (by rw [HTL.out]; omega)]; rfl)
      by_cases h16 : s.size = 16
      · have HF := Lib.hid (show q = (n, 0) by rw [HQ.out, HE.out]; simp [h16])
        have u1 : ((s.size : Int) != 16) = false := by rw [bne_eq_false_iff_eq]; omega
        obtain rfl : i = 16 := by omega
        have s16 : (s.size : Int) ≤ 16 := by omega
        clear h16 hlt hn
        go_wp2_with fail
        go_ret2
        exact ⟨ret_ui (by rw [HF.out]) (by rw [HF.out]; rfl), rfl⟩
      · have HF := Lib.hid (show q = (0, 5) by rw [HQ.out, HE.out]; simp [h16])
        have u1 : ((s.size : Int) != 16) = true := by rw [bne_iff_ne]; omega
        by_cases hlt2 : s.size ≤ i
        · obtain rfl : i = s.size := by omega
          clear h16 hlt hn
          go_wp2_with fail
          go_ret2
          exact ⟨ret_ui (by rw [HF.out]; rfl) (by rw [HF.out]; rfl), rfl⟩
        · obtain rfl : i = 16 := by omega
          have s16 : (16 : Int) < (s.size : Int) := by omega
          clear h16 hlt hn
          go_wp2_with fail
          go_ret2
          exact ⟨ret_ui (by rw [HF.out]; rfl) (by rw [HF.out]; rfl), rfl⟩

theorem hexv_hexd (n : Nat) (h : n < 16) : hexv (hexd n).toNat = n := by
  rcases (show n = 0 ∨ n = 1 ∨ n = 2 ∨ n = 3 ∨ n = 4 ∨ n = 5 ∨ n = 6 ∨ n = 7 ∨ n = 8 ∨ n = 9 ∨ n = 10 ∨ n = 11 ∨ n = 12 ∨ n = 13 ∨ n = 14 ∨ n = 15 by omega) with rfl | rfl | rfl | rfl | rfl | rfl | rfl | rfl | rfl | rfl | rfl | rfl | rfl | rfl | rfl | rfl <;> rfl
theorem hexd_hexv (c : UInt8) (h : hexv c.toNat ≠ 16) : hexd (hexv c.toNat) = c := by
  apply UInt8.toNat_inj.1
  have hc := c.toNat_lt
  unfold hexv at h ⊢
  unfold hexd
  split at h
  · rename_i h1
    rw [if_pos h1, if_pos (by omega)]
    simp
    omega
  · rename_i h1
    split at h
    · rename_i h2
      rw [if_neg h1, if_pos h2, if_neg (by omega)]
      simp
      omega
    · exact absurd rfl h
/-- The digits of a number, read behind others. -/
theorem hexN_text : ∀ (k n acc : Nat) (r : List UInt8), hexN acc (hexT k n ++ r) = hexN (acc * 16 ^ k + n % 16 ^ k) r
  | 0, n, acc, r => by simp [hexT, Nat.mod_one]
  | k + 1, n, acc, r => by
    have hd : hexv (hexd (n % 16)).toNat = n % 16 := hexv_hexd _ (Nat.mod_lt _ (by decide))
    rw [hexT, List.append_assoc, hexN_text k (n / 16) acc, List.singleton_append, hexN, hd, if_neg (by omega)]
    congr 1
    have h1 : n % 16 ^ (k + 1) = (n / 16 % 16 ^ k) * 16 + n % 16 := by
      rw [Nat.pow_succ, Nat.mul_comm (16 ^ k) 16, Nat.mod_mul]
      omega
    rw [h1, Nat.pow_succ, Nat.add_mul, Nat.mul_assoc]
    omega
theorem parse_text (n : Nat) (h : n < 18446744073709551616) : parseD (hexT 16 n) = (n, 0) := by
  unfold parseD
  have h0 := hexN_text 16 n 0 []
  rw [List.append_nil, Nat.zero_mul, Nat.zero_add, Nat.mod_eq_of_lt (by rw [show (16 : Nat) ^ 16 = 18446744073709551616 by decide]; exact h)] at h0
  rw [List.take_of_length_le (by rw [hexT_len]; exact Nat.le_refl _), h0, hexT_len]
  rfl
theorem hexT_acc : ∀ (l : List UInt8) (acc k n : Nat), hexN acc l = some n → hexT (k + l.length) n = hexT k acc ++ l
  | [], acc, k, n, h => by
    rw [hexN] at h
    injection h with h
    subst h
    simp
  | c :: r, acc, k, n, h => by
    rw [hexN] at h
    by_cases h16 : hexv c.toNat = 16
    · rw [if_pos h16] at h; cases h
    · rw [if_neg h16] at h
      have hle := hexv_le c.toNat
      have h2 := hexT_acc r _ (k + 1) n h
      rw [List.length_cons, show k + (r.length + 1) = k + 1 + r.length by omega, h2, hexT, show (acc * 16 + hexv c.toNat) / 16 = acc by omega, show (acc * 16 + hexv c.toNat) % 16 = hexv c.toNat by omega, hexd_hexv c h16, List.append_assoc]
      rfl
/-- A text that is parsed is the text of its digest. -/
theorem text_parse (l : List UInt8) (h : (parseD l).2 = 0) : hexT 16 (parseD l).1 = l ∧ (parseD l).1 < 18446744073709551616 := by
  unfold parseD at h ⊢
  cases hx : hexN 0 (l.take 16) with
  | none => rw [hx] at h; simp at h
  | some n =>
    rw [hx] at h
    simp only at h ⊢
    by_cases h16 : l.length = 16
    · rw [if_neg (by omega)]
      rw [List.take_of_length_le (by omega)] at hx
      have h2 := hexT_acc l 0 0 n hx
      rw [Nat.zero_add, h16] at h2
      refine ⟨by rw [h2]; rfl, ?_⟩
      have h3 := hexN_text 16 n 0 []
      rw [List.append_nil, h2, hexT, List.nil_append, hx] at h3
      simp only [hexN] at h3
      injection h3 with h3
      rw [h3, show (18446744073709551616 : Nat) = 16 ^ 16 by decide, Nat.zero_mul, Nat.zero_add]
      exact Nat.mod_lt _ (by decide)
    · rw [if_pos h16] at h
      simp at h
end Go.Proofs.YtoehpoodfbgdiaaDoor
