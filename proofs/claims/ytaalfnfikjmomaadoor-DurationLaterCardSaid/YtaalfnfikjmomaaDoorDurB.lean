/- Contracts of the document's Decimal and Show (duration). -/
import Derived.Test.YtaalfnfikjmomaaDoorDurA
namespace Go.Proofs.YtaalfnfikjmomaaDoor
open Go.RowKit Go.Lib

theorem dec_slice (a : Nat) (ha : a < 10) (w : World) : (Instr.sliceAt 9 (.string ⟨#[48, 49, 50, 51, 52, 53, 54, 55, 56, 57]⟩) (some (.int .i64 (a : Int))) (some (.int .i64 ((a : Int) + 1))) none).run Tryd.prog w = .ok (.string ⟨#[(48 + a).toUInt8]⟩) w := by
  rcases (show a = 0 ∨ a = 1 ∨ a = 2 ∨ a = 3 ∨ a = 4 ∨ a = 5 ∨ a = 6 ∨ a = 7 ∨ a = 8 ∨ a = 9 by omega) with rfl | rfl | rfl | rfl | rfl | rfl | rfl | rfl | rfl | rfl <;> kernel_rfl
theorem decN_len : ∀ (k n : Nat), n < 10 ^ (k + 1) → (decN n).length ≤ k + 1
  | 0, n, h => by rw [decN_small (by omega)]; simp
  | k + 1, n, h => by
    by_cases h9 : 9 < n
    · rw [decN_big h9, List.length_append]
      have := decN_len k (n / 10) (by rw [Nat.pow_succ] at h; omega)
      simp
      omega
    · rw [decN_small h9]; simp
theorem cons_strD (c : UInt8) (l : List UInt8) : (⟨#[c]⟩ : ByteArray) ++ ⟨l.toArray⟩ = ⟨(c :: l).toArray⟩ := by
  apply ByteArray.ext
  simp

set_option maxHeartbeats 1000000 in
set_option maxRecDepth 100000 in
theorem refDecimal_any (n : Nat) (hn : n < 1000000000000000000) (w : World) :
    Calls Tryd.prog 29 #[.int .i64 n] w fun e w' => e = .returned (.string ⟨(decN n).toArray⟩) ∧ w = w' := by
  have hlen := Lib.hid (decN_len 17 n (by rw [show (10 : Nat) ^ (17 + 1) = 1000000000000000000 by decide]; exact hn))
  have n0 : (0 : Int) ≤ n ∧ (n : Int) ≤ 1000000000000000000 := by omega
  clear hn
  go_enter Tryd.func29, Tryd.ntmps29
  go_wp2_with fail
  go_loop [0, 3] (fun s0 s3 => ∃ (x : Nat) (t : List UInt8) (s : ByteArray), x ≤ n ∧ s = ⟨t.toArray⟩ ∧ decN n = decN x ++ t ∧ s0 = .int .i64 (x : Int) ∧ s3 = .string s) (fun s0 _ => (RowKit.intOf s0).toNat)
  case atStart => exact ⟨n, [], ⟨#[]⟩, Nat.le_refl _, rfl, by simp, rfl, rfl⟩
  case round =>
    obtain ⟨x, t, s, hx, hs, he, rfl, rfl⟩ := hrel
    have HS := Lib.hid hs
    have HE := Lib.hid he
    have hsz : s.size ≤ 18 := by
      have h1 := hlen.out
      rw [he, List.length_append] at h1
      rw [hs]
      show t.toArray.size ≤ 18
      rw [List.size_toArray]
      omega
    have hx0 : (0 : Int) ≤ x ∧ (x : Int) ≤ 1000000000000000000 := by omega
    clear hs he
    by_cases h9 : 9 < x
    · have hd := dec_slice (x % 10) (Nat.mod_lt _ (by decide))
      obtain ⟨y, hy⟩ : ∃ y, y = x % 10 := ⟨_, rfl⟩
      have hy0 : (x : Int) % 10 = (y : Int) := by omega
      have hyt : (x : Int).tmod 10 = (y : Int) := by rw [Int.tmod_eq_emod_of_nonneg (by omega)]; exact hy0
      have hy9 : (0 : Int) ≤ y ∧ (y : Int) ≤ 9 := by omega
      rw [← hy] at hd
      have HN := Lib.hid (show decN n = decN (x / 10) ++ ((48 + y).toUInt8 :: t) by rw [HE.out, decN_big h9, ← hy, List.append_assoc]; rfl)
      obtain ⟨d, hdd⟩ : ∃ d, d = (48 + y).toUInt8 := ⟨_, rfl⟩
      rw [← hdd] at hd HN
      have s1 : (⟨#[d]⟩ : ByteArray).size ≤ 1 := Nat.le_refl _
      have h9i : (9 : Int) < x := by omega
      clear hy h9 hdd
      go_wp2_with fail
      go_round
      case rel => exact ⟨x / 10, d :: t, _, by omega, by rw [HS.out, cons_strD], HN.out, by go_num, rfl⟩
      case measure => simp [RowKit.intOf]; omega
    · have hd := dec_slice x (by omega)
      have h9i : ¬ (9 : Int) < x := by omega
      have HN := Lib.hid (show (⟨#[(48 + x).toUInt8]⟩ : ByteArray) ++ s = ⟨(decN n).toArray⟩ by rw [HS.out, cons_strD, HE.out, decN_small h9]; rfl)
      obtain ⟨d, hdd⟩ : ∃ d, d = (48 + x).toUInt8 := ⟨_, rfl⟩
      rw [← hdd] at hd HN
      have s1 : (⟨#[d]⟩ : ByteArray).size ≤ 1 := Nat.le_refl _
      clear h9 hdd
      go_wp2_with fail
      go_ret
      exact ⟨by rw [← HN.out]; rfl, rfl⟩

theorem app_strD (a b : List UInt8) : (⟨a.toArray⟩ : ByteArray) ++ ⟨b.toArray⟩ = ⟨(a ++ b).toArray⟩ := by
  apply ByteArray.ext
  simp
/-- The text of a number that is limited to the durations. -/
def showD (n : Nat) : List UInt8 := if n = 0 then [48, 115] else showJ 5 n

set_option maxHeartbeats 4000000 in
set_option maxRecDepth 100000 in
theorem refShowD_any (ms : Int) (w : World) :
    Calls Tryd.prog 12 #[.int .i64 ms] w fun e w' => e = .returned (.string ⟨(showD (limD ms)).toArray⟩) ∧ Below w.heap.size w w' := by
  have L := Lib.hid (fun w => refLimitD_any ms w)
  have hn : limD ms ≤ 1125899906842624 := by unfold limD; split <;> (try split) <;> omega
  obtain ⟨n, hne⟩ : ∃ n, n = limD ms := ⟨_, rfl⟩
  rw [← hne] at L hn ⊢
  clear hne
  by_cases h0 : n = 0
  · have hv := Lib.hid (show showD n = [48, 115] by unfold showD; rw [if_pos h0])
    have h0i : ((n : Int) == 0) = true := by rw [beq_iff_eq]; omega
    clear h0
    go_enter Tryd.func12, Tryd.ntmps12
    go_wp2_with fail
    go_fit (L.out _)
    rintro e w1 ⟨rfl, rfl⟩
    go_wp2_with fail
    go_ret
    exact ⟨by rw [hv.out]; rfl, Below.refl _ _⟩
  have hv := Lib.hid (show showD n = showJ 5 n by unfold showD; rw [if_neg h0])
  have h0i : ((n : Int) == 0) = false := by rw [beq_eq_false_iff_ne]; omega
  clear h0
  go_enter Tryd.func12, Tryd.ntmps12
  go_wp2_with fail
  go_fit (L.out _)
  rintro e w1 ⟨rfl, rfl⟩
  go_wp2_with fail
  go_loopw [3, 4, 5] (fun s3 s4 s5 wr => ∃ (i x : Nat) (pre : List UInt8) (s : ByteArray), i ≤ 5 ∧ x < limJ (5 - i) ∧ s = ⟨pre.toArray⟩ ∧ showJ 5 n = pre ++ showJ (5 - i) x ∧ pre.length ≤ 20 * i ∧ s5 = .int .i64 (i : Int) ∧ s3 = .int .i64 (x : Int) ∧ s4 = .string s ∧ Below w.heap.size w wr) (fun _ _ s5 _ => 5 - (RowKit.intOf s5).toNat)
  case atStart => exact ⟨0, n, [], ⟨#[]⟩, by omega, by simp [limJ]; omega, rfl, rfl, by simp, rfl, rfl, rfl, Below.refl _ _⟩
  case round =>
    obtain ⟨i, x, pre, s, hi, hx, hs, he, hpl, rfl, rfl, rfl, hb⟩ := hrel
    have hsz : s.size ≤ 20 * i := by rw [hs]; exact hpl
    have HS := Lib.hid hs
    have HE := Lib.hid he
    have HB := Lib.hid hb
    clear hs he hb
    rcases (show i = 5 ∨ i = 0 ∨ i = 1 ∨ i = 2 ∨ i = 3 ∨ i = 4 by omega) with rfl | rfl | rfl | rfl | rfl | rfl <;> simp [limJ] at hx
    · go_wp2_with fail
      go_ret
      exact ⟨by rw [hv.out, HE.out, HS.out]; simp [showJ], HB.out⟩
    · have hxl : (0 : Int) ≤ x ∧ (x : Int) ≤ 1125900086400000 := by omega
      obtain ⟨q, hq⟩ : ∃ q, q = x / 86400000 := ⟨_, rfl⟩
      obtain ⟨r, hr⟩ : ∃ r, r = x % 86400000 := ⟨_, rfl⟩
      have hrl : r < 86400000 := by omega
      have hstep : showJ (5 - 0) x = if 0 < q then decN q ++ (nameU 0 ++ showJ 4 r) else showJ 4 r := by rw [hq, hr]; rfl
      have hq0 : (x : Int) / 86400000 = (q : Int) := by omega
      have hr0 : (x : Int) % 86400000 = (r : Int) := by omega
      have hql : q ≤ 1125900086400000 := by omega
      have U := Lib.hid (show ∀ w, Calls Tryd.prog 25 #[.int .i64 0] w fun e w' => e = .returned (.int .i64 86400000) ∧ Below w.heap.size w w' from fun w => refUnitSize_any 0 (by omega) w)
      have NM := Lib.hid (show ∀ w, Calls Tryd.prog 26 #[.int .i64 0] w fun e w' => e = .returned (.string ⟨#[100]⟩) ∧ Below w.heap.size w w' from fun w => refUnitName_any 0 (by omega) w)
      have D := Lib.hid (fun w => refDecimal_any q (by omega) w)
      have hdl := decN_len 17 q (by rw [show (10 : Nat) ^ (17 + 1) = 1000000000000000000 by decide]; omega)
      have hnm : (nameU 0).length ≤ 2 := by decide
      by_cases h0 : 0 < q
      · have h0i : (0 : Int) < (q : Int) := by omega
        have HJ := Lib.hid (show showJ 5 n = (pre ++ decN q ++ nameU 0) ++ showJ (5 - (0 + 1)) r by rw [HE.out, hstep, if_pos h0, List.append_assoc, List.append_assoc])
        have HP := Lib.hid (show (pre ++ decN q ++ nameU 0).length ≤ 20 * (0 + 1) by rw [List.length_append, List.length_append]; omega)
        obtain ⟨d, hd⟩ : ∃ d : ByteArray, d = ⟨(decN q).toArray⟩ := ⟨_, rfl⟩
        have hdz : d.size ≤ 18 := by rw [hd]; exact hdl
        rw [← hd] at D
        have HD := Lib.hid hd
        have nz : (⟨#[100]⟩ : ByteArray).size ≤ 2 := by decide
        clear hq hr hstep hd hdl h0 hql hnm
        go_wp2_with fail
        go_fit (U.out _)
        rintro e w1 ⟨rfl, hb1⟩
        have B1 := Lib.hid (HB.out.trans (hb1.mono HB.out.size))
        clear hb1
        go_wp2_with fail
        go_fit (U.out _)
        rintro e w2 ⟨rfl, hb2⟩
        have B2 := Lib.hid (B1.out.trans (hb2.mono B1.out.size))
        clear hb2
        go_wp2_with fail
        go_fit (D.out _)
        rintro e w3 ⟨rfl, rfl⟩
        go_wp2_with fail
        go_fit (NM.out _)
        rintro e w3 ⟨rfl, hb3⟩
        have B3 := Lib.hid (B2.out.trans (hb3.mono B2.out.size))
        clear hb3
        go_wp2_with fail
        go_fit (U.out _)
        rintro e w4 ⟨rfl, hb4⟩
        have B4 := Lib.hid (B3.out.trans (hb4.mono B3.out.size))
        clear hb4
        go_wp2_with fail
        go_roundw
        case rel => exact ⟨0 + 1, r, pre ++ decN q ++ nameU 0, _, by omega, by simp [limJ]; try omega, by rw [HS.out, HD.out, app_strD]; exact app_strD _ (nameU 0), HJ.out, HP.out, by go_num, by go_num, rfl, B4.out⟩
        case measure => simp [RowKit.intOf]
      · have h0i : ¬ (0 : Int) < (q : Int) := by omega
        have HJ := Lib.hid (show showJ 5 n = pre ++ showJ (5 - (0 + 1)) r by rw [HE.out, hstep, if_neg h0])
        clear hq hr hstep hdl h0 hql hnm
        go_wp2_with fail
        go_fit (U.out _)
        rintro e w1 ⟨rfl, hb1⟩
        have B1 := Lib.hid (HB.out.trans (hb1.mono HB.out.size))
        clear hb1
        go_wp2_with fail
        go_fit (U.out _)
        rintro e w4 ⟨rfl, hb4⟩
        have B4 := Lib.hid (B1.out.trans (hb4.mono B1.out.size))
        clear hb4
        go_wp2_with fail
        go_roundw
        case rel => exact ⟨0 + 1, r, pre, _, by omega, by simp [limJ]; try omega, HS.out, HJ.out, by omega, by go_num, by go_num, rfl, B4.out⟩
        case measure => simp [RowKit.intOf]
    · have hxl : (0 : Int) ≤ x ∧ (x : Int) ≤ 1125900086400000 := by omega
      obtain ⟨q, hq⟩ : ∃ q, q = x / 3600000 := ⟨_, rfl⟩
      obtain ⟨r, hr⟩ : ∃ r, r = x % 3600000 := ⟨_, rfl⟩
      have hrl : r < 3600000 := by omega
      have hstep : showJ (5 - 1) x = if 0 < q then decN q ++ (nameU 1 ++ showJ 3 r) else showJ 3 r := by rw [hq, hr]; rfl
      have hq0 : (x : Int) / 3600000 = (q : Int) := by omega
      have hr0 : (x : Int) % 3600000 = (r : Int) := by omega
      have hql : q ≤ 1125900086400000 := by omega
      have U := Lib.hid (show ∀ w, Calls Tryd.prog 25 #[.int .i64 1] w fun e w' => e = .returned (.int .i64 3600000) ∧ Below w.heap.size w w' from fun w => refUnitSize_any 1 (by omega) w)
      have NM := Lib.hid (show ∀ w, Calls Tryd.prog 26 #[.int .i64 1] w fun e w' => e = .returned (.string ⟨#[104]⟩) ∧ Below w.heap.size w w' from fun w => refUnitName_any 1 (by omega) w)
      have D := Lib.hid (fun w => refDecimal_any q (by omega) w)
      have hdl := decN_len 17 q (by rw [show (10 : Nat) ^ (17 + 1) = 1000000000000000000 by decide]; omega)
      have hnm : (nameU 1).length ≤ 2 := by decide
      by_cases h0 : 0 < q
      · have h0i : (0 : Int) < (q : Int) := by omega
        have HJ := Lib.hid (show showJ 5 n = (pre ++ decN q ++ nameU 1) ++ showJ (5 - (1 + 1)) r by rw [HE.out, hstep, if_pos h0, List.append_assoc, List.append_assoc])
        have HP := Lib.hid (show (pre ++ decN q ++ nameU 1).length ≤ 20 * (1 + 1) by rw [List.length_append, List.length_append]; omega)
        obtain ⟨d, hd⟩ : ∃ d : ByteArray, d = ⟨(decN q).toArray⟩ := ⟨_, rfl⟩
        have hdz : d.size ≤ 18 := by rw [hd]; exact hdl
        rw [← hd] at D
        have HD := Lib.hid hd
        have nz : (⟨#[104]⟩ : ByteArray).size ≤ 2 := by decide
        clear hq hr hstep hd hdl h0 hql hnm
        go_wp2_with fail
        go_fit (U.out _)
        rintro e w1 ⟨rfl, hb1⟩
        have B1 := Lib.hid (HB.out.trans (hb1.mono HB.out.size))
        clear hb1
        go_wp2_with fail
        go_fit (U.out _)
        rintro e w2 ⟨rfl, hb2⟩
        have B2 := Lib.hid (B1.out.trans (hb2.mono B1.out.size))
        clear hb2
        go_wp2_with fail
        go_fit (D.out _)
        rintro e w3 ⟨rfl, rfl⟩
        go_wp2_with fail
        go_fit (NM.out _)
        rintro e w3 ⟨rfl, hb3⟩
        have B3 := Lib.hid (B2.out.trans (hb3.mono B2.out.size))
        clear hb3
        go_wp2_with fail
        go_fit (U.out _)
        rintro e w4 ⟨rfl, hb4⟩
        have B4 := Lib.hid (B3.out.trans (hb4.mono B3.out.size))
        clear hb4
        go_wp2_with fail
        go_roundw
        case rel => exact ⟨1 + 1, r, pre ++ decN q ++ nameU 1, _, by omega, by simp [limJ]; try omega, by rw [HS.out, HD.out, app_strD]; exact app_strD _ (nameU 1), HJ.out, HP.out, by go_num, by go_num, rfl, B4.out⟩
        case measure => simp [RowKit.intOf]
      · have h0i : ¬ (0 : Int) < (q : Int) := by omega
        have HJ := Lib.hid (show showJ 5 n = pre ++ showJ (5 - (1 + 1)) r by rw [HE.out, hstep, if_neg h0])
        clear hq hr hstep hdl h0 hql hnm
        go_wp2_with fail
        go_fit (U.out _)
        rintro e w1 ⟨rfl, hb1⟩
        have B1 := Lib.hid (HB.out.trans (hb1.mono HB.out.size))
        clear hb1
        go_wp2_with fail
        go_fit (U.out _)
        rintro e w4 ⟨rfl, hb4⟩
        have B4 := Lib.hid (B1.out.trans (hb4.mono B1.out.size))
        clear hb4
        go_wp2_with fail
        go_roundw
        case rel => exact ⟨1 + 1, r, pre, _, by omega, by simp [limJ]; try omega, HS.out, HJ.out, by omega, by go_num, by go_num, rfl, B4.out⟩
        case measure => simp [RowKit.intOf]
    · have hxl : (0 : Int) ≤ x ∧ (x : Int) ≤ 1125900086400000 := by omega
      obtain ⟨q, hq⟩ : ∃ q, q = x / 60000 := ⟨_, rfl⟩
      obtain ⟨r, hr⟩ : ∃ r, r = x % 60000 := ⟨_, rfl⟩
      have hrl : r < 60000 := by omega
      have hstep : showJ (5 - 2) x = if 0 < q then decN q ++ (nameU 2 ++ showJ 2 r) else showJ 2 r := by rw [hq, hr]; rfl
      have hq0 : (x : Int) / 60000 = (q : Int) := by omega
      have hr0 : (x : Int) % 60000 = (r : Int) := by omega
      have hql : q ≤ 1125900086400000 := by omega
      have U := Lib.hid (show ∀ w, Calls Tryd.prog 25 #[.int .i64 2] w fun e w' => e = .returned (.int .i64 60000) ∧ Below w.heap.size w w' from fun w => refUnitSize_any 2 (by omega) w)
      have NM := Lib.hid (show ∀ w, Calls Tryd.prog 26 #[.int .i64 2] w fun e w' => e = .returned (.string ⟨#[109]⟩) ∧ Below w.heap.size w w' from fun w => refUnitName_any 2 (by omega) w)
      have D := Lib.hid (fun w => refDecimal_any q (by omega) w)
      have hdl := decN_len 17 q (by rw [show (10 : Nat) ^ (17 + 1) = 1000000000000000000 by decide]; omega)
      have hnm : (nameU 2).length ≤ 2 := by decide
      by_cases h0 : 0 < q
      · have h0i : (0 : Int) < (q : Int) := by omega
        have HJ := Lib.hid (show showJ 5 n = (pre ++ decN q ++ nameU 2) ++ showJ (5 - (2 + 1)) r by rw [HE.out, hstep, if_pos h0, List.append_assoc, List.append_assoc])
        have HP := Lib.hid (show (pre ++ decN q ++ nameU 2).length ≤ 20 * (2 + 1) by rw [List.length_append, List.length_append]; omega)
        obtain ⟨d, hd⟩ : ∃ d : ByteArray, d = ⟨(decN q).toArray⟩ := ⟨_, rfl⟩
        have hdz : d.size ≤ 18 := by rw [hd]; exact hdl
        rw [← hd] at D
        have HD := Lib.hid hd
        have nz : (⟨#[109]⟩ : ByteArray).size ≤ 2 := by decide
        clear hq hr hstep hd hdl h0 hql hnm
        go_wp2_with fail
        go_fit (U.out _)
        rintro e w1 ⟨rfl, hb1⟩
        have B1 := Lib.hid (HB.out.trans (hb1.mono HB.out.size))
        clear hb1
        go_wp2_with fail
        go_fit (U.out _)
        rintro e w2 ⟨rfl, hb2⟩
        have B2 := Lib.hid (B1.out.trans (hb2.mono B1.out.size))
        clear hb2
        go_wp2_with fail
        go_fit (D.out _)
        rintro e w3 ⟨rfl, rfl⟩
        go_wp2_with fail
        go_fit (NM.out _)
        rintro e w3 ⟨rfl, hb3⟩
        have B3 := Lib.hid (B2.out.trans (hb3.mono B2.out.size))
        clear hb3
        go_wp2_with fail
        go_fit (U.out _)
        rintro e w4 ⟨rfl, hb4⟩
        have B4 := Lib.hid (B3.out.trans (hb4.mono B3.out.size))
        clear hb4
        go_wp2_with fail
        go_roundw
        case rel => exact ⟨2 + 1, r, pre ++ decN q ++ nameU 2, _, by omega, by simp [limJ]; try omega, by rw [HS.out, HD.out, app_strD]; exact app_strD _ (nameU 2), HJ.out, HP.out, by go_num, by go_num, rfl, B4.out⟩
        case measure => simp [RowKit.intOf]
      · have h0i : ¬ (0 : Int) < (q : Int) := by omega
        have HJ := Lib.hid (show showJ 5 n = pre ++ showJ (5 - (2 + 1)) r by rw [HE.out, hstep, if_neg h0])
        clear hq hr hstep hdl h0 hql hnm
        go_wp2_with fail
        go_fit (U.out _)
        rintro e w1 ⟨rfl, hb1⟩
        have B1 := Lib.hid (HB.out.trans (hb1.mono HB.out.size))
        clear hb1
        go_wp2_with fail
        go_fit (U.out _)
        rintro e w4 ⟨rfl, hb4⟩
        have B4 := Lib.hid (B1.out.trans (hb4.mono B1.out.size))
        clear hb4
        go_wp2_with fail
        go_roundw
        case rel => exact ⟨2 + 1, r, pre, _, by omega, by simp [limJ]; try omega, HS.out, HJ.out, by omega, by go_num, by go_num, rfl, B4.out⟩
        case measure => simp [RowKit.intOf]
    · have hxl : (0 : Int) ≤ x ∧ (x : Int) ≤ 1125900086400000 := by omega
      obtain ⟨q, hq⟩ : ∃ q, q = x / 1000 := ⟨_, rfl⟩
      obtain ⟨r, hr⟩ : ∃ r, r = x % 1000 := ⟨_, rfl⟩
      have hrl : r < 1000 := by omega
      have hstep : showJ (5 - 3) x = if 0 < q then decN q ++ (nameU 3 ++ showJ 1 r) else showJ 1 r := by rw [hq, hr]; rfl
      have hq0 : (x : Int) / 1000 = (q : Int) := by omega
      have hr0 : (x : Int) % 1000 = (r : Int) := by omega
      have hql : q ≤ 1125900086400000 := by omega
      have U := Lib.hid (show ∀ w, Calls Tryd.prog 25 #[.int .i64 3] w fun e w' => e = .returned (.int .i64 1000) ∧ Below w.heap.size w w' from fun w => refUnitSize_any 3 (by omega) w)
      have NM := Lib.hid (show ∀ w, Calls Tryd.prog 26 #[.int .i64 3] w fun e w' => e = .returned (.string ⟨#[115]⟩) ∧ Below w.heap.size w w' from fun w => refUnitName_any 3 (by omega) w)
      have D := Lib.hid (fun w => refDecimal_any q (by omega) w)
      have hdl := decN_len 17 q (by rw [show (10 : Nat) ^ (17 + 1) = 1000000000000000000 by decide]; omega)
      have hnm : (nameU 3).length ≤ 2 := by decide
      by_cases h0 : 0 < q
      · have h0i : (0 : Int) < (q : Int) := by omega
        have HJ := Lib.hid (show showJ 5 n = (pre ++ decN q ++ nameU 3) ++ showJ (5 - (3 + 1)) r by rw [HE.out, hstep, if_pos h0, List.append_assoc, List.append_assoc])
        have HP := Lib.hid (show (pre ++ decN q ++ nameU 3).length ≤ 20 * (3 + 1) by rw [List.length_append, List.length_append]; omega)
        obtain ⟨d, hd⟩ : ∃ d : ByteArray, d = ⟨(decN q).toArray⟩ := ⟨_, rfl⟩
        have hdz : d.size ≤ 18 := by rw [hd]; exact hdl
        rw [← hd] at D
        have HD := Lib.hid hd
        have nz : (⟨#[115]⟩ : ByteArray).size ≤ 2 := by decide
        clear hq hr hstep hd hdl h0 hql hnm
        go_wp2_with fail
        go_fit (U.out _)
        rintro e w1 ⟨rfl, hb1⟩
        have B1 := Lib.hid (HB.out.trans (hb1.mono HB.out.size))
        clear hb1
        go_wp2_with fail
        go_fit (U.out _)
        rintro e w2 ⟨rfl, hb2⟩
        have B2 := Lib.hid (B1.out.trans (hb2.mono B1.out.size))
        clear hb2
        go_wp2_with fail
        go_fit (D.out _)
        rintro e w3 ⟨rfl, rfl⟩
        go_wp2_with fail
        go_fit (NM.out _)
        rintro e w3 ⟨rfl, hb3⟩
        have B3 := Lib.hid (B2.out.trans (hb3.mono B2.out.size))
        clear hb3
        go_wp2_with fail
        go_fit (U.out _)
        rintro e w4 ⟨rfl, hb4⟩
        have B4 := Lib.hid (B3.out.trans (hb4.mono B3.out.size))
        clear hb4
        go_wp2_with fail
        go_roundw
        case rel => exact ⟨3 + 1, r, pre ++ decN q ++ nameU 3, _, by omega, by simp [limJ]; try omega, by rw [HS.out, HD.out, app_strD]; exact app_strD _ (nameU 3), HJ.out, HP.out, by go_num, by go_num, rfl, B4.out⟩
        case measure => simp [RowKit.intOf]
      · have h0i : ¬ (0 : Int) < (q : Int) := by omega
        have HJ := Lib.hid (show showJ 5 n = pre ++ showJ (5 - (3 + 1)) r by rw [HE.out, hstep, if_neg h0])
        clear hq hr hstep hdl h0 hql hnm
        go_wp2_with fail
        go_fit (U.out _)
        rintro e w1 ⟨rfl, hb1⟩
        have B1 := Lib.hid (HB.out.trans (hb1.mono HB.out.size))
        clear hb1
        go_wp2_with fail
        go_fit (U.out _)
        rintro e w4 ⟨rfl, hb4⟩
        have B4 := Lib.hid (B1.out.trans (hb4.mono B1.out.size))
        clear hb4
        go_wp2_with fail
        go_roundw
        case rel => exact ⟨3 + 1, r, pre, _, by omega, by simp [limJ]; try omega, HS.out, HJ.out, by omega, by go_num, by go_num, rfl, B4.out⟩
        case measure => simp [RowKit.intOf]
    · have hxl : (0 : Int) ≤ x ∧ (x : Int) ≤ 1125900086400000 := by omega
      obtain ⟨q, hq⟩ : ∃ q, q = x := ⟨_, rfl⟩
      have hstep : showJ (5 - 4) x = if 0 < q then decN q ++ (nameU 4 ++ showJ 0 0) else showJ 0 0 := by rw [hq]; show (if 0 < x / 1 then decN (x / 1) ++ (nameU 4 ++ showJ 0 (x % 1)) else showJ 0 (x % 1)) = _; rw [Nat.div_one, Nat.mod_one]
      subst hq
      have hql : q ≤ 1125900086400000 := by omega
      have U := Lib.hid (show ∀ w, Calls Tryd.prog 25 #[.int .i64 4] w fun e w' => e = .returned (.int .i64 1) ∧ Below w.heap.size w w' from fun w => refUnitSize_any 4 (by omega) w)
      have NM := Lib.hid (show ∀ w, Calls Tryd.prog 26 #[.int .i64 4] w fun e w' => e = .returned (.string ⟨#[109, 115]⟩) ∧ Below w.heap.size w w' from fun w => refUnitName_any 4 (by omega) w)
      have D := Lib.hid (fun w => refDecimal_any q (by omega) w)
      have hdl := decN_len 17 q (by rw [show (10 : Nat) ^ (17 + 1) = 1000000000000000000 by decide]; omega)
      have hnm : (nameU 4).length ≤ 2 := by decide
      by_cases h0 : 0 < q
      · have h0i : (0 : Int) < (q : Int) := by omega
        have HJ := Lib.hid (show showJ 5 n = (pre ++ decN q ++ nameU 4) ++ showJ (5 - (4 + 1)) 0 by rw [HE.out, hstep, if_pos h0, List.append_assoc, List.append_assoc])
        have HP := Lib.hid (show (pre ++ decN q ++ nameU 4).length ≤ 20 * (4 + 1) by rw [List.length_append, List.length_append]; omega)
        obtain ⟨d, hd⟩ : ∃ d : ByteArray, d = ⟨(decN q).toArray⟩ := ⟨_, rfl⟩
        have hdz : d.size ≤ 18 := by rw [hd]; exact hdl
        rw [← hd] at D
        have HD := Lib.hid hd
        have nz : (⟨#[109, 115]⟩ : ByteArray).size ≤ 2 := by decide
        clear hstep hd hdl h0 hql hnm
        go_wp2_with fail
        go_fit (U.out _)
        rintro e w1 ⟨rfl, hb1⟩
        have B1 := Lib.hid (HB.out.trans (hb1.mono HB.out.size))
        clear hb1
        go_wp2_with fail
        go_fit (U.out _)
        rintro e w2 ⟨rfl, hb2⟩
        have B2 := Lib.hid (B1.out.trans (hb2.mono B1.out.size))
        clear hb2
        go_wp2_with fail
        go_fit (D.out _)
        rintro e w3 ⟨rfl, rfl⟩
        go_wp2_with fail
        go_fit (NM.out _)
        rintro e w3 ⟨rfl, hb3⟩
        have B3 := Lib.hid (B2.out.trans (hb3.mono B2.out.size))
        clear hb3
        go_wp2_with fail
        go_fit (U.out _)
        rintro e w4 ⟨rfl, hb4⟩
        have B4 := Lib.hid (B3.out.trans (hb4.mono B3.out.size))
        clear hb4
        go_wp2_with fail
        go_roundw
        case rel => exact ⟨4 + 1, 0, pre ++ decN q ++ nameU 4, _, by omega, by simp [limJ]; try omega, by rw [HS.out, HD.out, app_strD]; exact app_strD _ (nameU 4), HJ.out, HP.out, by go_num, by go_num, rfl, B4.out⟩
        case measure => simp [RowKit.intOf]
      · have h0i : ¬ (0 : Int) < (q : Int) := by omega
        have HJ := Lib.hid (show showJ 5 n = pre ++ showJ (5 - (4 + 1)) 0 by rw [HE.out, hstep, if_neg h0])
        clear hstep hdl h0 hql hnm
        go_wp2_with fail
        go_fit (U.out _)
        rintro e w1 ⟨rfl, hb1⟩
        have B1 := Lib.hid (HB.out.trans (hb1.mono HB.out.size))
        clear hb1
        go_wp2_with fail
        go_fit (U.out _)
        rintro e w4 ⟨rfl, hb4⟩
        have B4 := Lib.hid (B1.out.trans (hb4.mono B1.out.size))
        clear hb4
        go_wp2_with fail
        go_roundw
        case rel => exact ⟨4 + 1, 0, pre, _, by omega, by simp [limJ]; try omega, HS.out, HJ.out, by omega, by go_num, by go_num, rfl, B4.out⟩
        case measure => simp [RowKit.intOf]
end Go.Proofs.YtaalfnfikjmomaaDoor
