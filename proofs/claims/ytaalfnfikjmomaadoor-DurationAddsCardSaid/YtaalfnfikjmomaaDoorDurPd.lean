/- The contract of the program's Show, Add, Elapsed (duration), and of the document's. -/
import Derived.Test.YtaalfnfikjmomaaDoorDurPc
namespace Go.Proofs.YtaalfnfikjmomaaDoor
open Go.RowKit Go.Lib

theorem TabD.drew {w : World} (h : TabD w) : TabD w.drew := h.below (Below.refl _ _).drew
set_option maxHeartbeats 4000000 in
set_option maxRecDepth 100000 in
theorem durShow_any (ms : Int) (w : World) (hT : TabD w) :
    Calls Tryd.prog 11 #[.int .i64 ms] w fun e w' => e = .returned (.string ⟨(showD (limD ms)).toArray⟩) ∧ Below w.heap.size w w' := by
  have HT := Lib.hid hT
  obtain ⟨c0, c1, c2, c3, c4, c5, c6, c7, c8, c9, c10, c11, c12, c13, c14⟩ := units_cells hT
  clear hT
  have L := Lib.hid (fun w => limited_any ms w)
  have hn : limD ms ≤ 1125899906842624 := by unfold limD; split <;> (try split) <;> omega
  obtain ⟨n, hne⟩ : ∃ n, n = limD ms := ⟨_, rfl⟩
  rw [← hne] at L hn ⊢
  clear hne
  by_cases h0 : n = 0
  · have hv := Lib.hid (show showD n = [48, 115] by unfold showD; rw [if_pos h0])
    have h0i : ((n : Int) == 0) = true := by rw [beq_iff_eq]; omega
    clear h0
    go_enter Tryd.func11, Tryd.ntmps11
    go_wp2_with fail
    go_fit (L.out _)
    rintro e w1 ⟨rfl, rfl⟩
    go_wp2_with fail
    go_ret
    exact ⟨by rw [hv.out]; rfl, Below.refl _ _⟩
  have hv := Lib.hid (show showD n = showJ 5 n by unfold showD; rw [if_neg h0])
  have h0i : ((n : Int) == 0) = false := by rw [beq_eq_false_iff_ne]; omega
  clear h0
  go_enter Tryd.func11, Tryd.ntmps11
  go_wp2_with fail
  go_fit (L.out _)
  rintro e w1 ⟨rfl, rfl⟩
  go_wp2_with fail
  go_loopw [3, 4, 13] (fun s3 s4 s13 wr => ∃ (i x : Nat) (pre : List UInt8) (s : ByteArray), i ≤ 5 ∧ x < limJ (5 - i) ∧ s = ⟨pre.toArray⟩ ∧ showJ 5 n = pre ++ showJ (5 - i) x ∧ pre.length ≤ 20 * i ∧ s3 = .int .i64 (x : Int) ∧ s4 = .string s ∧ s13 = .int .i64 (i : Int) ∧ Below w.heap.size w wr) (fun _ _ s13 _ => 5 - (RowKit.intOf s13).toNat)
  case atStart => exact ⟨0, n, [], ⟨#[]⟩, by omega, by simp [limJ]; omega, rfl, rfl, by simp, rfl, rfl, rfl, Below.refl _ _⟩
  case round =>
    obtain ⟨i, x, pre, s, hi, hx, hs, he, hpl, rfl, rfl, rfl, hb⟩ := hrel
    have hsz : s.size ≤ 20 * i := by rw [hs]; exact hpl
    have HS := Lib.hid hs
    have HE := Lib.hid he
    have HB := Lib.hid hb
    have HT1 := Lib.hid (HT.out.below hb)
    clear hs he hb
    rcases (show i = 5 ∨ i = 0 ∨ i = 1 ∨ i = 2 ∨ i = 3 ∨ i = 4 by omega) with rfl | rfl | rfl | rfl | rfl | rfl <;> simp [limJ] at hx
    · go_wp2_with fail
      go_ret
      exact ⟨by rw [hv.out, HE.out, HS.out]; simp [showJ], HB.out⟩
    · have hxl : (0 : Int) ≤ x ∧ (x : Int) ≤ 1125900086400000 := by omega
      obtain ⟨q, hq⟩ : ∃ q, q = x / 86400000 := ⟨_, rfl⟩
      obtain ⟨r, hr⟩ : ∃ r, r = x % 86400000 := ⟨_, rfl⟩
      have hrl : r < 86400000 := by omega
      have hstep : showJ (5 - 0) x = if 0 < q then decN q ++ (nameU 0 ++ showJ 4 r) else showJ 4 r := by rw [hq, hr]; rfl
      have hq0 : (x : Int) / 86400000 = (q : Int) := by omega
      have hr0 : (x : Int) % 86400000 = (r : Int) := by omega
      have hql : q ≤ 1125900086400000 := by omega
      have BA := Lib.hid (HB.out.alloc HB.out.size (Obj.cells #[.string ⟨#[100]⟩, .int .i64 86400000, .int .i64 9223372036854775807] 40))
      have TA := Lib.hid (HT1.out.below ((Below.refl wr.heap.size wr).alloc (Nat.le_refl _) (Obj.cells #[.string ⟨#[100]⟩, .int .i64 86400000, .int .i64 9223372036854775807] 40)))
      have hdl := decN_len 17 q (by rw [show (10 : Nat) ^ (17 + 1) = 1000000000000000000 by decide]; omega)
      have hnm : (nameU 0).length ≤ 2 := by decide
      have ix := units_ix0
      by_cases h0 : 0 < q
      · have h0i : (0 : Int) < (q : Int) := by omega
        have HJ := Lib.hid (show showJ 5 n = (pre ++ decN q ++ nameU 0) ++ showJ (5 - (0 + 1)) r by rw [HE.out, hstep, if_pos h0, List.append_assoc, List.append_assoc])
        have HP := Lib.hid (show (pre ++ decN q ++ nameU 0).length ≤ 20 * (0 + 1) by rw [List.length_append, List.length_append]; omega)
        obtain ⟨d, hd⟩ : ∃ d : ByteArray, d = ⟨(decN q).toArray⟩ := ⟨_, rfl⟩
        have hdz : d.size ≤ 18 := by rw [hd]; exact hdl
        have D := Lib.hid (fun w hT => itoa_any q (by omega) w hT)
        rw [← hd] at D
        have HD := Lib.hid hd
        have nz : (⟨#[100]⟩ : ByteArray).size ≤ 2 := by decide
        have hs0 : (wr.alloc (Obj.cells #[.string ⟨#[100]⟩, .int .i64 86400000, .int .i64 9223372036854775807] 40)).cell? ⟨wr.heap.size, 0, none⟩ = some (.string ⟨#[100]⟩) ∧ (wr.alloc (Obj.cells #[.string ⟨#[100]⟩, .int .i64 86400000, .int .i64 9223372036854775807] 40)).cell? ⟨wr.heap.size, 1, none⟩ = some (.int .i64 86400000) ∧ wr.heap.size < (wr.alloc (Obj.cells #[.string ⟨#[100]⟩, .int .i64 86400000, .int .i64 9223372036854775807] 40)).heap.size ∧ w.heap.size ≤ (wr.alloc (Obj.cells #[.string ⟨#[100]⟩, .int .i64 86400000, .int .i64 9223372036854775807] 40)).heap.size ∧ Below w.heap.size w (wr.alloc (Obj.cells #[.string ⟨#[100]⟩, .int .i64 86400000, .int .i64 9223372036854775807] 40)) :=
          ⟨by simp [World.cell?_alloc_new], by simp [World.cell?_alloc_new], by simp, BA.out.size, BA.out⟩
        have hc1 := fun w => run_string_add_sum (P := Tryd.prog) w d ⟨#[100]⟩ (by omega)
        have hc2 := fun w => run_string_add_sum (P := Tryd.prog) w s (d ++ ⟨#[100]⟩) (by rw [ByteArray.size_append]; omega)
        clear hq hr hstep hd hdl h0 hql hnm
        go_upto_region 10 with fail
        obtain ⟨wn, hwn⟩ : ∃ wn, wn = wr.alloc (Obj.cells #[.string ⟨#[100]⟩, .int .i64 86400000, .int .i64 9223372036854775807] 40) := ⟨_, rfl⟩
        rw [← hwn] at hs0 TA ⊢
        clear hwn ix c0 c1 c2 c3 c4 c5 c6 c7 c8 c9 c10 c11 c12 c13 c14
        go_cut [4] (fun s4 wx => s4 = .string (s ++ (d ++ ⟨#[100]⟩)) ∧ wx.cell? ⟨wr.heap.size, 0, none⟩ = some (.string ⟨#[100]⟩) ∧ wx.cell? ⟨wr.heap.size, 1, none⟩ = some (.int .i64 86400000) ∧ wr.heap.size < wx.heap.size ∧ w.heap.size ≤ wx.heap.size ∧ Below w.heap.size w wx)
        case first =>
          go_region_held3 (fun w' => w'.cell? ⟨wr.heap.size, 0, none⟩ = some (.string ⟨#[100]⟩) ∧ w'.cell? ⟨wr.heap.size, 1, none⟩ = some (.int .i64 86400000) ∧ wr.heap.size < w'.heap.size ∧ w.heap.size ≤ w'.heap.size ∧ Below w.heap.size w w') (first | assumption | exact hold2_drew hs0 | exact hold2 (hold2_drew hs0) (by assumption)) (first
            | (go_at_call 28; go_fit (D.out _ (TabD.drew TA.out)); rintro e w2 ⟨rfl, hb2⟩)
            | fail)
          go_wp2_with fail
          go_meet
          refine ⟨rfl, ?_⟩
          assumption
        case rest =>
          obtain ⟨rfl, k0, k1, _, _, hb2⟩ := hcut
          have B2 := Lib.hid hb2
          clear hb2 hs0 k0
          go_wp2_with fail
          go_roundw
          case rel => exact ⟨0 + 1, r, pre ++ decN q ++ nameU 0, _, by omega, by simp [limJ]; try omega, by rw [HS.out, HD.out, show (⟨#[100]⟩ : ByteArray) = ⟨(nameU 0).toArray⟩ from rfl, app_strD, app_strD, List.append_assoc], HJ.out, HP.out, by go_num, rfl, by go_num, B2.out⟩
          case measure => simp [RowKit.intOf]
      · have h0i : ¬ (0 : Int) < (q : Int) := by omega
        have HJ := Lib.hid (show showJ 5 n = pre ++ showJ (5 - (0 + 1)) r by rw [HE.out, hstep, if_neg h0])
        clear hq hr hstep hdl h0 hql hnm
        go_wp2_with fail
        go_roundw
        case rel => exact ⟨0 + 1, r, pre, _, by omega, by simp [limJ]; try omega, HS.out, HJ.out, by omega, by go_num, rfl, by go_num, BA.out⟩
        case measure => simp [RowKit.intOf]
    · have hxl : (0 : Int) ≤ x ∧ (x : Int) ≤ 1125900086400000 := by omega
      obtain ⟨q, hq⟩ : ∃ q, q = x / 3600000 := ⟨_, rfl⟩
      obtain ⟨r, hr⟩ : ∃ r, r = x % 3600000 := ⟨_, rfl⟩
      have hrl : r < 3600000 := by omega
      have hstep : showJ (5 - 1) x = if 0 < q then decN q ++ (nameU 1 ++ showJ 3 r) else showJ 3 r := by rw [hq, hr]; rfl
      have hq0 : (x : Int) / 3600000 = (q : Int) := by omega
      have hr0 : (x : Int) % 3600000 = (r : Int) := by omega
      have hql : q ≤ 1125900086400000 := by omega
      have BA := Lib.hid (HB.out.alloc HB.out.size (Obj.cells #[.string ⟨#[104]⟩, .int .i64 3600000, .int .i64 23] 40))
      have TA := Lib.hid (HT1.out.below ((Below.refl wr.heap.size wr).alloc (Nat.le_refl _) (Obj.cells #[.string ⟨#[104]⟩, .int .i64 3600000, .int .i64 23] 40)))
      have hdl := decN_len 17 q (by rw [show (10 : Nat) ^ (17 + 1) = 1000000000000000000 by decide]; omega)
      have hnm : (nameU 1).length ≤ 2 := by decide
      have ix := units_ix1
      by_cases h0 : 0 < q
      · have h0i : (0 : Int) < (q : Int) := by omega
        have HJ := Lib.hid (show showJ 5 n = (pre ++ decN q ++ nameU 1) ++ showJ (5 - (1 + 1)) r by rw [HE.out, hstep, if_pos h0, List.append_assoc, List.append_assoc])
        have HP := Lib.hid (show (pre ++ decN q ++ nameU 1).length ≤ 20 * (1 + 1) by rw [List.length_append, List.length_append]; omega)
        obtain ⟨d, hd⟩ : ∃ d : ByteArray, d = ⟨(decN q).toArray⟩ := ⟨_, rfl⟩
        have hdz : d.size ≤ 18 := by rw [hd]; exact hdl
        have D := Lib.hid (fun w hT => itoa_any q (by omega) w hT)
        rw [← hd] at D
        have HD := Lib.hid hd
        have nz : (⟨#[104]⟩ : ByteArray).size ≤ 2 := by decide
        have hs0 : (wr.alloc (Obj.cells #[.string ⟨#[104]⟩, .int .i64 3600000, .int .i64 23] 40)).cell? ⟨wr.heap.size, 0, none⟩ = some (.string ⟨#[104]⟩) ∧ (wr.alloc (Obj.cells #[.string ⟨#[104]⟩, .int .i64 3600000, .int .i64 23] 40)).cell? ⟨wr.heap.size, 1, none⟩ = some (.int .i64 3600000) ∧ wr.heap.size < (wr.alloc (Obj.cells #[.string ⟨#[104]⟩, .int .i64 3600000, .int .i64 23] 40)).heap.size ∧ w.heap.size ≤ (wr.alloc (Obj.cells #[.string ⟨#[104]⟩, .int .i64 3600000, .int .i64 23] 40)).heap.size ∧ Below w.heap.size w (wr.alloc (Obj.cells #[.string ⟨#[104]⟩, .int .i64 3600000, .int .i64 23] 40)) :=
          ⟨by simp [World.cell?_alloc_new], by simp [World.cell?_alloc_new], by simp, BA.out.size, BA.out⟩
        have hc1 := fun w => run_string_add_sum (P := Tryd.prog) w d ⟨#[104]⟩ (by omega)
        have hc2 := fun w => run_string_add_sum (P := Tryd.prog) w s (d ++ ⟨#[104]⟩) (by rw [ByteArray.size_append]; omega)
        clear hq hr hstep hd hdl h0 hql hnm
        go_upto_region 10 with fail
        obtain ⟨wn, hwn⟩ : ∃ wn, wn = wr.alloc (Obj.cells #[.string ⟨#[104]⟩, .int .i64 3600000, .int .i64 23] 40) := ⟨_, rfl⟩
        rw [← hwn] at hs0 TA ⊢
        clear hwn ix c0 c1 c2 c3 c4 c5 c6 c7 c8 c9 c10 c11 c12 c13 c14
        go_cut [4] (fun s4 wx => s4 = .string (s ++ (d ++ ⟨#[104]⟩)) ∧ wx.cell? ⟨wr.heap.size, 0, none⟩ = some (.string ⟨#[104]⟩) ∧ wx.cell? ⟨wr.heap.size, 1, none⟩ = some (.int .i64 3600000) ∧ wr.heap.size < wx.heap.size ∧ w.heap.size ≤ wx.heap.size ∧ Below w.heap.size w wx)
        case first =>
          go_region_held3 (fun w' => w'.cell? ⟨wr.heap.size, 0, none⟩ = some (.string ⟨#[104]⟩) ∧ w'.cell? ⟨wr.heap.size, 1, none⟩ = some (.int .i64 3600000) ∧ wr.heap.size < w'.heap.size ∧ w.heap.size ≤ w'.heap.size ∧ Below w.heap.size w w') (first | assumption | exact hold2_drew hs0 | exact hold2 (hold2_drew hs0) (by assumption)) (first
            | (go_at_call 28; go_fit (D.out _ (TabD.drew TA.out)); rintro e w2 ⟨rfl, hb2⟩)
            | fail)
          go_wp2_with fail
          go_meet
          refine ⟨rfl, ?_⟩
          assumption
        case rest =>
          obtain ⟨rfl, k0, k1, _, _, hb2⟩ := hcut
          have B2 := Lib.hid hb2
          clear hb2 hs0 k0
          go_wp2_with fail
          go_roundw
          case rel => exact ⟨1 + 1, r, pre ++ decN q ++ nameU 1, _, by omega, by simp [limJ]; try omega, by rw [HS.out, HD.out, show (⟨#[104]⟩ : ByteArray) = ⟨(nameU 1).toArray⟩ from rfl, app_strD, app_strD, List.append_assoc], HJ.out, HP.out, by go_num, rfl, by go_num, B2.out⟩
          case measure => simp [RowKit.intOf]
      · have h0i : ¬ (0 : Int) < (q : Int) := by omega
        have HJ := Lib.hid (show showJ 5 n = pre ++ showJ (5 - (1 + 1)) r by rw [HE.out, hstep, if_neg h0])
        clear hq hr hstep hdl h0 hql hnm
        go_wp2_with fail
        go_roundw
        case rel => exact ⟨1 + 1, r, pre, _, by omega, by simp [limJ]; try omega, HS.out, HJ.out, by omega, by go_num, rfl, by go_num, BA.out⟩
        case measure => simp [RowKit.intOf]
    · have hxl : (0 : Int) ≤ x ∧ (x : Int) ≤ 1125900086400000 := by omega
      obtain ⟨q, hq⟩ : ∃ q, q = x / 60000 := ⟨_, rfl⟩
      obtain ⟨r, hr⟩ : ∃ r, r = x % 60000 := ⟨_, rfl⟩
      have hrl : r < 60000 := by omega
      have hstep : showJ (5 - 2) x = if 0 < q then decN q ++ (nameU 2 ++ showJ 2 r) else showJ 2 r := by rw [hq, hr]; rfl
      have hq0 : (x : Int) / 60000 = (q : Int) := by omega
      have hr0 : (x : Int) % 60000 = (r : Int) := by omega
      have hql : q ≤ 1125900086400000 := by omega
      have BA := Lib.hid (HB.out.alloc HB.out.size (Obj.cells #[.string ⟨#[109]⟩, .int .i64 60000, .int .i64 59] 40))
      have TA := Lib.hid (HT1.out.below ((Below.refl wr.heap.size wr).alloc (Nat.le_refl _) (Obj.cells #[.string ⟨#[109]⟩, .int .i64 60000, .int .i64 59] 40)))
      have hdl := decN_len 17 q (by rw [show (10 : Nat) ^ (17 + 1) = 1000000000000000000 by decide]; omega)
      have hnm : (nameU 2).length ≤ 2 := by decide
      have ix := units_ix2
      by_cases h0 : 0 < q
      · have h0i : (0 : Int) < (q : Int) := by omega
        have HJ := Lib.hid (show showJ 5 n = (pre ++ decN q ++ nameU 2) ++ showJ (5 - (2 + 1)) r by rw [HE.out, hstep, if_pos h0, List.append_assoc, List.append_assoc])
        have HP := Lib.hid (show (pre ++ decN q ++ nameU 2).length ≤ 20 * (2 + 1) by rw [List.length_append, List.length_append]; omega)
        obtain ⟨d, hd⟩ : ∃ d : ByteArray, d = ⟨(decN q).toArray⟩ := ⟨_, rfl⟩
        have hdz : d.size ≤ 18 := by rw [hd]; exact hdl
        have D := Lib.hid (fun w hT => itoa_any q (by omega) w hT)
        rw [← hd] at D
        have HD := Lib.hid hd
        have nz : (⟨#[109]⟩ : ByteArray).size ≤ 2 := by decide
        have hs0 : (wr.alloc (Obj.cells #[.string ⟨#[109]⟩, .int .i64 60000, .int .i64 59] 40)).cell? ⟨wr.heap.size, 0, none⟩ = some (.string ⟨#[109]⟩) ∧ (wr.alloc (Obj.cells #[.string ⟨#[109]⟩, .int .i64 60000, .int .i64 59] 40)).cell? ⟨wr.heap.size, 1, none⟩ = some (.int .i64 60000) ∧ wr.heap.size < (wr.alloc (Obj.cells #[.string ⟨#[109]⟩, .int .i64 60000, .int .i64 59] 40)).heap.size ∧ w.heap.size ≤ (wr.alloc (Obj.cells #[.string ⟨#[109]⟩, .int .i64 60000, .int .i64 59] 40)).heap.size ∧ Below w.heap.size w (wr.alloc (Obj.cells #[.string ⟨#[109]⟩, .int .i64 60000, .int .i64 59] 40)) :=
          ⟨by simp [World.cell?_alloc_new], by simp [World.cell?_alloc_new], by simp, BA.out.size, BA.out⟩
        have hc1 := fun w => run_string_add_sum (P := Tryd.prog) w d ⟨#[109]⟩ (by omega)
        have hc2 := fun w => run_string_add_sum (P := Tryd.prog) w s (d ++ ⟨#[109]⟩) (by rw [ByteArray.size_append]; omega)
        clear hq hr hstep hd hdl h0 hql hnm
        go_upto_region 10 with fail
        obtain ⟨wn, hwn⟩ : ∃ wn, wn = wr.alloc (Obj.cells #[.string ⟨#[109]⟩, .int .i64 60000, .int .i64 59] 40) := ⟨_, rfl⟩
        rw [← hwn] at hs0 TA ⊢
        clear hwn ix c0 c1 c2 c3 c4 c5 c6 c7 c8 c9 c10 c11 c12 c13 c14
        go_cut [4] (fun s4 wx => s4 = .string (s ++ (d ++ ⟨#[109]⟩)) ∧ wx.cell? ⟨wr.heap.size, 0, none⟩ = some (.string ⟨#[109]⟩) ∧ wx.cell? ⟨wr.heap.size, 1, none⟩ = some (.int .i64 60000) ∧ wr.heap.size < wx.heap.size ∧ w.heap.size ≤ wx.heap.size ∧ Below w.heap.size w wx)
        case first =>
          go_region_held3 (fun w' => w'.cell? ⟨wr.heap.size, 0, none⟩ = some (.string ⟨#[109]⟩) ∧ w'.cell? ⟨wr.heap.size, 1, none⟩ = some (.int .i64 60000) ∧ wr.heap.size < w'.heap.size ∧ w.heap.size ≤ w'.heap.size ∧ Below w.heap.size w w') (first | assumption | exact hold2_drew hs0 | exact hold2 (hold2_drew hs0) (by assumption)) (first
            | (go_at_call 28; go_fit (D.out _ (TabD.drew TA.out)); rintro e w2 ⟨rfl, hb2⟩)
            | fail)
          go_wp2_with fail
          go_meet
          refine ⟨rfl, ?_⟩
          assumption
        case rest =>
          obtain ⟨rfl, k0, k1, _, _, hb2⟩ := hcut
          have B2 := Lib.hid hb2
          clear hb2 hs0 k0
          go_wp2_with fail
          go_roundw
          case rel => exact ⟨2 + 1, r, pre ++ decN q ++ nameU 2, _, by omega, by simp [limJ]; try omega, by rw [HS.out, HD.out, show (⟨#[109]⟩ : ByteArray) = ⟨(nameU 2).toArray⟩ from rfl, app_strD, app_strD, List.append_assoc], HJ.out, HP.out, by go_num, rfl, by go_num, B2.out⟩
          case measure => simp [RowKit.intOf]
      · have h0i : ¬ (0 : Int) < (q : Int) := by omega
        have HJ := Lib.hid (show showJ 5 n = pre ++ showJ (5 - (2 + 1)) r by rw [HE.out, hstep, if_neg h0])
        clear hq hr hstep hdl h0 hql hnm
        go_wp2_with fail
        go_roundw
        case rel => exact ⟨2 + 1, r, pre, _, by omega, by simp [limJ]; try omega, HS.out, HJ.out, by omega, by go_num, rfl, by go_num, BA.out⟩
        case measure => simp [RowKit.intOf]
    · have hxl : (0 : Int) ≤ x ∧ (x : Int) ≤ 1125900086400000 := by omega
      obtain ⟨q, hq⟩ : ∃ q, q = x / 1000 := ⟨_, rfl⟩
      obtain ⟨r, hr⟩ : ∃ r, r = x % 1000 := ⟨_, rfl⟩
      have hrl : r < 1000 := by omega
      have hstep : showJ (5 - 3) x = if 0 < q then decN q ++ (nameU 3 ++ showJ 1 r) else showJ 1 r := by rw [hq, hr]; rfl
      have hq0 : (x : Int) / 1000 = (q : Int) := by omega
      have hr0 : (x : Int) % 1000 = (r : Int) := by omega
      have hql : q ≤ 1125900086400000 := by omega
      have BA := Lib.hid (HB.out.alloc HB.out.size (Obj.cells #[.string ⟨#[115]⟩, .int .i64 1000, .int .i64 59] 40))
      have TA := Lib.hid (HT1.out.below ((Below.refl wr.heap.size wr).alloc (Nat.le_refl _) (Obj.cells #[.string ⟨#[115]⟩, .int .i64 1000, .int .i64 59] 40)))
      have hdl := decN_len 17 q (by rw [show (10 : Nat) ^ (17 + 1) = 1000000000000000000 by decide]; omega)
      have hnm : (nameU 3).length ≤ 2 := by decide
      have ix := units_ix3
      by_cases h0 : 0 < q
      · have h0i : (0 : Int) < (q : Int) := by omega
        have HJ := Lib.hid (show showJ 5 n = (pre ++ decN q ++ nameU 3) ++ showJ (5 - (3 + 1)) r by rw [HE.out, hstep, if_pos h0, List.append_assoc, List.append_assoc])
        have HP := Lib.hid (show (pre ++ decN q ++ nameU 3).length ≤ 20 * (3 + 1) by rw [List.length_append, List.length_append]; omega)
        obtain ⟨d, hd⟩ : ∃ d : ByteArray, d = ⟨(decN q).toArray⟩ := ⟨_, rfl⟩
        have hdz : d.size ≤ 18 := by rw [hd]; exact hdl
        have D := Lib.hid (fun w hT => itoa_any q (by omega) w hT)
        rw [← hd] at D
        have HD := Lib.hid hd
        have nz : (⟨#[115]⟩ : ByteArray).size ≤ 2 := by decide
        have hs0 : (wr.alloc (Obj.cells #[.string ⟨#[115]⟩, .int .i64 1000, .int .i64 59] 40)).cell? ⟨wr.heap.size, 0, none⟩ = some (.string ⟨#[115]⟩) ∧ (wr.alloc (Obj.cells #[.string ⟨#[115]⟩, .int .i64 1000, .int .i64 59] 40)).cell? ⟨wr.heap.size, 1, none⟩ = some (.int .i64 1000) ∧ wr.heap.size < (wr.alloc (Obj.cells #[.string ⟨#[115]⟩, .int .i64 1000, .int .i64 59] 40)).heap.size ∧ w.heap.size ≤ (wr.alloc (Obj.cells #[.string ⟨#[115]⟩, .int .i64 1000, .int .i64 59] 40)).heap.size ∧ Below w.heap.size w (wr.alloc (Obj.cells #[.string ⟨#[115]⟩, .int .i64 1000, .int .i64 59] 40)) :=
          ⟨by simp [World.cell?_alloc_new], by simp [World.cell?_alloc_new], by simp, BA.out.size, BA.out⟩
        have hc1 := fun w => run_string_add_sum (P := Tryd.prog) w d ⟨#[115]⟩ (by omega)
        have hc2 := fun w => run_string_add_sum (P := Tryd.prog) w s (d ++ ⟨#[115]⟩) (by rw [ByteArray.size_append]; omega)
        clear hq hr hstep hd hdl h0 hql hnm
        go_upto_region 10 with fail
        obtain ⟨wn, hwn⟩ : ∃ wn, wn = wr.alloc (Obj.cells #[.string ⟨#[115]⟩, .int .i64 1000, .int .i64 59] 40) := ⟨_, rfl⟩
        rw [← hwn] at hs0 TA ⊢
        clear hwn ix c0 c1 c2 c3 c4 c5 c6 c7 c8 c9 c10 c11 c12 c13 c14
        go_cut [4] (fun s4 wx => s4 = .string (s ++ (d ++ ⟨#[115]⟩)) ∧ wx.cell? ⟨wr.heap.size, 0, none⟩ = some (.string ⟨#[115]⟩) ∧ wx.cell? ⟨wr.heap.size, 1, none⟩ = some (.int .i64 1000) ∧ wr.heap.size < wx.heap.size ∧ w.heap.size ≤ wx.heap.size ∧ Below w.heap.size w wx)
        case first =>
          go_region_held3 (fun w' => w'.cell? ⟨wr.heap.size, 0, none⟩ = some (.string ⟨#[115]⟩) ∧ w'.cell? ⟨wr.heap.size, 1, none⟩ = some (.int .i64 1000) ∧ wr.heap.size < w'.heap.size ∧ w.heap.size ≤ w'.heap.size ∧ Below w.heap.size w w') (first | assumption | exact hold2_drew hs0 | exact hold2 (hold2_drew hs0) (by assumption)) (first
            | (go_at_call 28; go_fit (D.out _ (TabD.drew TA.out)); rintro e w2 ⟨rfl, hb2⟩)
            | fail)
          go_wp2_with fail
          go_meet
          refine ⟨rfl, ?_⟩
          assumption
        case rest =>
          obtain ⟨rfl, k0, k1, _, _, hb2⟩ := hcut
          have B2 := Lib.hid hb2
          clear hb2 hs0 k0
          go_wp2_with fail
          go_roundw
          case rel => exact ⟨3 + 1, r, pre ++ decN q ++ nameU 3, _, by omega, by simp [limJ]; try omega, by rw [HS.out, HD.out, show (⟨#[115]⟩ : ByteArray) = ⟨(nameU 3).toArray⟩ from rfl, app_strD, app_strD, List.append_assoc], HJ.out, HP.out, by go_num, rfl, by go_num, B2.out⟩
          case measure => simp [RowKit.intOf]
      · have h0i : ¬ (0 : Int) < (q : Int) := by omega
        have HJ := Lib.hid (show showJ 5 n = pre ++ showJ (5 - (3 + 1)) r by rw [HE.out, hstep, if_neg h0])
        clear hq hr hstep hdl h0 hql hnm
        go_wp2_with fail
        go_roundw
        case rel => exact ⟨3 + 1, r, pre, _, by omega, by simp [limJ]; try omega, HS.out, HJ.out, by omega, by go_num, rfl, by go_num, BA.out⟩
        case measure => simp [RowKit.intOf]
    · have hxl : (0 : Int) ≤ x ∧ (x : Int) ≤ 1125900086400000 := by omega
      obtain ⟨q, hq⟩ : ∃ q, q = x := ⟨_, rfl⟩
      have hstep : showJ (5 - 4) x = if 0 < q then decN q ++ (nameU 4 ++ showJ 0 0) else showJ 0 0 := by rw [hq]; show (if 0 < x / 1 then decN (x / 1) ++ (nameU 4 ++ showJ 0 (x % 1)) else showJ 0 (x % 1)) = _; rw [Nat.div_one, Nat.mod_one]
      subst hq
      have hql : q ≤ 1125900086400000 := by omega
      have BA := Lib.hid (HB.out.alloc HB.out.size (Obj.cells #[.string ⟨#[109, 115]⟩, .int .i64 1, .int .i64 999] 40))
      have TA := Lib.hid (HT1.out.below ((Below.refl wr.heap.size wr).alloc (Nat.le_refl _) (Obj.cells #[.string ⟨#[109, 115]⟩, .int .i64 1, .int .i64 999] 40)))
      have hdl := decN_len 17 q (by rw [show (10 : Nat) ^ (17 + 1) = 1000000000000000000 by decide]; omega)
      have hnm : (nameU 4).length ≤ 2 := by decide
      have ix := units_ix4
      by_cases h0 : 0 < q
      · have h0i : (0 : Int) < (q : Int) := by omega
        have HJ := Lib.hid (show showJ 5 n = (pre ++ decN q ++ nameU 4) ++ showJ (5 - (4 + 1)) 0 by rw [HE.out, hstep, if_pos h0, List.append_assoc, List.append_assoc])
        have HP := Lib.hid (show (pre ++ decN q ++ nameU 4).length ≤ 20 * (4 + 1) by rw [List.length_append, List.length_append]; omega)
        obtain ⟨d, hd⟩ : ∃ d : ByteArray, d = ⟨(decN q).toArray⟩ := ⟨_, rfl⟩
        have hdz : d.size ≤ 18 := by rw [hd]; exact hdl
        have D := Lib.hid (fun w hT => itoa_any q (by omega) w hT)
        rw [← hd] at D
        have HD := Lib.hid hd
        have nz : (⟨#[109, 115]⟩ : ByteArray).size ≤ 2 := by decide
        have hs0 : (wr.alloc (Obj.cells #[.string ⟨#[109, 115]⟩, .int .i64 1, .int .i64 999] 40)).cell? ⟨wr.heap.size, 0, none⟩ = some (.string ⟨#[109, 115]⟩) ∧ (wr.alloc (Obj.cells #[.string ⟨#[109, 115]⟩, .int .i64 1, .int .i64 999] 40)).cell? ⟨wr.heap.size, 1, none⟩ = some (.int .i64 1) ∧ wr.heap.size < (wr.alloc (Obj.cells #[.string ⟨#[109, 115]⟩, .int .i64 1, .int .i64 999] 40)).heap.size ∧ w.heap.size ≤ (wr.alloc (Obj.cells #[.string ⟨#[109, 115]⟩, .int .i64 1, .int .i64 999] 40)).heap.size ∧ Below w.heap.size w (wr.alloc (Obj.cells #[.string ⟨#[109, 115]⟩, .int .i64 1, .int .i64 999] 40)) :=
          ⟨by simp [World.cell?_alloc_new], by simp [World.cell?_alloc_new], by simp, BA.out.size, BA.out⟩
        have hc1 := fun w => run_string_add_sum (P := Tryd.prog) w d ⟨#[109, 115]⟩ (by omega)
        have hc2 := fun w => run_string_add_sum (P := Tryd.prog) w s (d ++ ⟨#[109, 115]⟩) (by rw [ByteArray.size_append]; omega)
        clear hstep hd hdl h0 hql hnm
        go_upto_region 10 with fail
        obtain ⟨wn, hwn⟩ : ∃ wn, wn = wr.alloc (Obj.cells #[.string ⟨#[109, 115]⟩, .int .i64 1, .int .i64 999] 40) := ⟨_, rfl⟩
        rw [← hwn] at hs0 TA ⊢
        clear hwn ix c0 c1 c2 c3 c4 c5 c6 c7 c8 c9 c10 c11 c12 c13 c14
        go_cut [4] (fun s4 wx => s4 = .string (s ++ (d ++ ⟨#[109, 115]⟩)) ∧ wx.cell? ⟨wr.heap.size, 0, none⟩ = some (.string ⟨#[109, 115]⟩) ∧ wx.cell? ⟨wr.heap.size, 1, none⟩ = some (.int .i64 1) ∧ wr.heap.size < wx.heap.size ∧ w.heap.size ≤ wx.heap.size ∧ Below w.heap.size w wx)
        case first =>
          go_region_held3 (fun w' => w'.cell? ⟨wr.heap.size, 0, none⟩ = some (.string ⟨#[109, 115]⟩) ∧ w'.cell? ⟨wr.heap.size, 1, none⟩ = some (.int .i64 1) ∧ wr.heap.size < w'.heap.size ∧ w.heap.size ≤ w'.heap.size ∧ Below w.heap.size w w') (first | assumption | exact hold2_drew hs0 | exact hold2 (hold2_drew hs0) (by assumption)) (first
            | (go_at_call 28; go_fit (D.out _ (TabD.drew TA.out)); rintro e w2 ⟨rfl, hb2⟩)
            | fail)
          go_wp2_with fail
          go_meet
          refine ⟨rfl, ?_⟩
          assumption
        case rest =>
          obtain ⟨rfl, k0, k1, _, _, hb2⟩ := hcut
          have B2 := Lib.hid hb2
          clear hb2 hs0 k0
          go_wp2_with fail
          go_roundw
          case rel => exact ⟨4 + 1, 0, pre ++ decN q ++ nameU 4, _, by omega, by simp [limJ]; try omega, by rw [HS.out, HD.out, show (⟨#[109, 115]⟩ : ByteArray) = ⟨(nameU 4).toArray⟩ from rfl, app_strD, app_strD, List.append_assoc], HJ.out, HP.out, by go_num, rfl, by go_num, B2.out⟩
          case measure => simp [RowKit.intOf]
      · have h0i : ¬ (0 : Int) < (q : Int) := by omega
        have HJ := Lib.hid (show showJ 5 n = pre ++ showJ (5 - (4 + 1)) 0 by rw [HE.out, hstep, if_neg h0])
        clear hstep hdl h0 hql hnm
        go_wp2_with fail
        go_roundw
        case rel => exact ⟨4 + 1, 0, pre, _, by omega, by simp [limJ]; try omega, HS.out, HJ.out, by omega, by go_num, rfl, by go_num, BA.out⟩
        case measure => simp [RowKit.intOf]
end Go.Proofs.YtaalfnfikjmomaaDoor
