/- The contract of the document's Read (label). -/
import Derived.Test.YtglckcenjnieaaaGreatDoorLdF
namespace Go.Proofs.YtglckcenjnieaaaGreatDoor
open Go.RowKit Go.Lib

theorem ThrL.froz {w : World} {b : Nat} {t : TypeId} {x y z : Value} (h : ThrL w b t x y z) : w.frozen? ⟨b, 0, none⟩ = false ∧ w.frozen? ⟨b, 1, none⟩ = false ∧ w.frozen? ⟨b, 2, none⟩ = false := by
  have h := h.blk
  refine ⟨?_, ?_, ?_⟩ <;> simp [World.frozen?, h]
set_option maxHeartbeats 4000000 in
set_option maxRecDepth 100000 in
theorem read_any (s : ByteArray) (hs : s.size ≤ 1000000000) (w : World) :
    Calls Tryz.prog 28 #[.string s] w fun e w' => e = .returned (ofD (readD s.data.toList)) ∧ Below w.heap.size w w' := by
  have HSL := Lib.hid (show s.data.toList.length = s.size from Array.length_toList)
  have B0 := Lib.hid ((Below.refl w.heap.size w).alloc (Nat.le_refl _) (.cells #[.int .i64 0, .string ⟨#[]⟩, .int .i64 0] 36))
  have T0 := Lib.hid (ThrL.new w 36 (.int .i64 0) (.string ⟨#[]⟩) (.int .i64 0))
  by_cases hb : s.data.toList.head? = some 33
  · have h0 : 0 < s.size := by
      cases hl : s.data.toList with
      | nil => rw [hl] at hb; cases hb
      | cons x r => rw [← HSL.out, hl]; simp
    have g0 : (0 : Int) < (s.size : Int) := by omega
    have gb : (((s[0].toNat : Nat) : Int) == 33) = true := by
      rw [List.head?_eq_getElem?, List.getElem?_eq_getElem (by rw [HSL.out]; exact h0)] at hb
      injection hb with hb
      have : s[0] = 33 := hb
      rw [this]; rfl
    have sl := fun w => sliceL_from s 1 1 rfl (by omega) w
    obtain ⟨x, hx⟩ : ∃ x : ByteArray, x = ⟨(s.data.toList.drop 1).toArray⟩ := ⟨_, rfl⟩
    have hxs : x.size ≤ 1099511627776 := by rw [hx]; show (s.data.toList.drop 1).toArray.size ≤ _; simp; omega
    have hxa : x.data.toList = s.data.toList.drop 1 := by rw [hx]
    rw [← hx] at sl
    have N := Lib.hid (fun w => refName_any x (by omega) w)
    rw [hxa] at N
    have HR := Lib.hid (show readD s.data.toList = if nameB (s.data.toList.drop 1) = true then (2, s.data.toList.drop 1, 0) else (0, [], 0) by unfold readD; rw [if_pos hb])
    have HX := Lib.hid hx
    clear hb hx hxa
    cases hn : nameB (s.data.toList.drop 1)
    · rw [hn] at N HR
      clear hn
      go_enter Tryz.func28, Tryz.ntmps28
      go_wp2_with fail
      go_fit (N.out _)
      rintro e w1 ⟨rfl, rfl⟩
      go_wp2_with fail
      refine bodyPost_ret (v := .agg #[.int .i64 0, .string ⟨#[]⟩, .int .i64 0]) ?_ rfl ⟨by rw [HR.out]; rfl, ?_⟩
      · rw [results_cellL rfl]
        go_simp
      · exact B0.out
    · rw [hn] at N HR
      clear hn
      go_enter Tryz.func28, Tryz.ntmps28
      go_wp2_with fail
      go_fit (N.out _)
      rintro e w1 ⟨rfl, rfl⟩
      go_wp2_with fail
      refine bodyPost_ret (v := .agg #[.int .i64 2, .string x, .int .i64 0]) ?_ rfl ⟨by rw [HR.out, HX.out]; rfl, ?_⟩
      · rw [results_cellL rfl]
        go_simp
      · exact (Below.refl _ _).alloc (Nat.le_refl _) _
  · have HB := Lib.hid (show readD s.data.toList = if sufP s.data.toList = [] ∧ nameB (preP s.data.toList) = true then (1, preP s.data.toList, 0) else readS (preP s.data.toList) (sufP s.data.toList) by unfold readD; rw [if_neg hb])
    by_cases h0 : s.size = 0
    · obtain rfl : s = ⟨#[]⟩ := by
        obtain ⟨⟨x⟩⟩ := s
        have : x.length = 0 := h0
        rw [List.length_eq_zero_iff.1 this]
      have HR := Lib.hid (show readD (⟨#[]⟩ : ByteArray).data.toList = (0, [], 0) by decide)
      have N := Lib.hid (fun w => refName_any ⟨#[]⟩ (by decide) w)
      rw [show nameB (⟨#[]⟩ : ByteArray).data.toList = false from rfl] at N
      have S := Lib.hid (fun w => split_any ⟨#[]⟩ (by decide) w)
      rw [show (preP (⟨#[]⟩ : ByteArray).data.toList).toArray = #[] from rfl, show (sufP (⟨#[]⟩ : ByteArray).data.toList).toArray = #[] from rfl] at S
      clear hs HSL hb HB h0
      go_enter Tryz.func28, Tryz.ntmps28
      go_wp2_with fail
      go_fit (S.out _)
      rintro e w1 ⟨rfl, hb⟩
      have htw := T0.out.below hb
      have BE := Lib.hid (B0.out.trans (hb.mono (by simp)))
      obtain ⟨t0, t1, t2⟩ := htw.facts
      obtain ⟨z0, z1, z2⟩ := htw.froz
      clear hb htw
      go_wp2_with fail
      go_fit (N.out _)
      rintro e w2 ⟨rfl, rfl⟩
      go_wp2_with fail
      refine bodyPost_ret (v := .agg #[.int .i64 0, .string ⟨#[]⟩, .int .i64 0]) ?_ rfl ⟨by rw [HR.out]; rfl, ?_⟩
      · rw [results_cellL rfl]
        go_simp
      · exact ((BE.out.setCell (Nat.le_refl _) _).setCell (Nat.le_refl _) _).setCell (Nat.le_refl _) _
    · have hn0 : 0 < s.size := by omega
      have g0 : (0 : Int) < (s.size : Int) := by omega
      have gb : (((s[0].toNat : Nat) : Int) == 33) = false := by
        rw [beq_eq_false_iff_ne]
        intro e
        apply hb
        rw [List.head?_eq_getElem?, List.getElem?_eq_getElem (by rw [HSL.out]; exact hn0)]
        congr 1
        apply UInt8.toNat_inj.1
        show s[0].toNat = 33
        omega
      have hps := congrArg List.length (pre_suf s.data.toList)
      rw [List.length_append, HSL.out] at hps
      have S := Lib.hid (fun w => split_any s (by omega) w)
      generalize preP s.data.toList = P at *
      generalize sufP s.data.toList = R at *
      obtain ⟨X, hX⟩ : ∃ X : ByteArray, X = ⟨P.toArray⟩ := ⟨_, rfl⟩
      obtain ⟨Y, hY⟩ : ∃ Y : ByteArray, Y = ⟨R.toArray⟩ := ⟨_, rfl⟩
      have HXA := Lib.hid (show X.data.toList = P by rw [hX])
      have HYA := Lib.hid (show Y.data.toList = R by rw [hY])
      have HYL := Lib.hid (show Y.size = R.length by rw [hY]; show R.toArray.size = _; simp)
      have hXs : X.size ≤ 1099511627776 := by rw [hX]; show P.toArray.size ≤ _; simp; omega
      have hYs : Y.size ≤ 1099511627776 := by rw [HYL.out]; omega
      rw [← hX, ← hY] at S
      have N := Lib.hid (fun w => refName_any X (by omega) w)
      rw [HXA.out] at N
      have HXM := Lib.hid hX
      have HYM := Lib.hid hY
      clear hb hps hX hY
      go_enter Tryz.func28, Tryz.ntmps28
      go_wp2_with fail
      go_fit (S.out _)
      rintro e w1 ⟨rfl, hb⟩
      have htw := T0.out.below hb
      have BE := Lib.hid (B0.out.trans (hb.mono (by simp)))
      have TW := Lib.hid htw
      have zt := htw.lt
      clear hb htw
      by_cases hR : R = []
      · obtain rfl : Y = ⟨#[]⟩ := by rw [HYM.out, hR]
        obtain ⟨t0, t1, t2⟩ := TW.out.facts
        obtain ⟨z0, z1, z2⟩ := TW.out.froz
        cases hn : nameB P
        · have HV := Lib.hid (show readD s.data.toList = (0, [], 0) by rw [HB.out, hR, hn, if_neg (by simp), readS_nil])
          rw [hn] at N
          clear hn hR
          go_wp2_with fail
          go_fit (N.out _)
          rintro e w2 ⟨rfl, rfl⟩
          go_wp2_with fail
          refine bodyPost_ret (v := .agg #[.int .i64 0, .string ⟨#[]⟩, .int .i64 0]) ?_ rfl ⟨by rw [HV.out]; rfl, ?_⟩
          · rw [results_cellL rfl]
            go_simp
          · exact ((BE.out.setCell (Nat.le_refl _) _).setCell (Nat.le_refl _) _).setCell (Nat.le_refl _) _
        · have HV := Lib.hid (show readD s.data.toList = (1, P, 0) by rw [HB.out, hR, if_pos ⟨rfl, hn⟩])
          rw [hn] at N
          clear hn hR
          go_wp2_with fail
          go_fit (N.out _)
          rintro e w2 ⟨rfl, rfl⟩
          go_wp2_with fail
          refine bodyPost_ret (v := .agg #[.int .i64 1, .string X, .int .i64 0]) ?_ rfl ⟨by rw [HV.out, HXM.out]; rfl, ?_⟩
          · rw [results_cellL rfl]
            go_simp
          · exact ((BE.out.setCell (Nat.le_refl _) _).setCell (Nat.le_refl _) _).setCell (Nat.le_refl _) _
      · have HNE := Lib.hid hR
        have hne : Y.toList.isEmpty = false := by
          rw [Lib.toList_data, HYA.out]
          cases R with
          | nil => exact absurd rfl hR
          | cons a r => rfl
        have hn2 : ¬ Y.toList = [] := fun e => by rw [e] at hne; cases hne
        clear hR N
        by_cases k2 : 2 < Y.size
        · have g2 : (2 : Int) < (Y.size : Int) := by omega
          have sl := fun w => sliceL_to Y 2 2 rfl (by omega) w
          obtain ⟨Z, hZ⟩ : ∃ Z : ByteArray, Z = ⟨(Y.data.toList.take 2).toArray⟩ := ⟨_, rfl⟩
          have hZl : Z.toList = R.take 2 := by rw [Lib.toList_data, hZ, HYA.out]
          rw [← hZ] at sl
          clear hZ
          by_cases c1 : R.take 2 = [62, 61]
          · have q1 : (Z.toList == [62, 61]) = true := by rw [hZl, c1]; rfl
            have hRS : readS P R = partD 3 P (R.drop 2) := by
              unfold readS
              rw [if_pos ⟨by rw [← HYL.out]; exact k2, c1⟩]
            clear c1 hZl
            have sd := fun w => sliceL_from Y 2 2 rfl (by omega) w
            obtain ⟨D, hD⟩ : ∃ D : ByteArray, D = ⟨(Y.data.toList.drop 2).toArray⟩ := ⟨_, rfl⟩
            have hDs : D.size ≤ 1099511627776 := by rw [hD]; show (Y.data.toList.drop 2).toArray.size ≤ _; rw [HYA.out]; have hyl := HYL.out; simp; omega
            have hDa : D.data.toList = R.drop 2 := by rw [hD, HYA.out]
            rw [← hD] at sd
            obtain ⟨⟨f', a', n'⟩, hx⟩ : ∃ x, x = partD 3 P (R.drop 2) := ⟨_, rfl⟩
            have PT := fun w => part_any 3 X D hXs hDs w
            rw [HXA.out, hDa, ← hx] at PT
            dsimp only [ofD] at PT
            have PTH := Lib.hid PT
            have HV := Lib.hid (hRS.trans hx.symm)
            clear hD hDa hx PT hRS
            go_wp2_with fail
            go_fit (PTH.out _)
            rintro e w3 ⟨rfl, hb⟩
            have htw := TW.out.below hb
            have BE3 := Lib.hid (BE.out.trans (hb.mono BE.out.size))
            obtain ⟨t0, t1, t2⟩ := htw.facts
            obtain ⟨z0, z1, z2⟩ := htw.froz
            clear hb htw
            go_wp2_with fail
            refine bodyPost_ret (v := .agg #[.int .i64 f', .string ⟨a'.toArray⟩, .int .i64 n']) ?_ rfl ⟨by rw [HB.out, if_neg (fun e => HNE.out e.1), HV.out]; rfl, ?_⟩
            · rw [results_cellL rfl]
              go_simp
            · exact ((BE3.out.setCell (Nat.le_refl _) _).setCell (Nat.le_refl _) _).setCell (Nat.le_refl _) _
          · have q1 : (Z.toList == [62, 61]) = false := by rw [hZl, beq_eq_false_iff_ne]; exact c1
            by_cases c2 : R.take 2 = [60, 61]
            · have q2 : (Z.toList == [60, 61]) = true := by rw [hZl, c2]; rfl
              have hRS : readS P R = partD 4 P (R.drop 2) := by
                unfold readS
                rw [if_neg (fun e => c1 e.2), if_pos ⟨by rw [← HYL.out]; exact k2, c2⟩]
              clear c1 c2 hZl
              have sd := fun w => sliceL_from Y 2 2 rfl (by omega) w
              obtain ⟨D, hD⟩ : ∃ D : ByteArray, D = ⟨(Y.data.toList.drop 2).toArray⟩ := ⟨_, rfl⟩
              have hDs : D.size ≤ 1099511627776 := by rw [hD]; show (Y.data.toList.drop 2).toArray.size ≤ _; rw [HYA.out]; have hyl := HYL.out; simp; omega
              have hDa : D.data.toList = R.drop 2 := by rw [hD, HYA.out]
              rw [← hD] at sd
              obtain ⟨⟨f', a', n'⟩, hx⟩ : ∃ x, x = partD 4 P (R.drop 2) := ⟨_, rfl⟩
              have PT := fun w => part_any 4 X D hXs hDs w
              rw [HXA.out, hDa, ← hx] at PT
              dsimp only [ofD] at PT
              have PTH := Lib.hid PT
              have HV := Lib.hid (hRS.trans hx.symm)
              clear hD hDa hx PT hRS
              go_wp2_with fail
              go_fit (PTH.out _)
              rintro e w3 ⟨rfl, hb⟩
              have htw := TW.out.below hb
              have BE3 := Lib.hid (BE.out.trans (hb.mono BE.out.size))
              obtain ⟨t0, t1, t2⟩ := htw.facts
              obtain ⟨z0, z1, z2⟩ := htw.froz
              clear hb htw
              go_wp2_with fail
              refine bodyPost_ret (v := .agg #[.int .i64 f', .string ⟨a'.toArray⟩, .int .i64 n']) ?_ rfl ⟨by rw [HB.out, if_neg (fun e => HNE.out e.1), HV.out]; rfl, ?_⟩
              · rw [results_cellL rfl]
                go_simp
              · exact ((BE3.out.setCell (Nat.le_refl _) _).setCell (Nat.le_refl _) _).setCell (Nat.le_refl _) _
            · have q2 : (Z.toList == [60, 61]) = false := by rw [hZl, beq_eq_false_iff_ne]; exact c2
              by_cases k1 : 1 < Y.size
              · have g1 : (1 : Int) < (Y.size : Int) := by omega
                have gz : (0 : Int) < (Y.size : Int) := by omega
                have gn : 0 < Y.size := by omega
                by_cases h61 : R.head? = some 61
                · have u1 : (((Y[0].toNat : Nat) : Int) == 61) = true := by
                    rw [← HYA.out, List.head?_eq_getElem?, List.getElem?_eq_getElem (by rw [HYA.out, ← HYL.out]; exact gn)] at h61
                    injection h61 with h61
                    have : Y[0] = 61 := h61
                    rw [this]; rfl
                  have hRS : readS P R = partD 5 P (R.drop 1) := by
                    unfold readS
                    rw [if_neg (fun e => c1 e.2), if_neg (fun e => c2 e.2), if_pos ⟨by rw [← HYL.out]; exact k1, h61⟩]
                  clear h61 hZl c1 c2
                  have sd := fun w => sliceL_from Y 1 1 rfl (by omega) w
                  obtain ⟨D, hD⟩ : ∃ D : ByteArray, D = ⟨(Y.data.toList.drop 1).toArray⟩ := ⟨_, rfl⟩
                  have hDs : D.size ≤ 1099511627776 := by rw [hD]; show (Y.data.toList.drop 1).toArray.size ≤ _; rw [HYA.out]; have hyl := HYL.out; simp; omega
                  have hDa : D.data.toList = R.drop 1 := by rw [hD, HYA.out]
                  rw [← hD] at sd
                  obtain ⟨⟨f', a', n'⟩, hx⟩ : ∃ x, x = partD 5 P (R.drop 1) := ⟨_, rfl⟩
                  have PT := fun w => part_any 5 X D hXs hDs w
                  rw [HXA.out, hDa, ← hx] at PT
                  dsimp only [ofD] at PT
                  have PTH := Lib.hid PT
                  have HV := Lib.hid (hRS.trans hx.symm)
                  clear hD hDa hx PT hRS
                  go_wp2_with fail
                  go_fit (PTH.out _)
                  rintro e w3 ⟨rfl, hb⟩
                  have htw := TW.out.below hb
                  have BE3 := Lib.hid (BE.out.trans (hb.mono BE.out.size))
                  obtain ⟨t0, t1, t2⟩ := htw.facts
                  obtain ⟨z0, z1, z2⟩ := htw.froz
                  clear hb htw
                  go_wp2_with fail
                  refine bodyPost_ret (v := .agg #[.int .i64 f', .string ⟨a'.toArray⟩, .int .i64 n']) ?_ rfl ⟨by rw [HB.out, if_neg (fun e => HNE.out e.1), HV.out]; rfl, ?_⟩
                  · rw [results_cellL rfl]
                    go_simp
                  · exact ((BE3.out.setCell (Nat.le_refl _) _).setCell (Nat.le_refl _) _).setCell (Nat.le_refl _) _
                · have u1 : (((Y[0].toNat : Nat) : Int) == 61) = false := by
                    rw [beq_eq_false_iff_ne]
                    intro e
                    apply h61
                    rw [← HYA.out, List.head?_eq_getElem?, List.getElem?_eq_getElem (by rw [HYA.out, ← HYL.out]; exact gn)]
                    congr 1
                    apply UInt8.toNat_inj.1
                    show Y[0].toNat = 61
                    omega
                  have hRS : readS P R = (0, [], 0) := by
                    unfold readS
                    rw [if_neg (fun e => c1 e.2), if_neg (fun e => c2 e.2), if_neg (fun e => h61 e.2)]
                  clear h61 hZl c1 c2
                  have HV := Lib.hid hRS
                  clear hRS
                  obtain ⟨t0, t1, t2⟩ := TW.out.facts
                  obtain ⟨z0, z1, z2⟩ := TW.out.froz
                  go_wp2_with fail
                  refine bodyPost_ret (v := .agg #[.int .i64 0, .string ⟨#[]⟩, .int .i64 0]) ?_ rfl ⟨by rw [HB.out, if_neg (fun e => HNE.out e.1), HV.out]; rfl, ?_⟩
                  · rw [results_cellL rfl]
                    go_simp
                  · exact ((BE.out.setCell (Nat.le_refl _) _).setCell (Nat.le_refl _) _).setCell (Nat.le_refl _) _
              · exact absurd (show 1 < Y.size by omega) k1
        · have g2 : ¬ (2 : Int) < (Y.size : Int) := by omega
          by_cases k1 : 1 < Y.size
          · have g1 : (1 : Int) < (Y.size : Int) := by omega
            have gz : (0 : Int) < (Y.size : Int) := by omega
            have gn : 0 < Y.size := by omega
            by_cases h61 : R.head? = some 61
            · have u1 : (((Y[0].toNat : Nat) : Int) == 61) = true := by
                rw [← HYA.out, List.head?_eq_getElem?, List.getElem?_eq_getElem (by rw [HYA.out, ← HYL.out]; exact gn)] at h61
                injection h61 with h61
                have : Y[0] = 61 := h61
                rw [this]; rfl
              have hRS : readS P R = partD 5 P (R.drop 1) := by
                unfold readS
                rw [if_neg (fun e => k2 (by rw [HYL.out]; exact e.1)), if_neg (fun e => k2 (by rw [HYL.out]; exact e.1)), if_pos ⟨by rw [← HYL.out]; exact k1, h61⟩]
              clear h61
              have sd := fun w => sliceL_from Y 1 1 rfl (by omega) w
              obtain ⟨D, hD⟩ : ∃ D : ByteArray, D = ⟨(Y.data.toList.drop 1).toArray⟩ := ⟨_, rfl⟩
              have hDs : D.size ≤ 1099511627776 := by rw [hD]; show (Y.data.toList.drop 1).toArray.size ≤ _; rw [HYA.out]; have hyl := HYL.out; simp; omega
              have hDa : D.data.toList = R.drop 1 := by rw [hD, HYA.out]
              rw [← hD] at sd
              obtain ⟨⟨f', a', n'⟩, hx⟩ : ∃ x, x = partD 5 P (R.drop 1) := ⟨_, rfl⟩
              have PT := fun w => part_any 5 X D hXs hDs w
              rw [HXA.out, hDa, ← hx] at PT
              dsimp only [ofD] at PT
              have PTH := Lib.hid PT
              have HV := Lib.hid (hRS.trans hx.symm)
              clear hD hDa hx PT hRS
              go_wp2_with fail
              go_fit (PTH.out _)
              rintro e w3 ⟨rfl, hb⟩
              have htw := TW.out.below hb
              have BE3 := Lib.hid (BE.out.trans (hb.mono BE.out.size))
              obtain ⟨t0, t1, t2⟩ := htw.facts
              obtain ⟨z0, z1, z2⟩ := htw.froz
              clear hb htw
              go_wp2_with fail
              refine bodyPost_ret (v := .agg #[.int .i64 f', .string ⟨a'.toArray⟩, .int .i64 n']) ?_ rfl ⟨by rw [HB.out, if_neg (fun e => HNE.out e.1), HV.out]; rfl, ?_⟩
              · rw [results_cellL rfl]
                go_simp
              · exact ((BE3.out.setCell (Nat.le_refl _) _).setCell (Nat.le_refl _) _).setCell (Nat.le_refl _) _
            · have u1 : (((Y[0].toNat : Nat) : Int) == 61) = false := by
                rw [beq_eq_false_iff_ne]
                intro e
                apply h61
                rw [← HYA.out, List.head?_eq_getElem?, List.getElem?_eq_getElem (by rw [HYA.out, ← HYL.out]; exact gn)]
                congr 1
                apply UInt8.toNat_inj.1
                show Y[0].toNat = 61
                omega
              have hRS : readS P R = (0, [], 0) := by
                unfold readS
                rw [if_neg (fun e => k2 (by rw [HYL.out]; exact e.1)), if_neg (fun e => k2 (by rw [HYL.out]; exact e.1)), if_neg (fun e => h61 e.2)]
              clear h61
              have HV := Lib.hid hRS
              clear hRS
              obtain ⟨t0, t1, t2⟩ := TW.out.facts
              obtain ⟨z0, z1, z2⟩ := TW.out.froz
              go_wp2_with fail
              refine bodyPost_ret (v := .agg #[.int .i64 0, .string ⟨#[]⟩, .int .i64 0]) ?_ rfl ⟨by rw [HB.out, if_neg (fun e => HNE.out e.1), HV.out]; rfl, ?_⟩
              · rw [results_cellL rfl]
                go_simp
              · exact ((BE.out.setCell (Nat.le_refl _) _).setCell (Nat.le_refl _) _).setCell (Nat.le_refl _) _
          · have g1 : ¬ (1 : Int) < (Y.size : Int) := by omega
            have hRS : readS P R = (0, [], 0) := by
              unfold readS
              rw [if_neg (fun e => k2 (by rw [HYL.out]; exact e.1)), if_neg (fun e => k2 (by rw [HYL.out]; exact e.1)), if_neg (fun e => k1 (by rw [HYL.out]; exact e.1))]
            have HV := Lib.hid hRS
            clear hRS
            obtain ⟨t0, t1, t2⟩ := TW.out.facts
            obtain ⟨z0, z1, z2⟩ := TW.out.froz
            go_wp2_with fail
            refine bodyPost_ret (v := .agg #[.int .i64 0, .string ⟨#[]⟩, .int .i64 0]) ?_ rfl ⟨by rw [HB.out, if_neg (fun e => HNE.out e.1), HV.out]; rfl, ?_⟩
            · rw [results_cellL rfl]
              go_simp
            · exact ((BE.out.setCell (Nat.le_refl _) _).setCell (Nat.le_refl _) _).setCell (Nat.le_refl _) _
end Go.Proofs.YtglckcenjnieaaaGreatDoor
