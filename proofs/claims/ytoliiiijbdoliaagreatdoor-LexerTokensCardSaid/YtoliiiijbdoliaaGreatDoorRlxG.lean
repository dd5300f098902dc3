/- Contracts of the document's token, ignored, opened (pipelineref09). -/
import Derived.Test.YtoliiiijbdoliaaGreatDoorRlxF
namespace Go.Proofs.YtoliiiijbdoliaaGreatDoor
open Go.RowKit Go.Lib
set_option linter.unusedVariables false
set_option linter.unusedSimpArgs false

theorem tokA_num (c : UInt8) (r : List UInt8) (h : dgB c = true) : tokA (c :: r) = numA ((c :: r).takeWhile dgB) ((c :: r).takeWhile wrdB) c := by rw [tokA_cons, if_pos h]
set_option maxHeartbeats 8000000 in
set_option maxRecDepth 100000 in
theorem rToken_any (s : ByteArray) (k : Nat) (hk : k < s.size) (hs : s.size ≤ 1099511627776) (w : World) :
    Calls Tryz.prog 15 #[.string s, .int .i64 (k : Int)] w fun e w' => e = .returned (.tuple #[tkV (tokA (s.data.toList.drop k)).1 (tokA (s.data.toList.drop k)).2.1 0, .int .i64 ((tokA (s.data.toList.drop k)).2.2.1 : Nat), .int .i64 ((tokA (s.data.toList.drop k)).2.2.2 : Nat)]) ∧ Below w.heap.size w w' := by
  have hsI : (s.size : Int) ≤ 1099511627776 := by omega
  have hkI : (0 : Int) ≤ (k : Int) ∧ (k : Int) < (s.size : Int) := by omega
  have hcons := drop_consB s k hk
  have hl := lenB s
  have hix := fun w => ixS s (k : Int) k rfl hk w
  have DG := Lib.hid (fun w => rDigit_any s[k] w)
  have B0 := Lib.hid ((Below.refl w.heap.size w).alloc (Nat.le_refl _) (Obj.cells #[.int .i64 0, .string ⟨#[]⟩, .int .i64 0] 32))
  have T0 := Lib.hid (ThrAt.new w 32 (.int .i64 0) (.string ⟨#[]⟩) (.int .i64 0))
  cases hd : dgB s[k]
  · rw [hd] at DG
    have hA0 : tokA (s.data.toList.drop k) = if s[k] = 34 then strA (txtN ((s.data.toList.drop (k + 1)).length + 1) (s.data.toList.drop (k + 1)) [] 1) else if letB s[k] = true then namA ((s.data.toList.drop k).takeWhile wrdB) else opA (s.data.toList.drop k) := by
      rw [hcons, tokA_cons, if_neg (by rw [hd]; decide)]
    by_cases h34 : s[k] = 34
    · have TX := Lib.hid (fun w => rText_any s k hk hs w)
      rw [if_pos h34] at hA0
      rw [← hA0] at TX
      have q1 : ((s[k].toNat : Int) == 34) = true := by rw [h34]; rfl
      obtain ⟨A, hA⟩ : ∃ A, A = tokA (s.data.toList.drop k) := ⟨_, rfl⟩
      rw [← hA] at TX ⊢
      obtain ⟨tx, htx⟩ : ∃ tx : ByteArray, tx = ⟨A.2.1.toArray⟩ := ⟨_, rfl⟩
      unfold tkV at TX ⊢
      rw [← htx] at TX ⊢
      generalize s[k] = c at *
      clear hA hA0 hcons hl hd h34 htx
      go_enter Tryz.func15, Tryz.ntmps15
      go_wp2_with fail
      go_fit (DG.out _)
      rintro e wq ⟨rfl, rfl⟩
      go_wp2_with fail
      go_fit (TX.out _)
      rintro e w1 ⟨rfl, hb⟩
      have T1 := T0.out.below hb
      have B1 := Lib.hid (B0.out.trans (hb.mono (by simp)))
      have c0 := T1.cell0
      have c1 := T1.cell1
      have c2 := T1.cell2
      have f0 := T1.frozen 0
      have f1 := T1.frozen 1
      have f2 := T1.frozen 2
      clear hb
      go_wp2_with fail
      have Z := ((T1.set0 (.int .i64 A.1)).set1 (.string tx)).set2 (.int .i64 0)
      have z0 := Z.cell0
      have z1 := Z.cell1
      have z2 := Z.cell2
      (try simp only [Exit.inBlock, Exit.then])
      refine bodyPost_ret (v := .tuple #[.agg #[.int .i64 A.1, .string tx, .int .i64 0], .int .i64 (A.2.2.1 : Nat), .int .i64 (A.2.2.2 : Nat)]) ?_ rfl ⟨rfl, ?_⟩
      · rw [results_cell_tmp2 rfl]
        go_simp
      · exact ((B1.out.setCell (p := ⟨w.heap.size, 0, none⟩) (Nat.le_refl _) _).setCell (p := ⟨w.heap.size, 1, none⟩) (Nat.le_refl _) _).setCell (p := ⟨w.heap.size, 2, none⟩) (Nat.le_refl _) _
    · rw [if_neg h34] at hA0
      have q1 : ((s[k].toNat : Int) == 34) = false := by
        rw [beq_eq_false_iff_ne]
        intro e
        exact h34 (u8_of (n := 34) (by decide) (by omega))
      have WD := Lib.hid (fun w => rWord_any s k (by omega) hs w)
      have hwl := tw_le (p := wrdB) (s.data.toList.drop k)
      rw [List.length_drop, hl] at hwl
      have htk := tw_take wrdB (s.data.toList.drop k)
      have hwd : letB s[k] = true → 1 ≤ ((s.data.toList.drop k).takeWhile wrdB).length := fun h => by
        rw [hcons]
        exact tw_pos (p := wrdB) (by unfold wrdB; rw [h]; rfl)
      have hw0 : letB s[k] = false → ((s.data.toList.drop k).takeWhile wrdB) = [] := fun h => by
        rw [hcons, List.takeWhile_cons, if_neg (by unfold wrdB; rw [h, hd]; decide)]
      obtain ⟨D, hD⟩ : ∃ D, D = (s.data.toList.drop k).takeWhile wrdB := ⟨_, rfl⟩
      rw [← hD] at WD hwl htk hwd hw0 hA0
      cases hlt : letB s[k]
      · rw [if_neg (by rw [hlt]; decide)] at hA0
        have hDn := hw0 hlt
        rw [hDn] at WD
        have OPC := Lib.hid (fun w => rOperator_any s k hk hs w)
        have hle := opL_le (s.data.toList.drop k)
        rw [List.length_drop, hl] at hle
        obtain ⟨o, ho⟩ : ∃ o, o = opL (s.data.toList.drop k) := ⟨_, rfl⟩
        rw [← ho] at OPC hle
        unfold opA at hA0
        rw [← ho] at hA0
        by_cases h0 : o = 0
        · rw [if_pos h0] at hA0
          have HE := Lib.hid hA0
          subst h0
          generalize s[k] = c at *
          clear hA0 hcons hl hd h34 hwl htk hwd hw0 hD hlt hDn hle ho
          go_enter Tryz.func15, Tryz.ntmps15
          go_wp2_with fail
          go_fit (DG.out _)
          rintro e wq ⟨rfl, rfl⟩
          go_wp2_with fail
          go_fit (WD.out _)
          rintro e wq ⟨rfl, rfl⟩
          go_wp2_with fail
          go_fit (OPC.out _)
          rintro e w1 ⟨rfl, hb⟩
          have T1 := T0.out.below hb
          have B1 := Lib.hid (B0.out.trans (hb.mono (by simp)))
          have c0 := T1.cell0
          have c1 := T1.cell1
          have c2 := T1.cell2
          have f0 := T1.frozen 0
          have f1 := T1.frozen 1
          have f2 := T1.frozen 2
          clear hb
          go_wp2_with fail
          have Z := ((T1.set0 (.int .i64 0)).set1 (.string ⟨#[]⟩)).set2 (.int .i64 0)
          have z0 := Z.cell0
          have z1 := Z.cell1
          have z2 := Z.cell2
          (try simp only [Exit.inBlock, Exit.then])
          refine bodyPost_ret (v := .tuple #[.agg #[.int .i64 0, .string ⟨#[]⟩, .int .i64 0], .int .i64 0, .int .i64 5]) ?_ rfl ⟨?_, ?_⟩
          · rw [results_cell_tmp2 rfl]
            go_simp
          · rw [HE.out]
            rfl
          · exact ((B1.out.setCell (p := ⟨w.heap.size, 0, none⟩) (Nat.le_refl _) _).setCell (p := ⟨w.heap.size, 1, none⟩) (Nat.le_refl _) _).setCell (p := ⟨w.heap.size, 2, none⟩) (Nat.le_refl _) _
        · rw [if_neg h0] at hA0
          have q3 : ((o : Int) == 0) = false := by rw [beq_eq_false_iff_ne]; omega
          obtain ⟨x, hx⟩ : ∃ x : ByteArray, x = ⟨((s.data.toList.drop k).take o).toArray⟩ := ⟨_, rfl⟩
          have sl := fun w => sub_mid s (k : Int) ((k : Int) + (o : Int)) k (k + o) rfl (by omega) (by omega) (by omega) w
          rw [show (⟨((s.data.toList.take (k + o)).drop k).toArray⟩ : ByteArray) = x from by
            rw [List.drop_take, show k + o - k = o by omega, hx]] at sl
          have HE := Lib.hid hA0
          have HX := Lib.hid hx
          have hoI : (0 : Int) ≤ (o : Int) ∧ (k : Int) + (o : Int) ≤ (s.size : Int) := by omega
          generalize s[k] = c at *
          clear hA0 hcons hl hd h34 hwl htk hwd hw0 hD hlt hDn hle ho h0 hx
          go_enter Tryz.func15, Tryz.ntmps15
          go_wp2_with fail
          go_fit (DG.out _)
          rintro e wq ⟨rfl, rfl⟩
          go_wp2_with fail
          go_fit (WD.out _)
          rintro e wq ⟨rfl, rfl⟩
          go_wp2_with fail
          go_fit (OPC.out _)
          rintro e w1 ⟨rfl, hb⟩
          have T1 := T0.out.below hb
          have B1 := Lib.hid (B0.out.trans (hb.mono (by simp)))
          have c0 := T1.cell0
          have c1 := T1.cell1
          have c2 := T1.cell2
          have f0 := T1.frozen 0
          have f1 := T1.frozen 1
          have f2 := T1.frozen 2
          clear hb
          go_wp2_with fail
          have Z := ((T1.set0 (.int .i64 4)).set1 (.string x)).set2 (.int .i64 0)
          have z0 := Z.cell0
          have z1 := Z.cell1
          have z2 := Z.cell2
          (try simp only [Exit.inBlock, Exit.then])
          refine bodyPost_ret (v := .tuple #[.agg #[.int .i64 4, .string x, .int .i64 0], .int .i64 (o : Int), .int .i64 0]) ?_ rfl ⟨?_, ?_⟩
          · rw [results_cell_tmp2 rfl]
            go_simp
          · rw [HE.out, HX.out]
            rfl
          · exact ((B1.out.setCell (p := ⟨w.heap.size, 0, none⟩) (Nat.le_refl _) _).setCell (p := ⟨w.heap.size, 1, none⟩) (Nat.le_refl _) _).setCell (p := ⟨w.heap.size, 2, none⟩) (Nat.le_refl _) _
      · rw [if_pos hlt] at hA0
        have hD1 := hwd hlt
        unfold namA at hA0
        obtain ⟨n, hn⟩ : ∃ n, n = D.length := ⟨_, rfl⟩
        rw [← hn] at WD hwl htk hD1 hA0
        have q2 : (0 : Int) < (n : Int) := by omega
        have hnI : (1 : Int) ≤ (n : Int) ∧ (k : Int) + (n : Int) ≤ (s.size : Int) := by omega
        by_cases h64 : 64 < n
        · rw [if_pos h64] at hA0
          have q3 : (64 : Int) < (n : Int) := by omega
          have HE := Lib.hid hA0
          generalize s[k] = c at *
          clear hA0 hcons hl hd h34 hwl htk hwd hw0 hD hlt hD1 hn h64
          go_enter Tryz.func15, Tryz.ntmps15
          go_wp2_with fail
          go_fit (DG.out _)
          rintro e wq ⟨rfl, rfl⟩
          go_wp2_with fail
          go_fit (WD.out _)
          rintro e wq ⟨rfl, rfl⟩
          go_wp2_with fail
          (try simp only [Exit.inBlock, Exit.then])
          refine bodyPost_ret (v := .tuple #[.agg #[.int .i64 0, .string ⟨#[]⟩, .int .i64 0], .int .i64 0, .int .i64 3]) ?_ rfl ⟨?_, ?_⟩
          · rw [results_cell_tmp2 rfl]
            go_simp
          · rw [HE.out]
            rfl
          · exact (Below.refl w.heap.size w).alloc (Nat.le_refl _) _
        · rw [if_neg h64] at hA0
          have q3 : ¬ (64 : Int) < (n : Int) := by omega
          obtain ⟨x, hx⟩ : ∃ x : ByteArray, x = ⟨D.toArray⟩ := ⟨_, rfl⟩
          have sl := fun w => sub_mid s (k : Int) ((k : Int) + (n : Int)) k (k + n) rfl (by omega) (by omega) (by omega) w
          rw [show (⟨((s.data.toList.take (k + n)).drop k).toArray⟩ : ByteArray) = x from by
            rw [List.drop_take, show k + n - k = n by omega, htk, hx]] at sl
          have HE := Lib.hid hA0
          have HX := Lib.hid hx
          generalize s[k] = c at *
          clear hA0 hcons hl hd h34 hwl htk hwd hw0 hD hlt hD1 hn h64 hx
          go_enter Tryz.func15, Tryz.ntmps15
          go_wp2_with fail
          go_fit (DG.out _)
          rintro e wq ⟨rfl, rfl⟩
          go_wp2_with fail
          go_fit (WD.out _)
          rintro e wq ⟨rfl, rfl⟩
          go_wp2_with fail
          (try simp only [Exit.inBlock, Exit.then])
          refine bodyPost_ret (v := .tuple #[.agg #[.int .i64 1, .string x, .int .i64 0], .int .i64 (n : Int), .int .i64 0]) ?_ rfl ⟨?_, ?_⟩
          · rw [results_cell_tmp2 rfl]
            go_simp
          · rw [HE.out, HX.out]
            rfl
          · exact (Below.refl w.heap.size w).alloc (Nat.le_refl _) _
  · rw [hd] at DG
    have NM := Lib.hid (fun w => rNumber_any s k hk hd hs w)
    obtain ⟨A, hA⟩ : ∃ A, A = tokA (s.data.toList.drop k) := ⟨_, rfl⟩
    rw [← hA] at NM ⊢
    obtain ⟨tx, htx⟩ : ∃ tx : ByteArray, tx = ⟨A.2.1.toArray⟩ := ⟨_, rfl⟩
    unfold tkV at NM ⊢
    rw [← htx] at NM ⊢
    generalize s[k] = c at *
    clear hA hcons hl hd htx
    go_enter Tryz.func15, Tryz.ntmps15
    go_wp2_with fail
    go_fit (DG.out _)
    rintro e wq ⟨rfl, rfl⟩
    go_wp2_with fail
    go_fit (NM.out _)
    rintro e w1 ⟨rfl, hb⟩
    have T1 := T0.out.below hb
    have B1 := Lib.hid (B0.out.trans (hb.mono (by simp)))
    have c0 := T1.cell0
    have c1 := T1.cell1
    have c2 := T1.cell2
    have f0 := T1.frozen 0
    have f1 := T1.frozen 1
    have f2 := T1.frozen 2
    clear hb
    go_wp2_with fail
    have Z := ((T1.set0 (.int .i64 A.1)).set1 (.string tx)).set2 (.int .i64 0)
    have z0 := Z.cell0
    have z1 := Z.cell1
    have z2 := Z.cell2
    (try simp only [Exit.inBlock, Exit.then])
    refine bodyPost_ret (v := .tuple #[.agg #[.int .i64 A.1, .string tx, .int .i64 0], .int .i64 (A.2.2.1 : Nat), .int .i64 (A.2.2.2 : Nat)]) ?_ rfl ⟨rfl, ?_⟩
    · rw [results_cell_tmp2 rfl]
      go_simp
    · exact ((B1.out.setCell (p := ⟨w.heap.size, 0, none⟩) (Nat.le_refl _) _).setCell (p := ⟨w.heap.size, 1, none⟩) (Nat.le_refl _) _).setCell (p := ⟨w.heap.size, 2, none⟩) (Nat.le_refl _) _
end Go.Proofs.YtoliiiijbdoliaaGreatDoor
