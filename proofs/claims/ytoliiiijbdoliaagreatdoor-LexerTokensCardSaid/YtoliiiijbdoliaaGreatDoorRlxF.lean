/- Contracts of the document's text and token (pipelineref09). -/
import Derived.Test.YtoliiiijbdoliaaGreatDoorRlxE
import Derived.OwnWalk
import Derived.Maps.AppendAt
import Derived.Deep.AppendLies
namespace Go.Proofs.YtoliiiijbdoliaaGreatDoor
open Go.RowKit Go.Lib
set_option linter.unusedVariables false
set_option linter.unusedSimpArgs false

theorem txtN_cons (n : Nat) (c : UInt8) (r acc : List UInt8) (k : Nat) : txtN (n + 1) (c :: r) acc k = if c = 34 then (if 4096 < acc.length then ([], 0, 3) else (acc, k + 1, 0)) else if (chrA (c :: r)).2.2 ≠ 0 then ([], 0, (chrA (c :: r)).2.2) else txtN n ((c :: r).drop (chrA (c :: r)).2.1) (acc ++ [(chrA (c :: r)).1]) (k + (chrA (c :: r)).2.1) := rfl
theorem txtN_nil (n : Nat) (acc : List UInt8) (k : Nat) : txtN n [] acc k = ([], 0, 4) := by cases n <;> rfl
set_option maxHeartbeats 8000000 in
set_option maxRecDepth 100000 in
theorem rText_any (s : ByteArray) (at_ : Nat) (hk0 : at_ < s.size) (hs : s.size ≤ 1099511627776) (w : World) :
    Calls Tryz.prog 31 #[.string s, .int .i64 (at_ : Int)] w fun e w' => e = .returned (.tuple #[tkV (strA (txtN ((s.data.toList.drop (at_ + 1)).length + 1) (s.data.toList.drop (at_ + 1)) [] 1)).1 (strA (txtN ((s.data.toList.drop (at_ + 1)).length + 1) (s.data.toList.drop (at_ + 1)) [] 1)).2.1 0, .int .i64 ((strA (txtN ((s.data.toList.drop (at_ + 1)).length + 1) (s.data.toList.drop (at_ + 1)) [] 1)).2.2.1 : Nat), .int .i64 ((strA (txtN ((s.data.toList.drop (at_ + 1)).length + 1) (s.data.toList.drop (at_ + 1)) [] 1)).2.2.2 : Nat)]) ∧ Below w.heap.size w w' := by
  obtain ⟨i0, hi, hz0, hz1, hz2⟩ := info_parts info8
  have hl := lenB s
  obtain ⟨R, hR⟩ : ∃ R, R = txtN ((s.data.toList.drop (at_ + 1)).length + 1) (s.data.toList.drop (at_ + 1)) [] 1 := ⟨_, rfl⟩
  rw [← hR]
  have HS0 := Lib.hid (show ∃ m, (s.data.toList.drop (at_ + 1)).length < m ∧ R = txtN m (s.data.toList.drop (at_ + 1)) [] (at_ + 1 - at_) from ⟨_, Nat.lt_succ_self _, by rw [hR, show at_ + 1 - at_ = 1 by omega]⟩)
  have hsI : (s.size : Int) ≤ 1099511627776 := by omega
  have haI : (0 : Int) ≤ (at_ : Int) ∧ (at_ : Int) < (s.size : Int) := by omega
  obtain ⟨W0, hW0⟩ : ∃ W0, W0 = w.alloc (Obj.cells #[.int .i64 0, .string ⟨#[]⟩, .int .i64 0] 32) := ⟨_, rfl⟩
  have HB0 := Lib.hid (show Below (w.heap.size + 1) W0 W0 from Below.refl _ _)
  have hWs : W0.heap.size = w.heap.size + 1 := by rw [hW0]; simp
  have HWs := Lib.hid hWs
  have HW := Lib.hid (show Below w.heap.size w W0 from by rw [hW0]; exact (Below.refl _ _).alloc (Nat.le_refl _) _)
  have HX := Lib.hid (show W0.heap[w.heap.size]? = some (Obj.cells #[.int .i64 0, .string ⟨#[]⟩, .int .i64 0] 32) from by rw [hW0]; exact heap_alloc_new _ _)
  have BOX := Lib.hid (fun (wr : World) (h : Below (w.heap.size + 1) W0 wr) => show wr.heap[w.heap.size]? = some (Obj.cells #[.int .i64 0, .string ⟨#[]⟩, .int .i64 0] 32) from by
    have h2 := HX.out
    exact (h.block w.heap.size (Nat.lt_succ_self _)).trans h2)
  clear hR hWs
  go_enter Tryz.func31, Tryz.ntmps31
  go_wp2_with fail
  rw [← hW0]
  clear hW0
  go_loopw [7, 8] (fun s7 s8 wr => ∃ (k : Nat) (acc : List UInt8), k ≤ s.size ∧ at_ + 1 ≤ k ∧ acc.length ≤ k ∧ s8 = .int .i64 (k : Int) ∧ Hid (∃ m, (s.data.toList.drop k).length < m ∧ R = txtN m (s.data.toList.drop k) acc (k - at_)) ∧ Hid (wr.ownsRow (w.heap.size + 1) 5 1 s7 acc.length (Lib.byteCells acc)) ∧ Hid (Below (w.heap.size + 1) W0 wr)) (fun _ s8 _ => s.size - (RowKit.intOf s8).toNat)
  case atStart => exact ⟨at_ + 1, [], by omega, by omega, by simp, by simp, HS0, Lib.hid (World.ownsRow_nil _ _ _ _), HB0⟩
  case round =>
    obtain ⟨k, acc, hk, hk1, hnk, rfl, HR, HO, HB⟩ := hrel
    have hkI : (k : Int) ≤ 1099511627776 := by omega
    have hk0 : (at_ : Int) + 1 ≤ (k : Int) := by omega
    obtain ⟨a1, cp1, hv, hn1, hn2, hr1⟩ := own_reads (l := acc) HO.out rfl
    subst hv
    by_cases hlt : k < s.size
    · have hltI : (k : Int) < (s.size : Int) := by omega
      have hk00 : (0 : Int) ≤ (k : Int) := by omega
      have hcons := drop_consB s k hlt
      have ix := fun w => ixS s (k : Int) k rfl hlt w
      have CH := Lib.hid (fun w => rChar_any s k hlt hs w)
      obtain ⟨c, hc⟩ : ∃ c, c = s[k] := ⟨_, rfl⟩
      rw [← hc] at hcons ix
      have hc9 := c.toNat_lt
      have hcI : (0 : Int) ≤ (c.toNat : Int) ∧ (c.toNat : Int) ≤ 255 := by omega
      have HRc := Lib.hid (show ∃ m, s.size - k ≤ m ∧ R = txtN (m + 1) (c :: s.data.toList.drop (k + 1)) acc (k - at_) from by
        obtain ⟨m, h1, h2⟩ := HR.out
        rw [List.length_drop] at h1
        rw [hcons] at h2
        cases m with
        | zero => omega
        | succ m => exact ⟨m, by omega, h2⟩)
      by_cases h34 : c = 34
      · subst h34
        by_cases hbig : 4096 < acc.length
        · have HE := Lib.hid (show R = ([], 0, 3) from by
            obtain ⟨m, h1, h2⟩ := HRc.out
            rw [h2, txtN_cons, if_pos rfl, if_pos hbig])
          have g1 : (4096 : Int) < (acc.length : Int) := by omega
          clear hcons HRc HR hc hc9 hbig CH hr1 hlt
          have HT3 : ThrAt wr w.heap.size 32 (.int .i64 0) (.string ⟨#[]⟩) (.int .i64 0) := ⟨BOX.out wr HB.out⟩
          have c0 := HT3.cell0
          have c1 := HT3.cell1
          have c2 := HT3.cell2
          have f0 := HT3.frozen 0
          have f1 := HT3.frozen 1
          have f2 := HT3.frozen 2
          have HBw := Lib.hid (HW.out.trans (HB.out.mono (Nat.le_succ _)))
          go_wp2_with fail
          have Z := ((HT3.set0 (.int .i64 0)).set1 (.string ⟨#[]⟩)).set2 (.int .i64 0)
          have z0 := Z.cell0
          have z1 := Z.cell1
          have z2 := Z.cell2
          (try simp only [Exit.inBlock, Exit.then])
          refine bodyPost_ret (v := .tuple #[.agg #[.int .i64 0, .string ⟨#[]⟩, .int .i64 0], .int .i64 0, .int .i64 3]) ?_ rfl ⟨?_, ?_⟩
          · rw [results_cell_tmp2 rfl]
            go_simp
          · rw [HE.out]
            rfl
          · exact ((HBw.out.setCell (p := ⟨w.heap.size, 0, none⟩) (Nat.le_refl _) _).setCell (p := ⟨w.heap.size, 1, none⟩) (Nat.le_refl _) _).setCell (p := ⟨w.heap.size, 2, none⟩) (Nat.le_refl _) _
        · have HE := Lib.hid (show R = (acc, k - at_ + 1, 0) from by
            obtain ⟨m, h1, h2⟩ := HRc.out
            rw [h2, txtN_cons, if_pos rfl, if_neg hbig])
          have g1 : ¬ (4096 : Int) < (acc.length : Int) := by omega
          have cv := conv_str a1 acc wr hr1 cp1
          have HKA := Lib.hid (show ((k : Int) + 1 - (at_ : Int)) = ((k - at_ + 1 : Nat) : Int) by omega)
          clear hcons HRc HR hc hc9 hbig CH hr1 hlt
          have HT3 : ThrAt wr w.heap.size 32 (.int .i64 0) (.string ⟨#[]⟩) (.int .i64 0) := ⟨BOX.out wr HB.out⟩
          have c0 := HT3.cell0
          have c1 := HT3.cell1
          have c2 := HT3.cell2
          have f0 := HT3.frozen 0
          have f1 := HT3.frozen 1
          have f2 := HT3.frozen 2
          have HBw := Lib.hid (HW.out.trans (HB.out.mono (Nat.le_succ _)))
          go_wp2_with fail
          have Z := ((HT3.set0 (.int .i64 3)).set1 (.string ⟨acc.toArray⟩)).set2 (.int .i64 0)
          have z0 := Z.cell0
          have z1 := Z.cell1
          have z2 := Z.cell2
          (try simp only [Exit.inBlock, Exit.then])
          refine bodyPost_ret (v := .tuple #[.agg #[.int .i64 3, .string ⟨acc.toArray⟩, .int .i64 0], .int .i64 ((k : Int) + 1 - (at_ : Int)), .int .i64 0]) ?_ rfl ⟨?_, ?_⟩
          · rw [results_cell_tmp2 rfl]
            go_simp
          · rw [HE.out, HKA.out]
            rfl
          · exact ((HBw.out.setCell (p := ⟨w.heap.size, 0, none⟩) (Nat.le_refl _) _).setCell (p := ⟨w.heap.size, 1, none⟩) (Nat.le_refl _) _).setCell (p := ⟨w.heap.size, 2, none⟩) (Nat.le_refl _) _
      · have q1 : ((c.toNat : Int) == 34) = false := by
          rw [beq_eq_false_iff_ne]
          intro e
          exact h34 (u8_of (n := 34) (by decide) (by omega))
        have hca := chrA_app (c :: s.data.toList.drop (k + 1)) []
        have HC2 := Lib.hid (fun (h : (chrA (c :: s.data.toList.drop (k + 1))).2.2 = 0) => (hca h).2)
        have HQ := Lib.hid (show ∃ m, s.size - k ≤ m ∧ R = (if (chrA (c :: s.data.toList.drop (k + 1))).2.2 ≠ 0 then ([], 0, (chrA (c :: s.data.toList.drop (k + 1))).2.2) else txtN m (s.data.toList.drop (k + (chrA (c :: s.data.toList.drop (k + 1))).2.1)) (acc ++ [(chrA (c :: s.data.toList.drop (k + 1))).1]) (k - at_ + (chrA (c :: s.data.toList.drop (k + 1))).2.1)) from by
          obtain ⟨m, h1, h2⟩ := HRc.out
          rw [txtN_cons, if_neg h34] at h2
          refine ⟨m, h1, ?_⟩
          rw [h2, ← hcons, List.drop_drop])
        have hlen : (c :: s.data.toList.drop (k + 1)).length = s.size - k := by rw [← hcons, List.length_drop]; omega
        rw [hlen] at HC2
        rw [hcons] at CH
        obtain ⟨ca, hca2⟩ : ∃ ca, ca = chrA (c :: s.data.toList.drop (k + 1)) := ⟨_, rfl⟩
        rw [← hca2] at CH HC2 HQ
        obtain ⟨xc, xn, xe⟩ := ca
        simp only at CH HC2 HQ
        by_cases he : xe = 0
        · subst he
          obtain ⟨n1, n2⟩ := HC2.out rfl
          have hxI : (0 : Int) ≤ (xc.toNat : Int) ∧ (xc.toNat : Int) ≤ 255 := by have := xc.toNat_lt; omega
          have hnI : (1 : Int) ≤ (xn : Int) ∧ (xn : Int) ≤ 1099511627776 := by omega
          have HQ2 := Lib.hid (show ∃ m, (s.data.toList.drop (k + xn)).length < m ∧ R = txtN m (s.data.toList.drop (k + xn)) (acc ++ [xc]) (k + xn - at_) from by
            obtain ⟨m, h1, h2⟩ := HQ.out
            rw [if_neg (fun h => h rfl)] at h2
            exact ⟨m, by rw [List.length_drop]; omega, by rw [h2, show k + xn - at_ = k - at_ + xn by omega]⟩)
          have HOA := Lib.hid (HO.out.alloc (Obj.cells #[.int .u8 (xc.toNat : Int)] 5))
          have hzz := HB.out.size
          rw [HWs.out] at hzz
          have HBA := Lib.hid (HB.out.alloc hzz (Obj.cells #[.int .u8 (xc.toNat : Int)] 5))
          have HNK := Lib.hid (show acc.length + 1 ≤ k + xn by omega)
          have HAL := Lib.hid (show acc.length ≤ 1099511627776 by omega)
          clear hca2 hlen hca hcons HRc hc h34 HR HQ HC2 hr1 hlt hc9
          go_wp2_with fail
          go_fit (CH.out _)
          rintro e wr ⟨rfl, rfl⟩
          go_wp2_with (at_builtin; refine wpList_append_own _ rfl _ _ 33 rfl (w.heap.size + 1) 5 i0 (.int .u8 0) 1 1 Tryz.underlying33 hi hz0 hz1 hz2 rfl (by decide) _ _ _ rfl HOA.out ⟨wr.heap.size, 0, none⟩ 1 1 [Value.int .u8 (xc.toNat : Int)] rfl rfl ?c1 ?c2 ?c3 ?c4 ?c5 ?_)
          case c1 => exact World.news_of_block (heap_alloc_new _ _)
          case c2 => intro u hu; simp at hu; subst hu; rfl
          case c3 => have := HAL.out; unfold maxLen; omega
          case c4 => have := HAL.out; omega
          case c5 => simp; omega
          intro v' w2 hown' hgrow _
          have HO2 := Lib.hid (show w2.ownsRow (w.heap.size + 1) 5 1 v' (acc ++ [xc]).length (Lib.byteCells (acc ++ [xc])) by rw [byteCells_one, List.length_append, List.length_singleton]; exact hown')
          have HB2 := Lib.hid (HBA.out.grown hgrow (by simp; omega) (fun k hk => (HOA.out.lt k hk).1))
          clear hown' hgrow HOA HBA
          go_wp2_with fail
          exact ⟨⟨k + xn, acc ++ [xc], by omega, by omega, by rw [List.length_append, List.length_singleton]; exact HNK.out, by go_num, HQ2, HO2, HB2⟩, by simp [RowKit.intOf]; omega⟩
        · have q2 : ((xe : Int) != 0) = true := by rw [bne_iff_ne]; omega
          have HE := Lib.hid (show R = ([], 0, xe) from by
            obtain ⟨m, h1, h2⟩ := HQ.out
            rw [if_pos he] at h2
            exact h2)
          have HSA := Lib.hid (show strA (([] : List UInt8), 0, xe) = (0, [], 0, xe) from by unfold strA; rw [if_neg he])
          clear hca2 hlen hca hcons HRc hc h34 HR HQ HC2 hr1 hlt hc9 he
          go_wp2_with fail
          go_fit (CH.out _)
          rintro e wr ⟨rfl, rfl⟩
          have HT3 : ThrAt wr w.heap.size 32 (.int .i64 0) (.string ⟨#[]⟩) (.int .i64 0) := ⟨BOX.out wr HB.out⟩
          have c0 := HT3.cell0
          have c1 := HT3.cell1
          have c2 := HT3.cell2
          have f0 := HT3.frozen 0
          have f1 := HT3.frozen 1
          have f2 := HT3.frozen 2
          have HBw := Lib.hid (HW.out.trans (HB.out.mono (Nat.le_succ _)))
          go_wp2_with fail
          have Z := ((HT3.set0 (.int .i64 0)).set1 (.string ⟨#[]⟩)).set2 (.int .i64 0)
          have z0 := Z.cell0
          have z1 := Z.cell1
          have z2 := Z.cell2
          (try simp only [Exit.inBlock, Exit.then])
          refine bodyPost_ret (v := .tuple #[.agg #[.int .i64 0, .string ⟨#[]⟩, .int .i64 0], .int .i64 0, .int .i64 (xe : Nat)]) ?_ rfl ⟨?_, ?_⟩
          · rw [results_cell_tmp2 rfl]
            go_simp
          · rw [HE.out, HSA.out]
            rfl
          · exact ((HBw.out.setCell (p := ⟨w.heap.size, 0, none⟩) (Nat.le_refl _) _).setCell (p := ⟨w.heap.size, 1, none⟩) (Nat.le_refl _) _).setCell (p := ⟨w.heap.size, 2, none⟩) (Nat.le_refl _) _
    · obtain rfl : k = s.size := by omega
      have HE := Lib.hid (show R = ([], 0, 4) from by
        obtain ⟨m, h1, h2⟩ := HR.out
        rw [List.drop_eq_nil_of_le (by omega), txtN_nil] at h2
        exact h2)
      have hkk : ¬ (s.size : Int) < (s.size : Int) := by omega
      clear HR hr1 hlt
      have HT3 : ThrAt wr w.heap.size 32 (.int .i64 0) (.string ⟨#[]⟩) (.int .i64 0) := ⟨BOX.out wr HB.out⟩
      have c0 := HT3.cell0
      have c1 := HT3.cell1
      have c2 := HT3.cell2
      have f0 := HT3.frozen 0
      have f1 := HT3.frozen 1
      have f2 := HT3.frozen 2
      have HBw := Lib.hid (HW.out.trans (HB.out.mono (Nat.le_succ _)))
      go_wp2_with fail
      have Z := ((HT3.set0 (.int .i64 0)).set1 (.string ⟨#[]⟩)).set2 (.int .i64 0)
      have z0 := Z.cell0
      have z1 := Z.cell1
      have z2 := Z.cell2
      (try simp only [Exit.inBlock, Exit.then])
      refine bodyPost_ret (v := .tuple #[.agg #[.int .i64 0, .string ⟨#[]⟩, .int .i64 0], .int .i64 0, .int .i64 4]) ?_ rfl ⟨?_, ?_⟩
      · rw [results_cell_tmp2 rfl]
        go_simp
      · rw [HE.out]
        rfl
      · exact ((HBw.out.setCell (p := ⟨w.heap.size, 0, none⟩) (Nat.le_refl _) _).setCell (p := ⟨w.heap.size, 1, none⟩) (Nat.le_refl _) _).setCell (p := ⟨w.heap.size, 2, none⟩) (Nat.le_refl _) _
end Go.Proofs.YtoliiiijbdoliaaGreatDoor
