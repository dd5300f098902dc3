/- Contracts of the program's Quote, source and Join (lexer). -/
import Derived.Test.YtoliiiijbdoliaaDoorLexQ
namespace Go.Proofs.YtoliiiijbdoliaaDoor
open Go.RowKit Go.Lib
set_option linter.unusedVariables false

set_option maxHeartbeats 4000000 in
set_option maxRecDepth 100000 in
theorem Quote_any (s : ByteArray) (hlim : (quoL s.data.toList).length ≤ 140737488351232) (w : World) :
    Calls Tryd.prog 11 #[.string s] w fun e w' => e = .returned (.string ⟨(quoL s.data.toList).toArray⟩) ∧ Below w.heap.size w w' := by
  obtain ⟨i0, hi, hz0, hz1, hz2⟩ := info_parts info8
  have hsl := lenB s
  have hq : (quoL s.data.toList).length = (s.data.toList.flatMap chrL).length + 2 := by simp [quoL]
  have hs : s.size ≤ 140737488351232 := by
    have := flat_pos s.data.toList
    omega
  have hB : w.heap.size ≤ w.heap.size := Nat.le_refl _
  have hwr : IntKind.i64.wrap ((s.size : Int) + 2) = (s.size : Int) + 2 := by rw [IntKind.wrap_i64]; omega
  go_enter Tryd.func11, Tryd.ntmps11
  go_wp2_with (at_make; refine wpList_make_own _ rfl _ _ 35 rfl w.heap.size 5 i0 (.int .u8 0) 1 Tryd.underlying35 hi hz0 hz1 .i64 .i64 ((s.size : Int) + 2) (s.size + 2) rfl rfl (by omega) (by rw [hz2]; omega) (by unfold maxLen; omega) (Nat.le_refl _) ?_)
  intro w1 ho1 hg1
  have B1 := Lib.hid ((Below.refl w.heap.size w).grown hg1 (Nat.le_refl _) (fun k hk => by cases hk))
  have H1 := Lib.hid ho1
  have hs1 : w.heap.size ≤ w1.heap.size := B1.out.size
  clear ho1 hg1
  go_wp2_with (at_builtin; refine wpList_append_own _ rfl _ _ 35 rfl w.heap.size 5 i0 (.int .u8 0) 1 1 Tryd.underlying35 hi hz0 hz1 hz2 rfl (by decide) _ _ _ rfl (H1.out.alloc _) ⟨w1.heap.size, 0, none⟩ 1 1 [.int .u8 34] rfl rfl (World.news_of_block (heap_alloc_new _ _)) (by intro u hu; simp at hu; subst hu; rfl) (by unfold maxLen; omega) (by omega) (by simp; omega) ?_)
  intro v2 w2 ho2 hg2 _
  have B2 := Lib.hid ((B1.out.alloc hs1 _).grown hg2 (by simp; omega) (fun k hk => (H1.out.lt k hk).1))
  have H2 := Lib.hid ho2
  clear ho2 hg2 H1
  go_wp2_with fail
  go_loopw [3, 14] (fun s0 s11 wr => ∃ j : Nat, j ≤ s.size ∧ s11 = .int .i64 (j : Int) ∧ Hid (wr.ownsRow w.heap.size 5 1 s0 (1 + ((s.data.toList.take j).flatMap chrL).length) ([.int .u8 34] ++ Lib.byteCells ((s.data.toList.take j).flatMap chrL))) ∧ Hid (Below w.heap.size w wr)) (fun _ s11 _ => s.size - (RowKit.intOf s11).toNat)
  case atStart => exact ⟨0, by omega, rfl, Lib.hid (by simpa [Lib.byteCells] using H2.out), B2⟩
  case round =>
    obtain ⟨j, hj, rfl, HO, HB⟩ := hrel
    clear H2 B2 B1 hs1
    have hbw : w.heap.size ≤ wr.heap.size := HB.out.size
    by_cases hlt : j < s.size
    · have hlt' : j < s.data.toList.length := by omega
      have hsn := flat_snoc s.data.toList j hlt'
      have hle := flat_le chrL s.data.toList j hlt'
      have hc := chrL_four s.data.toList[j]
      have F := Lib.hid (appChar_any w.heap.size _ s.data.toList[j] _ _ wr HO.out hbw (by omega))
      rw [str_at s j hlt] at F hsn
      have HSN := Lib.hid hsn
      have hjI : (0 : Int) ≤ (j : Int) ∧ (j : Int) < (s.size : Int) := by omega
      clear hsn hle hc
      go_wp2_with fail
      go_fit F.out
      rintro e w2 ⟨v2, rfl, h1, h2⟩
      have H1 := Lib.hid h1
      have H2 := Lib.hid (HB.out.trans h2)
      clear h1 h2
      go_wp2_with fail
      refine ⟨⟨j + 1, by omega, by go_num, Lib.hid ?_, H2⟩, by simp [RowKit.intOf]; omega⟩
      rw [HSN.out]
      exact OwnB.own H1.out
    · obtain rfl : j = s.size := by omega
      have hfl : s.data.toList.take s.size = s.data.toList := List.take_of_length_le (by omega)
      have HO2 := HO.out
      rw [hfl] at HO2
      have HO2 := Lib.hid HO2
      clear hlt hfl HO
      go_wp2_with (at_builtin; refine wpList_append_own _ rfl _ _ 35 rfl w.heap.size 5 i0 (.int .u8 0) 1 1 Tryd.underlying35 hi hz0 hz1 hz2 rfl (by decide) _ _ _ rfl (HO2.out.alloc _) ⟨wr.heap.size, 0, none⟩ 1 1 [.int .u8 34] rfl rfl (World.news_of_block (heap_alloc_new _ _)) (by intro u hu; simp at hu; subst hu; rfl) (by unfold maxLen; omega) (by omega) (by simp; omega) ?_)
      intro v3 w3 ho3 hg3 _
      have B3 := Lib.hid ((HB.out.alloc hbw _).grown hg3 (by simp; omega) (fun k hk => (HO2.out.lt k hk).1))
      have e2 : [Value.int .u8 34] ++ Lib.byteCells (s.data.toList.flatMap chrL) ++ [Value.int .u8 34] = Lib.byteCells (quoL s.data.toList) := by
        unfold quoL
        rw [show (34 : UInt8) :: (s.data.toList.flatMap chrL ++ [34]) = [34] ++ (s.data.toList.flatMap chrL ++ [34]) from rfl, byteCells_app, byteCells_app]
        simp [Lib.byteCells]
      have ho4 : w3.ownsRow w.heap.size 5 1 v3 (quoL s.data.toList).length (Lib.byteCells (quoL s.data.toList)) := by
        rw [← e2, hq, show (s.data.toList.flatMap chrL).length + 2 = 1 + (s.data.toList.flatMap chrL).length + 1 by omega, List.length_flatMap]
        exact ho3
      clear ho3
      obtain ⟨a, c, hv, _, _, hr⟩ := own_reads ho4 rfl
      have CV := conv_str a (quoL s.data.toList) w3 hr c
      obtain ⟨L, hL⟩ : ∃ L, quoL s.data.toList = L := ⟨_, rfl⟩
      have HL := Lib.hid hL
      rw [hL] at CV
      rw [hL] at hv
      subst hv
      clear ho4
      clear hg3 e2 hr hq hlim hL
      go_wp2_with fail
      go_ret
      exact ⟨by rw [HL.out]; rfl, B3.out⟩

set_option maxHeartbeats 4000000 in
set_option maxRecDepth 100000 in
theorem source_any (t : Tm) (hl : (srcM t).length ≤ 140737488351232) (w : World) :
    Calls Tryd.prog 17 #[.agg #[.int .i64 t.kind, .string ⟨t.text.toArray⟩, .int .i64 t.pos]] w fun e w' => e = .returned (.string ⟨(srcM t).toArray⟩) ∧ Below w.heap.size w w' := by
  obtain ⟨k, tx, ps⟩ := t
  show Calls Tryd.prog 17 #[.agg #[.int .i64 k, .string ⟨tx.toArray⟩, .int .i64 ps]] w _
  by_cases h3 : k = 3
  · subst h3
    have E := Lib.hid (show srcM ⟨3, tx, ps⟩ = quoL tx by unfold srcM; rw [if_pos rfl])
    have hl' : (quoL tx).length ≤ 140737488351232 := by rw [← E.out]; exact hl
    have Q := Lib.hid (fun w => Quote_any ⟨tx.toArray⟩ hl' w)
    rw [show (⟨tx.toArray⟩ : ByteArray).data.toList = tx from rfl] at Q
    rw [E.out]
    generalize quoL tx = q at *
    generalize (⟨tx.toArray⟩ : ByteArray) = s at *
    clear hl hl' E
    go_enter Tryd.func17, Tryd.ntmps17
    go_wp2_with fail
    go_fit (Q.out _)
    rintro e w1 ⟨rfl, hb⟩
    have B := Lib.hid (((Below.refl w.heap.size w).alloc (Nat.le_refl _) _).trans (hb.mono (by simp)))
    clear hb
    go_wp2_with fail
    go_ret
    exact ⟨rfl, B.out⟩
  · have g3 : (k == 3) = false := by rw [beq_eq_false_iff_ne]; exact h3
    by_cases h5 : k = 5
    · subst h5
      have E := Lib.hid (show srcM ⟨5, tx, ps⟩ = [10] by unfold srcM; rw [if_neg (show ¬ (5 : Int) = 3 by decide), if_pos rfl])
      rw [E.out]
      generalize (⟨tx.toArray⟩ : ByteArray) = s
      clear hl E h3
      go_enter Tryd.func17, Tryd.ntmps17
      go_wp2_with fail
      go_ret
      exact ⟨rfl, (Below.refl w.heap.size w).alloc (Nat.le_refl _) _⟩
    · have g5 : (k == 5) = false := by rw [beq_eq_false_iff_ne]; exact h5
      have E := Lib.hid (show srcM ⟨k, tx, ps⟩ = tx by unfold srcM; rw [if_neg h3, if_neg h5])
      rw [E.out]
      generalize (⟨tx.toArray⟩ : ByteArray) = s
      clear hl E h3 h5
      go_enter Tryd.func17, Tryd.ntmps17
      go_wp2_with fail
      go_ret
      exact ⟨rfl, (Below.refl w.heap.size w).alloc (Nat.le_refl _) _⟩
end Go.Proofs.YtoliiiijbdoliaaDoor
