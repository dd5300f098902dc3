/- Contracts of functions of the program, and what they are made of (parser; Pk37). -/
import Derived.Test.YtjehhldboopocaaGreatDoorPk36
import Derived.Lib.AppendIntMem
import Derived.Lib.BufferKept
import Derived.Shelf.Strconv.Itoa2
namespace Go.Proofs.YtjehhldboopocaaGreatDoor
open Go.RowKit Go.Lib Go.Sort
theorem decD_len (u : Nat) (h : u < 18446744073709551616) : (Lib.decDigits u).length ≤ 20 := by
  by_cases h0 : u = 0
  · subst h0
    rw [Lib.decDigits]
    simp
  · rw [Lib.decDigits_length]
    have := Lib.numDigits_eq u (by omega) h
    split at this <;> omega
set_option maxHeartbeats 4000000 in
set_option maxRecDepth 100000 in
theorem appUint_small (B n u : Nat) (hu : u < 100) (sv : Value) (xs : List Value) (w : World) (hown : w.ownsRow B 5 1 sv n xs) (hBw : B ≤ w.heap.size) (hlim : n + 20 ≤ 140737488355328) :
    Calls Tryz.prog 210 #[sv, .int .u64 u, .int .i64 10] w (OwnB B n sv xs w (Lib.decDigits u)) := by
  obtain ⟨i0, hi, hz0, hz1, hz2⟩ := info_parts info8
  have S := Lib.hid (fun w => Tryz.internal_strconv_small u hu w)
  have hlen := decD_len u (by omega)
  have hs : (⟨(Lib.decDigits u).toArray⟩ : ByteArray).size = (Lib.decDigits u).length := mkS_size _
  have hc : Lib.strCells ⟨(Lib.decDigits u).toArray⟩ = Lib.byteCells (Lib.decDigits u) := rfl
  generalize Lib.decDigits u = d at *
  generalize (⟨d.toArray⟩ : ByteArray) = x at *
  have hu2 : (u : Int) < 100 := by omega
  have HS := Lib.hid hs
  have HC := Lib.hid hc
  have hxs : x.size ≤ 20 := by omega
  clear hs hc
  go_enter Tryz.func210, Tryz.ntmps210
  go_wp2_with fail
  go_fit (S.out _)
  rintro e w1 ⟨rfl, rfl⟩
  go_wp2_with (at_builtin; refine wpList_str_at _ rfl _ _ 46 9 rfl B 5 i0 Tryz.underlying46 Tryz.underlying9 hi hz0 hz1 hz2 _ _ _ rfl hown x rfl (by unfold maxLen; omega) (by omega) hBw ?_)
  intro v1 w2 ho1 hg1 hat
  go_wp2_with fail
  go_ret
  refine ⟨_, rfl, ?_, (Below.refl _ _).grown hg1 hBw (fun k hk => (hown.lt k hk).1), hat⟩
  rw [← HS.out, ← HC.out]
  exact ho1

set_option maxHeartbeats 4000000 in
set_option maxRecDepth 100000 in
theorem appUint_big (B n u : Nat) (hu : 100 ≤ u) (hu64 : u < 18446744073709551616) (sv : Value) (xs : List Value) (w : World) (hown : w.ownsRow B 5 1 sv n xs) (hBw : B ≤ w.heap.size) (hlim : n + 20 ≤ 140737488355328) (htab : Lib.TabIs Tryz.prog w "internal/strconv.uint64pow10" .u64 Lib.pow10Tab) :
    Calls Tryz.prog 210 #[sv, .int .u64 u, .int .i64 10] w (OwnB B n sv xs w (Lib.decDigits u)) := by
  obtain ⟨i0, hi, hz0, hz1, hz2⟩ := info_parts info8
  have hn20 : Lib.nDigits u ≤ 20 := by rw [← Lib.decDigits_length]; exact decD_len u hu64
  have N := Lib.hid (fun w h => Tryz.internal_strconv_numDigits u (by omega) hu64 w h)
  have H0 := Lib.holds_zero0 w 200 (Lib.nDigits u) (by omega)
  have FM := Tryz.internal_strconv_formatBase10 w.heap.size 0 24 u (Array.replicate (Lib.nDigits u) 0) (w.alloc (.cells Lib.zeros24 200)) H0 (by rw [Array.size_replicate]; exact Lib.lt_pow_nDigits u) hu64 (by rw [Array.size_replicate]; omega)
  rw [Array.size_replicate] at FM
  have hal : Tryz.prog.arrayLen 200 = 24 := by simp [Program.arrayLen, Tryz.underlying200]
  have hsl : ∀ W, (Instr.sliceAt 200 (.pointer (some ⟨w.heap.size, 0, none⟩)) none (some (.int .i64 (Lib.nDigits u : Int))) none).run Tryz.prog W = .ok (.slice (some ⟨w.heap.size, 0, none⟩) (Lib.nDigits u) 24) W := fun W => by
    rw [run_sliceAt_array_h W 200 ⟨w.heap.size, 0, none⟩ (by simp [Program.arrayLen, Program.elem, Tryz.underlying200]) .i64 (Lib.nDigits u : Int) (by omega) (by rw [hal]; omega)]
    go_simp
  have HT := Lib.hid htab
  have HH := Lib.hid H0
  have HF := Lib.hid FM
  have hu2 : (100 : Int) ≤ (u : Int) := by omega
  clear H0 FM htab hal
  go_enter Tryz.func210, Tryz.ntmps210
  go_wp2_with fail
  go_fit (N.out _ (Lib.tabIs_alloc HT.out _))
  rintro e w1 ⟨rfl, rfl⟩
  go_wp2_with fail
  go_fit HF.out
  rintro e w1 ⟨rfl, k, v', dk, hw1, hF⟩
  have hcells : ∀ j u', (Lib.byteCells (Lib.decDigits u))[j]? = some u' → w1.cell? ((⟨w.heap.size, 0, none⟩ : Addr).add j) = some u' := by
    intro j u' hj
    have hjl : j < (Lib.decDigits u).length := by
      have h5 := (List.getElem?_eq_some_iff.1 hj).1
      rwa [Lib.byteCells_length] at h5
    have e5 : (Lib.byteCells (Lib.decDigits u))[j]? = some (Value.int .u8 ((Lib.decDigits u)[j].toNat : Int)) := by simp [Lib.byteCells, hjl]
    rw [e5] at hj
    cases hj
    rw [hw1, Lib.row_is_numeral hF j hjl, Lib.add_plain, World.cell?_drewN]
    exact cell?_putRow (fun (b : UInt8) => Value.int .u8 (b.toNat : Int)) _ w.heap.size 0 _ dk HH.out (by rw [hF.size, Array.size_replicate]) j (by rw [hF.size]; rw [Lib.decDigits_length] at hjl; exact hjl)
  obtain ⟨os, eo⟩ := Lib.fin_at w (.cells Lib.zeros24 200) dk k 0
  rw [← hw1] at eo
  have ho1 : w1.ownsRow B 5 1 sv n xs := by rw [eo]; exact Lib.ownsRow_grow hown k os
  have B1 : Below B w w1 := by rw [eo]; exact Lib.below_grow B w hBw k os
  have B1' : Below w.heap.size w w1 := by rw [eo]; exact Lib.below_grow w.heap.size w (Nat.le_refl _) k os
  have hz1' := B1'.size
  clear eo hw1 HF hF N HH HT
  have hdl := Lib.decDigits_length u
  go_wp2_with (at_builtin; refine wpList_arr_at _ rfl _ _ 46 rfl B 5 i0 (.int .u8 0) 1 1 Tryz.underlying46 hi hz0 hz1 hz2 rfl (by decide) _ _ _ rfl ho1 ⟨w.heap.size, 0, none⟩ (Lib.nDigits u) 24 (Lib.byteCells (Lib.decDigits u)) rfl (by rw [Lib.byteCells_length, hdl, Nat.mul_one]) hcells (by intro u' hu'; simp only [Lib.byteCells, List.mem_map] at hu'; obtain ⟨b, _, rfl⟩ := hu'; rfl) (by unfold maxLen; omega) (by omega) (by omega) ?_)
  intro v2 w3 ho2 hg2 hat
  go_wp2_with fail
  go_ret
  refine ⟨v2, rfl, ?_, B1.grown hg2 (by omega) (fun k hk => (ho1.lt k hk).1), Frm.left B1' hat⟩
  rw [Lib.decDigits_length]
  exact ho2

theorem appUint_any (B n u : Nat) (hu64 : u < 18446744073709551616) (sv : Value) (xs : List Value) (w : World) (hown : w.ownsRow B 5 1 sv n xs) (hBw : B ≤ w.heap.size) (hlim : n + 20 ≤ 140737488355328) (htab : Lib.TabIs Tryz.prog w "internal/strconv.uint64pow10" .u64 Lib.pow10Tab) :
    Calls Tryz.prog 210 #[sv, .int .u64 u, .int .i64 10] w (OwnB B n sv xs w (Lib.decDigits u)) := by
  by_cases h : u < 100
  · exact appUint_small B n u h sv xs w hown hBw hlim
  · exact appUint_big B n u (by omega) hu64 sv xs w hown hBw hlim htab

set_option maxHeartbeats 4000000 in
set_option maxRecDepth 100000 in
theorem appInt_in (B n : Nat) (i : Int) (h0 : -9223372036854775808 ≤ i) (h1 : i ≤ 9223372036854775807) (sv : Value) (xs : List Value) (w : World) (hown : w.ownsRow B 5 1 sv n xs) (hBw : B ≤ w.heap.size) (hlim : n + 21 ≤ 140737488355328) (htab : Lib.TabBelow Tryz.prog B w "internal/strconv.uint64pow10" .u64 Lib.pow10Tab) :
    Calls Tryz.prog 179 #[sv, .int .i64 i, .int .i64 10] w (OwnB B n sv xs w (Lib.itoa i)) := by
  obtain ⟨i0, hi, hz0, hz1, hz2⟩ := info_parts info8
  by_cases hneg : i < 0
  · have E := Lib.hid (show Lib.itoa i = [45] ++ Lib.decDigits i.natAbs by unfold Lib.itoa; rw [if_pos hneg]; rfl)
    have U := Lib.hid (fun (n' : Nat) (sv' : Value) (xs' : List Value) (w' : World) => appUint_any B n' i.natAbs (by omega) sv' xs' w')
    have HT := Lib.hid htab
    have hwr : IntKind.u64.wrap (-IntKind.u64.wrap i) = (i.natAbs : Int) := by rw [IntKind.wrap_u64, IntKind.wrap_u64]; omega
    clear htab
    go_enter Tryz.func179, Tryz.ntmps179
    go_wp2_with (at_builtin; refine wpList_arr_at _ rfl _ _ 46 rfl B 5 i0 (.int .u8 0) 1 1 Tryz.underlying46 hi hz0 hz1 hz2 rfl (by decide) _ _ _ rfl (hown.alloc _) ⟨w.heap.size, 0, none⟩ 1 1 [.int .u8 45] rfl rfl (World.news_of_block (heap_alloc_new _ _)) (by intro u hu; simp at hu; subst hu; rfl) (by unfold maxLen; omega) (by omega) (by simp; omega) ?_)
    intro v1 w1 ho1 hg1 hat
    have B1 := Lib.hid (show Below B w w1 from ((Below.refl _ w).alloc hBw _).grown hg1 (by simp; omega) (fun k hk => (hown.lt k hk).1))
    have F1 := Lib.hid (Frm.left ((Below.refl w.heap.size w).alloc (Nat.le_refl _) _) hat)
    have O1 := Lib.hid (show w1.ownsRow B 5 1 v1 (n + [(45 : UInt8)].length) (xs ++ Lib.byteCells [(45 : UInt8)]) from ho1)
    have hz := B1.out.size
    clear ho1 hg1 hat hown
    go_wp2_with fail
    go_fit (U.out _ _ _ _ O1.out (by omega) (by simp; omega) (HT.out.on B1.out).here)
    rintro e w2 ⟨v2, rfl, g1, g2, g3⟩
    have H1 := Lib.hid (OwnB.own g1)
    have H2 := Lib.hid (B1.out.trans g2)
    have H3 := Lib.hid (F1.out.trans g3)
    clear g1 g2 g3
    go_wp2_with fail
    go_ret
    exact ⟨_, rfl, by rw [E.out]; exact H1.out, H2.out, H3.out⟩
  · obtain ⟨u, rfl⟩ : ∃ u : Nat, i = (u : Int) := ⟨i.toNat, by omega⟩
    have E := Lib.hid (show Lib.itoa (u : Int) = Lib.decDigits u by unfold Lib.itoa; rw [if_neg hneg, Int.toNat_natCast])
    have U := Lib.hid (appUint_any B n u (by omega) sv xs w hown hBw (by omega) htab.here)
    have hwr : IntKind.u64.wrap (u : Int) = (u : Int) := by rw [IntKind.wrap_u64]; omega
    clear htab hown
    go_enter Tryz.func179, Tryz.ntmps179
    go_wp2_with fail
    go_fit U.out
    rintro e w2 ⟨v2, rfl, g1, g2, g3⟩
    have H1 := Lib.hid g1
    have H2 := Lib.hid g2
    have H3 := Lib.hid g3
    clear g1 g2 g3
    go_wp2_with fail
    go_ret
    exact ⟨_, rfl, by rw [E.out]; exact H1.out, H2.out, H3.out⟩

set_option maxHeartbeats 1000000 in
theorem appInt_any (B n : Nat) (i : Int) (h0 : -9223372036854775808 ≤ i) (h1 : i ≤ 9223372036854775807) (sv : Value) (xs : List Value) (w : World) (hown : w.ownsRow B 5 1 sv n xs) (hBw : B ≤ w.heap.size) (hlim : n + 21 ≤ 140737488355328) (htab : Lib.TabBelow Tryz.prog B w "internal/strconv.uint64pow10" .u64 Lib.pow10Tab) :
    Calls Tryz.prog 142 #[sv, .int .i64 i, .int .i64 10] w (OwnB B n sv xs w (Lib.itoa i)) := by
  have U := Lib.hid (appInt_in B n i h0 h1 sv xs w hown hBw hlim htab)
  clear htab hown
  go_enter Tryz.func142, Tryz.ntmps142
  go_wp2_with fail
  go_fit U.out
  rintro e w2 ⟨v2, rfl, g1, g2, g3⟩
  have H1 := Lib.hid g1
  have H2 := Lib.hid g2
  have H3 := Lib.hid g3
  clear g1 g2 g3
  go_wp2_with fail
  go_ret
  exact ⟨_, rfl, H1.out, H2.out, H3.out⟩
end Go.Proofs.YtjehhldboopocaaGreatDoor
