/- OctetsNumbers: the walk through its body, for bytes that are there and for none. -/
import Derived.Test.YthggcagbanndgaaOctK
import Derived.Laws.AppendOwnNone
namespace Go.Proofs.Ythggcagbanndgaa
open Go.RowKit Go.Lib
set_option maxHeartbeats 4000000 in
set_option maxRecDepth 100000 in
theorem walk_some (n : Nat) (hn : n < 18446744073709551616) (m : Int) (m0 : -9223372036854775808 ≤ m) (m1 : m ≤ 9223372036854775807) (ad : Addr) (cap : Nat) (l : List UInt8) (hk : l.length ≤ 1000) (w : World) (hr : ReadsBytes w (some ad) l) :
    Calls Try.prog 10 #[.int .u64 n, .int .i64 m, .slice (some ad) l.length cap] w fun e w' => e = .returned (.bool true) ∧ Below w.heap.size w w' := by
  obtain ⟨i0, hi, hz0, hz1, hz2⟩ := info_parts info8
  have hk2 : decide ((1000 : Int) < (l.length : Int)) = false := by simp; omega
  have HR := Lib.hid hr
  have HPN := fun w => Lib.hid (PutUint_any n hn w)
  have HPM := fun w => Lib.hid (PutInt_any m m0 m1 w)
  have HRN := fun w => Lib.hid (refPutUint_any n hn w)
  have HRM := fun w => Lib.hid (refPutInt_any m m0 m1 w)
  have ln := Lib.uvarint_length64 hn
  have lm := Lib.uvarint_length64 (Lib.zigzag_lt m0 m1)
  have pn := Lib.uvarint_pos n
  have pm := Lib.uvarint_pos (Lib.zigzag m)
  have TN := Lib.hid (take_put n l hn)
  have TM := Lib.hid (take_put (Lib.zigzag m) l (Lib.zigzag_lt m0 m1))
  obtain ⟨un, hun⟩ : ∃ un, un = Lib.uvarint n := ⟨_, rfl⟩
  obtain ⟨um, hum⟩ : ∃ um, um = Lib.uvarint (Lib.zigzag m) := ⟨_, rfl⟩
  rw [← hun] at HPN HRN ln pn TN
  rw [← hum] at HPM HRM lm pm TM
  clear hr hun hum m0 m1
  go_enter Try.func10, Try.ntmps10
  go_wp2_with fail
  go_fit ((HPN _).out)
  rintro e w1 ⟨v1, rfl, ho1, hb1, _⟩
  obtain ⟨a1, c1, rfl, hlc1, hcm1, hr1⟩ := own_reads (l := un) ho1 (by omega)
  obtain ⟨b1, o1, rfl⟩ := reads_some hr1 (by omega)
  have B1 := Lib.hid hb1
  have z1 := hb1.size
  clear ho1 hb1 hcm1
  go_wp2_with fail
  go_fit ((HPM _).out)
  rintro e w2 ⟨v2, rfl, ho2, hb2, _⟩
  obtain ⟨a2, c2, rfl, hlc2, hcm2, hr2⟩ := own_reads (l := um) ho2 (by omega)
  obtain ⟨b2, o2, rfl⟩ := reads_some hr2 (by omega)
  have hr1 := hr1.below hb2
  have B2 := Lib.hid (B1.out.trans (hb2.mono z1))
  have z2 := hb2.size
  clear ho2 hb2 hcm2
  go_wp2_with fail
  go_fit ((HRN _).out)
  rintro e w3 ⟨v3, rfl, ho3, hb3, _⟩
  obtain ⟨a3, c3, rfl, _, _, hr3⟩ := own_reads (l := un) ho3 (by omega)
  have hr1 := hr1.below hb3
  have hr2 := hr2.below hb3
  have B3 := Lib.hid (B2.out.trans (hb3.mono (by omega)))
  have z3 := hb3.size
  clear ho3 hb3
  have HR1 := Lib.hid hr1
  have HR2 := Lib.hid hr2
  have HR3 := Lib.hid hr3
  clear hr1 hr2 hr3
  go_wp2_with fail
  go_fit (Bytes_same _ _ c1 c3 un _ HR1.out HR3.out)
  rintro e w4 ⟨rfl, rfl⟩
  go_wp2_with fail
  go_fit ((HRM _).out)
  rintro e w4 ⟨v4, rfl, ho4, hb4, _⟩
  obtain ⟨a4, c4, rfl, _, _, hr4⟩ := own_reads (l := um) ho4 (by omega)
  have HR1' := Lib.hid (HR1.out.below hb4)
  have HR2' := Lib.hid (HR2.out.below hb4)
  have HR4 := Lib.hid hr4
  have B4 := Lib.hid (B3.out.trans (hb4.mono (by omega)))
  have z4 := hb4.size
  clear ho4 hb4 hr4 HR1 HR2 HR3
  go_wp2_with fail
  go_fit (Bytes_same _ _ c2 c4 um _ HR2'.out HR4.out)
  rintro e w5 ⟨rfl, rfl⟩
  have HBWx := Lib.hid B4.out
  have hmadex := World.ownsRow_made (e := 5) (size := 1) w4 #[] 0 (Nat.le_refl w4.heap.size) (by decide) rfl
  have HMx := Lib.hid hmadex
  clear hmadex
  have HAx := Lib.hid (HR1'.out.below ((Below.refl w4.heap.size w4).alloc (Nat.le_refl _) (Obj.cells #[] 5)))
  go_wp2_with (at_builtin; refine wpList_append_own _ rfl _ _ 45 rfl w4.heap.size 5 i0 (.int .u8 0) 1 1 Try.underlying45 hi hz0 hz1 hz2 rfl (by decide) _ 0 [] rfl HMx.out ⟨b1, o1, none⟩ un.length c1 (Lib.byteCells un) rfl ?lx ?c1x ?c2x ?c3x ?c4x ?c5x ?_)
  case lx => simp [Lib.byteCells]
  case c1x => exact reads_cells HAx.out
  case c2x => exact byteCells_one' un
  case c3x => unfold maxLen; omega
  case c4x => omega
  case c5x => simp
  intro v6x w6x ho6x hg6x _
  have b6x : Below w4.heap.size w4 w6x := ((Below.refl w4.heap.size w4).alloc (Nat.le_refl _) _).grown hg6x (by simp) (fun k hk => (HMx.out.lt k hk).1)
  have HB6x := Lib.hid b6x
  have HO6x := Lib.hid ho6x
  have z6x := b6x.size
  clear b6x hg6x
  have HLx := Lib.hid ((HR.out.below HBWx.out).below HB6x.out)
  go_wp2_with (at_builtin; refine wpList_append_own _ rfl _ _ 45 rfl w4.heap.size 5 i0 (.int .u8 0) 1 1 Try.underlying45 hi hz0 hz1 hz2 rfl (by decide) _ _ _ rfl ho6x ad l.length cap (Lib.byteCells l) rfl ?mx ?d1x ?d2x ?d3x ?d4x ?d5x ?_)
  case mx => simp [Lib.byteCells]
  case d1x => exact reads_cells HLx.out
  case d2x => exact byteCells_one' l
  case d3x => unfold maxLen; omega
  case d4x => omega
  case d5x => omega
  intro v7x w7x ho7x hg7x _
  have b7x : Below w4.heap.size w4 w7x := HB6x.out.grown hg7x (by omega) (fun k hk => (HO6x.out.lt k hk).1)
  obtain ⟨a7x, c7x, rfl, hl7x, hc7x, hr7x⟩ := own_reads (l := un ++ l) (by rw [byteCells_app]; exact ho7x) (by rw [List.length_append])
  clear hg7x ho7x ho6x
  have HB7x := Lib.hid b7x
  have z7x := b7x.size
  have TKx := TakeUint_any a7x c7x (un ++ l) (by unfold maxLen at hc7x; omega) w7x hr7x
  rw [TN.out, List.length_append] at TKx
  have HTKx := Lib.hid TKx
  clear TKx b7x hr7x hl7x hc7x
  go_wp2_with fail
  go_fit (HTKx.out)
  rintro e w8x ⟨rfl, rfl⟩
  have HBWy := Lib.hid (B4.out.trans (HB7x.out.mono (by omega)))
  have HR2y := Lib.hid (HR2'.out.below HB7x.out)
  have hmadey := World.ownsRow_made (e := 5) (size := 1) w7x #[] 0 (Nat.le_refl w7x.heap.size) (by decide) rfl
  have HMy := Lib.hid hmadey
  clear hmadey
  have HAy := Lib.hid (HR2y.out.below ((Below.refl w7x.heap.size w7x).alloc (Nat.le_refl _) (Obj.cells #[] 5)))
  go_wp2_with (at_builtin; refine wpList_append_own _ rfl _ _ 45 rfl w7x.heap.size 5 i0 (.int .u8 0) 1 1 Try.underlying45 hi hz0 hz1 hz2 rfl (by decide) _ 0 [] rfl HMy.out ⟨b2, o2, none⟩ um.length c2 (Lib.byteCells um) rfl ?ly ?c1y ?c2y ?c3y ?c4y ?c5y ?_)
  case ly => simp [Lib.byteCells]
  case c1y => exact reads_cells HAy.out
  case c2y => exact byteCells_one' um
  case c3y => unfold maxLen; omega
  case c4y => omega
  case c5y => simp
  intro v6y w6y ho6y hg6y _
  have b6y : Below w7x.heap.size w7x w6y := ((Below.refl w7x.heap.size w7x).alloc (Nat.le_refl _) _).grown hg6y (by simp) (fun k hk => (HMy.out.lt k hk).1)
  have HB6y := Lib.hid b6y
  have HO6y := Lib.hid ho6y
  have z6y := b6y.size
  clear b6y hg6y
  have HLy := Lib.hid ((HR.out.below HBWy.out).below HB6y.out)
  go_wp2_with (at_builtin; refine wpList_append_own _ rfl _ _ 45 rfl w7x.heap.size 5 i0 (.int .u8 0) 1 1 Try.underlying45 hi hz0 hz1 hz2 rfl (by decide) _ _ _ rfl ho6y ad l.length cap (Lib.byteCells l) rfl ?my ?d1y ?d2y ?d3y ?d4y ?d5y ?_)
  case my => simp [Lib.byteCells]
  case d1y => exact reads_cells HLy.out
  case d2y => exact byteCells_one' l
  case d3y => unfold maxLen; omega
  case d4y => omega
  case d5y => omega
  intro v7y w7y ho7y hg7y _
  have b7y : Below w7x.heap.size w7x w7y := HB6y.out.grown hg7y (by omega) (fun k hk => (HO6y.out.lt k hk).1)
  obtain ⟨a7y, c7y, rfl, hl7y, hc7y, hr7y⟩ := own_reads (l := um ++ l) (by rw [byteCells_app]; exact ho7y) (by rw [List.length_append])
  clear hg7y ho7y ho6y
  have HB7y := Lib.hid b7y
  have z7y := b7y.size
  have TKy := TakeInt_any a7y c7y (um ++ l) (by unfold maxLen at hc7y; omega) w7y hr7y
  rw [TM.out, List.length_append] at TKy
  simp only [unzig_zigzag] at TKy
  have HTKy := Lib.hid TKy
  clear TKy b7y hr7y hl7y hc7y
  go_wp2_with fail
  go_fit (HTKy.out)
  rintro e w8y ⟨rfl, rfl⟩
  have HB9 := Lib.hid (HBWy.out.trans (HB7y.out.mono (by omega)))
  have hfin := Lib.hid (show w.heap.size ≤ w7y.heap.size by omega)
  go_wp2_with fail
  go_fit (lives2_any _)
  rintro e w9 ⟨rfl, hb9⟩
  have HBf := Lib.hid (HB9.out.trans (hb9.mono hfin.out))
  clear hb9
  go_wp2_with fail
  go_ret
  exact ⟨rfl, HBf.out⟩

set_option maxHeartbeats 4000000 in
set_option maxRecDepth 100000 in
theorem walk_none (n : Nat) (hn : n < 18446744073709551616) (m : Int) (m0 : -9223372036854775808 ≤ m) (m1 : m ≤ 9223372036854775807) (w : World) :
    Calls Try.prog 10 #[.int .u64 n, .int .i64 m, .slice none 0 0] w fun e w' => e = .returned (.bool true) ∧ Below w.heap.size w w' := by
  obtain ⟨i0, hi, hz0, hz1, hz2⟩ := info_parts info8
  have HPN := fun w => Lib.hid (PutUint_any n hn w)
  have HPM := fun w => Lib.hid (PutInt_any m m0 m1 w)
  have HRN := fun w => Lib.hid (refPutUint_any n hn w)
  have HRM := fun w => Lib.hid (refPutInt_any m m0 m1 w)
  have ln := Lib.uvarint_length64 hn
  have lm := Lib.uvarint_length64 (Lib.zigzag_lt m0 m1)
  have pn := Lib.uvarint_pos n
  have pm := Lib.uvarint_pos (Lib.zigzag m)
  have TN0 := take_put n [] hn
  rw [List.append_nil] at TN0
  have TN := Lib.hid TN0
  clear TN0
  have TM0 := take_put (Lib.zigzag m) [] (Lib.zigzag_lt m0 m1)
  rw [List.append_nil] at TM0
  have TM := Lib.hid TM0
  clear TM0
  obtain ⟨un, hun⟩ : ∃ un, un = Lib.uvarint n := ⟨_, rfl⟩
  obtain ⟨um, hum⟩ : ∃ um, um = Lib.uvarint (Lib.zigzag m) := ⟨_, rfl⟩
  rw [← hun] at HPN HRN ln pn TN
  rw [← hum] at HPM HRM lm pm TM
  clear hun hum m0 m1
  go_enter Try.func10, Try.ntmps10
  go_wp2_with fail
  go_fit ((HPN _).out)
  rintro e w1 ⟨v1, rfl, ho1, hb1, _⟩
  obtain ⟨a1, c1, rfl, hlc1, hcm1, hr1⟩ := own_reads (l := un) ho1 (by omega)
  obtain ⟨b1, o1, rfl⟩ := reads_some hr1 (by omega)
  have B1 := Lib.hid hb1
  have z1 := hb1.size
  clear ho1 hb1 hcm1
  go_wp2_with fail
  go_fit ((HPM _).out)
  rintro e w2 ⟨v2, rfl, ho2, hb2, _⟩
  obtain ⟨a2, c2, rfl, hlc2, hcm2, hr2⟩ := own_reads (l := um) ho2 (by omega)
  obtain ⟨b2, o2, rfl⟩ := reads_some hr2 (by omega)
  have hr1 := hr1.below hb2
  have B2 := Lib.hid (B1.out.trans (hb2.mono z1))
  have z2 := hb2.size
  clear ho2 hb2 hcm2
  go_wp2_with fail
  go_fit ((HRN _).out)
  rintro e w3 ⟨v3, rfl, ho3, hb3, _⟩
  obtain ⟨a3, c3, rfl, _, _, hr3⟩ := own_reads (l := un) ho3 (by omega)
  have hr1 := hr1.below hb3
  have hr2 := hr2.below hb3
  have B3 := Lib.hid (B2.out.trans (hb3.mono (by omega)))
  have z3 := hb3.size
  clear ho3 hb3
  have HR1 := Lib.hid hr1
  have HR2 := Lib.hid hr2
  have HR3 := Lib.hid hr3
  clear hr1 hr2 hr3
  go_wp2_with fail
  go_fit (Bytes_same _ _ c1 c3 un _ HR1.out HR3.out)
  rintro e w4 ⟨rfl, rfl⟩
  go_wp2_with fail
  go_fit ((HRM _).out)
  rintro e w4 ⟨v4, rfl, ho4, hb4, _⟩
  obtain ⟨a4, c4, rfl, _, _, hr4⟩ := own_reads (l := um) ho4 (by omega)
  have HR1' := Lib.hid (HR1.out.below hb4)
  have HR2' := Lib.hid (HR2.out.below hb4)
  have HR4 := Lib.hid hr4
  have B4 := Lib.hid (B3.out.trans (hb4.mono (by omega)))
  have z4 := hb4.size
  clear ho4 hb4 hr4 HR1 HR2 HR3
  go_wp2_with fail
  go_fit (Bytes_same _ _ c2 c4 um _ HR2'.out HR4.out)
  rintro e w5 ⟨rfl, rfl⟩
  have HBWx := Lib.hid B4.out
  have hmadex := World.ownsRow_made (e := 5) (size := 1) w4 #[] 0 (Nat.le_refl w4.heap.size) (by decide) rfl
  have HMx := Lib.hid hmadex
  clear hmadex
  have HAx := Lib.hid (HR1'.out.below ((Below.refl w4.heap.size w4).alloc (Nat.le_refl _) (Obj.cells #[] 5)))
  go_wp2_with (at_builtin; refine wpList_append_own _ rfl _ _ 45 rfl w4.heap.size 5 i0 (.int .u8 0) 1 1 Try.underlying45 hi hz0 hz1 hz2 rfl (by decide) _ 0 [] rfl HMx.out ⟨b1, o1, none⟩ un.length c1 (Lib.byteCells un) rfl ?lx ?c1x ?c2x ?c3x ?c4x ?c5x ?_)
  case lx => simp [Lib.byteCells]
  case c1x => exact reads_cells HAx.out
  case c2x => exact byteCells_one' un
  case c3x => unfold maxLen; omega
  case c4x => omega
  case c5x => simp
  intro v6x w6x ho6x hg6x _
  have b6x : Below w4.heap.size w4 w6x := ((Below.refl w4.heap.size w4).alloc (Nat.le_refl _) _).grown hg6x (by simp) (fun k hk => (HMx.out.lt k hk).1)
  have HB6x := Lib.hid b6x
  have HO6x := Lib.hid ho6x
  have z6x := b6x.size
  clear b6x hg6x
  obtain ⟨w7x, hw7x⟩ : ∃ x, x = w6x := ⟨_, rfl⟩
  have b7x := HB6x.out
  rw [← hw7x] at b7x ho6x ⊢
  clear hw7x
  obtain ⟨a7x, c7x, rfl, hl7x, hc7x, hr7x⟩ := own_reads (l := un) (by simpa using ho6x) rfl
  go_wp2_with (at_builtin; refine wpList_append_own_none rfl _ _ 45 rfl w4.heap.size 5 i0 1 Try.underlying45 hi (.slice a7x un.length c7x) _ _ rfl ho6x rfl ?_)
  clear ho6x
  have HB7x := Lib.hid b7x
  have z7x := b7x.size
  have TKx := TakeUint_any a7x c7x un (by unfold maxLen at hc7x; omega) w7x hr7x
  rw [TN.out] at TKx
  have HTKx := Lib.hid TKx
  clear TKx b7x hr7x hl7x hc7x
  go_wp2_with fail
  go_fit (HTKx.out)
  rintro e w8x ⟨rfl, rfl⟩
  have HBWy := Lib.hid (B4.out.trans (HB7x.out.mono (by omega)))
  have HR2y := Lib.hid (HR2'.out.below HB7x.out)
  have hmadey := World.ownsRow_made (e := 5) (size := 1) w7x #[] 0 (Nat.le_refl w7x.heap.size) (by decide) rfl
  have HMy := Lib.hid hmadey
  clear hmadey
  have HAy := Lib.hid (HR2y.out.below ((Below.refl w7x.heap.size w7x).alloc (Nat.le_refl _) (Obj.cells #[] 5)))
  go_wp2_with (at_builtin; refine wpList_append_own _ rfl _ _ 45 rfl w7x.heap.size 5 i0 (.int .u8 0) 1 1 Try.underlying45 hi hz0 hz1 hz2 rfl (by decide) _ 0 [] rfl HMy.out ⟨b2, o2, none⟩ um.length c2 (Lib.byteCells um) rfl ?ly ?c1y ?c2y ?c3y ?c4y ?c5y ?_)
  case ly => simp [Lib.byteCells]
  case c1y => exact reads_cells HAy.out
  case c2y => exact byteCells_one' um
  case c3y => unfold maxLen; omega
  case c4y => omega
  case c5y => simp
  intro v6y w6y ho6y hg6y _
  have b6y : Below w7x.heap.size w7x w6y := ((Below.refl w7x.heap.size w7x).alloc (Nat.le_refl _) _).grown hg6y (by simp) (fun k hk => (HMy.out.lt k hk).1)
  have HB6y := Lib.hid b6y
  have HO6y := Lib.hid ho6y
  have z6y := b6y.size
  clear b6y hg6y
  obtain ⟨w7y, hw7y⟩ : ∃ x, x = w6y := ⟨_, rfl⟩
  have b7y := HB6y.out
  rw [← hw7y] at b7y ho6y ⊢
  clear hw7y
  obtain ⟨a7y, c7y, rfl, hl7y, hc7y, hr7y⟩ := own_reads (l := um) (by simpa using ho6y) rfl
  go_wp2_with (at_builtin; refine wpList_append_own_none rfl _ _ 45 rfl w7x.heap.size 5 i0 1 Try.underlying45 hi (.slice a7y um.length c7y) _ _ rfl ho6y rfl ?_)
  clear ho6y
  have HB7y := Lib.hid b7y
  have z7y := b7y.size
  have TKy := TakeInt_any a7y c7y um (by unfold maxLen at hc7y; omega) w7y hr7y
  rw [TM.out] at TKy
  simp only [unzig_zigzag] at TKy
  have HTKy := Lib.hid TKy
  clear TKy b7y hr7y hl7y hc7y
  go_wp2_with fail
  go_fit (HTKy.out)
  rintro e w8y ⟨rfl, rfl⟩
  have HB9 := Lib.hid (HBWy.out.trans (HB7y.out.mono (by omega)))
  have hfin := Lib.hid (show w.heap.size ≤ w7y.heap.size by omega)
  go_wp2_with fail
  go_fit (lives2_any _)
  rintro e w9 ⟨rfl, hb9⟩
  have HBf := Lib.hid (HB9.out.trans (hb9.mono hfin.out))
  clear hb9
  go_wp2_with fail
  go_ret
  exact ⟨rfl, HBf.out⟩
end Go.Proofs.Ythggcagbanndgaa
