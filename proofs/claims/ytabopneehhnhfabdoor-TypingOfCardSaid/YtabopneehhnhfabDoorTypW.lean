/- Contracts of the document's Sub, Join, Meet (pipelineref08). -/
import Derived.Test.YtabopneehhnhfabDoorTypU
namespace Go.Proofs.YtabopneehhnhfabDoor
open Go.RowKit Go.Lib

set_option maxHeartbeats 1000000 in
theorem rSub_any (mA mB : Nat) (A B : Value) (x y : Ty) (w : World) (hA : IsT mA w A x) (hB : IsT mB w B y) :
    Calls Tryd.prog 20 #[A, B] w fun e w' => e = .returned (.bool (subT x y)) ∧ Below w.heap.size w w' := by
  have X := Lib.hid (fun w' (h : Below w.heap.size w w') => rGood_any mA mB A B x y w' (hA.below h) (hB.below h))
  cases hq : (okB x && okB y)
  · have E := Lib.hid (show subT x y = false by unfold subT; rw [hq]; rfl)
    rw [hq] at X
    obtain ⟨k, l, av, c, rfl, rfl, _, _, _⟩ := hA
    obtain ⟨k2, l2, av2, c2, rfl, rfl, _, _, _⟩ := hB
    clear hq
    go_enter Tryd.func20, Tryd.ntmps20
    go_wp2_with fail
    go_fit (X.out _ (by repeat (first | exact Below.refl _ _ | refine Below.setCell ?_ (by simp <;> omega) _ | refine Below.alloc ?_ (by simp <;> omega) _)))
    rintro e w1 ⟨rfl, hb1⟩
    have B1 := Lib.hid (Below.trans (show Below w.heap.size w _ from (by repeat (first | exact Below.refl _ _ | refine Below.setCell ?_ (by simp <;> omega) _ | refine Below.alloc ?_ (by simp <;> omega) _))) (hb1.mono (by simp <;> omega)))
    clear hb1
    go_wp2_with fail
    go_ret
    exact ⟨by rw [E.out]; rfl, B1.out⟩
  · have E := Lib.hid (show subT x y = subC (tcOf x) (tcOf y) by unfold subT; rw [hq]; rfl)
    rw [hq] at X
    rw [Bool.and_eq_true] at hq
    have hC := Lib.hid (fun w' (h : Below w.heap.size w w') => rContained_any (tcOf x) (tcOf y) A B w' (ok_tc hq.1).2.1 (ok_tc hq.2).2.1 ((isC_ok hA hq.1).below h) ((isC_ok hB hq.2).below h))
    obtain ⟨k, l, av, c, rfl, rfl, _, _, _⟩ := hA
    obtain ⟨k2, l2, av2, c2, rfl, rfl, _, _, _⟩ := hB
    clear hq
    go_enter Tryd.func20, Tryd.ntmps20
    go_wp2_with fail
    go_fit (X.out _ (by repeat (first | exact Below.refl _ _ | refine Below.setCell ?_ (by simp <;> omega) _ | refine Below.alloc ?_ (by simp <;> omega) _)))
    rintro e w1 ⟨rfl, hb1⟩
    have TA := ((TwoAt.new _ 24 (.int .i64 k) (.slice av l.length c)).alloc (.cells #[.int .i64 k2, .slice av2 l2.length c2] 24)).below hb1
    have TB := (TwoAt.new _ 24 (.int .i64 k2) (.slice av2 l2.length c2)).below hb1
    have B1 := Lib.hid (Below.trans (show Below w.heap.size w _ from (by repeat (first | exact Below.refl _ _ | refine Below.setCell ?_ (by simp <;> omega) _ | refine Below.alloc ?_ (by simp <;> omega) _))) (hb1.mono (by simp <;> omega)))
    simp only [World.size_alloc] at TB
    have c0 := TA.cell0
    have c1 := TA.cell1
    have d0 := TB.cell0
    have d1 := TB.cell1
    clear hb1
    go_wp2_with fail
    go_fit (hC.out _ B1.out)
    rintro e w2 ⟨rfl, hb2⟩
    have B2 := Lib.hid (B1.out.trans (hb2.mono B1.out.size))
    clear hb2
    go_wp2_with fail
    go_ret
    exact ⟨by rw [E.out]; rfl, B2.out⟩

set_option maxHeartbeats 1000000 in
theorem rJoin_any (mA mB : Nat) (A B : Value) (x y : Ty) (w : World) (hA : IsT mA w A x) (hB : IsT mB w B y) :
    Calls Tryd.prog 22 #[A, B] w fun e w' => ∃ V, e = .returned V ∧ IsC w' V (bndT 7 0 x y) ∧ Below w.heap.size w w' := by
  have X := Lib.hid (fun w' (h : Below w.heap.size w w') => rGood_any mA mB A B x y w' (hA.below h) (hB.below h))
  cases hq : (okB x && okB y)
  · have E := Lib.hid (show bndT 7 0 x y = .leaf 0 by unfold bndT; rw [hq]; rfl)
    rw [hq] at X
    have Z := Lib.hid (fun w => rPlain_any 0 w)
    obtain ⟨k, l, av, c, rfl, rfl, _, _, _⟩ := hA
    obtain ⟨k2, l2, av2, c2, rfl, rfl, _, _, _⟩ := hB
    clear hq
    go_enter Tryd.func22, Tryd.ntmps22
    go_wp2_with fail
    go_fit (X.out _ (by repeat (first | exact Below.refl _ _ | refine Below.setCell ?_ (by simp <;> omega) _ | refine Below.alloc ?_ (by simp <;> omega) _)))
    rintro e w1 ⟨rfl, hb1⟩
    have TR := (TwoAt.new _ 24 (.int .i64 0) (.slice none 0 0)).below hb1
    have B1 := Lib.hid (Below.trans (show Below w.heap.size w _ from (by repeat (first | exact Below.refl _ _ | refine Below.setCell ?_ (by simp <;> omega) _ | refine Below.alloc ?_ (by simp <;> omega) _))) (hb1.mono (by simp <;> omega)))
    simp only [World.size_alloc] at TR
    clear hb1
    go_wp2_with fail
    go_fit (Z.out _)
    rintro e w2 ⟨rfl, hb2⟩
    have TR := TR.below hb2
    have B2 := Lib.hid (B1.out.trans (hb2.mono B1.out.size))
    have t0 := TR.cell0
    have t1 := TR.cell1
    have tf0 := TR.frozen 0
    have tf1 := TR.frozen 1
    clear hb2
    go_wp2_with fail
    have TR2 := (TR.set0 (.int .i64 0)).set1 (.slice none 0 0)
    have u0 := TR2.cell0
    have u1 := TR2.cell1
    exact bodyPost_ret (v := .agg #[.int .i64 0, .slice none 0 0]) (by simp [results, Tryd.f22, go_sem, u0, u1]) rfl ⟨.agg #[.int .i64 0, .slice none 0 0], rfl, by rw [E.out]; exact ⟨none, 0, rfl, trivial⟩, (B2.out.setCell (by simp <;> omega) _).setCell (by simp <;> omega) _⟩
  · have E := Lib.hid (show bndT 7 0 x y = bndC 7 0 (tcOf x) (tcOf y) by unfold bndT; rw [hq]; rfl)
    rw [hq] at X
    rw [Bool.and_eq_true] at hq
    have hC := Lib.hid (fun w' (h : Below w.heap.size w w') => rjoin_any (tcOf x) (tcOf y) A B w' (· < w.heap.size) (fun _ hb => Nat.lt_of_lt_of_le hb h.size) (ok_tc hq.1).2.1 (ok_tc hq.2).2.1 ((IsP.ofC (isC_ok hA hq.1)).below (fun _ h => h) h) ((IsP.ofC (isC_ok hB hq.2)).below (fun _ h => h) h))
    have hR := bndC_ok 7 0 leaf0 (tcOf x) (tcOf y) (ok_tc hq.1).2.1 (ok_tc hq.2).2.1
    obtain ⟨k, l, av, c, rfl, rfl, _, _, _⟩ := hA
    obtain ⟨k2, l2, av2, c2, rfl, rfl, _, _, _⟩ := hB
    obtain ⟨r, hr⟩ : ∃ r, r = bndC 7 0 (tcOf (Ty.mk k l)) (tcOf (Ty.mk k2 l2)) := ⟨_, rfl⟩
    rw [← hr] at hC hR E
    clear hq hr hR
    go_enter Tryd.func22, Tryd.ntmps22
    go_wp2_with fail
    go_fit (X.out _ (by repeat (first | exact Below.refl _ _ | refine Below.setCell ?_ (by simp <;> omega) _ | refine Below.alloc ?_ (by simp <;> omega) _)))
    rintro e w1 ⟨rfl, hb1⟩
    have TA := ((TwoAt.new _ 24 (.int .i64 k) (.slice av l.length c)).alloc (.cells #[.int .i64 k2, .slice av2 l2.length c2] 24)).alloc (.cells #[.int .i64 0, .slice none 0 0] 24) |>.below hb1
    have TB := ((TwoAt.new _ 24 (.int .i64 k2) (.slice av2 l2.length c2)).alloc (.cells #[.int .i64 0, .slice none 0 0] 24)).below hb1
    have TR := (TwoAt.new _ 24 (.int .i64 0) (.slice none 0 0)).below hb1
    have B1 := Lib.hid (Below.trans (show Below w.heap.size w _ from (by repeat (first | exact Below.refl _ _ | refine Below.setCell ?_ (by simp <;> omega) _ | refine Below.alloc ?_ (by simp <;> omega) _))) (hb1.mono (by simp <;> omega)))
    simp only [World.size_alloc] at TB TR
    have c0 := TA.cell0
    have c1 := TA.cell1
    have d0 := TB.cell0
    have d1 := TB.cell1
    clear hb1
    go_wp2_with fail
    go_fit (hC.out _ B1.out)
    rintro e w2 ⟨V, rfl, hV, hb2⟩
    have hlt := TR.lt
    have B3 := Lib.hid (B1.out.trans (hb2.mono B1.out.size))
    have TR := TR.below hb2
    have HV := Lib.hid hV
    have hb3 := hb2
    clear hb2
    obtain ⟨sv, sc, rfl, _⟩ := hV
    have t0 := TR.cell0
    have t1 := TR.cell1
    have tf0 := TR.frozen 0
    have tf1 := TR.frozen 1
    clear hb3
    go_wp2_with fail
    have TR2 := (TR.set0 (.int .i64 r.kd)).set1 (.slice sv r.ln sc)
    have u0 := TR2.cell0
    have u1 := TR2.cell1
    exact bodyPost_ret (v := .agg #[.int .i64 r.kd, .slice sv r.ln sc]) (by simp [results, Tryd.f22, go_sem, u0, u1]) rfl ⟨_, rfl, by rw [E.out]; exact isC_store HV.out (by omega) hlt _ _, (B3.out.setCell (by simp <;> omega) _).setCell (by simp <;> omega) _⟩

set_option maxHeartbeats 1000000 in
theorem rMeet_any (mA mB : Nat) (A B : Value) (x y : Ty) (w : World) (hA : IsT mA w A x) (hB : IsT mB w B y) :
    Calls Tryd.prog 24 #[A, B] w fun e w' => ∃ V, e = .returned V ∧ IsC w' V (bndT 0 7 x y) ∧ Below w.heap.size w w' := by
  have X := Lib.hid (fun w' (h : Below w.heap.size w w') => rGood_any mA mB A B x y w' (hA.below h) (hB.below h))
  cases hq : (okB x && okB y)
  · have E := Lib.hid (show bndT 0 7 x y = .leaf 7 by unfold bndT; rw [hq]; rfl)
    rw [hq] at X
    have Z := Lib.hid (fun w => rPlain_any 7 w)
    obtain ⟨k, l, av, c, rfl, rfl, _, _, _⟩ := hA
    obtain ⟨k2, l2, av2, c2, rfl, rfl, _, _, _⟩ := hB
    clear hq
    go_enter Tryd.func24, Tryd.ntmps24
    go_wp2_with fail
    go_fit (X.out _ (by repeat (first | exact Below.refl _ _ | refine Below.setCell ?_ (by simp <;> omega) _ | refine Below.alloc ?_ (by simp <;> omega) _)))
    rintro e w1 ⟨rfl, hb1⟩
    have TR := (TwoAt.new _ 24 (.int .i64 0) (.slice none 0 0)).below hb1
    have B1 := Lib.hid (Below.trans (show Below w.heap.size w _ from (by repeat (first | exact Below.refl _ _ | refine Below.setCell ?_ (by simp <;> omega) _ | refine Below.alloc ?_ (by simp <;> omega) _))) (hb1.mono (by simp <;> omega)))
    simp only [World.size_alloc] at TR
    clear hb1
    go_wp2_with fail
    go_fit (Z.out _)
    rintro e w2 ⟨rfl, hb2⟩
    have TR := TR.below hb2
    have B2 := Lib.hid (B1.out.trans (hb2.mono B1.out.size))
    have t0 := TR.cell0
    have t1 := TR.cell1
    have tf0 := TR.frozen 0
    have tf1 := TR.frozen 1
    clear hb2
    go_wp2_with fail
    have TR2 := (TR.set0 (.int .i64 7)).set1 (.slice none 0 0)
    have u0 := TR2.cell0
    have u1 := TR2.cell1
    exact bodyPost_ret (v := .agg #[.int .i64 7, .slice none 0 0]) (by simp [results, Tryd.f24, go_sem, u0, u1]) rfl ⟨.agg #[.int .i64 7, .slice none 0 0], rfl, by rw [E.out]; exact ⟨none, 0, rfl, trivial⟩, (B2.out.setCell (by simp <;> omega) _).setCell (by simp <;> omega) _⟩
  · have E := Lib.hid (show bndT 0 7 x y = bndC 0 7 (tcOf x) (tcOf y) by unfold bndT; rw [hq]; rfl)
    rw [hq] at X
    rw [Bool.and_eq_true] at hq
    have hC := Lib.hid (fun w' (h : Below w.heap.size w w') => rmeet_any (tcOf x) (tcOf y) A B w' (· < w.heap.size) (fun _ hb => Nat.lt_of_lt_of_le hb h.size) (ok_tc hq.1).2.1 (ok_tc hq.2).2.1 ((IsP.ofC (isC_ok hA hq.1)).below (fun _ h => h) h) ((IsP.ofC (isC_ok hB hq.2)).below (fun _ h => h) h))
    have hR := bndC_ok 0 7 leaf7 (tcOf x) (tcOf y) (ok_tc hq.1).2.1 (ok_tc hq.2).2.1
    obtain ⟨k, l, av, c, rfl, rfl, _, _, _⟩ := hA
    obtain ⟨k2, l2, av2, c2, rfl, rfl, _, _, _⟩ := hB
    obtain ⟨r, hr⟩ : ∃ r, r = bndC 0 7 (tcOf (Ty.mk k l)) (tcOf (Ty.mk k2 l2)) := ⟨_, rfl⟩
    rw [← hr] at hC hR E
    clear hq hr hR
    go_enter Tryd.func24, Tryd.ntmps24
    go_wp2_with fail
    go_fit (X.out _ (by repeat (first | exact Below.refl _ _ | refine Below.setCell ?_ (by simp <;> omega) _ | refine Below.alloc ?_ (by simp <;> omega) _)))
    rintro e w1 ⟨rfl, hb1⟩
    have TA := ((TwoAt.new _ 24 (.int .i64 k) (.slice av l.length c)).alloc (.cells #[.int .i64 k2, .slice av2 l2.length c2] 24)).alloc (.cells #[.int .i64 0, .slice none 0 0] 24) |>.below hb1
    have TB := ((TwoAt.new _ 24 (.int .i64 k2) (.slice av2 l2.length c2)).alloc (.cells #[.int .i64 0, .slice none 0 0] 24)).below hb1
    have TR := (TwoAt.new _ 24 (.int .i64 0) (.slice none 0 0)).below hb1
    have B1 := Lib.hid (Below.trans (show Below w.heap.size w _ from (by repeat (first | exact Below.refl _ _ | refine Below.setCell ?_ (by simp <;> omega) _ | refine Below.alloc ?_ (by simp <;> omega) _))) (hb1.mono (by simp <;> omega)))
    simp only [World.size_alloc] at TB TR
    have c0 := TA.cell0
    have c1 := TA.cell1
    have d0 := TB.cell0
    have d1 := TB.cell1
    clear hb1
    go_wp2_with fail
    go_fit (hC.out _ B1.out)
    rintro e w2 ⟨V, rfl, hV, hb2⟩
    have hlt := TR.lt
    have B3 := Lib.hid (B1.out.trans (hb2.mono B1.out.size))
    have TR := TR.below hb2
    have HV := Lib.hid hV
    have hb3 := hb2
    clear hb2
    obtain ⟨sv, sc, rfl, _⟩ := hV
    have t0 := TR.cell0
    have t1 := TR.cell1
    have tf0 := TR.frozen 0
    have tf1 := TR.frozen 1
    clear hb3
    go_wp2_with fail
    have TR2 := (TR.set0 (.int .i64 r.kd)).set1 (.slice sv r.ln sc)
    have u0 := TR2.cell0
    have u1 := TR2.cell1
    exact bodyPost_ret (v := .agg #[.int .i64 r.kd, .slice sv r.ln sc]) (by simp [results, Tryd.f24, go_sem, u0, u1]) rfl ⟨_, rfl, by rw [E.out]; exact isC_store HV.out (by omega) hlt _ _, (B3.out.setCell (by simp <;> omega) _).setCell (by simp <;> omega) _⟩
end Go.Proofs.YtabopneehhnhfabDoor
