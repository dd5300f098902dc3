/- The condition that each statement of layer 7 asks first: it is met (value). -/
import Derived.Test.YtabopneehhnhfaaGreatDoorVluMf
import Derived.Test.YtabopneehhnhfaaGreatDoorVluG
import Derived.Test.YtabopneehhnhfaaGreatDoorVluR
import Derived.Test.YtabopneehhnhfaaGreatDoorVluY
import Derived.Test.YtabopneehhnhfaaGreatDoorVluL
import Derived.Deep.RegionHeld3
import Derived.Test.YtabopneehhnhfaaGreatDoorVluRa
namespace Go.Proofs.YtabopneehhnhfaaGreatDoor
open Go.RowKit Go.Lib

theorem e_text : textV 0 (.mk 2 false (-5) ⟨#[]⟩ [] []) = (⟨#[45, 53]⟩, 0) := by kernel_rfl
theorem e_get : getV vM (⟨#[107, 49, 48]⟩ : ByteArray).data.toList = some vOne := by kernel_rfl
theorem e_vars : varsL vM = [(kA, vA), (kB, vOne)] ∧ varsE vM = 0 := ⟨by kernel_rfl, by kernel_rfl⟩
theorem e_show : showB 1 vM = ⟨#[123, 34, 107, 50, 34, 58, 32, 34, 97, 34, 44, 32, 34, 107, 49, 48, 34, 58, 32, 49, 125]⟩ := by kernel_rfl
theorem e_cmp : cmpV 1 vOne vM = -1 := by kernel_rfl
theorem e_eq : cmpV 1 vM vM = 0 := by kernel_rfl
set_option maxHeartbeats 8000000 in
set_option maxRecDepth 100000 in
theorem awake_any (w : World) (hT : TabP w) :
    Calls Tryz.prog 14 #[] w fun e w' => e = .returned (.bool true) ∧ Below w.heap.size w w' := by
  have HT := Lib.hid hT
  have X0 := Lib.hid (CellsAt.new w 55 exCells)
  have B0 := Lib.hid ((Below.refl w.heap.size w).alloc (Nat.le_refl _) (.cells exCells 55))
  have MX := Lib.hid (fun w' h => map_ex w' w.heap.size h)
  clear hT
  go_enter Tryz.func14, Tryz.ntmps14
  go_wp2_with fail
  go_fit (MX.out _ X0.out)
  rintro e w1 ⟨av, c, kv, kc, rfl, hM, hb1⟩
  have B1 := Lib.hid (B0.out.trans (hb1.mono B0.out.size))
  have HM := Lib.hid hM
  have hks : ReadsStr w1 kv [kA, kB] := by
    obtain ⟨k', t', i', s', l', ks', av', c', kv', kc', e, eR, _, _, _, _, _, _, _, _, _, _, q1, q2⟩ := hM
    injection e with e1 e2 e3 e4 e5 e6
    subst e1 e2 e3 e4 e5 e6
    simp only [Value.agg.injEq, Array.mk.injEq, List.cons.injEq, Value.slice.injEq, true_and, and_true] at eR
    obtain ⟨⟨rfl, _⟩, rfl, _⟩ := eR
    exact q1
  obtain ⟨bk, ok, rfl, hk0, ck0⟩ := hks 0 (by decide)
  obtain ⟨bk', ok', e, _, ck1⟩ := hks 1 (by decide)
  cases e
  have ck0 : w1.cell? ⟨bk, ok, none⟩ = some (.string ⟨#[107, 50]⟩) := ck0
  have ck1 : w1.cell? ⟨bk, ok + 1, none⟩ = some (.string ⟨#[107, 49, 48]⟩) := ck1
  have C1 := CellsAt.new w1 25 #[.int .i64 5, .bool false, .int .i64 0, .string ⟨#[]⟩, .slice av 2 c, .slice (some ⟨bk, ok, none⟩) 2 kc]
  have BM := Lib.hid ((Below.refl w1.heap.size w1).alloc (Nat.le_refl _) (.cells #[.int .i64 5, .bool false, .int .i64 0, .string ⟨#[]⟩, .slice av 2 c, .slice (some ⟨bk, ok, none⟩) 2 kc] 25))
  have VD := Lib.hid (fun w' (h : Below w1.heap.size w1 w') => by have M := validV_any 1 _ vM w' (hM.below h); rwa [show errV 16 vM = 0 by decide +kernel] at M)
  have TX := Lib.hid (fun w' (h : Below w.heap.size w w') => text_any 0 (.agg #[.int .i64 2, .bool false, .int .i64 (-5), .string ⟨#[]⟩, .slice none 0 0, .slice none 0 0]) (.mk 2 false (-5) ⟨#[]⟩ [] []) w' (tabP_below HT.out h) ⟨2, false, -5, ⟨#[]⟩, [], [], none, 0, none, 0, rfl, rfl, by omega, by omega, by decide, by simp, by simp, by omega, by simp, by simp, by omega, by simp, fun k hk => by simp at hk, rfl⟩)
  clear hb1 X0 hks hM hk0
  go_wp2_with fail
  go_fit (VD.out _ BM.out)
  rintro e w2 ⟨rfl, hb2⟩
  have C2 := Lib.hid (C1.below hb2)
  have BM2 := Lib.hid (BM.out.trans (hb2.mono BM.out.size))
  clear hb2 C1 BM ck0 ck1
  go_wp2_with fail
  go_fit (TX.out _ (B1.out.trans (BM2.out.mono B1.out.size)))
  rw [e_text]
  rintro e w3 ⟨rfl, hb3⟩
  have C3 := C2.out.below hb3
  have BM3 := Lib.hid (BM2.out.trans (hb3.mono BM2.out.size))
  clear hb3 TX
  have m0 : w3.cell? ⟨w1.heap.size, 0, none⟩ = some (.int .i64 5) := C3.cell rfl
  have m1 : w3.cell? ⟨w1.heap.size, 1, none⟩ = some (.bool false) := C3.cell rfl
  have m2 : w3.cell? ⟨w1.heap.size, 2, none⟩ = some (.int .i64 0) := C3.cell rfl
  have m3 : w3.cell? ⟨w1.heap.size, 3, none⟩ = some (.string ⟨#[]⟩) := C3.cell rfl
  have m4 : w3.cell? ⟨w1.heap.size, 4, none⟩ = some (.slice av 2 c) := C3.cell rfl
  have m5 : w3.cell? ⟨w1.heap.size, 5, none⟩ = some (.slice (some ⟨bk, ok, none⟩) 2 kc) := C3.cell rfl
  have GT := Lib.hid (fun w' (h : Below w1.heap.size w1 w') => by have M := get_any 1 _ vM ⟨#[107, 49, 48]⟩ w' (HM.out.below h); rwa [e_get] at M)
  have C3 := Lib.hid C3
  go_wp2_with fail
  go_fit (GT.out _ BM3.out)
  rintro e w4 ⟨R, rfl, hR, hb4⟩
  obtain ⟨ax, cx, kx, ckx, rfl, _⟩ := isV_stb (show Stb w3.heap.size w4 (fun w2 => IsV 1 w2 R (.mk 2 false 1 ⟨#[]⟩ [] [])) from hR)
  have HX := Lib.hid (show IsV 1 w4 (.agg #[.int .i64 2, .bool false, .int .i64 1, .string ⟨#[]⟩, .slice ax 0 cx, .slice kx 0 ckx]) vOne from hR.here)
  have C4 := C3.out.below hb4
  have BM4 := Lib.hid (BM3.out.trans (hb4.mono BM3.out.size))
  have BX := Lib.hid (BM4.out.alloc BM4.out.size (.cells #[.int .i64 2, .bool false, .int .i64 1, .string ⟨#[]⟩, .slice ax 0 cx, .slice kx 0 ckx] 25))
  have CX := Lib.hid (CellsAt.new w4 25 #[.int .i64 2, .bool false, .int .i64 1, .string ⟨#[]⟩, .slice ax 0 cx, .slice kx 0 ckx])
  have C4x := Lib.hid (C4.alloc (.cells #[.int .i64 2, .bool false, .int .i64 1, .string ⟨#[]⟩, .slice ax 0 cx, .slice kx 0 ckx] 25))
  have HXx := Lib.hid (HX.out.below ((Below.refl w4.heap.size w4).alloc (Nat.le_refl _) (.cells #[.int .i64 2, .bool false, .int .i64 1, .string ⟨#[]⟩, .slice ax 0 cx, .slice kx 0 ckx] 25)))
  have VR := Lib.hid (fun w' (h : Below w1.heap.size w1 w') => by have M := vars_any 1 _ vM w' (HM.out.below h); rwa [e_vars.1, e_vars.2] at M)
  have n0 : w4.cell? ⟨w1.heap.size, 0, none⟩ = some (.int .i64 5) := C4.cell rfl
  have n1 : w4.cell? ⟨w1.heap.size, 1, none⟩ = some (.bool false) := C4.cell rfl
  have n2 : w4.cell? ⟨w1.heap.size, 2, none⟩ = some (.int .i64 0) := C4.cell rfl
  have n3 : w4.cell? ⟨w1.heap.size, 3, none⟩ = some (.string ⟨#[]⟩) := C4.cell rfl
  have n4 : w4.cell? ⟨w1.heap.size, 4, none⟩ = some (.slice av 2 c) := C4.cell rfl
  have n5 : w4.cell? ⟨w1.heap.size, 5, none⟩ = some (.slice (some ⟨bk, ok, none⟩) 2 kc) := C4.cell rfl
  have hz4 : w1.heap.size < w4.heap.size := C4.lt
  clear hR hb4 C4 m0 m1 m2 m3 m4 m5 GT HX
  go_wp2_with fail
  go_fit (VR.out _ BX.out)
  rintro e w5 ⟨la, lc, rfl, _, _, hL, hb5⟩
  have hL := hL.here
  obtain ⟨bl, ol, n9, k9, t9, i9, s9, l9, ks9, av9, c9, kv9, kc9, y0, rfl, y2, y3, _⟩ := hL 0 (by decide)
  have y0 : some (kA, vA) = some (n9, Vl.mk k9 t9 i9 s9 l9 ks9) := y0
  have y3 : w5.cell? ⟨bl, ol, none⟩ = some (.string ⟨#[107, 50]⟩) := by
    injection y0 with y0
    injection y0 with y0 _
    subst y0
    have y3 := y3
    rw [Nat.zero_mul, Nat.add_zero] at y3
    exact y3
  have C5 := Lib.hid (C4x.out.below hb5)
  have CX5 := Lib.hid (CX.out.below hb5)
  have HX5 := Lib.hid (HXx.out.below hb5)
  have BM5 := Lib.hid (BX.out.trans (hb5.mono BX.out.size))
  have x0 : w5.cell? ⟨w4.heap.size, 0, none⟩ = some (.int .i64 2) := CX5.out.cell rfl
  have x1 : w5.cell? ⟨w4.heap.size, 1, none⟩ = some (.bool false) := CX5.out.cell rfl
  have x2 : w5.cell? ⟨w4.heap.size, 2, none⟩ = some (.int .i64 1) := CX5.out.cell rfl
  have x3 : w5.cell? ⟨w4.heap.size, 3, none⟩ = some (.string ⟨#[]⟩) := CX5.out.cell rfl
  have x4 : w5.cell? ⟨w4.heap.size, 4, none⟩ = some (.slice ax 0 cx) := CX5.out.cell rfl
  have x5 : w5.cell? ⟨w4.heap.size, 5, none⟩ = some (.slice kx 0 ckx) := CX5.out.cell rfl
  have n0 : w5.cell? ⟨w1.heap.size, 0, none⟩ = some (.int .i64 5) := C5.out.cell rfl
  have n1 : w5.cell? ⟨w1.heap.size, 1, none⟩ = some (.bool false) := C5.out.cell rfl
  have n2 : w5.cell? ⟨w1.heap.size, 2, none⟩ = some (.int .i64 0) := C5.out.cell rfl
  have n3 : w5.cell? ⟨w1.heap.size, 3, none⟩ = some (.string ⟨#[]⟩) := C5.out.cell rfl
  have n4 : w5.cell? ⟨w1.heap.size, 4, none⟩ = some (.slice av 2 c) := C5.out.cell rfl
  have n5 : w5.cell? ⟨w1.heap.size, 5, none⟩ = some (.slice (some ⟨bk, ok, none⟩) 2 kc) := C5.out.cell rfl
  have cv : ∀ (w : World) (B cap : Nat), w.cell? ⟨B, 0, none⟩ = some (.int .u8 34) → (convert 59 9 (.slice (some ⟨B, 0, none⟩) 1 cap)).run Tryz.prog w = .ok (.string ⟨#[34]⟩) w := fun w B cap h => conv_one 34 (by decide) (by decide) w B cap h
  have hz5 : w1.heap.size < w5.heap.size := C5.out.lt
  have hz6 : w4.heap.size < w5.heap.size := CX5.out.lt
  have BW : Hid (Below w.heap.size w w1) := B1
  have QB := Lib.hid (BM5.out.alloc BM5.out.size (.cells #[.int .u8 34] 5))
  have SH := Lib.hid (fun w' (h : Below w1.heap.size w1 w') => by have M := show_any 1 (.agg #[.int .i64 5, .bool false, .int .i64 0, .string ⟨#[]⟩, .slice av 2 c, .slice (some ⟨bk, ok, none⟩) 2 kc]) vM w' (tabP_below HT.out (B1.out.trans (h.mono B1.out.size))) (HM.out.below h) (fun _ => by decide +kernel); rwa [e_show] at M)
  have CP := Lib.hid (fun w' (h : Below w1.heap.size w1 w') (hx : IsV 1 w' (.agg #[.int .i64 2, .bool false, .int .i64 1, .string ⟨#[]⟩, .slice ax 0 cx, .slice kx 0 ckx]) vOne) => by have M := cmp_any 1 (.agg #[.int .i64 2, .bool false, .int .i64 1, .string ⟨#[]⟩, .slice ax 0 cx, .slice kx 0 ckx]) (.agg #[.int .i64 5, .bool false, .int .i64 0, .string ⟨#[]⟩, .slice av 2 c, .slice (some ⟨bk, ok, none⟩) 2 kc]) vOne vM w' hx (HM.out.below h); rwa [e_cmp] at M)
  have EQ := Lib.hid (fun w' (h : Below w1.heap.size w1 w') => by have M := equal_any 1 (.agg #[.int .i64 5, .bool false, .int .i64 0, .string ⟨#[]⟩, .slice av 2 c, .slice (some ⟨bk, ok, none⟩) 2 kc]) (.agg #[.int .i64 5, .bool false, .int .i64 0, .string ⟨#[]⟩, .slice av 2 c, .slice (some ⟨bk, ok, none⟩) 2 kc]) vM vM w' (HM.out.below h) (HM.out.below h); rwa [e_eq] at M)
  have CQ := Lib.hid (C5.out.alloc (.cells #[.int .u8 34] 5))
  have CXQ := Lib.hid (CX5.out.alloc (.cells #[.int .u8 34] 5))
  have HXQ := Lib.hid (HX5.out.below ((Below.refl w5.heap.size w5).alloc (Nat.le_refl _) (.cells #[.int .u8 34] 5)))
  have u1 := fun w => run_string_add_sum (P := Tryz.prog) w (⟨#[123]⟩) ⟨#[34]⟩ (by decide)
  have u2 := fun w => run_string_add_sum (P := Tryz.prog) w (⟨#[123]⟩ ++ ⟨#[34]⟩) ⟨#[107, 50]⟩ (by decide)
  have u3 := fun w => run_string_add_sum (P := Tryz.prog) w (⟨#[123]⟩ ++ ⟨#[34]⟩ ++ ⟨#[107, 50]⟩) ⟨#[34]⟩ (by decide)
  have u4 := fun w => run_string_add_sum (P := Tryz.prog) w (⟨#[123]⟩ ++ ⟨#[34]⟩ ++ ⟨#[107, 50]⟩ ++ ⟨#[34]⟩) ⟨#[58, 32]⟩ (by decide)
  have u5 := fun w => run_string_add_sum (P := Tryz.prog) w (⟨#[123]⟩ ++ ⟨#[34]⟩ ++ ⟨#[107, 50]⟩ ++ ⟨#[34]⟩ ++ ⟨#[58, 32]⟩) ⟨#[34]⟩ (by decide)
  have u6 := fun w => run_string_add_sum (P := Tryz.prog) w (⟨#[123]⟩ ++ ⟨#[34]⟩ ++ ⟨#[107, 50]⟩ ++ ⟨#[34]⟩ ++ ⟨#[58, 32]⟩ ++ ⟨#[34]⟩) ⟨#[97]⟩ (by decide)
  have u7 := fun w => run_string_add_sum (P := Tryz.prog) w (⟨#[123]⟩ ++ ⟨#[34]⟩ ++ ⟨#[107, 50]⟩ ++ ⟨#[34]⟩ ++ ⟨#[58, 32]⟩ ++ ⟨#[34]⟩ ++ ⟨#[97]⟩) ⟨#[34]⟩ (by decide)
  have u8 := fun w => run_string_add_sum (P := Tryz.prog) w (⟨#[123]⟩ ++ ⟨#[34]⟩ ++ ⟨#[107, 50]⟩ ++ ⟨#[34]⟩ ++ ⟨#[58, 32]⟩ ++ ⟨#[34]⟩ ++ ⟨#[97]⟩ ++ ⟨#[34]⟩) ⟨#[44, 32]⟩ (by decide)
  have u9 := fun w => run_string_add_sum (P := Tryz.prog) w (⟨#[123]⟩ ++ ⟨#[34]⟩ ++ ⟨#[107, 50]⟩ ++ ⟨#[34]⟩ ++ ⟨#[58, 32]⟩ ++ ⟨#[34]⟩ ++ ⟨#[97]⟩ ++ ⟨#[34]⟩ ++ ⟨#[44, 32]⟩) ⟨#[34]⟩ (by decide)
  have u10 := fun w => run_string_add_sum (P := Tryz.prog) w (⟨#[123]⟩ ++ ⟨#[34]⟩ ++ ⟨#[107, 50]⟩ ++ ⟨#[34]⟩ ++ ⟨#[58, 32]⟩ ++ ⟨#[34]⟩ ++ ⟨#[97]⟩ ++ ⟨#[34]⟩ ++ ⟨#[44, 32]⟩ ++ ⟨#[34]⟩) ⟨#[107, 49, 48]⟩ (by decide)
  have u11 := fun w => run_string_add_sum (P := Tryz.prog) w (⟨#[123]⟩ ++ ⟨#[34]⟩ ++ ⟨#[107, 50]⟩ ++ ⟨#[34]⟩ ++ ⟨#[58, 32]⟩ ++ ⟨#[34]⟩ ++ ⟨#[97]⟩ ++ ⟨#[34]⟩ ++ ⟨#[44, 32]⟩ ++ ⟨#[34]⟩ ++ ⟨#[107, 49, 48]⟩) ⟨#[34]⟩ (by decide)
  have u12 := fun w => run_string_add_sum (P := Tryz.prog) w (⟨#[123]⟩ ++ ⟨#[34]⟩ ++ ⟨#[107, 50]⟩ ++ ⟨#[34]⟩ ++ ⟨#[58, 32]⟩ ++ ⟨#[34]⟩ ++ ⟨#[97]⟩ ++ ⟨#[34]⟩ ++ ⟨#[44, 32]⟩ ++ ⟨#[34]⟩ ++ ⟨#[107, 49, 48]⟩ ++ ⟨#[34]⟩) ⟨#[58, 32, 49, 125]⟩ (by decide)
  clear hL hb5 y0 y2 CX C4x HXx VR
  go_wp2_with fail
  go_fit (SH.out _ QB.out)
  rintro e w6 ⟨rfl, hb6⟩
  have B6 := Lib.hid (QB.out.trans (hb6.mono QB.out.size))
  have HX6 := Lib.hid (HXQ.out.below hb6)
  have C6 := CQ.out.below hb6
  have CX6 := CXQ.out.below hb6
  have x0 : w6.cell? ⟨w4.heap.size, 0, none⟩ = some (.int .i64 2) := CX6.cell rfl
  have x1 : w6.cell? ⟨w4.heap.size, 1, none⟩ = some (.bool false) := CX6.cell rfl
  have x2 : w6.cell? ⟨w4.heap.size, 2, none⟩ = some (.int .i64 1) := CX6.cell rfl
  have x3 : w6.cell? ⟨w4.heap.size, 3, none⟩ = some (.string ⟨#[]⟩) := CX6.cell rfl
  have x4 : w6.cell? ⟨w4.heap.size, 4, none⟩ = some (.slice ax 0 cx) := CX6.cell rfl
  have x5 : w6.cell? ⟨w4.heap.size, 5, none⟩ = some (.slice kx 0 ckx) := CX6.cell rfl
  have n0 : w6.cell? ⟨w1.heap.size, 0, none⟩ = some (.int .i64 5) := C6.cell rfl
  have n1 : w6.cell? ⟨w1.heap.size, 1, none⟩ = some (.bool false) := C6.cell rfl
  have n2 : w6.cell? ⟨w1.heap.size, 2, none⟩ = some (.int .i64 0) := C6.cell rfl
  have n3 : w6.cell? ⟨w1.heap.size, 3, none⟩ = some (.string ⟨#[]⟩) := C6.cell rfl
  have n4 : w6.cell? ⟨w1.heap.size, 4, none⟩ = some (.slice av 2 c) := C6.cell rfl
  have n5 : w6.cell? ⟨w1.heap.size, 5, none⟩ = some (.slice (some ⟨bk, ok, none⟩) 2 kc) := C6.cell rfl
  clear hb6
  have C6 := Lib.hid C6
  go_wp2_with fail
  go_fit (CP.out _ B6.out HX6.out)
  rintro e w7 ⟨rfl, hb7⟩
  have B7 := Lib.hid (B6.out.trans (hb7.mono B6.out.size))
  have C7 := C6.out.below hb7
  have n0 : w7.cell? ⟨w1.heap.size, 0, none⟩ = some (.int .i64 5) := C7.cell rfl
  have n1 : w7.cell? ⟨w1.heap.size, 1, none⟩ = some (.bool false) := C7.cell rfl
  have n2 : w7.cell? ⟨w1.heap.size, 2, none⟩ = some (.int .i64 0) := C7.cell rfl
  have n3 : w7.cell? ⟨w1.heap.size, 3, none⟩ = some (.string ⟨#[]⟩) := C7.cell rfl
  have n4 : w7.cell? ⟨w1.heap.size, 4, none⟩ = some (.slice av 2 c) := C7.cell rfl
  have n5 : w7.cell? ⟨w1.heap.size, 5, none⟩ = some (.slice (some ⟨bk, ok, none⟩) 2 kc) := C7.cell rfl
  clear hb7
  go_wp2_with fail
  go_fit (EQ.out _ B7.out)
  rintro e w8 ⟨rfl, hb8⟩
  have B8 := Lib.hid (B7.out.trans (hb8.mono B7.out.size))
  clear hb8
  go_wp2_with fail
  go_ret
  exact ⟨rfl, B1.out.trans (B8.out.mono B1.out.size)⟩
  rename_i hne
  exact absurd (by rw [Lib.toList_data]; kernel_rfl) hne
end Go.Proofs.YtabopneehhnhfaaGreatDoor
