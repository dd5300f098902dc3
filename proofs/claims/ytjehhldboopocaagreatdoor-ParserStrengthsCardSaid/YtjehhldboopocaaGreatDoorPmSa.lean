/- Contracts of functions of the program, and what they are made of (parser; PmSa). -/
import Derived.Test.YtjehhldboopocaaGreatDoorPk40
import Derived.Test.YtjehhldboopocaaGreatDoorPk41
import Derived.Test.YtjehhldboopocaaGreatDoorPmS
namespace Go.Proofs.YtjehhldboopocaaGreatDoor.Lx
open Go.RowKit Go.Lib Go.ChangeShapes Go.WideShapes Go.ChangeAt
set_option linter.unusedVariables false
set_option maxHeartbeats 16000000 in
set_option maxRecDepth 100000 in
theorem walkA (i0 j0 : Int) (u : Bool) (hib : 0 ≤ i0 ∧ i0 ≤ 255) (hjb : 0 ≤ j0 ∧ j0 ≤ 255) (a b : Nat) (ha : a < 13) (hb : b < 13) (hra : i0.tmod 13 = (a : Int)) (hrb : j0.tmod 13 = (b : Int)) (hcs : strB (opsL.getD a []) = 4 ∧ strB (opsL.getD b []) = 4) (w : World) (hT : TabX w) :
    Calls Tryz.prog 8 #[.int .u8 i0, .int .u8 j0, .bool u] w fun e w' => e = .returned (.bool true) ∧ Below w.heap.size w w' := by
  have HT := Lib.hid hT
  have HCS := Lib.hid hcs
  clear hT hcs
  have wi : IntKind.i64.wrap i0 = i0 := IntWalk.i64_in _ (by omega)
  have wj : IntKind.i64.wrap j0 = j0 := IntWalk.i64_in _ (by omega)
  have wa : IntKind.i64.wrap (a : Int) = (a : Int) := IntWalk.i64_in _ (by omega)
  have wb : IntKind.i64.wrap (b : Int) = (b : Int) := IntWalk.i64_in _ (by omega)
  go_enter Tryz.func8, Tryz.ntmps8
  go_wp2_with fail
  go_fit (ops_any _)
  rintro e w1 ⟨rfl, hw1⟩
  go_upto_region 2 with fail
  go_quiet (fail)
  go_upto_region 4 with fail
  have hB0 : Below w.heap.size w (((w.alloc (Obj.cells strCells 9)).alloc (Obj.cells intCells 3)).drewN nq) := by
    have h := (((Below.refl w.heap.size w).alloc (Nat.le_refl _) (Obj.cells strCells 9)).alloc (by simp) (Obj.cells intCells 3))
    exact ⟨h.os, h.tape, h.output, h.size, h.block⟩
  have hS : CellsAt (((w.alloc (Obj.cells strCells 9)).alloc (Obj.cells intCells 3)).drewN nq) w.heap.size 9 strCells := ((CellsAt.new w 9 strCells).alloc _).of_block rfl
  have hI : CellsAt (((w.alloc (Obj.cells strCells 9)).alloc (Obj.cells intCells 3)).drewN nq) (w.heap.size + 1) 3 intCells := by
    have h := CellsAt.new (w.alloc (Obj.cells strCells 9)) 3 intCells
    rw [World.size_alloc] at h
    exact h.of_block rfl
  obtain ⟨W0, hW0⟩ : ∃ W0, W0 = (((w.alloc (Obj.cells strCells 9)).alloc (Obj.cells intCells 3)).drewN nq) := ⟨_, rfl⟩
  rw [← hW0] at hB0 hS hI ⊢
  have B0 := Lib.hid hB0
  have HS := Lib.hid hS
  have HI := Lib.hid hI
  have sa := hS.cell (str_cells a ha)
  have sb := hS.cell (str_cells b hb)
  have ia := hI.cell (int_cells a ha)
  have ib := hI.cell (int_cells b hb)
  have ma := mem_ops ha
  have mb := mem_ops hb
  clear hB0 hS hI hW0 hra hrb wi wj hib hjb
  obtain ⟨la, hla⟩ : ∃ la, la = opsL.getD a [] := ⟨_, rfl⟩
  obtain ⟨lb, hlb⟩ : ∃ lb, lb = opsL.getD b [] := ⟨_, rfl⟩
  have hA : opV a = ⟨la.toArray⟩ := by rw [hla]; rfl
  have hB : opV b = ⟨lb.toArray⟩ := by rw [hlb]; rfl
  rw [← hla] at ia ma
  rw [← hlb] at ib mb
  have za := len_ops ma
  have zb := len_ops mb
  obtain ⟨A, hAA⟩ : ∃ A, A = opV a := ⟨_, rfl⟩
  obtain ⟨B, hBB⟩ : ∃ B, B = opV b := ⟨_, rfl⟩
  rw [← hAA] at sa hA
  rw [← hBB] at sb hB
  have hAd : A.data.toList = la := by rw [hA]
  have hBd : B.data.toList = lb := by rw [hB]
  have hAs : A.size = la.length := by rw [← hAd]; rfl
  have hBs : B.size = lb.length := by rw [← hBd]; rfl
  have SA := Lib.hid (fun W (h : CellsAt W w.heap.size 9 strCells) => (show W.cell? ⟨w.heap.size, a, none⟩ = some (.string A) from by rw [hAA]; exact h.cell (str_cells a ha)))
  have SB := Lib.hid (fun W (h : CellsAt W w.heap.size 9 strCells) => (show W.cell? ⟨w.heap.size, b, none⟩ = some (.string B) from by rw [hBB]; exact h.cell (str_cells b hb)))
  have IA := Lib.hid (fun W (h : CellsAt W (w.heap.size + 1) 3 intCells) => (show W.cell? ⟨w.heap.size + 1, a, none⟩ = some (.int .i64 (strB la : Nat)) from by rw [hla]; exact h.cell (int_cells a ha)))
  have IB := Lib.hid (fun W (h : CellsAt W (w.heap.size + 1) 3 intCells) => (show W.cell? ⟨w.heap.size + 1, b, none⟩ = some (.int .i64 (strB lb : Nat)) from by rw [hlb]; exact h.cell (int_cells b hb)))
  have HA := Lib.hid hA
  have HB := Lib.hid hB
  have HCS : Hid (strB la = 4 ∧ strB lb = 4) := Lib.hid (by rw [hla, hlb]; exact HCS.out)
  clear hla hlb hA hB hAA hBB ia ib
  have i0a : (0 : Int) ≤ (a : Int) := by omega
  have i1a : (a : Int) < 13 := by omega
  have i0b : (0 : Int) ≤ (b : Int) := by omega
  have i1b : (b : Int) < 13 := by omega
  have ZB := Lib.hid (show Below w.heap.size w (W0.alloc (.cells #[.int .i64 0, .string ⟨#[]⟩, .int .i64 0, .bool false, .int .i64 0, .string ⟨#[]⟩, .slice none 0 0, .slice none 0 0, .slice none 0 0, .slice none 0 0] 29)).drew from (B0.out.alloc B0.out.size _).drew)
  have ZK := Lib.hid (show CellsAt (W0.alloc (.cells #[.int .i64 0, .string ⟨#[]⟩, .int .i64 0, .bool false, .int .i64 0, .string ⟨#[]⟩, .slice none 0 0, .slice none 0 0, .slice none 0 0, .slice none 0 0] 29)).drew W0.heap.size 29 zeroC.toArray from (CellsAt.new W0 29 #[.int .i64 0, .string ⟨#[]⟩, .int .i64 0, .bool false, .int .i64 0, .string ⟨#[]⟩, .slice none 0 0, .slice none 0 0, .slice none 0 0, .slice none 0 0]).of_block rfl)
  have ZS := Lib.hid (show CellsAt (W0.alloc (.cells #[.int .i64 0, .string ⟨#[]⟩, .int .i64 0, .bool false, .int .i64 0, .string ⟨#[]⟩, .slice none 0 0, .slice none 0 0, .slice none 0 0, .slice none 0 0] 29)).drew w.heap.size 9 strCells from (HS.out.alloc _).of_block rfl)
  have ZI := Lib.hid (show CellsAt (W0.alloc (.cells #[.int .i64 0, .string ⟨#[]⟩, .int .i64 0, .bool false, .int .i64 0, .string ⟨#[]⟩, .slice none 0 0, .slice none 0 0, .slice none 0 0, .slice none 0 0] 29)).drew (w.heap.size + 1) 3 intCells from (HI.out.alloc _).of_block rfl)
  have DB := Lib.hid (show Below w.heap.size w W0.drew from B0.out.drew)
  have DS := Lib.hid (show CellsAt W0.drew w.heap.size 9 strCells from HS.out.of_block rfl)
  have DI := Lib.hid (show CellsAt W0.drew (w.heap.size + 1) 3 intCells from HI.out.of_block rfl)
  have ZL := Lib.hid (show w.heap.size + 1 < W0.heap.size from HI.out.lt)
  have hz0 : (W0.alloc (.cells #[.int .i64 0, .string ⟨#[]⟩, .int .i64 0, .bool false, .int .i64 0, .string ⟨#[]⟩, .slice none 0 0, .slice none 0 0, .slice none 0 0, .slice none 0 0] 29)).drew.heap.size = W0.heap.size + 1 := by simp
  have ZZ := Lib.hid hz0
  obtain ⟨F, hF⟩ : ∃ F : ByteArray, F = ⟨(fstU u).toArray⟩ := ⟨_, rfl⟩
  obtain ⟨L, hL⟩ : ∃ L : ByteArray, L = ⟨(lstU u).toArray⟩ := ⟨_, rfl⟩
  have hFd : F.data.toList = fstU u := by rw [hF]
  have hLd : L.data.toList = lstU u := by rw [hL]
  have hFs : F.size ≤ 2 ∧ F.size = (fstU u).length := ⟨by rw [hF]; cases u <;> decide, by rw [← hFd]; rfl⟩
  have hLs : L.size ≤ 2 := by rw [hL]; cases u <;> decide
  have HF := Lib.hid hF
  have HL := Lib.hid hL
  clear hF hL hz0
  go_upto_if 30 with fail
  go_cut [11, 12] (fun s11 s12 wx => s11 = .string F ∧ s12 = .string L ∧ W0 = wx)
  case first =>
    clear hFd hLd hFs hLs hAd hBd hAs hBs ma mb
    cases u
    all_goals
      go_wp2_with fail
      go_meet
      exact ⟨by rw [HF.out]; rfl, by rw [HL.out]; rfl, rfl⟩
  case rest =>
  obtain ⟨rfl, rfl, rfl⟩ := hcut
  have s1 := fun w => run_string_add_sum (P := Tryz.prog) w F (⟨#[32]⟩ : ByteArray) (by show F.size + 1 ≤ _; omega)
  have s2 := fun w => run_string_add_sum (P := Tryz.prog) w (F ++ (⟨#[32]⟩ : ByteArray)) A (by simp only [ByteArray.size_append]; show F.size + 1 + A.size ≤ _; omega)
  have s3 := fun w => run_string_add_sum (P := Tryz.prog) w ((F ++ (⟨#[32]⟩ : ByteArray)) ++ A) (⟨#[32, 121, 32]⟩ : ByteArray) (by simp only [ByteArray.size_append]; show F.size + 1 + A.size + 3 ≤ _; omega)
  have s4 := fun w => run_string_add_sum (P := Tryz.prog) w (((F ++ (⟨#[32]⟩ : ByteArray)) ++ A) ++ (⟨#[32, 121, 32]⟩ : ByteArray)) B (by simp only [ByteArray.size_append]; show F.size + 1 + A.size + 3 + B.size ≤ _; omega)
  have s5 := fun w => run_string_add_sum (P := Tryz.prog) w ((((F ++ (⟨#[32]⟩ : ByteArray)) ++ A) ++ (⟨#[32, 121, 32]⟩ : ByteArray)) ++ B) (⟨#[32]⟩ : ByteArray) (by simp only [ByteArray.size_append]; show F.size + 1 + A.size + 3 + B.size + 1 ≤ _; omega)
  have s6 := fun w => run_string_add_sum (P := Tryz.prog) w (((((F ++ (⟨#[32]⟩ : ByteArray)) ++ A) ++ (⟨#[32, 121, 32]⟩ : ByteArray)) ++ B) ++ (⟨#[32]⟩ : ByteArray)) L (by simp only [ByteArray.size_append]; show F.size + 1 + A.size + 3 + B.size + 1 + L.size ≤ _; omega)
  obtain ⟨s', hs'⟩ : ∃ s', s' = ((((((F ++ (⟨#[32]⟩ : ByteArray)) ++ A) ++ (⟨#[32, 121, 32]⟩ : ByteArray)) ++ B) ++ (⟨#[32]⟩ : ByteArray)) ++ L) := ⟨_, rfl⟩
  have hd : s'.data.toList = srcS u la lb := by
    rw [hs']
    unfold srcS
    simp [hAd, hBd, hFd, hLd]
  rw [← hs'] at s6
  have PT := Lib.hid (fun w hT => par_one u ma mb s' hd w hT)
  have w1 : IntKind.i64.wrap ((F.size : Int) + (A.size : Int)) = (F.size : Int) + (A.size : Int) := by rw [IntKind.wrap_i64]; omega
  have w2 : IntKind.i64.wrap ((F.size : Int) + (A.size : Int) + 4) = (F.size : Int) + (A.size : Int) + 4 := by rw [IntKind.wrap_i64]; omega
  have hpos : (((fstU u).length + la.length + 4 : Nat) : Int) = (F.size : Int) + (A.size : Int) + 4 := by
    rw [hAs, hFs.2]
    omega
  have HPOS := Lib.hid hpos
  have sa2 := SA.out _ ZS.out
  have sb2 := SB.out _ ZS.out
  clear hs' hd hAd hBd hAs hBs hFd hLd hFs hLs ma mb hpos za zb
  go_upto_region 6 with fail
  go_cut [13, 14, 15] (fun s13 s14 s15 wx => ∃ (E : Nat) (k : Int) (nx : ByteArray) (vk : Int) (vt : Bool) (vi : Int) (vs : ByteArray) (p1 : Option Addr) (l1 c1 : Nat) (p2 : Option Addr) (l2 c2 : Nat) (p3 : Option Addr) (l3 c3 : Nat) (p4 : Option Addr) (l4 c4 : Nat) (p er : Int), s13 = .pointer (some ⟨E, 0, none⟩) ∧ s14 = .int .i64 p ∧ s15 = .int .i64 er ∧ Hid (CellsAt wx E 29 #[.int .i64 k, .string nx, .int .i64 vk, .bool vt, .int .i64 vi, .string vs, .slice p1 l1 c1, .slice p2 l2 c2, .slice p3 l3 c3, .slice p4 l4 c4]) ∧ Hid (InfS u la lb p er (∃ x m, twoB la lb x = true ∧ OkE x wx [.int .i64 k, .string nx, .int .i64 vk, .bool vt, .int .i64 vi, .string vs, .slice p1 l1 c1, .slice p2 l2 c2, .slice p3 l3 c3, .slice p4 l4 c4] m)) ∧ Hid (Below w.heap.size w wx) ∧ Hid (CellsAt wx w.heap.size 9 strCells) ∧ Hid (CellsAt wx (w.heap.size + 1) 3 intCells))
  case first =>
    go_region_with (first
        | (go_at_call 11; go_fit (PT.out _ (HT.out.below DB.out).1); rintro e w3 ⟨⟨k, nx, vk, vt, vi, vs, p1, l1, c1, p2, l2, c2, p3, l3, c3, p4, l4, c4, p, er, rfl, hinf⟩, hb3⟩; have HINF := Lib.hid hinf; clear hinf)
        | (go_at_call 11; go_fit (PT.out _ (HT.out.below ZB.out).1); rintro e w3 ⟨⟨k, nx, vk, vt, vi, vs, p1, l1, c1, p2, l2, c2, p3, l3, c3, p4, l4, c4, p, er, rfl, hinf⟩, hb3⟩; have HINF := Lib.hid hinf; clear hinf; have hR := ZK.out.below hb3; have f0 := hR.frozen 0; have z0 := hR.cell (k := 0) (u := .int .i64 0) rfl; have f1 := hR.frozen 1; have z1 := hR.cell (k := 1) (u := .string ⟨#[]⟩) rfl; have f2 := hR.frozen 2; have z2 := hR.cell (k := 2) (u := .int .i64 0) rfl; have f3 := hR.frozen 3; have z3 := hR.cell (k := 3) (u := .bool false) rfl; have f4 := hR.frozen 4; have z4 := hR.cell (k := 4) (u := .int .i64 0) rfl; have f5 := hR.frozen 5; have z5 := hR.cell (k := 5) (u := .string ⟨#[]⟩) rfl; have f6 := hR.frozen 6; have z6 := hR.cell (k := 6) (u := .slice none 0 0) rfl; have f7 := hR.frozen 7; have z7 := hR.cell (k := 7) (u := .slice none 0 0) rfl; have f8 := hR.frozen 8; have z8 := hR.cell (k := 8) (u := .slice none 0 0) rfl; have f9 := hR.frozen 9; have z9 := hR.cell (k := 9) (u := .slice none 0 0) rfl; have HR := Lib.hid hR; clear hR))
    all_goals
      go_wp2_with fail
      go_meet
      first
        | (refine ⟨w3.heap.size, k, nx, vk, vt, vi, vs, p1, l1, c1, p2, l2, c2, p3, l3, c3, p4, l4, c4, p, er, rfl, rfl, rfl, ?_⟩; exact ⟨Lib.hid (CellsAt.new w3 29 #[.int .i64 k, .string nx, .int .i64 vk, .bool vt, .int .i64 vi, .string vs, .slice p1 l1 c1, .slice p2 l2 c2, .slice p3 l3 c3, .slice p4 l4 c4]), Lib.hid (HINF.out.imp fun ⟨x, m, h2, hx⟩ => ⟨x, m, h2, hx.alloc _⟩), Lib.hid ((DB.out.trans (hb3.mono DB.out.size)).alloc (by have := DB.out.size; have := hb3.size; omega) _), Lib.hid ((DS.out.below hb3).alloc _), Lib.hid ((DI.out.below hb3).alloc _)⟩)
        | (refine ⟨W0.heap.size, k, nx, vk, vt, vi, vs, p1, l1, c1, p2, l2, c2, p3, l3, c3, p4, l4, c4, p, er, rfl, rfl, rfl, ?_⟩; have h10 := store10 W0.heap.size (.int .i64 k) (.string nx) (.int .i64 vk) (.bool vt) (.int .i64 vi) (.string vs) (.slice p1 l1 c1) (.slice p2 l2 c2) (.slice p3 l3 c3) (.slice p4 l4 c4) w3 HR.out _ rfl; have hb4 := ZB.out.trans (hb3.mono ZB.out.size); exact ⟨Lib.hid h10.1, Lib.hid (HINF.out.imp fun ⟨x, m, h2, hx⟩ => ⟨x, m, h2, hx.store (by have := ZZ.out; omega) (by simp) h10.2.2⟩), Lib.hid (hb4.trans (h10.2.1 _ (by have := ZL.out; omega))), Lib.hid (((ZS.out.below hb3)).of_block (h10.2.2 _ (by have := ZL.out; omega))), Lib.hid (((ZI.out.below hb3)).of_block (h10.2.2 _ (by have := ZL.out; omega)))⟩)
  case rest =>
  obtain ⟨E, k, nx, vk, vt, vi, vs, p1, l1, c1, p2, l2, c2, p3, l3, c3, p4, l4, c4, p, er, rfl, rfl, rfl, HE, HINF, HB1, HS1, HI1⟩ := hcut
  clear sa sb sa2 sb2 s1 s2 s3 s4 s5 s6 PT ZB ZK ZS ZI DB DS DI ZL ZZ B0 HS HI
  have sa1 := SA.out _ HS1.out
  have sb1 := SB.out _ HS1.out
  have ia1 := IA.out _ HI1.out
  have ib1 := IB.out _ HI1.out
  rcases HINF.out with ⟨rfl, hp, q1, q2⟩ | ⟨rfl, q, x, m, h2, hx⟩
  · rw [q1] at ia1
    rw [q2] at ib1
    rw [HPOS.out] at hp
    subst hp
    clear HINF q1 q2 sb1
    go_wp2_with fail
    go_fit (awakeX _ (HT.out.below HB1.out))
    rintro e w4 ⟨rfl, hb4⟩
    have HB4 := Lib.hid (HB1.out.trans (hb4.mono HB1.out.size))
    clear hb4 sa1 ia1 ib1
    go_wp2_with fail
    go_ret
    exact ⟨rfl, HB4.out⟩
  · exact absurd HCS.out q
end Go.Proofs.YtjehhldboopocaaGreatDoor.Lx
