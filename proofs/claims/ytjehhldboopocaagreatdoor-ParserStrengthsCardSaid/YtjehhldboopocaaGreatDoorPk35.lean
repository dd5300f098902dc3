/- Contracts of functions of the program, and what they are made of (parser; Pk35). -/
import Derived.Test.YtjehhldboopocaaGreatDoorPk22
import Derived.Test.YtjehhldboopocaaGreatDoorPk32
import Derived.Deep.RegionHeld3
namespace Go.Proofs.YtjehhldboopocaaGreatDoor.Lx
open Go.RowKit Go.Lib
set_option linter.unusedVariables false
def St3 (w : World) (b off c : Nat) (nx : ByteArray) (k0 : Int) (n0 : ByteArray) (vk0 : Int) (vt0 : Bool) (vi0 : Int) (vs0 : ByteArray) (va0 : Option Addr) (vb0 : Nat) (vc0 : Nat) (wa0 : Option Addr) (wb0 : Nat) (wc0 : Nat) (aa0 : Option Addr) (ab0 : Nat) (ac0 : Nat) (ba0 : Option Addr) (bb0 : Nat) (bc0 : Nat) (w' : World) : Prop := w'.cell? ⟨w.heap.size, 8, none⟩ = some (.slice (some ⟨b, off, none⟩) 1 c) ∧ w'.cell? ⟨w.heap.size, 1, none⟩ = some (.string nx) ∧ w'.cell? ⟨b, off, none⟩ = some (.int .i64 k0) ∧ w'.cell? ⟨b, off + 1, none⟩ = some (.string n0) ∧ w'.cell? ⟨b, off + 2, none⟩ = some (.int .i64 vk0) ∧ w'.cell? ⟨b, off + 3, none⟩ = some (.bool vt0) ∧ w'.cell? ⟨b, off + 4, none⟩ = some (.int .i64 vi0) ∧ w'.cell? ⟨b, off + 5, none⟩ = some (.string vs0) ∧ w'.cell? ⟨b, off + 6, none⟩ = some (.slice va0 vb0 vc0) ∧ w'.cell? ⟨b, off + 7, none⟩ = some (.slice wa0 wb0 wc0) ∧ w'.cell? ⟨b, off + 8, none⟩ = some (.slice aa0 ab0 ac0) ∧ w'.cell? ⟨b, off + 9, none⟩ = some (.slice ba0 bb0 bc0) ∧ Below w.heap.size w w'
set_option maxRecDepth 100000 in
set_option maxHeartbeats 4000000 in
theorem src_3 (m : Nat) (T : Xp → ByteArray) (n : List UInt8) (v : Vl) (vk : Int) (vt : Bool) (vi : Int) (vs : ByteArray) (s1 s2 av s4 : Option Addr) (a1 b1 a2 b2 c a4 b4 : Nat) (y0 : Xp) (ks : List (List UInt8)) (w : World)
    (hr : ReadsE (m + 1) w av [y0]) (hS : ∀ C y, y ∈ [y0] → IsE m w C y → SrcC w C (T y)) (hsz : (srcG T (.mk 3 v n [y0] ks)).size ≤ 1099511627776) :
    Calls Tryz.prog 35 #[.agg #[.int .i64 3, .string ⟨n.toArray⟩, .int .i64 vk, .bool vt, .int .i64 vi, .string vs, .slice s1 a1 b1, .slice s2 a2 b2, .slice av 1 c, .slice s4 a4 b4]] w fun e w' => e = .returned (.string (srcG T (.mk 3 v n [y0] ks))) ∧ Below w.heap.size w w' := by
  obtain ⟨b, off, D0, rfl, hb, hd0, hc0⟩ := hr 0 y0 rfl
  have hE0 : IsE m w D0 y0 := hd0
  have hS0 := hS D0 y0 (by simp) hE0
  have E : srcG T (.mk 3 v n [y0] ks) = (((brkT (strX y0) 8 (T y0)) ++ (⟨#[46]⟩ : ByteArray)) ++ ⟨n.toArray⟩) := rfl
  rw [E] at hsz ⊢
  obtain ⟨nx, hnx⟩ : ∃ nx : ByteArray, nx = ⟨n.toArray⟩ := ⟨_, rfl⟩
  rw [← hnx] at hsz ⊢
  simp only [ByteArray.size_append] at hsz
  have hk0 := brkT_le (strX y0) 8 (T y0)
  have O0 := Lib.hid (fun (w' : World) (hb : Below w.heap.size w w') => operand_any m D0 y0 (T y0) 8 w' (hE0.below hb) (hS0.below hb) (by omega))
  obtain ⟨A0, hA0⟩ : ∃ A, A = brkT (strX y0) 8 (T y0) := ⟨_, rfl⟩
  rw [← hA0] at O0 hsz hk0 ⊢
  obtain ⟨k0, n0, vk0, vt0, vi0, vs0, va0, vb0, vc0, wa0, wb0, wc0, aa0, ab0, ac0, ba0, bb0, bc0, hD0⟩ := isE_cells hE0
  subst hD0
  have sa1 := fun w => run_string_add_sum (P := Tryz.prog) w A0 (⟨#[46]⟩ : ByteArray) (by have : (⟨#[46]⟩ : ByteArray).size = 1 := rfl; omega)
  have sa2 := fun w => run_string_add_sum (P := Tryz.prog) w (A0 ++ (⟨#[46]⟩ : ByteArray)) nx (by simp only [ByteArray.size_append]; have : (⟨#[46]⟩ : ByteArray).size = 1 := rfl; omega)
  have B0 := (Below.refl w.heap.size w).alloc (Nat.le_refl _) (.cells #[.int .i64 3, .string nx, .int .i64 vk, .bool vt, .int .i64 vi, .string vs, .slice s1 a1 b1, .slice s2 a2 b2, .slice (some ⟨b, off, none⟩) 1 c, .slice s4 a4 b4] 29)
  have C0 := CellsAt.new w 29 #[.int .i64 3, .string nx, .int .i64 vk, .bool vt, .int .i64 vi, .string vs, .slice s1 a1 b1, .slice s2 a2 b2, .slice (some ⟨b, off, none⟩) 1 c, .slice s4 a4 b4]
  have p0_0 := (B0.cell (p := ⟨b, _, none⟩) hb).trans (hc0 0 (.int .i64 k0) rfl)
  have p0_1 := (B0.cell (p := ⟨b, _, none⟩) hb).trans (hc0 1 (.string n0) rfl)
  have p0_2 := (B0.cell (p := ⟨b, _, none⟩) hb).trans (hc0 2 (.int .i64 vk0) rfl)
  have p0_3 := (B0.cell (p := ⟨b, _, none⟩) hb).trans (hc0 3 (.bool vt0) rfl)
  have p0_4 := (B0.cell (p := ⟨b, _, none⟩) hb).trans (hc0 4 (.int .i64 vi0) rfl)
  have p0_5 := (B0.cell (p := ⟨b, _, none⟩) hb).trans (hc0 5 (.string vs0) rfl)
  have p0_6 := (B0.cell (p := ⟨b, _, none⟩) hb).trans (hc0 6 (.slice va0 vb0 vc0) rfl)
  have p0_7 := (B0.cell (p := ⟨b, _, none⟩) hb).trans (hc0 7 (.slice wa0 wb0 wc0) rfl)
  have p0_8 := (B0.cell (p := ⟨b, _, none⟩) hb).trans (hc0 8 (.slice aa0 ab0 ac0) rfl)
  have p0_9 := (B0.cell (p := ⟨b, _, none⟩) hb).trans (hc0 9 (.slice ba0 bb0 bc0) rfl)
  obtain ⟨W0, hW0⟩ : ∃ W0, W0 = w.alloc (.cells #[.int .i64 3, .string nx, .int .i64 vk, .bool vt, .int .i64 vi, .string vs, .slice s1 a1 b1, .slice s2 a2 b2, .slice (some ⟨b, off, none⟩) 1 c, .slice s4 a4 b4] 29) := ⟨_, rfl⟩
  rw [← hW0] at B0 C0 p0_0 p0_1 p0_2 p0_3 p0_4 p0_5 p0_6 p0_7 p0_8 p0_9
  have c8 := C0.cell (k := 8) (u := .slice (some ⟨b, off, none⟩) 1 c) rfl
  have c1 := C0.cell (k := 1) (u := .string nx) rfl
  have keep : ∀ w1 w2 : World, St3 w b off c nx k0 n0 vk0 vt0 vi0 vs0 va0 vb0 vc0 wa0 wb0 wc0 aa0 ab0 ac0 ba0 bb0 bc0 w1 → Below w1.heap.size w1 w2 → St3 w b off c nx k0 n0 vk0 vt0 vi0 vs0 va0 vb0 vc0 wa0 wb0 wc0 aa0 ab0 ac0 ba0 bb0 bc0 w2 := by
    intro w1 w2 h hb2
    obtain ⟨e0, e1, e2, e3, e4, e5, e6, e7, e8, e9, e10, e11, hB⟩ := h
    have z0 : w.heap.size < w1.heap.size := World.block_lt_of_cell? w1 _ e0
    have z1 : b < w1.heap.size := World.block_lt_of_cell? w1 _ e2
    exact ⟨(hb2.cell (p := ⟨w.heap.size, 8, none⟩) z0).trans e0, (hb2.cell (p := ⟨w.heap.size, 1, none⟩) z0).trans e1, (hb2.cell (p := ⟨b, off, none⟩) z1).trans e2, (hb2.cell (p := ⟨b, off + 1, none⟩) z1).trans e3, (hb2.cell (p := ⟨b, off + 2, none⟩) z1).trans e4, (hb2.cell (p := ⟨b, off + 3, none⟩) z1).trans e5, (hb2.cell (p := ⟨b, off + 4, none⟩) z1).trans e6, (hb2.cell (p := ⟨b, off + 5, none⟩) z1).trans e7, (hb2.cell (p := ⟨b, off + 6, none⟩) z1).trans e8, (hb2.cell (p := ⟨b, off + 7, none⟩) z1).trans e9, (hb2.cell (p := ⟨b, off + 8, none⟩) z1).trans e10, (hb2.cell (p := ⟨b, off + 9, none⟩) z1).trans e11, hB.trans (hb2.mono hB.size)⟩
  have hs0 : St3 w b off c nx k0 n0 vk0 vt0 vi0 vs0 va0 vb0 vc0 wa0 wb0 wc0 aa0 ab0 ac0 ba0 bb0 bc0 W0.drew := by
    refine keep W0 W0.drew ⟨c8, c1, p0_0, p0_1, p0_2, p0_3, p0_4, p0_5, p0_6, p0_7, p0_8, p0_9, B0⟩ (Below.refl _ _).drew
  have Q0 := Lib.hid (fun (w' : World) (h : St3 w b off c nx k0 n0 vk0 vt0 vi0 vs0 va0 vb0 vc0 wa0 wb0 wc0 aa0 ab0 ac0 ba0 bb0 bc0 w') => O0.out w' h.2.2.2.2.2.2.2.2.2.2.2.2)
  have HS0 := Lib.hid hs0
  have KEEP := Lib.hid keep
  have HW0 := Lib.hid hW0
  clear E hsz hA0 hk0
  clear O0
  clear hr hS hd0 hc0 B0 C0 hs0 keep hW0 hnx hE0 hS0 c8 c1 p0_0 p0_1 p0_2 p0_3 p0_4 p0_5 p0_6 p0_7 p0_8 p0_9
  go_enter Tryz.func35, Tryz.ntmps35
  go_wp2_with fail
  rw [← HW0.out]
  have hs0 := HS0.out
  go_region_held3 (fun w' : World => w'.cell? ⟨w.heap.size, 8, none⟩ = some (.slice (some ⟨b, off, none⟩) 1 c) ∧ w'.cell? ⟨w.heap.size, 1, none⟩ = some (.string nx) ∧ w'.cell? ⟨b, off, none⟩ = some (.int .i64 k0) ∧ w'.cell? ⟨b, off + 1, none⟩ = some (.string n0) ∧ w'.cell? ⟨b, off + 2, none⟩ = some (.int .i64 vk0) ∧ w'.cell? ⟨b, off + 3, none⟩ = some (.bool vt0) ∧ w'.cell? ⟨b, off + 4, none⟩ = some (.int .i64 vi0) ∧ w'.cell? ⟨b, off + 5, none⟩ = some (.string vs0) ∧ w'.cell? ⟨b, off + 6, none⟩ = some (.slice va0 vb0 vc0) ∧ w'.cell? ⟨b, off + 7, none⟩ = some (.slice wa0 wb0 wc0) ∧ w'.cell? ⟨b, off + 8, none⟩ = some (.slice aa0 ab0 ac0) ∧ w'.cell? ⟨b, off + 9, none⟩ = some (.slice ba0 bb0 bc0) ∧ Below w.heap.size w w') (first | exact hs0 | exact KEEP.out _ _ (by assumption) (by assumption)) (first
    | (go_at_call 64; go_fit (Q0.out _ (by assumption)); rintro e w2 ⟨rfl, hb2⟩))
  all_goals
    have hfin : St3 w b off c nx k0 n0 vk0 vt0 vi0 vs0 va0 vb0 vc0 wa0 wb0 wc0 aa0 ab0 ac0 ba0 bb0 bc0 w2 := by assumption
    go_wp2_with fail
    go_ret
    exact ⟨rfl, hfin.2.2.2.2.2.2.2.2.2.2.2.2⟩
def St4 (w : World) (b off c : Nat) (nx : ByteArray) (k0 : Int) (n0 : ByteArray) (vk0 : Int) (vt0 : Bool) (vi0 : Int) (vs0 : ByteArray) (va0 : Option Addr) (vb0 : Nat) (vc0 : Nat) (wa0 : Option Addr) (wb0 : Nat) (wc0 : Nat) (aa0 : Option Addr) (ab0 : Nat) (ac0 : Nat) (ba0 : Option Addr) (bb0 : Nat) (bc0 : Nat) (k1 : Int) (n1 : ByteArray) (vk1 : Int) (vt1 : Bool) (vi1 : Int) (vs1 : ByteArray) (va1 : Option Addr) (vb1 : Nat) (vc1 : Nat) (wa1 : Option Addr) (wb1 : Nat) (wc1 : Nat) (aa1 : Option Addr) (ab1 : Nat) (ac1 : Nat) (ba1 : Option Addr) (bb1 : Nat) (bc1 : Nat) (w' : World) : Prop := w'.cell? ⟨w.heap.size, 8, none⟩ = some (.slice (some ⟨b, off, none⟩) 2 c) ∧ w'.cell? ⟨b, off, none⟩ = some (.int .i64 k0) ∧ w'.cell? ⟨b, off + 1, none⟩ = some (.string n0) ∧ w'.cell? ⟨b, off + 2, none⟩ = some (.int .i64 vk0) ∧ w'.cell? ⟨b, off + 3, none⟩ = some (.bool vt0) ∧ w'.cell? ⟨b, off + 4, none⟩ = some (.int .i64 vi0) ∧ w'.cell? ⟨b, off + 5, none⟩ = some (.string vs0) ∧ w'.cell? ⟨b, off + 6, none⟩ = some (.slice va0 vb0 vc0) ∧ w'.cell? ⟨b, off + 7, none⟩ = some (.slice wa0 wb0 wc0) ∧ w'.cell? ⟨b, off + 8, none⟩ = some (.slice aa0 ab0 ac0) ∧ w'.cell? ⟨b, off + 9, none⟩ = some (.slice ba0 bb0 bc0) ∧ w'.cell? ⟨b, off + 10, none⟩ = some (.int .i64 k1) ∧ w'.cell? ⟨b, off + 10 + 1, none⟩ = some (.string n1) ∧ w'.cell? ⟨b, off + 10 + 2, none⟩ = some (.int .i64 vk1) ∧ w'.cell? ⟨b, off + 10 + 3, none⟩ = some (.bool vt1) ∧ w'.cell? ⟨b, off + 10 + 4, none⟩ = some (.int .i64 vi1) ∧ w'.cell? ⟨b, off + 10 + 5, none⟩ = some (.string vs1) ∧ w'.cell? ⟨b, off + 10 + 6, none⟩ = some (.slice va1 vb1 vc1) ∧ w'.cell? ⟨b, off + 10 + 7, none⟩ = some (.slice wa1 wb1 wc1) ∧ w'.cell? ⟨b, off + 10 + 8, none⟩ = some (.slice aa1 ab1 ac1) ∧ w'.cell? ⟨b, off + 10 + 9, none⟩ = some (.slice ba1 bb1 bc1) ∧ Below w.heap.size w w'
set_option maxRecDepth 100000 in
set_option maxHeartbeats 4000000 in
theorem src_4 (m : Nat) (T : Xp → ByteArray) (n : List UInt8) (v : Vl) (vk : Int) (vt : Bool) (vi : Int) (vs : ByteArray) (s1 s2 av s4 : Option Addr) (a1 b1 a2 b2 c a4 b4 : Nat) (y0 y1 : Xp) (ks : List (List UInt8)) (w : World)
    (hr : ReadsE (m + 1) w av [y0, y1]) (hS : ∀ C y, y ∈ [y0, y1] → IsE m w C y → SrcC w C (T y)) (hsz : (srcG T (.mk 4 v n [y0, y1] ks)).size ≤ 1099511627776) :
    Calls Tryz.prog 35 #[.agg #[.int .i64 4, .string ⟨n.toArray⟩, .int .i64 vk, .bool vt, .int .i64 vi, .string vs, .slice s1 a1 b1, .slice s2 a2 b2, .slice av 2 c, .slice s4 a4 b4]] w fun e w' => e = .returned (.string (srcG T (.mk 4 v n [y0, y1] ks))) ∧ Below w.heap.size w w' := by
  obtain ⟨b, off, D0, rfl, hb, hd0, hc0⟩ := hr 0 y0 rfl
  obtain ⟨b_1, off_1, D1, he1, hb_1, hd1, hc1⟩ := hr 1 y1 rfl
  injection he1 with he1
  injection he1 with hx1 hy1
  subst hx1 hy1
  have hE0 : IsE m w D0 y0 := hd0
  have hS0 := hS D0 y0 (by simp) hE0
  have hE1 : IsE m w D1 y1 := hd1
  have hS1 := hS D1 y1 (by simp) hE1
  have E : srcG T (.mk 4 v n [y0, y1] ks) = ((((brkT (strX y0) 8 (T y0)) ++ (⟨#[91]⟩ : ByteArray)) ++ (T y1)) ++ (⟨#[93]⟩ : ByteArray)) := rfl
  rw [E] at hsz ⊢
  obtain ⟨nx, hnx⟩ : ∃ nx : ByteArray, nx = ⟨n.toArray⟩ := ⟨_, rfl⟩
  rw [← hnx]
  simp only [ByteArray.size_append] at hsz
  have hk0 := brkT_le (strX y0) 8 (T y0)
  have O0 := Lib.hid (fun (w' : World) (hb : Below w.heap.size w w') => operand_any m D0 y0 (T y0) 8 w' (hE0.below hb) (hS0.below hb) (by omega))
  obtain ⟨A0, hA0⟩ : ∃ A, A = brkT (strX y0) 8 (T y0) := ⟨_, rfl⟩
  rw [← hA0] at O0 hsz hk0 ⊢
  have O1 := Lib.hid hS1
  obtain ⟨A1, hA1⟩ : ∃ A, A = T y1 := ⟨_, rfl⟩
  rw [← hA1] at O1 hsz ⊢
  obtain ⟨k0, n0, vk0, vt0, vi0, vs0, va0, vb0, vc0, wa0, wb0, wc0, aa0, ab0, ac0, ba0, bb0, bc0, hD0⟩ := isE_cells hE0
  subst hD0
  obtain ⟨k1, n1, vk1, vt1, vi1, vs1, va1, vb1, vc1, wa1, wb1, wc1, aa1, ab1, ac1, ba1, bb1, bc1, hD1⟩ := isE_cells hE1
  subst hD1
  have sa1 := fun w => run_string_add_sum (P := Tryz.prog) w A0 (⟨#[91]⟩ : ByteArray) (by have : (⟨#[91]⟩ : ByteArray).size = 1 := rfl; have : (⟨#[93]⟩ : ByteArray).size = 1 := rfl; omega)
  have sa2 := fun w => run_string_add_sum (P := Tryz.prog) w (A0 ++ (⟨#[91]⟩ : ByteArray)) A1 (by simp only [ByteArray.size_append]; have : (⟨#[91]⟩ : ByteArray).size = 1 := rfl; have : (⟨#[93]⟩ : ByteArray).size = 1 := rfl; omega)
  have sa3 := fun w => run_string_add_sum (P := Tryz.prog) w ((A0 ++ (⟨#[91]⟩ : ByteArray)) ++ A1) (⟨#[93]⟩ : ByteArray) (by simp only [ByteArray.size_append]; have : (⟨#[91]⟩ : ByteArray).size = 1 := rfl; have : (⟨#[93]⟩ : ByteArray).size = 1 := rfl; omega)
  have B0 := (Below.refl w.heap.size w).alloc (Nat.le_refl _) (.cells #[.int .i64 4, .string nx, .int .i64 vk, .bool vt, .int .i64 vi, .string vs, .slice s1 a1 b1, .slice s2 a2 b2, .slice (some ⟨b, off, none⟩) 2 c, .slice s4 a4 b4] 29)
  have C0 := CellsAt.new w 29 #[.int .i64 4, .string nx, .int .i64 vk, .bool vt, .int .i64 vi, .string vs, .slice s1 a1 b1, .slice s2 a2 b2, .slice (some ⟨b, off, none⟩) 2 c, .slice s4 a4 b4]
  have p0_0 := (B0.cell (p := ⟨b, _, none⟩) hb).trans (hc0 0 (.int .i64 k0) rfl)
  have p0_1 := (B0.cell (p := ⟨b, _, none⟩) hb).trans (hc0 1 (.string n0) rfl)
  have p0_2 := (B0.cell (p := ⟨b, _, none⟩) hb).trans (hc0 2 (.int .i64 vk0) rfl)
  have p0_3 := (B0.cell (p := ⟨b, _, none⟩) hb).trans (hc0 3 (.bool vt0) rfl)
  have p0_4 := (B0.cell (p := ⟨b, _, none⟩) hb).trans (hc0 4 (.int .i64 vi0) rfl)
  have p0_5 := (B0.cell (p := ⟨b, _, none⟩) hb).trans (hc0 5 (.string vs0) rfl)
  have p0_6 := (B0.cell (p := ⟨b, _, none⟩) hb).trans (hc0 6 (.slice va0 vb0 vc0) rfl)
  have p0_7 := (B0.cell (p := ⟨b, _, none⟩) hb).trans (hc0 7 (.slice wa0 wb0 wc0) rfl)
  have p0_8 := (B0.cell (p := ⟨b, _, none⟩) hb).trans (hc0 8 (.slice aa0 ab0 ac0) rfl)
  have p0_9 := (B0.cell (p := ⟨b, _, none⟩) hb).trans (hc0 9 (.slice ba0 bb0 bc0) rfl)
  have p1_0 := (B0.cell (p := ⟨b, _, none⟩) hb).trans (hc1 0 (.int .i64 k1) rfl)
  have p1_1 := (B0.cell (p := ⟨b, _, none⟩) hb).trans (hc1 1 (.string n1) rfl)
  have p1_2 := (B0.cell (p := ⟨b, _, none⟩) hb).trans (hc1 2 (.int .i64 vk1) rfl)
  have p1_3 := (B0.cell (p := ⟨b, _, none⟩) hb).trans (hc1 3 (.bool vt1) rfl)
  have p1_4 := (B0.cell (p := ⟨b, _, none⟩) hb).trans (hc1 4 (.int .i64 vi1) rfl)
  have p1_5 := (B0.cell (p := ⟨b, _, none⟩) hb).trans (hc1 5 (.string vs1) rfl)
  have p1_6 := (B0.cell (p := ⟨b, _, none⟩) hb).trans (hc1 6 (.slice va1 vb1 vc1) rfl)
  have p1_7 := (B0.cell (p := ⟨b, _, none⟩) hb).trans (hc1 7 (.slice wa1 wb1 wc1) rfl)
  have p1_8 := (B0.cell (p := ⟨b, _, none⟩) hb).trans (hc1 8 (.slice aa1 ab1 ac1) rfl)
  have p1_9 := (B0.cell (p := ⟨b, _, none⟩) hb).trans (hc1 9 (.slice ba1 bb1 bc1) rfl)
  obtain ⟨W0, hW0⟩ : ∃ W0, W0 = w.alloc (.cells #[.int .i64 4, .string nx, .int .i64 vk, .bool vt, .int .i64 vi, .string vs, .slice s1 a1 b1, .slice s2 a2 b2, .slice (some ⟨b, off, none⟩) 2 c, .slice s4 a4 b4] 29) := ⟨_, rfl⟩
  rw [← hW0] at B0 C0 p0_0 p0_1 p0_2 p0_3 p0_4 p0_5 p0_6 p0_7 p0_8 p0_9 p1_0 p1_1 p1_2 p1_3 p1_4 p1_5 p1_6 p1_7 p1_8 p1_9
  have c8 := C0.cell (k := 8) (u := .slice (some ⟨b, off, none⟩) 2 c) rfl
  have keep : ∀ w1 w2 : World, St4 w b off c nx k0 n0 vk0 vt0 vi0 vs0 va0 vb0 vc0 wa0 wb0 wc0 aa0 ab0 ac0 ba0 bb0 bc0 k1 n1 vk1 vt1 vi1 vs1 va1 vb1 vc1 wa1 wb1 wc1 aa1 ab1 ac1 ba1 bb1 bc1 w1 → Below w1.heap.size w1 w2 → St4 w b off c nx k0 n0 vk0 vt0 vi0 vs0 va0 vb0 vc0 wa0 wb0 wc0 aa0 ab0 ac0 ba0 bb0 bc0 k1 n1 vk1 vt1 vi1 vs1 va1 vb1 vc1 wa1 wb1 wc1 aa1 ab1 ac1 ba1 bb1 bc1 w2 := by
    intro w1 w2 h hb2
    obtain ⟨e0, e1, e2, e3, e4, e5, e6, e7, e8, e9, e10, e11, e12, e13, e14, e15, e16, e17, e18, e19, e20, hB⟩ := h
    have z0 : w.heap.size < w1.heap.size := World.block_lt_of_cell? w1 _ e0
    have z1 : b < w1.heap.size := World.block_lt_of_cell? w1 _ e1
    exact ⟨(hb2.cell (p := ⟨w.heap.size, 8, none⟩) z0).trans e0, (hb2.cell (p := ⟨b, off, none⟩) z1).trans e1, (hb2.cell (p := ⟨b, off + 1, none⟩) z1).trans e2, (hb2.cell (p := ⟨b, off + 2, none⟩) z1).trans e3, (hb2.cell (p := ⟨b, off + 3, none⟩) z1).trans e4, (hb2.cell (p := ⟨b, off + 4, none⟩) z1).trans e5, (hb2.cell (p := ⟨b, off + 5, none⟩) z1).trans e6, (hb2.cell (p := ⟨b, off + 6, none⟩) z1).trans e7, (hb2.cell (p := ⟨b, off + 7, none⟩) z1).trans e8, (hb2.cell (p := ⟨b, off + 8, none⟩) z1).trans e9, (hb2.cell (p := ⟨b, off + 9, none⟩) z1).trans e10, (hb2.cell (p := ⟨b, off + 10, none⟩) z1).trans e11, (hb2.cell (p := ⟨b, off + 10 + 1, none⟩) z1).trans e12, (hb2.cell (p := ⟨b, off + 10 + 2, none⟩) z1).trans e13, (hb2.cell (p := ⟨b, off + 10 + 3, none⟩) z1).trans e14, (hb2.cell (p := ⟨b, off + 10 + 4, none⟩) z1).trans e15, (hb2.cell (p := ⟨b, off + 10 + 5, none⟩) z1).trans e16, (hb2.cell (p := ⟨b, off + 10 + 6, none⟩) z1).trans e17, (hb2.cell (p := ⟨b, off + 10 + 7, none⟩) z1).trans e18, (hb2.cell (p := ⟨b, off + 10 + 8, none⟩) z1).trans e19, (hb2.cell (p := ⟨b, off + 10 + 9, none⟩) z1).trans e20, hB.trans (hb2.mono hB.size)⟩
  have hs0 : St4 w b off c nx k0 n0 vk0 vt0 vi0 vs0 va0 vb0 vc0 wa0 wb0 wc0 aa0 ab0 ac0 ba0 bb0 bc0 k1 n1 vk1 vt1 vi1 vs1 va1 vb1 vc1 wa1 wb1 wc1 aa1 ab1 ac1 ba1 bb1 bc1 W0.drew := by
    refine keep W0 W0.drew ⟨c8, p0_0, p0_1, p0_2, p0_3, p0_4, p0_5, p0_6, p0_7, p0_8, p0_9, p1_0, p1_1, p1_2, p1_3, p1_4, p1_5, p1_6, p1_7, p1_8, p1_9, B0⟩ (Below.refl _ _).drew
  have Q0 := Lib.hid (fun (w' : World) (h : St4 w b off c nx k0 n0 vk0 vt0 vi0 vs0 va0 vb0 vc0 wa0 wb0 wc0 aa0 ab0 ac0 ba0 bb0 bc0 k1 n1 vk1 vt1 vi1 vs1 va1 vb1 vc1 wa1 wb1 wc1 aa1 ab1 ac1 ba1 bb1 bc1 w') => O0.out w' h.2.2.2.2.2.2.2.2.2.2.2.2.2.2.2.2.2.2.2.2.2)
  have Q1 := Lib.hid (fun (w' : World) (h : St4 w b off c nx k0 n0 vk0 vt0 vi0 vs0 va0 vb0 vc0 wa0 wb0 wc0 aa0 ab0 ac0 ba0 bb0 bc0 k1 n1 vk1 vt1 vi1 vs1 va1 vb1 vc1 wa1 wb1 wc1 aa1 ab1 ac1 ba1 bb1 bc1 w') => O1.out w' h.2.2.2.2.2.2.2.2.2.2.2.2.2.2.2.2.2.2.2.2.2)
  have HS0 := Lib.hid hs0
  have KEEP := Lib.hid keep
  have HW0 := Lib.hid hW0
  clear E hsz hA0 hA1 hk0
  clear O0 O1
  clear hr hS hd0 hc0 B0 C0 hs0 keep hW0 hnx hE0 hS0 hE1 hS1 c8 p0_0 p0_1 p0_2 p0_3 p0_4 p0_5 p0_6 p0_7 p0_8 p0_9 p1_0 p1_1 p1_2 p1_3 p1_4 p1_5 p1_6 p1_7 p1_8 p1_9
  go_enter Tryz.func35, Tryz.ntmps35
  go_wp2_with fail
  rw [← HW0.out]
  have hs0 := HS0.out
  go_region_held3 (fun w' : World => w'.cell? ⟨w.heap.size, 8, none⟩ = some (.slice (some ⟨b, off, none⟩) 2 c) ∧ w'.cell? ⟨b, off, none⟩ = some (.int .i64 k0) ∧ w'.cell? ⟨b, off + 1, none⟩ = some (.string n0) ∧ w'.cell? ⟨b, off + 2, none⟩ = some (.int .i64 vk0) ∧ w'.cell? ⟨b, off + 3, none⟩ = some (.bool vt0) ∧ w'.cell? ⟨b, off + 4, none⟩ = some (.int .i64 vi0) ∧ w'.cell? ⟨b, off + 5, none⟩ = some (.string vs0) ∧ w'.cell? ⟨b, off + 6, none⟩ = some (.slice va0 vb0 vc0) ∧ w'.cell? ⟨b, off + 7, none⟩ = some (.slice wa0 wb0 wc0) ∧ w'.cell? ⟨b, off + 8, none⟩ = some (.slice aa0 ab0 ac0) ∧ w'.cell? ⟨b, off + 9, none⟩ = some (.slice ba0 bb0 bc0) ∧ w'.cell? ⟨b, off + 10, none⟩ = some (.int .i64 k1) ∧ w'.cell? ⟨b, off + 10 + 1, none⟩ = some (.string n1) ∧ w'.cell? ⟨b, off + 10 + 2, none⟩ = some (.int .i64 vk1) ∧ w'.cell? ⟨b, off + 10 + 3, none⟩ = some (.bool vt1) ∧ w'.cell? ⟨b, off + 10 + 4, none⟩ = some (.int .i64 vi1) ∧ w'.cell? ⟨b, off + 10 + 5, none⟩ = some (.string vs1) ∧ w'.cell? ⟨b, off + 10 + 6, none⟩ = some (.slice va1 vb1 vc1) ∧ w'.cell? ⟨b, off + 10 + 7, none⟩ = some (.slice wa1 wb1 wc1) ∧ w'.cell? ⟨b, off + 10 + 8, none⟩ = some (.slice aa1 ab1 ac1) ∧ w'.cell? ⟨b, off + 10 + 9, none⟩ = some (.slice ba1 bb1 bc1) ∧ Below w.heap.size w w') (first | exact hs0 | exact KEEP.out _ _ (by assumption) (by assumption)) (first
    | (go_at_call 64; go_fit (Q0.out _ (by assumption)); rintro e w2 ⟨rfl, hb2⟩)
    | (go_at_call 35; go_fit (Q1.out _ (by assumption)); rintro e w2 ⟨rfl, hb2⟩))
  all_goals
    have hfin : St4 w b off c nx k0 n0 vk0 vt0 vi0 vs0 va0 vb0 vc0 wa0 wb0 wc0 aa0 ab0 ac0 ba0 bb0 bc0 k1 n1 vk1 vt1 vi1 vs1 va1 vb1 vc1 wa1 wb1 wc1 aa1 ab1 ac1 ba1 bb1 bc1 w2 := by assumption
    go_wp2_with fail
    go_ret
    exact ⟨rfl, hfin.2.2.2.2.2.2.2.2.2.2.2.2.2.2.2.2.2.2.2.2.2⟩
def St6 (w : World) (b off c : Nat) (nx : ByteArray) (k0 : Int) (n0 : ByteArray) (vk0 : Int) (vt0 : Bool) (vi0 : Int) (vs0 : ByteArray) (va0 : Option Addr) (vb0 : Nat) (vc0 : Nat) (wa0 : Option Addr) (wb0 : Nat) (wc0 : Nat) (aa0 : Option Addr) (ab0 : Nat) (ac0 : Nat) (ba0 : Option Addr) (bb0 : Nat) (bc0 : Nat) (w' : World) : Prop := w'.cell? ⟨w.heap.size, 8, none⟩ = some (.slice (some ⟨b, off, none⟩) 1 c) ∧ w'.cell? ⟨w.heap.size, 1, none⟩ = some (.string nx) ∧ w'.cell? ⟨b, off, none⟩ = some (.int .i64 k0) ∧ w'.cell? ⟨b, off + 1, none⟩ = some (.string n0) ∧ w'.cell? ⟨b, off + 2, none⟩ = some (.int .i64 vk0) ∧ w'.cell? ⟨b, off + 3, none⟩ = some (.bool vt0) ∧ w'.cell? ⟨b, off + 4, none⟩ = some (.int .i64 vi0) ∧ w'.cell? ⟨b, off + 5, none⟩ = some (.string vs0) ∧ w'.cell? ⟨b, off + 6, none⟩ = some (.slice va0 vb0 vc0) ∧ w'.cell? ⟨b, off + 7, none⟩ = some (.slice wa0 wb0 wc0) ∧ w'.cell? ⟨b, off + 8, none⟩ = some (.slice aa0 ab0 ac0) ∧ w'.cell? ⟨b, off + 9, none⟩ = some (.slice ba0 bb0 bc0) ∧ Below w.heap.size w w'
set_option maxRecDepth 100000 in
set_option maxHeartbeats 4000000 in
theorem src_6 (m : Nat) (T : Xp → ByteArray) (n : List UInt8) (v : Vl) (vk : Int) (vt : Bool) (vi : Int) (vs : ByteArray) (s1 s2 av s4 : Option Addr) (a1 b1 a2 b2 c a4 b4 : Nat) (y0 : Xp) (ks : List (List UInt8)) (w : World)
    (hr : ReadsE (m + 1) w av [y0]) (hS : ∀ C y, y ∈ [y0] → IsE m w C y → SrcC w C (T y)) (hsz : (srcG T (.mk 6 v n [y0] ks)).size ≤ 1099511627776) :
    Calls Tryz.prog 35 #[.agg #[.int .i64 6, .string ⟨n.toArray⟩, .int .i64 vk, .bool vt, .int .i64 vi, .string vs, .slice s1 a1 b1, .slice s2 a2 b2, .slice av 1 c, .slice s4 a4 b4]] w fun e w' => e = .returned (.string (srcG T (.mk 6 v n [y0] ks))) ∧ Below w.heap.size w w' := by
  obtain ⟨b, off, D0, rfl, hb, hd0, hc0⟩ := hr 0 y0 rfl
  have hE0 : IsE m w D0 y0 := hd0
  have hS0 := hS D0 y0 (by simp) hE0
  have E : srcG T (.mk 6 v n [y0] ks) = (⟨n.toArray⟩ ++ (brkT (strX y0) 7 (T y0))) := rfl
  rw [E] at hsz ⊢
  obtain ⟨nx, hnx⟩ : ∃ nx : ByteArray, nx = ⟨n.toArray⟩ := ⟨_, rfl⟩
  rw [← hnx] at hsz ⊢
  simp only [ByteArray.size_append] at hsz
  have hk0 := brkT_le (strX y0) 7 (T y0)
  have O0 := Lib.hid (fun (w' : World) (hb : Below w.heap.size w w') => operand_any m D0 y0 (T y0) 7 w' (hE0.below hb) (hS0.below hb) (by omega))
  obtain ⟨A0, hA0⟩ : ∃ A, A = brkT (strX y0) 7 (T y0) := ⟨_, rfl⟩
  rw [← hA0] at O0 hsz hk0 ⊢
  obtain ⟨k0, n0, vk0, vt0, vi0, vs0, va0, vb0, vc0, wa0, wb0, wc0, aa0, ab0, ac0, ba0, bb0, bc0, hD0⟩ := isE_cells hE0
  subst hD0
  have sa1 := fun w => run_string_add_sum (P := Tryz.prog) w nx A0 (by omega)
  have B0 := (Below.refl w.heap.size w).alloc (Nat.le_refl _) (.cells #[.int .i64 6, .string nx, .int .i64 vk, .bool vt, .int .i64 vi, .string vs, .slice s1 a1 b1, .slice s2 a2 b2, .slice (some ⟨b, off, none⟩) 1 c, .slice s4 a4 b4] 29)
  have C0 := CellsAt.new w 29 #[.int .i64 6, .string nx, .int .i64 vk, .bool vt, .int .i64 vi, .string vs, .slice s1 a1 b1, .slice s2 a2 b2, .slice (some ⟨b, off, none⟩) 1 c, .slice s4 a4 b4]
  have p0_0 := (B0.cell (p := ⟨b, _, none⟩) hb).trans (hc0 0 (.int .i64 k0) rfl)
  have p0_1 := (B0.cell (p := ⟨b, _, none⟩) hb).trans (hc0 1 (.string n0) rfl)
  have p0_2 := (B0.cell (p := ⟨b, _, none⟩) hb).trans (hc0 2 (.int .i64 vk0) rfl)
  have p0_3 := (B0.cell (p := ⟨b, _, none⟩) hb).trans (hc0 3 (.bool vt0) rfl)
  have p0_4 := (B0.cell (p := ⟨b, _, none⟩) hb).trans (hc0 4 (.int .i64 vi0) rfl)
  have p0_5 := (B0.cell (p := ⟨b, _, none⟩) hb).trans (hc0 5 (.string vs0) rfl)
  have p0_6 := (B0.cell (p := ⟨b, _, none⟩) hb).trans (hc0 6 (.slice va0 vb0 vc0) rfl)
  have p0_7 := (B0.cell (p := ⟨b, _, none⟩) hb).trans (hc0 7 (.slice wa0 wb0 wc0) rfl)
  have p0_8 := (B0.cell (p := ⟨b, _, none⟩) hb).trans (hc0 8 (.slice aa0 ab0 ac0) rfl)
  have p0_9 := (B0.cell (p := ⟨b, _, none⟩) hb).trans (hc0 9 (.slice ba0 bb0 bc0) rfl)
  obtain ⟨W0, hW0⟩ : ∃ W0, W0 = w.alloc (.cells #[.int .i64 6, .string nx, .int .i64 vk, .bool vt, .int .i64 vi, .string vs, .slice s1 a1 b1, .slice s2 a2 b2, .slice (some ⟨b, off, none⟩) 1 c, .slice s4 a4 b4] 29) := ⟨_, rfl⟩
  rw [← hW0] at B0 C0 p0_0 p0_1 p0_2 p0_3 p0_4 p0_5 p0_6 p0_7 p0_8 p0_9
  have c8 := C0.cell (k := 8) (u := .slice (some ⟨b, off, none⟩) 1 c) rfl
  have c1 := C0.cell (k := 1) (u := .string nx) rfl
  have keep : ∀ w1 w2 : World, St6 w b off c nx k0 n0 vk0 vt0 vi0 vs0 va0 vb0 vc0 wa0 wb0 wc0 aa0 ab0 ac0 ba0 bb0 bc0 w1 → Below w1.heap.size w1 w2 → St6 w b off c nx k0 n0 vk0 vt0 vi0 vs0 va0 vb0 vc0 wa0 wb0 wc0 aa0 ab0 ac0 ba0 bb0 bc0 w2 := by
    intro w1 w2 h hb2
    obtain ⟨e0, e1, e2, e3, e4, e5, e6, e7, e8, e9, e10, e11, hB⟩ := h
    have z0 : w.heap.size < w1.heap.size := World.block_lt_of_cell? w1 _ e0
    have z1 : b < w1.heap.size := World.block_lt_of_cell? w1 _ e2
    exact ⟨(hb2.cell (p := ⟨w.heap.size, 8, none⟩) z0).trans e0, (hb2.cell (p := ⟨w.heap.size, 1, none⟩) z0).trans e1, (hb2.cell (p := ⟨b, off, none⟩) z1).trans e2, (hb2.cell (p := ⟨b, off + 1, none⟩) z1).trans e3, (hb2.cell (p := ⟨b, off + 2, none⟩) z1).trans e4, (hb2.cell (p := ⟨b, off + 3, none⟩) z1).trans e5, (hb2.cell (p := ⟨b, off + 4, none⟩) z1).trans e6, (hb2.cell (p := ⟨b, off + 5, none⟩) z1).trans e7, (hb2.cell (p := ⟨b, off + 6, none⟩) z1).trans e8, (hb2.cell (p := ⟨b, off + 7, none⟩) z1).trans e9, (hb2.cell (p := ⟨b, off + 8, none⟩) z1).trans e10, (hb2.cell (p := ⟨b, off + 9, none⟩) z1).trans e11, hB.trans (hb2.mono hB.size)⟩
  have hs0 : St6 w b off c nx k0 n0 vk0 vt0 vi0 vs0 va0 vb0 vc0 wa0 wb0 wc0 aa0 ab0 ac0 ba0 bb0 bc0 W0.drew := by
    refine keep W0 W0.drew ⟨c8, c1, p0_0, p0_1, p0_2, p0_3, p0_4, p0_5, p0_6, p0_7, p0_8, p0_9, B0⟩ (Below.refl _ _).drew
  have Q0 := Lib.hid (fun (w' : World) (h : St6 w b off c nx k0 n0 vk0 vt0 vi0 vs0 va0 vb0 vc0 wa0 wb0 wc0 aa0 ab0 ac0 ba0 bb0 bc0 w') => O0.out w' h.2.2.2.2.2.2.2.2.2.2.2.2)
  have HS0 := Lib.hid hs0
  have KEEP := Lib.hid keep
  have HW0 := Lib.hid hW0
  clear E hsz hA0 hk0
  clear O0
  clear hr hS hd0 hc0 B0 C0 hs0 keep hW0 hnx hE0 hS0 c8 c1 p0_0 p0_1 p0_2 p0_3 p0_4 p0_5 p0_6 p0_7 p0_8 p0_9
  go_enter Tryz.func35, Tryz.ntmps35
  go_wp2_with fail
  rw [← HW0.out]
  have hs0 := HS0.out
  go_region_held3 (fun w' : World => w'.cell? ⟨w.heap.size, 8, none⟩ = some (.slice (some ⟨b, off, none⟩) 1 c) ∧ w'.cell? ⟨w.heap.size, 1, none⟩ = some (.string nx) ∧ w'.cell? ⟨b, off, none⟩ = some (.int .i64 k0) ∧ w'.cell? ⟨b, off + 1, none⟩ = some (.string n0) ∧ w'.cell? ⟨b, off + 2, none⟩ = some (.int .i64 vk0) ∧ w'.cell? ⟨b, off + 3, none⟩ = some (.bool vt0) ∧ w'.cell? ⟨b, off + 4, none⟩ = some (.int .i64 vi0) ∧ w'.cell? ⟨b, off + 5, none⟩ = some (.string vs0) ∧ w'.cell? ⟨b, off + 6, none⟩ = some (.slice va0 vb0 vc0) ∧ w'.cell? ⟨b, off + 7, none⟩ = some (.slice wa0 wb0 wc0) ∧ w'.cell? ⟨b, off + 8, none⟩ = some (.slice aa0 ab0 ac0) ∧ w'.cell? ⟨b, off + 9, none⟩ = some (.slice ba0 bb0 bc0) ∧ Below w.heap.size w w') (first | exact hs0 | exact KEEP.out _ _ (by assumption) (by assumption)) (first
    | (go_at_call 64; go_fit (Q0.out _ (by assumption)); rintro e w2 ⟨rfl, hb2⟩))
  all_goals
    have hfin : St6 w b off c nx k0 n0 vk0 vt0 vi0 vs0 va0 vb0 vc0 wa0 wb0 wc0 aa0 ab0 ac0 ba0 bb0 bc0 w2 := by assumption
    go_wp2_with fail
    go_ret
    exact ⟨rfl, hfin.2.2.2.2.2.2.2.2.2.2.2.2⟩
def St7 (w : World) (b off c : Nat) (nx : ByteArray) (k0 : Int) (n0 : ByteArray) (vk0 : Int) (vt0 : Bool) (vi0 : Int) (vs0 : ByteArray) (va0 : Option Addr) (vb0 : Nat) (vc0 : Nat) (wa0 : Option Addr) (wb0 : Nat) (wc0 : Nat) (aa0 : Option Addr) (ab0 : Nat) (ac0 : Nat) (ba0 : Option Addr) (bb0 : Nat) (bc0 : Nat) (k1 : Int) (n1 : ByteArray) (vk1 : Int) (vt1 : Bool) (vi1 : Int) (vs1 : ByteArray) (va1 : Option Addr) (vb1 : Nat) (vc1 : Nat) (wa1 : Option Addr) (wb1 : Nat) (wc1 : Nat) (aa1 : Option Addr) (ab1 : Nat) (ac1 : Nat) (ba1 : Option Addr) (bb1 : Nat) (bc1 : Nat) (w' : World) : Prop := w'.cell? ⟨w.heap.size, 8, none⟩ = some (.slice (some ⟨b, off, none⟩) 2 c) ∧ w'.cell? ⟨w.heap.size, 1, none⟩ = some (.string nx) ∧ w'.cell? ⟨b, off, none⟩ = some (.int .i64 k0) ∧ w'.cell? ⟨b, off + 1, none⟩ = some (.string n0) ∧ w'.cell? ⟨b, off + 2, none⟩ = some (.int .i64 vk0) ∧ w'.cell? ⟨b, off + 3, none⟩ = some (.bool vt0) ∧ w'.cell? ⟨b, off + 4, none⟩ = some (.int .i64 vi0) ∧ w'.cell? ⟨b, off + 5, none⟩ = some (.string vs0) ∧ w'.cell? ⟨b, off + 6, none⟩ = some (.slice va0 vb0 vc0) ∧ w'.cell? ⟨b, off + 7, none⟩ = some (.slice wa0 wb0 wc0) ∧ w'.cell? ⟨b, off + 8, none⟩ = some (.slice aa0 ab0 ac0) ∧ w'.cell? ⟨b, off + 9, none⟩ = some (.slice ba0 bb0 bc0) ∧ w'.cell? ⟨b, off + 10, none⟩ = some (.int .i64 k1) ∧ w'.cell? ⟨b, off + 10 + 1, none⟩ = some (.string n1) ∧ w'.cell? ⟨b, off + 10 + 2, none⟩ = some (.int .i64 vk1) ∧ w'.cell? ⟨b, off + 10 + 3, none⟩ = some (.bool vt1) ∧ w'.cell? ⟨b, off + 10 + 4, none⟩ = some (.int .i64 vi1) ∧ w'.cell? ⟨b, off + 10 + 5, none⟩ = some (.string vs1) ∧ w'.cell? ⟨b, off + 10 + 6, none⟩ = some (.slice va1 vb1 vc1) ∧ w'.cell? ⟨b, off + 10 + 7, none⟩ = some (.slice wa1 wb1 wc1) ∧ w'.cell? ⟨b, off + 10 + 8, none⟩ = some (.slice aa1 ab1 ac1) ∧ w'.cell? ⟨b, off + 10 + 9, none⟩ = some (.slice ba1 bb1 bc1) ∧ Below w.heap.size w w'
set_option maxRecDepth 100000 in
set_option maxHeartbeats 4000000 in
theorem src_7 (m : Nat) (T : Xp → ByteArray) (n : List UInt8) (v : Vl) (vk : Int) (vt : Bool) (vi : Int) (vs : ByteArray) (s1 s2 av s4 : Option Addr) (a1 b1 a2 b2 c a4 b4 : Nat) (y0 y1 : Xp) (ks : List (List UInt8)) (w : World)
    (hr : ReadsE (m + 1) w av [y0, y1]) (hS : ∀ C y, y ∈ [y0, y1] → IsE m w C y → SrcC w C (T y)) (hsz : (srcG T (.mk 7 v n [y0, y1] ks)).size ≤ 1099511627776) (hn6 : strB n ≤ 6) :
    Calls Tryz.prog 35 #[.agg #[.int .i64 7, .string ⟨n.toArray⟩, .int .i64 vk, .bool vt, .int .i64 vi, .string vs, .slice s1 a1 b1, .slice s2 a2 b2, .slice av 2 c, .slice s4 a4 b4]] w fun e w' => e = .returned (.string (srcG T (.mk 7 v n [y0, y1] ks))) ∧ Below w.heap.size w w' := by
  obtain ⟨b, off, D0, rfl, hb, hd0, hc0⟩ := hr 0 y0 rfl
  obtain ⟨b_1, off_1, D1, he1, hb_1, hd1, hc1⟩ := hr 1 y1 rfl
  injection he1 with he1
  injection he1 with hx1 hy1
  subst hx1 hy1
  have hE0 : IsE m w D0 y0 := hd0
  have hS0 := hS D0 y0 (by simp) hE0
  have hE1 : IsE m w D1 y1 := hd1
  have hS1 := hS D1 y1 (by simp) hE1
  have E : srcG T (.mk 7 v n [y0, y1] ks) = (((((brkT (strX y0) (fstS (strB n) : Nat) (T y0)) ++ (⟨#[32]⟩ : ByteArray)) ++ ⟨n.toArray⟩) ++ (⟨#[32]⟩ : ByteArray)) ++ (brkT (strX y1) ((strB n : Int) + 1) (T y1))) := rfl
  rw [E] at hsz ⊢
  obtain ⟨q, hq⟩ : ∃ q, q = strB n := ⟨_, rfl⟩
  obtain ⟨nx, hnx⟩ : ∃ nx : ByteArray, nx = ⟨n.toArray⟩ := ⟨_, rfl⟩
  have SB := Lib.hid (fun w => opStr_any n w)
  have FS := Lib.hid (fun w => fstStr_any (strB n) hn6 w)
  rw [← hq] at SB FS hsz hn6 ⊢
  rw [← hnx] at SB
  rw [← hnx] at hsz ⊢
  have hwr : IntKind.i64.wrap ((q : Int) + 1) = (q : Int) + 1 := by rw [IntKind.wrap_i64]; omega
  simp only [ByteArray.size_append] at hsz
  have hk0 := brkT_le (strX y0) (fstS q : Nat) (T y0)
  have hk1 := brkT_le (strX y1) ((q : Int) + 1) (T y1)
  have O0 := Lib.hid (fun (w' : World) (hb : Below w.heap.size w w') => operand_any m D0 y0 (T y0) (fstS q : Nat) w' (hE0.below hb) (hS0.below hb) (by omega))
  obtain ⟨A0, hA0⟩ : ∃ A, A = brkT (strX y0) (fstS q : Nat) (T y0) := ⟨_, rfl⟩
  rw [← hA0] at O0 hsz hk0 ⊢
  have O1 := Lib.hid (fun (w' : World) (hb : Below w.heap.size w w') => operand_any m D1 y1 (T y1) ((q : Int) + 1) w' (hE1.below hb) (hS1.below hb) (by omega))
  obtain ⟨A1, hA1⟩ : ∃ A, A = brkT (strX y1) ((q : Int) + 1) (T y1) := ⟨_, rfl⟩
  rw [← hA1] at O1 hsz hk1 ⊢
  obtain ⟨k0, n0, vk0, vt0, vi0, vs0, va0, vb0, vc0, wa0, wb0, wc0, aa0, ab0, ac0, ba0, bb0, bc0, hD0⟩ := isE_cells hE0
  subst hD0
  obtain ⟨k1, n1, vk1, vt1, vi1, vs1, va1, vb1, vc1, wa1, wb1, wc1, aa1, ab1, ac1, ba1, bb1, bc1, hD1⟩ := isE_cells hE1
  subst hD1
  have sa1 := fun w => run_string_add_sum (P := Tryz.prog) w A0 (⟨#[32]⟩ : ByteArray) (by have : (⟨#[32]⟩ : ByteArray).size = 1 := rfl; omega)
  have sa2 := fun w => run_string_add_sum (P := Tryz.prog) w (A0 ++ (⟨#[32]⟩ : ByteArray)) nx (by simp only [ByteArray.size_append]; have : (⟨#[32]⟩ : ByteArray).size = 1 := rfl; omega)
  have sa3 := fun w => run_string_add_sum (P := Tryz.prog) w ((A0 ++ (⟨#[32]⟩ : ByteArray)) ++ nx) (⟨#[32]⟩ : ByteArray) (by simp only [ByteArray.size_append]; have : (⟨#[32]⟩ : ByteArray).size = 1 := rfl; omega)
  have sa4 := fun w => run_string_add_sum (P := Tryz.prog) w (((A0 ++ (⟨#[32]⟩ : ByteArray)) ++ nx) ++ (⟨#[32]⟩ : ByteArray)) A1 (by simp only [ByteArray.size_append]; have : (⟨#[32]⟩ : ByteArray).size = 1 := rfl; omega)
  have B0 := (Below.refl w.heap.size w).alloc (Nat.le_refl _) (.cells #[.int .i64 7, .string nx, .int .i64 vk, .bool vt, .int .i64 vi, .string vs, .slice s1 a1 b1, .slice s2 a2 b2, .slice (some ⟨b, off, none⟩) 2 c, .slice s4 a4 b4] 29)
  have C0 := CellsAt.new w 29 #[.int .i64 7, .string nx, .int .i64 vk, .bool vt, .int .i64 vi, .string vs, .slice s1 a1 b1, .slice s2 a2 b2, .slice (some ⟨b, off, none⟩) 2 c, .slice s4 a4 b4]
  have p0_0 := (B0.cell (p := ⟨b, _, none⟩) hb).trans (hc0 0 (.int .i64 k0) rfl)
  have p0_1 := (B0.cell (p := ⟨b, _, none⟩) hb).trans (hc0 1 (.string n0) rfl)
  have p0_2 := (B0.cell (p := ⟨b, _, none⟩) hb).trans (hc0 2 (.int .i64 vk0) rfl)
  have p0_3 := (B0.cell (p := ⟨b, _, none⟩) hb).trans (hc0 3 (.bool vt0) rfl)
  have p0_4 := (B0.cell (p := ⟨b, _, none⟩) hb).trans (hc0 4 (.int .i64 vi0) rfl)
  have p0_5 := (B0.cell (p := ⟨b, _, none⟩) hb).trans (hc0 5 (.string vs0) rfl)
  have p0_6 := (B0.cell (p := ⟨b, _, none⟩) hb).trans (hc0 6 (.slice va0 vb0 vc0) rfl)
  have p0_7 := (B0.cell (p := ⟨b, _, none⟩) hb).trans (hc0 7 (.slice wa0 wb0 wc0) rfl)
  have p0_8 := (B0.cell (p := ⟨b, _, none⟩) hb).trans (hc0 8 (.slice aa0 ab0 ac0) rfl)
  have p0_9 := (B0.cell (p := ⟨b, _, none⟩) hb).trans (hc0 9 (.slice ba0 bb0 bc0) rfl)
  have p1_0 := (B0.cell (p := ⟨b, _, none⟩) hb).trans (hc1 0 (.int .i64 k1) rfl)
  have p1_1 := (B0.cell (p := ⟨b, _, none⟩) hb).trans (hc1 1 (.string n1) rfl)
  have p1_2 := (B0.cell (p := ⟨b, _, none⟩) hb).trans (hc1 2 (.int .i64 vk1) rfl)
  have p1_3 := (B0.cell (p := ⟨b, _, none⟩) hb).trans (hc1 3 (.bool vt1) rfl)
  have p1_4 := (B0.cell (p := ⟨b, _, none⟩) hb).trans (hc1 4 (.int .i64 vi1) rfl)
  have p1_5 := (B0.cell (p := ⟨b, _, none⟩) hb).trans (hc1 5 (.string vs1) rfl)
  have p1_6 := (B0.cell (p := ⟨b, _, none⟩) hb).trans (hc1 6 (.slice va1 vb1 vc1) rfl)
  have p1_7 := (B0.cell (p := ⟨b, _, none⟩) hb).trans (hc1 7 (.slice wa1 wb1 wc1) rfl)
  have p1_8 := (B0.cell (p := ⟨b, _, none⟩) hb).trans (hc1 8 (.slice aa1 ab1 ac1) rfl)
  have p1_9 := (B0.cell (p := ⟨b, _, none⟩) hb).trans (hc1 9 (.slice ba1 bb1 bc1) rfl)
  obtain ⟨W0, hW0⟩ : ∃ W0, W0 = w.alloc (.cells #[.int .i64 7, .string nx, .int .i64 vk, .bool vt, .int .i64 vi, .string vs, .slice s1 a1 b1, .slice s2 a2 b2, .slice (some ⟨b, off, none⟩) 2 c, .slice s4 a4 b4] 29) := ⟨_, rfl⟩
  rw [← hW0] at B0 C0 p0_0 p0_1 p0_2 p0_3 p0_4 p0_5 p0_6 p0_7 p0_8 p0_9 p1_0 p1_1 p1_2 p1_3 p1_4 p1_5 p1_6 p1_7 p1_8 p1_9
  have c8 := C0.cell (k := 8) (u := .slice (some ⟨b, off, none⟩) 2 c) rfl
  have c1 := C0.cell (k := 1) (u := .string nx) rfl
  have keep : ∀ w1 w2 : World, St7 w b off c nx k0 n0 vk0 vt0 vi0 vs0 va0 vb0 vc0 wa0 wb0 wc0 aa0 ab0 ac0 ba0 bb0 bc0 k1 n1 vk1 vt1 vi1 vs1 va1 vb1 vc1 wa1 wb1 wc1 aa1 ab1 ac1 ba1 bb1 bc1 w1 → Below w1.heap.size w1 w2 → St7 w b off c nx k0 n0 vk0 vt0 vi0 vs0 va0 vb0 vc0 wa0 wb0 wc0 aa0 ab0 ac0 ba0 bb0 bc0 k1 n1 vk1 vt1 vi1 vs1 va1 vb1 vc1 wa1 wb1 wc1 aa1 ab1 ac1 ba1 bb1 bc1 w2 := by
    intro w1 w2 h hb2
    obtain ⟨e0, e1, e2, e3, e4, e5, e6, e7, e8, e9, e10, e11, e12, e13, e14, e15, e16, e17, e18, e19, e20, e21, hB⟩ := h
    have z0 : w.heap.size < w1.heap.size := World.block_lt_of_cell? w1 _ e0
    have z1 : b < w1.heap.size := World.block_lt_of_cell? w1 _ e2
    exact ⟨(hb2.cell (p := ⟨w.heap.size, 8, none⟩) z0).trans e0, (hb2.cell (p := ⟨w.heap.size, 1, none⟩) z0).trans e1, (hb2.cell (p := ⟨b, off, none⟩) z1).trans e2, (hb2.cell (p := ⟨b, off + 1, none⟩) z1).trans e3, (hb2.cell (p := ⟨b, off + 2, none⟩) z1).trans e4, (hb2.cell (p := ⟨b, off + 3, none⟩) z1).trans e5, (hb2.cell (p := ⟨b, off + 4, none⟩) z1).trans e6, (hb2.cell (p := ⟨b, off + 5, none⟩) z1).trans e7, (hb2.cell (p := ⟨b, off + 6, none⟩) z1).trans e8, (hb2.cell (p := ⟨b, off + 7, none⟩) z1).trans e9, (hb2.cell (p := ⟨b, off + 8, none⟩) z1).trans e10, (hb2.cell (p := ⟨b, off + 9, none⟩) z1).trans e11, (hb2.cell (p := ⟨b, off + 10, none⟩) z1).trans e12, (hb2.cell (p := ⟨b, off + 10 + 1, none⟩) z1).trans e13, (hb2.cell (p := ⟨b, off + 10 + 2, none⟩) z1).trans e14, (hb2.cell (p := ⟨b, off + 10 + 3, none⟩) z1).trans e15, (hb2.cell (p := ⟨b, off + 10 + 4, none⟩) z1).trans e16, (hb2.cell (p := ⟨b, off + 10 + 5, none⟩) z1).trans e17, (hb2.cell (p := ⟨b, off + 10 + 6, none⟩) z1).trans e18, (hb2.cell (p := ⟨b, off + 10 + 7, none⟩) z1).trans e19, (hb2.cell (p := ⟨b, off + 10 + 8, none⟩) z1).trans e20, (hb2.cell (p := ⟨b, off + 10 + 9, none⟩) z1).trans e21, hB.trans (hb2.mono hB.size)⟩
  have hs0 : St7 w b off c nx k0 n0 vk0 vt0 vi0 vs0 va0 vb0 vc0 wa0 wb0 wc0 aa0 ab0 ac0 ba0 bb0 bc0 k1 n1 vk1 vt1 vi1 vs1 va1 vb1 vc1 wa1 wb1 wc1 aa1 ab1 ac1 ba1 bb1 bc1 W0.drew := by
    refine keep W0 W0.drew ⟨c8, c1, p0_0, p0_1, p0_2, p0_3, p0_4, p0_5, p0_6, p0_7, p0_8, p0_9, p1_0, p1_1, p1_2, p1_3, p1_4, p1_5, p1_6, p1_7, p1_8, p1_9, B0⟩ (Below.refl _ _).drew
  have Q0 := Lib.hid (fun (w' : World) (h : St7 w b off c nx k0 n0 vk0 vt0 vi0 vs0 va0 vb0 vc0 wa0 wb0 wc0 aa0 ab0 ac0 ba0 bb0 bc0 k1 n1 vk1 vt1 vi1 vs1 va1 vb1 vc1 wa1 wb1 wc1 aa1 ab1 ac1 ba1 bb1 bc1 w') => O0.out w' h.2.2.2.2.2.2.2.2.2.2.2.2.2.2.2.2.2.2.2.2.2.2)
  have Q1 := Lib.hid (fun (w' : World) (h : St7 w b off c nx k0 n0 vk0 vt0 vi0 vs0 va0 vb0 vc0 wa0 wb0 wc0 aa0 ab0 ac0 ba0 bb0 bc0 k1 n1 vk1 vt1 vi1 vs1 va1 vb1 vc1 wa1 wb1 wc1 aa1 ab1 ac1 ba1 bb1 bc1 w') => O1.out w' h.2.2.2.2.2.2.2.2.2.2.2.2.2.2.2.2.2.2.2.2.2.2)
  have HS0 := Lib.hid hs0
  have KEEP := Lib.hid keep
  have HW0 := Lib.hid hW0
  clear E hsz hA0 hA1 hk0 hk1 hn6 hq
  clear O0 O1
  clear hr hS hd0 hc0 B0 C0 hs0 keep hW0 hnx hE0 hS0 hE1 hS1 c8 c1 p0_0 p0_1 p0_2 p0_3 p0_4 p0_5 p0_6 p0_7 p0_8 p0_9 p1_0 p1_1 p1_2 p1_3 p1_4 p1_5 p1_6 p1_7 p1_8 p1_9
  go_enter Tryz.func35, Tryz.ntmps35
  go_wp2_with fail
  go_fit (SB.out _)
  rintro e w1 ⟨rfl, rfl⟩
  go_wp2_with fail
  rw [← HW0.out]
  have hs0 := HS0.out
  go_region_held3 (fun w' : World => w'.cell? ⟨w.heap.size, 8, none⟩ = some (.slice (some ⟨b, off, none⟩) 2 c) ∧ w'.cell? ⟨w.heap.size, 1, none⟩ = some (.string nx) ∧ w'.cell? ⟨b, off, none⟩ = some (.int .i64 k0) ∧ w'.cell? ⟨b, off + 1, none⟩ = some (.string n0) ∧ w'.cell? ⟨b, off + 2, none⟩ = some (.int .i64 vk0) ∧ w'.cell? ⟨b, off + 3, none⟩ = some (.bool vt0) ∧ w'.cell? ⟨b, off + 4, none⟩ = some (.int .i64 vi0) ∧ w'.cell? ⟨b, off + 5, none⟩ = some (.string vs0) ∧ w'.cell? ⟨b, off + 6, none⟩ = some (.slice va0 vb0 vc0) ∧ w'.cell? ⟨b, off + 7, none⟩ = some (.slice wa0 wb0 wc0) ∧ w'.cell? ⟨b, off + 8, none⟩ = some (.slice aa0 ab0 ac0) ∧ w'.cell? ⟨b, off + 9, none⟩ = some (.slice ba0 bb0 bc0) ∧ w'.cell? ⟨b, off + 10, none⟩ = some (.int .i64 k1) ∧ w'.cell? ⟨b, off + 10 + 1, none⟩ = some (.string n1) ∧ w'.cell? ⟨b, off + 10 + 2, none⟩ = some (.int .i64 vk1) ∧ w'.cell? ⟨b, off + 10 + 3, none⟩ = some (.bool vt1) ∧ w'.cell? ⟨b, off + 10 + 4, none⟩ = some (.int .i64 vi1) ∧ w'.cell? ⟨b, off + 10 + 5, none⟩ = some (.string vs1) ∧ w'.cell? ⟨b, off + 10 + 6, none⟩ = some (.slice va1 vb1 vc1) ∧ w'.cell? ⟨b, off + 10 + 7, none⟩ = some (.slice wa1 wb1 wc1) ∧ w'.cell? ⟨b, off + 10 + 8, none⟩ = some (.slice aa1 ab1 ac1) ∧ w'.cell? ⟨b, off + 10 + 9, none⟩ = some (.slice ba1 bb1 bc1) ∧ Below w.heap.size w w') (first | exact hs0 | exact KEEP.out _ _ (by assumption) (by assumption)) (first
    | (go_at_call 64; go_fit (Q0.out _ (by assumption)); rintro e w2 ⟨rfl, hb2⟩)
    | (go_at_call 64; go_fit (Q1.out _ (by assumption)); rintro e w2 ⟨rfl, hb2⟩)
    | (go_at_call 67; go_fit (FS.out _); rintro e w2 ⟨rfl, rfl⟩))
  all_goals
    have hfin : St7 w b off c nx k0 n0 vk0 vt0 vi0 vs0 va0 vb0 vc0 wa0 wb0 wc0 aa0 ab0 ac0 ba0 bb0 bc0 k1 n1 vk1 vt1 vi1 vs1 va1 vb1 vc1 wa1 wb1 wc1 aa1 ab1 ac1 ba1 bb1 bc1 w2 := by assumption
    go_wp2_with fail
    go_ret
    exact ⟨rfl, hfin.2.2.2.2.2.2.2.2.2.2.2.2.2.2.2.2.2.2.2.2.2.2⟩
def St8 (w : World) (b off c : Nat) (nx : ByteArray) (k0 : Int) (n0 : ByteArray) (vk0 : Int) (vt0 : Bool) (vi0 : Int) (vs0 : ByteArray) (va0 : Option Addr) (vb0 : Nat) (vc0 : Nat) (wa0 : Option Addr) (wb0 : Nat) (wc0 : Nat) (aa0 : Option Addr) (ab0 : Nat) (ac0 : Nat) (ba0 : Option Addr) (bb0 : Nat) (bc0 : Nat) (k1 : Int) (n1 : ByteArray) (vk1 : Int) (vt1 : Bool) (vi1 : Int) (vs1 : ByteArray) (va1 : Option Addr) (vb1 : Nat) (vc1 : Nat) (wa1 : Option Addr) (wb1 : Nat) (wc1 : Nat) (aa1 : Option Addr) (ab1 : Nat) (ac1 : Nat) (ba1 : Option Addr) (bb1 : Nat) (bc1 : Nat) (k2 : Int) (n2 : ByteArray) (vk2 : Int) (vt2 : Bool) (vi2 : Int) (vs2 : ByteArray) (va2 : Option Addr) (vb2 : Nat) (vc2 : Nat) (wa2 : Option Addr) (wb2 : Nat) (wc2 : Nat) (aa2 : Option Addr) (ab2 : Nat) (ac2 : Nat) (ba2 : Option Addr) (bb2 : Nat) (bc2 : Nat) (w' : World) : Prop := w'.cell? ⟨w.heap.size, 8, none⟩ = some (.slice (some ⟨b, off, none⟩) 3 c) ∧ w'.cell? ⟨b, off, none⟩ = some (.int .i64 k0) ∧ w'.cell? ⟨b, off + 1, none⟩ = some (.string n0) ∧ w'.cell? ⟨b, off + 2, none⟩ = some (.int .i64 vk0) ∧ w'.cell? ⟨b, off + 3, none⟩ = some (.bool vt0) ∧ w'.cell? ⟨b, off + 4, none⟩ = some (.int .i64 vi0) ∧ w'.cell? ⟨b, off + 5, none⟩ = some (.string vs0) ∧ w'.cell? ⟨b, off + 6, none⟩ = some (.slice va0 vb0 vc0) ∧ w'.cell? ⟨b, off + 7, none⟩ = some (.slice wa0 wb0 wc0) ∧ w'.cell? ⟨b, off + 8, none⟩ = some (.slice aa0 ab0 ac0) ∧ w'.cell? ⟨b, off + 9, none⟩ = some (.slice ba0 bb0 bc0) ∧ w'.cell? ⟨b, off + 10, none⟩ = some (.int .i64 k1) ∧ w'.cell? ⟨b, off + 10 + 1, none⟩ = some (.string n1) ∧ w'.cell? ⟨b, off + 10 + 2, none⟩ = some (.int .i64 vk1) ∧ w'.cell? ⟨b, off + 10 + 3, none⟩ = some (.bool vt1) ∧ w'.cell? ⟨b, off + 10 + 4, none⟩ = some (.int .i64 vi1) ∧ w'.cell? ⟨b, off + 10 + 5, none⟩ = some (.string vs1) ∧ w'.cell? ⟨b, off + 10 + 6, none⟩ = some (.slice va1 vb1 vc1) ∧ w'.cell? ⟨b, off + 10 + 7, none⟩ = some (.slice wa1 wb1 wc1) ∧ w'.cell? ⟨b, off + 10 + 8, none⟩ = some (.slice aa1 ab1 ac1) ∧ w'.cell? ⟨b, off + 10 + 9, none⟩ = some (.slice ba1 bb1 bc1) ∧ w'.cell? ⟨b, off + 20, none⟩ = some (.int .i64 k2) ∧ w'.cell? ⟨b, off + 20 + 1, none⟩ = some (.string n2) ∧ w'.cell? ⟨b, off + 20 + 2, none⟩ = some (.int .i64 vk2) ∧ w'.cell? ⟨b, off + 20 + 3, none⟩ = some (.bool vt2) ∧ w'.cell? ⟨b, off + 20 + 4, none⟩ = some (.int .i64 vi2) ∧ w'.cell? ⟨b, off + 20 + 5, none⟩ = some (.string vs2) ∧ w'.cell? ⟨b, off + 20 + 6, none⟩ = some (.slice va2 vb2 vc2) ∧ w'.cell? ⟨b, off + 20 + 7, none⟩ = some (.slice wa2 wb2 wc2) ∧ w'.cell? ⟨b, off + 20 + 8, none⟩ = some (.slice aa2 ab2 ac2) ∧ w'.cell? ⟨b, off + 20 + 9, none⟩ = some (.slice ba2 bb2 bc2) ∧ Below w.heap.size w w'
set_option maxRecDepth 100000 in
set_option maxHeartbeats 4000000 in
theorem src_8 (m : Nat) (T : Xp → ByteArray) (n : List UInt8) (v : Vl) (vk : Int) (vt : Bool) (vi : Int) (vs : ByteArray) (s1 s2 av s4 : Option Addr) (a1 b1 a2 b2 c a4 b4 : Nat) (y0 y1 y2 : Xp) (ks : List (List UInt8)) (w : World)
    (hr : ReadsE (m + 1) w av [y0, y1, y2]) (hS : ∀ C y, y ∈ [y0, y1, y2] → IsE m w C y → SrcC w C (T y)) (hsz : (srcG T (.mk 8 v n [y0, y1, y2] ks)).size ≤ 1099511627776) :
    Calls Tryz.prog 35 #[.agg #[.int .i64 8, .string ⟨n.toArray⟩, .int .i64 vk, .bool vt, .int .i64 vi, .string vs, .slice s1 a1 b1, .slice s2 a2 b2, .slice av 3 c, .slice s4 a4 b4]] w fun e w' => e = .returned (.string (srcG T (.mk 8 v n [y0, y1, y2] ks))) ∧ Below w.heap.size w w' := by
  obtain ⟨b, off, D0, rfl, hb, hd0, hc0⟩ := hr 0 y0 rfl
  obtain ⟨b_1, off_1, D1, he1, hb_1, hd1, hc1⟩ := hr 1 y1 rfl
  injection he1 with he1
  injection he1 with hx1 hy1
  subst hx1 hy1
  obtain ⟨b_2, off_2, D2, he2, hb_2, hd2, hc2⟩ := hr 2 y2 rfl
  injection he2 with he2
  injection he2 with hx2 hy2
  subst hx2 hy2
  have hE0 : IsE m w D0 y0 := hd0
  have hS0 := hS D0 y0 (by simp) hE0
  have hE1 : IsE m w D1 y1 := hd1
  have hS1 := hS D1 y1 (by simp) hE1
  have hE2 : IsE m w D2 y2 := hd2
  have hS2 := hS D2 y2 (by simp) hE2
  have E : srcG T (.mk 8 v n [y0, y1, y2] ks) = (((((brkT (strX y0) 2 (T y0)) ++ (⟨#[32, 63, 32]⟩ : ByteArray)) ++ (T y1)) ++ (⟨#[32, 58, 32]⟩ : ByteArray)) ++ (T y2)) := rfl
  rw [E] at hsz ⊢
  obtain ⟨nx, hnx⟩ : ∃ nx : ByteArray, nx = ⟨n.toArray⟩ := ⟨_, rfl⟩
  rw [← hnx]
  simp only [ByteArray.size_append] at hsz
  have hk0 := brkT_le (strX y0) 2 (T y0)
  have O0 := Lib.hid (fun (w' : World) (hb : Below w.heap.size w w') => operand_any m D0 y0 (T y0) 2 w' (hE0.below hb) (hS0.below hb) (by omega))
  obtain ⟨A0, hA0⟩ : ∃ A, A = brkT (strX y0) 2 (T y0) := ⟨_, rfl⟩
  rw [← hA0] at O0 hsz hk0 ⊢
  have O1 := Lib.hid hS1
  obtain ⟨A1, hA1⟩ : ∃ A, A = T y1 := ⟨_, rfl⟩
  rw [← hA1] at O1 hsz ⊢
  have O2 := Lib.hid hS2
  obtain ⟨A2, hA2⟩ : ∃ A, A = T y2 := ⟨_, rfl⟩
  rw [← hA2] at O2 hsz ⊢
  obtain ⟨k0, n0, vk0, vt0, vi0, vs0, va0, vb0, vc0, wa0, wb0, wc0, aa0, ab0, ac0, ba0, bb0, bc0, hD0⟩ := isE_cells hE0
  subst hD0
  obtain ⟨k1, n1, vk1, vt1, vi1, vs1, va1, vb1, vc1, wa1, wb1, wc1, aa1, ab1, ac1, ba1, bb1, bc1, hD1⟩ := isE_cells hE1
  subst hD1
  obtain ⟨k2, n2, vk2, vt2, vi2, vs2, va2, vb2, vc2, wa2, wb2, wc2, aa2, ab2, ac2, ba2, bb2, bc2, hD2⟩ := isE_cells hE2
  subst hD2
  have sa1 := fun w => run_string_add_sum (P := Tryz.prog) w A0 (⟨#[32, 63, 32]⟩ : ByteArray) (by have : (⟨#[32, 58, 32]⟩ : ByteArray).size = 3 := rfl; have : (⟨#[32, 63, 32]⟩ : ByteArray).size = 3 := rfl; omega)
  have sa2 := fun w => run_string_add_sum (P := Tryz.prog) w (A0 ++ (⟨#[32, 63, 32]⟩ : ByteArray)) A1 (by simp only [ByteArray.size_append]; have : (⟨#[32, 58, 32]⟩ : ByteArray).size = 3 := rfl; have : (⟨#[32, 63, 32]⟩ : ByteArray).size = 3 := rfl; omega)
  have sa3 := fun w => run_string_add_sum (P := Tryz.prog) w ((A0 ++ (⟨#[32, 63, 32]⟩ : ByteArray)) ++ A1) (⟨#[32, 58, 32]⟩ : ByteArray) (by simp only [ByteArray.size_append]; have : (⟨#[32, 58, 32]⟩ : ByteArray).size = 3 := rfl; have : (⟨#[32, 63, 32]⟩ : ByteArray).size = 3 := rfl; omega)
  have sa4 := fun w => run_string_add_sum (P := Tryz.prog) w (((A0 ++ (⟨#[32, 63, 32]⟩ : ByteArray)) ++ A1) ++ (⟨#[32, 58, 32]⟩ : ByteArray)) A2 (by simp only [ByteArray.size_append]; have : (⟨#[32, 58, 32]⟩ : ByteArray).size = 3 := rfl; have : (⟨#[32, 63, 32]⟩ : ByteArray).size = 3 := rfl; omega)
  have B0 := (Below.refl w.heap.size w).alloc (Nat.le_refl _) (.cells #[.int .i64 8, .string nx, .int .i64 vk, .bool vt, .int .i64 vi, .string vs, .slice s1 a1 b1, .slice s2 a2 b2, .slice (some ⟨b, off, none⟩) 3 c, .slice s4 a4 b4] 29)
  have C0 := CellsAt.new w 29 #[.int .i64 8, .string nx, .int .i64 vk, .bool vt, .int .i64 vi, .string vs, .slice s1 a1 b1, .slice s2 a2 b2, .slice (some ⟨b, off, none⟩) 3 c, .slice s4 a4 b4]
  have p0_0 := (B0.cell (p := ⟨b, _, none⟩) hb).trans (hc0 0 (.int .i64 k0) rfl)
  have p0_1 := (B0.cell (p := ⟨b, _, none⟩) hb).trans (hc0 1 (.string n0) rfl)
  have p0_2 := (B0.cell (p := ⟨b, _, none⟩) hb).trans (hc0 2 (.int .i64 vk0) rfl)
  have p0_3 := (B0.cell (p := ⟨b, _, none⟩) hb).trans (hc0 3 (.bool vt0) rfl)
  have p0_4 := (B0.cell (p := ⟨b, _, none⟩) hb).trans (hc0 4 (.int .i64 vi0) rfl)
  have p0_5 := (B0.cell (p := ⟨b, _, none⟩) hb).trans (hc0 5 (.string vs0) rfl)
  have p0_6 := (B0.cell (p := ⟨b, _, none⟩) hb).trans (hc0 6 (.slice va0 vb0 vc0) rfl)
  have p0_7 := (B0.cell (p := ⟨b, _, none⟩) hb).trans (hc0 7 (.slice wa0 wb0 wc0) rfl)
  have p0_8 := (B0.cell (p := ⟨b, _, none⟩) hb).trans (hc0 8 (.slice aa0 ab0 ac0) rfl)
  have p0_9 := (B0.cell (p := ⟨b, _, none⟩) hb).trans (hc0 9 (.slice ba0 bb0 bc0) rfl)
  have p1_0 := (B0.cell (p := ⟨b, _, none⟩) hb).trans (hc1 0 (.int .i64 k1) rfl)
  have p1_1 := (B0.cell (p := ⟨b, _, none⟩) hb).trans (hc1 1 (.string n1) rfl)
  have p1_2 := (B0.cell (p := ⟨b, _, none⟩) hb).trans (hc1 2 (.int .i64 vk1) rfl)
  have p1_3 := (B0.cell (p := ⟨b, _, none⟩) hb).trans (hc1 3 (.bool vt1) rfl)
  have p1_4 := (B0.cell (p := ⟨b, _, none⟩) hb).trans (hc1 4 (.int .i64 vi1) rfl)
  have p1_5 := (B0.cell (p := ⟨b, _, none⟩) hb).trans (hc1 5 (.string vs1) rfl)
  have p1_6 := (B0.cell (p := ⟨b, _, none⟩) hb).trans (hc1 6 (.slice va1 vb1 vc1) rfl)
  have p1_7 := (B0.cell (p := ⟨b, _, none⟩) hb).trans (hc1 7 (.slice wa1 wb1 wc1) rfl)
  have p1_8 := (B0.cell (p := ⟨b, _, none⟩) hb).trans (hc1 8 (.slice aa1 ab1 ac1) rfl)
  have p1_9 := (B0.cell (p := ⟨b, _, none⟩) hb).trans (hc1 9 (.slice ba1 bb1 bc1) rfl)
  have p2_0 := (B0.cell (p := ⟨b, _, none⟩) hb).trans (hc2 0 (.int .i64 k2) rfl)
  have p2_1 := (B0.cell (p := ⟨b, _, none⟩) hb).trans (hc2 1 (.string n2) rfl)
  have p2_2 := (B0.cell (p := ⟨b, _, none⟩) hb).trans (hc2 2 (.int .i64 vk2) rfl)
  have p2_3 := (B0.cell (p := ⟨b, _, none⟩) hb).trans (hc2 3 (.bool vt2) rfl)
  have p2_4 := (B0.cell (p := ⟨b, _, none⟩) hb).trans (hc2 4 (.int .i64 vi2) rfl)
  have p2_5 := (B0.cell (p := ⟨b, _, none⟩) hb).trans (hc2 5 (.string vs2) rfl)
  have p2_6 := (B0.cell (p := ⟨b, _, none⟩) hb).trans (hc2 6 (.slice va2 vb2 vc2) rfl)
  have p2_7 := (B0.cell (p := ⟨b, _, none⟩) hb).trans (hc2 7 (.slice wa2 wb2 wc2) rfl)
  have p2_8 := (B0.cell (p := ⟨b, _, none⟩) hb).trans (hc2 8 (.slice aa2 ab2 ac2) rfl)
  have p2_9 := (B0.cell (p := ⟨b, _, none⟩) hb).trans (hc2 9 (.slice ba2 bb2 bc2) rfl)
  obtain ⟨W0, hW0⟩ : ∃ W0, W0 = w.alloc (.cells #[.int .i64 8, .string nx, .int .i64 vk, .bool vt, .int .i64 vi, .string vs, .slice s1 a1 b1, .slice s2 a2 b2, .slice (some ⟨b, off, none⟩) 3 c, .slice s4 a4 b4] 29) := ⟨_, rfl⟩
  rw [← hW0] at B0 C0 p0_0 p0_1 p0_2 p0_3 p0_4 p0_5 p0_6 p0_7 p0_8 p0_9 p1_0 p1_1 p1_2 p1_3 p1_4 p1_5 p1_6 p1_7 p1_8 p1_9 p2_0 p2_1 p2_2 p2_3 p2_4 p2_5 p2_6 p2_7 p2_8 p2_9
  have c8 := C0.cell (k := 8) (u := .slice (some ⟨b, off, none⟩) 3 c) rfl
  have keep : ∀ w1 w2 : World, St8 w b off c nx k0 n0 vk0 vt0 vi0 vs0 va0 vb0 vc0 wa0 wb0 wc0 aa0 ab0 ac0 ba0 bb0 bc0 k1 n1 vk1 vt1 vi1 vs1 va1 vb1 vc1 wa1 wb1 wc1 aa1 ab1 ac1 ba1 bb1 bc1 k2 n2 vk2 vt2 vi2 vs2 va2 vb2 vc2 wa2 wb2 wc2 aa2 ab2 ac2 ba2 bb2 bc2 w1 → Below w1.heap.size w1 w2 → St8 w b off c nx k0 n0 vk0 vt0 vi0 vs0 va0 vb0 vc0 wa0 wb0 wc0 aa0 ab0 ac0 ba0 bb0 bc0 k1 n1 vk1 vt1 vi1 vs1 va1 vb1 vc1 wa1 wb1 wc1 aa1 ab1 ac1 ba1 bb1 bc1 k2 n2 vk2 vt2 vi2 vs2 va2 vb2 vc2 wa2 wb2 wc2 aa2 ab2 ac2 ba2 bb2 bc2 w2 := by
    intro w1 w2 h hb2
    obtain ⟨e0, e1, e2, e3, e4, e5, e6, e7, e8, e9, e10, e11, e12, e13, e14, e15, e16, e17, e18, e19, e20, e21, e22, e23, e24, e25, e26, e27, e28, e29, e30, hB⟩ := h
    have z0 : w.heap.size < w1.heap.size := World.block_lt_of_cell? w1 _ e0
    have z1 : b < w1.heap.size := World.block_lt_of_cell? w1 _ e1
    exact ⟨(hb2.cell (p := ⟨w.heap.size, 8, none⟩) z0).trans e0, (hb2.cell (p := ⟨b, off, none⟩) z1).trans e1, (hb2.cell (p := ⟨b, off + 1, none⟩) z1).trans e2, (hb2.cell (p := ⟨b, off + 2, none⟩) z1).trans e3, (hb2.cell (p := ⟨b, off + 3, none⟩) z1).trans e4, (hb2.cell (p := ⟨b, off + 4, none⟩) z1).trans e5, (hb2.cell (p := ⟨b, off + 5, none⟩) z1).trans e6, (hb2.cell (p := ⟨b, off + 6, none⟩) z1).trans e7, (hb2.cell (p := ⟨b, off + 7, none⟩) z1).trans e8, (hb2.cell (p := ⟨b, off + 8, none⟩) z1).trans e9, (hb2.cell (p := ⟨b, off + 9, none⟩) z1).trans e10, (hb2.cell (p := ⟨b, off + 10, none⟩) z1).trans e11, (hb2.cell (p := ⟨b, off + 10 + 1, none⟩) z1).trans e12, (hb2.cell (p := ⟨b, off + 10 + 2, none⟩) z1).trans e13, (hb2.cell (p := ⟨b, off + 10 + 3, none⟩) z1).trans e14, (hb2.cell (p := ⟨b, off + 10 + 4, none⟩) z1).trans e15, (hb2.cell (p := ⟨b, off + 10 + 5, none⟩) z1).trans e16, (hb2.cell (p := ⟨b, off + 10 + 6, none⟩) z1).trans e17, (hb2.cell (p := ⟨b, off + 10 + 7, none⟩) z1).trans e18, (hb2.cell (p := ⟨b, off + 10 + 8, none⟩) z1).trans e19, (hb2.cell (p := ⟨b, off + 10 + 9, none⟩) z1).trans e20, (hb2.cell (p := ⟨b, off + 20, none⟩) z1).trans e21, (hb2.cell (p := ⟨b, off + 20 + 1, none⟩) z1).trans e22, (hb2.cell (p := ⟨b, off + 20 + 2, none⟩) z1).trans e23, (hb2.cell (p := ⟨b, off + 20 + 3, none⟩) z1).trans e24, (hb2.cell (p := ⟨b, off + 20 + 4, none⟩) z1).trans e25, (hb2.cell (p := ⟨b, off + 20 + 5, none⟩) z1).trans e26, (hb2.cell (p := ⟨b, off + 20 + 6, none⟩) z1).trans e27, (hb2.cell (p := ⟨b, off + 20 + 7, none⟩) z1).trans e28, (hb2.cell (p := ⟨b, off + 20 + 8, none⟩) z1).trans e29, (hb2.cell (p := ⟨b, off + 20 + 9, none⟩) z1).trans e30, hB.trans (hb2.mono hB.size)⟩
  have hs0 : St8 w b off c nx k0 n0 vk0 vt0 vi0 vs0 va0 vb0 vc0 wa0 wb0 wc0 aa0 ab0 ac0 ba0 bb0 bc0 k1 n1 vk1 vt1 vi1 vs1 va1 vb1 vc1 wa1 wb1 wc1 aa1 ab1 ac1 ba1 bb1 bc1 k2 n2 vk2 vt2 vi2 vs2 va2 vb2 vc2 wa2 wb2 wc2 aa2 ab2 ac2 ba2 bb2 bc2 W0.drew := by
    refine keep W0 W0.drew ⟨c8, p0_0, p0_1, p0_2, p0_3, p0_4, p0_5, p0_6, p0_7, p0_8, p0_9, p1_0, p1_1, p1_2, p1_3, p1_4, p1_5, p1_6, p1_7, p1_8, p1_9, p2_0, p2_1, p2_2, p2_3, p2_4, p2_5, p2_6, p2_7, p2_8, p2_9, B0⟩ (Below.refl _ _).drew
  have Q0 := Lib.hid (fun (w' : World) (h : St8 w b off c nx k0 n0 vk0 vt0 vi0 vs0 va0 vb0 vc0 wa0 wb0 wc0 aa0 ab0 ac0 ba0 bb0 bc0 k1 n1 vk1 vt1 vi1 vs1 va1 vb1 vc1 wa1 wb1 wc1 aa1 ab1 ac1 ba1 bb1 bc1 k2 n2 vk2 vt2 vi2 vs2 va2 vb2 vc2 wa2 wb2 wc2 aa2 ab2 ac2 ba2 bb2 bc2 w') => O0.out w' h.2.2.2.2.2.2.2.2.2.2.2.2.2.2.2.2.2.2.2.2.2.2.2.2.2.2.2.2.2.2.2)
  have Q1 := Lib.hid (fun (w' : World) (h : St8 w b off c nx k0 n0 vk0 vt0 vi0 vs0 va0 vb0 vc0 wa0 wb0 wc0 aa0 ab0 ac0 ba0 bb0 bc0 k1 n1 vk1 vt1 vi1 vs1 va1 vb1 vc1 wa1 wb1 wc1 aa1 ab1 ac1 ba1 bb1 bc1 k2 n2 vk2 vt2 vi2 vs2 va2 vb2 vc2 wa2 wb2 wc2 aa2 ab2 ac2 ba2 bb2 bc2 w') => O1.out w' h.2.2.2.2.2.2.2.2.2.2.2.2.2.2.2.2.2.2.2.2.2.2.2.2.2.2.2.2.2.2.2)
  have Q2 := Lib.hid (fun (w' : World) (h : St8 w b off c nx k0 n0 vk0 vt0 vi0 vs0 va0 vb0 vc0 wa0 wb0 wc0 aa0 ab0 ac0 ba0 bb0 bc0 k1 n1 vk1 vt1 vi1 vs1 va1 vb1 vc1 wa1 wb1 wc1 aa1 ab1 ac1 ba1 bb1 bc1 k2 n2 vk2 vt2 vi2 vs2 va2 vb2 vc2 wa2 wb2 wc2 aa2 ab2 ac2 ba2 bb2 bc2 w') => O2.out w' h.2.2.2.2.2.2.2.2.2.2.2.2.2.2.2.2.2.2.2.2.2.2.2.2.2.2.2.2.2.2.2)
  have HS0 := Lib.hid hs0
  have KEEP := Lib.hid keep
  have HW0 := Lib.hid hW0
  clear E hsz hA0 hA1 hA2 hk0
  clear O0 O1 O2
  clear hr hS hd0 hc0 B0 C0 hs0 keep hW0 hnx hE0 hS0 hE1 hS1 hE2 hS2 c8 p0_0 p0_1 p0_2 p0_3 p0_4 p0_5 p0_6 p0_7 p0_8 p0_9 p1_0 p1_1 p1_2 p1_3 p1_4 p1_5 p1_6 p1_7 p1_8 p1_9 p2_0 p2_1 p2_2 p2_3 p2_4 p2_5 p2_6 p2_7 p2_8 p2_9
  go_enter Tryz.func35, Tryz.ntmps35
  go_wp2_with fail
  rw [← HW0.out]
  have hs0 := HS0.out
  go_region_held3 (fun w' : World => w'.cell? ⟨w.heap.size, 8, none⟩ = some (.slice (some ⟨b, off, none⟩) 3 c) ∧ w'.cell? ⟨b, off, none⟩ = some (.int .i64 k0) ∧ w'.cell? ⟨b, off + 1, none⟩ = some (.string n0) ∧ w'.cell? ⟨b, off + 2, none⟩ = some (.int .i64 vk0) ∧ w'.cell? ⟨b, off + 3, none⟩ = some (.bool vt0) ∧ w'.cell? ⟨b, off + 4, none⟩ = some (.int .i64 vi0) ∧ w'.cell? ⟨b, off + 5, none⟩ = some (.string vs0) ∧ w'.cell? ⟨b, off + 6, none⟩ = some (.slice va0 vb0 vc0) ∧ w'.cell? ⟨b, off + 7, none⟩ = some (.slice wa0 wb0 wc0) ∧ w'.cell? ⟨b, off + 8, none⟩ = some (.slice aa0 ab0 ac0) ∧ w'.cell? ⟨b, off + 9, none⟩ = some (.slice ba0 bb0 bc0) ∧ w'.cell? ⟨b, off + 10, none⟩ = some (.int .i64 k1) ∧ w'.cell? ⟨b, off + 10 + 1, none⟩ = some (.string n1) ∧ w'.cell? ⟨b, off + 10 + 2, none⟩ = some (.int .i64 vk1) ∧ w'.cell? ⟨b, off + 10 + 3, none⟩ = some (.bool vt1) ∧ w'.cell? ⟨b, off + 10 + 4, none⟩ = some (.int .i64 vi1) ∧ w'.cell? ⟨b, off + 10 + 5, none⟩ = some (.string vs1) ∧ w'.cell? ⟨b, off + 10 + 6, none⟩ = some (.slice va1 vb1 vc1) ∧ w'.cell? ⟨b, off + 10 + 7, none⟩ = some (.slice wa1 wb1 wc1) ∧ w'.cell? ⟨b, off + 10 + 8, none⟩ = some (.slice aa1 ab1 ac1) ∧ w'.cell? ⟨b, off + 10 + 9, none⟩ = some (.slice ba1 bb1 bc1) ∧ w'.cell? ⟨b, off + 20, none⟩ = some (.int .i64 k2) ∧ w'.cell? ⟨b, off + 20 + 1, none⟩ = some (.string n2) ∧ w'.cell? ⟨b, off + 20 + 2, none⟩ = some (.int .i64 vk2) ∧ w'.cell? ⟨b, off + 20 + 3, none⟩ = some (.bool vt2) ∧ w'.cell? ⟨b, off + 20 + 4, none⟩ = some (.int .i64 vi2) ∧ w'.cell? ⟨b, off + 20 + 5, none⟩ = some (.string vs2) ∧ w'.cell? ⟨b, off + 20 + 6, none⟩ = some (.slice va2 vb2 vc2) ∧ w'.cell? ⟨b, off + 20 + 7, none⟩ = some (.slice wa2 wb2 wc2) ∧ w'.cell? ⟨b, off + 20 + 8, none⟩ = some (.slice aa2 ab2 ac2) ∧ w'.cell? ⟨b, off + 20 + 9, none⟩ = some (.slice ba2 bb2 bc2) ∧ Below w.heap.size w w') (first | exact hs0 | exact KEEP.out _ _ (by assumption) (by assumption)) (first
    | (go_at_call 64; go_fit (Q0.out _ (by assumption)); rintro e w2 ⟨rfl, hb2⟩)
    | (go_at_call 35; go_fit (Q1.out _ (by assumption)); rintro e w2 ⟨rfl, hb2⟩)
    | (go_at_call 35; go_fit (Q2.out _ (by assumption)); rintro e w2 ⟨rfl, hb2⟩))
  all_goals
    have hfin : St8 w b off c nx k0 n0 vk0 vt0 vi0 vs0 va0 vb0 vc0 wa0 wb0 wc0 aa0 ab0 ac0 ba0 bb0 bc0 k1 n1 vk1 vt1 vi1 vs1 va1 vb1 vc1 wa1 wb1 wc1 aa1 ab1 ac1 ba1 bb1 bc1 k2 n2 vk2 vt2 vi2 vs2 va2 vb2 vc2 wa2 wb2 wc2 aa2 ab2 ac2 ba2 bb2 bc2 w2 := by assumption
    go_wp2_with fail
    go_ret
    exact ⟨rfl, hfin.2.2.2.2.2.2.2.2.2.2.2.2.2.2.2.2.2.2.2.2.2.2.2.2.2.2.2.2.2.2.2⟩
end Go.Proofs.YtjehhldboopocaaGreatDoor.Lx
