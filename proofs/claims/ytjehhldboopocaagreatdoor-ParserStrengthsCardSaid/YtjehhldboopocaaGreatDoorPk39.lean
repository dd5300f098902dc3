/- Contracts of functions of the program, and what they are made of (parser; Pk39). -/
import Derived.Test.YtjehhldboopocaaGreatDoorPk25
import Derived.Test.YtjehhldboopocaaGreatDoorPk31
import Derived.Test.YtjehhldboopocaaGreatDoorPk32
import Derived.Test.YtjehhldboopocaaGreatDoorPk34
import Derived.Test.YtjehhldboopocaaGreatDoorPk35
import Derived.Test.YtjehhldboopocaaGreatDoorPk38
import Derived.Deep.RegionHeld3
namespace Go.Proofs.YtjehhldboopocaaGreatDoor.Lx
open Go.RowKit Go.Lib
set_option linter.unusedVariables false
set_option maxRecDepth 100000 in
set_option maxHeartbeats 4000000 in
theorem src_1 (nx : ByteArray) (vk : Int) (vt : Bool) (vi : Int) (vs : ByteArray) (s1 s2 s3 s4 : Option Addr) (a1 b1 a2 b2 a3 b3 a4 b4 : Nat) (w : World) (S : ByteArray) (hV : ∀ w', Below w.heap.size w w' → Calls Tryz.prog 63 #[.agg #[.int .i64 vk, .bool vt, .int .i64 vi, .string vs, .slice s1 a1 b1, .slice s2 a2 b2]] w' fun e w2 => e = .returned (.string S) ∧ Below w'.heap.size w' w2) :
    Calls Tryz.prog 35 #[.agg #[.int .i64 1, .string nx, .int .i64 vk, .bool vt, .int .i64 vi, .string vs, .slice s1 a1 b1, .slice s2 a2 b2, .slice s3 a3 b3, .slice s4 a4 b4]] w fun e w' => e = .returned (.string S) ∧ Below w.heap.size w w' := by
  have B0 := Lib.hid ((Below.refl w.heap.size w).alloc (Nat.le_refl _) (.cells #[.int .i64 1, .string nx, .int .i64 vk, .bool vt, .int .i64 vi, .string vs, .slice s1 a1 b1, .slice s2 a2 b2, .slice s3 a3 b3, .slice s4 a4 b4] 29))
  have C0 := CellsAt.new w 29 #[.int .i64 1, .string nx, .int .i64 vk, .bool vt, .int .i64 vi, .string vs, .slice s1 a1 b1, .slice s2 a2 b2, .slice s3 a3 b3, .slice s4 a4 b4]
  have V := Lib.hid hV
  clear hV C0
  go_enter Tryz.func35, Tryz.ntmps35
  go_wp2_with fail
  go_fit (V.out _ B0.out)
  rintro e w1 ⟨rfl, hb1⟩
  have HB1 := Lib.hid (B0.out.trans (hb1.mono B0.out.size))
  clear hb1
  go_wp2_with fail
  go_ret
  exact ⟨rfl, HB1.out⟩
set_option maxRecDepth 100000 in
set_option maxHeartbeats 4000000 in
theorem src_2 (nx : ByteArray) (vk : Int) (vt : Bool) (vi : Int) (vs : ByteArray) (s1 s2 s3 s4 : Option Addr) (a1 b1 a2 b2 a3 b3 a4 b4 : Nat) (w : World) :
    Calls Tryz.prog 35 #[.agg #[.int .i64 2, .string nx, .int .i64 vk, .bool vt, .int .i64 vi, .string vs, .slice s1 a1 b1, .slice s2 a2 b2, .slice s3 a3 b3, .slice s4 a4 b4]] w fun e w' => e = .returned (.string nx) ∧ Below w.heap.size w w' := by
  have B0 := Lib.hid ((Below.refl w.heap.size w).alloc (Nat.le_refl _) (.cells #[.int .i64 2, .string nx, .int .i64 vk, .bool vt, .int .i64 vi, .string vs, .slice s1 a1 b1, .slice s2 a2 b2, .slice s3 a3 b3, .slice s4 a4 b4] 29))
  have C0 := CellsAt.new w 29 #[.int .i64 2, .string nx, .int .i64 vk, .bool vt, .int .i64 vi, .string vs, .slice s1 a1 b1, .slice s2 a2 b2, .slice s3 a3 b3, .slice s4 a4 b4]
  clear C0
  go_enter Tryz.func35, Tryz.ntmps35
  go_wp2_with fail
  go_ret
  exact ⟨rfl, B0.out⟩
set_option maxRecDepth 100000 in
set_option maxHeartbeats 4000000 in
theorem src_9 (nx : ByteArray) (vk : Int) (vt : Bool) (vi : Int) (vs : ByteArray) (s1 s2 s3 s4 : Option Addr) (a1 b1 a2 b2 a3 b3 a4 b4 : Nat) (w : World) (I : ByteArray) (hI : ∀ w', Below w.heap.size w w' → Calls Tryz.prog 65 #[.agg #[.int .i64 9, .string nx, .int .i64 vk, .bool vt, .int .i64 vi, .string vs, .slice s1 a1 b1, .slice s2 a2 b2, .slice s3 a3 b3, .slice s4 a4 b4]] w' fun e w2 => e = .returned (.string I) ∧ Below w'.heap.size w' w2) (hz : I.size ≤ 1099511627776) :
    Calls Tryz.prog 35 #[.agg #[.int .i64 9, .string nx, .int .i64 vk, .bool vt, .int .i64 vi, .string vs, .slice s1 a1 b1, .slice s2 a2 b2, .slice s3 a3 b3, .slice s4 a4 b4]] w fun e w' => e = .returned (.string ((⟨#[91]⟩ ++ I) ++ ⟨#[93]⟩)) ∧ Below w.heap.size w w' := by
  have B0 := Lib.hid ((Below.refl w.heap.size w).alloc (Nat.le_refl _) (.cells #[.int .i64 9, .string nx, .int .i64 vk, .bool vt, .int .i64 vi, .string vs, .slice s1 a1 b1, .slice s2 a2 b2, .slice s3 a3 b3, .slice s4 a4 b4] 29))
  have C0 := CellsAt.new w 29 #[.int .i64 9, .string nx, .int .i64 vk, .bool vt, .int .i64 vi, .string vs, .slice s1 a1 b1, .slice s2 a2 b2, .slice s3 a3 b3, .slice s4 a4 b4]
  have I0 := Lib.hid hI
  have sa1 := fun w => run_string_add_sum (P := Tryz.prog) w (⟨#[91]⟩ : ByteArray) I (by show 1 + I.size ≤ _; omega)
  have sa2 := fun w => run_string_add_sum (P := Tryz.prog) w ((⟨#[91]⟩ : ByteArray) ++ I) (⟨#[93]⟩ : ByteArray) (by rw [ByteArray.size_append]; show 1 + I.size + 1 ≤ _; omega)
  clear hI hz C0
  go_enter Tryz.func35, Tryz.ntmps35
  go_wp2_with fail
  go_fit (I0.out _ B0.out)
  rintro e w1 ⟨rfl, hb1⟩
  have HB1 := Lib.hid (B0.out.trans (hb1.mono B0.out.size))
  clear hb1
  go_wp2_with fail
  go_ret
  exact ⟨rfl, HB1.out⟩
set_option maxRecDepth 100000 in
set_option maxHeartbeats 4000000 in
theorem src_10 (nx : ByteArray) (vk : Int) (vt : Bool) (vi : Int) (vs : ByteArray) (s1 s2 s3 s4 : Option Addr) (a1 b1 a2 b2 a3 b3 a4 b4 : Nat) (w : World) (I : ByteArray) (hI : ∀ w', Below w.heap.size w w' → Calls Tryz.prog 65 #[.agg #[.int .i64 10, .string nx, .int .i64 vk, .bool vt, .int .i64 vi, .string vs, .slice s1 a1 b1, .slice s2 a2 b2, .slice s3 a3 b3, .slice s4 a4 b4]] w' fun e w2 => e = .returned (.string I) ∧ Below w'.heap.size w' w2) (hz : I.size ≤ 1099511627776) :
    Calls Tryz.prog 35 #[.agg #[.int .i64 10, .string nx, .int .i64 vk, .bool vt, .int .i64 vi, .string vs, .slice s1 a1 b1, .slice s2 a2 b2, .slice s3 a3 b3, .slice s4 a4 b4]] w fun e w' => e = .returned (.string ((⟨#[123]⟩ ++ I) ++ ⟨#[125]⟩)) ∧ Below w.heap.size w w' := by
  have B0 := Lib.hid ((Below.refl w.heap.size w).alloc (Nat.le_refl _) (.cells #[.int .i64 10, .string nx, .int .i64 vk, .bool vt, .int .i64 vi, .string vs, .slice s1 a1 b1, .slice s2 a2 b2, .slice s3 a3 b3, .slice s4 a4 b4] 29))
  have C0 := CellsAt.new w 29 #[.int .i64 10, .string nx, .int .i64 vk, .bool vt, .int .i64 vi, .string vs, .slice s1 a1 b1, .slice s2 a2 b2, .slice s3 a3 b3, .slice s4 a4 b4]
  have I0 := Lib.hid hI
  have sa1 := fun w => run_string_add_sum (P := Tryz.prog) w (⟨#[123]⟩ : ByteArray) I (by show 1 + I.size ≤ _; omega)
  have sa2 := fun w => run_string_add_sum (P := Tryz.prog) w ((⟨#[123]⟩ : ByteArray) ++ I) (⟨#[125]⟩ : ByteArray) (by rw [ByteArray.size_append]; show 1 + I.size + 1 ≤ _; omega)
  clear hI hz C0
  go_enter Tryz.func35, Tryz.ntmps35
  go_wp2_with fail
  go_fit (I0.out _ B0.out)
  rintro e w1 ⟨rfl, hb1⟩
  have HB1 := Lib.hid (B0.out.trans (hb1.mono B0.out.size))
  clear hb1
  go_wp2_with fail
  go_ret
  exact ⟨rfl, HB1.out⟩
set_option maxRecDepth 100000 in
set_option maxHeartbeats 4000000 in
theorem src_5 (nx : ByteArray) (vk : Int) (vt : Bool) (vi : Int) (vs : ByteArray) (s1 s2 s3 s4 : Option Addr) (a1 b1 a2 b2 a3 b3 a4 b4 : Nat) (w : World) (I : ByteArray) (hI : ∀ w', Below w.heap.size w w' → Calls Tryz.prog 65 #[.agg #[.int .i64 5, .string nx, .int .i64 vk, .bool vt, .int .i64 vi, .string vs, .slice s1 a1 b1, .slice s2 a2 b2, .slice s3 a3 b3, .slice s4 a4 b4]] w' fun e w2 => e = .returned (.string I) ∧ Below w'.heap.size w' w2) (hz : nx.size + I.size ≤ 1099511627776) :
    Calls Tryz.prog 35 #[.agg #[.int .i64 5, .string nx, .int .i64 vk, .bool vt, .int .i64 vi, .string vs, .slice s1 a1 b1, .slice s2 a2 b2, .slice s3 a3 b3, .slice s4 a4 b4]] w fun e w' => e = .returned (.string (((nx ++ ⟨#[40]⟩) ++ I) ++ ⟨#[41]⟩)) ∧ Below w.heap.size w w' := by
  have B0 := Lib.hid ((Below.refl w.heap.size w).alloc (Nat.le_refl _) (.cells #[.int .i64 5, .string nx, .int .i64 vk, .bool vt, .int .i64 vi, .string vs, .slice s1 a1 b1, .slice s2 a2 b2, .slice s3 a3 b3, .slice s4 a4 b4] 29))
  have C0 := CellsAt.new w 29 #[.int .i64 5, .string nx, .int .i64 vk, .bool vt, .int .i64 vi, .string vs, .slice s1 a1 b1, .slice s2 a2 b2, .slice s3 a3 b3, .slice s4 a4 b4]
  have I0 := Lib.hid (fun (w' : World) (h : w'.cell? ⟨w.heap.size, 0, none⟩ = some (.int .i64 5) ∧ w'.cell? ⟨w.heap.size, 1, none⟩ = some (.string nx) ∧ w'.cell? ⟨w.heap.size, 2, none⟩ = some (.int .i64 vk) ∧ w'.cell? ⟨w.heap.size, 3, none⟩ = some (.bool vt) ∧ w'.cell? ⟨w.heap.size, 4, none⟩ = some (.int .i64 vi) ∧ w'.cell? ⟨w.heap.size, 5, none⟩ = some (.string vs) ∧ w'.cell? ⟨w.heap.size, 6, none⟩ = some (.slice s1 a1 b1) ∧ w'.cell? ⟨w.heap.size, 7, none⟩ = some (.slice s2 a2 b2) ∧ w'.cell? ⟨w.heap.size, 8, none⟩ = some (.slice s3 a3 b3) ∧ w'.cell? ⟨w.heap.size, 9, none⟩ = some (.slice s4 a4 b4) ∧ Below w.heap.size w w') => hI w' h.2.2.2.2.2.2.2.2.2.2)
  have sa1 := fun w => run_string_add_sum (P := Tryz.prog) w nx (⟨#[40]⟩ : ByteArray) (by show nx.size + 1 ≤ _; omega)
  have sa2 := fun w => run_string_add_sum (P := Tryz.prog) w (nx ++ (⟨#[40]⟩ : ByteArray)) I (by rw [ByteArray.size_append]; show nx.size + 1 + I.size ≤ _; omega)
  have sa3 := fun w => run_string_add_sum (P := Tryz.prog) w ((nx ++ (⟨#[40]⟩ : ByteArray)) ++ I) (⟨#[41]⟩ : ByteArray) (by rw [ByteArray.size_append, ByteArray.size_append]; show nx.size + 1 + I.size + 1 ≤ _; omega)
  obtain ⟨W0, hW0⟩ : ∃ W0, W0 = w.alloc (.cells #[.int .i64 5, .string nx, .int .i64 vk, .bool vt, .int .i64 vi, .string vs, .slice s1 a1 b1, .slice s2 a2 b2, .slice s3 a3 b3, .slice s4 a4 b4] 29) := ⟨_, rfl⟩
  have B1 := B0.out
  rw [← hW0] at B1 C0
  have c0 := C0.cell (k := 0) (u := .int .i64 5) rfl
  have c1 := C0.cell (k := 1) (u := .string nx) rfl
  have c2 := C0.cell (k := 2) (u := .int .i64 vk) rfl
  have c3 := C0.cell (k := 3) (u := .bool vt) rfl
  have c4 := C0.cell (k := 4) (u := .int .i64 vi) rfl
  have c5 := C0.cell (k := 5) (u := .string vs) rfl
  have c6 := C0.cell (k := 6) (u := .slice s1 a1 b1) rfl
  have c7 := C0.cell (k := 7) (u := .slice s2 a2 b2) rfl
  have c8 := C0.cell (k := 8) (u := .slice s3 a3 b3) rfl
  have c9 := C0.cell (k := 9) (u := .slice s4 a4 b4) rfl
  have keep : ∀ w1 w2 : World, (fun w' : World => w'.cell? ⟨w.heap.size, 0, none⟩ = some (.int .i64 5) ∧ w'.cell? ⟨w.heap.size, 1, none⟩ = some (.string nx) ∧ w'.cell? ⟨w.heap.size, 2, none⟩ = some (.int .i64 vk) ∧ w'.cell? ⟨w.heap.size, 3, none⟩ = some (.bool vt) ∧ w'.cell? ⟨w.heap.size, 4, none⟩ = some (.int .i64 vi) ∧ w'.cell? ⟨w.heap.size, 5, none⟩ = some (.string vs) ∧ w'.cell? ⟨w.heap.size, 6, none⟩ = some (.slice s1 a1 b1) ∧ w'.cell? ⟨w.heap.size, 7, none⟩ = some (.slice s2 a2 b2) ∧ w'.cell? ⟨w.heap.size, 8, none⟩ = some (.slice s3 a3 b3) ∧ w'.cell? ⟨w.heap.size, 9, none⟩ = some (.slice s4 a4 b4) ∧ Below w.heap.size w w') w1 → Below w1.heap.size w1 w2 → (fun w' : World => w'.cell? ⟨w.heap.size, 0, none⟩ = some (.int .i64 5) ∧ w'.cell? ⟨w.heap.size, 1, none⟩ = some (.string nx) ∧ w'.cell? ⟨w.heap.size, 2, none⟩ = some (.int .i64 vk) ∧ w'.cell? ⟨w.heap.size, 3, none⟩ = some (.bool vt) ∧ w'.cell? ⟨w.heap.size, 4, none⟩ = some (.int .i64 vi) ∧ w'.cell? ⟨w.heap.size, 5, none⟩ = some (.string vs) ∧ w'.cell? ⟨w.heap.size, 6, none⟩ = some (.slice s1 a1 b1) ∧ w'.cell? ⟨w.heap.size, 7, none⟩ = some (.slice s2 a2 b2) ∧ w'.cell? ⟨w.heap.size, 8, none⟩ = some (.slice s3 a3 b3) ∧ w'.cell? ⟨w.heap.size, 9, none⟩ = some (.slice s4 a4 b4) ∧ Below w.heap.size w w') w2 := by
    intro w1 w2 h hb2
    obtain ⟨e0, e1, e2, e3, e4, e5, e6, e7, e8, e9, hB⟩ := h
    have z0 : w.heap.size < w1.heap.size := World.block_lt_of_cell? w1 _ e0
    exact ⟨(hb2.cell (p := ⟨w.heap.size, 0, none⟩) z0).trans e0, (hb2.cell (p := ⟨w.heap.size, 1, none⟩) z0).trans e1, (hb2.cell (p := ⟨w.heap.size, 2, none⟩) z0).trans e2, (hb2.cell (p := ⟨w.heap.size, 3, none⟩) z0).trans e3, (hb2.cell (p := ⟨w.heap.size, 4, none⟩) z0).trans e4, (hb2.cell (p := ⟨w.heap.size, 5, none⟩) z0).trans e5, (hb2.cell (p := ⟨w.heap.size, 6, none⟩) z0).trans e6, (hb2.cell (p := ⟨w.heap.size, 7, none⟩) z0).trans e7, (hb2.cell (p := ⟨w.heap.size, 8, none⟩) z0).trans e8, (hb2.cell (p := ⟨w.heap.size, 9, none⟩) z0).trans e9, hB.trans (hb2.mono hB.size)⟩
  have hs0 : (fun w' : World => w'.cell? ⟨w.heap.size, 0, none⟩ = some (.int .i64 5) ∧ w'.cell? ⟨w.heap.size, 1, none⟩ = some (.string nx) ∧ w'.cell? ⟨w.heap.size, 2, none⟩ = some (.int .i64 vk) ∧ w'.cell? ⟨w.heap.size, 3, none⟩ = some (.bool vt) ∧ w'.cell? ⟨w.heap.size, 4, none⟩ = some (.int .i64 vi) ∧ w'.cell? ⟨w.heap.size, 5, none⟩ = some (.string vs) ∧ w'.cell? ⟨w.heap.size, 6, none⟩ = some (.slice s1 a1 b1) ∧ w'.cell? ⟨w.heap.size, 7, none⟩ = some (.slice s2 a2 b2) ∧ w'.cell? ⟨w.heap.size, 8, none⟩ = some (.slice s3 a3 b3) ∧ w'.cell? ⟨w.heap.size, 9, none⟩ = some (.slice s4 a4 b4) ∧ Below w.heap.size w w') W0.drew := keep W0 W0.drew ⟨c0, c1, c2, c3, c4, c5, c6, c7, c8, c9, B1⟩ (Below.refl _ _).drew
  have HS0 := Lib.hid hs0
  have KEEP := Lib.hid keep
  have HW0 := Lib.hid hW0
  clear hI hz C0 B0 B1 hs0 keep hW0 c0 c1 c2 c3 c4 c5 c6 c7 c8 c9
  go_enter Tryz.func35, Tryz.ntmps35
  go_wp2_with fail
  rw [← HW0.out]
  have hs0 := HS0.out
  go_region_held3 (fun w' : World => w'.cell? ⟨w.heap.size, 0, none⟩ = some (.int .i64 5) ∧ w'.cell? ⟨w.heap.size, 1, none⟩ = some (.string nx) ∧ w'.cell? ⟨w.heap.size, 2, none⟩ = some (.int .i64 vk) ∧ w'.cell? ⟨w.heap.size, 3, none⟩ = some (.bool vt) ∧ w'.cell? ⟨w.heap.size, 4, none⟩ = some (.int .i64 vi) ∧ w'.cell? ⟨w.heap.size, 5, none⟩ = some (.string vs) ∧ w'.cell? ⟨w.heap.size, 6, none⟩ = some (.slice s1 a1 b1) ∧ w'.cell? ⟨w.heap.size, 7, none⟩ = some (.slice s2 a2 b2) ∧ w'.cell? ⟨w.heap.size, 8, none⟩ = some (.slice s3 a3 b3) ∧ w'.cell? ⟨w.heap.size, 9, none⟩ = some (.slice s4 a4 b4) ∧ Below w.heap.size w w') (first | exact hs0 | exact KEEP.out _ _ (by assumption) (by assumption)) (first
    | (go_at_call 65; go_fit (I0.out _ (by assumption)); rintro e w2 ⟨rfl, hb2⟩))
  all_goals
    have hfin : (fun w' : World => w'.cell? ⟨w.heap.size, 0, none⟩ = some (.int .i64 5) ∧ w'.cell? ⟨w.heap.size, 1, none⟩ = some (.string nx) ∧ w'.cell? ⟨w.heap.size, 2, none⟩ = some (.int .i64 vk) ∧ w'.cell? ⟨w.heap.size, 3, none⟩ = some (.bool vt) ∧ w'.cell? ⟨w.heap.size, 4, none⟩ = some (.int .i64 vi) ∧ w'.cell? ⟨w.heap.size, 5, none⟩ = some (.string vs) ∧ w'.cell? ⟨w.heap.size, 6, none⟩ = some (.slice s1 a1 b1) ∧ w'.cell? ⟨w.heap.size, 7, none⟩ = some (.slice s2 a2 b2) ∧ w'.cell? ⟨w.heap.size, 8, none⟩ = some (.slice s3 a3 b3) ∧ w'.cell? ⟨w.heap.size, 9, none⟩ = some (.slice s4 a4 b4) ∧ Below w.heap.size w w') w2 := by assumption
    go_wp2_with fail
    go_ret
    exact ⟨rfl, hfin.2.2.2.2.2.2.2.2.2.2⟩
end Go.Proofs.YtjehhldboopocaaGreatDoor.Lx
namespace Go.Proofs.YtjehhldboopocaaGreatDoor.Lx
open Go.RowKit Go.Lib
set_option linter.unusedVariables false
set_option maxRecDepth 100000 in
set_option maxHeartbeats 2000000 in
theorem showS_any (m : Nat) (C : List Value) (x : Xp) (S : ByteArray) (w : World) (hx : IsE m w C x) (hSm : AllSm x) (hT : TabL w) (hS : validX x = 0 → SrcC w C S) :
    Calls Tryz.prog 19 #[.agg C.toArray] w fun e w' => e = .returned (.string (if validX x = 0 then S else ⟨#[]⟩)) ∧ Below w.heap.size w w' := by
  have V := Lib.hid (fun (w' : World) (hb : Below w.heap.size w w') => by
    have h := validE_any m C x w' (hx.below hb) hSm (hT.below hb)
    rw [validE_X hx] at h
    exact h)
  obtain ⟨z, hz⟩ : ∃ z, z = validX x := ⟨_, rfl⟩
  rw [← hz] at V hS ⊢
  obtain ⟨k, n, vk, vt, vi, vs, vl, vks, vav, vc, vkv, vkc, l, ks, av, c, kv, kc, hx0, rfl, hrest⟩ := hx
  obtain ⟨nx, hnx⟩ : ∃ nx : ByteArray, nx = ⟨n.toArray⟩ := ⟨_, rfl⟩
  rw [← hnx] at hS V ⊢
  have B0 := Lib.hid ((Below.refl w.heap.size w).alloc (Nat.le_refl _) (.cells #[.int .i64 k, .string nx, .int .i64 vk, .bool vt, .int .i64 vi, .string vs, .slice vav vl.length vc, .slice vkv vks.length vkc, .slice av l.length c, .slice kv ks.length kc] 29))
  have HC0 := Lib.hid (CellsAt.new w 29 #[.int .i64 k, .string nx, .int .i64 vk, .bool vt, .int .i64 vi, .string vs, .slice vav vl.length vc, .slice vkv vks.length vkc, .slice av l.length c, .slice kv ks.length kc])
  have HS := Lib.hid hS
  clear hrest hnx hS hSm hT hz hx0
  by_cases h0 : z = 0
  · subst h0
    have HS1 := Lib.hid (HS.out rfl)
    rw [if_pos rfl]
    go_enter Tryz.func19, Tryz.ntmps19
    go_wp2_with fail
    go_fit (V.out _ B0.out)
    rintro e w1 ⟨rfl, hb1⟩
    have hC1 := HC0.out.below hb1
    have d0 := hC1.cell (k := 0) (u := .int .i64 k) rfl
    have d1 := hC1.cell (k := 1) (u := .string nx) rfl
    have d2 := hC1.cell (k := 2) (u := .int .i64 vk) rfl
    have d3 := hC1.cell (k := 3) (u := .bool vt) rfl
    have d4 := hC1.cell (k := 4) (u := .int .i64 vi) rfl
    have d5 := hC1.cell (k := 5) (u := .string vs) rfl
    have d6 := hC1.cell (k := 6) (u := .slice vav vl.length vc) rfl
    have d7 := hC1.cell (k := 7) (u := .slice vkv vks.length vkc) rfl
    have d8 := hC1.cell (k := 8) (u := .slice av l.length c) rfl
    have d9 := hC1.cell (k := 9) (u := .slice kv ks.length kc) rfl
    have HB1 := Lib.hid (B0.out.trans (hb1.mono B0.out.size))
    clear hb1 hC1
    go_wp2_with fail
    go_fit (HS1.out _ HB1.out)
    rintro e w2 ⟨rfl, hb2⟩
    have HB2 := Lib.hid (HB1.out.trans (hb2.mono HB1.out.size))
    clear hb2
    go_wp2_with fail
    go_ret
    exact ⟨rfl, HB2.out⟩
  · have e0 : ((z : Int) == 0) = false := by rw [beq_eq_false_iff_ne]; omega
    have e1 : ((z : Int) != 0) = true := by rw [bne, e0]; rfl
    rw [if_neg h0]
    clear HS h0
    go_enter Tryz.func19, Tryz.ntmps19
    go_wp2_with fail
    go_fit (V.out _ B0.out)
    rintro e w1 ⟨rfl, hb1⟩
    have HB1 := Lib.hid (B0.out.trans (hb1.mono B0.out.size))
    clear hb1
    go_wp2_with fail
    go_ret
    exact ⟨rfl, HB1.out⟩
end Go.Proofs.YtjehhldboopocaaGreatDoor.Lx
namespace Go.Proofs.YtjehhldboopocaaGreatDoor.Lx
open Go.RowKit Go.Lib
set_option linter.unusedVariables false
theorem wellB_parts {k : Int} {v : Vl} {n : List UInt8} {a : Nat} {ks : List (List UInt8)} (h : wellB k v n a ks = true) : (1 ≤ k ∧ k ≤ 10) ∧ nameOk k n = true ∧ argsOk k a = true ∧ keysOk k a ks = true := by
  unfold wellB at h
  simp only [Bool.and_eq_true, decide_eq_true_eq] at h
  exact ⟨⟨h.1.1.1.1.1, h.1.1.1.1.2⟩, h.1.1.2, h.1.2, h.2⟩
theorem opdT_le (T : Xp → ByteArray) {l : List Xp} {i : Nat} {y : Xp} (least : Int) (h : l[i]? = some y) : (T y).size ≤ (opdT T l i least).size := by
  unfold opdT
  rw [h]
  exact (brkT_le _ _ _).1
theorem argT_le (T : Xp → ByteArray) {l : List Xp} {i : Nat} {y : Xp} (h : l[i]? = some y) : (T y).size ≤ (argT T l i).size := by
  unfold argT
  rw [h]
  exact Nat.le_refl _
theorem one_of {α : Type} {l : List α} (h : l.length = 1) : ∃ a, l = [a] := List.length_eq_one_iff.1 h
theorem two_of {α : Type} : ∀ {l : List α}, l.length = 2 → ∃ a b, l = [a, b]
  | [a, b], _ => ⟨a, b, rfl⟩
theorem three_of {α : Type} : ∀ {l : List α}, l.length = 3 → ∃ a b c, l = [a, b, c]
  | [a, b, c], _ => ⟨a, b, c, rfl⟩
theorem argsOk_one {k : Int} {n : Nat} (h : argsOk k n = true) (hk : k = 3 ∨ k = 6) : n = 1 := by
  unfold argsOk at h
  rw [if_neg (by omega), if_pos hk] at h
  exact of_decide_eq_true h
theorem argsOk_two {k : Int} {n : Nat} (h : argsOk k n = true) (hk : k = 4 ∨ k = 7) : n = 2 := by
  unfold argsOk at h
  rw [if_neg (by omega), if_neg (by omega), if_pos hk] at h
  exact of_decide_eq_true h
theorem argsOk_three {k : Int} {n : Nat} (h : argsOk k n = true) (hk : k = 8) : n = 3 := by
  unfold argsOk at h
  rw [if_neg (by omega), if_neg (by omega), if_neg (by omega), if_pos hk] at h
  exact of_decide_eq_true h
theorem argsOk_none {k : Int} {n : Nat} (h : argsOk k n = true) (hk : k = 1 ∨ k = 2) : n = 0 := by
  unfold argsOk at h
  rw [if_pos hk] at h
  exact of_decide_eq_true h
theorem keysOk_map {n : Nat} {ks : List (List UInt8)} (h : keysOk 10 n ks = true) : ks.length = n ∧ ∀ x, x ∈ ks → x.length ≤ 256 := by
  unfold keysOk at h
  rw [if_pos rfl] at h
  simp only [Bool.and_eq_true, decide_eq_true_eq, List.all_eq_true] at h
  refine ⟨h.1, fun x hx => ?_⟩
  have := h.2 x hx
  unfold keyB at this
  simp only [Bool.and_eq_true, decide_eq_true_eq] at this
  omega
/-- The source of an arg is no longer than that of the whole. -/
theorem srcG_mem (T : Xp → ByteArray) (k : Int) (v : Vl) (n : List UInt8) (l : List Xp) (ks : List (List UInt8)) (hk : 1 ≤ k ∧ k ≤ 10) (ha : argsOk k l.length = true) (hks : keysOk k l.length ks = true) (y : Xp) (hy : y ∈ l) : (T y).size ≤ (srcG T (.mk k v n l ks)).size := by
  obtain ⟨i, hi⟩ := List.getElem?_of_mem hy
  have hil := (List.getElem?_eq_some_iff.1 hi).1
  rcases (show k = 1 ∨ k = 2 ∨ k = 3 ∨ k = 4 ∨ k = 5 ∨ k = 6 ∨ k = 7 ∨ k = 8 ∨ k = 9 ∨ k = 10 by omega) with rfl | rfl | rfl | rfl | rfl | rfl | rfl | rfl | rfl | rfl
  · have := argsOk_none ha (.inl rfl); omega
  · have := argsOk_none ha (.inr rfl); omega
  · have := argsOk_one ha (.inl rfl)
    obtain rfl : i = 0 := by omega
    show _ ≤ ((opdT T l 0 8 ++ ⟨#[46]⟩) ++ (⟨n.toArray⟩ : ByteArray)).size
    have := opdT_le T 8 hi
    simp only [ByteArray.size_append]
    omega
  · have := argsOk_two ha (.inl rfl)
    show _ ≤ (((opdT T l 0 8 ++ ⟨#[91]⟩) ++ argT T l 1) ++ (⟨#[93]⟩ : ByteArray)).size
    simp only [ByteArray.size_append]
    rcases (show i = 0 ∨ i = 1 by omega) with rfl | rfl
    · have := opdT_le T 8 hi; omega
    · have := argT_le T hi; omega
  · show _ ≤ ((((⟨n.toArray⟩ : ByteArray) ++ ⟨#[40]⟩) ++ lstT T l) ++ ⟨#[41]⟩).size
    have := lstT_mem (T := T) hy
    simp only [ByteArray.size_append]
    omega
  · have := argsOk_one ha (.inr rfl)
    obtain rfl : i = 0 := by omega
    show _ ≤ ((⟨n.toArray⟩ : ByteArray) ++ opdT T l 0 7).size
    have := opdT_le T 7 hi
    simp only [ByteArray.size_append]
    omega
  · have := argsOk_two ha (.inr rfl)
    show _ ≤ ((((opdT T l 0 (fstS (strB n) : Nat) ++ ⟨#[32]⟩) ++ ⟨n.toArray⟩) ++ ⟨#[32]⟩) ++ opdT T l 1 ((strB n : Int) + 1)).size
    simp only [ByteArray.size_append]
    rcases (show i = 0 ∨ i = 1 by omega) with rfl | rfl
    · have := opdT_le T (fstS (strB n) : Nat) hi; omega
    · have := opdT_le T ((strB n : Int) + 1) hi; omega
  · have := argsOk_three ha rfl
    show _ ≤ ((((opdT T l 0 2 ++ ⟨#[32, 63, 32]⟩) ++ argT T l 1) ++ ⟨#[32, 58, 32]⟩) ++ argT T l 2).size
    simp only [ByteArray.size_append]
    rcases (show i = 0 ∨ i = 1 ∨ i = 2 by omega) with rfl | rfl | rfl
    · have := opdT_le T 2 hi; omega
    · have := argT_le T hi; omega
    · have := argT_le T hi; omega
  · show _ ≤ (((⟨#[91]⟩ : ByteArray) ++ lstT T l) ++ ⟨#[93]⟩).size
    have := lstT_mem (T := T) hy
    simp only [ByteArray.size_append]
    omega
  · show _ ≤ (((⟨#[123]⟩ : ByteArray) ++ mapT T ks l) ++ ⟨#[125]⟩).size
    have := mapT_mem (T := T) (keysOk_map hks).1 hy
    simp only [ByteArray.size_append]
    omega
theorem srcE_mk (m : Nat) : ∃ T, srcE m = srcG T ∧ ∀ m', m = m' + 1 → T = srcE m' := by
  cases m with
  | zero => exact ⟨_, rfl, fun m' h => by omega⟩
  | succ m => exact ⟨srcE m, rfl, fun m' h => by rw [show m = m' by omega]⟩
theorem strB_le (s : List UInt8) : strB s ≤ 6 := by
  unfold strB
  repeat' (first | split | omega)
theorem chrL_eq (c : UInt8) : chrL c = Go.Proofs.YtjehhldboopocaaGreatDoor.chrL c := rfl
theorem quoL_eq (s : List UInt8) : quoL s = Go.Proofs.YtjehhldboopocaaGreatDoor.quoL s := by
  unfold quoL Go.Proofs.YtjehhldboopocaaGreatDoor.quoL
  rw [show chrL = Go.Proofs.YtjehhldboopocaaGreatDoor.chrL from funext chrL_eq]
theorem gd_node {m : Nat} {x : Xp} (h : Gd m x) : NodeOk x := by
  cases m with
  | zero => exact h
  | succ m => exact h.1
set_option maxRecDepth 100000 in
set_option maxHeartbeats 2000000 in
theorem source_lv : ∀ (m : Nat) (C : List Value) (x : Xp) (w : World), IsE m w C x → Gd m x → Go.Proofs.YtjehhldboopocaaGreatDoor.TabP w → (srcE m x).size ≤ 1099511627776 →
    Calls Tryz.prog 35 #[.agg C.toArray] w fun e w' => e = .returned (.string (srcE m x)) ∧ Below w.heap.size w w' := by
  intro m
  induction m using Nat.strongRecOn with
  | ind m ih =>
    intro C x w hx hg hT hsz
    obtain ⟨T, he, hm⟩ := srcE_mk m
    have hd := isE_dep m C x hx
    have hno := gd_node hg
    obtain ⟨k, n, vk, vt, vi, vs, vl, vks, vav, vc, vkv, vkc, l, ks, av, c, kv, kc, rfl, rfl, ⟨mv, hV⟩, hk, hn, hla, hka, hkl, hrk, hr⟩ := hx
    obtain ⟨hw, hv0, hl0⟩ := hno
    obtain ⟨hkb, hnm, ha, hks⟩ := wellB_parts hw
    have hkb : 1 ≤ k ∧ k ≤ 10 := hkb
    have hl : l.length ≤ 1024 := hl0
    have ha : argsOk k l.length = true := ha
    have hks : keysOk k l.length ks = true := hks
    have hv : Go.Proofs.YtjehhldboopocaaGreatDoor.errV 16 (Vl.mk vk vt vi vs vl vks) = 0 := hv0
    clear hv0 hl0
    rw [he] at hsz ⊢
    obtain ⟨v, hvv⟩ : ∃ v, v = Vl.mk vk vt vi vs vl vks := ⟨_, rfl⟩
    rw [← hvv] at hV hv hsz ⊢
    have hmem : ∀ y, y ∈ l → (T y).size ≤ 1099511627776 := fun y hy => Nat.le_trans (srcG_mem T k v n l ks hkb ha hks y hy) hsz
    have hpos : ∀ y, y ∈ l → ∃ m', m = m' + 1 := fun y hy => by
      cases m with
      | zero =>
        have h0 : l = [] := hd
        rw [h0] at hy
        cases hy
      | succ m' => exact ⟨m', rfl⟩
    have hS : ∀ w', Below w.heap.size w w' → ∀ C' y, y ∈ l → IsE (m - 1) w' C' y → SrcC w' C' (T y) := by
      intro w' hb C' y hy hE w2 hb2
      obtain ⟨m', rfl⟩ := hpos y hy
      have hT' := hm m' rfl
      have hE : IsE m' w' C' y := hE
      have h := ih m' (by omega) C' y w2 (hE.below hb2) (hg.2 y hy) (Go.Proofs.YtjehhldboopocaaGreatDoor.tabP_below hT (hb.trans (hb2.mono hb.size))) (by rw [← hT']; exact hmem y hy)
      rw [← hT'] at h
      exact h
    have hk10 : k = 1 ∨ k = 2 ∨ k = 3 ∨ k = 4 ∨ k = 5 ∨ k = 6 ∨ k = 7 ∨ k = 8 ∨ k = 9 ∨ k = 10 := by
      clear hsz hmem
      omega
    have hr1 : ReadsE (m - 1 + 1) w av l := by
      cases m with
      | zero =>
        have h0 : l = [] := hd
        subst h0
        intro j y hj
        simp at hj
      | succ m' => exact hr
    have hS0 := hS w (Below.refl _ w)
    rcases hk10 with rfl | rfl | rfl | rfl | rfl | rfl | rfl | rfl | rfl | rfl
    · refine src_1 _ _ _ _ _ _ _ _ _ _ _ _ _ _ _ _ _ w _ fun w' hb => ?_
      have hs : (litX v).toArray.size ≤ 1099511627776 := hsz
      rw [List.size_toArray] at hs
      have hlim : (Go.Proofs.YtjehhldboopocaaGreatDoor.litV mv v).length + 64 ≤ 140737488355328 := by
        rw [lit_litX hV]
        omega
      have h := Go.Proofs.YtjehhldboopocaaGreatDoor.show_any mv _ v w' (Go.Proofs.YtjehhldboopocaaGreatDoor.tabP_below hT hb) (hV.below hb) (fun _ => hlim)
      have e : Go.Proofs.YtjehhldboopocaaGreatDoor.showB mv v = srcG T (.mk 1 v n l ks) := by
        unfold Go.Proofs.YtjehhldboopocaaGreatDoor.showB
        rw [if_pos hv, lit_litX hV]
        rfl
      rw [e] at h
      exact h
    · exact src_2 _ _ _ _ _ _ _ _ _ _ _ _ _ _ _ _ _ w
    · obtain ⟨y0, rfl⟩ := one_of (argsOk_one ha (.inl rfl))
      exact src_3 (m - 1) T n v _ _ _ _ _ _ _ _ _ _ _ _ _ _ _ y0 ks w hr1 hS0 hsz
    · obtain ⟨y0, y1, rfl⟩ := two_of (argsOk_two ha (.inl rfl))
      exact src_4 (m - 1) T n v _ _ _ _ _ _ _ _ _ _ _ _ _ _ _ y0 y1 ks w hr1 hS0 hsz
    · have hsz' : ((((⟨n.toArray⟩ : ByteArray) ++ ⟨#[40]⟩) ++ lstT T l) ++ ⟨#[41]⟩).size ≤ 1099511627776 := hsz
      simp only [ByteArray.size_append] at hsz'
      have hls := lstT_size T l
      exact src_5 _ _ _ _ _ _ _ _ _ _ _ _ _ _ _ _ _ w (lstT T l) (fun w' hb => items_list (m - 1) T 5 _ _ _ _ _ _ _ _ _ _ _ _ _ _ _ _ l w' rfl (by omega) (hr1.below hb) (hS w' hb) (fun y hy => by have := hmem y hy; omega) (by omega)) (by omega)
    · obtain ⟨y0, rfl⟩ := one_of (argsOk_one ha (.inr rfl))
      exact src_6 (m - 1) T n v _ _ _ _ _ _ _ _ _ _ _ _ _ _ _ y0 ks w hr1 hS0 hsz
    · obtain ⟨y0, y1, rfl⟩ := two_of (argsOk_two ha (.inr rfl))
      exact src_7 (m - 1) T n v _ _ _ _ _ _ _ _ _ _ _ _ _ _ _ y0 y1 ks w hr1 hS0 hsz (strB_le n)
    · obtain ⟨y0, y1, y2, rfl⟩ := three_of (argsOk_three ha rfl)
      exact src_8 (m - 1) T n v _ _ _ _ _ _ _ _ _ _ _ _ _ _ _ y0 y1 y2 ks w hr1 hS0 hsz
    · have hsz' : (((⟨#[91]⟩ : ByteArray) ++ lstT T l) ++ ⟨#[93]⟩).size ≤ 1099511627776 := hsz
      simp only [ByteArray.size_append] at hsz'
      have hls := lstT_size T l
      exact src_9 _ _ _ _ _ _ _ _ _ _ _ _ _ _ _ _ _ w (lstT T l) (fun w' hb => items_list (m - 1) T 9 _ _ _ _ _ _ _ _ _ _ _ _ _ _ _ _ l w' rfl (by omega) (hr1.below hb) (hS w' hb) (fun y hy => by have := hmem y hy; omega) (by omega)) (by omega)
    · have hsz' : (((⟨#[123]⟩ : ByteArray) ++ mapT T ks l) ++ ⟨#[125]⟩).size ≤ 1099511627776 := hsz
      simp only [ByteArray.size_append] at hsz'
      have hls := mapT_size T ks l
      have hkm := keysOk_map hks
      exact src_10 _ _ _ _ _ _ _ _ _ _ _ _ _ _ _ _ _ w (mapT T ks l) (fun w' hb => items_map (m - 1) T _ _ _ _ _ _ _ _ _ _ _ _ _ _ _ l ks w' (by omega) hkm.1 (hr1.below hb) (hrk.below hb) (fun x hx => by have := Go.Proofs.YtjehhldboopocaaGreatDoor.quoL_len x; have := hkm.2 x hx; rw [quoL_eq]; omega) (hS w' hb) hmem (by omega)) (by omega)
/-- source, whatever the levels. -/
theorem src_any {m : Nat} {C : List Value} {x : Xp} {w : World} (hx : IsE m w C x) (hg : Gd m x) (hT : Go.Proofs.YtjehhldboopocaaGreatDoor.TabP w) (hsz : (srcX x).size ≤ 1099511627776) : SrcC w C (srcX x) := by
  intro w' hb
  have e : srcE m x = srcX x := src_dep (isE_dep m C x hx)
  have h := source_lv m C x w' (hx.below hb) hg (Go.Proofs.YtjehhldboopocaaGreatDoor.tabP_below hT hb) (by rw [e]; exact hsz)
  rw [e] at h
  exact h
/-- Show. -/
theorem showX_any (m : Nat) (C : List Value) (x : Xp) (w : World) (hx : IsE m w C x) (hSm : AllSm x) (hT : TabL w) (hP : Go.Proofs.YtjehhldboopocaaGreatDoor.TabP w) (hsz : validX x = 0 → (srcX x).size ≤ 1099511627776) :
    Calls Tryz.prog 19 #[.agg C.toArray] w fun e w' => e = .returned (.string (if validX x = 0 then srcX x else ⟨#[]⟩)) ∧ Below w.heap.size w w' :=
  showS_any m C x (srcX x) w hx hSm hT fun h0 => src_any hx (validX_gd hx h0).2 hP (hsz h0)
end Go.Proofs.YtjehhldboopocaaGreatDoor.Lx
namespace Go.Proofs.YtjehhldboopocaaGreatDoor.Lx
open Go.RowKit Go.Lib
set_option linter.unusedVariables false
/-- A source whose expression is read, but not to its end. -/
theorem parse_cutC (s : ByteArray) (T : List Tk) (x : Xp) (F a : Nat) (hs : s.size ≤ 65536) (hl : lexF s.data.toList 0 0 false = .ok T) (hp : pP (T.map Tk.tm) F .cond 0 = .ok x a) (hv : validX x = 0) (ha : a < T.length) (q : Int) (hq : posT s (T.map Tk.tm) a = q) (w : World) (hT : TabL w) :
    Calls Tryz.prog 11 #[.string s] w fun e w' => e = .returned (.tuple #[.agg zeroC.toArray, .int .i64 q, .int .i64 5]) ∧ Below w.heap.size w w' :=
  (parse_tok s T hs hl w hT).mono fun e w' h => by
    obtain ⟨hb, h⟩ := h
    rw [parseP_ok hp] at h
    simp only [hv, List.length_map, if_pos ha, hq, ne_eq, not_true_eq_false, if_false] at h
    exact ⟨h, hb⟩
/-- Names of what is parsed are short. -/
theorem sm_of {T : List Tk} (h : ∀ t ∈ T.map Tk.tm, t.text.length ≤ 1099511627776) {F a : Nat} {x : Xp} (hp : pP (T.map Tk.tm) F .cond 0 = .ok x a) : AllSm x := by
  have := pG_sm litsP (fun i k s hs => tsOf_short h i k s hs) F .cond 0 trivial
  rw [show pG litsP (tsOf (T.map Tk.tm)) F .cond 0 = .ok x a from hp] at this
  exact this
def eOne (n : Int) : Xp := .mk 1 (litV 2 false n ⟨#[]⟩) [] [] []
def eNm (c : UInt8) : Xp := .mk 2 zeroV [c] [] []
def tkA : List Tk := [⟨2, [49], 0⟩, ⟨4, [43], 2⟩, ⟨2, [50], 4⟩, ⟨4, [42], 6⟩, ⟨2, [51], 8⟩]
def tkB : List Tk := [⟨1, [97], 0⟩, ⟨4, [60], 2⟩, ⟨1, [98], 4⟩, ⟨4, [60], 6⟩, ⟨1, [99], 8⟩]
def tkCd : List Tk := [⟨4, [40], 0⟩, ⟨1, [97], 1⟩, ⟨4, [63], 3⟩, ⟨1, [98], 5⟩, ⟨4, [58], 7⟩, ⟨4, [40], 9⟩, ⟨1, [99], 10⟩, ⟨4, [63], 12⟩, ⟨1, [100], 14⟩, ⟨4, [58], 16⟩, ⟨1, [101], 18⟩, ⟨4, [41], 19⟩, ⟨4, [41], 20⟩]
def tkD : List Tk := [⟨4, [123], 0⟩, ⟨1, [97], 1⟩, ⟨4, [58], 2⟩, ⟨2, [49], 4⟩, ⟨4, [44], 5⟩, ⟨3, [97], 7⟩, ⟨4, [58], 10⟩, ⟨2, [50], 12⟩, ⟨4, [125], 13⟩]
def xA : Xp := .mk 7 zeroV [43] [eOne 1, .mk 7 zeroV [42] [eOne 2, eOne 3] []] []
def xB : Xp := .mk 7 zeroV [60] [eNm 97, eNm 98] []
def xC : Xp := .mk 8 zeroV [] [eNm 97, eNm 98, .mk 8 zeroV [] [eNm 99, eNm 100, eNm 101] []] []
def xD : Xp := .mk 10 zeroV [] [eOne 1, eOne 2] [[97], [97]]
set_option maxRecDepth 100000 in
theorem lx_A : lexF [49, 32, 43, 32, 50, 32, 42, 32, 51] 0 0 false = .ok tkA := by kernel_rfl
set_option maxRecDepth 100000 in
theorem lx_B : lexF [97, 32, 60, 32, 98, 32, 60, 32, 99] 0 0 false = .ok tkB := by kernel_rfl
set_option maxRecDepth 100000 in
theorem lx_C : lexF [40, 97, 32, 63, 32, 98, 32, 58, 32, 40, 99, 32, 63, 32, 100, 32, 58, 32, 101, 41, 41] 0 0 false = .ok tkCd := by kernel_rfl
set_option maxRecDepth 100000 in
theorem lx_D : lexF [123, 97, 58, 32, 49, 44, 32, 34, 97, 34, 58, 32, 50, 125] 0 0 false = .ok tkD := by kernel_rfl
set_option maxRecDepth 100000 in
theorem pa_A : pP (tkA.map Tk.tm) 40 .cond 0 = .ok xA 5 := by kernel_rfl
set_option maxRecDepth 100000 in
theorem pa_B : pP (tkB.map Tk.tm) 40 .cond 0 = .ok xB 3 := by kernel_rfl
set_option maxRecDepth 100000 in
theorem pa_C : pP (tkCd.map Tk.tm) 60 .cond 0 = .ok xC 13 := by kernel_rfl
set_option maxRecDepth 100000 in
theorem pa_D : pP (tkD.map Tk.tm) 40 .cond 0 = .ok xD 9 := by kernel_rfl
set_option maxRecDepth 100000 in
theorem va_A : validX xA = 0 := validX_of (m := 3) (by kernel_rfl) (by kernel_rfl)
set_option maxRecDepth 100000 in
theorem va_B : validX xB = 0 := validX_of (m := 3) (by kernel_rfl) (by kernel_rfl)
set_option maxRecDepth 100000 in
theorem va_C : validX xC = 0 := validX_of (m := 3) (by kernel_rfl) (by kernel_rfl)
set_option maxRecDepth 100000 in
theorem va_D : validX xD = 7 := validX_of (m := 3) (by kernel_rfl) (by kernel_rfl)
theorem co_A : (nodesX xA).length = 5 := by rw [nodesX_of (m := 3) (by kernel_rfl)]; kernel_rfl
set_option maxRecDepth 100000 in
theorem so_A : srcX xA = ⟨#[49, 32, 43, 32, 50, 32, 42, 32, 51]⟩ := by rw [srcX_of (m := 3) (by kernel_rfl)]; kernel_rfl
set_option maxRecDepth 100000 in
theorem so_C : srcX xC = ⟨#[97, 32, 63, 32, 98, 32, 58, 32, 99, 32, 63, 32, 100, 32, 58, 32, 101]⟩ := by rw [srcX_of (m := 3) (by kernel_rfl)]; kernel_rfl
theorem parA_e (w : World) (hT : TabL w) : Calls Tryz.prog 11 #[.string ⟨#[49, 32, 43, 32, 50, 32, 42, 32, 51]⟩] w fun e w' => (∃ C m, e = .returned (.tuple #[.agg (List.toArray C), .int .i64 0, .int .i64 0]) ∧ OkE xA w' C m) ∧ Below w.heap.size w w' :=
  parse_okC _ tkA xA 40 (by decide) lx_A pa_A va_A w hT
theorem parB_e (w : World) (hT : TabL w) : Calls Tryz.prog 11 #[.string ⟨#[97, 32, 60, 32, 98, 32, 60, 32, 99]⟩] w fun e w' => e = .returned (.tuple #[.agg zeroC.toArray, .int .i64 6, .int .i64 5]) ∧ Below w.heap.size w w' :=
  parse_cutC _ tkB xB 40 3 (by decide) lx_B pa_B va_B (by decide) 6 (by kernel_rfl) w hT
theorem parC_e (w : World) (hT : TabL w) : Calls Tryz.prog 11 #[.string ⟨#[40, 97, 32, 63, 32, 98, 32, 58, 32, 40, 99, 32, 63, 32, 100, 32, 58, 32, 101, 41, 41]⟩] w fun e w' => (∃ C m, e = .returned (.tuple #[.agg (List.toArray C), .int .i64 0, .int .i64 0]) ∧ OkE xC w' C m) ∧ Below w.heap.size w w' :=
  parse_okC _ tkCd xC 60 (by decide) lx_C pa_C va_C w hT
theorem parD_e (w : World) (hT : TabL w) : Calls Tryz.prog 11 #[.string ⟨#[123, 97, 58, 32, 49, 44, 32, 34, 97, 34, 58, 32, 50, 125]⟩] w fun e w' => e = .returned (.tuple #[.agg zeroC.toArray, .int .i64 0, .int .i64 7]) ∧ Below w.heap.size w w' :=
  parse_invC _ tkD xD 40 9 7 (by decide) lx_D pa_D va_D (by decide) 0 (by kernel_rfl) w hT
theorem sm_A : AllSm xA := sm_of (T := tkA) (by decide) pa_A
theorem sm_C : AllSm xC := sm_of (T := tkCd) (by decide) pa_C
theorem shoA_e {m : Nat} {C : List Value} (w : World) (hx : IsE m w C xA) (hT : TabL w) (hP : Go.Proofs.YtjehhldboopocaaGreatDoor.TabP w) : Calls Tryz.prog 19 #[.agg C.toArray] w fun e w' => e = .returned (.string ⟨#[49, 32, 43, 32, 50, 32, 42, 32, 51]⟩) ∧ Below w.heap.size w w' := by
  have h := showX_any m C xA w hx sm_A hT hP (fun _ => by rw [so_A]; decide)
  rw [if_pos va_A, so_A] at h
  exact h
theorem shoC_e {m : Nat} {C : List Value} (w : World) (hx : IsE m w C xC) (hT : TabL w) (hP : Go.Proofs.YtjehhldboopocaaGreatDoor.TabP w) : Calls Tryz.prog 19 #[.agg C.toArray] w fun e w' => e = .returned (.string ⟨#[97, 32, 63, 32, 98, 32, 58, 32, 99, 32, 63, 32, 100, 32, 58, 32, 101]⟩) ∧ Below w.heap.size w w' := by
  have h := showX_any m C xC w hx sm_C hT hP (fun _ => by rw [so_C]; decide)
  rw [if_pos va_C, so_C] at h
  exact h
theorem couA_e {m : Nat} {C : List Value} (w : World) (hx : IsE m w C xA) : Calls Tryz.prog 21 #[.agg C.toArray] w fun e w' => e = .returned (.int .i64 5) ∧ Below w.heap.size w w' := by
  have h := countE_any m C xA w hx sm_A
  rw [pre_nodes hx, co_A, show cntW 5 = 5 from cntW_small (by decide)] at h
  exact h
theorem valC_e {m : Nat} {C : List Value} (w : World) (hx : IsE m w C xC) (hT : TabL w) : Calls Tryz.prog 17 #[.agg C.toArray] w fun e w' => e = .returned (.int .i64 0) ∧ Below w.heap.size w w' := by
  have h := validE_any m C xC w hx sm_C hT
  rw [validE_X hx, va_C] at h
  exact h
theorem eqAA_e {m : Nat} {C : List Value} (w : World) (hx : IsE m w C xA) : Calls Tryz.prog 22 #[.agg C.toArray, .agg C.toArray] w fun e w' => e = .returned (.bool true) ∧ Below w.heap.size w w' := by
  have h := equalX_any C C xA xA w hx hx
  rw [eqX_refl] at h
  exact h
theorem eqAC_e {m n : Nat} {C D : List Value} (w : World) (hx : IsE m w C xA) (hy : IsE n w D xC) : Calls Tryz.prog 22 #[.agg C.toArray, .agg D.toArray] w fun e w' => e = .returned (.bool false) ∧ Below w.heap.size w w' := by
  have h := equalX_any C D xA xC w hx hy
  rw [eqX_kd (show xA.kd ≠ xC.kd by decide)] at h
  exact h
end Go.Proofs.YtjehhldboopocaaGreatDoor.Lx
