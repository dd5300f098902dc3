/- The condition that each law of layer 9 asks first is met (lexer). -/
import Derived.Test.YtoliiiijbdoliaaDoorLexU
import Derived.Test.YtoliiiijbdoliaaDoorLexP
import Derived.Deep.RegionWith
import Derived.Deep.RegionHeld3
namespace Go.Proofs.YtoliiiijbdoliaaDoor
open Go.RowKit Go.Lib
set_option linter.unusedVariables false
set_option linter.unusedSimpArgs false

def kA : List Tk := [⟨1, [97], 0⟩, ⟨4, [60, 61], 2⟩, ⟨2, [49, 48], 5⟩]
def kB : List Tk := [⟨1, [97], 0⟩, ⟨5, [], 1⟩, ⟨1, [98], 3⟩, ⟨4, [40], 4⟩, ⟨4, [41], 6⟩]
set_option maxRecDepth 100000 in
theorem e_kA : lexF [97, 32, 60, 61, 32, 49, 48, 32, 35, 32, 120] 0 0 false = .ok kA := by kernel_rfl
set_option maxRecDepth 100000 in
theorem e_kB : lexF [97, 10, 10, 98, 40, 10, 41] 0 0 false = .ok kB := by kernel_rfl
set_option maxRecDepth 100000 in
theorem e_kC : lexF [97, 32, 48, 48, 55] 0 0 false = .err 2 5 := by kernel_rfl
theorem e_join : joinM false (kA.map Tk.tm) = [97, 32, 60, 61, 32, 49, 48] := by decide +kernel
theorem e_quo : quoL [10] = [34, 92, 110, 34] := by decide +kernel
theorem tokA_e (w : World) (hT : TabL w) : Calls Tryd.prog 13 #[.string ⟨#[97, 32, 60, 61, 32, 49, 48, 32, 35, 32, 120]⟩] w fun e w' => (∃ a c, e = .returned (.tuple #[.slice a 3 c, .int .i64 0, .int .i64 0]) ∧ ReadsK w' a (kA.map Tk.tm)) ∧ Below w.heap.size w w' := by
  have h := Tokens_any ⟨#[97, 32, 60, 61, 32, 49, 48, 32, 35, 32, 120]⟩ (by decide) w hT hT.1
  rw [show (⟨#[97, 32, 60, 61, 32, 49, 48, 32, 35, 32, 120]⟩ : ByteArray).data.toList = [97, 32, 60, 61, 32, 49, 48, 32, 35, 32, 120] from rfl, e_kA] at h
  exact h
theorem tokB_e (w : World) (hT : TabL w) : Calls Tryd.prog 13 #[.string ⟨#[97, 10, 10, 98, 40, 10, 41]⟩] w fun e w' => (∃ a c, e = .returned (.tuple #[.slice a 5 c, .int .i64 0, .int .i64 0]) ∧ ReadsK w' a (kB.map Tk.tm)) ∧ Below w.heap.size w w' := by
  have h := Tokens_any ⟨#[97, 10, 10, 98, 40, 10, 41]⟩ (by decide) w hT hT.1
  rw [show (⟨#[97, 10, 10, 98, 40, 10, 41]⟩ : ByteArray).data.toList = [97, 10, 10, 98, 40, 10, 41] from rfl, e_kB] at h
  exact h
theorem tokC_e (w : World) (hT : TabL w) : Calls Tryd.prog 13 #[.string ⟨#[97, 32, 48, 48, 55]⟩] w fun e w' => e = .returned (.tuple #[.slice none 0 0, .int .i64 2, .int .i64 5]) ∧ Below w.heap.size w w' := by
  have h := Tokens_any ⟨#[97, 32, 48, 48, 55]⟩ (by decide) w hT hT.1
  rw [show (⟨#[97, 32, 48, 48, 55]⟩ : ByteArray).data.toList = [97, 32, 48, 48, 55] from rfl, e_kC] at h
  exact h
theorem joinA_e (a : Option Addr) (c : Nat) (w : World) (hr : ReadsK w a (kA.map Tk.tm)) : Calls Tryd.prog 9 #[.slice a 3 c] w fun e w' => e = .returned (.string ⟨#[97, 32, 60, 61, 32, 49, 48]⟩) ∧ Below w.heap.size w w' := by
  have h := Join_any a c (kA.map Tk.tm) (by decide) (by rw [e_join]; decide) w hr
  rw [e_join] at h
  exact h
theorem quo_e (w : World) : Calls Tryd.prog 11 #[.string ⟨#[10]⟩] w fun e w' => e = .returned (.string ⟨#[34, 92, 110, 34]⟩) ∧ Below w.heap.size w w' := by
  have h := Quote_any ⟨#[10]⟩ (by rw [show (⟨#[10]⟩ : ByteArray).data.toList = [10] from rfl, e_quo]; decide) w
  rw [show (⟨#[10]⟩ : ByteArray).data.toList = [10] from rfl, e_quo] at h
  exact h
theorem litA (w : World) : ReadsK (w.alloc (Obj.cells #[.int .i64 1, .string ⟨#[97]⟩, .int .i64 0, .int .i64 4, .string ⟨#[60, 61]⟩, .int .i64 2, .int .i64 2, .string ⟨#[49, 48]⟩, .int .i64 5] 33)) (some ⟨w.heap.size, 0, none⟩) (kA.map Tk.tm) := by
  intro j hj
  have hz : w.heap.size < (w.alloc (Obj.cells #[.int .i64 1, .string ⟨#[97]⟩, .int .i64 0, .int .i64 4, .string ⟨#[60, 61]⟩, .int .i64 2, .int .i64 2, .string ⟨#[49, 48]⟩, .int .i64 5] 33)).heap.size := by simp
  match j, hj with
  | 0, _ => exact ⟨w.heap.size, 0, rfl, hz, by simp [go_sem, kA, Tk.tm], by simp [go_sem, kA, Tk.tm], by simp [go_sem, kA, Tk.tm]⟩
  | 1, _ => exact ⟨w.heap.size, 0, rfl, hz, by simp [go_sem, kA, Tk.tm], by simp [go_sem, kA, Tk.tm], by simp [go_sem, kA, Tk.tm]⟩
  | 2, _ => exact ⟨w.heap.size, 0, rfl, hz, by simp [go_sem, kA, Tk.tm], by simp [go_sem, kA, Tk.tm], by simp [go_sem, kA, Tk.tm]⟩
theorem sameA_e (a : Option Addr) (c : Nat) (w : World) (hr : ReadsK w a (kA.map Tk.tm)) :
    Calls Tryd.prog 14 #[.slice a 3 c, .slice (some ⟨w.heap.size, 0, none⟩) 3 3, .bool true] (w.alloc (Obj.cells #[.int .i64 1, .string ⟨#[97]⟩, .int .i64 0, .int .i64 4, .string ⟨#[60, 61]⟩, .int .i64 2, .int .i64 2, .string ⟨#[49, 48]⟩, .int .i64 5] 33)) fun e w' => e = .returned (.bool true) ∧ Below w.heap.size w w' := by
  have hb := (Below.refl w.heap.size w).alloc (Nat.le_refl _) (Obj.cells #[.int .i64 1, .string ⟨#[97]⟩, .int .i64 0, .int .i64 4, .string ⟨#[60, 61]⟩, .int .i64 2, .int .i64 2, .string ⟨#[49, 48]⟩, .int .i64 5] 33)
  exact (rSame_yes true (kA.map Tk.tm) (kA.map Tk.tm) (AgreeK.rfl _ _) a _ c 3 (by decide) _ (hr.below hb) (litA w)).mono fun e w' h => ⟨h.1, hb.trans (h.2.mono (by simp))⟩
theorem conv1_e (w : World) (B cap : Nat) (h0 : w.cell? ⟨B, 0, none⟩ = some (.int .u8 10)) : (convert 35 9 (.slice (some ⟨B, 0, none⟩) 1 cap)).run Tryd.prog w = .ok (.string ⟨#[10]⟩) w := by
  refine conv_str (some ⟨B, 0, none⟩) [10] w (fun k hk => ?_) cap
  obtain rfl : k = 0 := by simpa using hk
  exact ⟨B, 0, rfl, World.block_lt_of_cell? w _ h0, h0⟩
theorem conv4_e (w : World) (B cap : Nat) (h0 : w.cell? ⟨B, 0, none⟩ = some (.int .u8 34)) (h1 : w.cell? ⟨B, 1, none⟩ = some (.int .u8 92)) (h2 : w.cell? ⟨B, 2, none⟩ = some (.int .u8 110)) (h3 : w.cell? ⟨B, 3, none⟩ = some (.int .u8 34)) : (convert 35 9 (.slice (some ⟨B, 0, none⟩) 4 cap)).run Tryd.prog w = .ok (.string ⟨#[34, 92, 110, 34]⟩) w := by
  refine conv_str (some ⟨B, 0, none⟩) [34, 92, 110, 34] w (fun k hk => ⟨B, 0, rfl, World.block_lt_of_cell? w _ h0, ?_⟩) cap
  match k, hk with
  | 0, _ => exact h0
  | 1, _ => exact h1
  | 2, _ => exact h2
  | 3, _ => exact h3
theorem conv4_n (X : World) (cap : Nat) : (convert 35 9 (.slice (some ⟨X.heap.size, 0, none⟩) 4 cap)).run Tryd.prog (X.alloc (Obj.cells #[.int .u8 34, .int .u8 92, .int .u8 110, .int .u8 34] 5)) = .ok (.string ⟨#[34, 92, 110, 34]⟩) (X.alloc (Obj.cells #[.int .u8 34, .int .u8 92, .int .u8 110, .int .u8 34] 5)) :=
  conv4_e _ _ _ (by simp [go_sem]) (by simp [go_sem]) (by simp [go_sem]) (by simp [go_sem])
theorem sums_e (w : World) : (Op.stringOp .add ⟨#[97]⟩ ⟨#[10]⟩).run Tryd.prog w = .ok (.string ⟨#[97, 10]⟩) w ∧ (Op.stringOp .add ⟨#[97, 10]⟩ ⟨#[10]⟩).run Tryd.prog w = .ok (.string ⟨#[97, 10, 10]⟩) w ∧ (Op.stringOp .add ⟨#[97, 10, 10]⟩ ⟨#[98, 40]⟩).run Tryd.prog w = .ok (.string ⟨#[97, 10, 10, 98, 40]⟩) w ∧ (Op.stringOp .add ⟨#[97, 10, 10, 98, 40]⟩ ⟨#[10]⟩).run Tryd.prog w = .ok (.string ⟨#[97, 10, 10, 98, 40, 10]⟩) w ∧ (Op.stringOp .add ⟨#[97, 10, 10, 98, 40, 10]⟩ ⟨#[41]⟩).run Tryd.prog w = .ok (.string ⟨#[97, 10, 10, 98, 40, 10, 41]⟩) w :=
  ⟨run_string_add_sum w _ _ (by decide), run_string_add_sum w _ _ (by decide), run_string_add_sum w _ _ (by decide), run_string_add_sum w _ _ (by decide), run_string_add_sum w _ _ (by decide)⟩
def Aw (w w5 : World) (mb mo : Nat) (w' : World) : Prop := w'.cell? ⟨mb, mo + 3, none⟩ = some (.int .i64 5) ∧ mb < w'.heap.size ∧ Below w.heap.size w w' ∧ Below w5.heap.size w5 w'
theorem Aw.below {w w5 w1 w2 : World} {mb mo : Nat} (h : Aw w w5 mb mo w1) (hb : Below w1.heap.size w1 w2) : Aw w w5 mb mo w2 :=
  ⟨(hb.cell (p := ⟨mb, mo + 3, none⟩) h.2.1).trans h.1, Nat.lt_of_lt_of_le h.2.1 hb.size, h.2.2.1.trans (hb.mono h.2.2.1.size), h.2.2.2.trans (hb.mono h.2.2.2.size)⟩
theorem Aw.alloc {w w5 w1 : World} {mb mo : Nat} (h : Aw w w5 mb mo w1) (o : Obj) : Aw w w5 mb mo (w1.alloc o) := h.below ((Below.refl _ _).alloc (Nat.le_refl _) _)
theorem Aw.past {w w5 w1 : World} {mb mo : Nat} (h : Aw w w5 mb mo w1) : Below w5.heap.size w5 w1 := h.2.2.2
theorem Aw.base {w w5 w1 : World} {mb mo : Nat} (h : Aw w w5 mb mo w1) : Below w.heap.size w w1 := h.2.2.1
theorem keep4 {X w7 : World} (hb : Below (X.alloc (Obj.cells #[.int .u8 34, .int .u8 92, .int .u8 110, .int .u8 34] 5)).heap.size (X.alloc (Obj.cells #[.int .u8 34, .int .u8 92, .int .u8 110, .int .u8 34] 5)) w7) :
    w7.cell? ⟨X.heap.size, 0, none⟩ = some (.int .u8 34) ∧ w7.cell? ⟨X.heap.size, 1, none⟩ = some (.int .u8 92) ∧ w7.cell? ⟨X.heap.size, 2, none⟩ = some (.int .u8 110) ∧ w7.cell? ⟨X.heap.size, 3, none⟩ = some (.int .u8 34) :=
  ⟨(hb.cell (p := ⟨X.heap.size, 0, none⟩) (by simp)).trans (by simp [go_sem]), (hb.cell (p := ⟨X.heap.size, 1, none⟩) (by simp)).trans (by simp [go_sem]), (hb.cell (p := ⟨X.heap.size, 2, none⟩) (by simp)).trans (by simp [go_sem]), (hb.cell (p := ⟨X.heap.size, 3, none⟩) (by simp)).trans (by simp [go_sem])⟩
theorem quo_e4 (X : World) : Calls Tryd.prog 11 #[.string ⟨#[10]⟩] (X.alloc (Obj.cells #[.int .u8 34, .int .u8 92, .int .u8 110, .int .u8 34] 5)) fun e w' => e = .returned (.string ⟨#[34, 92, 110, 34]⟩) ∧ Below (X.alloc (Obj.cells #[.int .u8 34, .int .u8 92, .int .u8 110, .int .u8 34] 5)).heap.size (X.alloc (Obj.cells #[.int .u8 34, .int .u8 92, .int .u8 110, .int .u8 34] 5)) w' ∧ w'.cell? ⟨X.heap.size, 0, none⟩ = some (.int .u8 34) ∧ w'.cell? ⟨X.heap.size, 1, none⟩ = some (.int .u8 92) ∧ w'.cell? ⟨X.heap.size, 2, none⟩ = some (.int .u8 110) ∧ w'.cell? ⟨X.heap.size, 3, none⟩ = some (.int .u8 34) :=
  (quo_e _).mono fun e w' h => ⟨h.1, h.2, keep4 h.2⟩
set_option maxHeartbeats 8000000 in
set_option maxRecDepth 100000 in
theorem awake_any (w : World) (hT : TabL w) : Calls Tryd.prog 8 #[] w fun e w' => e = .returned (.bool true) ∧ Below w.heap.size w w' := by
  have HT := Lib.hid hT
  clear hT
  have s1 := fun w => (sums_e w).1
  have s2 := fun w => (sums_e w).2.1
  have s3 := fun w => (sums_e w).2.2.1
  have s4 := fun w => (sums_e w).2.2.2.1
  have s5 := fun w => (sums_e w).2.2.2.2
  have c1 := conv1_e
  have c4 := conv4_e
  have c4n := conv4_n
  go_enter Tryd.func8, Tryd.ntmps8
  go_wp2_with fail
  go_fit (tokA_e _ HT.out)
  rintro e w1 ⟨⟨a1, n1, rfl, hr1⟩, hb⟩
  have R1 := Lib.hid hr1
  have B1 := Lib.hid hb
  clear hr1 hb
  go_wp2_with fail
  go_fit (sameA_e a1 n1 w1 R1.out)
  rintro e w2 ⟨rfl, hb⟩
  have R2 := Lib.hid (R1.out.below hb)
  have B2 := Lib.hid (B1.out.trans (hb.mono B1.out.size))
  clear hb
  go_wp2_with fail
  have B3 := Lib.hid (B2.out.alloc B2.out.size (Obj.cells #[.int .u8 10] 5))
  have R3 := Lib.hid (R2.out.below ((Below.refl w2.heap.size w2).alloc (Nat.le_refl _) (Obj.cells #[.int .u8 10] 5)))
  go_fit (tokB_e _ (HT.out.below B3.out))
  rintro e w4 ⟨⟨a4, n4, rfl, hr4⟩, hb⟩
  have R4 := Lib.hid (R3.out.below hb)
  have M4 := Lib.hid hr4
  have B4 := Lib.hid (B3.out.trans (hb.mono B3.out.size))
  clear hb hr4
  go_wp2_with fail
  go_fit (tokC_e _ (HT.out.below B4.out))
  rintro e w5 ⟨rfl, hb⟩
  have R5 := Lib.hid (R4.out.below hb)
  have M5 := Lib.hid (M4.out.below hb)
  have B5 := Lib.hid (B4.out.trans (hb.mono B4.out.size))
  clear hb
  obtain ⟨mb, mo, rfl, hmb, d0, d1, d2⟩ := M5.out 1 (by decide)
  have D0 : w5.cell? ⟨mb, mo + 3, none⟩ = some (.int .i64 5) := d0
  clear d0 d1 d2
  have hA : Aw w w5 mb mo w5.drew := ⟨D0, hmb, B5.out.drew, (Below.refl _ w5).drew⟩
  have RD := Lib.hid (R5.out.below (Below.refl _ w5).drew)
  go_upto_region 7 with fail
  refine wp_region_held_drew (S := Aw w w5 mb mo) (by kernel_rfl) hA (fun _ => ?_)
  refine wpAnyH_take (i := 0) (oi := { dst := some 51, op := Op.move (Operand.tmp 7), type := 27, pos := "law.go:19", after := #[], guard := none }) (v := .int .i64 0) rfl (by kernel_rfl) (by kernel_rfl) (by kernel_rfl) (fun _ _ _ h => h) (Or.inl ⟨by rfl, ?hy1⟩) hA ?rs1
  case hy1 =>
    intro w8 hSw
    obtain ⟨sD, -⟩ := id hSw
    go_simp
  (try simp only [Act.put, List.setIfInBounds_toArray, List.set_cons_zero, List.set_cons_succ])
  refine wpAnyH_take (i := 1) (oi := { dst := some 52, op := Op.binOp BinOp.eql 27 (Operand.tmp 51) (Operand.const (Value.int IntKind.i64 0)) 27, type := 4, pos := "law.go:19", after := #[{ on := 0, ground := Ground.data }], guard := none }) (v := .bool true) rfl (by kernel_rfl) (by kernel_rfl) (by kernel_rfl) (fun _ _ _ h => h) (Or.inl ⟨by rfl, ?hy2⟩) hA ?rs2
  case hy2 =>
    intro w8 hSw
    obtain ⟨sD, -⟩ := id hSw
    go_simp
  (try simp only [Act.put, List.setIfInBounds_toArray, List.set_cons_zero, List.set_cons_succ])
  refine wpAnyH_take (i := 2) (oi := { dst := some 53, op := Op.move (Operand.tmp 52), type := 4, pos := "law.go:19", after := #[{ on := 1, ground := Ground.data }], guard := none }) (v := .bool true) rfl (by kernel_rfl) (by kernel_rfl) (by kernel_rfl) (fun _ _ _ h => h) (Or.inl ⟨by rfl, ?hy3⟩) hA ?rs3
  case hy3 =>
    intro w8 hSw
    obtain ⟨sD, -⟩ := id hSw
    go_simp
  (try simp only [Act.put, List.setIfInBounds_toArray, List.set_cons_zero, List.set_cons_succ])
  refine wpAnyH_take (i := 3) (oi := { dst := some 54, op := Op.move (Operand.tmp 5), type := 22, pos := "law.go:19", after := #[{ on := 2, ground := Ground.guard }], guard := some (2, true) }) (v := .slice (some ⟨mb, mo, none⟩) 5 n4) rfl (by kernel_rfl) (by kernel_rfl) (by kernel_rfl) (fun _ _ _ h => h) (Or.inl ⟨by rfl, ?hy4⟩) hA ?rs4
  case hy4 =>
    intro w8 hSw
    obtain ⟨sD, -⟩ := id hSw
    go_simp
  (try simp only [Act.put, List.setIfInBounds_toArray, List.set_cons_zero, List.set_cons_succ])
  refine wpAnyH_take (i := 4) (oi := { dst := some 55, op := Op.call { callee := Callee.builtin Builtin.len, args := #[Operand.tmp 54], argTypes := #[22] }, type := 3, pos := "law.go:19", after := #[{ on := 3, ground := Ground.data }, { on := 2, ground := Ground.guard }], guard := some (2, true) }) (v := .int .i64 5) rfl (by kernel_rfl) (by kernel_rfl) (by kernel_rfl) (fun _ _ _ h => h) (Or.inl ⟨by rfl, ?hy5⟩) hA ?rs5
  case hy5 =>
    intro w8 hSw
    obtain ⟨sD, -⟩ := id hSw
    go_simp
  (try simp only [Act.put, List.setIfInBounds_toArray, List.set_cons_zero, List.set_cons_succ])
  refine wpAnyH_take (i := 5) (oi := { dst := some 56, op := Op.binOp BinOp.eql 3 (Operand.tmp 55) (Operand.const (Value.int IntKind.i64 5)) 3, type := 4, pos := "law.go:19", after := #[{ on := 4, ground := Ground.data }, { on := 2, ground := Ground.guard }], guard := some (2, true) }) (v := .bool true) rfl (by kernel_rfl) (by kernel_rfl) (by kernel_rfl) (fun _ _ _ h => h) (Or.inl ⟨by rfl, ?hy6⟩) hA ?rs6
  case hy6 =>
    intro w8 hSw
    obtain ⟨sD, -⟩ := id hSw
    go_simp
  (try simp only [Act.put, List.setIfInBounds_toArray, List.set_cons_zero, List.set_cons_succ])
  refine wpAnyH_take (i := 6) (oi := { dst := some 57, op := Op.pick (Operand.tmp 53) (Operand.tmp 56) (Operand.const (Value.bool false)), type := 4, pos := "law.go:19", after := #[{ on := 2, ground := Ground.data }, { on := 5, ground := Ground.data }], guard := none }) (v := .bool true) rfl (by kernel_rfl) (by kernel_rfl) (by kernel_rfl) (fun _ _ _ h => h) (Or.inl ⟨by rfl, ?hy7⟩) hA ?rs7
  case hy7 =>
    intro w8 hSw
    obtain ⟨sD, -⟩ := id hSw
    go_simp
  (try simp only [Act.put, List.setIfInBounds_toArray, List.set_cons_zero, List.set_cons_succ])
  refine wpAnyH_take (i := 7) (oi := { dst := some 58, op := Op.move (Operand.tmp 57), type := 4, pos := "law.go:19", after := #[{ on := 6, ground := Ground.data }, { on := 2, ground := Ground.chain }], guard := none }) (v := .bool true) rfl (by kernel_rfl) (by kernel_rfl) (by kernel_rfl) (fun _ _ _ h => h) (Or.inl ⟨by rfl, ?hy8⟩) hA ?rs8
  case hy8 =>
    intro w8 hSw
    obtain ⟨sD, -⟩ := id hSw
    go_simp
  (try simp only [Act.put, List.setIfInBounds_toArray, List.set_cons_zero, List.set_cons_succ])
  refine wpAnyH_take (i := 8) (oi := { dst := some 59, op := Op.move (Operand.tmp 5), type := 22, pos := "law.go:19", after := #[{ on := 7, ground := Ground.guard }], guard := some (7, true) }) (v := .slice (some ⟨mb, mo, none⟩) 5 n4) rfl (by kernel_rfl) (by kernel_rfl) (by kernel_rfl) (fun _ _ _ h => h) (Or.inl ⟨by rfl, ?hy9⟩) hA ?rs9
  case hy9 =>
    intro w8 hSw
    obtain ⟨sD, -⟩ := id hSw
    go_simp
  (try simp only [Act.put, List.setIfInBounds_toArray, List.set_cons_zero, List.set_cons_succ])
  refine wpAnyH_take (i := 9) (oi := { dst := some 60, op := Op.indexAddr 22 (Operand.tmp 59) (Operand.const (Value.int IntKind.i64 1)), type := 0, pos := "law.go:19", after := #[{ on := 8, ground := Ground.data }, { on := 7, ground := Ground.guard }], guard := some (7, true) }) (v := .pointer (some ⟨mb, mo + 3, none⟩)) rfl (by kernel_rfl) (by kernel_rfl) (by kernel_rfl) (fun _ _ _ h => h) (Or.inl ⟨by rfl, ?hy10⟩) hA ?rs10
  case hy10 =>
    intro w8 hSw
    obtain ⟨sD, -⟩ := id hSw
    go_simp
  (try simp only [Act.put, List.setIfInBounds_toArray, List.set_cons_zero, List.set_cons_succ])
  refine wpAnyH_take (i := 10) (oi := { dst := some 61, op := Op.fieldAddr 33 (Operand.tmp 60) 0, type := 0, pos := "law.go:19", after := #[{ on := 9, ground := Ground.data }, { on := 7, ground := Ground.guard }], guard := some (7, true) }) (v := .pointer (some ⟨mb, mo + 3, none⟩)) rfl (by kernel_rfl) (by kernel_rfl) (by kernel_rfl) (fun _ _ _ h => h) (Or.inl ⟨by rfl, ?hy11⟩) hA ?rs11
  case hy11 =>
    intro w8 hSw
    obtain ⟨sD, -⟩ := id hSw
    go_simp
  (try simp only [Act.put, List.setIfInBounds_toArray, List.set_cons_zero, List.set_cons_succ])
  refine wpAnyH_take (i := 11) (oi := { dst := some 62, op := Op.load 3 (Operand.tmp 61), type := 3, pos := "law.go:19", after := #[{ on := 10, ground := Ground.data }, { on := 7, ground := Ground.guard }], guard := some (7, true) }) (v := .int .i64 5) rfl (by kernel_rfl) (by kernel_rfl) (by kernel_rfl) (fun _ _ _ h => h) (Or.inl ⟨by rfl, ?hy12⟩) hA ?rs12
  case hy12 =>
    intro w8 hSw
    obtain ⟨sD, -⟩ := id hSw
    go_simp
  (try simp only [Act.put, List.setIfInBounds_toArray, List.set_cons_zero, List.set_cons_succ])
  refine wpAnyH_take (i := 12) (oi := { dst := some 63, op := Op.binOp BinOp.eql 3 (Operand.tmp 62) (Operand.const (Value.int IntKind.i64 5)) 3, type := 4, pos := "law.go:19", after := #[{ on := 11, ground := Ground.data }, { on := 7, ground := Ground.guard }], guard := some (7, true) }) (v := .bool true) rfl (by kernel_rfl) (by kernel_rfl) (by kernel_rfl) (fun _ _ _ h => h) (Or.inl ⟨by rfl, ?hy13⟩) hA ?rs13
  case hy13 =>
    intro w8 hSw
    obtain ⟨sD, -⟩ := id hSw
    go_simp
  (try simp only [Act.put, List.setIfInBounds_toArray, List.set_cons_zero, List.set_cons_succ])
  refine wpAnyH_take (i := 13) (oi := { dst := some 64, op := Op.pick (Operand.tmp 58) (Operand.tmp 63) (Operand.const (Value.bool false)), type := 4, pos := "law.go:19", after := #[{ on := 7, ground := Ground.data }, { on := 12, ground := Ground.data }], guard := none }) (v := .bool true) rfl (by kernel_rfl) (by kernel_rfl) (by kernel_rfl) (fun _ _ _ h => h) (Or.inl ⟨by rfl, ?hy14⟩) hA ?rs14
  case hy14 =>
    intro w8 hSw
    obtain ⟨sD, -⟩ := id hSw
    go_simp
  (try simp only [Act.put, List.setIfInBounds_toArray, List.set_cons_zero, List.set_cons_succ])
  refine wpAnyH_take (i := 14) (oi := { dst := some 65, op := Op.move (Operand.tmp 64), type := 4, pos := "law.go:19", after := #[{ on := 13, ground := Ground.data }, { on := 7, ground := Ground.chain }], guard := none }) (v := .bool true) rfl (by kernel_rfl) (by kernel_rfl) (by kernel_rfl) (fun _ _ _ h => h) (Or.inl ⟨by rfl, ?hy15⟩) hA ?rs15
  case hy15 =>
    intro w8 hSw
    obtain ⟨sD, -⟩ := id hSw
    go_simp
  (try simp only [Act.put, List.setIfInBounds_toArray, List.set_cons_zero, List.set_cons_succ])
  refine wpAnyH_take (i := 15) (oi := { dst := some 66, op := Op.move (Operand.tmp 10), type := 27, pos := "law.go:19", after := #[{ on := 14, ground := Ground.guard }], guard := some (14, true) }) (v := .int .i64 5) rfl (by kernel_rfl) (by kernel_rfl) (by kernel_rfl) (fun _ _ _ h => h) (Or.inl ⟨by rfl, ?hy16⟩) hA ?rs16
  case hy16 =>
    intro w8 hSw
    obtain ⟨sD, -⟩ := id hSw
    go_simp
  (try simp only [Act.put, List.setIfInBounds_toArray, List.set_cons_zero, List.set_cons_succ])
  refine wpAnyH_take (i := 16) (oi := { dst := some 67, op := Op.binOp BinOp.eql 27 (Operand.tmp 66) (Operand.const (Value.int IntKind.i64 5)) 27, type := 4, pos := "law.go:19", after := #[{ on := 15, ground := Ground.data }, { on := 14, ground := Ground.guard }], guard := some (14, true) }) (v := .bool true) rfl (by kernel_rfl) (by kernel_rfl) (by kernel_rfl) (fun _ _ _ h => h) (Or.inl ⟨by rfl, ?hy17⟩) hA ?rs17
  case hy17 =>
    intro w8 hSw
    obtain ⟨sD, -⟩ := id hSw
    go_simp
  (try simp only [Act.put, List.setIfInBounds_toArray, List.set_cons_zero, List.set_cons_succ])
  refine wpAnyH_take (i := 17) (oi := { dst := some 68, op := Op.pick (Operand.tmp 65) (Operand.tmp 67) (Operand.const (Value.bool false)), type := 4, pos := "law.go:19", after := #[{ on := 14, ground := Ground.data }, { on := 16, ground := Ground.data }], guard := none }) (v := .bool true) rfl (by kernel_rfl) (by kernel_rfl) (by kernel_rfl) (fun _ _ _ h => h) (Or.inl ⟨by rfl, ?hy18⟩) hA ?rs18
  case hy18 =>
    intro w8 hSw
    obtain ⟨sD, -⟩ := id hSw
    go_simp
  (try simp only [Act.put, List.setIfInBounds_toArray, List.set_cons_zero, List.set_cons_succ])
  refine wpAnyH_take (i := 18) (oi := { dst := some 69, op := Op.move (Operand.tmp 68), type := 4, pos := "law.go:19", after := #[{ on := 17, ground := Ground.data }, { on := 14, ground := Ground.chain }], guard := none }) (v := .bool true) rfl (by kernel_rfl) (by kernel_rfl) (by kernel_rfl) (fun _ _ _ h => h) (Or.inl ⟨by rfl, ?hy19⟩) hA ?rs19
  case hy19 =>
    intro w8 hSw
    obtain ⟨sD, -⟩ := id hSw
    go_simp
  (try simp only [Act.put, List.setIfInBounds_toArray, List.set_cons_zero, List.set_cons_succ])
  refine wpAnyH_take (i := 19) (oi := { dst := some 70, op := Op.move (Operand.tmp 9), type := 3, pos := "law.go:19", after := #[{ on := 18, ground := Ground.guard }], guard := some (18, true) }) (v := .int .i64 2) rfl (by kernel_rfl) (by kernel_rfl) (by kernel_rfl) (fun _ _ _ h => h) (Or.inl ⟨by rfl, ?hy20⟩) hA ?rs20
  case hy20 =>
    intro w8 hSw
    obtain ⟨sD, -⟩ := id hSw
    go_simp
  (try simp only [Act.put, List.setIfInBounds_toArray, List.set_cons_zero, List.set_cons_succ])
  refine wpAnyH_take (i := 20) (oi := { dst := some 71, op := Op.binOp BinOp.eql 3 (Operand.tmp 70) (Operand.const (Value.int IntKind.i64 2)) 3, type := 4, pos := "law.go:19", after := #[{ on := 19, ground := Ground.data }, { on := 18, ground := Ground.guard }], guard := some (18, true) }) (v := .bool true) rfl (by kernel_rfl) (by kernel_rfl) (by kernel_rfl) (fun _ _ _ h => h) (Or.inl ⟨by rfl, ?hy21⟩) hA ?rs21
  case hy21 =>
    intro w8 hSw
    obtain ⟨sD, -⟩ := id hSw
    go_simp
  (try simp only [Act.put, List.setIfInBounds_toArray, List.set_cons_zero, List.set_cons_succ])
  refine wpAnyH_take (i := 21) (oi := { dst := some 72, op := Op.pick (Operand.tmp 69) (Operand.tmp 71) (Operand.const (Value.bool false)), type := 4, pos := "law.go:19", after := #[{ on := 18, ground := Ground.data }, { on := 20, ground := Ground.data }], guard := none }) (v := .bool true) rfl (by kernel_rfl) (by kernel_rfl) (by kernel_rfl) (fun _ _ _ h => h) (Or.inl ⟨by rfl, ?hy22⟩) hA ?rs22
  case hy22 =>
    intro w8 hSw
    obtain ⟨sD, -⟩ := id hSw
    go_simp
  (try simp only [Act.put, List.setIfInBounds_toArray, List.set_cons_zero, List.set_cons_succ])
  refine wpAnyH_take (i := 22) (oi := { dst := some 73, op := Op.move (Operand.tmp 72), type := 4, pos := "law.go:19", after := #[{ on := 21, ground := Ground.data }, { on := 18, ground := Ground.chain }], guard := none }) (v := .bool true) rfl (by kernel_rfl) (by kernel_rfl) (by kernel_rfl) (fun _ _ _ h => h) (Or.inl ⟨by rfl, ?hy23⟩) hA ?rs23
  case hy23 =>
    intro w8 hSw
    obtain ⟨sD, -⟩ := id hSw
    go_simp
  (try simp only [Act.put, List.setIfInBounds_toArray, List.set_cons_zero, List.set_cons_succ])
  refine wpAnyH_take (i := 23) (oi := { dst := some 74, op := Op.move (Operand.tmp 1), type := 22, pos := "law.go:19", after := #[{ on := 22, ground := Ground.guard }], guard := some (22, true) }) (v := .slice a1 3 n1) rfl (by kernel_rfl) (by kernel_rfl) (by kernel_rfl) (fun _ _ _ h => h) (Or.inl ⟨by rfl, ?hy24⟩) hA ?rs24
  case hy24 =>
    intro w8 hSw
    obtain ⟨sD, -⟩ := id hSw
    go_simp
  (try simp only [Act.put, List.setIfInBounds_toArray, List.set_cons_zero, List.set_cons_succ])
  refine wpAnyH_ready (rs := [24]) (by kernel_rfl) (by simp) ?_
  refine AllReadyH.cons (o := { dst := some 75, op := Op.call { callee := Callee.value (Operand.func 9), args := #[Operand.tmp 74], argTypes := #[22] }, type := 9, pos := "law.go:19", after := #[{ on := 23, ground := Ground.data }, { on := 22, ground := Ground.chain }, { on := 22, ground := Ground.guard }], guard := some (22, true) }) rfl (fun K hK => ?_) AllReadyH.nil
  go_simp
  go_fit (joinA_e a1 n1 _ RD.out)
  rintro e w6 ⟨rfl, hb6⟩
  have hB := hA.below hb6
  clear hb6
  go_wp2_with fail
  refine hK.out _ _ hB (fun _ => ?_)
  clear hK K
  (try simp only [Act.put, List.setIfInBounds_toArray, List.set_cons_zero, List.set_cons_succ])
  refine wpAnyH_take (i := 25) (oi := { dst := some 76, op := Op.binOp BinOp.eql 9 (Operand.tmp 75) (Operand.const (Value.string { data := #[97, 32, 60, 61, 32, 49, 48] })) 9, type := 4, pos := "law.go:19", after := #[{ on := 24, ground := Ground.data }, { on := 22, ground := Ground.guard }], guard := some (22, true) }) (v := .bool true) rfl (by kernel_rfl) (by kernel_rfl) (by kernel_rfl) (fun _ _ _ h => h) (Or.inl ⟨by rfl, ?hy25⟩) hB ?rs25
  case hy25 =>
    intro w8 hSw
    obtain ⟨sD, -⟩ := id hSw
    go_simp
  (try simp only [Act.put, List.setIfInBounds_toArray, List.set_cons_zero, List.set_cons_succ])
  refine wpAnyH_take (i := 26) (oi := { dst := some 77, op := Op.pick (Operand.tmp 73) (Operand.tmp 76) (Operand.const (Value.bool false)), type := 4, pos := "law.go:19", after := #[{ on := 22, ground := Ground.data }, { on := 25, ground := Ground.data }], guard := none }) (v := .bool true) rfl (by kernel_rfl) (by kernel_rfl) (by kernel_rfl) (fun _ _ _ h => h) (Or.inl ⟨by rfl, ?hy26⟩) hB ?rs26
  case hy26 =>
    intro w8 hSw
    obtain ⟨sD, -⟩ := id hSw
    go_simp
  (try simp only [Act.put, List.setIfInBounds_toArray, List.set_cons_zero, List.set_cons_succ])
  refine wpAnyH_take (i := 27) (oi := { dst := some 78, op := Op.move (Operand.tmp 77), type := 4, pos := "law.go:19", after := #[{ on := 26, ground := Ground.data }, { on := 24, ground := Ground.chain }], guard := none }) (v := .bool true) rfl (by kernel_rfl) (by kernel_rfl) (by kernel_rfl) (fun _ _ _ h => h) (Or.inl ⟨by rfl, ?hy27⟩) hB ?rs27
  case hy27 =>
    intro w8 hSw
    obtain ⟨sD, -⟩ := id hSw
    go_simp
  (try simp only [Act.put, List.setIfInBounds_toArray, List.set_cons_zero, List.set_cons_succ])
  refine wpAnyH_take (i := 28) (oi := { dst := some 79, op := Op.move (Operand.tmp 4), type := 9, pos := "law.go:19", after := #[{ on := 27, ground := Ground.guard }], guard := some (27, true) }) (v := .string ⟨#[10]⟩) rfl (by kernel_rfl) (by kernel_rfl) (by kernel_rfl) (fun _ _ _ h => h) (Or.inl ⟨by rfl, ?hy28⟩) hB ?rs28
  case hy28 =>
    intro w8 hSw
    obtain ⟨sD, -⟩ := id hSw
    go_simp
  (try simp only [Act.put, List.setIfInBounds_toArray, List.set_cons_zero, List.set_cons_succ])
  refine wpAnyH_ready (rs := [29, 30]) (by kernel_rfl) (by simp) ?_
  refine AllReadyH.cons (o := { dst := some 80, op := Op.call { callee := Callee.value (Operand.func 11), args := #[Operand.tmp 79], argTypes := #[9] }, type := 9, pos := "law.go:19", after := #[{ on := 28, ground := Ground.data }, { on := 27, ground := Ground.chain }, { on := 27, ground := Ground.guard }], guard := some (27, true) }) rfl (fun K hK => ?_) (AllReadyH.cons (o := { dst := some 81, op := Op.buildSlice 35 4 #[(0, Operand.const (Value.int IntKind.u8 34)), (1, Operand.const (Value.int IntKind.u8 92)), (2, Operand.const (Value.int IntKind.u8 110)), (3, Operand.const (Value.int IntKind.u8 34))], type := 35, pos := "law.go:19", after := #[{ on := 27, ground := Ground.guard }], guard := some (27, true) }) rfl (fun K hK => ?_) AllReadyH.nil)
  · as_aux_lemma =>
      go_simp
      go_fit (quo_e w6)
      rintro e w7 ⟨rfl, hb7⟩
      have hC := hB.below hb7
      clear hb7
      go_wp2_with fail
      refine hK.out _ _ hC (fun _ => ?_)
      clear hK K
      (try simp only [Act.put, List.setIfInBounds_toArray, List.set_cons_zero, List.set_cons_succ])
      have hD := hC.alloc (Obj.cells #[.int .u8 34, .int .u8 92, .int .u8 110, .int .u8 34] 5)
      refine wpAnyH_ready (rs := [30]) (by kernel_rfl) (by simp) ?_
      refine AllReadyH.cons (o := { dst := some 81, op := Op.buildSlice 35 4 #[(0, Operand.const (Value.int IntKind.u8 34)), (1, Operand.const (Value.int IntKind.u8 92)), (2, Operand.const (Value.int IntKind.u8 110)), (3, Operand.const (Value.int IntKind.u8 34))], type := 35, pos := "law.go:19", after := #[{ on := 27, ground := Ground.guard }], guard := some (27, true) }) rfl (fun K hK => ?_) AllReadyH.nil
      go_simp
      refine hK.out _ _ hD (fun _ => ?_)
      clear hK K
      (try simp only [Act.put, List.setIfInBounds_toArray, List.set_cons_zero, List.set_cons_succ])
      refine wpAnyH_ready (rs := [31]) (by kernel_rfl) (by simp) ?_
      refine AllReadyH.cons (o := { dst := some 82, op := Op.convert 35 9 (Operand.tmp 81), type := 9, pos := "law.go:19", after := #[{ on := 30, ground := Ground.data }, { on := 27, ground := Ground.guard }], guard := some (27, true) }) rfl (fun K hK => ?_) AllReadyH.nil
      go_simp
      refine hK.out _ _ hD (fun _ => ?_)
      clear hK K
      (try simp only [Act.put, List.setIfInBounds_toArray, List.set_cons_zero, List.set_cons_succ])
      refine wpAnyH_take (i := 32) (oi := { dst := some 83, op := Op.binOp BinOp.eql 9 (Operand.tmp 80) (Operand.tmp 82) 9, type := 4, pos := "law.go:19", after := #[{ on := 29, ground := Ground.data }, { on := 31, ground := Ground.data }, { on := 27, ground := Ground.guard }], guard := some (27, true) }) (v := .bool true) rfl (by kernel_rfl) (by kernel_rfl) (by kernel_rfl) (fun _ _ _ h => h) (Or.inl ⟨by rfl, ?hy29⟩) hD ?rs29
      case hy29 =>
        intro w8 hSw
        obtain ⟨sD, -⟩ := id hSw
        go_simp
      (try simp only [Act.put, List.setIfInBounds_toArray, List.set_cons_zero, List.set_cons_succ])
      refine wpAnyH_take (i := 33) (oi := { dst := some 84, op := Op.pick (Operand.tmp 78) (Operand.tmp 83) (Operand.const (Value.bool false)), type := 4, pos := "law.go:19", after := #[{ on := 27, ground := Ground.data }, { on := 32, ground := Ground.data }], guard := none }) (v := .bool true) rfl (by kernel_rfl) (by kernel_rfl) (by kernel_rfl) (fun _ _ _ h => h) (Or.inl ⟨by rfl, ?hy30⟩) hD ?rs30
      case hy30 =>
        intro w8 hSw
        obtain ⟨sD, -⟩ := id hSw
        go_simp
      (try simp only [Act.put, List.setIfInBounds_toArray, List.set_cons_zero, List.set_cons_succ])
      refine wpAnyH_take (i := 34) (oi := { dst := some 0, op := Op.assign (Operand.tmp 84), type := 4, pos := "law.go:19", after := #[{ on := 33, ground := Ground.data }, { on := 29, ground := Ground.chain }, { on := 0, ground := Ground.phase }, { on := 1, ground := Ground.phase }, { on := 2, ground := Ground.phase }, { on := 3, ground := Ground.phase }, { on := 4, ground := Ground.phase }, { on := 5, ground := Ground.phase }, { on := 6, ground := Ground.phase }, { on := 7, ground := Ground.phase }, { on := 8, ground := Ground.phase }, { on := 9, ground := Ground.phase }, { on := 10, ground := Ground.phase }, { on := 11, ground := Ground.phase }, { on := 12, ground := Ground.phase }, { on := 13, ground := Ground.phase }, { on := 14, ground := Ground.phase }, { on := 15, ground := Ground.phase }, { on := 16, ground := Ground.phase }, { on := 17, ground := Ground.phase }, { on := 18, ground := Ground.phase }, { on := 19, ground := Ground.phase }, { on := 20, ground := Ground.phase }, { on := 21, ground := Ground.phase }, { on := 22, ground := Ground.phase }, { on := 23, ground := Ground.phase }, { on := 24, ground := Ground.phase }, { on := 25, ground := Ground.phase }, { on := 26, ground := Ground.phase }, { on := 27, ground := Ground.phase }, { on := 28, ground := Ground.phase }, { on := 29, ground := Ground.phase }, { on := 30, ground := Ground.phase }, { on := 31, ground := Ground.phase }, { on := 32, ground := Ground.phase }, { on := 33, ground := Ground.phase }], guard := none }) (v := .bool true) rfl (by kernel_rfl) (by kernel_rfl) (by kernel_rfl) (fun _ _ _ h => h) (Or.inl ⟨by rfl, ?hy31⟩) hD ?rs31
      case hy31 =>
        intro w8 hSw
        obtain ⟨sD, -⟩ := id hSw
        go_simp
      (try simp only [Act.put, List.setIfInBounds_toArray, List.set_cons_zero, List.set_cons_succ])
      refine wpAnyH_done (by kernel_rfl) ?_ _
      go_wp2_with fail
      go_ret
      exact ⟨rfl, hD.base⟩
  · as_aux_lemma =>
      have hD := hB.alloc (Obj.cells #[.int .u8 34, .int .u8 92, .int .u8 110, .int .u8 34] 5)
      go_simp
      refine hK.out _ _ hD (fun _ => ?_)
      clear hK K
      (try simp only [Act.put, List.setIfInBounds_toArray, List.set_cons_zero, List.set_cons_succ])
      refine wpAnyH_ready (rs := [29, 31]) (by kernel_rfl) (by simp) ?_
      refine AllReadyH.cons (o := { dst := some 80, op := Op.call { callee := Callee.value (Operand.func 11), args := #[Operand.tmp 79], argTypes := #[9] }, type := 9, pos := "law.go:19", after := #[{ on := 28, ground := Ground.data }, { on := 27, ground := Ground.chain }, { on := 27, ground := Ground.guard }], guard := some (27, true) }) rfl (fun K hK => ?_) (AllReadyH.cons (o := { dst := some 82, op := Op.convert 35 9 (Operand.tmp 81), type := 9, pos := "law.go:19", after := #[{ on := 30, ground := Ground.data }, { on := 27, ground := Ground.guard }], guard := some (27, true) }) rfl (fun K hK => ?_) AllReadyH.nil)
      · as_aux_lemma =>
          go_simp
          go_fit (quo_e4 w6)
          rintro e w7 ⟨rfl, hb7, f0, f1, f2, f3⟩
          have hE := hD.below hb7
          clear hb7
          go_wp2_with fail
          refine hK.out _ _ hE (fun _ => ?_)
          clear hK K
          (try simp only [Act.put, List.setIfInBounds_toArray, List.set_cons_zero, List.set_cons_succ])
          refine wpAnyH_ready (rs := [31]) (by kernel_rfl) (by simp) ?_
          refine AllReadyH.cons (o := { dst := some 82, op := Op.convert 35 9 (Operand.tmp 81), type := 9, pos := "law.go:19", after := #[{ on := 30, ground := Ground.data }, { on := 27, ground := Ground.guard }], guard := some (27, true) }) rfl (fun K hK => ?_) AllReadyH.nil
          go_simp
          refine hK.out _ _ hE (fun _ => ?_)
          clear hK K
          (try simp only [Act.put, List.setIfInBounds_toArray, List.set_cons_zero, List.set_cons_succ])
          refine wpAnyH_take (i := 32) (oi := { dst := some 83, op := Op.binOp BinOp.eql 9 (Operand.tmp 80) (Operand.tmp 82) 9, type := 4, pos := "law.go:19", after := #[{ on := 29, ground := Ground.data }, { on := 31, ground := Ground.data }, { on := 27, ground := Ground.guard }], guard := some (27, true) }) (v := .bool true) rfl (by kernel_rfl) (by kernel_rfl) (by kernel_rfl) (fun _ _ _ h => h) (Or.inl ⟨by rfl, ?hy32⟩) hE ?rs32
          case hy32 =>
            intro w8 hSw
            obtain ⟨sD, -⟩ := id hSw
            go_simp
          (try simp only [Act.put, List.setIfInBounds_toArray, List.set_cons_zero, List.set_cons_succ])
          refine wpAnyH_take (i := 33) (oi := { dst := some 84, op := Op.pick (Operand.tmp 78) (Operand.tmp 83) (Operand.const (Value.bool false)), type := 4, pos := "law.go:19", after := #[{ on := 27, ground := Ground.data }, { on := 32, ground := Ground.data }], guard := none }) (v := .bool true) rfl (by kernel_rfl) (by kernel_rfl) (by kernel_rfl) (fun _ _ _ h => h) (Or.inl ⟨by rfl, ?hy33⟩) hE ?rs33
          case hy33 =>
            intro w8 hSw
            obtain ⟨sD, -⟩ := id hSw
            go_simp
          (try simp only [Act.put, List.setIfInBounds_toArray, List.set_cons_zero, List.set_cons_succ])
          refine wpAnyH_take (i := 34) (oi := { dst := some 0, op := Op.assign (Operand.tmp 84), type := 4, pos := "law.go:19", after := #[{ on := 33, ground := Ground.data }, { on := 29, ground := Ground.chain }, { on := 0, ground := Ground.phase }, { on := 1, ground := Ground.phase }, { on := 2, ground := Ground.phase }, { on := 3, ground := Ground.phase }, { on := 4, ground := Ground.phase }, { on := 5, ground := Ground.phase }, { on := 6, ground := Ground.phase }, { on := 7, ground := Ground.phase }, { on := 8, ground := Ground.phase }, { on := 9, ground := Ground.phase }, { on := 10, ground := Ground.phase }, { on := 11, ground := Ground.phase }, { on := 12, ground := Ground.phase }, { on := 13, ground := Ground.phase }, { on := 14, ground := Ground.phase }, { on := 15, ground := Ground.phase }, { on := 16, ground := Ground.phase }, { on := 17, ground := Ground.phase }, { on := 18, ground := Ground.phase }, { on := 19, ground := Ground.phase }, { on := 20, ground := Ground.phase }, { on := 21, ground := Ground.phase }, { on := 22, ground := Ground.phase }, { on := 23, ground := Ground.phase }, { on := 24, ground := Ground.phase }, { on := 25, ground := Ground.phase }, { on := 26, ground := Ground.phase }, { on := 27, ground := Ground.phase }, { on := 28, ground := Ground.phase }, { on := 29, ground := Ground.phase }, { on := 30, ground := Ground.phase }, { on := 31, ground := Ground.phase }, { on := 32, ground := Ground.phase }, { on := 33, ground := Ground.phase }], guard := none }) (v := .bool true) rfl (by kernel_rfl) (by kernel_rfl) (by kernel_rfl) (fun _ _ _ h => h) (Or.inl ⟨by rfl, ?hy34⟩) hE ?rs34
          case hy34 =>
            intro w8 hSw
            obtain ⟨sD, -⟩ := id hSw
            go_simp
          (try simp only [Act.put, List.setIfInBounds_toArray, List.set_cons_zero, List.set_cons_succ])
          refine wpAnyH_done (by kernel_rfl) ?_ _
          go_wp2_with fail
          go_ret
          exact ⟨rfl, hE.base⟩
      · as_aux_lemma =>
          go_simp
          refine hK.out _ _ hD (fun _ => ?_)
          clear hK K
          (try simp only [Act.put, List.setIfInBounds_toArray, List.set_cons_zero, List.set_cons_succ])
          refine wpAnyH_ready (rs := [29]) (by kernel_rfl) (by simp) ?_
          refine AllReadyH.cons (o := { dst := some 80, op := Op.call { callee := Callee.value (Operand.func 11), args := #[Operand.tmp 79], argTypes := #[9] }, type := 9, pos := "law.go:19", after := #[{ on := 28, ground := Ground.data }, { on := 27, ground := Ground.chain }, { on := 27, ground := Ground.guard }], guard := some (27, true) }) rfl (fun K hK => ?_) AllReadyH.nil
          go_simp
          go_fit (quo_e4 w6)
          rintro e w7 ⟨rfl, hb7, f0, f1, f2, f3⟩
          have hE := hD.below hb7
          clear hb7
          go_wp2_with fail
          refine hK.out _ _ hE (fun _ => ?_)
          clear hK K
          (try simp only [Act.put, List.setIfInBounds_toArray, List.set_cons_zero, List.set_cons_succ])
          refine wpAnyH_take (i := 32) (oi := { dst := some 83, op := Op.binOp BinOp.eql 9 (Operand.tmp 80) (Operand.tmp 82) 9, type := 4, pos := "law.go:19", after := #[{ on := 29, ground := Ground.data }, { on := 31, ground := Ground.data }, { on := 27, ground := Ground.guard }], guard := some (27, true) }) (v := .bool true) rfl (by kernel_rfl) (by kernel_rfl) (by kernel_rfl) (fun _ _ _ h => h) (Or.inl ⟨by rfl, ?hy35⟩) hE ?rs35
          case hy35 =>
            intro w8 hSw
            obtain ⟨sD, -⟩ := id hSw
            go_simp
          (try simp only [Act.put, List.setIfInBounds_toArray, List.set_cons_zero, List.set_cons_succ])
          refine wpAnyH_take (i := 33) (oi := { dst := some 84, op := Op.pick (Operand.tmp 78) (Operand.tmp 83) (Operand.const (Value.bool false)), type := 4, pos := "law.go:19", after := #[{ on := 27, ground := Ground.data }, { on := 32, ground := Ground.data }], guard := none }) (v := .bool true) rfl (by kernel_rfl) (by kernel_rfl) (by kernel_rfl) (fun _ _ _ h => h) (Or.inl ⟨by rfl, ?hy36⟩) hE ?rs36
          case hy36 =>
            intro w8 hSw
            obtain ⟨sD, -⟩ := id hSw
            go_simp
          (try simp only [Act.put, List.setIfInBounds_toArray, List.set_cons_zero, List.set_cons_succ])
          refine wpAnyH_take (i := 34) (oi := { dst := some 0, op := Op.assign (Operand.tmp 84), type := 4, pos := "law.go:19", after := #[{ on := 33, ground := Ground.data }, { on := 29, ground := Ground.chain }, { on := 0, ground := Ground.phase }, { on := 1, ground := Ground.phase }, { on := 2, ground := Ground.phase }, { on := 3, ground := Ground.phase }, { on := 4, ground := Ground.phase }, { on := 5, ground := Ground.phase }, { on := 6, ground := Ground.phase }, { on := 7, ground := Ground.phase }, { on := 8, ground := Ground.phase }, { on := 9, ground := Ground.phase }, { on := 10, ground := Ground.phase }, { on := 11, ground := Ground.phase }, { on := 12, ground := Ground.phase }, { on := 13, ground := Ground.phase }, { on := 14, ground := Ground.phase }, { on := 15, ground := Ground.phase }, { on := 16, ground := Ground.phase }, { on := 17, ground := Ground.phase }, { on := 18, ground := Ground.phase }, { on := 19, ground := Ground.phase }, { on := 20, ground := Ground.phase }, { on := 21, ground := Ground.phase }, { on := 22, ground := Ground.phase }, { on := 23, ground := Ground.phase }, { on := 24, ground := Ground.phase }, { on := 25, ground := Ground.phase }, { on := 26, ground := Ground.phase }, { on := 27, ground := Ground.phase }, { on := 28, ground := Ground.phase }, { on := 29, ground := Ground.phase }, { on := 30, ground := Ground.phase }, { on := 31, ground := Ground.phase }, { on := 32, ground := Ground.phase }, { on := 33, ground := Ground.phase }], guard := none }) (v := .bool true) rfl (by kernel_rfl) (by kernel_rfl) (by kernel_rfl) (fun _ _ _ h => h) (Or.inl ⟨by rfl, ?hy37⟩) hE ?rs37
          case hy37 =>
            intro w8 hSw
            obtain ⟨sD, -⟩ := id hSw
            go_simp
          (try simp only [Act.put, List.setIfInBounds_toArray, List.set_cons_zero, List.set_cons_succ])
          refine wpAnyH_done (by kernel_rfl) ?_ _
          go_wp2_with fail
          go_ret
          exact ⟨rfl, hE.base⟩
end Go.Proofs.YtoliiiijbdoliaaDoor
