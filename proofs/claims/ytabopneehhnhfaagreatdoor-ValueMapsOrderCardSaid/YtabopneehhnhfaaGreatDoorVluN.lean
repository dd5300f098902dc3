/- The program's Map where there are no entries, and at any entries (value). -/
import Derived.Test.YtabopneehhnhfaaGreatDoorVluMf
import Derived.Shelf.SlSortCmp.NoneTotal
namespace Go.Proofs.YtabopneehhnhfaaGreatDoor
open Go.RowKit Go.Lib

theorem cloneR_nil (c : Nat) (w : World) (v : Option Addr) :
    Calls Tryz.prog 44 #[.slice v 0 c] w fun e w' => ∃ a c', e = .returned (.slice a 0 c') ∧ Below w.heap.size w w' := by
  cases v with
  | some p =>
    refine (cloneR_own 0 p [] c (by simp) w (fun j hj => by simp at hj)).mono ?_
    rintro e w' ⟨v', rfl, hown, hb⟩
    rcases hown.2 with ⟨rfl, h0⟩ | ⟨g, cap, cur, rfl, _⟩
    · exact ⟨none, 0, rfl, hb⟩
    · exact ⟨some ⟨g, 0, none⟩, cap, rfl, hb⟩
  | none =>
    have q23 : ∀ (w : World) (a : Option Addr) (n c n' c' : Nat), (binOp .eql 35 (.slice a n c) (.slice none n' c')).run Tryz.prog w = .ok (.bool a.isNone) w := fun w a n c n' c' => Lib.run_eql_slice_nil w _ _ a n c n' c' Tryz.underlying35
    go_enter Tryz.func44, Tryz.ntmps44
    go_wp2_with fail
    go_ret
    exact ⟨none, 0, rfl, Below.refl _ _⟩
theorem sortVars_nil (a : Option Addr) (c : Nat) (w : World) :
    Calls Tryz.prog 45 #[.slice a 0 c, .func (.func 46) #[] #[]] w fun e w' => e = .returned (.tuple #[]) ∧ w' = w :=
  AnyF.slices_SortFunc_none Tryz.sortVar a c _ w
set_option maxRecDepth 100000 in
set_option maxHeartbeats 4000000 in
theorem map_nil (m : Nat) (v : Option Addr) (c : Nat) (w : World) :
    Calls Tryz.prog 21 #[.slice v 0 c] w fun e w' => ∃ R, e = .returned (.tuple #[R, .int .i64 0]) ∧ Stb w.heap.size w' (fun w2 => IsV (m + 1) w2 R (mapV [])) ∧ Below w.heap.size w w' := by
  have M := Lib.hid (fun w' => by have h := validVars_any m v [] c w' (fun j hj => by simp at hj) (by simp); rwa [show errVs [] = 0 from rfl] at h)
  have CL := Lib.hid (fun w' => cloneR_nil c w' v)
  have ST := Lib.hid (fun a c w' => sortVars_nil a c w')
  have B0 := Lib.hid ((Below.refl w.heap.size w).alloc (Nat.le_refl _) (.cells #[.int .i64 0, .bool false, .int .i64 0, .string ⟨#[]⟩, .slice none 0 0, .slice none 0 0] 25))
  have Z0 := CellsAt.new w 25 #[.int .i64 0, .bool false, .int .i64 0, .string ⟨#[]⟩, .slice none 0 0, .slice none 0 0]
  go_enter Tryz.func21, Tryz.ntmps21
  go_wp2_with fail
  go_fit (M.out _)
  rintro e w1 ⟨rfl, hb1⟩
  have B1 := Lib.hid (B0.out.trans (hb1.mono B0.out.size))
  have Z1 := Lib.hid (Z0.below hb1)
  clear hb1 Z0 B0
  go_wp2_with fail
  go_fit (CL.out _)
  rintro e w2 ⟨a2, c2, rfl, hb2⟩
  have B2 := Lib.hid (B1.out.trans (hb2.mono B1.out.size))
  have Z2 := Lib.hid (Z1.out.below hb2)
  clear hb2 Z1 B1
  go_wp2_with fail
  go_fit (ST.out _ _ _)
  rintro e w3 ⟨rfl, rfl⟩
  go_wp2_with fail
  have C0 := Lib.hid (CellsAt.new w3 25 #[.int .i64 5, .bool false, .int .i64 0, .string ⟨#[]⟩, .slice none 0 0, .slice none 0 0])
  have N0 := Lib.hid ((Below.refl w3.heap.size w3).alloc (Nat.le_refl _) (.cells #[.int .i64 5, .bool false, .int .i64 0, .string ⟨#[]⟩, .slice none 0 0, .slice none 0 0] 25))
  go_loopw [22] (fun s22 wr => s22 = .int .i64 0 ∧ Hid (CellsAt wr w3.heap.size 25 #[.int .i64 5, .bool false, .int .i64 0, .string ⟨#[]⟩, .slice none 0 0, .slice none 0 0]) ∧ Hid (Below w3.heap.size w3 wr)) (fun _ _ => 0)
  case atStart => exact ⟨rfl, C0, N0⟩
  case round =>
    obtain ⟨rfl, C, HB⟩ := hrel
    have ZR := Z2.out.below HB.out
    have c0 : wr.cell? ⟨w3.heap.size, 0, none⟩ = some (.int .i64 5) := C.out.cell rfl
    have c1 : wr.cell? ⟨w3.heap.size, 1, none⟩ = some (.bool false) := C.out.cell rfl
    have c2 : wr.cell? ⟨w3.heap.size, 2, none⟩ = some (.int .i64 0) := C.out.cell rfl
    have c3 : wr.cell? ⟨w3.heap.size, 3, none⟩ = some (.string ⟨#[]⟩) := C.out.cell rfl
    have c4 : wr.cell? ⟨w3.heap.size, 4, none⟩ = some (.slice none 0 0) := C.out.cell rfl
    have c5 : wr.cell? ⟨w3.heap.size, 5, none⟩ = some (.slice none 0 0) := C.out.cell rfl
    have z0 : wr.cell? ⟨w.heap.size, 0, none⟩ = some (.int .i64 0) := ZR.cell rfl
    have z1 : wr.cell? ⟨w.heap.size, 1, none⟩ = some (.bool false) := ZR.cell rfl
    have z2 : wr.cell? ⟨w.heap.size, 2, none⟩ = some (.int .i64 0) := ZR.cell rfl
    have z3 : wr.cell? ⟨w.heap.size, 3, none⟩ = some (.string ⟨#[]⟩) := ZR.cell rfl
    have z4 : wr.cell? ⟨w.heap.size, 4, none⟩ = some (.slice none 0 0) := ZR.cell rfl
    have z5 : wr.cell? ⟨w.heap.size, 5, none⟩ = some (.slice none 0 0) := ZR.cell rfl
    have zf := ZR.frozen
    go_wp2_with fail
    obtain ⟨W9, hW9⟩ : ∃ W9, W9 = (((((wr.setCell ⟨w.heap.size, 0, none⟩ (.int .i64 5)).setCell ⟨w.heap.size, 1, none⟩ (.bool false)).setCell ⟨w.heap.size, 2, none⟩ (.int .i64 0)).setCell ⟨w.heap.size, 3, none⟩ (.string ⟨#[]⟩)).setCell ⟨w.heap.size, 4, none⟩ (.slice none 0 0)).setCell ⟨w.heap.size, 5, none⟩ (.slice none 0 0) := ⟨_, rfl⟩
    rw [← hW9]
    obtain ⟨⟨cs', G4, h1, h2⟩, h3, h4, h5⟩ := six_set ZR 0 _ _ _ _ _ _ W9 hW9
    obtain ⟨q0, q1, q2, q3, q4, q5⟩ := h1 (by decide)
    have u0 : W9.cell? ⟨w.heap.size, 0, none⟩ = _ := G4.cell q0
    have u1 : W9.cell? ⟨w.heap.size, 1, none⟩ = _ := G4.cell q1
    have u2 : W9.cell? ⟨w.heap.size, 2, none⟩ = _ := G4.cell q2
    have u3 : W9.cell? ⟨w.heap.size, 3, none⟩ = _ := G4.cell q3
    have u4 : W9.cell? ⟨w.heap.size, 4, none⟩ = _ := G4.cell q4
    have u5 : W9.cell? ⟨w.heap.size, 5, none⟩ = _ := G4.cell q5
    have hB := h5 w.heap.size w (Nat.le_refl _) (B2.out.trans (HB.out.mono B2.out.size))
    refine bodyPost_ret (v := .tuple #[.agg #[.int .i64 5, .bool false, .int .i64 0, .string ⟨#[]⟩, .slice none 0 0, .slice none 0 0], .int .i64 0]) (by simp [results, Tryz.f21, go_sem, u0, u1, u2, u3, u4, u5]) rfl ⟨_, rfl, ?_, hB⟩
    intro w9 hf
    exact ⟨5, false, 0, ⟨#[]⟩, [], [], none, 0, none, 0, rfl, rfl, by decide, by decide, by decide, by decide, by decide, by decide, by decide, by decide, by decide, by simp, fun _ h => by simp at h, readsV_nil _ _ _⟩
/-- Map at any entries. -/
theorem map_any (m : Nat) (v : Option Addr) (l : List Vr) (c : Nat) (w : World) (hr : ReadsR m w v l) (hlen : l.length ≤ 9223372036854775000) :
    Calls Tryz.prog 21 #[.slice v l.length c] w fun e w' => ∃ R, e = .returned (.tuple #[R, .int .i64 (errVs l : Nat)]) ∧ Stb w.heap.size w' (fun w2 => IsV (m + 1) w2 R (if errVs l = 0 then mapV l else zeroV)) ∧ Below w.heap.size w w' := by
  by_cases h0 : errVs l = 0
  · rw [if_pos h0, h0]
    by_cases hne : l = []
    · subst hne
      exact map_nil m v c w
    · cases v with
      | some p => exact map_some m p l c w hr h0 hne
      | none =>
        cases l with
        | nil => exact absurd rfl hne
        | cons x r => obtain ⟨_, _, _, _, _, _, _, _, _, _, _, _, _, _, e, _⟩ := hr 0 (by simp); cases e
  · rw [if_neg h0]
    exact map_err m v l c w hr hlen h0
end Go.Proofs.YtabopneehhnhfaaGreatDoor
