/- The contract of the condition that each statement of layer 4 asks first: it is met. Wants the contracts of ident.* (IdnP). -/
import Derived.Test.YtoehpoodfbgdiabDoorIdpE
import Derived.Test.YtoehpoodfbgdiabDoorIdpH
import Derived.Test.YtoehpoodfbgdiabDoorIdpJ
import Derived.Lib.SmallJoins
namespace Go.Proofs.YtoehpoodfbgdiabDoor
open Go.RowKit Go.Lib

theorem e_path : pathR [[97], [98, 46, 99]] = ([97, 47, 98, 46, 99], 0) := by decide +kernel
theorem e_parts : partsR [97, 47, 98, 47, 99] = ([[97], [98], [99]], 0) := by decide +kernel
theorem e_parent : parentR [97, 47, 98, 47, 99] = ([97, 47, 98], true) := by decide +kernel
theorem e_name : nameB [98, 117, 105, 108, 100, 45, 50] = true := by decide +kernel
theorem e_within : withinR [97, 47, 98] [97] = true := by decide +kernel
theorem e_cmp : cmpL [116, 101, 115, 116, 46, 50] [116, 101, 115, 116, 46, 49, 48] = -1 := by decide +kernel
theorem e_asc : ascB [[97], [98]] = true := by decide +kernel
theorem e_sort : sortR [[98], [97], [98]] = [[97], [98]] := by decide +kernel

theorem pathE (g : Nat) (w : World) (hg : g < w.heap.size) (h0 : w.cell? ⟨g, 0, none⟩ = some (.string ⟨#[97]⟩)) (h1 : w.cell? ⟨g, 1, none⟩ = some (.string ⟨#[98, 46, 99]⟩)) :
    Calls Tryd.prog 11 #[.slice (some ⟨g, 0, none⟩) 2 2] w fun e w' => e = .returned (.tuple #[.string ⟨#[97, 47, 98, 46, 99]⟩, .int .i64 0]) ∧ Below w.heap.size w w' := by
  have h := idPath_any (some ⟨g, 0, none⟩) 2 [[97], [98, 46, 99]] (by decide) (by decide) (by decide) w (by
    intro k hk
    match k, hk with
    | 0, _ => exact ⟨g, 0, rfl, hg, h0⟩
    | 1, _ => exact ⟨g, 0, rfl, hg, h1⟩)
  rwa [e_path] at h
theorem partsE (w : World) (hT : Tab4 w) : Calls Tryd.prog 16 #[.string ⟨#[97, 47, 98, 47, 99]⟩] w fun e w' => ∃ a c, e = .returned (.tuple #[.slice a 3 c, .int .i64 0]) ∧ Below w.heap.size w w' := by
  have h := idParts_any ⟨#[97, 47, 98, 47, 99]⟩ (by decide) w hT
  rw [show (⟨#[97, 47, 98, 47, 99]⟩ : ByteArray).data.toList = [97, 47, 98, 47, 99] from rfl, e_parts] at h
  exact h.mono fun e w' ⟨a, c, h1, h2, _⟩ => ⟨a, c, h1, h2⟩
theorem parentE (w : World) (hT : Tab4 w) : Calls Tryd.prog 19 #[.string ⟨#[97, 47, 98, 47, 99]⟩] w fun e w' => e = .returned (.tuple #[.string ⟨#[97, 47, 98]⟩, .bool true]) ∧ Below w.heap.size w w' := by
  have h := idParent_any ⟨#[97, 47, 98, 47, 99]⟩ (by decide) w hT
  rwa [show (⟨#[97, 47, 98, 47, 99]⟩ : ByteArray).data.toList = [97, 47, 98, 47, 99] from rfl, e_parent] at h
theorem nameE (w : World) : Calls Tryd.prog 12 #[.string ⟨#[98, 117, 105, 108, 100, 45, 50]⟩] w fun e w' => e = .returned (.bool true) ∧ Below w.heap.size w w' := by
  have h := idName_any ⟨#[98, 117, 105, 108, 100, 45, 50]⟩ (by decide) w
  rwa [show (⟨#[98, 117, 105, 108, 100, 45, 50]⟩ : ByteArray).data.toList = [98, 117, 105, 108, 100, 45, 50] from rfl, e_name] at h
theorem withinE (w : World) (hT : Tab4 w) : Calls Tryd.prog 21 #[.string ⟨#[97, 47, 98]⟩, .string ⟨#[97]⟩] w fun e w' => e = .returned (.bool true) ∧ Below w.heap.size w w' := by
  have h := idWithin_any ⟨#[97, 47, 98]⟩ ⟨#[97]⟩ (by decide) (by decide) w hT
  rwa [show (⟨#[97, 47, 98]⟩ : ByteArray).data.toList = [97, 47, 98] from rfl, show (⟨#[97]⟩ : ByteArray).data.toList = [97] from rfl, e_within] at h
theorem compareE (w : World) : Calls Tryd.prog 23 #[.string ⟨#[116, 101, 115, 116, 46, 50]⟩, .string ⟨#[116, 101, 115, 116, 46, 49, 48]⟩] w fun e w' => e = .returned (.int .i64 (-1)) ∧ Below w.heap.size w w' := by
  have h := idCompare_any ⟨#[116, 101, 115, 116, 46, 50]⟩ ⟨#[116, 101, 115, 116, 46, 49, 48]⟩ (by decide) (by decide) w
  rwa [show (⟨#[116, 101, 115, 116, 46, 50]⟩ : ByteArray).data.toList = [116, 101, 115, 116, 46, 50] from rfl, show (⟨#[116, 101, 115, 116, 46, 49, 48]⟩ : ByteArray).data.toList = [116, 101, 115, 116, 46, 49, 48] from rfl, e_cmp] at h
theorem ascE (g : Nat) (w : World) (hg : g < w.heap.size) (h0 : w.cell? ⟨g, 0, none⟩ = some (.string ⟨#[97]⟩)) (h1 : w.cell? ⟨g, 1, none⟩ = some (.string ⟨#[98]⟩)) :
    Calls Tryd.prog 27 #[.slice (some ⟨g, 0, none⟩) 2 2] w fun e w' => e = .returned (.bool true) ∧ Below w.heap.size w w' := by
  have h := idAscending_any (some ⟨g, 0, none⟩) 2 [[97], [98]] (by decide) (by decide) w (by
    intro k hk
    match k, hk with
    | 0, _ => exact ⟨g, 0, rfl, hg, h0⟩
    | 1, _ => exact ⟨g, 0, rfl, hg, h1⟩)
  rwa [e_asc] at h
theorem sortE (g : Nat) (w : World) (hg : g < w.heap.size) (h0 : w.cell? ⟨g, 0, none⟩ = some (.string ⟨#[98]⟩)) (h1 : w.cell? ⟨g, 1, none⟩ = some (.string ⟨#[97]⟩)) (h2 : w.cell? ⟨g, 2, none⟩ = some (.string ⟨#[98]⟩)) :
    Calls Tryd.prog 25 #[.slice (some ⟨g, 0, none⟩) 3 3] w fun e w' => ∃ a c, e = .returned (.slice a 2 c) ∧ Below w.heap.size w w' := by
  have h := idSorted_any (some ⟨g, 0, none⟩) 3 [[98], [97], [98]] (by decide) (by decide) w (by
    intro k hk
    match k, hk with
    | 0, _ => exact ⟨g, 0, rfl, hg, h0⟩
    | 1, _ => exact ⟨g, 0, rfl, hg, h1⟩
    | 2, _ => exact ⟨g, 0, rfl, hg, h2⟩)
  rw [e_sort] at h
  exact h.mono fun e w' ⟨u, h1, h2, h3⟩ => by
    obtain ⟨a, c, rfl, _⟩ := own_readsS h2 rfl
    exact ⟨a, c, h1, h3⟩

set_option maxHeartbeats 4000000 in
set_option maxRecDepth 100000 in
theorem lives4_any (w : World) (hT : Tab4 w) :
    Calls Tryd.prog 10 #[] w fun e w' => e = .returned (.bool true) ∧ Below w.heap.size w w' := by
  have HT := Lib.hid hT
  clear hT
  go_enter Tryd.func10, Tryd.ntmps10
  go_wp2_with fail
  go_fit (pathE w.heap.size _ (by simp) (by simp [go_sem]) (by simp [go_sem]))
  rintro e w1 ⟨rfl, hb⟩
  have B1 := Lib.hid (((Below.refl w.heap.size w).alloc (Nat.le_refl _) (Obj.cells #[.string ⟨#[97]⟩, .string ⟨#[98, 46, 99]⟩] 9)).trans (hb.mono (by simp)))
  clear hb
  go_wp2_with fail
  go_fit (partsE _ (HT.out.below B1.out))
  rintro e w2 ⟨a2, c2, rfl, hb⟩
  have B2 := Lib.hid (B1.out.trans (hb.mono B1.out.size))
  clear hb
  go_wp2_with fail
  go_fit (parentE _ (HT.out.below B2.out))
  rintro e w3 ⟨rfl, hb⟩
  have B3 := Lib.hid (B2.out.trans (hb.mono B2.out.size))
  clear hb
  go_wp2_with fail
  go_fit (nameE _)
  rintro e w4 ⟨rfl, hb⟩
  have B4 := Lib.hid (B3.out.trans (hb.mono B3.out.size))
  clear hb
  go_wp2_with fail
  go_fit (withinE _ (HT.out.below B4.out))
  rintro e w5 ⟨rfl, hb⟩
  have B5 := Lib.hid (B4.out.trans (hb.mono B4.out.size))
  clear hb
  go_wp2_with fail
  go_fit (compareE _)
  rintro e w6 ⟨rfl, hb⟩
  have B6 := Lib.hid (B5.out.trans (hb.mono B5.out.size))
  clear hb
  have z6 : w.heap.size ≤ w6.heap.size := B6.out.size
  go_wp2_with fail
  go_fit (ascE w6.heap.size _ (by simp) (by simp [go_sem]) (by simp [go_sem]))
  rintro e w7 ⟨rfl, hb⟩
  have B7 := Lib.hid ((B6.out.alloc z6 (Obj.cells #[.string ⟨#[97]⟩, .string ⟨#[98]⟩] 9)).trans (hb.mono (by simp; omega)))
  clear hb z6
  have z7 : w.heap.size ≤ w7.heap.size := B7.out.size
  go_wp2_with fail
  go_fit (sortE w7.heap.size _ (by simp) (by simp [go_sem]) (by simp [go_sem]) (by simp [go_sem]))
  rintro e w8 ⟨a8, c8, rfl, hb⟩
  have B8 := Lib.hid ((B7.out.alloc z7 (Obj.cells #[.string ⟨#[98]⟩, .string ⟨#[97]⟩, .string ⟨#[98]⟩] 9)).trans (hb.mono (by simp; omega)))
  clear hb z7
  go_wp2_with fail
  go_ret
  exact ⟨rfl, B8.out⟩
end Go.Proofs.YtoehpoodfbgdiabDoor
