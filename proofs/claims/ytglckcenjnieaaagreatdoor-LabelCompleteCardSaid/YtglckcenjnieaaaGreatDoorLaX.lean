/- The condition that each statement of layer 21 asks first is met: the chapter's first examples. -/
import Derived.Test.YtglckcenjnieaaaGreatDoorLaW
namespace Go.Proofs.YtglckcenjnieaaaGreatDoor
open Go.RowKit Go.Lib

theorem inclB_srt (lo hi : Int) (z : List Int) : inclB lo hi (srt z) = inclB lo hi z := by
  unfold inclB
  rw [srt_any]
  by_cases h : z = []
  · subst h; rw [show srt ([] : List Int) = [] from by simp [srt]]
  · rw [if_neg h, if_neg (fun e => h (by have := srt_len z; rw [e] at this; exact List.length_eq_zero_iff.1 this.symm))]
theorem satB_plain (L M : List (List UInt8)) : satB L M = !(M.any (satF (stL L))) := by
  unfold satB
  rw [show (satF fun l => srt (stL L l)) = satF (stL L) from by
    funext x
    unfold satF
    cases needP x with
    | none => rfl
    | some q => dsimp only; rw [inclB_srt]]
theorem e_s1 : satB [[99, 112, 117, 61, 56], [108, 105, 110, 117, 120]] [[33, 103, 112, 117], [99, 112, 117, 62, 61, 52], [108, 105, 110, 117, 120]] = true := by rw [satB_plain]; decide +kernel
theorem e_s2 : satB [[99, 112, 117, 61, 56], [108, 105, 110, 117, 120]] [[99, 112, 117, 61, 52]] = false := by rw [satB_plain]; decide +kernel
theorem e_i1 : impliesB [[99, 112, 117, 60, 61, 52], [99, 112, 117, 62, 61, 52]] [[99, 112, 117, 61, 52]] = true := by decide +kernel
theorem e_i2 : impliesB [[99, 112, 117]] [[99, 112, 117, 62, 61, 48]] = false := by decide +kernel
theorem e_v : exF labK [[99, 112, 117, 61, 56], [108, 105, 110, 117, 120]] = 0 := by decide +kernel
theorem c_s1 (a b : Nat) (w : World) (hT : TabK w) (hga : a < w.heap.size) (h0 : w.cell? ⟨a, 0, none⟩ = some (.string ⟨#[99, 112, 117, 61, 56]⟩)) (h1 : w.cell? ⟨a, 1, none⟩ = some (.string ⟨#[108, 105, 110, 117, 120]⟩)) (hgb : b < w.heap.size) (k0 : w.cell? ⟨b, 0, none⟩ = some (.string ⟨#[33, 103, 112, 117]⟩)) (k1 : w.cell? ⟨b, 1, none⟩ = some (.string ⟨#[99, 112, 117, 62, 61, 52]⟩)) (k2 : w.cell? ⟨b, 2, none⟩ = some (.string ⟨#[108, 105, 110, 117, 120]⟩)) :
    Calls Tryz.prog 16 #[.slice (some ⟨a, 0, none⟩) 2 2, .slice (some ⟨b, 0, none⟩) 3 3] w fun e w' => e = .returned (.bool true) ∧ Below w.heap.size w w' := by
  have h := satisfies_any (some ⟨a, 0, none⟩) (some ⟨b, 0, none⟩) 2 3 [[99, 112, 117, 61, 56], [108, 105, 110, 117, 120]] [[33, 103, 112, 117], [99, 112, 117, 62, 61, 52], [108, 105, 110, 117, 120]] (by decide) (by decide) (by decide) (by decide) w hT (by
    intro k hk
    match k, hk with
    | 0, _ => exact ⟨a, 0, rfl, hga, h0⟩
    | 1, _ => exact ⟨a, 0, rfl, hga, h1⟩) (by
    intro k hk
    match k, hk with
    | 0, _ => exact ⟨b, 0, rfl, hgb, k0⟩
    | 1, _ => exact ⟨b, 0, rfl, hgb, k1⟩
    | 2, _ => exact ⟨b, 0, rfl, hgb, k2⟩)
  rwa [e_s1] at h
theorem c_s2 (a b : Nat) (w : World) (hT : TabK w) (hga : a < w.heap.size) (h0 : w.cell? ⟨a, 0, none⟩ = some (.string ⟨#[99, 112, 117, 61, 56]⟩)) (h1 : w.cell? ⟨a, 1, none⟩ = some (.string ⟨#[108, 105, 110, 117, 120]⟩)) (hgb : b < w.heap.size) (k0 : w.cell? ⟨b, 0, none⟩ = some (.string ⟨#[99, 112, 117, 61, 52]⟩)) :
    Calls Tryz.prog 16 #[.slice (some ⟨a, 0, none⟩) 2 2, .slice (some ⟨b, 0, none⟩) 1 1] w fun e w' => e = .returned (.bool false) ∧ Below w.heap.size w w' := by
  have h := satisfies_any (some ⟨a, 0, none⟩) (some ⟨b, 0, none⟩) 2 1 [[99, 112, 117, 61, 56], [108, 105, 110, 117, 120]] [[99, 112, 117, 61, 52]] (by decide) (by decide) (by decide) (by decide) w hT (by
    intro k hk
    match k, hk with
    | 0, _ => exact ⟨a, 0, rfl, hga, h0⟩
    | 1, _ => exact ⟨a, 0, rfl, hga, h1⟩) (by
    intro k hk
    match k, hk with
    | 0, _ => exact ⟨b, 0, rfl, hgb, k0⟩)
  rwa [e_s2] at h
theorem c_i1 (a b : Nat) (w : World) (hT : TabK w) (hga : a < w.heap.size) (h0 : w.cell? ⟨a, 0, none⟩ = some (.string ⟨#[99, 112, 117, 60, 61, 52]⟩)) (h1 : w.cell? ⟨a, 1, none⟩ = some (.string ⟨#[99, 112, 117, 62, 61, 52]⟩)) (hgb : b < w.heap.size) (k0 : w.cell? ⟨b, 0, none⟩ = some (.string ⟨#[99, 112, 117, 61, 52]⟩)) :
    Calls Tryz.prog 18 #[.slice (some ⟨a, 0, none⟩) 2 2, .slice (some ⟨b, 0, none⟩) 1 1] w fun e w' => e = .returned (.bool true) ∧ Below w.heap.size w w' := by
  have h := implies_any (some ⟨a, 0, none⟩) (some ⟨b, 0, none⟩) 2 1 [[99, 112, 117, 60, 61, 52], [99, 112, 117, 62, 61, 52]] [[99, 112, 117, 61, 52]] (by decide) (by decide) (by decide) (by decide) w hT (by
    intro k hk
    match k, hk with
    | 0, _ => exact ⟨a, 0, rfl, hga, h0⟩
    | 1, _ => exact ⟨a, 0, rfl, hga, h1⟩) (by
    intro k hk
    match k, hk with
    | 0, _ => exact ⟨b, 0, rfl, hgb, k0⟩)
  rwa [e_i1] at h
theorem c_i2 (a b : Nat) (w : World) (hT : TabK w) (hga : a < w.heap.size) (h0 : w.cell? ⟨a, 0, none⟩ = some (.string ⟨#[99, 112, 117]⟩)) (hgb : b < w.heap.size) (k0 : w.cell? ⟨b, 0, none⟩ = some (.string ⟨#[99, 112, 117, 62, 61, 48]⟩)) :
    Calls Tryz.prog 18 #[.slice (some ⟨a, 0, none⟩) 1 1, .slice (some ⟨b, 0, none⟩) 1 1] w fun e w' => e = .returned (.bool false) ∧ Below w.heap.size w w' := by
  have h := implies_any (some ⟨a, 0, none⟩) (some ⟨b, 0, none⟩) 1 1 [[99, 112, 117]] [[99, 112, 117, 62, 61, 48]] (by decide) (by decide) (by decide) (by decide) w hT (by
    intro k hk
    match k, hk with
    | 0, _ => exact ⟨a, 0, rfl, hga, h0⟩) (by
    intro k hk
    match k, hk with
    | 0, _ => exact ⟨b, 0, rfl, hgb, k0⟩)
  rwa [e_i2] at h
theorem c_v (a : Nat) (w : World) (hT : TabK w) (hga : a < w.heap.size) (h0 : w.cell? ⟨a, 0, none⟩ = some (.string ⟨#[99, 112, 117, 61, 56]⟩)) (h1 : w.cell? ⟨a, 1, none⟩ = some (.string ⟨#[108, 105, 110, 117, 120]⟩)) :
    Calls Tryz.prog 11 #[.slice (some ⟨a, 0, none⟩) 2 2] w fun e w' => e = .returned (.int .i64 0) ∧ Below w.heap.size w w' := by
  have h := Valid_any (some ⟨a, 0, none⟩) 2 [[99, 112, 117, 61, 56], [108, 105, 110, 117, 120]] (by decide) (by decide) w hT (by
    intro k hk
    match k, hk with
    | 0, _ => exact ⟨a, 0, rfl, hga, h0⟩
    | 1, _ => exact ⟨a, 0, rfl, hga, h1⟩)
  rwa [e_v] at h
/-- The labels' row stays. -/
structure AwL (w : World) (a : Nat) : Prop where
  lt : a < w.heap.size
  h0 : w.cell? ⟨a, 0, none⟩ = some (.string ⟨#[99, 112, 117, 61, 56]⟩)
  h1 : w.cell? ⟨a, 1, none⟩ = some (.string ⟨#[108, 105, 110, 117, 120]⟩)
theorem AwL.below {w w' : World} {a : Nat} (h : AwL w a) (hb : Below w.heap.size w w') : AwL w' a :=
  ⟨Nat.lt_of_lt_of_le h.lt hb.size, (hb.cell (p := ⟨a, 0, none⟩) h.lt).trans h.h0, (hb.cell (p := ⟨a, 1, none⟩) h.lt).trans h.h1⟩
theorem AwL.alloc {w : World} {a : Nat} (h : AwL w a) (o : Obj) : AwL (w.alloc o) a := h.below ((Below.refl _ _).alloc (Nat.le_refl _) o)
theorem TabK.alloc {w : World} (h : TabK w) (o : Obj) : TabK (w.alloc o) := h.below ((Below.refl _ _).alloc (Nat.le_refl _) o)

set_option maxHeartbeats 4000000 in
set_option maxRecDepth 100000 in
theorem lives21_any (w : World) (hT : TabK w) :
    Calls Tryz.prog 13 #[] w fun e w' => e = .returned (.bool true) ∧ Below w.heap.size w w' := by
  have T := Lib.hid (fun (w' : World) (hb : Below w.heap.size w w') => hT.below hb)
  have B0 := Lib.hid (Below.refl w.heap.size w)
  have A0 := Lib.hid (show AwL (w.alloc (Obj.cells #[.string ⟨#[99, 112, 117, 61, 56]⟩, .string ⟨#[108, 105, 110, 117, 120]⟩] 9)) w.heap.size from ⟨by simp, (by simp [go_sem]), (by simp [go_sem])⟩)
  clear hT
  go_enter Tryz.func13, Tryz.ntmps13
  go_wp2_with fail
  have C1 := Lib.hid (B0.out.alloc (Nat.le_refl _) (Obj.cells #[.string ⟨#[99, 112, 117, 61, 56]⟩, .string ⟨#[108, 105, 110, 117, 120]⟩] 9))
  have D1 := Lib.hid (C1.out.alloc (by simp) (Obj.cells #[.string ⟨#[33, 103, 112, 117]⟩, .string ⟨#[99, 112, 117, 62, 61, 52]⟩, .string ⟨#[108, 105, 110, 117, 120]⟩] 9))
  have A1 := Lib.hid (A0.out.alloc (Obj.cells #[.string ⟨#[33, 103, 112, 117]⟩, .string ⟨#[99, 112, 117, 62, 61, 52]⟩, .string ⟨#[108, 105, 110, 117, 120]⟩] 9))
  go_fit (c_s1 w.heap.size (w.heap.size + 1) _ (T.out _ D1.out) A1.out.lt A1.out.h0 A1.out.h1 (by simp) (by simp [go_sem]) (by simp [go_sem]) (by simp [go_sem]))
  rintro e w1 ⟨rfl, hb⟩
  have B1 := Lib.hid (D1.out.trans (hb.mono (by simp; omega)))
  have A2 := Lib.hid (A1.out.below hb)
  clear hb
  go_wp2_with fail
  have D2 := Lib.hid (B1.out.alloc B1.out.size (Obj.cells #[.string ⟨#[99, 112, 117, 61, 52]⟩] 9))
  have A3 := Lib.hid (A2.out.alloc (Obj.cells #[.string ⟨#[99, 112, 117, 61, 52]⟩] 9))
  go_fit (c_s2 w.heap.size w1.heap.size _ (T.out _ D2.out) A3.out.lt A3.out.h0 A3.out.h1 (by simp) (by simp [go_sem]))
  rintro e w2 ⟨rfl, hb⟩
  have B2 := Lib.hid (D2.out.trans (hb.mono (by have := B1.out.size; simp; omega)))
  have A4 := Lib.hid (A3.out.below hb)
  clear hb
  go_wp2_with fail
  have D3 := Lib.hid ((B2.out.alloc B2.out.size (Obj.cells #[.string ⟨#[99, 112, 117, 60, 61, 52]⟩, .string ⟨#[99, 112, 117, 62, 61, 52]⟩] 9)).alloc (by have := B2.out.size; simp; omega) (Obj.cells #[.string ⟨#[99, 112, 117, 61, 52]⟩] 9))
  have A5 := Lib.hid ((A4.out.alloc (Obj.cells #[.string ⟨#[99, 112, 117, 60, 61, 52]⟩, .string ⟨#[99, 112, 117, 62, 61, 52]⟩] 9)).alloc (Obj.cells #[.string ⟨#[99, 112, 117, 61, 52]⟩] 9))
  go_fit (c_i1 w2.heap.size (w2.heap.size + 1) _ (T.out _ D3.out) (by simp; omega) (by simp [go_sem]) (by simp [go_sem]) (by simp) (by simp [go_sem]))
  rintro e w3 ⟨rfl, hb⟩
  have B3 := Lib.hid (D3.out.trans (hb.mono (by have := B2.out.size; simp; omega)))
  have A6 := Lib.hid (A5.out.below hb)
  clear hb
  go_wp2_with fail
  have D4 := Lib.hid ((B3.out.alloc B3.out.size (Obj.cells #[.string ⟨#[99, 112, 117]⟩] 9)).alloc (by have := B3.out.size; simp; omega) (Obj.cells #[.string ⟨#[99, 112, 117, 62, 61, 48]⟩] 9))
  have A7 := Lib.hid ((A6.out.alloc (Obj.cells #[.string ⟨#[99, 112, 117]⟩] 9)).alloc (Obj.cells #[.string ⟨#[99, 112, 117, 62, 61, 48]⟩] 9))
  go_fit (c_i2 w3.heap.size (w3.heap.size + 1) _ (T.out _ D4.out) (by simp; omega) (by simp [go_sem]) (by simp) (by simp [go_sem]))
  rintro e w4 ⟨rfl, hb⟩
  have B4 := Lib.hid (D4.out.trans (hb.mono (by have := B3.out.size; simp; omega)))
  have A8 := Lib.hid (A7.out.below hb)
  clear hb
  go_wp2_with fail
  go_fit (c_v w.heap.size _ (T.out _ B4.out) A8.out.lt A8.out.h0 A8.out.h1)
  rintro e w5 ⟨rfl, hb⟩
  have B5 := Lib.hid (B4.out.trans (hb.mono B4.out.size))
  clear hb
  go_wp2_with fail
  go_ret
  exact ⟨rfl, B5.out⟩
end Go.Proofs.YtglckcenjnieaaaGreatDoor
