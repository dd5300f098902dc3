/- The chapter's first example runs (fairness). -/
import Derived.Test.YtmjikddceegloaaGreatDoorFrW
namespace Go.Proofs.YtmjikddceegloaaGreatDoor
open Go.RowKit Go.Lib
set_option linter.unusedSimpArgs false

def AwPost (w : World) (e : Ending) (w' : World) : Prop := e = .returned (.bool true) ∧ Below w.heap.size w w'
theorem pair_reads (w : World) (x y : List UInt8) : ReadsStr (w.alloc (.cells #[.string ⟨x.toArray⟩, .string ⟨y.toArray⟩] 9)) (some ⟨w.heap.size, 0, none⟩) [x, y] := by
  have hb : (w.alloc (.cells #[.string ⟨x.toArray⟩, .string ⟨y.toArray⟩] 9)).heap[w.heap.size]? = some (.cells #[.string ⟨x.toArray⟩, .string ⟨y.toArray⟩] 9 (0, 0)) := World.alloc_heap_new w _
  intro k hk
  have hk' : k < 2 := hk
  refine ⟨w.heap.size, 0, rfl, by simp, ?_⟩
  rcases (show k = 0 ∨ k = 1 by omega) with rfl | rfl
  · simp only [World.cell?, hb]
    rfl
  · simp only [World.cell?, hb]
    rfl
set_option maxRecDepth 100000 in
set_option maxHeartbeats 4000000 in
theorem awake_any (w : World) : Calls Tryz.prog 10 #[] w (AwPost w) := by
  have A1 := Lib.hid (addNil_any 0 ⟨#[97]⟩ 1 (by decide) ⟨by decide, fun i hi => absurd hi (Nat.not_lt_zero _)⟩ a_name (by decide) w (fun j hj => absurd hj (Nat.not_lt_zero _)))
  have A2 := Lib.hid (fun b off cap w' hr => addOne_any b off exA0 cap ⟨#[98]⟩ 3 0 (by decide) (one_valid exA0 (by decide +kernel)) b_name (by decide) (by show cmpL [97] [98] < 0; rw [ab_cmp]; decide) (by decide +kernel) (by decide) w' hr)
  have P0 := Lib.hid (fun a c vp cp w' h h' => pick_any a c [exA0, exB0] vp cp [[98], [97]] (by decide) (by decide) (by decide) w' h h')
  have P1 := Lib.hid (fun a c vp cp w' h h' => pick_any a c [exA1, exB0] vp cp [[98], [97]] (by decide) (by decide) (by decide) w' h h')
  have C0 := Lib.hid (fun a c w' h => charge_any a c [exA0, exB0] ⟨#[97]⟩ 1 (by decide) (by decide) (by decide) w' h)
  go_enter Tryz.func10, Tryz.ntmps10
  go_wp2_with fail
  go_fit A1.out
  rintro e w1 ⟨a1, c1, rfl, hr1, hb1⟩
  obtain ⟨b1, o1, rfl, _⟩ := hr1 0 (by decide)
  have A2' := Lib.hid (A2.out b1 o1 c1 w1 hr1)
  have B1 := Lib.hid hb1
  clear hr1 hb1 A1 A2
  go_wp2_with fail
  go_fit A2'.out
  rintro e w2 ⟨a2, c2, rfl, hr2, hb2⟩
  have B2 := Lib.hid (B1.out.trans (hb2.mono B1.out.size))
  have H2 := Lib.hid (show ReadsH w2 a2 [exA0, exB0] from hr2)
  have BX := (Below.refl w2.heap.size w2).alloc (Nat.le_refl _) (.cells #[.string ⟨#[98]⟩, .string ⟨#[97]⟩] 9)
  have P0' := Lib.hid (P0.out a2 c2 (some ⟨w2.heap.size, 0, none⟩) 2 _ (H2.out.below BX) (pair_reads w2 [98] [97]))
  have B3 := Lib.hid (B2.out.trans (BX.mono B2.out.size))
  have BX := Lib.hid BX
  clear hr2 hb2 P0 A2'
  go_wp2_with fail
  go_fit P0'.out
  rintro e w3 ⟨N0, ho0, rfl, hb3⟩
  rw [ex_pick0 ho0]
  have B4 := Lib.hid (B3.out.trans (hb3.mono B3.out.size))
  have H3 := H2.out.below (BX.out.trans (hb3.mono BX.out.size))
  have C0' := Lib.hid (C0.out a2 c2 w3 H3)
  clear ho0 hb3 H3 C0 P0'
  go_wp2_with fail
  go_fit C0'.out
  rintro e w4 ⟨a4, c4, R, E, rfl, hch, hr4, hb4⟩
  obtain ⟨rfl, rfl⟩ := ex_charge hch
  have B5 := Lib.hid (B4.out.trans (hb4.mono B4.out.size))
  have BY := (Below.refl w4.heap.size w4).alloc (Nat.le_refl _) (.cells #[.string ⟨#[98]⟩, .string ⟨#[97]⟩] 9)
  have P1' := Lib.hid (P1.out a4 c4 (some ⟨w4.heap.size, 0, none⟩) 2 _ (hr4.below BY) (pair_reads w4 [98] [97]))
  have B6 := Lib.hid (B5.out.trans (BY.mono B5.out.size))
  clear hch hr4 hb4 BY P1 C0'
  go_wp2_with fail
  go_fit P1'.out
  rintro e w5 ⟨N1, ho1, rfl, hb5⟩
  rw [ex_pick1 ho1]
  have B7 := Lib.hid (B6.out.trans (hb5.mono B6.out.size))
  clear ho1 hb5 P1'
  go_wp2_with fail
  go_ret
  exact ⟨rfl, B7.out⟩
end Go.Proofs.YtmjikddceegloaaGreatDoor
