/- The contract of the condition that each statement of layer 3 asks first: it is met. Wants the contracts of digest.* (DigP). -/
import Derived.Test.YtoehpoodfbgdiaaDoorDigPe
import Derived.Test.YtoehpoodfbgdiaaDoorDigB
import Derived.Test.YtoehpoodfbgdiaaDoorDigH
import Derived.Lib.SmallJoins
namespace Go.Proofs.YtoehpoodfbgdiaaDoor
open Go.RowKit Go.Lib

theorem u64_nat {n : Int} (h : (Lit.int .u64 n).wf = true) : ∃ k : Nat, n = k ∧ k < 18446744073709551616 := by
  obtain ⟨n0, n1⟩ : 0 ≤ n ∧ n < 18446744073709551616 := by
    simp [Lit.wf] at h
    have e1 : IntKind.min .u64 = 0 := by decide
    have e2 : IntKind.max .u64 = 18446744073709551615 := by decide
    omega
  obtain ⟨k, rfl⟩ := Int.eq_ofNat_of_zero_le n0
  exact ⟨k, rfl, by omega⟩
theorem parse_ex (w : World) (hT : Tabs w) : Calls Tryd.prog 18 #[.string ⟨#[48, 48, 48, 48, 48, 48, 48, 48, 48, 48, 48, 48, 48, 48, 102, 102]⟩] w fun e w' => e = .returned (.tuple #[.int .u64 255, .int .i64 0]) ∧ Below w.heap.size w w' := by
  have h := digParse_any ⟨#[48, 48, 48, 48, 48, 48, 48, 48, 48, 48, 48, 48, 48, 48, 102, 102]⟩ (by decide) w hT
  rwa [show parseD (⟨#[48, 48, 48, 48, 48, 48, 48, 48, 48, 48, 48, 48, 48, 48, 102, 102]⟩ : ByteArray).data.toList = (255, 0) by decide +kernel] at h
theorem text_ex (w : World) (hT : Tabs w) : Calls Tryd.prog 17 #[.int .u64 255] w fun e w' => e = .returned (.string ⟨#[48, 48, 48, 48, 48, 48, 48, 48, 48, 48, 48, 48, 48, 48, 102, 102]⟩) ∧ Below w.heap.size w w' := by
  have h := digText_any 255 (by decide) w hT
  rwa [show (hexT 16 255).toArray = #[48, 48, 48, 48, 48, 48, 48, 48, 48, 48, 48, 48, 48, 48, 102, 102] by decide +kernel] at h

theorem mix_two : ∃ p q : Int, (p != q) = true ∧ (∀ w : World, Calls Tryd.prog 10 #[.int .u64 0, .int .u64 0] w fun e w' => e = .returned (.int .u64 p) ∧ Below w.heap.size w w') ∧ (∀ w : World, Calls Tryd.prog 10 #[.int .u64 0, .int .u64 1] w fun e w' => e = .returned (.int .u64 q) ∧ Below w.heap.size w w') :=
  ⟨(mixN 0 0 : Nat), (mixN 0 1 : Nat), bne_iff_ne.2 (fun h => mix_ex (Int.ofNat.inj h)), fun w => digMix_any 0 0 (by decide) (by decide) w, fun w => digMix_any 0 1 (by decide) (by decide) w⟩
theorem checkC_ex (b : Nat) (w : World) (hb : b < w.heap.size)
    (h : ∀ k : Nat, ∀ u, (Lib.byteCells [49, 50, 51, 52, 53, 54, 55, 56, 57])[k]? = some u → w.cell? ⟨b, k, none⟩ = some u) :
    Calls Tryd.prog 21 #[.slice (some ⟨b, 0, none⟩) 9 9] w fun e w' => e = .returned (.int .i64 3421780262) ∧ Below w.heap.size w w' := by
  have h := digCheck_any (some ⟨b, 0, none⟩) 9 [49, 50, 51, 52, 53, 54, 55, 56, 57] (by decide) w (by
    intro k hk
    exact ⟨b, 0, rfl, hb, by rw [Nat.zero_add]; exact h k _ (by rw [Lib.byteCells, List.getElem?_map, List.getElem?_eq_getElem hk]; rfl)⟩)
  rwa [check_ex] at h
set_option maxHeartbeats 4000000 in
set_option maxRecDepth 100000 in
theorem lives3_any (w : World) (hT : Tabs w) :
    Calls Tryd.prog 12 #[] w fun e w' => e = .returned (.bool true) ∧ Below w.heap.size w w' := by
  obtain ⟨p, q, hpq, hp, hq⟩ := mix_two
  have HP := Lib.hid hp
  have HQ := Lib.hid hq
  have HT := Lib.hid hT
  clear hp hq hT
  have kc := fun (w : World) (C : Array Value) (n c : Nat) => Lib.run_convert_bytes_const (P := Tryd.prog) w 27 5 C n c Tryd.underlying27 Tryd.underlying5
  go_enter Tryd.func12, Tryd.ntmps12
  go_wp2_with fail
  go_fit (parse_ex _ HT.out)
  rintro e w1 ⟨rfl, hb⟩
  have B1 := Lib.hid hb
  clear hb
  go_wp2_with fail
  go_fit (checkC_ex w1.heap.size _ (by simp) (by
    intro k u hu
    rw [World.cell?_alloc_mark]
    simpa [Lib.byteCells] using hu))
  rintro e w2 ⟨rfl, hb⟩
  have B2 := Lib.hid (B1.out.trans ((((Below.refl w1.heap.size w1).alloc (Nat.le_refl _) _).trans (hb.mono (by simp))).mono B1.out.size))
  clear hb
  go_wp2_with fail
  go_fit (text_ex _ (HT.out.below B2.out))
  rintro e w3 ⟨rfl, hb⟩
  have B3 := Lib.hid (B2.out.trans (hb.mono B2.out.size))
  clear hb
  go_wp2_with fail
  go_fit (HP.out _)
  rintro e w4 ⟨rfl, hb⟩
  have B4 := Lib.hid (B3.out.trans (hb.mono B3.out.size))
  clear hb
  go_wp2_with fail
  go_fit (HQ.out _)
  rintro e w5 ⟨rfl, hb⟩
  have B5 := Lib.hid (B4.out.trans (hb.mono B4.out.size))
  clear hb
  go_wp2_with fail
  go_ret
  exact ⟨rfl, B5.out⟩
end Go.Proofs.YtoehpoodfbgdiaaDoor
