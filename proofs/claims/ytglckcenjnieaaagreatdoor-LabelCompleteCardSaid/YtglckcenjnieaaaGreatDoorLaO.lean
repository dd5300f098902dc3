/- The contract of span.includesOneOf (label). -/
import Derived.Test.YtglckcenjnieaaaGreatDoorLaK
import Derived.Deep.RegionHeld3
namespace Go.Proofs.YtglckcenjnieaaaGreatDoor
open Go.RowKit Go.Lib

/-- In an ascending list: is one within the bounds? -/
theorem search_any (lo hi : Int) : ∀ zs : List Int, zs.Pairwise (· ≤ ·) → (zs.any fun x => decide (lo ≤ x) && decide (x ≤ hi)) = (match zs[zs.countP (· < lo)]? with | none => false | some y => decide (y ≤ hi))
  | [], _ => rfl
  | a :: r, h => by
    rw [List.pairwise_cons] at h
    by_cases ha : a < lo
    · rw [List.countP_cons_of_pos (by simpa using ha), List.getElem?_cons_succ, List.any_cons, search_any lo hi r h.2]
      rw [decide_eq_false (show ¬ lo ≤ a by omega), Bool.false_and, Bool.false_or]
    · have h0 : (a :: r).countP (fun x => decide (x < lo)) = 0 := by
        rw [List.countP_eq_zero]
        intro x hx
        rcases List.mem_cons.1 hx with rfl | hx
        · simpa using ha
        · have := h.1 x hx
          simp
          omega
      rw [h0, List.getElem?_cons_zero, List.any_cons]
      by_cases hh : a ≤ hi
      · show _ = decide (a ≤ hi)
        rw [decide_eq_true (show lo ≤ a by omega), decide_eq_true hh]
        simp
      · show _ = decide (a ≤ hi)
        rw [decide_eq_false hh, Bool.and_false, Bool.false_or, List.any_eq_false]
        intro x hx
        have := h.1 x hx
        simp
        intro
        omega
set_option maxHeartbeats 1000000 in
theorem incl_nil (lo hi : Int) (v : Option Addr) (c : Nat) (w : World) :
    Calls Tryz.prog 32 #[.agg #[.int .i64 lo, .int .i64 hi], .slice v 0 c] w fun e w' => e = .returned (.bool (lo == -2)) ∧ Below w.heap.size w w' := by
  go_enter Tryz.func32, Tryz.ntmps32
  go_wp2_with fail
  go_ret
  exact ⟨rfl, (Below.refl _ _).alloc (Nat.le_refl _) _⟩
set_option maxHeartbeats 2000000 in
theorem incl_row (lo hi : Int) (b c : Nat) (zs : List Int) (h0 : 0 < zs.length) (hl : zs.length ≤ 1000000) (hs : zs.Pairwise (· ≤ ·)) (w : World) (hlt : b < w.heap.size) (hr : ∀ j (h : j < zs.length), w.cell? ⟨b, j, none⟩ = some (.int .i64 zs[j])) :
    Calls Tryz.prog 32 #[.agg #[.int .i64 lo, .int .i64 hi], .slice (some ⟨b, 0, none⟩) zs.length c] w fun e w' => e = .returned (.bool (zs.any fun x => decide (lo ≤ x) && decide (x ≤ hi))) ∧ Below w.heap.size w w' := by
  have hcz : ∀ w', Below w.heap.size w w' → ∀ j, j < zs.length → w'.cell? ⟨b, 0 + j, none⟩ = some (.int .i64 (zs.getD j 0)) := by
    intro w' hw j hj
    rw [Nat.zero_add, (hw.cell (p := ⟨b, j, none⟩) hlt).trans (hr j hj), List.getD_eq_getElem?_getD, List.getElem?_eq_getElem hj]
    rfl
  have B1 := Lib.hid ((Below.refl w.heap.size w).alloc (Nat.le_refl _) (.cells #[.int .i64 lo, .int .i64 hi] 40))
  have S := Lib.hid (Tryz.slices_BinarySearch_int b 0 zs.length c zs lo (w.alloc (.cells #[.int .i64 lo, .int .i64 hi] 40)) (Nat.le_refl _) (by omega) (hcz _ B1.out) (by rw [List.take_length]; exact hs))
  have HC := Lib.hid hcz
  have hA := search_any lo hi zs hs
  have hq0 : (0 : Int) < (zs.length : Int) := by omega
  have hne : ((zs.length : Int) == 0) = false := by rw [beq_eq_false_iff_ne]; omega
  obtain ⟨i, hi⟩ : ∃ i, i = (zs.take zs.length).countP (fun x => decide (x < lo)) := ⟨_, rfl⟩
  obtain ⟨f, hf⟩ : ∃ f, f = (zs.take zs.length).contains lo := ⟨_, rfl⟩
  rw [← hi, ← hf] at S
  rw [List.take_length] at hi
  rw [← hi] at hA
  by_cases hil : i < zs.length
  · rw [List.getElem?_eq_getElem hil] at hA
    obtain ⟨y, hy⟩ : ∃ y, y = zs[i] := ⟨_, rfl⟩
    rw [← hy] at hA
    have HA := Lib.hid hA
    have HY := Lib.hid hy
    have hii : (i : Int) < (zs.length : Int) := by omega
    have hci := hr i hil
    rw [← hy] at hci
    clear hA hi hf hr hcz hs hy
    go_enter Tryz.func32, Tryz.ntmps32
    go_wp2_with fail
    go_fit S.out
    rintro e w2 ⟨rfl, q, rfl⟩
    have B2 := Lib.hid (below_drewN B1.out q)
    go_wp2_with fail
    go_quiet (fail)
    go_wp2_with fail
    all_goals
      go_ret
      refine ⟨ret_bool ?_, below_drewN B2.out _⟩
      rw [HA.out]
  · rw [List.getElem?_eq_none (by omega)] at hA
    have HA := Lib.hid hA
    have hii : ¬ (i : Int) < (zs.length : Int) := by omega
    clear hA hi hf hr hcz hs
    go_enter Tryz.func32, Tryz.ntmps32
    go_wp2_with fail
    go_fit S.out
    rintro e w2 ⟨rfl, q, rfl⟩
    have B2 := Lib.hid (below_drewN B1.out q)
    go_wp2_with fail
    go_quiet (fail)
    go_wp2_with fail
    all_goals
      go_ret
      exact ⟨ret_bool (by rw [HA.out]), below_drewN B2.out _⟩
end Go.Proofs.YtglckcenjnieaaaGreatDoor
