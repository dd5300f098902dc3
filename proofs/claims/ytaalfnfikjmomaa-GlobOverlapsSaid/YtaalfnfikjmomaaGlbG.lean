/- The contract of the document's fits, for every element and byte (glob). -/
import Derived.Test.YtaalfnfikjmomaaGlbF
namespace Go.Proofs.Ytaalfnfikjmomaa
open Go.RowKit Go.Lib

set_option maxHeartbeats 4000000 in
set_option maxRecDepth 100000 in
theorem refFits_any (x : GE) (c : UInt8) (hx : x.kind ≤ 5) (iv : Option Addr) (ic : Nat) (hl : x.items.length ≤ 4096) (S : Nat → Prop) (w : World) (hr : ReadsI S w iv x.items) :
    Calls Try.prog 40 #[.agg #[.int .i64 (x.kind : Nat), .slice iv x.items.length ic], .int .u8 c.toNat] w fun e w' => e = .returned (.bool (fitsB x c)) ∧ Below w.heap.size w w' := by
  have B := Lib.hid ((Below.refl w.heap.size w).alloc (Nat.le_refl _) (Obj.cells #[.int .i64 (x.kind : Nat), .slice iv x.items.length ic] 53))
  have c9 : (0 : Int) ≤ (c.toNat : Int) ∧ (c.toNat : Int) ≤ 255 := by have := c.toNat_lt; omega
  by_cases h1 : x.kind = 1
  · have HF := Lib.hid (fits_lit (c := c) h1)
    rw [h1] at B ⊢
    clear hr hx
    go_enter Try.func40, Try.ntmps40
    go_wp2_with fail
    go_ret
    exact ⟨by rw [HF.out]; rfl, B.out⟩
  by_cases h5 : x.kind = 5
  · exact refFits_items x c hx h1 (by omega) (by omega) (.inl h5) iv ic hl S w hr
  by_cases h47 : c = 47
  · have HF := Lib.hid (fits_slash h1 h5 h47)
    have g1 : ((c.toNat : Int) == 47) = true := by rw [h47]; rfl
    obtain ⟨k, hk⟩ : ∃ k, k = x.kind := ⟨_, rfl⟩
    rw [← hk] at B h1 h5 hx ⊢
    clear hk hr
    rcases (show k = 0 ∨ k = 2 ∨ k = 3 ∨ k = 4 by omega) with rfl | rfl | rfl | rfl
    all_goals
      go_enter Try.func40, Try.ntmps40
      go_wp2_with fail
      go_ret
      exact ⟨by rw [HF.out]; rfl, B.out⟩
  by_cases h23 : x.kind = 2 ∨ x.kind = 3
  · have HF := Lib.hid (fits_star h23 h47)
    have g1 : ((c.toNat : Int) == 47) = false := by rw [beq_eq_false_iff_ne]; intro e2; exact h47 (UInt8.toNat_inj.1 (by show c.toNat = 47; omega))
    obtain ⟨k, hk⟩ : ∃ k, k = x.kind := ⟨_, rfl⟩
    rw [← hk] at B h23 ⊢
    clear hk hr h1 h5 hx
    rcases h23 with rfl | rfl
    all_goals
      go_enter Try.func40, Try.ntmps40
      go_wp2_with fail
      go_ret
      exact ⟨by rw [HF.out]; rfl, B.out⟩
  exact refFits_items x c hx h1 (fun e => h23 (.inl e)) (fun e => h23 (.inr e)) (.inr h47) iv ic hl S w hr
end Go.Proofs.Ytaalfnfikjmomaa
