/- The conditions that each of duration's statements asks of the program first hold. -/
import Derived.Test.YtaalfnfikjmomaaDoorDurTab
import Derived.Test.YtaalfnfikjmomaaDoorDurPe
import Derived.Test.YtaalfnfikjmomaaDoorDurG
namespace Go.Proofs.YtaalfnfikjmomaaDoor
open Go.RowKit Go.Lib

theorem i64_of {a : Int} (h : decide (-9223372036854775808 ≤ a ∧ a ≤ 9223372036854775807) = true) : I64 a := by unfold I64; exact of_decide_eq_true h
set_option maxRecDepth 100000 in
theorem lives_parse : progP [49, 104, 51, 48, 109] = (5400000, 0) := by decide
set_option maxRecDepth 100000 in
theorem lives_show : showD (limD 86400001) = [49, 100, 49, 109, 115] := by
  have h : limD 86400001 = 86400001 := by decide
  rw [h]
  simp [showD, showJ, limJ, decN_small, nameU]
set_option maxHeartbeats 4000000 in
set_option maxRecDepth 100000 in
theorem lives5_any (w : World) (hT : TabD w) :
    Calls Tryd.prog 8 #[] w fun e w' => e = .returned (.bool true) ∧ Below w.heap.size w w' := by
  have HT := Lib.hid hT
  clear hT
  have P := fun w hT => durParse_any ⟨#[49, 104, 51, 48, 109]⟩ (by decide) w hT
  rw [show (⟨#[49, 104, 51, 48, 109]⟩ : ByteArray).data.toList = [49, 104, 51, 48, 109] from rfl, lives_parse] at P
  have P := Lib.hid P
  have S := fun w hT => durShow_any 86400001 w hT
  rw [lives_show] at S
  have S := Lib.hid S
  have A := Lib.hid (fun w => durAdd_any 5 7 (i64_of (by decide)) (i64_of (by decide)) w)
  have E := Lib.hid (fun w => durElapsed_any 3 5 (i64_of (by decide)) (i64_of (by decide)) w)
  go_enter Tryd.func8, Tryd.ntmps8
  go_wp2_with fail
  go_fit (P.out _ HT.out)
  rintro e w1 ⟨rfl, hb⟩
  have B1 := Lib.hid hb
  clear hb
  go_wp2_with fail
  go_fit (S.out _ (HT.out.below B1.out))
  rintro e w2 ⟨rfl, hb⟩
  have B2 := Lib.hid (B1.out.trans (hb.mono B1.out.size))
  clear hb
  go_wp2_with fail
  go_fit (A.out _)
  rintro e w3 ⟨rfl, rfl⟩
  go_wp2_with fail
  go_fit (E.out _)
  rintro e w3 ⟨rfl, rfl⟩
  go_wp2_with fail
  go_ret
  exact ⟨rfl, B2.out⟩
end Go.Proofs.YtaalfnfikjmomaaDoor
