/- The contracts of Valid and Need (label). -/
import Derived.Test.YtglckcenjnieaaaGreatDoorLaM
namespace Go.Proofs.YtglckcenjnieaaaGreatDoor
open Go.RowKit Go.Lib Go.Maps

set_option maxHeartbeats 1000000 in
theorem Valid_any (v : Option Addr) (cap : Nat) (L : List (List UInt8)) (hlen : L.length ≤ 1000000) (hx : ∀ x ∈ L, x.length ≤ 1048576) (w : World) (hT : TabK w) (hr : ReadsStr w v L) :
    Calls Tryz.prog 11 #[.slice v L.length cap] w fun e w' => e = .returned (.int .i64 (exF labK L)) ∧ Below w.heap.size w w' := by
  have E := Lib.hid (examine_valid v cap L hlen hx w hT hr)
  clear hT hr hx
  go_enter Tryz.func11, Tryz.ntmps11
  go_wp2_with fail
  go_fit E.out
  rintro e w2 ⟨rfl, hb⟩
  have B := Lib.hid hb
  clear hb
  go_wp2_with fail
  go_ret
  exact ⟨rfl, B.out⟩
set_option maxHeartbeats 1000000 in
theorem Need_any (v : Option Addr) (cap : Nat) (L : List (List UInt8)) (hlen : L.length ≤ 1000000) (hx : ∀ x ∈ L, x.length ≤ 1048576) (w : World) (hT : TabK w) (hr : ReadsStr w v L) :
    Calls Tryz.prog 14 #[.slice v L.length cap] w fun e w' => e = .returned (.int .i64 (exF needK L)) ∧ Below w.heap.size w w' := by
  have E := Lib.hid (examine_need v cap L hlen hx w hT hr)
  clear hT hr hx
  go_enter Tryz.func14, Tryz.ntmps14
  go_wp2_with fail
  go_fit E.out
  rintro e w2 ⟨rfl, hb⟩
  have B := Lib.hid hb
  clear hb
  go_wp2_with fail
  go_ret
  exact ⟨rfl, B.out⟩
end Go.Proofs.YtglckcenjnieaaaGreatDoor
