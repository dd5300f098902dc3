/- A text that is put together from parts is the text of their sum (duration). -/
import Derived.Test.YtaalfnfikjmomaaDoorDurL
import Derived.Test.YtaalfnfikjmomaaDoorOpenA
namespace Go.Proofs.YtaalfnfikjmomaaDoor
open Go.RowKit Go.Lib

def partL (n : Nat) (u : List UInt8) : List UInt8 := if n = 0 then [] else decN n ++ u
theorem partL_len (n : Nat) (u : List UInt8) (hn : n < 1000000000000000000) : (partL n u).length ≤ 18 + u.length := by
  unfold partL
  split
  · simp
  · have := decN_len 17 n (by rw [show (10 : Nat) ^ (17 + 1) = 1000000000000000000 by decide]; exact hn)
    rw [List.length_append]
    omega
set_option maxHeartbeats 1000000 in
theorem part_any (n : Nat) (hn : n < 65536) (u : List UInt8) (hu : u.length ≤ 2) (w : World) :
    Calls Tryd.prog 18 #[.int .i64 n, .string ⟨u.toArray⟩] w fun e w' => e = .returned (.string ⟨(partL n u).toArray⟩) ∧ w = w' := by
  by_cases h0 : n = 0
  · have hv := Lib.hid (show partL n u = [] by unfold partL; rw [if_pos h0])
    have h0i : ((n : Int) == 0) = true := by rw [beq_iff_eq]; omega
    clear h0 hn hu
    go_enter Tryd.func18, Tryd.ntmps18
    go_wp2_with fail
    go_ret
    exact ⟨by rw [hv.out]; rfl, rfl⟩
  · have h0i : ((n : Int) == 0) = false := by rw [beq_eq_false_iff_ne]; omega
    have D := Lib.hid (fun w => refDecimal_any n (by omega) w)
    have hl := decN_len 17 n (by rw [show (10 : Nat) ^ (17 + 1) = 1000000000000000000 by decide]; omega)
    obtain ⟨d, hd⟩ : ∃ d : ByteArray, d = ⟨(decN n).toArray⟩ := ⟨_, rfl⟩
    have hds : d.size ≤ 18 := by rw [hd, sizeL]; exact hl
    rw [← hd] at D
    obtain ⟨x, hx⟩ : ∃ x : ByteArray, x = ⟨u.toArray⟩ := ⟨_, rfl⟩
    have hxs : x.size ≤ 2 := by rw [hx, sizeL]; exact hu
    have hv := Lib.hid (show d ++ x = ⟨(partL n u).toArray⟩ by rw [hd, hx, app_strD]; unfold partL; rw [if_neg h0])
    have hc := fun w => run_string_add_sum (P := Tryd.prog) w d x (by omega)
    rw [← hx]
    clear h0 hn hu hl hd hx
    go_enter Tryd.func18, Tryd.ntmps18
    go_wp2_with fail
    go_fit (D.out _)
    rintro e w1 ⟨rfl, rfl⟩
    go_wp2_with fail
    go_ret
    exact ⟨by rw [← hv.out]; rfl, rfl⟩
theorem showJ_part (j m : Nat) : showJ (j + 1) m = partL (m / limJ j) (nameU (4 - j)) ++ showJ j (m % limJ j) := by
  rw [showJ]
  unfold partL
  by_cases h : m / limJ j = 0
  · rw [if_neg (by rw [h]; exact Nat.lt_irrefl 0), if_pos h, List.nil_append]
  · rw [if_pos (Nat.pos_of_ne_zero h), if_neg h, List.append_assoc]
def sumP (d h m s x : Nat) : Nat := x + 1000 * (s + 60 * (m + 60 * (h + 24 * d)))
theorem parts_show (d h m s x : Nat) (hh : h ≤ 23) (hm : m ≤ 59) (hs : s ≤ 59) (hx : x ≤ 999) :
    showJ 5 (sumP d h m s x) = partL d [100] ++ (partL h [104] ++ (partL m [109] ++ (partL s [115] ++ partL x [109, 115]))) := by
  have e0 : sumP d h m s x / 86400000 = d ∧ sumP d h m s x % 86400000 = sumP 0 h m s x := by unfold sumP; omega
  have e1 : sumP 0 h m s x / 3600000 = h ∧ sumP 0 h m s x % 3600000 = sumP 0 0 m s x := by unfold sumP; omega
  have e2 : sumP 0 0 m s x / 60000 = m ∧ sumP 0 0 m s x % 60000 = sumP 0 0 0 s x := by unfold sumP; omega
  have e3 : sumP 0 0 0 s x / 1000 = s ∧ sumP 0 0 0 s x % 1000 = x := by unfold sumP; omega
  rw [showJ_part 4, show limJ 4 = 86400000 from rfl, e0.1, e0.2, showJ_part 3, show limJ 3 = 3600000 from rfl, e1.1, e1.2, showJ_part 2, show limJ 2 = 60000 from rfl, e2.1, e2.2, showJ_part 1, show limJ 1 = 1000 from rfl, e3.1, e3.2, showJ_part 0, show limJ 0 = 1 from rfl, Nat.div_one]
  simp [showJ, nameU]
theorem parts_doc (d h m s x : Nat) (hd : d < 65536) (hh : h ≤ 23) (hm : m ≤ 59) (hs : s ≤ 59) (hx : x ≤ 999) {l : List UInt8}
    (hl : l = partL d [100] ++ (partL h [104] ++ (partL m [109] ++ (partL s [115] ++ partL x [109, 115])))) (h0 : l ≠ []) : docP l = (sumP d h m s x, 0) := by
  rw [← parts_show d h m s x hh hm hs hx] at hl
  have hb : sumP d h m s x ≤ 1125899906842624 := by unfold sumP; omega
  have hn : sumP d h m s x ≠ 0 := by
    intro e
    rw [e] at hl
    rw [showJ_skip 5 0 0 (by omega) (by omega) (by decide)] at hl
    exact h0 hl
  have := showD_doc _ hb
  unfold showD at this
  rw [if_neg hn, ← hl] at this
  exact this
theorem lenA5 {α : Type} {L : List α} (h : L.length = 5) : ∃ a b c d e, L = [a, b, c, d, e] := by
  match L, h with
  | [a, b, c, d, e], _ => exact ⟨a, b, c, d, e, rfl⟩
theorem u16_nat {a : Int} (h : (Lit.int .u16 a).wf = true) : ∃ n : Nat, a = n ∧ n < 65536 := by
  have : 0 ≤ a ∧ a ≤ 65535 := by simpa [Lit.wf, IntKind.signed, IntKind.min, IntKind.max, IntKind.bits] using h
  exact ⟨a.toNat, by omega, by omega⟩
end Go.Proofs.YtaalfnfikjmomaaDoor
