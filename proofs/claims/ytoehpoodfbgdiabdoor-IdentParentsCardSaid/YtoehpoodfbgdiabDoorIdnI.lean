/- The contract of the document's Ascending (ident), and the plain function that it computes. -/
import Derived.Test.YtoehpoodfbgdiabDoorIdnG
namespace Go.Proofs.YtoehpoodfbgdiabDoor
open Go.RowKit Go.Lib

/-- Is each string less than the next one? -/
def ascB : List (List UInt8) → Bool
  | [] => true
  | [_] => true
  | x :: y :: r => decide (cmpL x y < 0) && ascB (y :: r)
theorem ascB_step {L : List (List UInt8)} {j : Nat} (h : j + 1 < L.length) : ascB (L.drop j) = (decide (cmpL (L[j]'(by omega)) L[j + 1] < 0) && ascB (L.drop (j + 1))) := by
  rw [List.drop_eq_getElem_cons (by omega), List.drop_eq_getElem_cons h, ascB, ← List.drop_eq_getElem_cons h]
theorem ascB_end {L : List (List UInt8)} {j : Nat} (h : L.length ≤ j + 1) : ascB (L.drop j) = true := by
  by_cases h2 : j < L.length
  · rw [List.drop_eq_getElem_cons h2, List.drop_eq_nil_of_le h, ascB]
  · rw [List.drop_eq_nil_of_le (by omega), ascB]

set_option maxHeartbeats 4000000 in
set_option maxRecDepth 100000 in
theorem refAscending_any (v : Option Addr) (cap : Nat) (L : List (List UInt8)) (hl : L.length ≤ 9223372036854775000) (hsz : ∀ x, x ∈ L → x.length ≤ 1099511627776) (w : World) (hr : ReadsStr w v L) :
    Calls Tryd.prog 28 #[.slice v L.length cap] w fun e w' => e = .returned (.bool (ascB L)) ∧ ∃ n, w' = w.drewN n := by
  have HR := Lib.hid hr
  have HSZ := Lib.hid hsz
  clear hr hsz
  go_enter Tryd.func28, Tryd.ntmps28
  go_wp2_with fail
  go_loopw [3] (fun s3 wr => ∃ j : Nat, j ≤ L.length ∧ s3 = .int .i64 ((j : Int) + 1) ∧ ascB L = ascB (L.drop j) ∧ ∃ n, wr = w.drewN n) (fun s3 _ => L.length + 1 - (RowKit.intOf s3).toNat)
  case atStart => exact ⟨0, by omega, rfl, by rw [List.drop_zero], 0, rfl⟩
  case round =>
    obtain ⟨j, hj, rfl, he, n0, hwr⟩ := hrel
    have HE := Lib.hid he
    have HW := Lib.hid hwr
    clear he
    by_cases hlt : j + 1 < L.length
    · have r1 := HR.out.drewN n0
      rw [← hwr] at r1
      obtain ⟨b, off, rfl, g2, g3⟩ := r1 j (by omega)
      obtain ⟨b', off', e', f2, f3⟩ := r1 (j + 1) hlt
      injection e' with e'
      injection e' with e1 e2 _
      subst e1 e2
      have hst := ascB_step hlt
      have hx9 := HSZ.out _ (List.getElem_mem (show j < L.length by omega))
      have hy9 := HSZ.out _ (List.getElem_mem hlt)
      obtain ⟨x, hx⟩ : ∃ x, x = L[j]'(by omega) := ⟨_, rfl⟩
      obtain ⟨y, hy⟩ : ∃ y, y = L[j + 1] := ⟨_, rfl⟩
      rw [← hx] at g3 hst hx9
      rw [← hy] at f3 hst hy9
      have C := fun w => refCompare_any ⟨x.toArray⟩ ⟨y.toArray⟩ (by rw [mkS_size]; exact hx9) (by rw [mkS_size]; exact hy9) w
      rw [show (⟨x.toArray⟩ : ByteArray).data.toList = x from rfl, show (⟨y.toArray⟩ : ByteArray).data.toList = y from rfl] at C
      obtain ⟨sx, hsx⟩ : ∃ s : ByteArray, s = ⟨x.toArray⟩ := ⟨_, rfl⟩
      obtain ⟨sy, hsy⟩ : ∃ s : ByteArray, s = ⟨y.toArray⟩ := ⟨_, rfl⟩
      rw [← hsx] at g3 C
      rw [← hsy] at f3 C
      obtain ⟨c, hc⟩ : ∃ c, c = cmpL x y := ⟨_, rfl⟩
      rw [← hc] at C hst
      have C := Lib.hid C
      have HST := Lib.hid hst
      have q1 : (0 : Int) ≤ (j : Int) ∧ (j : Int) + 1 < (L.length : Int) := by omega
      have q2 : IntKind.i64.wrap ((j : Int) + 1 - 1) = (j : Int) := by rw [IntWalk.i64_in _ (by omega)]; omega
      have q3 : ((j : Int) + 1).toNat = j + 1 := by omega
      have q4 : (0 : Int) ≤ (j : Int) + 1 := by omega
      clear hwr r1 hst hx hy hsx hsy hc hx9 hy9
      go_upto_region 4 with fail
      go_quiet ((go_at_call 24; exact Calls.quiet_of (C.out _)))
      clear q2 q3 q4
      by_cases hc0 : c < 0
      · have HN := Lib.hid (show ascB L = ascB (L.drop (j + 1)) by rw [HE.out, HST.out, decide_eq_true hc0]; rfl)
        have u1 : ¬ (0 : Int) ≤ c := by omega
        go_wp2_with fail
        exact ⟨⟨j + 1, by omega, by go_num, HN.out, _, by rw [HW.out, World.drewN_drewN]⟩, by simp [RowKit.intOf]; omega⟩
      · have HN := Lib.hid (show ascB L = false by rw [HE.out, HST.out, decide_eq_false hc0]; rfl)
        have u1 : (0 : Int) ≤ c := by omega
        go_wp2_with fail
        go_ret
        exact ⟨by rw [HN.out]; rfl, _, by rw [HW.out, World.drewN_drewN]⟩
    · have HN := Lib.hid (show ascB L = true by rw [HE.out]; exact ascB_end (by omega))
      clear hwr
      go_wp2_with fail
      go_ret
      exact ⟨by rw [HN.out]; rfl, _, HW.out⟩
end Go.Proofs.YtoehpoodfbgdiabDoor
