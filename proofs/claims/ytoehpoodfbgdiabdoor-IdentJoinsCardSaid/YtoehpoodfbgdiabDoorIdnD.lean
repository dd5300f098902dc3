/- The contract of the document's Same (ident). -/
import Derived.Test.YtoehpoodfbgdiabDoorBaseS
import Derived.BigQuiet
import Derived.Deep.QuietTactic
import Derived.Deep.DeepCutAuto
import Derived.Deep.CutBlock
namespace Go.Proofs.YtoehpoodfbgdiabDoor
open Go.RowKit Go.Lib
set_option maxHeartbeats 4000000 in
set_option maxRecDepth 100000 in
theorem refSameS_any (va vb : Option Addr) (ca cb : Nat) (A B : List (List UInt8)) (ha : A.length ≤ 9223372036854775807) (_hb : B.length ≤ 9223372036854775807) (w : World) (hra : ReadsStr w va A) (hrb : ReadsStr w vb B) :
    Calls Tryd.prog 18 #[.slice va A.length ca, .slice vb B.length cb] w fun e w' => e = .returned (.bool (decide (A = B))) ∧ ∃ n, w' = w.drewN n := by
  have HA := Lib.hid hra
  have HB := Lib.hid hrb
  clear hra hrb
  by_cases hl : A.length = B.length
  · have hll : ((A.length : Int) != (B.length : Int)) = false := by rw [bne_eq_false_iff_eq]; omega
    go_enter Tryd.func18, Tryd.ntmps18
    have HL := Lib.hid hl
    clear hl
    go_wp2_with fail
    go_loopw [5] (fun s5 wr => ∃ j : Nat, j ≤ A.length ∧ s5 = .int .i64 j ∧ A.take j = B.take j ∧ ∃ n, wr = w.drewN n) (fun s5 _ => A.length - (RowKit.intOf s5).toNat)
    case atStart => exact ⟨0, by omega, rfl, rfl, 0, rfl⟩
    case round =>
      obtain ⟨j, hj, rfl, htk, n0, hwr⟩ := hrel
      have HTK := Lib.hid htk
      clear htk
      by_cases hlt : j < A.length
      · have r1 := HA.out.drewN n0
        have r2 := HB.out.drewN n0
        rw [← hwr] at r1 r2
        have hltb : j < B.length := by have := HL.out; omega
        obtain ⟨b, off, rfl, g2, g3⟩ := r1 j hlt
        obtain ⟨b', off', rfl, f2, f3⟩ := r2 j hltb
        have HW := Lib.hid hwr
        have hta := List.take_succ_eq_append_getElem hlt
        have htb := List.take_succ_eq_append_getElem hltb
        obtain ⟨x, hx⟩ : ∃ x, x = A[j] := ⟨_, rfl⟩
        obtain ⟨y, hy⟩ : ∃ y, y = B[j] := ⟨_, rfl⟩
        rw [← hx] at g3 hta
        rw [← hy] at f3 htb
        obtain ⟨sx, hsx⟩ : ∃ s : ByteArray, s = ⟨x.toArray⟩ := ⟨_, rfl⟩
        obtain ⟨sy, hsy⟩ : ∃ s : ByteArray, s = ⟨y.toArray⟩ := ⟨_, rfl⟩
        rw [← hsx] at g3
        rw [← hsy] at f3
        have HTA := Lib.hid hta
        have HTB := Lib.hid htb
        have j0 : (0 : Int) ≤ (j : Int) := by omega
        have j1 : (j : Int) < (A.length : Int) := by omega
        have j2 : (j : Int) < (B.length : Int) := by omega
        by_cases hxy : x = y
        · have hss : sy = sx := by rw [hsx, hsy, hxy]
          subst hss
          have HN := Lib.hid (show A.take (j + 1) = B.take (j + 1) by rw [HTA.out, HTB.out, HTK.out, hxy])
          clear hwr hta htb hx hy hsx hsy hxy r1 r2
          go_upto_region 6 with fail
          go_quiet (fail)
          go_wp2_with fail
          exact ⟨⟨j + 1, by omega, by go_num, HN.out, n0 + _, by rw [HW.out, World.drewN_drewN]⟩, by simp [RowKit.intOf]; omega⟩
        · have hss : ¬ sx = sy := by
            rw [hsx, hsy]
            intro e
            injection e with e
            exact hxy (by simpa using e)
          have HN := Lib.hid (show decide (A = B) = false by
            rw [decide_eq_false_iff_not]
            intro e
            have h1 : A[j]? = B[j]? := by rw [e]
            rw [List.getElem?_eq_getElem hlt, List.getElem?_eq_getElem hltb, ← hx, ← hy] at h1
            injection h1 with h1
            exact hxy h1)
          have u1 : (sx.toList == sy.toList) = false := by
            rw [beq_eq_false_iff_ne, ByteArray.toList_eq, ByteArray.toList_eq]
            intro e
            rw [hsx, hsy] at e
            exact hxy e
          have u2 : (!sx.toList == sy.toList) = true := by rw [u1]; rfl
          clear hwr hta htb hx hy hsx hsy hxy r1 r2 hss
          go_upto_region 6 with fail
          go_quiet (fail)
          go_wp2_with fail
          go_ret
          exact ⟨by rw [HN.out]; rfl, n0 + _, by rw [HW.out, World.drewN_drewN]⟩
      · have HE := Lib.hid (show decide (A = B) = true by
          have h1 := HTK.out
          rw [List.take_of_length_le (by omega), List.take_of_length_le (by have := HL.out; omega)] at h1
          simpa using h1)
        have HW := Lib.hid hwr
        clear hwr
        go_wp2_with fail
        go_ret
        exact ⟨by rw [HE.out]; rfl, n0, HW.out⟩
  · have hll : ((A.length : Int) != (B.length : Int)) = true := by rw [bne_iff_ne]; omega
    have HE := Lib.hid (show decide (A = B) = false by
      rw [decide_eq_false_iff_not]
      intro e
      exact hl (by rw [e]))
    clear hl
    go_enter Tryd.func18, Tryd.ntmps18
    go_wp2_with fail
    go_ret
    exact ⟨by rw [HE.out]; rfl, 0, rfl⟩
end Go.Proofs.YtoehpoodfbgdiabDoor
