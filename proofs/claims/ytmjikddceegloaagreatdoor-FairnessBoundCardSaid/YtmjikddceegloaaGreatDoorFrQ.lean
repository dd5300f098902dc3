/- The contracts of slices.Index and slices.Contains over strings (fairness). -/
import Derived.Test.YtmjikddceegloaaGreatDoorFrJ
namespace Go.Proofs.YtmjikddceegloaaGreatDoor
open Go.RowKit Go.Lib
set_option linter.unusedSimpArgs false

set_option maxRecDepth 100000 in
set_option maxHeartbeats 2000000 in
theorem index_any (v : Option Addr) (c : Nat) (P : List (List UInt8)) (key : ByteArray) (hl : P.length ≤ 1000000) (w : World) (hr : ReadsStr w v P) :
    Calls Tryz.prog 60 #[.slice v P.length c, .string key] w fun e w' => ∃ i : Int, e = .returned (.int .i64 i) ∧ w' = w ∧ (0 ≤ i ↔ key.data.toList ∈ P) := by
  have HR := Lib.hid hr
  clear hr
  go_enter Tryz.func60, Tryz.ntmps60
  go_wp2_with fail
  go_loopw [8] (fun s8 wr => ∃ j : Nat, j ≤ P.length ∧ s8 = .int .i64 (j : Int) ∧ Hid (∀ t (h : t < P.length), t < j → P[t] ≠ key.data.toList) ∧ Hid (wr = w)) (fun s8 _ => P.length - (RowKit.intOf s8).toNat)
  case atStart => exact ⟨0, by omega, rfl, Lib.hid (by omega), Lib.hid rfl⟩
  case round =>
    obtain ⟨j, hj, rfl, HD, HB⟩ := hrel
    obtain rfl := HB.out
    by_cases hlt : j < P.length
    · obtain ⟨b, off, rfl, h2, c0⟩ := HR.out j hlt
      have hjI : (j : Int) < (P.length : Int) := by omega
      by_cases he : P[j] = key.data.toList
      · have HF := Lib.hid (show key.data.toList ∈ P from he ▸ List.getElem_mem hlt)
        have hq : (key.toList == (⟨P[j].toArray⟩ : ByteArray).toList) = true := by rw [Lib.toList_data, Lib.toList_data, beq_iff_eq]; exact he.symm
        generalize (⟨P[j].toArray⟩ : ByteArray) = x at c0 hq
        clear he HD
        go_wp2_with fail
        go_ret
        exact ⟨(j : Int), rfl, rfl, fun _ => HF.out, fun _ => by omega⟩
      · have HF := Lib.hid (show ∀ t (h : t < P.length), t < j + 1 → P[t] ≠ key.data.toList from fun t ht h => by
          by_cases htj : t < j
          · exact HD.out t ht htj
          · obtain rfl : t = j := by omega
            exact he)
        have hq : (key.toList == (⟨P[j].toArray⟩ : ByteArray).toList) = false := by rw [Lib.toList_data, Lib.toList_data, beq_eq_false_iff_ne]; exact fun h => he h.symm
        generalize (⟨P[j].toArray⟩ : ByteArray) = x at c0 hq
        clear he HD
        go_wp2_with fail
        exact ⟨⟨j + 1, by omega, by go_num, HF, Lib.hid trivial⟩, by simp [RowKit.intOf]; omega⟩
    · obtain rfl : j = P.length := by omega
      have HF := Lib.hid (show key.data.toList ∉ P from fun h => by
        obtain ⟨t, ht, e⟩ := List.getElem_of_mem h
        exact HD.out t ht ht e)
      clear HD
      go_wp2_with fail
      go_ret
      exact ⟨-1, rfl, rfl, fun h => by omega, fun h => absurd h HF.out⟩
set_option maxHeartbeats 1000000 in
theorem contains_any (v : Option Addr) (c : Nat) (P : List (List UInt8)) (key : ByteArray) (b : Bool) (hb : b = true ↔ key.data.toList ∈ P) (hl : P.length ≤ 1000000) (w : World) (hr : ReadsStr w v P) :
    Calls Tryz.prog 39 #[.slice v P.length c, .string key] w fun e w' => e = .returned (.bool b) ∧ w' = w := by
  have I := Lib.hid (index_any v c P key hl w hr)
  have HB := Lib.hid hb
  clear hb hr
  go_enter Tryz.func39, Tryz.ntmps39
  go_wp2_with fail
  go_fit I.out
  rintro e w1 ⟨i, rfl, rfl, hi⟩
  have HI := Lib.hid hi
  clear hi
  go_wp2_with fail
  go_ret
  have hE : decide (0 ≤ i) = b := by rw [Bool.eq_iff_iff, decide_eq_true_iff]; exact HI.out.trans HB.out.symm
  exact ⟨by rw [← hE]; rfl, rfl⟩
end Go.Proofs.YtmjikddceegloaaGreatDoor
