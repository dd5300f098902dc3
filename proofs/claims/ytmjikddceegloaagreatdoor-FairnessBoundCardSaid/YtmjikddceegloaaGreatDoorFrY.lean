/- The statement's few and the document's Same at equal lists (fairness). -/
import Derived.Test.YtmjikddceegloaaGreatDoorFrX
import Derived.Test.YtmjikddceegloaaGreatDoorFrT
namespace Go.Proofs.YtmjikddceegloaaGreatDoor
open Go.RowKit Go.Lib Go.Sort
set_option linter.unusedSimpArgs false

structure FewS (L : List Sha) : Prop where
  len : L.length ≤ 66
  names : ∀ i (h : i < L.length), L[i].prj.length ≤ 100
set_option maxRecDepth 100000 in
set_option maxHeartbeats 4000000 in
theorem few_any (v : Option Addr) (c : Nat) (L : List Sha) (b : Bool) (hb : b = true ↔ FewS L) (hl : L.length ≤ 9223372036854775000) (w : World) (hr : ReadsH w v L) :
    Calls Tryz.prog 9 #[.slice v L.length c] w fun e w' => e = .returned (.bool b) ∧ w' = w := by
  have HR := Lib.hid hr
  have HB := Lib.hid hb
  clear hr hb
  go_enter Tryz.func9, Tryz.ntmps9
  go_wp2_with fail
  go_loopw [3] (fun s3 wr => ∃ j : Nat, j ≤ L.length ∧ j ≤ 66 ∧ s3 = .int .i64 (j : Int) ∧ Hid (∀ i (h : i < L.length), i < j → L[i].prj.length ≤ 100) ∧ Hid (wr = w)) (fun s3 _ => L.length - (RowKit.intOf s3).toNat)
  case atStart => exact ⟨0, by omega, by omega, rfl, Lib.hid (by omega), Lib.hid rfl⟩
  case round =>
    obtain ⟨j, hj, hj66, rfl, HD, HW⟩ := hrel
    obtain rfl := HW.out
    by_cases hlt : j < L.length
    · have hjI : (j : Int) < (L.length : Int) := by omega
      have hj0 : (0 : Int) ≤ (j : Int) := by omega
      by_cases h66 : j < 66
      · have h66I : (j : Int) < 66 := by omega
        obtain ⟨bk, off, rfl, hbl, c0, _, _⟩ := HR.out j hlt
        have hsz : (⟨L[j].prj.toArray⟩ : ByteArray).size = L[j].prj.length := by show L[j].prj.toArray.size = _; simp
        by_cases hn : L[j].prj.length ≤ 100
        · have HN := Lib.hid (show ∀ i (h : i < L.length), i < j + 1 → L[i].prj.length ≤ 100 from fun i hi h => by
            by_cases e : i < j
            · exact HD.out i hi e
            · obtain rfl : i = j := by omega
              exact hn)
          generalize (⟨L[j].prj.toArray⟩ : ByteArray) = sx at *
          have hq : ¬ (100 : Int) < (sx.size : Int) := by omega
          clear hn hsz HD
          go_wp2_with fail
          exact ⟨⟨j + 1, by omega, by omega, by go_num, HN, Lib.hid trivial⟩, by simp [RowKit.intOf]; omega⟩
        · obtain rfl : b = false := by
            cases b
            · rfl
            · exact absurd ((HB.out.1 rfl).names j hlt) hn
          generalize (⟨L[j].prj.toArray⟩ : ByteArray) = sx at *
          have hq : (100 : Int) < (sx.size : Int) := by omega
          clear hn hsz HD
          go_wp2_with fail
          go_ret
          exact ⟨rfl, rfl⟩
      · have h66I : ¬ (j : Int) < 66 := by omega
        obtain rfl : b = false := by
          cases b
          · rfl
          · have := (HB.out.1 rfl).len
            omega
        have hq : ¬ (L.length : Int) ≤ 66 := by omega
        clear HD
        go_wp2_with fail
        go_ret
        exact ⟨rfl, rfl⟩
    · obtain rfl : j = L.length := by omega
      obtain rfl : b = true := HB.out.2 ⟨hj66, fun i h => HD.out i h h⟩
      have hq : (L.length : Int) ≤ 66 := by omega
      clear HD
      go_wp2_with fail
      go_ret
      exact ⟨rfl, rfl⟩
set_option maxRecDepth 100000 in
set_option maxHeartbeats 4000000 in
theorem same_any (v v' : Option Addr) (c c' : Nat) (L : List Sha) (hl : L.length ≤ 1000000) (w : World) (hr : ReadsH w v L) (hr' : ReadsH w v' L) :
    Calls Tryz.prog 13 #[.slice v L.length c, .slice v' L.length c'] w fun e w' => e = .returned (.bool true) ∧ Below w.heap.size w w' := by
  have HR := Lib.hid hr
  have HR' := Lib.hid hr'
  clear hr hr'
  go_enter Tryz.func13, Tryz.ntmps13
  go_wp2_with fail
  go_loopw [5] (fun s5 wr => ∃ j : Nat, j ≤ L.length ∧ s5 = .int .i64 (j : Int) ∧ Hid (Below w.heap.size w wr)) (fun s5 _ => L.length - (RowKit.intOf s5).toNat)
  case atStart => exact ⟨0, by omega, rfl, Lib.hid (Below.refl _ _)⟩
  case round =>
    obtain ⟨j, hj, rfl, HB⟩ := hrel
    by_cases hlt : j < L.length
    · obtain ⟨b1, o1, rfl, h1, c0, c1, c2⟩ := (HR.out.below HB.out) j hlt
      obtain ⟨b2, o2, rfl, h2, d0, d1, d2⟩ := (HR'.out.below HB.out) j hlt
      have hjI : (j : Int) < (L.length : Int) := by omega
      have hj0 : (0 : Int) ≤ (j : Int) := by omega
      generalize (⟨L[j].prj.toArray⟩ : ByteArray) = sx at *
      generalize L[j].wgt = g at *
      generalize L[j].srv = sv at *
      go_upto_region 6 with fail
      go_quiet (fail)
      have BQ := Lib.hid (below_drewN HB.out nq)
      go_wp2_with fail
      exact ⟨⟨j + 1, by omega, by go_num, BQ⟩, by simp [RowKit.intOf]; omega⟩
    · obtain rfl : j = L.length := by omega
      go_wp2_with fail
      go_ret
      exact ⟨rfl, HB.out⟩
end Go.Proofs.YtmjikddceegloaaGreatDoor
