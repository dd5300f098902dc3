/- The document's right, Find, set and Same (fairness). -/
import Derived.Test.YtmjikddceegloaaGreatDoorFrQ
import Derived.Test.YtmjikddceegloaaGreatDoorIdnA
import Derived.Test.YtmjikddceegloaaGreatDoorIdnG
import Derived.Test.YtmjikddceegloaaGreatDoorRefC
namespace Go.Proofs.YtmjikddceegloaaGreatDoor
open Go.RowKit Go.Lib
set_option linter.unusedSimpArgs false

set_option maxRecDepth 100000 in
set_option maxHeartbeats 4000000 in
theorem refRight_any (s : Sha) (hs : s.prj.length ≤ 1000000) (w : World) :
    Calls Tryz.prog 46 #[shV s] w fun e w' => e = .returned (.bool (rightS s)) ∧ Below w.heap.size w w' := by
  obtain ⟨pl, g, v⟩ := s
  unfold shV
  dsimp only at hs ⊢
  obtain ⟨sx, hsx⟩ : ∃ s : ByteArray, s = ⟨pl.toArray⟩ := ⟨_, rfl⟩
  rw [← hsx]
  have hsl : sx.size ≤ 1000000 := by rw [hsx]; show pl.toArray.size ≤ _; simpa using hs
  have N := fun w => refName_any sx (by omega) w
  rw [show sx.data.toList = pl by rw [hsx]] at N
  have HX := Lib.hid (show rightS ⟨pl, g, v⟩ = (nameB pl && decide (1 ≤ g ∧ g ≤ 1000) && decide (0 ≤ v ∧ v ≤ 1125899906842624)) from rfl)
  have HB := Lib.hid ((Below.refl w.heap.size w).alloc (Nat.le_refl _) (.cells #[.string sx, .int .i64 g, .int .i64 v] 41))
  have T := ThH.new w (.string sx) (.int .i64 g) (.int .i64 v)
  obtain ⟨t0, t1, t2⟩ := T.facts
  generalize nameB pl = nb at *
  have N := Lib.hid N
  clear hsx hs hsl T
  by_cases g1 : 1 ≤ g <;> by_cases g2 : g ≤ 1000 <;> by_cases v1 : 0 ≤ v <;> by_cases v2 : v ≤ 1125899906842624 <;> cases nb
  all_goals first
  | (exfalso; omega)
  | skip
  all_goals
    have HE := Lib.hid HX.out
    simp [g1, g2, v1, v2] at HE
    go_enter Tryz.func46, Tryz.ntmps46
    go_wp2_with fail
    go_fit (N.out _)
    rintro e w2 ⟨rfl, rfl⟩
    go_wp2_with fail
    go_ret
    exact ⟨by rw [HX.out]; simp [g1, g2, v1, v2], HB.out⟩

/-- What Find answers. -/
def FindPostD (L : List Sha) (p : List UInt8) (i : Int) : Prop := (i = -1 ∧ ∀ k (h : k < L.length), L[k].prj ≠ p) ∨ ∃ k : Nat, i = k ∧ ∃ h : k < L.length, L[k].prj = p ∧ ∀ t (ht : t < k), (L[t]'(by omega)).prj ≠ p
set_option maxRecDepth 100000 in
set_option maxHeartbeats 2000000 in
theorem refFind_any (v : Option Addr) (c : Nat) (L : List Sha) (key : ByteArray) (hl : L.length ≤ 1000000) (w : World) (hr : ReadsH w v L) :
    Calls Tryz.prog 21 #[.slice v L.length c, .string key] w fun e w' => ∃ i : Int, e = .returned (.int .i64 i) ∧ w' = w ∧ FindPostD L key.data.toList i := by
  have HR := Lib.hid hr
  clear hr
  go_enter Tryz.func21, Tryz.ntmps21
  go_wp2_with fail
  go_loopw [5] (fun s5 wr => ∃ j : Nat, j ≤ L.length ∧ s5 = .int .i64 (j : Int) ∧ Hid (∀ t (h : t < L.length), t < j → L[t].prj ≠ key.data.toList) ∧ Hid (wr = w)) (fun s5 _ => L.length - (RowKit.intOf s5).toNat)
  case atStart => exact ⟨0, by omega, rfl, Lib.hid (by omega), Lib.hid rfl⟩
  case round =>
    obtain ⟨j, hj, rfl, HD, HB⟩ := hrel
    obtain rfl := HB.out
    by_cases hlt : j < L.length
    · obtain ⟨b, off, rfl, h2, c0, _, _⟩ := HR.out j hlt
      have hjI : (j : Int) < (L.length : Int) := by omega
      by_cases he : L[j].prj = key.data.toList
      · have HF := Lib.hid (show FindPostD L key.data.toList (j : Int) from .inr ⟨j, rfl, hlt, he, fun t ht => HD.out t (by omega) ht⟩)
        have hq : ((⟨L[j].prj.toArray⟩ : ByteArray).toList == key.toList) = true := by rw [Lib.toList_data, Lib.toList_data, beq_iff_eq]; exact he
        generalize (⟨L[j].prj.toArray⟩ : ByteArray) = x at c0 hq
        clear he HD
        go_wp2_with fail
        go_ret
        exact ⟨(j : Int), rfl, rfl, HF.out⟩
      · have HF := Lib.hid (show ∀ t (h : t < L.length), t < j + 1 → L[t].prj ≠ key.data.toList from fun t ht h => by
          by_cases htj : t < j
          · exact HD.out t ht htj
          · obtain rfl : t = j := by omega
            exact he)
        have hq : ((⟨L[j].prj.toArray⟩ : ByteArray).toList == key.toList) = false := by rw [Lib.toList_data, Lib.toList_data, beq_eq_false_iff_ne]; exact he
        generalize (⟨L[j].prj.toArray⟩ : ByteArray) = x at c0 hq
        clear he HD
        go_wp2_with fail
        exact ⟨⟨j + 1, by omega, by go_num, HF, Lib.hid trivial⟩, by simp [RowKit.intOf]; omega⟩
    · obtain rfl : j = L.length := by omega
      have HF := Lib.hid (show FindPostD L key.data.toList (-1) from .inl ⟨rfl, fun k hk => HD.out k hk hk⟩)
      clear HD
      go_wp2_with fail
      go_ret
      exact ⟨-1, rfl, rfl, HF.out⟩
end Go.Proofs.YtmjikddceegloaaGreatDoor
