/- Contracts of the document's letter and Name (ident), and the plain functions that they compute. -/
import Derived.Test.YtmjikddceegloaaGreatDoorRows
import Derived.WalkKit
import Derived.WalkSpells
import Derived.WalkLawsBesides
import Derived.OwnWalk
import Derived.Lib.Hide
import Derived.Deep.DeepFit
import Derived.Outline
namespace Go.Proofs.YtmjikddceegloaaGreatDoor
open Go.RowKit Go.Lib

def letterB (c : Nat) : Bool := decide (97 ≤ c ∧ c ≤ 122) || decide (48 ≤ c ∧ c ≤ 57)
def okB (c : Nat) : Bool := letterB c || c == 95 || c == 45 || c == 46
/-- Is a string an identifier? -/
def nameB (l : List UInt8) : Bool := match l with
  | [] => false
  | c :: r => decide (r.length + 1 ≤ 64) && letterB c.toNat && (c :: r).all fun b => okB b.toNat

set_option maxHeartbeats 1000000 in
theorem refLetter_any (c : Nat) (hc : c < 256) (w : World) :
    Calls Tryz.prog 59 #[.int .u8 c] w fun e w' => e = .returned (.bool (letterB c)) ∧ w = w' := by
  have c9 : (0 : Int) ≤ c ∧ (c : Int) ≤ 255 := by omega
  by_cases h1 : 97 ≤ c
  · by_cases h2 : c ≤ 122
    · have hv := Lib.hid (show letterB c = true by unfold letterB; simp; omega)
      go_enter Tryz.func59, Tryz.ntmps59
      go_wp2_with fail
      go_ret
      exact ⟨by rw [hv.out]; simp <;> omega, rfl⟩
    · have hv := Lib.hid (show letterB c = false by unfold letterB; simp; omega)
      have c1 : ¬ (c : Int) ≤ 122 := by omega
      have c2 : ¬ (c : Int) ≤ 57 := by omega
      have c3 : (48 : Int) ≤ c := by omega
      go_enter Tryz.func59, Tryz.ntmps59
      go_wp2_with fail
      go_ret
      exact ⟨by rw [hv.out]; simp <;> omega, rfl⟩
  · by_cases h2 : 48 ≤ c
    · by_cases h3 : c ≤ 57
      · have hv := Lib.hid (show letterB c = true by unfold letterB; simp; omega)
        go_enter Tryz.func59, Tryz.ntmps59
        go_wp2_with fail
        go_ret
        exact ⟨by rw [hv.out]; simp <;> omega, rfl⟩
      · have hv := Lib.hid (show letterB c = false by unfold letterB; simp; omega)
        have c1 : ¬ (97 : Int) ≤ c := by omega
        have c2 : ¬ (c : Int) ≤ 57 := by omega
        go_enter Tryz.func59, Tryz.ntmps59
        go_wp2_with fail
        go_ret
        exact ⟨by rw [hv.out]; simp <;> omega, rfl⟩
    · have hv := Lib.hid (show letterB c = false by unfold letterB; simp; omega)
      have c1 : ¬ (97 : Int) ≤ c := by omega
      have c2 : ¬ (48 : Int) ≤ c := by omega
      go_enter Tryz.func59, Tryz.ntmps59
      go_wp2_with fail
      go_ret
      exact ⟨by rw [hv.out]; simp <;> omega, rfl⟩

set_option maxHeartbeats 2000000 in
set_option maxRecDepth 100000 in
theorem refName_any (s : ByteArray) (hs : s.size ≤ 9223372036854775807) (w : World) :
    Calls Tryz.prog 33 #[.string s] w fun e w' => e = .returned (.bool (nameB s.data.toList)) ∧ w = w' := by
  have hsl : s.data.toList.length = s.size := by rw [Array.length_toList]; rfl
  by_cases h1 : s.size < 1
  · have hl : s.data.toList = [] := List.eq_nil_of_length_eq_zero (by omega)
    have hv := Lib.hid (show nameB s.data.toList = false by rw [hl]; rfl)
    clear hl hsl
    go_enter Tryz.func33, Tryz.ntmps33
    go_wp2_with fail
    go_ret
    exact ⟨by rw [hv.out]; rfl, rfl⟩
  have hs3 : 0 < s.size := by omega
  have hcons : s.data.toList = s[0] :: s.data.toList.drop 1 := by
    have := List.drop_eq_getElem_cons (l := s.data.toList) (i := 0) (by omega)
    rw [List.drop_zero] at this
    exact this
  have hdl : (s.data.toList.drop 1).length + 1 = s.size := by rw [List.length_drop]; omega
  have hnb : nameB s.data.toList = (decide (s.size ≤ 64) && letterB s[0].toNat && s.data.toList.all fun b => okB b.toNat) := by
    have h2 : nameB (s[0] :: s.data.toList.drop 1) = (decide ((s.data.toList.drop 1).length + 1 ≤ 64) && letterB s[0].toNat && (s[0] :: s.data.toList.drop 1).all fun b => okB b.toNat) := rfl
    rw [hdl] at h2
    rwa [← hcons] at h2
  have HNB := Lib.hid hnb
  clear hcons hdl hnb
  by_cases h64 : 64 < s.size
  · have hv := Lib.hid (show nameB s.data.toList = false by rw [HNB.out]; simp; omega)
    have hs1 : ¬ (s.size : Int) < 1 := by omega
    clear hsl
    go_enter Tryz.func33, Tryz.ntmps33
    go_wp2_with fail
    go_ret
    exact ⟨by rw [hv.out]; rfl, rfl⟩
  have hs1 : ¬ (s.size : Int) < 1 := by omega
  have hs2 : ¬ (64 : Int) < (s.size : Int) := by omega
  have L0 := Lib.hid (fun w => refLetter_any s[0].toNat s[0].toNat_lt w)
  by_cases hlt0 : letterB s[0].toNat = true
  · have HX := Lib.hid (show nameB s.data.toList = s.data.toList.all fun b => okB b.toNat by rw [HNB.out, hlt0]; simp; omega)
    rw [hlt0] at L0
    have HSL := Lib.hid hsl
    clear hlt0 hsl
    go_enter Tryz.func33, Tryz.ntmps33
    go_wp2_with fail
    go_fit (L0.out _)
    rintro e w1 ⟨rfl, rfl⟩
    go_wp2_with fail
    go_loop [3] (fun s3 => ∃ i : Nat, i ≤ s.size ∧ s3 = .int .i64 i ∧ (s.data.toList.all fun b => okB b.toNat) = ((s.data.toList.drop i).all fun b => okB b.toNat)) (fun s3 => s.size - (RowKit.intOf s3).toNat)
    case atStart => exact ⟨0, by omega, rfl, by rw [List.drop_zero]⟩
    case round =>
      obtain ⟨i, hi, rfl, hall⟩ := hrel
      have HA := Lib.hid hall
      clear hall
      by_cases hlt : i < s.size
      · have hst : ((s.data.toList.drop i).all fun b => okB b.toNat) = (okB s[i].toNat && (s.data.toList.drop (i + 1)).all fun b => okB b.toNat) := by
          rw [List.drop_eq_getElem_cons (by rw [HSL.out]; exact hlt)]
          rfl
        have L1 := Lib.hid (fun w => refLetter_any s[i].toNat s[i].toNat_lt w)
        have hc9 := s[i].toNat_lt
        obtain ⟨c, hc⟩ : ∃ c, c = s[i].toNat := ⟨_, rfl⟩
        rw [← hc] at hst L1 hc9
        have HC := Lib.hid hc
        have c9 : (0 : Int) ≤ c ∧ (c : Int) ≤ 255 := by omega
        have HST := Lib.hid hst
        clear hst
        by_cases hok : okB c = true
        · have HE := Lib.hid (show (s.data.toList.all fun b => okB b.toNat) = ((s.data.toList.drop (i + 1)).all fun b => okB b.toNat) by rw [HA.out, HST.out, hok]; rfl)
          rw [hc] at L1
          by_cases hl : letterB c = true
          · rw [← hc, hl] at L1
            rw [hc] at L1
            clear hl hok hc
            go_wp2_with fail
            go_fit (L1.out _)
            rintro e w1 ⟨rfl, rfl⟩
            go_wp2_with fail
            go_round
            case rel => exact ⟨i + 1, by omega, by go_num, HE.out⟩
            case measure => simp [RowKit.intOf]; omega
          · have hl2 : letterB c = false := by simpa using hl
            rw [← hc, hl2] at L1
            rw [hc] at L1
            have h3 : c = 95 ∨ c = 45 ∨ c = 46 := by
              unfold okB at hok
              rw [hl2] at hok
              simp at hok
              omega
            clear hl hok hl2
            rcases h3 with h3 | h3 | h3
            · have u1 : (((s[i].toNat : Nat) : Int) != 95) = false := by rw [bne_eq_false_iff_eq]; omega
              clear hc h3
              go_wp2_with fail
              go_fit (L1.out _)
              rintro e w1 ⟨rfl, rfl⟩
              go_wp2_with fail
              go_round
              case rel => exact ⟨i + 1, by omega, by go_num, HE.out⟩
              case measure => simp [RowKit.intOf]; omega
            · have u1 : (((s[i].toNat : Nat) : Int) != 95) = true := by rw [bne_iff_ne]; omega
              have u2 : (((s[i].toNat : Nat) : Int) != 45) = false := by rw [bne_eq_false_iff_eq]; omega
              clear hc h3
              go_wp2_with fail
              go_fit (L1.out _)
              rintro e w1 ⟨rfl, rfl⟩
              go_wp2_with fail
              go_round
              case rel => exact ⟨i + 1, by omega, by go_num, HE.out⟩
              case measure => simp [RowKit.intOf]; omega
            · have u1 : (((s[i].toNat : Nat) : Int) != 95) = true := by rw [bne_iff_ne]; omega
              have u2 : (((s[i].toNat : Nat) : Int) != 45) = true := by rw [bne_iff_ne]; omega
              have u3 : (((s[i].toNat : Nat) : Int) != 46) = false := by rw [bne_eq_false_iff_eq]; omega
              clear hc h3
              go_wp2_with fail
              go_fit (L1.out _)
              rintro e w1 ⟨rfl, rfl⟩
              go_wp2_with fail
              go_round
              case rel => exact ⟨i + 1, by omega, by go_num, HE.out⟩
              case measure => simp [RowKit.intOf]; omega
        · have hok2 : okB c = false := by simpa using hok
          have HE := Lib.hid (show nameB s.data.toList = false by rw [HX.out, HA.out, HST.out, hok2]; rfl)
          have h3 : letterB c = false ∧ c ≠ 95 ∧ c ≠ 45 ∧ c ≠ 46 := by
            unfold okB at hok2
            simp at hok2
            exact ⟨hok2.1.1.1, hok2.1.1.2, hok2.1.2, hok2.2⟩
          obtain ⟨h4, h5, h6, h7⟩ := h3
          rw [h4, hc] at L1
          have u1 : (((s[i].toNat : Nat) : Int) != 95) = true := by rw [bne_iff_ne]; omega
          have u2 : (((s[i].toNat : Nat) : Int) != 45) = true := by rw [bne_iff_ne]; omega
          have u3 : (((s[i].toNat : Nat) : Int) != 46) = true := by rw [bne_iff_ne]; omega
          clear hc h4 h5 h6 h7 hok hok2
          go_wp2_with fail
          go_fit (L1.out _)
          rintro e w1 ⟨rfl, rfl⟩
          go_wp2_with fail
          go_ret
          exact ⟨by rw [HE.out]; rfl, rfl⟩
      · have HE := Lib.hid (show nameB s.data.toList = true by rw [HX.out, HA.out, List.drop_eq_nil_of_le (by rw [HSL.out]; omega)]; rfl)
        go_wp2_with fail
        go_ret
        exact ⟨by rw [HE.out]; rfl, rfl⟩
  · have hlt1 : letterB s[0].toNat = false := by simpa using hlt0
    have hv := Lib.hid (show nameB s.data.toList = false by rw [HNB.out, hlt1]; simp)
    rw [hlt1] at L0
    clear hlt0 hlt1 hsl
    go_enter Tryz.func33, Tryz.ntmps33
    go_wp2_with fail
    go_fit (L0.out _)
    rintro e w1 ⟨rfl, rfl⟩
    go_wp2_with fail
    go_ret
    exact ⟨by rw [hv.out]; rfl, rfl⟩
end Go.Proofs.YtmjikddceegloaaGreatDoor
