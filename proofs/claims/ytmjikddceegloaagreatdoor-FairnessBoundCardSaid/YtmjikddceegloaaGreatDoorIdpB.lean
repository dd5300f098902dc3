/- Contracts of the program's Name, contains over strings, and valid (ident). -/
import Derived.Test.YtmjikddceegloaaGreatDoorIdpA
import Derived.Test.YtmjikddceegloaaGreatDoorIdnC
import Derived.Lib.Strings
namespace Go.Proofs.YtmjikddceegloaaGreatDoor
open Go.RowKit Go.Lib

set_option maxHeartbeats 4000000 in
set_option maxRecDepth 100000 in
theorem idName_any (s : ByteArray) (hs : s.size ≤ 9223372036854775000) (w : World) :
    Calls Tryz.prog 24 #[.string s] w fun e w' => e = .returned (.bool (nameB s.data.toList)) ∧ Below w.heap.size w w' := by
  have hsl : s.data.toList.length = s.size := by rw [Array.length_toList]; rfl
  by_cases h1 : s.size < 1
  · have hl : s.data.toList = [] := List.eq_nil_of_length_eq_zero (by omega)
    have hv := Lib.hid (show nameB s.data.toList = false by rw [hl]; rfl)
    have hse : s.toList.isEmpty = true := by rw [Lib.toList_data, hl]; rfl
    clear hl hsl
    go_enter Tryz.func24, Tryz.ntmps24
    go_wp2_with fail
    go_ret
    exact ⟨by rw [hv.out]; rfl, Below.refl _ _⟩
  have hse : s.toList.isEmpty = false := by
    rw [Lib.toList_data]
    cases h : s.data.toList with
    | nil => rw [h] at hsl; simp at hsl; omega
    | cons a b => rfl
  have hs3 : 0 < s.size := by omega
  have hcons : s.data.toList = s[0] :: s.data.toList.drop 1 := by
    have := List.drop_eq_getElem_cons (l := s.data.toList) (i := 0) (by omega)
    rw [List.drop_zero] at this
    exact this
  have hdl : (s.data.toList.drop 1).length + 1 = s.size := by rw [List.length_drop]; omega
  have hnb : nameB s.data.toList = (decide (s.size ≤ 64) && letterB s[0].toNat && s.data.toList.all fun b => okB b.toNat) := by
    have h2 : nameB (s[0] :: s.data.toList.drop 1) = (decide ((s.data.toList.drop 1).length + 1 ≤ 64) && letterB s[0].toNat && (s[0] :: s.data.toList.drop 1).all fun b => okB b.toNat) := rfl
    rw [hdl] at h2
    rwa [← hcons] at h2
  rw [letterB_or] at hnb
  have HNB := Lib.hid hnb
  clear hcons hdl hnb
  by_cases h64 : 64 < s.size
  · have hv := Lib.hid (show nameB s.data.toList = false by rw [HNB.out]; simp; omega)
    have hs1 : decide ((64 : Int) < (s.size : Int)) = true := by simp; omega
    clear hsl h1
    go_enter Tryz.func24, Tryz.ntmps24
    go_wp2_with fail
    go_ret
    exact ⟨by rw [hv.out]; rfl, Below.refl _ _⟩
  have hs2 : ¬ (64 : Int) < (s.size : Int) := by omega
  have L0 := Lib.hid (fun w => idLetter_any s[0].toNat s[0].toNat_lt w)
  have D0 := Lib.hid (fun w => idDigit_any s[0].toNat s[0].toNat_lt w)
  have hcv := Lib.run_convert_string_bytes (P := Tryz.prog) w 9 67 5 s (u := .string) Tryz.underlying9 Tryz.underlying67 Tryz.underlying5
  have BW := Lib.hid (show Below w.heap.size w (Lib.bytesWorld w 5 s) from ⟨rfl, rfl, rfl, by rw [Lib.bytesWorld_size]; omega, fun j hj => Lib.bytesWorld_at_old w 5 s j hj⟩)
  have C := Lib.hid (fun cap => containsB_any (some ⟨w.heap.size, 0, none⟩) cap s.data.toList (by omega) (Lib.bytesWorld w 5 s) (by
    intro k hk
    refine ⟨w.heap.size, 0, rfl, by rw [Lib.bytesWorld_size]; omega, ?_⟩
    rw [Nat.zero_add, Lib.bytesWorld_cell w 5 s k (by omega)]
    rw [List.getD, List.getElem?_eq_getElem hk]
    rfl))
  rw [hsl] at C
  obtain ⟨W1, hW1⟩ : ∃ W1, W1 = Lib.bytesWorld w 5 s := ⟨_, rfl⟩
  rw [← hW1] at hcv BW C
  clear hW1 hsl h1 h64
  obtain ⟨q, hq⟩ : ∃ q, q = (s.data.toList.all fun b => okB b.toNat) := ⟨_, rfl⟩
  rw [← hq] at C HNB
  clear hq
  have HE := Lib.hid (fun (h : (letB s[0].toNat || digB s[0].toNat) = true) => show nameB s.data.toList = q by rw [HNB.out, h]; simp; omega)
  cases h1 : letB s[0].toNat
  · rw [h1] at L0
    cases h2 : digB s[0].toNat
    · rw [h2] at D0
      have HF := Lib.hid (show nameB s.data.toList = false by rw [HNB.out, h1, h2]; simp)
      clear h1 h2
      go_enter Tryz.func24, Tryz.ntmps24
      go_wp2_with fail
      go_fit (L0.out _)
      rintro e w1 ⟨rfl, rfl⟩
      go_wp2_with fail
      go_fit (D0.out _)
      rintro e w1 ⟨rfl, rfl⟩
      go_wp2_with fail
      go_ret
      exact ⟨by rw [HF.out]; rfl, Below.refl _ _⟩
    · rw [h2] at D0
      have HF := Lib.hid (HE.out (by rw [h1, h2]; rfl))
      clear h1 h2
      go_enter Tryz.func24, Tryz.ntmps24
      go_wp2_with fail
      go_fit (L0.out _)
      rintro e w1 ⟨rfl, rfl⟩
      go_wp2_with fail
      go_fit (D0.out _)
      rintro e w1 ⟨rfl, rfl⟩
      go_wp2_with fail
      go_fit (C.out _)
      rintro e w1 ⟨rfl, rfl⟩
      go_wp2_with fail
      go_ret
      exact ⟨by rw [HF.out, ← Bool.not_not q]; rfl, BW.out⟩
  · rw [h1] at L0
    have HF := Lib.hid (HE.out (by rw [h1]; rfl))
    clear h1
    go_enter Tryz.func24, Tryz.ntmps24
    go_wp2_with fail
    go_fit (L0.out _)
    rintro e w1 ⟨rfl, rfl⟩
    go_wp2_with fail
    go_fit (C.out _)
    rintro e w1 ⟨rfl, rfl⟩
    go_wp2_with fail
    go_ret
    exact ⟨by rw [HF.out, ← Bool.not_not q]; rfl, BW.out⟩
end Go.Proofs.YtmjikddceegloaaGreatDoor
