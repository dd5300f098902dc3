/- Contracts of the program's Name, contains over strings, and valid (ident). -/
import Derived.Test.YtoehpoodfbgdiabDoorIdpA
import Derived.Test.YtoehpoodfbgdiabDoorIdnC
import Derived.Lib.Strings
namespace Go.Proofs.YtoehpoodfbgdiabDoor
open Go.RowKit Go.Lib

set_option maxHeartbeats 4000000 in
set_option maxRecDepth 100000 in
theorem idName_any (s : ByteArray) (hs : s.size ≤ 9223372036854775000) (w : World) :
    Calls Tryd.prog 12 #[.string s] w fun e w' => e = .returned (.bool (nameB s.data.toList)) ∧ Below w.heap.size w w' := by
  have hsl : s.data.toList.length = s.size := by rw [Array.length_toList]; rfl
  by_cases h1 : s.size < 1
  · have hl : s.data.toList = [] := List.eq_nil_of_length_eq_zero (by omega)
    have hv := Lib.hid (show nameB s.data.toList = false by rw [hl]; rfl)
    have hse : s.toList.isEmpty = true := by rw [Lib.toList_data, hl]; rfl
    clear hl hsl
    go_enter Tryd.func12, Tryd.ntmps12
    go_wp2_with fail
    go_ret
    exact ⟨by rw [hv.out]; rfl, Below.refl _ _⟩
  have hse : s.toList.isEmpty = false := by
    rw [Lib.toList_data]
    cases h : s.data.toList with
    | nil => rw [h] at hsl; simp at hsl; omega
    | cons a b => rfl
  have hs3 : 0 < s.size := by omega
  have hcons : s.data.toList = s[0] :: s.data.toList.drop 1 := by
    have := List.drop_eq_getElem_cons (l := s.data.toList) (i := 0) (by omega)
    rw [List.drop_zero] at this
    exact this
  have hdl : (s.data.toList.drop 1).length + 1 = s.size := by rw [List.length_drop]; omega
  have hnb : nameB s.data.toList = (decide (s.size ≤ 64) && letterB s[0].toNat && s.data.toList.all fun b => okB b.toNat) := by
    have h2 : nameB (s[0] :: s.data.toList.drop 1) = (decide ((s.data.toList.drop 1).length + 1 ≤ 64) && letterB s[0].toNat && (s[0] :: s.data.toList.drop 1).all fun b => okB b.toNat) := rfl
    rw [hdl] at h2
    rwa [← hcons] at h2
  rw [letterB_or] at hnb
  have HNB := Lib.hid hnb
  clear hcons hdl hnb
  by_cases h64 : 64 < s.size
  · have hv := Lib.hid (show nameB s.data.toList = false by rw [HNB.out]; simp; omega)
    have hs1 : decide ((64 : Int) < (s.size : Int)) = true := by simp; omega
    clear hsl h1
    go_enter Tryd.func12, Tryd.ntmps12
    go_wp2_with fail
    go_ret
    exact ⟨by rw [hv.out]; rfl, Below.refl _ _⟩
  have hs2 : ¬ (64 : Int) < (s.size : Int) := by omega
  have L0 := Lib.hid (fun w => idLetter_any s[0].toNat s[0].toNat_lt w)
  have D0 := Lib.hid (fun w => idDigit_any s[0].toNat s[0].toNat_lt w)
  have hcv := Lib.run_convert_string_bytes (P := Tryd.prog) w 9 47 5 s (u := .string) Tryd.underlying9 Tryd.underlying47 Tryd.underlying5
  have BW := Lib.hid (show Below w.heap.size w (Lib.bytesWorld w 5 s) from ⟨rfl, rfl, rfl, by rw [Lib.bytesWorld_size]; omega, fun j hj => Lib.bytesWorld_at_old w 5 s j hj⟩)
  have C := Lib.hid (fun cap => containsB_any (some ⟨w.heap.size, 0, none⟩) cap s.data.toList (by omega) (Lib.bytesWorld w 5 s) (by
    intro k hk
    refine ⟨w.heap.size, 0, rfl, by rw [Lib.bytesWorld_size]; omega, ?_⟩
    rw [Nat.zero_add, Lib.bytesWorld_cell w 5 s k (by omega)]
    rw [List.getD, List.getElem?_eq_getElem hk]
    rfl))
  rw [hsl] at C
  obtain ⟨W1, hW1⟩ : ∃ W1, W1 = Lib.bytesWorld w 5 s := ⟨_, rfl⟩
  rw [← hW1] at hcv BW C
  clear hW1 hsl h1 h64
  obtain ⟨q, hq⟩ : ∃ q, q = (s.data.toList.all fun b => okB b.toNat) := ⟨_, rfl⟩
  rw [← hq] at C HNB
  clear hq
  have HE := Lib.hid (fun (h : (letB s[0].toNat || digB s[0].toNat) = true) => show nameB s.data.toList = q by rw [HNB.out, h]; simp; omega)
  cases h1 : letB s[0].toNat
  · rw [h1] at L0
    cases h2 : digB s[0].toNat
    · rw [h2] at D0
      have HF := Lib.hid (show nameB s.data.toList = false by rw [HNB.out, h1, h2]; simp)
      clear h1 h2
      go_enter Tryd.func12, Tryd.ntmps12
      go_wp2_with fail
      go_fit (L0.out _)
      rintro e w1 ⟨rfl, rfl⟩
      go_wp2_with fail
      go_fit (D0.out _)
      rintro e w1 ⟨rfl, rfl⟩
      go_wp2_with fail
      go_ret
      exact ⟨by rw [HF.out]; rfl, Below.refl _ _⟩
    · rw [h2] at D0
      have HF := Lib.hid (HE.out (by rw [h1, h2]; rfl))
      clear h1 h2
      go_enter Tryd.func12, Tryd.ntmps12
      go_wp2_with fail
      go_fit (L0.out _)
      rintro e w1 ⟨rfl, rfl⟩
      go_wp2_with fail
      go_fit (D0.out _)
      rintro e w1 ⟨rfl, rfl⟩
      go_wp2_with fail
      go_fit (C.out _)
      rintro e w1 ⟨rfl, rfl⟩
      go_wp2_with fail
      go_ret
      exact ⟨by rw [HF.out, ← Bool.not_not q]; rfl, BW.out⟩
  · rw [h1] at L0
    have HF := Lib.hid (HE.out (by rw [h1]; rfl))
    clear h1
    go_enter Tryd.func12, Tryd.ntmps12
    go_wp2_with fail
    go_fit (L0.out _)
    rintro e w1 ⟨rfl, rfl⟩
    go_wp2_with fail
    go_fit (C.out _)
    rintro e w1 ⟨rfl, rfl⟩
    go_wp2_with fail
    go_ret
    exact ⟨by rw [HF.out, ← Bool.not_not q]; rfl, BW.out⟩
theorem valid1_any (s : ByteArray) (hs : s.size ≤ 9223372036854775000) (w : World) :
    Calls Tryd.prog 51 #[.string s] w fun e w' => e = .returned (.bool (!nameB s.data.toList)) ∧ Below w.heap.size w w' := by
  have H := Lib.hid (idName_any s hs w)
  clear hs
  go_enter Tryd.func51, Tryd.ntmps51
  go_wp2_with fail
  go_fit H.out
  rintro e w1 ⟨rfl, hb⟩
  have B := Lib.hid hb
  clear hb
  go_wp2_with fail
  go_ret
  exact ⟨rfl, B.out⟩

set_option maxHeartbeats 4000000 in
set_option maxRecDepth 100000 in
theorem containsS_any (v : Option Addr) (cap : Nat) (L : List (List UInt8)) (hl : L.length ≤ 9223372036854775000) (hsz : ∀ x, x ∈ L → x.length ≤ 9223372036854775000) (w : World) (hr : ReadsStr w v L) :
    Calls Tryd.prog 50 #[.slice v L.length cap, .func (.func 51) #[] #[]] w fun e w' => e = .returned (.bool (!L.all nameB)) ∧ Below w.heap.size w w' := by
  have HR := Lib.hid hr
  have HSZ := Lib.hid hsz
  clear hr hsz
  go_enter Tryd.func50, Tryd.ntmps50
  go_wp2_with fail
  go_loopw [9] (fun s9 wr => ∃ i : Nat, i ≤ L.length ∧ s9 = .int .i64 i ∧ L.all nameB = (L.drop i).all nameB ∧ Below w.heap.size w wr) (fun s9 _ => L.length - (RowKit.intOf s9).toNat)
  case atStart => exact ⟨0, by omega, rfl, rfl, Below.refl _ _⟩
  case round =>
    obtain ⟨i, hi, rfl, hd, hbel⟩ := hrel
    have HD := Lib.hid hd
    have HB := Lib.hid hbel
    have HR1 := Lib.hid (HR.out.below hbel)
    clear hd hbel
    by_cases hlt : i < L.length
    · obtain ⟨b, off, rfl, hb, hc⟩ := HR1.out i hlt
      have F := Lib.hid (fun w => valid1_any ⟨L[i].toArray⟩ (by show L[i].toArray.size ≤ _; rw [List.size_toArray]; exact HSZ.out _ (List.getElem_mem hlt)) w)
      have h1 : (L.drop i).all nameB = (nameB L[i] && (L.drop (i + 1)).all nameB) := by rw [List.drop_eq_getElem_cons hlt, List.all_cons]
      rw [show (⟨L[i].toArray⟩ : ByteArray).data.toList = L[i] by simp] at F
      generalize nameB L[i] = q at F h1
      generalize (⟨L[i].toArray⟩ : ByteArray) = x at hc F
      cases q
      · have HF := Lib.hid (show L.all nameB = false by rw [HD.out, h1]; rfl)
        clear h1
        go_wp2_with fail
        go_fit (F.out _)
        rintro e w1 ⟨rfl, hb2⟩
        have HB2 := Lib.hid (HB.out.trans (hb2.mono HB.out.size))
        clear hb2
        go_wp2_with fail
        go_ret
        exact ⟨by rw [HF.out]; rfl, HB2.out⟩
      · have HF := Lib.hid (show L.all nameB = (L.drop (i + 1)).all nameB by rw [HD.out, h1]; rfl)
        clear h1
        go_wp2_with fail
        go_fit (F.out _)
        rintro e w1 ⟨rfl, hb2⟩
        have HB2 := Lib.hid (HB.out.trans (hb2.mono HB.out.size))
        clear hb2
        go_wp2_with fail
        exact ⟨⟨i + 1, by omega, by go_num, HF.out, HB2.out⟩, by simp [RowKit.intOf]; omega⟩
    · obtain rfl : i = L.length := by omega
      have HF := Lib.hid (show L.all nameB = true by rw [HD.out]; simp)
      go_wp2_with fail
      go_ret
      exact ⟨by rw [HF.out]; rfl, HB.out⟩
theorem idValid_any (v : Option Addr) (cap : Nat) (L : List (List UInt8)) (hl : L.length ≤ 9223372036854775000) (hsz : ∀ x, x ∈ L → x.length ≤ 9223372036854775000) (w : World) (hr : ReadsStr w v L) :
    Calls Tryd.prog 29 #[.slice v L.length cap] w fun e w' => e = .returned (.bool (decide (0 < L.length) && L.all nameB)) ∧ Below w.heap.size w w' := by
  have H := Lib.hid (containsS_any v cap L hl hsz w hr)
  clear hl hsz hr
  by_cases h0 : 0 < L.length
  · have HQ := Lib.hid (show (decide (0 < L.length) && L.all nameB) = L.all nameB by simp [h0])
    generalize L.all nameB = q at H HQ
    go_enter Tryd.func29, Tryd.ntmps29
    go_wp2_with fail
    go_fit H.out
    rintro e w1 ⟨rfl, hb⟩
    have B := Lib.hid hb
    clear hb
    go_wp2_with fail
    go_ret
    exact ⟨by rw [HQ.out, ← Bool.not_not q]; rfl, B.out⟩
  · have HQ := Lib.hid (show (decide (0 < L.length) && L.all nameB) = false by simp [h0])
    go_enter Tryd.func29, Tryd.ntmps29
    go_wp2_with fail
    go_ret
    exact ⟨by rw [HQ.out]; rfl, Below.refl _ _⟩
end Go.Proofs.YtoehpoodfbgdiabDoor
