/- The contract of the document's chosen (label). -/
import Derived.Test.YtglckcenjnieaaaGreatDoorLdK
import Derived.Test.YtglckcenjnieaaaGreatDoorLdI
namespace Go.Proofs.YtglckcenjnieaaaGreatDoor
open Go.RowKit Go.Lib
set_option linter.unusedSimpArgs false

theorem txt_mk (X : ByteArray) (d : List UInt8) : X ++ ⟨#[61]⟩ ++ ⟨d.toArray⟩ = (⟨(X.data.toList ++ 61 :: d).toArray⟩ : ByteArray) := by
  apply ByteArray.ext
  rw [ByteArray.data_append, ByteArray.data_append]
  apply Array.ext'
  simp
set_option maxHeartbeats 8000000 in
theorem chosen_any (X : ByteArray) (hX : X.size ≤ 1000000) (ab pl ab' pl' : Bool) (lo hi lo' hi' : Int) (h0 : 0 ≤ lo) (hm : lo ≤ 9007199254740992) (hm2 : hi ≤ 9007199254740992) (w : World) :
    Calls Tryz.prog 42 #[.string X, .agg #[.bool ab, .bool pl, .int .i64 lo, .int .i64 hi], .agg #[.bool ab', .bool pl', .int .i64 lo', .int .i64 hi']] w fun e w' => e = .returned (.string ⟨(chosenD X.data.toList ⟨ab, pl, lo, hi⟩ ⟨ab', pl', lo', hi'⟩).toArray⟩) ∧ Below w.heap.size w w' := by
  have dec : ∀ n : Int, 0 ≤ n → n ≤ 9007199254740992 → ∀ w, Calls Tryz.prog 64 #[.int .i64 n] w fun e w' => e = .returned (.string ⟨(Lib.decDigits n.toNat).toArray⟩) ∧ w = w' := fun n hn hn2 w => by
    have := decimal_any n.toNat (by omega) w
    rwa [Int.toNat_of_nonneg hn] at this
  have sz : ∀ n : Int, 0 ≤ n → n ≤ 9007199254740992 → (⟨(Lib.decDigits n.toNat).toArray⟩ : ByteArray).size ≤ 16 := fun n hn hn2 => by
    have := dec_len 15 n.toNat (by rw [show 10 ^ (15 + 1) = 10000000000000000 by decide]; omega)
    show (Lib.decDigits n.toNat).toArray.size ≤ 16
    simpa using this
  have DL := dec lo h0 hm
  have DH := fun h => dec hi h hm2
  have xlB := sz lo h0 hm
  have xhB := fun h => sz hi h hm2
  obtain ⟨Dl, hDl⟩ : ∃ D : ByteArray, D = ⟨(Lib.decDigits lo.toNat).toArray⟩ := ⟨_, rfl⟩
  obtain ⟨Dh, hDh⟩ : ∃ D : ByteArray, D = ⟨(Lib.decDigits hi.toNat).toArray⟩ := ⟨_, rfl⟩
  rw [← hDl] at DL xlB
  rw [← hDh] at DH xhB
  have DL := Lib.hid DL
  have DH := fun h => Lib.hid (DH h)
  have TL := Lib.hid (show X ++ ⟨#[61]⟩ ++ Dl = (⟨(X.data.toList ++ 61 :: Lib.decDigits lo.toNat).toArray⟩ : ByteArray) by rw [hDl, txt_mk])
  have TH := Lib.hid (show X ++ ⟨#[61]⟩ ++ Dh = (⟨(X.data.toList ++ 61 :: Lib.decDigits hi.toNat).toArray⟩ : ByteArray) by rw [hDh, txt_mk])
  have s1 := fun w => run_string_add_sum (P := Tryz.prog) w X ⟨#[61]⟩ (by have : (⟨#[61]⟩ : ByteArray).size = 1 := rfl; omega)
  have s2 := fun w => run_string_add_sum (P := Tryz.prog) w (X ++ ⟨#[61]⟩) Dl (by rw [ByteArray.size_append]; have : (⟨#[61]⟩ : ByteArray).size = 1 := rfl; omega)
  have s3 := fun h w => run_string_add_sum (P := Tryz.prog) w (X ++ ⟨#[61]⟩) Dh (by have := xhB h; rw [ByteArray.size_append]; have : (⟨#[61]⟩ : ByteArray).size = 1 := rfl; omega)
  clear hDl hDh
  obtain ⟨R, hR⟩ : ∃ R, R = chosenD X.data.toList ⟨ab, pl, lo, hi⟩ ⟨ab', pl', lo', hi'⟩ := ⟨_, rfl⟩
  rw [← hR]
  have HV := Lib.hid hR
  clear hR dec sz
  cases ab
  · cases pl
    · by_cases h1 : lo ≤ hi
      · have hhi : 0 ≤ hi := by omega
        by_cases h2 : hi' < lo'
        · have HN := Lib.hid (show R = X.data.toList ++ 61 :: Lib.decDigits lo.toNat by rw [HV.out]; unfold chosenD; simp [h1, h2])
          clear HV
          have DHH := DL
          have xhs := xlB
          go_enter Tryz.func42, Tryz.ntmps42
          go_wp2_with fail
          go_fit (DHH.out _)
          rintro e w1 ⟨rfl, rfl⟩
          go_wp2_with fail
          go_ret
          exact ⟨by rw [HN.out, ← TL.out]; rfl, ((Below.refl _ _).alloc (Nat.le_refl _) _).alloc (by simp) _⟩
        by_cases h3 : lo < lo'
        · have HN := Lib.hid (show R = X.data.toList ++ 61 :: Lib.decDigits lo.toNat by rw [HV.out]; unfold chosenD; simp [h1, h3])
          clear HV
          have DHH := DL
          have xhs := xlB
          go_enter Tryz.func42, Tryz.ntmps42
          go_wp2_with fail
          go_fit (DHH.out _)
          rintro e w1 ⟨rfl, rfl⟩
          go_wp2_with fail
          go_ret
          exact ⟨by rw [HN.out, ← TL.out]; rfl, ((Below.refl _ _).alloc (Nat.le_refl _) _).alloc (by simp) _⟩
        by_cases h4 : hi' < lo
        · have HN := Lib.hid (show R = X.data.toList ++ 61 :: Lib.decDigits lo.toNat by rw [HV.out]; unfold chosenD; simp [h1, h4])
          clear HV
          have DHH := DL
          have xhs := xlB
          go_enter Tryz.func42, Tryz.ntmps42
          go_wp2_with fail
          go_fit (DHH.out _)
          rintro e w1 ⟨rfl, rfl⟩
          go_wp2_with fail
          go_ret
          exact ⟨by rw [HN.out, ← TL.out]; rfl, ((Below.refl _ _).alloc (Nat.le_refl _) _).alloc (by simp) _⟩
        by_cases h5 : hi' < hi
        · have HN := Lib.hid (show R = X.data.toList ++ 61 :: Lib.decDigits hi.toNat by rw [HV.out]; unfold chosenD; simp [h1, h2, h3, h4, h5])
          clear HV
          have DHH := DH hhi
          have xhs := xhB hhi
          go_enter Tryz.func42, Tryz.ntmps42
          go_wp2_with fail
          go_fit (DHH.out _)
          rintro e w1 ⟨rfl, rfl⟩
          go_wp2_with fail
          go_ret
          exact ⟨by rw [HN.out, ← TH.out]; rfl, ((Below.refl _ _).alloc (Nat.le_refl _) _).alloc (by simp) _⟩
        have HN := Lib.hid (show R = X.data.toList ++ 61 :: Lib.decDigits lo.toNat by rw [HV.out]; unfold chosenD; simp [h1, h2, h3, h4, h5])
        clear HV
        have DHH := DL
        have xhs := xlB
        go_enter Tryz.func42, Tryz.ntmps42
        go_wp2_with fail
        go_fit (DHH.out _)
        rintro e w1 ⟨rfl, rfl⟩
        go_wp2_with fail
        go_ret
        exact ⟨by rw [HN.out, ← TL.out]; rfl, ((Below.refl _ _).alloc (Nat.le_refl _) _).alloc (by simp) _⟩
      · have HN := Lib.hid (show R = X.data.toList ++ 61 :: Lib.decDigits lo.toNat by rw [HV.out]; unfold chosenD; simp [h1])
        clear HV
        have DHH := DL
        have xhs := xlB
        go_enter Tryz.func42, Tryz.ntmps42
        go_wp2_with fail
        go_fit (DHH.out _)
        rintro e w1 ⟨rfl, rfl⟩
        go_wp2_with fail
        go_ret
        exact ⟨by rw [HN.out, ← TL.out]; rfl, ((Below.refl _ _).alloc (Nat.le_refl _) _).alloc (by simp) _⟩
    · cases pl'
      · have HN := Lib.hid (show R = X.data.toList by rw [HV.out]; unfold chosenD; simp)
        clear HV
        go_enter Tryz.func42, Tryz.ntmps42
        go_wp2_with fail
        go_ret
        exact ⟨by rw [HN.out, mk_list]; rfl, ((Below.refl _ _).alloc (Nat.le_refl _) _).alloc (by simp) _⟩
      · by_cases h1 : lo ≤ hi
        · have hhi : 0 ≤ hi := by omega
          by_cases h2 : hi' < lo'
          · have HN := Lib.hid (show R = X.data.toList ++ 61 :: Lib.decDigits lo.toNat by rw [HV.out]; unfold chosenD; simp [h1, h2])
            clear HV
            have DHH := DL
            have xhs := xlB
            go_enter Tryz.func42, Tryz.ntmps42
            go_wp2_with fail
            go_fit (DHH.out _)
            rintro e w1 ⟨rfl, rfl⟩
            go_wp2_with fail
            go_ret
            exact ⟨by rw [HN.out, ← TL.out]; rfl, ((Below.refl _ _).alloc (Nat.le_refl _) _).alloc (by simp) _⟩
          by_cases h3 : lo < lo'
          · have HN := Lib.hid (show R = X.data.toList ++ 61 :: Lib.decDigits lo.toNat by rw [HV.out]; unfold chosenD; simp [h1, h3])
            clear HV
            have DHH := DL
            have xhs := xlB
            go_enter Tryz.func42, Tryz.ntmps42
            go_wp2_with fail
            go_fit (DHH.out _)
            rintro e w1 ⟨rfl, rfl⟩
            go_wp2_with fail
            go_ret
            exact ⟨by rw [HN.out, ← TL.out]; rfl, ((Below.refl _ _).alloc (Nat.le_refl _) _).alloc (by simp) _⟩
          by_cases h4 : hi' < lo
          · have HN := Lib.hid (show R = X.data.toList ++ 61 :: Lib.decDigits lo.toNat by rw [HV.out]; unfold chosenD; simp [h1, h4])
            clear HV
            have DHH := DL
            have xhs := xlB
            go_enter Tryz.func42, Tryz.ntmps42
            go_wp2_with fail
            go_fit (DHH.out _)
            rintro e w1 ⟨rfl, rfl⟩
            go_wp2_with fail
            go_ret
            exact ⟨by rw [HN.out, ← TL.out]; rfl, ((Below.refl _ _).alloc (Nat.le_refl _) _).alloc (by simp) _⟩
          by_cases h5 : hi' < hi
          · have HN := Lib.hid (show R = X.data.toList ++ 61 :: Lib.decDigits hi.toNat by rw [HV.out]; unfold chosenD; simp [h1, h2, h3, h4, h5])
            clear HV
            have DHH := DH hhi
            have xhs := xhB hhi
            go_enter Tryz.func42, Tryz.ntmps42
            go_wp2_with fail
            go_fit (DHH.out _)
            rintro e w1 ⟨rfl, rfl⟩
            go_wp2_with fail
            go_ret
            exact ⟨by rw [HN.out, ← TH.out]; rfl, ((Below.refl _ _).alloc (Nat.le_refl _) _).alloc (by simp) _⟩
          have HN := Lib.hid (show R = X.data.toList by rw [HV.out]; unfold chosenD; simp [h1, h2, h3, h4, h5])
          clear HV
          go_enter Tryz.func42, Tryz.ntmps42
          go_wp2_with fail
          go_ret
          exact ⟨by rw [HN.out, mk_list]; rfl, ((Below.refl _ _).alloc (Nat.le_refl _) _).alloc (by simp) _⟩
        · have HN := Lib.hid (show R = X.data.toList by rw [HV.out]; unfold chosenD; simp [h1])
          clear HV
          go_enter Tryz.func42, Tryz.ntmps42
          go_wp2_with fail
          go_ret
          exact ⟨by rw [HN.out, mk_list]; rfl, ((Below.refl _ _).alloc (Nat.le_refl _) _).alloc (by simp) _⟩
  · cases ab'
    · have HN := Lib.hid (show R = [] by rw [HV.out]; unfold chosenD; simp)
      clear HV
      go_enter Tryz.func42, Tryz.ntmps42
      go_wp2_with fail
      go_ret
      exact ⟨by rw [HN.out]; rfl, ((Below.refl _ _).alloc (Nat.le_refl _) _).alloc (by simp) _⟩
    · cases pl
      · by_cases h1 : lo ≤ hi
        · have hhi : 0 ≤ hi := by omega
          by_cases h2 : hi' < lo'
          · have HN := Lib.hid (show R = X.data.toList ++ 61 :: Lib.decDigits lo.toNat by rw [HV.out]; unfold chosenD; simp [h1, h2])
            clear HV
            have DHH := DL
            have xhs := xlB
            go_enter Tryz.func42, Tryz.ntmps42
            go_wp2_with fail
            go_fit (DHH.out _)
            rintro e w1 ⟨rfl, rfl⟩
            go_wp2_with fail
            go_ret
            exact ⟨by rw [HN.out, ← TL.out]; rfl, ((Below.refl _ _).alloc (Nat.le_refl _) _).alloc (by simp) _⟩
          by_cases h3 : lo < lo'
          · have HN := Lib.hid (show R = X.data.toList ++ 61 :: Lib.decDigits lo.toNat by rw [HV.out]; unfold chosenD; simp [h1, h3])
            clear HV
            have DHH := DL
            have xhs := xlB
            go_enter Tryz.func42, Tryz.ntmps42
            go_wp2_with fail
            go_fit (DHH.out _)
            rintro e w1 ⟨rfl, rfl⟩
            go_wp2_with fail
            go_ret
            exact ⟨by rw [HN.out, ← TL.out]; rfl, ((Below.refl _ _).alloc (Nat.le_refl _) _).alloc (by simp) _⟩
          by_cases h4 : hi' < lo
          · have HN := Lib.hid (show R = X.data.toList ++ 61 :: Lib.decDigits lo.toNat by rw [HV.out]; unfold chosenD; simp [h1, h4])
            clear HV
            have DHH := DL
            have xhs := xlB
            go_enter Tryz.func42, Tryz.ntmps42
            go_wp2_with fail
            go_fit (DHH.out _)
            rintro e w1 ⟨rfl, rfl⟩
            go_wp2_with fail
            go_ret
            exact ⟨by rw [HN.out, ← TL.out]; rfl, ((Below.refl _ _).alloc (Nat.le_refl _) _).alloc (by simp) _⟩
          by_cases h5 : hi' < hi
          · have HN := Lib.hid (show R = X.data.toList ++ 61 :: Lib.decDigits hi.toNat by rw [HV.out]; unfold chosenD; simp [h1, h2, h3, h4, h5])
            clear HV
            have DHH := DH hhi
            have xhs := xhB hhi
            go_enter Tryz.func42, Tryz.ntmps42
            go_wp2_with fail
            go_fit (DHH.out _)
            rintro e w1 ⟨rfl, rfl⟩
            go_wp2_with fail
            go_ret
            exact ⟨by rw [HN.out, ← TH.out]; rfl, ((Below.refl _ _).alloc (Nat.le_refl _) _).alloc (by simp) _⟩
          have HN := Lib.hid (show R = [] by rw [HV.out]; unfold chosenD; simp [h1, h2, h3, h4, h5])
          clear HV
          go_enter Tryz.func42, Tryz.ntmps42
          go_wp2_with fail
          go_ret
          exact ⟨by rw [HN.out]; rfl, ((Below.refl _ _).alloc (Nat.le_refl _) _).alloc (by simp) _⟩
        · have HN := Lib.hid (show R = [] by rw [HV.out]; unfold chosenD; simp [h1])
          clear HV
          go_enter Tryz.func42, Tryz.ntmps42
          go_wp2_with fail
          go_ret
          exact ⟨by rw [HN.out]; rfl, ((Below.refl _ _).alloc (Nat.le_refl _) _).alloc (by simp) _⟩
      · cases pl'
        · have HN := Lib.hid (show R = X.data.toList by rw [HV.out]; unfold chosenD; simp)
          clear HV
          go_enter Tryz.func42, Tryz.ntmps42
          go_wp2_with fail
          go_ret
          exact ⟨by rw [HN.out, mk_list]; rfl, ((Below.refl _ _).alloc (Nat.le_refl _) _).alloc (by simp) _⟩
        · by_cases h1 : lo ≤ hi
          · have hhi : 0 ≤ hi := by omega
            by_cases h2 : hi' < lo'
            · have HN := Lib.hid (show R = X.data.toList ++ 61 :: Lib.decDigits lo.toNat by rw [HV.out]; unfold chosenD; simp [h1, h2])
              clear HV
              have DHH := DL
              have xhs := xlB
              go_enter Tryz.func42, Tryz.ntmps42
              go_wp2_with fail
              go_fit (DHH.out _)
              rintro e w1 ⟨rfl, rfl⟩
              go_wp2_with fail
              go_ret
              exact ⟨by rw [HN.out, ← TL.out]; rfl, ((Below.refl _ _).alloc (Nat.le_refl _) _).alloc (by simp) _⟩
            by_cases h3 : lo < lo'
            · have HN := Lib.hid (show R = X.data.toList ++ 61 :: Lib.decDigits lo.toNat by rw [HV.out]; unfold chosenD; simp [h1, h3])
              clear HV
              have DHH := DL
              have xhs := xlB
              go_enter Tryz.func42, Tryz.ntmps42
              go_wp2_with fail
              go_fit (DHH.out _)
              rintro e w1 ⟨rfl, rfl⟩
              go_wp2_with fail
              go_ret
              exact ⟨by rw [HN.out, ← TL.out]; rfl, ((Below.refl _ _).alloc (Nat.le_refl _) _).alloc (by simp) _⟩
            by_cases h4 : hi' < lo
            · have HN := Lib.hid (show R = X.data.toList ++ 61 :: Lib.decDigits lo.toNat by rw [HV.out]; unfold chosenD; simp [h1, h4])
              clear HV
              have DHH := DL
              have xhs := xlB
              go_enter Tryz.func42, Tryz.ntmps42
              go_wp2_with fail
              go_fit (DHH.out _)
              rintro e w1 ⟨rfl, rfl⟩
              go_wp2_with fail
              go_ret
              exact ⟨by rw [HN.out, ← TL.out]; rfl, ((Below.refl _ _).alloc (Nat.le_refl _) _).alloc (by simp) _⟩
            by_cases h5 : hi' < hi
            · have HN := Lib.hid (show R = X.data.toList ++ 61 :: Lib.decDigits hi.toNat by rw [HV.out]; unfold chosenD; simp [h1, h2, h3, h4, h5])
              clear HV
              have DHH := DH hhi
              have xhs := xhB hhi
              go_enter Tryz.func42, Tryz.ntmps42
              go_wp2_with fail
              go_fit (DHH.out _)
              rintro e w1 ⟨rfl, rfl⟩
              go_wp2_with fail
              go_ret
              exact ⟨by rw [HN.out, ← TH.out]; rfl, ((Below.refl _ _).alloc (Nat.le_refl _) _).alloc (by simp) _⟩
            have HN := Lib.hid (show R = [] by rw [HV.out]; unfold chosenD; simp [h1, h2, h3, h4, h5])
            clear HV
            go_enter Tryz.func42, Tryz.ntmps42
            go_wp2_with fail
            go_ret
            exact ⟨by rw [HN.out]; rfl, ((Below.refl _ _).alloc (Nat.le_refl _) _).alloc (by simp) _⟩
          · have HN := Lib.hid (show R = [] by rw [HV.out]; unfold chosenD; simp [h1])
            clear HV
            go_enter Tryz.func42, Tryz.ntmps42
            go_wp2_with fail
            go_ret
            exact ⟨by rw [HN.out]; rfl, ((Below.refl _ _).alloc (Nat.le_refl _) _).alloc (by simp) _⟩
end Go.Proofs.YtglckcenjnieaaaGreatDoor
