/- The contracts of the document's split, part, Read and Label (label). -/
import Derived.Test.YtglckcenjnieaaaGreatDoorLdB
import Derived.Test.YtglckcenjnieaaaGreatDoorLdC
import Derived.Test.YtglckcenjnieaaaGreatDoorLaG
namespace Go.Proofs.YtglckcenjnieaaaGreatDoor
open Go.RowKit Go.Lib

theorem sliceL_to (s : ByteArray) (i : Int) (k : Nat) (hi : i = (k : Int)) (hk : k ≤ s.size) (w : World) : (Instr.sliceAt 9 (.string s) none (some (.int .i64 i)) none).run Tryz.prog w = .ok (.string ⟨(s.data.toList.take k).toArray⟩) w := by
  subst hi
  rw [run_sliceAt_string _ _ _ _ _ _ Tryz.underlying9, run_slice_string_to_if w 9 s .i64 (k : Int) Tryz.underlying9]
  rw [if_pos (by omega)]
  congr 2
  apply ByteArray.ext
  rw [ByteArray.data_extract]
  apply Array.ext'
  simp
theorem sliceL_from (s : ByteArray) (i : Int) (k : Nat) (hi : i = (k : Int)) (hk : k ≤ s.size) (w : World) : (Instr.sliceAt 9 (.string s) (some (.int .i64 i)) none none).run Tryz.prog w = .ok (.string ⟨(s.data.toList.drop k).toArray⟩) w := by
  subst hi
  rw [run_sliceAt_string _ _ _ _ _ _ Tryz.underlying9, run_slice_string_from_if w 9 s .i64 (k : Int) Tryz.underlying9]
  rw [if_pos (by omega)]
  congr 2
  apply ByteArray.ext
  rw [ByteArray.data_extract]
  apply Array.ext'
  have hsl : s.data.toList.length = s.size := Array.length_toList
  simp [List.take_of_length_le, hsl]
theorem cut_at {l : List UInt8} {j : Nat} (hj : j < l.length) (h : ∀ c ∈ l.take j, cutB c = false) (hc : cutB l[j] = true) : preP l = l.take j ∧ sufP l = l.drop j := by
  have e : l = l.take j ++ l[j] :: l.drop (j + 1) := by rw [← List.drop_eq_getElem_cons hj, List.take_append_drop]
  have := at_cut h hc (r := l.drop (j + 1))
  rw [← e, ← List.drop_eq_getElem_cons hj] at this
  exact this
theorem cut_end {l : List UInt8} (h : ∀ c ∈ l, cutB c = false) : preP l = l ∧ sufP l = [] := by
  unfold preP sufP
  have e1 : l.takeWhile (fun c => !cutB c) = l := by
    have := List.takeWhile_append_of_pos (p := fun c => !cutB c) (l₁ := l) (l₂ := []) (fun x hx => by simp [h x hx])
    simpa using this
  refine ⟨e1, ?_⟩
  have := List.takeWhile_append_dropWhile (p := fun c => !cutB c) (l := l)
  rw [e1] at this
  simpa using this
theorem cutB_iff (c : UInt8) : cutB c = true ↔ c.toNat = 60 ∨ c.toNat = 62 ∨ c.toNat = 61 := by
  unfold cutB
  simp only [Bool.or_eq_true, beq_iff_eq, ← UInt8.toNat_inj]
  rw [show (60 : UInt8).toNat = 60 from rfl, show (62 : UInt8).toNat = 62 from rfl, show (61 : UInt8).toNat = 61 from rfl, or_assoc]
set_option maxHeartbeats 2000000 in
theorem split_any (s : ByteArray) (hs : s.size ≤ 1099511627776) (w : World) :
    Calls Tryz.prog 54 #[.string s] w fun e w' => e = .returned (.tuple #[.string ⟨(preP s.data.toList).toArray⟩, .string ⟨(sufP s.data.toList).toArray⟩]) ∧ Below w.heap.size w w' := by
  have HSL := Lib.hid (show s.data.toList.length = s.size from Array.length_toList)
  obtain ⟨P, hP⟩ : ∃ P, P = preP s.data.toList := ⟨_, rfl⟩
  obtain ⟨R, hR⟩ : ∃ R, R = sufP s.data.toList := ⟨_, rfl⟩
  rw [← hP, ← hR]
  have HP := Lib.hid hP
  have HR := Lib.hid hR
  clear hP hR
  go_enter Tryz.func54, Tryz.ntmps54
  go_wp2_with fail
  go_loop [4] (fun s4 => ∃ j : Nat, j ≤ s.size ∧ s4 = .int .i64 (j : Int) ∧ Hid (∀ c ∈ s.data.toList.take j, cutB c = false)) (fun s4 => s.size - (RowKit.intOf s4).toNat)
  case atStart => exact ⟨0, by omega, rfl, Lib.hid (fun c hc => by simp at hc)⟩
  case round =>
    obtain ⟨j, hj, rfl, HA⟩ := hrel
    by_cases hlt : j < s.size
    · have hgj : s.data.toList[j]'(by rw [HSL.out]; exact hlt) = s[j] := rfl
      by_cases hc : cutB s[j] = true
      · have hat := cut_at (l := s.data.toList) (by rw [HSL.out]; exact hlt) HA.out (by rw [hgj]; exact hc)
        have sa := fun w => sliceL_to s (j : Int) j rfl (by omega) w
        have sb := fun w => sliceL_from s (j : Int) j rfl (by omega) w
        rw [← hat.1, ← HP.out] at sa
        rw [← hat.2, ← HR.out] at sb
        have h3 := (cutB_iff _).1 hc
        clear hat hc hgj
        rcases h3 with h3 | h3 | h3
        · have u1 : (((s[j].toNat : Nat) : Int) == 60) = true := by rw [beq_iff_eq]; omega
          clear h3
          go_wp2_with fail
          go_quiet (fail)
          go_wp2_with fail
          go_ret2
          exact ⟨rfl, below_drewN (Below.refl _ _) _⟩
        · have u1 : (((s[j].toNat : Nat) : Int) == 60) = false := by rw [beq_eq_false_iff_ne]; omega
          have u2 : (((s[j].toNat : Nat) : Int) == 62) = true := by rw [beq_iff_eq]; omega
          clear h3
          go_wp2_with fail
          go_quiet (fail)
          go_wp2_with fail
          go_ret2
          exact ⟨rfl, below_drewN (Below.refl _ _) _⟩
        · have u1 : (((s[j].toNat : Nat) : Int) == 60) = false := by rw [beq_eq_false_iff_ne]; omega
          have u2 : (((s[j].toNat : Nat) : Int) == 62) = false := by rw [beq_eq_false_iff_ne]; omega
          have u3 : (((s[j].toNat : Nat) : Int) == 61) = true := by rw [beq_iff_eq]; omega
          clear h3
          go_wp2_with fail
          go_quiet (fail)
          go_wp2_with fail
          go_ret2
          exact ⟨rfl, below_drewN (Below.refl _ _) _⟩
      · have HA2 := Lib.hid (show ∀ c ∈ s.data.toList.take (j + 1), cutB c = false by
          intro c hcm
          rw [List.take_succ_eq_append_getElem (by rw [HSL.out]; exact hlt)] at hcm
          rcases List.mem_append.1 hcm with h | h
          · exact HA.out c h
          · rw [List.mem_singleton.1 h]; exact Bool.not_eq_true _ ▸ hc)
        have h3 : ¬ (s[j].toNat = 60 ∨ s[j].toNat = 62 ∨ s[j].toNat = 61) := fun e => hc ((cutB_iff _).2 e)
        have u1 : (((s[j].toNat : Nat) : Int) == 60) = false := by rw [beq_eq_false_iff_ne]; omega
        have u2 : (((s[j].toNat : Nat) : Int) == 62) = false := by rw [beq_eq_false_iff_ne]; omega
        have u3 : (((s[j].toNat : Nat) : Int) == 61) = false := by rw [beq_eq_false_iff_ne]; omega
        clear h3 hc hgj
        go_wp2_with fail
        go_round
        case rel => exact ⟨j + 1, by omega, by go_num, HA2⟩
        case measure => simp [RowKit.intOf]; omega
    · obtain rfl : j = s.size := by omega
      have hta : s.data.toList.take s.size = s.data.toList := List.take_of_length_le (by rw [HSL.out]; exact Nat.le_refl _)
      have hen := cut_end (l := s.data.toList) (by rw [← hta]; exact HA.out)
      have HE := Lib.hid (show s = ⟨P.toArray⟩ by rw [HP.out, hen.1])
      have HF := Lib.hid (show R = [] by rw [HR.out, hen.2])
      clear hta hen
      go_wp2_with fail
      go_ret2
      exact ⟨by rw [← HE.out, HF.out]; rfl, Below.refl _ _⟩

/-- A part as a value. -/
def ofD (x : DPart) : Value := .agg #[.int .i64 x.1, .string ⟨x.2.1.toArray⟩, .int .i64 x.2.2]
theorem ofD_zero : ofD (0, [], 0) = .agg #[.int .i64 0, .string ⟨#[]⟩, .int .i64 0] := rfl
theorem mk_list (a : ByteArray) : (⟨a.data.toList.toArray⟩ : ByteArray) = a := by simp
set_option maxHeartbeats 2000000 in
theorem part_any (f : Int) (a n : ByteArray) (ha : a.size ≤ 1099511627776) (hn : n.size ≤ 1099511627776) (w : World) :
    Calls Tryz.prog 55 #[.int .i64 f, .string a, .string n] w fun e w' => e = .returned (ofD (partD f a.data.toList n.data.toList)) ∧ Below w.heap.size w w' := by
  have D := Lib.hid (fun w => digits_any n hn w)
  have N := Lib.hid (fun w => refName_any a (by omega) w)
  go_enter Tryz.func55, Tryz.ntmps55
  go_wp2_with fail
  go_fit (D.out _)
  rintro e w1 ⟨x, ok, rfl, hd, rfl⟩
  cases hk : numL n.data.toList with
  | none =>
    rw [hk] at hd
    obtain rfl : ok = false := hd
    have HV := Lib.hid (show partD f a.data.toList n.data.toList = (0, [], 0) from partD_no_num hk)
    clear hk
    go_wp2_with fail
    refine bodyPost_ret (v := .agg #[.int .i64 0, .string ⟨#[]⟩, .int .i64 0]) ?_ rfl ⟨by rw [HV.out]; rfl, ?_⟩
    · rw [results_cellL rfl]
      go_simp
    · exact (Below.refl _ _).alloc (Nat.le_refl _) _
  | some k =>
    rw [hk] at hd
    obtain ⟨rfl, rfl⟩ := hd
    cases hb : nameB a.data.toList
    · have HV := Lib.hid (show partD f a.data.toList n.data.toList = (0, [], 0) from partD_no_name (by rw [hb]; decide))
      rw [hb] at N
      clear hk hb
      go_wp2_with fail
      go_fit (N.out _)
      rintro e w2 ⟨rfl, rfl⟩
      go_wp2_with fail
      refine bodyPost_ret (v := .agg #[.int .i64 0, .string ⟨#[]⟩, .int .i64 0]) ?_ rfl ⟨by rw [HV.out]; rfl, ?_⟩
      · rw [results_cellL rfl]
        go_simp
      · exact (Below.refl _ _).alloc (Nat.le_refl _) _
    · have HV := Lib.hid (show ofD (partD f a.data.toList n.data.toList) = .agg #[.int .i64 f, .string a, .int .i64 (k : Int)] by
        unfold partD
        rw [hk]
        dsimp only
        rw [if_pos hb]
        unfold ofD
        dsimp only)
      rw [hb] at N
      clear hk hb
      go_wp2_with fail
      go_fit (N.out _)
      rintro e w2 ⟨rfl, rfl⟩
      go_wp2_with fail
      refine bodyPost_ret (v := .agg #[.int .i64 f, .string a, .int .i64 (k : Int)]) ?_ rfl ⟨by rw [HV.out], ?_⟩
      · rw [results_cellL rfl]
        go_simp
      · exact (Below.refl _ _).alloc (Nat.le_refl _) _
end Go.Proofs.YtglckcenjnieaaaGreatDoor
