/- The contract of the document's digits (label). -/
import Derived.Test.YtglckcenjnieaaaGreatDoorLdA
import Derived.Test.YtglckcenjnieaaaGreatDoorLaE
namespace Go.Proofs.YtglckcenjnieaaaGreatDoor
open Go.RowKit Go.Lib

def DigR (o : Option Nat) (n : Int) (ok : Bool) : Prop := match o with
  | none => ok = false
  | some k => ok = true ∧ n = k
def DigPost (l : List UInt8) (w : World) (e : Ending) (w' : World) : Prop := ∃ (n : Int) (ok : Bool), e = .returned (.tuple #[.int .i64 n, .bool ok]) ∧ DigR (numL l) n ok ∧ w = w'
theorem DigPost.no {l : List UInt8} (h : numL l = none) (n : Int) (w : World) : DigPost l w (.returned (.tuple #[.int .i64 n, .bool false])) w := ⟨n, false, rfl, by rw [h]; rfl, rfl⟩
theorem unD_take {l : List UInt8} {j : Nat} (h : j < l.length) : unD (l.take (j + 1)) = 10 * unD (l.take j) + (l[j].toNat - 48) := by
  rw [List.take_succ_eq_append_getElem h, unD_snoc]
theorem DigPost.yes {l : List UInt8} (h : canB l = true) (w : World) : DigPost l w (.returned (.tuple #[.int .i64 (unD l), .bool (decide ((unD l : Int) ≤ 9007199254740992))])) w := by
  refine ⟨unD l, _, rfl, ?_, rfl⟩
  unfold numL DigR
  by_cases hu : unD l ≤ 9007199254740992
  · rw [if_pos ⟨h, hu⟩]
    simp
    omega
  · rw [if_neg (fun e => hu e.2)]
    simp
    omega
set_option maxHeartbeats 2000000 in
theorem digits_any (s : ByteArray) (hs : s.size ≤ 1099511627776) (w : World) :
    Calls Tryz.prog 78 #[.string s] w (DigPost s.data.toList w) := by
  have HSL := Lib.hid (show s.data.toList.length = s.size from Array.length_toList)
  by_cases h0 : s.size = 0
  · obtain rfl : s = ⟨#[]⟩ := by
      obtain ⟨⟨x⟩⟩ := s
      have : x.length = 0 := h0
      rw [List.length_eq_zero_iff.1 this]
    have HN := Lib.hid (show numL [] = none by decide)
    clear HSL
    go_enter Tryz.func78, Tryz.ntmps78
    go_wp2_with fail
    go_ret2
    exact DigPost.no HN.out _ _
  · have hne : s.toList.isEmpty = false := by
      rw [Lib.toList_data]
      cases h : s.data.toList with
      | nil => exact absurd (by rw [← HSL.out, h]; rfl) h0
      | cons a r => rfl
    have hn2 : ¬ s.toList = [] := fun e => by rw [e] at hne; cases hne
    by_cases h16 : 16 < s.size
    · have g1 : (16 : Int) < (s.size : Int) := by omega
      have HN := Lib.hid (numL_long (l := s.data.toList) (by rw [HSL.out]; exact h16))
      go_enter Tryz.func78, Tryz.ntmps78
      go_wp2_with fail
      go_ret2
      exact DigPost.no HN.out _ _
    · have g1 : ¬ (16 : Int) < (s.size : Int) := by omega
      have h00 : 0 < s.size := by omega
      have h00' : (0 : Int) < (s.size : Int) := by omega
      by_cases h1 : 1 < s.size ∧ s[0].toNat = 48
      · have g2 : (1 : Int) < (s.size : Int) := by omega
        have g3 : s[0].toNat = 48 := h1.2
        have HN := Lib.hid (show numL s.data.toList = none by
          unfold numL
          refine if_neg fun ⟨hc, _⟩ => ((canB_iff _).1 hc).2.1 ⟨by rw [HSL.out]; omega, ?_⟩
          rw [List.head?_eq_getElem?, List.getElem?_eq_getElem (by rw [HSL.out]; omega)]
          congr 1
          exact UInt8.toNat_inj.1 g3)
        clear h1
        go_enter Tryz.func78, Tryz.ntmps78
        go_wp2_with fail
        go_ret2
        exact DigPost.no HN.out _ _
      · have HH := Lib.hid (show ¬ (1 < s.data.toList.length ∧ s.data.toList.head? = some 48) from fun ⟨e1, e2⟩ => h1 ⟨by rw [← HSL.out]; exact e1, by
          rw [List.head?_eq_getElem?, List.getElem?_eq_getElem (by rw [HSL.out]; omega)] at e2
          injection e2 with e2
          have : s[0] = 48 := e2
          rw [this]; rfl⟩)
        by_cases h2 : 1 < s.size
        · have g2 : (1 : Int) < (s.size : Int) := by omega
          have g3 : ¬ s[0].toNat = 48 := fun e => h1 ⟨h2, e⟩
          clear h1
          go_enter Tryz.func78, Tryz.ntmps78
          go_wp2_with fail
          go_loop [4, 5] (fun s4 s5 => ∃ j : Nat, j ≤ s.size ∧ s4 = .int .i64 (unD (s.data.toList.take j) : Nat) ∧ s5 = .int .i64 (j : Int) ∧ ∀ c ∈ s.data.toList.take j, isD c = true) (fun s4 s5 => s.size - (RowKit.intOf s5).toNat)
          case atStart => exact ⟨0, by omega, rfl, rfl, (fun c hc => by simp at hc)⟩
          case round =>
            obtain ⟨j, hj, rfl, rfl, hall⟩ := hrel
            have HA := Lib.hid hall
            have hlt16 := unD_lt _ hall
            clear hall
            by_cases hlt : j < s.size
            · have hjl : j < s.data.toList.length := by rw [HSL.out]; exact hlt
              have hgj : s.data.toList[j] = s[j] := rfl
              by_cases hd : isD s[j] = true
              · have hdd := (isD_iff _).1 hd
                have hb : unD (s.data.toList.take j) < 10000000000000000 := by
                  refine Nat.lt_of_lt_of_le hlt16 (Nat.le_trans (Nat.pow_le_pow_right (by decide) (show (s.data.toList.take j).length ≤ 16 by rw [List.length_take]; omega)) (by decide))
                have HU := Lib.hid (unD_take hjl)
                have HA2 := Lib.hid (show ∀ c ∈ s.data.toList.take (j + 1), isD c = true by
                  intro c hc
                  rw [List.take_succ_eq_append_getElem hjl] at hc
                  rcases List.mem_append.1 hc with hc | hc
                  · exact HA.out c hc
                  · rw [List.mem_singleton.1 hc]; exact hd)
                rw [hgj] at HU
                generalize unD (s.data.toList.take j) = u at *
                have q1 : ¬ (s[j].toNat : Int) < 48 := by omega
                have q2 : ¬ (57 : Int) < (s[j].toNat : Int) := by omega
                clear hlt16 hd
                go_wp2_with fail
                go_round
                case rel => exact ⟨j + 1, by omega, by rw [HU.out]; go_num, by go_num, HA2.out⟩
                case measure => simp [RowKit.intOf]; omega
              · have HN := Lib.hid (show numL s.data.toList = none by
                  unfold numL
                  exact if_neg fun ⟨hc, _⟩ => hd (((canB_iff _).1 hc).2.2 _ (hgj ▸ List.getElem_mem hjl)))
                by_cases q1 : (s[j].toNat : Int) < 48
                · clear hd
                  go_wp2_with fail
                  go_ret2
                  exact DigPost.no HN.out _ _
                · have q2 : (57 : Int) < (s[j].toNat : Int) := by
                    rw [isD_iff] at hd
                    omega
                  clear hd
                  go_wp2_with fail
                  go_ret2
                  exact DigPost.no HN.out _ _
            · obtain rfl : j = s.size := by omega
              have hta : s.data.toList.take s.size = s.data.toList := List.take_of_length_le (by rw [HSL.out]; exact Nat.le_refl _)
              rw [hta] at HA ⊢
              have HC := Lib.hid (show canB s.data.toList = true from (canB_iff _).2 ⟨(fun e => h0 (by rw [← HSL.out, e]; rfl)), HH.out, HA.out⟩)
              clear hlt16 hta
              go_wp2_with fail
              go_ret2
              exact DigPost.yes HC.out _
        · have g2 : ¬ (1 : Int) < (s.size : Int) := by omega
          clear h1
          go_enter Tryz.func78, Tryz.ntmps78
          go_wp2_with fail
          go_loop [4, 5] (fun s4 s5 => ∃ j : Nat, j ≤ s.size ∧ s4 = .int .i64 (unD (s.data.toList.take j) : Nat) ∧ s5 = .int .i64 (j : Int) ∧ ∀ c ∈ s.data.toList.take j, isD c = true) (fun s4 s5 => s.size - (RowKit.intOf s5).toNat)
          case atStart => exact ⟨0, by omega, rfl, rfl, (fun c hc => by simp at hc)⟩
          case round =>
            obtain ⟨j, hj, rfl, rfl, hall⟩ := hrel
            have HA := Lib.hid hall
            have hlt16 := unD_lt _ hall
            clear hall
            by_cases hlt : j < s.size
            · have hjl : j < s.data.toList.length := by rw [HSL.out]; exact hlt
              have hgj : s.data.toList[j] = s[j] := rfl
              by_cases hd : isD s[j] = true
              · have hdd := (isD_iff _).1 hd
                have hb : unD (s.data.toList.take j) < 10000000000000000 := by
                  refine Nat.lt_of_lt_of_le hlt16 (Nat.le_trans (Nat.pow_le_pow_right (by decide) (show (s.data.toList.take j).length ≤ 16 by rw [List.length_take]; omega)) (by decide))
                have HU := Lib.hid (unD_take hjl)
                have HA2 := Lib.hid (show ∀ c ∈ s.data.toList.take (j + 1), isD c = true by
                  intro c hc
                  rw [List.take_succ_eq_append_getElem hjl] at hc
                  rcases List.mem_append.1 hc with hc | hc
                  · exact HA.out c hc
                  · rw [List.mem_singleton.1 hc]; exact hd)
                rw [hgj] at HU
                generalize unD (s.data.toList.take j) = u at *
                have q1 : ¬ (s[j].toNat : Int) < 48 := by omega
                have q2 : ¬ (57 : Int) < (s[j].toNat : Int) := by omega
                clear hlt16 hd
                go_wp2_with fail
                go_round
                case rel => exact ⟨j + 1, by omega, by rw [HU.out]; go_num, by go_num, HA2.out⟩
                case measure => simp [RowKit.intOf]; omega
              · have HN := Lib.hid (show numL s.data.toList = none by
                  unfold numL
                  exact if_neg fun ⟨hc, _⟩ => hd (((canB_iff _).1 hc).2.2 _ (hgj ▸ List.getElem_mem hjl)))
                by_cases q1 : (s[j].toNat : Int) < 48
                · clear hd
                  go_wp2_with fail
                  go_ret2
                  exact DigPost.no HN.out _ _
                · have q2 : (57 : Int) < (s[j].toNat : Int) := by
                    rw [isD_iff] at hd
                    omega
                  clear hd
                  go_wp2_with fail
                  go_ret2
                  exact DigPost.no HN.out _ _
            · obtain rfl : j = s.size := by omega
              have hta : s.data.toList.take s.size = s.data.toList := List.take_of_length_le (by rw [HSL.out]; exact Nat.le_refl _)
              rw [hta] at HA ⊢
              have HC := Lib.hid (show canB s.data.toList = true from (canB_iff _).2 ⟨(fun e => h0 (by rw [← HSL.out, e]; rfl)), HH.out, HA.out⟩)
              clear hlt16 hta
              go_wp2_with fail
              go_ret2
              exact DigPost.yes HC.out _
end Go.Proofs.YtglckcenjnieaaaGreatDoor
