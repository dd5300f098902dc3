/- The contracts of slices.IndexFunc and slices.ContainsFunc over strings, with a closure that bears one variable (label). -/
import Derived.Test.YtglckcenjnieaaaGreatDoorLaI
namespace Go.Proofs.YtglckcenjnieaaaGreatDoor
open Go.RowKit Go.Lib Go.Maps

/-- A closure answers f of each string of a list, in whatever world comes later. -/
def Tells (g p : Nat) (L : List (List UInt8)) (f : List UInt8 → Bool) (w : World) : Prop :=
  ∀ x ∈ L, ∀ w', Below w.heap.size w w' → Calls Tryz.prog g #[.string ⟨x.toArray⟩, .pointer (some ⟨p, 0, none⟩)] w' fun e w'' => e = .returned (.bool (f x)) ∧ Below w'.heap.size w' w''
theorem Tells.below {g p : Nat} {L : List (List UInt8)} {f : List UInt8 → Bool} {w w1 : World} (h : Tells g p L f w) (hb : Below w.heap.size w w1) : Tells g p L f w1 :=
  fun x hx w' hw => h x hx w' (hb.trans (hw.mono hb.size))

set_option maxHeartbeats 2000000 in
theorem indexFunc_imp (p : Nat) (v : Option Addr) (cap : Nat) (L : List (List UInt8)) (f : List UInt8 → Bool) (hlen : L.length ≤ 1000) (w : World) (hr : ReadsStr w v L) (h : Tells 35 p L f w) :
    Calls Tryz.prog 57 #[.slice v L.length cap, .func (Fn.func 35) #[] #[.pointer (some ⟨p, 0, none⟩)]] w fun e w' => ∃ i : Int, e = .returned (.int .i64 i) ∧ (decide (0 ≤ i) = L.any f) ∧ Below w.heap.size w w' := by
  have HR := Lib.hid hr
  have H := Lib.hid h
  clear hr h
  go_enter Tryz.func57, Tryz.ntmps57
  go_wp2_with fail
  go_loopw [8] (fun s8 wr => ∃ (j : Nat), s8 = .int .i64 (j : Int) ∧ j ≤ L.length ∧ (L.drop j).any f = L.any f ∧ Below w.heap.size w wr) (fun s8 _ => L.length - (RowKit.intOf s8).toNat)
  case atStart => exact ⟨0, rfl, Nat.zero_le _, by rw [List.drop_zero], Below.refl _ _⟩
  case round =>
    obtain ⟨j, rfl, hj, hany, hbel⟩ := hrel
    have HA := Lib.hid hany
    have BE := Lib.hid hbel
    clear hany
    by_cases hjl : j < L.length
    · obtain ⟨b, off, hv, hlt, hc⟩ := (HR.out.below hbel) j hjl
      subst hv
      have hji : (j : Int) < (L.length : Int) := by omega
      have C := Lib.hid (H.out _ (List.getElem_mem hjl) _ hbel)
      have HD := Lib.hid (show L.drop j = L[j] :: L.drop (j + 1) from List.drop_eq_getElem_cons hjl)
      obtain ⟨x, hxe⟩ : ∃ x, x = L[j] := ⟨_, rfl⟩
      rw [← hxe] at hc HD C
      clear hxe hj hbel
      cases hf : f x
      · rw [hf] at C
        have HF := Lib.hid hf
        clear hf
        go_wp2_with fail
        go_fit C.out
        rintro e w2 ⟨rfl, hb⟩
        have BE2 := Lib.hid (BE.out.trans (hb.mono BE.out.size))
        clear hb
        go_wp2_with fail
        go_roundw
        case rel => exact ⟨j + 1, by go_num, by omega, by rw [← HA.out, HD.out, List.any_cons, HF.out, Bool.false_or], BE2.out⟩
        case measure => simp [RowKit.intOf]; omega
      · rw [hf] at C
        have HF := Lib.hid hf
        clear hf
        go_wp2_with fail
        go_fit C.out
        rintro e w2 ⟨rfl, hb⟩
        have BE2 := Lib.hid (BE.out.trans (hb.mono BE.out.size))
        clear hb
        go_wp2_with fail
        go_ret
        exact ⟨(j : Int), rfl, by rw [← HA.out, HD.out, List.any_cons, HF.out, Bool.true_or]; simp, BE2.out⟩
    · obtain rfl : j = L.length := by omega
      clear hj hbel
      go_wp2_with fail
      go_ret
      exact ⟨-1, rfl, by rw [← HA.out, List.drop_eq_nil_of_le (Nat.le_refl _)]; rfl, BE.out⟩

set_option maxHeartbeats 2000000 in
theorem containsFunc_imp (p : Nat) (v : Option Addr) (cap : Nat) (L : List (List UInt8)) (f : List UInt8 → Bool) (hlen : L.length ≤ 1000) (w : World) (hr : ReadsStr w v L) (h : Tells 35 p L f w) :
    Calls Tryz.prog 30 #[.slice v L.length cap, .func (Fn.func 35) #[] #[.pointer (some ⟨p, 0, none⟩)]] w fun e w' => e = .returned (.bool (L.any f)) ∧ Below w.heap.size w w' := by
  have I := Lib.hid (indexFunc_imp p v cap L f hlen w hr h)
  clear hr h
  go_enter Tryz.func30, Tryz.ntmps30
  go_wp2_with fail
  go_fit I.out
  rintro e w2 ⟨i, rfl, hi, hb⟩
  have HI := Lib.hid hi
  have B := Lib.hid hb
  clear hi hb
  go_wp2_with fail
  go_ret
  exact ⟨ret_bool HI.out, B.out⟩

set_option maxHeartbeats 2000000 in
theorem indexFunc_sat (p : Nat) (v : Option Addr) (cap : Nat) (L : List (List UInt8)) (f : List UInt8 → Bool) (hlen : L.length ≤ 1000) (w : World) (hr : ReadsStr w v L) (h : Tells 31 p L f w) :
    Calls Tryz.prog 57 #[.slice v L.length cap, .func (Fn.func 31) #[] #[.pointer (some ⟨p, 0, none⟩)]] w fun e w' => ∃ i : Int, e = .returned (.int .i64 i) ∧ (decide (0 ≤ i) = L.any f) ∧ Below w.heap.size w w' := by
  have HR := Lib.hid hr
  have H := Lib.hid h
  clear hr h
  go_enter Tryz.func57, Tryz.ntmps57
  go_wp2_with fail
  go_loopw [8] (fun s8 wr => ∃ (j : Nat), s8 = .int .i64 (j : Int) ∧ j ≤ L.length ∧ (L.drop j).any f = L.any f ∧ Below w.heap.size w wr) (fun s8 _ => L.length - (RowKit.intOf s8).toNat)
  case atStart => exact ⟨0, rfl, Nat.zero_le _, by rw [List.drop_zero], Below.refl _ _⟩
  case round =>
    obtain ⟨j, rfl, hj, hany, hbel⟩ := hrel
    have HA := Lib.hid hany
    have BE := Lib.hid hbel
    clear hany
    by_cases hjl : j < L.length
    · obtain ⟨b, off, hv, hlt, hc⟩ := (HR.out.below hbel) j hjl
      subst hv
      have hji : (j : Int) < (L.length : Int) := by omega
      have C := Lib.hid (H.out _ (List.getElem_mem hjl) _ hbel)
      have HD := Lib.hid (show L.drop j = L[j] :: L.drop (j + 1) from List.drop_eq_getElem_cons hjl)
      obtain ⟨x, hxe⟩ : ∃ x, x = L[j] := ⟨_, rfl⟩
      rw [← hxe] at hc HD C
      clear hxe hj hbel
      cases hf : f x
      · rw [hf] at C
        have HF := Lib.hid hf
        clear hf
        go_wp2_with fail
        go_fit C.out
        rintro e w2 ⟨rfl, hb⟩
        have BE2 := Lib.hid (BE.out.trans (hb.mono BE.out.size))
        clear hb
        go_wp2_with fail
        go_roundw
        case rel => exact ⟨j + 1, by go_num, by omega, by rw [← HA.out, HD.out, List.any_cons, HF.out, Bool.false_or], BE2.out⟩
        case measure => simp [RowKit.intOf]; omega
      · rw [hf] at C
        have HF := Lib.hid hf
        clear hf
        go_wp2_with fail
        go_fit C.out
        rintro e w2 ⟨rfl, hb⟩
        have BE2 := Lib.hid (BE.out.trans (hb.mono BE.out.size))
        clear hb
        go_wp2_with fail
        go_ret
        exact ⟨(j : Int), rfl, by rw [← HA.out, HD.out, List.any_cons, HF.out, Bool.true_or]; simp, BE2.out⟩
    · obtain rfl : j = L.length := by omega
      clear hj hbel
      go_wp2_with fail
      go_ret
      exact ⟨-1, rfl, by rw [← HA.out, List.drop_eq_nil_of_le (Nat.le_refl _)]; rfl, BE.out⟩

set_option maxHeartbeats 2000000 in
theorem containsFunc_sat (p : Nat) (v : Option Addr) (cap : Nat) (L : List (List UInt8)) (f : List UInt8 → Bool) (hlen : L.length ≤ 1000) (w : World) (hr : ReadsStr w v L) (h : Tells 31 p L f w) :
    Calls Tryz.prog 30 #[.slice v L.length cap, .func (Fn.func 31) #[] #[.pointer (some ⟨p, 0, none⟩)]] w fun e w' => e = .returned (.bool (L.any f)) ∧ Below w.heap.size w w' := by
  have I := Lib.hid (indexFunc_sat p v cap L f hlen w hr h)
  clear hr h
  go_enter Tryz.func30, Tryz.ntmps30
  go_wp2_with fail
  go_fit I.out
  rintro e w2 ⟨i, rfl, hi, hb⟩
  have HI := Lib.hid hi
  have B := Lib.hid hb
  clear hi hb
  go_wp2_with fail
  go_ret
  exact ⟨ret_bool HI.out, B.out⟩
end Go.Proofs.YtglckcenjnieaaaGreatDoor
