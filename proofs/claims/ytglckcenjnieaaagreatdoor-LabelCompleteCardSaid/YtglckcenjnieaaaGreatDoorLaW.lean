/- Whether a list is short and its strings are (the law package's own test, label). -/
import Derived.Test.YtglckcenjnieaaaGreatDoorLaV
namespace Go.Proofs.YtglckcenjnieaaaGreatDoor
open Go.RowKit Go.Lib

def fewK (L : List (List UInt8)) : Bool := ((L.take 40).all fun x => decide (x.length ≤ 100)) && decide (L.length ≤ 40)
theorem fewK_true {L : List (List UInt8)} (h : fewK L = true) : L.length ≤ 40 ∧ ∀ x ∈ L, x.length ≤ 100 := by
  unfold fewK at h
  rw [Bool.and_eq_true, decide_eq_true_eq] at h
  rw [List.take_of_length_le h.2] at h
  exact ⟨h.2, by simpa using h.1⟩

set_option maxHeartbeats 4000000 in
set_option maxRecDepth 100000 in
theorem fewK_any (v : Option Addr) (cap : Nat) (L : List (List UInt8)) (hlen : L.length ≤ 9223372036854775807) (w : World) (hr : ReadsStr w v L) :
    Calls Tryz.prog 10 #[.slice v L.length cap] w fun e w' => e = .returned (.bool (fewK L)) ∧ Below w.heap.size w w' := by
  have HR := Lib.hid hr
  have HF := Lib.hid (show fewK L = (((L.take 40).all fun x => decide (x.length ≤ 100)) && decide (L.length ≤ 40)) from rfl)
  clear hr
  go_enter Tryz.func10, Tryz.ntmps10
  go_wp2_with fail
  go_loop [3] (fun s5 => ∃ k : Nat, k ≤ 40 ∧ k ≤ L.length ∧ s5 = .int .i64 k ∧ ((L.take 40).all fun x => decide (x.length ≤ 100)) = ((L.take 40).drop k).all fun x => decide (x.length ≤ 100)) (fun s5 => L.length - (RowKit.intOf s5).toNat)
  case atStart => exact ⟨0, by omega, by omega, rfl, rfl⟩
  case round =>
    obtain ⟨k, hk, hkl, rfl, hd⟩ := hrel
    have HD := Lib.hid hd
    clear hd
    by_cases hlt : k < L.length
    · have g1 : decide ((k : Int) < (L.length : Int)) = true := by simp; omega
      by_cases h40 : k < 40
      · have g2 : decide ((k : Int) < 40) = true := by simp; omega
        obtain ⟨b, off, rfl, hb, hc⟩ := HR.out k hlt
        obtain ⟨x, hx⟩ : ∃ x, x = L[k] := ⟨_, rfl⟩
        rw [← hx] at hc
        have hxs : (⟨x.toArray⟩ : ByteArray).size = x.length := by show x.toArray.size = _; simp
        have h1 : ((L.take 40).drop k).all (fun x => decide (x.length ≤ 100)) = (decide (x.length ≤ 100) && ((L.take 40).drop (k + 1)).all fun x => decide (x.length ≤ 100)) := by
          rw [List.drop_eq_getElem_cons (by rw [List.length_take]; omega), List.all_cons, List.getElem_take, hx]
        by_cases hs : 100 < x.length
        · have g3 : decide ((100 : Int) < ((⟨x.toArray⟩ : ByteArray).size : Int)) = true := by rw [hxs]; simp; omega
          have hf : fewK L = false := by rw [HF.out, HD.out, h1, decide_eq_false (by omega)]; rfl
          generalize (⟨x.toArray⟩ : ByteArray) = sx at *
          clear h1 hxs hx
          go_wp2_with fail
          go_ret
          exact ⟨rfl, Below.refl _ _⟩
        · have g3 : decide ((100 : Int) < ((⟨x.toArray⟩ : ByteArray).size : Int)) = false := by rw [hxs]; simp; omega
          have hn := Lib.hid (show ((L.take 40).all fun x => decide (x.length ≤ 100)) = ((L.take 40).drop (k + 1)).all fun x => decide (x.length ≤ 100) by rw [HD.out, h1, decide_eq_true (by omega)]; rfl)
          generalize (⟨x.toArray⟩ : ByteArray) = sx at *
          clear h1 hxs hx
          go_wp2_with fail
          exact ⟨⟨k + 1, by omega, by omega, by go_num, hn.out⟩, by simp [RowKit.intOf]; omega⟩
      · have g2 : decide ((k : Int) < 40) = false := by simp; omega
        have g4 : decide ((L.length : Int) ≤ 40) = false := by simp; omega
        have hf : fewK L = false := by rw [HF.out, decide_eq_false (by omega), Bool.and_false]
        go_wp2_with fail
        go_ret
        exact ⟨rfl, Below.refl _ _⟩
    · obtain rfl : k = L.length := by omega
      have g1 : decide ((L.length : Int) < (L.length : Int)) = false := by simp
      have g4 : decide ((L.length : Int) ≤ 40) = true := by simp; omega
      have hf : fewK L = true := by
        rw [HF.out, HD.out, List.drop_eq_nil_of_le (by rw [List.length_take]; omega), decide_eq_true (by omega)]
        rfl
      go_wp2_with fail
      go_ret
      exact ⟨rfl, Below.refl _ _⟩
end Go.Proofs.YtglckcenjnieaaaGreatDoor
