/- Whether lists and their strings are short (the law package's own test). -/
import Derived.Test.YtoehpoodfbgdiabDoorBaseS
import Derived.BigQuiet
import Derived.Deep.QuietTactic
import Derived.Deep.DeepCutAuto
import Derived.Deep.CutBlock
namespace Go.Proofs.YtoehpoodfbgdiabDoor
open Go.RowKit Go.Lib

def fewB (L : List (List UInt8)) (most : Nat) : Bool := decide (L.length ≤ most) && L.all fun x => decide (x.length ≤ 1000)
theorem fewB_true {L : List (List UInt8)} {most : Nat} (h : fewB L most = true) : L.length ≤ most ∧ ∀ x ∈ L, x.length ≤ 1000 := by
  unfold fewB at h
  simpa using h

set_option maxHeartbeats 4000000 in
set_option maxRecDepth 100000 in
theorem few_any (v : Option Addr) (cap : Nat) (L : List (List UInt8)) (most : Nat) (hm : most ≤ 1000) (w : World) (hr : ReadsStr w v L) :
    Calls Tryd.prog 14 #[.slice v L.length cap, .int .i64 (most : Nat)] w fun e w' => e = .returned (.bool (fewB L most)) ∧ Below w.heap.size w w' := by
  by_cases hl : most < L.length
  · have g : decide ((most : Int) < (L.length : Int)) = true := by simp; omega
    have hf : fewB L most = false := by unfold fewB; rw [decide_eq_false (by omega)]; rfl
    rw [hf]
    go_enter Tryd.func14, Tryd.ntmps14
    go_wp2_with fail
    go_ret
    exact ⟨rfl, Below.refl _ _⟩
  · have g : decide ((most : Int) < (L.length : Int)) = false := by simp; omega
    have hl2 : (L.length : Int) ≤ 1000 := by omega
    have HF := Lib.hid (show fewB L most = L.all fun x => decide (x.length ≤ 1000) by unfold fewB; rw [decide_eq_true (by omega)]; rfl)
    have HR := Lib.hid hr
    clear hr
    go_enter Tryd.func14, Tryd.ntmps14
    go_wp2_with fail
    go_loop [5] (fun s5 => ∃ k : Nat, k ≤ L.length ∧ s5 = .int .i64 k ∧ (L.all fun x => decide (x.length ≤ 1000)) = (L.drop k).all fun x => decide (x.length ≤ 1000)) (fun s5 => L.length - (RowKit.intOf s5).toNat)
    case atStart => exact ⟨0, by omega, rfl, rfl⟩
    case round =>
      obtain ⟨k, hk, rfl, hd⟩ := hrel
      have HD := Lib.hid hd
      clear hd
      by_cases hlt : k < L.length
      · obtain ⟨b, off, rfl, hb, hc⟩ := HR.out k hlt
        obtain ⟨x, hx⟩ : ∃ x, x = L[k] := ⟨_, rfl⟩
        rw [← hx] at hc
        have hxs : (⟨x.toArray⟩ : ByteArray).size = x.length := by show x.toArray.size = _; simp
        have h1 : (L.drop k).all (fun x => decide (x.length ≤ 1000)) = (decide (x.length ≤ 1000) && (L.drop (k + 1)).all fun x => decide (x.length ≤ 1000)) := by
          rw [List.drop_eq_getElem_cons hlt, List.all_cons, hx]
        by_cases hs : 1000 < x.length
        · have g2 : decide ((1000 : Int) < ((⟨x.toArray⟩ : ByteArray).size : Int)) = true := by rw [hxs]; simp; omega
          have hf : fewB L most = false := by rw [HF.out, HD.out, h1, decide_eq_false (by omega)]; rfl
          generalize (⟨x.toArray⟩ : ByteArray) = sx at *
          clear h1 hxs hx
          go_wp2_with fail
          go_ret
          exact ⟨rfl, Below.refl _ _⟩
        · have g2 : decide ((1000 : Int) < ((⟨x.toArray⟩ : ByteArray).size : Int)) = false := by rw [hxs]; simp; omega
          have hn := Lib.hid (show (L.all fun x => decide (x.length ≤ 1000)) = (L.drop (k + 1)).all fun x => decide (x.length ≤ 1000) by rw [HD.out, h1, decide_eq_true (by omega)]; rfl)
          generalize (⟨x.toArray⟩ : ByteArray) = sx at *
          clear h1 hxs hx
          go_wp2_with fail
          exact ⟨⟨k + 1, by omega, by go_num, hn.out⟩, by simp [RowKit.intOf]; omega⟩
      · obtain rfl : k = L.length := by omega
        have hf : fewB L most = true := by rw [HF.out, HD.out]; simp
        go_wp2_with fail
        go_ret
        exact ⟨rfl, Below.refl _ _⟩
end Go.Proofs.YtoehpoodfbgdiabDoor
