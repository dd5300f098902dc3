/- The contract of the program's Ascending (ident). -/
import Derived.Test.YtabopneehhnhfabDoorNatPG
import Derived.Test.YtabopneehhnhfabDoorNatI
import Derived.Deep.RegionHeld3
namespace Go.Proofs.YtabopneehhnhfabDoor
open Go.RowKit Go.Lib

theorem asc_drew {W w1 : World} {b o p : Nat} {x y : Value} (h : w1.cell? ⟨b, o, none⟩ = some x ∧ w1.cell? ⟨b, p, none⟩ = some y ∧ W.heap.size ≤ w1.heap.size ∧ Below W.heap.size W w1) :
    w1.drew.cell? ⟨b, o, none⟩ = some x ∧ w1.drew.cell? ⟨b, p, none⟩ = some y ∧ W.heap.size ≤ w1.drew.heap.size ∧ Below W.heap.size W w1.drew :=
  ⟨h.1, h.2.1, h.2.2.1, h.2.2.2.drew⟩
theorem asc_step {W w1 w2 : World} {b o p : Nat} {x y : Value} (hb : b < W.heap.size) (h : w1.cell? ⟨b, o, none⟩ = some x ∧ w1.cell? ⟨b, p, none⟩ = some y ∧ W.heap.size ≤ w1.heap.size ∧ Below W.heap.size W w1) (h2 : Below w1.heap.size w1 w2) :
    w2.cell? ⟨b, o, none⟩ = some x ∧ w2.cell? ⟨b, p, none⟩ = some y ∧ W.heap.size ≤ w2.heap.size ∧ Below W.heap.size W w2 :=
  ⟨(h2.cell (p := ⟨b, o, none⟩) (Nat.lt_of_lt_of_le hb h.2.2.1)).trans h.1, (h2.cell (p := ⟨b, p, none⟩) (Nat.lt_of_lt_of_le hb h.2.2.1)).trans h.2.1, Nat.le_trans h.2.2.1 h2.size, h.2.2.2.trans (h2.mono h.2.2.1)⟩
theorem asc_below {W w1 : World} {b o p : Nat} {x y : Value} (h : w1.cell? ⟨b, o, none⟩ = some x ∧ w1.cell? ⟨b, p, none⟩ = some y ∧ W.heap.size ≤ w1.heap.size ∧ Below W.heap.size W w1) : Below W.heap.size W w1 := h.2.2.2

set_option maxHeartbeats 4000000 in
set_option maxRecDepth 100000 in
theorem idAscending_any (v : Option Addr) (cap : Nat) (L : List (List UInt8)) (hl : L.length ≤ 9223372036854775000) (hsz : ∀ x, x ∈ L → x.length ≤ 140737488351232) (w : World) (hr : ReadsStr w v L) :
    Calls Tryd.prog 81 #[.slice v L.length cap] w fun e w' => e = .returned (.bool (ascB L)) ∧ Below w.heap.size w w' := by
  have HR := Lib.hid hr
  have HSZ := Lib.hid hsz
  clear hr hsz
  go_enter Tryd.func81, Tryd.ntmps81
  go_wp2_with fail
  go_loopw [3] (fun s3 wr => ∃ j : Nat, j ≤ L.length ∧ s3 = .int .i64 ((j : Int) + 1) ∧ Hid (ascB L = ascB (L.drop j)) ∧ Hid (Below w.heap.size w wr)) (fun s3 _ => L.length + 1 - (RowKit.intOf s3).toNat)
  case atStart => exact ⟨0, by omega, rfl, Lib.hid (by rw [List.drop_zero]), Lib.hid (Below.refl _ _)⟩
  case round =>
    obtain ⟨j, hj, rfl, HE, HB⟩ := hrel
    by_cases hlt : j + 1 < L.length
    · obtain ⟨b, off, rfl, g2, g3⟩ := HR.out j (by omega)
      obtain ⟨b', off', e', f2, f3⟩ := HR.out (j + 1) hlt
      injection e' with e'
      injection e' with e1 e2 _
      subst e1 e2
      have hst := ascB_step hlt
      have hx9 := HSZ.out _ (List.getElem_mem (show j < L.length by omega))
      have hy9 := HSZ.out _ (List.getElem_mem hlt)
      obtain ⟨x, hx⟩ : ∃ x, x = L[j]'(by omega) := ⟨_, rfl⟩
      obtain ⟨y, hy⟩ : ∃ y, y = L[j + 1] := ⟨_, rfl⟩
      rw [← hx] at g3 hst hx9
      rw [← hy] at f3 hst hy9
      have C := fun w => idCompare_any ⟨x.toArray⟩ ⟨y.toArray⟩ (by rw [mkS_size]; exact hx9) (by rw [mkS_size]; exact hy9) w
      rw [show (⟨x.toArray⟩ : ByteArray).data.toList = x from rfl, show (⟨y.toArray⟩ : ByteArray).data.toList = y from rfl] at C
      obtain ⟨sx, hsx⟩ : ∃ s : ByteArray, s = ⟨x.toArray⟩ := ⟨_, rfl⟩
      obtain ⟨sy, hsy⟩ : ∃ s : ByteArray, s = ⟨y.toArray⟩ := ⟨_, rfl⟩
      rw [← hsx] at g3 C
      rw [← hsy] at f3 C
      obtain ⟨c, hc⟩ : ∃ c, c = cmpL x y := ⟨_, rfl⟩
      rw [← hc] at C hst
      have C := Lib.hid C
      have HST := Lib.hid hst
      have q1 : (0 : Int) ≤ (j : Int) ∧ (j : Int) + 1 < (L.length : Int) := by omega
      have q2 : IntKind.i64.wrap ((j : Int) + 1 - 1) = (j : Int) := by rw [IntWalk.i64_in _ (by omega)]; omega
      have q5 : IntKind.i64.wrap (j : Int) = (j : Int) := IntWalk.i64_in _ (by omega)
      have q3 : ((j : Int) + 1).toNat = j + 1 := by omega
      have q4 : (0 : Int) ≤ (j : Int) + 1 := by omega
      have a0 : (0 : Int) ≤ (j : Int) := by omega
      have a1 : (j : Int) < (L.length : Int) := by omega
      have a2 : (j : Int) + 1 < (L.length : Int) := by omega
      have a4 : j < L.length := by omega
      have hs0 : wr.cell? ⟨b, off + j, none⟩ = some (.string sx) ∧ wr.cell? ⟨b, off + (j + 1), none⟩ = some (.string sy) ∧ w.heap.size ≤ wr.heap.size ∧ Below w.heap.size w wr :=
        ⟨(HB.out.cell (p := ⟨b, off + j, none⟩) g2).trans g3, (HB.out.cell (p := ⟨b, off + (j + 1), none⟩) g2).trans f3, HB.out.size, HB.out⟩
      have HG := Lib.hid g2
      clear hst hx hy hsx hsy hc hx9 hy9 g2 g3 f2 f3
      go_upto_region 4 with fail
      go_region_held3 (fun w' => w'.cell? ⟨b, off + j, none⟩ = some (.string sx) ∧ w'.cell? ⟨b, off + (j + 1), none⟩ = some (.string sy) ∧ w.heap.size ≤ w'.heap.size ∧ Below w.heap.size w w') (first | exact asc_drew hs0 | exact asc_step HG.out (by assumption) (by assumption)) (first
        | (go_at_call 86; go_fit (C.out _); rintro e w2 ⟨rfl, hb2⟩))
      have HS := Lib.hid (asc_below (b := b) (o := off + j) (p := off + (j + 1)) (x := .string sx) (y := .string sy) (by assumption))
      clear q2 q3 q4 q5
      by_cases hc0 : c < 0
      · have HN := Lib.hid (show ascB L = ascB (L.drop (j + 1)) by rw [HE.out, HST.out, decide_eq_true hc0]; rfl)
        have u1 : ¬ (0 : Int) ≤ c := by omega
        go_wp2_with fail
        exact ⟨⟨j + 1, by omega, by go_num, HN, HS⟩, by simp [RowKit.intOf]; omega⟩
      · have HN := Lib.hid (show ascB L = false by rw [HE.out, HST.out, decide_eq_false hc0]; rfl)
        have u1 : (0 : Int) ≤ c := by omega
        go_wp2_with fail
        go_ret
        exact ⟨by rw [HN.out]; rfl, HS.out⟩
    · have HN := Lib.hid (show ascB L = true by rw [HE.out]; exact ascB_end (by omega))
      go_wp2_with fail
      go_ret
      exact ⟨by rw [HN.out]; rfl, HB.out⟩
end Go.Proofs.YtabopneehhnhfabDoor
