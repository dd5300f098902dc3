/- The contract of Pick (fairness). -/
import Derived.Test.YtmjikddceegloaaGreatDoorFrO
namespace Go.Proofs.YtmjikddceegloaaGreatDoor
open Go.RowKit Go.Lib
set_option linter.unusedSimpArgs false

/-- What Pick answers of names in their order: the first that is listed. -/
def pickN (N P : List (List UInt8)) : List UInt8 × Bool := match N.find? (fun p => P.contains p) with
  | some p => (p, true)
  | none => ([], false)
def PickPost (L : List Sha) (P : List (List UInt8)) (w : World) (e : Ending) (w' : World) : Prop := ∃ (N : List (List UInt8)), OrdR L N ∧ e = .returned (.tuple #[.string ⟨(pickN N P).1.toArray⟩, .bool (pickN N P).2]) ∧ Below w.heap.size w w'
theorem OrdR.len {L : List Sha} {N : List (List UInt8)} (h : OrdR L N) : N.length ≤ 64 := by
  rcases h with ⟨_, rfl⟩ | ⟨hV, L', hp, _, rfl⟩
  · decide
  · rw [List.length_map, hp.length_eq]
    exact hV.len
theorem pickN_none {N P : List (List UInt8)} (h : ∀ t (ht : t < N.length), N[t] ∉ P) : pickN N P = ([], false) := by
  have : N.find? (fun p => P.contains p) = none := by
    rw [List.find?_eq_none]
    intro x hx
    obtain ⟨t, ht, rfl⟩ := List.getElem_of_mem hx
    simpa using h t ht
  unfold pickN
  rw [this]
theorem pickN_some {N P : List (List UInt8)} (j : Nat) (hj : j < N.length) (h : ∀ t (ht : t < N.length), t < j → N[t] ∉ P) (hp : N[j] ∈ P) : pickN N P = (N[j], true) := by
  have : N.find? (fun p => P.contains p) = some N[j] := by
    rw [List.find?_eq_some_iff_getElem]
    exact ⟨by simpa using hp, j, hj, rfl, fun k hk => by simpa using h k (by omega) hk⟩
  unfold pickN
  rw [this]
attribute [local irreducible] pickN
set_option maxRecDepth 100000 in
set_option maxHeartbeats 4000000 in
theorem pick_any (v : Option Addr) (cap : Nat) (L : List Sha) (vp : Option Addr) (cp : Nat) (P : List (List UInt8)) (hlen : L.length ≤ 1000000) (hx : ∀ x ∈ L, x.prj.length ≤ 1000000) (hpl : P.length ≤ 1000000) (w : World) (hr : ReadsH w v L) (hp : ReadsStr w vp P) :
    Calls Tryz.prog 17 #[.slice v L.length cap, .slice vp P.length cp] w (PickPost L P w) := by
  have HP := Lib.hid hp
  have OR := Lib.hid (order_any v cap L hlen hx w hr)
  clear hr hp
  go_enter Tryz.func17, Tryz.ntmps17
  go_wp2_with fail
  go_fit OR.out
  rintro e w1 ⟨a, c, N, rfl, hn, hrd, hb⟩
  have HN := Lib.hid hn
  have hnl := hn.len
  have HR := Lib.hid hrd
  have B1 := Lib.hid hb
  clear hn hrd hb
  go_wp2_with fail
  go_loopw [11] (fun s11 wr => ∃ j : Nat, j ≤ N.length ∧ s11 = .int .i64 (j : Int) ∧ Hid (∀ t (h : t < N.length), t < j → N[t] ∉ P) ∧ Hid (wr = w1)) (fun s11 _ => N.length - (RowKit.intOf s11).toNat)
  case atStart => exact ⟨0, by omega, rfl, Lib.hid (by omega), Lib.hid rfl⟩
  case round =>
    obtain ⟨j, hj, rfl, HD, HB⟩ := hrel
    obtain rfl := HB.out
    by_cases hlt : j < N.length
    · obtain ⟨b, off, rfl, h2, c0⟩ := HR.out j hlt
      have hjI : (j : Int) < (N.length : Int) := by omega
      have hj0 : (0 : Int) ≤ (j : Int) := by omega
      by_cases he : N[j] ∈ P
      · have CN := fun w' (hb : Below w.heap.size w w') => contains_any vp cp P ⟨N[j].toArray⟩ true (by simpa using he) hpl w' (HP.out.below hb)
        have HF := Lib.hid (show Ending.returned (.tuple #[.string ⟨N[j].toArray⟩, .bool true]) = .returned (.tuple #[.string ⟨(pickN N P).1.toArray⟩, .bool (pickN N P).2]) by rw [pickN_some j hlt HD.out he])
        generalize (⟨N[j].toArray⟩ : ByteArray) = x at *
        have CN := Lib.hid CN
        clear he HD
        go_wp2_with fail
        go_fit (CN.out _ B1.out)
        rintro e w2 ⟨rfl, rfl⟩
        go_wp2_with fail
        go_ret2
        exact ⟨N, HN.out, HF.out, B1.out⟩
      · have CN := fun w' (hb : Below w.heap.size w w') => contains_any vp cp P ⟨N[j].toArray⟩ false (by simpa using he) hpl w' (HP.out.below hb)
        have HF := Lib.hid (show ∀ t (h : t < N.length), t < j + 1 → N[t] ∉ P from fun t ht h => by
          by_cases htj : t < j
          · exact HD.out t ht htj
          · obtain rfl : t = j := by omega
            exact he)
        generalize (⟨N[j].toArray⟩ : ByteArray) = x at *
        have CN := Lib.hid CN
        clear he HD
        go_wp2_with fail
        go_fit (CN.out _ B1.out)
        rintro e w2 ⟨rfl, rfl⟩
        go_wp2_with fail
        exact ⟨⟨j + 1, by omega, by go_num, HF, Lib.hid trivial⟩, by simp [RowKit.intOf]; omega⟩
    · obtain rfl : j = N.length := by omega
      have HF := Lib.hid (show Ending.returned (.tuple #[.string ⟨#[]⟩, .bool false]) = .returned (.tuple #[.string ⟨(pickN N P).1.toArray⟩, .bool (pickN N P).2]) by rw [pickN_none (fun t ht => HD.out t ht ht)])
      clear HD
      go_wp2_with fail
      go_ret2
      exact ⟨N, HN.out, HF.out, B1.out⟩
end Go.Proofs.YtmjikddceegloaaGreatDoor
