/- Contract of the document's Any (glob). -/
import Derived.Test.YtaalfnfikjmomaaGlbNf
namespace Go.Proofs.Ytaalfnfikjmomaa
open Go.RowKit Go.Lib
set_option maxHeartbeats 4000000 in
theorem refAny_any (a : Option Addr) (cp : Nat) (L : List (List UInt8)) (s : ByteArray) (hL : L.length ≤ 1000) (hs : s.size ≤ 1099511627776) (w : World) (hr : ReadsStr w a L) :
    Calls Try.prog 16 #[.slice a L.length cp, .string s] w fun e w' => e = .returned (.bool (anyP L s.data.toList)) ∧ Below w.heap.size w w' := by
  have R := Lib.hid hr
  have HS := Lib.hid hs
  have l0 : (0 : Int) ≤ L.length ∧ (L.length : Int) ≤ 1000 := by omega
  have B0 := Lib.hid (Below.refl w.heap.size w)
  clear hr hs hL
  go_enter Try.func16, Try.ntmps16
  go_wp2_with fail
  go_loopw [5, 6] (fun s4 s5 wr => ∃ k : Nat, s5 = .int .i64 (k : Int) ∧ k ≤ L.length ∧ s4 = .bool (anyP (L.take k) s.data.toList) ∧ Below w.heap.size w wr) (fun _ s5 _ => L.length - (RowKit.intOf s5).toNat)
  case atStart => exact ⟨0, rfl, by omega, rfl, B0.out⟩
  case round =>
    obtain ⟨k, rfl, hk, rfl, hb⟩ := hrel
    by_cases hlt : k < L.length
    · obtain ⟨b, off, rfl, hlt2, hc⟩ := R.out.below hb k hlt
      obtain ⟨x, hx⟩ : ∃ x : ByteArray, x = ⟨L[k].toArray⟩ := ⟨_, rfl⟩
      have hxl : x.data.toList = L[k] := by rw [hx]
      rw [← hx] at hc
      have LA := Lib.hid (fun w => refLast_any x 0 w)
      have HV := Lib.hid (show anyP (L.take (k + 1)) s.data.toList = anyStep s.data.toList (anyP (L.take k) s.data.toList) x.data.toList by rw [anyP_take L _ k hlt, hxl])
      have B := Lib.hid hb
      have k0 : (0 : Int) ≤ k ∧ (k : Int) < (L.length : Int) := by omega
      have HK := Lib.hid hlt
      obtain ⟨yes, hyes⟩ : ∃ yes, yes = anyP (L.take k) s.data.toList := ⟨_, rfl⟩
      rw [← hyes] at HV ⊢
      clear hx hb hk hyes hxl hlt
      by_cases h33 : x.data.toList.head? = some 33
      · have h0 : lastN x 0 = 33 := by have := lastN_head x 0 33 (by decide); rw [List.drop_zero] at this; exact this.1 h33
        have hz : 0 < x.size := by
          rw [← lenB]
          cases hl : x.data.toList with
          | nil => rw [hl] at h33; cases h33
          | cons a l => simp
        have h1 : (1 : Int) ≤ (x.size : Int) := by omega
        rw [h0] at LA
        obtain ⟨y, hy⟩ : ∃ y : ByteArray, y = x.extract 1 x.size := ⟨_, rfl⟩
        have hsl := hy.symm
        have MT := Lib.hid (fun w => refMatch_any y s HS.out w)
        have HV2 := Lib.hid (show anyP (L.take (k + 1)) s.data.toList = if matchP y.data.toList s.data.toList then false else yes by
          have e : effL x.data.toList = (y.data.toList, true) := by
            unfold effL
            rw [if_pos h33, hy, ext_drop]
            cases x.data.toList <;> rfl
          rw [HV.out, anyStep, e]
          rfl)
        clear h33 h0 hz hy HV
        go_wp2_with fail
        go_fit (LA.out _)
        rintro e w1 ⟨rfl, rfl⟩
        go_wp2_with fail
        go_fit (MT.out _)
        rintro e w2 ⟨rfl, hb2⟩
        have B2 := Lib.hid hb2
        clear hb2
        cases hm : matchP y.data.toList s.data.toList
        · rw [hm] at HV2
          have HV3 := Lib.hid (show anyP (L.take (k + 1)) s.data.toList = yes from HV2.out)
          clear hm HV2
          go_wp2_with fail
          go_roundw
          case rel => exact ⟨k + 1, by go_num, HK.out, by rw [HV3.out], B.out.trans (B2.out.mono B.out.size)⟩
          case measure => have := HK.out; simp [RowKit.intOf]; omega
        · rw [hm] at HV2
          have HV3 := Lib.hid (show anyP (L.take (k + 1)) s.data.toList = false from HV2.out)
          clear hm HV2
          go_wp2_with fail
          go_roundw
          case rel => exact ⟨k + 1, by go_num, HK.out, by rw [HV3.out], B.out.trans (B2.out.mono B.out.size)⟩
          case measure => have := HK.out; simp [RowKit.intOf]; omega
      · have h0 : ((lastN x 0 : Nat) : Int) ≠ 33 := by
          intro e
          have := lastN_head x 0 33 (by decide)
          rw [List.drop_zero] at this
          exact h33 (this.2 (by show lastN x 0 = 33; omega))
        have h0' : (((lastN x 0 : Nat) : Int) == 33) = false := by rw [beq_eq_false_iff_ne]; exact h0
        generalize lastN x 0 = n at LA h0'
        have MT := Lib.hid (fun w => refMatch_any x s HS.out w)
        have HV2 := Lib.hid (show anyP (L.take (k + 1)) s.data.toList = if matchP x.data.toList s.data.toList then true else yes by
          have e : effL x.data.toList = (x.data.toList, false) := by
            unfold effL
            rw [if_neg h33]
          rw [HV.out, anyStep, e]
          rfl)
        clear h33 h0 HV
        go_wp2_with fail
        go_fit (LA.out _)
        rintro e w1 ⟨rfl, rfl⟩
        go_wp2_with fail
        go_fit (MT.out _)
        rintro e w2 ⟨rfl, hb2⟩
        have B2 := Lib.hid hb2
        clear hb2
        cases hm : matchP x.data.toList s.data.toList
        · rw [hm] at HV2
          have HV3 := Lib.hid (show anyP (L.take (k + 1)) s.data.toList = yes from HV2.out)
          clear hm HV2
          go_wp2_with fail
          go_roundw
          case rel => exact ⟨k + 1, by go_num, HK.out, by rw [HV3.out], B.out.trans (B2.out.mono B.out.size)⟩
          case measure => have := HK.out; simp [RowKit.intOf]; omega
        · rw [hm] at HV2
          have HV3 := Lib.hid (show anyP (L.take (k + 1)) s.data.toList = true from HV2.out)
          clear hm HV2
          go_wp2_with fail
          go_roundw
          case rel => exact ⟨k + 1, by go_num, HK.out, by rw [HV3.out], B.out.trans (B2.out.mono B.out.size)⟩
          case measure => have := HK.out; simp [RowKit.intOf]; omega
    · obtain rfl : k = L.length := by omega
      have B := Lib.hid hb
      rw [List.take_length]
      clear hb hk hlt
      go_wp2_with fail
      go_ret
      exact ⟨rfl, B.out⟩
end Go.Proofs.Ytaalfnfikjmomaa
