/- Lists of patterns with exceptions as a plain function; contract of strings.CutPrefix; contract of the program's Any (glob). -/
import Derived.Test.YtaalfnfikjmomaaGlbNe
import Derived.Test.YtaalfnfikjmomaaBaseS
namespace Go.Proofs.Ytaalfnfikjmomaa
open Go.RowKit Go.Lib
/-- The pattern behind the mark, and whether there is one. -/
def effL (x : List UInt8) : List UInt8 × Bool := if x.head? = some 33 then (x.tail, true) else (x, false)
noncomputable def anyStep (s : List UInt8) (yes : Bool) (x : List UInt8) : Bool := if matchP (effL x).1 s then !(effL x).2 else yes
noncomputable def anyP (l : List (List UInt8)) (s : List UInt8) : Bool := l.foldl (anyStep s) false
theorem anyP_nil (s : List UInt8) : anyP [] s = false := rfl
theorem anyP_take (l : List (List UInt8)) (s : List UInt8) (k : Nat) (h : k < l.length) : anyP (l.take (k + 1)) s = anyStep s (anyP (l.take k) s) l[k] := by
  unfold anyP
  rw [List.take_succ_eq_append_getElem h, List.foldl_append]
  rfl
theorem bang_pre (x : ByteArray) : decide ((⟨#[33]⟩ : ByteArray).data.toList <+: x.data.toList) = decide (x.data.toList.head? = some 33) := by
  apply decide_eq_decide.2
  show [33] <+: x.data.toList ↔ _
  cases x.data.toList with
  | nil => simp
  | cons a l =>
    constructor
    · rintro ⟨t, ht⟩; simp at ht; simp [ht.1]
    · intro h; simp at h; exact ⟨l, by rw [h]; rfl⟩
set_option maxHeartbeats 1000000 in
theorem cut_lite (s : ByteArray) (w : World) :
    Calls Try.prog 41 #[.string s, .string ⟨#[33]⟩] w fun e w' => e = .returned (.tuple #[.string ⟨(effL s.data.toList).1.toArray⟩, .bool (effL s.data.toList).2]) ∧ w = w' := by
  have P := Lib.hid (prefix_lite s ⟨#[33]⟩)
  rw [bang_pre] at P
  by_cases h : s.data.toList.head? = some 33
  · rw [decide_eq_true h] at P
    have hz : 0 < s.size := by
      rw [← lenB]
      cases hl : s.data.toList with
      | nil => rw [hl] at h; cases h
      | cons a l => simp
    have h1 : (1 : Int) ≤ (s.size : Int) := by omega
    obtain ⟨t, ht⟩ : ∃ t, t = s.extract 1 s.size := ⟨_, rfl⟩
    have hsl := ht.symm
    have H := Lib.hid (show effL s.data.toList = (t.data.toList, true) by
      unfold effL
      rw [if_pos h, ht, ext_drop]
      cases s.data.toList <;> rfl)
    clear h hz ht
    go_enter Try.func41, Try.ntmps41
    go_wp2_with fail
    go_fit (P.out _)
    rintro e w1 ⟨rfl, rfl⟩
    go_wp2_with fail
    go_ret2
    refine ⟨?_, rfl⟩
    rw [H.out]
    show _ = Ending.returned (.tuple #[.string ⟨t.data.toList.toArray⟩, .bool true])
    rw [str_of]
    rfl
  · rw [decide_eq_false h] at P
    have H := Lib.hid (show effL s.data.toList = (s.data.toList, false) by unfold effL; rw [if_neg h])
    clear h
    go_enter Try.func41, Try.ntmps41
    go_wp2_with fail
    go_fit (P.out _)
    rintro e w1 ⟨rfl, rfl⟩
    go_wp2_with fail
    go_ret2
    refine ⟨?_, rfl⟩
    rw [H.out]
    show _ = Ending.returned (.tuple #[.string ⟨s.data.toList.toArray⟩, .bool false])
    rw [str_of]
    rfl
set_option maxHeartbeats 1000000 in
theorem cut_any (s : ByteArray) (w : World) :
    Calls Try.prog 27 #[.string s, .string ⟨#[33]⟩] w fun e w' => e = .returned (.tuple #[.string ⟨(effL s.data.toList).1.toArray⟩, .bool (effL s.data.toList).2]) ∧ w = w' := by
  have P := Lib.hid (cut_lite s)
  go_enter Try.func27, Try.ntmps27
  go_wp2_with fail
  go_fit (P.out _)
  rintro e w1 ⟨rfl, rfl⟩
  go_wp2_with fail
  go_ret2
  exact ⟨rfl, rfl⟩
set_option maxHeartbeats 4000000 in
theorem any_any (a : Option Addr) (cp : Nat) (L : List (List UInt8)) (s : ByteArray) (hL : L.length ≤ 1000) (hs : s.size ≤ 1099511627776) (w : World) (hr : ReadsStr w a L) :
    Calls Try.prog 15 #[.slice a L.length cp, .string s] w fun e w' => e = .returned (.bool (anyP L s.data.toList)) ∧ Below w.heap.size w w' := by
  have R := Lib.hid hr
  have HS := Lib.hid hs
  have HL := Lib.hid hL
  have l0 : (0 : Int) ≤ L.length ∧ (L.length : Int) ≤ 1000 := by omega
  have B0 := Lib.hid (Below.refl w.heap.size w)
  clear hr hs hL
  go_enter Try.func15, Try.ntmps15
  go_wp2_with fail
  go_loopw [5] (fun s5 wr => ∃ k : Nat, s5 = .int .i64 ((k : Int) - 1) ∧ k ≤ L.length ∧ anyP L s.data.toList = anyP (L.take k) s.data.toList ∧ Below w.heap.size w wr) (fun s5 _ => (RowKit.intOf s5 + 1).toNat)
  case atStart => exact ⟨L.length, rfl, Nat.le_refl _, by rw [List.take_length], B0.out⟩
  case round =>
    obtain ⟨k, rfl, hk, he, hb⟩ := hrel
    cases k with
    | zero =>
      have HV := Lib.hid (show anyP L s.data.toList = false by rw [he, List.take_zero]; rfl)
      have B := Lib.hid hb
      rw [show ((0 : Nat) : Int) - 1 = -1 by omega]
      clear he hb hk
      go_wp2_with fail
      go_ret
      exact ⟨by rw [HV.out]; rfl, B.out⟩
    | succ j =>
      rw [show ((j + 1 : Nat) : Int) - 1 = (j : Int) by omega]
      obtain ⟨b, off, rfl, hlt, hc⟩ := R.out.below hb j (by omega)
      obtain ⟨x, hx⟩ : ∃ x : ByteArray, x = ⟨L[j].toArray⟩ := ⟨_, rfl⟩
      have hxl : x.data.toList = L[j] := by rw [hx]
      rw [← hx] at hc
      have C := Lib.hid (cut_any x)
      obtain ⟨y, hy⟩ : ∃ y : ByteArray, y = ⟨(effL x.data.toList).1.toArray⟩ := ⟨_, rfl⟩
      have hyl : y.data.toList = (effL x.data.toList).1 := by rw [hy]
      obtain ⟨ex, hex⟩ : ∃ ex, ex = (effL x.data.toList).2 := ⟨_, rfl⟩
      rw [← hy, ← hex] at C
      have MT := Lib.hid (fun w => match_any y s HS.out w)
      have HV := Lib.hid (show anyP L s.data.toList = if matchP y.data.toList s.data.toList then !ex else anyP (L.take j) s.data.toList by
        rw [he, anyP_take L _ j (by omega), anyStep, ← hxl, ← hyl, ← hex])
      have B := Lib.hid hb
      have j0 : (0 : Int) ≤ j ∧ (j : Int) < (L.length : Int) := by omega
      have HJ := Lib.hid hk
      clear hx hxl hy hyl hex he hb hk
      go_wp2_with fail
      go_fit (C.out _)
      rintro e w1 ⟨rfl, rfl⟩
      go_wp2_with fail
      go_fit (MT.out _)
      rintro e w2 ⟨rfl, hb2⟩
      have B2 := Lib.hid hb2
      clear hb2
      cases hm : matchP y.data.toList s.data.toList
      · rw [hm] at HV
        have HV2 := Lib.hid (show anyP L s.data.toList = anyP (L.take j) s.data.toList from HV.out)
        clear hm HV
        go_wp2_with fail
        go_roundw
        case rel => exact ⟨j, rfl, by have := HJ.out; omega, HV2.out, B.out.trans (B2.out.mono B.out.size)⟩
        case measure => simp [RowKit.intOf]
      · rw [hm] at HV
        have HV2 := Lib.hid (show anyP L s.data.toList = !ex from HV.out)
        clear hm HV
        go_wp2_with fail
        go_ret
        exact ⟨by rw [HV2.out]; rfl, B.out.trans (B2.out.mono B.out.size)⟩
end Go.Proofs.Ytaalfnfikjmomaa
