/- Contracts of strconv.ParseUint at base 16 and of the program's Parse (digest). -/
import Derived.Test.YtoehpoodfbgdiaaDoorDigPd
namespace Go.Proofs.YtoehpoodfbgdiaaDoor
open Go.RowKit Go.Lib

theorem toErr_any (s : ByteArray) (k : Nat) (hk : k = 1 ∨ k = 2) (hs : s.size ≤ 281474976710656) (w : World) (hT : Tabs w) :
    Calls Tryd.prog 45 #[.string ⟨#[80, 97, 114, 115, 101, 85, 105, 110, 116]⟩, .string s, .int .i64 16, .int .i64 64, .iface 88 (.int .i64 (k : Int))] w fun e w' => (∃ te pe, e = .returned (.iface te pe)) ∧ Below w.heap.size w w' := by
  rcases hk with rfl | rfl
  · obtain ⟨te, pe, h⟩ := hT.2.2
    refine (Tryd.strconv_toError_range _ s 16 64 _ w hs h (.inr ⟨te, pe, rfl⟩)).mono ?_
    rintro e w' ⟨N, rfl, _, _, hb⟩
    exact ⟨⟨_, _, rfl⟩, hb⟩
  · obtain ⟨te, pe, h⟩ := hT.2.1
    refine (Tryd.strconv_toError_syntax _ s 16 64 _ w hs h (.inr ⟨te, pe, rfl⟩)).mono ?_
    rintro e w' ⟨N, rfl, _, _, hb⟩
    exact ⟨⟨_, _, rfl⟩, hb⟩

set_option maxHeartbeats 4000000 in
set_option maxRecDepth 100000 in
theorem parse16_any (s : ByteArray) (hs : s.size ≤ 281474976710656) (w : World) (hT : Tabs w) :
    Calls Tryd.prog 33 #[.string s, .int .i64 16, .int .i64 64] w fun e w' => (∃ (x : Nat) (er : Value), x < 18446744073709551616 ∧ e = .returned (.tuple #[.int .u64 x, er]) ∧ ((er = .nilIface ∧ s.size ≠ 0 ∧ puL 0 s.data.toList = (x, 0)) ∨ ((∃ te pe, er = .iface te pe) ∧ (s.size = 0 ∨ (puL 0 s.data.toList).2 ≠ 0)))) ∧ Below w.heap.size w w' := by
  have HT := Lib.hid hT
  by_cases h0 : s.size = 0
  · obtain rfl : s = ⟨#[]⟩ := by
      apply ByteArray.ext
      exact Array.eq_empty_of_size_eq_zero h0
    have H := Lib.hid (fun w => Tryd.internal_strconv_ParseUint_empty 16 64 w)
    have E := Lib.hid (fun w h => toErr_any ⟨#[]⟩ 2 (.inr rfl) (by decide) w h)
    clear hT hs h0
    go_enter Tryd.func33, Tryd.ntmps33
    go_wp2_with fail
    go_fit (H.out _)
    rintro e w1 ⟨rfl, rfl⟩
    go_wp2_with fail
    go_fit (E.out _ HT.out)
    rintro e w2 ⟨⟨te, pe, rfl⟩, hb⟩
    have B := Lib.hid hb
    clear hb
    go_wp2_with fail
    go_ret2
    exact ⟨⟨0, _, by decide, rfl, .inr ⟨⟨_, _, rfl⟩, .inl rfl⟩⟩, B.out⟩
  · have H := Lib.hid (fun w => innerParse16_any s h0 (by omega) w)
    have hl := puL_lt s.data.toList 0 (by decide)
    have E := Lib.hid (fun (k : Nat) (hk : k = 1 ∨ k = 2) w h => toErr_any s k hk hs w h)
    obtain ⟨x, hx⟩ : ∃ x, x = (puL 0 s.data.toList).1 := ⟨_, rfl⟩
    obtain ⟨k, hk⟩ : ∃ k, k = (puL 0 s.data.toList).2 := ⟨_, rfl⟩
    rw [← hx, ← hk] at hl H
    have HX := Lib.hid (And.intro h0 (And.intro hx (And.intro hk hl.1)))
    have hk2 := hl.2
    clear hT hs h0 hx hk hl
    rcases (show k = 0 ∨ (k = 1 ∨ k = 2) by omega) with rfl | hk12
    · go_enter Tryd.func33, Tryd.ntmps33
      go_wp2_with fail
      go_fit (H.out _)
      rintro e w1 ⟨rfl, hb⟩
      have B := Lib.hid hb
      clear hb
      have e0 : errV 0 = .nilIface := rfl
      rw [e0]
      go_wp2_with fail
      go_ret2
      exact ⟨⟨x, _, HX.out.2.2.2, rfl, .inl ⟨rfl, HX.out.1, Prod.ext HX.out.2.1.symm HX.out.2.2.1.symm⟩⟩, B.out⟩
    · have hek : errV k = .iface 88 (.int .i64 (k : Int)) := by unfold errV; rw [if_neg (by omega)]
      have hkn : k ≠ 0 := by omega
      have E2 := Lib.hid (E.out k hk12)
      rw [hek] at H
      have HK := Lib.hid hkn
      clear hek hk12 hk2 hkn E
      go_enter Tryd.func33, Tryd.ntmps33
      go_wp2_with fail
      go_fit (H.out _)
      rintro e w1 ⟨rfl, hb⟩
      have B := Lib.hid hb
      have T1 := Lib.hid (HT.out.below hb)
      clear hb
      go_wp2_with fail
      go_fit (E2.out _ T1.out)
      rintro e w2 ⟨⟨te, pe, rfl⟩, hb⟩
      have B2 := Lib.hid (B.out.trans (hb.mono B.out.size))
      clear hb
      go_wp2_with fail
      go_ret2
      exact ⟨⟨x, _, HX.out.2.2.2, rfl, .inr ⟨⟨_, _, rfl⟩, .inr (by rw [← HX.out.2.2.1]; exact HK.out)⟩⟩, B2.out⟩

/-- What Parse answers, out of what ParseUint and Text answer. -/
theorem parse_ok {l : List UInt8} {x : Nat} (hx : x < 18446744073709551616) (h : hexT 16 x = l) : parseD l = (x, 0) := by
  subst h
  exact parse_text x hx
theorem parse_bad {l : List UInt8} {x : Nat} (hp : puL 0 l = (x, 0)) (h : hexT 16 x ≠ l) : parseD l = (0, 5) := by
  unfold parseD
  cases hx : hexN 0 (l.take 16) with
  | none => rfl
  | some n =>
    by_cases h16 : l.length = 16
    · exfalso
      rw [List.take_of_length_le (by omega)] at hx
      have h2 := puL_hexN l 0 n hx (by rw [h16]; decide)
      rw [h2] at hp
      obtain rfl : n = x := (Prod.mk.inj hp).1
      have h3 := hexT_acc l 0 0 n hx
      rw [Nat.zero_add, h16] at h3
      exact h h3
    · simp [h16]
theorem parse_err {l : List UInt8} (hp : l.length = 0 ∨ (puL 0 l).2 ≠ 0) : parseD l = (0, 5) := by
  unfold parseD
  cases hx : hexN 0 (l.take 16) with
  | none => rfl
  | some n =>
    by_cases h16 : l.length = 16
    · exfalso
      rw [List.take_of_length_le (by omega)] at hx
      have h2 := puL_hexN l 0 n hx (by rw [h16]; decide)
      rw [h2] at hp
      simp [h16] at hp
    · simp [h16]
set_option maxHeartbeats 4000000 in
set_option maxRecDepth 100000 in
theorem digParse_any (s : ByteArray) (hs : s.size ≤ 281474976710656) (w : World) (hT : Tabs w) :
    Calls Tryd.prog 18 #[.string s] w fun e w' => e = .returned (.tuple #[.int .u64 ((parseD s.data.toList).1 : Nat), .int .i64 ((parseD s.data.toList).2 : Nat)]) ∧ Below w.heap.size w w' := by
  have P := Lib.hid (fun w h => parse16_any s hs w h)
  have HT := Lib.hid hT
  clear hs hT
  go_enter Tryd.func18, Tryd.ntmps18
  go_wp2_with fail
  go_fit (P.out _ HT.out)
  rintro e w1 ⟨⟨x, er, hx, rfl, hor⟩, hb⟩
  have B := Lib.hid hb
  have T1 := Lib.hid (HT.out.below hb)
  have X := Lib.hid (fun w h => digText_any x hx w h)
  have HX := Lib.hid hx
  clear hb hx
  rcases hor with ⟨rfl, h0, hp⟩ | ⟨⟨te, pe, rfl⟩, hp⟩
  · have HP := Lib.hid hp
    clear h0 hp
    go_wp2_with fail
    go_fit (X.out _ T1.out)
    rintro e w2 ⟨rfl, hb⟩
    have B2 := Lib.hid (B.out.trans (hb.mono B.out.size))
    clear hb
    by_cases hq : hexT 16 x = s.data.toList
    · have HQ := Lib.hid (parse_ok HX.out hq)
      have hs : (⟨(hexT 16 x).toArray⟩ : ByteArray) = s := by rw [hq]
      rw [hs]
      go_wp2_with fail
      go_ret2
      exact ⟨by rw [HQ.out]; rfl, B2.out⟩
    · have HQ := Lib.hid (parse_bad HP.out hq)
      have u1 : (hexT 16 x == s.toList) = false := by rw [Lib.toList_data, beq_eq_false_iff_ne]; exact hq
      clear hq
      go_wp2_with fail
      go_ret2
      exact ⟨by rw [HQ.out]; rfl, B2.out⟩
  · have HQ := Lib.hid (parse_err (hp.imp (fun h => by rw [← Lib.size_eq]; exact h) id))
    clear hp
    go_wp2_with fail
    go_ret2
    exact ⟨by rw [HQ.out]; rfl, B.out⟩
end Go.Proofs.YtoehpoodfbgdiaaDoor
