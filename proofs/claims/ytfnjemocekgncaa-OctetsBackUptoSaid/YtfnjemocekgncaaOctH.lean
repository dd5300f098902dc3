/- Contracts of the document's PutUint, PutInt, PutString. -/
import Derived.Test.YtfnjemocekgncaaOctG
namespace Go.Proofs.Ytfnjemocekgncaa
open Go.RowKit Go.Lib

set_option maxHeartbeats 4000000 in
set_option maxRecDepth 100000 in
theorem refPutUint_any (x : Nat) (hx : x < 18446744073709551616) (w : World) :
    Calls Try.prog 13 #[.int .u64 x] w (Owns w.heap.size 0 [] w (Lib.uvarint x)) := by
  obtain ⟨i0, hi, hz0, hz1, hz2⟩ := info_parts info8
  have hlen := Lib.uvarint_length64 hx
  go_enter Try.func13, Try.ntmps13
  go_wp2_with fail
  go_loopw [0, 3] (fun vx vb wr => ∃ (y : Nat) (pre : List UInt8), vx = .int .u64 y ∧ y ≤ x ∧ Lib.uvarint x = pre ++ Lib.uvarint y ∧ wr.ownsRow w.heap.size 5 1 vb (0 + pre.length) ([] ++ Lib.byteCells pre) ∧ Below w.heap.size w wr ∧ KeepT w wr)
    (fun vx _ _ => (RowKit.intOf vx).toNat)
  case atStart => exact ⟨x, [], rfl, Nat.le_refl _, rfl, World.ownsRow_nil w _ _ _, Below.refl _ _, KeepT.refl _⟩
  case round =>
    obtain ⟨y, pre, rfl, hy, hsplit, hown1, hnx, hkt⟩ := hrel
    have HKT := Lib.hid hkt
    clear hkt
    have hpl : pre.length + (Lib.uvarint y).length ≤ 10 := by
      have h2 := congrArg List.length hsplit
      rw [List.length_append] at h2
      omega
    have hyp := Lib.uvarint_pos y
    have hnz := hnx.size
    have HN := Lib.hid hnx
    have HS := Lib.hid hsplit
    clear hnx hsplit
    by_cases h128 : 128 ≤ y
    · have ec : ((y % 128 + 128 : Nat) : Int) = 128 + (y : Int) % 128 := by omega
      go_wp2_with (at_builtin; refine wpList_append_own _ rfl _ _ 23 rfl w.heap.size 5 i0 (.int .u8 0) 1 1 Try.underlying23 hi hz0 hz1 hz2 rfl (by decide) _ _ _ rfl (hown1.alloc _) ⟨wr.heap.size, 0, none⟩ 1 1 [Value.int .u8 (128 + (y : Int) % 128)] rfl rfl ?c1 ?c2 ?c3 ?c4 ?c5 ?_)
      case c1 =>
        intro j u hj
        match j, hj with
        | 0, hj => simp at hj; subst hj; simp [Addr.add]
      case c2 => intro u hu; simp at hu; subst hu; rfl
      case c3 => unfold maxLen; omega
      case c4 => omega
      case c5 => simp; omega
      intro v' w1 hown' hgrow _
      have hnx1 : Below w.heap.size w w1 := (HN.out.alloc (by omega) _).grown hgrow (by simp; omega) (fun k hk => (hown1.lt k hk).1)
      go_wp2_with fail
      go_roundw
      case rel =>
        refine ⟨y / 128, pre ++ [(y % 128 + 128).toUInt8], by go_num, by omega, by rw [HS.out, Lib.uvarint_big h128]; simp, ?_, hnx1, (HKT.out.alloc _).append (hown1.alloc _) hgrow⟩
        rw [Lib.byteCells_snoc pre (by omega), List.length_append, List.length_singleton, ← Nat.add_assoc, ec]
        rw [Nat.zero_add, List.nil_append]
        exact hown'
      case measure => simp [RowKit.intOf]; omega
    · have hsm : Lib.uvarint y = [y.toUInt8] := Lib.uvarint_small (by omega)
      go_wp2_with (at_builtin; refine wpList_append_own _ rfl _ _ 23 rfl w.heap.size 5 i0 (.int .u8 0) 1 1 Try.underlying23 hi hz0 hz1 hz2 rfl (by decide) _ _ _ rfl (hown1.alloc _) ⟨wr.heap.size, 0, none⟩ 1 1 [Value.int .u8 (y : Int)] rfl rfl ?c1 ?c2 ?c3 ?c4 ?c5 ?_)
      case c1 =>
        intro j u hj
        match j, hj with
        | 0, hj => simp at hj; subst hj; simp [Addr.add]
      case c2 => intro u hu; simp at hu; subst hu; rfl
      case c3 => unfold maxLen; omega
      case c4 => omega
      case c5 => simp; omega
      intro v' w1 hown' hgrow _
      have hnx1 : Below w.heap.size w w1 := (HN.out.alloc (by omega) _).grown hgrow (by simp; omega) (fun k hk => (hown1.lt k hk).1)
      go_wp2_with fail
      go_ret
      refine ⟨v', rfl, ?_, hnx1, (HKT.out.alloc _).append (hown1.alloc _) hgrow⟩
      rw [HS.out, hsm, Lib.byteCells_snoc pre (by omega), List.length_append, List.length_singleton, ← Nat.add_assoc]
      rw [Nat.zero_add, List.nil_append]
      exact hown'

set_option maxHeartbeats 4000000 in
theorem refPutInt_any (x : Int) (h0 : -9223372036854775808 ≤ x) (h1 : x ≤ 9223372036854775807) (w : World) :
    Calls Try.prog 14 #[.int .i64 x] w (Owns w.heap.size 0 [] w (Lib.uvarint (Lib.zigzag x))) := by
  have HC := Lib.hid (refPutUint_any (Lib.zigzag x) (Lib.zigzag_lt h0 h1) w)
  by_cases hx : x < 0
  · have e : ((Lib.zigzag x : Nat) : Int) = 2 * -(x + 1) + 1 := by unfold Lib.zigzag; rw [if_neg (by omega)]; omega
    have hc := HC.out
    rw [e] at hc
    have HC2 := Lib.hid hc
    clear hc HC e
    go_enter Try.func14, Try.ntmps14
    go_wp2_with fail
    go_fit (HC2.out)
    rintro e w1 ⟨v', rfl, ho, hb⟩
    go_wp2_with fail
    go_ret
    exact ⟨v', rfl, ho, hb⟩
  · have e : ((Lib.zigzag x : Nat) : Int) = 2 * x := by unfold Lib.zigzag; rw [if_pos (by omega)]; omega
    have hc := HC.out
    rw [e] at hc
    have HC2 := Lib.hid hc
    clear hc HC e
    go_enter Try.func14, Try.ntmps14
    go_wp2_with fail
    go_fit (HC2.out)
    rintro e w1 ⟨v', rfl, ho, hb⟩
    go_wp2_with fail
    go_ret
    exact ⟨v', rfl, ho, hb⟩
end Go.Proofs.Ytfnjemocekgncaa
