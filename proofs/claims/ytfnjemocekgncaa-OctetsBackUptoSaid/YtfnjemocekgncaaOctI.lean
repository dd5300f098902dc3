/- Contract of the document's PutString. -/
import Derived.Test.YtfnjemocekgncaaOctH
namespace Go.Proofs.Ytfnjemocekgncaa
open Go.RowKit Go.Lib

theorem take_snoc (s : ByteArray) (k : Nat) (h : k < s.size) : s.data.toList.take (k + 1) = s.data.toList.take k ++ [s[k]] := by
  rw [List.take_succ_eq_append_getElem (by simpa using h)]; rfl
theorem byteCells_one (l : List UInt8) (b : UInt8) : Lib.byteCells (l ++ [b]) = Lib.byteCells l ++ [Value.int .u8 (b.toNat : Int)] := by simp [Lib.byteCells]

set_option maxHeartbeats 4000000 in
set_option maxRecDepth 100000 in
theorem refPutString_any (s : ByteArray) (hlim : 11 + s.size ≤ 140737488355328) (w : World) :
    Calls Try.prog 22 #[.string s] w (Owns w.heap.size 0 [] w (encS s)) := by
  obtain ⟨i0, hi, hz0, hz1, hz2⟩ := info_parts info8
  have HC := Lib.hid (refPutUint_any s.size (by omega) w)
  have hl10 := Lib.uvarint_length64 (x := s.size) (by omega)
  have hsz : (s.size : Int) ≤ 140737488355317 := by omega
  go_enter Try.func22, Try.ntmps22
  go_wp2_with fail
  go_fit (HC.out)
  rintro e w1 ⟨v', rfl, ho, hb⟩
  have HB := Lib.hid hb.1
  have HKK := Lib.hid hb.2
  have HO := Lib.hid ho
  clear hb ho
  go_wp2_with fail
  go_loopw [3, 4] (fun vb vj wr => ∃ j : Nat, j ≤ s.size ∧ vj = .int .i64 j ∧ wr.ownsRow w.heap.size 5 1 vb ((Lib.uvarint s.size).length + j) (Lib.byteCells (Lib.uvarint s.size ++ s.data.toList.take j)) ∧ Below w.heap.size w wr ∧ KeepT w wr)
    (fun _ vj _ => s.size - (RowKit.intOf vj).toNat)
  case atStart => exact ⟨0, by omega, rfl, by simpa using HO.out, HB.out, HKK.out⟩
  case round =>
    obtain ⟨j, hj, rfl, hown1, hnx, hkt⟩ := hrel
    have HKT := Lib.hid hkt
    clear hkt
    have hnz := hnx.size
    have HN := Lib.hid hnx
    clear hnx
    by_cases hlt : j < s.size
    · have HT := Lib.hid (take_snoc s j hlt)
      go_wp2_with (at_builtin; refine wpList_append_own _ rfl _ _ 23 rfl w.heap.size 5 i0 (.int .u8 0) 1 1 Try.underlying23 hi hz0 hz1 hz2 rfl (by decide) _ _ _ rfl (hown1.alloc _) ⟨wr.heap.size, 0, none⟩ 1 1 [Value.int .u8 ((s[j]).toNat : Int)] rfl rfl ?c1 ?c2 ?c3 ?c4 ?c5 ?_)
      case c1 =>
        intro j u hj
        match j, hj with
        | 0, hj => simp at hj; subst hj; simp [Addr.add]
      case c2 => intro u hu; simp at hu; subst hu; rfl
      case c3 => unfold maxLen; omega
      case c4 => omega
      case c5 => simp; omega
      intro v' w1 hown' hgrow _
      have hnx1 : Below w.heap.size w w1 := (HN.out.alloc (by omega) _).grown hgrow (by simp; omega) (fun k hk => (hown1.lt k hk).1)
      go_wp2_with fail
      go_roundw
      case rel =>
        refine ⟨j + 1, by omega, by go_num, ?_, hnx1, (HKT.out.alloc _).append (hown1.alloc _) hgrow⟩
        rw [HT.out, ← List.append_assoc, byteCells_one, ← Nat.add_assoc]
        exact hown'
      case measure => simp [RowKit.intOf]; omega
    · obtain rfl : j = s.size := by omega
      go_wp2_with fail
      go_ret
      refine ⟨_, rfl, ?_, HN.out, HKT.out⟩
      have e1 : 0 + (encS s).length = (Lib.uvarint s.size).length + s.size := by
        unfold encS; rw [List.length_append, Array.length_toList, Nat.zero_add]; rfl
      rw [List.take_of_length_le (by rw [Array.length_toList]; exact Nat.le_refl _)] at hown1
      rw [e1, List.nil_append]
      exact hown1
end Go.Proofs.Ytfnjemocekgncaa
