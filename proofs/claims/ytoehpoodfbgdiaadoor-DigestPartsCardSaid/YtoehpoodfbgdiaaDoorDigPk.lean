/- Contract of the program's appendGroup (digest): eight bytes more. -/
import Derived.Test.YtoehpoodfbgdiaaDoorDigPj
namespace Go.Proofs.YtoehpoodfbgdiaaDoor
open Go.RowKit Go.Lib

set_option maxHeartbeats 4000000 in
set_option maxRecDepth 100000 in
theorem appendGroup_any (B : Nat) (v : Value) (d : List UInt8) (q : Nat) (hq : q < 18446744073709551616) (hd : d.length ≤ 140737488355000) (w : World) (hB : B ≤ w.heap.size) (ho : OwnsZ w B v d) :
    Calls Tryd.prog 30 #[v, .int .u64 q] w fun e w' => ∃ v', e = .returned v' ∧ OwnsZ w' B v' (d ++ leB 8 q) ∧ Below B w w' := by
  obtain ⟨i0, hi, hz0, hz1, hz2⟩ := info_parts info8
  have q0 : (0 : Int) ≤ q ∧ (q : Int) ≤ 18446744073709551615 := by omega
  have HO0 := Lib.hid ho
  clear ho hq
  go_enter Tryd.func30, Tryd.ntmps30
  go_wp2_with fail
  go_loopw [0, 6] (fun s0 s6 wr => ∃ k : Nat, k ≤ 8 ∧ s6 = .int .i64 (k : Int) ∧ OwnsZ wr B s0 (d ++ leB k q) ∧ Below B w wr) (fun _ s6 _ => 8 - (RowKit.intOf s6).toNat)
  case atStart => exact ⟨0, by omega, rfl, by simpa [leB] using HO0.out, Below.refl _ _⟩
  case round =>
    obtain ⟨k, hk, rfl, hown, hbel⟩ := hrel
    have hz : B ≤ wr.heap.size := Nat.le_trans hB hbel.size
    have hwl : (d ++ leB k q).length = d.length + k := by rw [List.length_append, leB_len]
    have HO := Lib.hid hown
    have HB := Lib.hid hbel
    clear hown hbel
    by_cases h8 : k = 8
    · subst h8
      go_wp2_with fail
      go_ret
      exact ⟨_, rfl, HO.out, HB.out⟩
    · rcases (show k = 0 ∨ k = 1 ∨ k = 2 ∨ k = 3 ∨ k = 4 ∨ k = 5 ∨ k = 6 ∨ k = 7 by omega) with rfl | rfl | rfl | rfl | rfl | rfl | rfl | rfl
      · have hsn : d ++ leB (0 + 1) q = (d ++ leB 0 q) ++ [(q / 1 % 256).toUInt8] := by rw [leB_snoc, List.append_assoc]
        obtain ⟨y, hy⟩ : ∃ y, y = q / 1 % 256 := ⟨_, rfl⟩
        rw [← hy] at hsn
        have HSN := Lib.hid hsn
        have hy0 : (q : Int) % 256 = (y : Int) := by omega
        have hy9 : y < 256 := by omega
        clear hsn hy hk h8
        go_wp2_with (at_builtin; refine wpList_append_byte _ rfl _ _ rfl B rfl (HO.out.alloc _) i0 hi hz0 hz1 hz2 ⟨wr.heap.size, 0, none⟩ 1 y rfl hy9 ?c1 ?c2 ?c3 ?_)
        case c1 => simp
        case c2 => omega
        case c3 => simp; omega
        intro v' w1 ho1 hb1
        have HO1 := Lib.hid (show OwnsZ w1 B v' (d ++ leB (0 + 1) q) by rw [HSN.out, List.append_assoc]; exact ho1)
        have HB1 := Lib.hid ((HB.out.alloc hz (Obj.cells #[.int .u8 (y : Int)] 5)).trans hb1)
        clear ho1 hb1
        go_wp2_with fail
        go_roundw
        case rel => exact ⟨0 + 1, by omega, rfl, HO1.out, HB1.out⟩
        case measure => simp [RowKit.intOf]
      · have hsn : d ++ leB (1 + 1) q = (d ++ leB 1 q) ++ [(q / 256 % 256).toUInt8] := by rw [leB_snoc, List.append_assoc]
        obtain ⟨y, hy⟩ : ∃ y, y = q / 256 % 256 := ⟨_, rfl⟩
        rw [← hy] at hsn
        have HSN := Lib.hid hsn
        have hy0 : (q : Int) / 256 % 256 = (y : Int) := by omega
        have hy9 : y < 256 := by omega
        clear hsn hy hk h8
        go_wp2_with (at_builtin; refine wpList_append_byte _ rfl _ _ rfl B rfl (HO.out.alloc _) i0 hi hz0 hz1 hz2 ⟨wr.heap.size, 0, none⟩ 1 y rfl hy9 ?c1 ?c2 ?c3 ?_)
        case c1 => simp
        case c2 => omega
        case c3 => simp; omega
        intro v' w1 ho1 hb1
        have HO1 := Lib.hid (show OwnsZ w1 B v' (d ++ leB (1 + 1) q) by rw [HSN.out, List.append_assoc]; exact ho1)
        have HB1 := Lib.hid ((HB.out.alloc hz (Obj.cells #[.int .u8 (y : Int)] 5)).trans hb1)
        clear ho1 hb1
        go_wp2_with fail
        go_roundw
        case rel => exact ⟨1 + 1, by omega, rfl, HO1.out, HB1.out⟩
        case measure => simp [RowKit.intOf]
      · have hsn : d ++ leB (2 + 1) q = (d ++ leB 2 q) ++ [(q / 65536 % 256).toUInt8] := by rw [leB_snoc, List.append_assoc]
        obtain ⟨y, hy⟩ : ∃ y, y = q / 65536 % 256 := ⟨_, rfl⟩
        rw [← hy] at hsn
        have HSN := Lib.hid hsn
        have hy0 : (q : Int) / 65536 % 256 = (y : Int) := by omega
        have hy9 : y < 256 := by omega
        clear hsn hy hk h8
        go_wp2_with (at_builtin; refine wpList_append_byte _ rfl _ _ rfl B rfl (HO.out.alloc _) i0 hi hz0 hz1 hz2 ⟨wr.heap.size, 0, none⟩ 1 y rfl hy9 ?c1 ?c2 ?c3 ?_)
        case c1 => simp
        case c2 => omega
        case c3 => simp; omega
        intro v' w1 ho1 hb1
        have HO1 := Lib.hid (show OwnsZ w1 B v' (d ++ leB (2 + 1) q) by rw [HSN.out, List.append_assoc]; exact ho1)
        have HB1 := Lib.hid ((HB.out.alloc hz (Obj.cells #[.int .u8 (y : Int)] 5)).trans hb1)
        clear ho1 hb1
        go_wp2_with fail
        go_roundw
        case rel => exact ⟨2 + 1, by omega, rfl, HO1.out, HB1.out⟩
        case measure => simp [RowKit.intOf]
      · have hsn : d ++ leB (3 + 1) q = (d ++ leB 3 q) ++ [(q / 16777216 % 256).toUInt8] := by rw [leB_snoc, List.append_assoc]
        obtain ⟨y, hy⟩ : ∃ y, y = q / 16777216 % 256 := ⟨_, rfl⟩
        rw [← hy] at hsn
        have HSN := Lib.hid hsn
        have hy0 : (q : Int) / 16777216 % 256 = (y : Int) := by omega
        have hy9 : y < 256 := by omega
        clear hsn hy hk h8
        go_wp2_with (at_builtin; refine wpList_append_byte _ rfl _ _ rfl B rfl (HO.out.alloc _) i0 hi hz0 hz1 hz2 ⟨wr.heap.size, 0, none⟩ 1 y rfl hy9 ?c1 ?c2 ?c3 ?_)
        case c1 => simp
        case c2 => omega
        case c3 => simp; omega
        intro v' w1 ho1 hb1
        have HO1 := Lib.hid (show OwnsZ w1 B v' (d ++ leB (3 + 1) q) by rw [HSN.out, List.append_assoc]; exact ho1)
        have HB1 := Lib.hid ((HB.out.alloc hz (Obj.cells #[.int .u8 (y : Int)] 5)).trans hb1)
        clear ho1 hb1
        go_wp2_with fail
        go_roundw
        case rel => exact ⟨3 + 1, by omega, rfl, HO1.out, HB1.out⟩
        case measure => simp [RowKit.intOf]
      · have hsn : d ++ leB (4 + 1) q = (d ++ leB 4 q) ++ [(q / 4294967296 % 256).toUInt8] := by rw [leB_snoc, List.append_assoc]
        obtain ⟨y, hy⟩ : ∃ y, y = q / 4294967296 % 256 := ⟨_, rfl⟩
        rw [← hy] at hsn
        have HSN := Lib.hid hsn
        have hy0 : (q : Int) / 4294967296 % 256 = (y : Int) := by omega
        have hy9 : y < 256 := by omega
        clear hsn hy hk h8
        go_wp2_with (at_builtin; refine wpList_append_byte _ rfl _ _ rfl B rfl (HO.out.alloc _) i0 hi hz0 hz1 hz2 ⟨wr.heap.size, 0, none⟩ 1 y rfl hy9 ?c1 ?c2 ?c3 ?_)
        case c1 => simp
        case c2 => omega
        case c3 => simp; omega
        intro v' w1 ho1 hb1
        have HO1 := Lib.hid (show OwnsZ w1 B v' (d ++ leB (4 + 1) q) by rw [HSN.out, List.append_assoc]; exact ho1)
        have HB1 := Lib.hid ((HB.out.alloc hz (Obj.cells #[.int .u8 (y : Int)] 5)).trans hb1)
        clear ho1 hb1
        go_wp2_with fail
        go_roundw
        case rel => exact ⟨4 + 1, by omega, rfl, HO1.out, HB1.out⟩
        case measure => simp [RowKit.intOf]
      · have hsn : d ++ leB (5 + 1) q = (d ++ leB 5 q) ++ [(q / 1099511627776 % 256).toUInt8] := by rw [leB_snoc, List.append_assoc]
        obtain ⟨y, hy⟩ : ∃ y, y = q / 1099511627776 % 256 := ⟨_, rfl⟩
        rw [← hy] at hsn
        have HSN := Lib.hid hsn
        have hy0 : (q : Int) / 1099511627776 % 256 = (y : Int) := by omega
        have hy9 : y < 256 := by omega
        clear hsn hy hk h8
        go_wp2_with (at_builtin; refine wpList_append_byte _ rfl _ _ rfl B rfl (HO.out.alloc _) i0 hi hz0 hz1 hz2 ⟨wr.heap.size, 0, none⟩ 1 y rfl hy9 ?c1 ?c2 ?c3 ?_)
        case c1 => simp
        case c2 => omega
        case c3 => simp; omega
        intro v' w1 ho1 hb1
        have HO1 := Lib.hid (show OwnsZ w1 B v' (d ++ leB (5 + 1) q) by rw [HSN.out, List.append_assoc]; exact ho1)
        have HB1 := Lib.hid ((HB.out.alloc hz (Obj.cells #[.int .u8 (y : Int)] 5)).trans hb1)
        clear ho1 hb1
        go_wp2_with fail
        go_roundw
        case rel => exact ⟨5 + 1, by omega, rfl, HO1.out, HB1.out⟩
        case measure => simp [RowKit.intOf]
      · have hsn : d ++ leB (6 + 1) q = (d ++ leB 6 q) ++ [(q / 281474976710656 % 256).toUInt8] := by rw [leB_snoc, List.append_assoc]
        obtain ⟨y, hy⟩ : ∃ y, y = q / 281474976710656 % 256 := ⟨_, rfl⟩
        rw [← hy] at hsn
        have HSN := Lib.hid hsn
        have hy0 : (q : Int) / 281474976710656 % 256 = (y : Int) := by omega
        have hy9 : y < 256 := by omega
        clear hsn hy hk h8
        go_wp2_with (at_builtin; refine wpList_append_byte _ rfl _ _ rfl B rfl (HO.out.alloc _) i0 hi hz0 hz1 hz2 ⟨wr.heap.size, 0, none⟩ 1 y rfl hy9 ?c1 ?c2 ?c3 ?_)
        case c1 => simp
        case c2 => omega
        case c3 => simp; omega
        intro v' w1 ho1 hb1
        have HO1 := Lib.hid (show OwnsZ w1 B v' (d ++ leB (6 + 1) q) by rw [HSN.out, List.append_assoc]; exact ho1)
        have HB1 := Lib.hid ((HB.out.alloc hz (Obj.cells #[.int .u8 (y : Int)] 5)).trans hb1)
        clear ho1 hb1
        go_wp2_with fail
        go_roundw
        case rel => exact ⟨6 + 1, by omega, rfl, HO1.out, HB1.out⟩
        case measure => simp [RowKit.intOf]
      · have hsn : d ++ leB (7 + 1) q = (d ++ leB 7 q) ++ [(q / 72057594037927936 % 256).toUInt8] := by rw [leB_snoc, List.append_assoc]
        obtain ⟨y, hy⟩ : ∃ y, y = q / 72057594037927936 % 256 := ⟨_, rfl⟩
        rw [← hy] at hsn
        have HSN := Lib.hid hsn
        have hy0 : (q : Int) / 72057594037927936 = (y : Int) := by omega
        have hy9 : y < 256 := by omega
        clear hsn hy hk h8
        go_wp2_with (at_builtin; refine wpList_append_byte _ rfl _ _ rfl B rfl (HO.out.alloc _) i0 hi hz0 hz1 hz2 ⟨wr.heap.size, 0, none⟩ 1 y rfl hy9 ?c1 ?c2 ?c3 ?_)
        case c1 => simp
        case c2 => omega
        case c3 => simp; omega
        intro v' w1 ho1 hb1
        have HO1 := Lib.hid (show OwnsZ w1 B v' (d ++ leB (7 + 1) q) by rw [HSN.out, List.append_assoc]; exact ho1)
        have HB1 := Lib.hid ((HB.out.alloc hz (Obj.cells #[.int .u8 (y : Int)] 5)).trans hb1)
        clear ho1 hb1
        go_wp2_with fail
        go_roundw
        case rel => exact ⟨7 + 1, by omega, rfl, HO1.out, HB1.out⟩
        case measure => simp [RowKit.intOf]
end Go.Proofs.YtoehpoodfbgdiaaDoor
