/- Contract of the program's first (glob). -/
import Derived.Test.YtaalfnfikjmomaaGlbY
namespace Go.Proofs.Ytaalfnfikjmomaa
open Go.RowKit Go.Lib
/-- What first gives. -/
def FirstPost (s : ByteArray) (w : World) (e : Ending) (w' : World) : Prop :=
  Below w.heap.size w w' ∧ match elemL s.data.toList with
  | some (x, r) => ∃ n : Nat, n + r.length = s.size ∧ r = s.data.toList.drop n ∧ 0 < n ∧ e = .returned (.tuple #[.agg (elC x).toArray, .int .i64 n, .bool true])
  | none => e = .returned (.tuple #[.agg #[.int .u64 0, .int .u64 0, .int .u64 0, .int .u64 0, .bool false, .bool false, .int .u8 0], .int .i64 0, .bool false])
theorem el_every : elC ⟨1, []⟩ = [Value.int .u64 18446744073709551615, .int .u64 18446744073709551615, .int .u64 18446744073709551615, .int .u64 18446744073709551615, .bool true, .bool false, .int .u8 0] := by
  have h : setC (fun _ => true) ++ [] = [Value.int .u64 18446744073709551615, .int .u64 18446744073709551615, .int .u64 18446744073709551615, .int .u64 18446744073709551615] ++ [] := congrArg Array.toList (full_arr [])
  rw [List.append_nil, List.append_nil] at h
  unfold elC
  rw [acc_every, h]
  rfl
set_option maxHeartbeats 2000000 in
theorem first_every (s : ByteArray) (r : List UInt8) (hl : s.data.toList = 42 :: 42 :: r) (w : World) :
    Calls Try.prog 31 #[.string s] w (FirstPost s w) := by
  have H := Lib.hid (prefix_any s ⟨#[42, 42]⟩)
  have hp : decide ((⟨#[42, 42]⟩ : ByteArray).data.toList <+: s.data.toList) = true := by rw [decide_eq_true_iff, hl]; exact ⟨r, rfl⟩
  rw [hp] at H
  have E := Lib.hid every_any
  have HE := Lib.hid (show elemL s.data.toList = some (⟨1, []⟩, s.data.toList.drop 2) by rw [hl]; rfl)
  have HL := Lib.hid (show 2 + (s.data.toList.drop 2).length = s.size by rw [← lenB, hl]; simp; omega)
  clear hp hl
  go_enter Try.func31, Try.ntmps31
  go_wp2_with fail
  go_fit (H.out _)
  rintro e w1 ⟨rfl, rfl⟩
  go_wp2_with fail
  go_fit (E.out _)
  rintro e w2 ⟨rfl, hb⟩
  have BL := Lib.hid ((BlkAt.new w 50 #[.int .u64 0, .int .u64 0, .int .u64 0, .int .u64 0, .bool false, .bool false, .int .u8 0]).below hb)
  have B := Lib.hid (((Below.refl w.heap.size w).alloc (Nat.le_refl _) (Obj.cells #[.int .u64 0, .int .u64 0, .int .u64 0, .int .u64 0, .bool false, .bool false, .int .u8 0] 50)).trans (hb.mono (by simp)))
  have c0 := BL.out.cell (k := 0) rfl
  have f0 := BL.out.frozen 0
  have c1 := BL.out.cell (k := 1) rfl
  have f1 := BL.out.frozen 1
  have c2 := BL.out.cell (k := 2) rfl
  have f2 := BL.out.frozen 2
  have c3 := BL.out.cell (k := 3) rfl
  have f3 := BL.out.frozen 3
  have c4 := BL.out.cell (k := 4) rfl
  have f4 := BL.out.frozen 4
  have c5 := BL.out.cell (k := 5) rfl
  have f5 := BL.out.frozen 5
  have c6 := BL.out.cell (k := 6) rfl
  have f6 := BL.out.frozen 6
  clear hb
  go_wp2_with fail
  refine bodyPost_ret (v := .tuple #[.agg #[.int .u64 18446744073709551615, .int .u64 18446744073709551615, .int .u64 18446744073709551615, .int .u64 18446744073709551615, .bool true, .bool false, .int .u8 0], .int .i64 2, .bool true]) (by simp [results, Try.results31, go_sem, c0, c1, c2, c3, c4, c5, c6]) rfl ⟨(((((((B.out.setCell (p := ⟨w.heap.size, 0, none⟩) (Nat.le_refl _) _).setCell (p := ⟨w.heap.size, 1, none⟩) (Nat.le_refl _) _).setCell (p := ⟨w.heap.size, 2, none⟩) (Nat.le_refl _) _).setCell (p := ⟨w.heap.size, 3, none⟩) (Nat.le_refl _) _).setCell (p := ⟨w.heap.size, 4, none⟩) (Nat.le_refl _) _).setCell (p := ⟨w.heap.size, 5, none⟩) (Nat.le_refl _) _).setCell (p := ⟨w.heap.size, 6, none⟩) (Nat.le_refl _) _), ?_⟩
  rw [HE.out]
  exact ⟨2, HL.out, rfl, by omega, by rw [el_every]; rfl⟩
end Go.Proofs.Ytaalfnfikjmomaa
