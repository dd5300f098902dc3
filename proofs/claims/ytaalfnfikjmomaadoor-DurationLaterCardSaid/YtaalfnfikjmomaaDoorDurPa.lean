/- Contracts of the program's cut and limited (duration); what the listed variables give. -/
import Derived.Test.YtaalfnfikjmomaaDoorDurB
import Derived.Test.YtaalfnfikjmomaaDoorDurN
import Derived.Test.YtaalfnfikjmomaaDoorShelf
import Derived.Shelf.Strings.SlTrimAscii
import Derived.Lib.SmallJoins
namespace Go.Proofs.YtaalfnfikjmomaaDoor
open Go.RowKit Go.Lib

theorem take_dropWhile {p : UInt8 → Bool} : ∀ l : List UInt8, l.take (l.length - (l.dropWhile p).length) = l.takeWhile p
  | [] => rfl
  | a :: l => by
    cases h : p a
    · rw [List.dropWhile_cons_of_neg (by simp [h]), List.takeWhile_cons_of_neg (by simp [h]), Nat.sub_self, List.take_zero]
    · rw [List.dropWhile_cons_of_pos h, List.takeWhile_cons_of_pos h]
      have hl : (l.dropWhile p).length ≤ l.length := (List.dropWhile_sublist p).length_le
      rw [List.length_cons, show l.length + 1 - (l.dropWhile p).length = (l.length - (l.dropWhile p).length) + 1 by omega, List.take_succ_cons, take_dropWhile l]

theorem slice_upto (s : ByteArray) (k : Nat) (hk : k ≤ s.size) (w : World) : (Instr.sliceAt 9 (.string s) none (some (.int .i64 (k : Int))) none).run Tryd.prog w = .ok (.string ⟨(s.data.toList.take k).toArray⟩) w := by
  rw [run_sliceAt_string _ _ _ _ _ _ Tryd.underlying9, run_slice_string_to_if w 9 s .i64 (k : Int) Tryd.underlying9]
  rw [if_pos (by omega)]
  congr 2
  apply ByteArray.ext
  rw [ByteArray.data_extract]
  apply Array.ext'
  simp

set_option maxHeartbeats 1000000 in
set_option maxRecDepth 100000 in
theorem durCut_any (s : ByteArray) (cs : List UInt8) (hs : s.size ≤ 140737488355328) (hcs : cs.length < 4294967281) (hc : ∀ (j : Nat) b, cs[j]? = some b → b.toNat < 128) (w : World) :
    Calls Tryd.prog 31 #[.string s, .string ⟨cs.toArray⟩] w fun e w' => e = .returned (.tuple #[.string ⟨(s.data.toList.takeWhile (cs.contains ·)).toArray⟩, .string ⟨(s.data.toList.dropWhile (cs.contains ·)).toArray⟩]) ∧ Below w.heap.size w w' := by
  have hsl : s.data.toList.length = s.size := by rw [Array.length_toList]; rfl
  have T := Lib.hid (fun w => Any.strings_TrimLeft_laid Tryd.lays161 (by kernel_rfl) s ⟨cs.toArray⟩ w (by show cs.toArray.size < _; rw [List.size_toArray]; exact hcs) (by simpa using hc))
  have htk := take_dropWhile (p := (cs.contains ·)) s.data.toList
  have hle : (s.data.toList.dropWhile (cs.contains ·)).length ≤ s.data.toList.length := (List.dropWhile_sublist _).length_le
  rw [show Lib.trimLeftS s.data.toList (⟨cs.toArray⟩ : ByteArray).data.toList = s.data.toList.dropWhile (cs.contains ·) by simp [Lib.trimLeftS]] at T
  rw [hsl] at htk hle
  obtain ⟨d, hd⟩ : ∃ d, d = s.data.toList.dropWhile (cs.contains ·) := ⟨_, rfl⟩
  rw [← hd] at T htk hle ⊢
  obtain ⟨r, hr⟩ : ∃ r : ByteArray, r = ⟨d.toArray⟩ := ⟨_, rfl⟩
  have hrs : r.size = d.length := by rw [hr]; show d.toArray.size = _; simp
  rw [← hr] at T ⊢
  obtain ⟨q, hq⟩ : ∃ q, q = s.data.toList.takeWhile (cs.contains ·) := ⟨_, rfl⟩
  rw [← hq] at htk ⊢
  have SL := slice_upto s (s.size - r.size) (by omega)
  rw [hrs] at SL
  rw [htk] at SL
  rw [show ((s.size - d.length : Nat) : Int) = (s.size : Int) - (d.length : Int) by omega] at SL
  rw [show (d.length : Int) = (r.size : Int) by rw [hrs]] at SL
  have hrz : (r.size : Int) ≤ (s.size : Int) := by omega
  clear hd hr hq htk hsl hle hcs hc hrs
  go_enter Tryd.func31, Tryd.ntmps31
  go_wp2_with fail
  go_fit (T.out _)
  rintro e w1 ⟨rfl, hb⟩
  have B := Lib.hid hb
  clear hb
  go_wp2_with fail
  go_ret2
  exact ⟨rfl, B.out⟩
end Go.Proofs.YtaalfnfikjmomaaDoor
