/- Contract of the program's first (glob): the other cases. -/
import Derived.Test.YtaalfnfikjmomaaGlbZ
namespace Go.Proofs.Ytaalfnfikjmomaa
open Go.RowKit Go.Lib
theorem data_tail {s : ByteArray} {c : UInt8} {r : List UInt8} (hl : s.data.toList = c :: r) : ∃ h : 0 < s.size, s[0] = c ∧ r = s.data.toList.drop 1 ∧ r.length + 1 = s.size := by
  have h : 0 < s.size := by rw [← lenB, hl]; simp
  have hd := drop_cons s 0 h
  rw [List.drop_zero, hl] at hd
  refine ⟨h, (List.cons.inj hd).1.symm, by rw [hl]; rfl, by rw [← lenB, hl]; simp⟩
theorem not_every {s : ByteArray} {c : UInt8} {r : List UInt8} (hl : s.data.toList = c :: r) (h : ¬ (c = 42 ∧ r.head? = some 42)) : decide ((⟨#[42, 42]⟩ : ByteArray).data.toList <+: s.data.toList) = false := by
  rw [decide_eq_false_iff_not, hl]
  rintro ⟨t, ht⟩
  apply h
  have : [42, 42] ++ t = c :: r := ht
  simp at this
  exact ⟨this.1.symm, by rw [← this.2]; rfl⟩
theorem setC_el (f : Nat → Bool) (rest : List Value) : ∃ k0 k1 k2 k3 : Nat, setC f = [.int .u64 (k0 : Nat), .int .u64 (k1 : Nat), .int .u64 (k2 : Nat), .int .u64 (k3 : Nat)] ∧ setV f = .agg #[.int .u64 (k0 : Nat), .int .u64 (k1 : Nat), .int .u64 (k2 : Nat), .int .u64 (k3 : Nat)] ∧ (setC f ++ rest).toArray = ([Value.int .u64 (k0 : Nat), .int .u64 (k1 : Nat), .int .u64 (k2 : Nat), .int .u64 (k3 : Nat)] ++ rest).toArray := ⟨_, _, _, _, rfl, rfl, rfl⟩
set_option maxHeartbeats 2000000 in
theorem first_star (s : ByteArray) (r : List UInt8) (hl : s.data.toList = 42 :: r) (hr : r.head? ≠ some 42) (w : World) :
    Calls Try.prog 31 #[.string s] w (FirstPost s w) := by
  have H := Lib.hid (prefix_any s ⟨#[42, 42]⟩)
  rw [not_every hl (fun h => hr h.2)] at H
  obtain ⟨h0, hc, hrd, hrl⟩ := data_tail hl
  have hix := index_0 s h0
  rw [hc] at hix
  have E := Lib.hid noSlash_any
  have HE := Lib.hid (show elemL s.data.toList = some (⟨2, []⟩, s.data.toList.drop 1) by rw [hl, elemL, if_pos rfl, if_neg hr]; rfl)
  have HL := Lib.hid (show 1 + (s.data.toList.drop 1).length = s.size by rw [← hrd]; omega)
  obtain ⟨k0, k1, k2, k3, hk, hkv, _⟩ := setC_el (upd (fun _ => true) 47 false) []
  rw [hkv] at E
  have HK := Lib.hid (show elC ⟨2, []⟩ = [Value.int .u64 (k0 : Nat), .int .u64 (k1 : Nat), .int .u64 (k2 : Nat), .int .u64 (k3 : Nat), .bool true, .bool false, .int .u8 0] by unfold elC; rw [acc_noSlash 2 (.inl rfl), hk]; rfl)
  have h1 : (0 : Int) < (s.size : Int) := by omega
  clear hl hr hc hrd hrl hk hkv h0
  go_enter Try.func31, Try.ntmps31
  go_wp2_with fail
  go_fit (H.out _)
  rintro e w1 ⟨rfl, rfl⟩
  go_wp2_with fail
  go_fit (E.out _)
  rintro e w2 ⟨rfl, hb⟩
  have BL := Lib.hid ((BlkAt.new w 50 #[.int .u64 0, .int .u64 0, .int .u64 0, .int .u64 0, .bool false, .bool false, .int .u8 0]).below hb)
  have B := Lib.hid (((Below.refl w.heap.size w).alloc (Nat.le_refl _) (Obj.cells #[.int .u64 0, .int .u64 0, .int .u64 0, .int .u64 0, .bool false, .bool false, .int .u8 0] 50)).trans (hb.mono (by simp)))
  have c0 := BL.out.cell (k := 0) rfl
  have f0 := BL.out.frozen 0
  have c1 := BL.out.cell (k := 1) rfl
  have f1 := BL.out.frozen 1
  have c2 := BL.out.cell (k := 2) rfl
  have f2 := BL.out.frozen 2
  have c3 := BL.out.cell (k := 3) rfl
  have f3 := BL.out.frozen 3
  have c4 := BL.out.cell (k := 4) rfl
  have f4 := BL.out.frozen 4
  have c5 := BL.out.cell (k := 5) rfl
  have f5 := BL.out.frozen 5
  have c6 := BL.out.cell (k := 6) rfl
  have f6 := BL.out.frozen 6
  clear hb
  go_wp2_with fail
  refine bodyPost_ret (v := .tuple #[.agg #[.int .u64 (k0 : Nat), .int .u64 (k1 : Nat), .int .u64 (k2 : Nat), .int .u64 (k3 : Nat), .bool true, .bool false, .int .u8 0], .int .i64 1, .bool true]) (by simp [results, Try.results31, go_sem, c0, c1, c2, c3, c4, c5, c6]) rfl ⟨(((((((B.out.setCell (p := ⟨w.heap.size, 0, none⟩) (Nat.le_refl _) _).setCell (p := ⟨w.heap.size, 1, none⟩) (Nat.le_refl _) _).setCell (p := ⟨w.heap.size, 2, none⟩) (Nat.le_refl _) _).setCell (p := ⟨w.heap.size, 3, none⟩) (Nat.le_refl _) _).setCell (p := ⟨w.heap.size, 4, none⟩) (Nat.le_refl _) _).setCell (p := ⟨w.heap.size, 5, none⟩) (Nat.le_refl _) _).setCell (p := ⟨w.heap.size, 6, none⟩) (Nat.le_refl _) _), ?_⟩
  rw [HE.out]
  exact ⟨1, HL.out, rfl, by omega, by rw [HK.out]; rfl⟩
set_option maxHeartbeats 2000000 in
theorem first_one (s : ByteArray) (r : List UInt8) (hl : s.data.toList = 63 :: r) (w : World) :
    Calls Try.prog 31 #[.string s] w (FirstPost s w) := by
  have H := Lib.hid (prefix_any s ⟨#[42, 42]⟩)
  rw [not_every hl (fun h => absurd h.1 (by decide))] at H
  obtain ⟨h0, hc, hrd, hrl⟩ := data_tail hl
  have hix := index_0 s h0
  rw [hc] at hix
  have E := Lib.hid noSlash_any
  have HE := Lib.hid (show elemL s.data.toList = some (⟨3, []⟩, s.data.toList.drop 1) by rw [hl, elemL, if_neg (by decide), if_pos rfl]; rfl)
  have HL := Lib.hid (show 1 + (s.data.toList.drop 1).length = s.size by rw [← hrd]; omega)
  obtain ⟨k0, k1, k2, k3, hk, hkv, _⟩ := setC_el (upd (fun _ => true) 47 false) []
  rw [hkv] at E
  have HK := Lib.hid (show elC ⟨3, []⟩ = [Value.int .u64 (k0 : Nat), .int .u64 (k1 : Nat), .int .u64 (k2 : Nat), .int .u64 (k3 : Nat), .bool false, .bool false, .int .u8 0] by unfold elC; rw [acc_noSlash 3 (.inr rfl), hk]; rfl)
  have h1 : (0 : Int) < (s.size : Int) := by omega
  clear hl hc hrd hrl hk hkv h0
  go_enter Try.func31, Try.ntmps31
  go_wp2_with fail
  go_fit (H.out _)
  rintro e w1 ⟨rfl, rfl⟩
  go_wp2_with fail
  go_fit (E.out _)
  rintro e w2 ⟨rfl, hb⟩
  have BL := Lib.hid ((BlkAt.new w 50 #[.int .u64 0, .int .u64 0, .int .u64 0, .int .u64 0, .bool false, .bool false, .int .u8 0]).below hb)
  have B := Lib.hid (((Below.refl w.heap.size w).alloc (Nat.le_refl _) (Obj.cells #[.int .u64 0, .int .u64 0, .int .u64 0, .int .u64 0, .bool false, .bool false, .int .u8 0] 50)).trans (hb.mono (by simp)))
  have c0 := BL.out.cell (k := 0) rfl
  have f0 := BL.out.frozen 0
  have c1 := BL.out.cell (k := 1) rfl
  have f1 := BL.out.frozen 1
  have c2 := BL.out.cell (k := 2) rfl
  have f2 := BL.out.frozen 2
  have c3 := BL.out.cell (k := 3) rfl
  have f3 := BL.out.frozen 3
  have c4 := BL.out.cell (k := 4) rfl
  have f4 := BL.out.frozen 4
  have c5 := BL.out.cell (k := 5) rfl
  have f5 := BL.out.frozen 5
  have c6 := BL.out.cell (k := 6) rfl
  have f6 := BL.out.frozen 6
  clear hb
  go_wp2_with fail
  refine bodyPost_ret (v := .tuple #[.agg #[.int .u64 (k0 : Nat), .int .u64 (k1 : Nat), .int .u64 (k2 : Nat), .int .u64 (k3 : Nat), .bool false, .bool false, .int .u8 0], .int .i64 1, .bool true]) (by simp [results, Try.results31, go_sem, c0, c1, c2, c3, c4, c5, c6]) rfl ⟨(((((((B.out.setCell (p := ⟨w.heap.size, 0, none⟩) (Nat.le_refl _) _).setCell (p := ⟨w.heap.size, 1, none⟩) (Nat.le_refl _) _).setCell (p := ⟨w.heap.size, 2, none⟩) (Nat.le_refl _) _).setCell (p := ⟨w.heap.size, 3, none⟩) (Nat.le_refl _) _).setCell (p := ⟨w.heap.size, 4, none⟩) (Nat.le_refl _) _).setCell (p := ⟨w.heap.size, 5, none⟩) (Nat.le_refl _) _).setCell (p := ⟨w.heap.size, 6, none⟩) (Nat.le_refl _) _), ?_⟩
  rw [HE.out]
  exact ⟨1, HL.out, rfl, by omega, by rw [HK.out]; rfl⟩
end Go.Proofs.Ytaalfnfikjmomaa
