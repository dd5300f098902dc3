/- Contracts of the program's everyByte, noSlash, literalElement, itemByte and item (glob). -/
import Derived.Test.YtaalfnfikjmomaaGlbP
import Derived.Test.YtaalfnfikjmomaaGlbA
import Derived.Test.YtaalfnfikjmomaaGlbM
namespace Go.Proofs.Ytaalfnfikjmomaa
open Go.RowKit Go.Lib

theorem full_word (k : Nat) : 18446744073709551615 = wordK (fun _ => true) k := by
  apply word_eq (by decide)
  intro j hj
  rw [show 18446744073709551615 = 2 ^ 64 - 1 by decide, Nat.testBit_two_pow_sub_one]
  simp [hj]
theorem full_set : (.agg #[.int .u64 18446744073709551615, .int .u64 18446744073709551615, .int .u64 18446744073709551615, .int .u64 18446744073709551615] : Value) = setV (fun _ => true) := by
  unfold setV
  rw [← full_word 0, ← full_word 1, ← full_word 2, ← full_word 3]
  rfl
def full4 : Value := .agg #[.int .u64 18446744073709551615, .int .u64 18446744073709551615, .int .u64 18446744073709551615, .int .u64 18446744073709551615]
set_option maxHeartbeats 1000000 in
theorem every_any (w : World) :
    Calls Try.prog 46 #[] w fun e w' => e = .returned (.agg #[.int .u64 18446744073709551615, .int .u64 18446744073709551615, .int .u64 18446744073709551615, .int .u64 18446744073709551615]) ∧ Below w.heap.size w w' := by
  have B := Lib.hid ((Below.refl w.heap.size w).alloc (Nat.le_refl _) (Obj.cells #[.int .u64 18446744073709551615, .int .u64 18446744073709551615, .int .u64 18446744073709551615, .int .u64 18446744073709551615] 48))
  go_enter Try.func46, Try.ntmps46
  go_wp2_with fail
  refine bodyPost_ret (v := .agg #[.int .u64 18446744073709551615, .int .u64 18446744073709551615, .int .u64 18446744073709551615, .int .u64 18446744073709551615]) (by simp [results, Try.results46, go_sem]) rfl ⟨rfl, B.out⟩
theorem full_arr (rest : List Value) : (setC (fun _ => true) ++ rest).toArray = ([Value.int .u64 18446744073709551615, .int .u64 18446744073709551615, .int .u64 18446744073709551615, .int .u64 18446744073709551615] ++ rest).toArray := by
  unfold setC
  rw [← full_word 0, ← full_word 1, ← full_word 2, ← full_word 3]
  rfl
theorem setC_words (f : Nat → Bool) : ∃ k0 k1 k2 k3 : Nat, setC f = [.int .u64 (k0 : Nat), .int .u64 (k1 : Nat), .int .u64 (k2 : Nat), .int .u64 (k3 : Nat)] := ⟨_, _, _, _, rfl⟩
theorem setV_set (f : Nat → Bool) : setV f = .agg (setC f).toArray := rfl
set_option maxHeartbeats 1000000 in
theorem noSlash_any (w : World) :
    Calls Try.prog 47 #[] w fun e w' => e = .returned (setV (upd (fun _ => true) 47 false)) ∧ Below w.heap.size w w' := by
  have E := Lib.hid every_any
  go_enter Try.func47, Try.ntmps47
  go_wp2_with fail
  go_fit (E.out _)
  rintro e w1 ⟨rfl, hb⟩
  have bs := hb.size
  simp only [World.size_alloc] at bs
  have BL := Lib.hid ((BlkAt.new w 48 #[.int .u64 0, .int .u64 0, .int .u64 0, .int .u64 0]).below hb)
  have B := Lib.hid (((Below.refl w.heap.size w).alloc (Nat.le_refl _) (Obj.cells #[.int .u64 0, .int .u64 0, .int .u64 0, .int .u64 0] 48)).trans (hb.mono (by simp)))
  clear hb
  go_wp2_with fail
  have hn := BlkAt.new w1 48 #[.int .u64 18446744073709551615, .int .u64 18446744073709551615, .int .u64 18446744073709551615, .int .u64 18446744073709551615]
  have hf := full_arr []
  simp only [List.append_nil] at hf
  have R := remove_set (fun _ => true) w1.heap.size w1.heap.size 47 48 [] (Nat.le_refl _) (by decide) _ (by rw [List.append_nil, hf]; exact hn)
  clear hn hf
  go_fit R
  rintro e w2 ⟨rfl, hn, hb⟩
  obtain ⟨k0, k1, k2, k3, hk⟩ := setC_words (upd (fun _ => true) 47 false)
  have HK := Lib.hid hk
  rw [hk] at hn
  clear hk
  have B1 := Lib.hid (((Below.refl w1.heap.size w1).alloc (Nat.le_refl _) (Obj.cells #[.int .u64 18446744073709551615, .int .u64 18446744073709551615, .int .u64 18446744073709551615, .int .u64 18446744073709551615] 48)).trans hb)
  have BR := Lib.hid (BL.out.below (B1.out.mono (by simp)))
  have B2 := Lib.hid (B.out.trans (B1.out.mono (by omega)))
  rw [List.append_nil] at hn
  have c0 := BR.out.cell (k := 0) rfl
  have c1 := BR.out.cell (k := 1) rfl
  have c2 := BR.out.cell (k := 2) rfl
  have c3 := BR.out.cell (k := 3) rfl
  have f0 := BR.out.frozen 0
  have f1 := BR.out.frozen 1
  have f2 := BR.out.frozen 2
  have f3 := BR.out.frozen 3
  have s0 := hn.cell (k := 0) (v := .int .u64 (k0 : Nat)) rfl
  have s1 := hn.cell (k := 1) (v := .int .u64 (k1 : Nat)) rfl
  have s2 := hn.cell (k := 2) (v := .int .u64 (k2 : Nat)) rfl
  have s3 := hn.cell (k := 3) (v := .int .u64 (k3 : Nat)) rfl
  clear hn hb
  go_wp2_with fail
  refine bodyPost_ret (v := .agg #[.int .u64 (k0 : Nat), .int .u64 (k1 : Nat), .int .u64 (k2 : Nat), .int .u64 (k3 : Nat)]) (by simp [results, Try.results47, go_sem, c0, c1, c2, c3]) rfl ⟨by rw [setV_set, HK.out], ?_⟩
  exact (((B2.out.setCell (p := ⟨w.heap.size, 0, none⟩) (Nat.le_refl _) _).setCell (p := ⟨w.heap.size, 1, none⟩) (Nat.le_refl _) _).setCell (p := ⟨w.heap.size, 2, none⟩) (Nat.le_refl _) _).setCell (p := ⟨w.heap.size, 3, none⟩) (Nat.le_refl _) _
theorem empty_word (k : Nat) : 0 = wordK (fun _ => false) k := by
  apply word_eq (by decide)
  intro j _
  simp
theorem empty_arr (rest : List Value) : (setC (fun _ => false) ++ rest).toArray = ([Value.int .u64 0, .int .u64 0, .int .u64 0, .int .u64 0] ++ rest).toArray := by
  unfold setC
  rw [← empty_word 0, ← empty_word 1, ← empty_word 2, ← empty_word 3]
  rfl
set_option maxHeartbeats 1000000 in
theorem literal_any (c : UInt8) (w : World) :
    Calls Try.prog 49 #[.int .u8 c.toNat] w fun e w' => e = .returned (.agg (setC (upd (fun _ => false) c.toNat true) ++ [Value.bool false, Value.bool true, Value.int .u8 c.toNat]).toArray) ∧ Below w.heap.size w w' := by
  have hc := UInt8.toNat_lt c
  obtain ⟨n, hn9⟩ : ∃ n, n = c.toNat := ⟨_, rfl⟩
  rw [← hn9] at hc ⊢
  have n0 : (0 : Int) ≤ n ∧ (n : Int) < 256 := by omega
  have HC := Lib.hid hc
  clear hc hn9
  go_enter Try.func49, Try.ntmps49
  go_wp2_with fail
  obtain ⟨v, hv⟩ : ∃ v, v = w.alloc (.cells #[.int .u64 0, .int .u64 0, .int .u64 0, .int .u64 0, .bool false, .bool false, .int .u8 0] 50) := ⟨_, rfl⟩
  have vs : v.heap.size = w.heap.size + 1 := by rw [hv]; simp
  have VB := Lib.hid (show Below w.heap.size w v by rw [hv]; exact (Below.refl w.heap.size w).alloc (Nat.le_refl _) _)
  have VL := Lib.hid (show BlkAt v w.heap.size 50 #[.int .u64 0, .int .u64 0, .int .u64 0, .int .u64 0, .bool false, .bool false, .int .u8 0] by rw [hv]; exact BlkAt.new w _ _)
  rw [← hv]
  clear hv
  have hn := BlkAt.new v 50 #[.int .u64 0, .int .u64 0, .int .u64 0, .int .u64 0, .bool false, .bool true, .int .u8 (n : Nat)]
  have R := add_set (fun _ => false) v.heap.size v.heap.size n 50 [Value.bool false, Value.bool true, Value.int .u8 (n : Nat)] (Nat.le_refl _) HC.out _ (by rw [empty_arr]; exact hn)
  clear hn
  rw [← vs]
  go_fit R
  rintro e w2 ⟨rfl, hn, hb⟩
  obtain ⟨k0, k1, k2, k3, hk⟩ := setC_words (upd (fun _ => false) n true)
  have HK := Lib.hid hk
  rw [hk] at hn
  clear hk
  have B1 := Lib.hid (((Below.refl v.heap.size v).alloc (Nat.le_refl _) (Obj.cells #[.int .u64 0, .int .u64 0, .int .u64 0, .int .u64 0, .bool false, .bool true, .int .u8 (n : Nat)] 50)).trans hb)
  have BR := Lib.hid (VL.out.below B1.out)
  have B2 := Lib.hid (VB.out.trans (B1.out.mono (by omega)))
  rw [vs] at hn
  have c0 := BR.out.cell (k := 0) rfl
  have f0 := BR.out.frozen 0
  have c1 := BR.out.cell (k := 1) rfl
  have f1 := BR.out.frozen 1
  have c2 := BR.out.cell (k := 2) rfl
  have f2 := BR.out.frozen 2
  have c3 := BR.out.cell (k := 3) rfl
  have f3 := BR.out.frozen 3
  have c4 := BR.out.cell (k := 4) rfl
  have f4 := BR.out.frozen 4
  have c5 := BR.out.cell (k := 5) rfl
  have f5 := BR.out.frozen 5
  have c6 := BR.out.cell (k := 6) rfl
  have f6 := BR.out.frozen 6
  have s0 := hn.cell (k := 0) (v := .int .u64 (k0 : Nat)) rfl
  have s1 := hn.cell (k := 1) (v := .int .u64 (k1 : Nat)) rfl
  have s2 := hn.cell (k := 2) (v := .int .u64 (k2 : Nat)) rfl
  have s3 := hn.cell (k := 3) (v := .int .u64 (k3 : Nat)) rfl
  have s4 := hn.cell (k := 4) (v := .bool false) rfl
  have s5 := hn.cell (k := 5) (v := .bool true) rfl
  have s6 := hn.cell (k := 6) (v := .int .u8 (n : Nat)) rfl
  clear hn hb
  go_wp2_with fail
  refine bodyPost_ret (v := .agg #[.int .u64 (k0 : Nat), .int .u64 (k1 : Nat), .int .u64 (k2 : Nat), .int .u64 (k3 : Nat), .bool false, .bool true, .int .u8 (n : Nat)]) (by simp [results, Try.results49, go_sem, c0, c1, c2, c3, c4, c5, c6]) rfl ⟨by rw [HK.out]; rfl, ?_⟩
  exact (((((((B2.out.setCell (p := ⟨w.heap.size, 0, none⟩) (Nat.le_refl _) _).setCell (p := ⟨w.heap.size, 1, none⟩) (Nat.le_refl _) _).setCell (p := ⟨w.heap.size, 2, none⟩) (Nat.le_refl _) _).setCell (p := ⟨w.heap.size, 3, none⟩) (Nat.le_refl _) _).setCell (p := ⟨w.heap.size, 4, none⟩) (Nat.le_refl _) _).setCell (p := ⟨w.heap.size, 5, none⟩) (Nat.le_refl _) _).setCell (p := ⟨w.heap.size, 6, none⟩) (Nat.le_refl _) _)
end Go.Proofs.Ytaalfnfikjmomaa
