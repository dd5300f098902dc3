/- The document's decimals (value): the plain side, bytes that become a string, and the contract. The document's characters and quotes (value). The document's quotes (value). -/
import Derived.Test.YtabopneehhnhfaaGreatDoorVluR
import Derived.IntWalk
namespace Go.Proofs.YtabopneehhnhfaaGreatDoor
open Go.RowKit Go.Lib

theorem itoa_one_neg {n : Int} (h : n < 0) (h2 : -10 < n) : Lib.itoa n = 45 :: [UInt8.ofNat (48 - n).toNat] := by
  unfold Lib.itoa
  rw [if_pos h, Lib.decDigits_one (by omega), show (48 - n).toNat = 48 + n.natAbs by omega]
theorem itoa_one_pos {n : Int} (h : 0 ≤ n) (h2 : n < 10) : Lib.itoa n = [UInt8.ofNat (48 + n).toNat] := by
  unfold Lib.itoa
  rw [if_neg (by omega), Lib.decDigits_one (by omega), show (48 + n).toNat = 48 + n.toNat by omega]
theorem itoa_more_neg {k : Nat} (h : 10 ≤ k) : Lib.itoa (-(k : Int)) = Lib.itoa (-((k / 10 : Nat) : Int)) ++ [UInt8.ofNat (48 + k % 10)] := by
  have h1 : 1 ≤ k / 10 := by omega
  unfold Lib.itoa
  rw [if_pos (by omega), if_pos (by omega), Int.natAbs_neg, Int.natAbs_neg, Int.natAbs_natCast, Int.natAbs_natCast, Lib.decDigits, dif_neg (by omega)]
  rfl
theorem itoa_more_pos {k : Nat} (h : 10 ≤ k) : Lib.itoa (k : Int) = Lib.itoa ((k / 10 : Nat) : Int) ++ [UInt8.ofNat (48 + k % 10)] := by
  unfold Lib.itoa
  rw [if_neg (by omega), if_neg (by omega), Int.toNat_natCast, Int.toNat_natCast, Lib.decDigits, dif_neg (by omega)]
theorem app_str (a b : List UInt8) : (⟨a.toArray⟩ : ByteArray) ++ ⟨b.toArray⟩ = ⟨(a ++ b).toArray⟩ := by
  apply ByteArray.ext
  simp [ByteArray.data_append]
/-- One byte in a block becomes a string. -/
theorem conv_one (x : Int) (h0 : 0 ≤ x) (h1 : x ≤ 255) (w : World) (B cap : Nat) (hc : w.cell? ⟨B, 0, none⟩ = some (.int .u8 x)) : (convert 59 9 (.slice (some ⟨B, 0, none⟩) 1 cap)).run Tryz.prog w = .ok (.string ⟨#[UInt8.ofNat x.toNat]⟩) w := by
  have hx : ((UInt8.ofNat x.toNat).toNat : Int) = x := by rw [UInt8.toNat_ofNat']; omega
  refine conv_str (some ⟨B, 0, none⟩) [UInt8.ofNat x.toNat] w (fun k hk => ?_) cap
  obtain rfl : k = 0 := by simpa using hk
  refine ⟨B, 0, rfl, World.block_lt_of_cell? w _ hc, ?_⟩
  simp only [List.getElem_cons_zero, Nat.zero_add]
  rw [hx]
  exact hc

/-- Decimal at numbers of this size. -/
def DecP (k : Nat) : Prop := ∀ (n : Int), n.natAbs = k → -9223372036854775808 ≤ n → n ≤ 9223372036854775807 → ∀ w : World,
  Calls Tryz.prog 66 #[.int .i64 n] w fun e w' => e = .returned (.string ⟨(Lib.itoa n).toArray⟩) ∧ Below w.heap.size w w'
set_option maxHeartbeats 4000000 in
theorem dec_any : ∀ k, DecP k := by
  intro k
  induction k using Nat.strongRecOn with
  | ind k ih =>
    intro n hk hlo hhi w
    by_cases h0 : n < 0
    · by_cases h1 : -10 < n
      · have E := Lib.hid (show (⟨(Lib.itoa n).toArray⟩ : ByteArray) = ⟨#[45]⟩ ++ ⟨#[UInt8.ofNat (48 - n).toNat]⟩ by rw [itoa_one_neg h0 h1]; exact (app_str [45] [_]).symm)
        have cv := conv_one (48 - n) (by omega) (by omega)
        have s1 := fun w => run_string_add_sum (P := Tryz.prog) w ⟨#[45]⟩ ⟨#[UInt8.ofNat (48 - n).toNat]⟩ (by show 1 + 1 ≤ _; omega)
        have b1 : 0 ≤ 48 - n ∧ 48 - n ≤ 255 := by omega
        clear hk ih
        go_enter Tryz.func66, Tryz.ntmps66
        go_wp2_with fail
        go_ret
        exact ⟨by rw [E.out]; rfl, (by repeat (first | exact Below.refl _ _ | refine Below.alloc ?_ (by simp <;> omega) _))⟩
      · obtain ⟨q, hq⟩ : ∃ q : Nat, n = -(q : Int) := ⟨n.natAbs, by omega⟩
        have d1 : n.tdiv 10 = -((q / 10 : Nat) : Int) := by rw [hq, Int.neg_tdiv, Int.ofNat_tdiv]; rfl
        have d2 : n.tmod 10 = -((q % 10 : Nat) : Int) := by rw [hq, Int.neg_tmod, Int.ofNat_tmod]; rfl
        have E := Lib.hid (show (⟨(Lib.itoa n).toArray⟩ : ByteArray) = ⟨(Lib.itoa (n.tdiv 10)).toArray⟩ ++ ⟨#[UInt8.ofNat (48 - n.tmod 10).toNat]⟩ by
          rw [d1, d2, hq, itoa_more_neg (by omega)]
          rw [show (48 - -((q % 10 : Nat) : Int)).toNat = 48 + q % 10 by omega]
          exact (app_str _ [_]).symm)
        have hlen := itoa_len (i := n.tdiv 10) (by rw [d1]; omega) (by rw [d1]; omega)
        have IH := Lib.hid (fun w => ih (n.tdiv 10).natAbs (by rw [d1]; omega) (n.tdiv 10) rfl (by rw [d1]; omega) (by rw [d1]; omega) w)
        obtain ⟨d, hd⟩ : ∃ d, n.tdiv 10 = d := ⟨_, rfl⟩
        obtain ⟨r, hr⟩ : ∃ r, n.tmod 10 = r := ⟨_, rfl⟩
        rw [hd, hr] at E
        rw [hd] at IH hlen
        have hr0 : -9 ≤ r ∧ r ≤ 0 := by rw [← hr, d2]; omega
        have hd0 : -9223372036854775808 ≤ d ∧ d ≤ 0 := by rw [← hd, d1]; omega
        have s1 := fun w => run_string_add_sum (P := Tryz.prog) w ⟨(Lib.itoa d).toArray⟩ ⟨#[UInt8.ofNat (48 - r).toNat]⟩ (by show (Lib.itoa d).length + 1 ≤ _; omega)
        have cv := conv_one (48 - r) (by omega) (by omega)
        have b1 : 0 ≤ 48 - r ∧ 48 - r ≤ 255 := by omega
        have wr1 : IntKind.i64.wrap d = d := IntWalk.i64_in _ (by omega)
        have wr2 : IntKind.i64.wrap (48 - r) = 48 - r := IntWalk.i64_in _ (by omega)
        have wr3 : IntKind.u8.wrap (48 - r) = 48 - r := IntWalk.u8_in _ (by omega)
        clear hk ih hq d1 d2 hlen
        obtain ⟨D, hD⟩ : ∃ D : ByteArray, D = ⟨(Lib.itoa d).toArray⟩ := ⟨_, rfl⟩
        rw [← hD] at IH s1 E
        clear hD
        go_enter Tryz.func66, Tryz.ntmps66
        go_wp2_with fail
        go_region_with (go_at_call 66; first
          | (go_fit (IH.out w.drew); rintro e w1 ⟨rfl, hb1⟩; have B1 := Lib.hid ((show Below w.heap.size w w.drew from (Below.refl _ _).drew).trans (hb1.mono (by simp))))
          | (go_fit (IH.out (w.alloc (.cells #[.int .u8 (48 - r)] 5)).drew); rintro e w1 ⟨rfl, hb1⟩; have hc1 : w1.cell? ⟨w.heap.size, 0, none⟩ = some (.int .u8 (48 - r)) := (hb1.cell (p := ⟨w.heap.size, 0, none⟩) (by simp)).trans (by simp); have B1 := Lib.hid ((show Below w.heap.size w (w.alloc (.cells #[.int .u8 (48 - r)] 5)).drew from ((Below.refl _ _).alloc (Nat.le_refl _) _).drew).trans (hb1.mono (by simp)))))
        all_goals
          clear hb1
          go_wp2_with fail
          go_ret
          exact ⟨by rw [E.out]; rfl, by first | exact B1.out | exact B1.out.alloc B1.out.size _⟩
    · by_cases h1 : n < 10
      · have E := Lib.hid (show (⟨(Lib.itoa n).toArray⟩ : ByteArray) = ⟨#[UInt8.ofNat (48 + n).toNat]⟩ by rw [itoa_one_pos (by omega) h1])
        have cv := conv_one (48 + n) (by omega) (by omega)
        have b1 : 0 ≤ 48 + n ∧ 48 + n ≤ 255 := by omega
        clear hk ih
        go_enter Tryz.func66, Tryz.ntmps66
        go_wp2_with fail
        go_ret
        exact ⟨by rw [E.out]; rfl, (by repeat (first | exact Below.refl _ _ | refine Below.alloc ?_ (by simp <;> omega) _))⟩
      · obtain ⟨q, hq⟩ : ∃ q : Nat, n = (q : Int) := ⟨n.toNat, by omega⟩
        have d1 : n.tdiv 10 = ((q / 10 : Nat) : Int) := by rw [hq, Int.ofNat_tdiv]; rfl
        have d2 : n.tmod 10 = ((q % 10 : Nat) : Int) := by rw [hq, Int.ofNat_tmod]; rfl
        have E := Lib.hid (show (⟨(Lib.itoa n).toArray⟩ : ByteArray) = ⟨(Lib.itoa (n.tdiv 10)).toArray⟩ ++ ⟨#[UInt8.ofNat (48 + n.tmod 10).toNat]⟩ by
          rw [d1, d2, hq, itoa_more_pos (by omega)]
          rw [show (48 + ((q % 10 : Nat) : Int)).toNat = 48 + q % 10 by omega]
          exact (app_str _ [_]).symm)
        have hlen := itoa_len (i := n.tdiv 10) (by rw [d1]; omega) (by rw [d1]; omega)
        have IH := Lib.hid (fun w => ih (n.tdiv 10).natAbs (by rw [d1]; omega) (n.tdiv 10) rfl (by rw [d1]; omega) (by rw [d1]; omega) w)
        obtain ⟨d, hd⟩ : ∃ d, n.tdiv 10 = d := ⟨_, rfl⟩
        obtain ⟨r, hr⟩ : ∃ r, n.tmod 10 = r := ⟨_, rfl⟩
        rw [hd, hr] at E
        rw [hd] at IH hlen
        have hr0 : 0 ≤ r ∧ r ≤ 9 := by rw [← hr, d2]; omega
        have hd0 : 0 ≤ d ∧ d ≤ 9223372036854775807 := by rw [← hd, d1]; omega
        have s1 := fun w => run_string_add_sum (P := Tryz.prog) w ⟨(Lib.itoa d).toArray⟩ ⟨#[UInt8.ofNat (48 + r).toNat]⟩ (by show (Lib.itoa d).length + 1 ≤ _; omega)
        have cv := conv_one (48 + r) (by omega) (by omega)
        have b1 : 0 ≤ 48 + r ∧ 48 + r ≤ 255 := by omega
        have wr1 : IntKind.i64.wrap d = d := IntWalk.i64_in _ (by omega)
        have wr2 : IntKind.i64.wrap (48 + r) = 48 + r := IntWalk.i64_in _ (by omega)
        have wr3 : IntKind.u8.wrap (48 + r) = 48 + r := IntWalk.u8_in _ (by omega)
        clear hk ih hq d1 d2 hlen
        obtain ⟨D, hD⟩ : ∃ D : ByteArray, D = ⟨(Lib.itoa d).toArray⟩ := ⟨_, rfl⟩
        rw [← hD] at IH s1 E
        clear hD
        go_enter Tryz.func66, Tryz.ntmps66
        go_wp2_with fail
        go_region_with (go_at_call 66; first
          | (go_fit (IH.out w.drew); rintro e w1 ⟨rfl, hb1⟩; have B1 := Lib.hid ((show Below w.heap.size w w.drew from (Below.refl _ _).drew).trans (hb1.mono (by simp))))
          | (go_fit (IH.out (w.alloc (.cells #[.int .u8 (48 + r)] 5)).drew); rintro e w1 ⟨rfl, hb1⟩; have hc1 : w1.cell? ⟨w.heap.size, 0, none⟩ = some (.int .u8 (48 + r)) := (hb1.cell (p := ⟨w.heap.size, 0, none⟩) (by simp)).trans (by simp); have B1 := Lib.hid ((show Below w.heap.size w (w.alloc (.cells #[.int .u8 (48 + r)] 5)).drew from ((Below.refl _ _).alloc (Nat.le_refl _) _).drew).trans (hb1.mono (by simp)))))
        all_goals
          clear hb1
          go_wp2_with fail
          go_ret
          exact ⟨by rw [E.out]; rfl, by first | exact B1.out | exact B1.out.alloc B1.out.size _⟩
end Go.Proofs.YtabopneehhnhfaaGreatDoor
namespace Go.Proofs.YtabopneehhnhfaaGreatDoor
open Go.RowKit Go.Lib

theorem conv_two (a b : UInt8) (w : World) (B cap : Nat) (h0 : w.cell? ⟨B, 0, none⟩ = some (.int .u8 a.toNat)) (h1 : w.cell? ⟨B, 1, none⟩ = some (.int .u8 b.toNat)) : (convert 59 9 (.slice (some ⟨B, 0, none⟩) 2 cap)).run Tryz.prog w = .ok (.string ⟨#[a, b]⟩) w := by
  refine conv_str (some ⟨B, 0, none⟩) [a, b] w (fun k hk => ⟨B, 0, rfl, World.block_lt_of_cell? w _ h0, ?_⟩) cap
  have hk : k < 2 := hk
  rw [Nat.zero_add]
  rcases (show k = 0 ∨ k = 1 by omega) with rfl | rfl
  · exact h0
  · exact h1
theorem conv_four (a b c d : UInt8) (w : World) (B cap : Nat) (h0 : w.cell? ⟨B, 0, none⟩ = some (.int .u8 a.toNat)) (h1 : w.cell? ⟨B, 1, none⟩ = some (.int .u8 b.toNat)) (h2 : w.cell? ⟨B, 2, none⟩ = some (.int .u8 c.toNat)) (h3 : w.cell? ⟨B, 3, none⟩ = some (.int .u8 d.toNat)) : (convert 59 9 (.slice (some ⟨B, 0, none⟩) 4 cap)).run Tryz.prog w = .ok (.string ⟨#[a, b, c, d]⟩) w := by
  refine conv_str (some ⟨B, 0, none⟩) [a, b, c, d] w (fun k hk => ⟨B, 0, rfl, World.block_lt_of_cell? w _ h0, ?_⟩) cap
  have hk : k < 4 := hk
  rw [Nat.zero_add]
  rcases (show k = 0 ∨ k = 1 ∨ k = 2 ∨ k = 3 by omega) with rfl | rfl | rfl | rfl
  · exact h0
  · exact h1
  · exact h2
  · exact h3
set_option maxHeartbeats 4000000 in
theorem chr_any (c : UInt8) (w : World) : Calls Tryz.prog 88 #[.int .u8 c.toNat] w fun e w' => e = .returned (.string ⟨(chrL c).toArray⟩) ∧ Below w.heap.size w w' := by
  by_cases h1 : c.toNat = 34
  · have E := Lib.hid (show chrL c = [92, 34] by unfold chrL; rw [if_pos h1])
    rw [show (c.toNat : Int) = 34 by omega]
    have cv := fun (w : World) (B cap : Nat) (h0 : w.cell? ⟨B, 0, none⟩ = some (.int .u8 92)) (h1 : w.cell? ⟨B, 1, none⟩ = some (.int .u8 34)) => conv_two 92 34 w B cap h0 h1
    clear h1 
    go_enter Tryz.func88, Tryz.ntmps88
    go_wp2_with fail
    go_ret
    exact ⟨by rw [E.out]; rfl, (by repeat (first | exact Below.refl _ _ | refine Below.alloc ?_ (by simp <;> omega) _))⟩
  have g1 : ((c.toNat : Int) == 34) = false := by rw [beq_eq_false_iff_ne]; omega
  by_cases h2 : c.toNat = 92
  · have E := Lib.hid (show chrL c = [92, 92] by unfold chrL; rw [if_neg h1, if_pos h2])
    rw [show (c.toNat : Int) = 92 by omega]
    have cv := fun (w : World) (B cap : Nat) (h0 : w.cell? ⟨B, 0, none⟩ = some (.int .u8 92)) (h1 : w.cell? ⟨B, 1, none⟩ = some (.int .u8 92)) => conv_two 92 92 w B cap h0 h1
    clear h1 h2 g1
    go_enter Tryz.func88, Tryz.ntmps88
    go_wp2_with fail
    go_ret
    exact ⟨by rw [E.out]; rfl, (by repeat (first | exact Below.refl _ _ | refine Below.alloc ?_ (by simp <;> omega) _))⟩
  have g2 : ((c.toNat : Int) == 92) = false := by rw [beq_eq_false_iff_ne]; omega
  by_cases h3 : c.toNat = 10
  · have E := Lib.hid (show chrL c = [92, 110] by unfold chrL; rw [if_neg h1, if_neg h2, if_pos h3])
    rw [show (c.toNat : Int) = 10 by omega]
    have cv := fun (w : World) (B cap : Nat) (h0 : w.cell? ⟨B, 0, none⟩ = some (.int .u8 92)) (h1 : w.cell? ⟨B, 1, none⟩ = some (.int .u8 110)) => conv_two 92 110 w B cap h0 h1
    clear h1 h2 h3 g1 g2
    go_enter Tryz.func88, Tryz.ntmps88
    go_wp2_with fail
    go_ret
    exact ⟨by rw [E.out]; rfl, (by repeat (first | exact Below.refl _ _ | refine Below.alloc ?_ (by simp <;> omega) _))⟩
  have g3 : ((c.toNat : Int) == 10) = false := by rw [beq_eq_false_iff_ne]; omega
  by_cases h4 : c.toNat = 9
  · have E := Lib.hid (show chrL c = [92, 116] by unfold chrL; rw [if_neg h1, if_neg h2, if_neg h3, if_pos h4])
    rw [show (c.toNat : Int) = 9 by omega]
    have cv := fun (w : World) (B cap : Nat) (h0 : w.cell? ⟨B, 0, none⟩ = some (.int .u8 92)) (h1 : w.cell? ⟨B, 1, none⟩ = some (.int .u8 116)) => conv_two 92 116 w B cap h0 h1
    clear h1 h2 h3 h4 g1 g2 g3
    go_enter Tryz.func88, Tryz.ntmps88
    go_wp2_with fail
    go_ret
    exact ⟨by rw [E.out]; rfl, (by repeat (first | exact Below.refl _ _ | refine Below.alloc ?_ (by simp <;> omega) _))⟩
  have g4 : ((c.toNat : Int) == 9) = false := by rw [beq_eq_false_iff_ne]; omega
  have hc := c.toNat_lt
  by_cases h5 : 32 ≤ c.toNat ∧ c.toNat ≤ 126
  · have E := Lib.hid (show chrL c = [c] by unfold chrL; rw [if_neg h1, if_neg h2, if_neg h3, if_neg h4, if_pos h5])
    have cv := conv_one (c.toNat : Int) (by omega) (by omega)
    rw [show UInt8.ofNat (c.toNat : Int).toNat = c by rw [Int.toNat_natCast, UInt8.ofNat_toNat]] at cv
    have g5 : (32 : Int) ≤ (c.toNat : Int) := by omega
    have g6 : (c.toNat : Int) ≤ 126 := by omega
    clear h1 h2 h3 h4 h5
    go_enter Tryz.func88, Tryz.ntmps88
    go_wp2_with fail
    go_ret
    exact ⟨by rw [E.out]; rfl, (by repeat (first | exact Below.refl _ _ | refine Below.alloc ?_ (by simp <;> omega) _))⟩
  · have E := Lib.hid (show chrL c = [92, 120, hexD (c.toNat / 16), hexD (c.toNat % 16)] by unfold chrL; rw [if_neg h1, if_neg h2, if_neg h3, if_neg h4, if_neg h5])
    have cv := fun (w : World) (B cap : Nat) (h0 : w.cell? ⟨B, 0, none⟩ = some (.int .u8 92)) (h1 : w.cell? ⟨B, 1, none⟩ = some (.int .u8 120)) => conv_four 92 120 (hexD (c.toNat / 16)) (hexD (c.toNat % 16)) w B cap h0 h1
    have b1 : (0 : Int) ≤ (c.toNat : Int) / 16 ∧ (c.toNat : Int) / 16 < 16 := by omega
    have b2 : (0 : Int) ≤ (c.toNat : Int) % 16 ∧ (c.toNat : Int) % 16 < 16 := by omega
    have b3 : (0 : Int) ≤ (c.toNat : Int) ∧ (c.toNat : Int) ≤ 255 := by omega
    have x1 := fun h => hexAt' ((c.toNat : Int) / 16) (c.toNat / 16) (by omega) (by omega) h
    have x2 := fun h => hexAt' ((c.toNat : Int) % 16) (c.toNat % 16) (by omega) (by omega) h
    have v1 : IntKind.u8.wrap ((c.toNat : Int).tdiv 16) = (c.toNat : Int) / 16 := IntWalk.u8_quo _ _ (by omega)
    have v2 : (c.toNat : Int).tmod 16 = (c.toNat : Int) % 16 := IntWalk.rem_in _ _ (by omega)
    by_cases h6 : c.toNat < 32
    · have g5 : ¬ (32 : Int) ≤ (c.toNat : Int) := by omega
      clear h1 h2 h3 h4 h5 h6 hc
      go_enter Tryz.func88, Tryz.ntmps88
      go_wp2_with fail
      go_region
      all_goals
        go_wp2_with fail
        go_ret
        exact ⟨by rw [E.out]; rfl, (by repeat (first | exact Below.refl _ _ | refine Below.drew ?_ | refine Below.alloc ?_ (by simp <;> omega) _))⟩
    · have g5 : (32 : Int) ≤ (c.toNat : Int) := by omega
      have g6 : ¬ (c.toNat : Int) ≤ 126 := by omega
      clear h1 h2 h3 h4 h5 h6 hc
      go_enter Tryz.func88, Tryz.ntmps88
      go_wp2_with fail
      go_region
      all_goals
        go_wp2_with fail
        go_ret
        exact ⟨by rw [E.out]; rfl, (by repeat (first | exact Below.refl _ _ | refine Below.drew ?_ | refine Below.alloc ?_ (by simp <;> omega) _))⟩
end Go.Proofs.YtabopneehhnhfaaGreatDoor
namespace Go.Proofs.YtabopneehhnhfaaGreatDoor
open Go.RowKit Go.Lib

set_option maxHeartbeats 4000000 in
set_option maxRecDepth 100000 in
theorem quo_any (s : ByteArray) (hs : s.size ≤ 140737488351232) (w : World) : Calls Tryz.prog 67 #[.string s] w fun e w' => e = .returned (.string ⟨(quoL s.data.toList).toArray⟩) ∧ Below w.heap.size w w' := by
  have hsl := listS_len s
  have cv : ∀ (w : World) (B cap : Nat), w.cell? ⟨B, 0, none⟩ = some (.int .u8 34) → (convert 59 9 (.slice (some ⟨B, 0, none⟩) 1 cap)).run Tryz.prog w = .ok (.string ⟨#[34]⟩) w := fun w B cap h => conv_one 34 (by decide) (by decide) w B cap h
  have B0 := Lib.hid ((Below.refl w.heap.size w).alloc (Nat.le_refl _) (.cells #[.int .u8 34] 5))
  go_enter Tryz.func67, Tryz.ntmps67
  go_wp2_with fail
  go_loopw [3, 4] (fun s3 s4 wr => ∃ (j : Nat) (o : ByteArray), j ≤ s.size ∧ s4 = .int .i64 (j : Int) ∧ s3 = .string o ∧ Hid (o = ⟨(34 :: (s.data.toList.take j).flatMap chrL).toArray⟩) ∧ Hid (Below w.heap.size w wr)) (fun _ s4 _ => s.size - (RowKit.intOf s4).toNat)
  case atStart => exact ⟨0, _, by omega, rfl, rfl, Lib.hid (by simp), B0⟩
  case round =>
    obtain ⟨j, o, hj, rfl, rfl, HO, HB⟩ := hrel
    clear B0
    by_cases hlt : j < s.size
    · have hlt' : j < s.data.toList.length := by omega
      have hsn := flat_snoc s.data.toList j hlt'
      have hfl := flat_len4 (s.data.toList.take j)
      have htl : (s.data.toList.take j).length ≤ j := List.length_take_le _ _
      have hcl := chrL_len s.data.toList[j]
      have hol : o.size ≤ 4 * j + 1 := by rw [HO.out]; show (34 :: _).length ≤ _; rw [List.length_cons]; omega
      rw [str_at s j hlt] at hsn hcl
      have F := Lib.hid (fun w => chr_any s[j] w)
      have hC : (⟨(chrL s[j]).toArray⟩ : ByteArray).size ≤ 4 := by show (chrL s[j]).length ≤ 4; omega
      obtain ⟨C, hCe⟩ : ∃ C : ByteArray, C = ⟨(chrL s[j]).toArray⟩ := ⟨_, rfl⟩
      rw [← hCe] at F hC
      have s1 := fun w => run_string_add_sum (P := Tryz.prog) w o C (by omega)
      have HN := Lib.hid (show o ++ C = ⟨(34 :: (s.data.toList.take (j + 1)).flatMap chrL).toArray⟩ by rw [HO.out, hCe, hsn, app_str]; rfl)
      have hjI : (0 : Int) ≤ (j : Int) ∧ (j : Int) < (s.size : Int) := by omega
      clear hsn hfl htl hcl hol hC hCe hsl
      go_wp2_with fail
      go_fit (F.out _)
      rintro e w1 ⟨rfl, hb1⟩
      have B1 := Lib.hid (HB.out.trans (hb1.mono HB.out.size))
      clear hb1
      go_wp2_with fail
      exact ⟨⟨j + 1, _, by omega, by go_num, rfl, HN, B1⟩, by simp [RowKit.intOf]; omega⟩
    · obtain rfl : j = s.size := by omega
      have hfl := flat_len4 s.data.toList
      have htk : s.data.toList.take s.size = s.data.toList := List.take_of_length_le (by omega)
      have ho := HO.out
      rw [htk] at ho
      have hol : o.size ≤ 4 * s.size + 1 := by rw [ho]; show (34 :: _).length ≤ _; rw [List.length_cons]; omega
      have s1 := fun w => run_string_add_sum (P := Tryz.prog) w o ⟨#[34]⟩ (by show o.size + 1 ≤ _; omega)
      have E := Lib.hid (show (⟨(quoL s.data.toList).toArray⟩ : ByteArray) = o ++ ⟨#[34]⟩ by
        rw [ho]
        show (⟨((34 :: s.data.toList.flatMap chrL) ++ [34]).toArray⟩ : ByteArray) = _
        exact (app_str _ [34]).symm)
      have B2 := Lib.hid (HB.out.alloc HB.out.size (.cells #[.int .u8 34] 5))
      clear ho htk hfl hol hsl hlt
      go_wp2_with fail
      go_ret
      exact ⟨by rw [E.out]; rfl, B2.out⟩
end Go.Proofs.YtabopneehhnhfaaGreatDoor
