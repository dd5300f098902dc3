/- The walk of the law: Parentheses around a source do not change its expression. -/
import Derived.Test.YtjehhldboopocaaGreatDoorPk40
import Derived.Test.YtjehhldboopocaaGreatDoorPk41
import Derived.ProofKit
import Derived.OpenShut
import Derived.LaidMore
import Derived.Stop.Joined
import Derived.SevenTiedAt
import Derived.SizedLaws
namespace Go.Proofs.YtjehhldboopocaaGreatDoor.parserEnclosed
open Go.ChangeShapes Go.WideShapes Go.ChangeAt Go.RowKit Go.Proofs.YtjehhldboopocaaGreatDoor.Lx
open Go.ChangeMaps (open_string shut_string)
set_option linter.unusedVariables false
theorem own : ownKnob Tryz.prog.godebug = none := by kernel_rfl
theorem laidOut : laidOutB Tryz.prog = true := by kernel_rfl

theorem conv10 (w : World) (B cap : Nat) (h0 : w.cell? ⟨B, 0, none⟩ = some (.int .u8 10)) : (convert 46 9 (.slice (some ⟨B, 0, none⟩) 1 cap)).run Tryz.prog w = .ok (.string ⟨#[10]⟩) w := by
  refine conv_str (some ⟨B, 0, none⟩) [10] w (fun k hk => ⟨B, 0, rfl, World.block_lt_of_cell? w _ h0, ?_⟩) cap
  match k, hk with
  | 0, _ => exact h0
set_option maxHeartbeats 8000000 in
set_option maxRecDepth 100000 in
theorem walk (s : ByteArray) (ha : s.size ≤ 140737488355327) (w : World) (hT : TabX w) :
    Calls Tryz.prog 7 #[.string s] w fun e w' => e = .returned (.bool true) ∧ Below w.heap.size w w' := by
  have HT := Lib.hid hT
  clear hT ha
  rcases parse_cases s with ⟨p, er, ⟨q1, q2⟩, TL⟩ | ⟨T, x, hs, hl, hp, hv, hsm, TL⟩
  · have TL := Lib.hid TL
    go_enter Tryz.func7, Tryz.ntmps7
    go_wp2_with fail
    go_fit (TL.out _ HT.out.1)
    rintro e w1 ⟨rfl, hb⟩
    have B1 := Lib.hid hb
    clear hb
    rw [show zeroC.toArray = #[.int .i64 0, .string ⟨#[]⟩, .int .i64 0, .bool false, .int .i64 0, .string ⟨#[]⟩, .slice none 0 0, .slice none 0 0, .slice none 0 0, .slice none 0 0] from rfl]
    go_upto_region 3 with fail
    have B2 := Lib.hid (B1.out.alloc B1.out.size (.cells #[.int .i64 0, .string ⟨#[]⟩, .int .i64 0, .bool false, .int .i64 0, .string ⟨#[]⟩, .slice none 0 0, .slice none 0 0, .slice none 0 0, .slice none 0 0] 29))
    go_wp2_with fail
    go_fit (awakeX _ (HT.out.below B2.out))
    rintro e w2 ⟨rfl, hb⟩
    have B3 := Lib.hid (B2.out.trans (hb.mono B2.out.size))
    clear hb
    go_wp2_with fail
    go_ret
    exact ⟨rfl, B3.out⟩
  · have TL := Lib.hid TL
    by_cases hlong : (65532 : Int) < (s.size : Int)
    · clear hl hp hv hsm
      go_enter Tryz.func7, Tryz.ntmps7
      go_wp2_with fail
      go_fit (TL.out _ HT.out.1)
      rintro e w1 ⟨⟨C, m, rfl, hx⟩, hb⟩
      have B1 := Lib.hid hb
      obtain ⟨k, n, vk, vt, vi, vs, vl, vks, vav, vc, vkv, vkc, l, ks, av, c, kv, kc, e0, rfl, -⟩ := hx w1 (Below.refl _ _)
      clear hb hx e0
      go_upto_region 3 with fail
      have B2 := Lib.hid (B1.out.alloc B1.out.size (.cells #[.int .i64 k, .string ⟨n.toArray⟩, .int .i64 vk, .bool vt, .int .i64 vi, .string vs, .slice vav vl.length vc, .slice vkv vks.length vkc, .slice av l.length c, .slice kv ks.length kc] 29))
      go_wp2_with fail
      go_fit (awakeX _ (HT.out.below B2.out))
      rintro e w2 ⟨rfl, hb⟩
      have B3 := Lib.hid (B2.out.trans (hb.mono B2.out.size))
      clear hb
      go_wp2_with fail
      go_ret
      exact ⟨rfl, B3.out⟩
    · have s1 := fun w => run_string_add_sum (P := Tryz.prog) w ⟨#[40]⟩ ⟨#[10]⟩ (by decide)
      have s2 := fun w => run_string_add_sum (P := Tryz.prog) w (⟨#[40]⟩ ++ ⟨#[10]⟩) s (by show 2 + s.size ≤ _; omega)
      have s3 := fun w => run_string_add_sum (P := Tryz.prog) w ((⟨#[40]⟩ ++ ⟨#[10]⟩) ++ s) ⟨#[10]⟩ (by rw [ByteArray.size_append]; show 2 + s.size + 1 ≤ _; omega)
      have s4 := fun w => run_string_add_sum (P := Tryz.prog) w (((⟨#[40]⟩ ++ ⟨#[10]⟩) ++ s) ++ ⟨#[10]⟩) ⟨#[41]⟩ (by rw [ByteArray.size_append, ByteArray.size_append]; show 2 + s.size + 1 + 1 ≤ _; omega)
      have c10 := conv10
      obtain ⟨s', hs'⟩ : ∃ s', s' = ((((⟨#[40]⟩ ++ ⟨#[10]⟩) ++ s) ++ ⟨#[10]⟩) ++ ⟨#[41]⟩ : ByteArray) := ⟨_, rfl⟩
      have hd : s'.data.toList = 40 :: 10 :: (s.data.toList ++ [10, 41]) := by
        rw [hs']
        simp
      have hz : s'.size ≤ 65536 := by
        rw [hs']
        simp only [ByteArray.size_append]
        show 1 + 1 + s.size + 1 + 1 ≤ _
        omega
      obtain ⟨T', F, hl', hp'⟩ := enclosed s s' T x hd hl hp
      have TM := Lib.hid (fun w hT => parse_okC s' T' x F hz hl' hp' hv w hT)
      rw [← hs'] at s4
      have EQ := Lib.hid (fun (C D : List Value) (m n : Nat) (w : World) (h1 : IsE m w C x) (h2 : IsE n w D x) => (show Calls Tryz.prog 22 #[.agg C.toArray, .agg D.toArray] w fun e w' => e = .returned (.bool true) ∧ Below w.heap.size w w' from by
        have h := equalX_any C D x x w h1 h2
        rw [eqX_refl] at h
        exact h))
      clear hl hp hv hsm hd hz hl' hp' hs'
      go_enter Tryz.func7, Tryz.ntmps7
      go_wp2_with fail
      go_fit (TL.out _ HT.out.1)
      rintro e w1 ⟨⟨C, m, rfl, hx⟩, hb⟩
      have B1 := Lib.hid hb
      have HX1 := Lib.hid hx
      obtain ⟨k, n, vk, vt, vi, vs, vl, vks, vav, vc, vkv, vkc, l, ks, av, c, kv, kc, e0, rfl, -⟩ := hx w1 (Below.refl _ _)
      clear hb hx e0
      go_upto_region 2 with fail
      obtain ⟨nx, hnx⟩ : ∃ nx : ByteArray, nx = ⟨n.toArray⟩ := ⟨_, rfl⟩
      rw [← hnx] at HX1 ⊢
      have hb2 := (Below.refl w1.heap.size w1).alloc (Nat.le_refl _) (.cells #[.int .i64 k, .string nx, .int .i64 vk, .bool vt, .int .i64 vi, .string vs, .slice vav vl.length vc, .slice vkv vks.length vkc, .slice av l.length c, .slice kv ks.length kc] 29)
      have hC2 := CellsAt.new w1 29 #[.int .i64 k, .string nx, .int .i64 vk, .bool vt, .int .i64 vi, .string vs, .slice vav vl.length vc, .slice vkv vks.length vkc, .slice av l.length c, .slice kv ks.length kc]
      have hX2 := HX1.out _ hb2
      obtain ⟨W2, hW2⟩ : ∃ W2, W2 = w1.alloc (.cells #[.int .i64 k, .string nx, .int .i64 vk, .bool vt, .int .i64 vi, .string vs, .slice vav vl.length vc, .slice vkv vks.length vkc, .slice av l.length c, .slice kv ks.length kc] 29) := ⟨_, rfl⟩
      rw [← hW2] at hb2 hC2 hX2 ⊢
      have B2 := Lib.hid (B1.out.trans (hb2.mono B1.out.size))
      have C2 := Lib.hid hC2
      have X2 := Lib.hid hX2
      clear hb2 hC2 hX2 hW2 HX1 B1 hnx
      go_upto_region 5 with fail
      have hb3 := (Below.refl W2.heap.size W2).alloc (Nat.le_refl _) (.cells #[.int .u8 10] 5)
      obtain ⟨W3, hW3⟩ : ∃ W3, W3 = W2.alloc (.cells #[.int .u8 10] 5) := ⟨_, rfl⟩
      rw [← hW3] at hb3 ⊢
      have B3 := Lib.hid (B2.out.trans (hb3.mono B2.out.size))
      have C3 := Lib.hid (C2.out.below hb3)
      have X3 := Lib.hid (X2.out.below hb3)
      clear hb3 hW3 B2 C2 X2
      go_wp2_with fail
      go_fit (TM.out _ (HT.out.below B3.out).1)
      rintro e w4 ⟨⟨D, q, rfl, hy⟩, hb4⟩
      have B4 := Lib.hid (B3.out.trans (hb4.mono B3.out.size))
      have C4 := Lib.hid (C3.out.below hb4)
      have X4 := Lib.hid (X3.out.below hb4)
      have HY4 := Lib.hid hy
      obtain ⟨k', n', uk, ut, ui, us, ul, uks, uav, uc, ukv, ukc, l', ks', av', c', kv', kc', e0, rfl, -⟩ := hy w4 (Below.refl _ _)
      clear hb4 hy e0 B3 C3 X3
      go_upto_region 6 with fail
      obtain ⟨nx', hnx'⟩ : ∃ nx' : ByteArray, nx' = ⟨n'.toArray⟩ := ⟨_, rfl⟩
      rw [← hnx'] at HY4 ⊢
      have hb5 := (Below.refl w4.heap.size w4).alloc (Nat.le_refl _) (.cells #[.int .i64 k', .string nx', .int .i64 uk, .bool ut, .int .i64 ui, .string us, .slice uav ul.length uc, .slice ukv uks.length ukc, .slice av' l'.length c', .slice kv' ks'.length kc'] 29)
      have hD5 := CellsAt.new w4 29 #[.int .i64 k', .string nx', .int .i64 uk, .bool ut, .int .i64 ui, .string us, .slice uav ul.length uc, .slice ukv uks.length ukc, .slice av' l'.length c', .slice kv' ks'.length kc']
      have hY5 := HY4.out _ hb5
      obtain ⟨W5, hW5⟩ : ∃ W5, W5 = w4.alloc (.cells #[.int .i64 k', .string nx', .int .i64 uk, .bool ut, .int .i64 ui, .string us, .slice uav ul.length uc, .slice ukv uks.length ukc, .slice av' l'.length c', .slice kv' ks'.length kc'] 29) := ⟨_, rfl⟩
      rw [← hW5] at hb5 hD5 hY5 ⊢
      have B5 := Lib.hid (B4.out.trans (hb5.mono B4.out.size))
      have hC5 := C4.out.below hb5
      have X5 := Lib.hid (X4.out.below hb5)
      have Y5 := Lib.hid hY5
      have d0 := hC5.cell (k := 0) (u := .int .i64 k) rfl
      have d1 := hC5.cell (k := 1) (u := .string nx) rfl
      have d2 := hC5.cell (k := 2) (u := .int .i64 vk) rfl
      have d3 := hC5.cell (k := 3) (u := .bool vt) rfl
      have d4 := hC5.cell (k := 4) (u := .int .i64 vi) rfl
      have d5 := hC5.cell (k := 5) (u := .string vs) rfl
      have d6 := hC5.cell (k := 6) (u := .slice vav vl.length vc) rfl
      have d7 := hC5.cell (k := 7) (u := .slice vkv vks.length vkc) rfl
      have d8 := hC5.cell (k := 8) (u := .slice av l.length c) rfl
      have d9 := hC5.cell (k := 9) (u := .slice kv ks.length kc) rfl
      have g0 := hD5.cell (k := 0) (u := .int .i64 k') rfl
      have g1 := hD5.cell (k := 1) (u := .string nx') rfl
      have g2 := hD5.cell (k := 2) (u := .int .i64 uk) rfl
      have g3 := hD5.cell (k := 3) (u := .bool ut) rfl
      have g4 := hD5.cell (k := 4) (u := .int .i64 ui) rfl
      have g5 := hD5.cell (k := 5) (u := .string us) rfl
      have g6 := hD5.cell (k := 6) (u := .slice uav ul.length uc) rfl
      have g7 := hD5.cell (k := 7) (u := .slice ukv uks.length ukc) rfl
      have g8 := hD5.cell (k := 8) (u := .slice av' l'.length c') rfl
      have g9 := hD5.cell (k := 9) (u := .slice kv' ks'.length kc') rfl
      clear hb5 hD5 hY5 hW5 hC5 B4 C4 X4 HY4 hnx'
      go_wp2_with fail
      go_fit (EQ.out _ _ _ _ _ X5.out Y5.out)
      rintro e w6 ⟨rfl, hb6⟩
      have B6 := Lib.hid (B5.out.trans (hb6.mono B5.out.size))
      clear hb6 X5 Y5 B5 d0 d1 d2 d3 d4 d5 d6 d7 d8 d9 g0 g1 g2 g3 g4 g5 g6 g7 g8 g9
      go_wp2_with fail
      go_fit (awakeX _ (HT.out.below B6.out))
      rintro e w7 ⟨rfl, hb7⟩
      have B7 := Lib.hid (B6.out.trans (hb7.mono B6.out.size))
      clear hb7
      go_wp2_with fail
      go_ret
      exact ⟨rfl, B7.out⟩

end Go.Proofs.YtjehhldboopocaaGreatDoor.parserEnclosed
