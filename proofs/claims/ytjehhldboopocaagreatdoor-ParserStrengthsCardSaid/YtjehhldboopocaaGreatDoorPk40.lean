/- Contracts of functions of the program, and what they are made of (parser; Pk40). -/
import Derived.Test.YtjehhldboopocaaGreatDoorPk05
import Derived.Test.YtjehhldboopocaaGreatDoorPk39
import Derived.ProofKit
import Derived.OpenShut
import Derived.LaidMore
import Derived.Lay
import Derived.Shelf.Vars
import Derived.HandedShaped
import Derived.Stop.Joined
import Derived.Stop.LaidErr
import Derived.Lib.LaidTab
namespace Go.Proofs.YtjehhldboopocaaGreatDoor.Lx
open Go.RowKit Go.Lib
set_option linter.unusedVariables false
set_option linter.unusedSimpArgs false
theorem conv3_e (w : World) (B cap : Nat) (h0 : w.cell? ⟨B, 0, none⟩ = some (.int .u8 34)) (h1 : w.cell? ⟨B, 1, none⟩ = some (.int .u8 97)) (h2 : w.cell? ⟨B, 2, none⟩ = some (.int .u8 34)) : (convert 46 9 (.slice (some ⟨B, 0, none⟩) 3 cap)).run Tryz.prog w = .ok (.string ⟨#[34, 97, 34]⟩) w := by
  refine conv_str (some ⟨B, 0, none⟩) [34, 97, 34] w (fun k hk => ⟨B, 0, rfl, World.block_lt_of_cell? w _ h0, ?_⟩) cap
  match k, hk with
  | 0, _ => exact h0
  | 1, _ => exact h1
  | 2, _ => exact h2
set_option maxRecDepth 100000 in
set_option maxHeartbeats 8000000 in
theorem awake_any (w : World) (hT : TabL w) (hP : Go.Proofs.YtjehhldboopocaaGreatDoor.TabP w) : Calls Tryz.prog 10 #[] w fun e w' => e = .returned (.bool true) ∧ Below w.heap.size w w' := by
  have HT := Lib.hid hT
  have HP := Lib.hid hP
  clear hT hP
  have c3 := conv3_e
  have s1 := fun w => run_string_add_sum (P := Tryz.prog) w ⟨#[123, 97, 58, 32, 49, 44, 32]⟩ ⟨#[34, 97, 34]⟩ (by decide)
  have s2 := fun w => run_string_add_sum (P := Tryz.prog) w (⟨#[123, 97, 58, 32, 49, 44, 32, 34, 97, 34]⟩) ⟨#[58, 32, 50, 125]⟩ (by decide)
  simp only [show (⟨#[123, 97, 58, 32, 49, 44, 32]⟩ : ByteArray) ++ ⟨#[34, 97, 34]⟩ = ⟨#[123, 97, 58, 32, 49, 44, 32, 34, 97, 34]⟩ by decide] at s1
  simp only [show (⟨#[123, 97, 58, 32, 49, 44, 32, 34, 97, 34]⟩ : ByteArray) ++ ⟨#[58, 32, 50, 125]⟩ = ⟨#[123, 97, 58, 32, 49, 44, 32, 34, 97, 34, 58, 32, 50, 125]⟩ by decide] at s2
  go_enter Tryz.func10, Tryz.ntmps10
  go_wp2_with fail
  go_fit (parA_e _ HT.out)
  rintro e w1 ⟨⟨C, m, rfl, hx⟩, hb⟩
  have HX1 := Lib.hid hx
  have B1 := Lib.hid hb
  obtain ⟨k, n, vk, vt, vi, vs, vl, vks, vav, vc, vkv, vkc, l, ks, av, c, kv, kc, e0, eC, hV, hk, hn, hla, hka, hkl, hrk, hr⟩ := hx w1 (Below.refl _ _)
  unfold xA at e0
  injection e0 with e0 e1 e2 e3 e4
  subst e0 e2 e3 e4
  have HC := Lib.hid eC
  subst eC
  clear e1 hV hn hla hka hkl hrk hk hx hb
  obtain ⟨m', rfl⟩ : ∃ m', m = m' + 1 := by
    cases m with
    | zero => cases (show ([eOne 1, _] : List Xp) = [] from hr)
    | succ m' => exact ⟨m', rfl⟩
  obtain ⟨b, off, D, rfl, hb, hD, hc⟩ := hr 1 _ rfl
  obtain ⟨k1, n1, vk1, vt1, vi1, vs1, vl1, vks1, vav1, vc1, vkv1, vkc1, l1, ks1, av1, c1, kv1, kc1, f0, rfl, hq⟩ := hD
  injection f0 with f0 f1 f2 f3 f4
  subst f2
  have hmul := hc 1 _ rfl
  clear hc hq f0 f1 f3 f4 hr
  have hB2 := (Below.refl w1.heap.size w1).alloc (Nat.le_refl _) (.cells #[.int .i64 7, .string ⟨#[43]⟩, .int .i64 vk, .bool vt, .int .i64 vi, .string vs, .slice vav vl.length vc, .slice vkv vks.length vkc, .slice (some ⟨b, off, none⟩) 2 c, .slice kv 0 kc] 29)
  have hC2 := CellsAt.new w1 29 #[.int .i64 7, .string ⟨#[43]⟩, .int .i64 vk, .bool vt, .int .i64 vi, .string vs, .slice vav vl.length vc, .slice vkv vks.length vkc, .slice (some ⟨b, off, none⟩) 2 c, .slice kv 0 kc]
  have hX2 : IsE (m' + 1) (w1.alloc (.cells #[.int .i64 7, .string ⟨#[43]⟩, .int .i64 vk, .bool vt, .int .i64 vi, .string vs, .slice vav vl.length vc, .slice vkv vks.length vkc, .slice (some ⟨b, off, none⟩) 2 c, .slice kv 0 kc] 29)) [.int .i64 7, .string ⟨#[43]⟩, .int .i64 vk, .bool vt, .int .i64 vi, .string vs, .slice vav vl.length vc, .slice vkv vks.length vkc, .slice (some ⟨b, off, none⟩) 2 c, .slice kv 0 kc] xA := HX1.out _ hB2
  have hmul2 := (hB2.cell (p := ⟨b, _, none⟩) hb).trans hmul
  obtain ⟨W2, hW2⟩ : ∃ W2, W2 = w1.alloc (.cells #[.int .i64 7, .string ⟨#[43]⟩, .int .i64 vk, .bool vt, .int .i64 vi, .string vs, .slice vav vl.length vc, .slice vkv vks.length vkc, .slice (some ⟨b, off, none⟩) 2 c, .slice kv 0 kc] 29) := ⟨_, rfl⟩
  rw [← hW2] at hB2 hC2 hX2 hmul2
  have HW2 := Lib.hid hW2
  have HB2 := Lib.hid (B1.out.trans (hB2.mono B1.out.size))
  have HC2 := Lib.hid hC2
  have HX2 := Lib.hid hX2
  have d0 := hC2.cell (k := 0) (u := .int .i64 7) rfl
  have d1 := hC2.cell (k := 1) (u := .string ⟨#[43]⟩) rfl
  have d2 := hC2.cell (k := 2) (u := .int .i64 vk) rfl
  have d3 := hC2.cell (k := 3) (u := .bool vt) rfl
  have d4 := hC2.cell (k := 4) (u := .int .i64 vi) rfl
  have d5 := hC2.cell (k := 5) (u := .string vs) rfl
  have d6 := hC2.cell (k := 6) (u := .slice vav vl.length vc) rfl
  have d7 := hC2.cell (k := 7) (u := .slice vkv vks.length vkc) rfl
  have d8 := hC2.cell (k := 8) (u := .slice (some ⟨b, off, none⟩) 2 c) rfl
  have d9 := hC2.cell (k := 9) (u := .slice kv 0 kc) rfl
  clear hB2 hC2 hX2 hW2 hmul
  go_upto_region 2 with fail
  rw [← HW2.out]
  go_wp2_with fail
  go_fit (couA_e _ HX2.out)
  rintro e w3 ⟨rfl, hb3⟩
  have HB3 := Lib.hid (HB2.out.trans (hb3.mono HB2.out.size))
  have HC3 := Lib.hid (HC2.out.below hb3)
  have HX3 := Lib.hid (HX2.out.below hb3)
  clear hb3 d0 d1 d2 d3 d4 d5 d6 d7 d8 d9 hmul2 HX2 HB2 HC2
  have d0 := HC3.out.cell (k := 0) (u := .int .i64 7) rfl
  have d1 := HC3.out.cell (k := 1) (u := .string ⟨#[43]⟩) rfl
  have d2 := HC3.out.cell (k := 2) (u := .int .i64 vk) rfl
  have d3 := HC3.out.cell (k := 3) (u := .bool vt) rfl
  have d4 := HC3.out.cell (k := 4) (u := .int .i64 vi) rfl
  have d5 := HC3.out.cell (k := 5) (u := .string vs) rfl
  have d6 := HC3.out.cell (k := 6) (u := .slice vav vl.length vc) rfl
  have d7 := HC3.out.cell (k := 7) (u := .slice vkv vks.length vkc) rfl
  have d8 := HC3.out.cell (k := 8) (u := .slice (some ⟨b, off, none⟩) 2 c) rfl
  have d9 := HC3.out.cell (k := 9) (u := .slice kv 0 kc) rfl
  go_wp2_with fail
  go_fit (shoA_e _ HX3.out (HT.out.below HB3.out) (Go.Proofs.YtjehhldboopocaaGreatDoor.tabP_below HP.out HB3.out))
  rintro e w4 ⟨rfl, hb4⟩
  have HB4 := Lib.hid (HB3.out.trans (hb4.mono HB3.out.size))
  have HC4 := Lib.hid (HC3.out.below hb4)
  have HX4 := Lib.hid (HX3.out.below hb4)
  clear hb4 d0 d1 d2 d3 d4 d5 d6 d7 d8 d9 HX3 HB3 HC3
  go_wp2_with fail
  go_fit (parB_e _ (HT.out.below HB4.out))
  rintro e w5 ⟨rfl, hb5⟩
  have HB5 := Lib.hid (HB4.out.trans (hb5.mono HB4.out.size))
  have HC5 := Lib.hid (HC4.out.below hb5)
  have HX5 := Lib.hid (HX4.out.below hb5)
  clear hb5 HX4 HB4 HC4
  rw [show zeroC.toArray = #[.int .i64 0, .string ⟨#[]⟩, .int .i64 0, .bool false, .int .i64 0, .string ⟨#[]⟩, .slice none 0 0, .slice none 0 0, .slice none 0 0, .slice none 0 0] from rfl]
  go_upto_region 5 with fail
  obtain ⟨W6, hW6⟩ : ∃ W6, W6 = w5.alloc (.cells #[.int .i64 0, .string ⟨#[]⟩, .int .i64 0, .bool false, .int .i64 0, .string ⟨#[]⟩, .slice none 0 0, .slice none 0 0, .slice none 0 0, .slice none 0 0] 29) := ⟨_, rfl⟩
  have hb6 := (Below.refl w5.heap.size w5).alloc (Nat.le_refl _) (.cells #[.int .i64 0, .string ⟨#[]⟩, .int .i64 0, .bool false, .int .i64 0, .string ⟨#[]⟩, .slice none 0 0, .slice none 0 0, .slice none 0 0, .slice none 0 0] 29)
  rw [← hW6] at hb6 ⊢
  have HB6 := Lib.hid (HB5.out.trans (hb6.mono HB5.out.size))
  have HC6 := Lib.hid (HC5.out.below hb6)
  have HX6 := Lib.hid (HX5.out.below hb6)
  clear hb6 hW6 HX5 HB5 HC5
  go_wp2_with fail
  go_fit (parC_e _ (HT.out.below HB6.out))
  rintro e w7 ⟨⟨D, q, rfl, hy⟩, hb7⟩
  have HB7 := Lib.hid (HB6.out.trans (hb7.mono HB6.out.size))
  have HC7 := Lib.hid (HC6.out.below hb7)
  have HX7 := Lib.hid (HX6.out.below hb7)
  have HY7 := Lib.hid hy
  obtain ⟨k', n', uk, ut, ui, us, ul, uks, uav, uc, ukv, ukc, l', ks', av', c', kv', kc', e0, eD, -⟩ := hy w7 (Below.refl _ _)
  unfold xC at e0
  injection e0 with e0 e1 e2 e3 e4
  subst e0 e2 e3 e4
  subst eD
  clear hb7 HX6 HB6 HC6 e1 hy
  go_upto_region 6 with fail
  obtain ⟨W8, hW8⟩ : ∃ W8, W8 = w7.alloc (.cells #[.int .i64 8, .string ⟨#[]⟩, .int .i64 uk, .bool ut, .int .i64 ui, .string us, .slice uav ul.length uc, .slice ukv uks.length ukc, .slice av' 3 c', .slice kv' 0 kc'] 29) := ⟨_, rfl⟩
  have hb8 := (Below.refl w7.heap.size w7).alloc (Nat.le_refl _) (.cells #[.int .i64 8, .string ⟨#[]⟩, .int .i64 uk, .bool ut, .int .i64 ui, .string us, .slice uav ul.length uc, .slice ukv uks.length ukc, .slice av' 3 c', .slice kv' 0 kc'] 29)
  have hC8 := CellsAt.new w7 29 #[.int .i64 8, .string ⟨#[]⟩, .int .i64 uk, .bool ut, .int .i64 ui, .string us, .slice uav ul.length uc, .slice ukv uks.length ukc, .slice av' 3 c', .slice kv' 0 kc']
  have hY8 : IsE q (w7.alloc (.cells #[.int .i64 8, .string ⟨#[]⟩, .int .i64 uk, .bool ut, .int .i64 ui, .string us, .slice uav ul.length uc, .slice ukv uks.length ukc, .slice av' 3 c', .slice kv' 0 kc'] 29)) [.int .i64 8, .string ⟨#[]⟩, .int .i64 uk, .bool ut, .int .i64 ui, .string us, .slice uav ul.length uc, .slice ukv uks.length ukc, .slice av' 3 c', .slice kv' 0 kc'] xC := HY7.out _ hb8
  rw [← hW8] at hb8 hC8 hY8 ⊢
  have HB8 := Lib.hid (HB7.out.trans (hb8.mono HB7.out.size))
  have HC8 := Lib.hid (HC7.out.below hb8)
  have HX8 := Lib.hid (HX7.out.below hb8)
  have HD8 := Lib.hid hC8
  have HY8 := Lib.hid hY8
  clear hb8 hC8 hY8 hW8 HX7 HB7 HC7 HY7
  go_wp2_with fail
  have hb9 := (Below.refl W8.heap.size W8).alloc (Nat.le_refl _) (.cells #[.int .u8 34, .int .u8 97, .int .u8 34] 5)
  have HB9 := Lib.hid (HB8.out.trans (hb9.mono HB8.out.size))
  have HC9 := Lib.hid (HC8.out.below hb9)
  have HX9 := Lib.hid (HX8.out.below hb9)
  have HD9 := Lib.hid (HD8.out.below hb9)
  have HY9 := Lib.hid (HY8.out.below hb9)
  clear hb9 HX8 HB8 HC8 HD8 HY8
  go_fit (parD_e _ (HT.out.below HB9.out))
  rintro e w10 ⟨rfl, hb10⟩
  have HB10 := Lib.hid (HB9.out.trans (hb10.mono HB9.out.size))
  have HC10 := Lib.hid (HC9.out.below hb10)
  have HX10 := Lib.hid (HX9.out.below hb10)
  have HD10 := Lib.hid (HD9.out.below hb10)
  have HY10 := Lib.hid (HY9.out.below hb10)
  clear hb10 HX9 HB9 HC9 HD9 HY9
  rw [show zeroC.toArray = #[.int .i64 0, .string ⟨#[]⟩, .int .i64 0, .bool false, .int .i64 0, .string ⟨#[]⟩, .slice none 0 0, .slice none 0 0, .slice none 0 0, .slice none 0 0] from rfl]
  go_upto_region 7 with fail
  obtain ⟨W11, hW11⟩ : ∃ W11, W11 = w10.alloc (.cells #[.int .i64 0, .string ⟨#[]⟩, .int .i64 0, .bool false, .int .i64 0, .string ⟨#[]⟩, .slice none 0 0, .slice none 0 0, .slice none 0 0, .slice none 0 0] 29) := ⟨_, rfl⟩
  have hb11 := (Below.refl w10.heap.size w10).alloc (Nat.le_refl _) (.cells #[.int .i64 0, .string ⟨#[]⟩, .int .i64 0, .bool false, .int .i64 0, .string ⟨#[]⟩, .slice none 0 0, .slice none 0 0, .slice none 0 0, .slice none 0 0] 29)
  rw [← hW11] at hb11 ⊢
  have HB11 := Lib.hid (HB10.out.trans (hb11.mono HB10.out.size))
  have HC11 := Lib.hid (HC10.out.below hb11)
  have HX11 := Lib.hid (HX10.out.below hb11)
  have HD11 := Lib.hid (HD10.out.below hb11)
  have HY11 := Lib.hid (HY10.out.below hb11)
  clear hb11 hW11 HX10 HB10 HC10 HD10 HY10
  have d0 := HC11.out.cell (k := 0) (u := .int .i64 7) rfl
  have d1 := HC11.out.cell (k := 1) (u := .string ⟨#[43]⟩) rfl
  have d2 := HC11.out.cell (k := 2) (u := .int .i64 vk) rfl
  have d3 := HC11.out.cell (k := 3) (u := .bool vt) rfl
  have d4 := HC11.out.cell (k := 4) (u := .int .i64 vi) rfl
  have d5 := HC11.out.cell (k := 5) (u := .string vs) rfl
  have d6 := HC11.out.cell (k := 6) (u := .slice vav vl.length vc) rfl
  have d7 := HC11.out.cell (k := 7) (u := .slice vkv vks.length vkc) rfl
  have d8 := HC11.out.cell (k := 8) (u := .slice (some ⟨b, off, none⟩) 2 c) rfl
  have d9 := HC11.out.cell (k := 9) (u := .slice kv 0 kc) rfl
  have g0 := HD11.out.cell (k := 0) (u := .int .i64 8) rfl
  have g1 := HD11.out.cell (k := 1) (u := .string ⟨#[]⟩) rfl
  have g2 := HD11.out.cell (k := 2) (u := .int .i64 uk) rfl
  have g3 := HD11.out.cell (k := 3) (u := .bool ut) rfl
  have g4 := HD11.out.cell (k := 4) (u := .int .i64 ui) rfl
  have g5 := HD11.out.cell (k := 5) (u := .string us) rfl
  have g6 := HD11.out.cell (k := 6) (u := .slice uav ul.length uc) rfl
  have g7 := HD11.out.cell (k := 7) (u := .slice ukv uks.length ukc) rfl
  have g8 := HD11.out.cell (k := 8) (u := .slice av' 3 c') rfl
  have g9 := HD11.out.cell (k := 9) (u := .slice kv' 0 kc') rfl
  go_wp2_with fail
  go_fit (shoC_e _ HY11.out (HT.out.below HB11.out) (Go.Proofs.YtjehhldboopocaaGreatDoor.tabP_below HP.out HB11.out))
  rintro e w12 ⟨rfl, hb12⟩
  have HB12 := Lib.hid (HB11.out.trans (hb12.mono HB11.out.size))
  have HC12 := Lib.hid (HC11.out.below hb12)
  have HX12 := Lib.hid (HX11.out.below hb12)
  have HD12 := Lib.hid (HD11.out.below hb12)
  have HY12 := Lib.hid (HY11.out.below hb12)
  clear hb12 d0 d1 d2 d3 d4 d5 d6 d7 d8 d9 g0 g1 g2 g3 g4 g5 g6 g7 g8 g9 HX11 HB11 HC11 HD11 HY11
  have d0 := HC12.out.cell (k := 0) (u := .int .i64 7) rfl
  have d1 := HC12.out.cell (k := 1) (u := .string ⟨#[43]⟩) rfl
  have d2 := HC12.out.cell (k := 2) (u := .int .i64 vk) rfl
  have d3 := HC12.out.cell (k := 3) (u := .bool vt) rfl
  have d4 := HC12.out.cell (k := 4) (u := .int .i64 vi) rfl
  have d5 := HC12.out.cell (k := 5) (u := .string vs) rfl
  have d6 := HC12.out.cell (k := 6) (u := .slice vav vl.length vc) rfl
  have d7 := HC12.out.cell (k := 7) (u := .slice vkv vks.length vkc) rfl
  have d8 := HC12.out.cell (k := 8) (u := .slice (some ⟨b, off, none⟩) 2 c) rfl
  have d9 := HC12.out.cell (k := 9) (u := .slice kv 0 kc) rfl
  have g0 := HD12.out.cell (k := 0) (u := .int .i64 8) rfl
  have g1 := HD12.out.cell (k := 1) (u := .string ⟨#[]⟩) rfl
  have g2 := HD12.out.cell (k := 2) (u := .int .i64 uk) rfl
  have g3 := HD12.out.cell (k := 3) (u := .bool ut) rfl
  have g4 := HD12.out.cell (k := 4) (u := .int .i64 ui) rfl
  have g5 := HD12.out.cell (k := 5) (u := .string us) rfl
  have g6 := HD12.out.cell (k := 6) (u := .slice uav ul.length uc) rfl
  have g7 := HD12.out.cell (k := 7) (u := .slice ukv uks.length ukc) rfl
  have g8 := HD12.out.cell (k := 8) (u := .slice av' 3 c') rfl
  have g9 := HD12.out.cell (k := 9) (u := .slice kv' 0 kc') rfl
  go_wp2_with fail
  go_fit (eqAA_e _ HX12.out)
  rintro e w13 ⟨rfl, hb13⟩
  have HB13 := Lib.hid (HB12.out.trans (hb13.mono HB12.out.size))
  have HC13 := Lib.hid (HC12.out.below hb13)
  have HX13 := Lib.hid (HX12.out.below hb13)
  have HD13 := Lib.hid (HD12.out.below hb13)
  have HY13 := Lib.hid (HY12.out.below hb13)
  clear hb13 d0 d1 d2 d3 d4 d5 d6 d7 d8 d9 g0 g1 g2 g3 g4 g5 g6 g7 g8 g9 HX12 HB12 HC12 HD12 HY12
  have d0 := HC13.out.cell (k := 0) (u := .int .i64 7) rfl
  have d1 := HC13.out.cell (k := 1) (u := .string ⟨#[43]⟩) rfl
  have d2 := HC13.out.cell (k := 2) (u := .int .i64 vk) rfl
  have d3 := HC13.out.cell (k := 3) (u := .bool vt) rfl
  have d4 := HC13.out.cell (k := 4) (u := .int .i64 vi) rfl
  have d5 := HC13.out.cell (k := 5) (u := .string vs) rfl
  have d6 := HC13.out.cell (k := 6) (u := .slice vav vl.length vc) rfl
  have d7 := HC13.out.cell (k := 7) (u := .slice vkv vks.length vkc) rfl
  have d8 := HC13.out.cell (k := 8) (u := .slice (some ⟨b, off, none⟩) 2 c) rfl
  have d9 := HC13.out.cell (k := 9) (u := .slice kv 0 kc) rfl
  have g0 := HD13.out.cell (k := 0) (u := .int .i64 8) rfl
  have g1 := HD13.out.cell (k := 1) (u := .string ⟨#[]⟩) rfl
  have g2 := HD13.out.cell (k := 2) (u := .int .i64 uk) rfl
  have g3 := HD13.out.cell (k := 3) (u := .bool ut) rfl
  have g4 := HD13.out.cell (k := 4) (u := .int .i64 ui) rfl
  have g5 := HD13.out.cell (k := 5) (u := .string us) rfl
  have g6 := HD13.out.cell (k := 6) (u := .slice uav ul.length uc) rfl
  have g7 := HD13.out.cell (k := 7) (u := .slice ukv uks.length ukc) rfl
  have g8 := HD13.out.cell (k := 8) (u := .slice av' 3 c') rfl
  have g9 := HD13.out.cell (k := 9) (u := .slice kv' 0 kc') rfl
  go_wp2_with fail
  go_fit (eqAC_e _ HX13.out HY13.out)
  rintro e w14 ⟨rfl, hb14⟩
  have HB14 := Lib.hid (HB13.out.trans (hb14.mono HB13.out.size))
  have HD14 := Lib.hid (HD13.out.below hb14)
  have HY14 := Lib.hid (HY13.out.below hb14)
  clear hb14 d0 d1 d2 d3 d4 d5 d6 d7 d8 d9 g0 g1 g2 g3 g4 g5 g6 g7 g8 g9 HX13 HB13 HC13 HD13 HY13
  have g0 := HD14.out.cell (k := 0) (u := .int .i64 8) rfl
  have g1 := HD14.out.cell (k := 1) (u := .string ⟨#[]⟩) rfl
  have g2 := HD14.out.cell (k := 2) (u := .int .i64 uk) rfl
  have g3 := HD14.out.cell (k := 3) (u := .bool ut) rfl
  have g4 := HD14.out.cell (k := 4) (u := .int .i64 ui) rfl
  have g5 := HD14.out.cell (k := 5) (u := .string us) rfl
  have g6 := HD14.out.cell (k := 6) (u := .slice uav ul.length uc) rfl
  have g7 := HD14.out.cell (k := 7) (u := .slice ukv uks.length ukc) rfl
  have g8 := HD14.out.cell (k := 8) (u := .slice av' 3 c') rfl
  have g9 := HD14.out.cell (k := 9) (u := .slice kv' 0 kc') rfl
  go_wp2_with fail
  go_fit (valC_e _ HY14.out (HT.out.below HB14.out))
  rintro e w15 ⟨rfl, hb15⟩
  have HB15 := Lib.hid (HB14.out.trans (hb15.mono HB14.out.size))
  clear hb15 g0 g1 g2 g3 g4 g5 g6 g7 g8 g9 HB14 HD14 HY14
  go_wp2_with fail
  go_ret
  exact ⟨rfl, HB15.out⟩
end Go.Proofs.YtjehhldboopocaaGreatDoor.Lx
namespace Go
open Go.RowKit Go.ChangeShapes
variable {H : Type} {enc : TypeId × Value → H}
/-- As 'returnsInHanded_of_change_and', and the contract is also given the shape of the state. -/
theorem returnsInHanded_of_change_andShaped {a : Assume} {C : Checked} {os : Os} {f : FuncId} {fn : Func} {s : ChangeSpec} {conds : List PathCond} {apart fresh handsOn again : Bool} {X : World → Array Value → Prop}
    (hX : ∀ (w w' : World) (args : Array Value), w.heap = w'.heap → X w args → X w' args)
    (own : ownKnob C.prog.godebug = none) (started : os.Started) (noInit : C.prog.inits.idxOf? f = none) (hfn : C.prog.funcs[f]? = some fn)
    (witness : ∃ (w : World) (tape : Tape) (i : Input), w.os = os ∧ (w.forCall tape i).Shaped C.prog ∧ i.vars = [] ∧ Input.okWide C.prog (w.forCall tape i) .any w.heap.size f i ∧
      ((s.pre enc C.prog fn conds apart (w.forCall tape i).memory i.args ∧ X (w.forCall tape i).memory i.args) ∧ sizedMet enc C.prog fn (OpenSpec.ofChange s) apart (w.forCall tape i).memory i.args) ∧ a.holds C.prog (lone (Frame.enter C.prog f i.args .normal) [] (w.forCall tape i)))
    (contract : ∀ (W : World) (base : Nat) (args : Array Value) (ds gs : List (DataW H)) (before : List MemPlace),
      (∀ (j : Nat) t v, fn.params[j]? = some t → args[j]? = some v → Value.okWide C.prog W .any base t v) →
      DataW.Whole enc C.prog fn.params.toList s.vars apart W args.toList ds gs before →
      conds.all (PathCond.test C.prog ⟨fn.params.toList, ds, s.plain.varTypes C.prog, gs⟩) = true →
      (DataW.weightsEach C.prog (fn.params.toList ++ s.plain.varTypes C.prog) (ds ++ gs)).all (· ≤ reachBytes) = true → X W args → W.ShapedOpen C.prog →
      a.holds C.prog (lone (Frame.enter C.prog f args .normal) [] W) →
      Calls C.prog f args W fun e W' => ∃ v, e = .returned v ∧ s.post enc C.prog fn apart fresh handsOn again W args v W') :
    ReturnsInHanded a C os f .any (fun w args => (s.pre enc C.prog fn conds apart w args ∧ X w args) ∧ sizedMet enc C.prog fn (OpenSpec.ofChange s) apart w args) (s.post enc C.prog fn apart fresh handsOn again) := by
  refine returnsInHanded_of_calls own started noInit witness ?_
  intro w tape i _ hsh _ hok hpre hholds
  obtain ⟨_, _, _, fn', hfn', _, _, _, _, hval⟩ := hok
  have e : fn' = fn := Option.some.inj (hfn'.symm.trans hfn)
  subst e
  obtain ⟨⟨⟨ds, gs, before, hw, hc⟩, hx⟩, hz⟩ := hpre
  have hw' := DataW.Whole.of_heap (w' := w.forCall tape i) (by rfl) hw
  refine (contract (w.forCall tape i) w.heap.size i.args ds gs before hval hw' hc (hz.weights hw) (hX _ _ _ (by rfl) hx) hsh hholds).mono fun e W' ⟨v, he, hp⟩ => ?_
  subst he
  exact ChangeSpec.post_blind hp
end Go
namespace Go.Proofs.YtjehhldboopocaaGreatDoor.Lx
open Go.RowKit Go.Lib Go.ChangeShapes
def laid9 : List (String × DataW Unit) := [("math/bits.deBruijn32tab", Rows.laid_math_bits_deBruijn32tab), ("math/bits.deBruijn64tab", Rows.laid_math_bits_deBruijn64tab), ("internal/strconv.uint64pow10", Rows.laid_internal_strconv_uint64pow10), ("unicode/utf8.acceptRanges", Rows.laid_unicode_utf8_acceptRanges), ("strconv.ErrRange", Rows.laid_strconv_ErrRange), ("strconv.ErrSyntax", Rows.laid_strconv_ErrSyntax), ("pipeline/lexer.operators", Rows.laid_pipeline_lexer_operators), ("unicode/utf8.first", Rows.laid_unicode_utf8_first)]
set_option maxRecDepth 100000 in
theorem lay9_met (os : Os) (args : Array Value) : laidMetH Tryz.prog laid9 ((World.laidAll Tryz.prog os laid9).forCall (fun _ _ => 0) ⟨#[], args, []⟩).memory := by
  rw [MakeChecks.laidMetH_plain _ _ _ (by kernel_rfl)]
  exact laidMet_laidAll _ (by kernel_rfl) (by kernel_rfl)
theorem row_named : ∀ u, Tryz.prog.typeName? 3 u = some "*errors.errorString" → u = 217 := typeName_ptr_named (nm := "errors.errorString") (by kernel_rfl) (by kernel_rfl) (by decide)
set_option maxRecDepth 100000 in
theorem ops_of_trod {w : World} {fuel : Nat} {cs : List Value} {p : List MemPlace}
    (h : DataW.trod (H := Unit) (fun _ => ()) Tryz.prog w 0 (fun _ => true) false fuel 122 cs = some (Rows.laid_pipeline_lexer_operators, p)) : cs = opsV.toList := by
  obtain ⟨xs, m, _, hx, hl, hxl, hi⟩ := DataW.trod_array Tryz.underlying122 h
  rw [show Tryz.prog.cellsOf 122 = 25 from by kernel_rfl] at hl
  rw [show Tryz.prog.cellsOf 9 = 1 from by kernel_rfl] at hi
  have hxs : xs.map (·.1) = opsB.map (fun a => DataW.lit (.string a)) := congrArg (fun y : DataW Unit × List MemPlace => match y.1 with | .agg l => l | _ => []) hx.symm
  have ev : opsV.toList = opsB.map (fun a => Value.string ⟨a.toArray⟩) := rfl
  have el : opsB.length = 25 := rfl
  rw [ev]
  apply List.ext_getElem?
  intro i
  by_cases hi25 : i < 25
  · have hb : i < opsB.length := by rw [el]; exact hi25
    have h1 := hi i hi25
    have g : (xs.map (·.1))[i]? = some (DataW.lit (.string opsB[i])) := by rw [hxs, List.getElem?_map, List.getElem?_eq_getElem hb]; rfl
    rw [List.getElem?_map] at g
    obtain ⟨y, hy, e⟩ := Option.map_eq_some_iff.1 g
    rw [hy, Nat.mul_one] at h1
    obtain ⟨s, e2, e3, _⟩ := DataW.trod_string Tryz.underlying9 h1
    rw [e3] at e
    injection e with e
    injection e with e
    have h0 : cs[i]? = ((cs.drop i).take 1)[0]? := by simp
    rw [h0, e2, List.getElem?_map, List.getElem?_eq_getElem hb, ← e]
    rfl
  · rw [List.getElem?_eq_none (by omega), List.getElem?_eq_none (by rw [List.length_map, el]; omega)]
set_option maxRecDepth 100000 in
theorem tab9_of {W : World} (h : laidMetH Tryz.prog laid9 W) (hsh : W.ShapedOpen Tryz.prog) : TabL W := by
  rw [MakeChecks.laidMetH_plain _ _ _ (by kernel_rfl)] at h
  have h4 := h.tail.tail.tail.tail
  have h5 := h4.tail
  have h6 := h5.tail
  obtain ⟨a4, s4, hv4, _⟩ := laid_sentinel (P := Tryz.prog) (g := 3) (ti := 148) h4 (by kernel_rfl) (by kernel_rfl) Tryz.underlying148 row_named Tryz.underlying217 Tryz.underlying219 rfl rfl Tryz.underlying9 (by kernel_rfl) (by kernel_rfl)
  obtain ⟨a5, s5, hv5, _⟩ := laid_sentinel (P := Tryz.prog) (g := 2) (ti := 148) h5 (by kernel_rfl) (by kernel_rfl) Tryz.underlying148 row_named Tryz.underlying217 Tryz.underlying219 rfl rfl Tryz.underlying9 (by kernel_rfl) (by kernel_rfl)
  have c5 := World.var?_cell (g := 2) (by kernel_rfl) hv5 0
  have c4 := World.var?_cell (g := 3) (by kernel_rfl) hv4 0
  refine ⟨?_, ⟨_, _, c5⟩, ⟨_, _, c4⟩, cell_of_shapedOpen_int (t := 3) (zero := #[.int .i64 0]) hsh (of_decide_eq_true (by kernel_rfl)) (by kernel_rfl) rfl (by kernel_rfl) (by kernel_rfl) Tryz.underlying3⟩
  obtain ⟨ps, ⟨g', t', cs, fuel, p, q, hg', ht', hvar, hd, _, _⟩, _⟩ := h6
  have hg : Tryz.prog.globalNamed "pipeline/lexer.operators" = some 0 := by kernel_rfl
  obtain rfl := Option.some.inj (hg.symm.trans hg')
  have hty : (Tryz.prog.globals[0]?).map (·.type) = some 122 := by kernel_rfl
  obtain rfl := Option.some.inj (hty.symm.trans ht')
  unfold TabO
  rw [hvar]
  congr 1
  exact Array.toList_inj.1 (ops_of_trod hd)
end Go.Proofs.YtjehhldboopocaaGreatDoor.Lx
namespace Go.Proofs.YtjehhldboopocaaGreatDoor.Lx
open Go.RowKit Go.Lib Go.ChangeShapes
set_option linter.unusedVariables false
def TabX (w : World) : Prop := TabL w ∧ Go.Proofs.YtjehhldboopocaaGreatDoor.TabP w
theorem TabX.below {w w' : World} (h : TabX w) (hb : Below w.heap.size w w') : TabX w' := ⟨h.1.below hb, Go.Proofs.YtjehhldboopocaaGreatDoor.tabP_below h.2 hb⟩
set_option maxRecDepth 100000 in
theorem tabX_of {W : World} (h : laidMetH Tryz.prog laid9 W) (hsh : W.ShapedOpen Tryz.prog) : TabX W := by
  refine ⟨tab9_of h hsh, ?_⟩
  rw [MakeChecks.laidMetH_plain _ _ _ (by kernel_rfl)] at h
  exact tabIs_of_head (k := .u64) (zs := Lib.pow10Tab) (P := Tryz.prog) (g := 4) (t := 210) (e := 166) (n := 20) (by kernel_rfl) (by kernel_rfl) Tryz.underlying210 Tryz.underlying166 (by kernel_rfl) (by kernel_rfl) h.tail.tail
theorem awakeX (w : World) (h : TabX w) : Calls Tryz.prog 10 #[] w fun e w' => e = .returned (.bool true) ∧ Below w.heap.size w w' := awake_any w h.1 h.2
/-- Parse: an error, or an expression of all tokens. -/
theorem parse_cases (s : ByteArray) :
    (∃ (p : Int) (er : Nat), (((er : Int) != 0) = true ∧ ((er : Int) == 0) = false) ∧ ∀ w, TabL w → Calls Tryz.prog 11 #[.string s] w fun e w' => e = .returned (.tuple #[.agg zeroC.toArray, .int .i64 p, .int .i64 (er : Nat)]) ∧ Below w.heap.size w w') ∨
    (∃ (T : List Tk) (x : Xp), s.size ≤ 65536 ∧ lexF s.data.toList 0 0 false = .ok T ∧ parseP (T.map Tk.tm) = .ok x T.length ∧ validX x = 0 ∧ AllSm x ∧
      ∀ w, TabL w → Calls Tryz.prog 11 #[.string s] w fun e w' => (∃ C m, e = .returned (.tuple #[.agg (List.toArray C), .int .i64 0, .int .i64 0]) ∧ OkE x w' C m) ∧ Below w.heap.size w w') := by
  have ne : ∀ er : Nat, er ≠ 0 → ((er : Int) != 0) = true ∧ ((er : Int) == 0) = false := fun er h => by
    have e0 : ((er : Int) == 0) = false := by rw [beq_eq_false_iff_ne]; omega
    exact ⟨by rw [bne, e0]; rfl, e0⟩
  rcases parse_all s with ⟨p, er, h1, _, h3⟩ | ⟨T, hs, hTl, hl, h4⟩
  · exact .inl ⟨p, er, h1, h3⟩
  · have hat := parseP_at (T.map Tk.tm)
    cases hr : parseP (T.map Tk.tm) with
    | out => exact absurd hr (parseP_ne _)
    | err a er =>
      rw [hr] at hat
      have he : er = 4 ∨ er = 5 := hat.1
      refine .inl ⟨posT s (T.map Tk.tm) a, er, ne er (by omega), fun w hT => (h4 w hT).mono fun e w' h => ?_⟩
      obtain ⟨hb, h⟩ := h
      rw [hr] at h
      exact ⟨h, hb⟩
    | ok x a =>
      rw [hr] at hat
      have ha : a ≤ T.length := by have h : a ≤ (T.map Tk.tm).length := hat; rw [List.length_map] at h; exact h
      by_cases hv : validX x = 0
      · by_cases hlt : a < T.length
        · refine .inl ⟨posT s (T.map Tk.tm) a, 5, ne 5 (by decide), fun w hT => (h4 w hT).mono fun e w' h => ?_⟩
          obtain ⟨hb, h⟩ := h
          rw [hr] at h
          simp only [hv, List.length_map, if_pos hlt, ne_eq, not_true_eq_false, if_false] at h
          exact ⟨h, hb⟩
        · obtain rfl : a = T.length := by omega
          have hsm : AllSm x := by
            have hz := lexF_size hl
            have hlb := lenB s
            have := pG_sm litsP (fun i k t ht => tsOf_short (toks := T.map Tk.tm) (fun t ht => by
              obtain ⟨k, hk, rfl⟩ := List.mem_map.1 ht
              have := hz.2 k hk
              show k.text.length ≤ _
              omega) i k t ht) (Classical.choose (fuel_any (T.map Tk.tm))) .cond 0 trivial
            rw [show pG litsP (tsOf (T.map Tk.tm)) (Classical.choose (fuel_any (T.map Tk.tm))) .cond 0 = .ok x T.length from hr] at this
            exact this
          refine .inr ⟨T, x, hs, hl, hr, hv, hsm, fun w hT => (h4 w hT).mono fun e w' h => ?_⟩
          obtain ⟨hb, h⟩ := h
          rw [hr] at h
          simp only [hv, List.length_map, Nat.lt_irrefl, if_false, ne_eq, not_true_eq_false] at h
          obtain ⟨C, m, e1, h1⟩ := h
          exact ⟨⟨C, m, e1, stD_below h1⟩, hb⟩
      · refine .inl ⟨posT s (T.map Tk.tm) 0, validX x, ne _ hv, fun w hT => (h4 w hT).mono fun e w' h => ?_⟩
        obtain ⟨hb, h⟩ := h
        rw [hr] at h
        simp only [ne_eq, hv, not_false_eq_true, if_true] at h
        exact ⟨h, hb⟩
end Go.Proofs.YtjehhldboopocaaGreatDoor.Lx
