/- Contracts of functions of the program, and what they are made of (parser; Pk23). -/
import Derived.Test.YtjehhldboopocaaGreatDoorPk10
import Derived.Test.YtjehhldboopocaaGreatDoorPk22
namespace Go.Proofs.YtjehhldboopocaaGreatDoor.Lx
open Go.RowKit Go.Lib
/-- Whether a value is the zero value. -/
def zeroB (v : Vl) : Bool := decide (v.kind = 0) && decide (Go.Proofs.YtjehhldboopocaaGreatDoor.errV 16 v = 0)
def wellB (k : Int) (v : Vl) (n : List UInt8) (a : Nat) (ks : List (List UInt8)) : Bool :=
  decide (1 ≤ k) && decide (k ≤ 10) && (decide (k = 1) || zeroB v) && nameOk k n && argsOk k a && keysOk k a ks

set_option maxHeartbeats 1000000 in
set_option maxRecDepth 100000 in
theorem isZero_any (m : Nat) (k : Int) (t : Bool) (i : Int) (s : ByteArray) (av kv : Option Addr) (c kc : Nat) (l : List Vl) (ks : List (List UInt8)) (w : World)
    (hV : IsV m w (.agg #[.int .i64 k, .bool t, .int .i64 i, .string s, .slice av l.length c, .slice kv ks.length kc]) (.mk k t i s l ks)) :
    Calls Tryz.prog 94 #[.agg #[.int .i64 k, .bool t, .int .i64 i, .string s, .slice av l.length c, .slice kv ks.length kc]] w fun e w' => e = .returned (.bool (zeroB (.mk k t i s l ks))) ∧ Below w.heap.size w w' := by
  have B0 := Lib.hid ((Below.refl w.heap.size w).alloc (Nat.le_refl _) (.cells #[.int .i64 k, .bool t, .int .i64 i, .string s, .slice av l.length c, .slice kv ks.length kc] 26))
  have X := Lib.hid (validV_any m _ _ _ (hV.below B0.out))
  obtain ⟨z, hz⟩ : ∃ z, z = Go.Proofs.YtjehhldboopocaaGreatDoor.errV 16 (.mk k t i s l ks) := ⟨_, rfl⟩
  have E : zeroB (.mk k t i s l ks) = (decide (k = 0) && decide (z = 0)) := by rw [hz]; rfl
  rw [← hz] at X
  obtain ⟨r, hr⟩ : ∃ r, r = zeroB (.mk k t i s l ks) := ⟨_, rfl⟩
  rw [← hr] at E ⊢
  clear hz hr hV
  by_cases hk : k = 0
  · subst hk
    by_cases h0 : z = 0
    · have E1 := Lib.hid (show r = true by rw [E, h0]; rfl)
      subst h0
      clear E
      go_enter Tryz.func94, Tryz.ntmps94
      go_wp2_with fail
      go_fit X.out
      rintro e w1 ⟨rfl, hb⟩
      have HB := Lib.hid (B0.out.trans (hb.mono (by simp)))
      clear hb
      go_wp2_with fail
      go_ret
      exact ⟨by rw [E1.out]; simp, HB.out⟩
    · have E1 := Lib.hid (show r = false by rw [E, decide_eq_false h0]; rfl)
      have g : ((z : Int) == 0) = false := by rw [beq_eq_false_iff_ne]; omega
      clear E h0
      go_enter Tryz.func94, Tryz.ntmps94
      go_wp2_with fail
      go_fit X.out
      rintro e w1 ⟨rfl, hb⟩
      have HB := Lib.hid (B0.out.trans (hb.mono (by simp)))
      clear hb
      go_wp2_with fail
      go_ret
      exact ⟨by rw [E1.out]; simp, HB.out⟩
  · have E1 := Lib.hid (show r = false by rw [E, decide_eq_false hk]; rfl)
    have g : (k == 0) = false := by rw [beq_eq_false_iff_ne]; omega
    clear E hk
    go_enter Tryz.func94, Tryz.ntmps94
    go_wp2_with fail
    go_ret
    exact ⟨by rw [E1.out]; simp, B0.out⟩

set_option maxHeartbeats 4000000 in
set_option maxRecDepth 100000 in
theorem wellFormed_any (m : Nat) (C : List Value) (x : Xp) (w : World) (hV : IsE m w C x) (hn : x.nm.length ≤ 1099511627776) (hT : TabL w) :
    Calls Tryz.prog 57 #[.agg C.toArray] w fun e w' => e = .returned (.bool (wellB x.kd x.vl x.nm x.ar.length x.ky)) ∧ Below w.heap.size w w' := by
  obtain ⟨k, nm, vk, vt, vi, vs, vl, vks, vav, vc, vkv, vkc, l, ks, av, c, kv, kc, rfl, rfl, ⟨mv, hv⟩, g1, g2, g3, g4, g5, hs, hl⟩ := id hV
  clear hV
  dsimp only [Ex.kd, Ex.vl, Ex.nm, Ex.ar, Ex.ky] at hn ⊢
  have A0 := Lib.hid (fun (w' : World) (hb : Below w.heap.size w w') => isZero_any mv vk vt vi vs vav vkv vc vkc vl vks w' (hv.below hb))
  have A1 := Lib.hid (fun (w' : World) (hb : Below w.heap.size w w') => hasName_any k nm vk vt vi vs vav vkv av kv vl.length vc vks.length vkc l.length c ks.length kc w' hn (hT.below hb))
  have A2 := Lib.hid (fun (w' : World) => hasArgs_any k ⟨nm.toArray⟩ vk vt vi vs vav vkv av kv vl.length vc vks.length vkc l.length c ks.length kc w')
  have A3 := Lib.hid (fun (w' : World) (hb : Below w.heap.size w w') => hasKeys_any k ⟨nm.toArray⟩ vk vt vi vs vav vkv av kv vl.length vc vks.length vkc l.length c kc ks (by omega) w' (hs.below hb))
  obtain ⟨z0, h0⟩ : ∃ z, z = zeroB (.mk vk vt vi vs vl vks) := ⟨_, rfl⟩
  obtain ⟨z1, h1⟩ : ∃ z, z = nameOk k nm := ⟨_, rfl⟩
  obtain ⟨z2, h2⟩ : ∃ z, z = argsOk k l.length := ⟨_, rfl⟩
  obtain ⟨z3, h3⟩ : ∃ z, z = keysOk k l.length ks := ⟨_, rfl⟩
  have E : wellB k (.mk vk vt vi vs vl vks) nm l.length ks = (decide (1 ≤ k) && decide (k ≤ 10) && (decide (k = 1) || z0) && z1 && z2 && z3) := by rw [h0, h1, h2, h3]; rfl
  rw [← h0] at A0
  rw [← h1] at A1
  rw [← h2] at A2
  rw [← h3] at A3
  obtain ⟨r, hr⟩ : ∃ r, r = wellB k (.mk vk vt vi vs vl vks) nm l.length ks := ⟨_, rfl⟩
  rw [← hr] at E ⊢
  obtain ⟨nx, hnx⟩ : ∃ nx : ByteArray, nx = ⟨nm.toArray⟩ := ⟨_, rfl⟩
  rw [← hnx] at A1 A2 A3 ⊢
  have B0 := Lib.hid ((Below.refl w.heap.size w).alloc (Nat.le_refl _) (.cells #[.int .i64 k, .string nx, .int .i64 vk, .bool vt, .int .i64 vi, .string vs, .slice vav vl.length vc, .slice vkv vks.length vkc, .slice av l.length c, .slice kv ks.length kc] 29))
  have C0 := CellsAt.new w 29 #[.int .i64 k, .string nx, .int .i64 vk, .bool vt, .int .i64 vi, .string vs, .slice vav vl.length vc, .slice vkv vks.length vkc, .slice av l.length c, .slice kv ks.length kc]
  obtain ⟨W, hW⟩ : ∃ W, W = w.alloc (.cells #[.int .i64 k, .string nx, .int .i64 vk, .bool vt, .int .i64 vi, .string vs, .slice vav vl.length vc, .slice vkv vks.length vkc, .slice av l.length c, .slice kv ks.length kc] 29) := ⟨_, rfl⟩
  clear h0 h1 h2 h3 hr hnx hv hs hl g1 g2 g3 g4 g5 hn hT
  by_cases k1 : 1 ≤ k
  · by_cases k2 : k ≤ 10
    · rw [decide_eq_true k1, decide_eq_true k2, Bool.true_and, Bool.true_and] at E
      by_cases hk1 : k = 1
      · subst hk1
        clear A0
        cases z1
        · have E1 := Lib.hid (show r = false by rw [E]; cases z2 <;> cases z3 <;> simp)
          clear E hW
          go_enter Tryz.func57, Tryz.ntmps57
          go_wp2_with fail
          go_fit (A1.out _ B0.out)
          rintro e w1 ⟨rfl, hb1⟩
          have HB1 := Lib.hid (B0.out.trans (hb1.mono (by simp)))
          have d1_0 := (hb1.cell (p := ⟨w.heap.size, 0, none⟩) (by simp)).trans (C0.cell (k := 0) (u := .int .i64 1) rfl)
          have d1_1 := (hb1.cell (p := ⟨w.heap.size, 1, none⟩) (by simp)).trans (C0.cell (k := 1) (u := .string nx) rfl)
          have d1_2 := (hb1.cell (p := ⟨w.heap.size, 2, none⟩) (by simp)).trans (C0.cell (k := 2) (u := .int .i64 vk) rfl)
          have d1_3 := (hb1.cell (p := ⟨w.heap.size, 3, none⟩) (by simp)).trans (C0.cell (k := 3) (u := .bool vt) rfl)
          have d1_4 := (hb1.cell (p := ⟨w.heap.size, 4, none⟩) (by simp)).trans (C0.cell (k := 4) (u := .int .i64 vi) rfl)
          have d1_5 := (hb1.cell (p := ⟨w.heap.size, 5, none⟩) (by simp)).trans (C0.cell (k := 5) (u := .string vs) rfl)
          have d1_6 := (hb1.cell (p := ⟨w.heap.size, 6, none⟩) (by simp)).trans (C0.cell (k := 6) (u := .slice vav vl.length vc) rfl)
          have d1_7 := (hb1.cell (p := ⟨w.heap.size, 7, none⟩) (by simp)).trans (C0.cell (k := 7) (u := .slice vkv vks.length vkc) rfl)
          have d1_8 := (hb1.cell (p := ⟨w.heap.size, 8, none⟩) (by simp)).trans (C0.cell (k := 8) (u := .slice av l.length c) rfl)
          have d1_9 := (hb1.cell (p := ⟨w.heap.size, 9, none⟩) (by simp)).trans (C0.cell (k := 9) (u := .slice kv ks.length kc) rfl)
          clear hb1
          go_wp2_with fail
          go_ret
          exact ⟨by rw [E1.out]; simp, HB1.out⟩
        · cases z2
          · have E1 := Lib.hid (show r = false by rw [E]; cases z3 <;> simp)
            clear E hW
            go_enter Tryz.func57, Tryz.ntmps57
            go_wp2_with fail
            go_fit (A1.out _ B0.out)
            rintro e w1 ⟨rfl, hb1⟩
            have HB1 := Lib.hid (B0.out.trans (hb1.mono (by simp)))
            have d1_0 := (hb1.cell (p := ⟨w.heap.size, 0, none⟩) (by simp)).trans (C0.cell (k := 0) (u := .int .i64 1) rfl)
            have d1_1 := (hb1.cell (p := ⟨w.heap.size, 1, none⟩) (by simp)).trans (C0.cell (k := 1) (u := .string nx) rfl)
            have d1_2 := (hb1.cell (p := ⟨w.heap.size, 2, none⟩) (by simp)).trans (C0.cell (k := 2) (u := .int .i64 vk) rfl)
            have d1_3 := (hb1.cell (p := ⟨w.heap.size, 3, none⟩) (by simp)).trans (C0.cell (k := 3) (u := .bool vt) rfl)
            have d1_4 := (hb1.cell (p := ⟨w.heap.size, 4, none⟩) (by simp)).trans (C0.cell (k := 4) (u := .int .i64 vi) rfl)
            have d1_5 := (hb1.cell (p := ⟨w.heap.size, 5, none⟩) (by simp)).trans (C0.cell (k := 5) (u := .string vs) rfl)
            have d1_6 := (hb1.cell (p := ⟨w.heap.size, 6, none⟩) (by simp)).trans (C0.cell (k := 6) (u := .slice vav vl.length vc) rfl)
            have d1_7 := (hb1.cell (p := ⟨w.heap.size, 7, none⟩) (by simp)).trans (C0.cell (k := 7) (u := .slice vkv vks.length vkc) rfl)
            have d1_8 := (hb1.cell (p := ⟨w.heap.size, 8, none⟩) (by simp)).trans (C0.cell (k := 8) (u := .slice av l.length c) rfl)
            have d1_9 := (hb1.cell (p := ⟨w.heap.size, 9, none⟩) (by simp)).trans (C0.cell (k := 9) (u := .slice kv ks.length kc) rfl)
            clear hb1
            go_wp2_with fail
            go_fit (A2.out _)
            rintro e w2 ⟨rfl, hb2⟩
            have HB2 := Lib.hid (HB1.out.trans (hb2.mono HB1.out.size))
            have d2_0 := (hb2.cell (p := ⟨w.heap.size, 0, none⟩) (by have := HB1.out.size; have := d1_0; exact cell_ltX this)).trans (d1_0)
            have d2_1 := (hb2.cell (p := ⟨w.heap.size, 1, none⟩) (by have := HB1.out.size; have := d1_0; exact cell_ltX this)).trans (d1_1)
            have d2_2 := (hb2.cell (p := ⟨w.heap.size, 2, none⟩) (by have := HB1.out.size; have := d1_0; exact cell_ltX this)).trans (d1_2)
            have d2_3 := (hb2.cell (p := ⟨w.heap.size, 3, none⟩) (by have := HB1.out.size; have := d1_0; exact cell_ltX this)).trans (d1_3)
            have d2_4 := (hb2.cell (p := ⟨w.heap.size, 4, none⟩) (by have := HB1.out.size; have := d1_0; exact cell_ltX this)).trans (d1_4)
            have d2_5 := (hb2.cell (p := ⟨w.heap.size, 5, none⟩) (by have := HB1.out.size; have := d1_0; exact cell_ltX this)).trans (d1_5)
            have d2_6 := (hb2.cell (p := ⟨w.heap.size, 6, none⟩) (by have := HB1.out.size; have := d1_0; exact cell_ltX this)).trans (d1_6)
            have d2_7 := (hb2.cell (p := ⟨w.heap.size, 7, none⟩) (by have := HB1.out.size; have := d1_0; exact cell_ltX this)).trans (d1_7)
            have d2_8 := (hb2.cell (p := ⟨w.heap.size, 8, none⟩) (by have := HB1.out.size; have := d1_0; exact cell_ltX this)).trans (d1_8)
            have d2_9 := (hb2.cell (p := ⟨w.heap.size, 9, none⟩) (by have := HB1.out.size; have := d1_0; exact cell_ltX this)).trans (d1_9)
            clear d1_0 d1_1 d1_2 d1_3 d1_4 d1_5 d1_6 d1_7 d1_8 d1_9
            clear hb2
            go_wp2_with fail
            go_ret
            exact ⟨by rw [E1.out]; simp, HB2.out⟩
          · have E1 := Lib.hid (show r = z3 by rw [E]; simp)
            clear E hW
            go_enter Tryz.func57, Tryz.ntmps57
            go_wp2_with fail
            go_fit (A1.out _ B0.out)
            rintro e w1 ⟨rfl, hb1⟩
            have HB1 := Lib.hid (B0.out.trans (hb1.mono (by simp)))
            have d1_0 := (hb1.cell (p := ⟨w.heap.size, 0, none⟩) (by simp)).trans (C0.cell (k := 0) (u := .int .i64 1) rfl)
            have d1_1 := (hb1.cell (p := ⟨w.heap.size, 1, none⟩) (by simp)).trans (C0.cell (k := 1) (u := .string nx) rfl)
            have d1_2 := (hb1.cell (p := ⟨w.heap.size, 2, none⟩) (by simp)).trans (C0.cell (k := 2) (u := .int .i64 vk) rfl)
            have d1_3 := (hb1.cell (p := ⟨w.heap.size, 3, none⟩) (by simp)).trans (C0.cell (k := 3) (u := .bool vt) rfl)
            have d1_4 := (hb1.cell (p := ⟨w.heap.size, 4, none⟩) (by simp)).trans (C0.cell (k := 4) (u := .int .i64 vi) rfl)
            have d1_5 := (hb1.cell (p := ⟨w.heap.size, 5, none⟩) (by simp)).trans (C0.cell (k := 5) (u := .string vs) rfl)
            have d1_6 := (hb1.cell (p := ⟨w.heap.size, 6, none⟩) (by simp)).trans (C0.cell (k := 6) (u := .slice vav vl.length vc) rfl)
            have d1_7 := (hb1.cell (p := ⟨w.heap.size, 7, none⟩) (by simp)).trans (C0.cell (k := 7) (u := .slice vkv vks.length vkc) rfl)
            have d1_8 := (hb1.cell (p := ⟨w.heap.size, 8, none⟩) (by simp)).trans (C0.cell (k := 8) (u := .slice av l.length c) rfl)
            have d1_9 := (hb1.cell (p := ⟨w.heap.size, 9, none⟩) (by simp)).trans (C0.cell (k := 9) (u := .slice kv ks.length kc) rfl)
            clear hb1
            go_wp2_with fail
            go_fit (A2.out _)
            rintro e w2 ⟨rfl, hb2⟩
            have HB2 := Lib.hid (HB1.out.trans (hb2.mono HB1.out.size))
            have d2_0 := (hb2.cell (p := ⟨w.heap.size, 0, none⟩) (by have := HB1.out.size; have := d1_0; exact cell_ltX this)).trans (d1_0)
            have d2_1 := (hb2.cell (p := ⟨w.heap.size, 1, none⟩) (by have := HB1.out.size; have := d1_0; exact cell_ltX this)).trans (d1_1)
            have d2_2 := (hb2.cell (p := ⟨w.heap.size, 2, none⟩) (by have := HB1.out.size; have := d1_0; exact cell_ltX this)).trans (d1_2)
            have d2_3 := (hb2.cell (p := ⟨w.heap.size, 3, none⟩) (by have := HB1.out.size; have := d1_0; exact cell_ltX this)).trans (d1_3)
            have d2_4 := (hb2.cell (p := ⟨w.heap.size, 4, none⟩) (by have := HB1.out.size; have := d1_0; exact cell_ltX this)).trans (d1_4)
            have d2_5 := (hb2.cell (p := ⟨w.heap.size, 5, none⟩) (by have := HB1.out.size; have := d1_0; exact cell_ltX this)).trans (d1_5)
            have d2_6 := (hb2.cell (p := ⟨w.heap.size, 6, none⟩) (by have := HB1.out.size; have := d1_0; exact cell_ltX this)).trans (d1_6)
            have d2_7 := (hb2.cell (p := ⟨w.heap.size, 7, none⟩) (by have := HB1.out.size; have := d1_0; exact cell_ltX this)).trans (d1_7)
            have d2_8 := (hb2.cell (p := ⟨w.heap.size, 8, none⟩) (by have := HB1.out.size; have := d1_0; exact cell_ltX this)).trans (d1_8)
            have d2_9 := (hb2.cell (p := ⟨w.heap.size, 9, none⟩) (by have := HB1.out.size; have := d1_0; exact cell_ltX this)).trans (d1_9)
            clear d1_0 d1_1 d1_2 d1_3 d1_4 d1_5 d1_6 d1_7 d1_8 d1_9
            clear hb2
            go_wp2_with fail
            go_fit (A3.out _ HB2.out)
            rintro e w3 ⟨rfl, hb3⟩
            have HB3 := Lib.hid (HB2.out.trans (hb3.mono HB2.out.size))
            have d3_0 := (hb3.cell (p := ⟨w.heap.size, 0, none⟩) (by have := HB2.out.size; have := d2_0; exact cell_ltX this)).trans (d2_0)
            have d3_1 := (hb3.cell (p := ⟨w.heap.size, 1, none⟩) (by have := HB2.out.size; have := d2_0; exact cell_ltX this)).trans (d2_1)
            have d3_2 := (hb3.cell (p := ⟨w.heap.size, 2, none⟩) (by have := HB2.out.size; have := d2_0; exact cell_ltX this)).trans (d2_2)
            have d3_3 := (hb3.cell (p := ⟨w.heap.size, 3, none⟩) (by have := HB2.out.size; have := d2_0; exact cell_ltX this)).trans (d2_3)
            have d3_4 := (hb3.cell (p := ⟨w.heap.size, 4, none⟩) (by have := HB2.out.size; have := d2_0; exact cell_ltX this)).trans (d2_4)
            have d3_5 := (hb3.cell (p := ⟨w.heap.size, 5, none⟩) (by have := HB2.out.size; have := d2_0; exact cell_ltX this)).trans (d2_5)
            have d3_6 := (hb3.cell (p := ⟨w.heap.size, 6, none⟩) (by have := HB2.out.size; have := d2_0; exact cell_ltX this)).trans (d2_6)
            have d3_7 := (hb3.cell (p := ⟨w.heap.size, 7, none⟩) (by have := HB2.out.size; have := d2_0; exact cell_ltX this)).trans (d2_7)
            have d3_8 := (hb3.cell (p := ⟨w.heap.size, 8, none⟩) (by have := HB2.out.size; have := d2_0; exact cell_ltX this)).trans (d2_8)
            have d3_9 := (hb3.cell (p := ⟨w.heap.size, 9, none⟩) (by have := HB2.out.size; have := d2_0; exact cell_ltX this)).trans (d2_9)
            clear d2_0 d2_1 d2_2 d2_3 d2_4 d2_5 d2_6 d2_7 d2_8 d2_9
            clear hb3
            go_wp2_with fail
            go_ret
            exact ⟨by rw [E1.out]; simp, HB3.out⟩
      · have g1 : (k == 1) = false := by rw [beq_eq_false_iff_ne]; exact hk1
        rw [decide_eq_false hk1, Bool.false_or] at E
        clear hk1
        cases z0
        · have E1 := Lib.hid (show r = false by rw [E]; simp)
          clear E hW
          go_enter Tryz.func57, Tryz.ntmps57
          go_wp2_with fail
          go_fit (A0.out _ B0.out)
          rintro e w1 ⟨rfl, hb1⟩
          have HB1 := Lib.hid (B0.out.trans (hb1.mono (by simp)))
          have d1_0 := (hb1.cell (p := ⟨w.heap.size, 0, none⟩) (by simp)).trans (C0.cell (k := 0) (u := .int .i64 k) rfl)
          have d1_1 := (hb1.cell (p := ⟨w.heap.size, 1, none⟩) (by simp)).trans (C0.cell (k := 1) (u := .string nx) rfl)
          have d1_2 := (hb1.cell (p := ⟨w.heap.size, 2, none⟩) (by simp)).trans (C0.cell (k := 2) (u := .int .i64 vk) rfl)
          have d1_3 := (hb1.cell (p := ⟨w.heap.size, 3, none⟩) (by simp)).trans (C0.cell (k := 3) (u := .bool vt) rfl)
          have d1_4 := (hb1.cell (p := ⟨w.heap.size, 4, none⟩) (by simp)).trans (C0.cell (k := 4) (u := .int .i64 vi) rfl)
          have d1_5 := (hb1.cell (p := ⟨w.heap.size, 5, none⟩) (by simp)).trans (C0.cell (k := 5) (u := .string vs) rfl)
          have d1_6 := (hb1.cell (p := ⟨w.heap.size, 6, none⟩) (by simp)).trans (C0.cell (k := 6) (u := .slice vav vl.length vc) rfl)
          have d1_7 := (hb1.cell (p := ⟨w.heap.size, 7, none⟩) (by simp)).trans (C0.cell (k := 7) (u := .slice vkv vks.length vkc) rfl)
          have d1_8 := (hb1.cell (p := ⟨w.heap.size, 8, none⟩) (by simp)).trans (C0.cell (k := 8) (u := .slice av l.length c) rfl)
          have d1_9 := (hb1.cell (p := ⟨w.heap.size, 9, none⟩) (by simp)).trans (C0.cell (k := 9) (u := .slice kv ks.length kc) rfl)
          clear hb1
          go_wp2_with fail
          go_ret
          exact ⟨by rw [E1.out]; simp, HB1.out⟩
        · cases z1
          · have E1 := Lib.hid (show r = false by rw [E]; cases z2 <;> cases z3 <;> simp)
            clear E hW
            go_enter Tryz.func57, Tryz.ntmps57
            go_wp2_with fail
            go_fit (A0.out _ B0.out)
            rintro e w1 ⟨rfl, hb1⟩
            have HB1 := Lib.hid (B0.out.trans (hb1.mono (by simp)))
            have d1_0 := (hb1.cell (p := ⟨w.heap.size, 0, none⟩) (by simp)).trans (C0.cell (k := 0) (u := .int .i64 k) rfl)
            have d1_1 := (hb1.cell (p := ⟨w.heap.size, 1, none⟩) (by simp)).trans (C0.cell (k := 1) (u := .string nx) rfl)
            have d1_2 := (hb1.cell (p := ⟨w.heap.size, 2, none⟩) (by simp)).trans (C0.cell (k := 2) (u := .int .i64 vk) rfl)
            have d1_3 := (hb1.cell (p := ⟨w.heap.size, 3, none⟩) (by simp)).trans (C0.cell (k := 3) (u := .bool vt) rfl)
            have d1_4 := (hb1.cell (p := ⟨w.heap.size, 4, none⟩) (by simp)).trans (C0.cell (k := 4) (u := .int .i64 vi) rfl)
            have d1_5 := (hb1.cell (p := ⟨w.heap.size, 5, none⟩) (by simp)).trans (C0.cell (k := 5) (u := .string vs) rfl)
            have d1_6 := (hb1.cell (p := ⟨w.heap.size, 6, none⟩) (by simp)).trans (C0.cell (k := 6) (u := .slice vav vl.length vc) rfl)
            have d1_7 := (hb1.cell (p := ⟨w.heap.size, 7, none⟩) (by simp)).trans (C0.cell (k := 7) (u := .slice vkv vks.length vkc) rfl)
            have d1_8 := (hb1.cell (p := ⟨w.heap.size, 8, none⟩) (by simp)).trans (C0.cell (k := 8) (u := .slice av l.length c) rfl)
            have d1_9 := (hb1.cell (p := ⟨w.heap.size, 9, none⟩) (by simp)).trans (C0.cell (k := 9) (u := .slice kv ks.length kc) rfl)
            clear hb1
            go_wp2_with fail
            go_fit (A1.out _ HB1.out)
            rintro e w2 ⟨rfl, hb2⟩
            have HB2 := Lib.hid (HB1.out.trans (hb2.mono HB1.out.size))
            have d2_0 := (hb2.cell (p := ⟨w.heap.size, 0, none⟩) (by have := HB1.out.size; have := d1_0; exact cell_ltX this)).trans (d1_0)
            have d2_1 := (hb2.cell (p := ⟨w.heap.size, 1, none⟩) (by have := HB1.out.size; have := d1_0; exact cell_ltX this)).trans (d1_1)
            have d2_2 := (hb2.cell (p := ⟨w.heap.size, 2, none⟩) (by have := HB1.out.size; have := d1_0; exact cell_ltX this)).trans (d1_2)
            have d2_3 := (hb2.cell (p := ⟨w.heap.size, 3, none⟩) (by have := HB1.out.size; have := d1_0; exact cell_ltX this)).trans (d1_3)
            have d2_4 := (hb2.cell (p := ⟨w.heap.size, 4, none⟩) (by have := HB1.out.size; have := d1_0; exact cell_ltX this)).trans (d1_4)
            have d2_5 := (hb2.cell (p := ⟨w.heap.size, 5, none⟩) (by have := HB1.out.size; have := d1_0; exact cell_ltX this)).trans (d1_5)
            have d2_6 := (hb2.cell (p := ⟨w.heap.size, 6, none⟩) (by have := HB1.out.size; have := d1_0; exact cell_ltX this)).trans (d1_6)
            have d2_7 := (hb2.cell (p := ⟨w.heap.size, 7, none⟩) (by have := HB1.out.size; have := d1_0; exact cell_ltX this)).trans (d1_7)
            have d2_8 := (hb2.cell (p := ⟨w.heap.size, 8, none⟩) (by have := HB1.out.size; have := d1_0; exact cell_ltX this)).trans (d1_8)
            have d2_9 := (hb2.cell (p := ⟨w.heap.size, 9, none⟩) (by have := HB1.out.size; have := d1_0; exact cell_ltX this)).trans (d1_9)
            clear d1_0 d1_1 d1_2 d1_3 d1_4 d1_5 d1_6 d1_7 d1_8 d1_9
            clear hb2
            go_wp2_with fail
            go_ret
            exact ⟨by rw [E1.out]; simp, HB2.out⟩
          · cases z2
            · have E1 := Lib.hid (show r = false by rw [E]; cases z3 <;> simp)
              clear E hW
              go_enter Tryz.func57, Tryz.ntmps57
              go_wp2_with fail
              go_fit (A0.out _ B0.out)
              rintro e w1 ⟨rfl, hb1⟩
              have HB1 := Lib.hid (B0.out.trans (hb1.mono (by simp)))
              have d1_0 := (hb1.cell (p := ⟨w.heap.size, 0, none⟩) (by simp)).trans (C0.cell (k := 0) (u := .int .i64 k) rfl)
              have d1_1 := (hb1.cell (p := ⟨w.heap.size, 1, none⟩) (by simp)).trans (C0.cell (k := 1) (u := .string nx) rfl)
              have d1_2 := (hb1.cell (p := ⟨w.heap.size, 2, none⟩) (by simp)).trans (C0.cell (k := 2) (u := .int .i64 vk) rfl)
              have d1_3 := (hb1.cell (p := ⟨w.heap.size, 3, none⟩) (by simp)).trans (C0.cell (k := 3) (u := .bool vt) rfl)
              have d1_4 := (hb1.cell (p := ⟨w.heap.size, 4, none⟩) (by simp)).trans (C0.cell (k := 4) (u := .int .i64 vi) rfl)
              have d1_5 := (hb1.cell (p := ⟨w.heap.size, 5, none⟩) (by simp)).trans (C0.cell (k := 5) (u := .string vs) rfl)
              have d1_6 := (hb1.cell (p := ⟨w.heap.size, 6, none⟩) (by simp)).trans (C0.cell (k := 6) (u := .slice vav vl.length vc) rfl)
              have d1_7 := (hb1.cell (p := ⟨w.heap.size, 7, none⟩) (by simp)).trans (C0.cell (k := 7) (u := .slice vkv vks.length vkc) rfl)
              have d1_8 := (hb1.cell (p := ⟨w.heap.size, 8, none⟩) (by simp)).trans (C0.cell (k := 8) (u := .slice av l.length c) rfl)
              have d1_9 := (hb1.cell (p := ⟨w.heap.size, 9, none⟩) (by simp)).trans (C0.cell (k := 9) (u := .slice kv ks.length kc) rfl)
              clear hb1
              go_wp2_with fail
              go_fit (A1.out _ HB1.out)
              rintro e w2 ⟨rfl, hb2⟩
              have HB2 := Lib.hid (HB1.out.trans (hb2.mono HB1.out.size))
              have d2_0 := (hb2.cell (p := ⟨w.heap.size, 0, none⟩) (by have := HB1.out.size; have := d1_0; exact cell_ltX this)).trans (d1_0)
              have d2_1 := (hb2.cell (p := ⟨w.heap.size, 1, none⟩) (by have := HB1.out.size; have := d1_0; exact cell_ltX this)).trans (d1_1)
              have d2_2 := (hb2.cell (p := ⟨w.heap.size, 2, none⟩) (by have := HB1.out.size; have := d1_0; exact cell_ltX this)).trans (d1_2)
              have d2_3 := (hb2.cell (p := ⟨w.heap.size, 3, none⟩) (by have := HB1.out.size; have := d1_0; exact cell_ltX this)).trans (d1_3)
              have d2_4 := (hb2.cell (p := ⟨w.heap.size, 4, none⟩) (by have := HB1.out.size; have := d1_0; exact cell_ltX this)).trans (d1_4)
              have d2_5 := (hb2.cell (p := ⟨w.heap.size, 5, none⟩) (by have := HB1.out.size; have := d1_0; exact cell_ltX this)).trans (d1_5)
              have d2_6 := (hb2.cell (p := ⟨w.heap.size, 6, none⟩) (by have := HB1.out.size; have := d1_0; exact cell_ltX this)).trans (d1_6)
              have d2_7 := (hb2.cell (p := ⟨w.heap.size, 7, none⟩) (by have := HB1.out.size; have := d1_0; exact cell_ltX this)).trans (d1_7)
              have d2_8 := (hb2.cell (p := ⟨w.heap.size, 8, none⟩) (by have := HB1.out.size; have := d1_0; exact cell_ltX this)).trans (d1_8)
              have d2_9 := (hb2.cell (p := ⟨w.heap.size, 9, none⟩) (by have := HB1.out.size; have := d1_0; exact cell_ltX this)).trans (d1_9)
              clear d1_0 d1_1 d1_2 d1_3 d1_4 d1_5 d1_6 d1_7 d1_8 d1_9
              clear hb2
              go_wp2_with fail
              go_fit (A2.out _)
              rintro e w3 ⟨rfl, hb3⟩
              have HB3 := Lib.hid (HB2.out.trans (hb3.mono HB2.out.size))
              have d3_0 := (hb3.cell (p := ⟨w.heap.size, 0, none⟩) (by have := HB2.out.size; have := d2_0; exact cell_ltX this)).trans (d2_0)
              have d3_1 := (hb3.cell (p := ⟨w.heap.size, 1, none⟩) (by have := HB2.out.size; have := d2_0; exact cell_ltX this)).trans (d2_1)
              have d3_2 := (hb3.cell (p := ⟨w.heap.size, 2, none⟩) (by have := HB2.out.size; have := d2_0; exact cell_ltX this)).trans (d2_2)
              have d3_3 := (hb3.cell (p := ⟨w.heap.size, 3, none⟩) (by have := HB2.out.size; have := d2_0; exact cell_ltX this)).trans (d2_3)
              have d3_4 := (hb3.cell (p := ⟨w.heap.size, 4, none⟩) (by have := HB2.out.size; have := d2_0; exact cell_ltX this)).trans (d2_4)
              have d3_5 := (hb3.cell (p := ⟨w.heap.size, 5, none⟩) (by have := HB2.out.size; have := d2_0; exact cell_ltX this)).trans (d2_5)
              have d3_6 := (hb3.cell (p := ⟨w.heap.size, 6, none⟩) (by have := HB2.out.size; have := d2_0; exact cell_ltX this)).trans (d2_6)
              have d3_7 := (hb3.cell (p := ⟨w.heap.size, 7, none⟩) (by have := HB2.out.size; have := d2_0; exact cell_ltX this)).trans (d2_7)
              have d3_8 := (hb3.cell (p := ⟨w.heap.size, 8, none⟩) (by have := HB2.out.size; have := d2_0; exact cell_ltX this)).trans (d2_8)
              have d3_9 := (hb3.cell (p := ⟨w.heap.size, 9, none⟩) (by have := HB2.out.size; have := d2_0; exact cell_ltX this)).trans (d2_9)
              clear d2_0 d2_1 d2_2 d2_3 d2_4 d2_5 d2_6 d2_7 d2_8 d2_9
              clear hb3
              go_wp2_with fail
              go_ret
              exact ⟨by rw [E1.out]; simp, HB3.out⟩
            · have E1 := Lib.hid (show r = z3 by rw [E]; simp)
              clear E hW
              go_enter Tryz.func57, Tryz.ntmps57
              go_wp2_with fail
              go_fit (A0.out _ B0.out)
              rintro e w1 ⟨rfl, hb1⟩
              have HB1 := Lib.hid (B0.out.trans (hb1.mono (by simp)))
              have d1_0 := (hb1.cell (p := ⟨w.heap.size, 0, none⟩) (by simp)).trans (C0.cell (k := 0) (u := .int .i64 k) rfl)
              have d1_1 := (hb1.cell (p := ⟨w.heap.size, 1, none⟩) (by simp)).trans (C0.cell (k := 1) (u := .string nx) rfl)
              have d1_2 := (hb1.cell (p := ⟨w.heap.size, 2, none⟩) (by simp)).trans (C0.cell (k := 2) (u := .int .i64 vk) rfl)
              have d1_3 := (hb1.cell (p := ⟨w.heap.size, 3, none⟩) (by simp)).trans (C0.cell (k := 3) (u := .bool vt) rfl)
              have d1_4 := (hb1.cell (p := ⟨w.heap.size, 4, none⟩) (by simp)).trans (C0.cell (k := 4) (u := .int .i64 vi) rfl)
              have d1_5 := (hb1.cell (p := ⟨w.heap.size, 5, none⟩) (by simp)).trans (C0.cell (k := 5) (u := .string vs) rfl)
              have d1_6 := (hb1.cell (p := ⟨w.heap.size, 6, none⟩) (by simp)).trans (C0.cell (k := 6) (u := .slice vav vl.length vc) rfl)
              have d1_7 := (hb1.cell (p := ⟨w.heap.size, 7, none⟩) (by simp)).trans (C0.cell (k := 7) (u := .slice vkv vks.length vkc) rfl)
              have d1_8 := (hb1.cell (p := ⟨w.heap.size, 8, none⟩) (by simp)).trans (C0.cell (k := 8) (u := .slice av l.length c) rfl)
              have d1_9 := (hb1.cell (p := ⟨w.heap.size, 9, none⟩) (by simp)).trans (C0.cell (k := 9) (u := .slice kv ks.length kc) rfl)
              clear hb1
              go_wp2_with fail
              go_fit (A1.out _ HB1.out)
              rintro e w2 ⟨rfl, hb2⟩
              have HB2 := Lib.hid (HB1.out.trans (hb2.mono HB1.out.size))
              have d2_0 := (hb2.cell (p := ⟨w.heap.size, 0, none⟩) (by have := HB1.out.size; have := d1_0; exact cell_ltX this)).trans (d1_0)
              have d2_1 := (hb2.cell (p := ⟨w.heap.size, 1, none⟩) (by have := HB1.out.size; have := d1_0; exact cell_ltX this)).trans (d1_1)
              have d2_2 := (hb2.cell (p := ⟨w.heap.size, 2, none⟩) (by have := HB1.out.size; have := d1_0; exact cell_ltX this)).trans (d1_2)
              have d2_3 := (hb2.cell (p := ⟨w.heap.size, 3, none⟩) (by have := HB1.out.size; have := d1_0; exact cell_ltX this)).trans (d1_3)
              have d2_4 := (hb2.cell (p := ⟨w.heap.size, 4, none⟩) (by have := HB1.out.size; have := d1_0; exact cell_ltX this)).trans (d1_4)
              have d2_5 := (hb2.cell (p := ⟨w.heap.size, 5, none⟩) (by have := HB1.out.size; have := d1_0; exact cell_ltX this)).trans (d1_5)
              have d2_6 := (hb2.cell (p := ⟨w.heap.size, 6, none⟩) (by have := HB1.out.size; have := d1_0; exact cell_ltX this)).trans (d1_6)
              have d2_7 := (hb2.cell (p := ⟨w.heap.size, 7, none⟩) (by have := HB1.out.size; have := d1_0; exact cell_ltX this)).trans (d1_7)
              have d2_8 := (hb2.cell (p := ⟨w.heap.size, 8, none⟩) (by have := HB1.out.size; have := d1_0; exact cell_ltX this)).trans (d1_8)
              have d2_9 := (hb2.cell (p := ⟨w.heap.size, 9, none⟩) (by have := HB1.out.size; have := d1_0; exact cell_ltX this)).trans (d1_9)
              clear d1_0 d1_1 d1_2 d1_3 d1_4 d1_5 d1_6 d1_7 d1_8 d1_9
              clear hb2
              go_wp2_with fail
              go_fit (A2.out _)
              rintro e w3 ⟨rfl, hb3⟩
              have HB3 := Lib.hid (HB2.out.trans (hb3.mono HB2.out.size))
              have d3_0 := (hb3.cell (p := ⟨w.heap.size, 0, none⟩) (by have := HB2.out.size; have := d2_0; exact cell_ltX this)).trans (d2_0)
              have d3_1 := (hb3.cell (p := ⟨w.heap.size, 1, none⟩) (by have := HB2.out.size; have := d2_0; exact cell_ltX this)).trans (d2_1)
              have d3_2 := (hb3.cell (p := ⟨w.heap.size, 2, none⟩) (by have := HB2.out.size; have := d2_0; exact cell_ltX this)).trans (d2_2)
              have d3_3 := (hb3.cell (p := ⟨w.heap.size, 3, none⟩) (by have := HB2.out.size; have := d2_0; exact cell_ltX this)).trans (d2_3)
              have d3_4 := (hb3.cell (p := ⟨w.heap.size, 4, none⟩) (by have := HB2.out.size; have := d2_0; exact cell_ltX this)).trans (d2_4)
              have d3_5 := (hb3.cell (p := ⟨w.heap.size, 5, none⟩) (by have := HB2.out.size; have := d2_0; exact cell_ltX this)).trans (d2_5)
              have d3_6 := (hb3.cell (p := ⟨w.heap.size, 6, none⟩) (by have := HB2.out.size; have := d2_0; exact cell_ltX this)).trans (d2_6)
              have d3_7 := (hb3.cell (p := ⟨w.heap.size, 7, none⟩) (by have := HB2.out.size; have := d2_0; exact cell_ltX this)).trans (d2_7)
              have d3_8 := (hb3.cell (p := ⟨w.heap.size, 8, none⟩) (by have := HB2.out.size; have := d2_0; exact cell_ltX this)).trans (d2_8)
              have d3_9 := (hb3.cell (p := ⟨w.heap.size, 9, none⟩) (by have := HB2.out.size; have := d2_0; exact cell_ltX this)).trans (d2_9)
              clear d2_0 d2_1 d2_2 d2_3 d2_4 d2_5 d2_6 d2_7 d2_8 d2_9
              clear hb3
              go_wp2_with fail
              go_fit (A3.out _ HB3.out)
              rintro e w4 ⟨rfl, hb4⟩
              have HB4 := Lib.hid (HB3.out.trans (hb4.mono HB3.out.size))
              have d4_0 := (hb4.cell (p := ⟨w.heap.size, 0, none⟩) (by have := HB3.out.size; have := d3_0; exact cell_ltX this)).trans (d3_0)
              have d4_1 := (hb4.cell (p := ⟨w.heap.size, 1, none⟩) (by have := HB3.out.size; have := d3_0; exact cell_ltX this)).trans (d3_1)
              have d4_2 := (hb4.cell (p := ⟨w.heap.size, 2, none⟩) (by have := HB3.out.size; have := d3_0; exact cell_ltX this)).trans (d3_2)
              have d4_3 := (hb4.cell (p := ⟨w.heap.size, 3, none⟩) (by have := HB3.out.size; have := d3_0; exact cell_ltX this)).trans (d3_3)
              have d4_4 := (hb4.cell (p := ⟨w.heap.size, 4, none⟩) (by have := HB3.out.size; have := d3_0; exact cell_ltX this)).trans (d3_4)
              have d4_5 := (hb4.cell (p := ⟨w.heap.size, 5, none⟩) (by have := HB3.out.size; have := d3_0; exact cell_ltX this)).trans (d3_5)
              have d4_6 := (hb4.cell (p := ⟨w.heap.size, 6, none⟩) (by have := HB3.out.size; have := d3_0; exact cell_ltX this)).trans (d3_6)
              have d4_7 := (hb4.cell (p := ⟨w.heap.size, 7, none⟩) (by have := HB3.out.size; have := d3_0; exact cell_ltX this)).trans (d3_7)
              have d4_8 := (hb4.cell (p := ⟨w.heap.size, 8, none⟩) (by have := HB3.out.size; have := d3_0; exact cell_ltX this)).trans (d3_8)
              have d4_9 := (hb4.cell (p := ⟨w.heap.size, 9, none⟩) (by have := HB3.out.size; have := d3_0; exact cell_ltX this)).trans (d3_9)
              clear d3_0 d3_1 d3_2 d3_3 d3_4 d3_5 d3_6 d3_7 d3_8 d3_9
              clear hb4
              go_wp2_with fail
              go_ret
              exact ⟨by rw [E1.out]; simp, HB4.out⟩
    · have E1 := Lib.hid (show r = false by rw [E, decide_eq_false k2, Bool.and_false]; rfl)
      clear E hW
      go_enter Tryz.func57, Tryz.ntmps57
      go_wp2_with fail
      go_ret
      exact ⟨by rw [E1.out]; simp, B0.out⟩
  · have E1 := Lib.hid (show r = false by rw [E, decide_eq_false k1]; rfl)
    clear E hW
    go_enter Tryz.func57, Tryz.ntmps57
    go_wp2_with fail
    go_ret
    exact ⟨by rw [E1.out]; simp, B0.out⟩
end Go.Proofs.YtjehhldboopocaaGreatDoor.Lx
