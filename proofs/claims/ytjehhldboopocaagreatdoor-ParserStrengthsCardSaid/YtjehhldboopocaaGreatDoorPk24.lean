/- Contracts of functions of the program, and what they are made of (parser; Pk24). -/
import Derived.Test.YtjehhldboopocaaGreatDoorPk12
import Derived.Test.YtjehhldboopocaaGreatDoorPk23
import Derived.Maps.Own
import Derived.Maps.OwnOps
import Derived.Maps.Views
import Derived.Maps.Keyed
import Derived.WalkMore
namespace Go.Proofs.YtjehhldboopocaaGreatDoor.Lx
open Go.RowKit Go.Lib Go.Maps
theorem law_str : Keyed Tryz.prog 9 := string_keyed Tryz.underlying9
theorem key_str (l : List UInt8) (h : l.length ≤ 140737488351232) : keyOf Tryz.prog 9 (.string ⟨l.toArray⟩) = some (.string l) :=
  (Go.WideMaps.keyOf_string_mk Tryz.underlying9 (by show l.toArray.size ≤ maxLen; unfold maxLen; simp; omega)).trans (by simp)
theorem zero_bool (w : World) : (zeroValue 4).run Tryz.prog w = .ok (.bool false) w := by kernel_rfl
/-- The map holds true at these names. -/
def SeenN (K : Nat) (w : World) (S : List (List UInt8)) : Prop := ∃ (D : DataW Unit) (cnt : Nat), cnt ≤ S.length ∧ w.ownsMap Tryz.prog 9 (plainElem Tryz.prog 4) K cnt D ∧ IsMap D ∧ ∀ l, D.atKey (.string l) (.lit (.bool false)) = .lit (.bool (decide (l ∈ S)))
theorem SeenN.new (w : World) : SeenN w.heap.size (w.alloc (.map #[] 0)) [] := ⟨.map [], 0, Nat.le_refl _, World.ownsMap_made w _ _ _, ⟨_, rfl⟩, fun _ => rfl⟩
theorem SeenN.lt {K : Nat} {w : World} {S : List (List UInt8)} (h : SeenN K w S) : K < w.heap.size := by
  obtain ⟨D, cnt, _, h2, _⟩ := h
  exact h2.lt
theorem SeenN.of_block {K : Nat} {w w' : World} {S : List (List UInt8)} (h : SeenN K w S) (e : w'.heap[K]? = w.heap[K]?) : SeenN K w' S := by
  obtain ⟨D, cnt, h1, ⟨es, clock, hb, F, hs, hD⟩, h3⟩ := h
  exact ⟨D, cnt, h1, ⟨es, clock, e.trans hb, F, hs, hD⟩, h3⟩
theorem SeenN.below {K : Nat} {w w' : World} {S : List (List UInt8)} (h : SeenN K w S) (hb : Below w.heap.size w w') : SeenN K w' S := h.of_block (hb.block K h.lt)
set_option maxRecDepth 100000 in
theorem SeenN.lookup {K : Nat} {w : World} {S : List (List UInt8)} (h : SeenN K w S) (l : List UInt8) (hl : l.length ≤ 140737488351232) :
    (Instr.lookup 113 (.map (some K)) (.string ⟨l.toArray⟩) false).run Tryz.prog w = .ok (.bool (decide (l ∈ S))) w := by
  obtain ⟨D, cnt, h1, h2, h3, h4⟩ := h
  obtain ⟨v, ps, hrun, hv⟩ := h2.lookup law_str Tryz.underlying113 (zero_bool w) (plainElem_bool Tryz.underlying4 false) (key_str l hl)
  rw [h4 l] at hv
  have e : v = .bool (decide (l ∈ S)) := by
    unfold plainElem at hv
    rw [Tryz.underlying4] at hv
    cases v <;> simp only [Option.some.injEq, Prod.mk.injEq, DataW.lit.injEq, Lit.bool.injEq, reduceCtorEq] at hv
    rw [hv.1]
  rw [e] at hrun
  exact hrun
theorem SeenN.put {K : Nat} {w : World} {S : List (List UInt8)} (h : SeenN K w S) (l : List UInt8) (hl : l.length ≤ 140737488351232) (hn : S.length < 4096) :
    ∃ w', (Instr.mapUpdate 113 (.map (some K)) (.string ⟨l.toArray⟩) (.bool true)).run Tryz.prog w = .ok () w' ∧ SeenN K w' (l :: S) ∧ w.grownBy w' (some K) := by
  obtain ⟨D, cnt, h1, h2, h3, h4⟩ := h
  obtain ⟨w', hrun, ho, hg⟩ := h2.update law_str Tryz.underlying113 (by unfold maxLen; omega) (key_str l hl) (plainElem_bool Tryz.underlying4 true)
  refine ⟨w', hrun, ⟨_, cnt + 1, by simp; omega, ho, h3.put _ _, fun x => ?_⟩, hg⟩
  by_cases e : x = l
  · subst e
    rw [atKey_put_same (k := .string x) h3 True.intro _ _]
    simp
  · rw [atKey_put_other (fun e2 => e (by injection e2)), h4 x]
    simp [e]

/-- Whether a key occurs among those before it. -/
def repS (S : List (List UInt8)) : List (List UInt8) → Bool
  | [] => false
  | x :: r => if x ∈ S then true else repS (x :: S) r
theorem repS_drop (S : List (List UInt8)) (l : List (List UInt8)) (j : Nat) (h : j < l.length) : repS S (l.drop j) = if l[j] ∈ S then true else repS (l[j] :: S) (l.drop (j + 1)) := by
  rw [List.drop_eq_getElem_cons h, repS]

set_option maxRecDepth 100000 in
set_option maxHeartbeats 1000000 in
theorem repeats_any (v : Option Addr) (c : Nat) (l : List (List UInt8)) (hlen : l.length ≤ 4000) (hsz : ∀ x, x ∈ l → x.length ≤ 140737488351232) (w : World) (hr : ReadsStr w v l) :
    Calls Tryz.prog 59 #[.slice v l.length c] w fun e w' => e = .returned (.bool (repS [] l)) ∧ Below w.heap.size w w' := by
  have HR := Lib.hid hr
  have HZ := Lib.hid hsz
  obtain ⟨r, hr'⟩ : ∃ r, r = repS [] l := ⟨_, rfl⟩
  have E := Lib.hid hr'
  rw [← hr']
  have hmm := @run_makeMap Tryz.prog
  have S0 := Lib.hid (SeenN.new w)
  have B0 := Lib.hid ((Below.refl w.heap.size w).alloc (Nat.le_refl _) (.map #[] 0))
  clear hr hr' hsz
  go_enter Tryz.func59, Tryz.ntmps59
  go_wp2_with fail
  go_loopw [9] (fun s7 wr => ∃ (j : Nat) (S : List (List UInt8)), j ≤ l.length ∧ S.length = j ∧ s7 = .int .i64 (j : Int) ∧ Hid (r = repS S (l.drop j)) ∧ Hid (SeenN w.heap.size wr S) ∧ Hid (Below w.heap.size w wr)) (fun s7 _ => l.length - (RowKit.intOf s7).toNat)
  case atStart => exact ⟨0, [], by omega, rfl, rfl, Lib.hid (by simpa using E.out), S0, B0⟩
  case round =>
    obtain ⟨j, S, hj, hSl, rfl, HE, HS, HB⟩ := hrel
    clear S0 B0 E
    have hSlt := HS.out.lt
    by_cases hlt : j < l.length
    · obtain ⟨b, off, rfl, hb, hc⟩ := (HR.out.below HB.out) j hlt
      have hjI : (j : Int) < (l.length : Int) := by omega
      have hj00 : (0 : Int) ≤ (j : Int) := by omega
      have HD := Lib.hid (repS_drop S l j hlt)
      have HGN := Lib.hid (HZ.out l[j] (List.getElem_mem hlt))
      obtain ⟨n, hn⟩ : ∃ n, n = l[j] := ⟨_, rfl⟩
      rw [← hn] at HD HGN hc
      obtain ⟨nv, hnv⟩ : ∃ nv : ByteArray, nv = ⟨n.toArray⟩ := ⟨_, rfl⟩
      rw [← hnv] at hc
      have lk := HS.out.lookup n HGN.out
      rw [← hnv] at lk
      by_cases hin : n ∈ S
      · rw [decide_eq_true hin] at lk
        have E7 := Lib.hid (show r = true by rw [HE.out, HD.out, if_pos hin])
        clear hin hn hnv
        go_wp2_with fail
        go_ret
        exact ⟨by rw [E7.out]; rfl, HB.out⟩
      · rw [decide_eq_false hin] at lk
        have E7 := Lib.hid (show r = repS (n :: S) (l.drop (j + 1)) by rw [HE.out, HD.out, if_neg hin])
        obtain ⟨w2, up, hS2, hg2⟩ := HS.out.put n HGN.out (by omega)
        rw [← hnv] at up
        have B2 := Lib.hid (HB.out.grown hg2 HB.out.size (fun k hk => by injection hk with hk; omega))
        have hS2 := Lib.hid hS2
        clear hin hn hnv hg2
        go_wp2_with fail
        refine ⟨⟨j + 1, n :: S, by omega, by simp [hSl], by go_num, E7, hS2, B2⟩, by simp [RowKit.intOf]; omega⟩
    · obtain rfl : j = l.length := by omega
      have E0 := Lib.hid (show r = false by rw [HE.out, List.drop_length]; rfl)
      have hjI : ¬ (l.length : Int) < (l.length : Int) := by omega
      go_wp2_with fail
      go_ret
      exact ⟨by rw [E0.out]; rfl, HB.out⟩
end Go.Proofs.YtjehhldboopocaaGreatDoor.Lx
namespace Go.Proofs.YtjehhldboopocaaGreatDoor.Lx
open Go.RowKit Go.Lib
/-- The error of a node at a level, without its args. -/
def nodeN (lev : Int) (z0 : Bool) (z1 n : Nat) (z2 : Bool) : Nat :=
  if 16 < lev then 13 else if z0 = false then 1 else if z1 ≠ 0 then z1 else if 1024 < n then 3 else if z2 = true then 7 else 0
def nodeE (lev : Int) (x : Xp) : Nat := nodeN lev (wellB x.kd x.vl x.nm x.ar.length x.ky) (Go.Proofs.YtjehhldboopocaaGreatDoor.errV 16 x.vl) x.ar.length (repS [] x.ky)
theorem wellB_keys {k : Int} {v : Vl} {n : List UInt8} {a : Nat} {ks : List (List UInt8)} (h : wellB k v n a ks = true) : ks.length = 0 ∨ (ks.length = a ∧ ∀ x ∈ ks, x.length ≤ 64) := by
  unfold wellB at h
  simp only [Bool.and_eq_true] at h
  have h := h.2
  unfold keysOk at h
  split at h
  · rw [Bool.and_eq_true, decide_eq_true_eq, List.all_eq_true] at h
    refine .inr ⟨h.1, fun x hx => ?_⟩
    have := h.2 x hx
    unfold keyB at this
    rw [Bool.and_eq_true, decide_eq_true_eq, decide_eq_true_eq] at this
    exact this.2
  · exact .inl (of_decide_eq_true h)

set_option maxHeartbeats 4000000 in
set_option maxRecDepth 100000 in
theorem validNode_any (m : Nat) (C : List Value) (x : Xp) (lev : Int) (w : World) (hV : IsE m w C x) (hn : x.nm.length ≤ 1099511627776) (hT : TabL w) :
    Calls Tryz.prog 33 #[.agg C.toArray, .int .i64 lev] w fun e w' => e = .returned (.int .i64 (nodeE lev x : Nat)) ∧ Below w.heap.size w w' := by
  obtain ⟨r, hr⟩ : ∃ r, r = nodeE lev x := ⟨_, rfl⟩
  rw [← hr]
  obtain ⟨k, nm, vk, vt, vi, vs, vl, vks, vav, vc, vkv, vkc, l, ks, av, c, kv, kc, rfl, rfl, ⟨mv, hv⟩, g1, g2, g3, g4, g5, hs, hl⟩ := id hV
  have A0 := Lib.hid (fun (w' : World) (hb : Below w.heap.size w w') => wellFormed_any m _ _ w' (hV.below hb) hn (hT.below hb))
  have A1 := Lib.hid (fun (w' : World) (hb : Below w.heap.size w w') => validV_any mv _ _ w' (hv.below hb))
  have A2 := Lib.hid (fun (w' : World) (hb : Below w.heap.size w w') (h1 : ks.length ≤ 4000) => repeats_any kv kc ks h1 g5 w' (hs.below hb))
  have KY := Lib.hid (@wellB_keys k (.mk vk vt vi vs vl vks) nm l.length ks)
  dsimp only [Ex.kd, Ex.vl, Ex.nm, Ex.ar, Ex.ky] at A0
  change r = nodeN lev (wellB k (.mk vk vt vi vs vl vks) nm l.length ks) (Go.Proofs.YtjehhldboopocaaGreatDoor.errV 16 (.mk vk vt vi vs vl vks)) l.length (repS [] ks) at hr
  obtain ⟨z0, h0⟩ : ∃ z, z = wellB k (.mk vk vt vi vs vl vks) nm l.length ks := ⟨_, rfl⟩
  obtain ⟨z1, h1⟩ : ∃ z, z = Go.Proofs.YtjehhldboopocaaGreatDoor.errV 16 (.mk vk vt vi vs vl vks) := ⟨_, rfl⟩
  obtain ⟨z2, h2⟩ : ∃ z, z = repS [] ks := ⟨_, rfl⟩
  rw [← h0] at A0 hr KY
  rw [← h1] at A1 hr
  rw [← h2] at A2 hr
  have E := hr
  unfold nodeN at E
  obtain ⟨nx, hnx⟩ : ∃ nx : ByteArray, nx = ⟨nm.toArray⟩ := ⟨_, rfl⟩
  rw [← hnx] at A0 ⊢
  have B0 := Lib.hid ((Below.refl w.heap.size w).alloc (Nat.le_refl _) (.cells #[.int .i64 k, .string nx, .int .i64 vk, .bool vt, .int .i64 vi, .string vs, .slice vav vl.length vc, .slice vkv vks.length vkc, .slice av l.length c, .slice kv ks.length kc] 29))
  have C0 := CellsAt.new w 29 #[.int .i64 k, .string nx, .int .i64 vk, .bool vt, .int .i64 vi, .string vs, .slice vav vl.length vc, .slice vkv vks.length vkc, .slice av l.length c, .slice kv ks.length kc]
  clear h0 h1 h2 hr hnx hv hs hl g1 g2 g4 g5 hn hT hV
  by_cases k1 : 16 < lev
  · have E1 := Lib.hid (show r = 13 by rw [E, if_pos k1])
    clear E
    go_enter Tryz.func33, Tryz.ntmps33
    go_wp2_with fail
    go_ret
    exact ⟨by rw [E1.out]; rfl, B0.out⟩
  · rw [if_neg k1] at E
    cases z0
    · have E1 := Lib.hid (show r = 1 by rw [E, if_pos rfl])
      clear E
      go_enter Tryz.func33, Tryz.ntmps33
      go_wp2_with fail
      go_fit (A0.out _ B0.out)
      rintro e w1 ⟨rfl, hb1⟩
      have HB1 := Lib.hid (B0.out.trans (hb1.mono (by simp)))
      have d1_2 := (hb1.cell (p := ⟨w.heap.size, 2, none⟩) (by simp)).trans (C0.cell (k := 2) (u := .int .i64 vk) rfl)
      have d1_3 := (hb1.cell (p := ⟨w.heap.size, 3, none⟩) (by simp)).trans (C0.cell (k := 3) (u := .bool vt) rfl)
      have d1_4 := (hb1.cell (p := ⟨w.heap.size, 4, none⟩) (by simp)).trans (C0.cell (k := 4) (u := .int .i64 vi) rfl)
      have d1_5 := (hb1.cell (p := ⟨w.heap.size, 5, none⟩) (by simp)).trans (C0.cell (k := 5) (u := .string vs) rfl)
      have d1_6 := (hb1.cell (p := ⟨w.heap.size, 6, none⟩) (by simp)).trans (C0.cell (k := 6) (u := .slice vav vl.length vc) rfl)
      have d1_7 := (hb1.cell (p := ⟨w.heap.size, 7, none⟩) (by simp)).trans (C0.cell (k := 7) (u := .slice vkv vks.length vkc) rfl)
      have d1_8 := (hb1.cell (p := ⟨w.heap.size, 8, none⟩) (by simp)).trans (C0.cell (k := 8) (u := .slice av l.length c) rfl)
      have d1_9 := (hb1.cell (p := ⟨w.heap.size, 9, none⟩) (by simp)).trans (C0.cell (k := 9) (u := .slice kv ks.length kc) rfl)
      clear hb1
      go_wp2_with fail
      go_ret
      exact ⟨by rw [E1.out]; rfl, HB1.out⟩
    · rw [if_neg (by simp)] at E
      by_cases k2 : z1 = 0
      · subst k2
        rw [if_neg (by simp)] at E
        by_cases k3 : 1024 < l.length
        · have E1 := Lib.hid (show r = 3 by rw [E, if_pos k3])
          have g : (1024 : Int) < (l.length : Int) := by omega
          clear k3
          clear E
          go_enter Tryz.func33, Tryz.ntmps33
          go_wp2_with fail
          go_fit (A0.out _ B0.out)
          rintro e w1 ⟨rfl, hb1⟩
          have HB1 := Lib.hid (B0.out.trans (hb1.mono (by simp)))
          have d1_2 := (hb1.cell (p := ⟨w.heap.size, 2, none⟩) (by simp)).trans (C0.cell (k := 2) (u := .int .i64 vk) rfl)
          have d1_3 := (hb1.cell (p := ⟨w.heap.size, 3, none⟩) (by simp)).trans (C0.cell (k := 3) (u := .bool vt) rfl)
          have d1_4 := (hb1.cell (p := ⟨w.heap.size, 4, none⟩) (by simp)).trans (C0.cell (k := 4) (u := .int .i64 vi) rfl)
          have d1_5 := (hb1.cell (p := ⟨w.heap.size, 5, none⟩) (by simp)).trans (C0.cell (k := 5) (u := .string vs) rfl)
          have d1_6 := (hb1.cell (p := ⟨w.heap.size, 6, none⟩) (by simp)).trans (C0.cell (k := 6) (u := .slice vav vl.length vc) rfl)
          have d1_7 := (hb1.cell (p := ⟨w.heap.size, 7, none⟩) (by simp)).trans (C0.cell (k := 7) (u := .slice vkv vks.length vkc) rfl)
          have d1_8 := (hb1.cell (p := ⟨w.heap.size, 8, none⟩) (by simp)).trans (C0.cell (k := 8) (u := .slice av l.length c) rfl)
          have d1_9 := (hb1.cell (p := ⟨w.heap.size, 9, none⟩) (by simp)).trans (C0.cell (k := 9) (u := .slice kv ks.length kc) rfl)
          clear hb1
          go_wp2_with fail
          go_fit (A1.out _ HB1.out)
          rintro e w2 ⟨rfl, hb2⟩
          have HB2 := Lib.hid (HB1.out.trans (hb2.mono HB1.out.size))
          have d2_8 := (hb2.cell (p := ⟨w.heap.size, 8, none⟩) (by have := d1_9; exact cell_ltX this)).trans (d1_8)
          have d2_9 := (hb2.cell (p := ⟨w.heap.size, 9, none⟩) (by have := d1_9; exact cell_ltX this)).trans (d1_9)
          clear d1_2 d1_3 d1_4 d1_5 d1_6 d1_7 d1_8 d1_9
          clear hb2
          go_wp2_with fail
          go_ret
          exact ⟨by rw [E1.out]; rfl, HB2.out⟩
        · rw [if_neg k3] at E
          have g : ¬ (1024 : Int) < (l.length : Int) := by omega
          have hks : ks.length ≤ 4000 := by
            rcases KY.out rfl with h | h
            · omega
            · have := h.1; omega
          have A2 := Lib.hid (fun w' hb => A2.out w' hb hks)
          clear k3 hks
          cases z2
          · have E1 := Lib.hid (show r = 0 by rw [E, if_neg (by simp)])
            clear E
            go_enter Tryz.func33, Tryz.ntmps33
            go_wp2_with fail
            go_fit (A0.out _ B0.out)
            rintro e w1 ⟨rfl, hb1⟩
            have HB1 := Lib.hid (B0.out.trans (hb1.mono (by simp)))
            have d1_2 := (hb1.cell (p := ⟨w.heap.size, 2, none⟩) (by simp)).trans (C0.cell (k := 2) (u := .int .i64 vk) rfl)
            have d1_3 := (hb1.cell (p := ⟨w.heap.size, 3, none⟩) (by simp)).trans (C0.cell (k := 3) (u := .bool vt) rfl)
            have d1_4 := (hb1.cell (p := ⟨w.heap.size, 4, none⟩) (by simp)).trans (C0.cell (k := 4) (u := .int .i64 vi) rfl)
            have d1_5 := (hb1.cell (p := ⟨w.heap.size, 5, none⟩) (by simp)).trans (C0.cell (k := 5) (u := .string vs) rfl)
            have d1_6 := (hb1.cell (p := ⟨w.heap.size, 6, none⟩) (by simp)).trans (C0.cell (k := 6) (u := .slice vav vl.length vc) rfl)
            have d1_7 := (hb1.cell (p := ⟨w.heap.size, 7, none⟩) (by simp)).trans (C0.cell (k := 7) (u := .slice vkv vks.length vkc) rfl)
            have d1_8 := (hb1.cell (p := ⟨w.heap.size, 8, none⟩) (by simp)).trans (C0.cell (k := 8) (u := .slice av l.length c) rfl)
            have d1_9 := (hb1.cell (p := ⟨w.heap.size, 9, none⟩) (by simp)).trans (C0.cell (k := 9) (u := .slice kv ks.length kc) rfl)
            clear hb1
            go_wp2_with fail
            go_fit (A1.out _ HB1.out)
            rintro e w2 ⟨rfl, hb2⟩
            have HB2 := Lib.hid (HB1.out.trans (hb2.mono HB1.out.size))
            have d2_8 := (hb2.cell (p := ⟨w.heap.size, 8, none⟩) (by have := d1_9; exact cell_ltX this)).trans (d1_8)
            have d2_9 := (hb2.cell (p := ⟨w.heap.size, 9, none⟩) (by have := d1_9; exact cell_ltX this)).trans (d1_9)
            clear d1_2 d1_3 d1_4 d1_5 d1_6 d1_7 d1_8 d1_9
            clear hb2
            go_wp2_with fail
            go_fit (A2.out _ HB2.out)
            rintro e w3 ⟨rfl, hb3⟩
            have HB3 := Lib.hid (HB2.out.trans (hb3.mono HB2.out.size))
            clear hb3
            go_wp2_with fail
            go_ret
            exact ⟨by rw [E1.out]; rfl, HB3.out⟩
          · have E1 := Lib.hid (show r = 7 by rw [E, if_pos rfl])
            clear E
            go_enter Tryz.func33, Tryz.ntmps33
            go_wp2_with fail
            go_fit (A0.out _ B0.out)
            rintro e w1 ⟨rfl, hb1⟩
            have HB1 := Lib.hid (B0.out.trans (hb1.mono (by simp)))
            have d1_2 := (hb1.cell (p := ⟨w.heap.size, 2, none⟩) (by simp)).trans (C0.cell (k := 2) (u := .int .i64 vk) rfl)
            have d1_3 := (hb1.cell (p := ⟨w.heap.size, 3, none⟩) (by simp)).trans (C0.cell (k := 3) (u := .bool vt) rfl)
            have d1_4 := (hb1.cell (p := ⟨w.heap.size, 4, none⟩) (by simp)).trans (C0.cell (k := 4) (u := .int .i64 vi) rfl)
            have d1_5 := (hb1.cell (p := ⟨w.heap.size, 5, none⟩) (by simp)).trans (C0.cell (k := 5) (u := .string vs) rfl)
            have d1_6 := (hb1.cell (p := ⟨w.heap.size, 6, none⟩) (by simp)).trans (C0.cell (k := 6) (u := .slice vav vl.length vc) rfl)
            have d1_7 := (hb1.cell (p := ⟨w.heap.size, 7, none⟩) (by simp)).trans (C0.cell (k := 7) (u := .slice vkv vks.length vkc) rfl)
            have d1_8 := (hb1.cell (p := ⟨w.heap.size, 8, none⟩) (by simp)).trans (C0.cell (k := 8) (u := .slice av l.length c) rfl)
            have d1_9 := (hb1.cell (p := ⟨w.heap.size, 9, none⟩) (by simp)).trans (C0.cell (k := 9) (u := .slice kv ks.length kc) rfl)
            clear hb1
            go_wp2_with fail
            go_fit (A1.out _ HB1.out)
            rintro e w2 ⟨rfl, hb2⟩
            have HB2 := Lib.hid (HB1.out.trans (hb2.mono HB1.out.size))
            have d2_8 := (hb2.cell (p := ⟨w.heap.size, 8, none⟩) (by have := d1_9; exact cell_ltX this)).trans (d1_8)
            have d2_9 := (hb2.cell (p := ⟨w.heap.size, 9, none⟩) (by have := d1_9; exact cell_ltX this)).trans (d1_9)
            clear d1_2 d1_3 d1_4 d1_5 d1_6 d1_7 d1_8 d1_9
            clear hb2
            go_wp2_with fail
            go_fit (A2.out _ HB2.out)
            rintro e w3 ⟨rfl, hb3⟩
            have HB3 := Lib.hid (HB2.out.trans (hb3.mono HB2.out.size))
            clear hb3
            go_wp2_with fail
            go_ret
            exact ⟨by rw [E1.out]; rfl, HB3.out⟩
      · have E1 := Lib.hid (show r = z1 by rw [E, if_pos k2])
        have g : ((z1 : Int) == 0) = false := by rw [beq_eq_false_iff_ne]; omega
        have gg : ((z1 : Int) != 0) = true := by rw [bne_iff_ne]; omega
        clear k2
        clear E
        go_enter Tryz.func33, Tryz.ntmps33
        go_wp2_with fail
        go_fit (A0.out _ B0.out)
        rintro e w1 ⟨rfl, hb1⟩
        have HB1 := Lib.hid (B0.out.trans (hb1.mono (by simp)))
        have d1_2 := (hb1.cell (p := ⟨w.heap.size, 2, none⟩) (by simp)).trans (C0.cell (k := 2) (u := .int .i64 vk) rfl)
        have d1_3 := (hb1.cell (p := ⟨w.heap.size, 3, none⟩) (by simp)).trans (C0.cell (k := 3) (u := .bool vt) rfl)
        have d1_4 := (hb1.cell (p := ⟨w.heap.size, 4, none⟩) (by simp)).trans (C0.cell (k := 4) (u := .int .i64 vi) rfl)
        have d1_5 := (hb1.cell (p := ⟨w.heap.size, 5, none⟩) (by simp)).trans (C0.cell (k := 5) (u := .string vs) rfl)
        have d1_6 := (hb1.cell (p := ⟨w.heap.size, 6, none⟩) (by simp)).trans (C0.cell (k := 6) (u := .slice vav vl.length vc) rfl)
        have d1_7 := (hb1.cell (p := ⟨w.heap.size, 7, none⟩) (by simp)).trans (C0.cell (k := 7) (u := .slice vkv vks.length vkc) rfl)
        have d1_8 := (hb1.cell (p := ⟨w.heap.size, 8, none⟩) (by simp)).trans (C0.cell (k := 8) (u := .slice av l.length c) rfl)
        have d1_9 := (hb1.cell (p := ⟨w.heap.size, 9, none⟩) (by simp)).trans (C0.cell (k := 9) (u := .slice kv ks.length kc) rfl)
        clear hb1
        go_wp2_with fail
        go_fit (A1.out _ HB1.out)
        rintro e w2 ⟨rfl, hb2⟩
        have HB2 := Lib.hid (HB1.out.trans (hb2.mono HB1.out.size))
        have d2_8 := (hb2.cell (p := ⟨w.heap.size, 8, none⟩) (by have := d1_9; exact cell_ltX this)).trans (d1_8)
        have d2_9 := (hb2.cell (p := ⟨w.heap.size, 9, none⟩) (by have := d1_9; exact cell_ltX this)).trans (d1_9)
        clear d1_2 d1_3 d1_4 d1_5 d1_6 d1_7 d1_8 d1_9
        clear hb2
        go_wp2_with fail
        go_ret
        exact ⟨by rw [E1.out]; rfl, HB2.out⟩
end Go.Proofs.YtjehhldboopocaaGreatDoor.Lx
namespace Go.Proofs.YtjehhldboopocaaGreatDoor.Lx
open Go.RowKit Go.Shelf
attribute [local go_sem] Oper.semAt_some
/-- The first error of a list of nodes. -/
def firstN : List (Int × Xp) → Nat
  | [] => 0
  | p :: r => if nodeE p.1 p.2 = 0 then firstN r else nodeE p.1 p.2
theorem firstN_snoc : ∀ (l : List (Int × Xp)), firstN l = 0 → ∀ p : Int × Xp, firstN (l ++ [p]) = nodeE p.1 p.2
  | [], _, p => by
    show (if nodeE p.1 p.2 = 0 then 0 else nodeE p.1 p.2) = nodeE p.1 p.2
    split
    · rename_i h; rw [h]
    · rfl
  | q :: r, h, p => by
    unfold firstN at h
    rw [List.cons_append]
    unfold firstN
    split at h
    · rename_i h0; rw [if_pos h0]; exact firstN_snoc r h p
    · rename_i h0; exact absurd h h0
theorem firstN_prefix {l r : List (Int × Xp)} (h : l <+: r) (h0 : firstN l ≠ 0) : firstN r = firstN l := by
  obtain ⟨s, rfl⟩ := h
  induction l with
  | nil => exact absurd rfl h0
  | cons q t ih =>
    rw [List.cons_append]
    unfold firstN at h0 ⊢
    by_cases hq : nodeE q.1 q.2 = 0
    · rw [if_pos hq] at h0; rw [if_pos hq, if_pos hq]; exact ih h0
    · rw [if_neg hq, if_neg hq]
/-- The error of an expression. -/
def validE (m : Nat) (x : Xp) : Nat := if 4096 < (preE m 1 x).length then 15 else firstN (preE m 1 x)

set_option maxRecDepth 100000 in
set_option maxHeartbeats 4000000 in
theorem validE_any (m : Nat) (C : List Value) (x : Xp) (w : World) (hV : IsE m w C x) (hSm : AllSm x) (hT : TabL w) :
    Calls Tryz.prog 17 #[.agg C.toArray] w fun e w' => e = .returned (.int .i64 (validE m x : Nat)) ∧ Below w.heap.size w w' := by
  obtain ⟨ps, hps⟩ : ∃ ps, ps = preE m 1 x := ⟨_, rfl⟩
  obtain ⟨r, hr⟩ : ∃ r, r = validE m x := ⟨_, rfl⟩
  have hr1 : r = if 4096 < ps.length then 15 else firstN ps := by rw [hr, hps]; rfl
  rw [← hr]
  have HPS := Lib.hid hps
  have HV := Lib.hid hV
  have HSM := Lib.hid hSm
  have HT := Lib.hid hT
  have TM := Lib.hid (fun (w' : World) (hb : Below w.heap.size w w') => tooMany_any m C x w' (hV.below hb) hSm)
  rw [← hps] at TM
  have VN : Hid (∀ (y : Pe w) (w' : World), Below w.heap.size w w' → Calls Tryz.prog 33 #[.agg y.1.2.1.toArray, .int .i64 y.1.1] w' fun e w2 => e = .returned (.int .i64 (nodeE y.1.1 y.1.2.2 : Nat)) ∧ Below w'.heap.size w' w2) := Lib.hid fun y w' hb => by
    obtain ⟨⟨lv, C', x'⟩, ⟨m', hx'⟩, hs'⟩ := y
    exact validNode_any m' C' x' lv w' (hx'.below hb) hs'.own (HT.out.below hb)
  obtain ⟨k, nm, vk, vt, vi, vs, vl, vks, vav, vc, vkv, vkc, l0, ks, av, c, kv, kc, hx0, rfl, hrest⟩ := id hV
  obtain ⟨nx, hnx⟩ : ∃ nx : ByteArray, nx = ⟨nm.toArray⟩ := ⟨_, rfl⟩
  rw [← hnx] at HV TM ⊢
  clear hps hr hnx hrest hV hx0 hSm hT
  refine (callsIn_wide (n := 3)).1 ?_
  refine callsIn_of_wp_marks Tryz.func17 rfl trivial ?_ rfl
  simp only [Tryz.ntmps17, List.size_toArray, List.length_cons, List.length_nil, Nat.reduceAdd, Nat.reduceSub, Array.replicate_succ, Array.replicate_zero, List.push_toArray, List.append_toArray, List.nil_append, List.cons_append]
  have CE : CellsAt ((w.alloc (.cells #[.int .i64 k, .string nx, .int .i64 vk, .bool vt, .int .i64 vi, .string vs, .slice vav vl.length vc, .slice vkv vks.length vkc, .slice av l0.length c, .slice kv ks.length kc] 29)).alloc (.cells #[.int .i64 0] 30)) w.heap.size 29 #[.int .i64 k, .string nx, .int .i64 vk, .bool vt, .int .i64 vi, .string vs, .slice vav vl.length vc, .slice vkv vks.length vkc, .slice av l0.length c, .slice kv ks.length kc] := (CellsAt.new w _ _).alloc _
  have BE : Boxed ((w.alloc (.cells #[.int .i64 k, .string nx, .int .i64 vk, .bool vt, .int .i64 vi, .string vs, .slice vav vl.length vc, .slice vkv vks.length vkc, .slice av l0.length c, .slice kv ks.length kc] 29)).alloc (.cells #[.int .i64 0] 30)) (w.heap.size + 1) 30 (.int .i64 0) := by
    have h := Boxed.new (w.alloc (.cells #[.int .i64 k, .string nx, .int .i64 vk, .bool vt, .int .i64 vi, .string vs, .slice vav vl.length vc, .slice vkv vks.length vkc, .slice av l0.length c, .slice kv ks.length kc] 29)) 30 (.int .i64 0)
    rw [World.size_alloc] at h
    exact h
  have HD : Hid (∀ w1, Below ((w.alloc (.cells #[.int .i64 k, .string nx, .int .i64 vk, .bool vt, .int .i64 vi, .string vs, .slice vav vl.length vc, .slice vkv vks.length vkc, .slice av l0.length c, .slice kv ks.length kc] 29)).alloc (.cells #[.int .i64 0] 30)).heap.size ((w.alloc (.cells #[.int .i64 k, .string nx, .int .i64 vk, .bool vt, .int .i64 vi, .string vs, .slice vav vl.length vc, .slice vkv vks.length vkc, .slice av l0.length c, .slice kv ks.length kc] 29)).alloc (.cells #[.int .i64 0] 30)) w1 → w1.cell? ⟨w.heap.size, 0, none⟩ = some (.int .i64 k) ∧ w1.cell? ⟨w.heap.size, 1, none⟩ = some (.string nx) ∧ w1.cell? ⟨w.heap.size, 2, none⟩ = some (.int .i64 vk) ∧ w1.cell? ⟨w.heap.size, 3, none⟩ = some (.bool vt) ∧ w1.cell? ⟨w.heap.size, 4, none⟩ = some (.int .i64 vi) ∧ w1.cell? ⟨w.heap.size, 5, none⟩ = some (.string vs) ∧ w1.cell? ⟨w.heap.size, 6, none⟩ = some (.slice vav vl.length vc) ∧ w1.cell? ⟨w.heap.size, 7, none⟩ = some (.slice vkv vks.length vkc) ∧ w1.cell? ⟨w.heap.size, 8, none⟩ = some (.slice av l0.length c) ∧ w1.cell? ⟨w.heap.size, 9, none⟩ = some (.slice kv ks.length kc)) := Lib.hid fun w1 hb => by
    have h := CE.below hb
    exact ⟨h.cell (u := .int .i64 k) rfl, h.cell (u := .string nx) rfl, h.cell (u := .int .i64 vk) rfl, h.cell (u := .bool vt) rfl, h.cell (u := .int .i64 vi) rfl, h.cell (u := .string vs) rfl, h.cell (u := .slice vav vl.length vc) rfl, h.cell (u := .slice vkv vks.length vkc) rfl, h.cell (u := .slice av l0.length c) rfl, h.cell (u := .slice kv ks.length kc) rfl⟩
  have HBE : Hid (∀ w1, Below ((w.alloc (.cells #[.int .i64 k, .string nx, .int .i64 vk, .bool vt, .int .i64 vi, .string vs, .slice vav vl.length vc, .slice vkv vks.length vkc, .slice av l0.length c, .slice kv ks.length kc] 29)).alloc (.cells #[.int .i64 0] 30)).heap.size ((w.alloc (.cells #[.int .i64 k, .string nx, .int .i64 vk, .bool vt, .int .i64 vi, .string vs, .slice vav vl.length vc, .slice vkv vks.length vkc, .slice av l0.length c, .slice kv ks.length kc] 29)).alloc (.cells #[.int .i64 0] 30)) w1 → Boxed w1 (w.heap.size + 1) 30 (.int .i64 0)) := Lib.hid fun w1 hb => (hb.block _ BE.lt).trans BE
  clear CE BE
  by_cases hmany : 4096 < ps.length
  · rw [if_pos hmany] at hr1
    rw [decide_eq_true hmany] at TM
    have E := Lib.hid hr1
    clear hr1 hmany VN HD
    gi_wp2_with (refine ⟨trivial, ?_⟩; gi_at_call 31; refine (callsIn_wide.2 (TM.out _ ((((Below.refl w.heap.size w).alloc (Nat.le_refl _) _).alloc (by simp) _)))).mono ?_; rintro e w1 ⟨rfl, hb1⟩; have bR := HBE.out w1 hb1; have cR := bR.cell; have fR := bR.frozen)
    exact ⟨.int .i64 15, by simp [results, Tryz.f17, go_sem, (bR.set (.int .i64 15)).cell], by rw [E.out]; rfl, (((Below.refl w.heap.size w).alloc (Nat.le_refl _) _).alloc (by simp) _ |>.trans (hb1.mono (by simp; omega))).setCell (p := ⟨w.heap.size + 1, 0, none⟩) (by simp) _⟩
  · rw [if_neg hmany] at hr1
    rw [decide_eq_false hmany] at TM
    have E := Lib.hid hr1
    clear hr1 hmany
    gi_wp2_with (first
      | (refine ⟨trivial, ?_⟩; gi_at_call 31; refine (callsIn_wide.2 (TM.out _ ((((Below.refl w.heap.size w).alloc (Nat.le_refl _) _).alloc (by simp) _)))).mono ?_; rintro e w1 ⟨rfl, hb1⟩; obtain ⟨d0, d1, d2, d3, d4, d5, d6, d7, d8, d9⟩ := HD.out w1 hb1)
      | (refine ⟨trivial, ?_⟩; gi_at_call 32; refine (nodes_in Fence.wide _ trivial rfl _ _ _ _ _ _ _ _ _ _ _ _ _ _ _ _ _ _ _).mono ?_; rintro e w2 ⟨rfl, rfl⟩))
    have bR := HBE.out w1 hb1
    have hB1 : Below w.heap.size w w1 := (((Below.refl w.heap.size w).alloc (Nat.le_refl _) _).alloc (by simp) _).trans (hb1.mono (by simp; omega))
    have hs1 : w.heap.size + 1 < w1.heap.size := bR.lt
    clear d0 d1 d2 d3 d4 d5 d6 d7 d8 d9 hb1 HBE HD TM
    obtain ⟨C, hC⟩ : ∃ C : List Value, [.int .i64 k, .string nx, .int .i64 vk, .bool vt, .int .i64 vi, .string vs, .slice vav vl.length vc, .slice vkv vks.length vkc, .slice av l0.length c, .slice kv ks.length kc] = C := ⟨_, rfl⟩
    rw [hC] at HV ⊢
    obtain ⟨W0, hW0⟩ : ∃ W0, w1.alloc (.cells C.toArray 29) = W0 := ⟨_, rfl⟩
    have hW0s : W0.heap.size = w1.heap.size + 1 := by rw [← hW0]; simp
    have hB0 : Below w.heap.size w W0 := by rw [← hW0]; exact hB1.alloc hB1.size _
    have bR0 : Boxed W0 (w.heap.size + 1) 30 (.int .i64 0) := by rw [← hW0]; exact bR.alloc _
    have bE : E10 W0 w1.heap.size C := by rw [← hW0]; exact E10_new w1 C
    rw [hW0]
    have hst := nodes_stops Fence.wide rfl (3 - 1) trivial trivial rfl w1.heap.size (w.heap.size + 1) m C x w W0 (by omega) (by omega) hB0 HV.out HSM.out bE
    rw [← HPS.out] at hst
    clear bE hW0 hC HV bR hB1
    refine wpIn_rangeFunc_ownH rfl (by omega) (gf := 55) (lb := #[.pointer (some ⟨w1.heap.size, 0, none⟩)]) rfl trivial (enters_of Tryz.func55 (by kernel_rfl) rfl)
      hst KeepX.trans (fun W l o o' _ h hc _ => KeepX.put W l o o' h hc) (Below.refl _ _) (fun _ => rfl)
      (fun pre W => Boxed W (w.heap.size + 1) 30 (.int .i64 0) ∧ (firstN (pre.map Pe.lt) = 0 ∧ Below w.heap.size w W))
      (fun c pre W => (c = .ret ∧ firstN (pre.map Pe.lt) ≠ 0) ∧ (Boxed W (w.heap.size + 1) 30 (.int .i64 (firstN (pre.map Pe.lt) : Nat)) ∧ Below w.heap.size w W))
      (OwnFrom.and (Own.from (boxed_own _ _ _) _) (OwnFrom.and (fun _ _ _ _ hs _ _ => hs) (ownFrom_below (Nat.le_refl _) (by omega))))
      (fun c => OwnFrom.and (fun _ _ _ _ hs _ _ => hs) (OwnFrom.and (Own.from (boxed_own _ _ _) _) (ownFrom_below (Nat.le_refl _) (by omega))))
      ⟨bR0, rfl, hB0⟩
      (fun y a' W => ∃ By, w.heap.size + 1 < By ∧ E10 W By y.1.2.1 ∧ a' = { tmps := #[.agg C.toArray, .pointer (some ⟨w.heap.size, 0, none⟩), .pointer (some ⟨w.heap.size + 1, 0, none⟩), .int .i64 y.1.1, .pointer (some ⟨By, 0, none⟩), undef, .agg C.toArray, .bool false, .agg C.toArray, .func (.func 55) #[] #[.pointer (some ⟨w1.heap.size, 0, none⟩)], .int .i64 y.1.1, .agg y.1.2.1.toArray, undef, undef, undef, undef, undef, undef], defers := [] })
      (fun y a' _ X Y row hs hg hr => by obtain ⟨By, h1, h2, h3⟩ := hs; exact ⟨By, h1, E10_own (β := Unit) By _ () X Y row h2 hg (fun r e => (hr r e).2), h3⟩)
      ?assign ?body ?done ?stop
    case assign =>
      rintro lp pre ⟨⟨lv, C', x'⟩, hx'⟩ W K ⟨bR1, hz1, hBW⟩ hK
      obtain ⟨k2, nm2, vk2, vt2, vi2, vs2, vl2, vks2, a1, c1, a2, c2, l2, ks2, a3, c3, a4, c4, _, rfl, hrest2⟩ := hx'.1.choose_spec
      have hlt := bR1.lt
      have hsz := hBW.size
      have H1 := Lib.hid bR1
      have H2 := Lib.hid hz1
      have H3 := Lib.hid hBW
      clear bR1 hz1 hBW hst hrest2
      dsimp only [encE]
      gi_wp2
      exact hK _ _ ((KeepsOthers.alloc _ _).from _) (KeepX.alloc _ _) ⟨H1.out.alloc _, H2.out, H3.out.alloc hsz _⟩ ⟨W.heap.size, by omega, E10_new W _, rfl⟩
    case body =>
      rintro lp pre y a' W hl ⟨r', hr'⟩ ⟨bR1, hz1, hBW⟩ ⟨By, hBy, hE, rfl⟩ hlen
      have M := VN.out y W hBW
      have hsn : firstN ((pre ++ [y]).map Pe.lt) = nodeE y.1.1 y.1.2.2 := by
        rw [List.map_append, List.map_cons, List.map_nil, firstN_snoc _ hz1]
        rfl
      obtain ⟨⟨lv, C', x'⟩, hx'⟩ := y
      obtain ⟨k2, nm2, vk2, vt2, vi2, vs2, vl2, vks2, a1, c1, a2, c2, l2, ks2, a3, c3, a4, c4, _, hC2, hrest2⟩ := hx'.1.choose_spec
      dsimp only at hC2 M hsn hE
      obtain ⟨b1, hb1⟩ : ∃ q, q = vl2.length := ⟨_, rfl⟩
      obtain ⟨b2, hb2⟩ : ∃ q, q = vks2.length := ⟨_, rfl⟩
      obtain ⟨b3, hb3⟩ : ∃ q, q = l2.length := ⟨_, rfl⟩
      obtain ⟨b4, hb4⟩ : ∃ q, q = ks2.length := ⟨_, rfl⟩
      obtain ⟨n2, hn2⟩ : ∃ q : ByteArray, q = ⟨nm2.toArray⟩ := ⟨_, rfl⟩
      rw [← hb1, ← hb2, ← hb3, ← hb4, ← hn2] at hC2
      rw [hC2] at M hE
      have d0 := hE.cell 0 (.int .i64 k2) rfl
      have d1 := hE.cell 1 (.string n2) rfl
      have d2 := hE.cell 2 (.int .i64 vk2) rfl
      have d3 := hE.cell 3 (.bool vt2) rfl
      have d4 := hE.cell 4 (.int .i64 vi2) rfl
      have d5 := hE.cell 5 (.string vs2) rfl
      have d6 := hE.cell 6 (.slice a1 b1 c1) rfl
      have d7 := hE.cell 7 (.slice a2 b2 c2) rfl
      have d8 := hE.cell 8 (.slice a3 b3 c3) rfl
      have d9 := hE.cell 9 (.slice a4 b4 c4) rfl
      obtain ⟨z, hz⟩ : ∃ z, z = nodeE lv x' := ⟨_, rfl⟩
      rw [← hz] at M hsn
      have M := Lib.hid M
      have HS := Lib.hid hsn
      have H1 := Lib.hid bR1
      have hsz := hBW.size
      have H3 := Lib.hid hBW
      have hltR := bR1.lt
      have HC2 := Lib.hid hC2
      clear hz hsn hst bR1 hz1 hBW hr' hlen hrest2 hb1 hb2 hb3 hb4 hn2 hE hC2
      by_cases h0 : z = 0
      · subst h0
        gi_wp2_with (first
          | (refine ⟨trivial, ?_⟩; gi_at_call 33; refine (CallsIn.inRound lp (callsIn_wide.2 M.out)).mono ?_; rintro e w2 ⟨rfl, hb2⟩))
        exact ⟨(keepsOthers_below hb2).from _, KeepX.of_below hb2, (hb2.block _ hltR).trans H1.out, HS.out, H3.out.trans (hb2.mono hsz)⟩
      · have h0i : ((z : Int) == 0) = false := by rw [beq_eq_false_iff_ne]; omega
        have bR2 : ∀ w2, Below W.heap.size W w2 → Boxed w2 (w.heap.size + 1) 30 (.int .i64 0) := fun w2 h => (h.block _ hltR).trans H1.out
        gi_wp2_with (first
          | (refine ⟨trivial, ?_⟩; gi_at_call 33; refine (CallsIn.inRound lp (callsIn_wide.2 M.out)).mono ?_; rintro e w2 ⟨rfl, hb2⟩; have bR3 := bR2 w2 hb2; have cR := bR3.cell; have fR := bR3.frozen))
        exact ⟨((keepsOthers_below hb2).trans (KeepsOthers.setCell _ _ _)).from _, ⟨rfl, by rw [HS.out]; exact h0⟩, by rw [HS.out]; exact bR3.set _, (H3.out.trans (hb2.mono hsz)).setCell (p := ⟨w.heap.size + 1, 0, none⟩) (by simp) _⟩
    case done =>
      rintro D zs W hD hzs ⟨bR1, hz1, hBW⟩ hK
      have cR := bR1.cell
      have fR := bR1.frozen
      have HZ := Lib.hid hz1
      have HZS := Lib.hid hzs
      clear hst hz1 hzs
      gi_wp2
      have hK' := (KeepsOthers.setCell W ⟨w.heap.size + 1, 0, none⟩ (.int .i64 0)).same D _ hK rfl
      refine ⟨by simp, .inl ⟨_, _, rfl, run_takeDeferred hK', ?_⟩⟩
      have hc5 := cell_kept ((bR1.set (.int .i64 0)).cell) (grownBy_putObj' _ D (.deferred none)) (fun r e => by cases e; exact ⟨_, hK', rfl⟩)
      refine ⟨.int .i64 0, ?_, by rw [E.out, ← HZS.out, HZ.out]; rfl, (hBW.setCell (p := ⟨w.heap.size + 1, 0, none⟩) (by simp) _).trans (belowK_b (w := w) (Nat.le_refl _) _ D _ _ (by omega) hK' rfl rfl)⟩
      simp [results, Tryz.f17, go_sem, hc5]
    case stop =>
      rintro D cc pre W hD hpre ⟨⟨rfl, hz1⟩, bR1, hBW⟩ hK
      have cR := bR1.cell
      have HZ := Lib.hid (firstN_prefix hpre hz1)
      clear hst hz1 hpre
      gi_wp2
      refine ⟨by simp, .inl ⟨_, _, rfl, run_takeDeferred hK, ?_⟩⟩
      have hc5 := cell_kept cR (grownBy_putObj' _ D (.deferred none)) (fun r e => by cases e; exact ⟨_, hK, rfl⟩)
      refine ⟨_, ?_, by rw [E.out, HZ.out], hBW.trans (belowK_b (w := w) (Nat.le_refl _) _ D _ _ (by omega) hK rfl rfl)⟩
      simp [results, Tryz.f17, go_sem, hc5]
end Go.Proofs.YtjehhldboopocaaGreatDoor.Lx
