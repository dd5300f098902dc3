/- Layer 7: ValueMapsOrder. -/
import Derived.Test.YtabopneehhnhfaaGreatDoorTie
import Derived.Test.YtabopneehhnhfaaGreatDoorCards
import Derived.Test.YtabopneehhnhfaaGreatDoorVluTab
import Derived.Test.YtabopneehhnhfaaGreatDoorOpR
import Derived.Test.YtabopneehhnhfaaGreatDoorVluWk
import Derived.Test.YtabopneehhnhfaaGreatDoorVluN
import Derived.Test.YtabopneehhnhfaaGreatDoorVluS
import Derived.Test.YtabopneehhnhfaaGreatDoorVluC
import Derived.ProofKit
import Derived.OpenShut
import Derived.LaidMore
import Derived.Stop.Joined
import Derived.SevenTiedAt
import Derived.SizedLaws
namespace Go.Proofs.YtabopneehhnhfaaGreatDoor.valueMapsOrder
open Go.ChangeShapes Go.WideShapes Go.ChangeAt Go.RowKit
set_option linter.unusedVariables false

theorem own : ownKnob Tryz.prog.godebug = none := by kernel_rfl
theorem laidOut : laidOutB Tryz.prog = true := by kernel_rfl

set_option maxHeartbeats 8000000 in
set_option maxRecDepth 100000 in
theorem walk (m : Nat) (a : Option Addr) (cap : Nat) (L : List Vr) (hc : L.length ≤ cap) (hm : cap ≤ maxLen) (hbd : L.length * 104 ≤ 140737488351232) (k : Int) (hk : (Lit.int .i64 k).wf = true) (w : World) (hT : TabP w) (hr : ReadsR m w a L) :
    Calls Tryz.prog 8 #[.slice a L.length cap, .int .i64 k] w fun e w' => e = .returned (.bool true) ∧ Below w.heap.size w w' := by
  have HT := Lib.hid hT
  have HR := Lib.hid hr
  have MP := Lib.hid (fun w' (h : Below w.heap.size w w') => map_any m a L cap w' (hr.below h) (by omega))
  have hkk : -9223372036854775808 ≤ k ∧ k ≤ 9223372036854775807 := by simpa [Lit.wf, IntKind.signed, IntKind.min, IntKind.max, IntKind.bits] using hk
  have hm' : cap ≤ 9223372036854775807 := by unfold maxLen at hm; omega
  by_cases h0 : errVs L = 0
  · have HP := Lib.hid (fun (r : List Vr) (hp : r.Perm L) => And.intro (errVs_perm hp h0) (mapV_perm hp h0))
    have HV16 := Lib.hid (map_valid h0)
    rw [h0, if_pos rfl] at MP
    obtain ⟨G, hG⟩ : ∃ G, G = mapV L := ⟨_, rfl⟩
    rw [← hG] at MP HV16 HP
    obtain ⟨k1, t1, i1, s1, l1, ks1⟩ := G
    clear hG h0 hT hk hm
    by_cases hne : L = []
    · subst hne
      clear hr
      go_enter Tryz.func8, Tryz.ntmps8
      go_wp2_with fail
      go_fit (MP.out _ (Below.refl _ _))
      rintro e w3 ⟨R, rfl, hR, hb⟩
      obtain ⟨ax, cx, kx, ckx, rfl, _⟩ := isV_stb hR
      have HX := Lib.hid hR.here
      have hal : Below w3.heap.size w3 (w3.alloc (.cells #[.int .i64 k1, .bool t1, .int .i64 i1, .string s1, .slice ax l1.length cx, .slice kx ks1.length ckx] 25)) := (Below.refl _ _).alloc (Nat.le_refl _) _
      have B3a := Lib.hid (hb.trans (hal.mono hb.size))
      have HX3 := Lib.hid (HX.out.below hal)
      have CX := Lib.hid (CellsAt.new w3 25 #[.int .i64 k1, .bool t1, .int .i64 i1, .string s1, .slice ax l1.length cx, .slice kx ks1.length ckx])
      obtain ⟨n3, hn3⟩ : ∃ n3, n3 = w3.heap.size := ⟨_, rfl⟩
      clear hb hR HX
      obtain ⟨W3, hW3⟩ : ∃ W3, W3 = w3.alloc (.cells #[.int .i64 k1, .bool t1, .int .i64 i1, .string s1, .slice ax l1.length cx, .slice kx ks1.length ckx] 25) := ⟨_, rfl⟩
      rw [← hW3] at B3a HX3 CX
      rw [← hn3] at CX
      go_wp2_with fail
      rw [← hW3]
      clear hW3 hn3 hal
      go_fit (awake_any _ (tabP_below HT.out B3a.out))
      rintro e w9 ⟨rfl, hb⟩
      have B9 := Lib.hid (B3a.out.trans (hb.mono B3a.out.size))
      clear hb
      go_wp2_with fail
      go_ret
      exact ⟨rfl, B9.out⟩
    · have hpos : 0 < L.length := List.length_pos_iff.2 hne
      obtain ⟨b, off, rfl⟩ : ∃ b off, a = some ⟨b, off, none⟩ := by
        obtain ⟨b, off, n, k', t, i, s, l', ks, av, c, kv, kc, h0, h1, _⟩ := hr 0 hpos
        exact ⟨b, off, h1⟩
      have hl4 : L.length ≤ 9223372036854775807 := by omega
      have g0 : ((L.length : Int) == 0) = false := by rw [beq_eq_false_iff_ne]; omega
      have hr1 := Int.tmod_lt_of_pos k (show (0 : Int) < (L.length : Int) by omega)
      have hr2 : -(L.length : Int) < k.tmod (L.length : Int) := by
        have h := Int.tmod_lt_of_pos (-k) (show (0 : Int) < (L.length : Int) by omega)
        rw [Int.neg_tmod] at h
        omega
      obtain ⟨r, hrem⟩ : ∃ r, k.tmod (L.length : Int) = r := ⟨_, rfl⟩
      rw [hrem] at hr1 hr2
      clear hr hne
      by_cases hneg : r < 0
      · obtain ⟨A, hA⟩ : ∃ A : Nat, r + (L.length : Int) = (A : Int) := ⟨(r + (L.length : Int)).toNat, by omega⟩
        have hAl : A < L.length := by omega
        have hge : ¬ (0 : Int) ≤ r := by omega
        have hsl1 := fun w => slice_fromR b off L.length cap A (by omega) (by omega) w
        have hsl2 := fun w => slice_toR ⟨b, off, none⟩ L.length cap A (by omega) w
        have HPD := Lib.hid (HP.out (L.drop A ++ L.take A) (List.perm_append_comm.trans (by rw [List.take_append_drop])))
        have HP0 := Lib.hid (show A = 0 → errVs (L.drop A) = 0 ∧ mapV (L.drop A) = .mk k1 t1 i1 s1 l1 ks1 from fun h => by rw [h, List.drop_zero]; exact HP.out L (List.Perm.refl _))
        clear HP
        go_enter Tryz.func8, Tryz.ntmps8
        go_wp2_with fail
        go_fit (MP.out _ (Below.refl _ _))
        rintro e w3 ⟨R, rfl, hR, hb⟩
        obtain ⟨ax, cx, kx, ckx, rfl, _⟩ := isV_stb hR
        have HX := Lib.hid hR.here
        have hal : Below w3.heap.size w3 (w3.alloc (.cells #[.int .i64 k1, .bool t1, .int .i64 i1, .string s1, .slice ax l1.length cx, .slice kx ks1.length ckx] 25)) := (Below.refl _ _).alloc (Nat.le_refl _) _
        have B3a := Lib.hid (hb.trans (hal.mono hb.size))
        have HX3 := Lib.hid (HX.out.below hal)
        have CX := Lib.hid (CellsAt.new w3 25 #[.int .i64 k1, .bool t1, .int .i64 i1, .string s1, .slice ax l1.length cx, .slice kx ks1.length ckx])
        obtain ⟨n3, hn3⟩ : ∃ n3, n3 = w3.heap.size := ⟨_, rfl⟩
        clear hb hR HX
        obtain ⟨W3, hW3⟩ : ∃ W3, W3 = w3.alloc (.cells #[.int .i64 k1, .bool t1, .int .i64 i1, .string s1, .slice ax l1.length cx, .slice kx ks1.length ckx] 25) := ⟨_, rfl⟩
        rw [← hW3] at B3a HX3 CX
        rw [← hn3] at CX
        have HR3 := HR.out.below B3a.out
        have NW := news_cell (HR3.drop A)
        have hnl := news_len W3 ⟨b, off + A * 7, none⟩ (L.drop A).length
        have HE1 := Lib.hid (news_el (HR3.drop A))
        obtain ⟨nw, hnw⟩ : ∃ nw, nw = newsR W3 ⟨b, off + A * 7, none⟩ (L.drop A).length := ⟨_, rfl⟩
        rw [← hnw] at NW hnl HE1
        rw [List.length_drop] at hnl
        obtain ⟨i0, hi, hq0, hq1, hq2⟩ := info_parts infoVar
        have HO := Lib.hid (World.ownsRow_nil W3 W3.heap.size 55 7)
        obtain ⟨N, hN⟩ : ∃ N, N = W3.heap.size := ⟨_, rfl⟩
        rw [← hN] at HO
        have hNs : W3.heap.size = N := hN.symm
        have hm1 : 0 + (L.length - A) ≤ maxLen := by unfold maxLen; omega
        have hm2 : (0 + (L.length - A)) * 104 ≤ 140737488355328 := by omega
        have NW1 : ∀ j u, nw[j]? = some u → W3.cell? ((⟨b, off + A * 7, none⟩ : Addr).add j) = some u := fun j u h => (NW j u h).1
        have NW2 : ∀ u ∈ nw, u.oneCell' = true := fun u hu => by
          obtain ⟨j, hj, rfl⟩ := List.getElem_of_mem hu
          exact (NW j _ (List.getElem?_eq_getElem hj)).2
        clear NW hnw HR3
        rw [hW3] at HO NW1 hNs
        go_wp2_with (at_builtin; refine wpList_append_lies _ rfl _ _ 35 rfl N 55 i0 _ 7 104 Tryz.underlying35 hi hq0 hq1 hq2 rfl (by decide) (.slice none 0 0) 0 [] rfl HO.out ⟨b, off + A * 7, none⟩ (L.length - A) (cap - A) nw rfl hnl NW1 NW2 (by omega) hm1 hm2 (Nat.le_of_eq hNs.symm) _ rfl ?_)
        intro g1 cap1 w4 ho4 hg4 hat4 hlt4
        simp only [Nat.zero_add, List.nil_append] at ho4 ⊢
        rw [← hW3] at hg4 hNs
        have hb34 : Below W3.heap.size W3 w4 := (Below.refl W3.heap.size W3).grown hg4 (Nat.le_refl _) (fun k hk => by cases hk)
        have HO4 := Lib.hid ho4
        have HR3 := HR.out.below B3a.out
        rw [← hn3]
        clear hg4 hat4 hlt4 hW3 hn3 hal NW1 NW2 hm1 hm2 HO hN
        by_cases hA0 : A = 0
        · exfalso; omega
        · have NWa := news_cell (HR3.take A)
          have hn2l := news_len W3 ⟨b, off, none⟩ (L.take A).length
          have HE2 := Lib.hid (news_el (HR3.take A))
          obtain ⟨nu, hnu⟩ : ∃ nu, nu = newsR W3 ⟨b, off, none⟩ (L.take A).length := ⟨_, rfl⟩
          rw [← hnu] at NWa hn2l HE2
          have htl : (L.take A).length = A := by rw [List.length_take]; omega
          rw [htl] at hn2l
          have hbW : b < W3.heap.size := by
            obtain ⟨b', off', n, k', t, i, s, l', ks, av, c, kv, kc, h0, h1, h2, _⟩ := HR3 0 (by omega)
            cases h1
            exact h2
          have NWb : ∀ j u, nu[j]? = some u → w4.cell? ((⟨b, off, none⟩ : Addr).add j) = some u := fun j u h => by
            have h1 := (NWa j u h).1
            rw [addr_plus] at h1 ⊢
            exact (hb34.cell (p := ⟨b, off + j, none⟩) hbW).trans h1
          have NWc : ∀ u ∈ nu, u.oneCell' = true := fun u hu => by
            obtain ⟨j, hj, rfl⟩ := List.getElem_of_mem hu
            exact (NWa j _ (List.getElem?_eq_getElem hj)).2
          have hm1 : L.length - A + A ≤ maxLen := by unfold maxLen; omega
          have hm2 : (L.length - A + A) * 104 ≤ 140737488355328 := by omega
          have hNw : N ≤ w4.heap.size := by have := hb34.size; omega
          have HB34 := Lib.hid hb34
          clear NWa hnu HR3 hb34 ho4
          go_wp2_with (at_builtin; refine wpList_append_lies _ rfl _ _ 35 rfl N 55 i0 _ 7 104 Tryz.underlying35 hi hq0 hq1 hq2 rfl (by decide) (.slice (some ⟨g1, 0, none⟩) (L.length - A) cap1) (L.length - A) nw rfl HO4.out ⟨b, off, none⟩ A cap nu rfl hn2l NWb NWc (by omega) hm1 hm2 hNw _ rfl ?_)
          intro g2 cap2 w5 ho5 hg5 hat5 hlt5
          have hbq : Below W3.heap.size W3 w5 := HB34.out.grown hg5 HB34.out.size (fun k hk => by have := (HO4.out.lt k hk).1; omega)
          have hdl : (L.drop A ++ L.take A).length = L.length - A + A := by rw [List.length_append, List.length_drop, htl]
          obtain ⟨aq, cq, eq, q1, q2, hRQ⟩ := own_readsR (m := m) (l := L.drop A ++ L.take A) ho5 hdl.symm (fun j hj => (el_two HE1.out HE2.out (by rw [hnl, List.length_drop]) j hj).mono rfl (fun _ _ _ => rfl) (fun _ _ _ _ h => ⟨h.1.below hbq, ReadsV.below hbq m _ _ h.2⟩))
          injection eq with eq1 eq2 eq3
          subst eq1 eq3
          have MQ := Lib.hid (by have h := map_any m _ (L.drop A ++ L.take A) cap2 w5 hRQ (by omega); rwa [HPD.out.1, if_pos rfl, HPD.out.2, hdl] at h)
          clear hRQ hdl q1 q2 eq2 ho5 hg5 hat5 hlt5 HE1 HE2 hnl hn2l NWb NWc hm1 hm2 hNw htl
          have BQ := Lib.hid (B3a.out.trans (hbq.mono B3a.out.size))
          have CXQ := Lib.hid (CX.out.below hbq)
          have HXQ := Lib.hid (HX3.out.below hbq)
          clear hbq
          go_wp2_with fail
          go_fit MQ.out
          rintro e w6 ⟨R, rfl, hR, hb⟩
          obtain ⟨ay, cy, ky, cky, rfl, _⟩ := isV_stb hR
          have HY := Lib.hid hR.here
          have hal : Below w6.heap.size w6 (w6.alloc (.cells #[.int .i64 k1, .bool t1, .int .i64 i1, .string s1, .slice ay l1.length cy, .slice ky ks1.length cky] 25)) := (Below.refl _ _).alloc (Nat.le_refl _) _
          have B6 := Lib.hid (BQ.out.trans (hb.mono BQ.out.size))
          have B6a := Lib.hid (B6.out.trans (hal.mono B6.out.size))
          have HX6 := Lib.hid ((HXQ.out.below hb).below hal)
          have CX6 := Lib.hid ((CXQ.out.below hb).below hal)
          have HY6 := Lib.hid (HY.out.below hal)
          have CY := Lib.hid (CellsAt.new w6 25 #[.int .i64 k1, .bool t1, .int .i64 i1, .string s1, .slice ay l1.length cy, .slice ky ks1.length cky])
          obtain ⟨n4, hn4⟩ : ∃ n4, n4 = w6.heap.size := ⟨_, rfl⟩
          obtain ⟨W6, hW6⟩ : ∃ W6, W6 = w6.alloc (.cells #[.int .i64 k1, .bool t1, .int .i64 i1, .string s1, .slice ay l1.length cy, .slice ky ks1.length cky] 25) := ⟨_, rfl⟩
          rw [← hW6] at B6a HX6 CX6 HY6 CY
          rw [← hn4] at CY
          clear hb HXQ CXQ HY BQ
          have x0 : W6.cell? ⟨n3, 0, none⟩ = some (.int .i64 k1) := CX6.out.cell rfl
          have x1 : W6.cell? ⟨n3, 1, none⟩ = some (.bool t1) := CX6.out.cell rfl
          have x2 : W6.cell? ⟨n3, 2, none⟩ = some (.int .i64 i1) := CX6.out.cell rfl
          have x3 : W6.cell? ⟨n3, 3, none⟩ = some (.string s1) := CX6.out.cell rfl
          have x4 : W6.cell? ⟨n3, 4, none⟩ = some (.slice ax l1.length cx) := CX6.out.cell rfl
          have x5 : W6.cell? ⟨n3, 5, none⟩ = some (.slice kx ks1.length ckx) := CX6.out.cell rfl
          have y0 : W6.cell? ⟨n4, 0, none⟩ = some (.int .i64 k1) := CY.out.cell rfl
          have y1 : W6.cell? ⟨n4, 1, none⟩ = some (.bool t1) := CY.out.cell rfl
          have y2 : W6.cell? ⟨n4, 2, none⟩ = some (.int .i64 i1) := CY.out.cell rfl
          have y3 : W6.cell? ⟨n4, 3, none⟩ = some (.string s1) := CY.out.cell rfl
          have y4 : W6.cell? ⟨n4, 4, none⟩ = some (.slice ay l1.length cy) := CY.out.cell rfl
          have y5 : W6.cell? ⟨n4, 5, none⟩ = some (.slice ky ks1.length cky) := CY.out.cell rfl
          rw [hW6] at x0 x1 x2 x3 x4 x5 y0 y1 y2 y3 y4 y5
          rw [hn4] at y0 y1 y2 y3 y4 y5
          go_wp2_with fail
          rw [← hW6]
          clear hal B6 x0 x1 x2 x3 x4 x5 y0 y1 y2 y3 y4 y5
          go_fit (same_self HX6.out HY6.out)
          rintro e w8 ⟨rfl, hb⟩
          have B8 := Lib.hid (B6a.out.trans (hb.mono B6a.out.size))
          have CX8 := Lib.hid (CX6.out.below hb)
          have VX := Lib.hid (validV_any _ _ _ w8 (HX6.out.below hb))
          rw [HV16.out] at VX
          clear hb
          have x0 : w8.cell? ⟨n3, 0, none⟩ = some (.int .i64 k1) := CX8.out.cell rfl
          have x1 : w8.cell? ⟨n3, 1, none⟩ = some (.bool t1) := CX8.out.cell rfl
          have x2 : w8.cell? ⟨n3, 2, none⟩ = some (.int .i64 i1) := CX8.out.cell rfl
          have x3 : w8.cell? ⟨n3, 3, none⟩ = some (.string s1) := CX8.out.cell rfl
          have x4 : w8.cell? ⟨n3, 4, none⟩ = some (.slice ax l1.length cx) := CX8.out.cell rfl
          have x5 : w8.cell? ⟨n3, 5, none⟩ = some (.slice kx ks1.length ckx) := CX8.out.cell rfl
          go_wp2_with fail
          go_fit VX.out
          rintro e w9 ⟨rfl, hb⟩
          have B9 := Lib.hid (B8.out.trans (hb.mono B8.out.size))
          clear hb x0 x1 x2 x3 x4 x5
          go_wp2_with fail
          go_fit (awake_any _ (tabP_below HT.out B9.out))
          rintro e wa ⟨rfl, hb⟩
          have Ba := Lib.hid (B9.out.trans (hb.mono B9.out.size))
          clear hb
          go_wp2_with fail
          go_ret
          exact ⟨rfl, Ba.out⟩
      · obtain ⟨A, hA⟩ : ∃ A : Nat, r = (A : Int) := ⟨r.toNat, by omega⟩
        subst hA
        have hAl : A < L.length := by omega
        have hge : ¬ (A : Int) < 0 := by omega
        have hsl1 := fun w => slice_fromR b off L.length cap A (by omega) (by omega) w
        have hsl2 := fun w => slice_toR ⟨b, off, none⟩ L.length cap A (by omega) w
        have HPD := Lib.hid (HP.out (L.drop A ++ L.take A) (List.perm_append_comm.trans (by rw [List.take_append_drop])))
        have HP0 := Lib.hid (show A = 0 → errVs (L.drop A) = 0 ∧ mapV (L.drop A) = .mk k1 t1 i1 s1 l1 ks1 from fun h => by rw [h, List.drop_zero]; exact HP.out L (List.Perm.refl _))
        clear HP
        go_enter Tryz.func8, Tryz.ntmps8
        go_wp2_with fail
        go_fit (MP.out _ (Below.refl _ _))
        rintro e w3 ⟨R, rfl, hR, hb⟩
        obtain ⟨ax, cx, kx, ckx, rfl, _⟩ := isV_stb hR
        have HX := Lib.hid hR.here
        have hal : Below w3.heap.size w3 (w3.alloc (.cells #[.int .i64 k1, .bool t1, .int .i64 i1, .string s1, .slice ax l1.length cx, .slice kx ks1.length ckx] 25)) := (Below.refl _ _).alloc (Nat.le_refl _) _
        have B3a := Lib.hid (hb.trans (hal.mono hb.size))
        have HX3 := Lib.hid (HX.out.below hal)
        have CX := Lib.hid (CellsAt.new w3 25 #[.int .i64 k1, .bool t1, .int .i64 i1, .string s1, .slice ax l1.length cx, .slice kx ks1.length ckx])
        obtain ⟨n3, hn3⟩ : ∃ n3, n3 = w3.heap.size := ⟨_, rfl⟩
        clear hb hR HX
        obtain ⟨W3, hW3⟩ : ∃ W3, W3 = w3.alloc (.cells #[.int .i64 k1, .bool t1, .int .i64 i1, .string s1, .slice ax l1.length cx, .slice kx ks1.length ckx] 25) := ⟨_, rfl⟩
        rw [← hW3] at B3a HX3 CX
        rw [← hn3] at CX
        have HR3 := HR.out.below B3a.out
        have NW := news_cell (HR3.drop A)
        have hnl := news_len W3 ⟨b, off + A * 7, none⟩ (L.drop A).length
        have HE1 := Lib.hid (news_el (HR3.drop A))
        obtain ⟨nw, hnw⟩ : ∃ nw, nw = newsR W3 ⟨b, off + A * 7, none⟩ (L.drop A).length := ⟨_, rfl⟩
        rw [← hnw] at NW hnl HE1
        rw [List.length_drop] at hnl
        obtain ⟨i0, hi, hq0, hq1, hq2⟩ := info_parts infoVar
        have HO := Lib.hid (World.ownsRow_nil W3 W3.heap.size 55 7)
        obtain ⟨N, hN⟩ : ∃ N, N = W3.heap.size := ⟨_, rfl⟩
        rw [← hN] at HO
        have hNs : W3.heap.size = N := hN.symm
        have hm1 : 0 + (L.length - A) ≤ maxLen := by unfold maxLen; omega
        have hm2 : (0 + (L.length - A)) * 104 ≤ 140737488355328 := by omega
        have NW1 : ∀ j u, nw[j]? = some u → W3.cell? ((⟨b, off + A * 7, none⟩ : Addr).add j) = some u := fun j u h => (NW j u h).1
        have NW2 : ∀ u ∈ nw, u.oneCell' = true := fun u hu => by
          obtain ⟨j, hj, rfl⟩ := List.getElem_of_mem hu
          exact (NW j _ (List.getElem?_eq_getElem hj)).2
        clear NW hnw HR3
        rw [hW3] at HO NW1 hNs
        go_wp2_with (at_builtin; refine wpList_append_lies _ rfl _ _ 35 rfl N 55 i0 _ 7 104 Tryz.underlying35 hi hq0 hq1 hq2 rfl (by decide) (.slice none 0 0) 0 [] rfl HO.out ⟨b, off + A * 7, none⟩ (L.length - A) (cap - A) nw rfl hnl NW1 NW2 (by omega) hm1 hm2 (Nat.le_of_eq hNs.symm) _ rfl ?_)
        intro g1 cap1 w4 ho4 hg4 hat4 hlt4
        simp only [Nat.zero_add, List.nil_append] at ho4 ⊢
        rw [← hW3] at hg4 hNs
        have hb34 : Below W3.heap.size W3 w4 := (Below.refl W3.heap.size W3).grown hg4 (Nat.le_refl _) (fun k hk => by cases hk)
        have HO4 := Lib.hid ho4
        have HR3 := HR.out.below B3a.out
        rw [← hn3]
        clear hg4 hat4 hlt4 hW3 hn3 hal NW1 NW2 hm1 hm2 HO hN
        by_cases hA0 : A = 0
        · have hdl : (L.drop A).length = L.length - A := List.length_drop
          have HPA := Lib.hid (HP0.out hA0)
          obtain ⟨aq, cq, eq, q1, q2, hRQ⟩ := own_readsR (m := m) (l := L.drop A) ho4 hdl.symm (fun j hj => (HE1.out j hj).mono rfl (fun _ _ _ => rfl) (fun _ _ _ _ h => ⟨h.1.below hb34, ReadsV.below hb34 m _ _ h.2⟩))
          injection eq with eq1 eq2 eq3
          subst eq1 eq3
          have hle : L.length - A ≤ cap1 := by omega
          have MQ := Lib.hid (by have h := map_any m _ (L.drop A) cap1 w4 hRQ (by omega); rwa [HPA.out.1, if_pos rfl, HPA.out.2, hdl, show L.length - A = L.length by omega] at h)
          have hbq := hb34
          clear hRQ hdl q1 q2 eq2 hb34 ho4 HE1 HR3 hnl
          go_wp2_with (at_builtin; refine wpList_append_zero rfl _ _ 35 rfl 55 i0 Tryz.underlying35 hi (some ⟨g1, 0, none⟩) (L.length - A) cap1 hle rfl ⟨b, off, none⟩ cap A hA0 rfl ?_)
          have BQ := Lib.hid (B3a.out.trans (hbq.mono B3a.out.size))
          have CXQ := Lib.hid (CX.out.below hbq)
          have HXQ := Lib.hid (HX3.out.below hbq)
          clear hbq
          go_wp2_with fail
          go_fit MQ.out
          rintro e w6 ⟨R, rfl, hR, hb⟩
          obtain ⟨ay, cy, ky, cky, rfl, _⟩ := isV_stb hR
          have HY := Lib.hid hR.here
          have hal : Below w6.heap.size w6 (w6.alloc (.cells #[.int .i64 k1, .bool t1, .int .i64 i1, .string s1, .slice ay l1.length cy, .slice ky ks1.length cky] 25)) := (Below.refl _ _).alloc (Nat.le_refl _) _
          have B6 := Lib.hid (BQ.out.trans (hb.mono BQ.out.size))
          have B6a := Lib.hid (B6.out.trans (hal.mono B6.out.size))
          have HX6 := Lib.hid ((HXQ.out.below hb).below hal)
          have CX6 := Lib.hid ((CXQ.out.below hb).below hal)
          have HY6 := Lib.hid (HY.out.below hal)
          have CY := Lib.hid (CellsAt.new w6 25 #[.int .i64 k1, .bool t1, .int .i64 i1, .string s1, .slice ay l1.length cy, .slice ky ks1.length cky])
          obtain ⟨n4, hn4⟩ : ∃ n4, n4 = w6.heap.size := ⟨_, rfl⟩
          obtain ⟨W6, hW6⟩ : ∃ W6, W6 = w6.alloc (.cells #[.int .i64 k1, .bool t1, .int .i64 i1, .string s1, .slice ay l1.length cy, .slice ky ks1.length cky] 25) := ⟨_, rfl⟩
          rw [← hW6] at B6a HX6 CX6 HY6 CY
          rw [← hn4] at CY
          clear hb HXQ CXQ HY BQ
          have x0 : W6.cell? ⟨n3, 0, none⟩ = some (.int .i64 k1) := CX6.out.cell rfl
          have x1 : W6.cell? ⟨n3, 1, none⟩ = some (.bool t1) := CX6.out.cell rfl
          have x2 : W6.cell? ⟨n3, 2, none⟩ = some (.int .i64 i1) := CX6.out.cell rfl
          have x3 : W6.cell? ⟨n3, 3, none⟩ = some (.string s1) := CX6.out.cell rfl
          have x4 : W6.cell? ⟨n3, 4, none⟩ = some (.slice ax l1.length cx) := CX6.out.cell rfl
          have x5 : W6.cell? ⟨n3, 5, none⟩ = some (.slice kx ks1.length ckx) := CX6.out.cell rfl
          have y0 : W6.cell? ⟨n4, 0, none⟩ = some (.int .i64 k1) := CY.out.cell rfl
          have y1 : W6.cell? ⟨n4, 1, none⟩ = some (.bool t1) := CY.out.cell rfl
          have y2 : W6.cell? ⟨n4, 2, none⟩ = some (.int .i64 i1) := CY.out.cell rfl
          have y3 : W6.cell? ⟨n4, 3, none⟩ = some (.string s1) := CY.out.cell rfl
          have y4 : W6.cell? ⟨n4, 4, none⟩ = some (.slice ay l1.length cy) := CY.out.cell rfl
          have y5 : W6.cell? ⟨n4, 5, none⟩ = some (.slice ky ks1.length cky) := CY.out.cell rfl
          rw [hW6] at x0 x1 x2 x3 x4 x5 y0 y1 y2 y3 y4 y5
          rw [hn4] at y0 y1 y2 y3 y4 y5
          go_wp2_with fail
          rw [← hW6]
          clear hal B6 x0 x1 x2 x3 x4 x5 y0 y1 y2 y3 y4 y5
          go_fit (same_self HX6.out HY6.out)
          rintro e w8 ⟨rfl, hb⟩
          have B8 := Lib.hid (B6a.out.trans (hb.mono B6a.out.size))
          have CX8 := Lib.hid (CX6.out.below hb)
          have VX := Lib.hid (validV_any _ _ _ w8 (HX6.out.below hb))
          rw [HV16.out] at VX
          clear hb
          have x0 : w8.cell? ⟨n3, 0, none⟩ = some (.int .i64 k1) := CX8.out.cell rfl
          have x1 : w8.cell? ⟨n3, 1, none⟩ = some (.bool t1) := CX8.out.cell rfl
          have x2 : w8.cell? ⟨n3, 2, none⟩ = some (.int .i64 i1) := CX8.out.cell rfl
          have x3 : w8.cell? ⟨n3, 3, none⟩ = some (.string s1) := CX8.out.cell rfl
          have x4 : w8.cell? ⟨n3, 4, none⟩ = some (.slice ax l1.length cx) := CX8.out.cell rfl
          have x5 : w8.cell? ⟨n3, 5, none⟩ = some (.slice kx ks1.length ckx) := CX8.out.cell rfl
          go_wp2_with fail
          go_fit VX.out
          rintro e w9 ⟨rfl, hb⟩
          have B9 := Lib.hid (B8.out.trans (hb.mono B8.out.size))
          clear hb x0 x1 x2 x3 x4 x5
          go_wp2_with fail
          go_fit (awake_any _ (tabP_below HT.out B9.out))
          rintro e wa ⟨rfl, hb⟩
          have Ba := Lib.hid (B9.out.trans (hb.mono B9.out.size))
          clear hb
          go_wp2_with fail
          go_ret
          exact ⟨rfl, Ba.out⟩
        · have NWa := news_cell (HR3.take A)
          have hn2l := news_len W3 ⟨b, off, none⟩ (L.take A).length
          have HE2 := Lib.hid (news_el (HR3.take A))
          obtain ⟨nu, hnu⟩ : ∃ nu, nu = newsR W3 ⟨b, off, none⟩ (L.take A).length := ⟨_, rfl⟩
          rw [← hnu] at NWa hn2l HE2
          have htl : (L.take A).length = A := by rw [List.length_take]; omega
          rw [htl] at hn2l
          have hbW : b < W3.heap.size := by
            obtain ⟨b', off', n, k', t, i, s, l', ks, av, c, kv, kc, h0, h1, h2, _⟩ := HR3 0 (by omega)
            cases h1
            exact h2
          have NWb : ∀ j u, nu[j]? = some u → w4.cell? ((⟨b, off, none⟩ : Addr).add j) = some u := fun j u h => by
            have h1 := (NWa j u h).1
            rw [addr_plus] at h1 ⊢
            exact (hb34.cell (p := ⟨b, off + j, none⟩) hbW).trans h1
          have NWc : ∀ u ∈ nu, u.oneCell' = true := fun u hu => by
            obtain ⟨j, hj, rfl⟩ := List.getElem_of_mem hu
            exact (NWa j _ (List.getElem?_eq_getElem hj)).2
          have hm1 : L.length - A + A ≤ maxLen := by unfold maxLen; omega
          have hm2 : (L.length - A + A) * 104 ≤ 140737488355328 := by omega
          have hNw : N ≤ w4.heap.size := by have := hb34.size; omega
          have HB34 := Lib.hid hb34
          clear NWa hnu HR3 hb34 ho4
          go_wp2_with (at_builtin; refine wpList_append_lies _ rfl _ _ 35 rfl N 55 i0 _ 7 104 Tryz.underlying35 hi hq0 hq1 hq2 rfl (by decide) (.slice (some ⟨g1, 0, none⟩) (L.length - A) cap1) (L.length - A) nw rfl HO4.out ⟨b, off, none⟩ A cap nu rfl hn2l NWb NWc (by omega) hm1 hm2 hNw _ rfl ?_)
          intro g2 cap2 w5 ho5 hg5 hat5 hlt5
          have hbq : Below W3.heap.size W3 w5 := HB34.out.grown hg5 HB34.out.size (fun k hk => by have := (HO4.out.lt k hk).1; omega)
          have hdl : (L.drop A ++ L.take A).length = L.length - A + A := by rw [List.length_append, List.length_drop, htl]
          obtain ⟨aq, cq, eq, q1, q2, hRQ⟩ := own_readsR (m := m) (l := L.drop A ++ L.take A) ho5 hdl.symm (fun j hj => (el_two HE1.out HE2.out (by rw [hnl, List.length_drop]) j hj).mono rfl (fun _ _ _ => rfl) (fun _ _ _ _ h => ⟨h.1.below hbq, ReadsV.below hbq m _ _ h.2⟩))
          injection eq with eq1 eq2 eq3
          subst eq1 eq3
          have MQ := Lib.hid (by have h := map_any m _ (L.drop A ++ L.take A) cap2 w5 hRQ (by omega); rwa [HPD.out.1, if_pos rfl, HPD.out.2, hdl] at h)
          clear hRQ hdl q1 q2 eq2 ho5 hg5 hat5 hlt5 HE1 HE2 hnl hn2l NWb NWc hm1 hm2 hNw htl
          have BQ := Lib.hid (B3a.out.trans (hbq.mono B3a.out.size))
          have CXQ := Lib.hid (CX.out.below hbq)
          have HXQ := Lib.hid (HX3.out.below hbq)
          clear hbq
          go_wp2_with fail
          go_fit MQ.out
          rintro e w6 ⟨R, rfl, hR, hb⟩
          obtain ⟨ay, cy, ky, cky, rfl, _⟩ := isV_stb hR
          have HY := Lib.hid hR.here
          have hal : Below w6.heap.size w6 (w6.alloc (.cells #[.int .i64 k1, .bool t1, .int .i64 i1, .string s1, .slice ay l1.length cy, .slice ky ks1.length cky] 25)) := (Below.refl _ _).alloc (Nat.le_refl _) _
          have B6 := Lib.hid (BQ.out.trans (hb.mono BQ.out.size))
          have B6a := Lib.hid (B6.out.trans (hal.mono B6.out.size))
          have HX6 := Lib.hid ((HXQ.out.below hb).below hal)
          have CX6 := Lib.hid ((CXQ.out.below hb).below hal)
          have HY6 := Lib.hid (HY.out.below hal)
          have CY := Lib.hid (CellsAt.new w6 25 #[.int .i64 k1, .bool t1, .int .i64 i1, .string s1, .slice ay l1.length cy, .slice ky ks1.length cky])
          obtain ⟨n4, hn4⟩ : ∃ n4, n4 = w6.heap.size := ⟨_, rfl⟩
          obtain ⟨W6, hW6⟩ : ∃ W6, W6 = w6.alloc (.cells #[.int .i64 k1, .bool t1, .int .i64 i1, .string s1, .slice ay l1.length cy, .slice ky ks1.length cky] 25) := ⟨_, rfl⟩
          rw [← hW6] at B6a HX6 CX6 HY6 CY
          rw [← hn4] at CY
          clear hb HXQ CXQ HY BQ
          have x0 : W6.cell? ⟨n3, 0, none⟩ = some (.int .i64 k1) := CX6.out.cell rfl
          have x1 : W6.cell? ⟨n3, 1, none⟩ = some (.bool t1) := CX6.out.cell rfl
          have x2 : W6.cell? ⟨n3, 2, none⟩ = some (.int .i64 i1) := CX6.out.cell rfl
          have x3 : W6.cell? ⟨n3, 3, none⟩ = some (.string s1) := CX6.out.cell rfl
          have x4 : W6.cell? ⟨n3, 4, none⟩ = some (.slice ax l1.length cx) := CX6.out.cell rfl
          have x5 : W6.cell? ⟨n3, 5, none⟩ = some (.slice kx ks1.length ckx) := CX6.out.cell rfl
          have y0 : W6.cell? ⟨n4, 0, none⟩ = some (.int .i64 k1) := CY.out.cell rfl
          have y1 : W6.cell? ⟨n4, 1, none⟩ = some (.bool t1) := CY.out.cell rfl
          have y2 : W6.cell? ⟨n4, 2, none⟩ = some (.int .i64 i1) := CY.out.cell rfl
          have y3 : W6.cell? ⟨n4, 3, none⟩ = some (.string s1) := CY.out.cell rfl
          have y4 : W6.cell? ⟨n4, 4, none⟩ = some (.slice ay l1.length cy) := CY.out.cell rfl
          have y5 : W6.cell? ⟨n4, 5, none⟩ = some (.slice ky ks1.length cky) := CY.out.cell rfl
          rw [hW6] at x0 x1 x2 x3 x4 x5 y0 y1 y2 y3 y4 y5
          rw [hn4] at y0 y1 y2 y3 y4 y5
          go_wp2_with fail
          rw [← hW6]
          clear hal B6 x0 x1 x2 x3 x4 x5 y0 y1 y2 y3 y4 y5
          go_fit (same_self HX6.out HY6.out)
          rintro e w8 ⟨rfl, hb⟩
          have B8 := Lib.hid (B6a.out.trans (hb.mono B6a.out.size))
          have CX8 := Lib.hid (CX6.out.below hb)
          have VX := Lib.hid (validV_any _ _ _ w8 (HX6.out.below hb))
          rw [HV16.out] at VX
          clear hb
          have x0 : w8.cell? ⟨n3, 0, none⟩ = some (.int .i64 k1) := CX8.out.cell rfl
          have x1 : w8.cell? ⟨n3, 1, none⟩ = some (.bool t1) := CX8.out.cell rfl
          have x2 : w8.cell? ⟨n3, 2, none⟩ = some (.int .i64 i1) := CX8.out.cell rfl
          have x3 : w8.cell? ⟨n3, 3, none⟩ = some (.string s1) := CX8.out.cell rfl
          have x4 : w8.cell? ⟨n3, 4, none⟩ = some (.slice ax l1.length cx) := CX8.out.cell rfl
          have x5 : w8.cell? ⟨n3, 5, none⟩ = some (.slice kx ks1.length ckx) := CX8.out.cell rfl
          go_wp2_with fail
          go_fit VX.out
          rintro e w9 ⟨rfl, hb⟩
          have B9 := Lib.hid (B8.out.trans (hb.mono B8.out.size))
          clear hb x0 x1 x2 x3 x4 x5
          go_wp2_with fail
          go_fit (awake_any _ (tabP_below HT.out B9.out))
          rintro e wa ⟨rfl, hb⟩
          have Ba := Lib.hid (B9.out.trans (hb.mono B9.out.size))
          clear hb
          go_wp2_with fail
          go_ret
          exact ⟨rfl, Ba.out⟩
  · obtain ⟨er, her⟩ : ∃ er, er = errVs L := ⟨_, rfl⟩
    rw [if_neg h0, ← her] at MP
    rw [← her] at h0
    have g1 : ((er : Int) != 0) = true := by rw [bne_iff_ne]; omega
    obtain ⟨G, hG⟩ : ∃ G, G = zeroV := ⟨_, rfl⟩
    rw [← hG] at MP
    obtain ⟨k1, t1, i1, s1, l1, ks1⟩ := G
    clear hG h0 her hT hk hm hr
    go_enter Tryz.func8, Tryz.ntmps8
    go_wp2_with fail
    go_fit (MP.out _ (Below.refl _ _))
    rintro e w3 ⟨R, rfl, hR, hb⟩
    obtain ⟨ax, cx, kx, ckx, rfl, _⟩ := isV_stb hR
    have HX := Lib.hid hR.here
    have hal : Below w3.heap.size w3 (w3.alloc (.cells #[.int .i64 k1, .bool t1, .int .i64 i1, .string s1, .slice ax l1.length cx, .slice kx ks1.length ckx] 25)) := (Below.refl _ _).alloc (Nat.le_refl _) _
    have B3a := Lib.hid (hb.trans (hal.mono hb.size))
    have HX3 := Lib.hid (HX.out.below hal)
    have CX := Lib.hid (CellsAt.new w3 25 #[.int .i64 k1, .bool t1, .int .i64 i1, .string s1, .slice ax l1.length cx, .slice kx ks1.length ckx])
    obtain ⟨n3, hn3⟩ : ∃ n3, n3 = w3.heap.size := ⟨_, rfl⟩
    clear hb hR HX
    obtain ⟨W3, hW3⟩ : ∃ W3, W3 = w3.alloc (.cells #[.int .i64 k1, .bool t1, .int .i64 i1, .string s1, .slice ax l1.length cx, .slice kx ks1.length ckx] 25) := ⟨_, rfl⟩
    rw [← hW3] at B3a HX3 CX
    rw [← hn3] at CX
    go_wp2_with fail
    rw [← hW3]
    clear hW3 hn3 hal
    go_fit (awake_any _ (tabP_below HT.out B3a.out))
    rintro e w9 ⟨rfl, hb⟩
    have B9 := Lib.hid (B3a.out.trans (hb.mono B3a.out.size))
    clear hb
    go_wp2_with fail
    go_ret
    exact ⟨rfl, B9.out⟩

set_option maxRecDepth 100000 in
theorem lifted (os : Os) (started : os.Started) (H : Type) (enc : TypeId × Value → H) :
    ReturnsInHanded {} Tryz.checked os 8 .any (fun w args => (Rows.valueMapsOrderSpec.pre enc Tryz.prog Tryz.f8 Rows.valueMapsOrderRow.domain false w args ∧ laidMetH Tryz.prog laidV w) ∧ sizedMet enc Tryz.prog Tryz.f8 (OpenSpec.ofChange Rows.valueMapsOrderSpec) false w args) (Rows.valueMapsOrderSpec.post enc Tryz.prog Tryz.f8 false true false false) := by
  refine returnsInHanded_of_change_and (C := Tryz.checked) (X := fun w _ => laidMetH Tryz.prog laidV w) (fun _ _ _ hh h => h.of_heap hh) own started (by kernel_rfl) Tryz.func8
    (ChangeSpec.witness_shaped (enc := enc) (C := Tryz.checked) (os := os) (X := fun w _ => laidMetH Tryz.prog laidV w) false (World.laidAll Tryz.prog os laidV) #[.slice none 0 0, .int .i64 0] 8 (World.laidAll_os _ _ _) (World.shaped_of_ZipB (by kernel_rfl) (by kernel_rfl)) (by kernel_rfl) (by kernel_rfl) (by kernel_rfl) (layV_met os _)) ?_
  intro W base args ds gs before hval0 hW hcnd hsz hL _
  have hval : ∀ (j : Nat) t v, Tryz.f8.params[j]? = some t → args[j]? = some v → Value.okWide Tryz.prog W .any base t v := hval0
  have hW' := hW
  obtain ⟨p, q, hA0, hV, rfl, hfz, hnd⟩ := hW
  have hA : DataW.TrodAll enc Tryz.prog W 0 (fun _ => true) true Tryz.f8.params.toList args.toList ds p := hA0
  rw [Tryz.params8] at hA hval hsz
  obtain ⟨v0, vs0, d0, ds0, p0, q0, hargs, rfl, rfl, h0, r0⟩ := trodAll_cons hA
  obtain ⟨v1, vs1, d1, ds1, p1, q1, rfl, rfl, rfl, h1, r1⟩ := trodAll_cons r0
  obtain ⟨rfl, rfl, rfl⟩ := trodAll_nil r1
  obtain rfl : args = #[v0, v1] := by cases args; simp_all
  obtain ⟨rfl, rfl⟩ := trodVars_none hV
  obtain ⟨a0, len0, cap0, rfl⟩ := okWide_slice Tryz.underlying35 (hval 0 35 v0 rfl rfl)
  have k0 := h0
  have lt0 : ∀ x ∈ p0, x.block < W.heap.size := by obtain ⟨m, hm⟩ := k0; exact DataW.trod_lt m _ _ _ hm
  have hw0 : (d0.weights Tryz.prog 35).all (· ≤ reachBytes) = true := List.all_eq_true.2 (fun n hn => List.all_eq_true.1 hsz n (DataW.weights_mem_each (j := 0) (t := 35) rfl rfl n hn))
  obtain ⟨L0, rfl, hc0, hm0, hb0, m0, hr0⟩ : ∃ L : List Vr, len0 = L.length ∧ len0 ≤ cap0 ∧ cap0 ≤ maxLen ∧ L.length * 104 ≤ 140737488351232 ∧ ∃ m, ReadsR m W a0 L := by
    obtain ⟨fuel, hf⟩ := h0
    exact open_vars fuel a0 len0 cap0 _ (by simpa [Value.cells] using hf) hw0
  obtain ⟨a1, rfl, rfl, rfl, w1⟩ := open_int Tryz.underlying3 (hval 1 3 v1 rfl rfl) h1
  clear hA0 hval0
  refine (walk m0 a0 cap0 L0 hc0 hm0 hb0 a1 w1 W (tabV_of hL) hr0).mono fun e W' ⟨he, bel⟩ => ?_
  subst he
  exact ⟨_, rfl, _, _, _, [], _, [], hW', trodAll_mk1 (shut_bool Tryz.underlying4 _), (trodAll_cons_mk (Below.trod laidOut (by kernel_rfl) (of_decide_eq_true (by kernel_rfl)) k0 bel lt0) (trodAll_cons_mk (shut_int Tryz.underlying3 w1) trodAll_mk0)), rfl, bel.frame _, fun h => by cases h⟩

theorem over : Rows.valueMapsOrderRow.holds Tryz.pinned (OpenSpec.ofChange Rows.valueMapsOrderSpec) :=
  OpenClaim.holds_of_wide 8 Tryz.f8 rfl rfl rfl rfl rfl rfl rfl ⟨rfl, rfl, rfl, rfl, rfl⟩ rfl rfl rfl rfl rfl (by kernel_rfl) Tryz.func8 (by kernel_rfl)
    (of_decide_eq_true (by kernel_rfl)) (by unfold Func.isWrapper; first | (rw [if_pos (by decide +kernel)]; kernel_rfl) | (rw [if_neg (by decide +kernel)]; exact ⟨rfl, rfl⟩))
    (fun os started H enc _ => lifted os started H enc)

/-- THE STATEMENT. -/
theorem proved : Rows.ValueMapsOrderCardSaid :=
  Claim7.holds_tied_plain_at .later [] [.data, .data, .data, .data, .pinned] true Rows.valueMapsOrderCard.stood.harness false
    over (fun _ h => by cases h) (by kernel_rfl) (fun _ h => by cases h) valueMapsOrder_row_tie rfl ⟨rfl, rfl⟩ (by kernel_rfl) rfl
    (fun f fn hf hfn => by
      obtain rfl : f = 8 := Option.some.inj ((show Tryz.prog.funcNamed "pipeline/pipelinelaw07.ValueMapsOrder" = some 8 by kernel_rfl).symm.trans hf) |>.symm
      obtain rfl : fn = Tryz.f8 := (Option.some.inj (Tryz.func8.symm.trans hfn)).symm
      exact ⟨by kernel_rfl, fun j t ht => by
        rw [Tryz.params8] at ht
        have hm : t ∈ [35, 3] := by simpa using Array.mem_of_getElem? ht
        have hall : ([35, 3].all fun u => !Tryz.prog.wantsStandIn u) = true := by kernel_rfl
        exact (show Tryz.prog.wantsStandIn t = false by simpa using List.all_eq_true.1 hall t hm)⟩)
    (by kernel_rfl)
#print axioms proved
end Go.Proofs.YtabopneehhnhfaaGreatDoor.valueMapsOrder
