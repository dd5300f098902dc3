/- Contracts of the document's sign, names, lists and Compare (pipelineref07). Contract of the document's Compare (pipelineref07). -/
import Derived.Test.YtabopneehhnhfaaGreatDoorVluG
import Derived.Deep.RegionHeld3
namespace Go.Proofs.YtabopneehhnhfaaGreatDoor
open Go.RowKit Go.Lib

def sgn (b : Bool) : Int := if b = true then -1 else 1
set_option maxHeartbeats 1000000 in
theorem sign_any (b : Bool) (w : World) : Calls Tryz.prog 38 #[.bool b] w fun e w' => e = .returned (.int .i64 (sgn b)) ∧ w' = w := by
  cases b
  all_goals
    go_enter Tryz.func38, Tryz.ntmps38
    go_wp2_with fail
    go_ret
    exact ⟨rfl, rfl⟩
theorem lexC_stop {α : Type} (c : α → α → Int) (a b : List α) (i : Nat) (h1 : i ≤ a.length) (h2 : i ≤ b.length) (h : ¬ (i < a.length ∧ i < b.length)) : lexC c (a.drop i) (b.drop i) = if a.length = b.length then 0 else sgn (decide (a.length < b.length)) := by
  by_cases g1 : i < a.length
  · have : i = b.length := by omega
    rw [lexC_long c a b i g1 (by omega), if_neg (by omega), decide_eq_false (by omega)]
    rfl
  · rw [lexC_end c a b i (by omega) h2]
    by_cases g2 : i < b.length
    · rw [if_pos g2, if_neg (by omega), decide_eq_true (by omega)]
      rfl
    · rw [if_neg g2, if_pos (by omega)]

set_option maxHeartbeats 4000000 in
theorem names_any (av bv : Option Addr) (ca cb : Nat) (K L : List (List UInt8)) (hK : K.length ≤ 9223372036854775000) (hL : L.length ≤ 9223372036854775000) (hk : ∀ x, x ∈ K → x.length ≤ 140737488351232) (hl : ∀ x, x ∈ L → x.length ≤ 140737488351232) (w : World) (hr : ReadsStr w av K) (hs : ReadsStr w bv L) :
    Calls Tryz.prog 40 #[.slice av K.length ca, .slice bv L.length cb] w fun e w' => e = .returned (.int .i64 (lexC cmpL K L)) ∧ Below w.heap.size w w' := by
  have HR := Lib.hid hr
  have HS := Lib.hid hs
  have HK := Lib.hid hk
  have HL := Lib.hid hl
  have SG := Lib.hid (fun b w => sign_any b w)
  clear hr hs hk hl
  go_enter Tryz.func40, Tryz.ntmps40
  go_wp2_with fail
  go_loopw [5] (fun s3 wr => ∃ j : Nat, j ≤ K.length ∧ j ≤ L.length ∧ s3 = .int .i64 (j : Int) ∧ Hid (lexC cmpL K L = lexC cmpL (K.drop j) (L.drop j)) ∧ Hid (Below w.heap.size w wr)) (fun s3 _ => K.length - (RowKit.intOf s3).toNat)
  case atStart => exact ⟨0, by omega, by omega, rfl, Lib.hid rfl, Lib.hid (Below.refl _ _)⟩
  case round =>
    obtain ⟨j, hj, hj2, rfl, HD, HB⟩ := hrel
    by_cases hlt : j < K.length ∧ j < L.length
    · obtain ⟨hlt, hlt2⟩ := hlt
      obtain ⟨b, off, rfl, h2, c0⟩ := HR.out j hlt
      obtain ⟨b2, off2, rfl, h3, d0⟩ := HS.out j hlt2
      have p0 := (HB.out.cell (p := ⟨b, _, none⟩) h2).trans c0
      have q0 := (HB.out.cell (p := ⟨b2, _, none⟩) h3).trans d0
      have h1 := lexC_drop cmpL K L j hlt hlt2
      rw [← HD.out] at h1
      have hk1 := HK.out K[j] (List.getElem_mem hlt)
      have hl1 := HL.out L[j] (List.getElem_mem hlt2)
      have F := Lib.hid (fun w => refCompare_any ⟨K[j].toArray⟩ ⟨L[j].toArray⟩ (by rw [mkS_size]; exact hk1) (by rw [mkS_size]; exact hl1) w)
      simp only at F
      have hrng := cmp_tot.rng K[j] L[j]
      generalize cmpL K[j] L[j] = q at F h1 hrng
      generalize (⟨K[j].toArray⟩ : ByteArray) = x at p0 F
      generalize (⟨L[j].toArray⟩ : ByteArray) = y at q0 F
      have hjI : (j : Int) < (K.length : Int) := by omega
      have hjI2 : (j : Int) < (L.length : Int) := by omega
      have hj0 : (0 : Int) ≤ (j : Int) := by omega
      have H1 := Lib.hid h1
      clear hk1 hl1 c0 d0 h1
      by_cases hq : q = 0
      · have HF := Lib.hid (show lexC cmpL K L = lexC cmpL (K.drop (j + 1)) (L.drop (j + 1)) by rw [H1.out, if_neg (by omega)])
        subst hq
        clear hrng
        go_upto_region 3 with fail
        go_quiet (first | (go_at_call 61; exact Calls.quiet_of (F.out _)))
        have HB2 := Lib.hid (below_drewN HB.out nq)
        go_wp2_with fail
        exact ⟨⟨j + 1, by omega, by omega, by go_num, HF, HB2⟩, by simp [RowKit.intOf]; omega⟩
      · have HF := Lib.hid (show lexC cmpL K L = sgn (decide (q < 0)) by
          rw [H1.out, if_pos hq]
          unfold sgn
          rcases hrng with h | h | h
          · subst h; rfl
          · exact absurd h hq
          · subst h; rfl)
        have hq' : (q != 0) = true := by simpa using hq
        clear hrng
        go_upto_region 3 with fail
        go_quiet (first | (go_at_call 61; exact Calls.quiet_of (F.out _)))
        have HB2 := Lib.hid (below_drewN HB.out nq)
        go_wp2_with fail
        go_fit (SG.out _ _)
        rintro e w1 ⟨rfl, rfl⟩
        go_wp2_with fail
        go_ret
        exact ⟨by rw [HF.out]; rfl, HB2.out⟩
    · have h1 := lexC_stop cmpL K L j hj hj2 hlt
      rw [← HD.out] at h1
      by_cases hn : K.length = L.length
      · have HF := Lib.hid (show lexC cmpL K L = 0 by rw [h1, if_pos hn])
        have hI : ((K.length : Int) == (L.length : Int)) = true := by rw [hn]; exact beq_self_eq_true _
        clear h1
        by_cases hlt1 : j < K.length
        · have hlt2 : ¬ (j : Int) < (L.length : Int) := by omega
          clear hlt
          go_wp2_with fail
          go_ret
          exact ⟨by rw [HF.out]; rfl, HB.out⟩
        · have hlt2 : ¬ (j : Int) < (K.length : Int) := by omega
          clear hlt
          go_wp2_with fail
          go_ret
          exact ⟨by rw [HF.out]; rfl, HB.out⟩
      · have HF := Lib.hid (show lexC cmpL K L = sgn (decide (K.length < L.length)) by rw [h1, if_neg hn])
        have hI : ((K.length : Int) == (L.length : Int)) = false := by rw [beq_eq_false_iff_ne]; omega
        have hD := Lib.hid (show decide ((K.length : Int) < (L.length : Int)) = decide (K.length < L.length) from decide_eq_decide.2 (by omega))
        clear h1
        by_cases hlt1 : j < K.length
        · have hlt2 : ¬ (j : Int) < (L.length : Int) := by omega
          clear hlt
          go_wp2_with fail
          go_fit (SG.out _ _)
          rintro e w1 ⟨rfl, rfl⟩
          go_wp2_with fail
          go_ret
          exact ⟨by rw [HF.out, ← hD.out]; rfl, HB.out⟩
        · have hlt2 : ¬ (j : Int) < (K.length : Int) := by omega
          clear hlt
          go_wp2_with fail
          go_fit (SG.out _ _)
          rintro e w1 ⟨rfl, rfl⟩
          go_wp2_with fail
          go_ret
          exact ⟨by rw [HF.out, ← hD.out]; rfl, HB.out⟩

/-- Compare at values of at most m levels below. -/
def CmpR (m : Nat) : Prop := ∀ (A B : Value) (x y : Vl) (w : World), IsV m w A x → IsV m w B y →
  Calls Tryz.prog 16 #[A, B] w fun e w' => e = .returned (.int .i64 (cmpV m x y)) ∧ Below w.heap.size w w'

set_option maxHeartbeats 4000000 in
theorem lists_any (cf : Vl → Vl → Int) (m : Nat) (IH : ∀ m', m = m' + 1 → cf = cmpV m' ∧ CmpR m') (av bv : Option Addr) (ca cb : Nat) (K L : List Vl) (hK : K.length ≤ 9223372036854775000) (hL : L.length ≤ 9223372036854775000) (w : World) (hr : ReadsV m w av K) (hs : ReadsV m w bv L) :
    Calls Tryz.prog 39 #[.slice av K.length ca, .slice bv L.length cb] w fun e w' => e = .returned (.int .i64 (lexC cf K L)) ∧ Below w.heap.size w w' := by
  have HI := Lib.hid IH
  have HR := Lib.hid hr
  have HS := Lib.hid hs
  have SG := Lib.hid (fun b w => sign_any b w)
  clear hr hs IH
  go_enter Tryz.func39, Tryz.ntmps39
  go_wp2_with fail
  go_loopw [5] (fun s5 wr => ∃ j : Nat, j ≤ K.length ∧ j ≤ L.length ∧ s5 = .int .i64 (j : Int) ∧ Hid (lexC cf K L = lexC cf (K.drop j) (L.drop j)) ∧ Hid (Below w.heap.size w wr)) (fun s5 _ => K.length - (RowKit.intOf s5).toNat)
  case atStart => exact ⟨0, by omega, by omega, rfl, Lib.hid rfl, Lib.hid (Below.refl _ _)⟩
  case round =>
    obtain ⟨j, hj, hj2, rfl, HD, HB⟩ := hrel
    by_cases hlt : j < K.length ∧ j < L.length
    · obtain ⟨hlt, hlt2⟩ := hlt
      cases m with
      | zero => exact absurd hlt (by have h : K = [] := HR.out; rw [h]; simp)
      | succ m =>
      obtain ⟨b, off, k1, t1, i1, s1, l1, ks1, av1, c1, kv1, kc1, h0, rfl, h2, e0, e1, e2, e3, e4, e5, q0, q1, q2, q3, q4, q5, q6, q7, q8, q9, hs1, hl1⟩ := HR.out j hlt
      obtain ⟨b2, off2, k3, t3, i3, s3, l3, ks3, av3, c3, kv3, kc3, f0, rfl, f2, d0, d1, d2, d3, d4, d5, r0, r1, r2, r3, r4, r5, r6, r7, r8, r9, hs3, hl3⟩ := HS.out j hlt2
      have p0 := (HB.out.cell (p := ⟨b, _, none⟩) h2).trans e0
      have p1 := (HB.out.cell (p := ⟨b, _, none⟩) h2).trans e1
      have p2 := (HB.out.cell (p := ⟨b, _, none⟩) h2).trans e2
      have p3 := (HB.out.cell (p := ⟨b, _, none⟩) h2).trans e3
      have p4 := (HB.out.cell (p := ⟨b, _, none⟩) h2).trans e4
      have p5 := (HB.out.cell (p := ⟨b, _, none⟩) h2).trans e5
      have o0 := (HB.out.cell (p := ⟨b2, _, none⟩) f2).trans d0
      have o1 := (HB.out.cell (p := ⟨b2, _, none⟩) f2).trans d1
      have o2 := (HB.out.cell (p := ⟨b2, _, none⟩) f2).trans d2
      have o3 := (HB.out.cell (p := ⟨b2, _, none⟩) f2).trans d3
      have o4 := (HB.out.cell (p := ⟨b2, _, none⟩) f2).trans d4
      have o5 := (HB.out.cell (p := ⟨b2, _, none⟩) f2).trans d5
      have h1 := lexC_drop cf K L j hlt hlt2
      have hx : K[j] = .mk k1 t1 i1 s1 l1 ks1 := (List.getElem?_eq_some_iff.1 h0).2
      have hy : L[j] = .mk k3 t3 i3 s3 l3 ks3 := (List.getElem?_eq_some_iff.1 f0).2
      rw [← HD.out, hx, hy] at h1
      obtain ⟨hce, hcp⟩ := HI.out m rfl
      have F := Lib.hid (fun w' (hb : Below w.heap.size w w') => hcp (.agg #[.int .i64 k1, .bool t1, .int .i64 i1, .string s1, .slice av1 l1.length c1, .slice kv1 ks1.length kc1]) (.agg #[.int .i64 k3, .bool t3, .int .i64 i3, .string s3, .slice av3 l3.length c3, .slice kv3 ks3.length kc3]) (.mk k1 t1 i1 s1 l1 ks1) (.mk k3 t3 i3 s3 l3 ks3) w'
        (IsV.below ⟨k1, t1, i1, s1, l1, ks1, av1, c1, kv1, kc1, rfl, rfl, q0, q1, q2, q3, q4, q5, q6, q7, q8, q9, hs1, hl1⟩ hb) (IsV.below ⟨k3, t3, i3, s3, l3, ks3, av3, c3, kv3, kc3, rfl, rfl, r0, r1, r2, r3, r4, r5, r6, r7, r8, r9, hs3, hl3⟩ hb))
      rw [← hce] at F
      generalize cf (.mk k1 t1 i1 s1 l1 ks1) (.mk k3 t3 i3 s3 l3 ks3) = q at F h1
      have hjI : (j : Int) < (K.length : Int) := by omega
      have hjI2 : (j : Int) < (L.length : Int) := by omega
      have hj0 : (0 : Int) ≤ (j : Int) := by omega
      have H1 := Lib.hid h1
      have HBL := Lib.hid (show b < wr.heap.size ∧ b2 < wr.heap.size from ⟨Nat.lt_of_lt_of_le h2 HB.out.size, Nat.lt_of_lt_of_le f2 HB.out.size⟩)
      have hs0 : (fun w' : World => (w'.cell? ⟨b, off + j * 6, none⟩ = some (.int .i64 k1) ∧ w'.cell? ⟨b, off + j * 6 + 1, none⟩ = some (.bool t1) ∧ w'.cell? ⟨b, off + j * 6 + 2, none⟩ = some (.int .i64 i1) ∧ w'.cell? ⟨b, off + j * 6 + 3, none⟩ = some (.string s1) ∧ w'.cell? ⟨b, off + j * 6 + 4, none⟩ = some (.slice av1 l1.length c1) ∧ w'.cell? ⟨b, off + j * 6 + 5, none⟩ = some (.slice kv1 ks1.length kc1) ∧ w'.cell? ⟨b2, off2 + j * 6, none⟩ = some (.int .i64 k3) ∧ w'.cell? ⟨b2, off2 + j * 6 + 1, none⟩ = some (.bool t3) ∧ w'.cell? ⟨b2, off2 + j * 6 + 2, none⟩ = some (.int .i64 i3) ∧ w'.cell? ⟨b2, off2 + j * 6 + 3, none⟩ = some (.string s3) ∧ w'.cell? ⟨b2, off2 + j * 6 + 4, none⟩ = some (.slice av3 l3.length c3) ∧ w'.cell? ⟨b2, off2 + j * 6 + 5, none⟩ = some (.slice kv3 ks3.length kc3))) wr.drew := ⟨p0, p1, p2, p3, p4, p5, o0, o1, o2, o3, o4, o5⟩
      have HS2 := Lib.hid (show ∀ w2, Below wr.drew.heap.size wr.drew w2 → (fun w' : World => (w'.cell? ⟨b, off + j * 6, none⟩ = some (.int .i64 k1) ∧ w'.cell? ⟨b, off + j * 6 + 1, none⟩ = some (.bool t1) ∧ w'.cell? ⟨b, off + j * 6 + 2, none⟩ = some (.int .i64 i1) ∧ w'.cell? ⟨b, off + j * 6 + 3, none⟩ = some (.string s1) ∧ w'.cell? ⟨b, off + j * 6 + 4, none⟩ = some (.slice av1 l1.length c1) ∧ w'.cell? ⟨b, off + j * 6 + 5, none⟩ = some (.slice kv1 ks1.length kc1) ∧ w'.cell? ⟨b2, off2 + j * 6, none⟩ = some (.int .i64 k3) ∧ w'.cell? ⟨b2, off2 + j * 6 + 1, none⟩ = some (.bool t3) ∧ w'.cell? ⟨b2, off2 + j * 6 + 2, none⟩ = some (.int .i64 i3) ∧ w'.cell? ⟨b2, off2 + j * 6 + 3, none⟩ = some (.string s3) ∧ w'.cell? ⟨b2, off2 + j * 6 + 4, none⟩ = some (.slice av3 l3.length c3) ∧ w'.cell? ⟨b2, off2 + j * 6 + 5, none⟩ = some (.slice kv3 ks3.length kc3))) w2 from fun w2 hb => ⟨(hb.cell (p := ⟨b, _, none⟩) HBL.out.1).trans p0, (hb.cell (p := ⟨b, _, none⟩) HBL.out.1).trans p1, (hb.cell (p := ⟨b, _, none⟩) HBL.out.1).trans p2, (hb.cell (p := ⟨b, _, none⟩) HBL.out.1).trans p3, (hb.cell (p := ⟨b, _, none⟩) HBL.out.1).trans p4, (hb.cell (p := ⟨b, _, none⟩) HBL.out.1).trans p5, (hb.cell (p := ⟨b2, _, none⟩) HBL.out.2).trans o0, (hb.cell (p := ⟨b2, _, none⟩) HBL.out.2).trans o1, (hb.cell (p := ⟨b2, _, none⟩) HBL.out.2).trans o2, (hb.cell (p := ⟨b2, _, none⟩) HBL.out.2).trans o3, (hb.cell (p := ⟨b2, _, none⟩) HBL.out.2).trans o4, (hb.cell (p := ⟨b2, _, none⟩) HBL.out.2).trans o5⟩)
      clear h1 hx hy hce hcp h0 f0 h2 f2 e0 e1 e2 e3 e4 e5 d0 d1 d2 d3 d4 d5 q0 q1 q2 q3 q4 q5 q6 q7 q8 q9 hs1 hl1 r0 r1 r2 r3 r4 r5 r6 r7 r8 r9 hs3 hl3 hlt hlt2
      go_upto_region 3 with fail
      go_region_held3 (fun w' => (w'.cell? ⟨b, off + j * 6, none⟩ = some (.int .i64 k1) ∧ w'.cell? ⟨b, off + j * 6 + 1, none⟩ = some (.bool t1) ∧ w'.cell? ⟨b, off + j * 6 + 2, none⟩ = some (.int .i64 i1) ∧ w'.cell? ⟨b, off + j * 6 + 3, none⟩ = some (.string s1) ∧ w'.cell? ⟨b, off + j * 6 + 4, none⟩ = some (.slice av1 l1.length c1) ∧ w'.cell? ⟨b, off + j * 6 + 5, none⟩ = some (.slice kv1 ks1.length kc1) ∧ w'.cell? ⟨b2, off2 + j * 6, none⟩ = some (.int .i64 k3) ∧ w'.cell? ⟨b2, off2 + j * 6 + 1, none⟩ = some (.bool t3) ∧ w'.cell? ⟨b2, off2 + j * 6 + 2, none⟩ = some (.int .i64 i3) ∧ w'.cell? ⟨b2, off2 + j * 6 + 3, none⟩ = some (.string s3) ∧ w'.cell? ⟨b2, off2 + j * 6 + 4, none⟩ = some (.slice av3 l3.length c3) ∧ w'.cell? ⟨b2, off2 + j * 6 + 5, none⟩ = some (.slice kv3 ks3.length kc3))) (first | exact hs0 | exact HS2.out _ (by assumption)) (first | (go_at_call 16; go_fit (F.out _ HB.out.drew); rintro e w2 ⟨rfl, hb2⟩))
      have B2 := Lib.hid (HB.out.drew.trans (hb2.mono HB.out.drew.size))
      clear hb2
      by_cases hq : q = 0
      · have HF := Lib.hid (show lexC cf K L = lexC cf (K.drop (j + 1)) (L.drop (j + 1)) by rw [H1.out, if_neg (by omega)])
        subst hq
        go_wp2_with fail
        exact ⟨⟨j + 1, by omega, by omega, by go_num, HF, B2⟩, by simp [RowKit.intOf]; omega⟩
      · have HF := Lib.hid (show lexC cf K L = q by rw [H1.out, if_pos hq])
        have hq' : (q != 0) = true := by simpa using hq
        go_wp2_with fail
        go_ret
        exact ⟨by rw [HF.out]; rfl, B2.out⟩
    · have h1 := lexC_stop cf K L j hj hj2 hlt
      rw [← HD.out] at h1
      by_cases hn : K.length = L.length
      · have HF := Lib.hid (show lexC cf K L = 0 by rw [h1, if_pos hn])
        have hI : ((K.length : Int) == (L.length : Int)) = true := by rw [hn]; exact beq_self_eq_true _
        clear h1
        by_cases hlt1 : j < K.length
        · have hlt2 : ¬ (j : Int) < (L.length : Int) := by omega
          clear hlt
          go_wp2_with fail
          go_ret
          exact ⟨by rw [HF.out]; rfl, HB.out⟩
        · have hlt2 : ¬ (j : Int) < (K.length : Int) := by omega
          clear hlt
          go_wp2_with fail
          go_ret
          exact ⟨by rw [HF.out]; rfl, HB.out⟩
      · have HF := Lib.hid (show lexC cf K L = sgn (decide (K.length < L.length)) by rw [h1, if_neg hn])
        have hI : ((K.length : Int) == (L.length : Int)) = false := by rw [beq_eq_false_iff_ne]; omega
        have hD := Lib.hid (show decide ((K.length : Int) < (L.length : Int)) = decide (K.length < L.length) from decide_eq_decide.2 (by omega))
        clear h1
        by_cases hlt1 : j < K.length
        · have hlt2 : ¬ (j : Int) < (L.length : Int) := by omega
          clear hlt
          go_wp2_with fail
          go_fit (SG.out _ _)
          rintro e w1 ⟨rfl, rfl⟩
          go_wp2_with fail
          go_ret
          exact ⟨by rw [HF.out, ← hD.out]; rfl, HB.out⟩
        · have hlt2 : ¬ (j : Int) < (K.length : Int) := by omega
          clear hlt
          go_wp2_with fail
          go_fit (SG.out _ _)
          rintro e w1 ⟨rfl, rfl⟩
          go_wp2_with fail
          go_ret
          exact ⟨by rw [HF.out, ← hD.out]; rfl, HB.out⟩

theorem cmpV_mk' (m : Nat) : ∃ c, cmpV m = hdC c ∧ ∀ m', m = m' + 1 → c = cmpV m' := by
  cases m with
  | zero => exact ⟨fun _ _ => 0, rfl, fun _ h => by omega⟩
  | succ m => exact ⟨cmpV m, rfl, fun m' h => by rw [show m = m' by omega]⟩
end Go.Proofs.YtabopneehhnhfaaGreatDoor
namespace Go.Proofs.YtabopneehhnhfaaGreatDoor
open Go.RowKit Go.Lib

theorem intC_sgn {x y : Int} (h : x ≠ y) : Lib.compareInt x y = sgn (decide (x < y)) := by
  unfold Lib.compareInt sgn
  by_cases g : x < y
  · rw [if_pos g, decide_eq_true g]; rfl
  · rw [if_neg g, if_pos (by omega), decide_eq_false g]; rfl
theorem bytesC_sgn {s t : ByteArray} (h : s ≠ t) : Lib.compareBytes s.data.toList t.data.toList = sgn (Op.bytesLess s.toList t.toList) := by
  rw [cmpBytes_less, if_neg (fun e => h (str_inj.1 e)), Lib.toList_data, Lib.toList_data]
  rfl
set_option maxHeartbeats 8000000 in
theorem cmpR_any : ∀ m, CmpR m := by
  intro m
  induction m using Nat.strongRecOn with
  | ind m ih =>
    intro A B x y w hA hB
    obtain ⟨k, t, i, s, l, ks, av, c, kv, kc, rfl, rfl, g0, g1, g2, g3, g4, g5, g6, g7, g8, g9, hs, hl⟩ := hA
    obtain ⟨k2, t2, i2, s2, l2, ks2, av2, c2, kv2, kc2, rfl, rfl, r0, r1, r2, r3, r4, r5, r6, r7, r8, r9, hs2, hl2⟩ := hB
    obtain ⟨f, he, hm⟩ := cmpV_mk' m
    have V := Lib.hid (fun w' (hb : Below w.heap.size w w') => lists_any f m (fun m' h => ⟨hm m' h, ih m' (by omega)⟩) av av2 c c2 l l2 (by omega) (by omega) w' (ReadsV.below hb m _ _ hl) (ReadsV.below hb m _ _ hl2))
    have KK := Lib.hid (fun w' (hb : Below w.heap.size w w') => names_any kv kv2 kc kc2 ks ks2 (by omega) (by omega) g9 r9 w' (hs.below hb) (hs2.below hb))
    have SG := Lib.hid (fun b w => sign_any b w)
    clear ih g0 g1 g2 g3 g4 g5 g6 g7 g8 g9 hs hl r0 r1 r2 r3 r4 r5 r6 r7 r8 r9 hs2 hl2 hm
    rw [he]
    clear he
    by_cases hk : k = k2
    · subst hk
      by_cases h1 : k = 1 ∨ k = 2 ∨ k = 3 ∨ k = 4 ∨ k = 5
      rcases h1 with rfl | rfl | rfl | rfl | rfl
      · have E := Lib.hid (show hdC f (.mk 1 t i s l ks) (.mk 1 t2 i2 s2 l2 ks2) = bolC t t2 from by
          show (if Lib.compareInt 1 1 ≠ 0 then Lib.compareInt 1 1 else bodC f (.mk 1 t i s l ks) (.mk 1 t2 i2 s2 l2 ks2)) = _
          rw [show Lib.compareInt 1 1 = 0 from rfl, if_neg (by decide)]
          show bolC t t2 = _
          rfl)
        cases t <;> cases t2
        all_goals
          go_enter Tryz.func16, Tryz.ntmps16
          go_wp2_with fail
          first
            | (go_ret; exact ⟨by rw [E.out]; rfl, (by repeat (first | exact Below.refl _ _ | refine Below.alloc ?_ (by simp <;> omega) _))⟩)
            | (go_fit (SG.out _ _); rintro e w1 ⟨rfl, rfl⟩; go_wp2_with fail; go_ret; exact ⟨by rw [E.out]; rfl, (by repeat (first | exact Below.refl _ _ | refine Below.alloc ?_ (by simp <;> omega) _))⟩)
      · by_cases hi : i = i2
        · have E := Lib.hid (show hdC f (.mk 2 t i s l ks) (.mk 2 t2 i2 s2 l2 ks2) = 0 from by
          show (if Lib.compareInt 2 2 ≠ 0 then Lib.compareInt 2 2 else bodC f (.mk 2 t i s l ks) (.mk 2 t2 i2 s2 l2 ks2)) = _
          rw [show Lib.compareInt 2 2 = 0 from rfl, if_neg (by decide)]
          show Lib.compareInt i i2 = _
          rw [hi, intC_tot.pre.refl])
          subst hi
          go_enter Tryz.func16, Tryz.ntmps16
          go_wp2_with fail
          go_ret
          exact ⟨by rw [E.out]; rfl, (by repeat (first | exact Below.refl _ _ | refine Below.alloc ?_ (by simp <;> omega) _))⟩
        · have E := Lib.hid (show hdC f (.mk 2 t i s l ks) (.mk 2 t2 i2 s2 l2 ks2) = sgn (decide (i < i2)) from by
          show (if Lib.compareInt 2 2 ≠ 0 then Lib.compareInt 2 2 else bodC f (.mk 2 t i s l ks) (.mk 2 t2 i2 s2 l2 ks2)) = _
          rw [show Lib.compareInt 2 2 = 0 from rfl, if_neg (by decide)]
          show Lib.compareInt i i2 = _
          exact intC_sgn hi)
          have g : (i != i2) = true := by simpa using hi
          go_enter Tryz.func16, Tryz.ntmps16
          go_wp2_with fail
          go_fit (SG.out _ _)
          rintro e w1 ⟨rfl, rfl⟩
          go_wp2_with fail
          go_ret
          exact ⟨by rw [E.out]; rfl, (by repeat (first | exact Below.refl _ _ | refine Below.alloc ?_ (by simp <;> omega) _))⟩
      · by_cases hi : s = s2
        · have E := Lib.hid (show hdC f (.mk 3 t i s l ks) (.mk 3 t2 i2 s2 l2 ks2) = 0 from by
          show (if Lib.compareInt 3 3 ≠ 0 then Lib.compareInt 3 3 else bodC f (.mk 3 t i s l ks) (.mk 3 t2 i2 s2 l2 ks2)) = _
          rw [show Lib.compareInt 3 3 = 0 from rfl, if_neg (by decide)]
          show Lib.compareBytes s.data.toList s2.data.toList = _
          rw [hi, bytesC_tot.pre.refl])
          subst hi
          go_enter Tryz.func16, Tryz.ntmps16
          go_wp2_with fail
          go_ret
          exact ⟨by rw [E.out]; rfl, (by repeat (first | exact Below.refl _ _ | refine Below.alloc ?_ (by simp <;> omega) _))⟩
        · have E := Lib.hid (show hdC f (.mk 3 t i s l ks) (.mk 3 t2 i2 s2 l2 ks2) = sgn (Op.bytesLess s.toList s2.toList) from by
          show (if Lib.compareInt 3 3 ≠ 0 then Lib.compareInt 3 3 else bodC f (.mk 3 t i s l ks) (.mk 3 t2 i2 s2 l2 ks2)) = _
          rw [show Lib.compareInt 3 3 = 0 from rfl, if_neg (by decide)]
          show Lib.compareBytes s.data.toList s2.data.toList = _
          exact bytesC_sgn hi)
          have g : (s.toList == s2.toList) = false := by rw [beq_eq_false_iff_ne, Lib.toList_data, Lib.toList_data]; exact fun e => hi (str_inj.1 e)
          go_enter Tryz.func16, Tryz.ntmps16
          go_wp2_with fail
          go_fit (SG.out _ _)
          rintro e w1 ⟨rfl, rfl⟩
          go_wp2_with fail
          go_ret
          exact ⟨by rw [E.out]; rfl, (by repeat (first | exact Below.refl _ _ | refine Below.alloc ?_ (by simp <;> omega) _))⟩
      · have E := Lib.hid (show hdC f (.mk 4 t i s l ks) (.mk 4 t2 i2 s2 l2 ks2) = lexC f l l2 from by
          show (if Lib.compareInt 4 4 ≠ 0 then Lib.compareInt 4 4 else bodC f (.mk 4 t i s l ks) (.mk 4 t2 i2 s2 l2 ks2)) = _
          rw [show Lib.compareInt 4 4 = 0 from rfl, if_neg (by decide)]
          show lexC f l l2 = _
          rfl)
        go_enter Tryz.func16, Tryz.ntmps16
        go_wp2_with fail
        go_fit (V.out _ (by repeat (first | exact Below.refl _ _ | refine Below.alloc ?_ (by simp <;> omega) _)))
        rintro e w1 ⟨rfl, hb1⟩
        have B1 := Lib.hid (Below.trans (show Below w.heap.size w _ from (by repeat (first | exact Below.refl _ _ | refine Below.alloc ?_ (by simp <;> omega) _))) (hb1.mono (by simp <;> omega)))
        clear hb1
        go_wp2_with fail
        go_ret
        exact ⟨by rw [E.out]; rfl, B1.out⟩
      · by_cases hq : lexC cmpL ks ks2 = 0
        · have E := Lib.hid (show hdC f (.mk 5 t i s l ks) (.mk 5 t2 i2 s2 l2 ks2) = lexC f l l2 by
            show (if Lib.compareInt 5 5 ≠ 0 then Lib.compareInt 5 5 else (if lexC cmpL ks ks2 ≠ 0 then lexC cmpL ks ks2 else lexC f l l2)) = _
            rw [show Lib.compareInt 5 5 = 0 from rfl, if_neg (by decide), if_neg (by omega)])
          generalize lexC cmpL ks ks2 = q at KK hq
          subst hq
          go_enter Tryz.func16, Tryz.ntmps16
          go_wp2_with fail
          go_fit (KK.out _ (by repeat (first | exact Below.refl _ _ | refine Below.alloc ?_ (by simp <;> omega) _)))
          rintro e w1 ⟨rfl, hb1⟩
          have V1 := ((V6_new w 5 t i s (.slice av l.length c) (.slice kv ks.length kc)).below (by simp) ((Below.refl _ _).alloc (Nat.le_refl _) (.cells #[.int .i64 5, .bool t2, .int .i64 i2, .string s2, .slice av2 l2.length c2, .slice kv2 ks2.length kc2] 25))).below (by simp <;> omega) hb1
          have V2 := (V6_new (w.alloc (.cells #[.int .i64 5, .bool t, .int .i64 i, .string s, .slice av l.length c, .slice kv ks.length kc] 25)) 5 t2 i2 s2 (.slice av2 l2.length c2) (.slice kv2 ks2.length kc2)).below (by simp <;> omega) hb1
          have B1 := Lib.hid (Below.trans (show Below w.heap.size w _ from (by repeat (first | exact Below.refl _ _ | refine Below.alloc ?_ (by simp <;> omega) _))) (hb1.mono (by simp <;> omega)))
          simp only [World.size_alloc] at V2
          obtain ⟨-, a0, -, -, -, a4, -⟩ := V1
          obtain ⟨-, b0, -, -, -, b4, -⟩ := V2
          clear hb1 KK
          go_wp2_with fail
          go_fit (V.out _ B1.out)
          rintro e w2 ⟨rfl, hb2⟩
          have B2 := Lib.hid (B1.out.trans (hb2.mono B1.out.size))
          clear hb2
          go_wp2_with fail
          go_ret
          exact ⟨by rw [E.out]; rfl, B2.out⟩
        · have E := Lib.hid (show hdC f (.mk 5 t i s l ks) (.mk 5 t2 i2 s2 l2 ks2) = lexC cmpL ks ks2 by
            show (if Lib.compareInt 5 5 ≠ 0 then Lib.compareInt 5 5 else (if lexC cmpL ks ks2 ≠ 0 then lexC cmpL ks ks2 else lexC f l l2)) = _
            rw [show Lib.compareInt 5 5 = 0 from rfl, if_neg (by decide), if_pos (by omega)])
          generalize lexC cmpL ks ks2 = q at KK hq E
          have hq' : (q != 0) = true := by simpa using hq
          go_enter Tryz.func16, Tryz.ntmps16
          go_wp2_with fail
          go_fit (KK.out _ (by repeat (first | exact Below.refl _ _ | refine Below.alloc ?_ (by simp <;> omega) _)))
          rintro e w1 ⟨rfl, hb1⟩
          have B1 := Lib.hid (Below.trans (show Below w.heap.size w _ from (by repeat (first | exact Below.refl _ _ | refine Below.alloc ?_ (by simp <;> omega) _))) (hb1.mono (by simp <;> omega)))
          clear hb1
          go_wp2_with fail
          go_ret
          exact ⟨by rw [E.out]; rfl, B1.out⟩
      · have E := Lib.hid (show hdC f (.mk k t i s l ks) (.mk k t2 i2 s2 l2 ks2) = 0 by
          show (if Lib.compareInt k k ≠ 0 then Lib.compareInt k k else bodC f (.mk k t i s l ks) (.mk k t2 i2 s2 l2 ks2)) = _
          rw [intC_tot.pre.refl, if_neg (by decide)]
          unfold bodC
          show (if k = 1 then _ else if k = 2 then _ else if k = 3 then _ else if k = 4 then _ else if k = 5 then _ else _) = _
          rw [if_neg (by omega), if_neg (by omega), if_neg (by omega), if_neg (by omega), if_neg (by omega)])
        have e1 : (k == 1) = false := by rw [beq_eq_false_iff_ne]; omega
        have e2 : (k == 2) = false := by rw [beq_eq_false_iff_ne]; omega
        have e3 : (k == 3) = false := by rw [beq_eq_false_iff_ne]; omega
        have e4 : (k == 4) = false := by rw [beq_eq_false_iff_ne]; omega
        have e5 : (k == 5) = false := by rw [beq_eq_false_iff_ne]; omega
        clear h1
        go_enter Tryz.func16, Tryz.ntmps16
        go_wp2_with fail
        go_ret
        exact ⟨by rw [E.out]; rfl, (by repeat (first | exact Below.refl _ _ | refine Below.alloc ?_ (by simp <;> omega) _))⟩
    · have E := Lib.hid (show hdC f (.mk k t i s l ks) (.mk k2 t2 i2 s2 l2 ks2) = sgn (decide (k < k2)) by
        show (if Lib.compareInt k k2 ≠ 0 then Lib.compareInt k k2 else _) = _
        rw [if_pos (fun h => hk ((intC_tot.eq _ _).1 h)), intC_sgn hk])
      have g : (k != k2) = true := by simpa using hk
      go_enter Tryz.func16, Tryz.ntmps16
      go_wp2_with fail
      go_fit (SG.out _ _)
      rintro e w1 ⟨rfl, rfl⟩
      go_wp2_with fail
      go_ret
      exact ⟨by rw [E.out]; rfl, (by repeat (first | exact Below.refl _ _ | refine Below.alloc ?_ (by simp <;> omega) _))⟩
end Go.Proofs.YtabopneehhnhfaaGreatDoor
