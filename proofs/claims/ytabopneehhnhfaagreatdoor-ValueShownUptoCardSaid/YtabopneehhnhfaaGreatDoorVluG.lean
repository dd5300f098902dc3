/- Contracts of the program's compareBools, and of CompareFunc over keys (value). Contracts of the program's CompareFunc over values, Compare and Equal (value). -/
import Derived.Test.YtabopneehhnhfaaGreatDoorVluA
import Derived.Test.YtabopneehhnhfaaGreatDoorValH
namespace Go.Proofs.YtabopneehhnhfaaGreatDoor
open Go.RowKit Go.Lib

set_option maxHeartbeats 1000000 in
theorem cmpBools_any (s t : Bool) (w : World) : Calls Tryz.prog 33 #[.bool s, .bool t] w fun e w' => e = .returned (.int .i64 (bolC s t)) ∧ w' = w := by
  cases s <;> cases t
  all_goals
    go_enter Tryz.func33, Tryz.ntmps33
    go_wp2_with fail
    go_ret
    exact ⟨rfl, rfl⟩

theorem lexC_drop {α : Type} (c : α → α → Int) (a b : List α) (i : Nat) (h1 : i < a.length) (h2 : i < b.length) : lexC c (a.drop i) (b.drop i) = if c a[i] b[i] ≠ 0 then c a[i] b[i] else lexC c (a.drop (i + 1)) (b.drop (i + 1)) := by
  rw [List.drop_eq_getElem_cons h1, List.drop_eq_getElem_cons h2, lexC]
theorem lexC_long {α : Type} (c : α → α → Int) (a b : List α) (i : Nat) (h1 : i < a.length) (h2 : b.length ≤ i) : lexC c (a.drop i) (b.drop i) = 1 := by
  rw [List.drop_eq_getElem_cons h1, List.drop_eq_nil_of_le h2, lexC]
theorem lexC_end {α : Type} (c : α → α → Int) (a b : List α) (i : Nat) (h1 : a.length ≤ i) (h2 : i ≤ b.length) : lexC c (a.drop i) (b.drop i) = if i < b.length then -1 else 0 := by
  rw [List.drop_eq_nil_of_le h1]
  by_cases h : i < b.length
  · rw [List.drop_eq_getElem_cons h, lexC, if_pos h]
  · rw [List.drop_eq_nil_of_le (show b.length ≤ i by omega), lexC, if_neg h]

set_option maxHeartbeats 2000000 in
theorem cmpKeys_any (av bv : Option Addr) (ca cb : Nat) (K L : List (List UInt8)) (hK : K.length ≤ 9223372036854775000) (hL : L.length ≤ 9223372036854775000) (hk : ∀ x, x ∈ K → x.length ≤ 140737488351232) (hl : ∀ x, x ∈ L → x.length ≤ 140737488351232) (w : World) (hr : ReadsStr w av K) (hs : ReadsStr w bv L) :
    Calls Tryz.prog 36 #[.slice av K.length ca, .slice bv L.length cb, .func (.func 37) #[] #[]] w fun e w' => e = .returned (.int .i64 (lexC cmpL K L)) ∧ Below w.heap.size w w' := by
  have HR := Lib.hid hr
  have HS := Lib.hid hs
  have HK := Lib.hid hk
  have HL := Lib.hid hl
  clear hr hs hk hl
  go_enter Tryz.func36, Tryz.ntmps36
  go_wp2_with fail
  go_loopw [13] (fun s13 wr => ∃ i : Nat, i ≤ K.length ∧ i ≤ L.length ∧ s13 = .int .i64 i ∧ lexC cmpL K L = lexC cmpL (K.drop i) (L.drop i) ∧ Below w.heap.size w wr) (fun s13 _ => K.length - (RowKit.intOf s13).toNat)
  case atStart => exact ⟨0, by omega, by omega, rfl, rfl, Below.refl _ _⟩
  case round =>
    obtain ⟨i, hi, hi2, rfl, hd, hbel⟩ := hrel
    have HD := Lib.hid hd
    have HB := Lib.hid hbel
    have HR1 := Lib.hid (HR.out.below hbel)
    have HS1 := Lib.hid (HS.out.below hbel)
    clear hd hbel
    by_cases hlt : i < K.length
    · obtain ⟨b, off, rfl, hb, hc⟩ := HR1.out i hlt
      by_cases hlt2 : i < L.length
      · obtain ⟨b2, off2, rfl, hb2, hc2⟩ := HS1.out i hlt2
        have h1 := lexC_drop cmpL K L i hlt hlt2
        have hk1 := HK.out K[i] (List.getElem_mem hlt)
        have hl1 := HL.out L[i] (List.getElem_mem hlt2)
        have F := Lib.hid (fun w => idCompare_any ⟨K[i].toArray⟩ ⟨L[i].toArray⟩ (by rw [mkS_size]; exact hk1) (by rw [mkS_size]; exact hl1) w)
        simp only at F
        have hrng := cmp_tot.rng K[i] L[i]
        generalize cmpL K[i] L[i] = q at F h1 hrng
        generalize (⟨K[i].toArray⟩ : ByteArray) = x at hc F
        generalize (⟨L[i].toArray⟩ : ByteArray) = y at hc2 F
        clear hk1 hl1
        have hI2 : ¬ ((L.length : Int) ≤ (i : Int)) := by omega
        by_cases hq : q = 0
        · have HF := Lib.hid (show lexC cmpL K L = lexC cmpL (K.drop (i + 1)) (L.drop (i + 1)) by rw [HD.out, h1, if_neg (by omega)])
          subst hq
          clear h1 hrng
          go_wp2_with fail
          go_fit (F.out _)
          rintro e w1 ⟨rfl, hb2⟩
          have HB2 := Lib.hid (HB.out.trans (hb2.mono HB.out.size))
          clear hb2
          go_wp2_with fail
          exact ⟨⟨i + 1, by omega, by omega, by go_num, HF.out, HB2.out⟩, by simp [RowKit.intOf]; omega⟩
        · have HF := Lib.hid (show lexC cmpL K L = q by rw [HD.out, h1, if_pos hq])
          have hq' : (q != 0) = true := by simpa using hq
          clear h1 hrng
          go_wp2_with fail
          go_fit (F.out _)
          rintro e w1 ⟨rfl, hb2⟩
          have HB2 := Lib.hid (HB.out.trans (hb2.mono HB.out.size))
          clear hb2
          go_wp2_with fail
          go_ret
          exact ⟨by rw [HF.out]; rfl, HB2.out⟩
      · have hI2 : ((L.length : Int) ≤ (i : Int)) := by omega
        have HF := Lib.hid (show lexC cmpL K L = 1 by rw [HD.out, lexC_long cmpL K L i hlt (by omega)])
        go_wp2_with fail
        go_ret
        exact ⟨by rw [HF.out]; rfl, HB.out⟩
    · obtain rfl : i = K.length := by omega
      have h1 := lexC_end cmpL K L K.length (Nat.le_refl _) hi2
      by_cases hlt2 : K.length < L.length
      · have HF := Lib.hid (show lexC cmpL K L = -1 by rw [HD.out, h1, if_pos hlt2])
        have hI2 : ((K.length : Int) < (L.length : Int)) := by omega
        clear h1
        go_wp2_with fail
        go_ret
        exact ⟨by rw [HF.out]; rfl, HB.out⟩
      · have HF := Lib.hid (show lexC cmpL K L = 0 by rw [HD.out, h1, if_neg hlt2])
        have hI2 : ¬ ((K.length : Int) < (L.length : Int)) := by omega
        clear h1
        go_wp2_with fail
        go_ret
        exact ⟨by rw [HF.out]; rfl, HB.out⟩
end Go.Proofs.YtabopneehhnhfaaGreatDoor
namespace Go.Proofs.YtabopneehhnhfaaGreatDoor
open Go.RowKit Go.Lib

/-- Compare at values of at most m levels below. -/
def CmpP (m : Nat) : Prop := ∀ (A B : Value) (x y : Vl) (w : World), IsV m w A x → IsV m w B y →
  Calls Tryz.prog 15 #[A, B] w fun e w' => e = .returned (.int .i64 (cmpV m x y)) ∧ Below w.heap.size w w'

set_option maxHeartbeats 4000000 in
theorem cmpVals_any (c : Vl → Vl → Int) (m : Nat) (IH : ∀ m', m = m' + 1 → c = cmpV m' ∧ CmpP m') (av bv : Option Addr) (ca cb : Nat) (K L : List Vl) (hK : K.length ≤ 9223372036854775000) (hL : L.length ≤ 9223372036854775000) (w : World) (hr : ReadsV m w av K) (hs : ReadsV m w bv L) :
    Calls Tryz.prog 35 #[.slice av K.length ca, .slice bv L.length cb, .func (.func 15) #[] #[]] w fun e w' => e = .returned (.int .i64 (lexC c K L)) ∧ Below w.heap.size w w' := by
  have HI := Lib.hid IH
  have HR := Lib.hid hr
  have HS := Lib.hid hs
  clear hr hs IH
  go_enter Tryz.func35, Tryz.ntmps35
  go_wp2_with fail
  go_loopw [13] (fun s13 wr => ∃ i : Nat, i ≤ K.length ∧ i ≤ L.length ∧ s13 = .int .i64 i ∧ lexC c K L = lexC c (K.drop i) (L.drop i) ∧ Below w.heap.size w wr) (fun s13 _ => K.length - (RowKit.intOf s13).toNat)
  case atStart => exact ⟨0, by omega, by omega, rfl, rfl, Below.refl _ _⟩
  case round =>
    obtain ⟨i, hi, hi2, rfl, hd, hbel⟩ := hrel
    have HD := Lib.hid hd
    have HB := Lib.hid hbel
    have HR1 := Lib.hid (ReadsV.below hbel m _ _ HR.out)
    have HS1 := Lib.hid (ReadsV.below hbel m _ _ HS.out)
    clear hd hbel
    by_cases hlt : i < K.length
    · cases m with
      | zero => exact absurd hlt (by have h : K = [] := HR.out; rw [h]; simp)
      | succ m =>
      obtain ⟨b, off, k', t', i', s', l', ks', av', c', kv', kc', h0, rfl, h2, c0, c1, c2, c3, c4, c5, q0, q1, q2, q3, q4, q5, q6, q7, q8, q9, hs', hl'⟩ := HR1.out i hlt
      by_cases hlt2 : i < L.length
      · obtain ⟨b2, off2, k2, t2, i2, s2, l2, ks2, av2, c2, kv2, kc2, f0, rfl, f2, d0, d1, d2, d3, d4, d5, r0, r1, r2, r3, r4, r5, r6, r7, r8, r9, hs2, hl2⟩ := HS1.out i hlt2
        have h1 := lexC_drop c K L i hlt hlt2
        have hx : K[i] = .mk k' t' i' s' l' ks' := (List.getElem?_eq_some_iff.1 h0).2
        have hy : L[i] = .mk k2 t2 i2 s2 l2 ks2 := (List.getElem?_eq_some_iff.1 f0).2
        rw [hx, hy] at h1
        obtain ⟨hce, hcp⟩ := HI.out m rfl
        have F := Lib.hid (fun w' (hb : Below wr.heap.size wr w') => hcp (.agg #[.int .i64 k', .bool t', .int .i64 i', .string s', .slice av' l'.length c', .slice kv' ks'.length kc']) (.agg #[.int .i64 k2, .bool t2, .int .i64 i2, .string s2, .slice av2 l2.length c2, .slice kv2 ks2.length kc2]) (.mk k' t' i' s' l' ks') (.mk k2 t2 i2 s2 l2 ks2) w'
          (IsV.below ⟨k', t', i', s', l', ks', av', c', kv', kc', rfl, rfl, q0, q1, q2, q3, q4, q5, q6, q7, q8, q9, hs', hl'⟩ hb) (IsV.below ⟨k2, t2, i2, s2, l2, ks2, av2, c2, kv2, kc2, rfl, rfl, r0, r1, r2, r3, r4, r5, r6, r7, r8, r9, hs2, hl2⟩ hb))
        rw [← hce] at F
        generalize c (.mk k' t' i' s' l' ks') (.mk k2 t2 i2 s2 l2 ks2) = q at F h1
        have hI2 : ¬ ((L.length : Int) ≤ (i : Int)) := by omega
        have HD2 := Lib.hid (HD.out.trans h1)
        clear h1 hx hy hce hcp h0 f0 q0 q1 q2 q3 q4 q5 q6 q7 q8 q9 hs' hl' r0 r1 r2 r3 r4 r5 r6 r7 r8 r9 hs2 hl2 HD HR1 HS1 HI
        by_cases hq : q = 0
        · have HF := Lib.hid (show lexC c K L = lexC c (K.drop (i + 1)) (L.drop (i + 1)) by rw [HD2.out, if_neg (by omega)])
          subst hq
          go_wp2_with fail
          go_fit (F.out _ (by repeat (first | exact Below.refl _ _ | refine Below.alloc ?_ (by simp <;> omega) _)))
          rintro e w1 ⟨rfl, hb3⟩
          have HB2 := Lib.hid (HB.out.trans (Below.mono (Below.trans (show Below wr.heap.size wr _ from (by repeat (first | exact Below.refl _ _ | refine Below.alloc ?_ (by simp <;> omega) _))) (hb3.mono (by simp <;> omega))) HB.out.size))
          clear hb3
          go_wp2_with fail
          exact ⟨⟨i + 1, by omega, by omega, by go_num, HF.out, HB2.out⟩, by simp [RowKit.intOf]; omega⟩
        · have HF := Lib.hid (show lexC c K L = q by rw [HD2.out, if_pos hq])
          have hq' : (q != 0) = true := by simpa using hq
          go_wp2_with fail
          go_fit (F.out _ (by repeat (first | exact Below.refl _ _ | refine Below.alloc ?_ (by simp <;> omega) _)))
          rintro e w1 ⟨rfl, hb3⟩
          have HB2 := Lib.hid (HB.out.trans (Below.mono (Below.trans (show Below wr.heap.size wr _ from (by repeat (first | exact Below.refl _ _ | refine Below.alloc ?_ (by simp <;> omega) _))) (hb3.mono (by simp <;> omega))) HB.out.size))
          clear hb3
          go_wp2_with fail
          go_ret
          exact ⟨by rw [HF.out]; rfl, HB2.out⟩
      · have hI2 : ((L.length : Int) ≤ (i : Int)) := by omega
        have HF := Lib.hid (show lexC c K L = 1 by rw [HD.out, lexC_long c K L i hlt (by omega)])
        go_wp2_with fail
        go_ret
        exact ⟨by rw [HF.out]; rfl, HB.out.alloc HB.out.size _⟩
    · obtain rfl : i = K.length := by omega
      have h1 := lexC_end c K L K.length (Nat.le_refl _) hi2
      by_cases hlt2 : K.length < L.length
      · have HF := Lib.hid (show lexC c K L = -1 by rw [HD.out, h1, if_pos hlt2])
        have hI2 : ((K.length : Int) < (L.length : Int)) := by omega
        clear h1
        go_wp2_with fail
        go_ret
        exact ⟨by rw [HF.out]; rfl, HB.out⟩
      · have HF := Lib.hid (show lexC c K L = 0 by rw [HD.out, h1, if_neg hlt2])
        have hI2 : ¬ ((K.length : Int) < (L.length : Int)) := by omega
        clear h1
        go_wp2_with fail
        go_ret
        exact ⟨by rw [HF.out]; rfl, HB.out⟩

theorem cmpV_mk (m : Nat) : ∃ c, cmpV m = hdC c ∧ ∀ m', m = m' + 1 → c = cmpV m' := by
  cases m with
  | zero => exact ⟨fun _ _ => 0, rfl, fun _ h => by omega⟩
  | succ m => exact ⟨cmpV m, rfl, fun m' h => by rw [show m = m' by omega]⟩

set_option maxHeartbeats 4000000 in
theorem cmp_any : ∀ m, CmpP m := by
  intro m
  induction m using Nat.strongRecOn with
  | ind m ih =>
    intro A B x y w hA hB
    obtain ⟨k, t, i, s, l, ks, av, c, kv, kc, rfl, rfl, g0, g1, g2, g3, g4, g5, g6, g7, g8, g9, hs, hl⟩ := hA
    obtain ⟨k2, t2, i2, s2, l2, ks2, av2, c2, kv2, kc2, rfl, rfl, r0, r1, r2, r3, r4, r5, r6, r7, r8, r9, hs2, hl2⟩ := hB
    obtain ⟨f, he, hm⟩ := cmpV_mk m
    have V := Lib.hid (fun w' (hb : Below w.heap.size w w') => cmpVals_any f m (fun m' h => ⟨hm m' h, ih m' (by omega)⟩) av av2 c c2 l l2 (by omega) (by omega) w' (ReadsV.below hb m _ _ hl) (ReadsV.below hb m _ _ hl2))
    have KK := Lib.hid (fun w' (hb : Below w.heap.size w w') => cmpKeys_any kv kv2 kc kc2 ks ks2 (by omega) (by omega) g9 r9 w' (hs.below hb) (hs2.below hb))
    have C1 := Lib.hid (fun a b w => Tryz.cmp_Compare_int a b w)
    have C2 := Lib.hid (fun w => Tryz.strings_Compare s s2 w)
    have C3 := Lib.hid (fun w => cmpBools_any t t2 w)
    clear ih g0 g1 g2 g3 g4 g5 g6 g7 g8 g9 hs hl r0 r1 r2 r3 r4 r5 r6 r7 r8 r9 hs2 hl2 hm
    rw [he]
    clear he
    by_cases hk : k = k2
    · subst hk
      by_cases h1 : k = 1 ∨ k = 2 ∨ k = 3 ∨ k = 4 ∨ k = 5
      rcases h1 with rfl | rfl | rfl | rfl | rfl
      · have E := Lib.hid (show hdC f (.mk 1 t i s l ks) (.mk 1 t2 i2 s2 l2 ks2) = bolC t t2 by
          show (if Lib.compareInt 1 1 ≠ 0 then Lib.compareInt 1 1 else bodC f (.mk 1 t i s l ks) (.mk 1 t2 i2 s2 l2 ks2)) = _
          rw [show Lib.compareInt 1 1 = 0 from rfl, if_neg (by decide)]; rfl)
        go_enter Tryz.func15, Tryz.ntmps15
        go_wp2_with fail
        go_fit (C3.out _)
        rintro e w1 ⟨rfl, hb1⟩
        obtain rfl := hb1
        go_wp2_with fail
        go_ret
        exact ⟨by rw [E.out]; rfl, (by repeat (first | exact Below.refl _ _ | refine Below.alloc ?_ (by simp <;> omega) _))⟩
      · have E := Lib.hid (show hdC f (.mk 2 t i s l ks) (.mk 2 t2 i2 s2 l2 ks2) = Lib.compareInt i i2 by
          show (if Lib.compareInt 2 2 ≠ 0 then Lib.compareInt 2 2 else bodC f (.mk 2 t i s l ks) (.mk 2 t2 i2 s2 l2 ks2)) = _
          rw [show Lib.compareInt 2 2 = 0 from rfl, if_neg (by decide)]; rfl)
        go_enter Tryz.func15, Tryz.ntmps15
        go_wp2_with fail
        go_fit (C1.out _ _ _)
        rintro e w1 ⟨rfl, hb1⟩
        obtain rfl := hb1
        go_wp2_with fail
        go_ret
        exact ⟨by rw [E.out]; rfl, (by repeat (first | exact Below.refl _ _ | refine Below.alloc ?_ (by simp <;> omega) _))⟩
      · have E := Lib.hid (show hdC f (.mk 3 t i s l ks) (.mk 3 t2 i2 s2 l2 ks2) = Lib.compareBytes s.data.toList s2.data.toList by
          show (if Lib.compareInt 3 3 ≠ 0 then Lib.compareInt 3 3 else bodC f (.mk 3 t i s l ks) (.mk 3 t2 i2 s2 l2 ks2)) = _
          rw [show Lib.compareInt 3 3 = 0 from rfl, if_neg (by decide)]; rfl)
        go_enter Tryz.func15, Tryz.ntmps15
        go_wp2_with fail
        go_fit (C2.out _)
        rintro e w1 ⟨rfl, hb1⟩
        obtain rfl := hb1
        go_wp2_with fail
        go_ret
        exact ⟨by rw [E.out]; rfl, (by repeat (first | exact Below.refl _ _ | refine Below.alloc ?_ (by simp <;> omega) _))⟩
      · have E := Lib.hid (show hdC f (.mk 4 t i s l ks) (.mk 4 t2 i2 s2 l2 ks2) = lexC f l l2 by
          show (if Lib.compareInt 4 4 ≠ 0 then Lib.compareInt 4 4 else bodC f (.mk 4 t i s l ks) (.mk 4 t2 i2 s2 l2 ks2)) = _
          rw [show Lib.compareInt 4 4 = 0 from rfl, if_neg (by decide)]; rfl)
        go_enter Tryz.func15, Tryz.ntmps15
        go_wp2_with fail
        go_fit (V.out _ (by repeat (first | exact Below.refl _ _ | refine Below.alloc ?_ (by simp <;> omega) _)))
        rintro e w1 ⟨rfl, hb1⟩
        have B1 := Lib.hid (Below.trans (show Below w.heap.size w _ from (by repeat (first | exact Below.refl _ _ | refine Below.alloc ?_ (by simp <;> omega) _))) (hb1.mono (by simp <;> omega)))
        clear hb1
        go_wp2_with fail
        go_ret
        exact ⟨by rw [E.out]; rfl, B1.out⟩
      · by_cases hq : lexC cmpL ks ks2 = 0
        · have E := Lib.hid (show hdC f (.mk 5 t i s l ks) (.mk 5 t2 i2 s2 l2 ks2) = lexC f l l2 by
            show (if Lib.compareInt 5 5 ≠ 0 then Lib.compareInt 5 5 else (if lexC cmpL ks ks2 ≠ 0 then lexC cmpL ks ks2 else lexC f l l2)) = _
            rw [show Lib.compareInt 5 5 = 0 from rfl, if_neg (by decide), if_neg (by omega)])
          generalize lexC cmpL ks ks2 = q at KK hq
          subst hq
          go_enter Tryz.func15, Tryz.ntmps15
          go_wp2_with fail
          go_fit (KK.out _ (by repeat (first | exact Below.refl _ _ | refine Below.alloc ?_ (by simp <;> omega) _)))
          rintro e w1 ⟨rfl, hb1⟩
          have V1 := ((V6_new w 5 t i s (.slice av l.length c) (.slice kv ks.length kc)).below (by simp) ((Below.refl _ _).alloc (Nat.le_refl _) (.cells #[.int .i64 5, .bool t2, .int .i64 i2, .string s2, .slice av2 l2.length c2, .slice kv2 ks2.length kc2] 25))).below (by simp <;> omega) hb1
          have V2 := (V6_new (w.alloc (.cells #[.int .i64 5, .bool t, .int .i64 i, .string s, .slice av l.length c, .slice kv ks.length kc] 25)) 5 t2 i2 s2 (.slice av2 l2.length c2) (.slice kv2 ks2.length kc2)).below (by simp <;> omega) hb1
          have B1 := Lib.hid (Below.trans (show Below w.heap.size w _ from (by repeat (first | exact Below.refl _ _ | refine Below.alloc ?_ (by simp <;> omega) _))) (hb1.mono (by simp <;> omega)))
          simp only [World.size_alloc] at V2
          obtain ⟨-, a0, -, -, -, a4, -⟩ := V1
          obtain ⟨-, b0, -, -, -, b4, -⟩ := V2
          clear hb1 KK
          go_wp2_with fail
          go_fit (V.out _ B1.out)
          rintro e w2 ⟨rfl, hb2⟩
          have B2 := Lib.hid (B1.out.trans (hb2.mono B1.out.size))
          clear hb2
          go_wp2_with fail
          go_ret
          exact ⟨by rw [E.out]; rfl, B2.out⟩
        · have E := Lib.hid (show hdC f (.mk 5 t i s l ks) (.mk 5 t2 i2 s2 l2 ks2) = lexC cmpL ks ks2 by
            show (if Lib.compareInt 5 5 ≠ 0 then Lib.compareInt 5 5 else (if lexC cmpL ks ks2 ≠ 0 then lexC cmpL ks ks2 else lexC f l l2)) = _
            rw [show Lib.compareInt 5 5 = 0 from rfl, if_neg (by decide), if_pos (by omega)])
          generalize lexC cmpL ks ks2 = q at KK hq E
          have hq' : (q != 0) = true := by simpa using hq
          go_enter Tryz.func15, Tryz.ntmps15
          go_wp2_with fail
          go_fit (KK.out _ (by repeat (first | exact Below.refl _ _ | refine Below.alloc ?_ (by simp <;> omega) _)))
          rintro e w1 ⟨rfl, hb1⟩
          have B1 := Lib.hid (Below.trans (show Below w.heap.size w _ from (by repeat (first | exact Below.refl _ _ | refine Below.alloc ?_ (by simp <;> omega) _))) (hb1.mono (by simp <;> omega)))
          clear hb1
          go_wp2_with fail
          go_ret
          exact ⟨by rw [E.out]; rfl, B1.out⟩
      · have E := Lib.hid (show hdC f (.mk k t i s l ks) (.mk k t2 i2 s2 l2 ks2) = 0 by
          show (if Lib.compareInt k k ≠ 0 then Lib.compareInt k k else bodC f (.mk k t i s l ks) (.mk k t2 i2 s2 l2 ks2)) = _
          rw [intC_tot.pre.refl, if_neg (by decide)]
          unfold bodC
          show (if k = 1 then _ else if k = 2 then _ else if k = 3 then _ else if k = 4 then _ else if k = 5 then _ else _) = _
          rw [if_neg (by omega), if_neg (by omega), if_neg (by omega), if_neg (by omega), if_neg (by omega)])
        have e1 : (k == 1) = false := by rw [beq_eq_false_iff_ne]; omega
        have e2 : (k == 2) = false := by rw [beq_eq_false_iff_ne]; omega
        have e3 : (k == 3) = false := by rw [beq_eq_false_iff_ne]; omega
        have e4 : (k == 4) = false := by rw [beq_eq_false_iff_ne]; omega
        have e5 : (k == 5) = false := by rw [beq_eq_false_iff_ne]; omega
        clear h1
        go_enter Tryz.func15, Tryz.ntmps15
        go_wp2_with fail
        go_ret
        exact ⟨by rw [E.out]; rfl, (by repeat (first | exact Below.refl _ _ | refine Below.alloc ?_ (by simp <;> omega) _))⟩
    · have E := Lib.hid (show hdC f (.mk k t i s l ks) (.mk k2 t2 i2 s2 l2 ks2) = Lib.compareInt k k2 by
        show (if Lib.compareInt k k2 ≠ 0 then Lib.compareInt k k2 else _) = _
        rw [if_pos (fun h => hk ((intC_tot.eq _ _).1 h))])
      have g : (k != k2) = true := by simpa using hk
      go_enter Tryz.func15, Tryz.ntmps15
      go_wp2_with fail
      go_fit (C1.out _ _ _)
      rintro e w1 ⟨rfl, rfl⟩
      go_wp2_with fail
      go_ret
      exact ⟨by rw [E.out]; rfl, (by repeat (first | exact Below.refl _ _ | refine Below.alloc ?_ (by simp <;> omega) _))⟩

set_option maxHeartbeats 1000000 in
theorem equal_any (m : Nat) (A B : Value) (x y : Vl) (w : World) (hA : IsV m w A x) (hB : IsV m w B y) :
    Calls Tryz.prog 17 #[A, B] w fun e w' => e = .returned (.bool (decide (cmpV m x y = 0))) ∧ Below w.heap.size w w' := by
  have C := Lib.hid (fun w' (hb : Below w.heap.size w w') => cmp_any m A B x y w' (hA.below hb) (hB.below hb))
  obtain ⟨k, t, i, s, l, ks, av, c, kv, kc, rfl, rfl, _⟩ := hA
  obtain ⟨k2, t2, i2, s2, l2, ks2, av2, c2, kv2, kc2, rfl, rfl, _⟩ := hB
  generalize cmpV m _ _ = q at C
  by_cases hq : q = 0
  · subst hq
    go_enter Tryz.func17, Tryz.ntmps17
    go_wp2_with fail
    go_fit (C.out _ (by repeat (first | exact Below.refl _ _ | refine Below.alloc ?_ (by simp <;> omega) _)))
    rintro e w1 ⟨rfl, hb1⟩
    have B1 := Lib.hid (Below.trans (show Below w.heap.size w _ from (by repeat (first | exact Below.refl _ _ | refine Below.alloc ?_ (by simp <;> omega) _))) (hb1.mono (by simp <;> omega)))
    clear hb1
    go_wp2_with fail
    go_ret
    exact ⟨rfl, B1.out⟩
  · have hq' : (q == 0) = false := by simpa using hq
    have E := Lib.hid (decide_eq_false hq)
    go_enter Tryz.func17, Tryz.ntmps17
    go_wp2_with fail
    go_fit (C.out _ (by repeat (first | exact Below.refl _ _ | refine Below.alloc ?_ (by simp <;> omega) _)))
    rintro e w1 ⟨rfl, hb1⟩
    have B1 := Lib.hid (Below.trans (show Below w.heap.size w _ from (by repeat (first | exact Below.refl _ _ | refine Below.alloc ?_ (by simp <;> omega) _))) (hb1.mono (by simp <;> omega)))
    clear hb1
    go_wp2_with fail
    go_ret
    exact ⟨by rw [E.out]; rfl, B1.out⟩
end Go.Proofs.YtabopneehhnhfaaGreatDoor
