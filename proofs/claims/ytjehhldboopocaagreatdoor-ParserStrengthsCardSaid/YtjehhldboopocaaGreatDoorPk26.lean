/- Contracts of functions of the program, and what they are made of (parser; Pk26). -/
import Derived.Test.YtjehhldboopocaaGreatDoorPk10
import Derived.Test.YtjehhldboopocaaGreatDoorPk11
import Derived.Test.YtjehhldboopocaaGreatDoorPk25
import Derived.Deep.QuietTactic
import Derived.BigQuiet
namespace Go.Proofs.YtjehhldboopocaaGreatDoor
open Go.RowKit Go.Lib
set_option maxHeartbeats 1000000 in
theorem cmpBools_any (s t : Bool) (w : World) : Calls Tryz.prog 111 #[.bool s, .bool t] w fun e w' => e = .returned (.int .i64 (bolC s t)) ∧ w' = w := by
  cases s <;> cases t
  all_goals
    go_enter Tryz.func111, Tryz.ntmps111
    go_wp2_with fail
    go_ret
    exact ⟨rfl, rfl⟩

theorem lexC_drop {α : Type} (c : α → α → Int) (a b : List α) (i : Nat) (h1 : i < a.length) (h2 : i < b.length) : lexC c (a.drop i) (b.drop i) = if c a[i] b[i] ≠ 0 then c a[i] b[i] else lexC c (a.drop (i + 1)) (b.drop (i + 1)) := by
  rw [List.drop_eq_getElem_cons h1, List.drop_eq_getElem_cons h2, lexC]
theorem lexC_long {α : Type} (c : α → α → Int) (a b : List α) (i : Nat) (h1 : i < a.length) (h2 : b.length ≤ i) : lexC c (a.drop i) (b.drop i) = 1 := by
  rw [List.drop_eq_getElem_cons h1, List.drop_eq_nil_of_le h2, lexC]
theorem lexC_end {α : Type} (c : α → α → Int) (a b : List α) (i : Nat) (h1 : a.length ≤ i) (h2 : i ≤ b.length) : lexC c (a.drop i) (b.drop i) = if i < b.length then -1 else 0 := by
  rw [List.drop_eq_nil_of_le h1]
  by_cases h : i < b.length
  · rw [List.drop_eq_getElem_cons h, lexC, if_pos h]
  · rw [List.drop_eq_nil_of_le (show b.length ≤ i by omega), lexC, if_neg h]

set_option maxHeartbeats 2000000 in
theorem cmpKeys_any (av bv : Option Addr) (ca cb : Nat) (K L : List (List UInt8)) (hK : K.length ≤ 9223372036854775000) (hL : L.length ≤ 9223372036854775000) (hk : ∀ x, x ∈ K → x.length ≤ 140737488351232) (hl : ∀ x, x ∈ L → x.length ≤ 140737488351232) (w : World) (hr : ReadsStr w av K) (hs : ReadsStr w bv L) :
    Calls Tryz.prog 114 #[.slice av K.length ca, .slice bv L.length cb, .func (.func 115) #[] #[]] w fun e w' => e = .returned (.int .i64 (lexC cmpL K L)) ∧ Below w.heap.size w w' := by
  have HR := Lib.hid hr
  have HS := Lib.hid hs
  have HK := Lib.hid hk
  have HL := Lib.hid hl
  clear hr hs hk hl
  go_enter Tryz.func114, Tryz.ntmps114
  go_wp2_with fail
  go_loopw [13] (fun s13 wr => ∃ i : Nat, i ≤ K.length ∧ i ≤ L.length ∧ s13 = .int .i64 i ∧ lexC cmpL K L = lexC cmpL (K.drop i) (L.drop i) ∧ Below w.heap.size w wr) (fun s13 _ => K.length - (RowKit.intOf s13).toNat)
  case atStart => exact ⟨0, by omega, by omega, rfl, rfl, Below.refl _ _⟩
  case round =>
    obtain ⟨i, hi, hi2, rfl, hd, hbel⟩ := hrel
    have HD := Lib.hid hd
    have HB := Lib.hid hbel
    have HR1 := Lib.hid (HR.out.below hbel)
    have HS1 := Lib.hid (HS.out.below hbel)
    clear hd hbel
    by_cases hlt : i < K.length
    · obtain ⟨b, off, rfl, hb, hc⟩ := HR1.out i hlt
      by_cases hlt2 : i < L.length
      · obtain ⟨b2, off2, rfl, hb2, hc2⟩ := HS1.out i hlt2
        have h1 := lexC_drop cmpL K L i hlt hlt2
        have hk1 := HK.out K[i] (List.getElem_mem hlt)
        have hl1 := HL.out L[i] (List.getElem_mem hlt2)
        have F := Lib.hid (fun w => idCompare_any ⟨K[i].toArray⟩ ⟨L[i].toArray⟩ (by rw [mkS_size]; exact hk1) (by rw [mkS_size]; exact hl1) w)
        simp only at F
        have hrng := cmp_tot.rng K[i] L[i]
        generalize cmpL K[i] L[i] = q at F h1 hrng
        generalize (⟨K[i].toArray⟩ : ByteArray) = x at hc F
        generalize (⟨L[i].toArray⟩ : ByteArray) = y at hc2 F
        clear hk1 hl1
        have hI2 : ¬ ((L.length : Int) ≤ (i : Int)) := by omega
        by_cases hq : q = 0
        · have HF := Lib.hid (show lexC cmpL K L = lexC cmpL (K.drop (i + 1)) (L.drop (i + 1)) by rw [HD.out, h1, if_neg (by omega)])
          subst hq
          clear h1 hrng
          go_wp2_with fail
          go_fit (F.out _)
          rintro e w1 ⟨rfl, hb2⟩
          have HB2 := Lib.hid (HB.out.trans (hb2.mono HB.out.size))
          clear hb2
          go_wp2_with fail
          exact ⟨⟨i + 1, by omega, by omega, by go_num, HF.out, HB2.out⟩, by simp [RowKit.intOf]; omega⟩
        · have HF := Lib.hid (show lexC cmpL K L = q by rw [HD.out, h1, if_pos hq])
          have hq' : (q != 0) = true := by simpa using hq
          clear h1 hrng
          go_wp2_with fail
          go_fit (F.out _)
          rintro e w1 ⟨rfl, hb2⟩
          have HB2 := Lib.hid (HB.out.trans (hb2.mono HB.out.size))
          clear hb2
          go_wp2_with fail
          go_ret
          exact ⟨by rw [HF.out]; rfl, HB2.out⟩
      · have hI2 : ((L.length : Int) ≤ (i : Int)) := by omega
        have HF := Lib.hid (show lexC cmpL K L = 1 by rw [HD.out, lexC_long cmpL K L i hlt (by omega)])
        go_wp2_with fail
        go_ret
        exact ⟨by rw [HF.out]; rfl, HB.out⟩
    · obtain rfl : i = K.length := by omega
      have h1 := lexC_end cmpL K L K.length (Nat.le_refl _) hi2
      by_cases hlt2 : K.length < L.length
      · have HF := Lib.hid (show lexC cmpL K L = -1 by rw [HD.out, h1, if_pos hlt2])
        have hI2 : ((K.length : Int) < (L.length : Int)) := by omega
        clear h1
        go_wp2_with fail
        go_ret
        exact ⟨by rw [HF.out]; rfl, HB.out⟩
      · have HF := Lib.hid (show lexC cmpL K L = 0 by rw [HD.out, h1, if_neg hlt2])
        have hI2 : ¬ ((K.length : Int) < (L.length : Int)) := by omega
        clear h1
        go_wp2_with fail
        go_ret
        exact ⟨by rw [HF.out]; rfl, HB.out⟩
end Go.Proofs.YtjehhldboopocaaGreatDoor
namespace Go.Proofs.YtjehhldboopocaaGreatDoor
open Go.RowKit Go.Lib
/-- Compare at values of at most m levels below. -/
def CmpP (m : Nat) : Prop := ∀ (A B : Value) (x y : Vl) (w : World), IsV m w A x → IsV m w B y →
  Calls Tryz.prog 72 #[A, B] w fun e w' => e = .returned (.int .i64 (cmpV m x y)) ∧ Below w.heap.size w w'

set_option maxHeartbeats 4000000 in
theorem cmpVals_any (c : Vl → Vl → Int) (m : Nat) (IH : ∀ m', m = m' + 1 → c = cmpV m' ∧ CmpP m') (av bv : Option Addr) (ca cb : Nat) (K L : List Vl) (hK : K.length ≤ 9223372036854775000) (hL : L.length ≤ 9223372036854775000) (w : World) (hr : ReadsV m w av K) (hs : ReadsV m w bv L) :
    Calls Tryz.prog 113 #[.slice av K.length ca, .slice bv L.length cb, .func (.func 72) #[] #[]] w fun e w' => e = .returned (.int .i64 (lexC c K L)) ∧ Below w.heap.size w w' := by
  have HI := Lib.hid IH
  have HR := Lib.hid hr
  have HS := Lib.hid hs
  clear hr hs IH
  go_enter Tryz.func113, Tryz.ntmps113
  go_wp2_with fail
  go_loopw [13] (fun s13 wr => ∃ i : Nat, i ≤ K.length ∧ i ≤ L.length ∧ s13 = .int .i64 i ∧ lexC c K L = lexC c (K.drop i) (L.drop i) ∧ Below w.heap.size w wr) (fun s13 _ => K.length - (RowKit.intOf s13).toNat)
  case atStart => exact ⟨0, by omega, by omega, rfl, rfl, Below.refl _ _⟩
  case round =>
    obtain ⟨i, hi, hi2, rfl, hd, hbel⟩ := hrel
    have HD := Lib.hid hd
    have HB := Lib.hid hbel
    have HR1 := Lib.hid (ReadsV.below hbel m _ _ HR.out)
    have HS1 := Lib.hid (ReadsV.below hbel m _ _ HS.out)
    clear hd hbel
    by_cases hlt : i < K.length
    · cases m with
      | zero => exact absurd hlt (by have h : K = [] := HR.out; rw [h]; simp)
      | succ m =>
      obtain ⟨b, off, k', t', i', s', l', ks', av', c', kv', kc', h0, rfl, h2, c0, c1, c2, c3, c4, c5, q0, q1, q2, q3, q4, q5, q6, q7, q8, q9, hs', hl'⟩ := HR1.out i hlt
      by_cases hlt2 : i < L.length
      · obtain ⟨b2, off2, k2, t2, i2, s2, l2, ks2, av2, c2, kv2, kc2, f0, rfl, f2, d0, d1, d2, d3, d4, d5, r0, r1, r2, r3, r4, r5, r6, r7, r8, r9, hs2, hl2⟩ := HS1.out i hlt2
        have h1 := lexC_drop c K L i hlt hlt2
        have hx : K[i] = .mk k' t' i' s' l' ks' := (List.getElem?_eq_some_iff.1 h0).2
        have hy : L[i] = .mk k2 t2 i2 s2 l2 ks2 := (List.getElem?_eq_some_iff.1 f0).2
        rw [hx, hy] at h1
        obtain ⟨hce, hcp⟩ := HI.out m rfl
        have F := Lib.hid (fun w' (hb : Below wr.heap.size wr w') => hcp (.agg #[.int .i64 k', .bool t', .int .i64 i', .string s', .slice av' l'.length c', .slice kv' ks'.length kc']) (.agg #[.int .i64 k2, .bool t2, .int .i64 i2, .string s2, .slice av2 l2.length c2, .slice kv2 ks2.length kc2]) (.mk k' t' i' s' l' ks') (.mk k2 t2 i2 s2 l2 ks2) w'
          (IsV.below ⟨k', t', i', s', l', ks', av', c', kv', kc', rfl, rfl, q0, q1, q2, q3, q4, q5, q6, q7, q8, q9, hs', hl'⟩ hb) (IsV.below ⟨k2, t2, i2, s2, l2, ks2, av2, c2, kv2, kc2, rfl, rfl, r0, r1, r2, r3, r4, r5, r6, r7, r8, r9, hs2, hl2⟩ hb))
        rw [← hce] at F
        generalize c (.mk k' t' i' s' l' ks') (.mk k2 t2 i2 s2 l2 ks2) = q at F h1
        have hI2 : ¬ ((L.length : Int) ≤ (i : Int)) := by omega
        have HD2 := Lib.hid (HD.out.trans h1)
        clear h1 hx hy hce hcp h0 f0 q0 q1 q2 q3 q4 q5 q6 q7 q8 q9 hs' hl' r0 r1 r2 r3 r4 r5 r6 r7 r8 r9 hs2 hl2 HD HR1 HS1 HI
        by_cases hq : q = 0
        · have HF := Lib.hid (show lexC c K L = lexC c (K.drop (i + 1)) (L.drop (i + 1)) by rw [HD2.out, if_neg (by omega)])
          subst hq
          go_wp2_with fail
          go_fit (F.out _ (by repeat (first | exact Below.refl _ _ | refine Below.alloc ?_ (by simp <;> omega) _)))
          rintro e w1 ⟨rfl, hb3⟩
          have HB2 := Lib.hid (HB.out.trans (Below.mono (Below.trans (show Below wr.heap.size wr _ from (by repeat (first | exact Below.refl _ _ | refine Below.alloc ?_ (by simp <;> omega) _))) (hb3.mono (by simp <;> omega))) HB.out.size))
          clear hb3
          go_wp2_with fail
          exact ⟨⟨i + 1, by omega, by omega, by go_num, HF.out, HB2.out⟩, by simp [RowKit.intOf]; omega⟩
        · have HF := Lib.hid (show lexC c K L = q by rw [HD2.out, if_pos hq])
          have hq' : (q != 0) = true := by simpa using hq
          go_wp2_with fail
          go_fit (F.out _ (by repeat (first | exact Below.refl _ _ | refine Below.alloc ?_ (by simp <;> omega) _)))
          rintro e w1 ⟨rfl, hb3⟩
          have HB2 := Lib.hid (HB.out.trans (Below.mono (Below.trans (show Below wr.heap.size wr _ from (by repeat (first | exact Below.refl _ _ | refine Below.alloc ?_ (by simp <;> omega) _))) (hb3.mono (by simp <;> omega))) HB.out.size))
          clear hb3
          go_wp2_with fail
          go_ret
          exact ⟨by rw [HF.out]; rfl, HB2.out⟩
      · have hI2 : ((L.length : Int) ≤ (i : Int)) := by omega
        have HF := Lib.hid (show lexC c K L = 1 by rw [HD.out, lexC_long c K L i hlt (by omega)])
        go_wp2_with fail
        go_ret
        exact ⟨by rw [HF.out]; rfl, HB.out.alloc HB.out.size _⟩
    · obtain rfl : i = K.length := by omega
      have h1 := lexC_end c K L K.length (Nat.le_refl _) hi2
      by_cases hlt2 : K.length < L.length
      · have HF := Lib.hid (show lexC c K L = -1 by rw [HD.out, h1, if_pos hlt2])
        have hI2 : ((K.length : Int) < (L.length : Int)) := by omega
        clear h1
        go_wp2_with fail
        go_ret
        exact ⟨by rw [HF.out]; rfl, HB.out⟩
      · have HF := Lib.hid (show lexC c K L = 0 by rw [HD.out, h1, if_neg hlt2])
        have hI2 : ¬ ((K.length : Int) < (L.length : Int)) := by omega
        clear h1
        go_wp2_with fail
        go_ret
        exact ⟨by rw [HF.out]; rfl, HB.out⟩

theorem cmpV_mk (m : Nat) : ∃ c, cmpV m = hdC c ∧ ∀ m', m = m' + 1 → c = cmpV m' := by
  cases m with
  | zero => exact ⟨fun _ _ => 0, rfl, fun _ h => by omega⟩
  | succ m => exact ⟨cmpV m, rfl, fun m' h => by rw [show m = m' by omega]⟩

set_option maxHeartbeats 4000000 in
theorem cmp_any : ∀ m, CmpP m := by
  intro m
  induction m using Nat.strongRecOn with
  | ind m ih =>
    intro A B x y w hA hB
    obtain ⟨k, t, i, s, l, ks, av, c, kv, kc, rfl, rfl, g0, g1, g2, g3, g4, g5, g6, g7, g8, g9, hs, hl⟩ := hA
    obtain ⟨k2, t2, i2, s2, l2, ks2, av2, c2, kv2, kc2, rfl, rfl, r0, r1, r2, r3, r4, r5, r6, r7, r8, r9, hs2, hl2⟩ := hB
    obtain ⟨f, he, hm⟩ := cmpV_mk m
    have V := Lib.hid (fun w' (hb : Below w.heap.size w w') => cmpVals_any f m (fun m' h => ⟨hm m' h, ih m' (by omega)⟩) av av2 c c2 l l2 (by omega) (by omega) w' (ReadsV.below hb m _ _ hl) (ReadsV.below hb m _ _ hl2))
    have KK := Lib.hid (fun w' (hb : Below w.heap.size w w') => cmpKeys_any kv kv2 kc kc2 ks ks2 (by omega) (by omega) g9 r9 w' (hs.below hb) (hs2.below hb))
    have C1 := Lib.hid (fun a b w => Tryz.cmp_Compare_int a b w)
    have C2 := Lib.hid (fun w => Tryz.strings_Compare s s2 w)
    have C3 := Lib.hid (fun w => cmpBools_any t t2 w)
    clear ih g0 g1 g2 g3 g4 g5 g6 g7 g8 g9 hs hl r0 r1 r2 r3 r4 r5 r6 r7 r8 r9 hs2 hl2 hm
    rw [he]
    clear he
    by_cases hk : k = k2
    · subst hk
      by_cases h1 : k = 1 ∨ k = 2 ∨ k = 3 ∨ k = 4 ∨ k = 5
      rcases h1 with rfl | rfl | rfl | rfl | rfl
      · have E := Lib.hid (show hdC f (.mk 1 t i s l ks) (.mk 1 t2 i2 s2 l2 ks2) = bolC t t2 by
          show (if Lib.compareInt 1 1 ≠ 0 then Lib.compareInt 1 1 else bodC f (.mk 1 t i s l ks) (.mk 1 t2 i2 s2 l2 ks2)) = _
          rw [show Lib.compareInt 1 1 = 0 from rfl, if_neg (by decide)]; rfl)
        go_enter Tryz.func72, Tryz.ntmps72
        go_wp2_with fail
        go_fit (C3.out _)
        rintro e w1 ⟨rfl, hb1⟩
        obtain rfl := hb1
        go_wp2_with fail
        go_ret
        exact ⟨by rw [E.out]; rfl, (by repeat (first | exact Below.refl _ _ | refine Below.alloc ?_ (by simp <;> omega) _))⟩
      · have E := Lib.hid (show hdC f (.mk 2 t i s l ks) (.mk 2 t2 i2 s2 l2 ks2) = Lib.compareInt i i2 by
          show (if Lib.compareInt 2 2 ≠ 0 then Lib.compareInt 2 2 else bodC f (.mk 2 t i s l ks) (.mk 2 t2 i2 s2 l2 ks2)) = _
          rw [show Lib.compareInt 2 2 = 0 from rfl, if_neg (by decide)]; rfl)
        go_enter Tryz.func72, Tryz.ntmps72
        go_wp2_with fail
        go_fit (C1.out _ _ _)
        rintro e w1 ⟨rfl, hb1⟩
        obtain rfl := hb1
        go_wp2_with fail
        go_ret
        exact ⟨by rw [E.out]; rfl, (by repeat (first | exact Below.refl _ _ | refine Below.alloc ?_ (by simp <;> omega) _))⟩
      · have E := Lib.hid (show hdC f (.mk 3 t i s l ks) (.mk 3 t2 i2 s2 l2 ks2) = Lib.compareBytes s.data.toList s2.data.toList by
          show (if Lib.compareInt 3 3 ≠ 0 then Lib.compareInt 3 3 else bodC f (.mk 3 t i s l ks) (.mk 3 t2 i2 s2 l2 ks2)) = _
          rw [show Lib.compareInt 3 3 = 0 from rfl, if_neg (by decide)]; rfl)
        go_enter Tryz.func72, Tryz.ntmps72
        go_wp2_with fail
        go_fit (C2.out _)
        rintro e w1 ⟨rfl, hb1⟩
        obtain rfl := hb1
        go_wp2_with fail
        go_ret
        exact ⟨by rw [E.out]; rfl, (by repeat (first | exact Below.refl _ _ | refine Below.alloc ?_ (by simp <;> omega) _))⟩
      · have E := Lib.hid (show hdC f (.mk 4 t i s l ks) (.mk 4 t2 i2 s2 l2 ks2) = lexC f l l2 by
          show (if Lib.compareInt 4 4 ≠ 0 then Lib.compareInt 4 4 else bodC f (.mk 4 t i s l ks) (.mk 4 t2 i2 s2 l2 ks2)) = _
          rw [show Lib.compareInt 4 4 = 0 from rfl, if_neg (by decide)]; rfl)
        go_enter Tryz.func72, Tryz.ntmps72
        go_wp2_with fail
        go_fit (V.out _ (by repeat (first | exact Below.refl _ _ | refine Below.alloc ?_ (by simp <;> omega) _)))
        rintro e w1 ⟨rfl, hb1⟩
        have B1 := Lib.hid (Below.trans (show Below w.heap.size w _ from (by repeat (first | exact Below.refl _ _ | refine Below.alloc ?_ (by simp <;> omega) _))) (hb1.mono (by simp <;> omega)))
        clear hb1
        go_wp2_with fail
        go_ret
        exact ⟨by rw [E.out]; rfl, B1.out⟩
      · by_cases hq : lexC cmpL ks ks2 = 0
        · have E := Lib.hid (show hdC f (.mk 5 t i s l ks) (.mk 5 t2 i2 s2 l2 ks2) = lexC f l l2 by
            show (if Lib.compareInt 5 5 ≠ 0 then Lib.compareInt 5 5 else (if lexC cmpL ks ks2 ≠ 0 then lexC cmpL ks ks2 else lexC f l l2)) = _
            rw [show Lib.compareInt 5 5 = 0 from rfl, if_neg (by decide), if_neg (by omega)])
          generalize lexC cmpL ks ks2 = q at KK hq
          subst hq
          go_enter Tryz.func72, Tryz.ntmps72
          go_wp2_with fail
          go_fit (KK.out _ (by repeat (first | exact Below.refl _ _ | refine Below.alloc ?_ (by simp <;> omega) _)))
          rintro e w1 ⟨rfl, hb1⟩
          have V1 := ((V6_new w 5 t i s (.slice av l.length c) (.slice kv ks.length kc)).below (by simp) ((Below.refl _ _).alloc (Nat.le_refl _) (.cells #[.int .i64 5, .bool t2, .int .i64 i2, .string s2, .slice av2 l2.length c2, .slice kv2 ks2.length kc2] 26))).below (by simp <;> omega) hb1
          have V2 := (V6_new (w.alloc (.cells #[.int .i64 5, .bool t, .int .i64 i, .string s, .slice av l.length c, .slice kv ks.length kc] 26)) 5 t2 i2 s2 (.slice av2 l2.length c2) (.slice kv2 ks2.length kc2)).below (by simp <;> omega) hb1
          have B1 := Lib.hid (Below.trans (show Below w.heap.size w _ from (by repeat (first | exact Below.refl _ _ | refine Below.alloc ?_ (by simp <;> omega) _))) (hb1.mono (by simp <;> omega)))
          simp only [World.size_alloc] at V2
          obtain ⟨-, a0, -, -, -, a4, -⟩ := V1
          obtain ⟨-, b0, -, -, -, b4, -⟩ := V2
          clear hb1 KK
          go_wp2_with fail
          go_fit (V.out _ B1.out)
          rintro e w2 ⟨rfl, hb2⟩
          have B2 := Lib.hid (B1.out.trans (hb2.mono B1.out.size))
          clear hb2
          go_wp2_with fail
          go_ret
          exact ⟨by rw [E.out]; rfl, B2.out⟩
        · have E := Lib.hid (show hdC f (.mk 5 t i s l ks) (.mk 5 t2 i2 s2 l2 ks2) = lexC cmpL ks ks2 by
            show (if Lib.compareInt 5 5 ≠ 0 then Lib.compareInt 5 5 else (if lexC cmpL ks ks2 ≠ 0 then lexC cmpL ks ks2 else lexC f l l2)) = _
            rw [show Lib.compareInt 5 5 = 0 from rfl, if_neg (by decide), if_pos (by omega)])
          generalize lexC cmpL ks ks2 = q at KK hq E
          have hq' : (q != 0) = true := by simpa using hq
          go_enter Tryz.func72, Tryz.ntmps72
          go_wp2_with fail
          go_fit (KK.out _ (by repeat (first | exact Below.refl _ _ | refine Below.alloc ?_ (by simp <;> omega) _)))
          rintro e w1 ⟨rfl, hb1⟩
          have B1 := Lib.hid (Below.trans (show Below w.heap.size w _ from (by repeat (first | exact Below.refl _ _ | refine Below.alloc ?_ (by simp <;> omega) _))) (hb1.mono (by simp <;> omega)))
          clear hb1
          go_wp2_with fail
          go_ret
          exact ⟨by rw [E.out]; rfl, B1.out⟩
      · have E := Lib.hid (show hdC f (.mk k t i s l ks) (.mk k t2 i2 s2 l2 ks2) = 0 by
          show (if Lib.compareInt k k ≠ 0 then Lib.compareInt k k else bodC f (.mk k t i s l ks) (.mk k t2 i2 s2 l2 ks2)) = _
          rw [intC_tot.pre.refl, if_neg (by decide)]
          unfold bodC
          show (if k = 1 then _ else if k = 2 then _ else if k = 3 then _ else if k = 4 then _ else if k = 5 then _ else _) = _
          rw [if_neg (by omega), if_neg (by omega), if_neg (by omega), if_neg (by omega), if_neg (by omega)])
        have e1 : (k == 1) = false := by rw [beq_eq_false_iff_ne]; omega
        have e2 : (k == 2) = false := by rw [beq_eq_false_iff_ne]; omega
        have e3 : (k == 3) = false := by rw [beq_eq_false_iff_ne]; omega
        have e4 : (k == 4) = false := by rw [beq_eq_false_iff_ne]; omega
        have e5 : (k == 5) = false := by rw [beq_eq_false_iff_ne]; omega
        clear h1
        go_enter Tryz.func72, Tryz.ntmps72
        go_wp2_with fail
        go_ret
        exact ⟨by rw [E.out]; rfl, (by repeat (first | exact Below.refl _ _ | refine Below.alloc ?_ (by simp <;> omega) _))⟩
    · have E := Lib.hid (show hdC f (.mk k t i s l ks) (.mk k2 t2 i2 s2 l2 ks2) = Lib.compareInt k k2 by
        show (if Lib.compareInt k k2 ≠ 0 then Lib.compareInt k k2 else _) = _
        rw [if_pos (fun h => hk ((intC_tot.eq _ _).1 h))])
      have g : (k != k2) = true := by simpa using hk
      go_enter Tryz.func72, Tryz.ntmps72
      go_wp2_with fail
      go_fit (C1.out _ _ _)
      rintro e w1 ⟨rfl, rfl⟩
      go_wp2_with fail
      go_ret
      exact ⟨by rw [E.out]; rfl, (by repeat (first | exact Below.refl _ _ | refine Below.alloc ?_ (by simp <;> omega) _))⟩

set_option maxHeartbeats 1000000 in
theorem equal_any (m : Nat) (A B : Value) (x y : Vl) (w : World) (hA : IsV m w A x) (hB : IsV m w B y) :
    Calls Tryz.prog 38 #[A, B] w fun e w' => e = .returned (.bool (decide (cmpV m x y = 0))) ∧ Below w.heap.size w w' := by
  have C := Lib.hid (fun w' (hb : Below w.heap.size w w') => cmp_any m A B x y w' (hA.below hb) (hB.below hb))
  obtain ⟨k, t, i, s, l, ks, av, c, kv, kc, rfl, rfl, _⟩ := hA
  obtain ⟨k2, t2, i2, s2, l2, ks2, av2, c2, kv2, kc2, rfl, rfl, _⟩ := hB
  generalize cmpV m _ _ = q at C
  by_cases hq : q = 0
  · subst hq
    go_enter Tryz.func38, Tryz.ntmps38
    go_wp2_with fail
    go_fit (C.out _ (by repeat (first | exact Below.refl _ _ | refine Below.alloc ?_ (by simp <;> omega) _)))
    rintro e w1 ⟨rfl, hb1⟩
    have B1 := Lib.hid (Below.trans (show Below w.heap.size w _ from (by repeat (first | exact Below.refl _ _ | refine Below.alloc ?_ (by simp <;> omega) _))) (hb1.mono (by simp <;> omega)))
    clear hb1
    go_wp2_with fail
    go_ret
    exact ⟨rfl, B1.out⟩
  · have hq' : (q == 0) = false := by simpa using hq
    have E := Lib.hid (decide_eq_false hq)
    go_enter Tryz.func38, Tryz.ntmps38
    go_wp2_with fail
    go_fit (C.out _ (by repeat (first | exact Below.refl _ _ | refine Below.alloc ?_ (by simp <;> omega) _)))
    rintro e w1 ⟨rfl, hb1⟩
    have B1 := Lib.hid (Below.trans (show Below w.heap.size w _ from (by repeat (first | exact Below.refl _ _ | refine Below.alloc ?_ (by simp <;> omega) _))) (hb1.mono (by simp <;> omega)))
    clear hb1
    go_wp2_with fail
    go_ret
    exact ⟨by rw [E.out]; rfl, B1.out⟩
end Go.Proofs.YtjehhldboopocaaGreatDoor
namespace Go.Proofs.YtjehhldboopocaaGreatDoor.Lx
open Go.RowKit Go.Lib
set_option linter.unusedVariables false
theorem lexC_congr {α : Type} {c d : α → α → Int} : ∀ (l r : List α), (∀ a ∈ l, ∀ b ∈ r, c a b = d a b) → lexC c l r = lexC d l r
  | [], [], _ => rfl
  | [], _ :: _, _ => rfl
  | _ :: _, [], _ => rfl
  | a :: l, b :: r, h => by
    unfold lexC
    rw [h a (List.mem_cons_self ..) b (List.mem_cons_self ..), lexC_congr l r fun x hx y hy => h x (List.mem_cons_of_mem _ hx) y (List.mem_cons_of_mem _ hy)]
theorem hdC_congr {c d : Vl → Vl → Int} (x y : Vl) (h : ∀ a ∈ x.list, ∀ b ∈ y.list, c a b = d a b) : hdC c x y = hdC d x y := by
  unfold hdC thenC bodC thenC
  simp only [lexC_congr x.list y.list h]
theorem cmpV_dep : ∀ (m n : Nat) (x y : Vl), fitsV m x → fitsV m y → fitsV n x → fitsV n y → cmpV m x y = cmpV n x y
  | 0, 0, _, _, _, _, _, _ => rfl
  | 0, n + 1, .mk k t i s l ks, y, h, _, _, _ => hdC_congr _ y fun a ha => by
    have h' : l = [] := h
    subst h'
    cases ha
  | m + 1, 0, .mk k t i s l ks, y, _, _, h, _ => hdC_congr _ y fun a ha => by
    have h' : l = [] := h
    subst h'
    cases ha
  | m + 1, n + 1, .mk k t i s l ks, .mk k2 t2 i2 s2 l2 ks2, h1, h2, h3, h4 => hdC_congr _ _ fun a ha b hb => cmpV_dep m n a b (h1 a ha) (h2 b hb) (h3 a ha) (h4 b hb)
open Classical in
/-- Are values equal? -/
noncomputable def eqVal (x y : Vl) : Bool := decide (∃ m, fitsV m x ∧ fitsV m y ∧ cmpV m x y = 0)
theorem eqVal_at {m : Nat} {x y : Vl} (hx : fitsV m x) (hy : fitsV m y) : eqVal x y = decide (cmpV m x y = 0) := by
  unfold eqVal
  rw [decide_eq_decide]
  constructor
  · rintro ⟨n, h1, h2, h3⟩
    rw [cmpV_dep m n x y hx hy h1 h2]
    exact h3
  · exact fun h => ⟨m, hx, hy, h⟩
def eqL (f : Xp → Xp → Bool) : List Xp → List Xp → Bool
  | [], [] => true
  | x :: l, y :: r => f x y && eqL f l r
  | _, _ => false
noncomputable def hdE (f : Xp → Xp → Bool) (x y : Xp) : Bool := decide (x.kd = y.kd) && (decide (x.nm = y.nm) && (decide (x.ky = y.ky) && (eqVal x.vl y.vl && eqL f x.ar y.ar)))
noncomputable def eqE : Nat → Xp → Xp → Bool
  | 0 => hdE fun _ _ => true
  | m + 1 => hdE (eqE m)
theorem eqL_len {f : Xp → Xp → Bool} : ∀ (l r : List Xp), l.length ≠ r.length → eqL f l r = false
  | [], [], h => absurd rfl h
  | [], _ :: _, _ => rfl
  | _ :: _, [], _ => rfl
  | a :: l, b :: r, h => by
    unfold eqL
    rw [eqL_len l r (fun e => h (by simp [e])), Bool.and_false]
theorem eqL_drop {f : Xp → Xp → Bool} (l r : List Xp) (i : Nat) (h1 : i < l.length) (h2 : i < r.length) : eqL f (l.drop i) (r.drop i) = (f l[i] r[i] && eqL f (l.drop (i + 1)) (r.drop (i + 1))) := by
  rw [List.drop_eq_getElem_cons h1, List.drop_eq_getElem_cons h2, eqL]
theorem eqL_end {f : Xp → Xp → Bool} (l r : List Xp) (i : Nat) (h1 : l.length ≤ i) (h2 : r.length ≤ i) : eqL f (l.drop i) (r.drop i) = true := by
  rw [List.drop_eq_nil_of_le h1, List.drop_eq_nil_of_le h2]
  rfl
theorem eqL_congr {f g : Xp → Xp → Bool} : ∀ (l r : List Xp), (∀ a ∈ l, ∀ b ∈ r, f a b = g a b) → eqL f l r = eqL g l r
  | [], [], _ => rfl
  | [], _ :: _, _ => rfl
  | _ :: _, [], _ => rfl
  | a :: l, b :: r, h => by
    unfold eqL
    rw [h a (List.mem_cons_self ..) b (List.mem_cons_self ..), eqL_congr l r fun x hx y hy => h x (List.mem_cons_of_mem _ hx) y (List.mem_cons_of_mem _ hy)]
theorem eqE_dep : ∀ (m n : Nat) (x y : Xp), Dep m x → Dep m y → Dep n x → Dep n y → eqE m x y = eqE n x y
  | 0, 0, _, _, _, _, _, _ => rfl
  | 0, n + 1, x, y, h, _, _, _ => by
    have h' : x.ar = [] := h
    show hdE _ x y = hdE _ x y
    unfold hdE
    rw [eqL_congr x.ar y.ar fun a ha => by rw [h'] at ha; cases ha]
  | m + 1, 0, x, y, _, _, h, _ => by
    have h' : x.ar = [] := h
    show hdE _ x y = hdE _ x y
    unfold hdE
    rw [eqL_congr x.ar y.ar fun a ha => by rw [h'] at ha; cases ha]
  | m + 1, n + 1, x, y, h1, h2, h3, h4 => by
    show hdE _ x y = hdE _ x y
    unfold hdE
    rw [eqL_congr x.ar y.ar fun a ha b hb => eqE_dep m n a b (h1 a ha) (h2 b hb) (h3 a ha) (h4 b hb)]
open Classical in
/-- Are expressions equal? -/
noncomputable def eqX (x y : Xp) : Bool := decide (∃ m, Dep m x ∧ Dep m y ∧ eqE m x y = true)
open Classical in
theorem eqX_at {m : Nat} {x y : Xp} (hx : Dep m x) (hy : Dep m y) : eqX x y = eqE m x y := by
  have h : (∃ n, Dep n x ∧ Dep n y ∧ eqE n x y = true) ↔ eqE m x y = true := by
    constructor
    · rintro ⟨n, h1, h2, h3⟩
      rw [eqE_dep m n x y hx hy h1 h2]
      exact h3
    · exact fun h => ⟨m, hx, hy, h⟩
  unfold eqX
  cases hq : eqE m x y with
  | false => exact decide_eq_false fun e => by have := h.1 e; rw [hq] at this; cases this
  | true => exact decide_eq_true (h.2 hq)

theorem dropS_ne {K L : List (List UInt8)} (i : Nat) (h1 : i < K.length) (h2 : i < L.length) : decide (K.drop i = L.drop i) = (decide (K[i] = L[i]) && decide (K.drop (i + 1) = L.drop (i + 1))) := by
  rw [List.drop_eq_getElem_cons h1, List.drop_eq_getElem_cons h2, ← Bool.decide_and]
  exact decide_eq_decide.2 List.cons_eq_cons
set_option maxRecDepth 100000 in
set_option maxHeartbeats 2000000 in
theorem eqKeys_any (av bv : Option Addr) (ca cb : Nat) (K L : List (List UInt8)) (hK : K.length ≤ 9223372036854775000) (hL : L.length ≤ 9223372036854775000) (w : World) (hr : ReadsStr w av K) (hs : ReadsStr w bv L) :
    Calls Tryz.prog 37 #[.slice av K.length ca, .slice bv L.length cb] w fun e w' => e = .returned (.bool (decide (K = L))) ∧ Below w.heap.size w w' := by
  have HR := Lib.hid hr
  have HS := Lib.hid hs
  clear hr hs
  obtain ⟨r, hr⟩ : ∃ r, r = decide (K = L) := ⟨_, rfl⟩
  rw [← hr]
  by_cases hlen : K.length = L.length
  · have g : ((K.length : Int) == (L.length : Int)) = true := by rw [beq_iff_eq]; omega
    have g2 : ((K.length : Int) != (L.length : Int)) = false := by rw [bne, g]; rfl
    have E := Lib.hid hr
    have HLEN := Lib.hid hlen
    clear hr
    go_enter Tryz.func37, Tryz.ntmps37
    go_wp2_with fail
    go_loopw [13] (fun s13 wr => ∃ i : Nat, i ≤ K.length ∧ s13 = .int .i64 i ∧ r = decide (K.drop i = L.drop i) ∧ Below w.heap.size w wr) (fun s13 _ => K.length - (RowKit.intOf s13).toNat)
    case atStart => exact ⟨0, by omega, rfl, E.out, Below.refl _ _⟩
    case round =>
      obtain ⟨i, hi, rfl, hd, hbel⟩ := hrel
      have HD := Lib.hid hd
      have HB := Lib.hid hbel
      have HR1 := Lib.hid (HR.out.below hbel)
      have HS1 := Lib.hid (HS.out.below hbel)
      clear hd hbel g g2
      by_cases hlt : i < K.length
      · have hlt2 : i < L.length := by omega
        obtain ⟨b, off, rfl, hb, hc⟩ := HR1.out i hlt
        obtain ⟨b2, off2, rfl, hb2, hc2⟩ := HS1.out i hlt2
        have h1 := dropS_ne i hlt hlt2
        have i0 : (0 : Int) ≤ (i : Int) := by omega
        have i1 : (i : Int) < (K.length : Int) := by omega
        have i2 : (i : Int) < (L.length : Int) := by omega
        obtain ⟨a, ha⟩ : ∃ a, a = K[i] := ⟨_, rfl⟩
        obtain ⟨d, hd⟩ : ∃ d, d = L[i] := ⟨_, rfl⟩
        rw [← ha, ← hd] at h1
        rw [← ha] at hc
        rw [← hd] at hc2
        have t : ((⟨a.toArray⟩ : ByteArray).toList == (⟨d.toArray⟩ : ByteArray).toList) = decide (a = d) := by
          rw [ByteArray.toList_eq, ByteArray.toList_eq]
          by_cases e : a = d
          · subst e; simp
          · rw [decide_eq_false e, beq_eq_false_iff_ne]; exact e
        obtain ⟨x, hx⟩ : ∃ x : ByteArray, x = ⟨a.toArray⟩ := ⟨_, rfl⟩
        obtain ⟨y, hy⟩ : ∃ y : ByteArray, y = ⟨d.toArray⟩ := ⟨_, rfl⟩
        rw [← hx] at hc t
        rw [← hy] at hc2 t
        by_cases e : a = d
        · rw [decide_eq_true e] at t h1
          have F := Lib.hid (show r = decide (K.drop (i + 1) = L.drop (i + 1)) by rw [HD.out, h1, Bool.true_and])
          have t2 : (x.toList != y.toList) = false := by rw [bne, t]; rfl
          clear e hx hy ha hd h1 hlen
          go_wp2_with fail
          go_quiet (fail)
          go_wp2_with fail
          exact ⟨⟨i + 1, by omega, by go_num, F.out, below_drewN HB.out _⟩, by simp [RowKit.intOf]; omega⟩
        · rw [decide_eq_false e] at t h1
          have F := Lib.hid (show r = false by rw [HD.out, h1, Bool.false_and])
          have t2 : (x.toList != y.toList) = true := by rw [bne, t]; rfl
          clear e hx hy ha hd h1 hlen
          go_wp2_with fail
          go_quiet (fail)
          go_wp2_with fail
          go_ret
          exact ⟨by rw [F.out]; rfl, below_drewN HB.out _⟩
      · obtain rfl : i = K.length := by omega
        have F := Lib.hid (show r = true by rw [HD.out, List.drop_length, HLEN.out, List.drop_length]; rfl)
        clear hlen
        have hjI : ¬ (K.length : Int) < (K.length : Int) := by omega
        have hjI2 : ¬ (K.length : Int) < (L.length : Int) := by have := HLEN.out; omega
        go_wp2_with fail
        go_ret
        exact ⟨by rw [F.out]; rfl, HB.out⟩
  · have g : ((K.length : Int) == (L.length : Int)) = false := by rw [beq_eq_false_iff_ne]; omega
    have g2 : ((K.length : Int) != (L.length : Int)) = true := by rw [bne, g]; rfl
    have E := Lib.hid (show r = false by rw [hr, decide_eq_false fun e => hlen (by rw [e])])
    clear hr hlen
    go_enter Tryz.func37, Tryz.ntmps37
    go_wp2_with fail
    go_ret
    exact ⟨by rw [E.out]; rfl, Below.refl _ _⟩
end Go.Proofs.YtjehhldboopocaaGreatDoor.Lx
