/- Contracts of functions of the program, and what they are made of (parser; Pk33). -/
import Derived.Test.YtjehhldboopocaaGreatDoorPk19
import Derived.Test.YtjehhldboopocaaGreatDoorPk31
namespace Go.Proofs.YtjehhldboopocaaGreatDoor.Lx
open Go.RowKit Go.Lib
set_option linter.unusedVariables false
theorem fuel_any (toks : List Tm) : ∃ F, pP toks F .cond 0 ≠ .out := by
  obtain ⟨f, r, h0, _, h2⟩ := both litsP (tsOf toks) .cond 0 trivial
  exact ⟨4 ^ f, by rw [show pP toks (4 ^ f) .cond 0 = r from h2]; exact h0⟩
/-- What the program's reader answers to tokens. -/
noncomputable def parseP (toks : List Tm) : PR Vl := pP toks (Classical.choose (fuel_any toks)) .cond 0
theorem parseP_ne (toks : List Tm) : parseP toks ≠ .out := Classical.choose_spec (fuel_any toks)
theorem takeP_any (ta : Option Addr) (tc : Nat) (toks : List Tm) (w : World) (hE : EnvR w ta toks) : Calls Tryz.prog 14 #[.slice ta toks.length tc] w (TakePost w (parseP toks)) :=
  take_any ta tc toks w hE _ (parseP_ne toks)
theorem parseP_at (toks : List Tm) : GoodE toks.length (parseP toks) := by
  have h := pG_er litsP (ts := tsOf toks) (Classical.choose (fuel_any toks)) .cond 0 (Nat.zero_le _) trivial
  rw [tsOf_len] at h
  exact h

/-- Where the token with an index begins; behind the last one: where the source ends. -/
def posT (s : ByteArray) (T : List Tm) (a : Nat) : Int := if h : a < T.length then T[a].pos else (s.size : Int)
set_option maxRecDepth 100000 in
theorem position_any (s : ByteArray) (ta : Option Addr) (tc : Nat) (T : List Tm) (a : Nat) (ha : a ≤ T.length) (hl : T.length ≤ 1073741824) (w : World) (hr : ReadsK w ta T) :
    Calls Tryz.prog 26 #[.string s, .slice ta T.length tc, .int .i64 (a : Nat)] w fun e w' => e = .returned (.int .i64 (posT s T a)) ∧ w' = w := by
  by_cases h : a < T.length
  · obtain ⟨b, off, rfl, hb, c0, c1, c2⟩ := hr a h
    have E := Lib.hid (show posT s T a = T[a].pos by unfold posT; rw [dif_pos h])
    have hI : ((a : Int) == (T.length : Int)) = false := by rw [beq_eq_false_iff_ne]; omega
    have hlt : (a : Int) < (T.length : Int) := by omega
    have h0 : (0 : Int) ≤ (a : Int) := by omega
    obtain ⟨p, hp⟩ : ∃ p, p = T[a].pos := ⟨_, rfl⟩
    rw [← hp] at E c2
    clear hr c0 c1 hp
    go_enter Tryz.func26, Tryz.ntmps26
    go_wp2_with fail
    go_ret
    exact ⟨by rw [E.out]; rfl, rfl⟩
  · have E := Lib.hid (show posT s T a = (s.size : Int) by unfold posT; rw [dif_neg h])
    obtain rfl : a = T.length := by omega
    clear hr
    go_enter Tryz.func26, Tryz.ntmps26
    go_wp2_with fail
    go_ret
    exact ⟨by rw [E.out]; rfl, rfl⟩

/-- What Parse answers. -/
def ParsePost (s : ByteArray) (T : List Tm) (w : World) (e : Ending) (w' : World) : Prop := Below w.heap.size w w' ∧ match parseP T with
  | .out => True
  | .err a er => e = .returned (.tuple #[.agg zeroC.toArray, .int .i64 (posT s T a), .int .i64 (er : Nat)])
  | .ok x a => if validX x ≠ 0 then e = .returned (.tuple #[.agg zeroC.toArray, .int .i64 (posT s T 0), .int .i64 (validX x : Nat)])
      else if a < T.length then e = .returned (.tuple #[.agg zeroC.toArray, .int .i64 (posT s T a), .int .i64 5])
      else ∃ C m, e = .returned (.tuple #[.agg (List.toArray C), .int .i64 0, .int .i64 0]) ∧ StD (fun j => w.heap.size ≤ j) w' (fun w2 => IsE m w2 C x)

set_option maxRecDepth 100000 in
set_option maxHeartbeats 4000000 in
/-- A source without tokens. -/
theorem parse_bad (s : ByteArray) (p er : Nat) (e1 : ((er : Int) != 0) = true) (e0 : ((er : Int) == 0) = false) (w : World) (hT : TabL w)
    (hK : ∀ w, TabL w → Calls Tryz.prog 25 #[.string s] w fun e w' => e = .returned (.tuple #[.slice none 0 0, .int .i64 (p : Nat), .int .i64 (er : Nat)]) ∧ Below w.heap.size w w') :
    Calls Tryz.prog 11 #[.string s] w fun e w' => e = .returned (.tuple #[.agg zeroC.toArray, .int .i64 (p : Nat), .int .i64 (er : Nat)]) ∧ Below w.heap.size w w' := by
  have hb0 : Below w.heap.size w (w.alloc (.cells #[.int .i64 0, .string ⟨#[]⟩, .int .i64 0, .bool false, .int .i64 0, .string ⟨#[]⟩, .slice none 0 0, .slice none 0 0, .slice none 0 0, .slice none 0 0] 29)) := (Below.refl _ w).alloc (Nat.le_refl _) _
  have K := Lib.hid (hK _ (hT.below hb0))
  have C0 := CellsAt.new w 29 #[.int .i64 0, .string ⟨#[]⟩, .int .i64 0, .bool false, .int .i64 0, .string ⟨#[]⟩, .slice none 0 0, .slice none 0 0, .slice none 0 0, .slice none 0 0]
  have HC0 := Lib.hid C0
  have HB0 := Lib.hid hb0
  obtain ⟨Q, hQ⟩ : ∃ Q : Ending → World → Prop, Q = fun e w' => e = .returned (.tuple #[.agg zeroC.toArray, .int .i64 (p : Nat), .int .i64 (er : Nat)]) ∧ Below w.heap.size w w' := ⟨_, rfl⟩
  rw [← hQ]
  have HQ := Lib.hid hQ
  clear hQ hK hT hb0 C0
  go_enter Tryz.func11, Tryz.ntmps11
  go_wp2_with fail
  go_fit K.out
  rintro e w2 ⟨rfl, hb2⟩
  have hR := HC0.out.below hb2
  have HB2 := Lib.hid (HB0.out.trans (hb2.mono HB0.out.size))
  have f0 := hR.frozen 0
  have z0 := hR.cell (k := 0) (u := .int .i64 0) rfl
  have f1 := hR.frozen 1
  have z1 := hR.cell (k := 1) (u := .string ⟨#[]⟩) rfl
  have f2 := hR.frozen 2
  have z2 := hR.cell (k := 2) (u := .int .i64 0) rfl
  have f3 := hR.frozen 3
  have z3 := hR.cell (k := 3) (u := .bool false) rfl
  have f4 := hR.frozen 4
  have z4 := hR.cell (k := 4) (u := .int .i64 0) rfl
  have f5 := hR.frozen 5
  have z5 := hR.cell (k := 5) (u := .string ⟨#[]⟩) rfl
  have f6 := hR.frozen 6
  have z6 := hR.cell (k := 6) (u := .slice none 0 0) rfl
  have f7 := hR.frozen 7
  have z7 := hR.cell (k := 7) (u := .slice none 0 0) rfl
  have f8 := hR.frozen 8
  have z8 := hR.cell (k := 8) (u := .slice none 0 0) rfl
  have f9 := hR.frozen 9
  have z9 := hR.cell (k := 9) (u := .slice none 0 0) rfl
  have HR := Lib.hid hR
  clear hR hb2
  go_wp2_with fail
  have h10 := store10 w.heap.size (.int .i64 0) (.string ⟨#[]⟩) (.int .i64 0) (.bool false) (.int .i64 0) (.string ⟨#[]⟩) (.slice none 0 0) (.slice none 0 0) (.slice none 0 0) (.slice none 0 0) w2 HR.out _ rfl
  have hA := h10.1
  have y0 := hA.cell (k := 0) (u := .int .i64 0) rfl
  have y1 := hA.cell (k := 1) (u := .string ⟨#[]⟩) rfl
  have y2 := hA.cell (k := 2) (u := .int .i64 0) rfl
  have y3 := hA.cell (k := 3) (u := .bool false) rfl
  have y4 := hA.cell (k := 4) (u := .int .i64 0) rfl
  have y5 := hA.cell (k := 5) (u := .string ⟨#[]⟩) rfl
  have y6 := hA.cell (k := 6) (u := .slice none 0 0) rfl
  have y7 := hA.cell (k := 7) (u := .slice none 0 0) rfl
  have y8 := hA.cell (k := 8) (u := .slice none 0 0) rfl
  have y9 := hA.cell (k := 9) (u := .slice none 0 0) rfl
  refine bodyPost_ret (v := .tuple #[.agg #[.int .i64 0, .string ⟨#[]⟩, .int .i64 0, .bool false, .int .i64 0, .string ⟨#[]⟩, .slice none 0 0, .slice none 0 0, .slice none 0 0, .slice none 0 0], .int .i64 p, .int .i64 (er : Nat)]) (by simp [results, Tryz.results11, go_sem, y0, y1, y2, y3, y4, y5, y6, y7, y8, y9]) rfl ?_
  rw [HQ.out]
  exact ⟨rfl, HB2.out.trans (h10.2.1 _ (Nat.le_refl _))⟩

theorem parse_fin {n E : Nat} {w3 W : World} {o : Obj} {P : World → Prop} (h : StD (fun j => n ≤ j) w3 P) (hn : E < n) (hz : w3.heap.size ≤ W.heap.size) (hW : ∀ k, k ≠ E → W.heap[k]? = w3.heap[k]?) : StD (fun j => E ≤ j) (W.alloc o) P :=
  h.on (by rw [World.size_alloc]; omega) fun j hj hok => ⟨(Below.heap_alloc W o j (by omega)).trans (hW j (by omega)), by omega⟩
set_option maxRecDepth 100000 in
set_option maxHeartbeats 8000000 in
/-- A source with tokens. -/
theorem parse_good (s : ByteArray) (T : List Tm) (hl : T.length ≤ 65536) (htx : ∀ t, t ∈ T → t.text.length ≤ 1099511627776) (w : World) (hT : TabL w)
    (hK : ∀ w, TabL w → Calls Tryz.prog 25 #[.string s] w fun e w' => (∃ a c, e = .returned (.tuple #[.slice a T.length c, .int .i64 0, .int .i64 0]) ∧ ReadsK w' a T) ∧ Below w.heap.size w w') :
    Calls Tryz.prog 11 #[.string s] w (ParsePost s T w) := by
  have hb0 : Below w.heap.size w (w.alloc (.cells #[.int .i64 0, .string ⟨#[]⟩, .int .i64 0, .bool false, .int .i64 0, .string ⟨#[]⟩, .slice none 0 0, .slice none 0 0, .slice none 0 0, .slice none 0 0] 29)) := (Below.refl _ w).alloc (Nat.le_refl _) _
  have K := Lib.hid (hK _ (hT.below hb0))
  have C0 := CellsAt.new w 29 #[.int .i64 0, .string ⟨#[]⟩, .int .i64 0, .bool false, .int .i64 0, .string ⟨#[]⟩, .slice none 0 0, .slice none 0 0, .slice none 0 0, .slice none 0 0]
  have HC0 := Lib.hid C0
  have HB0 := Lib.hid hb0
  have HT0 := Lib.hid (hT.below hb0)
  obtain ⟨Q, hQ⟩ : ∃ Q, Q = ParsePost s T w := ⟨_, rfl⟩
  rw [← hQ]
  have HQ := Lib.hid hQ
  have HAT := Lib.hid (parseP_at T)
  have HNE := Lib.hid (parseP_ne T)
  have TK := Lib.hid (fun (ta : Option Addr) (tc : Nat) (w' : World) (h : EnvR w' ta T) => takeP_any ta tc T w' h)
  have PK := Lib.hid (fun (ta : Option Addr) (tc a : Nat) (ha : a ≤ T.length) (w' : World) (h : ReadsK w' ta T) => position_any s ta tc T a ha (by omega) w' h)
  have HS := Lib.hid htx
  obtain ⟨r, hr⟩ : ∃ r, r = parseP T := ⟨_, rfl⟩
  rw [← hr] at HAT HNE TK
  have HRP := Lib.hid hr
  clear hQ hK hT hb0 C0 hr htx
  go_enter Tryz.func11, Tryz.ntmps11
  go_wp2_with fail
  go_fit K.out
  rintro e w2 ⟨⟨ta, tc, rfl, hrd⟩, hb2⟩
  have HE := Lib.hid (show EnvR w2 ta T from ⟨HT0.out.below hb2, hrd, by omega, HS.out⟩)
  have HR2 := Lib.hid (HC0.out.below hb2)
  have HB2 := Lib.hid (HB0.out.trans (hb2.mono HB0.out.size))
  have HRD := Lib.hid hrd
  have hlt2 : w.heap.size < w2.heap.size := HR2.out.lt
  clear hb2 hrd K
  go_wp2_with fail
  go_fit (TK.out ta tc w2 HE.out)
  clear TK
  cases r with
  | out => exact absurd rfl HNE.out
  | err a er =>
    rintro e w3 ⟨hb3, hret⟩
    unfold zeroC at hret
    subst hret
    have hR := HR2.out.below hb3
    have HB3 := Lib.hid (HB2.out.trans (hb3.mono HB2.out.size))
    have hRA := hR.alloc (.cells #[.int .i64 0, .string ⟨#[]⟩, .int .i64 0, .bool false, .int .i64 0, .string ⟨#[]⟩, .slice none 0 0, .slice none 0 0, .slice none 0 0, .slice none 0 0] 29)
    have hlt3 := hb3.size
    have e0 : ((er : Int) == 0) = false := by rw [beq_eq_false_iff_ne]; rcases HAT.out.1 with e | e <;> omega
    have e1 : ((er : Int) != 0) = true := by rw [bne, e0]; rfl
    have HBA := Lib.hid (HB3.out.alloc HB3.out.size (.cells #[.int .i64 0, .string ⟨#[]⟩, .int .i64 0, .bool false, .int .i64 0, .string ⟨#[]⟩, .slice none 0 0, .slice none 0 0, .slice none 0 0, .slice none 0 0] 29))
    have HP := Lib.hid (PK.out ta tc a HAT.out.2 (w3.alloc (.cells #[.int .i64 0, .string ⟨#[]⟩, .int .i64 0, .bool false, .int .i64 0, .string ⟨#[]⟩, .slice none 0 0, .slice none 0 0, .slice none 0 0, .slice none 0 0] 29)) ((HRD.out.below hb3).below ((Below.refl _ _).alloc (Nat.le_refl _) _)))
    have HPW := Lib.hid (fun w' (h : ReadsK w' ta T) => PK.out ta tc a HAT.out.2 w' h)
    have HRD3 := Lib.hid (HRD.out.below hb3)
    have HR := Lib.hid hR
    have HRA := Lib.hid hRA
    obtain ⟨q, hq⟩ : ∃ q, q = posT s T a := ⟨_, rfl⟩
    rw [← hq] at HP HPW
    have HQQ := Lib.hid hq
    clear hR hRA hb3 PK hq
    go_wp2_with fail
    go_fit HP.out
    rintro e w4 ⟨rfl, hw4⟩
    have hR4 : CellsAt w4 w.heap.size 29 #[.int .i64 0, .string ⟨#[]⟩, .int .i64 0, .bool false, .int .i64 0, .string ⟨#[]⟩, .slice none 0 0, .slice none 0 0, .slice none 0 0, .slice none 0 0] := by rw [hw4]; exact HRA.out
    have HB4 : Hid (Below w.heap.size w w4) := Lib.hid (by rw [hw4]; exact HBA.out)
    have f0 := hR4.frozen 0
    have z0 := hR4.cell (k := 0) (u := .int .i64 0) rfl
    have f1 := hR4.frozen 1
    have z1 := hR4.cell (k := 1) (u := .string ⟨#[]⟩) rfl
    have f2 := hR4.frozen 2
    have z2 := hR4.cell (k := 2) (u := .int .i64 0) rfl
    have f3 := hR4.frozen 3
    have z3 := hR4.cell (k := 3) (u := .bool false) rfl
    have f4 := hR4.frozen 4
    have z4 := hR4.cell (k := 4) (u := .int .i64 0) rfl
    have f5 := hR4.frozen 5
    have z5 := hR4.cell (k := 5) (u := .string ⟨#[]⟩) rfl
    have f6 := hR4.frozen 6
    have z6 := hR4.cell (k := 6) (u := .slice none 0 0) rfl
    have f7 := hR4.frozen 7
    have z7 := hR4.cell (k := 7) (u := .slice none 0 0) rfl
    have f8 := hR4.frozen 8
    have z8 := hR4.cell (k := 8) (u := .slice none 0 0) rfl
    have f9 := hR4.frozen 9
    have z9 := hR4.cell (k := 9) (u := .slice none 0 0) rfl
    have HR4 := Lib.hid hR4
    clear hR4 hw4
    go_wp2_with fail
    have h10 := store10 w.heap.size (.int .i64 0) (.string ⟨#[]⟩) (.int .i64 0) (.bool false) (.int .i64 0) (.string ⟨#[]⟩) (.slice none 0 0) (.slice none 0 0) (.slice none 0 0) (.slice none 0 0) w4 HR4.out _ rfl
    have hA := h10.1
    have y0 := hA.cell (k := 0) (u := .int .i64 0) rfl
    have y1 := hA.cell (k := 1) (u := .string ⟨#[]⟩) rfl
    have y2 := hA.cell (k := 2) (u := .int .i64 0) rfl
    have y3 := hA.cell (k := 3) (u := .bool false) rfl
    have y4 := hA.cell (k := 4) (u := .int .i64 0) rfl
    have y5 := hA.cell (k := 5) (u := .string ⟨#[]⟩) rfl
    have y6 := hA.cell (k := 6) (u := .slice none 0 0) rfl
    have y7 := hA.cell (k := 7) (u := .slice none 0 0) rfl
    have y8 := hA.cell (k := 8) (u := .slice none 0 0) rfl
    have y9 := hA.cell (k := 9) (u := .slice none 0 0) rfl
    refine bodyPost_ret (v := .tuple #[.agg #[.int .i64 0, .string ⟨#[]⟩, .int .i64 0, .bool false, .int .i64 0, .string ⟨#[]⟩, .slice none 0 0, .slice none 0 0, .slice none 0 0, .slice none 0 0], .int .i64 q, .int .i64 (er : Nat)]) (by simp [results, Tryz.results11, go_sem, y0, y1, y2, y3, y4, y5, y6, y7, y8, y9]) rfl ?_
    rw [HQ.out]
    refine ⟨HB4.out.trans (h10.2.1 _ (Nat.le_refl _)), ?_⟩
    rw [← HRP.out]
    show _ = Ending.returned (.tuple #[.agg zeroC.toArray, .int .i64 (posT s T a), .int .i64 (er : Nat)])
    rw [← HQQ.out]
    rfl
  | ok x a =>
    rintro e w3 ⟨hb3, hret⟩
    obtain ⟨v, hv⟩ : ∃ v, v = validX x := ⟨_, rfl⟩
    have HV := Lib.hid hv
    change if validX x = 0 then _ else _ at hret
    rw [← hv] at hret
    by_cases hv0 : v = 0
    · rw [if_pos hv0] at hret
      obtain ⟨C, m, hret, hst⟩ := hret
      have hx := hst.here
      have HST := Lib.hid hst
      have HAT2 := Lib.hid HAT.out
      obtain ⟨k, n, vk, vt, vi, vs, vl, vks, vav, vc, vkv, vkc, l, ks, av, c, kv, kc, _, rfl, hrest⟩ := id hx
      obtain ⟨nx, hnx⟩ : ∃ nx : ByteArray, nx = ⟨n.toArray⟩ := ⟨_, rfl⟩
      rw [← hnx] at hret HST
      subst hret
      have hR := HR2.out.below hb3
      have HB3 := Lib.hid (HB2.out.trans (hb3.mono HB2.out.size))
      have HRA := Lib.hid (hR.alloc (.cells #[.int .i64 k, .string nx, .int .i64 vk, .bool vt, .int .i64 vi, .string vs, .slice vav vl.length vc, .slice vkv vks.length vkc, .slice av l.length c, .slice kv ks.length kc] 29))
      have hlt3 := hb3.size
      have HBA := Lib.hid (HB3.out.alloc HB3.out.size (.cells #[.int .i64 k, .string nx, .int .i64 vk, .bool vt, .int .i64 vi, .string vs, .slice vav vl.length vc, .slice vkv vks.length vkc, .slice av l.length c, .slice kv ks.length kc] 29))
      have HHK := Lib.hid (show ∀ j, j < w3.heap.size → (w3.alloc (.cells #[.int .i64 k, .string nx, .int .i64 vk, .bool vt, .int .i64 vi, .string vs, .slice vav vl.length vc, .slice vkv vks.length vkc, .slice av l.length c, .slice kv ks.length kc] 29)).heap[j]? = w3.heap[j]? from fun j hj => Below.heap_alloc _ _ j hj)
      have HP := Lib.hid (PK.out ta tc a HAT.out (w3.alloc (.cells #[.int .i64 k, .string nx, .int .i64 vk, .bool vt, .int .i64 vi, .string vs, .slice vav vl.length vc, .slice vkv vks.length vkc, .slice av l.length c, .slice kv ks.length kc] 29)) ((HRD.out.below hb3).below ((Below.refl _ _).alloc (Nat.le_refl _) _)))
      obtain ⟨q, hq⟩ : ∃ q, q = posT s T a := ⟨_, rfl⟩
      rw [← hq] at HP
      have HQQ := Lib.hid hq
      have haT : a ≤ T.length := HAT.out
      have HRR := Lib.hid hR
      clear hx hst hrest hnx hR hb3 PK hq hv
      by_cases hlt : a < T.length
      · have g : (a : Int) < (T.length : Int) := by omega
        go_wp2_with fail
        go_fit HP.out
        rintro e w4 ⟨rfl, hw4⟩
        have hR4 : CellsAt w4 w.heap.size 29 #[.int .i64 0, .string ⟨#[]⟩, .int .i64 0, .bool false, .int .i64 0, .string ⟨#[]⟩, .slice none 0 0, .slice none 0 0, .slice none 0 0, .slice none 0 0] := by rw [hw4]; exact HRA.out
        have HB4 : Hid (Below w.heap.size w w4) := Lib.hid (by rw [hw4]; exact HBA.out)
        have f0 := hR4.frozen 0
        have z0 := hR4.cell (k := 0) (u := .int .i64 0) rfl
        have f1 := hR4.frozen 1
        have z1 := hR4.cell (k := 1) (u := .string ⟨#[]⟩) rfl
        have f2 := hR4.frozen 2
        have z2 := hR4.cell (k := 2) (u := .int .i64 0) rfl
        have f3 := hR4.frozen 3
        have z3 := hR4.cell (k := 3) (u := .bool false) rfl
        have f4 := hR4.frozen 4
        have z4 := hR4.cell (k := 4) (u := .int .i64 0) rfl
        have f5 := hR4.frozen 5
        have z5 := hR4.cell (k := 5) (u := .string ⟨#[]⟩) rfl
        have f6 := hR4.frozen 6
        have z6 := hR4.cell (k := 6) (u := .slice none 0 0) rfl
        have f7 := hR4.frozen 7
        have z7 := hR4.cell (k := 7) (u := .slice none 0 0) rfl
        have f8 := hR4.frozen 8
        have z8 := hR4.cell (k := 8) (u := .slice none 0 0) rfl
        have f9 := hR4.frozen 9
        have z9 := hR4.cell (k := 9) (u := .slice none 0 0) rfl
        have HR4 := Lib.hid hR4
        clear hR4 hw4
        go_wp2_with fail
        have h10 := store10 w.heap.size (.int .i64 0) (.string ⟨#[]⟩) (.int .i64 0) (.bool false) (.int .i64 0) (.string ⟨#[]⟩) (.slice none 0 0) (.slice none 0 0) (.slice none 0 0) (.slice none 0 0) w4 HR4.out _ rfl
        have hA := h10.1
        have y0 := hA.cell (k := 0) (u := .int .i64 0) rfl
        have y1 := hA.cell (k := 1) (u := .string ⟨#[]⟩) rfl
        have y2 := hA.cell (k := 2) (u := .int .i64 0) rfl
        have y3 := hA.cell (k := 3) (u := .bool false) rfl
        have y4 := hA.cell (k := 4) (u := .int .i64 0) rfl
        have y5 := hA.cell (k := 5) (u := .string ⟨#[]⟩) rfl
        have y6 := hA.cell (k := 6) (u := .slice none 0 0) rfl
        have y7 := hA.cell (k := 7) (u := .slice none 0 0) rfl
        have y8 := hA.cell (k := 8) (u := .slice none 0 0) rfl
        have y9 := hA.cell (k := 9) (u := .slice none 0 0) rfl
        refine bodyPost_ret (v := .tuple #[.agg #[.int .i64 0, .string ⟨#[]⟩, .int .i64 0, .bool false, .int .i64 0, .string ⟨#[]⟩, .slice none 0 0, .slice none 0 0, .slice none 0 0, .slice none 0 0], .int .i64 q, .int .i64 5]) (by simp [results, Tryz.results11, go_sem, y0, y1, y2, y3, y4, y5, y6, y7, y8, y9]) rfl ?_
        rw [HQ.out]
        refine ⟨HB4.out.trans (h10.2.1 _ (Nat.le_refl _)), ?_⟩
        rw [← HRP.out]
        show if validX x ≠ 0 then _ else _
        rw [← HV.out, if_neg (by rw [hv0]; simp), if_pos hlt, ← HQQ.out]
        rfl
      · have g : ¬ (a : Int) < (T.length : Int) := by omega
        have hR := HRR.out
        have f0 := hR.frozen 0
        have z0 := hR.cell (k := 0) (u := .int .i64 0) rfl
        have f1 := hR.frozen 1
        have z1 := hR.cell (k := 1) (u := .string ⟨#[]⟩) rfl
        have f2 := hR.frozen 2
        have z2 := hR.cell (k := 2) (u := .int .i64 0) rfl
        have f3 := hR.frozen 3
        have z3 := hR.cell (k := 3) (u := .bool false) rfl
        have f4 := hR.frozen 4
        have z4 := hR.cell (k := 4) (u := .int .i64 0) rfl
        have f5 := hR.frozen 5
        have z5 := hR.cell (k := 5) (u := .string ⟨#[]⟩) rfl
        have f6 := hR.frozen 6
        have z6 := hR.cell (k := 6) (u := .slice none 0 0) rfl
        have f7 := hR.frozen 7
        have z7 := hR.cell (k := 7) (u := .slice none 0 0) rfl
        have f8 := hR.frozen 8
        have z8 := hR.cell (k := 8) (u := .slice none 0 0) rfl
        have f9 := hR.frozen 9
        have z9 := hR.cell (k := 9) (u := .slice none 0 0) rfl
        have hlt4 : w.heap.size < w3.heap.size := hR.lt
        clear HP HQQ HRA hR
        go_wp2_with fail
        have h10 := store10 w.heap.size (.int .i64 k) (.string nx) (.int .i64 vk) (.bool vt) (.int .i64 vi) (.string vs) (.slice vav vl.length vc) (.slice vkv vks.length vkc) (.slice av l.length c) (.slice kv ks.length kc) w3 HRR.out _ rfl
        have hA := h10.1.alloc (.cells #[.int .i64 k, .string nx, .int .i64 vk, .bool vt, .int .i64 vi, .string vs, .slice vav vl.length vc, .slice vkv vks.length vkc, .slice av l.length c, .slice kv ks.length kc] 29)
        have y0 := hA.cell (k := 0) (u := .int .i64 k) rfl
        have y1 := hA.cell (k := 1) (u := .string nx) rfl
        have y2 := hA.cell (k := 2) (u := .int .i64 vk) rfl
        have y3 := hA.cell (k := 3) (u := .bool vt) rfl
        have y4 := hA.cell (k := 4) (u := .int .i64 vi) rfl
        have y5 := hA.cell (k := 5) (u := .string vs) rfl
        have y6 := hA.cell (k := 6) (u := .slice vav vl.length vc) rfl
        have y7 := hA.cell (k := 7) (u := .slice vkv vks.length vkc) rfl
        have y8 := hA.cell (k := 8) (u := .slice av l.length c) rfl
        have y9 := hA.cell (k := 9) (u := .slice kv ks.length kc) rfl
        refine bodyPost_ret (v := .tuple #[.agg #[.int .i64 k, .string nx, .int .i64 vk, .bool vt, .int .i64 vi, .string vs, .slice vav vl.length vc, .slice vkv vks.length vkc, .slice av l.length c, .slice kv ks.length kc], .int .i64 0, .int .i64 0]) (by simp [results, Tryz.results11, go_sem, y0, y1, y2, y3, y4, y5, y6, y7, y8, y9]) rfl ?_
        rw [HQ.out]
        refine ⟨(HB3.out.trans (h10.2.1 _ (Nat.le_refl _))).alloc (by have := HB3.out.size; simp; omega) _, ?_⟩
        rw [← HRP.out]
        show if validX x ≠ 0 then _ else _
        rw [← HV.out, if_neg (by rw [hv0]; simp), if_neg hlt]
        exact ⟨[.int .i64 k, .string nx, .int .i64 vk, .bool vt, .int .i64 vi, .string vs, .slice vav vl.length vc, .slice vkv vks.length vkc, .slice av l.length c, .slice kv ks.length kc], m, rfl, parse_fin HST.out hlt2 (h10.2.1 _ (Nat.le_refl _)).size h10.2.2⟩
    · rw [if_neg hv0] at hret
      unfold zeroC at hret
      subst hret
      have hR := HR2.out.below hb3
      have HB3 := Lib.hid (HB2.out.trans (hb3.mono HB2.out.size))
      have HRA := Lib.hid (hR.alloc (.cells #[.int .i64 0, .string ⟨#[]⟩, .int .i64 0, .bool false, .int .i64 0, .string ⟨#[]⟩, .slice none 0 0, .slice none 0 0, .slice none 0 0, .slice none 0 0] 29))
      have hlt3 := hb3.size
      have e0 : ((v : Int) == 0) = false := by rw [beq_eq_false_iff_ne]; omega
      have e1 : ((v : Int) != 0) = true := by rw [bne, e0]; rfl
      have HBA := Lib.hid (HB3.out.alloc HB3.out.size (.cells #[.int .i64 0, .string ⟨#[]⟩, .int .i64 0, .bool false, .int .i64 0, .string ⟨#[]⟩, .slice none 0 0, .slice none 0 0, .slice none 0 0, .slice none 0 0] 29))
      have HP := Lib.hid (PK.out ta tc 0 (Nat.zero_le _) (w3.alloc (.cells #[.int .i64 0, .string ⟨#[]⟩, .int .i64 0, .bool false, .int .i64 0, .string ⟨#[]⟩, .slice none 0 0, .slice none 0 0, .slice none 0 0, .slice none 0 0] 29)) ((HRD.out.below hb3).below ((Below.refl _ _).alloc (Nat.le_refl _) _)))
      obtain ⟨q, hq⟩ : ∃ q, q = posT s T 0 := ⟨_, rfl⟩
      rw [← hq] at HP
      have HQQ := Lib.hid hq
      clear hR hb3 PK hq hv
      go_wp2_with fail
      go_fit HP.out
      rintro e w4 ⟨rfl, hw4⟩
      have hR4 : CellsAt w4 w.heap.size 29 #[.int .i64 0, .string ⟨#[]⟩, .int .i64 0, .bool false, .int .i64 0, .string ⟨#[]⟩, .slice none 0 0, .slice none 0 0, .slice none 0 0, .slice none 0 0] := by rw [hw4]; exact HRA.out
      have HB4 : Hid (Below w.heap.size w w4) := Lib.hid (by rw [hw4]; exact HBA.out)
      have f0 := hR4.frozen 0
      have z0 := hR4.cell (k := 0) (u := .int .i64 0) rfl
      have f1 := hR4.frozen 1
      have z1 := hR4.cell (k := 1) (u := .string ⟨#[]⟩) rfl
      have f2 := hR4.frozen 2
      have z2 := hR4.cell (k := 2) (u := .int .i64 0) rfl
      have f3 := hR4.frozen 3
      have z3 := hR4.cell (k := 3) (u := .bool false) rfl
      have f4 := hR4.frozen 4
      have z4 := hR4.cell (k := 4) (u := .int .i64 0) rfl
      have f5 := hR4.frozen 5
      have z5 := hR4.cell (k := 5) (u := .string ⟨#[]⟩) rfl
      have f6 := hR4.frozen 6
      have z6 := hR4.cell (k := 6) (u := .slice none 0 0) rfl
      have f7 := hR4.frozen 7
      have z7 := hR4.cell (k := 7) (u := .slice none 0 0) rfl
      have f8 := hR4.frozen 8
      have z8 := hR4.cell (k := 8) (u := .slice none 0 0) rfl
      have f9 := hR4.frozen 9
      have z9 := hR4.cell (k := 9) (u := .slice none 0 0) rfl
      have HR4 := Lib.hid hR4
      clear hR4 hw4
      go_wp2_with fail
      have h10 := store10 w.heap.size (.int .i64 0) (.string ⟨#[]⟩) (.int .i64 0) (.bool false) (.int .i64 0) (.string ⟨#[]⟩) (.slice none 0 0) (.slice none 0 0) (.slice none 0 0) (.slice none 0 0) w4 HR4.out _ rfl
      have hA := h10.1
      have y0 := hA.cell (k := 0) (u := .int .i64 0) rfl
      have y1 := hA.cell (k := 1) (u := .string ⟨#[]⟩) rfl
      have y2 := hA.cell (k := 2) (u := .int .i64 0) rfl
      have y3 := hA.cell (k := 3) (u := .bool false) rfl
      have y4 := hA.cell (k := 4) (u := .int .i64 0) rfl
      have y5 := hA.cell (k := 5) (u := .string ⟨#[]⟩) rfl
      have y6 := hA.cell (k := 6) (u := .slice none 0 0) rfl
      have y7 := hA.cell (k := 7) (u := .slice none 0 0) rfl
      have y8 := hA.cell (k := 8) (u := .slice none 0 0) rfl
      have y9 := hA.cell (k := 9) (u := .slice none 0 0) rfl
      refine bodyPost_ret (v := .tuple #[.agg #[.int .i64 0, .string ⟨#[]⟩, .int .i64 0, .bool false, .int .i64 0, .string ⟨#[]⟩, .slice none 0 0, .slice none 0 0, .slice none 0 0, .slice none 0 0], .int .i64 q, .int .i64 (v : Nat)]) (by simp [results, Tryz.results11, go_sem, y0, y1, y2, y3, y4, y5, y6, y7, y8, y9]) rfl ?_
      rw [HQ.out]
      refine ⟨HB4.out.trans (h10.2.1 _ (Nat.le_refl _)), ?_⟩
      rw [← HRP.out]
      show if validX x ≠ 0 then _ else _
      rw [← HV.out, if_pos hv0, ← HQQ.out]
      rfl
end Go.Proofs.YtjehhldboopocaaGreatDoor.Lx
namespace Go.Proofs.YtjehhldboopocaaGreatDoor.Lx
open Go.RowKit Go.Lib
/-- The two ways of Parse: no tokens, or what the reader answers to them. -/
theorem parse_all (s : ByteArray) :
    (∃ p er : Nat, (((er : Int) != 0) = true ∧ ((er : Int) == 0) = false) ∧ (s.size ≤ 65536 → lexF s.data.toList 0 0 false = .err p er) ∧
      ∀ w, TabL w → Calls Tryz.prog 11 #[.string s] w fun e w' => e = .returned (.tuple #[.agg zeroC.toArray, .int .i64 (p : Nat), .int .i64 (er : Nat)]) ∧ Below w.heap.size w w') ∨
    (∃ T : List Tk, s.size ≤ 65536 ∧ T.length ≤ 65536 ∧ lexF s.data.toList 0 0 false = .ok T ∧ ∀ w, TabL w → Calls Tryz.prog 11 #[.string s] w (ParsePost s (T.map Tk.tm) w)) := by
  rcases tokens_all s with ⟨p, er, h1, h2, h3⟩ | ⟨T, h1, h2, h3⟩
  · exact .inl ⟨p, er, h1, h2, fun w hT => parse_bad s p er h1.1 h1.2 w hT h3⟩
  · have hz := lexF_size h2
    have hl := lenB s
    have hT1 : T.length ≤ 65536 := by have := hz.1; omega
    refine .inr ⟨T, h1, hT1, h2, fun w hT => parse_good s (T.map Tk.tm) (by rw [List.length_map]; exact hT1) (fun t ht => ?_) w hT fun w' hw' => ?_⟩
    · obtain ⟨k, hk, rfl⟩ := List.mem_map.1 ht
      have := hz.2 k hk
      show k.text.length ≤ _
      omega
    · rw [List.length_map]
      exact h3 w' hw'
end Go.Proofs.YtjehhldboopocaaGreatDoor.Lx
