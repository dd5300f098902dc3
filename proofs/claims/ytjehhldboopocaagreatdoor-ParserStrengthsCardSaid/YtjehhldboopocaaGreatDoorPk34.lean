/- Contracts of functions of the program, and what they are made of (parser; Pk34). -/
import Derived.Test.YtjehhldboopocaaGreatDoorPk27
import Derived.Test.YtjehhldboopocaaGreatDoorPk32
import Derived.Test.YtjehhldboopocaaGreatDoorPk33
namespace Go.Proofs.YtjehhldboopocaaGreatDoor.Lx
open Go.RowKit Go.Lib
set_option linter.unusedVariables false
set_option maxRecDepth 100000 in
set_option maxHeartbeats 8000000 in
theorem equal1 (m : Nat) (f : Xp → Xp → Bool) (hfe : eqE m = hdE f) (IH : ∀ m', m = m' + 1 → f = eqE m' ∧ EqP m') : EqP m := by
  intro C D x y w hx hy
  obtain ⟨k1, nm1, vk1, vt1, vi1, vs1, vl1, wl1, va1, vc1, wa1, wc1, al1, bl1, aa1, ac1, ba1, bc1, rfl, rfl, ⟨mv1, hv1⟩, g1, g2, g3, g4, g5, hs1, hl1⟩ := hx
  obtain ⟨k2, nm2, vk2, vt2, vi2, vs2, vl2, wl2, va2, vc2, wa2, wc2, al2, bl2, aa2, ac2, ba2, bc2, rfl, rfl, ⟨mv2, hv2⟩, q1, q2, q3, q4, q5, hs2, hl2⟩ := hy
  have hu1 := isV_up (Nat.le_max_left mv1 mv2) hv1
  have hu2 := isV_up (Nat.le_max_right mv1 mv2) hv2
  have KE := Lib.hid (fun (w' : World) (hb : Below w.heap.size w w') => eqKeys_any ba1 ba2 bc1 bc2 bl1 bl2 (by omega) (by omega) w' (hs1.below hb) (hs2.below hb))
  have VE := Lib.hid (fun (w' : World) (hb : Below w.heap.size w w') => equal_any (max mv1 mv2) _ _ _ _ w' (hu1.below hb) (hu2.below hb))
  rw [← eqVal_at (fits_is hu1) (fits_is hu2)] at VE
  have AE := Lib.hid (fun (w' : World) (hb : Below w.heap.size w w') => eqArgs_any m f IH aa1 aa2 ac1 ac2 al1 al2 (by omega) (by omega) w' (ReadsE.below hb m _ _ hl1) (ReadsE.below hb m _ _ hl2))
  rw [hfe]
  obtain ⟨b3, e3⟩ : ∃ b, b = decide (bl1 = bl2) := ⟨_, rfl⟩
  obtain ⟨b4, e4⟩ : ∃ b, b = eqVal (.mk vk1 vt1 vi1 vs1 vl1 wl1) (.mk vk2 vt2 vi2 vs2 vl2 wl2) := ⟨_, rfl⟩
  obtain ⟨b5, e5⟩ : ∃ b, b = eqL f al1 al2 := ⟨_, rfl⟩
  have E : hdE f (.mk k1 (.mk vk1 vt1 vi1 vs1 vl1 wl1) nm1 al1 bl1) (.mk k2 (.mk vk2 vt2 vi2 vs2 vl2 wl2) nm2 al2 bl2) = (decide (k1 = k2) && (decide (nm1 = nm2) && (b3 && (b4 && b5)))) := by rw [e3, e4, e5]; rfl
  rw [← e3] at KE
  rw [← e4] at VE
  rw [← e5] at AE
  obtain ⟨r, hr⟩ : ∃ r, r = hdE f (.mk k1 (.mk vk1 vt1 vi1 vs1 vl1 wl1) nm1 al1 bl1) (.mk k2 (.mk vk2 vt2 vi2 vs2 vl2 wl2) nm2 al2 bl2) := ⟨_, rfl⟩
  rw [← hr] at E ⊢
  have t : ((⟨nm1.toArray⟩ : ByteArray).toList == (⟨nm2.toArray⟩ : ByteArray).toList) = decide (nm1 = nm2) := by
    rw [ByteArray.toList_eq, ByteArray.toList_eq]
    by_cases e : nm1 = nm2
    · subst e; simp
    · rw [decide_eq_false e, beq_eq_false_iff_ne]; exact e
  obtain ⟨b2, e2⟩ : ∃ b, b = decide (nm1 = nm2) := ⟨_, rfl⟩
  rw [← e2] at t E
  obtain ⟨n1, hn1⟩ : ∃ n1 : ByteArray, n1 = ⟨nm1.toArray⟩ := ⟨_, rfl⟩
  obtain ⟨n2, hn2⟩ : ∃ n2 : ByteArray, n2 = ⟨nm2.toArray⟩ := ⟨_, rfl⟩
  rw [← hn1, ← hn2] at t ⊢
  have C0 : CellsAt ((w.alloc (.cells #[.int .i64 k1, .string n1, .int .i64 vk1, .bool vt1, .int .i64 vi1, .string vs1, .slice va1 vl1.length vc1, .slice wa1 wl1.length wc1, .slice aa1 al1.length ac1, .slice ba1 bl1.length bc1] 29)).alloc (.cells #[.int .i64 k2, .string n2, .int .i64 vk2, .bool vt2, .int .i64 vi2, .string vs2, .slice va2 vl2.length vc2, .slice wa2 wl2.length wc2, .slice aa2 al2.length ac2, .slice ba2 bl2.length bc2] 29)) w.heap.size 29 #[.int .i64 k1, .string n1, .int .i64 vk1, .bool vt1, .int .i64 vi1, .string vs1, .slice va1 vl1.length vc1, .slice wa1 wl1.length wc1, .slice aa1 al1.length ac1, .slice ba1 bl1.length bc1] := (CellsAt.new w _ _).alloc _
  have D0 : CellsAt ((w.alloc (.cells #[.int .i64 k1, .string n1, .int .i64 vk1, .bool vt1, .int .i64 vi1, .string vs1, .slice va1 vl1.length vc1, .slice wa1 wl1.length wc1, .slice aa1 al1.length ac1, .slice ba1 bl1.length bc1] 29)).alloc (.cells #[.int .i64 k2, .string n2, .int .i64 vk2, .bool vt2, .int .i64 vi2, .string vs2, .slice va2 vl2.length vc2, .slice wa2 wl2.length wc2, .slice aa2 al2.length ac2, .slice ba2 bl2.length bc2] 29)) (w.heap.size + 1) 29 #[.int .i64 k2, .string n2, .int .i64 vk2, .bool vt2, .int .i64 vi2, .string vs2, .slice va2 vl2.length vc2, .slice wa2 wl2.length wc2, .slice aa2 al2.length ac2, .slice ba2 bl2.length bc2] := by
    have h := CellsAt.new (w.alloc (.cells #[.int .i64 k1, .string n1, .int .i64 vk1, .bool vt1, .int .i64 vi1, .string vs1, .slice va1 vl1.length vc1, .slice wa1 wl1.length wc1, .slice aa1 al1.length ac1, .slice ba1 bl1.length bc1] 29)) 29 #[.int .i64 k2, .string n2, .int .i64 vk2, .bool vt2, .int .i64 vi2, .string vs2, .slice va2 vl2.length vc2, .slice wa2 wl2.length wc2, .slice aa2 al2.length ac2, .slice ba2 bl2.length bc2]
    rwa [World.size_alloc] at h
  have B0 := Lib.hid (show Below w.heap.size w ((w.alloc (.cells #[.int .i64 k1, .string n1, .int .i64 vk1, .bool vt1, .int .i64 vi1, .string vs1, .slice va1 vl1.length vc1, .slice wa1 wl1.length wc1, .slice aa1 al1.length ac1, .slice ba1 bl1.length bc1] 29)).alloc (.cells #[.int .i64 k2, .string n2, .int .i64 vk2, .bool vt2, .int .i64 vi2, .string vs2, .slice va2 vl2.length vc2, .slice wa2 wl2.length wc2, .slice aa2 al2.length ac2, .slice ba2 bl2.length bc2] 29)) from ((Below.refl _ w).alloc (Nat.le_refl _) _).alloc (by simp) _)
  have HC0 := Lib.hid C0
  have HD0 := Lib.hid D0
  clear hv1 hv2 hu1 hu2 hs1 hs2 hl1 hl2 g1 g2 g3 g4 g5 q1 q2 q3 q4 q5 e2 e3 e4 e5 hr hn1 hn2 hfe IH C0 D0
  by_cases hk : k1 = k2
  · have kk : (k1 == k2) = true := by rw [beq_iff_eq]; exact hk
    rw [decide_eq_true hk, Bool.true_and] at E
    clear hk
    cases b2
    · have E1 := Lib.hid (show r = false by rw [E]; rfl)
      clear E
      go_enter Tryz.func22, Tryz.ntmps22
      go_wp2_with fail
      go_ret
      exact ⟨by rw [E1.out]; simp, B0.out⟩
    · cases b3
      · have E1 := Lib.hid (show r = false by rw [E]; rfl)
        clear E
        go_enter Tryz.func22, Tryz.ntmps22
        go_wp2_with fail
        go_fit (KE.out _ B0.out)
        rintro e w1 ⟨rfl, hb1⟩
        have HB1 := Lib.hid (B0.out.trans (hb1.mono B0.out.size))
        have hC1 := HC0.out.below hb1
        have hD1 := HD0.out.below hb1
        have HC1 := Lib.hid hC1
        have HD1 := Lib.hid hD1
        have c1_2 := hC1.cell (k := 2) (u := .int .i64 vk1) rfl
        have d1_2 := hD1.cell (k := 2) (u := .int .i64 vk2) rfl
        have c1_3 := hC1.cell (k := 3) (u := .bool vt1) rfl
        have d1_3 := hD1.cell (k := 3) (u := .bool vt2) rfl
        have c1_4 := hC1.cell (k := 4) (u := .int .i64 vi1) rfl
        have d1_4 := hD1.cell (k := 4) (u := .int .i64 vi2) rfl
        have c1_5 := hC1.cell (k := 5) (u := .string vs1) rfl
        have d1_5 := hD1.cell (k := 5) (u := .string vs2) rfl
        have c1_6 := hC1.cell (k := 6) (u := .slice va1 vl1.length vc1) rfl
        have d1_6 := hD1.cell (k := 6) (u := .slice va2 vl2.length vc2) rfl
        have c1_7 := hC1.cell (k := 7) (u := .slice wa1 wl1.length wc1) rfl
        have d1_7 := hD1.cell (k := 7) (u := .slice wa2 wl2.length wc2) rfl
        clear hb1 hC1 hD1
        go_wp2_with fail
        go_ret
        exact ⟨by rw [E1.out]; simp, HB1.out⟩
      · cases b4
        · have E1 := Lib.hid (show r = false by rw [E]; rfl)
          clear E
          go_enter Tryz.func22, Tryz.ntmps22
          go_wp2_with fail
          go_fit (KE.out _ B0.out)
          rintro e w1 ⟨rfl, hb1⟩
          have HB1 := Lib.hid (B0.out.trans (hb1.mono B0.out.size))
          have hC1 := HC0.out.below hb1
          have hD1 := HD0.out.below hb1
          have HC1 := Lib.hid hC1
          have HD1 := Lib.hid hD1
          have c1_2 := hC1.cell (k := 2) (u := .int .i64 vk1) rfl
          have d1_2 := hD1.cell (k := 2) (u := .int .i64 vk2) rfl
          have c1_3 := hC1.cell (k := 3) (u := .bool vt1) rfl
          have d1_3 := hD1.cell (k := 3) (u := .bool vt2) rfl
          have c1_4 := hC1.cell (k := 4) (u := .int .i64 vi1) rfl
          have d1_4 := hD1.cell (k := 4) (u := .int .i64 vi2) rfl
          have c1_5 := hC1.cell (k := 5) (u := .string vs1) rfl
          have d1_5 := hD1.cell (k := 5) (u := .string vs2) rfl
          have c1_6 := hC1.cell (k := 6) (u := .slice va1 vl1.length vc1) rfl
          have d1_6 := hD1.cell (k := 6) (u := .slice va2 vl2.length vc2) rfl
          have c1_7 := hC1.cell (k := 7) (u := .slice wa1 wl1.length wc1) rfl
          have d1_7 := hD1.cell (k := 7) (u := .slice wa2 wl2.length wc2) rfl
          clear hb1 hC1 hD1
          go_wp2_with fail
          go_fit (VE.out _ HB1.out)
          rintro e w2 ⟨rfl, hb2⟩
          have HB2 := Lib.hid (HB1.out.trans (hb2.mono HB1.out.size))
          have hC2 := HC1.out.below hb2
          have hD2 := HD1.out.below hb2
          have HC2 := Lib.hid hC2
          have HD2 := Lib.hid hD2
          have c2_8 := hC2.cell (k := 8) (u := .slice aa1 al1.length ac1) rfl
          have d2_8 := hD2.cell (k := 8) (u := .slice aa2 al2.length ac2) rfl
          clear hb2 hC2 hD2
          go_wp2_with fail
          go_ret
          exact ⟨by rw [E1.out]; simp, HB2.out⟩
        · have E1 := Lib.hid (show r = b5 by rw [E]; rfl)
          clear E
          go_enter Tryz.func22, Tryz.ntmps22
          go_wp2_with fail
          go_fit (KE.out _ B0.out)
          rintro e w1 ⟨rfl, hb1⟩
          have HB1 := Lib.hid (B0.out.trans (hb1.mono B0.out.size))
          have hC1 := HC0.out.below hb1
          have hD1 := HD0.out.below hb1
          have HC1 := Lib.hid hC1
          have HD1 := Lib.hid hD1
          have c1_2 := hC1.cell (k := 2) (u := .int .i64 vk1) rfl
          have d1_2 := hD1.cell (k := 2) (u := .int .i64 vk2) rfl
          have c1_3 := hC1.cell (k := 3) (u := .bool vt1) rfl
          have d1_3 := hD1.cell (k := 3) (u := .bool vt2) rfl
          have c1_4 := hC1.cell (k := 4) (u := .int .i64 vi1) rfl
          have d1_4 := hD1.cell (k := 4) (u := .int .i64 vi2) rfl
          have c1_5 := hC1.cell (k := 5) (u := .string vs1) rfl
          have d1_5 := hD1.cell (k := 5) (u := .string vs2) rfl
          have c1_6 := hC1.cell (k := 6) (u := .slice va1 vl1.length vc1) rfl
          have d1_6 := hD1.cell (k := 6) (u := .slice va2 vl2.length vc2) rfl
          have c1_7 := hC1.cell (k := 7) (u := .slice wa1 wl1.length wc1) rfl
          have d1_7 := hD1.cell (k := 7) (u := .slice wa2 wl2.length wc2) rfl
          clear hb1 hC1 hD1
          go_wp2_with fail
          go_fit (VE.out _ HB1.out)
          rintro e w2 ⟨rfl, hb2⟩
          have HB2 := Lib.hid (HB1.out.trans (hb2.mono HB1.out.size))
          have hC2 := HC1.out.below hb2
          have hD2 := HD1.out.below hb2
          have HC2 := Lib.hid hC2
          have HD2 := Lib.hid hD2
          have c2_8 := hC2.cell (k := 8) (u := .slice aa1 al1.length ac1) rfl
          have d2_8 := hD2.cell (k := 8) (u := .slice aa2 al2.length ac2) rfl
          clear hb2 hC2 hD2
          go_wp2_with fail
          go_fit (AE.out _ HB2.out)
          rintro e w3 ⟨rfl, hb3⟩
          have HB3 := Lib.hid (HB2.out.trans (hb3.mono HB2.out.size))
          have hC3 := HC2.out.below hb3
          have hD3 := HD2.out.below hb3
          have HC3 := Lib.hid hC3
          have HD3 := Lib.hid hD3
          clear hb3 hC3 hD3
          go_wp2_with fail
          go_ret
          exact ⟨by rw [E1.out]; simp, HB3.out⟩
  · have kk : (k1 == k2) = false := by rw [beq_eq_false_iff_ne]; exact hk
    have E1 := Lib.hid (show r = false by rw [E, decide_eq_false hk]; rfl)
    clear hk E
    go_enter Tryz.func22, Tryz.ntmps22
    go_wp2_with fail
    go_ret
    exact ⟨by rw [E1.out]; simp, B0.out⟩
theorem equalE_any : ∀ m, EqP m
  | 0 => equal1 0 (fun _ _ => true) rfl fun m' h => by omega
  | m + 1 => equal1 (m + 1) (eqE m) rfl fun m' h => by
    obtain rfl : m = m' := by omega
    exact ⟨rfl, equalE_any m⟩
/-- Equal: are the expressions equal? -/
theorem equalX_any {m n : Nat} (C D : List Value) (x y : Xp) (w : World) (hx : IsE m w C x) (hy : IsE n w D y) :
    Calls Tryz.prog 22 #[.agg C.toArray, .agg D.toArray] w fun e w' => e = .returned (.bool (eqX x y)) ∧ Below w.heap.size w w' := by
  have h1 := hx.up (Nat.le_max_left m n)
  have h2 := hy.up (Nat.le_max_right m n)
  rw [eqX_at (isE_dep _ _ _ h1) (isE_dep _ _ _ h2)]
  exact equalE_any _ C D x y w h1 h2
end Go.Proofs.YtjehhldboopocaaGreatDoor.Lx
namespace Go.Proofs.YtjehhldboopocaaGreatDoor.Lx
open Go.RowKit Go.Lib
set_option linter.unusedVariables false
theorem parseP_ok {toks : List Tm} {F : Nat} {x : Xp} {a : Nat} (h : pP toks F .cond 0 = .ok x a) : parseP toks = .ok x a := by
  rcases Nat.le_total F (Classical.choose (fuel_any toks)) with hc | hc
  · exact pG_ok litsP (tsOf toks) hc h
  · rcases pG_mono litsP (tsOf toks) hc .cond 0 with e | e
    · exact absurd e (parseP_ne toks)
    · exact e.trans h
/-- Parse, as parse_all gives it, where the source has tokens. -/
theorem parse_tok (s : ByteArray) (T : List Tk) (hs : s.size ≤ 65536) (hl : lexF s.data.toList 0 0 false = .ok T) (w : World) (hT : TabL w) : Calls Tryz.prog 11 #[.string s] w (ParsePost s (T.map Tk.tm) w) := by
  rcases parse_all s with ⟨p, er, h1, h2, _⟩ | ⟨T2, h1, h2, h3, h4⟩
  · have := h2 hs
    rw [hl] at this
    cases this
  · rw [hl] at h3
    injection h3 with h3
    subst h3
    exact h4 w hT
/-- What is known of an answer: the cells read as x, as long as what lies there stays. -/
def OkE (x : Xp) (w' : World) (C : List Value) (m : Nat) : Prop := ∀ w2, Below w'.heap.size w' w2 → IsE m w2 C x
theorem stD_below {n : Nat} {w' : World} {P : World → Prop} (h : StD (fun j => n ≤ j) w' P) : ∀ w2, Below w'.heap.size w' w2 → P w2 := fun w2 hb => h w2 hb.size fun k hk _ => hb.block k hk
theorem parse_okC (s : ByteArray) (T : List Tk) (x : Xp) (F : Nat) (hs : s.size ≤ 65536) (hl : lexF s.data.toList 0 0 false = .ok T) (hp : pP (T.map Tk.tm) F .cond 0 = .ok x T.length) (hv : validX x = 0) (w : World) (hT : TabL w) :
    Calls Tryz.prog 11 #[.string s] w fun e w' => (∃ C m, e = .returned (.tuple #[.agg (List.toArray C), .int .i64 0, .int .i64 0]) ∧ OkE x w' C m) ∧ Below w.heap.size w w' :=
  (parse_tok s T hs hl w hT).mono fun e w' h => by
    obtain ⟨hb, h⟩ := h
    rw [parseP_ok hp] at h
    simp only [hv, List.length_map, Nat.lt_irrefl, if_false, ne_eq, not_true_eq_false] at h
    obtain ⟨C, m, e1, h1⟩ := h
    exact ⟨⟨C, m, e1, stD_below h1⟩, hb⟩
theorem parse_invC (s : ByteArray) (T : List Tk) (x : Xp) (F a r : Nat) (hs : s.size ≤ 65536) (hl : lexF s.data.toList 0 0 false = .ok T) (hp : pP (T.map Tk.tm) F .cond 0 = .ok x a) (hr : validX x = r) (h0 : r ≠ 0) (q : Int) (hq : posT s (T.map Tk.tm) 0 = q) (w : World) (hT : TabL w) :
    Calls Tryz.prog 11 #[.string s] w fun e w' => e = .returned (.tuple #[.agg zeroC.toArray, .int .i64 q, .int .i64 (r : Nat)]) ∧ Below w.heap.size w w' :=
  (parse_tok s T hs hl w hT).mono fun e w' h => by
    obtain ⟨hb, h⟩ := h
    rw [parseP_ok hp] at h
    simp only [hr, if_pos h0, hq] at h
    exact ⟨h, hb⟩

theorem fits_size : ∀ (m : Nat) (x : Vl), SizeOf.sizeOf x ≤ m → fitsV m x
  | 0, .mk k t i s l ks, h => by simp at h
  | m + 1, .mk k t i s l ks, h => fun y hy => by
    have h1 := List.sizeOf_lt_of_mem hy
    refine fits_size m y ?_
    have he := Vl.mk.sizeOf_spec k t i s l ks
    omega
theorem eqVal_refl (x : Vl) : eqVal x x = true := by
  have h := fits_size _ x (Nat.le_refl _)
  rw [eqVal_at h h, (cmpV_pre _).refl x]
  rfl
theorem eqL_refl {f : Xp → Xp → Bool} : ∀ (l : List Xp), (∀ x ∈ l, f x x = true) → eqL f l l = true
  | [], _ => rfl
  | x :: l, h => by
    unfold eqL
    rw [h x (List.mem_cons_self ..), eqL_refl l fun y hy => h y (List.mem_cons_of_mem _ hy)]
    rfl
theorem hdE_refl {f : Xp → Xp → Bool} (x : Xp) (h : ∀ y ∈ x.ar, f y y = true) : hdE f x x = true := by
  unfold hdE
  rw [eqVal_refl, eqL_refl _ h]
  simp
theorem eqE_refl : ∀ (m : Nat) (x : Xp), eqE m x x = true
  | 0, x => hdE_refl x fun _ _ => rfl
  | m + 1, x => hdE_refl x fun y _ => eqE_refl m y
theorem eqX_refl (x : Xp) : eqX x x = true := by
  have h := dep_size _ x (Nat.le_refl _)
  rw [eqX_at h h]
  exact eqE_refl _ x
open Classical in
theorem eqX_kd {x y : Xp} (h : x.kd ≠ y.kd) : eqX x y = false := by
  unfold eqX
  refine decide_eq_false fun ⟨m, _, _, e⟩ => ?_
  have hd : ∀ f, hdE f x y = false := fun f => by
    unfold hdE
    rw [decide_eq_false h]
    rfl
  cases m with
  | zero => rw [show eqE 0 x y = hdE _ x y from rfl, hd] at e; cases e
  | succ m => rw [show eqE (m + 1) x y = hdE _ x y from rfl, hd] at e; cases e
/-- Every expression of known depth, reckoned: levels, nodes, error, source. -/
def depB : Nat → Xp → Bool
  | 0, x => x.ar.isEmpty
  | m + 1, x => x.ar.all (depB m)
theorem dep_of : ∀ (m : Nat) (x : Xp), depB m x = true → Dep m x
  | 0, x, h => by
    unfold depB at h
    exact List.isEmpty_iff.1 h
  | m + 1, x, h => fun y hy => by
    unfold depB at h
    exact dep_of m y (List.all_eq_true.1 h y hy)
theorem nodesX_of {m : Nat} {x : Xp} (h : depB m x = true) : nodesX x = preE m 1 x := (pre_dep m _ 1 x (dep_of m x h) (dep_size _ x (Nat.le_refl _))).symm
theorem validX_of {m : Nat} {x : Xp} (h : depB m x = true) {v : Nat} (hv : (if 4096 < (preE m 1 x).length then 15 else firstN (preE m 1 x)) = v) : validX x = v := by
  unfold validX
  rw [nodesX_of h]
  exact hv
theorem srcX_of {m : Nat} {x : Xp} (h : depB m x = true) : srcX x = srcE m x := (src_dep (dep_of m x h)).symm
end Go.Proofs.YtjehhldboopocaaGreatDoor.Lx
