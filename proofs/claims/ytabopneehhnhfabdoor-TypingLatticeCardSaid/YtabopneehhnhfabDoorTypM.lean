/- The types of values as a plain function; contracts of the program's typeOf and typeOfAll (typing). -/
import Derived.Test.YtabopneehhnhfabDoorTypL
import Derived.Test.YtabopneehhnhfabDoorValM
import Derived.Test.YtabopneehhnhfabDoorValH
namespace Go.Proofs.YtabopneehhnhfabDoor
open Go.RowKit Go.Lib

def tyAll (f : Vl → Tc) (l : List Vl) : Tc := l.foldl (fun a y => bndC 7 0 a (f y)) (.leaf 7)
/-- The type of a value of at most m levels below it. -/
def tyV : Nat → Vl → Tc
  | 0, .mk k _ _ _ _ _ => if k = 4 ∨ k = 5 then .node (k + 1) (.leaf 7) else .leaf (k + 1)
  | m + 1, .mk k _ _ _ l _ => if k = 4 ∨ k = 5 then .node (k + 1) (tyAll (tyV m) l) else .leaf (k + 1)
theorem tyAll_snoc (f : Vl → Tc) (l : List Vl) (y : Vl) : tyAll f (l ++ [y]) = bndC 7 0 (tyAll f l) (f y) := by
  unfold tyAll
  rw [List.foldl_append]
  rfl
theorem firstV_zero {g : Vl → Nat} : ∀ {l : List Vl}, firstV g l = 0 → ∀ y, y ∈ l → g y = 0
  | x :: r, h, y, hy => by
    rw [firstV] at h
    by_cases h0 : g x ≠ 0
    · rw [if_pos h0] at h; exact absurd h h0
    · rw [if_neg h0] at h
      rcases List.mem_cons.1 hy with rfl | hy
      · simpa using h0
      · exact firstV_zero h y hy
theorem errV_parts {n : Nat} {k : Int} {t : Bool} {i : Int} {s : ByteArray} {l : List Vl} {ks : List (List UInt8)} (h : errV (n + 1) (.mk k t i s l ks) = 0) : partE (n + 1) k t i s l ks = 0 ∧ ∀ y, y ∈ l → errV n y = 0 := by
  rw [errV_eq] at h
  by_cases h0 : partE (n + 1) k t i s l ks ≠ 0
  · rw [if_pos h0] at h; exact absurd h h0
  · rw [if_neg h0] at h
    exact ⟨by simpa using h0, firstV_zero h⟩
theorem tyAll_good (P : Tc → Prop) (h7 : P (.leaf 7)) (hb : ∀ a b, P a → P b → P (bndC 7 0 a b)) (f : Vl → Tc) (l : List Vl) (h : ∀ y, y ∈ l → P (f y)) : P (tyAll f l) := by
  have key : ∀ (l : List Vl) (a : Tc), P a → (∀ y, y ∈ l → P (f y)) → P (l.foldl (fun a y => bndC 7 0 a (f y)) a) := by
    intro l
    induction l with
    | nil => exact fun a h _ => h
    | cons x r ih => exact fun a h g => ih _ (hb _ _ h (g x (by simp))) (fun y hy => g y (by simp [hy]))
  exact key l _ h7 h
theorem tyV_good : ∀ (n m : Nat) (x : Vl), errV n x = 0 → (tyV m x).ok ∧ (tyV m x).deep ≤ n := by
  intro n
  induction n with
  | zero => intro m x h; rw [errV_zero] at h; cases h
  | succ n ih =>
    rintro m ⟨k, t, i, s, l, ks⟩ h
    obtain ⟨h1, h2⟩ := errV_parts h
    obtain ⟨⟨a1, a2⟩, a3, _, _, _, a9⟩ := partE_zero h1
    have hall : ∀ m, (tyAll (tyV m) l).ok ∧ (tyAll (tyV m) l).deep ≤ n ∨ ¬ (k = 4 ∨ k = 5) := by
      intro m
      by_cases hk : k = 4 ∨ k = 5
      · left
        have hn : 1 ≤ n := by
          cases l with
          | nil =>
            by_cases hn : n = 0
            · exact absurd ⟨by omega, rfl, hn⟩ a9
            · omega
          | cons y r =>
            have h3 := h2 y (by simp)
            cases n with
            | zero => rw [errV_zero] at h3; cases h3
            | succ n => omega
        exact tyAll_good (fun t => t.ok ∧ t.deep ≤ n) ⟨leaf7, hn⟩ (fun a b ha hb => ⟨bndC_ok 7 0 leaf0 a b ha.1 hb.1, bndC_deep 7 0 a b n ha.2 hb.2⟩) _ l (fun y hy => ih m y (h2 y hy))
      · exact .inr hk
    have hl : ¬ (k = 4 ∨ k = 5) → leafK (k + 1) := by unfold leafK; omega
    have hn : k = 4 ∨ k = 5 → nodeK (k + 1) := by unfold nodeK; omega
    have hone : 1 ≤ n + 1 := by omega
    cases m with
    | zero =>
      unfold tyV
      by_cases hk : k = 4 ∨ k = 5
      · rw [if_pos hk]
        rcases hall 0 with h3 | h3
        · refine ⟨⟨hn hk, leaf7⟩, ?_⟩
          have := deep_pos (tyAll (tyV 0) l)
          show 1 + 1 ≤ n + 1
          omega
        · exact absurd hk h3
      · rw [if_neg hk]
        exact ⟨hl hk, hone⟩
    | succ m =>
      unfold tyV
      by_cases hk : k = 4 ∨ k = 5
      · rw [if_pos hk]
        rcases hall m with h3 | h3
        · exact ⟨⟨hn hk, h3.1⟩, Nat.succ_le_succ h3.2⟩
        · exact absurd hk h3
      · rw [if_neg hk]
        exact ⟨hl hk, hone⟩

theorem TailP.lt {P : Nat → Prop} {w : World} : ∀ (t : Tc) (av : Option Addr), TailP P w av t → TailP (fun b => P b ∧ b < w.heap.size) w av t
  | .leaf _, _, _ => trivial
  | .node _ t, av, h => by
    obtain ⟨b, off, a, c, h1, h2, h3, c0, c1, hl⟩ := h
    exact ⟨b, off, a, c, h1, ⟨h2, h3⟩, h3, c0, c1, TailP.lt t a hl⟩
theorem IsP.lt {P : Nat → Prop} {w : World} {V : Value} {t : Tc} (h : IsP P w V t) : IsP (fun b => P b ∧ b < w.heap.size) w V t := by
  obtain ⟨av, c, e, h⟩ := h
  exact ⟨av, c, e, TailP.lt t av h⟩
/-- join of two types whose blocks lie from n on. -/
theorem joinN_any (n : Nat) (a b : Tc) (A B : Value) (w : World) (hn : n ≤ w.heap.size) (ha : a.ok) (hb : b.ok) (hA : IsP (fun b => n ≤ b) w A a) (hB : IsP (fun b => n ≤ b) w B b) :
    Calls Tryd.prog 44 #[A, B] w fun e w' => ∃ V, e = .returned V ∧ IsP (fun b => n ≤ b) w' V (bndC 7 0 a b) ∧ Below w.heap.size w w' :=
  (joinP_any a b A B w (fun b => n ≤ b ∧ b < w.heap.size) (fun _ h => h.2) ha hb hA.lt hB.lt).mono fun _ _ ⟨V, h1, h2, h3⟩ => ⟨V, h1, h2.below (fun b h => by rcases h with h | h; exact h.1; omega) (Below.refl _ _), h3⟩
/-- typeOf at values of at most m levels below. -/
def One (m : Nat) : Prop := ∀ (n : Nat) (V : Value) (x : Vl) (w : World), errV n x = 0 → IsV m w V x → TabT w →
  Calls Tryd.prog 36 #[V] w fun e w' => ∃ R, e = .returned R ∧ IsP (fun b => w.heap.size ≤ b) w' R (tyV m x) ∧ Below w.heap.size w w'
def AllF (m : Nat) (f : Vl → Tc) : Prop := ∀ (n : Nat) (av : Option Addr) (l : List Vl) (c : Nat) (w : World), l.length ≤ 9223372036854775000 → (∀ y, y ∈ l → errV n y = 0) → ReadsV m w av l → TabT w →
  Calls Tryd.prog 56 #[.slice av l.length c] w fun e w' => ∃ R, e = .returned R ∧ IsP (fun b => w.heap.size ≤ b) w' R (tyAll f l) ∧ Below w.heap.size w w'

theorem tail_set {n : Nat} {w : World} {av : Option Addr} {t : Tc} (h : TailP (fun b => n + 1 ≤ b) w av t) (u v : Value) : TailP (fun b => n + 1 ≤ b) ((w.setCell ⟨n, 0, none⟩ u).setCell ⟨n, 1, none⟩ v) av t :=
  TailP.kept (fun _ h => h) (fun b hb _ => (Below.heap_setCell _ _ _ b (show b ≠ n by omega)).trans (Below.heap_setCell _ _ _ b (show b ≠ n by omega))) t av h
theorem all_fin {n r c : Nat} {w : World} {av : Option Addr} {t : Tc} (h : TailP (fun b => n + 1 ≤ b) w av t) (hr : r < n) (u v : Value) : IsP (fun b => r ≤ b) ((w.setCell ⟨r, 0, none⟩ u).setCell ⟨r, 1, none⟩ v) (.agg #[.int .i64 t.kd, .slice av t.ln c]) t :=
  ⟨av, c, rfl, TailP.kept (fun b h => by omega) (fun b hb _ => (Below.heap_setCell _ _ _ b (show b ≠ r by omega)).trans (Below.heap_setCell _ _ _ b (show b ≠ r by omega))) t av h⟩

set_option maxHeartbeats 4000000 in
theorem all_step (m : Nat) (h1 : One m) : AllF (m + 1) (tyV m) := by
  intro n av l c w hlen he hr hT
  have H1 := Lib.hid h1
  have HE := Lib.hid he
  have HR := Lib.hid hr
  have HT := Lib.hid hT
  have SI := Lib.hid (fun w => tySimple_any 7 w)
  clear h1 he hr hT
  go_enter Tryd.func56, Tryd.ntmps56
  go_wp2_with fail
  go_fit (SI.out _)
  rintro e w1 ⟨rfl, hb1⟩
  have TR0 := (TwoAt.new w 24 (.int .i64 0) (.slice none 0 0)).below hb1
  have B1 := Lib.hid (Below.trans (show Below w.heap.size w _ from (by repeat (first | exact Below.refl _ _ | refine Below.setCell ?_ (by simp <;> omega) _ | refine Below.alloc ?_ (by simp <;> omega) _))) (hb1.mono (by simp <;> omega)))
  have z1 := TR0.lt
  clear SI hb1
  go_wp2_with fail
  go_loopw [9] (fun s9 wr => ∃ (j : Nat) (av' : Option Addr) (c' : Nat), j ≤ l.length ∧ s9 = .int .i64 (j : Int) ∧ TwoAt wr w1.heap.size 24 (.int .i64 (tyAll (tyV m) (l.take j)).kd) (.slice av' (tyAll (tyV m) (l.take j)).ln c') ∧ Hid (TailP (fun b => w1.heap.size + 1 ≤ b) wr av' (tyAll (tyV m) (l.take j))) ∧
    Hid (TwoAt wr w.heap.size 24 (.int .i64 0) (.slice none 0 0)) ∧ Hid (Below w.heap.size w wr)) (fun s9 _ => l.length - (RowKit.intOf s9).toNat)
  case atStart => exact ⟨0, none, 0, by omega, rfl, TwoAt.new _ _ _ _, Lib.hid trivial, Lib.hid (TR0.alloc _), Lib.hid (B1.out.alloc B1.out.size _)⟩
  case round =>
    obtain ⟨j, av', c', hj, rfl, TA, HTL, TR, HB⟩ := hrel
    have zA := TA.lt
    by_cases hlt : j < l.length
    · obtain ⟨b, off, k', t', i', s', l', ks', a2, c2, kv', kc', e0, rfl, h2', q0, q1, q2, q3, q4, q5, r0, r1, r2, r3, r4, r5, r6, r7, r8, r9, hs', hl'⟩ := HR.out j hlt
      have p0 := (HB.out.cell (p := ⟨b, _, none⟩) h2').trans q0
      have p1 := (HB.out.cell (p := ⟨b, _, none⟩) h2').trans q1
      have p2 := (HB.out.cell (p := ⟨b, _, none⟩) h2').trans q2
      have p3 := (HB.out.cell (p := ⟨b, _, none⟩) h2').trans q3
      have p4 := (HB.out.cell (p := ⟨b, _, none⟩) h2').trans q4
      have p5 := (HB.out.cell (p := ⟨b, _, none⟩) h2').trans q5
      have hmem : Vl.mk k' t' i' s' l' ks' ∈ l := List.mem_of_getElem? e0
      have hx0 := HE.out _ hmem
      have hgood := (tyV_good n m _ hx0).1
      have HO := Lib.hid (fun w' (hb : Below w.heap.size w w') => H1.out n (.agg #[.int .i64 k', .bool t', .int .i64 i', .string s', .slice a2 l'.length c2, .slice kv' ks'.length kc']) _ w' hx0 (IsV.below ⟨k', t', i', s', l', ks', a2, c2, kv', kc', rfl, rfl, r0, r1, r2, r3, r4, r5, r6, r7, r8, r9, hs', hl'⟩ hb) (HT.out.below hb))
      have hgall : (tyAll (tyV m) (l.take j)).ok := tyAll_good Tc.ok leaf7 (fun a b ha hb => bndC_ok 7 0 leaf0 a b ha hb) _ _ (fun y hy => (tyV_good n m y (HE.out y (List.mem_of_mem_take hy))).1)
      have hnext : tyAll (tyV m) (l.take (j + 1)) = bndC 7 0 (tyAll (tyV m) (l.take j)) (tyV m (.mk k' t' i' s' l' ks')) := by
        obtain ⟨_, e1⟩ := List.getElem?_eq_some_iff.1 e0
        rw [List.take_succ_eq_append_getElem hlt, e1, tyAll_snoc]
      obtain ⟨T, hTT⟩ : ∃ T, T = tyAll (tyV m) (l.take j) := ⟨_, rfl⟩
      obtain ⟨U, hUU⟩ : ∃ U, U = tyV m (.mk k' t' i' s' l' ks') := ⟨_, rfl⟩
      rw [← hTT] at TA HTL hgall hnext
      rw [← hUU] at HO hgood hnext
      have HN := Lib.hid hnext
      have JN := Lib.hid (fun (w2 : World) (A B : Value) (hz : w1.heap.size + 1 ≤ w2.heap.size) (hA : IsP (fun b => w1.heap.size + 1 ≤ b) w2 A T) (hB : IsP (fun b => w1.heap.size + 1 ≤ b) w2 B U) => joinN_any (w1.heap.size + 1) T U A B w2 hz hgall hgood hA hB)
      have hjI : (j : Int) < (l.length : Int) := by omega
      clear hnext hgood hgall hx0 hmem e0 q0 q1 q2 q3 q4 q5 r0 r1 r2 r3 r4 r5 r6 r7 r8 r9 hs' hl' hTT hUU
      go_wp2_with fail
      have V0 := V6_new wr k' t' i' s' (.slice a2 l'.length c2) (.slice kv' ks'.length kc')
      have TA0 := TA.alloc (.cells #[.int .i64 k', .bool t', .int .i64 i', .string s', .slice a2 l'.length c2, .slice kv' ks'.length kc'] 33)
      have TRA := TR.out.alloc (.cells #[.int .i64 k', .bool t', .int .i64 i', .string s', .slice a2 l'.length c2, .slice kv' ks'.length kc'] 33)
      have BA := HB.out.alloc HB.out.size (.cells #[.int .i64 k', .bool t', .int .i64 i', .string s', .slice a2 l'.length c2, .slice kv' ks'.length kc'] 33)
      have HA0 : IsP (fun b => w1.heap.size + 1 ≤ b) (wr.alloc (.cells #[.int .i64 k', .bool t', .int .i64 i', .string s', .slice a2 l'.length c2, .slice kv' ks'.length kc'] 33)) (.agg #[.int .i64 T.kd, .slice av' T.ln c']) T := IsP.below (w := wr) ⟨av', c', rfl, HTL.out⟩ (fun _ h => h) ((Below.refl _ _).alloc (Nat.le_refl _) _)
      have zz : wr.heap.size < (wr.alloc (.cells #[.int .i64 k', .bool t', .int .i64 i', .string s', .slice a2 l'.length c2, .slice kv' ks'.length kc'] 33)).heap.size := by simp
      obtain ⟨W0, hW0⟩ : ∃ W0, W0 = wr.alloc (.cells #[.int .i64 k', .bool t', .int .i64 i', .string s', .slice a2 l'.length c2, .slice kv' ks'.length kc'] 33) := ⟨_, rfl⟩
      rw [← hW0] at V0 TA0 TRA BA HA0 zz ⊢
      clear hW0 p0 p1 p2 p3 p4 p5
      obtain ⟨-, v0, v1, v2, v3, v4, v5⟩ := V0
      have a0 := TA0.cell0
      have a1 := TA0.cell1
      have BA := Lib.hid BA
      have HA0 := Lib.hid HA0
      have hzz : w1.heap.size + 1 ≤ W0.heap.size := by omega
      have JK := Lib.hid (fun (w2 : World) (ra : Option Addr) (rc : Nat) (hb : Below W0.drew.heap.size W0.drew w2) (hT : TailP (fun b => W0.drew.heap.size ≤ b) w2 ra U) =>
        JN.out w2 (.agg #[.int .i64 T.kd, .slice av' T.ln c']) (.agg #[.int .i64 U.kd, .slice ra U.ln rc]) (Nat.le_trans hzz hb.size) (HA0.out.below (fun _ h => h) ((Below.refl _ W0).drew.trans hb)) (IsP.below (w := w2) ⟨ra, rc, rfl, hT⟩ (fun b h => Nat.le_trans hzz h) (Below.refl _ _)))
      clear JN HA0 TA
      go_region_with (first
        | (go_at_call 36; go_fit (HO.out _ BA.out.drew); rintro e w2 ⟨R, rfl, ⟨ra, rc, rfl, hTR⟩, hb2⟩; have TA2 := TA0.drew.below hb2; have k0 := TA2.cell0; have k1 := TA2.cell1; have kf0 := TA2.frozen 0; have kf1 := TA2.frozen 1)
        | (go_at_call 44; go_fit (JK.out _ _ _ hb2 hTR); rintro e w3 ⟨R3, rfl, ⟨ra3, rc3, rfl, hT3⟩, hb3⟩; have TA3 := TA2.below hb3; have m0 := TA3.cell0; have m1 := TA3.cell1; have mf0 := TA3.frozen 0; have mf1 := TA3.frozen 1))
      all_goals
        go_wp2_with fail
        have hB2 := BA.out.drew.trans (hb2.mono BA.out.drew.size)
        have hB3 := hB2.trans (hb3.mono hB2.size)
        have hTR3 := (TRA.drew.below hb2).below hb3
        refine ⟨⟨j + 1, ra3, rc3, by omega, by go_num, by rw [HN.out]; exact (TA3.set0 _).set1 _, Lib.hid (by rw [HN.out]; exact tail_set hT3 _ _), Lib.hid ((hTR3.other (by omega) _ _).other (by omega) _ _), Lib.hid ((hB3.setCell (p := ⟨w1.heap.size, 0, none⟩) (Nat.le_of_lt z1) _).setCell (p := ⟨w1.heap.size, 1, none⟩) (Nat.le_of_lt z1) _)⟩, by simp [RowKit.intOf]; omega⟩
    · have hje : j = l.length := by omega
      have hjI : ¬ (j : Int) < (l.length : Int) := by omega
      subst hje
      rw [List.take_length] at TA HTL
      have c0 := TA.cell0
      have c1 := TA.cell1
      have t0 := TR.out.cell0
      have t1 := TR.out.cell1
      have f0 := TR.out.frozen 0
      have f1 := TR.out.frozen 1
      clear H1 HE HR hlt
      go_wp2_with fail
      have TR2 := (TR.out.set0 (.int .i64 (tyAll (tyV m) l).kd)).set1 (.slice av' (tyAll (tyV m) l).ln c')
      have u0 := TR2.cell0
      have u1 := TR2.cell1
      exact bodyPost_ret (v := .agg #[.int .i64 (tyAll (tyV m) l).kd, .slice av' (tyAll (tyV m) l).ln c']) (by simp [results, Tryd.f56, go_sem, u0, u1]) rfl ⟨_, rfl, all_fin HTL.out z1 _ _, (HB.out.setCell (by simp) _).setCell (by simp) _⟩

set_option maxHeartbeats 4000000 in
/-- Over no elements. -/
theorem all_none (f : Vl → Tc) (av : Option Addr) (c : Nat) (w : World) :
    Calls Tryd.prog 56 #[.slice av 0 c] w fun e w' => ∃ R, e = .returned R ∧ IsP (fun b => w.heap.size ≤ b) w' R (tyAll f []) ∧ Below w.heap.size w w' := by
  have SI := Lib.hid (fun w => tySimple_any 7 w)
  go_enter Tryd.func56, Tryd.ntmps56
  go_wp2_with fail
  go_fit (SI.out _)
  rintro e w1 ⟨rfl, hb1⟩
  have TR0 := (TwoAt.new w 24 (.int .i64 0) (.slice none 0 0)).below hb1
  have B1 := Lib.hid (Below.trans (show Below w.heap.size w _ from (by repeat (first | exact Below.refl _ _ | refine Below.setCell ?_ (by simp <;> omega) _ | refine Below.alloc ?_ (by simp <;> omega) _))) (hb1.mono (by simp <;> omega)))
  have z1 := TR0.lt
  clear SI hb1
  go_wp2_with fail
  go_loopw [9] (fun s9 wr => s9 = .int .i64 0 ∧ wr = w1.alloc (.cells #[.int .i64 7, .slice none 0 0] 24)) (fun s9 _ => 0)
  case atStart => exact ⟨rfl, rfl⟩
  case round =>
    obtain ⟨rfl, rfl⟩ := hrel
    have TRA := TR0.alloc (.cells #[.int .i64 7, .slice none 0 0] 24)
    have BA := B1.out.alloc B1.out.size (.cells #[.int .i64 7, .slice none 0 0] 24)
    have TA := TwoAt.new w1 24 (.int .i64 7) (.slice none 0 0)
    have zA := TA.lt
    obtain ⟨W0, hW0⟩ : ∃ W0, W0 = w1.alloc (.cells #[.int .i64 7, .slice none 0 0] 24) := ⟨_, rfl⟩
    rw [← hW0] at TRA TA BA zA ⊢
    have c0 := TA.cell0
    have c1 := TA.cell1
    have t0 := TRA.cell0
    have t1 := TRA.cell1
    have f0 := TRA.frozen 0
    have f1 := TRA.frozen 1
    have z2 := TRA.lt
    have BA := Lib.hid BA
    clear hW0
    go_wp2_with fail
    have TR2 := (TRA.set0 (.int .i64 7)).set1 (.slice none 0 0)
    have u0 := TR2.cell0
    have u1 := TR2.cell1
    exact bodyPost_ret (v := .agg #[.int .i64 7, .slice none 0 0]) (by simp [results, Tryd.f56, go_sem, u0, u1]) rfl ⟨.agg #[.int .i64 7, .slice none 0 0], rfl, ⟨none, 0, rfl, trivial⟩, (BA.out.setCell (by simp) _).setCell (by simp) _⟩

end Go.Proofs.YtabopneehhnhfabDoor
