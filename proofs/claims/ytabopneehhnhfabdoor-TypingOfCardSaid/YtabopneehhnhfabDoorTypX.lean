/- Contracts of the document's of (pipelineref08). -/
import Derived.Test.YtabopneehhnhfabDoorTypW
import Derived.Test.YtabopneehhnhfabDoorTypN
namespace Go.Proofs.YtabopneehhnhfabDoor
open Go.RowKit Go.Lib

/-- of at values of at most m levels below. -/
def ROne (m : Nat) : Prop := ∀ (n : Nat) (V : Value) (x : Vl) (w : World), errV n x = 0 → IsV m w V x →
  Calls Tryd.prog 38 #[V] w fun e w' => ∃ R, e = .returned R ∧ IsP (fun b => w.heap.size ≤ b) w' R (tyV m x) ∧ Below w.heap.size w w'
/-- join of two types whose blocks lie from n on. -/
theorem rjoinN_any (n : Nat) (a b : Tc) (A B : Value) (w : World) (hn : n ≤ w.heap.size) (ha : a.ok) (hb : b.ok) (hA : IsP (fun b => n ≤ b) w A a) (hB : IsP (fun b => n ≤ b) w B b) :
    Calls Tryd.prog 45 #[A, B] w fun e w' => ∃ V, e = .returned V ∧ IsP (fun b => n ≤ b) w' V (bndC 7 0 a b) ∧ Below w.heap.size w w' :=
  (rjoin_any a b A B w (fun b => n ≤ b ∧ b < w.heap.size) (fun _ h => h.2) ha hb hA.lt hB.lt).mono fun _ _ ⟨V, h1, h2, h3⟩ => ⟨V, h1, h2.below (fun b h => by rcases h with h | h; exact h.1; omega) (Below.refl _ _), h3⟩

set_option maxHeartbeats 4000000 in
/-- of another value. -/
theorem rOne_leaf (k : Int) (h0 : 0 ≤ k) (h3 : k ≤ 3) (t : Bool) (i : Int) (s : ByteArray) (av kv : Option Addr) (l : Nat) (c kn kc : Nat) (w : World) :
    Calls Tryd.prog 38 #[.agg #[.int .i64 k, .bool t, .int .i64 i, .string s, .slice av l c, .slice kv kn kc]] w fun e w' => ∃ R, e = .returned R ∧ IsP (fun b => w.heap.size ≤ b) w' R (.leaf (k + 1)) ∧ Below w.heap.size w w' := by
  have SI := Lib.hid (fun k w => rPlain_any k w)
  rcases (show k = 0 ∨ k = 1 ∨ k = 2 ∨ k = 3 by omega) with rfl | rfl | rfl | rfl
  all_goals
    clear h0 h3
    go_enter Tryd.func38, Tryd.ntmps38
    go_wp2_with fail
    go_fit (SI.out _ _)
    rintro e w1 ⟨rfl, hb1⟩
    have TR := (TwoAt.new _ 24 (.int .i64 0) (.slice none 0 0)).below hb1
    have B1 := Lib.hid (Below.trans (show Below w.heap.size w _ from (by repeat (first | exact Below.refl _ _ | refine Below.setCell ?_ (by simp <;> omega) _ | refine Below.alloc ?_ (by simp <;> omega) _))) (hb1.mono (by simp <;> omega)))
    simp only [World.size_alloc] at TR
    have t0 := TR.cell0
    have t1 := TR.cell1
    have tf0 := TR.frozen 0
    have tf1 := TR.frozen 1
    clear hb1
    go_wp2_with fail
    have TR2 := fun x => (TR.set0 (.int .i64 x)).set1 (.slice none 0 0)
    have u0 := fun x => (TR2 x).cell0
    have u1 := fun x => (TR2 x).cell1
    exact bodyPost_ret (v := .agg #[.int .i64 _, .slice none 0 0]) (by simp [results, Tryd.f38, go_sem, u0, u1]; rfl) rfl ⟨_, rfl, ⟨none, 0, rfl, trivial⟩, (B1.out.setCell (by simp <;> omega) _).setCell (by simp <;> omega) _⟩

theorem V6_set2 {w : World} {B n : Nat} {k : Int} {t : Bool} {i : Int} {s : ByteArray} {sl kl : Value} (h : V6 w B k t i s sl kl) (hn : B ≠ n) (u v : Value) : V6 ((w.setCell ⟨n, 0, none⟩ u).setCell ⟨n, 1, none⟩ v) B k t i s sl kl := by
  obtain ⟨h0, c0, c1, c2, c3, c4, c5⟩ := h
  have hs : ((w.setCell ⟨n, 0, none⟩ u).setCell ⟨n, 1, none⟩ v).heap[B]? = w.heap[B]? := (Below.heap_setCell _ _ _ B hn).trans (Below.heap_setCell _ _ _ B hn)
  exact ⟨by simpa using h0, (cell_block hs).trans c0, (cell_block hs).trans c1, (cell_block hs).trans c2, (cell_block hs).trans c3, (cell_block hs).trans c4, (cell_block hs).trans c5⟩

set_option maxHeartbeats 8000000 in
/-- of a list or a map. -/
theorem rOne_node (m : Nat) (n : Nat) (k : Int) (hk : k = 4 ∨ k = 5) (t : Bool) (i : Int) (s : ByteArray) (av kv : Option Addr) (l : List Vl) (c kn kc : Nat) (w : World) (ih : l ≠ [] → ROne m) (hlen : l.length ≤ 9223372036854775000) (he : ∀ y, y ∈ l → errV n y = 0) (hr : ReadsV (m + 1) w av l) :
    Calls Tryd.prog 38 #[.agg #[.int .i64 k, .bool t, .int .i64 i, .string s, .slice av l.length c, .slice kv kn kc]] w fun e w' => ∃ R, e = .returned R ∧ IsP (fun b => w.heap.size ≤ b) w' R (.node (k + 1) (tyAll (tyV m) l)) ∧ Below w.heap.size w w' := by
  have H1 := Lib.hid ih
  have HE := Lib.hid he
  have HR := Lib.hid hr
  have SI := Lib.hid (fun w => rPlain_any 7 w)
  clear ih he hr
  rcases hk with rfl | rfl
  · go_enter Tryd.func38, Tryd.ntmps38
    go_wp2_with fail
    go_fit (SI.out _)
    rintro e w1 ⟨rfl, hb1⟩
    have VV := ((V6_new w 4 t i s (.slice av l.length c) (.slice kv kn kc)).below (by simp) ((Below.refl _ _).alloc (Nat.le_refl _) (.cells #[.int .i64 0, .slice none 0 0] 24))).below (by simp <;> omega) hb1
    have TR0 := (TwoAt.new _ 24 (.int .i64 0) (.slice none 0 0)).below hb1
    have B1 := Lib.hid (Below.trans (show Below w.heap.size w _ from (by repeat (first | exact Below.refl _ _ | refine Below.setCell ?_ (by simp <;> omega) _ | refine Below.alloc ?_ (by simp <;> omega) _))) (hb1.mono (by simp <;> omega)))
    simp only [World.size_alloc] at TR0
    have z1 := TR0.lt
    clear SI hb1
    go_wp2_with fail
    go_loopw [4] (fun s4 wr => ∃ (j : Nat) (av' : Option Addr) (c' : Nat), j ≤ l.length ∧ s4 = .int .i64 (j : Int) ∧ Hid (TwoAt wr w1.heap.size 24 (.int .i64 (tyAll (tyV m) (l.take j)).kd) (.slice av' (tyAll (tyV m) (l.take j)).ln c')) ∧ Hid (TailP (fun b => w1.heap.size + 1 ≤ b) wr av' (tyAll (tyV m) (l.take j))) ∧
      Hid (TwoAt wr (w.heap.size + 1) 24 (.int .i64 0) (.slice none 0 0)) ∧ Hid (V6 wr w.heap.size 4 t i s (.slice av l.length c) (.slice kv kn kc)) ∧ Hid (Below w.heap.size w wr)) (fun s4 _ => l.length - (RowKit.intOf s4).toNat)
    case atStart => exact ⟨0, none, 0, by omega, rfl, Lib.hid (TwoAt.new _ _ _ _), Lib.hid trivial, Lib.hid (TR0.alloc _), Lib.hid (VV.below VV.1 ((Below.refl _ _).alloc (Nat.le_refl _) _)), Lib.hid (B1.out.alloc B1.out.size _)⟩
    case round =>
      obtain ⟨j, av', c', hj, rfl, TA, HTL, TR, HV, HB⟩ := hrel
      clear VV TR0 B1
      have zA := TA.out.lt
      have a0 := TA.out.cell0
      have a1 := TA.out.cell1
      have af0 := TA.out.frozen 0
      have af1 := TA.out.frozen 1
      obtain ⟨-, v0, -, -, -, v4, -⟩ := id HV.out
      by_cases hlt : j < l.length
      · obtain ⟨b, off, k', t', i', s', l', ks', a2, c2, kv', kc', e0, rfl, h2', q0, q1, q2, q3, q4, q5, r0, r1, r2, r3, r4, r5, r6, r7, r8, r9, hs', hl'⟩ := HR.out j hlt
        have p0 := (HB.out.cell (p := ⟨b, _, none⟩) h2').trans q0
        have p1 := (HB.out.cell (p := ⟨b, _, none⟩) h2').trans q1
        have p2 := (HB.out.cell (p := ⟨b, _, none⟩) h2').trans q2
        have p3 := (HB.out.cell (p := ⟨b, _, none⟩) h2').trans q3
        have p4 := (HB.out.cell (p := ⟨b, _, none⟩) h2').trans q4
        have p5 := (HB.out.cell (p := ⟨b, _, none⟩) h2').trans q5
        have hmem : Vl.mk k' t' i' s' l' ks' ∈ l := List.mem_of_getElem? e0
        have hx0 := HE.out _ hmem
        have hgood := (tyV_good n m _ hx0).1
        have HO := Lib.hid (fun w' (hb : Below w.heap.size w w') => H1.out (List.ne_nil_of_length_pos (by omega)) n (.agg #[.int .i64 k', .bool t', .int .i64 i', .string s', .slice a2 l'.length c2, .slice kv' ks'.length kc']) _ w' hx0 (IsV.below ⟨k', t', i', s', l', ks', a2, c2, kv', kc', rfl, rfl, r0, r1, r2, r3, r4, r5, r6, r7, r8, r9, hs', hl'⟩ hb))
        have hgall : (tyAll (tyV m) (l.take j)).ok := tyAll_good Tc.ok leaf7 (fun a b ha hb => bndC_ok 7 0 leaf0 a b ha hb) _ _ (fun y hy => (tyV_good n m y (HE.out y (List.mem_of_mem_take hy))).1)
        have hnext : tyAll (tyV m) (l.take (j + 1)) = bndC 7 0 (tyAll (tyV m) (l.take j)) (tyV m (.mk k' t' i' s' l' ks')) := by
          obtain ⟨_, e1⟩ := List.getElem?_eq_some_iff.1 e0
          rw [List.take_succ_eq_append_getElem hlt, e1, tyAll_snoc]
        obtain ⟨T, hTT⟩ : ∃ T, T = tyAll (tyV m) (l.take j) := ⟨_, rfl⟩
        obtain ⟨U, hUU⟩ : ∃ U, U = tyV m (.mk k' t' i' s' l' ks') := ⟨_, rfl⟩
        rw [← hTT] at TA HTL hgall hnext a0 a1
        rw [← hUU] at HO hgood hnext
        have HN := Lib.hid hnext
        have hzz : w1.heap.size + 1 ≤ wr.heap.size := zA
        have JK := Lib.hid (fun (w2 : World) (ra : Option Addr) (rc : Nat) (hb : Below wr.drew.heap.size wr.drew w2) (hT : TailP (fun b => wr.drew.heap.size ≤ b) w2 ra U) =>
          rjoinN_any (w1.heap.size + 1) T U (.agg #[.int .i64 T.kd, .slice av' T.ln c']) (.agg #[.int .i64 U.kd, .slice ra U.ln rc]) w2 (Nat.le_trans hzz hb.size) hgall hgood (IsP.below (w := wr) ⟨av', c', rfl, HTL.out⟩ (fun _ h => h) ((Below.refl _ wr).drew.trans hb)) (IsP.below (w := w2) ⟨ra, rc, rfl, hT⟩ (fun b h => Nat.le_trans hzz h) (Below.refl _ _)))
        have hjI : (j : Int) < (l.length : Int) := by omega
        clear hnext hgood hgall hx0 hmem e0 q0 q1 q2 q3 q4 q5 r0 r1 r2 r3 r4 r5 r6 r7 r8 r9 hs' hl' hTT hUU
        go_wp2_with fail
        have dA := TA.out.drew
        clear v0
        go_region_with (first
          | (go_at_call 38; go_fit (HO.out _ HB.out.drew); rintro e w2 ⟨R, rfl, ⟨ra, rc, rfl, hTR⟩, hb2⟩; have TA2 := dA.below hb2; have k0 := TA2.cell0; have k1 := TA2.cell1; have kf0 := TA2.frozen 0; have kf1 := TA2.frozen 1)
          | (go_at_call 45; go_fit (JK.out _ _ _ hb2 hTR); rintro e w3 ⟨R3, rfl, ⟨ra3, rc3, rfl, hT3⟩, hb3⟩; have TA3 := TA2.below hb3; have m0 := TA3.cell0; have m1 := TA3.cell1; have mf0 := TA3.frozen 0; have mf1 := TA3.frozen 1))
        all_goals
          go_wp2_with fail
          have hB2 := HB.out.drew.trans (hb2.mono HB.out.drew.size)
          have hB3 := hB2.trans (hb3.mono hB2.size)
          have hTR3 := (TR.out.drew.below hb2).below hb3
          have hV2 := HV.out.below HV.out.1 ((Below.refl wr.heap.size wr).drew.trans hb2)
          have hV3 := hV2.below hV2.1 hb3
          refine ⟨⟨j + 1, ra3, rc3, by omega, by go_num, Lib.hid (by rw [HN.out]; exact (TA3.set0 _).set1 _), Lib.hid (by rw [HN.out]; exact tail_set hT3 _ _), Lib.hid ((hTR3.other (by omega) _ _).other (by omega) _ _), Lib.hid (V6_set2 hV3 (by omega) _ _), Lib.hid ((hB3.setCell (p := ⟨w1.heap.size, 0, none⟩) (by show w.heap.size ≤ w1.heap.size; omega) _).setCell (p := ⟨w1.heap.size, 1, none⟩) (by show w.heap.size ≤ w1.heap.size; omega) _)⟩, by simp [RowKit.intOf]; omega⟩
      · have hje : j = l.length := by omega
        have hjI : ¬ (j : Int) < (l.length : Int) := by omega
        subst hje
        rw [List.take_length] at TA HTL a0 a1
        have Z := Lib.hid (fun a v n c w => rWith_any 5 a v n c w)
        clear H1 HE HR hlt
        go_wp2_with fail
        go_fit (Z.out _ _ _ _ _)
        rintro e w3 ⟨g, rfl, hg', hc0, hc1, hb3⟩
        have TR3 := TR.out.below hb3
        have B3 := Lib.hid (HB.out.trans (hb3.mono HB.out.size))
        have HE := Lib.hid (one_end (w := w) (r := w.heap.size + 1) (k := 5) (n2 := w1.heap.size + 1) ⟨av', c', rfl, HTL.out⟩ (Nat.le_succ _) (by omega) TR.out.lt hg' hc0 hc1 hb3 (.int .i64 5) (.slice (some ⟨g, 0, none⟩) 1 1))
        have v0 := TR3.cell0
        have v1 := TR3.cell1
        have f0 := TR3.frozen 0
        have f1 := TR3.frozen 1
        clear hg' hc0 hc1 hb3
        go_wp2_with fail
        have TR4 := (TR3.set0 (.int .i64 5)).set1 (.slice (some ⟨g, 0, none⟩) 1 1)
        have u0 := TR4.cell0
        have u1 := TR4.cell1
        exact bodyPost_ret (v := .agg #[.int .i64 5, .slice (some ⟨g, 0, none⟩) 1 1]) (by simp [results, Tryd.f38, go_sem, u0, u1]) rfl ⟨_, rfl, HE.out, (B3.out.setCell (by simp <;> omega) _).setCell (by simp <;> omega) _⟩
  · go_enter Tryd.func38, Tryd.ntmps38
    go_wp2_with fail
    go_fit (SI.out _)
    rintro e w1 ⟨rfl, hb1⟩
    have VV := ((V6_new w 5 t i s (.slice av l.length c) (.slice kv kn kc)).below (by simp) ((Below.refl _ _).alloc (Nat.le_refl _) (.cells #[.int .i64 0, .slice none 0 0] 24))).below (by simp <;> omega) hb1
    have TR0 := (TwoAt.new _ 24 (.int .i64 0) (.slice none 0 0)).below hb1
    have B1 := Lib.hid (Below.trans (show Below w.heap.size w _ from (by repeat (first | exact Below.refl _ _ | refine Below.setCell ?_ (by simp <;> omega) _ | refine Below.alloc ?_ (by simp <;> omega) _))) (hb1.mono (by simp <;> omega)))
    simp only [World.size_alloc] at TR0
    have z1 := TR0.lt
    clear SI hb1
    go_wp2_with fail
    go_loopw [4] (fun s4 wr => ∃ (j : Nat) (av' : Option Addr) (c' : Nat), j ≤ l.length ∧ s4 = .int .i64 (j : Int) ∧ Hid (TwoAt wr w1.heap.size 24 (.int .i64 (tyAll (tyV m) (l.take j)).kd) (.slice av' (tyAll (tyV m) (l.take j)).ln c')) ∧ Hid (TailP (fun b => w1.heap.size + 1 ≤ b) wr av' (tyAll (tyV m) (l.take j))) ∧
      Hid (TwoAt wr (w.heap.size + 1) 24 (.int .i64 0) (.slice none 0 0)) ∧ Hid (V6 wr w.heap.size 5 t i s (.slice av l.length c) (.slice kv kn kc)) ∧ Hid (Below w.heap.size w wr)) (fun s4 _ => l.length - (RowKit.intOf s4).toNat)
    case atStart => exact ⟨0, none, 0, by omega, rfl, Lib.hid (TwoAt.new _ _ _ _), Lib.hid trivial, Lib.hid (TR0.alloc _), Lib.hid (VV.below VV.1 ((Below.refl _ _).alloc (Nat.le_refl _) _)), Lib.hid (B1.out.alloc B1.out.size _)⟩
    case round =>
      obtain ⟨j, av', c', hj, rfl, TA, HTL, TR, HV, HB⟩ := hrel
      clear VV TR0 B1
      have zA := TA.out.lt
      have a0 := TA.out.cell0
      have a1 := TA.out.cell1
      have af0 := TA.out.frozen 0
      have af1 := TA.out.frozen 1
      obtain ⟨-, v0, -, -, -, v4, -⟩ := id HV.out
      by_cases hlt : j < l.length
      · obtain ⟨b, off, k', t', i', s', l', ks', a2, c2, kv', kc', e0, rfl, h2', q0, q1, q2, q3, q4, q5, r0, r1, r2, r3, r4, r5, r6, r7, r8, r9, hs', hl'⟩ := HR.out j hlt
        have p0 := (HB.out.cell (p := ⟨b, _, none⟩) h2').trans q0
        have p1 := (HB.out.cell (p := ⟨b, _, none⟩) h2').trans q1
        have p2 := (HB.out.cell (p := ⟨b, _, none⟩) h2').trans q2
        have p3 := (HB.out.cell (p := ⟨b, _, none⟩) h2').trans q3
        have p4 := (HB.out.cell (p := ⟨b, _, none⟩) h2').trans q4
        have p5 := (HB.out.cell (p := ⟨b, _, none⟩) h2').trans q5
        have hmem : Vl.mk k' t' i' s' l' ks' ∈ l := List.mem_of_getElem? e0
        have hx0 := HE.out _ hmem
        have hgood := (tyV_good n m _ hx0).1
        have HO := Lib.hid (fun w' (hb : Below w.heap.size w w') => H1.out (List.ne_nil_of_length_pos (by omega)) n (.agg #[.int .i64 k', .bool t', .int .i64 i', .string s', .slice a2 l'.length c2, .slice kv' ks'.length kc']) _ w' hx0 (IsV.below ⟨k', t', i', s', l', ks', a2, c2, kv', kc', rfl, rfl, r0, r1, r2, r3, r4, r5, r6, r7, r8, r9, hs', hl'⟩ hb))
        have hgall : (tyAll (tyV m) (l.take j)).ok := tyAll_good Tc.ok leaf7 (fun a b ha hb => bndC_ok 7 0 leaf0 a b ha hb) _ _ (fun y hy => (tyV_good n m y (HE.out y (List.mem_of_mem_take hy))).1)
        have hnext : tyAll (tyV m) (l.take (j + 1)) = bndC 7 0 (tyAll (tyV m) (l.take j)) (tyV m (.mk k' t' i' s' l' ks')) := by
          obtain ⟨_, e1⟩ := List.getElem?_eq_some_iff.1 e0
          rw [List.take_succ_eq_append_getElem hlt, e1, tyAll_snoc]
        obtain ⟨T, hTT⟩ : ∃ T, T = tyAll (tyV m) (l.take j) := ⟨_, rfl⟩
        obtain ⟨U, hUU⟩ : ∃ U, U = tyV m (.mk k' t' i' s' l' ks') := ⟨_, rfl⟩
        rw [← hTT] at TA HTL hgall hnext a0 a1
        rw [← hUU] at HO hgood hnext
        have HN := Lib.hid hnext
        have hzz : w1.heap.size + 1 ≤ wr.heap.size := zA
        have JK := Lib.hid (fun (w2 : World) (ra : Option Addr) (rc : Nat) (hb : Below wr.drew.heap.size wr.drew w2) (hT : TailP (fun b => wr.drew.heap.size ≤ b) w2 ra U) =>
          rjoinN_any (w1.heap.size + 1) T U (.agg #[.int .i64 T.kd, .slice av' T.ln c']) (.agg #[.int .i64 U.kd, .slice ra U.ln rc]) w2 (Nat.le_trans hzz hb.size) hgall hgood (IsP.below (w := wr) ⟨av', c', rfl, HTL.out⟩ (fun _ h => h) ((Below.refl _ wr).drew.trans hb)) (IsP.below (w := w2) ⟨ra, rc, rfl, hT⟩ (fun b h => Nat.le_trans hzz h) (Below.refl _ _)))
        have hjI : (j : Int) < (l.length : Int) := by omega
        clear hnext hgood hgall hx0 hmem e0 q0 q1 q2 q3 q4 q5 r0 r1 r2 r3 r4 r5 r6 r7 r8 r9 hs' hl' hTT hUU
        go_wp2_with fail
        have dA := TA.out.drew
        clear v0
        go_region_with (first
          | (go_at_call 38; go_fit (HO.out _ HB.out.drew); rintro e w2 ⟨R, rfl, ⟨ra, rc, rfl, hTR⟩, hb2⟩; have TA2 := dA.below hb2; have k0 := TA2.cell0; have k1 := TA2.cell1; have kf0 := TA2.frozen 0; have kf1 := TA2.frozen 1)
          | (go_at_call 45; go_fit (JK.out _ _ _ hb2 hTR); rintro e w3 ⟨R3, rfl, ⟨ra3, rc3, rfl, hT3⟩, hb3⟩; have TA3 := TA2.below hb3; have m0 := TA3.cell0; have m1 := TA3.cell1; have mf0 := TA3.frozen 0; have mf1 := TA3.frozen 1))
        all_goals
          go_wp2_with fail
          have hB2 := HB.out.drew.trans (hb2.mono HB.out.drew.size)
          have hB3 := hB2.trans (hb3.mono hB2.size)
          have hTR3 := (TR.out.drew.below hb2).below hb3
          have hV2 := HV.out.below HV.out.1 ((Below.refl wr.heap.size wr).drew.trans hb2)
          have hV3 := hV2.below hV2.1 hb3
          refine ⟨⟨j + 1, ra3, rc3, by omega, by go_num, Lib.hid (by rw [HN.out]; exact (TA3.set0 _).set1 _), Lib.hid (by rw [HN.out]; exact tail_set hT3 _ _), Lib.hid ((hTR3.other (by omega) _ _).other (by omega) _ _), Lib.hid (V6_set2 hV3 (by omega) _ _), Lib.hid ((hB3.setCell (p := ⟨w1.heap.size, 0, none⟩) (by show w.heap.size ≤ w1.heap.size; omega) _).setCell (p := ⟨w1.heap.size, 1, none⟩) (by show w.heap.size ≤ w1.heap.size; omega) _)⟩, by simp [RowKit.intOf]; omega⟩
      · have hje : j = l.length := by omega
        have hjI : ¬ (j : Int) < (l.length : Int) := by omega
        subst hje
        rw [List.take_length] at TA HTL a0 a1
        have Z := Lib.hid (fun a v n c w => rWith_any 6 a v n c w)
        clear H1 HE HR hlt
        go_wp2_with fail
        go_fit (Z.out _ _ _ _ _)
        rintro e w3 ⟨g, rfl, hg', hc0, hc1, hb3⟩
        have TR3 := TR.out.below hb3
        have B3 := Lib.hid (HB.out.trans (hb3.mono HB.out.size))
        have HE := Lib.hid (one_end (w := w) (r := w.heap.size + 1) (k := 6) (n2 := w1.heap.size + 1) ⟨av', c', rfl, HTL.out⟩ (Nat.le_succ _) (by omega) TR.out.lt hg' hc0 hc1 hb3 (.int .i64 6) (.slice (some ⟨g, 0, none⟩) 1 1))
        have v0 := TR3.cell0
        have v1 := TR3.cell1
        have f0 := TR3.frozen 0
        have f1 := TR3.frozen 1
        clear hg' hc0 hc1 hb3
        go_wp2_with fail
        have TR4 := (TR3.set0 (.int .i64 6)).set1 (.slice (some ⟨g, 0, none⟩) 1 1)
        have u0 := TR4.cell0
        have u1 := TR4.cell1
        exact bodyPost_ret (v := .agg #[.int .i64 6, .slice (some ⟨g, 0, none⟩) 1 1]) (by simp [results, Tryd.f38, go_sem, u0, u1]) rfl ⟨_, rfl, HE.out, (B3.out.setCell (by simp <;> omega) _).setCell (by simp <;> omega) _⟩

theorem rOne_any : ∀ m, ROne m := by
  have core : ∀ m, (∀ l : List Vl, (m = 0 → l = []) → l ≠ [] → ROne (m - 1)) → ROne m := by
    intro m ih n V x w hx hV
    obtain ⟨k, t, i, s, l, ks, av, c, kv, kc, rfl, rfl, g0, g1, g2, g3, g4, g5, g6, g7, g8, g9, hs, hl⟩ := hV
    have hm0 : m = 0 → l = [] := fun e => by subst e; exact hl
    have hl1 : ReadsV (m - 1 + 1) w av l := by
      cases m with
      | zero => exact ReadsV.up 0 av l hl
      | succ m => exact hl
    have hty : tyV m (.mk k t i s l ks) = if k = 4 ∨ k = 5 then .node (k + 1) (tyAll (tyV (m - 1)) l) else .leaf (k + 1) := by
      cases m with
      | zero => rw [hm0 rfl]; rfl
      | succ m => rfl
    cases n with
    | zero => rw [errV_zero] at hx; cases hx
    | succ n =>
      obtain ⟨h1, h2⟩ := errV_parts hx
      obtain ⟨⟨a1, a2⟩, _⟩ := partE_zero h1
      rw [hty]
      by_cases hk : k = 4 ∨ k = 5
      · rw [if_pos hk]
        exact rOne_node (m - 1) n k hk t i s av kv l c ks.length kc w (ih l hm0) (by omega) h2 hl1
      · rw [if_neg hk]
        exact rOne_leaf k (by omega) (by omega) t i s av kv l.length c ks.length kc w
  intro m
  induction m with
  | zero => exact core 0 (fun l h0 h => absurd (h0 rfl) h)
  | succ m ih => exact core (m + 1) (fun _ _ _ => ih)
end Go.Proofs.YtabopneehhnhfabDoor
