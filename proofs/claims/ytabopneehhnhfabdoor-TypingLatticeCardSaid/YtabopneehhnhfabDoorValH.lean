/- Contracts of the program's parts, validFrom and Valid (value). -/
import Derived.Test.YtabopneehhnhfabDoorValG
import Derived.RangeFuncFrom
namespace Go.Proofs.YtabopneehhnhfabDoor
open Go.RowKit Go.Shelf

attribute [local go_sem] Oper.semAt_some

theorem keepsOthers_below {W W' : World} (h : Below W.heap.size W W') : KeepsOthers W W' := ⟨h.size, fun i _ hi _ => (h.block i (Array.getElem?_eq_some_iff.1 hi).1).trans hi⟩

set_option maxRecDepth 100000 in
set_option maxHeartbeats 1000000 in
theorem parts1_in (F : Fence) (hd : F.depth = none) (hf : F.fn 69) (h1 : F.fn 68) (hro : F.round = none) (n l N Bv Bl m : Nat) (w0 : World) (lev k : Int) (t : Bool) (i : Int) (s : ByteArray) (sl kl : Value) (x : Vl) (J Jx : List (Pt w0) → World → Prop)
    (hY : ∀ pre x W, J pre W → pre.length < N → YieldAt F (n - 1) Tryd.prog l (encP x) W fun e W' =>
      (e = .returned (.bool true) ∧ J (pre ++ [x]) W' ∧ KeepC W W') ∨ (e = .returned (.bool false) ∧ Jx (pre ++ [x]) W'))
    (W : World) (hJ : AbidesFrom W.heap.size J) (hV : IsV m w0 (.agg #[.int .i64 k, .bool t, .int .i64 i, .string s, sl, kl]) x) (hb : KeepC w0 W) (hBv : V6 W Bv k t i s sl kl) (hBl : W.cell? ⟨Bl, 0, none⟩ = some (.int .i64 lev)) (h0 : J [] W) (hN : (preV m lev x).length ≤ N) :
    CallsIn F n Tryd.prog 68 #[.func (.yield l) #[] #[], .pointer (some ⟨Bv, 0, none⟩), .pointer (some ⟨Bl, 0, none⟩)] W fun e W' => (∃ v, e = .returned v) ∧
      ((∃ ys : List (Pt w0), ys.map Pt.lt = preV m lev x ∧ J ys W') ∨ (∃ pre : List (Pt w0), pre.map Pt.lt <+: preV m lev x ∧ Jx pre W')) := by
  have hdd : ∀ k : Nat, (F.depth.isSome = true → 1 ≤ k) := fun k h => by rw [hd] at h; cases h
  have hp := Lib.hid (visit_in F hd hf hro l N W.heap.size w0 J Jx hJ (fun m pre x W hj hl => yield_anyDepth hd m (hY pre x W hj hl)) m (n - 1) lev _ x [] W hV hb h0 (by simpa using hN))
  obtain ⟨hlt, c0, c1, c2, c3, c4, c5⟩ := hBv
  clear hV
  refine callsIn_of_wp Tryd.func68 rfl h1 ?_ hro
  simp only [Tryd.ntmps68, List.size_toArray, List.length_cons, List.length_nil, Nat.reduceAdd, Nat.reduceSub, Array.replicate_succ, Array.replicate_zero, List.push_toArray, List.append_toArray, List.nil_append, List.cons_append]
  gi_wp2_with ((try refine ⟨hdd _, ?_⟩); gi_at_call 69; refine hp.out.mono ?_; clear hp; rintro e W1 (⟨rfl, ⟨ys, hys, hJ1⟩, _⟩ | ⟨rfl, q, hq, hx⟩))
  · go_end0
    exact ⟨⟨_, rfl⟩, .inl ⟨ys, hys, by simpa using hJ1⟩⟩
  · go_end0
    exact ⟨⟨_, rfl⟩, .inr ⟨q, hq, by simpa using hx⟩⟩

set_option maxHeartbeats 1000000 in
/-- parts(v, level): both are boxed; the function value captures the boxes. -/
theorem parts_in (F : Fence) (n : Nat) (hf : F.fn 62) (hro : F.round = none) (lev k : Int) (t : Bool) (i : Int) (s : ByteArray) (av kv : Option Addr) (c c' kc kc' : Nat) (w : World) :
    CallsIn F n Tryd.prog 62 #[.agg #[.int .i64 k, .bool t, .int .i64 i, .string s, .slice av c c', .slice kv kc kc'], .int .i64 lev] w fun e w' => e = .returned (.func (.func 68) #[] #[.pointer (some ⟨w.heap.size, 0, none⟩), .pointer (some ⟨w.heap.size + 1, 0, none⟩)]) ∧
      w' = (w.alloc (.cells #[.int .i64 k, .bool t, .int .i64 i, .string s, .slice av c c', .slice kv kc kc'] 33)).alloc (.cells #[.int .i64 lev] 3) := by
  refine callsIn_of_wp Tryd.func62 rfl hf ?_ hro
  simp only [Tryd.ntmps62, List.size_toArray, List.length_cons, List.length_nil, Nat.reduceAdd, Nat.reduceSub, Array.replicate_succ, Array.replicate_zero, List.push_toArray, List.append_toArray, List.nil_append, List.cons_append]
  gi_wp2
  go_ret
  exact ⟨rfl, rfl⟩

theorem V6_own {β : Type} (B : Nat) (k : Int) (t : Bool) (i : Int) (s : ByteArray) (sl kl : Value) : Own (fun (_ : β) W => V6 W B k t i s sl kl) := fun _ X Y row hs hg hr => by
  obtain ⟨h0, c0, c1, c2, c3, c4, c5⟩ := hs
  exact ⟨Nat.lt_of_lt_of_le h0 hg.size, cell_kept c0 hg hr, cell_kept c1 hg hr, cell_kept c2 hg hr, cell_kept c3 hg hr, cell_kept c4 hg hr, cell_kept c5 hg hr⟩
theorem parts_stops (F : Fence) (hd : F.depth = none) (n : Nat) (hf : F.fn 69) (h1 : F.fn 68) (hro : F.round = none) (Bv Bl m : Nat) (lev k : Int) (t : Bool) (i : Int) (s : ByteArray) (sl kl : Value) (x : Vl) (w0 w : World) (hw : Below w0.heap.size w0 w)
    (hV : IsV m w0 (.agg #[.int .i64 k, .bool t, .int .i64 i, .string s, sl, kl]) x) (hBv : V6 w Bv k t i s sl kl) (hlt : Bl < w.heap.size) (hBl : w.cell? ⟨Bl, 0, none⟩ = some (.int .i64 lev)) :
    SeqStopsK F n Tryd.prog 68 #[.pointer (some ⟨Bv, 0, none⟩), .pointer (some ⟨Bl, 0, none⟩)] (encP (w0 := w0)) KeepC (fun ys => ys.map Pt.lt = preV m lev x) (fun pre => pre.map Pt.lt <+: preV m lev x) (preV m lev x).length w := fun l J Jx W hW hJ _ hY h0 =>
  parts1_in F hd hf h1 hro n l _ Bv Bl m w0 lev k t i s sl kl x J Jx hY W hJ hV ((KeepC.of_below hw).trans (KeepC.of_below hW)) (hBv.below hBv.1 hW) ((hW.cell (p := ⟨Bl, 0, none⟩) hlt).trans hBl) h0 (Nat.le_refl _)

set_option maxRecDepth 100000 in
set_option maxHeartbeats 4000000 in
theorem validFrom_any (m : Nat) (V : Value) (x : Vl) (lev : Int) (w : World) (hV : IsV m w V x) :
    Calls Tryd.prog 54 #[V, .int .i64 lev] w fun e w' => e = .returned (.int .i64 (firstP (preV m lev x) : Nat)) ∧ Below w.heap.size w w' := by
  obtain ⟨k, t, i, s, l, ks, av, c, kv, kc, rfl, rfl, g0, g1, g2, g3, g4, g5, g6, g7, g8, g9, hs, hl⟩ := id hV
  obtain ⟨ps, hps⟩ : ∃ ps, ps = preV m lev (.mk k t i s l ks) := ⟨_, rfl⟩
  rw [← hps]
  have HPS := Lib.hid hps
  clear hps
  refine (callsIn_wide (n := 3)).1 ?_
  refine callsIn_of_wp_marks Tryd.func54 rfl trivial ?_ rfl
  simp only [Tryd.ntmps54, List.size_toArray, List.length_cons, List.length_nil, Nat.reduceAdd, Nat.reduceSub, Array.replicate_succ, Array.replicate_zero, List.push_toArray, List.append_toArray, List.nil_append, List.cons_append]
  gi_wp2_with (first
    | (refine ⟨trivial, ?_⟩; gi_at_call 62; refine (parts_in Fence.wide _ trivial rfl _ _ _ _ _ _ _ _ _ _ _ _).mono ?_; rintro e w2 ⟨rfl, rfl⟩))
  obtain ⟨W0, hW0⟩ : ∃ W0, (((w.alloc (.cells #[.int .i64 k, .bool t, .int .i64 i, .string s, .slice av l.length c, .slice kv ks.length kc] 33)).alloc (.cells #[.int .i64 0] 25)).alloc (.cells #[.int .i64 k, .bool t, .int .i64 i, .string s, .slice av l.length c, .slice kv ks.length kc] 33)).alloc (.cells #[.int .i64 lev] 3) = W0 := ⟨_, rfl⟩
  have hW0s : W0.heap.size = w.heap.size + 1 + 1 + 1 + 1 := by rw [← hW0]; simp
  have hB0 : Below w.heap.size w W0 := by rw [← hW0]; exact ((((Below.refl _ w).alloc (Nat.le_refl _) _).alloc (by simp) _).alloc (by simp; omega) _).alloc (by simp; omega) _
  have bR : Boxed W0 (w.heap.size + 1) 25 (.int .i64 0) := by
    have h := ((Boxed.new (w.alloc (.cells #[.int .i64 k, .bool t, .int .i64 i, .string s, .slice av l.length c, .slice kv ks.length kc] 33)) 25 (.int .i64 0)).alloc (.cells #[.int .i64 k, .bool t, .int .i64 i, .string s, .slice av l.length c, .slice kv ks.length kc] 33)).alloc (.cells #[.int .i64 lev] 3)
    rw [hW0, World.size_alloc] at h
    exact h
  have c2 : V6 W0 (w.heap.size + 1 + 1) k t i s (.slice av l.length c) (.slice kv ks.length kc) := by
    have h := (V6_new ((w.alloc (.cells #[.int .i64 k, .bool t, .int .i64 i, .string s, .slice av l.length c, .slice kv ks.length kc] 33)).alloc (.cells #[.int .i64 0] 25)) k t i s (.slice av l.length c) (.slice kv ks.length kc)).below (by simp) ((Below.refl _ _).alloc (Nat.le_refl _) (.cells #[.int .i64 lev] 3))
    rw [hW0] at h
    simpa using h
  have c3 : W0.cell? ⟨w.heap.size + 1 + 1 + 1, 0, none⟩ = some (.int .i64 lev) := by
    have h := Boxed.new (((w.alloc (.cells #[.int .i64 k, .bool t, .int .i64 i, .string s, .slice av l.length c, .slice kv ks.length kc] 33)).alloc (.cells #[.int .i64 0] 25)).alloc (.cells #[.int .i64 k, .bool t, .int .i64 i, .string s, .slice av l.length c, .slice kv ks.length kc] 33)) 3 (.int .i64 lev)
    rw [hW0, World.size_alloc, World.size_alloc, World.size_alloc] at h
    exact h.cell
  rw [hW0]
  have hst := parts_stops Fence.wide rfl (3 - 1) trivial trivial rfl (w.heap.size + 1 + 1) (w.heap.size + 1 + 1 + 1) m lev k t i s _ _ _ w W0 hB0 hV c2 (by omega) c3
  rw [← HPS.out] at hst
  clear c2 c3 hW0
  refine wpIn_rangeFunc_ownH rfl (by omega) (gf := 68) (lb := #[.pointer (some ⟨w.heap.size + 1 + 1, 0, none⟩), .pointer (some ⟨w.heap.size + 1 + 1 + 1, 0, none⟩)]) rfl trivial (enters_of Tryd.func68 (by kernel_rfl) rfl)
    hst KeepC.trans (fun W l o o' _ h hc _ => KeepC.put W l o o' h hc) (Below.refl _ _) (fun _ => rfl)
    (fun pre W => Boxed W (w.heap.size + 1) 25 (.int .i64 0) ∧ (firstP (pre.map Pt.lt) = 0 ∧ Below w.heap.size w W))
    (fun c pre W => (c = .ret ∧ firstP (pre.map Pt.lt) ≠ 0) ∧ (Boxed W (w.heap.size + 1) 25 (.int .i64 (firstP (pre.map Pt.lt) : Nat)) ∧ Below w.heap.size w W))
    (OwnFrom.and (Own.from (boxed_own _ _ _) _) (OwnFrom.and (fun _ _ _ _ hs _ _ => hs) (ownFrom_below (Nat.le_refl _) (by omega))))
    (fun c => OwnFrom.and (fun _ _ _ _ hs _ _ => hs) (OwnFrom.and (Own.from (boxed_own _ _ _) _) (ownFrom_below (Nat.le_refl _) (by omega))))
    ⟨bR, rfl, hB0⟩
    (fun x a' W => ∃ Bx k' t' i' s' sl' kl', x.1.2.1 = .agg #[.int .i64 k', .bool t', .int .i64 i', .string s', sl', kl'] ∧ w.heap.size + 1 < Bx ∧ V6 W Bx k' t' i' s' sl' kl' ∧ a' = { tmps := #[.agg #[.int .i64 k, .bool t, .int .i64 i, .string s, .slice av l.length c, .slice kv ks.length kc], .int .i64 lev, .pointer (some ⟨w.heap.size, 0, none⟩), undef, .pointer (some ⟨w.heap.size + 1, 0, none⟩), .int .i64 x.1.1, .pointer (some ⟨Bx, 0, none⟩), undef, .agg #[.int .i64 k, .bool t, .int .i64 i, .string s, .slice av l.length c, .slice kv ks.length kc], .int .i64 lev,
      .func (.func 68) #[] #[.pointer (some ⟨w.heap.size + 1 + 1, 0, none⟩), .pointer (some ⟨w.heap.size + 1 + 1 + 1, 0, none⟩)], .int .i64 x.1.1, .agg #[.int .i64 k', .bool t', .int .i64 i', .string s', sl', kl'], undef, undef, undef, undef, undef, undef], defers := [] })
    (fun x a' _ X Y row hs hg hr => by obtain ⟨Bx, k', t', i', s', sl', kl', h1, h2, h3, h4⟩ := hs; exact ⟨Bx, k', t', i', s', sl', kl', h1, h2, V6_own (β := Unit) Bx k' t' i' s' sl' kl' () X Y row h3 hg (fun r e => (hr r e).2), h4⟩)
    ?assign ?body ?done ?stop
  case assign =>
    rintro lp pre x W K ⟨bR1, hz1, hB1⟩ hK
    obtain ⟨⟨lv, V', x'⟩, m', hx'⟩ := x
    obtain ⟨k', t', i', s', l', ks', av', c', kv', kc', rfl, rfl, _⟩ := id hx'
    have hsz := hB1.size
    have hlt := bR1.lt
    have H1 := Lib.hid bR1
    have H2 := Lib.hid hz1
    have H3 := Lib.hid hB1
    have H4 := Lib.hid hx'
    clear bR1 hz1 hB1 hst
    dsimp only [encP]
    gi_wp2
    refine hK _ _ ((KeepsOthers.alloc _ _).from _) (KeepC.alloc _ _) ⟨H1.out.alloc _, H2.out, H3.out.alloc hsz _⟩ ⟨W.heap.size, k', t', i', s', _, _, rfl, by omega, V6_new W k' t' i' s' _ _, rfl⟩
  case body =>
    rintro lp pre x a' W hl ⟨r, hr⟩ ⟨bR1, hz1, hB1⟩ ⟨Bx, k', t', i', s', sl', kl', hVx, hlt, ⟨hv0, c0, c1, c2, c3, c4, c5⟩, rfl⟩ hlen
    obtain ⟨⟨lv, V', x'⟩, m', hx'⟩ := x
    obtain ⟨k2, t2, i2, s2, l2, ks2, av2, n2, kv2, kn2, hx2, hV2, y0, y1, y2, y3, y4, y5, y6, y7, y8, y9, ys, _⟩ := hx'.below hB1
    subst hV2
    dsimp only at hx2 hVx
    injection hVx with hVx
    simp only [Array.mk.injEq, List.cons.injEq, Value.int.injEq, Value.bool.injEq, Value.string.injEq, true_and, and_true] at hVx
    obtain ⟨rfl, rfl, rfl, rfl, rfl, rfl⟩ := hVx
    subst hx2
    have hsn : firstP ((pre ++ [(⟨(lv, _, .mk k2 t2 i2 s2 l2 ks2), m', hx'⟩ : Pt w)]).map Pt.lt) = partP lv k2 t2 i2 s2 l2 ks2 := by
      rw [List.map_append, List.map_cons, List.map_nil, firstP_snoc _ hz1]
      rfl
    have M := validPart_any lv k2 t2 i2 s2 av2 kv2 l2 ks2 n2 kn2 (by omega) (by omega) y9 W ys
    obtain ⟨z, hz⟩ : ∃ z, z = partP lv k2 t2 i2 s2 l2 ks2 := ⟨_, rfl⟩
    rw [← hz] at M hsn
    have M := Lib.hid M
    have HS := Lib.hid hsn
    have H1 := Lib.hid bR1
    have hsz := hB1.size
    have H3 := Lib.hid hB1
    have hltR := bR1.lt
    clear hz hsn hst bR1 hz1 hB1 y0 y1 y2 y3 y4 y5 y6 y7 y8 y9 ys hr hlen hv0
    by_cases h0 : z = 0
    · subst h0
      gi_wp2_with (first
        | (refine ⟨trivial, ?_⟩; gi_at_call 63; refine (CallsIn.inRound lp (callsIn_wide.2 M.out)).mono ?_; rintro e w2 ⟨rfl, hb2⟩))
      exact ⟨(keepsOthers_below hb2).from _, KeepC.of_below hb2, (hb2.block _ hltR).trans H1.out, HS.out, H3.out.trans (hb2.mono hsz)⟩
    · have h0i : ((z : Int) == 0) = false := by rw [beq_eq_false_iff_ne]; omega
      have bR2 : ∀ w2, Below W.heap.size W w2 → Boxed w2 (w.heap.size + 1) 25 (.int .i64 0) := fun w2 h => (h.block _ hltR).trans H1.out
      gi_wp2_with (first
        | (refine ⟨trivial, ?_⟩; gi_at_call 63; refine (CallsIn.inRound lp (callsIn_wide.2 M.out)).mono ?_; rintro e w2 ⟨rfl, hb2⟩; have bR3 := bR2 w2 hb2; have cR := bR3.cell; have fR := bR3.frozen))
      exact ⟨((keepsOthers_below hb2).trans (KeepsOthers.setCell _ _ _)).from _, ⟨rfl, by rw [HS.out]; exact h0⟩, by rw [HS.out]; exact bR3.set _, (H3.out.trans (hb2.mono hsz)).setCell (p := ⟨w.heap.size + 1, 0, none⟩) (by simp) _⟩
  case done =>
    rintro D zs W hD hzs ⟨bR1, hz1, hB1⟩ hK
    have cR := bR1.cell
    have fR := bR1.frozen
    have HZ := Lib.hid hz1
    clear hst hz1
    gi_wp2
    have hK' := (KeepsOthers.setCell W ⟨w.heap.size + 1, 0, none⟩ (.int .i64 0)).same D _ hK rfl
    refine ⟨by simp, .inl ⟨_, _, rfl, run_takeDeferred hK', ?_⟩⟩
    have hc5 := cell_kept ((bR1.set (.int .i64 0)).cell) (grownBy_putObj' _ D (.deferred none)) (fun r e => by cases e; exact ⟨_, hK', rfl⟩)
    refine ⟨.int .i64 0, ?_, by rw [← hzs, HZ.out]; rfl, (hB1.setCell (p := ⟨w.heap.size + 1, 0, none⟩) (by simp) _).trans (belowK_b (w := w) (Nat.le_refl _) _ D _ _ (by omega) hK' rfl rfl)⟩
    simp [results, Tryd.f54, go_sem, hc5]
  case stop =>
    rintro D cc pre W hD hpre ⟨⟨rfl, hz1⟩, bR1, hB1⟩ hK
    have cR := bR1.cell
    have HZ := Lib.hid hz1
    clear hst hz1
    gi_wp2
    refine ⟨by simp, .inl ⟨_, _, rfl, run_takeDeferred hK, ?_⟩⟩
    have hc5 := cell_kept cR (grownBy_putObj' _ D (.deferred none)) (fun r e => by cases e; exact ⟨_, hK, rfl⟩)
    refine ⟨_, ?_, by rw [firstP_prefix hpre HZ.out], hB1.trans (belowK_b (w := w) (Nat.le_refl _) _ D _ _ (by omega) hK rfl rfl)⟩
    simp [results, Tryd.f54, go_sem, hc5]

/-- Valid: the error that the document gives the value. -/
theorem validV_any (m : Nat) (V : Value) (x : Vl) (w : World) (hV : IsV m w V x) :
    Calls Tryd.prog 34 #[V] w fun e w' => e = .returned (.int .i64 (errV 16 x : Nat)) ∧ Below w.heap.size w w' := by
  have M := fun w (hV : IsV m w V x) => validFrom_any m V x 1 w hV
  rw [firstP_pre m x 1 16 (fits_is hV) (by omega) (by omega) (by omega)] at M
  have M := Lib.hid M
  have HV := Lib.hid hV
  obtain ⟨k, t, i, s, l, ks, av, c, kv, kc, rfl, rfl, _⟩ := hV
  go_enter Tryd.func34, Tryd.ntmps34
  go_wp2_with fail
  go_fit (M.out _ (HV.out.below ((Below.refl _ _).alloc (Nat.le_refl _) _)))
  rintro e w1 ⟨rfl, hb⟩
  have B := Lib.hid (((Below.refl w.heap.size w).alloc (Nat.le_refl _) _).trans (hb.mono (by simp)))
  clear hb
  go_wp2_with fail
  go_ret
  exact ⟨rfl, B.out⟩
end Go.Proofs.YtabopneehhnhfabDoor
