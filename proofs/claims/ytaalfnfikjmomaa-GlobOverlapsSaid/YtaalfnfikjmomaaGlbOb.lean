/- Rows of pairs in memory; contract of the program's following (glob). -/
import Derived.Test.YtaalfnfikjmomaaGlbNi
import Derived.Test.YtaalfnfikjmomaaGlbOa
namespace Go.Proofs.Ytaalfnfikjmomaa
open Go.RowKit Go.Lib
/-- The cells of pairs. -/
def prC (l : List (Nat × Nat)) : List Value := l.flatMap fun x => [.int .i64 (x.1 : Nat), .int .i64 (x.2 : Nat)]
theorem prC_snoc (l : List (Nat × Nat)) (x : Nat × Nat) : prC (l ++ [x]) = prC l ++ [.int .i64 (x.1 : Nat), .int .i64 (x.2 : Nat)] := by unfold prC; rw [List.flatMap_append]; simp
theorem prC_len (l : List (Nat × Nat)) : (prC l).length = l.length * 2 := by
  induction l with
  | nil => rfl
  | cons a l ih => rw [show a :: l = [a] ++ l from rfl, prC, List.flatMap_append, List.length_append]; show 2 + (prC l).length = _; rw [ih, List.length_append, List.length_singleton]; omega
theorem prC_at : ∀ (l : List (Nat × Nat)) (k : Nat) (h : k < l.length), (prC l)[2 * k]? = some (.int .i64 (l[k].1 : Nat)) ∧ (prC l)[2 * k + 1]? = some (.int .i64 (l[k].2 : Nat))
  | [], k, h => by simp at h
  | a :: l, 0, _ => ⟨rfl, rfl⟩
  | a :: l, k + 1, h => by
    have := prC_at l k (by simpa using h)
    exact this
theorem info81 : (Try.prog.info? 81).map (fun i => (i.zero, i.size, i.bytes)) = some (some (.agg #[.int .i64 0, .int .i64 0]), 2, 16) := by kernel_rfl
/-- A slice of pairs reads as a list. -/
def ReadsPr (w : World) (v : Option Addr) (l : List (Nat × Nat)) : Prop :=
  ∀ k (h : k < l.length), ∃ b, v = some ⟨b, 0, none⟩ ∧ b < w.heap.size ∧ w.cell? ⟨b, 2 * k, none⟩ = some (.int .i64 (l[k].1 : Nat)) ∧ w.cell? ⟨b, 2 * k + 1, none⟩ = some (.int .i64 (l[k].2 : Nat))
theorem ReadsPr.of_block {w w' : World} {v : Option Addr} {l : List (Nat × Nat)} (h : ReadsPr w v l) (hz : w.heap.size ≤ w'.heap.size) (hb : ∀ b, v = some ⟨b, 0, none⟩ → w'.heap[b]? = w.heap[b]?) : ReadsPr w' v l := by
  intro k hk
  obtain ⟨b, e, hlt, h1, h2⟩ := h k hk
  exact ⟨b, e, Nat.lt_of_lt_of_le hlt hz, (World.cell?_of_block (w := w) (a := ⟨b, 2 * k, none⟩) (hb b e)).trans h1, (World.cell?_of_block (w := w) (a := ⟨b, 2 * k + 1, none⟩) (hb b e)).trans h2⟩
theorem own_readsPr {w : World} {B n : Nat} {v : Value} {l : List (Nat × Nat)} (h : w.ownsRow B 81 2 v n (prC l)) (hn : n = l.length) :
    ∃ a c, v = .slice a l.length c ∧ l.length ≤ c ∧ c ≤ maxLen ∧ ReadsPr w a l ∧ (∀ b, a = some ⟨b, 0, none⟩ → B ≤ b) := by
  rcases h.2 with ⟨rfl, h0⟩ | ⟨g, cap, cur, rfl, hB, hg, hnc, hcm, _⟩
  · have hl : l = [] := List.eq_nil_of_length_eq_zero (by omega)
    subst hl
    exact ⟨none, 0, rfl, by simp, by simp, fun k hk => by simp at hk, fun b e => nomatch e⟩
  · subst hn
    refine ⟨some ⟨g, 0, none⟩, cap, rfl, hnc, hcm, ?_, fun b e => by injection e with e; injection e with e; omega⟩
    intro k hk
    have hlt := (Array.getElem?_eq_some_iff.1 hg).1
    obtain ⟨h1, h2⟩ := prC_at l k hk
    have hc := fun j u hj => h.cells (g := g) rfl j u hj
    refine ⟨g, rfl, hlt, ?_, ?_⟩
    · have := hc _ _ h1
      rwa [addr_add0] at this
    · have := hc _ _ h2
      rwa [addr_add0] at this
/-- What following keeps: the pairs so far, the pair that came in, and all that was there. -/
def FSt (w : World) (pa pb : Nat) (l : List (Nat × Nat)) (sv : Value) (W : World) : Prop :=
  W.ownsRow (w.heap.size + 1) 81 2 sv l.length (prC l) ∧ BlkAt W w.heap.size 81 #[.int .i64 (pa : Nat), .int .i64 (pb : Nat)] ∧ Below w.heap.size w W
theorem FSt.below {w : World} {pa pb : Nat} {l : List (Nat × Nat)} {sv : Value} {W W' : World} (h : FSt w pa pb l sv W) (hb : Below W.heap.size W W') : FSt w pa pb l sv W' :=
  ⟨own_keep h.1 hb, h.2.1.below hb, h.2.2.trans (hb.mono h.2.2.size)⟩
theorem own_base {w : World} {B B' n size : Nat} {t : TypeId} {v : Value} {xs : List Value} (h : w.ownsRow B t size v n xs) (hb : B' ≤ B) : w.ownsRow B' t size v n xs := by
  obtain ⟨h1, h2⟩ := h
  refine ⟨h1, ?_⟩
  rcases h2 with h2 | ⟨g, cap, cur, e, hB, h3⟩
  · exact .inl h2
  · exact .inr ⟨g, cap, cur, e, Nat.le_trans hb hB, h3⟩
theorem FSt.push {w : World} {pa pb : Nat} {l : List (Nat × Nat)} {sv v' : Value} {W W1 W' : World} {q : Nat × Nat} (h : FSt w pa pb l sv W) (hw1 : W1 = W.alloc (Obj.cells #[.int .i64 (q.1 : Nat), .int .i64 (q.2 : Nat)] 81))
    (ho : W'.ownsRow (w.heap.size + 1) 81 2 v' (l.length + 1) (prC l ++ [.int .i64 (q.1 : Nat), .int .i64 (q.2 : Nat)])) (hg : W1.grownBy W' sv.ownBlock) : FSt w pa pb (l ++ [q]) v' W' := by
  obtain ⟨h1, h2, h3⟩ := h
  have hsv := fun k e => h1.lt k e
  have z3 := h3.size
  have hlt := h2.lt
  refine ⟨by rw [List.length_append, List.length_singleton, prC_snoc]; exact ho, h2.of_block ?_, ?_⟩
  · rw [hg.block _ (by rw [hw1]; simp; omega) (fun e => by have := (hsv _ e.symm).1; omega), hw1]
    exact Below.heap_alloc _ _ _ hlt
  · have hb1 : Below w.heap.size w W1 := by rw [hw1]; exact h3.alloc z3 _
    exact hb1.grown hg (by rw [hw1]; simp; omega) (fun k hk => by have := (hsv k hk).1; omega)
set_option maxHeartbeats 8000000 in
set_option maxRecDepth 100000 in
theorem following_any (a1 a2 : Option Addr) (c1 c2 : Nat) (M N : List MSt) (p : Nat × Nat) (hM : M.length ≤ 4097) (hN : N.length ≤ 4097) (h1 : p.1 < M.length) (h2 : p.2 < N.length) (w : World) (hr : ReadsM w a1 M) (hr2 : ReadsM w a2 N) :
    Calls Try.prog 42 #[.slice a1 M.length c1, .slice a2 N.length c2, .agg #[.int .i64 (p.1 : Nat), .int .i64 (p.2 : Nat)]] w fun e w' => ∃ v, e = .returned v ∧ w'.ownsRow w.heap.size 81 2 v (succL M N p).length (prC (succL M N p)) ∧ Below w.heap.size w w' := by
  obtain ⟨i0, hi0, hz0, hz1, hzb⟩ := info_parts info81
  obtain ⟨b1, rfl, hb1, hc1⟩ := hr p.1 h1
  obtain ⟨b2, rfl, hb2, hc2⟩ := hr2 p.2 h2
  rw [succL_at h1 h2]
  obtain ⟨x, hx⟩ : ∃ x, x = M[p.1] := ⟨_, rfl⟩
  obtain ⟨y, hy⟩ : ∃ y, y = N[p.2] := ⟨_, rfl⟩
  rw [← hx] at hc1 ⊢
  rw [← hy] at hc2 ⊢
  have q0 : (0 : Int) ≤ (p.1 : Nat) ∧ ((p.1 : Nat) : Int) < (M.length : Int) ∧ (M.length : Int) ≤ 4097 := by omega
  have q1 : (0 : Int) ≤ (p.2 : Nat) ∧ ((p.2 : Nat) : Int) < (N.length : Int) ∧ (N.length : Int) ≤ 4097 := by omega
  clear hx hy hr hr2
  obtain ⟨pa, pb⟩ := p
  simp only at q0 q1 h1 h2 hc1 hc2 ⊢
  clear h1 h2 hM hN
  obtain ⟨xs0, xs1, xs2, xs3, hxs⟩ := setC_words x.step
  have vxs : setV x.step = .agg #[.int .u64 (xs0 : Nat), .int .u64 (xs1 : Nat), .int .u64 (xs2 : Nat), .int .u64 (xs3 : Nat)] := by rw [setV_set, hxs]
  obtain ⟨xl0, xl1, xl2, xl3, hxl⟩ := setC_words x.loop
  have vxl : setV x.loop = .agg #[.int .u64 (xl0 : Nat), .int .u64 (xl1 : Nat), .int .u64 (xl2 : Nat), .int .u64 (xl3 : Nat)] := by rw [setV_set, hxl]
  obtain ⟨ys0, ys1, ys2, ys3, hys⟩ := setC_words y.step
  have vys : setV y.step = .agg #[.int .u64 (ys0 : Nat), .int .u64 (ys1 : Nat), .int .u64 (ys2 : Nat), .int .u64 (ys3 : Nat)] := by rw [setV_set, hys]
  obtain ⟨yl0, yl1, yl2, yl3, hyl⟩ := setC_words y.loop
  have vyl : setV y.loop = .agg #[.int .u64 (yl0 : Nat), .int .u64 (yl1 : Nat), .int .u64 (yl2 : Nat), .int .u64 (yl3 : Nat)] := by rw [setV_set, hyl]
  have ex : stC x = [.int .u64 (xs0 : Nat), .int .u64 (xs1 : Nat), .int .u64 (xs2 : Nat), .int .u64 (xs3 : Nat), .int .u64 (xl0 : Nat), .int .u64 (xl1 : Nat), .int .u64 (xl2 : Nat), .int .u64 (xl3 : Nat)] := by unfold stC; rw [hxs, hxl]; rfl
  rw [ex] at hc1
  have ey : stC y = [.int .u64 (ys0 : Nat), .int .u64 (ys1 : Nat), .int .u64 (ys2 : Nat), .int .u64 (ys3 : Nat), .int .u64 (yl0 : Nat), .int .u64 (yl1 : Nat), .int .u64 (yl2 : Nat), .int .u64 (yl3 : Nat)] := by unfold stC; rw [hys, hyl]; rfl
  rw [ey] at hc2
  have Cxs := Lib.hid (fun (W : World) (hW : Below w.heap.size w W) => show W.cell? ⟨b1, pa * 8, none⟩ = some (.int .u64 (xs0 : Nat)) ∧ W.cell? ⟨b1, pa * 8 + 1, none⟩ = some (.int .u64 (xs1 : Nat)) ∧ W.cell? ⟨b1, pa * 8 + 2, none⟩ = some (.int .u64 (xs2 : Nat)) ∧ W.cell? ⟨b1, pa * 8 + 3, none⟩ = some (.int .u64 (xs3 : Nat)) from by
    have h0 := hc1 0 (by omega)
    have h1 := hc1 1 (by omega)
    have h2 := hc1 2 (by omega)
    have h3 := hc1 3 (by omega)
    rw [Nat.mul_comm] at h0 h1 h2 h3
    exact ⟨(hW.cell (p := ⟨b1, pa * 8, none⟩) hb1).trans h0, (hW.cell (p := ⟨b1, pa * 8 + 1, none⟩) hb1).trans h1, (hW.cell (p := ⟨b1, pa * 8 + 2, none⟩) hb1).trans h2, (hW.cell (p := ⟨b1, pa * 8 + 3, none⟩) hb1).trans h3⟩)
  have Cxl := Lib.hid (fun (W : World) (hW : Below w.heap.size w W) => show W.cell? ⟨b1, pa * 8 + 4, none⟩ = some (.int .u64 (xl0 : Nat)) ∧ W.cell? ⟨b1, pa * 8 + 5, none⟩ = some (.int .u64 (xl1 : Nat)) ∧ W.cell? ⟨b1, pa * 8 + 6, none⟩ = some (.int .u64 (xl2 : Nat)) ∧ W.cell? ⟨b1, pa * 8 + 7, none⟩ = some (.int .u64 (xl3 : Nat)) from by
    have h0 := hc1 4 (by omega)
    have h1 := hc1 5 (by omega)
    have h2 := hc1 6 (by omega)
    have h3 := hc1 7 (by omega)
    rw [Nat.mul_comm] at h0 h1 h2 h3
    exact ⟨(hW.cell (p := ⟨b1, pa * 8 + 4, none⟩) hb1).trans h0, (hW.cell (p := ⟨b1, pa * 8 + 5, none⟩) hb1).trans h1, (hW.cell (p := ⟨b1, pa * 8 + 6, none⟩) hb1).trans h2, (hW.cell (p := ⟨b1, pa * 8 + 7, none⟩) hb1).trans h3⟩)
  have Cys := Lib.hid (fun (W : World) (hW : Below w.heap.size w W) => show W.cell? ⟨b2, pb * 8, none⟩ = some (.int .u64 (ys0 : Nat)) ∧ W.cell? ⟨b2, pb * 8 + 1, none⟩ = some (.int .u64 (ys1 : Nat)) ∧ W.cell? ⟨b2, pb * 8 + 2, none⟩ = some (.int .u64 (ys2 : Nat)) ∧ W.cell? ⟨b2, pb * 8 + 3, none⟩ = some (.int .u64 (ys3 : Nat)) from by
    have h0 := hc2 0 (by omega)
    have h1 := hc2 1 (by omega)
    have h2 := hc2 2 (by omega)
    have h3 := hc2 3 (by omega)
    rw [Nat.mul_comm] at h0 h1 h2 h3
    exact ⟨(hW.cell (p := ⟨b2, pb * 8, none⟩) hb2).trans h0, (hW.cell (p := ⟨b2, pb * 8 + 1, none⟩) hb2).trans h1, (hW.cell (p := ⟨b2, pb * 8 + 2, none⟩) hb2).trans h2, (hW.cell (p := ⟨b2, pb * 8 + 3, none⟩) hb2).trans h3⟩)
  have Cyl := Lib.hid (fun (W : World) (hW : Below w.heap.size w W) => show W.cell? ⟨b2, pb * 8 + 4, none⟩ = some (.int .u64 (yl0 : Nat)) ∧ W.cell? ⟨b2, pb * 8 + 5, none⟩ = some (.int .u64 (yl1 : Nat)) ∧ W.cell? ⟨b2, pb * 8 + 6, none⟩ = some (.int .u64 (yl2 : Nat)) ∧ W.cell? ⟨b2, pb * 8 + 7, none⟩ = some (.int .u64 (yl3 : Nat)) from by
    have h0 := hc2 4 (by omega)
    have h1 := hc2 5 (by omega)
    have h2 := hc2 6 (by omega)
    have h3 := hc2 7 (by omega)
    rw [Nat.mul_comm] at h0 h1 h2 h3
    exact ⟨(hW.cell (p := ⟨b2, pb * 8 + 4, none⟩) hb2).trans h0, (hW.cell (p := ⟨b2, pb * 8 + 5, none⟩) hb2).trans h1, (hW.cell (p := ⟨b2, pb * 8 + 6, none⟩) hb2).trans h2, (hW.cell (p := ⟨b2, pb * 8 + 7, none⟩) hb2).trans h3⟩)
  have MT0 := Lib.hid (fun w => meets_any x.loop y.step w)
  rw [vxl, vys, show decide (meetsN x.loop y.step ≠ 0) = mts x.loop y.step from rfl] at MT0
  have MT1 := Lib.hid (fun w => meets_any x.step y.loop w)
  rw [vxs, vyl, show decide (meetsN x.step y.loop ≠ 0) = mts x.step y.loop from rfl] at MT1
  have MT2 := Lib.hid (fun w => meets_any x.step y.step w)
  rw [vxs, vys, show decide (meetsN x.step y.step ≠ 0) = mts x.step y.step from rfl] at MT2
  have LN0 := Lib.hid (show ([] : List (Nat × Nat)).length ≤ 0 by simp)
  clear hxs hxl hys hyl vxs vxl vys vyl ex ey hc1 hc2
  have S0 := Lib.hid (show FSt w pa pb [] (.slice none 0 0) (w.alloc (Obj.cells #[.int .i64 (pa : Nat), .int .i64 (pb : Nat)] 81)) from ⟨World.ownsRow_nil _ _ _ _, BlkAt.new _ _ _, (Below.refl w.heap.size w).alloc (Nat.le_refl _) _⟩)
  go_enter Try.func42, Try.ntmps42
  go_wp2_with fail
  go_quiet (fail)
  have S1 := Lib.hid (S0.out.below (below_drewN (Below.refl _ _) nq))
  generalize ((w.alloc (Obj.cells #[.int .i64 (pa : Nat), .int .i64 (pb : Nat)] 81)).drewN nq) = W at S1 ⊢
  clear S0
  go_wp2_with fail
  obtain ⟨p0, p1, p2, p3⟩ := Cxl.out W S1.out.2.2
  obtain ⟨r0, r1, r2, r3⟩ := Cys.out W S1.out.2.2
  go_cut [26] (fun sT wx => sT = .bool (mts x.loop y.step) ∧ Below W.heap.size W wx)
  case first =>
    go_region_with (go_at_call 53; go_fit (MT0.out _); rintro e w2 ⟨rfl, hb2⟩; go_wp2_with fail)
    all_goals
      go_wp2_with fail
      go_meet
      exact ⟨rfl, (Below.refl _ _).drew.trans hb2⟩
  case rest =>
    obtain ⟨rfl, hb⟩ := hcut
    have T0 := Lib.hid (S1.out.below hb)
    obtain ⟨X0, hX0⟩ : ∃ X, X = wc := ⟨_, rfl⟩
    rw [← hX0] at T0 ⊢
    clear p0 p1 p2 p3 r0 r1 r2 r3 hb hX0
    go_upto_if 26 with (fail)
    go_cut [7] (fun s7 wx => FSt w pa pb (if mts x.loop y.step then [(pa, pb + 1)] else []) s7 wx)
    case first =>
      have d0 := T0.out.2.1.cell (k := 0) rfl
      have d1 := T0.out.2.1.cell (k := 1) rfl
      cases hm : mts x.loop y.step
      · have HM := Lib.hid hm
        clear hm
        go_wp2_with fail
        go_meet
        rw [if_neg (by rw [HM.out]; decide)]
        exact T0.out
      · have HO := Lib.hid (T0.out.1.alloc (Obj.cells #[.int .i64 (pa : Nat), .int .i64 (pb + 1 : Nat)] 81))
        have HM := Lib.hid hm
        clear hm
        go_wp2_with (at_builtin; refine wpList_append_own _ rfl _ _ 83 rfl (w.heap.size + 1) 81 i0 (.agg #[.int .i64 0, .int .i64 0]) 2 16 Try.underlying83 hi0 hz0 hz1 hzb rfl (by decide) _ _ _ rfl HO.out ⟨X0.heap.size, 0, none⟩ 1 1 [.int .i64 (pa : Nat), .int .i64 (pb + 1 : Nat)] rfl rfl ?c1 ?c2 ?c3 ?c4 ?c5 ?_)
        case c1 => exact new_cells' _ _ rfl _ _
        case c2 => intro u hu; simp at hu; rcases hu with rfl | rfl <;> rfl
        case c3 => have := LN0.out; unfold maxLen; omega
        case c4 => have := LN0.out; omega
        case c5 => have := T0.out.2.1.lt; simp; omega
        intro v' w3 hown hgrow _
        have P0 := Lib.hid (T0.out.push (q := (pa, pb + 1)) rfl hown hgrow)
        clear hown hgrow
        go_wp2_with fail
        go_meet
        rw [if_pos HM.out]
        exact P0.out
    case rest =>
      have S2 := Lib.hid hcut
      obtain ⟨Y0, hY0⟩ : ∃ Y, Y = wc := ⟨_, rfl⟩
      rw [← hY0] at S2 ⊢
      clear hcut hY0 S1 T0
      obtain ⟨L1, hL1⟩ : ∃ L, L = (if mts x.loop y.step then [(pa, pb + 1)] else []) := ⟨_, rfl⟩
      have LE1 := Lib.hid hL1
      rw [← hL1] at S2
      have LN1 := Lib.hid (show L1.length ≤ 1 by rw [hL1]; split <;> simp)
      clear hL1
      obtain ⟨s0a, s0c, hs0⟩ := own_slice S2.out.1
      subst hs0
      go_wp2_with fail
      obtain ⟨p0, p1, p2, p3⟩ := Cxs.out Y0 S2.out.2.2
      obtain ⟨r0, r1, r2, r3⟩ := Cyl.out Y0 S2.out.2.2
      go_cut [44] (fun sT wx => sT = .bool (mts x.step y.loop) ∧ Below Y0.heap.size Y0 wx)
      case first =>
        go_region_with (go_at_call 53; go_fit (MT1.out _); rintro e w2 ⟨rfl, hb2⟩; go_wp2_with fail)
        all_goals
          go_wp2_with fail
          go_meet
          exact ⟨rfl, (Below.refl _ _).drew.trans hb2⟩
      case rest =>
        obtain ⟨rfl, hb⟩ := hcut
        have T1 := Lib.hid (S2.out.below hb)
        obtain ⟨X1, hX1⟩ : ∃ X, X = wc := ⟨_, rfl⟩
        rw [← hX1] at T1 ⊢
        clear p0 p1 p2 p3 r0 r1 r2 r3 hb hX1
        go_upto_if 44 with (fail)
        go_cut [7] (fun s7 wx => FSt w pa pb (L1 ++ (if mts x.step y.loop then [(pa + 1, pb)] else [])) s7 wx)
        case first =>
          have d0 := T1.out.2.1.cell (k := 0) rfl
          have d1 := T1.out.2.1.cell (k := 1) rfl
          cases hm : mts x.step y.loop
          · have HM := Lib.hid hm
            clear hm
            go_wp2_with fail
            go_meet
            rw [if_neg (by rw [HM.out]; decide)]
            rw [List.append_nil]; exact T1.out
          · have HO := Lib.hid (T1.out.1.alloc (Obj.cells #[.int .i64 (pa + 1 : Nat), .int .i64 (pb : Nat)] 81))
            have HM := Lib.hid hm
            clear hm
            go_wp2_with (at_builtin; refine wpList_append_own _ rfl _ _ 83 rfl (w.heap.size + 1) 81 i0 (.agg #[.int .i64 0, .int .i64 0]) 2 16 Try.underlying83 hi0 hz0 hz1 hzb rfl (by decide) _ _ _ rfl HO.out ⟨X1.heap.size, 0, none⟩ 1 1 [.int .i64 (pa + 1 : Nat), .int .i64 (pb : Nat)] rfl rfl ?c1 ?c2 ?c3 ?c4 ?c5 ?_)
            case c1 => exact new_cells' _ _ rfl _ _
            case c2 => intro u hu; simp at hu; rcases hu with rfl | rfl <;> rfl
            case c3 => have := LN1.out; unfold maxLen; omega
            case c4 => have := LN1.out; omega
            case c5 => have := T1.out.2.1.lt; simp; omega
            intro v' w3 hown hgrow _
            have P1 := Lib.hid (T1.out.push (q := (pa + 1, pb)) rfl hown hgrow)
            clear hown hgrow
            go_wp2_with fail
            go_meet
            rw [if_pos HM.out]
            exact P1.out
        case rest =>
          have S3 := Lib.hid hcut
          obtain ⟨Y1, hY1⟩ : ∃ Y, Y = wc := ⟨_, rfl⟩
          rw [← hY1] at S3 ⊢
          clear hcut hY1 S2 T1
          obtain ⟨L2, hL2⟩ : ∃ L, L = (L1 ++ (if mts x.step y.loop then [(pa + 1, pb)] else [])) := ⟨_, rfl⟩
          have LE2 := Lib.hid hL2
          rw [← hL2] at S3
          have LN2 := Lib.hid (show L2.length ≤ 2 by rw [hL2]; rw [List.length_append]; have := LN1.out; split <;> simp <;> omega)
          clear hL2
          obtain ⟨s1a, s1c, hs1⟩ := own_slice S3.out.1
          subst hs1
          go_wp2_with fail
          obtain ⟨p0, p1, p2, p3⟩ := Cxs.out Y1 S3.out.2.2
          obtain ⟨r0, r1, r2, r3⟩ := Cys.out Y1 S3.out.2.2
          go_cut [62] (fun sT wx => sT = .bool (mts x.step y.step) ∧ Below Y1.heap.size Y1 wx)
          case first =>
            go_region_with (go_at_call 53; go_fit (MT2.out _); rintro e w2 ⟨rfl, hb2⟩; go_wp2_with fail)
            all_goals
              go_wp2_with fail
              go_meet
              exact ⟨rfl, (Below.refl _ _).drew.trans hb2⟩
          case rest =>
            obtain ⟨rfl, hb⟩ := hcut
            have T2 := Lib.hid (S3.out.below hb)
            obtain ⟨X2, hX2⟩ : ∃ X, X = wc := ⟨_, rfl⟩
            rw [← hX2] at T2 ⊢
            clear p0 p1 p2 p3 r0 r1 r2 r3 hb hX2
            go_upto_if 62 with (fail)
            go_cut [7] (fun s7 wx => FSt w pa pb (L2 ++ (if mts x.step y.step then [(pa + 1, pb + 1)] else [])) s7 wx)
            case first =>
              have d0 := T2.out.2.1.cell (k := 0) rfl
              have d1 := T2.out.2.1.cell (k := 1) rfl
              cases hm : mts x.step y.step
              · have HM := Lib.hid hm
                clear hm
                go_wp2_with fail
                go_meet
                rw [if_neg (by rw [HM.out]; decide)]
                rw [List.append_nil]; exact T2.out
              · have HO := Lib.hid (T2.out.1.alloc (Obj.cells #[.int .i64 (pa + 1 : Nat), .int .i64 (pb + 1 : Nat)] 81))
                have HM := Lib.hid hm
                clear hm
                go_wp2_with (at_builtin; refine wpList_append_own _ rfl _ _ 83 rfl (w.heap.size + 1) 81 i0 (.agg #[.int .i64 0, .int .i64 0]) 2 16 Try.underlying83 hi0 hz0 hz1 hzb rfl (by decide) _ _ _ rfl HO.out ⟨X2.heap.size, 0, none⟩ 1 1 [.int .i64 (pa + 1 : Nat), .int .i64 (pb + 1 : Nat)] rfl rfl ?c1 ?c2 ?c3 ?c4 ?c5 ?_)
                case c1 => exact new_cells' _ _ rfl _ _
                case c2 => intro u hu; simp at hu; rcases hu with rfl | rfl <;> rfl
                case c3 => have := LN2.out; unfold maxLen; omega
                case c4 => have := LN2.out; omega
                case c5 => have := T2.out.2.1.lt; simp; omega
                intro v' w3 hown hgrow _
                have P2 := Lib.hid (T2.out.push (q := (pa + 1, pb + 1)) rfl hown hgrow)
                clear hown hgrow
                go_wp2_with fail
                go_meet
                rw [if_pos HM.out]
                exact P2.out
            case rest =>
              have S4 := Lib.hid hcut
              obtain ⟨Y2, hY2⟩ : ∃ Y, Y = wc := ⟨_, rfl⟩
              rw [← hY2] at S4 ⊢
              clear hcut hY2 S3 T2
              obtain ⟨L3, hL3⟩ : ∃ L, L = (L2 ++ (if mts x.step y.step then [(pa + 1, pb + 1)] else [])) := ⟨_, rfl⟩
              have LE3 := Lib.hid hL3
              rw [← hL3] at S4
              have LN3 := Lib.hid (show L3.length ≤ 3 by rw [hL3]; rw [List.length_append]; have := LN2.out; split <;> simp <;> omega)
              clear hL3
              obtain ⟨s2a, s2c, hs2⟩ := own_slice S4.out.1
              subst hs2
              go_wp2_with fail
              go_ret
              have e : L3 = succS x y (pa, pb) := by rw [LE3.out, LE2.out, LE1.out]; rfl
              exact ⟨_, rfl, by rw [← e]; exact own_base S4.out.1 (Nat.le_succ _), S4.out.2.2⟩
end Go.Proofs.Ytaalfnfikjmomaa
