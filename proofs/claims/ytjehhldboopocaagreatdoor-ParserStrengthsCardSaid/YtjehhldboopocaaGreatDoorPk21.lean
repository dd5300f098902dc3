/- Contracts of functions of the program, and what they are made of (parser; Pk21). -/
import Derived.Test.YtjehhldboopocaaGreatDoorPk16
import Derived.Test.YtjehhldboopocaaGreatDoorPk17
import Derived.Test.YtjehhldboopocaaGreatDoorPk20
namespace Go.Proofs.YtjehhldboopocaaGreatDoor.Lx
open Go.RowKit Go.Lib
set_option linter.unusedVariables false
/-- Only the box R is written. -/
abbrev Bt (R : Nat) (w w' : World) : Prop := Fm R (.slice none 0 0) (.slice none 0 0) w w'
theorem Bt.fm {R : Nat} {G : Value} {w w' : World} (h : Bt R w w') : Fm R G G w w' := ⟨h.os, h.tape, h.output, h.size, fun k h1 h2 _ => h.block k h1 h2 (by simp [Value.ownBlock]), .inl rfl⟩
theorem Bt.at {R : Nat} {w w' : World} (h : Bt R w w') {k : Nat} (hk : k < w.heap.size) (hR : k ≠ R) : w'.heap[k]? = w.heap[k]? := h.block k hk hR (by simp [Value.ownBlock])
theorem Bt.below {w0 : World} {R : Nat} {w w' : World} (h : Bt R w w') (hR : w0.heap.size ≤ R) (hb : Below w0.heap.size w0 w) : Below w0.heap.size w0 w' :=
  h.toBelow hb hR (fun g hg => by simp [Value.ownBlock] at hg)
theorem Fm.drewN {R : Nat} {G G' : Value} {w w' : World} (h : Fm R G G' w w') (n : Nat) : Fm R G G' w (w'.drewN n) := h.trans (Fm.of_below (below_drewN (Below.refl _ _) n))
theorem _root_.Go.Proofs.YtjehhldboopocaaGreatDoor.CellsAt.drewN {w : World} {b : Nat} {t : TypeId} {cs : Array Value} (h : CellsAt w b t cs) (n : Nat) : CellsAt (w.drewN n) b t cs := h.below (below_drewN (Below.refl _ _) n)
theorem hold5 {W w1 w2 : World} {p1 p2 p3 p4 p5 : Addr} {x1 x2 x3 x4 x5 : Value} (h : w1.cell? p1 = some x1 ∧ w1.cell? p2 = some x2 ∧ w1.cell? p3 = some x3 ∧ w1.cell? p4 = some x4 ∧ w1.cell? p5 = some x5 ∧ W.heap.size ≤ w1.heap.size ∧ Below W.heap.size W w1) (hb : Below w1.heap.size w1 w2) :
    w2.cell? p1 = some x1 ∧ w2.cell? p2 = some x2 ∧ w2.cell? p3 = some x3 ∧ w2.cell? p4 = some x4 ∧ w2.cell? p5 = some x5 ∧ W.heap.size ≤ w2.heap.size ∧ Below W.heap.size W w2 := by
  obtain ⟨h1, h2, h3, h4, h5, h6, h7⟩ := h
  have hz := hb.size
  exact ⟨(hb.cell (World.block_lt_of_cell? _ _ h1)).trans h1, (hb.cell (World.block_lt_of_cell? _ _ h2)).trans h2, (hb.cell (World.block_lt_of_cell? _ _ h3)).trans h3, (hb.cell (World.block_lt_of_cell? _ _ h4)).trans h4, (hb.cell (World.block_lt_of_cell? _ _ h5)).trans h5, by omega, h7.trans (hb.mono h6)⟩
theorem hold5_drew {W w1 : World} {p1 p2 p3 p4 p5 : Addr} {x1 x2 x3 x4 x5 : Value} (h : w1.cell? p1 = some x1 ∧ w1.cell? p2 = some x2 ∧ w1.cell? p3 = some x3 ∧ w1.cell? p4 = some x4 ∧ w1.cell? p5 = some x5 ∧ W.heap.size ≤ w1.heap.size ∧ Below W.heap.size W w1) :
    w1.drew.cell? p1 = some x1 ∧ w1.drew.cell? p2 = some x2 ∧ w1.drew.cell? p3 = some x3 ∧ w1.drew.cell? p4 = some x4 ∧ w1.drew.cell? p5 = some x5 ∧ W.heap.size ≤ w1.drew.heap.size ∧ Below W.heap.size W w1.drew :=
  ⟨h.1, h.2.1, h.2.2.1, h.2.2.2.1, h.2.2.2.2.1, h.2.2.2.2.2.1, h.2.2.2.2.2.2.drew⟩
theorem nxt_get {toks : List Tm} {i : Nat} (h : i < toks.length) : nxt toks i = if inS toks[i].kind toks[i].text = true then (toks[i].kind, toks[i].text) else (0, []) := by
  unfold nxt tsOf
  rw [seen_get, List.getElem?_map, List.getElem?_eq_getElem h]
  rfl
theorem nxt_end {toks : List Tm} {i : Nat} (h : toks.length ≤ i) : nxt toks i = (0, []) := by
  unfold nxt tsOf
  rw [seen_get, List.getElem?_map, List.getElem?_eq_none h]
  rfl
/-- What the reader reads from. -/
structure EnvR (w0 : World) (ta : Option Addr) (toks : List Tm) : Prop where
  tab : TabL w0
  reads : ReadsK w0 ta toks
  few : toks.length ≤ 1073741824
  short : ∀ t, t ∈ toks → t.text.length ≤ 1099511627776
section
variable {w0 : World} {ta : Option Addr} {tc : Nat} {toks : List Tm}
set_option maxHeartbeats 4000000 in
set_option maxRecDepth 100000 in
theorem look_any (hE : EnvR w0 ta toks) (R i : Nat) (hR : w0.heap.size ≤ R) (hi : i ≤ toks.length) (k0 a0 : Int) (s0 : ByteArray) (G : Value) (w : World) (hb : Below w0.heap.size w0 w)
    (hc : CellsAt w R 61 #[.slice ta toks.length tc, .int .i64 i, .int .i64 k0, .string s0, .int .i64 a0, G]) :
    Calls Tryz.prog 50 #[.pointer (some ⟨R, 0, none⟩)] w fun e w' => e = .returned (.tuple #[]) ∧
      (∃ na, CellsAt w' R 61 #[.slice ta toks.length tc, .int .i64 i, .int .i64 (nxt toks i).1, .string ⟨(nxt toks i).2.toArray⟩, .int .i64 na, G]) ∧ Bt R w w' := by
  have c0 := hc.cell (k := 0) (u := .slice ta toks.length tc) rfl
  have c1 := hc.cell (k := 1) (u := .int .i64 i) rfl
  have c2 := hc.cell (k := 2) (u := .int .i64 k0) rfl
  have c3 := hc.cell (k := 3) (u := .string s0) rfl
  have c4 := hc.cell (k := 4) (u := .int .i64 a0) rfl
  have f2 := hc.frozen 2
  have f3 := hc.frozen 3
  have f4 := hc.frozen 4
  have hlt := hc.lt
  have HC1 := Lib.hid (show CellsAt (((w.setCell ⟨R, 2, none⟩ (.int .i64 0)).setCell ⟨R, 3, none⟩ (.string ⟨#[]⟩)).setCell ⟨R, 4, none⟩ (.int .i64 0)) R 61 #[.slice ta toks.length tc, .int .i64 i, .int .i64 0, .string ⟨#[]⟩, .int .i64 0, G] from
    ((hc.set 2 _).set 3 _).set 4 _)
  have HF1 := Lib.hid (show Bt R w (((w.setCell ⟨R, 2, none⟩ (.int .i64 0)).setCell ⟨R, 3, none⟩ (.string ⟨#[]⟩)).setCell ⟨R, 4, none⟩ (.int .i64 0)) from
    ((Fm.set w 2 _).trans (Fm.set _ 3 _)).trans (Fm.set _ 4 _))
  have HB := Lib.hid hb
  clear hc hb
  by_cases hlt2 : i < toks.length
  · obtain ⟨b, off, rfl, hbw, t0, t1, t2⟩ := hE.reads i hlt2
    have hx := nxt_get hlt2
    obtain ⟨t, ht⟩ : ∃ t, t = toks[i] := ⟨_, rfl⟩
    rw [← ht] at hx t0 t1 t2
    have hsh := hE.short t (by rw [ht]; exact List.getElem_mem hlt2)
    have HB1 := Lib.hid (HF1.out.below hR HB.out)
    have I := Lib.hid (fun (W : World) (hW : Below w0.heap.size w0 W) => inSources_any t hsh W (hE.tab.below hW))
    have p0 := (HB1.out.cell (p := ⟨b, _, none⟩) hbw).trans t0
    have p1 := (HB1.out.cell (p := ⟨b, _, none⟩) hbw).trans t1
    have p2 := (HB1.out.cell (p := ⟨b, _, none⟩) hbw).trans t2
    have hd : decide ((i : Int) < (toks.length : Int)) = true := by rw [decide_eq_true_eq]; omega
    have hiI : (0 : Int) ≤ (i : Int) ∧ (i : Int) < (toks.length : Int) := by omega
    obtain ⟨kd, hkd⟩ : ∃ kd, kd = t.kind := ⟨_, rfl⟩
    obtain ⟨tx, htx⟩ : ∃ tx : ByteArray, tx = ⟨t.text.toArray⟩ := ⟨_, rfl⟩
    obtain ⟨ps, hps⟩ : ∃ ps, ps = t.pos := ⟨_, rfl⟩
    rw [← hkd, ← htx, ← hps] at I
    rw [← hkd] at p0
    rw [← htx] at p1
    rw [← hps] at p2
    obtain ⟨q, hq⟩ : ∃ q, q = inS kd t.text := ⟨_, rfl⟩
    rw [← hq] at I
    rw [← hkd, ← hq] at hx
    have HX := Lib.hid hx
    have HTX := Lib.hid htx
    clear hx htx hps hq t0 t1 t2 ht hkd hsh
    obtain ⟨w1, hw1⟩ : ∃ w1, w1 = ((w.setCell ⟨R, 2, none⟩ (.int .i64 0)).setCell ⟨R, 3, none⟩ (.string ⟨#[]⟩)).setCell ⟨R, 4, none⟩ (.int .i64 0) := ⟨_, rfl⟩
    rw [← hw1] at HC1 HF1 HB1 p0 p1 p2
    have q0 := HC1.out.cell (k := 0) (u := .slice (some ⟨b, off, none⟩) toks.length tc) rfl
    have q1 := HC1.out.cell (k := 1) (u := .int .i64 i) rfl
    have hs0 := And.intro q0 (And.intro q1 (And.intro p0 (And.intro p1 (And.intro p2 (And.intro (Nat.le_refl w1.heap.size) (Below.refl w1.heap.size w1))))))
    have HS0 := Lib.hid hs0
    have HW1 := Lib.hid hw1
    clear q0 q1 p0 p1 p2 hs0 hw1
    go_enter Tryz.func50, Tryz.ntmps50
    go_wp2_with fail
    rw [← HW1.out]
    have hs0 := HS0.out
    go_cut [28] (fun s28 wx => s28 = .bool q ∧ (wx.cell? ⟨R, 0, none⟩ = some (.slice (some ⟨b, off, none⟩) toks.length tc) ∧ wx.cell? ⟨R, 1, none⟩ = some (.int .i64 i) ∧ wx.cell? ⟨b, off + i * 3, none⟩ = some (.int .i64 kd) ∧ wx.cell? ⟨b, off + i * 3 + 1, none⟩ = some (.string tx) ∧ wx.cell? ⟨b, off + i * 3 + 2, none⟩ = some (.int .i64 ps) ∧ w1.heap.size ≤ wx.heap.size ∧ Below w1.heap.size w1 wx))
    case first =>
      go_region_held3 (fun w' => w'.cell? ⟨R, 0, none⟩ = some (.slice (some ⟨b, off, none⟩) toks.length tc) ∧ w'.cell? ⟨R, 1, none⟩ = some (.int .i64 i) ∧ w'.cell? ⟨b, off + i * 3, none⟩ = some (.int .i64 kd) ∧ w'.cell? ⟨b, off + i * 3 + 1, none⟩ = some (.string tx) ∧ w'.cell? ⟨b, off + i * 3 + 2, none⟩ = some (.int .i64 ps) ∧ w1.heap.size ≤ w'.heap.size ∧ Below w1.heap.size w1 w') (first | exact hold5_drew hs0 | exact hold5 (by assumption) (by assumption)) (first
        | (go_at_call 88; go_fit (I.out _ HB1.out.drew); rintro e w2 ⟨rfl, hb2⟩)
        | fail)
      go_wp2_with fail
      go_meet
      refine ⟨rfl, ?_⟩
      assumption
    case rest =>
      obtain ⟨rfl, hs1⟩ := hcut
      obtain ⟨y0, y1, y2, y3, y4, hz1, hb1⟩ := hs1
      have HC2 := Lib.hid (HC1.out.below hb1)
      have HF2 := Lib.hid (HF1.out.trans (Fm.of_below hb1))
      clear hs0 HS0 hb1 hz1
      cases q
      · go_wp2_with fail
        go_end0
        rw [HX.out]
        exact ⟨rfl, ⟨0, HC2.out⟩, HF2.out⟩
      · have g2 := HC2.out.frozen 2
        have g3 := HC2.out.frozen 3
        have g4 := HC2.out.frozen 4
        have z2 := HC2.out.cell (k := 2) (u := .int .i64 0) rfl
        have z3 := HC2.out.cell (k := 3) (u := .string ⟨#[]⟩) rfl
        have z4 := HC2.out.cell (k := 4) (u := .int .i64 0) rfl
        have HC3 := Lib.hid (show CellsAt (((wc.setCell ⟨R, 2, none⟩ (.int .i64 kd)).setCell ⟨R, 3, none⟩ (.string tx)).setCell ⟨R, 4, none⟩ (.int .i64 ps)) R 61 #[.slice (some ⟨b, off, none⟩) toks.length tc, .int .i64 i, .int .i64 kd, .string tx, .int .i64 ps, G] from ((HC2.out.set 2 (.int .i64 kd)).set 3 (.string tx)).set 4 (.int .i64 ps))
        have HF3 := Lib.hid (((HF2.out.trans (Fm.set wc 2 (.int .i64 kd))).trans (Fm.set _ 3 (.string tx))).trans (Fm.set _ 4 (.int .i64 ps)))
        go_wp2_with fail
        go_region
        go_wp2_with fail
        go_end0
        have e := HX.out
        rw [if_pos trivial] at e
        rw [e]
        refine ⟨rfl, ⟨ps, ?_⟩, HF3.out.trans (Fm.of_below (Below.refl _ _).drew)⟩
        show CellsAt _ R _ #[_, _, .int .i64 kd, .string ⟨t.text.toArray⟩, _, _]
        rw [← HTX.out]
        exact HC3.out.drew
  · obtain rfl : i = toks.length := by omega
    have HX := Lib.hid (nxt_end (Nat.le_refl toks.length))
    have hd : decide ((toks.length : Int) < (toks.length : Int)) = false := by rw [decide_eq_false_iff_not]; omega
    go_enter Tryz.func50, Tryz.ntmps50
    go_wp2_with fail
    go_quiet (fail)
    go_wp2_with fail
    go_end0
    rw [HX.out]
    exact ⟨rfl, ⟨0, HC1.out.drewN _⟩, HF1.out.drewN _⟩
end
end Go.Proofs.YtjehhldboopocaaGreatDoor.Lx
namespace Go.Proofs.YtjehhldboopocaaGreatDoor.Lx
open Go.RowKit Go.Lib
set_option linter.unusedVariables false
section
variable {w0 : World} {ta : Option Addr} {tc : Nat} {toks : List Tm} {Z : Nat → Prop} {R i : Nat} {G : Value} {L : List Xp} {w : World}
/-- The box is written anew, everything else lies as it lay. -/
theorem RS.rebox {i' : Nat} {w' : World} (h : RS w0 ta tc toks Z R i G L w) (hb : Bt R w w') (hi : i ≤ i') (hi2 : i' ≤ toks.length)
    (hc : ∃ na, CellsAt w' R 61 #[.slice ta toks.length tc, .int .i64 i', .int .i64 (nxt toks i').1, .string ⟨(nxt toks i').2.toArray⟩, .int .i64 na, G]) : RS w0 ta tc toks Z R i' G L w' :=
  ⟨hb.below h.hR h.below, h.hR, hi2, Nat.le_trans h.hL hi, hc, h.stk.stay hb.size (fun g hg => hb.at (h.glt g hg).2 (by have := (h.glt g hg).1; omega)) fun k h1 h2 => ⟨hb.at h1 h2.1, h2.2.2⟩⟩
theorem Bt.alloc {w' : World} (h : Bt R w w') (o : Obj) : Bt R w (w'.alloc o) := h.trans (Fm.of_below ((Below.refl _ _).alloc (Nat.le_refl _) o))
theorem Bt.setNew {w' : World} (h : Bt R w w') {b : Nat} (hb : w.heap.size ≤ b) (k : Nat) (u : Value) : Bt R w (w'.setCell ⟨b, k, none⟩ u) :=
  ⟨h.os, h.tape, h.output, by have := h.size; simpa using this, fun j h1 h2 _ => (Below.heap_setCell _ _ _ j (by show j ≠ b; omega)).trans (h.at h1 h2), .inl rfl⟩
set_option maxRecDepth 100000 in
theorem opr_any (h : RS w0 ta tc toks Z R i G L w) : Calls Tryz.prog 128 #[.pointer (some ⟨R, 0, none⟩)] w fun e w' => e = .returned (.string ⟨(if (nxt toks i).1 = 4 then (nxt toks i).2 else []).toArray⟩) ∧ w' = w := by
  obtain ⟨na, hc⟩ := h.box
  have c2 := hc.cell (k := 2) rfl
  have c3 := hc.cell (k := 3) rfl
  obtain ⟨⟨kd, s⟩, hx⟩ : ∃ x, x = nxt toks i := ⟨_, rfl⟩
  rw [← hx] at c2 c3 ⊢
  dsimp only at c2 c3 ⊢
  obtain ⟨sx, hsx⟩ : ∃ sx : ByteArray, sx = ⟨s.toArray⟩ := ⟨_, rfl⟩
  rw [← hsx] at c3
  by_cases h4 : kd = 4
  · subst h4
    rw [if_pos rfl, ← hsx]
    clear hsx hx hc h
    go_enter Tryz.func128, Tryz.ntmps128
    go_wp2_with fail
    go_ret
    exact ⟨rfl, rfl⟩
  · rw [if_neg h4]
    have g : (kd != 4) = true := by rw [bne_iff_ne]; exact h4
    clear hsx hx hc h h4
    go_enter Tryz.func128, Tryz.ntmps128
    go_wp2_with fail
    go_ret
    exact ⟨rfl, rfl⟩
theorem miss_ts (h : i ≤ toks.length) : miss (tsOf toks) i = if i = toks.length then 4 else 5 := by
  unfold miss tsOf
  rw [seen_len, List.length_map]
  by_cases e : i = toks.length
  · rw [if_pos (by omega), if_pos e]
  · rw [if_neg (by omega), if_neg e]
set_option maxRecDepth 100000 in
theorem refusal_any (h : RS w0 ta tc toks Z R i G L w) : Calls Tryz.prog 130 #[.pointer (some ⟨R, 0, none⟩)] w fun e w' => e = .returned (.int .i64 (miss (tsOf toks) i : Nat)) ∧ Below w.heap.size w w' := by
  obtain ⟨na, hc⟩ := h.box
  have c0 := hc.cell (k := 0) rfl
  have c1 := hc.cell (k := 1) rfl
  rw [miss_ts h.hi]
  have hi := h.hi
  by_cases e : i = toks.length
  · subst e
    rw [if_pos rfl]
    clear hc h
    go_enter Tryz.func130, Tryz.ntmps130
    go_wp2_with fail
    go_quiet (fail)
    go_wp2_with fail
    go_ret
    exact ⟨rfl, below_drewN (Below.refl _ _) _⟩
  · rw [if_neg e]
    have g : ((i : Int) == (toks.length : Int)) = false := by rw [beq_eq_false_iff_ne]; omega
    clear hc h e
    go_enter Tryz.func130, Tryz.ntmps130
    go_wp2_with fail
    go_quiet (fail)
    go_wp2_with fail
    go_ret
    exact ⟨rfl, below_drewN (Below.refl _ _) _⟩
set_option maxHeartbeats 4000000 in
set_option maxRecDepth 100000 in
theorem read_any (hE : EnvR w0 ta toks) (h : RS w0 ta tc toks Z R i G L w) (hi : i < toks.length) : Calls Tryz.prog 129 #[.pointer (some ⟨R, 0, none⟩)] w fun e w' =>
    ∃ na, e = .returned (.agg #[.int .i64 (nxt toks i).1, .string ⟨(nxt toks i).2.toArray⟩, .int .i64 na]) ∧ RS w0 ta tc toks Z R (i + 1) G L w' ∧ Fm R G G w w' := by
  obtain ⟨na, hc⟩ := h.box
  have c1 := hc.cell (k := 1) rfl
  have c2 := hc.cell (k := 2) rfl
  have c3 := hc.cell (k := 3) rfl
  have c4 := hc.cell (k := 4) rfl
  have f1 := hc.frozen 1
  have hlt := hc.lt
  have few := hE.few
  obtain ⟨⟨kd, s⟩, hx⟩ : ∃ x, x = nxt toks i := ⟨_, rfl⟩
  rw [← hx] at c2 c3 hc ⊢
  dsimp only at c2 c3 hc ⊢
  obtain ⟨sx, hsx⟩ : ∃ sx : ByteArray, sx = ⟨s.toArray⟩ := ⟨_, rfl⟩
  rw [← hsx] at c3 hc ⊢
  obtain ⟨W1, hW1⟩ : ∃ W1, W1 = ((w.setCell ⟨R, 1, none⟩ (.int .i64 ((i : Int) + 1))).alloc (.cells #[.int .i64 0, .string ⟨#[]⟩, .int .i64 0] 52)).alloc (.cells #[.int .i64 kd, .string sx, .int .i64 na] 52) := ⟨_, rfl⟩
  have HW := Lib.hid (show Bt R w W1 by rw [hW1]; exact Bt.alloc (Bt.alloc (Fm.set w 1 _) _) _)
  have HC := Lib.hid (show CellsAt W1 R 61 #[.slice ta toks.length tc, .int .i64 ((i + 1 : Nat) : Int), .int .i64 kd, .string sx, .int .i64 na, G] by rw [hW1]; exact ((hc.set 1 _).alloc _).alloc _)
  have HZ1 := Lib.hid (show CellsAt W1 w.heap.size 52 #[.int .i64 0, .string ⟨#[]⟩, .int .i64 0] by
    have h1 := (CellsAt.new (w.setCell ⟨R, 1, none⟩ (.int .i64 ((i : Int) + 1))) 52 #[.int .i64 0, .string ⟨#[]⟩, .int .i64 0]).alloc (.cells #[.int .i64 kd, .string sx, .int .i64 na] 52)
    rw [← hW1] at h1
    simpa using h1)
  have HZ2 := Lib.hid (show CellsAt W1 (w.heap.size + 1) 52 #[.int .i64 kd, .string sx, .int .i64 na] by
    have h1 := CellsAt.new ((w.setCell ⟨R, 1, none⟩ (.int .i64 ((i : Int) + 1))).alloc (.cells #[.int .i64 0, .string ⟨#[]⟩, .int .i64 0] 52)) 52 #[.int .i64 kd, .string sx, .int .i64 na]
    rw [← hW1] at h1
    simpa using h1)
  have K := Lib.hid (look_any (tc := tc) hE R (i + 1) h.hR (by omega) kd na sx G W1 (HW.out.below h.hR h.below) HC.out)
  rw [hW1] at K
  have HW1 := Lib.hid hW1
  have H := Lib.hid h
  have HSX := Lib.hid hsx
  clear h hc hsx hx hW1 HC
  go_enter Tryz.func129, Tryz.ntmps129
  go_wp2_with fail
  go_fit (K.out)
  rw [← HW1.out]
  rintro e w2 ⟨rfl, hc2, hb2⟩
  have HC2 := Lib.hid hc2
  have HB2 := Lib.hid hb2
  have Y1 := Lib.hid (HZ1.out.of_block (hb2.at HZ1.out.lt (by omega)))
  have Y2 := HZ2.out.of_block (hb2.at HZ2.out.lt (by omega))
  have y0 := Y2.cell (k := 0) (u := .int .i64 kd) rfl
  have y1 := Y2.cell (k := 1) (u := .string sx) rfl
  have y2 := Y2.cell (k := 2) (u := .int .i64 na) rfl
  have x0 := Y1.out.cell (k := 0) (u := .int .i64 0) rfl
  have x1 := Y1.out.cell (k := 1) (u := .string ⟨#[]⟩) rfl
  have x2 := Y1.out.cell (k := 2) (u := .int .i64 0) rfl
  have g0 := Y1.out.frozen 0
  have g1 := Y1.out.frozen 1
  have g2 := Y1.out.frozen 2
  clear hc2 hb2 Y2 K HW1 HZ1 HZ2
  go_wp2_with fail
  have HF := Lib.hid (Bt.setNew (Bt.setNew (Bt.setNew (HW.out.trans HB2.out) (Nat.le_refl _) 0 (.int .i64 kd)) (Nat.le_refl _) 1 (.string sx)) (Nat.le_refl _) 2 (.int .i64 na))
  obtain ⟨na2, hc3⟩ := HC2.out
  refine bodyPost_ret (v := .agg #[.int .i64 kd, .string sx, .int .i64 na]) ?_ rfl ⟨na, rfl, ?_, HF.out.fm⟩
  · simp [results, Tryz.results129, go_sem, x0, x1, x2]
  · exact H.out.rebox HF.out (by omega) (by omega) ⟨na2, ((hc3.other (by omega) _ _).other (by omega) _ _).other (by omega) _ _⟩
/-- What reading a token leaves. -/
def Read1 (w0 : World) (ta : Option Addr) (tc : Nat) (toks : List Tm) (Z : Nat → Prop) (R i : Nat) (G : Value) (L : List Xp) (w w' : World) : Prop := RS w0 ta tc toks Z R (i + 1) G L w' ∧ Fm R G G w w'
theorem nxt_lt {k : Int} {s : List UInt8} (h : nxt toks i = (k, s)) (hk : k ≠ 0) : i < toks.length := by
  apply Classical.byContradiction
  intro hn
  rw [nxt_end (by omega)] at h
  injection h with h1 _
  exact hk h1.symm
theorem bs_eq (l m : List UInt8) : ((⟨l.toArray⟩ : ByteArray).toList == (⟨m.toArray⟩ : ByteArray).toList) = decide (l = m) := by
  rw [ByteArray.toList_eq, ByteArray.toList_eq]
  by_cases h : l = m
  · rw [h]; simp
  · rw [decide_eq_false h, beq_eq_false_iff_ne]; exact h
set_option maxRecDepth 100000 in
theorem accept_yes {op : List UInt8} (hE : EnvR w0 ta toks) (h : RS w0 ta tc toks Z R i G L w) (hop : nxt toks i = (4, op)) : Calls Tryz.prog 90 #[.pointer (some ⟨R, 0, none⟩), .string ⟨op.toArray⟩] w fun e w' => e = .returned (.bool true) ∧ Read1 w0 ta tc toks Z R i G L w w' := by
  have O := opr_any h
  have D := Lib.hid (read_any hE h (nxt_lt hop (by decide)))
  rw [hop] at O
  dsimp only at O
  rw [if_pos rfl] at O
  have O := Lib.hid O
  have g := bs_eq op op
  rw [decide_eq_true rfl] at g
  obtain ⟨sx, hsx⟩ : ∃ sx : ByteArray, sx = ⟨op.toArray⟩ := ⟨_, rfl⟩
  rw [← hsx] at O g ⊢
  have g2 : (!(sx.toList == sx.toList)) = false := by rw [g]; rfl
  clear hsx hop h hE
  go_enter Tryz.func90, Tryz.ntmps90
  go_wp2_with fail
  go_fit O.out
  rintro e w1 ⟨rfl, rfl⟩
  go_wp2_with fail
  go_fit D.out
  rintro e w2 ⟨na, rfl, h1, h2⟩
  have H1 := Lib.hid h1
  have H2 := Lib.hid h2
  clear h1 h2
  go_wp2_with fail
  go_ret
  exact ⟨rfl, H1.out, H2.out⟩
set_option maxRecDepth 100000 in
theorem accept_no {op : List UInt8} (h : RS w0 ta tc toks Z R i G L w) (hop : nxt toks i ≠ (4, op)) (h0 : op ≠ []) : Calls Tryz.prog 90 #[.pointer (some ⟨R, 0, none⟩), .string ⟨op.toArray⟩] w fun e w' => e = .returned (.bool false) ∧ w' = w := by
  have O := Lib.hid (opr_any h)
  have g := bs_eq (if (nxt toks i).1 = 4 then (nxt toks i).2 else []) op
  have hne : ¬ (if (nxt toks i).1 = 4 then (nxt toks i).2 else []) = op := by
    intro e
    by_cases h4 : (nxt toks i).1 = 4
    · rw [if_pos h4] at e
      exact hop (Prod.ext h4 e)
    · rw [if_neg h4] at e
      exact h0 e.symm
  rw [decide_eq_false hne] at g
  obtain ⟨sx, hsx⟩ : ∃ sx : ByteArray, sx = ⟨(if (nxt toks i).1 = 4 then (nxt toks i).2 else []).toArray⟩ := ⟨_, rfl⟩
  obtain ⟨ox, hox⟩ : ∃ ox : ByteArray, ox = ⟨op.toArray⟩ := ⟨_, rfl⟩
  rw [← hsx] at O g
  rw [← hox] at g ⊢
  have g2 : (!(sx.toList == ox.toList)) = true := by rw [g]; rfl
  clear hsx hox hop h h0 hne
  go_enter Tryz.func90, Tryz.ntmps90
  go_wp2_with fail
  go_fit O.out
  rintro e w1 ⟨rfl, rfl⟩
  go_wp2_with fail
  go_ret
  exact ⟨rfl, rfl⟩
set_option maxRecDepth 100000 in
theorem need_yes {op : List UInt8} (hE : EnvR w0 ta toks) (h : RS w0 ta tc toks Z R i G L w) (hop : nxt toks i = (4, op)) : Calls Tryz.prog 91 #[.pointer (some ⟨R, 0, none⟩), .string ⟨op.toArray⟩] w fun e w' => e = .returned (.tuple #[]) ∧ Read1 w0 ta tc toks Z R i G L w w' := by
  have A := Lib.hid (accept_yes hE h hop)
  clear hop h hE
  go_enter Tryz.func91, Tryz.ntmps91
  go_wp2_with fail
  go_fit A.out
  rintro e w2 ⟨rfl, h1⟩
  have H1 := Lib.hid h1
  clear h1
  go_wp2_with fail
  go_end0
  exact ⟨rfl, H1.out⟩
/-- A panic with the error that the grammar tells. -/
abbrev PanE (er : Nat) : Ending := .panicked [{ v := .iface 30 (.int .i64 (er : Int)), recovered := false }]
set_option maxRecDepth 100000 in
theorem need_no {op : List UInt8} (h : RS w0 ta tc toks Z R i G L w) (hop : nxt toks i ≠ (4, op)) (h0 : op ≠ []) : Calls Tryz.prog 91 #[.pointer (some ⟨R, 0, none⟩), .string ⟨op.toArray⟩] w fun e w' => e = PanE (miss (tsOf toks) i) ∧ Below w.heap.size w w' := by
  have A := Lib.hid (accept_no h hop h0)
  have F := Lib.hid (refusal_any h)
  obtain ⟨er, her⟩ : ∃ er, er = miss (tsOf toks) i := ⟨_, rfl⟩
  rw [← her] at F ⊢
  clear hop h h0 her
  go_enter Tryz.func91, Tryz.ntmps91
  go_wp2_with fail
  go_fit A.out
  rintro e w2 ⟨rfl, rfl⟩
  go_wp2_with fail
  go_fit F.out
  rintro e w2 ⟨rfl, hb⟩
  have HB := Lib.hid hb
  clear hb
  go_wp2_with fail
  exact ⟨rfl, rfl, HB.out⟩
end
end Go.Proofs.YtjehhldboopocaaGreatDoor.Lx
namespace Go.Proofs.YtjehhldboopocaaGreatDoor.Lx
open Go.RowKit Go.Lib
set_option linter.unusedVariables false
def setC (us : List (Nat × Value)) (C : List Value) : List Value := us.foldl (fun C p => C.set p.1 p.2) C
def setW (g o : Nat) (us : List (Nat × Value)) (w : World) : World := us.foldl (fun W p => W.setCell ⟨g, o + p.1, none⟩ p.2) w
theorem setW_size (g o : Nat) : ∀ (us : List (Nat × Value)) (w : World), (setW g o us w).heap.size = w.heap.size
  | [], w => rfl
  | p :: us, w => (setW_size g o us _).trans (by simp)
theorem setW_other (g o : Nat) : ∀ (us : List (Nat × Value)) (w : World) (j : Nat), j ≠ g → (setW g o us w).heap[j]? = w.heap[j]?
  | [], w, _, _ => rfl
  | p :: us, w, j, hj => (setW_other g o us _ j hj).trans (Below.heap_setCell _ _ _ j hj)
theorem setW_same (g o : Nat) : ∀ (us : List (Nat × Value)) (w : World), (setW g o us w).os = w.os ∧ (setW g o us w).tape = w.tape ∧ (setW g o us w).output = w.output
  | [], w => ⟨rfl, rfl, rfl⟩
  | p :: us, w => setW_same g o us _
theorem setW_row {B s n : Nat} {t : TypeId} {g cap : Nat} (a C : List Value) : ∀ (us : List (Nat × Value)) (w : World) (C : List Value), w.ownsRow B t s (.slice (some ⟨g, 0, none⟩) n cap) n (a ++ C) →
    (setW g a.length us w).ownsRow B t s (.slice (some ⟨g, 0, none⟩) n cap) n (a ++ setC us C)
  | [], w, C, h => h
  | p :: us, w, C, h => by
    have h2 := own_set h (a.length + p.1) p.2
    rw [append_set] at h2
    exact setW_row a C us _ _ h2
section
variable {w0 : World} {ta : Option Addr} {tc : Nat} {toks : List Tm} {Z : Nat → Prop} {R i : Nat} {L : List Xp} {w : World}
theorem top_set {g cap : Nat} {x x' : Xp} (h : RS w0 ta tc toks Z R i (.slice (some ⟨g, 0, none⟩) (L.length + 1) cap) (L ++ [x]) w) (us : List (Nat × Value))
    (hx : ∀ C m, StD (OkB Z R (.slice (some ⟨g, 0, none⟩) (L.length + 1) cap)) w (fun w' => IsE m w' C x) → ∃ m', StD (OkB Z R (.slice (some ⟨g, 0, none⟩) (L.length + 1) cap)) w (fun w' => IsE m' w' (setC us C) x'))
    (W : World) (hW : W = setW g (L.length * 10) us w) :
    RS w0 ta tc toks Z R i (.slice (some ⟨g, 0, none⟩) (L.length + 1) cap) (L ++ [x']) W ∧ Fm R (.slice (some ⟨g, 0, none⟩) (L.length + 1) cap) (.slice (some ⟨g, 0, none⟩) (L.length + 1) cap) w W := by
  obtain ⟨Es, hown, hels⟩ := h.stk.els
  obtain ⟨Cs, Ds, rfl, hCl⟩ : ∃ Cs Ds, Es = Cs ++ Ds ∧ Cs.length = L.length := ⟨Es.take L.length, Es.drop L.length, (List.take_append_drop _ _).symm, by rw [List.length_take, hels.1, List.length_append]; omega⟩
  have hDl : Ds.length = 1 := (hels.right hCl).1
  obtain ⟨C, rfl⟩ := List.length_eq_one_iff.1 hDl
  have hten : ∀ C, C ∈ Cs → C.length = 10 := fun C hC => hels.ten C (List.mem_append_left _ hC)
  have hfl : Cs.flatten.length = L.length * 10 := by rw [flat10_len Cs hten, hCl]
  obtain ⟨m, hm⟩ := (hels.right hCl).2 0 C x rfl rfl
  obtain ⟨m', hm'⟩ := hx C m hm
  have hgb := h.glt g rfl
  have hRlt := h.Rlt
  rw [List.length_append, List.length_singleton, List.flatten_append, List.flatten_cons, List.flatten_nil, List.append_nil] at hown
  have hrow := setW_row Cs.flatten C us w C hown
  rw [hfl, ← hW] at hrow
  have hsz : W.heap.size = w.heap.size := by rw [hW]; exact setW_size _ _ _ _
  have hoth : ∀ j, j ≠ g → W.heap[j]? = w.heap[j]? := fun j hj => by rw [hW]; exact setW_other _ _ _ _ j hj
  have hsm := setW_same g (L.length * 10) us w
  rw [← hW] at hsm
  have hgR : R ≠ g := by omega
  have hOk : ∀ j, OkB Z R (.slice (some ⟨g, 0, none⟩) (L.length + 1) cap) j → j ≠ g := fun j hj e => hj.2.1 (by rw [e]; rfl)
  have hmW := hm'.on (w' := W) (E := OkB Z R (.slice (some ⟨g, 0, none⟩) (L.length + 1) cap)) (by omega) fun j h1 h2 => ⟨hoth j (hOk j h2), h2⟩
  have hR := h.hR
  have hb := h.below
  refine ⟨⟨⟨hsm.1.trans hb.os, hsm.2.1.trans hb.tape, hsm.2.2.trans hb.output, by have := hb.size; omega, fun j hj => (hoth j (by omega)).trans (hb.block j hj)⟩, h.hR, h.hi, by have := h.hL; rw [List.length_append, List.length_singleton] at this ⊢; exact this, ?_, ?_⟩, ?_⟩
  · obtain ⟨na, hc⟩ := h.box
    exact ⟨na, hc.of_block (hoth R hgR)⟩
  · refine ⟨Cs ++ [setC us C], by rw [List.length_append, List.length_singleton, List.flatten_append, List.flatten_cons, List.flatten_nil, List.append_nil]; exact hrow, ?_⟩
    exact ((hels.left hCl).on (by omega) fun j h1 h2 => ⟨hoth j (hOk j h2), h2⟩).snoc hmW
  · exact ⟨hsm.1, hsm.2.1, hsm.2.2, by omega, fun j h1 h2 h3 => hoth j (fun e => h3 (by rw [e]; rfl)), .inl rfl⟩
theorem top_cells {g cap : Nat} {x : Xp} (h : RS w0 ta tc toks Z R i (.slice (some ⟨g, 0, none⟩) (L.length + 1) cap) (L ++ [x]) w) : (∀ q, q < 10 → ∃ u, w.cell? ⟨g, L.length * 10 + q, none⟩ = some u) ∧ ∀ q, w.frozen? ⟨g, q, none⟩ = false := by
  obtain ⟨Es, hown, hels⟩ := h.stk.els
  have hfl : Es.flatten.length = (L.length + 1) * 10 := by rw [flat10_len Es hels.ten, hels.1, List.length_append, List.length_singleton]
  rw [List.length_append, List.length_singleton] at hown
  refine ⟨fun q hq => ?_, own_frozen hown⟩
  have hlt : L.length * 10 + q < Es.flatten.length := by omega
  exact ⟨_, own_cell hown (List.getElem?_eq_getElem hlt)⟩
/-- A literal that points to nothing. -/
def litV (k : Int) (t : Bool) (i : Int) (s : ByteArray) : Vl := .mk k t i s [] []
theorem top_lit {g cap : Nat} {k : Int} {n : List UInt8} (h : RS w0 ta tc toks Z R i (.slice (some ⟨g, 0, none⟩) (L.length + 1) cap) (L ++ [.mk k zeroV n [] []]) w) (vk : Int) (vt : Bool) (vi : Int) (vs : ByteArray)
    (hk : -9223372036854775808 ≤ vk ∧ vk ≤ 9223372036854775807) (hi : -9223372036854775808 ≤ vi ∧ vi ≤ 9223372036854775807) (hs : vs.size ≤ 140737488351232) (W : World)
    (hW : W = setW g (L.length * 10) [(2, .int .i64 vk), (3, .bool vt), (4, .int .i64 vi), (5, .string vs), (6, .slice none 0 0), (7, .slice none 0 0)] w) :
    RS w0 ta tc toks Z R i (.slice (some ⟨g, 0, none⟩) (L.length + 1) cap) (L ++ [.mk k (litV vk vt vi vs) n [] []]) W ∧ Fm R (.slice (some ⟨g, 0, none⟩) (L.length + 1) cap) (.slice (some ⟨g, 0, none⟩) (L.length + 1) cap) w W := by
  refine top_set h _ (fun C m hm => ⟨m, hm.imp fun w' hw => ?_⟩) W hW
  obtain ⟨k', n', vk', vt', vi', vs', vl', vks', vav, vc, vkv, vkc, l, ks, av, c, kv, kc, e, rfl, _, g1, g2, g3, g4, g5, hs', hr⟩ := hw
  injection e with e1 e2 e3 e4 e5
  subst e1 e3 e4 e5
  refine ⟨k, n, vk, vt, vi, vs, [], [], none, 0, none, 0, [], [], av, c, kv, kc, rfl, rfl, ⟨0, ?_⟩, g1, g2, g3, g4, g5, hs', hr⟩
  exact ⟨vk, vt, vi, vs, [], [], none, 0, none, 0, rfl, rfl, hk, hi, hs, by simp, by simp, by simp, by simp, by simp, by simp, by simp, fun j hj => by simp at hj, readsV_nil 0 w' none⟩
theorem top_keys {g cap : Nat} {k : Int} {n : List UInt8} {l : List Xp} (h : RS w0 ta tc toks Z R i (.slice (some ⟨g, 0, none⟩) (L.length + 1) cap) (L ++ [.mk k zeroV n l []]) w) (ks : List (List UInt8)) (kv : Option Addr) (kc : Nat)
    (hks : ks.length * 16 ≤ 140737488351232 ∧ ks.length ≤ kc ∧ kc ≤ 9223372036854775807) (hlen : ∀ x, x ∈ ks → x.length ≤ 140737488351232) (hst : StD (OkB Z R (.slice (some ⟨g, 0, none⟩) (L.length + 1) cap)) w fun w' => ReadsStr w' kv ks) (W : World)
    (hW : W = setW g (L.length * 10) [(9, .slice kv ks.length kc)] w) :
    RS w0 ta tc toks Z R i (.slice (some ⟨g, 0, none⟩) (L.length + 1) cap) (L ++ [.mk k zeroV n l ks]) W ∧ Fm R (.slice (some ⟨g, 0, none⟩) (L.length + 1) cap) (.slice (some ⟨g, 0, none⟩) (L.length + 1) cap) w W := by
  refine top_set h _ (fun C m hm => ⟨m, (hm.and hst).imp fun w' hw => ?_⟩) W hW
  obtain ⟨⟨k', n', vk', vt', vi', vs', vl', vks', vav, vc, vkv, vkc, l', ks', av, c, kv', kc', e, rfl, hv, g1, g2, g3, g4, g5, hs', hr⟩, hks2⟩ := hw
  injection e with e1 e2 e3 e4 e5
  subst e1 e3 e4
  exact ⟨k, n, vk', vt', vi', vs', vl', vks', vav, vc, vkv, vkc, l, ks, av, c, kv, kc, by rw [e2], rfl, hv, g1, g2, g3, hks, hlen, hks2, hr⟩
end
end Go.Proofs.YtjehhldboopocaaGreatDoor.Lx
